/-
  What is proved: a key, a nonce and bytes that are drawn from a code have their lengths; nothing else is written (contracts for the walks of laws that draw).
-/
import Derived.Test.YtcfdnifllehbjaaDoorRows
import Derived.Test.YtcfdnifllehbjaaDoorSrc
namespace Go.Proofs.YtcfdnifllehbjaaDoor.SrcKeyT
open Go.ChangeShapes Go.WideShapes Go.ChangeAt Go.RowKit
open Src (IsRow)
set_option linter.unusedVariables false

/-- What n bytes that are drawn from a code are. -/
def DrawnN (w : World) (n : Nat) (e : Ending) (w' : World) : Prop := ∃ bs : List UInt8, e = .returned (.string ⟨bs.toArray⟩) ∧ bs.length = n ∧ Below w.heap.size w w'

theorem below_own {w w1 w2 : World} {b : Nat} (h1 : Below w.heap.size w w1) (hg : w1.grownBy w2 (some b)) (hb : w.heap.size ≤ b) (hs : w.heap.size ≤ w1.heap.size) : Below w.heap.size w w2 :=
  h1.trans ⟨hg.os, hg.tape, hg.output, hg.size, fun k hk => hg.block k (by omega) (by simp; omega)⟩
theorem key (w : World) (b : Nat) (a0 : Option Addr) (len cap : Nat) (pl seed : Int) (h : Src.Is w b a0 len cap pl seed) (hp : pl + 100 ≤ 1000000) :
    Calls Tryd.prog 19 #[.pointer (some ⟨b, 0, none⟩)] w (Src.TextPost w b a0 len cap pl 32 32 32) := by
  have HB := Lib.hid (show Calls Tryd.prog 21 #[.pointer (some ⟨b, 0, none⟩), .int .i64 32] w (Src.TextPost w b a0 len cap pl 32 32 32) from Src.bytes 32 (by omega) w b a0 len cap pl seed h (by omega))
  clear h
  go_enter Tryd.func19, Tryd.ntmps19
  go_wp2_with fail
  refine HB.out.mono ?_
  rintro e w2 ⟨bs, pl2, seed2, rfl, hb0, hb1, hi, hpl, hg⟩
  have HI := Lib.hid hi
  have HG := Lib.hid hg
  clear hi hg
  go_wp2
  go_ret
  exact ⟨bs, pl2, seed2, rfl, hb0, hb1, HI.out, hpl, HG.out⟩
theorem keyOf (w : World) (a : Option Addr) (len cap : Nat) (zs : List Int) (h : IsRow .u8 w a len cap zs) :
    Calls Tryd.prog 7 #[.slice a len cap] w (DrawnN w 32) := by
  have H := Lib.hid h
  clear h
  go_enter Tryd.func7, Tryd.ntmps7
  go_wp2_with fail
  refine (Src.source w a len cap zs H.out).mono ?_
  rintro e w1 ⟨rfl, HS⟩
  go_wp2_with fail
  refine (key _ _ _ _ _ _ _ HS.out.1 (by omega)).mono ?_
  rintro e w2 ⟨bs, pl2, seed2, rfl, hb0, hb1, hi, hpl, hg⟩
  have HG := Lib.hid hg
  clear hi hg
  go_wp2
  go_ret
  exact ⟨bs, rfl, by omega, below_own HS.out.2.1 HG.out (Nat.le_refl _) HS.out.2.1.size⟩
theorem nonce (w : World) (b : Nat) (a0 : Option Addr) (len cap : Nat) (pl seed : Int) (h : Src.Is w b a0 len cap pl seed) (hp : pl + 100 ≤ 1000000) :
    Calls Tryd.prog 20 #[.pointer (some ⟨b, 0, none⟩)] w (Src.TextPost w b a0 len cap pl 12 12 12) := by
  have HB := Lib.hid (show Calls Tryd.prog 21 #[.pointer (some ⟨b, 0, none⟩), .int .i64 12] w (Src.TextPost w b a0 len cap pl 12 12 12) from Src.bytes 12 (by omega) w b a0 len cap pl seed h (by omega))
  clear h
  go_enter Tryd.func20, Tryd.ntmps20
  go_wp2_with fail
  refine HB.out.mono ?_
  rintro e w2 ⟨bs, pl2, seed2, rfl, hb0, hb1, hi, hpl, hg⟩
  have HI := Lib.hid hi
  have HG := Lib.hid hg
  clear hi hg
  go_wp2
  go_ret
  exact ⟨bs, pl2, seed2, rfl, hb0, hb1, HI.out, hpl, HG.out⟩
theorem nonceDrawn (w : World) (a : Option Addr) (len cap : Nat) (zs : List Int) (h : IsRow .u8 w a len cap zs) :
    Calls Tryd.prog 8 #[.slice a len cap] w (DrawnN w 12) := by
  have H := Lib.hid h
  clear h
  go_enter Tryd.func8, Tryd.ntmps8
  go_wp2_with fail
  refine (Src.source w a len cap zs H.out).mono ?_
  rintro e w1 ⟨rfl, HS⟩
  go_wp2_with fail
  refine (nonce _ _ _ _ _ _ _ HS.out.1 (by omega)).mono ?_
  rintro e w2 ⟨bs, pl2, seed2, rfl, hb0, hb1, hi, hpl, hg⟩
  have HG := Lib.hid hg
  clear hi hg
  go_wp2
  go_ret
  exact ⟨bs, rfl, by omega, below_own HS.out.2.1 HG.out (Nat.le_refl _) HS.out.2.1.size⟩
theorem bytesOf (w : World) (a : Option Addr) (len cap : Nat) (zs : List Int) (h : IsRow .u8 w a len cap zs) (n : Nat) (hn : n ≤ 65536) :
    Calls Tryd.prog 9 #[.slice a len cap, .int .i64 (n : Int)] w (DrawnN w n) := by
  have H := Lib.hid h
  clear h
  go_enter Tryd.func9, Tryd.ntmps9
  go_wp2_with fail
  refine (Src.source w a len cap zs H.out).mono ?_
  rintro e w1 ⟨rfl, HS⟩
  go_wp2_with fail
  refine (Src.bytes n hn _ _ _ _ _ _ _ HS.out.1 (by omega)).mono ?_
  rintro e w2 ⟨bs, pl2, seed2, rfl, hb0, hb1, hi, hpl, hg⟩
  have HG := Lib.hid hg
  clear hi hg
  go_wp2
  go_ret
  exact ⟨bs, rfl, by omega, below_own HS.out.2.1 HG.out (Nat.le_refl _) HS.out.2.1.size⟩
end Go.Proofs.YtcfdnifllehbjaaDoor.SrcKeyT
