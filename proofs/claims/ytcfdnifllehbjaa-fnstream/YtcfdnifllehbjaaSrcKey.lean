/-
  What is proved: keys, nonces and bytes that are drawn from a code have their lengths; nothing else is written (contracts for the walks of laws that draw).
-/
import Derived.Test.YtcfdnifllehbjaaRows
import Derived.Test.YtcfdnifllehbjaaSrc0
namespace Go.Proofs.Ytcfdnifllehbjaa.SrcKey
open Go.ChangeShapes Go.WideShapes Go.ChangeAt Go.RowKit
open Src (IsRow DrawnN)
set_option linter.unusedVariables false

theorem key (w : World) (b : Nat) (a0 : Option Addr) (len cap : Nat) (pl seed : Int) (h : Src.Is w b a0 len cap pl seed) (hp : pl + 100 ≤ 1000000) :
    Calls Try.prog 16 #[.pointer (some ⟨b, 0, none⟩)] w (Src.TextPost w b a0 len cap pl 32 32 32) := by
  have HB := Lib.hid (show Calls Try.prog 18 #[.pointer (some ⟨b, 0, none⟩), .int .i64 32] w (Src.TextPost w b a0 len cap pl 32 32 32) from Src.bytes 32 (by omega) w b a0 len cap pl seed h (by omega))
  clear h
  go_enter Try.func16, Try.ntmps16
  go_wp2_with fail
  refine HB.out.mono ?_
  rintro e w2 ⟨bs, pl2, seed2, rfl, hb0, hb1, hi, hpl, hg⟩
  have HI := Lib.hid hi
  have HG := Lib.hid hg
  clear hi hg
  go_wp2
  go_ret
  exact ⟨bs, pl2, seed2, rfl, hb0, hb1, HI.out, hpl, HG.out⟩
theorem nonce (w : World) (b : Nat) (a0 : Option Addr) (len cap : Nat) (pl seed : Int) (h : Src.Is w b a0 len cap pl seed) (hp : pl + 100 ≤ 1000000) :
    Calls Try.prog 17 #[.pointer (some ⟨b, 0, none⟩)] w (Src.TextPost w b a0 len cap pl 12 12 12) := by
  have HB := Lib.hid (show Calls Try.prog 18 #[.pointer (some ⟨b, 0, none⟩), .int .i64 12] w (Src.TextPost w b a0 len cap pl 12 12 12) from Src.bytes 12 (by omega) w b a0 len cap pl seed h (by omega))
  clear h
  go_enter Try.func17, Try.ntmps17
  go_wp2_with fail
  refine HB.out.mono ?_
  rintro e w2 ⟨bs, pl2, seed2, rfl, hb0, hb1, hi, hpl, hg⟩
  have HI := Lib.hid hi
  have HG := Lib.hid hg
  clear hi hg
  go_wp2
  go_ret
  exact ⟨bs, pl2, seed2, rfl, hb0, hb1, HI.out, hpl, HG.out⟩
theorem keyOf (w : World) (a : Option Addr) (len cap : Nat) (zs : List Int) (h : IsRow .u8 w a len cap zs) :
    Calls Try.prog 5 #[.slice a len cap] w (DrawnN w 32) := by
  have H := Lib.hid h
  clear h
  go_enter Try.func5, Try.ntmps5
  go_wp2_with fail
  refine (Src.source w a len cap zs H.out).mono ?_
  rintro e w1 ⟨rfl, HS⟩
  go_wp2_with fail
  refine (key _ _ _ _ _ _ _ HS.out.1 (by omega)).mono ?_
  rintro e w2 ⟨bs, pl2, seed2, rfl, hb0, hb1, hi, hpl, hg⟩
  have HG := Lib.hid hg
  clear hi hg
  go_wp2
  go_ret
  exact ⟨bs, rfl, by omega, Src.below_own HS.out.2.1 HG.out (Nat.le_refl _) HS.out.2.1.size⟩
theorem nonceDrawn (w : World) (a : Option Addr) (len cap : Nat) (zs : List Int) (h : IsRow .u8 w a len cap zs) :
    Calls Try.prog 6 #[.slice a len cap] w (DrawnN w 12) := by
  have H := Lib.hid h
  clear h
  go_enter Try.func6, Try.ntmps6
  go_wp2_with fail
  refine (Src.source w a len cap zs H.out).mono ?_
  rintro e w1 ⟨rfl, HS⟩
  go_wp2_with fail
  refine (nonce _ _ _ _ _ _ _ HS.out.1 (by omega)).mono ?_
  rintro e w2 ⟨bs, pl2, seed2, rfl, hb0, hb1, hi, hpl, hg⟩
  have HG := Lib.hid hg
  clear hi hg
  go_wp2
  go_ret
  exact ⟨bs, rfl, by omega, Src.below_own HS.out.2.1 HG.out (Nat.le_refl _) HS.out.2.1.size⟩
theorem bytesOf (w : World) (a : Option Addr) (len cap : Nat) (zs : List Int) (h : IsRow .u8 w a len cap zs) (n : Nat) (hn : n ≤ 65536) :
    Calls Try.prog 7 #[.slice a len cap, .int .i64 (n : Int)] w (DrawnN w n) := by
  have H := Lib.hid h
  clear h
  go_enter Try.func7, Try.ntmps7
  go_wp2_with fail
  refine (Src.source w a len cap zs H.out).mono ?_
  rintro e w1 ⟨rfl, HS⟩
  go_wp2_with fail
  refine (Src.bytes n hn _ _ _ _ _ _ _ HS.out.1 (by omega)).mono ?_
  rintro e w2 ⟨bs, pl2, seed2, rfl, hb0, hb1, hi, hpl, hg⟩
  have HG := Lib.hid hg
  clear hi hg
  go_wp2
  go_ret
  exact ⟨bs, rfl, by omega, Src.below_own HS.out.2.1 HG.out (Nat.le_refl _) HS.out.2.1.size⟩
end Go.Proofs.Ytcfdnifllehbjaa.SrcKey
