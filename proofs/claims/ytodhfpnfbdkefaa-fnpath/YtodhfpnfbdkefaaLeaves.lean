/-
  What is proved: the leaves that are drawn out of a code are so many numbers from 0 to 7, of the call's own; two lists that are alike are told to be (contracts for the walks).
-/
import Derived.Test.YtodhfpnfbdkefaaRows
import Derived.Test.YtodhfpnfbdkefaaSrc
import Derived.Test.YtodhfpnfbdkefaaLawN
import Derived.Test.YtodhfpnfbdkefaaCop
namespace Go.Proofs.Ytodhfpnfbdkefaa.Leaves
open Go.ChangeShapes Go.WideShapes Go.ChangeAt Go.RowKit
open Sl (Sl Own Off)
open OpenSl (tc nc pc)
open Dev Cop
open Src
set_option linter.unusedVariables false

def nl (fs : List Int) : List Value := fs.map (Value.int .i64)
theorem nl_get (fs : List Int) (j : Nat) (h : j < fs.length) : (nl fs)[j]? = some (nc fs j) := by
  simp [nl, nc, List.getD_eq_getElem?_getD, List.getElem?_eq_getElem h]

set_option maxRecDepth 100000 in
set_option maxHeartbeats 1600000 in
theorem drawLeaves (n : Nat) (hn : n ≤ 100) (w : World) (b : Nat) (a0 : Option Addr) (len cap : Nat) (pl seed : Int) (h : Is w b a0 len cap pl seed) (hp : pl ≤ 900000) :
    Calls Try.prog 65 #[.pointer (some ⟨b, 0, none⟩), .int .i64 n] w fun e w' => ∃ v fs, e = .returned v ∧ (fs.length = n ∧ ∀ x ∈ fs, 0 ≤ x ∧ x < 8) ∧ Own w' w.heap.size 1 v fs.length (nc fs) ∧ w.grownBy w' (some b) := by
  obtain ⟨i0, hi0, hz0, hz1, hz2⟩ := info_parts LawN.info3
  have HI := Lib.hid h
  have HLT := Lib.hid (show b < w.heap.size from cell_lt h.c1)
  have HCB := Lib.hid (show ∀ bb off, a0 = some ⟨bb, off, none⟩ → 0 < len → bb < w.heap.size from fun bb off e hl => by
    obtain ⟨bb2, off2, z, e2, _, _, _, hz⟩ := h.code 0 hl
    rw [e] at e2
    simp at e2
    have := cell_lt hz
    rw [e2.1]; exact this)
  clear h
  go_enter Try.func65, Try.ntmps65
  go_wp2
  have HI0 := Lib.hid (HI.out.far (World.grownBy_alloc w (Obj.cells #[] 3) none) (fun k hk => by cases hk))
  have HR0 := Lib.hid (World.ownsRow_made (base := w.heap.size) (e := 3) (size := 1) w #[] 0 (Nat.le_refl _) (by unfold maxLen; omega) (by simp))
  go_loopw [5, 6] (fun v i wr => ∃ (k : Nat) (fs : List Int) (pl' seed' : Int), k ≤ n ∧ i = .int .i64 k ∧ Hid (fs.length = k ∧ ∀ x ∈ fs, 0 ≤ x ∧ x < 8) ∧ Hid (wr.ownsRow w.heap.size 3 1 v fs.length (nl fs)) ∧ Hid (Is wr b a0 len cap pl' seed') ∧ pl' ≤ pl + k ∧ Hid (w.grownBy wr (some b))) (fun _ i _ => n - (intOf i).toNat)
  case atStart => exact ⟨0, [], pl, seed, by omega, rfl, Lib.hid ⟨rfl, fun x hx => by cases hx⟩, HR0, HI0, by simp, Lib.hid (World.grownBy_alloc w _ _)⟩
  case round =>
    rename_i wr
    obtain ⟨k, fs, pl', seed', hk, rfl, HF, R, HI2, hpl, HG⟩ := hrel
    have hsz := Lib.hid HG.out.size
    by_cases hlt : k < n
    · go_wp2_with fail
      refine (next 8 (by omega) (by omega) _ _ _ _ _ _ _ HI2.out (by omega)).mono ?_
      rintro e w2 ⟨q, pl2, seed2, rfl, r0, r1, hi, hpl2, hg⟩
      have HQ := Lib.hid (And.intro r0 r1)
      have HI3 := Lib.hid hi
      have HG3 := Lib.hid hg
      have R2 := Lib.hid (World.ownsRow.kept R.out hg (by
        right
        intro e
        have := (World.ownsRow.lt R.out b e).1
        have := HLT.out
        omega))
      have hsz2 := Lib.hid hg.size
      have hfl : fs.length ≤ 100 := by rw [HF.out.1]; omega
      clear hi hg
      go_wp2_with (at_builtin; refine wpList_append_lies _ rfl _ _ _ rfl w.heap.size 3 i0 _ 1 8 Try.underlying23 hi0 hz0 hz1 hz2 rfl (by omega) _ fs.length (nl fs) (by rfl) (World.ownsRow.alloc R2.out _) ⟨w2.heap.size, 0, none⟩ 1 1 [.int .i64 q] (by rfl) (by rfl) (World.news_of_block (cs := #[.int .i64 q]) (t := 3) (fr := (0, 0)) (heap_alloc_new w2 _)) (by simp [Value.oneCell']) (by omega) (by unfold maxLen; omega) (by omega) (by have := hsz.out; have := hsz2.out; simp; omega) (w2.heap.size + 1) (by simp) ?_; intro gg cap w3 hown1 hgrow hat hlt1; have HO := Lib.hid hown1; have HG4 := Lib.hid hgrow; clear hown1 hgrow hat hlt1)
      go_roundw
      case rel =>
        have hrow : ∀ k, Value.ownBlock _ = some k → w.heap.size ≤ k := fun k hk => (World.ownsRow.lt R.out k hk).1
        have hfar : ∀ j, Value.ownBlock _ = some j → j ≠ b ∧ (0 < len → ∀ bb off, a0 = some ⟨bb, off, none⟩ → j ≠ bb) := fun j hj => by
            have h1 := hrow j hj
            have h2 := HLT.out
            refine ⟨by omega, fun hz bb off e => ?_⟩
            have := HCB.out bb off e hz
            omega
        have HI4 := Is.far HI3.out (World.grownBy_alloc w2 (.cells #[.int .i64 q] 3) none) (fun k hk => by cases hk)
        exact ⟨k + 1, fs ++ [q], pl2, seed2, by omega, by go_num, Lib.hid ⟨by simp [HF.out.1], fun x hx => by
          rcases List.mem_append.1 hx with h | h
          · exact HF.out.2 x h
          · obtain rfl := List.mem_singleton.1 h
            exact HQ.out⟩, Lib.hid (by
          have := HO.out
          rw [show nl (fs ++ [q]) = nl fs ++ [.int .i64 q] by simp [nl], List.length_append]
          exact this), Lib.hid (Is.far HI4 HG4.out hfar), by omega, Lib.hid (grown_then (grown_then (grown_then HG.out HG3.out (fun j hj => .inr rfl)) (World.grownBy_alloc w2 _ none) (fun j hj => by cases hj)) HG4.out (fun j hj => .inl (hrow j hj)))⟩
      case measure => simp [intOf]; omega
    · have hk2 := Lib.hid (show k = n by omega)
      go_wp2
      go_ret
      exact ⟨_, fs, rfl, ⟨HF.out.1.trans hk2.out, HF.out.2⟩, own_of_row R.out (nc fs) (fun j hj => nl_get fs j (by omega)), HG.out⟩

set_option maxRecDepth 100000 in
theorem drawsOf (n : Nat) (hn : n ≤ 100) (w : World) (a : Option Addr) (len cap : Nat) (zs : List Int) (h : IsRow .u8 w a len cap zs) :
    Calls Try.prog 25 #[.slice a len cap, .int .i64 n] w fun e w' => ∃ v fs, e = .returned v ∧ (fs.length = n ∧ ∀ x ∈ fs, 0 ≤ x ∧ x < 8) ∧ Own w' w.heap.size 1 v fs.length (nc fs) ∧ Below w.heap.size w w' := by
  have H := Lib.hid h
  clear h
  go_enter Try.func25, Try.ntmps25
  go_wp2_with fail
  refine (source w a len cap zs H.out).mono ?_
  rintro e w1 ⟨rfl, HS⟩
  go_wp2_with fail
  refine (drawLeaves n hn _ _ _ _ _ _ _ HS.out.1 (by omega)).mono ?_
  rintro e w2 ⟨v, fs, rfl, hf, ho, hg⟩
  have HO := Lib.hid (ho.base (base' := w.heap.size) HS.out.2.1.size)
  have HG := Lib.hid hg
  have HF := Lib.hid hf
  clear ho hg hf
  go_wp2
  go_ret
  exact ⟨_, fs, rfl, HF.out, HO.out, HS.out.2.1.trans ⟨HG.out.os, HG.out.tape, HG.out.output, HG.out.size, fun k hk => HG.out.block k (by have := HS.out.2.2; omega) (by simp; omega)⟩⟩

set_option maxRecDepth 100000 in
set_option maxHeartbeats 800000 in
theorem sameInts (w : World) (u v : Value) (zs : List Int) (hu : Sl w 1 u zs.length (nc zs)) (hv : Sl w 1 v zs.length (nc zs)) :
    Calls Try.prog 56 #[u, v] w fun e w' => e = .returned (.bool true) ∧ Below w.heap.size w w' := by
  obtain ⟨a, cap, rfl, h1, h2, h3⟩ := hu
  obtain ⟨a', cap', rfl, h1', h2', h3'⟩ := hv
  have H3 := Lib.hid h3
  have H3' := Lib.hid h3'
  clear h3 h3'
  unfold maxLen at h2 h2'
  generalize zs.length = n at *
  go_enter Try.func56, Try.ntmps56
  go_wp2
  go_loopw [5] (fun i wr => ∃ k m : Nat, k ≤ n ∧ i = .int .i64 k ∧ wr = w.drewN m) (fun i _ => n - (intOf i).toNat)
  case atStart => exact ⟨0, 0, by omega, rfl, rfl⟩
  case round =>
    obtain ⟨k, m, hk, rfl, rfl⟩ := hrel
    by_cases hlt : k < n
    · obtain ⟨b, o, rfl, hc⟩ := H3.out (by omega)
      obtain ⟨b', o', rfl, hc'⟩ := H3'.out (by omega)
      have c0 := hc k (by omega)
      have c1 := hc' k (by omega)
      unfold nc at c0 c1
      clear hc hc'
      generalize zs.getD k 0 = s at *
      go_wp2
      go_quiet (fail)
      go_wp2
      go_roundw
      case rel => exact ⟨k + 1, _, by omega, by go_num, rfl⟩
      case measure => simp [intOf]; omega
    · go_wp2
      go_ret
      exact ⟨rfl, below_drewN (Below.refl _ _) m⟩
end Go.Proofs.Ytodhfpnfbdkefaa.Leaves
