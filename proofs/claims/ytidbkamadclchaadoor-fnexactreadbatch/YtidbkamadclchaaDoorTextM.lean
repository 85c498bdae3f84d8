/-
  What is proved: the model's texts of operations, of lists joined, and of batches are the plain ones (contracts for the walks).
-/
import Derived.Test.YtidbkamadclchaaDoorRows
import Derived.Test.YtidbkamadclchaaDoorTxtB
import Derived.Test.YtidbkamadclchaaDoorDig
import Derived.Test.YtidbkamadclchaaDoorCop
import Derived.Test.YtidbkamadclchaaDoorOpenSl
import Derived.Deep.RegionHeld3
import Derived.Deep.AppendLies
namespace Go.Proofs.YtidbkamadclchaaDoor.TextM
open Go.ChangeShapes Go.WideShapes Go.ChangeAt Go.RowKit
open Sl (Sl Own Off)
open OpenSl (tc)
open Dev Orm Box3 OpB BatB Txt TxtB Dig
set_option linter.unusedVariables false

/-- A word as a text. -/
def wB (k : Int) : ByteArray := ⟨(word k).toArray⟩
def bl : ByteArray := ⟨#[32]⟩
theorem wB_size {k : Int} : (wB k).size ≤ 5 := by
  show (word k).toArray.size ≤ 5
  unfold word
  repeat' split
  all_goals decide
def opB (x : Bk) : ByteArray := ⟨(opT x).toArray⟩
theorem opB_bare {x : Bk} (h : Bare x.1) : opB x = wB x.1 ++ bl ++ ds x.2.1.toNat := by
  apply ByteArray.ext
  unfold opB opT parts
  rw [if_pos h, join_cons2, Lib.join_one, ByteArray.data_append, ByteArray.data_append]
  show _ = (word x.1).toArray ++ #[32] ++ (Lib.decDigits x.2.1.toNat).toArray
  simp [dd]
theorem opB_full {x : Bk} (h : ¬ Bare x.1) : opB x = wB x.1 ++ bl ++ ds x.2.1.toNat ++ (bl ++ ds x.2.2.toNat) := by
  apply ByteArray.ext
  unfold opB opT parts
  rw [if_neg h, join_cons2, join_cons2, Lib.join_one, ByteArray.data_append, ByteArray.data_append, ByteArray.data_append, ByteArray.data_append]
  show _ = (word x.1).toArray ++ #[32] ++ (Lib.decDigits x.2.1.toNat).toArray ++ (#[32] ++ (Lib.decDigits x.2.2.toNat).toArray)
  simp [dd]
theorem bl_size : bl.size = 1 := rfl
theorem opB_size {x : Bk} (h : Ok x) : (opB x).size ≤ 43 := by
  have hk := h.2.1
  have hy := ds_size x.2.1.toNat (by omega)
  have hw := wB_size (k := x.1)
  by_cases hb : Bare x.1
  · rw [opB_bare hb, ByteArray.size_append, ByteArray.size_append, bl_size]
    omega
  · have hv : x.2.2 ≤ 999999 := by
      rcases h.2.2 with h | h | h
      · exact absurd h.1 hb
      · exact h.2.2
      · omega
    have hz := ds_size x.2.2.toNat (by omega)
    rw [opB_full hb, ByteArray.size_append, ByteArray.size_append, ByteArray.size_append, ByteArray.size_append, bl_size]
    omega

set_option maxRecDepth 100000 in
theorem l09Words (w : World) : Calls Tryd.prog 42 #[] w fun e w' => ∃ g, e = .returned (.slice (some ⟨g, 0, none⟩) 7 7) ∧ (∀ k : Nat, k < 7 → w'.cell? ⟨g, k, none⟩ = some (.string (wB k))) ∧ w.heap.size ≤ g ∧ Below w.heap.size w w' := by
  have HC := Lib.hid (fun (u : World) (k : Nat) (hk : k < 7) => show (u.alloc (.cells #[.string (wB 0), .string (wB 1), .string (wB 2), .string (wB 3), .string (wB 4), .string (wB 5), .string (wB 6)] 9)).cell? ⟨u.heap.size, k, none⟩ = some (.string (wB k)) from by
    rw [cell_of_row _ u.heap.size k _ _ _ (heap_alloc_new u _)]
    match k, hk with
    | 0, _ => rfl
    | 1, _ => rfl
    | 2, _ => rfl
    | 3, _ => rfl
    | 4, _ => rfl
    | 5, _ => rfl
    | 6, _ => rfl
    | k + 7, h => omega)
  go_enter Tryd.func42, Tryd.ntmps42
  go_wp2
  go_ret
  exact ⟨w.heap.size, rfl, fun k hk => HC.out w k hk, Nat.le_refl _, (Below.refl _ _).alloc (Nat.le_refl _) _⟩

set_option maxRecDepth 100000 in
set_option maxHeartbeats 1600000 in
theorem l09Op (w : World) (k y v : Int) (h : Ok (k, y, v)) :
    Calls Tryd.prog 23 #[.agg #[.int .i64 k, .int .i64 y, .int .i64 v]] w fun e w' => e = .returned (.string (opB (k, y, v))) ∧ Below w.heap.size w w' := by
  have hy := h.1
  have hy2 := h.2.1
  have hkk := ok_kind h
  have HOB := Lib.hid (fun hb => opB_bare (x := (k, y, v)) hb)
  have HOF := Lib.hid (fun hb => opB_full (x := (k, y, v)) hb)
  have hv9 : ¬ Bare k → 0 ≤ v ∧ v ≤ 999999 := fun hb => by
    rcases h.2.2 with h | h | h
    · exact absurd h.1 hb
    · exact h.2
    · have := h.2; simp only at this; omega
  simp only at hy hy2 hkk HOB HOF
  obtain ⟨n, rfl⟩ : ∃ n : Nat, y = n := ⟨y.toNat, by omega⟩
  obtain ⟨j, rfl⟩ : ∃ j : Nat, k = j := ⟨k.toNat, by unfold K6 at hkk; omega⟩
  have hj : j < 7 := by unfold K6 at hkk; omega
  rw [Int.toNat_natCast] at HOB HOF
  have HD := Lib.hid (l00Digits n (by omega))
  have HS := ds_size n (by omega)
  have HWS := wB_size (k := (j : Int))
  have HW := Lib.hid (fun u => l09Words u)
  obtain ⟨U, e1, hb, hz, X⟩ := box3 w 26 (.int .i64 (j : Int)) (.int .i64 (n : Int)) (.int .i64 v)
  obtain ⟨G, eG⟩ : ∃ G, w.heap.size = G := ⟨_, rfl⟩
  have HB := Lib.hid (show Below G w U from eG ▸ hb)
  have HBW := Lib.hid hb
  have HEG := Lib.hid eG
  rw [eG] at X
  have HX := Lib.hid X
  obtain ⟨c0, c1, c2, _, _, _⟩ := X
  clear hb hz h
  have HC := Lib.hid (fun (g : Nat) (u : World) (hh : ∀ k : Nat, k < 7 → u.cell? ⟨g, k, none⟩ = some (.string (wB k))) => hh j hj)
  have hs1 : ¬ 9223372036854775807 < (wB (j : Int)).size + 1 := by omega
  have hs2 : ¬ 9223372036854775807 < (wB (j : Int)).size + 1 + (ds n).size := by omega
  go_enter Tryd.func23, Tryd.ntmps23
  go_upto_region 1 with (fail)
  clear e1 eG
  go_cut [3] from 4 to 28 (fun v3 wx => v3 = .string (wB (j : Int) ++ bl ++ ds n) ∧ Hid (Below U.heap.size U wx))
  case first =>
      go_region_with
        (first
        | (go_at_call 42; refine (HW.out _).mono ?_; rintro e y1 ⟨g, rfl, hcell, hgg, hb1⟩; have HEY : Hid (Below U.heap.size U y1) := Lib.hid (by first | exact HEZ.out.trans (hb1.mono HEZ.out.size) | exact (below_drewN HEZ.out _).trans (hb1.mono (below_drewN HEZ.out _).size) | exact (below_drewN (Below.refl _ _) _).trans hb1 | exact hb1); obtain ⟨e10, e11, _⟩ := HX.out.below HEY.out; have hk1 := HC.out g y1 hcell; clear hb1 hcell hgg)
        | (go_at_call 43; refine (HD.out _).mono ?_; rintro e z1 ⟨rfl, hb1⟩; have HEZ : Hid (Below U.heap.size U z1) := Lib.hid (by first | exact HEY.out.trans (hb1.mono HEY.out.size) | exact (below_drewN HEY.out _).trans (hb1.mono (below_drewN HEY.out _).size) | exact (below_drewN (Below.refl _ _) _).trans hb1 | exact hb1); obtain ⟨e20, e21, _⟩ := HX.out.below HEZ.out; (try have hk2 := (hb1.cell (World.block_lt_of_cell? _ _ hk1)).trans hk1); clear hb1))
      all_goals
        go_wp2_with fail
        go_meet
        refine ⟨rfl, Lib.hid ?_⟩
        first | exact HEZ.out | exact HEY.out | exact below_drewN HEY.out _ | exact below_drewN HEZ.out _
  case rest =>
    obtain ⟨rfl, HBU⟩ := hcut
    clear c0 c1 c2 HW HD HC
    obtain ⟨c0, c1, c2, _⟩ := HX.out.below HBU.out
    have HF0 := Lib.hid (HBW.out.trans (HBU.out.mono HBW.out.size))
    obtain ⟨T, eT⟩ : ∃ T, wB (j : Int) ++ bl ++ ds n = T := ⟨_, rfl⟩
    have hT : T.size ≤ 24 := by rw [← eT, ByteArray.size_append, ByteArray.size_append, bl_size]; omega
    rw [eT] at HOB HOF
    rw [eT]
    clear eT hs1 hs2 HWS
    by_cases h1 : (j : Int) = 1
    · have HR := Lib.hid (HOB.out (.inl h1))
      have d1 : ((j : Int) != 1) = false := by rw [h1]; rfl
      clear h1 HOB HOF hv9 hkk
      go_wp2_with fail
      go_ret
      exact ⟨by rw [HR.out]; rfl, HF0.out⟩
    have d1 : ((j : Int) != 1) = true := bne_iff_ne.2 h1
    by_cases h3 : (j : Int) = 3
    · have HR := Lib.hid (HOB.out (.inr h3))
      have d3 : ((j : Int) != 3) = false := by rw [h3]; rfl
      clear h1 h3 HOB HOF hv9 hkk
      go_wp2_with fail
      go_ret
      exact ⟨by rw [HR.out]; rfl, HF0.out⟩
    have d3 : ((j : Int) != 3) = true := bne_iff_ne.2 h3
    have hnb : ¬ Bare (j : Int) := fun h => by rcases h with h | h; exact h1 h; exact h3 h
    have HR := Lib.hid (HOF.out hnb)
    obtain ⟨m, rfl⟩ : ∃ m : Nat, v = m := ⟨v.toNat, by have := hv9 hnb; omega⟩
    have hm := (hv9 hnb).2
    rw [Int.toNat_natCast] at HR
    have HD := Lib.hid (l00Digits m (by omega))
    have HS2 := ds_size m (by omega)
    clear h1 h3 hnb HOB HOF hv9 hkk
    have t1 : ¬ 9223372036854775807 < 1 + (ds m).size := by omega
    have t2 : ¬ 9223372036854775807 < T.size + (1 + (ds m).size) := by omega
    go_wp2_with fail
    refine (HD.out _).mono ?_
    rintro e w2 ⟨rfl, hb2⟩
    have HF1 := Lib.hid (HF0.out.trans (hb2.mono HF0.out.size))
    clear hb2
    go_wp2_with fail
    go_ret
    exact ⟨by rw [HR.out]; rfl, HF1.out⟩
end Go.Proofs.YtidbkamadclchaaDoor.TextM
