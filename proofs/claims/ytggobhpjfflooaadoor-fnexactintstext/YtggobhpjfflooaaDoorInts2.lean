/-
  What is proved: the model's way from words to their bytes answers the plain value; the exact law on it returns true (the walk), where errors' own variable stands in its place.
-/
import Derived.Test.YtggobhpjfflooaaDoorRows
import Derived.Test.YtggobhpjfflooaaDoorInts
import Derived.Test.YtggobhpjfflooaaDoorFour
namespace Go.Proofs.YtggobhpjfflooaaDoor.Ints2
open Go.ChangeShapes Go.WideShapes Go.ChangeAt Go.RowKit
open Sl (Sl Own Off)
open OpenSl (tc nc pc)
open Bytes (BV Owns)
open Low (b8 b8_length)
open As (Hnd)
open Nonce (l01In)
open Ints
set_option linter.unusedVariables false

theorem l06Int (z : Int) (w : World) : Calls Tryd.prog 56 #[.int .i64 z] w fun e w' => e = .returned (.bool (decide (0 ≤ z ∧ z ≤ 4294967295))) ∧ w' = w := by
  have HI := Lib.hid (l01In z 0 4294967295)
  generalize decide (0 ≤ z ∧ z ≤ 4294967295) = b at *
  go_enter Tryd.func56, Tryd.ntmps56
  go_wp2_with fail
  refine (HI.out _).mono ?_
  rintro e' w1 ⟨rfl, rfl⟩
  go_wp2
  go_ret
  exact ⟨rfl, rfl⟩

set_option maxRecDepth 100000 in
set_option maxHeartbeats 1600000 in
theorem l06Ints (w : World) (v : Value) (zs : List Int) (h : Sl w 1 v zs.length (nc zs)) (hn : zs.length ≤ 4096) (hg : Ints.Good zs) :
    Calls Tryd.prog 57 #[v] w fun e w' => e = .returned (.string ⟨(wl zs zs.length).toArray⟩) ∧ Below w.heap.size w w' := by
  obtain ⟨a, cap, rfl, h1, h2, h3⟩ := h
  have H3 := Lib.hid h3
  clear h3
  unfold maxLen at h2
  have HGD := Lib.hid hg
  unfold Ints.Good at HGD
  have HWL := Lib.hid (wl_length zs)
  have HSN := Lib.hid (show ∀ k, wl zs (k + 1) = wl zs k ++ b8 (wd zs k).toNat 4 from fun _ => rfl)
  have HZ := Lib.hid (show wl zs 0 = [] from rfl)
  have HW := Lib.hid (show ∀ j, nc zs j = .int .i64 (wd zs j) from fun _ => rfl)
  clear hg
  generalize zs.length = n at *
  generalize wd zs = W at *
  generalize wl zs = L at *
  go_enter Tryd.func57, Tryd.ntmps57
  go_wp2
  go_loopw [3, 4] (fun v i wz => ∃ (k : Nat) (wr : World), wr = wz ∧ k ≤ n ∧ i = .int .i64 k ∧ Hid (Owns wr w.heap.size v (L k)) ∧ Hid (Below w.heap.size w wr)) (fun _ i _ => n - (intOf i).toNat)
  case atStart => exact ⟨0, _, rfl, by omega, rfl, Lib.hid (by rw [HZ.out]; exact Bytes.owns_made w w.heap.size 0 #[] (Nat.le_refl _) (by unfold maxLen; omega) rfl), Lib.hid ((Below.refl _ _).alloc (Nat.le_refl _) _)⟩
  case round =>
    obtain ⟨k, wr, rfl, hk, rfl, R, HB⟩ := hrel
    by_cases hlt : k < n
    · obtain ⟨b, o, rfl, hc⟩ := H3.out (by omega)
      have c0 := hc k (by omega)
      rw [← HB.out.cell (World.block_lt_of_cell? w _ c0), HW.out k] at c0
      obtain ⟨x, ex, hx⟩ : ∃ x : Nat, W k = (x : Int) ∧ x < 4294967296 := ⟨(W k).toNat, by have := HGD.out k hlt; omega, by have := HGD.out k hlt; omega⟩
      have HS := Lib.hid (show L (k + 1) = L k ++ Cha.le4 x by rw [HSN.out k, ex, Int.toNat_natCast, Four.le4_b8])
      rw [ex] at c0
      have HA := Lib.hid (fun v (ho : Owns wr w.heap.size v (L k)) => Four.bytes4 w.heap.size v (L k) (by rw [HWL.out k]; omega) x hx wr HB.out.size ho)
      clear hc ex hx
      have i1 : (k : Int) < (n : Int) := by omega
      have i3 : (0 : Int) ≤ (k : Int) := by omega
      go_wp2_with fail
      refine (HA.out _ R.out).mono ?_
      rintro e w2 ⟨v2, rfl, ho⟩
      have HO := Lib.hid ho.out.1
      have HB2 := Lib.hid (HB.out.trans ho.out.2)
      clear ho HA
      go_wp2
      go_roundw
      case rel => exact ⟨k + 1, _, rfl, by omega, by go_num, Lib.hid (by rw [HS.out]; exact HO.out), HB2⟩
      case measure => simp [intOf]; omega
    · have hfin := Lib.hid (show k = n by omega)
      have hconv := R.out.string
      rw [hfin.out] at hconv
      go_wp2
      go_ret
      exact ⟨rfl, HB.out⟩

set_option maxRecDepth 100000 in
set_option maxHeartbeats 1600000 in
theorem spec (w : World) (v : Value) (zs : List Int) (h : Sl w 1 v zs.length (nc zs)) :
    Calls Tryd.prog 26 #[v] w fun e w' => e = .returned (res zs) ∧ Below w.heap.size w w' := by
  have HV := Lib.hid h
  obtain ⟨a, cap, rfl, h1, h2, h3⟩ := h
  have H3 := Lib.hid h3
  clear h3
  unfold maxLen at h2
  unfold res
  by_cases hl : 4096 < zs.length
  · rw [if_pos hl]
    clear HV H3
    generalize zs.length = n at *
    go_enter Tryd.func26, Tryd.ntmps26
    go_wp2
    go_ret2
    exact ⟨rfl, Below.refl _ _⟩
  rw [if_neg hl]
  have HL := Lib.hid (fun (hg : Ints.Good zs) => l06Ints w (.slice a zs.length cap) zs HV.out (by omega) hg)
  have HG := Lib.hid (show Ints.Good zs ↔ ∀ j, j < zs.length → 0 ≤ wd zs j ∧ wd zs j ≤ 4294967295 from Iff.rfl)
  have HW := Lib.hid (show ∀ j, nc zs j = .int .i64 (wd zs j) from fun _ => rfl)
  have d0 : decide (4096 < (zs.length : Int)) = false := decide_eq_false (by omega)
  clear HV
  obtain ⟨r1, er1⟩ : ∃ r : ByteArray, (⟨(wl zs zs.length).toArray⟩ : ByteArray) = r := ⟨_, rfl⟩
  rw [er1] at HL ⊢
  obtain ⟨RES, hres⟩ : ∃ RES : Value, (if Ints.Good zs then Value.tuple #[.string r1, .int .i64 0] else .tuple #[.string ⟨#[]⟩, .int .i64 4]) = RES := ⟨_, rfl⟩
  rw [hres]
  have HRP := Lib.hid (show Ints.Good zs → RES = .tuple #[.string r1, .int .i64 0] from fun h => hres.symm.trans (if_pos h))
  have HRN := Lib.hid (show ¬ Ints.Good zs → RES = .tuple #[.string ⟨#[]⟩, .int .i64 4] from fun h => hres.symm.trans (if_neg h))
  clear hres er1
  generalize Ints.Good zs = G at *
  generalize zs.length = n at *
  generalize wd zs = W at *
  clear hl
  go_enter Tryd.func26, Tryd.ntmps26
  go_wp2
  go_loopw [4] (fun i wr => ∃ k : Nat, k ≤ n ∧ i = .int .i64 k ∧ wr = w ∧ Hid (∀ j, j < k → 0 ≤ W j ∧ W j ≤ 4294967295)) (fun i _ => n - (intOf i).toNat)
  case atStart => exact ⟨0, by omega, rfl, rfl, Lib.hid (fun j hj => by omega)⟩
  case round =>
    obtain ⟨k, hk, rfl, rfl, HK⟩ := hrel
    by_cases hlt : k < n
    · obtain ⟨b, o, rfl, hc⟩ := H3.out (by omega)
      have c0 := hc k (by omega)
      rw [HW.out k] at c0
      obtain ⟨z, ez⟩ : ∃ z, W k = z := ⟨_, rfl⟩
      have EZ := Lib.hid ez
      rw [ez] at c0
      clear hc ez
      have HI := Lib.hid (l06Int z)
      have i1 : (k : Int) < (n : Int) := by omega
      have i3 : (0 : Int) ≤ (k : Int) := by omega
      by_cases hz : 0 ≤ z ∧ z ≤ 4294967295
      · rw [decide_eq_true hz] at HI
        have HZ := Lib.hid (show 0 ≤ W k ∧ W k ≤ 4294967295 by rw [EZ.out]; exact hz)
        clear hz
        go_wp2_with fail
        refine (HI.out _).mono ?_
        rintro e w1 ⟨rfl, rfl⟩
        go_wp2
        go_roundw
        case rel => exact ⟨k + 1, by omega, by go_num, by first | rfl | trivial, Lib.hid (fun j hj => by
          by_cases e : j = k
          · rw [e]; exact HZ.out
          · exact HK.out j (by omega))⟩
        case measure => simp [intOf]; omega
      · rw [decide_eq_false hz] at HI
        have HN := Lib.hid (show ¬ G from fun hg => hz (by have := HG.out.1 hg k hlt; rw [EZ.out] at this; exact this))
        clear hz
        have HR2 := Lib.hid (HRN.out HN.out)
        go_wp2_with fail
        refine (HI.out _).mono ?_
        rintro e w1 ⟨rfl, rfl⟩
        go_wp2
        go_ret2
        exact ⟨by rw [HR2.out]; rfl, Below.refl _ _⟩
    · have hk2 := Lib.hid (show k = n by omega)
      have HGG := Lib.hid (HG.out.2 (fun j hj => HK.out j (by rw [hk2.out]; exact hj)))
      have HR2 := Lib.hid (HRP.out HGG.out)
      go_wp2_with fail
      refine (HL.out HGG.out).mono ?_
      rintro e w1 ⟨rfl, hb⟩
      have HB := Lib.hid hb
      clear hb
      go_wp2
      go_ret2
      exact ⟨by rw [HR2.out]; rfl, HB.out⟩

set_option maxRecDepth 100000 in
set_option maxHeartbeats 1600000 in
theorem walk (w : World) (v : Value) (zs : List Int) (h : Sl w 1 v zs.length (nc zs)) (H : Hnd w) :
    Calls Tryd.prog 9 #[v] w fun e w' => e = .returned (.bool true) ∧ Below w.heap.size w w' := by
  have HV := Lib.hid h
  have HE := Lib.hid H
  obtain ⟨a, cap, rfl, h1, h2, h3⟩ := h
  clear h3 H
  unfold maxLen at h2
  by_cases hl : 1048576 < zs.length
  · clear HV HE
    generalize zs.length = n at *
    go_enter Tryd.func9, Tryd.ntmps9
    go_wp2
    go_ret
    exact ⟨rfl, Below.refl _ _⟩
  have d0 : decide (1048576 < (zs.length : Int)) = false := decide_eq_false (by omega)
  obtain ⟨s, cc, hres⟩ := res_form zs
  have HT := Lib.hid (fun u (hu : Sl u 1 (.slice a zs.length cap) zs.length (nc zs)) => LawN.toIntS u (.slice a zs.length cap) zs hu (by omega))
  have HS := Lib.hid (fun u x hu => spec u x zs hu)
  have HI := Lib.hid (fun u x hu (h : Hnd u) => impl u x zs hu h)
  have HQ := Lib.hid (fun u x y hx hy => LawN.eqIntS u x y zs hx hy)
  rw [hres] at HS HI
  clear hres hl
  generalize zs.length = n at *
  go_enter Tryd.func9, Tryd.ntmps9
  go_wp2_with fail
  refine (HT.out _ HV.out).mono ?_
  rintro e w1 ⟨r1, rfl, ho1, hb1⟩
  have HO1 := Lib.hid ho1
  have HB1 := Lib.hid hb1
  clear ho1 hb1
  go_wp2_with fail
  refine (HS.out _ _ HO1.out.sl).mono ?_
  rintro e w2 ⟨rfl, hb⟩
  have HB2 := Lib.hid (HB1.out.trans (hb.mono HB1.out.size))
  clear hb HB1 HO1
  go_wp2_with fail
  refine (HT.out _ (HV.out.below HB2.out)).mono ?_
  rintro e w3 ⟨r3, rfl, ho3, hb3⟩
  have HO3 := Lib.hid ho3
  have HB3 := Lib.hid (HB2.out.trans (hb3.mono HB2.out.size))
  clear ho3 hb3 HB2
  go_wp2_with fail
  refine (HI.out _ _ HO3.out.sl (HE.out.below HB3.out)).mono ?_
  rintro e w4 ⟨rfl, hb⟩
  have HO4 := Lib.hid (HO3.out.below hb)
  have HB4 := Lib.hid (HB3.out.trans (hb.mono HB3.out.size))
  clear hb HO3 HB3
  go_wp2_with fail
  refine (HT.out _ (HV.out.below HB4.out)).mono ?_
  rintro e w5 ⟨r5, rfl, ho5, hb5⟩
  have HO5 := Lib.hid ho5
  have HO6 := Lib.hid (HO4.out.below hb5)
  have HB5 := Lib.hid (HB4.out.trans (hb5.mono HB4.out.size))
  clear ho5 hb5 HB4 HO4
  go_wp2_with fail
  refine (HQ.out _ _ _ HO6.out.sl HO5.out.sl).mono ?_
  rintro e w6 ⟨rfl, hb⟩
  have HB6 := Lib.hid (HB5.out.trans (hb.mono HB5.out.size))
  clear hb HB5
  go_wp2
  go_ret
  exact ⟨rfl, HB6.out⟩
theorem cellsI : Tryd.prog.cellsOf 3 = 1 := by kernel_rfl
set_option maxRecDepth 100000 in
theorem walk_any {H : Type} {enc : TypeId × Value → H} {W : World} {base b0 : Nat} {spare : Nat → Bool} {held : Bool} {u : Value} {d : DataW H} {p : List MemPlace}
    (o : Value.okWide Tryd.prog W .any b0 34 u) (h : DataW.Trod enc Tryd.prog W base spare held 34 u d p) (HN : Hnd W) :
    Calls Tryd.prog 9 #[u] W fun e w' => e = .returned (.bool true) ∧ Below W.heap.size W w' := by
  obtain ⟨a, l, c, rfl⟩ := okWide_slice Tryd.underlying34 o
  obtain ⟨fuel, hf⟩ := h
  obtain ⟨zs, hzs, _⟩ := OpenSl.numbers Tryd.underlying34 Tryd.underlying3 cellsI hf
  exact walk W _ zs hzs HN
end Go.Proofs.YtggobhpjfflooaaDoor.Ints2
