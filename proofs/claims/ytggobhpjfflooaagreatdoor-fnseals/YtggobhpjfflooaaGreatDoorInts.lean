/-
  What is proved: both ways from words to their bytes answer one plain value (contracts for the walks), where errors' own variable stands in its place.
-/
import Derived.Test.YtggobhpjfflooaaGreatDoorRows
import Derived.Test.YtggobhpjfflooaaGreatDoorNonce
import Derived.Test.YtggobhpjfflooaaGreatDoorLawN
namespace Go.Proofs.YtggobhpjfflooaaGreatDoor.Ints
open Go.ChangeShapes Go.WideShapes Go.ChangeAt Go.RowKit
open Sl (Sl Own Off)
open OpenSl (tc nc pc)
open Bytes (BV Owns)
open Low (b8 b8_length)
open As (pv Hnd)
open Nonce (code_hit code_nil l01In)
set_option linter.unusedVariables false

/-- Word number j. -/
def wd (zs : List Int) (j : Nat) : Int := zs.getD j 0
/-- All of a list are words. -/
def Good (zs : List Int) : Prop := ∀ j, j < zs.length → 0 ≤ wd zs j ∧ wd zs j ≤ 4294967295
instance (zs : List Int) : Decidable (Good zs) := by unfold Good; infer_instance
/-- The bytes of the first k words. -/
def wl (zs : List Int) : Nat → List UInt8
  | 0 => []
  | k + 1 => wl zs k ++ b8 (wd zs k).toNat 4
theorem wl_length (zs : List Int) : ∀ k, (wl zs k).length = 4 * k
  | 0 => rfl
  | k + 1 => by show (wl zs k ++ _).length = _; rw [List.length_append, wl_length zs k, b8_length]; omega
/-- What both IntsText answer. -/
def res (zs : List Int) : Value := if 4096 < zs.length then .tuple #[.string ⟨#[]⟩, .int .i64 2] else if Good zs then .tuple #[.string ⟨(wl zs zs.length).toArray⟩, .int .i64 0] else .tuple #[.string ⟨#[]⟩, .int .i64 4]
theorem res_form (zs : List Int) : ∃ (s : ByteArray) (c : Int), res zs = .tuple #[.string s, .int .i64 c] := by
  unfold res
  split
  · exact ⟨_, _, rfl⟩
  · split
    · exact ⟨_, _, rfl⟩
    · exact ⟨_, _, rfl⟩

set_option maxRecDepth 100000 in
set_option maxHeartbeats 800000 in
theorem wordsFault (w : World) (v : Value) (zs : List Int) (h : Sl w 1 v zs.length (nc zs)) :
    Calls Tryz.prog 29 #[v] w fun e w' => (∃ ev, e = .returned ev ∧ ((4096 < zs.length ∧ ev = pv 4096 2) ∨ (zs.length ≤ 4096 ∧ ¬ Good zs ∧ ∃ i, ev = pv i 4) ∨ (zs.length ≤ 4096 ∧ Good zs ∧ ev = .nilIface))) ∧ w = w' := by
  obtain ⟨a, cap, rfl, h1, h2, h3⟩ := h
  have H3 := Lib.hid h3
  clear h3
  unfold maxLen at h2
  have HG := Lib.hid (show Good zs ↔ ∀ j, j < zs.length → 0 ≤ wd zs j ∧ wd zs j ≤ 4294967295 from Iff.rfl)
  have HW := Lib.hid (show ∀ j, nc zs j = .int .i64 (wd zs j) from fun _ => rfl)
  generalize Good zs = G at *
  generalize zs.length = n at *
  generalize wd zs = W at *
  by_cases hl : 4096 < n
  · go_enter Tryz.func29, Tryz.ntmps29
    go_wp2
    go_ret
    exact ⟨⟨_, rfl, .inl ⟨hl, rfl⟩⟩, rfl⟩
  have d0 : decide (4096 < (n : Int)) = false := decide_eq_false (by omega)
  have hn : n ≤ 4096 := by omega
  clear hl
  go_enter Tryz.func29, Tryz.ntmps29
  go_wp2
  go_loopw [12] (fun i wr => ∃ k : Nat, k ≤ n ∧ i = .int .i64 k ∧ wr = w ∧ Hid (∀ j, j < k → 0 ≤ W j ∧ W j ≤ 4294967295)) (fun i _ => n - (intOf i).toNat)
  case atStart => exact ⟨0, by omega, rfl, rfl, Lib.hid (fun j hj => by omega)⟩
  case round =>
    obtain ⟨k, hk, rfl, rfl, HK⟩ := hrel
    by_cases hlt : k < n
    · obtain ⟨b, o, rfl, hc⟩ := H3.out (by omega)
      have c0 := hc k (by omega)
      rw [HW.out k] at c0
      have HWK := Lib.hid (show ∀ P : Int → Prop, P (W k) → P (W k) from fun _ h => h)
      obtain ⟨z, ez⟩ : ∃ z, W k = z := ⟨_, rfl⟩
      have EZ := Lib.hid ez
      rw [ez] at c0
      clear hc ez HWK
      have i1 : (k : Int) < (n : Int) := by omega
      have i3 : (0 : Int) ≤ (k : Int) := by omega
      by_cases z0 : z < 0
      · have e0 : decide (z < 0) = true := decide_eq_true z0
        have HN := Lib.hid (show ¬ G from fun hg => by have := HG.out.1 hg k hlt; rw [EZ.out] at this; omega)
        clear z0
        go_wp2
        go_ret
        exact ⟨⟨_, rfl, .inr (.inl ⟨hn, HN.out, _, rfl⟩)⟩, rfl⟩
      · have e0 : decide (z < 0) = false := decide_eq_false z0
        by_cases z1 : 4294967295 < z
        · have e1 : decide (4294967295 < z) = true := decide_eq_true z1
          have HN := Lib.hid (show ¬ G from fun hg => by have := HG.out.1 hg k hlt; rw [EZ.out] at this; omega)
          clear z0 z1
          go_wp2
          go_ret
          exact ⟨⟨_, rfl, .inr (.inl ⟨hn, HN.out, _, rfl⟩)⟩, rfl⟩
        · have e1 : decide (4294967295 < z) = false := decide_eq_false z1
          have HZ := Lib.hid (show 0 ≤ W k ∧ W k ≤ 4294967295 by rw [EZ.out]; omega)
          clear z0 z1
          go_wp2
          go_roundw
          case rel => exact ⟨k + 1, by omega, by go_num, by first | rfl | trivial, Lib.hid (fun j hj => by
            by_cases e : j = k
            · rw [e]; exact HZ.out
            · exact HK.out j (by omega))⟩
          case measure => simp [intOf]; omega
    · have hk2 := Lib.hid (show k = n by omega)
      go_wp2
      go_ret
      exact ⟨⟨_, rfl, .inr (.inr ⟨hn, HG.out.2 (fun j hj => HK.out j (by rw [hk2.out]; exact hj)), rfl⟩)⟩, rfl⟩

set_option maxRecDepth 100000 in
set_option maxHeartbeats 1600000 in
theorem impl (w : World) (v : Value) (zs : List Int) (h : Sl w 1 v zs.length (nc zs)) (H : Hnd w) :
    Calls Tryz.prog 13 #[v] w fun e w' => e = .returned (res zs) ∧ Below w.heap.size w w' := by
  have HF := Lib.hid (wordsFault w v zs h)
  have HH := Lib.hid H
  obtain ⟨a, cap, rfl, h1, h2, h3⟩ := h
  have H3 := Lib.hid h3
  clear h3 H
  unfold maxLen at h2
  obtain ⟨i0, hi0, hz0, hz1, hz2⟩ := info_parts Bytes.info5
  unfold res
  by_cases hl : 4096 < zs.length
  · rw [if_pos hl]
    have HF1 := Lib.hid (show Calls Tryz.prog 29 #[.slice a zs.length cap] w fun e w' => e = .returned (pv 4096 2) ∧ w = w' from HF.out.mono (by
      rintro e w' ⟨⟨ev, rfl, hc⟩, rfl⟩
      rcases hc with ⟨_, rfl⟩ | ⟨h, _⟩ | ⟨h, _⟩
      · exact ⟨rfl, rfl⟩
      · omega
      · omega))
    have HC := Lib.hid (code_hit 4096 2 w HH.out)
    clear hl HF
    go_enter Tryz.func13, Tryz.ntmps13
    go_wp2_with fail
    refine (HF1.out).mono ?_
    rintro e w1 ⟨rfl, rfl⟩
    go_wp2_with fail
    refine (HC.out).mono ?_
    rintro e w1 ⟨rfl, hb⟩
    have HB := Lib.hid hb
    clear hb
    go_wp2
    go_ret2
    exact ⟨rfl, HB.out⟩
  rw [if_neg hl]
  by_cases hg : Good zs
  case neg =>
    rw [if_neg hg]
    have HF1 := Lib.hid (show Calls Tryz.prog 29 #[.slice a zs.length cap] w fun e w' => (∃ i, e = .returned (pv i 4)) ∧ w = w' from HF.out.mono (by
      rintro e w' ⟨⟨ev, rfl, hc⟩, rfl⟩
      rcases hc with ⟨h, _⟩ | ⟨_, _, i, rfl⟩ | ⟨_, h, _⟩
      · omega
      · exact ⟨⟨i, rfl⟩, rfl⟩
      · exact absurd h hg))
    have HC := Lib.hid (fun i => code_hit i 4 w HH.out)
    clear hl hg HF
    go_enter Tryz.func13, Tryz.ntmps13
    go_wp2_with fail
    refine (HF1.out).mono ?_
    rintro e w1 ⟨⟨i, rfl⟩, rfl⟩
    go_wp2_with fail
    refine (HC.out i).mono ?_
    rintro e w1 ⟨rfl, hb⟩
    have HB := Lib.hid hb
    clear hb
    go_wp2
    go_ret2
    exact ⟨rfl, HB.out⟩
  case pos =>
    rw [if_pos hg]
    have HF1 := Lib.hid (show Calls Tryz.prog 29 #[.slice a zs.length cap] w fun e w' => e = .returned .nilIface ∧ w = w' from HF.out.mono (by
      rintro e w' ⟨⟨ev, rfl, hc⟩, rfl⟩
      rcases hc with ⟨h, _⟩ | ⟨_, h, _⟩ | ⟨_, _, rfl⟩
      · omega
      · exact absurd hg h
      · exact ⟨rfl, rfl⟩))
    clear HF
    have HGD := Lib.hid hg
    unfold Good at HGD
    have HWL := Lib.hid (wl_length zs)
    have HSN := Lib.hid (show ∀ k, wl zs (k + 1) = wl zs k ++ b8 (wd zs k).toNat 4 from fun _ => rfl)
    have HZ := Lib.hid (show wl zs 0 = [] from rfl)
    have HW := Lib.hid (show ∀ j, nc zs j = .int .i64 (wd zs j) from fun _ => rfl)
    clear hg HH
    generalize zs.length = n at *
    generalize wd zs = W at *
    generalize wl zs = L at *
    have e4 : (4 : Int) * (n : Int) = ((4 * n : Nat) : Int) := by omega
    have hmk : ∀ u, (Instr.makeSlice 22 (.int .i64 0) (.int .i64 (4 * (n : Int)))).run Tryz.prog u =
        .ok (.slice (some ⟨u.heap.size, 0, none⟩) 0 (4 * n)) (u.alloc (.cells (madeCells #[.int .u8 0] (4 * n)) 5)) := fun u => by
      have h := run_make (P := Tryz.prog) u 22 5 i0 (.int .u8 0) Tryz.underlying22 hi0 hz0 .i64 .i64 0 (4 * (n : Int)) (by omega) (by omega) (by rw [hz2]; omega) (by omega)
      have e : (4 * (n : Int)).toNat = 4 * n := by omega
      rw [e] at h
      simpa [hz1, Value.cells] using h
    have hms := Lib.hid (size_madeCells #[.int .u8 0] (4 * n))
    generalize madeCells #[.int .u8 0] (4 * n) = mc at hmk hms
    clear e4
    go_enter Tryz.func13, Tryz.ntmps13
    go_wp2_with fail
    refine (HF1.out).mono ?_
    rintro e w1 ⟨rfl, rfl⟩
    go_wp2_with fail
    clear hmk HF1
    go_loopw [5, 20] (fun v i wz => ∃ (k : Nat) (wr : World), wr = wz ∧ k ≤ n ∧ i = .int .i64 k ∧ Hid (Owns wr w.heap.size v (L k)) ∧ Hid (Below w.heap.size w wr)) (fun _ i _ => n - (intOf i).toNat)
    case atStart => exact ⟨0, _, rfl, by omega, rfl, Lib.hid (by rw [HZ.out]; exact Bytes.owns_made w w.heap.size (4 * n) mc (Nat.le_refl _) (by unfold maxLen; omega) hms.out), Lib.hid ((Below.refl _ _).alloc (Nat.le_refl _) _)⟩
    case round =>
      obtain ⟨k, wr, rfl, hk, rfl, R, HB⟩ := hrel
      by_cases hlt : k < n
      · obtain ⟨b, o, rfl, hc⟩ := H3.out (by omega)
        have c0 := hc k (by omega)
        rw [← HB.out.cell (World.block_lt_of_cell? w _ c0), HW.out k] at c0
        obtain ⟨x, ex, hx⟩ : ∃ x : Nat, W k = (x : Int) ∧ x ≤ 4294967295 := ⟨(W k).toNat, by have := HGD.out k hlt; omega, by have := HGD.out k hlt; omega⟩
        have HS := Lib.hid (show L (k + 1) = L k ++ b8 x 4 by rw [HSN.out k, ex, Int.toNat_natCast])
        rw [ex] at c0
        have HA := Lib.hid (fun v (ho : Owns wr w.heap.size v (L k)) => Low.appendLow x 4 (by omega) (by omega) v (L k) (by rw [HWL.out k]; omega) wr w.heap.size HB.out.size ho)
        clear hc ex hx
        have i1 : (k : Int) < (n : Int) := by omega
        have i3 : (0 : Int) ≤ (k : Int) := by omega
        go_wp2_with fail
        refine (HA.out _ R.out).mono ?_
        rintro e w2 ⟨v2, rfl, ho, hb⟩
        have HO := Lib.hid ho
        have HB2 := Lib.hid (HB.out.trans hb)
        clear ho hb HA
        go_wp2
        go_roundw
        case rel => exact ⟨k + 1, _, rfl, by omega, by go_num, Lib.hid (by rw [HS.out]; exact HO.out), HB2⟩
        case measure => simp [intOf]; omega
      · have hfin := Lib.hid (show k = n by omega)
        have hconv := R.out.string
        rw [hfin.out] at hconv
        go_wp2
        go_ret2
        exact ⟨rfl, HB.out⟩
end Go.Proofs.YtggobhpjfflooaaGreatDoor.Ints
