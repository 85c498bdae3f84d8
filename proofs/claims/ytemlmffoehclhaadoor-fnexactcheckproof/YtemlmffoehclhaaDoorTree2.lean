/-
  What is proved: the levels of digests over sixteen leaves as plain functions; both sides' faults of a list of leaves are one plain code; the model's leaves and levels (contracts for the walks).
-/
import Derived.Test.YtemlmffoehclhaaDoorRows
import Derived.Test.YtemlmffoehclhaaDoorTree1
import Derived.Test.YtemlmffoehclhaaDoorCop
namespace Go.Proofs.YtemlmffoehclhaaDoor.Tree2
open Go.ChangeShapes Go.WideShapes Go.ChangeAt Go.RowKit
open Sl (Sl Own Off)
open OpenSl (tc nc pc)
open Dev
open Tree1 (leafT joinT leafT_size joinT_size)
set_option linter.unusedVariables false

/-- The digest at place j of level k, over the texts f. -/
def lv (f : Nat → ByteArray) : Nat → Nat → ByteArray
  | 0, j => leafT j (f j)
  | k + 1, j => joinT (lv f k (2 * j)) (lv f k (2 * j + 1))
theorem lv_size (f : Nat → ByteArray) (k j : Nat) : (lv f k j).size = 32 := by
  cases k with
  | zero => exact leafT_size _ _
  | succ k => exact joinT_size _ _
/-- The texts of a list, by their places. -/
def tx (ts : List ByteArray) (j : Nat) : ByteArray := ts.getD j ByteArray.empty
theorem tc_tx (ts : List ByteArray) (j : Nat) : tc ts j = .string (tx ts j) := rfl
/-- A text as a cell. -/
def sc (d : Nat → ByteArray) (j : Nat) : Value := .string (d j)
theorem tc_sc (ts : List ByteArray) : tc ts = sc (tx ts) := rfl

/-- The code of a list of leaves. -/
def ask (ts : List ByteArray) : Int := if 4096 < ts.length then 2 else if ts.length = 16 then (if (ts.all fun t => decide (t.size ≤ 700)) = true then 0 else 8) else 8
theorem ask_long (ts : List ByteArray) (h : 4096 < ts.length) : ask ts = 2 := by unfold ask; rw [if_pos h]
theorem ask_size (ts : List ByteArray) (h : ¬ 4096 < ts.length) (h1 : ¬ ts.length = 16) : ask ts = 8 := by unfold ask; rw [if_neg h, if_neg h1]
theorem ask_bad (ts : List ByteArray) (h : ts.length = 16) (j : Nat) (hj : j < 16) (hs : 700 < (tx ts j).size) : ask ts = 8 := by
  unfold ask
  rw [if_neg (by omega), if_pos h, if_neg]
  intro ha
  have := List.all_eq_true.1 ha _ (LawS.mem_getD (ts := ts) (k := j) (by omega))
  have := of_decide_eq_true this
  unfold tx at hs
  omega
theorem ask_ok (ts : List ByteArray) (h : ts.length = 16) (hs : ∀ j, j < 16 → (tx ts j).size ≤ 700) : ask ts = 0 := by
  unfold ask
  rw [if_neg (by omega), if_pos h, if_pos]
  refine List.all_eq_true.2 fun t ht => ?_
  obtain ⟨j, hj, rfl⟩ := List.getElem_of_mem ht
  have := hs j (by omega)
  unfold tx at this
  rw [List.getD_eq_getElem?_getD, List.getElem?_eq_getElem hj] at this
  exact decide_eq_true this
theorem ask_zero (ts : List ByteArray) (h : ask ts = 0) : ts.length = 16 ∧ ∀ j, (tx ts j).size ≤ 700 := by
  unfold ask at h
  by_cases h1 : 4096 < ts.length
  · rw [if_pos h1] at h; exact absurd h (by decide)
  rw [if_neg h1] at h
  by_cases h2 : ts.length = 16
  · rw [if_pos h2] at h
    by_cases h3 : (ts.all fun t => decide (t.size ≤ 700)) = true
    · refine ⟨h2, fun j => LawS.size_le (fun s hm => ?_) j⟩
      exact of_decide_eq_true (List.all_eq_true.1 h3 s hm)
    · rw [if_neg h3] at h; exact absurd h (by decide)
  · rw [if_neg h2] at h; exact absurd h (by decide)
theorem ask_short (ts : List ByteArray) (h : ¬ 4096 < ts.length) (h2 : ask ts ≠ 0) : ask ts = 8 := by
  by_cases h1 : ts.length = 16
  · unfold ask at h2 ⊢
    rw [if_neg h, if_pos h1] at h2 ⊢
    by_cases h3 : (ts.all fun t => decide (t.size ≤ 700)) = true
    · rw [if_pos h3] at h2; exact absurd rfl h2
    · rw [if_neg h3]
  · exact ask_size ts h h1

set_option maxRecDepth 100000 in
set_option maxHeartbeats 800000 in
theorem leavesFault (w : World) (v : Value) (ts : List ByteArray) (h : Sl w 1 v ts.length (tc ts)) (hs : ∀ s ∈ ts, s.size ≤ maxLen) :
    Calls Tryd.prog 50 #[v] w fun e w' => e = .returned (.int .i64 (ask ts)) ∧ w' = w := by
  obtain ⟨a, cap, rfl, h1, h2, h3⟩ := h
  have HS := Lib.hid (show ∀ j, (tx ts j).size ≤ maxLen from LawS.size_le hs)
  rw [tc_sc] at h3
  have H3 := Lib.hid h3
  clear hs h3
  unfold maxLen at h2 HS
  by_cases g0 : 4096 < ts.length
  · rw [ask_long ts g0]
    generalize ts.length = n at *
    go_enter Tryd.func50, Tryd.ntmps50
    go_wp2
    go_ret
    exact ⟨rfl, rfl⟩
  by_cases g1 : ts.length = 16
  · have A0 := Lib.hid (ask_bad ts g1)
    have A1 := Lib.hid (ask_ok ts g1)
    rw [g1] at H3 h1 ⊢
    generalize ask ts = c at *
    generalize tx ts = f at *
    clear g0 g1
    go_enter Tryd.func50, Tryd.ntmps50
    go_wp2
    go_loopw [15] (fun i wr => ∃ k : Nat, k ≤ 16 ∧ i = .int .i64 k ∧ wr = w ∧ Hid (∀ j, j < k → (f j).size ≤ 700)) (fun i _ => 16 - (intOf i).toNat)
    case atStart => exact ⟨0, by omega, rfl, rfl, Lib.hid fun j hj => by omega⟩
    case round =>
      obtain ⟨k, hk, rfl, rfl, HJ⟩ := hrel
      by_cases hkn : k < 16
      · obtain ⟨b, o, rfl, hc⟩ := H3.out (by omega)
        have c0 := hc k (by omega)
        unfold sc at c0
        have hsz := HS.out k
        have HB := Lib.hid (A0.out k hkn)
        have HJ2 := Lib.hid (show (f k).size ≤ 700 → ∀ j, j < k + 1 → (f j).size ≤ 700 from fun hs j hj => by
          by_cases ej : j = k
          · rw [ej]; exact hs
          · exact HJ.out j (by omega))
        clear hc HS
        generalize f k = s at *
        by_cases hb : 700 < s.size
        · have HC := Lib.hid (HB.out hb)
          go_wp2
          go_ret
          exact ⟨by rw [HC.out]; rfl, rfl⟩
        · go_wp2
          go_roundw
          case rel => exact ⟨k + 1, by omega, by go_num, by trivial, Lib.hid (HJ2.out (by omega))⟩
          case measure => simp [intOf]; omega
      · have HC := Lib.hid (A1.out fun j hj => HJ.out j (by omega))
        go_wp2
        go_ret
        exact ⟨by rw [HC.out]; rfl, rfl⟩
  · rw [ask_size ts g0 g1]
    generalize ts.length = n at *
    have b0 : ((n : Int) != 16) = true := by simp; omega
    clear g1
    go_enter Tryd.func50, Tryd.ntmps50
    go_wp2
    go_ret
    exact ⟨rfl, rfl⟩

set_option maxRecDepth 100000 in
set_option maxHeartbeats 800000 in
theorem l07Ask (w : World) (v : Value) (ts : List ByteArray) (h : Sl w 1 v ts.length (tc ts)) (hs : ∀ s ∈ ts, s.size ≤ maxLen) :
    Calls Tryd.prog 52 #[v] w fun e w' => e = .returned (.int .i64 (ask ts)) ∧ w' = w := by
  obtain ⟨a, cap, rfl, h1, h2, h3⟩ := h
  have HS := Lib.hid (show ∀ j, (tx ts j).size ≤ maxLen from LawS.size_le hs)
  rw [tc_sc] at h3
  have H3 := Lib.hid h3
  clear hs h3
  unfold maxLen at h2 HS
  by_cases g0 : 4096 < ts.length
  · rw [ask_long ts g0]
    generalize ts.length = n at *
    go_enter Tryd.func52, Tryd.ntmps52
    go_wp2
    go_ret
    exact ⟨rfl, rfl⟩
  by_cases g1 : ts.length = 16
  · have A0 := Lib.hid (ask_bad ts g1)
    have A1 := Lib.hid (ask_ok ts g1)
    rw [g1] at H3 h1 ⊢
    generalize ask ts = c at *
    generalize tx ts = f at *
    clear g0 g1
    go_enter Tryd.func52, Tryd.ntmps52
    go_wp2
    go_loopw [3] (fun i wr => ∃ k : Nat, k ≤ 16 ∧ i = .int .i64 k ∧ wr = w ∧ Hid (∀ j, j < k → (f j).size ≤ 700)) (fun i _ => 16 - (intOf i).toNat)
    case atStart => exact ⟨0, by omega, rfl, rfl, Lib.hid fun j hj => by omega⟩
    case round =>
      obtain ⟨k, hk, rfl, rfl, HJ⟩ := hrel
      by_cases hkn : k < 16
      · obtain ⟨b, o, rfl, hc⟩ := H3.out (by omega)
        have c0 := hc k (by omega)
        unfold sc at c0
        have hsz := HS.out k
        have HB := Lib.hid (A0.out k hkn)
        have HJ2 := Lib.hid (show (f k).size ≤ 700 → ∀ j, j < k + 1 → (f j).size ≤ 700 from fun hs j hj => by
          by_cases ej : j = k
          · rw [ej]; exact hs
          · exact HJ.out j (by omega))
        clear hc HS
        generalize f k = s at *
        by_cases hb : 700 < s.size
        · have HC := Lib.hid (HB.out hb)
          go_wp2
          go_ret
          exact ⟨by rw [HC.out]; rfl, rfl⟩
        · go_wp2
          go_roundw
          case rel => exact ⟨k + 1, by omega, by go_num, by trivial, Lib.hid (HJ2.out (by omega))⟩
          case measure => simp [intOf]; omega
      · have HC := Lib.hid (A1.out fun j hj => HJ.out j (by omega))
        go_wp2
        go_ret
        exact ⟨by rw [HC.out]; rfl, rfl⟩
  · rw [ask_size ts g0 g1]
    generalize ts.length = n at *
    have b0 : ((n : Int) != 16) = true := by simp; omega
    clear g1
    go_enter Tryd.func52, Tryd.ntmps52
    go_wp2
    go_ret
    exact ⟨rfl, rfl⟩

theorem cl_succ (c : Nat → Value) (k : Nat) : Cop.cl c (k + 1) = Cop.cl c k ++ [c k] := by simp [Cop.cl, List.range_succ]

set_option maxRecDepth 100000 in
set_option maxHeartbeats 1600000 in
theorem l07Leaves (w : World) (v : Value) (n : Nat) (hn : n ≤ 16) (f : Nat → ByteArray) (hf : ∀ j, (f j).size ≤ 700) (h : Sl w 1 v n (sc f)) :
    Calls Tryd.prog 66 #[v] w fun e w' => ∃ r, e = .returned r ∧ Own w' w.heap.size 1 r n (sc (lv f 0)) ∧ Below w.heap.size w w' := by
  obtain ⟨i0, hi0, hz0, hz1, hz2⟩ := info_parts LawS.info9
  obtain ⟨a, cap, rfl, h1, h2, h3⟩ := h
  have H3 := Lib.hid h3
  clear h3
  unfold maxLen at h2
  have HL := Lib.hid (fun k (hk : k < 16) => Tree1.l07Leaf k hk (f k) (by have := hf k; omega))
  have HC := Lib.hid (show ∀ k, sc (lv f 0) k = .string (leafT k (f k)) from fun _ => rfl)
  generalize sc (lv f 0) = C at *
  have HSN := Lib.hid (cl_succ C)
  have HLN := Lib.hid (Cop.cl_len C)
  have HZ := Lib.hid (show Cop.cl C 0 = [] from rfl)
  have HOWN := Lib.hid (fun (u : World) (v : Value) (k : Nat) (h : u.ownsRow w.heap.size 9 1 v k (Cop.cl C k)) => (Cop.row_own (c := C) (by rw [Nat.mul_one]; exact h) : Own u w.heap.size 1 v k C))
  generalize Cop.cl C = CL at *
  go_enter Tryd.func66, Tryd.ntmps66
  go_wp2
  go_loopw [3, 4] (fun v i wz => ∃ (k : Nat) (wr : World), wr = wz ∧ k ≤ n ∧ i = .int .i64 k ∧ Hid (wr.ownsRow w.heap.size 9 1 v k (CL k)) ∧ Hid (Below w.heap.size w wr)) (fun _ i _ => n - (intOf i).toNat)
  case atStart => exact ⟨0, _, rfl, by omega, rfl, Lib.hid (by rw [HZ.out]; exact World.ownsRow_made w #[] 0 (Nat.le_refl _) (by unfold maxLen; omega) rfl), Lib.hid ((Below.refl _ _).alloc (Nat.le_refl _) _)⟩
  case round =>
  obtain ⟨k, wr, rfl, hk, rfl, R, HB⟩ := hrel
  by_cases hlt : k < n
  · have hk16 : k < 16 := by omega
    have HW := Lib.hid (HL.out k hk16)
    have HS := Lib.hid (show CL (k + 1) = CL k ++ [.string (leafT k (f k))] by rw [HSN.out k, HC.out k])
    obtain ⟨b, o, rfl, hc⟩ := H3.out (by omega)
    have c0 := hc k (by omega)
    rw [← HB.out.cell (World.block_lt_of_cell? w _ c0)] at c0
    unfold sc at c0
    clear hc
    generalize leafT k (f k) = x at *
    generalize f k = s at *
    generalize CL k = cs at *
    go_wp2_with fail
    refine (HW.out _).mono ?_
    rintro e w1 ⟨rfl, hb1⟩
    have HB1 := Lib.hid (HB.out.trans (hb1.mono HB.out.size))
    have R1 := Lib.hid (Cop.row_below R.out hb1)
    have hz1' := Lib.hid HB1.out.size
    clear hb1 HB R c0
    go_wp2_with (at_builtin; refine wpList_append_lies _ rfl _ _ _ rfl w.heap.size 9 i0 _ 1 16 Tryd.underlying36 hi0 hz0 hz1 hz2 rfl (by omega) _ k cs (by rfl) (World.ownsRow.alloc R1.out _) ⟨w1.heap.size, 0, none⟩ 1 1 [.string x] (by rfl) (by rfl) (World.news_of_block (cs := #[.string x]) (t := 9) (fr := (0, 0)) (heap_alloc_new w1 _)) (by simp [Value.oneCell']) (by omega) (by unfold maxLen; omega) (by omega) (by have := hz1'.out; simp; omega) (w1.heap.size + 1) (by simp) ?_; intro gg cap w2 hown1 hgrow hat hlt1; have HO := Lib.hid hown1; have HG := Lib.hid hgrow; clear hown1 hgrow hat hlt1)
    go_roundw
    case rel => exact ⟨k + 1, _, rfl, by omega, by go_num, Lib.hid (by rw [HS.out]; exact HO.out), Lib.hid ((HB1.out.trans ((Below.refl _ _).alloc HB1.out.size _)).grown HG.out (by have := hz1'.out; simp; omega) (fun k hk => (World.ownsRow.lt R1.out k hk).1))⟩
    case measure => simp [intOf]; omega
  · have hfin := Lib.hid (show k = n by omega)
    have HO := Lib.hid (HOWN.out _ _ _ R.out)
    clear R
    go_wp2
    go_ret
    refine ⟨_, rfl, ?_, HB.out⟩
    have := HO.out
    rw [hfin.out] at this
    exact this

set_option maxRecDepth 100000 in
set_option maxHeartbeats 1600000 in
theorem l07Level (w : World) (v : Value) (n m : Nat) (hm : m = 2 * n) (hn : n ≤ 8) (d : Nat → ByteArray) (hd : ∀ j, (d j).size = 32) (h : Sl w 1 v m (sc d)) :
    Calls Tryd.prog 67 #[v] w fun e w' => ∃ r, e = .returned r ∧ Own w' w.heap.size 1 r n (sc fun j => joinT (d (2 * j)) (d (2 * j + 1))) ∧ Below w.heap.size w w' := by
  obtain ⟨i0, hi0, hz0, hz1, hz2⟩ := info_parts LawS.info9
  obtain ⟨a, cap, rfl, h1, h2, h3⟩ := h
  have H3 := Lib.hid h3
  have HM := Lib.hid hm
  have hm16 : m ≤ 16 := by omega
  clear h3 hm
  unfold maxLen at h2
  have HL := Lib.hid (fun p q => Tree1.l07Join (d p) (d q) (hd p) (hd q))
  have HD := Lib.hid hd
  have HC := Lib.hid (show ∀ k, (sc fun j => joinT (d (2 * j)) (d (2 * j + 1))) k = .string (joinT (d (2 * k)) (d (2 * k + 1))) from fun _ => rfl)
  generalize (sc fun j => joinT (d (2 * j)) (d (2 * j + 1))) = C at *
  have HSN := Lib.hid (cl_succ C)
  have HZ := Lib.hid (show Cop.cl C 0 = [] from rfl)
  have HOWN := Lib.hid (fun (u : World) (v : Value) (k : Nat) (h : u.ownsRow w.heap.size 9 1 v k (Cop.cl C k)) => (Cop.row_own (c := C) (by rw [Nat.mul_one]; exact h) : Own u w.heap.size 1 v k C))
  generalize Cop.cl C = CL at *
  clear hd
  go_enter Tryd.func67, Tryd.ntmps67
  go_wp2
  go_loopw [3, 4] (fun v i wz => ∃ (k p : Nat) (wr : World), wr = wz ∧ k ≤ n ∧ i = .int .i64 p ∧ Hid (p = 2 * k) ∧ Hid (wr.ownsRow w.heap.size 9 1 v k (CL k)) ∧ Hid (Below w.heap.size w wr)) (fun _ i _ => 2 * n + 2 - (intOf i).toNat)
  case atStart => exact ⟨0, 0, _, rfl, by omega, rfl, Lib.hid rfl, Lib.hid (by rw [HZ.out]; exact World.ownsRow_made w #[] 0 (Nat.le_refl _) (by unfold maxLen; omega) rfl), Lib.hid ((Below.refl _ _).alloc (Nat.le_refl _) _)⟩
  case round =>
  obtain ⟨k, p, wr, rfl, hk, rfl, HP, R, HB⟩ := hrel
  have hp : p ≤ 16 := by have := HP.out; omega
  by_cases hlt : k < n
  · have hlt2 : (p : Int) + 1 < (m : Int) := by have := HP.out; have := HM.out; omega
    have hlt3 : (p : Int) < (m : Int) := by omega
    have hp0 : (0 : Int) ≤ (p : Int) := by omega
    have HW := Lib.hid (HL.out p (p + 1))
    have HS := Lib.hid (show CL (k + 1) = CL k ++ [.string (joinT (d p) (d (p + 1)))] by rw [HSN.out k, HC.out k, HP.out])
    obtain ⟨b, o, rfl, hc⟩ := H3.out (by omega)
    have c0 := hc p (by have := HM.out; have := HP.out; omega)
    have c1 := hc (p + 1) (by have := HM.out; have := HP.out; omega)
    unfold sc at c0 c1
    clear hc
    generalize joinT (d p) (d (p + 1)) = x at *
    generalize d p = s at *
    generalize d (p + 1) = t at *
    generalize CL k = cs at *
    obtain ⟨p1, ep1⟩ : ∃ p1, p + 1 = p1 := ⟨_, rfl⟩
    rw [ep1] at c1
    have ei : (p : Int) + 1 = (p1 : Int) := by omega
    have hp1 : p1 ≤ 17 := by omega
    have hp10 : (0 : Int) ≤ (p1 : Int) := by omega
    have wp1 : IntKind.i64.wrap (p1 : Int) = p1 := by rw [IntKind.wrap_i64]; omega
    have hlt4 : (p1 : Int) < (m : Int) := by omega
    have HQ := Lib.hid (fun y (hb : Below w.heap.size w y) => (And.intro ((hb.cell (World.block_lt_of_cell? w _ c0)).trans c0) ((hb.cell (World.block_lt_of_cell? w _ c1)).trans c1) : y.cell? ⟨b, o + p, none⟩ = some (.string s) ∧ y.cell? ⟨b, o + p1, none⟩ = some (.string t)))
    clear c0 c1
    obtain ⟨c0, c1⟩ := HQ.out wr HB.out
    clear hlt2 ep1
    go_wp2
    go_region_held3 (fun w' => w'.cell? ⟨b, o + p, none⟩ = some (.string s) ∧ w'.cell? ⟨b, o + p1, none⟩ = some (.string t))
      (first | exact ⟨c0, c1⟩ | exact ⟨e2, e3⟩ | exact ⟨e0, e1⟩ | exact HQ.out _ (HB1.out.alloc HB1.out.size _))
      (first
      | (go_at_call 59; refine (HW.out _).mono ?_; rintro e w1 ⟨rfl, hb⟩; have HB0 : Hid (Below wr.heap.size wr w1) := Lib.hid ⟨hb.os, hb.tape, hb.output, hb.size, hb.block⟩; have HB1 := Lib.hid (HB.out.trans (HB0.out.mono HB.out.size)); have R1 := Lib.hid (Cop.row_below R.out HB0.out); have hz1' := Lib.hid HB1.out.size; obtain ⟨e0, e1⟩ := HQ.out w1 HB1.out; clear hb)
      | (refine step_append_lies _ (by rfl) _ _ _ (by rfl) w.heap.size 9 i0 _ 1 16 Tryd.underlying36 hi0 hz0 hz1 hz2 rfl (by omega) _ k cs (by rfl) (World.ownsRow.alloc R1.out _) ⟨w1.heap.size, 0, none⟩ 1 1 [.string x] (by rfl) (by rfl) (World.news_of_block (cs := #[.string x]) (t := 9) (fr := (0, 0)) (heap_alloc_new w1 _)) (by simp [Value.oneCell']) (by omega) (by unfold maxLen; omega) (by omega) (by have := hz1'.out; simp; omega) (w1.heap.size + 1) (by simp) ?_; intro gg cap w2 hown1 hgrow hat hlt1; have HO := Lib.hid hown1; have HG := Lib.hid hgrow; have HB2 := Lib.hid ((HB1.out.trans ((Below.refl _ _).alloc HB1.out.size _)).grown HG.out (by have := hz1'.out; simp; omega) (fun k hk => (World.ownsRow.lt R1.out k hk).1)); obtain ⟨e2, e3⟩ := HQ.out w2 HB2.out; clear hown1 hgrow hat hlt1))
    all_goals
      clear e0 e1 e2 e3 c0 c1 HB R
      go_wp2
      go_roundw
      case rel => exact ⟨k + 1, p + 2, _, rfl, by omega, by go_num, Lib.hid (by have := HP.out; omega), Lib.hid (by rw [HS.out]; exact HO.out), HB2⟩
      case measure => simp [intOf]; have := HP.out; omega
  · have hfin := Lib.hid (show k = n by omega)
    have hlt2 : ¬ (p : Int) + 1 < (m : Int) := by have := HP.out; have := HM.out; have := hfin.out; omega
    have HO := Lib.hid (HOWN.out _ _ _ R.out)
    clear R
    go_wp2
    go_ret
    refine ⟨_, rfl, ?_, HB.out⟩
    have := HO.out
    rw [hfin.out] at this
    exact this
end Go.Proofs.YtemlmffoehclhaaDoor.Tree2
