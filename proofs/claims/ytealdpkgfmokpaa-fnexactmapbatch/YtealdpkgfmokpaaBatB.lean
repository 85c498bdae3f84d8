/-
  What is proved: both BatchOK answer the plain test of a batch (contracts for the walks).
-/
import Derived.Test.YtealdpkgfmokpaaRows
import Derived.Test.YtealdpkgfmokpaaOpB
import Derived.Deep.RegionHeld3
namespace Go.Proofs.Ytealdpkgfmokpaa.BatB
open Go.ChangeShapes Go.WideShapes Go.ChangeAt Go.RowKit
open Sl (Sl Own Off)
open Dev Orm Box3 OpB
set_option linter.unusedVariables false

/-- A transaction that is right; a batch. -/
def TOk (xs : List Bk) : Prop := (1 ≤ xs.length ∧ xs.length ≤ 4) ∧ ∀ x ∈ xs, Ok x
def BOk (bss : List (List Bk)) : Prop := (1 ≤ bss.length ∧ bss.length ≤ 2) ∧ ∀ xs ∈ bss, TOk xs
instance (xs : List Bk) : Decidable (TOk xs) := by unfold TOk; exact inferInstance
instance (bss : List (List Bk)) : Decidable (BOk bss) := by unfold BOk; exact inferInstance

theorem box1 (u : World) (t : TypeId) (a : Value) : ∃ U, u.alloc (.cells #[a] t) = U ∧ Below u.heap.size u U ∧ U.heap.size = u.heap.size + 1 ∧ U.cell? ⟨u.heap.size, 0, none⟩ = some a :=
  ⟨_, rfl, (Below.refl _ u).alloc (Nat.le_refl _) _, by simp, by go_simp⟩
theorem isSome (z m : Int) (w : World) : Calls Try.prog 122 #[.int .i64 z, .int .i64 m] w fun e w' => e = .returned (.bool (decide (1 ≤ z ∧ z ≤ m))) ∧ w' = w := by
  go_enter Try.func122, Try.ntmps122
  go_wp2
  all_goals (go_ret; exact ⟨by congr 2; simp; try omega, rfl⟩)
set_option maxRecDepth 100000 in
theorem litOp (u : World) (x y t : Int) : Calls Try.prog 124 #[.agg #[.int .i64 x, .int .i64 y, .int .i64 t]] u fun e w' => e = .returned (.bool (!decide (Ok (x, y, t)))) ∧ Below u.heap.size u w' := by
  have HI := Lib.hid (fun u => implOk u x y t)
  generalize decide (Ok (x, y, t)) = q at *
  obtain ⟨U, e1, hb, hz, X⟩ := box3 u 159 (.int .i64 x) (.int .i64 y) (.int .i64 t)
  have HB := Lib.hid hb
  obtain ⟨G, eG⟩ : ∃ G, u.heap.size = G := ⟨_, rfl⟩
  rw [eG] at X
  obtain ⟨c0, c1, c2, _, _, _⟩ := X
  clear hb hz
  go_enter Try.func124, Try.ntmps124
  go_wp2_with fail
  clear e1 eG
  refine (HI.out _).mono ?_
  rintro e w1 ⟨rfl, hb⟩
  have HB1 := Lib.hid (HB.out.trans (hb.mono HB.out.size))
  clear hb
  go_wp2_with fail
  go_ret
  exact ⟨rfl, HB1.out⟩

/-- The first k are right. -/
theorem all_take {α : Type} {p : α → Prop} (xs : List α) (d : α) (k : Nat) (h : k < xs.length) (ha : ∀ x ∈ xs.take k, p x) (hp : p (xs.getD k d)) : ∀ x ∈ xs.take (k + 1), p x := by
  intro x hx
  rw [List.take_add_one, List.getElem?_eq_getElem h] at hx
  rcases List.mem_append.1 hx with h1 | h1
  · exact ha x h1
  · rw [List.getD_eq_getElem?_getD, List.getElem?_eq_getElem h] at hp
    have : x = xs[k] := by simpa using h1
    rw [this]
    exact hp
theorem getD_mem {α : Type} (xs : List α) (d : α) (k : Nat) (h : k < xs.length) : xs.getD k d ∈ xs := by
  rw [List.getD_eq_getElem?_getD, List.getElem?_eq_getElem h]
  exact List.getElem_mem h
set_option maxRecDepth 100000 in
set_option maxHeartbeats 800000 in
theorem indexOp (w : World) (v : Value) (xs : List Bk) (h : Sl w 3 v xs.length (bc xs)) :
    Calls Try.prog 145 #[v, .func (.func 124) #[] #[]] w fun e w' => (∃ r : Int, e = .returned (.int .i64 r) ∧ Hid (0 ≤ r ∧ (¬ ∀ x ∈ xs, Ok x) ∨ r < 0 ∧ ∀ x ∈ xs, Ok x)) ∧ Below w.heap.size w w' := by
  obtain ⟨a, cap, rfl, h1, h2, h3⟩ := h
  have H3 := Lib.hid h3
  unfold maxLen at h2
  have HT := Lib.hid (fun k h => all_take (p := Ok) xs (0, 0, 0) k h)
  have HA2 := Lib.hid (show ∀ k : Nat, k < xs.length → ¬ Ok (xs.getD k (0, 0, 0)) → ¬ ∀ x ∈ xs, Ok x from fun k hk hn ha => hn (ha _ (getD_mem xs _ k hk)))
  have HTL := Lib.hid (List.take_length (l := xs))
  clear h3
  obtain ⟨Pr, eP⟩ : ∃ Pr : Prop, (∀ x ∈ xs, Ok x) = Pr := ⟨_, rfl⟩
  have HE := Lib.hid eP
  rw [eP] at HA2 ⊢
  clear eP
  generalize xs.length = n at *
  go_enter Try.func145, Try.ntmps145
  go_wp2
  go_loopw [8] (fun i wz => ∃ (k : Nat) (wr : World), wr = wz ∧ k ≤ n ∧ i = .int .i64 k ∧ Hid (Below w.heap.size w wr ∧ ∀ x ∈ xs.take k, Ok x)) (fun i _ => n - (intOf i).toNat)
  case atStart => exact ⟨0, _, rfl, by omega, rfl, Lib.hid ⟨Below.refl _ _, by simp⟩⟩
  case round =>
    obtain ⟨k, wr, rfl, hk, rfl, HJ⟩ := hrel
    by_cases hlt : k < n
    · obtain ⟨b, o, rfl, hc⟩ := H3.out (by omega)
      have c0 := hc (k * 3) (by omega)
      have c1 := hc (k * 3 + 1) (by omega)
      have c2 := hc (k * 3 + 2) (by omega)
      rw [← HJ.out.1.cell (World.block_lt_of_cell? w _ c0), bc0] at c0
      rw [← HJ.out.1.cell (World.block_lt_of_cell? w _ c1), bc1, ← Nat.add_assoc] at c1
      rw [← HJ.out.1.cell (World.block_lt_of_cell? w _ c2), bc2, ← Nat.add_assoc] at c2
      have HTK := Lib.hid (HT.out k hlt HJ.out.2)
      have HAK := Lib.hid (HA2.out k hlt)
      clear hc
      generalize xs.getD k (0, 0, 0) = y at *
      obtain ⟨y0, y1, y2⟩ := y
      simp only at c0 c1 c2
      go_wp2_with fail
      refine (litOp wr y0 y1 y2).mono ?_
      rintro e w1 ⟨rfl, hb⟩
      have HB := Lib.hid (HJ.out.1.trans (hb.mono HJ.out.1.size))
      clear hb
      by_cases hy : Ok (y0, y1, y2)
      · rw [decide_eq_true hy]
        have HN := Lib.hid (HTK.out hy)
        clear hy
        go_wp2
        go_roundw
        case rel => exact ⟨k + 1, _, rfl, by omega, by go_num, Lib.hid ⟨HB.out, HN.out⟩⟩
        case measure => simp [intOf]; omega
      · rw [decide_eq_false hy]
        have HR := Lib.hid (HAK.out hy)
        clear hy
        go_wp2
        go_ret
        exact ⟨⟨_, rfl, Lib.hid (.inl ⟨by omega, HR.out⟩)⟩, HB.out⟩
    · have HR := Lib.hid (show Pr from by
        rw [← HE.out]
        obtain rfl : k = n := by omega
        have := HJ.out.2
        rwa [HTL.out] at this)
      go_wp2
      go_ret
      exact ⟨⟨_, rfl, Lib.hid (.inr ⟨by omega, HR.out⟩)⟩, HJ.out.1⟩
set_option maxRecDepth 100000 in
theorem containsOp (w : World) (v : Value) (xs : List Bk) (h : Sl w 3 v xs.length (bc xs)) (q : Bool) (hq : q = true ↔ ∀ x ∈ xs, Ok x) :
    Calls Try.prog 123 #[v, .func (.func 124) #[] #[]] w fun e w' => e = .returned (.bool (!q)) ∧ Below w.heap.size w w' := by
  have H := Lib.hid h
  have HQ := Lib.hid hq
  obtain ⟨a, cap, rfl, _, _⟩ := h.form
  clear h hq
  go_enter Try.func123, Try.ntmps123
  go_wp2_with fail
  refine (indexOp _ _ xs H.out).mono ?_
  rintro e w1 ⟨⟨r, rfl, hr⟩, hb⟩
  have HB := Lib.hid hb
  clear hb
  have hd : decide (0 ≤ r) = !q := by
    rcases hr.out with ⟨h1, h2⟩ | ⟨h1, h2⟩
    · rw [decide_eq_true h1]
      cases q with
      | false => rfl
      | true => exact absurd (HQ.out.1 rfl) h2
    · rw [decide_eq_false (by omega), HQ.out.2 h2]; rfl
  have HD := Lib.hid hd
  clear hd hr
  go_wp2_with fail
  all_goals
    go_ret
    refine ⟨?_, HB.out⟩
    rw [← HD.out]
    first | rfl | (congr 2; simp)
set_option maxRecDepth 100000 in
set_option maxHeartbeats 800000 in
theorem right (w : World) (v : Value) (xs : List Bk) (h : Sl w 3 v xs.length (bc xs)) :
    Calls Try.prog 85 #[.agg #[v]] w fun e w' => e = .returned (.bool (decide (TOk xs))) ∧ Below w.heap.size w w' := by
  obtain ⟨U, e1, hb, hz, c0⟩ := box1 w 55 v
  obtain ⟨G, eG⟩ : ∃ G, w.heap.size = G := ⟨_, rfl⟩
  have HB := Lib.hid (show Below G w U from eG ▸ hb)
  have HBW := Lib.hid hb
  have H := Lib.hid (h.below hb)
  rw [eG] at c0
  obtain ⟨a, cap, rfl, _, _⟩ := h.form
  clear h hb hz
  have HS := Lib.hid (fun u => isSome (xs.length : Int) 4 u)
  by_cases h1 : 1 ≤ xs.length ∧ xs.length ≤ 4
  · have e : decide (TOk xs) = decide (∀ x ∈ xs, Ok x) := decide_eq_decide.2 ⟨fun h => h.2, fun h => ⟨h1, h⟩⟩
    rw [e]
    rw [decide_eq_true (show (1 : Int) ≤ xs.length ∧ (xs.length : Int) ≤ 4 by omega)] at HS
    obtain ⟨q, eq⟩ : ∃ q, decide (∀ x ∈ xs, Ok x) = q := ⟨_, rfl⟩
    have HQ := Lib.hid (show q = true ↔ ∀ x ∈ xs, Ok x by rw [← eq]; exact decide_eq_true_iff)
    rw [eq]
    clear e eq h1
    go_enter Try.func85, Try.ntmps85
    go_wp2_with fail
    refine (HS.out _).mono ?_
    rintro e w1 ⟨rfl, rfl⟩
    go_wp2_with fail
    refine (containsOp _ _ xs H.out q HQ.out).mono ?_
    rintro e w2 ⟨rfl, hb⟩
    have HB2 := Lib.hid (HBW.out.trans (hb.mono HBW.out.size))
    clear hb
    go_wp2_with fail
    go_ret
    exact ⟨by simp, HB2.out⟩
  · have e : decide (TOk xs) = false := decide_eq_false (fun h => h1 h.1)
    rw [e]
    rw [decide_eq_false (show ¬ ((1 : Int) ≤ xs.length ∧ (xs.length : Int) ≤ 4) by omega)] at HS
    clear e h1
    go_enter Try.func85, Try.ntmps85
    go_wp2_with fail
    refine (HS.out _).mono ?_
    rintro e w1 ⟨rfl, rfl⟩
    go_wp2_with fail
    go_ret
    exact ⟨rfl, by first | exact HBW.out | exact HB.out⟩
theorem litTxn (u : World) (v : Value) (xs : List Bk) (h : Sl u 3 v xs.length (bc xs)) : Calls Try.prog 132 #[.agg #[v]] u fun e w' => e = .returned (.bool (!decide (TOk xs))) ∧ Below u.heap.size u w' := by
  have HI := Lib.hid (fun u x (hx : Sl u 3 x xs.length (bc xs)) => right u x xs hx)
  generalize decide (TOk xs) = q at *
  obtain ⟨U, e1, hb, hz, c0⟩ := box1 u 55 v
  have HB := Lib.hid hb
  have H := Lib.hid (h.below hb)
  obtain ⟨a, cap, rfl, _, _⟩ := h.form
  obtain ⟨G, eG⟩ : ∃ G, u.heap.size = G := ⟨_, rfl⟩
  rw [eG] at c0
  clear hb hz h
  go_enter Try.func132, Try.ntmps132
  go_wp2_with fail
  clear e1 eG
  refine (HI.out _ _ H.out).mono ?_
  rintro e w1 ⟨rfl, hb⟩
  have HB1 := Lib.hid (HB.out.trans (hb.mono HB.out.size))
  clear hb
  go_wp2_with fail
  go_ret
  exact ⟨rfl, HB1.out⟩
set_option maxRecDepth 100000 in
set_option maxHeartbeats 800000 in
theorem indexTxn (w : World) (v : Value) (bss : List (List Bk)) (h : Ns w v bss) :
    Calls Try.prog 153 #[v, .func (.func 132) #[] #[]] w fun e w' => (∃ r : Int, e = .returned (.int .i64 r) ∧ Hid (0 ≤ r ∧ (¬ ∀ x ∈ bss, TOk x) ∨ r < 0 ∧ ∀ x ∈ bss, TOk x)) ∧ Below w.heap.size w w' := by
  obtain ⟨vs, ⟨a, cap, rfl, h1, h2, h3⟩, hin⟩ := h
  have H3 := Lib.hid h3
  have HI := Lib.hid hin
  unfold maxLen at h2
  have HT := Lib.hid (fun k h => all_take (p := TOk) bss [] k h)
  have HA2 := Lib.hid (show ∀ k : Nat, k < bss.length → ¬ TOk (bss.getD k []) → ¬ ∀ x ∈ bss, TOk x from fun k hk hn ha => hn (ha _ (getD_mem bss _ k hk)))
  have HTL := Lib.hid (List.take_length (l := bss))
  clear h3 hin
  obtain ⟨Pr, eP⟩ : ∃ Pr : Prop, (∀ x ∈ bss, TOk x) = Pr := ⟨_, rfl⟩
  have HE := Lib.hid eP
  rw [eP] at HA2 ⊢
  clear eP
  generalize bss.length = n at *
  go_enter Try.func153, Try.ntmps153
  go_wp2
  go_loopw [8] (fun i wz => ∃ (k : Nat) (wr : World), wr = wz ∧ k ≤ n ∧ i = .int .i64 k ∧ Hid (Below w.heap.size w wr ∧ ∀ x ∈ bss.take k, TOk x)) (fun i _ => n - (intOf i).toNat)
  case atStart => exact ⟨0, _, rfl, by omega, rfl, Lib.hid ⟨Below.refl _ _, by simp⟩⟩
  case round =>
    obtain ⟨k, wr, rfl, hk, rfl, HJ⟩ := hrel
    by_cases hlt : k < n
    · obtain ⟨b, o, rfl, hc⟩ := H3.out (by omega)
      have c0 := hc k (by omega)
      rw [← HJ.out.1.cell (World.block_lt_of_cell? w _ c0)] at c0
      have HV := Lib.hid ((HI.out k hlt).below HJ.out.1)
      have HTK := Lib.hid (HT.out k hlt HJ.out.2)
      have HAK := Lib.hid (HA2.out k hlt)
      clear hc
      generalize bss.getD k [] = xs at *
      obtain ⟨a', cap', e9, _, _⟩ := HV.out.form
      rw [e9] at c0 HV
      go_wp2_with fail
      refine (litTxn wr _ xs HV.out).mono ?_
      rintro e w1 ⟨rfl, hb⟩
      have HB := Lib.hid (HJ.out.1.trans (hb.mono HJ.out.1.size))
      clear hb
      by_cases hy : TOk xs
      · rw [decide_eq_true hy]
        have HN := Lib.hid (HTK.out hy)
        clear hy e9
        go_wp2
        go_roundw
        case rel => exact ⟨k + 1, _, rfl, by omega, by go_num, Lib.hid ⟨HB.out, HN.out⟩⟩
        case measure => simp [intOf]; omega
      · rw [decide_eq_false hy]
        have HR := Lib.hid (HAK.out hy)
        clear hy e9
        go_wp2
        go_ret
        exact ⟨⟨_, rfl, Lib.hid (.inl ⟨by omega, HR.out⟩)⟩, HB.out⟩
    · have HR := Lib.hid (show Pr from by
        rw [← HE.out]
        obtain rfl : k = n := by omega
        have := HJ.out.2
        rwa [HTL.out] at this)
      go_wp2
      go_ret
      exact ⟨⟨_, rfl, Lib.hid (.inr ⟨by omega, HR.out⟩)⟩, HJ.out.1⟩
set_option maxRecDepth 100000 in
theorem containsTxn (w : World) (v : Value) (bss : List (List Bk)) (h : Ns w v bss) (q : Bool) (hq : q = true ↔ ∀ x ∈ bss, TOk x) :
    Calls Try.prog 131 #[v, .func (.func 132) #[] #[]] w fun e w' => e = .returned (.bool (!q)) ∧ Below w.heap.size w w' := by
  have H := Lib.hid h
  have HQ := Lib.hid hq
  obtain ⟨vs, hh, _⟩ := h
  obtain ⟨a, cap, rfl, _, _⟩ := hh.form
  clear hh hq
  go_enter Try.func131, Try.ntmps131
  go_wp2_with fail
  refine (indexTxn _ _ bss H.out).mono ?_
  rintro e w1 ⟨⟨r, rfl, hr⟩, hb⟩
  have HB := Lib.hid hb
  clear hb
  have hd : decide (0 ≤ r) = !q := by
    rcases hr.out with ⟨h1, h2⟩ | ⟨h1, h2⟩
    · rw [decide_eq_true h1]
      cases q with
      | false => rfl
      | true => exact absurd (HQ.out.1 rfl) h2
    · rw [decide_eq_false (by omega), HQ.out.2 h2]; rfl
  have HD := Lib.hid hd
  clear hd hr
  go_wp2_with fail
  all_goals
    go_ret
    refine ⟨?_, HB.out⟩
    rw [← HD.out]
    first | rfl | (congr 2; simp)
set_option maxRecDepth 100000 in
set_option maxHeartbeats 800000 in
theorem implOk (w : World) (v : Value) (bss : List (List Bk)) (h : Ns w v bss) :
    Calls Try.prog 94 #[v] w fun e w' => e = .returned (.bool (decide (BOk bss))) ∧ Below w.heap.size w w' := by
  have H := Lib.hid h
  obtain ⟨vs, hh, _⟩ := h
  obtain ⟨a, cap, rfl, _, hm⟩ := hh.form
  unfold maxLen at hm
  clear hh
  have HS := Lib.hid (fun u => isSome (bss.length : Int) 2 u)
  by_cases h1 : 1 ≤ bss.length ∧ bss.length ≤ 2
  · have e : decide (BOk bss) = decide (∀ x ∈ bss, TOk x) := decide_eq_decide.2 ⟨fun h => h.2, fun h => ⟨h1, h⟩⟩
    rw [e]
    rw [decide_eq_true (show (1 : Int) ≤ bss.length ∧ (bss.length : Int) ≤ 2 by omega)] at HS
    obtain ⟨q, eq⟩ : ∃ q, decide (∀ x ∈ bss, TOk x) = q := ⟨_, rfl⟩
    have HQ := Lib.hid (show q = true ↔ ∀ x ∈ bss, TOk x by rw [← eq]; exact decide_eq_true_iff)
    rw [eq]
    clear e eq h1
    go_enter Try.func94, Try.ntmps94
    go_wp2_with fail
    refine (HS.out _).mono ?_
    rintro e w1 ⟨rfl, rfl⟩
    go_wp2_with fail
    refine (containsTxn _ _ bss H.out q HQ.out).mono ?_
    rintro e w2 ⟨rfl, hb⟩
    have HB2 := Lib.hid hb
    clear hb
    go_wp2_with fail
    go_ret
    exact ⟨by simp, HB2.out⟩
  · have e : decide (BOk bss) = false := decide_eq_false (fun h => h1 h.1)
    rw [e]
    rw [decide_eq_false (show ¬ ((1 : Int) ≤ bss.length ∧ (bss.length : Int) ≤ 2) by omega)] at HS
    clear e h1
    go_enter Try.func94, Try.ntmps94
    go_wp2_with fail
    refine (HS.out _).mono ?_
    rintro e w1 ⟨rfl, rfl⟩
    go_wp2_with fail
    go_ret
    exact ⟨rfl, Below.refl _ _⟩
end Go.Proofs.Ytealdpkgfmokpaa.BatB
