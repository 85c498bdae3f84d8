/-
  What is proved: plain facts on the texts of operations, transactions and batches: they are read back (nothing of the program).
-/
import Derived.Test.YtidbkamadclchaaDoorRows
import Derived.Test.YtidbkamadclchaaDoorTxt
import Derived.Test.YtidbkamadclchaaDoorBatB
namespace Go.Proofs.YtidbkamadclchaaDoor.TxtB
open Orm OpB BatB Txt
set_option linter.unusedVariables false

/-- The word of a kind. -/
def word (k : Int) : B := if k = 1 then [103, 101, 116] else if k = 2 then [112, 117, 116] else if k = 3 then [100, 114, 111, 112] else if k = 4 then [99, 104, 101, 99, 107] else if k = 5 then [97, 100, 100] else if k = 6 then [115, 99, 97, 110] else []
def K6 (k : Int) : Prop := k = 1 ∨ k = 2 ∨ k = 3 ∨ k = 4 ∨ k = 5 ∨ k = 6
theorem ok_kind {x : Bk} (h : Ok x) : K6 x.1 := by
  have := h.2.2
  unfold Bare Cell at this
  unfold K6
  omega
/-- The words of an operation. -/
def parts (x : Bk) : List B := if Bare x.1 then [word x.1, dd x.2.1] else [word x.1, dd x.2.1, dd x.2.2]
def opT (x : Bk) : B := Lib.join (parts x) [32]
def txnT (xs : List Bk) : B := Lib.join (xs.map opT) [59, 32]
def batT (bss : List (List Bk)) : B := Lib.join (bss.map txnT) [32, 124, 32]
/-- A byte of a word: no blank, no cut. -/
def Pl (c : UInt8) : Prop := c ≠ 32 ∧ c ≠ 59 ∧ c ≠ 124
theorem word_pl {k : Int} (h : K6 k) : word k ≠ [] ∧ ∀ c ∈ word k, Pl c := by
  rcases h with rfl | rfl | rfl | rfl | rfl | rfl <;> exact ⟨by decide, by unfold Pl; decide⟩
theorem dd_pl (n : Int) : dd n ≠ [] ∧ ∀ c ∈ dd n, Pl c := by
  refine ⟨dec_ne _, fun c hc => ?_⟩
  have := dec_digit _ c hc
  unfold IsD at this
  refine ⟨?_, ?_, ?_⟩ <;> (rintro rfl; revert this; decide)
theorem word_inj {a b : Int} (ha : K6 a) (hb : K6 b) (h : word a = word b) : a = b := by
  rcases ha with rfl | rfl | rfl | rfl | rfl | rfl <;> rcases hb with rfl | rfl | rfl | rfl | rfl | rfl <;> first | rfl | (exfalso; revert h; decide)
theorem parts_pl {x : Bk} (h : K6 x.1) : ∀ p ∈ parts x, p ≠ [] ∧ ∀ c ∈ p, Pl c := by
  unfold parts
  intro p hp
  split at hp
  · rcases List.mem_cons.1 hp with rfl | hp
    · exact word_pl h
    · rw [List.mem_singleton] at hp
      rw [hp]
      exact dd_pl _
  · rcases List.mem_cons.1 hp with rfl | hp
    · exact word_pl h
    · rcases List.mem_cons.1 hp with rfl | hp
      · exact dd_pl _
      · rw [List.mem_singleton] at hp
        rw [hp]
        exact dd_pl _
theorem parts_wd {x : Bk} (h : K6 x.1) : ∀ p ∈ parts x, Wd p := fun p hp => ⟨(parts_pl h p hp).1, fun hm => ((parts_pl h p hp).2 _ hm).1 rfl⟩
theorem parts_inj {x y : Bk} (hx : Ok x) (hy : Ok y) (h : parts x = parts y) : x = y := by
  obtain ⟨k, a, v⟩ := x
  obtain ⟨k', a', v'⟩ := y
  have ex := ok_kind hx
  have ey := ok_kind hy
  obtain ⟨x1, x2, x3⟩ := hx
  obtain ⟨y1, y2, y3⟩ := hy
  simp only at ex ey x1 x2 x3 y1 y2 y3
  unfold parts at h
  simp only at h
  by_cases hb : Bare k
  · rw [if_pos hb] at h
    by_cases hb' : Bare k'
    · rw [if_pos hb'] at h
      injection h with h1 h
      injection h with h2 h
      have e1 := word_inj ex ey h1
      have e2 := dd_inj (by omega) (by omega) h2
      have e3 : v = 0 := by unfold Bare at hb; unfold Cell at x3; unfold Bare at x3; omega
      have e4 : v' = 0 := by unfold Bare at hb'; unfold Cell at y3; unfold Bare at y3; omega
      rw [e1, e2, e3, e4]
    · rw [if_neg hb'] at h
      have := congrArg List.length h
      simp at this
  · rw [if_neg hb] at h
    by_cases hb' : Bare k'
    · rw [if_pos hb'] at h
      have := congrArg List.length h
      simp at this
    · rw [if_neg hb'] at h
      injection h with h1 h
      injection h with h2 h
      injection h with h3 h
      have e1 := word_inj ex ey h1
      have e2 := dd_inj (by omega) (by omega) h2
      have hv : 0 ≤ v := by unfold Cell Bare at x3; omega
      have hv' : 0 ≤ v' := by unfold Cell Bare at y3; omega
      rw [e1, e2, dd_inj hv hv' h3]
theorem wds_op {x : Bk} (h : K6 x.1) : wds (opT x) = parts x := wds_join _ (parts_wd h)
/-- Bytes of a join: of a piece or of the cut. -/
theorem join_mem (sep : B) : ∀ (ps : List B) (c : UInt8), c ∈ Lib.join ps sep → c ∈ sep ∨ ∃ p ∈ ps, c ∈ p
  | [], c, h => by cases h
  | [x], c, h => by rw [Lib.join_one] at h; exact .inr ⟨x, List.mem_cons_self, h⟩
  | x :: y :: r, c, h => by
    rw [join_cons2] at h
    rcases List.mem_append.1 h with h | h
    · rcases List.mem_append.1 h with h | h
      · exact .inr ⟨x, List.mem_cons_self, h⟩
      · exact .inl h
    · rcases join_mem sep (y :: r) c h with h | ⟨p, hp, hc⟩
      · exact .inl h
      · exact .inr ⟨p, List.mem_cons_of_mem _ hp, hc⟩
theorem op_byte {x : Bk} (h : K6 x.1) : ∀ c ∈ opT x, c ≠ 59 ∧ c ≠ 124 := by
  intro c hc
  rcases join_mem _ _ _ hc with h1 | ⟨p, hp, h1⟩
  · rw [List.mem_singleton] at h1
    subst h1
    decide
  · exact ((parts_pl h p hp).2 c h1).2
/-- What is read: pieces between bars, pieces of them between semicolons, words. -/
def opsOf (t : B) : List (List B) := (cut 59 t).map wds
def tok (t : B) : List (List (List B)) := (cut 124 t).map opsOf
theorem ops_blank (t : B) : opsOf (32 :: t) = opsOf t := by
  unfold opsOf cut
  obtain ⟨p, ps, h1, h2⟩ := cutA_cur 59 t [32] []
  show (cutA 59 ([] ++ [32]) t).map wds = _
  rw [List.nil_append]
  rw [List.append_nil] at h2
  rw [h1, h2]
  show wds (32 :: p) :: _ = _
  rw [wds_blank]
  rfl
theorem cutA_tail (c : UInt8) (hc : ¬ (32 : UInt8) = c) : ∀ (t cur : B), (cutA c cur (t ++ [32])).map wds = (cutA c cur t).map wds
  | [], cur => by
    show (if (32 : UInt8) = c then cur :: cutA c [] [] else cutA c (cur ++ [32]) []).map wds = [wds cur]
    rw [if_neg hc]
    show [wds (cur ++ [32])] = _
    rw [wds_tail]
  | x :: t, cur => by
    show (if x = c then cur :: cutA c [] (t ++ [32]) else cutA c (cur ++ [x]) (t ++ [32])).map wds = (if x = c then cur :: cutA c [] t else cutA c (cur ++ [x]) t).map wds
    split
    · rw [List.map_cons, List.map_cons, cutA_tail c hc t]
    · exact cutA_tail c hc t _
theorem ops_tail (t : B) : opsOf (t ++ [32]) = opsOf t := cutA_tail 59 (by decide) t []
theorem ops_txn : ∀ xs : List Bk, xs ≠ [] → (∀ x ∈ xs, K6 x.1) → opsOf (txnT xs) = xs.map parts
  | [], h, _ => absurd rfl h
  | [x], _, h => by
    show opsOf (Lib.join [opT x] [59, 32]) = [parts x]
    rw [Lib.join_one]
    unfold opsOf cut
    rw [cutA_last 59 _ _ (fun hm => (op_byte (h x List.mem_cons_self) _ hm).1 rfl)]
    show [wds (opT x)] = _
    rw [wds_op (h x List.mem_cons_self)]
  | x :: y :: r, _, h => by
    show opsOf (Lib.join (opT x :: opT y :: r.map opT) [59, 32]) = parts x :: (y :: r).map parts
    rw [join_cons2, List.append_assoc]
    show (cut 59 (opT x ++ 59 :: 32 :: Lib.join (opT y :: r.map opT) [59, 32])).map wds = _
    unfold cut
    rw [cutA_hit 59 _ _ _ (fun hm => (op_byte (h x List.mem_cons_self) _ hm).1 rfl), List.map_cons, List.nil_append, wds_op (h x List.mem_cons_self)]
    have e : (cutA 59 [] (32 :: Lib.join (opT y :: r.map opT) [59, 32])).map wds = opsOf (txnT (y :: r)) := ops_blank _
    rw [e, ops_txn (y :: r) (by simp) (fun z hz => h z (List.mem_cons_of_mem _ hz))]
theorem txn_byte {xs : List Bk} (h : ∀ x ∈ xs, K6 x.1) : ∀ c ∈ txnT xs, c ≠ 124 := by
  intro c hc
  rcases join_mem _ _ _ hc with h1 | ⟨p, hp, h1⟩
  · intro e
    subst e
    revert h1
    decide
  · obtain ⟨x, hx, rfl⟩ := List.mem_map.1 hp
    exact (op_byte (h x hx) c h1).2
/-- A batch's text is read back, piece by piece. -/
theorem tok_bat : ∀ bss : List (List Bk), bss ≠ [] → (∀ xs ∈ bss, xs ≠ [] ∧ ∀ x ∈ xs, K6 x.1) → tok (batT bss) = bss.map (·.map parts)
  | [], h, _ => absurd rfl h
  | [xs], _, h => by
    show tok (Lib.join [txnT xs] [32, 124, 32]) = [xs.map parts]
    rw [Lib.join_one]
    unfold tok cut
    rw [cutA_last 124 _ _ (fun hm => txn_byte (h xs List.mem_cons_self).2 _ hm rfl)]
    show [opsOf (txnT xs)] = _
    rw [ops_txn xs (h xs List.mem_cons_self).1 (h xs List.mem_cons_self).2]
  | xs :: ys :: r, _, h => by
    show tok (Lib.join (txnT xs :: txnT ys :: r.map txnT) [32, 124, 32]) = xs.map parts :: (ys :: r).map (·.map parts)
    rw [join_cons2, List.append_assoc]
    have e0 : txnT xs ++ ([32, 124, 32] ++ Lib.join (txnT ys :: r.map txnT) [32, 124, 32]) = (txnT xs ++ [32]) ++ 124 :: 32 :: Lib.join (txnT ys :: r.map txnT) [32, 124, 32] := by simp
    rw [e0]
    unfold tok cut
    rw [cutA_hit 124 _ _ _ (fun hm => by
      rcases List.mem_append.1 hm with h1 | h1
      · exact txn_byte (h xs List.mem_cons_self).2 _ h1 rfl
      · revert h1; decide), List.map_cons, List.nil_append, ops_tail, ops_txn xs (h xs List.mem_cons_self).1 (h xs List.mem_cons_self).2]
    have e : (cutA 124 [] (32 :: Lib.join (txnT ys :: r.map txnT) [32, 124, 32])).map opsOf = tok (batT (ys :: r)) := by
      obtain ⟨p, ps, h1, h2⟩ := cutA_cur 124 (Lib.join (txnT ys :: r.map txnT) [32, 124, 32]) [32] []
      show (cutA 124 ([] ++ [32]) (Lib.join (txnT ys :: r.map txnT) [32, 124, 32])).map opsOf = (cutA 124 [] (Lib.join (txnT ys :: r.map txnT) [32, 124, 32])).map opsOf
      rw [List.append_nil] at h2
      rw [List.nil_append, h1, h2]
      show opsOf (32 :: p) :: _ = _
      rw [ops_blank]
      rfl
    rw [e, tok_bat (ys :: r) (by simp) (fun z hz => h z (List.mem_cons_of_mem _ hz))]
theorem bok_shape {bss : List (List Bk)} (h : BOk bss) : bss ≠ [] ∧ ∀ xs ∈ bss, xs ≠ [] ∧ ∀ x ∈ xs, K6 x.1 :=
  ⟨fun e => by have := h.1.1; rw [e] at this; simp at this, fun xs hx => ⟨fun e => by have := (h.2 xs hx).1.1; rw [e] at this; simp at this, fun x hm => ok_kind ((h.2 xs hx).2 x hm)⟩⟩
theorem map_inj {α β : Type} {f : α → β} : ∀ (a b : List α), (∀ x ∈ a, ∀ y ∈ b, f x = f y → x = y) → a.map f = b.map f → a = b
  | [], [], _, _ => rfl
  | [], _ :: _, _, h => by cases h
  | _ :: _, [], _, h => by cases h
  | x :: a, y :: b, hf, h => by
    injection h with h1 h2
    rw [hf x List.mem_cons_self y List.mem_cons_self h1, map_inj a b (fun u hu v hv => hf u (List.mem_cons_of_mem _ hu) v (List.mem_cons_of_mem _ hv)) h2]
theorem tok_inj {a b : List (List Bk)} (ha : BOk a) (hb : BOk b) (h : a.map (·.map parts) = b.map (·.map parts)) : a = b :=
  map_inj a b (fun x hx y hy e => map_inj x y (fun u hu v hv e => parts_inj ((ha.2 x hx).2 u hu) ((hb.2 y hy).2 v hv) e) e) h
/-- Right batches of one text are alike. -/
theorem bat_inj {a b : List (List Bk)} (ha : BOk a) (hb : BOk b) (h : batT a = batT b) : a = b :=
  tok_inj ha hb (by rw [← tok_bat a (bok_shape ha).1 (bok_shape ha).2, h, tok_bat b (bok_shape hb).1 (bok_shape hb).2])
end Go.Proofs.YtidbkamadclchaaDoor.TxtB
