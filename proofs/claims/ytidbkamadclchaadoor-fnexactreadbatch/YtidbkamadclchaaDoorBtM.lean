/-
  What is proved: plain facts on how a batch's text is read, piece by piece; what is said of a world in the midst of it, and what each step leaves (laws for the walks).
-/
import Derived.Test.YtidbkamadclchaaDoorRows
import Derived.Test.YtidbkamadclchaaDoorCutM
import Derived.Test.YtidbkamadclchaaDoorToOpM
import Derived.Test.YtidbkamadclchaaDoorBatB
import Derived.Test.YtidbkamadclchaaDoorLawB
namespace Go.Proofs.YtidbkamadclchaaDoor.BtM
open Go.ChangeShapes Go.WideShapes Go.ChangeAt Go.RowKit
open Sl (Sl Own Off)
open OpenSl (tc)
open Dev Orm Box3 OpB BatB Txt TxtB TxtR OtB
open Cop (cl cl_get cl_len row_below)
set_option linter.unusedVariables false

/-- What a batch's text tells. -/
def TB (K : List (List (List B))) (bss : List (List Bk)) (q : Bool) : Prop := (q = true → BOk bss ∧ bss.map (·.map parts) = K) ∧ ∀ cs : List (List Bk), BOk cs → cs.map (·.map parts) = K → q = true
theorem tb_no {K : List (List (List B))} {k : List (List B)} {ws : List B} (h1 : k ∈ K) (h2 : ws ∈ k) (h : ∀ y, ¬ Rt ws y) (bss : List (List Bk)) : TB K bss false := by
  refine ⟨fun e => (by cases e), fun cs hc e => ?_⟩
  exfalso
  rw [← e] at h1
  obtain ⟨xs, hx, rfl⟩ := List.mem_map.1 h1
  obtain ⟨x, hm, rfl⟩ := List.mem_map.1 h2
  exact h x ⟨(hc.2 xs hx).2 x hm, rfl⟩
theorem tb_end {K : List (List (List B))} {bss : List (List Bk)} (h : bss.map (·.map parts) = K) (ho : ∀ xs ∈ bss, ∀ x ∈ xs, Ok x) : TB K bss (decide (BOk bss)) := by
  refine ⟨fun e => ⟨of_decide_eq_true e, h⟩, fun cs hc e => decide_eq_true ?_⟩
  have : cs = bss := map_inj cs bss (fun x hx y hy e2 => map_inj x y (fun u hu v hv e3 => parts_inj ((hc.2 x hx).2 u hu) (ho y hy v hv) e3) e2) (e.trans h.symm)
  rw [← this]
  exact hc
/-- So many pieces are read. -/
def Pl (ts : List ByteArray) (xs : List Bk) (i : Nat) : Prop := xs.map parts = (ts.take i).map (fun t => wds t.data.toList) ∧ ∀ x ∈ xs, Ok x
theorem pl_zero (ts : List ByteArray) : Pl ts [] 0 := ⟨by simp, fun x h => by cases h⟩
theorem pl_len {ts : List ByteArray} {xs : List Bk} {i : Nat} (h : Pl ts xs i) (hi : i ≤ ts.length) : xs.length = i := by
  have := congrArg List.length h.1
  simp at this
  omega
theorem pl_step {ts : List ByteArray} {xs : List Bk} {i : Nat} (h : Pl ts xs i) (hi : i < ts.length) {o : Bk} (ho : Rt (wds (ts.getD i ByteArray.empty).data.toList) o) : Pl ts (xs ++ [o]) (i + 1) := by
  have e : ts.getD i ByteArray.empty = ts[i] := by rw [List.getD_eq_getElem?_getD, List.getElem?_eq_getElem hi]; rfl
  rw [e] at ho
  refine ⟨?_, fun x hx => ?_⟩
  · rw [List.map_append, h.1, List.take_add_one, List.getElem?_eq_getElem hi, List.map_append]
    show _ ++ [parts o] = _ ++ [wds ts[i].data.toList]
    rw [ho.2]
  · rcases List.mem_append.1 hx with h1 | h1
    · exact h.2 x h1
    · obtain rfl := List.mem_singleton.1 h1
      exact ho.1
def Pb (ts : List ByteArray) (bss : List (List Bk)) (j : Nat) : Prop := bss.map (·.map parts) = (ts.take j).map (fun t => opsOf t.data.toList) ∧ ∀ xs ∈ bss, ∀ x ∈ xs, Ok x
theorem pb_zero (ts : List ByteArray) : Pb ts [] 0 := ⟨by simp, fun x h => by cases h⟩
theorem pb_len {ts : List ByteArray} {bss : List (List Bk)} {j : Nat} (h : Pb ts bss j) (hj : j ≤ ts.length) : bss.length = j := by
  have := congrArg List.length h.1
  simp at this
  omega
theorem pb_step {ts us : List ByteArray} {bss : List (List Bk)} {xs : List Bk} {j : Nat} (h : Pb ts bss j) (hj : j < ts.length) (hu : us.map (·.data.toList) = cut 59 (ts.getD j ByteArray.empty).data.toList) (hx : Pl us xs us.length) : Pb ts (bss ++ [xs]) (j + 1) := by
  have e : ts.getD j ByteArray.empty = ts[j] := by rw [List.getD_eq_getElem?_getD, List.getElem?_eq_getElem hj]; rfl
  rw [e] at hu
  have hp : opsOf ts[j].data.toList = xs.map parts := by
    unfold opsOf
    rw [← hu, hx.1, List.take_length, List.map_map]
    rfl
  refine ⟨?_, fun ys hy => ?_⟩
  · rw [List.map_append, h.1, List.take_add_one, List.getElem?_eq_getElem hj, List.map_append]
    show _ ++ [xs.map parts] = _ ++ [opsOf ts[j].data.toList]
    rw [hp]
  · rcases List.mem_append.1 hy with h1 | h1
    · exact h.2 ys h1
    · obtain rfl := List.mem_singleton.1 h1
      exact hx.2
theorem bc_snoc (xs : List Bk) (k y v : Int) : cl (bc (xs ++ [(k, y, v)])) ((xs.length + 1) * 3) = cl (bc xs) (xs.length * 3) ++ [.int .i64 k, .int .i64 y, .int .i64 v] := by
  apply List.ext_getElem?
  intro j
  by_cases h : j < xs.length * 3
  · rw [List.getElem?_append_left (by rw [cl_len]; exact h), cl_get _ _ j h, cl_get _ _ j (by omega)]
    unfold bc
    rw [show (xs ++ [(k, y, v)]).getD (j / 3) (0, 0, 0) = xs.getD (j / 3) (0, 0, 0) by rw [List.getD_eq_getElem?_getD, List.getD_eq_getElem?_getD, List.getElem?_append_left (by omega)]]
  · rw [List.getElem?_append_right (by rw [cl_len]; omega), cl_len]
    by_cases h2 : j < (xs.length + 1) * 3
    · rw [cl_get _ _ j h2]
      have hd : j / 3 = xs.length := by omega
      have hg : (xs ++ [(k, y, v)]).getD (j / 3) (0, 0, 0) = (k, y, v) := by rw [hd, List.getD_eq_getElem?_getD, List.getElem?_append_right (Nat.le_refl _)]; simp
      have h3 : j = xs.length * 3 ∨ j = xs.length * 3 + 1 ∨ j = xs.length * 3 + 2 := by omega
      rcases h3 with e | e | e
      · have hm : j % 3 = 0 := by omega
        rw [show j - xs.length * 3 = 0 by omega]
        unfold bc
        rw [hg]
        simp [hm]
      · have hm : j % 3 = 1 := by omega
        rw [show j - xs.length * 3 = 1 by omega]
        unfold bc
        rw [hg]
        simp [hm]
      · have hm : j % 3 = 2 := by omega
        rw [show j - xs.length * 3 = 2 by omega]
        unfold bc
        rw [hg]
        simp [hm]
    · rw [List.getElem?_eq_none (by rw [cl_len]; omega), List.getElem?_eq_none (by simp; omega)]

/-- The batch so far, in a world: the transactions' row, each one's own row, the pieces of the text. -/
structure Bt (B : Nat) (w0 : World) (v : Value) (us : Nat → Value) (bss : List (List Bk)) (tv : Value) (ts : List ByteArray) (x : World) : Prop where
  below : Below B w0 x
  size : B ≤ x.heap.size
  row : x.ownsRow B 55 1 v bss.length (cl us (bss.length * 1))
  inn : ∀ j, j < bss.length → OT x B 26 3 (us j) (bss.getD j []).length (bc (bss.getD j []))
  each : ∀ i j, i < bss.length → j < bss.length → i ≠ j → Apart (us i) (us j)
  txt : OT x B 9 1 tv ts.length (tc ts)
variable {B : Nat} {w0 x y : World} {v tv : Value} {us : Nat → Value} {bss : List (List Bk)} {ts : List ByteArray}
theorem Bt.next (h : Bt B w0 v us bss tv ts x) (hb : Below x.heap.size x y) : Bt B w0 v us bss tv ts y :=
  ⟨h.below.trans (hb.mono h.size), Nat.le_trans h.size hb.size, row_below h.row hb, fun j hj => ot_below (h.inn j hj) hb, h.each, ot_below h.txt hb⟩
/-- A row of operations grows that none of the batch lies on. -/
theorem Bt.growOp (h : Bt B w0 v us bss tv ts x) {r : Option Nat} (hg : x.grownBy y r) (ht : ∀ q, r = some q → Ty x q 26 ∧ B ≤ q ∧ ∀ j, j < bss.length → Off (us j) q) : Bt B w0 v us bss tv ts y := by
  cases r with
  | none => exact h.next ((Below.refl _ x).grown hg (Nat.le_refl _) (fun k hk => by cases hk))
  | some q =>
    obtain ⟨h1, h2, h3⟩ := ht q rfl
    refine ⟨h.below.grown hg h.size (fun k hk => by cases hk; exact h2), Nat.le_trans h.size hg.size, row_grown h.row h1 (by decide) hg, fun j hj => (h.inn j hj).grown (by decide) hg (h3 j hj), h.each, h.txt.grown (by decide) hg (ot_off h.txt h1 (by decide))⟩
/-- A transaction's box is written. -/
theorem Bt.setBox (h : Bt B w0 v us bss tv ts x) {G : Nat} (hT : Ty x G 55) (hB : B ≤ G) (hv : ∀ k, v.ownBlock = some k → k ≠ G) (a : Value) : Bt B w0 v us bss tv ts (x.setCell ⟨G, 0, none⟩ a) := by
  have hg : x.grownBy (x.setCell ⟨G, 0, none⟩ a) (some G) := ReadI.grown_set (ReadI.grown_id x G) 0 a
  refine ⟨h.below.setCell (p := ⟨G, 0, none⟩) hB a, by rw [show (x.setCell ⟨G, 0, none⟩ a).heap.size = x.heap.size by simp]; exact h.size, ?_, fun j hj => (h.inn j hj).grown (by decide) hg (ot_off (h.inn j hj) hT (by decide)), h.each, h.txt.grown (by decide) hg (ot_off h.txt hT (by decide))⟩
  refine ⟨h.row.1, ?_⟩
  rcases h.row.2 with h2 | ⟨k, cap, cur, hv2, hk, hh, r⟩
  · exact .inl h2
  · exact .inr ⟨k, cap, cur, hv2, hk, (hg.block k (Array.getElem?_eq_some_iff.1 hh).1 (fun e => hv k (by rw [hv2]; rfl) (Option.some.inj e))).trans hh, r⟩
/-- A transaction is put behind the others. -/
theorem Bt.snoc {xs : List Bk} {u v' : Value} {B2 : Nat} {x2 : World} (h : Bt B w0 v us bss tv ts x) (hB : B ≤ B2) (hl : ∀ j, j < bss.length → ∀ k, B2 ≤ k → Off (us j) k) (hu : OT x B2 26 3 u xs.length (bc xs))
    (hg : x.grownBy x2 v.ownBlock) (hr : x2.ownsRow B 55 1 v' (bss.length + 1) (cl us (bss.length * 1) ++ [u])) (hap : ∀ j, j < bss.length → Apart (us j) u) : Bt B w0 v' (fun j => if j = bss.length then u else us j) (bss ++ [xs]) tv ts x2 := by
  have htv := row_ty h.row
  have hlo : ∀ q, v.ownBlock = some q → B ≤ q := fun q hq => (World.ownsRow.lt h.row q hq).1
  refine ⟨h.below.grown hg h.size hlo, Nat.le_trans h.size hg.size, ?_, fun j hj => ?_, fun i j hi hj hij => ?_, ot_row h.txt (by decide) hg htv (by decide)⟩
  · rw [show (bss ++ [xs]).length = bss.length + 1 by simp, ← cl_snoc]
    exact hr
  · rw [List.length_append] at hj
    by_cases e : j = bss.length
    · rw [if_pos e, e]
      have hgd : (bss ++ [xs]).getD bss.length [] = xs := by rw [List.getD_eq_getElem?_getD, List.getElem?_append_right (Nat.le_refl _)]; simp
      rw [hgd]
      have := ot_row hu (by decide) hg htv (by decide)
      exact ⟨this.1.base hB, this.2⟩
    · rw [if_neg e]
      have hj2 : j < bss.length := by simp at hj; omega
      rw [show (bss ++ [xs]).getD j [] = bss.getD j [] by rw [List.getD_eq_getElem?_getD, List.getD_eq_getElem?_getD, List.getElem?_append_left hj2]]
      exact ot_row (h.inn j hj2) (by decide) hg htv (by decide)
  · rw [List.length_append] at hi hj
    simp only [List.length_singleton] at hi hj
    by_cases e1 : i = bss.length
    · have e2 : ¬ j = bss.length := by omega
      simp only [if_pos e1, if_neg e2]
      exact (hap j (by omega)).symm
    · by_cases e2 : j = bss.length
      · simp only [if_neg e1, if_pos e2]
        exact hap i (by omega)
      · simp only [if_neg e1, if_neg e2]
        exact h.each i j (by omega) (by omega) hij
end Go.Proofs.YtidbkamadclchaaDoor.BtM
