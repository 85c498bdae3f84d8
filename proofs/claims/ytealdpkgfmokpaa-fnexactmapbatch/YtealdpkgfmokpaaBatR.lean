/-
  What is proved: plain facts on what a batch leaves of a map and tells; a slice of results in a world (laws for the walks). Nothing of the program but its types.
-/
import Derived.Test.YtealdpkgfmokpaaRows
import Derived.Test.YtealdpkgfmokpaaTxP
import Derived.Test.YtealdpkgfmokpaaBatB
namespace Go.Proofs.Ytealdpkgfmokpaa.BatR
open Go.ChangeShapes Go.WideShapes Go.ChangeAt Go.RowKit Go.Maps
open Sl (Sl Own Off)
open OpenSl (nc)
open Dev Orm LawE MapP MapOk OtB MapD TxP
open BatB (TOk BOk)
set_option linter.unusedVariables false

/-- A result: its code, its values. -/
abbrev Re := Int × List Int
/-- What a batch comes to. -/
def bt (xs : List En) (bss : List (List Bk)) : List En × List Re := bss.foldl (fun s os => ((tx s.1 s.1 [] os).1, s.2 ++ [((tx s.1 s.1 [] os).2.2, (tx s.1 s.1 [] os).2.1)])) (xs, [])
/-- .. behind j transactions. -/
def bj (xs : List En) (bss : List (List Bk)) (j : Nat) : List En × List Re := bt xs (bss.take j)
theorem bj_zero (xs : List En) (bss : List (List Bk)) : bj xs bss 0 = (xs, []) := rfl
theorem bj_all (xs : List En) (bss : List (List Bk)) : bj xs bss bss.length = bt xs bss := by unfold bj; rw [List.take_length]
theorem bj_step (xs : List En) (bss : List (List Bk)) (j : Nat) (hj : j < bss.length) : bj xs bss (j + 1) = ((tx (bj xs bss j).1 (bj xs bss j).1 [] (bss.getD j [])).1, (bj xs bss j).2 ++ [((tx (bj xs bss j).1 (bj xs bss j).1 [] (bss.getD j [])).2.2, (tx (bj xs bss j).1 (bj xs bss j).1 [] (bss.getD j [])).2.1)]) := by
  unfold bj
  rw [List.take_add_one, List.getElem?_eq_getElem hj, List.getD_eq_getElem?_getD, List.getElem?_eq_getElem hj]
  unfold bt
  rw [List.foldl_append]
  rfl
theorem getD_mem {bss : List (List Bk)} {j : Nat} (hj : j < bss.length) : bss.getD j [] ∈ bss := by rw [List.getD_eq_getElem?_getD, List.getElem?_eq_getElem hj]; exact List.getElem_mem hj
theorem bj_ok {xs : List En} {bss : List (List Bk)} (h : MOk xs) (hall : ∀ os ∈ bss, TOk os) : ∀ j, j ≤ bss.length → MOk (bj xs bss j).1
  | 0, _ => h
  | j + 1, hj => by
    rw [bj_step xs bss j (by omega)]
    exact tx_ok (bj_ok h hall j (by omega)) _ _ _ (hall _ (getD_mem (by omega))).2 (bj_ok h hall j (by omega))
theorem bj_len (xs : List En) (bss : List (List Bk)) : ∀ j, j ≤ bss.length → (bj xs bss j).2.length = j
  | 0, _ => rfl
  | j + 1, hj => by
    rw [bj_step xs bss j (by omega)]
    simp [bj_len xs bss j (by omega)]
theorem bj_vals {xs : List En} {bss : List (List Bk)} (hall : ∀ os ∈ bss, TOk os) : ∀ j, j ≤ bss.length → ∀ r ∈ (bj xs bss j).2, r.2.length ≤ 32
  | 0, _ => fun r h => by cases h
  | j + 1, hj => fun r h => by
    rw [bj_step xs bss j (by omega)] at h
    rcases List.mem_append.1 h with h | h
    · exact bj_vals hall j (by omega) r h
    · obtain rfl := List.mem_singleton.1 h
      have ho := hall _ (getD_mem (show j < bss.length by omega))
      have := tx_len (bj xs bss j).1 (bss.getD j []) (bj xs bss j).1 [] ho.2
      have := ho.1.2
      simp only [List.length_nil] at *
      omega
theorem bt_ok {xs : List En} {bss : List (List Bk)} (h : MOk xs) (hall : ∀ os ∈ bss, TOk os) : MOk (bt xs bss).1 := bj_all xs bss ▸ bj_ok h hall _ (Nat.le_refl _)
theorem bt_len (xs : List En) (bss : List (List Bk)) : (bt xs bss).2.length = bss.length := bj_all xs bss ▸ bj_len xs bss _ (Nat.le_refl _)
theorem bt_vals {xs : List En} {bss : List (List Bk)} (hall : ∀ os ∈ bss, TOk os) : ∀ r ∈ (bt xs bss).2, r.2.length ≤ 32 := bj_all xs bss ▸ bj_vals hall _ (Nat.le_refl _)

/-- The cells of a slice of results. -/
def rc (rs : List Re) (us : Nat → Value) (i : Nat) : Value := if i % 2 = 0 then .int .i64 (rs.getD (i / 2) (0, [])).1 else us (i / 2)
def rl (rs : List Re) (us : Nat → Value) : List Value := Cop.cl (rc rs us) (rs.length * 2)
theorem rc0 (rs : List Re) (us : Nat → Value) (j : Nat) : rc rs us (j * 2) = .int .i64 (rs.getD j (0, [])).1 := by
  unfold rc; rw [if_pos (by omega), show j * 2 / 2 = j by omega]
theorem rc1 (rs : List Re) (us : Nat → Value) (j : Nat) : rc rs us (j * 2 + 1) = us j := by
  unfold rc; rw [if_neg (by omega), show (j * 2 + 1) / 2 = j by omega]
/-- .. with one put behind. -/
def su (rs : List Re) (us : Nat → Value) (r : Value) (j : Nat) : Value := if j = rs.length then r else us j
theorem rc_snoc (rs : List Re) (us : Nat → Value) (c : Int) (vs : List Int) (r : Value) (i : Nat) (h : i < rs.length * 2) : rc (rs ++ [(c, vs)]) (su rs us r) i = rc rs us i := by
  unfold rc su
  rw [if_neg (show ¬ i / 2 = rs.length by omega)]
  rw [show (rs ++ [(c, vs)]).getD (i / 2) (0, []) = rs.getD (i / 2) (0, []) by rw [List.getD_eq_getElem?_getD, List.getD_eq_getElem?_getD, List.getElem?_append_left (by omega)]]
theorem gd_last (rs : List Re) (x : Re) : (rs ++ [x]).getD rs.length (0, []) = x := by rw [List.getD_eq_getElem?_getD, List.getElem?_append_right (Nat.le_refl _)]; simp
theorem gd_left (rs : List Re) (x : Re) {j : Nat} (h : j < rs.length) : (rs ++ [x]).getD j (0, []) = rs.getD j (0, []) := by rw [List.getD_eq_getElem?_getD, List.getD_eq_getElem?_getD, List.getElem?_append_left h]
theorem rl_snoc (rs : List Re) (us : Nat → Value) (c : Int) (vs : List Int) (r : Value) : rl (rs ++ [(c, vs)]) (su rs us r) = rl rs us ++ [.int .i64 c, r] := by
  unfold rl
  apply List.ext_getElem?
  intro j
  have hl : (rs ++ [(c, vs)]).length = rs.length + 1 := by simp
  by_cases h : j < rs.length * 2
  · rw [List.getElem?_append_left (by rw [Cop.cl_len]; exact h), Cop.cl_get _ _ j h, Cop.cl_get _ _ j (by omega), rc_snoc rs us c vs r j h]
  · rw [List.getElem?_append_right (by rw [Cop.cl_len]; omega), Cop.cl_len]
    by_cases h2 : j < (rs.length + 1) * 2
    · rw [Cop.cl_get _ _ j (by omega)]
      have h3 : j = rs.length * 2 ∨ j = rs.length * 2 + 1 := by omega
      rcases h3 with e | e
      · rw [e, rc0, gd_last, Nat.sub_self]; rfl
      · rw [e, rc1, show rs.length * 2 + 1 - rs.length * 2 = 1 by omega]; simp [su]
    · rw [List.getElem?_eq_none (by rw [Cop.cl_len]; omega), List.getElem?_eq_none (by simp; omega)]

/-- A slice of results. -/
structure Nr (w : World) (v : Value) (rs : List Re) (us : Nat → Value) : Prop where
  out : Sl w 2 v rs.length (rc rs us)
  inn : ∀ j, j < rs.length → Sl w 1 (us j) (rs.getD j (0, [])).2.length (nc (rs.getD j (0, [])).2)
theorem Nr.below {w w' : World} {v : Value} {rs : List Re} {us : Nat → Value} (h : Nr w v rs us) (hb : Below w.heap.size w w') : Nr w' v rs us := ⟨h.out.below hb, fun j hj => (h.inn j hj).below hb⟩
/-- .. of the call's own. -/
structure NrO (w : World) (lo : Nat) (v : Value) (rs : List Re) (us : Nat → Value) : Prop where
  out : Own w lo 2 v rs.length (rc rs us)
  inn : ∀ j, j < rs.length → Own w lo 1 (us j) (rs.getD j (0, [])).2.length (nc (rs.getD j (0, [])).2)
  off : ∀ j, j < rs.length → Apart v (us j)
  each : ∀ i j, i < rs.length → j < rs.length → i ≠ j → Apart (us i) (us j)
theorem NrO.nr {w : World} {lo : Nat} {v : Value} {rs : List Re} {us : Nat → Value} (h : NrO w lo v rs us) : Nr w v rs us := ⟨h.out.sl, fun j hj => (h.inn j hj).sl⟩
theorem NrO.base {w : World} {lo lo' : Nat} {v : Value} {rs : List Re} {us : Nat → Value} (h : NrO w lo v rs us) (hb : lo' ≤ lo) : NrO w lo' v rs us := ⟨h.out.base hb, fun j hj => (h.inn j hj).base hb, h.off, h.each⟩
theorem NrO.below {w w' : World} {lo : Nat} {v : Value} {rs : List Re} {us : Nat → Value} (h : NrO w lo v rs us) (hb : Below w.heap.size w w') : NrO w' lo v rs us := ⟨h.out.below hb, fun j hj => (h.inn j hj).below hb, h.off, h.each⟩
theorem own_grown {w w' : World} {base sz : Nat} {v : Value} {n : Nat} {c : Nat → Value} {row : Option Nat} (h : Own w base sz v n c) (hg : w.grownBy w' row) (hoff : ∀ g, row = some g → Off v g) : Own w' base sz v n c := by
  obtain ⟨a, cap, rfl, h1, h2, h3⟩ := h
  refine ⟨a, cap, rfl, h1, h2, fun hn => ?_⟩
  obtain ⟨b, o, rfl, hbb, hc⟩ := h3 hn
  refine ⟨b, o, rfl, hbb, fun j hj => ?_⟩
  have hlt := World.block_lt_of_cell? w _ (hc j hj).1
  have e := hg.block b hlt (fun e => hoff b e.symm _ _ _ rfl hn rfl)
  exact ⟨(World.cell?_of_block (w := w) e).trans (hc j hj).1, (World.frozen?_of_block (w := w) e).trans (hc j hj).2⟩
theorem no_res (w : World) (base : Nat) (a : Option Addr) (us : Nat → Value) : NrO w base (.slice a 0 0) [] us :=
  ⟨⟨a, 0, rfl, Nat.le_refl _, by unfold maxLen; omega, fun h => absurd h (by simp)⟩, fun j hj => absurd hj (by simp), fun j hj => absurd hj (by simp), fun i j hi => absurd hi (by simp)⟩

/-- The model's batch under way: the map, the results so far in a row that grows. -/
structure Lt (w0 : World) (lo : Nat) (v0 : Value) (w : World) (x : Value) (ys : List En) (v : Value) (rs : List Re) (us : Nat → Value) : Prop where
  map : Sl w 2 x ys.length (ec ys)
  row : w.ownsRow lo 49 2 v rs.length (rl rs us)
  inn : ∀ j, j < rs.length → Own w lo 1 (us j) (rs.getD j (0, [])).2.length (nc (rs.getD j (0, [])).2)
  each : ∀ i j, i < rs.length → j < rs.length → i ≠ j → Apart (us i) (us j)
  offx : ∀ q, v.ownBlock = some q → Off x q
  offr : ∀ q, v.ownBlock = some q → ∀ j, j < rs.length → Off (us j) q
  bel : Below lo w0 w
  size : lo ≤ w.heap.size
  old : ∀ q, q < lo → Off v0 q → Off x q
variable {w0 w w' : World} {lo : Nat} {v0 x x' v v' r : Value} {ys zs : List En} {rs : List Re} {us : Nat → Value} {c : Int} {vs : List Int}
theorem Lt.below (h : Lt w0 lo v0 w x ys v rs us) (hb : Below w.heap.size w w') : Lt w0 lo v0 w' x ys v rs us :=
  ⟨h.map.below hb, Cop.row_below h.row hb, fun j hj => (h.inn j hj).below hb, h.each, h.offx, h.offr, h.bel.trans (hb.mono h.size), Nat.le_trans h.size hb.size, h.old⟩
/-- A transaction is done: another map, one more result, kept behind B; the row has not grown yet. -/
theorem Lt.snoc {z : World} {B : Nat} (h : Lt w0 lo v0 w x ys v rs us) (hB : B ≤ w.heap.size) (hlo : lo ≤ B) (hrb : ∀ q, v.ownBlock = some q → q < B) (hul : ∀ j, j < rs.length → Apart (us j) r)
    (hm : Sl w 2 x' zs.length (ec zs)) (hr : Own w B 1 r vs.length (nc vs)) (ho : ∀ q, q < B → Off x q → Off x' q)
    (hg : w.grownBy z v.ownBlock) (hrow : z.ownsRow lo 49 2 v' (rs.length + 1) (rl rs us ++ [.int .i64 c, r])) (hat : v'.ownBlock = v.ownBlock ∨ v'.ownBlock = some w.heap.size) :
    Lt w0 lo v0 z x' zs v' (rs ++ [(c, vs)]) (su rs us r) := by
  have hox : ∀ q, v.ownBlock = some q → Off x' q := fun q hq => ho q (hrb q hq) (h.offx q hq)
  have hor : ∀ q, v.ownBlock = some q → Off r q := fun q hq => own_low hr q (hrb q hq)
  have hll : (rs ++ [(c, vs)]).length = rs.length + 1 := by simp
  have hlo2 : ∀ q, v.ownBlock = some q → lo ≤ q := fun q hq => (World.ownsRow.lt h.row q hq).1
  refine ⟨sl_grown hm hg hox, by rw [hll, rl_snoc]; exact hrow, fun j hj => ?_, fun i j hi hj hij => ?_, fun q hq => ?_, fun q hq j hj => ?_, MapI.below_grown hg hlo2 h.size h.bel, Nat.le_trans h.size hg.size, fun q hq hf => ho q (by omega) (h.old q hq hf)⟩
  · unfold su
    by_cases e : j = rs.length
    · subst e
      rw [if_pos rfl, gd_last]
      exact own_grown (hr.base hlo) hg hor
    · have hj2 : j < rs.length := by omega
      rw [if_neg e, gd_left _ _ hj2]
      exact own_grown (h.inn j hj2) hg (fun q hq => h.offr q hq j hj2)
  · unfold su
    by_cases e1 : i = rs.length
    · have e2 : ¬ j = rs.length := by omega
      rw [if_pos e1, if_neg e2]
      exact (hul j (by omega)).symm
    · by_cases e2 : j = rs.length
      · rw [if_neg e1, if_pos e2]
        exact hul i (by omega)
      · rw [if_neg e1, if_neg e2]
        exact h.each i j (by omega) (by omega) hij
  · rcases hat with e | e
    · exact hox q (e ▸ hq)
    · obtain rfl : w.heap.size = q := by rw [e] at hq; exact Option.some.inj hq
      exact off_top hm (by decide) (Nat.le_refl _)
  · unfold su
    rcases hat with e | e
    · by_cases e2 : j = rs.length
      · rw [if_pos e2]; exact hor q (e ▸ hq)
      · rw [if_neg e2]; exact h.offr q (e ▸ hq) j (by omega)
    · obtain rfl : w.heap.size = q := by rw [e] at hq; exact Option.some.inj hq
      by_cases e2 : j = rs.length
      · rw [if_pos e2]; exact off_top hr.sl (by decide) (Nat.le_refl _)
      · rw [if_neg e2]; exact off_top (h.inn j (by omega)).sl (by decide) (Nat.le_refl _)
theorem Lt.res (h : Lt w0 lo v0 w x ys v rs us) : NrO w lo v rs us := by
  refine ⟨own_of_row h.row _ (fun j hj => Cop.cl_get _ _ j hj), h.inn, fun j hj a n cap e hn => ?_, h.each⟩
  exact h.offr a.block (by rw [e]; rfl) j hj
end Go.Proofs.Ytealdpkgfmokpaa.BatR
