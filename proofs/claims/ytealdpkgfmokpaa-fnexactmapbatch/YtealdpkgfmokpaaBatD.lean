/-
  What is proved: plain facts on the program's doing of a batch: what stands behind some of its transactions, and what stays (laws for the walks). Nothing of the program but its types.
-/
import Derived.Test.YtealdpkgfmokpaaRows
import Derived.Test.YtealdpkgfmokpaaDtP
import Derived.Test.YtealdpkgfmokpaaBatR
namespace Go.Proofs.Ytealdpkgfmokpaa.BatD
open Go.ChangeShapes Go.WideShapes Go.ChangeAt Go.RowKit Go.Maps
open Sl (Sl Own Off)
open OpenSl (nc)
open Dev Orm LawE MapP MapOk OtB MapD MapW MapI TxP DtP BatR
set_option linter.unusedVariables false

theorem infoRes : (Try.prog.info? 49).map (fun i => (i.zero, i.size, i.bytes)) = some (some (.agg #[.int .i64 0, .slice none 0 0]), 2, 32) := by kernel_rfl
/-- The cells of n results of nothing at 0. -/
def zr (j : Nat) : Value := if j % 2 = 0 then .int .i64 0 else .slice none 0 0
theorem made_res (n : Nat) : ∀ j, j < n * 2 → (madeCells (Value.agg #[.int .i64 0, .slice none 0 0]).cells (n * 2))[j]? = some (zr j) := by
  intro j hj
  show ((Array.range (n * 2)).map _)[j]? = _
  rw [Array.getElem?_map, Array.getElem?_range, if_pos hj]
  show some ((#[Value.int .i64 0, Value.slice none 0 0] : Array Value)[j % 2]!) = _
  unfold zr
  have h : j % 2 = 0 ∨ j % 2 = 1 := by omega
  rcases h with h | h <;> rw [h] <;> rfl
theorem madeT (w : World) (n : Nat) (hn : n ≤ 4096) : ∃ g o w1, (Instr.makeSlice 66 (.int .i64 (n : Int)) (.int .i64 (n : Int))).run Try.prog w = .ok (.slice (some ⟨g, o, none⟩) n n) w1 ∧ Own w1 w.heap.size 2 (.slice (some ⟨g, o, none⟩) n n) n zr ∧ Ty w1 g 49 ∧ w.heap.size ≤ g ∧ Below w.heap.size w w1 := by
  obtain ⟨i0, hi0, hz0, hz1, hz2⟩ := info_parts infoRes
  obtain ⟨w1, h1, h2, h3⟩ := run_make_full (P := Try.prog) w w.heap.size 66 49 i0 (.agg #[.int .i64 0, .slice none 0 0]) 2 Try.underlying66 hi0 hz0 hz1 .i64 .i64 n (by rw [hz2]; omega) (by unfold maxLen; omega) (Nat.le_refl _)
  refine ⟨_, _, w1, h1, own_of_row h2 zr (fun j hj => ?_), row_ty h2 _ rfl, Nat.le_refl _, (Below.refl _ _).grown h3 (Nat.le_refl _) (fun k hk => by cases hk)⟩
  rw [← made_res n j hj, Array.getElem?_toList]
theorem own_blocks {w w' : World} {base sz : Nat} {v : Value} {n : Nat} {c : Nat → Value} (h : Own w base sz v n c) (e : ∀ q, v.ownBlock = some q → w'.heap[q]? = w.heap[q]?) : Own w' base sz v n c := by
  obtain ⟨a, cap, rfl, h1, h2, h3⟩ := h
  refine ⟨a, cap, rfl, h1, h2, fun hn => ?_⟩
  obtain ⟨b, o, rfl, hbb, hc⟩ := h3 hn
  exact ⟨b, o, rfl, hbb, fun j hj => ⟨(World.cell?_of_block (w := w) (e b rfl)).trans (hc j hj).1, (World.frozen?_of_block (w := w) (e b rfl)).trans (hc j hj).2⟩⟩
theorem ne_rp : 49 ≠ 192 := by decide
theorem ne_rw : 49 ≠ 167 := by decide
theorem ne_ip : 3 ≠ 192 := by decide
theorem ne_iw : 3 ≠ 167 := by decide
theorem ne_ir : 3 ≠ 49 := by decide
theorem ne_wr : 167 ≠ 49 := by decide

/-- What stands of the results' cells. -/
def rz (rs : List Re) (us : Nat → Value) (i : Nat) : Value := if i < rs.length * 2 then rc rs us i else zr i
/-- The program's batch under way. -/
structure It (w0 : World) (lo g B R o n : Nat) (w : World) (ys : List En) (rs : List Re) (us : Nat → Value) : Prop where
  wk : ∃ pv, Wk w lo g B ys pv
  out : Own w lo 2 (.slice (some ⟨R, o, none⟩) n n) n (rz rs us)
  ty : Ty w R 49
  lr : lo ≤ R
  inn : ∀ j, j < rs.length → Own w lo 1 (us j) (rs.getD j (0, [])).2.length (nc (rs.getD j (0, [])).2)
  tyi : ∀ j, j < rs.length → ∀ q, (us j).ownBlock = some q → Ty w q 3
  each : ∀ i j, i < rs.length → j < rs.length → i ≠ j → Apart (us i) (us j)
  bel : Below lo w0 w
  size : lo ≤ w.heap.size
variable {w0 w w' : World} {lo g B R o n : Nat} {ys zs : List En} {rs : List Re} {us : Nat → Value} {c : Int} {vs : List Int} {r : Value}
theorem It.below (h : It w0 lo g B R o n w ys rs us) (hb : Below w.heap.size w w') : It w0 lo g B R o n w' ys rs us := by
  obtain ⟨pv, hw⟩ := h.wk
  exact ⟨⟨pv, hw.below hb⟩, h.out.below hb, h.ty.below hb, h.lr, fun j hj => (h.inn j hj).below hb, fun j hj q hq => (h.tyi j hj q hq).below hb, h.each, h.bel.trans (hb.mono h.size), Nat.le_trans h.size hb.size⟩
/-- Behind a transaction: another map; what was there of results stays; the new one's values lie behind them. -/
theorem It.txn (h : It w0 lo g B R o n w ys rs us) (hw : ∃ pv, Wk w' lo g B zs pv) (hold : Old w g w') (hb : Below lo w w') : It w0 lo g B R o n w' zs rs us := by
  obtain ⟨pv, hw0⟩ := h.wk
  have eR : w'.heap[R]? = w.heap[R]? := hold R _ h.ty ne_rp (ty_ne h.ty hw0.ty ne_wr.symm)
  have ei : ∀ j, j < rs.length → ∀ q, (us j).ownBlock = some q → w'.heap[q]? = w.heap[q]? := fun j hj q hq => hold q _ (h.tyi j hj q hq) ne_ip (ty_ne (h.tyi j hj q hq) hw0.ty ne_iw)
  exact ⟨hw, own_blocks h.out (fun q hq => by
    obtain rfl : R = q := by simpa [Value.ownBlock] using hq
    exact eR), ty_block h.ty eR, h.lr, fun j hj => own_blocks (h.inn j hj) (ei j hj), fun j hj q hq => ty_block (h.tyi j hj q hq) (ei j hj q hq), h.each, h.bel.trans hb, Nat.le_trans h.size hb.size⟩
/-- The result is stored. -/
theorem It.put (h : It w0 lo g B R o n w ys rs us) (hn : rs.length < n) (hr : Own w lo 1 r vs.length (nc vs)) (hty : ∀ q, r.ownBlock = some q → Ty w q 3) (hap : ∀ j, j < rs.length → Apart (us j) r) :
    It w0 lo g B R o n ((w.setCell ⟨R, o + rs.length * 2, none⟩ (.int .i64 c)).setCell ⟨R, o + rs.length * 2 + 1, none⟩ r) ys (rs ++ [(c, vs)]) (su rs us r) := by
  obtain ⟨pv, hw⟩ := h.wk
  have hll : (rs ++ [(c, vs)]).length = rs.length + 1 := by simp
  have key : ∀ q, q ≠ R → ((w.setCell ⟨R, o + rs.length * 2, none⟩ (.int .i64 c)).setCell ⟨R, o + rs.length * 2 + 1, none⟩ r).heap[q]? = w.heap[q]? := fun q hq =>
    (Below.heap_setCell _ _ _ q hq).trans (Below.heap_setCell _ _ _ q hq)
  have ki : ∀ q, Ty w q 3 → ((w.setCell ⟨R, o + rs.length * 2, none⟩ (.int .i64 c)).setCell ⟨R, o + rs.length * 2 + 1, none⟩ r).heap[q]? = w.heap[q]? := fun q hq => key q (ty_ne hq h.ty ne_ir)
  have hsz : ((w.setCell ⟨R, o + rs.length * 2, none⟩ (.int .i64 c)).setCell ⟨R, o + rs.length * 2 + 1, none⟩ r).heap.size = w.heap.size := by simp
  refine ⟨⟨pv, wk_blocks hw (key g (ty_ne hw.ty h.ty ne_wr)) (key B (fun e => map_ne hw.own h.ty e.symm))⟩, ?_, ty_set (ty_set h.ty _ _) _ _, h.lr, fun j hj => ?_, fun j hj q hq => ?_, fun i j hi hj hij => ?_, (h.bel.setCell (p := ⟨R, _, none⟩) h.lr _).setCell (p := ⟨R, _, none⟩) h.lr _, by rw [hsz]; exact h.size⟩
  · have h1 := (h.out.set (rs.length * 2) (by omega) (.int .i64 c)).set (rs.length * 2 + 1) (by omega) r
    rw [← Nat.add_assoc] at h1
    refine h1.congr fun j hj => ?_
    unfold rz
    show (if j = rs.length * 2 + 1 then _ else if j = rs.length * 2 then _ else if j < rs.length * 2 then _ else _) = if j < (rs ++ [(c, vs)]).length * 2 then _ else _
    rw [hll]
    by_cases e1 : j = rs.length * 2 + 1
    · rw [if_pos e1, if_pos (by omega), e1, rc1]; unfold su; rw [if_pos rfl]
    · rw [if_neg e1]
      by_cases e2 : j = rs.length * 2
      · rw [if_pos e2, if_pos (by omega), e2, rc0, gd_last]
      · rw [if_neg e2]
        by_cases h5 : j < rs.length * 2
        · rw [if_pos h5, if_pos (by omega), rc_snoc _ _ _ _ _ _ h5]
        · rw [if_neg h5, if_neg (by omega)]
  · unfold su
    by_cases e : j = rs.length
    · subst e
      rw [if_pos rfl, gd_last]
      exact own_blocks hr (fun q hq => ki q (hty q hq))
    · have hj2 : j < rs.length := by omega
      rw [if_neg e, gd_left _ _ hj2]
      exact own_blocks (h.inn j hj2) (fun q hq => ki q (h.tyi j hj2 q hq))
  · unfold su at hq
    by_cases e : j = rs.length
    · rw [if_pos e] at hq
      exact ty_block (hty q hq) (ki q (hty q hq))
    · rw [if_neg e] at hq
      have ht := h.tyi j (by omega) q hq
      exact ty_block ht (ki q ht)
  · unfold su
    by_cases e1 : i = rs.length
    · have e2 : ¬ j = rs.length := by omega
      rw [if_pos e1, if_neg e2]
      exact (hap j (by omega)).symm
    · by_cases e2 : j = rs.length
      · rw [if_neg e1, if_pos e2]
        exact hap i (by omega)
      · rw [if_neg e1, if_neg e2]
        exact h.each i j (by omega) (by omega) hij
theorem off_own {r : Value} {k : Nat} (h : ∀ q, r.ownBlock = some q → q ≠ k) : Off r k := fun a n cap e hn => h a.block (by rw [e]; rfl)
/-- A new result's values lie apart from those that there were. -/
theorem It.apart (h : It w0 lo g B R o n w ys rs us) (hr : ∀ q, r.ownBlock = some q → w.heap.size ≤ q) : ∀ j, j < rs.length → Apart (us j) r := fun j hj a m cap e hm => off_own fun q hq => by
  have h1 := ty_lt (h.tyi j hj a.block (by rw [e]; rfl))
  have h2 := hr q hq
  omega
theorem It.res (h : It w0 lo g B R o n w ys rs us) (hn : rs.length = n) : NrO w lo (.slice (some ⟨R, o, none⟩) n n) rs us := by
  subst hn
  refine ⟨h.out.congr fun j hj => ?_, h.inn, fun j hj a m cap e hm => ?_, h.each⟩
  · unfold rz; rw [if_pos hj]
  · obtain rfl : (⟨R, o, none⟩ : Addr) = a := by injection e with e1; exact Option.some.inj e1
    exact off_own fun q hq e => ty_ne (h.tyi j hj q hq) h.ty ne_ir e
end Go.Proofs.Ytealdpkgfmokpaa.BatD
