/-
  What is proved: the program's doing of one operation on a map under way: what it tells, what it leaves, its code, and that what it remembers puts all back (a contract for the walks).
-/
import Derived.Test.YtealdpkgfmokpaaRows
import Derived.Test.YtealdpkgfmokpaaEntI
import Derived.Test.YtealdpkgfmokpaaMapU
namespace Go.Proofs.Ytealdpkgfmokpaa.DoI
open Go.ChangeShapes Go.WideShapes Go.ChangeAt Go.RowKit Go.Maps
open Sl (Sl Own Off)
open OpenSl (nc)
open Dev Orm LawE MapP MapOk OtB MapW MapD MapI ScanI EntI MapU
open OpB (Ok Bare Cell)
set_option linter.unusedVariables false

/-- What was ahead is behind what was remembered. -/
def DQ (lo g B : Nat) (xs ys : List En) (ps : List Pc) (w : World) : Prop := ∃ qs : List Pc, qs.length ≤ 1 ∧ und qs ys = xs ∧ Lf lo g B ys (ps ++ qs) w
def VQ (base : Nat) (vs : List Int) (c : Int) (w : World) (e : Ending) : Prop := ∃ v, e = .returned (.tuple #[v, .int .i64 c]) ∧ Own w base 1 v vs.length (nc vs)
theorem DQ.same {lo g B : Nat} {xs : List En} {pv : Value} {ps : List Pc} {w : World} (h : Wp w lo g B xs pv ps) : DQ lo g B xs xs ps w := ⟨[], Nat.zero_le _, rfl, pv, by rw [List.append_nil]; exact h⟩
theorem DQ.same' {lo g B : Nat} {xs : List En} {ps : List Pc} {w : World} (h : Lf lo g B xs ps w) : DQ lo g B xs xs ps w := by obtain ⟨pv, h⟩ := h; exact DQ.same h
theorem bit_of (p : Prop) [Decidable p] : (if decide p = true then (1 : Int) else 0) = bit p := by
  unfold bit
  by_cases h : p
  · rw [if_pos h, if_pos (by simpa using h)]
  · rw [if_neg h, if_neg (by simpa using h)]
theorem none_own (w : World) (base : Nat) : Own w base 1 (.slice none 0 0) 0 (nc []) := ⟨none, 0, rfl, Nat.le_refl _, by unfold maxLen; omega, fun h => by omega⟩
/-- Literals of one number, and of two. -/
theorem lit1 (w : World) (a : Int) : ∃ U, w.alloc (.cells #[.int .i64 a] 3) = U ∧ Below w.heap.size w U ∧ Own U w.heap.size 1 (.slice (some ⟨w.heap.size, 0, none⟩) 1 1) [a].length (nc [a]) := by
  refine ⟨_, rfl, (Below.refl _ w).alloc (Nat.le_refl _) _, ⟨_, 1, rfl, Nat.le_refl _, by unfold maxLen; omega, fun _ => ⟨w.heap.size, 0, rfl, Nat.le_refl _, fun j hj => ?_⟩⟩⟩
  match j, hj with
  | 0, _ => exact ⟨by show _ = some (Value.int .i64 a); go_simp, by go_simp⟩
  | j + 1, hj => simp at hj
theorem lit2 (w : World) (a b : Int) : ∃ U, w.alloc (.cells #[.int .i64 a, .int .i64 b] 3) = U ∧ Below w.heap.size w U ∧ Own U w.heap.size 1 (.slice (some ⟨w.heap.size, 0, none⟩) 2 2) [a, b].length (nc [a, b]) := by
  refine ⟨_, rfl, (Below.refl _ w).alloc (Nat.le_refl _) _, ⟨_, 2, rfl, Nat.le_refl _, by unfold maxLen; omega, fun _ => ⟨w.heap.size, 0, rfl, Nat.le_refl _, fun j hj => ?_⟩⟩⟩
  match j, hj with
  | 0, _ => exact ⟨by show _ = some (Value.int .i64 a); go_simp, by go_simp⟩
  | 1, _ => exact ⟨by show _ = some (Value.int .i64 b); go_simp, by go_simp⟩
  | j + 2, hj => simp at hj; omega
set_option maxRecDepth 100000 in
theorem look2 {w : World} {B n : Nat} {xs : List En} (h : owns w B n (dm xs)) {z : Int} (hz : (Lit.int .i64 z).wf = true) :
    (Instr.lookup 137 (.map (some B)) (.int .i64 z) true).run Try.prog w = .ok (.tuple #[.int .i64 (vl xs z), .bool (decide (z ∈ ks xs))]) w := by
  obtain ⟨v, ps, hrun, hv⟩ := World.ownsMap.look_ok h law3 Try.underlying137 (zero3 w) (plainElem_int (H := Unit) Try.underlying3 (WalkArith.wf_i64 (by omega))) (keyOf_int_mk Try.underlying3 hz)
  obtain ⟨c, rfl, hc, hwc⟩ := plainElem_int_inv Try.underlying3 hv
  have e1 := congrArg Prod.fst hc
  simp only at e1
  rw [dm_at] at e1
  have e2 : vl xs z = c := by injection e1 with h1; injection h1
  rw [hrun, dm_has, e2]
theorem wf_key' {z : Int} (h : 1 ≤ z ∧ z ≤ 9999) : (Lit.int .i64 z).wf = true := WalkArith.wf_i64 (by omega)

set_option maxRecDepth 100000 in
set_option maxHeartbeats 3200000 in
theorem doGet (w : World) (lo g B : Nat) (xs : List En) (pv : Value) (ps : List Pc) (h : Wp w lo g B xs pv ps) (z v : Int) (hz : 1 ≤ z ∧ z ≤ 9999) :
    Calls Try.prog 128 #[.pointer (some ⟨g, 0, none⟩), .agg #[.int .i64 1, .int .i64 z, .int .i64 v]] w fun e w' => VQ w.heap.size [bit (z ∈ ks xs), vl xs z] 0 w' e ∧ DQ lo g B xs xs ps w' ∧ Bl lo g B pv w w' := by
  have hlo := wp_lo h
  obtain ⟨U, e1, hb, hsz, X⟩ := Box3.box3 w 159 (.int .i64 1) (.int .i64 z) (.int .i64 v)
  have HWU := Lib.hid (h.below hb)
  have HBU := Lib.hid (Bl.of (g := g) (B := B) (pv := pv) hb hlo)
  have HSZ := Lib.hid (show w.heap.size ≤ U.heap.size from hb.size)
  have hl : ∀ n, (Instr.lookup 137 (.map (some B)) (.int .i64 z) true).run Try.prog (U.drewN n) = .ok (.tuple #[.int .i64 (vl xs z), .bool (decide (z ∈ ks xs))]) (U.drewN n) := fun n => look2 (owns_below (HWU.out.wk.own) (below_drewN (Below.refl _ _) n)) (wf_key' hz)
  have HWN := Lib.hid (fun n => HWU.out.below (below_drewN (Below.refl _ _) n))
  have HBN := Lib.hid (fun n => HBU.out.drewN n)
  obtain ⟨M, eM⟩ : ∃ M, w.heap.size = M := ⟨_, rfl⟩
  rw [eM] at X
  obtain ⟨x0, x1, x2, _, _, _⟩ := X
  have c0 := HWU.out.wk.c0
  have HBT := Lib.hid (bit_of (z ∈ ks xs))
  generalize bit (z ∈ ks xs) = b at *
  generalize decide (z ∈ ks xs) = t at *
  generalize vl xs z = V at *
  have HNO := Lib.hid (fun u => numberOf t u)
  rw [HBT.out] at HNO
  clear hb hsz h hlo
  go_enter Try.func128, Try.ntmps128
  go_wp2
  clear e1 eM
  go_quiet (fail)
  obtain ⟨U2, e2, hb2, ho2⟩ := lit2 (U.drewN nq) b V
  have HO2 := Lib.hid (ho2.base (show w.heap.size ≤ (U.drewN nq).heap.size from HSZ.out))
  have HB2 := Lib.hid ((HBN.out nq).trans (Bl.of hb2 (Nat.le_trans (wp_lo HWU.out) (Nat.le_refl _))))
  have HW2 := Lib.hid ((HWN.out nq).below hb2)
  clear hb2 ho2
  go_wp2_with (go_at_call 148; refine (HNO.out _).mono ?_; rintro e u ⟨rfl, rfl⟩)
  go_ret2
  exact ⟨⟨_, rfl, HO2.out⟩, DQ.same HW2.out, HB2.out⟩

set_option maxRecDepth 100000 in
set_option maxHeartbeats 3200000 in
theorem doDrop (w : World) (lo g B : Nat) (xs : List En) (pv : Value) (ps : List Pc) (h : Wp w lo g B xs pv ps) (z v : Int) (hz : 1 ≤ z ∧ z ≤ 9999) (hri : Ri xs) (hp : ps.length ≤ 15) :
    Calls Try.prog 128 #[.pointer (some ⟨g, 0, none⟩), .agg #[.int .i64 3, .int .i64 z, .int .i64 v]] w fun e w' => VQ w.heap.size [bit (z ∈ ks xs)] 0 w' e ∧ DQ lo g B xs (dl xs z) ps w' ∧ Bl lo g B pv w w' := by
  have hlo := wp_lo h
  obtain ⟨U, e1, hb, hsz, X⟩ := Box3.box3 w 159 (.int .i64 3) (.int .i64 z) (.int .i64 v)
  have HWU := Lib.hid (h.below hb)
  have HBU := Lib.hid (Bl.of (g := g) (B := B) (pv := pv) hb hlo)
  have HSZ := Lib.hid (show w.heap.size ≤ U.heap.size from hb.size)
  have hl : ∀ n, (Instr.lookup 137 (.map (some B)) (.int .i64 z) true).run Try.prog (U.drewN n) = .ok (.tuple #[.int .i64 (vl xs z), .bool (decide (z ∈ ks xs))]) (U.drewN n) := fun n => look2 (owns_below (HWU.out.wk.own) (below_drewN (Below.refl _ _) n)) (wf_key' hz)
  have HWN := Lib.hid (fun n => HWU.out.below (below_drewN (Below.refl _ _) n))
  have HBN := Lib.hid (fun n => HBU.out.drewN n)
  obtain ⟨M, eM⟩ : ∃ M, w.heap.size = M := ⟨_, rfl⟩
  rw [eM] at X
  obtain ⟨x0, x1, x2, _, _, _⟩ := X
  have c0 := HWU.out.wk.c0
  have HBT := Lib.hid (bit_of (z ∈ ks xs))
  have HDR := Lib.hid (fun n => drop (U.drewN n) lo g B xs pv ps (HWN.out n) z (wf_key' hz) (by omega))
  have HUN := Lib.hid (und_drop hri z)
  generalize bit (z ∈ ks xs) = b at *
  generalize decide (z ∈ ks xs) = t at *
  generalize vl xs z = V at *
  have HNO := Lib.hid (fun u => numberOf t u)
  rw [HBT.out] at HNO
  have HLO := Lib.hid hlo
  clear hb hsz h hlo
  go_enter Try.func128, Try.ntmps128
  go_wp2
  clear e1 eM
  go_quiet (fail)
  go_wp2_with fail
  refine (HDR.out nq).mono ?_
  rintro e u ⟨rfl, ⟨pv1, hw⟩, hb1⟩
  have HB1 := Lib.hid ((HBN.out nq).trans hb1)
  have HS1 := Lib.hid (show w.heap.size ≤ u.heap.size from Nat.le_trans HSZ.out hb1.size)
  obtain ⟨U2, e2, hb2, ho2⟩ := lit1 u b
  have HO2 := Lib.hid (ho2.base HS1.out)
  have HB2 := Lib.hid (HB1.out.trans (Bl.of hb2 (Nat.le_trans HLO.out HS1.out)))
  have HW2 := Lib.hid (hw.below hb2)
  clear hb2 ho2 hw hb1
  go_wp2_with (go_at_call 148; refine (HNO.out _).mono ?_; rintro e u ⟨rfl, rfl⟩)
  go_ret2
  exact ⟨⟨_, rfl, HO2.out⟩, ⟨[_], Nat.le_refl _, HUN.out, _, HW2.out⟩, HB2.out⟩

set_option maxRecDepth 100000 in
set_option maxHeartbeats 3200000 in
theorem doPut (w : World) (lo g B : Nat) (xs : List En) (pv : Value) (ps : List Pc) (h : Wp w lo g B xs pv ps) (z v : Int) (hz : 1 ≤ z ∧ z ≤ 9999) (hri : Ri xs) (hl11 : xs.length ≤ 11) (hv : 0 ≤ v ∧ v ≤ 999999) (hp : ps.length ≤ 15) :
    Calls Try.prog 128 #[.pointer (some ⟨g, 0, none⟩), .agg #[.int .i64 2, .int .i64 z, .int .i64 v]] w fun e w' => VQ w.heap.size [] (if z ∈ ks xs ∨ xs.length ≠ 11 then 0 else 7) w' e ∧ DQ lo g B xs (if z ∈ ks xs ∨ xs.length ≠ 11 then pu xs z v else xs) ps w' ∧ Bl lo g B pv w w' := by
  have hlo := wp_lo h
  obtain ⟨U, e1, hb, hsz, X⟩ := Box3.box3 w 159 (.int .i64 2) (.int .i64 z) (.int .i64 v)
  have HWU := Lib.hid (h.below hb)
  have HBU := Lib.hid (Bl.of (g := g) (B := B) (pv := pv) hb hlo)
  have HSZ := Lib.hid (show w.heap.size ≤ U.heap.size from hb.size)
  have hl : ∀ n, (Instr.lookup 137 (.map (some B)) (.int .i64 z) true).run Try.prog (U.drewN n) = .ok (.tuple #[.int .i64 (vl xs z), .bool (decide (z ∈ ks xs))]) (U.drewN n) := fun n => look2 (owns_below (HWU.out.wk.own) (below_drewN (Below.refl _ _) n)) (wf_key' hz)
  have HWN := Lib.hid (fun n => HWU.out.below (below_drewN (Below.refl _ _) n))
  have HBN := Lib.hid (fun n => HBU.out.drewN n)
  obtain ⟨M, eM⟩ : ∃ M, w.heap.size = M := ⟨_, rfl⟩
  rw [eM] at X
  obtain ⟨x0, x1, x2, _, _, _⟩ := X
  have c0 := HWU.out.wk.c0
  have hpc : pc_ xs z v = if z ∈ ks xs ∨ xs.length ≠ 11 then 0 else 7 := by unfold pc_; rw [if_pos hv.2]
  have HPT := Lib.hid (fun n => put (U.drewN n) lo g B xs pv ps (HWN.out n) hri hl11 z v (wf_key' hz) (WalkArith.wf_i64 (by omega)) (by omega))
  rw [hpc] at HPT
  have HUN := Lib.hid (und_put hri z v)
  have HLO := Lib.hid hlo
  clear hb hsz h hlo hpc
  by_cases hf : z ∈ ks xs ∨ xs.length ≠ 11
  · rw [if_pos hf, if_pos rfl, if_pos rfl] at HPT
    rw [if_pos hf, if_pos hf]
    clear hf
    generalize decide (z ∈ ks xs) = t at *
    generalize vl xs z = V at *
    generalize pu xs z v = ys at *
    go_enter Try.func128, Try.ntmps128
    go_wp2
    clear e1 eM
    go_quiet (fail)
    go_wp2_with fail
    refine (HPT.out nq).mono ?_
    rintro e u ⟨rfl, ⟨pv1, hw⟩, hb1⟩
    have HB1 := Lib.hid ((HBN.out nq).trans hb1)
    have HW1 := Lib.hid hw
    clear hw hb1
    go_wp2_with fail
    go_ret2
    exact ⟨⟨_, rfl, none_own _ _⟩, ⟨[_], Nat.le_refl _, HUN.out, _, HW1.out⟩, HB1.out⟩
  · rw [if_neg hf, if_neg (by decide), if_neg (by decide)] at HPT
    rw [if_neg hf, if_neg hf]
    clear hf
    generalize decide (z ∈ ks xs) = t at *
    generalize vl xs z = V at *
    go_enter Try.func128, Try.ntmps128
    go_wp2
    clear e1 eM
    go_quiet (fail)
    go_wp2_with fail
    refine (HPT.out nq).mono ?_
    rintro e u ⟨rfl, ⟨pv1, hw⟩, hb1⟩
    have HB1 := Lib.hid ((HBN.out nq).trans hb1)
    have HW1 := Lib.hid hw
    clear hw hb1
    go_wp2_with fail
    go_ret2
    exact ⟨⟨_, rfl, none_own _ _⟩, DQ.same HW1.out, HB1.out⟩

set_option maxRecDepth 100000 in
set_option maxHeartbeats 3200000 in
theorem doCheck (w : World) (lo g B : Nat) (xs : List En) (pv : Value) (ps : List Pc) (h : Wp w lo g B xs pv ps) (z v : Int) (hz : 1 ≤ z ∧ z ≤ 9999) :
    Calls Try.prog 128 #[.pointer (some ⟨g, 0, none⟩), .agg #[.int .i64 4, .int .i64 z, .int .i64 v]] w fun e w' => VQ w.heap.size [] (if z ∈ ks xs ∧ vl xs z = v then 0 else 14) w' e ∧ DQ lo g B xs xs ps w' ∧ Bl lo g B pv w w' := by
  have hlo := wp_lo h
  obtain ⟨U, e1, hb, hsz, X⟩ := Box3.box3 w 159 (.int .i64 4) (.int .i64 z) (.int .i64 v)
  have HWU := Lib.hid (h.below hb)
  have HBU := Lib.hid (Bl.of (g := g) (B := B) (pv := pv) hb hlo)
  have HSZ := Lib.hid (show w.heap.size ≤ U.heap.size from hb.size)
  have hl : ∀ n, (Instr.lookup 137 (.map (some B)) (.int .i64 z) true).run Try.prog (U.drewN n) = .ok (.tuple #[.int .i64 (vl xs z), .bool (decide (z ∈ ks xs))]) (U.drewN n) := fun n => look2 (owns_below (HWU.out.wk.own) (below_drewN (Below.refl _ _) n)) (wf_key' hz)
  have HWN := Lib.hid (fun n => HWU.out.below (below_drewN (Below.refl _ _) n))
  have HBN := Lib.hid (fun n => HBU.out.drewN n)
  obtain ⟨M, eM⟩ : ∃ M, w.heap.size = M := ⟨_, rfl⟩
  rw [eM] at X
  obtain ⟨x0, x1, x2, _, _, _⟩ := X
  have c0 := HWU.out.wk.c0
  clear hb hsz h hlo
  by_cases ht : z ∈ ks xs
  case neg =>
    rw [if_neg (show ¬ (z ∈ ks xs ∧ vl xs z = v) from fun h => ht h.1)]
    rw [decide_eq_false ht] at hl
    clear ht
    generalize vl xs z = V at *
    go_enter Try.func128, Try.ntmps128
    go_wp2
    clear e1 eM
    go_quiet (fail)
    go_wp2
    go_ret2
    exact ⟨⟨_, rfl, none_own _ _⟩, DQ.same (HWN.out _), HBN.out _⟩
  rw [decide_eq_true ht] at hl
  by_cases hv : vl xs z = v
  · rw [if_pos (show z ∈ ks xs ∧ vl xs z = v from ⟨ht, hv⟩)]
    rw [hv] at hl
    have b1 : (v != v) = false := by simp
    clear ht hv
    go_enter Try.func128, Try.ntmps128
    go_wp2
    clear e1 eM
    go_quiet (fail)
    go_wp2
    go_ret2
    exact ⟨⟨_, rfl, none_own _ _⟩, DQ.same (HWN.out _), HBN.out _⟩
  · rw [if_neg (show ¬ (z ∈ ks xs ∧ vl xs z = v) from fun h => hv h.2)]
    generalize vl xs z = V at *
    have b1 : (V != v) = true := bne_iff_ne.2 hv
    have b2 : decide (V ≠ v) = true := decide_eq_true hv
    clear ht hv
    go_enter Try.func128, Try.ntmps128
    go_wp2
    clear e1 eM
    go_quiet (fail)
    go_wp2
    go_ret2
    exact ⟨⟨_, rfl, none_own _ _⟩, DQ.same (HWN.out _), HBN.out _⟩

set_option maxRecDepth 100000 in
set_option maxHeartbeats 3200000 in
theorem doAdd (w : World) (lo g B : Nat) (xs : List En) (pv : Value) (ps : List Pc) (h : Wp w lo g B xs pv ps) (z v : Int) (hz : 1 ≤ z ∧ z ≤ 9999) (hri : Ri xs) (hkv : ∀ x ∈ xs, Kv x) (hl11 : xs.length ≤ 11) (hv : 0 ≤ v ∧ v ≤ 999999) (hp : ps.length ≤ 15) :
    Calls Try.prog 128 #[.pointer (some ⟨g, 0, none⟩), .agg #[.int .i64 5, .int .i64 z, .int .i64 v]] w fun e w' => VQ w.heap.size (if (z ∈ ks xs ∨ xs.length ≠ 11) ∧ vl xs z + v ≤ 999999 then [vl xs z + v] else []) (if z ∈ ks xs ∨ xs.length ≠ 11 then (if vl xs z + v ≤ 999999 then 0 else 4) else 7) w' e ∧ DQ lo g B xs (if (z ∈ ks xs ∨ xs.length ≠ 11) ∧ vl xs z + v ≤ 999999 then pu xs z (vl xs z + v) else xs) ps w' ∧ Bl lo g B pv w w' := by
  have hlo := wp_lo h
  obtain ⟨U, e1, hb, hsz, X⟩ := Box3.box3 w 159 (.int .i64 5) (.int .i64 z) (.int .i64 v)
  have HWU := Lib.hid (h.below hb)
  have HBU := Lib.hid (Bl.of (g := g) (B := B) (pv := pv) hb hlo)
  have HSZ := Lib.hid (show w.heap.size ≤ U.heap.size from hb.size)
  have hl : ∀ n, (Instr.lookup 137 (.map (some B)) (.int .i64 z) true).run Try.prog (U.drewN n) = .ok (.tuple #[.int .i64 (vl xs z), .bool (decide (z ∈ ks xs))]) (U.drewN n) := fun n => look2 (owns_below (HWU.out.wk.own) (below_drewN (Below.refl _ _) n)) (wf_key' hz)
  have HWN := Lib.hid (fun n => HWU.out.below (below_drewN (Below.refl _ _) n))
  have HBN := Lib.hid (fun n => HBU.out.drewN n)
  obtain ⟨M, eM⟩ : ∃ M, w.heap.size = M := ⟨_, rfl⟩
  rw [eM] at X
  obtain ⟨x0, x1, x2, _, _, _⟩ := X
  have c0 := HWU.out.wk.c0
  have hvk := vl_kv hkv z
  have HPT := Lib.hid (fun n => put (U.drewN n) lo g B xs pv ps (HWN.out n) hri hl11 z (vl xs z + v) (wf_key' hz) (WalkArith.wf_i64 (by omega)) (by omega))
  have HPC := Lib.hid (show pc_ xs z (vl xs z + v) = if z ∈ ks xs ∨ xs.length ≠ 11 then (if vl xs z + v ≤ 999999 then 0 else 4) else 7 from rfl)
  have HUN := Lib.hid (und_put hri z (vl xs z + v))
  have HLO := Lib.hid hlo
  clear hb hsz h hlo
  generalize pc_ xs z (vl xs z + v) = C at *
  by_cases hc : (z ∈ ks xs ∨ xs.length ≠ 11) ∧ vl xs z + v ≤ 999999
  · obtain rfl : C = 0 := by rw [HPC.out, if_pos hc.1, if_pos hc.2]
    rw [if_pos rfl, if_pos rfl] at HPT
    rw [if_pos hc, if_pos hc, if_pos hc.1, if_pos hc.2]
    clear hc HPC
    generalize decide (z ∈ ks xs) = t at *
    generalize pu xs z (vl xs z + v) = ys at *
    generalize vl xs z = V at *
    go_enter Try.func128, Try.ntmps128
    go_wp2
    clear e1 eM
    go_quiet (fail)
    go_wp2_with fail
    refine (HPT.out nq).mono ?_
    rintro e u ⟨rfl, ⟨pv1, hw⟩, hb1⟩
    have HB1 := Lib.hid ((HBN.out nq).trans hb1)
    have HS1 := Lib.hid (show w.heap.size ≤ u.heap.size from Nat.le_trans HSZ.out hb1.size)
    obtain ⟨U2, e2, hb2, ho2⟩ := lit1 u (V + v)
    have HO2 := Lib.hid (ho2.base HS1.out)
    have HB2 := Lib.hid (HB1.out.trans (Bl.of hb2 (Nat.le_trans HLO.out HS1.out)))
    have HW2 := Lib.hid (hw.below hb2)
    clear hb2 ho2 hw hb1
    go_wp2
    go_ret2
    exact ⟨⟨_, rfl, HO2.out⟩, ⟨[_], Nat.le_refl _, HUN.out, _, HW2.out⟩, HB2.out⟩
  · have hC : C ≠ 0 := by
      rw [HPC.out]
      by_cases h1 : z ∈ ks xs ∨ xs.length ≠ 11
      · rw [if_pos h1]
        by_cases h2 : vl xs z + v ≤ 999999
        · exact absurd ⟨h1, h2⟩ hc
        · rw [if_neg h2]; decide
      · rw [if_neg h1]; decide
    rw [if_neg hC, if_neg hC] at HPT
    rw [if_neg hc, if_neg hc, ← HPC.out]
    have b1 : (C != 0) = true := bne_iff_ne.2 hC
    have b2 : decide (C ≠ 0) = true := decide_eq_true hC
    clear hc HPC hC
    generalize decide (z ∈ ks xs) = t at *
    generalize vl xs z = V at *
    go_enter Try.func128, Try.ntmps128
    go_wp2
    clear e1 eM
    go_quiet (fail)
    go_wp2_with fail
    refine (HPT.out nq).mono ?_
    rintro e u ⟨rfl, ⟨pv1, hw⟩, hb1⟩
    have HB1 := Lib.hid ((HBN.out nq).trans hb1)
    have HW1 := Lib.hid hw
    clear hw hb1
    go_wp2_with fail
    go_ret2
    exact ⟨⟨_, rfl, none_own _ _⟩, DQ.same HW1.out, HB1.out⟩

set_option maxRecDepth 100000 in
set_option maxHeartbeats 3200000 in
theorem doScan (w : World) (lo g B : Nat) (xs : List En) (pv : Value) (ps : List Pc) (h : Wp w lo g B xs pv ps) (z v : Int) (hz : 1 ≤ z ∧ z ≤ 9999) (hri : Ri xs) (hkv : ∀ x ∈ xs, Kv x) (hl11 : xs.length ≤ 11) (hv : 1 ≤ v ∧ v ≤ 4) :
    Calls Try.prog 128 #[.pointer (some ⟨g, 0, none⟩), .agg #[.int .i64 6, .int .i64 z, .int .i64 v]] w fun e w' => VQ w.heap.size (sc xs z v) 0 w' e ∧ DQ lo g B xs xs ps w' ∧ Bl lo g B pv w w' := by
  have hlo := wp_lo h
  obtain ⟨U, e1, hb, hsz, X⟩ := Box3.box3 w 159 (.int .i64 6) (.int .i64 z) (.int .i64 v)
  have HWU := Lib.hid (h.below hb)
  have HBU := Lib.hid (Bl.of (g := g) (B := B) (pv := pv) hb hlo)
  have HSZ := Lib.hid (show w.heap.size ≤ U.heap.size from hb.size)
  have hl : ∀ n, (Instr.lookup 137 (.map (some B)) (.int .i64 z) true).run Try.prog (U.drewN n) = .ok (.tuple #[.int .i64 (vl xs z), .bool (decide (z ∈ ks xs))]) (U.drewN n) := fun n => look2 (owns_below (HWU.out.wk.own) (below_drewN (Below.refl _ _) n)) (wf_key' hz)
  have HWN := Lib.hid (fun n => HWU.out.below (below_drewN (Below.refl _ _) n))
  have HBN := Lib.hid (fun n => HBU.out.drewN n)
  obtain ⟨M, eM⟩ : ∃ M, w.heap.size = M := ⟨_, rfl⟩
  rw [eM] at X
  obtain ⟨x0, x1, x2, _, _, _⟩ := X
  have c0 := HWU.out.wk.c0
  obtain ⟨m, rfl⟩ : ∃ m : Nat, v = m := ⟨v.toNat, by omega⟩
  have HSC := Lib.hid (fun n => scan (U.drewN n) lo g B xs pv (HWN.out n).wk hri hkv hl11 z m (by omega))
  have HLS := Lib.hid (show (sc xs z (m : Int)).length = 2 * m by rw [sc_len _ _ _ (by omega)]; rfl)
  have HLO := Lib.hid hlo
  clear hb hsz h hlo
  generalize decide (z ∈ ks xs) = t at *
  generalize vl xs z = V at *
  go_enter Try.func128, Try.ntmps128
  go_wp2
  clear e1 eM
  go_quiet (fail)
  go_wp2_with fail
  refine (HSC.out nq).mono ?_
  rintro e u ⟨v1, rfl, ho, hb1⟩
  obtain ⟨a1, cap1, rfl, _, _⟩ := ho.sl.form
  have HO1 := Lib.hid (ho.base (show w.heap.size ≤ (U.drewN nq).heap.size from HSZ.out))
  have HB1 := Lib.hid ((HBN.out nq).trans (Bl.of hb1 (Nat.le_trans HLO.out HSZ.out)))
  have HW1 := Lib.hid ((HWN.out nq).below hb1)
  clear ho hb1
  go_wp2_with fail
  go_ret2
  exact ⟨⟨_, rfl, by rw [HLS.out]; exact HO1.out⟩, DQ.same HW1.out, HB1.out⟩
end Go.Proofs.Ytealdpkgfmokpaa.DoI
