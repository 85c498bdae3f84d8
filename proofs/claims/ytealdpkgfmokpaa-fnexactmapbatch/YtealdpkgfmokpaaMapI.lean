/-
  What is proved: the program's changes of a map under way: what was is remembered, a key is put, a key is dropped (contracts for the walks).
-/
import Derived.Test.YtealdpkgfmokpaaRows
import Derived.Test.YtealdpkgfmokpaaMapW
import Derived.Test.YtealdpkgfmokpaaMapD
namespace Go.Proofs.Ytealdpkgfmokpaa.MapI
open Go.ChangeShapes Go.WideShapes Go.ChangeAt Go.RowKit Go.Maps
open Sl (Sl Own Off)
open Dev Orm LawE MapP MapOk OtB MapW MapD
set_option linter.unusedVariables false

/-- What was ahead of a change. -/
abbrev Pc := Int × Int × Bool
def pcl (p : Pc) : List Value := [.int .i64 p.1, .int .i64 p.2.1, .bool p.2.2]
def pcs (ps : List Pc) : List Value := ps.flatMap pcl
theorem pcs_snoc (ps : List Pc) (p : Pc) : pcs (ps ++ [p]) = pcs ps ++ pcl p := by unfold pcs; rw [List.flatMap_append]; simp
theorem pcs_len (ps : List Pc) : (pcs ps).length = ps.length * 3 := by
  induction ps with
  | nil => rfl
  | cons p r ih => show (pcl p ++ pcs r).length = _; rw [List.length_append, ih, List.length_cons]; show 3 + _ = _; omega
theorem infoP : (Try.prog.info? 192).map (fun i => (i.zero, i.size, i.bytes)) = some (some (.agg #[.int .i64 0, .int .i64 0, .bool false]), 3, 24) := by kernel_rfl
theorem row_form {w : World} {base : Nat} {e : TypeId} {sz : Nat} {v : Value} {n : Nat} {xs : List Value} (h : w.ownsRow base e sz v n xs) : ∃ a cap, v = .slice a n cap := by
  obtain ⟨_, ⟨rfl, rfl⟩ | ⟨g, cap, cur, rfl, _⟩⟩ := h
  · exact ⟨_, _, rfl⟩
  · exact ⟨_, _, rfl⟩
structure Wp (w : World) (lo g B : Nat) (xs : List En) (pv : Value) (ps : List Pc) : Prop where
  wk : Wk w lo g B xs pv
  row : w.ownsRow lo 192 3 pv ps.length (pcs ps)
  wf : ∀ p ∈ ps, (Lit.int .i64 p.1).wf = true ∧ (Lit.int .i64 p.2.1).wf = true
/-- .. whatever the past's place. -/
def Lf (lo g B : Nat) (xs : List En) (ps : List Pc) (w : World) : Prop := ∃ pv, Wp w lo g B xs pv ps
theorem Wp.below {w w' : World} {lo g B : Nat} {xs : List En} {pv : Value} {ps : List Pc} (h : Wp w lo g B xs pv ps) (hb : Below w.heap.size w w') : Wp w' lo g B xs pv ps :=
  ⟨h.wk.below hb, Cop.row_below h.row hb, h.wf⟩
theorem map_ne {w : World} {B q n : Nat} {T : TypeId} {D : DataW Unit} (h : owns w B n D) (h' : Ty w q T) : q ≠ B := by
  rintro rfl
  obtain ⟨es, clock, hb, _⟩ := h
  obtain ⟨c, fr, h2⟩ := h'
  rw [hb] at h2
  cases h2
theorem Wp.none {w : World} {lo g B : Nat} {xs : List En} (h : Wk w lo g B xs (.slice none 0 0)) : Wp w lo g B xs (.slice none 0 0) [] :=
  ⟨h, ⟨rfl, .inl ⟨rfl, rfl⟩⟩, fun p hp => by simp at hp⟩
theorem ne_pw : 192 ≠ 167 := by decide
/-- The past's block is neither the struct's nor the map's. -/
theorem Wp.apart {w : World} {lo g B : Nat} {xs : List En} {pv : Value} {ps : List Pc} (h : Wp w lo g B xs pv ps) : ∀ q, pv.ownBlock = some q → q ≠ g ∧ q ≠ B := fun q hq =>
  ⟨ty_ne (row_ty h.row q hq) h.wk.ty ne_pw, map_ne h.wk.own (row_ty h.row q hq)⟩
theorem wk_grown {w w' : World} {lo g B : Nat} {xs : List En} {pv : Value} (h : Wk w lo g B xs pv) {r : Option Nat} (hg : w.grownBy w' r) (hr : ∀ q, r = some q → q ≠ g ∧ q ≠ B) : Wk w' lo g B xs pv :=
  have e := hg.block g h.gt (fun e => (hr g e.symm).1 rfl)
  ⟨(World.cell?_of_block (w := w) e).trans h.c0, (World.cell?_of_block (w := w) e).trans h.c1, (World.frozen?_of_block (w := w) e).trans h.f0, (World.frozen?_of_block (w := w) e).trans h.f1,
   h.own.kept hg (fun e => (hr B e.symm).2 rfl), h.lg, h.lb, h.ne, by obtain ⟨c, fr, h2⟩ := h.ty; exact ⟨c, fr, e.trans h2⟩⟩
theorem wk_set {w : World} {lo g B : Nat} {xs : List En} {pv : Value} (h : Wk w lo g B xs pv) (v : Value) : Wk (w.setCell ⟨g, 1, none⟩ v) lo g B xs v :=
  ⟨by rw [World.cell?_setCell_other _ _ _ _ (by simp)]; exact h.c0, World.cell?_setCell_same _ _ _ h.c1, by rw [Sl.frozen_set]; exact h.f0, by rw [Sl.frozen_set]; exact h.f1,
   h.own.setCell (fun e => h.ne e.symm) v, h.lg, h.lb, h.ne, ty_set h.ty 1 v⟩
theorem below_grown {u w' w : World} {r : Option Nat} (h : u.grownBy w' r) {lo : Nat} (hr : ∀ q, r = some q → lo ≤ q) (hlo : lo ≤ u.heap.size) (hb : Below lo w u) : Below lo w w' :=
  ⟨h.os.trans hb.os, h.tape.trans hb.tape, h.output.trans hb.output, Nat.le_trans hb.size h.size, fun i hi => (h.block i (Nat.lt_of_lt_of_le hi hlo) (fun e => by have := hr i e.symm; omega)).trans (hb.block i hi)⟩

/-- What a change of a map under way may turn: its struct, its map, what is remembered, and what is new. -/
structure Bl (lo g B : Nat) (pv : Value) (w w' : World) : Prop where
  bel : Below lo w w'
  oth : ∀ q, q < w.heap.size → q ≠ g → q ≠ B → pv.ownBlock ≠ some q → w'.heap[q]? = w.heap[q]?
theorem Bl.size {lo g B : Nat} {pv : Value} {w w' : World} (h : Bl lo g B pv w w') : w.heap.size ≤ w'.heap.size := h.bel.size
theorem Bl.refl (lo g B : Nat) (pv : Value) (w : World) : Bl lo g B pv w w := ⟨Below.refl _ _, fun _ _ _ _ _ => rfl⟩
theorem Bl.of {lo g B : Nat} {pv : Value} {w w' : World} (h : Below w.heap.size w w') (hlo : lo ≤ w.heap.size) : Bl lo g B pv w w' := ⟨h.mono hlo, fun q hq _ _ _ => h.block q hq⟩
theorem Bl.trans {lo g B : Nat} {pv : Value} {a b c : World} (h : Bl lo g B pv a b) (k : Bl lo g B pv b c) : Bl lo g B pv a c :=
  ⟨h.bel.trans k.bel, fun q hq h1 h2 h3 => (k.oth q (Nat.lt_of_lt_of_le hq h.size) h1 h2 h3).trans (h.oth q hq h1 h2 h3)⟩
theorem Bl.drewN {lo g B : Nat} {pv : Value} {a b : World} (h : Bl lo g B pv a b) (n : Nat) : Bl lo g B pv a (b.drewN n) := ⟨below_drewN h.bel n, h.oth⟩
theorem Bl.set {lo g B : Nat} {pv : Value} {a b : World} (h : Bl lo g B pv a b) (hlo : lo ≤ g) (j : Nat) (v : Value) : Bl lo g B pv a (b.setCell ⟨g, j, none⟩ v) :=
  ⟨h.bel.setCell (p := ⟨g, j, none⟩) hlo v, fun q hq h1 h2 h3 => (Below.heap_setCell b _ v q h1).trans (h.oth q hq h1 h2 h3)⟩
theorem Bl.grown {lo g B : Nat} {pv : Value} {a b c : World} (h : Bl lo g B pv a b) {r : Option Nat} (k : b.grownBy c r) (hlo : lo ≤ b.heap.size) (hr : ∀ q, r = some q → lo ≤ q ∧ (q = g ∨ q = B ∨ pv.ownBlock = some q ∨ a.heap.size ≤ q)) : Bl lo g B pv a c :=
  ⟨below_grown k (fun q e => (hr q e).1) hlo h.bel, fun q hq h1 h2 h3 => (k.block q (Nat.lt_of_lt_of_le hq h.size) (fun e => by
    rcases (hr q e.symm).2 with h5 | h5 | h5 | h5
    · exact h1 h5
    · exact h2 h5
    · exact h3 h5
    · omega)).trans (h.oth q hq h1 h2 h3)⟩

set_option maxRecDepth 100000 in
set_option maxHeartbeats 1600000 in
theorem remember (w : World) (lo g B : Nat) (xs : List En) (pv : Value) (ps : List Pc) (h : Wp w lo g B xs pv ps) (z : Int) (hz : (Lit.int .i64 z).wf = true) (hp : ps.length ≤ 16) :
    Calls Try.prog 160 #[.pointer (some ⟨g, 0, none⟩), .int .i64 z] w fun e w' => e = .returned (.tuple #[]) ∧ Lf lo g B xs (ps ++ [(z, vl xs z, decide (z ∈ ks xs))]) w' ∧ Bl lo g B pv w w' := by
  have hlo : lo ≤ w.heap.size := by have := h.wk.lg; have := h.wk.gt; omega
  have HLO := Lib.hid hlo
  have HW := Lib.hid h
  have c0 := h.wk.c0
  have HO := Lib.hid h.wk.own
  have HKEY := Lib.hid (keyOf_int_mk Try.underlying3 hz)
  have HZW := Lib.hid hz
  have HAT := Lib.hid (dm_at xs z)
  have HHAS := Lib.hid (dm_has xs z)
  obtain ⟨t, et⟩ : ∃ t, decide (z ∈ ks xs) = t := ⟨_, rfl⟩
  obtain ⟨V, eV⟩ : ∃ V, vl xs z = V := ⟨_, rfl⟩
  rw [et] at HHAS ⊢
  rw [eV] at HAT ⊢
  obtain ⟨U, eU, hbU, hsz, X⟩ := Box3.box3 w 192 (.int .i64 z) (.int .i64 V) (.bool t)
  have HU := Lib.hid (h.below hbU)
  have HBU := Lib.hid (Bl.of (g := g) (B := B) (pv := pv) hbU hlo)
  have HSZ := Lib.hid (Nat.le_trans hlo hbU.size)
  obtain ⟨M, eM⟩ : ∃ M, w.heap.size = M := ⟨_, rfl⟩
  rw [eM] at X
  have HN := Lib.hid (show ∀ j u, (pcl (z, V, t))[j]? = some u → U.cell? ((⟨M, 0, none⟩ : Addr).add j) = some u from fun j u hj => by
    match j, hj with
    | 0, hj => obtain rfl : Value.int .i64 z = u := by simpa [pcl] using hj
               exact X.c0
    | 1, hj => obtain rfl : Value.int .i64 V = u := by simpa [pcl] using hj
               exact X.c1
    | 2, hj => obtain rfl : Value.bool t = u := by simpa [pcl] using hj
               exact X.c2
    | j + 3, hj => simp [pcl] at hj)
  have c1 := h.wk.c1
  clear et eV hbU hsz h hlo X
  obtain ⟨i0, hi0, hz0, hz1, hz2⟩ := info_parts infoP
  have HP1 := Lib.hid (pcs_snoc ps (z, V, t))
  have hm2 : ps.length + 1 ≤ maxLen := by unfold maxLen; omega
  have hy2 : (ps.length + 1) * 24 ≤ 140737488355328 := by omega
  have ho1 : ∀ u ∈ pcl (z, V, t), u.oneCell' = true := by intro u hu; simp [pcl] at hu; rcases hu with rfl | rfl | rfl <;> rfl
  go_enter Try.func160, Try.ntmps160
  go_wp2_with (first
    | (at_lookup; refine wpList_lookup_own_ok_int _ rfl _ _ 137 rfl 3 3 .i64 law3 Try.underlying137 Try.underlying3 (zero3 _) B xs.length (dm xs) rfl HO.out _ _ rfl HKEY.out ?_; intro c hat hwc; rw [HHAS.out]; obtain rfl : c = V := (by have := hat.symm.trans HAT.out; injection this with h1; injection h1); have HWC := Lib.hid hwc; clear hat)
    | (at_builtin; refine wpList_append_own _ rfl (.tmp 19) (.tmp 24) 165 rfl lo 192 i0 _ 3 24 Try.underlying165 hi0 hz0 hz1 hz2 rfl (by omega) pv ps.length (pcs ps) (by simp [Act.eval]) HU.out.row ⟨M, 0, none⟩ 1 1 _ (by simp [Act.eval]) rfl HN.out ho1 hm2 hy2 HSZ.out ?_; intro v' w' hrow hgr _; obtain ⟨a', cap', rfl⟩ := row_form hrow; have HK := Lib.hid (wk_grown HU.out.wk hgr HU.out.apart); have HB2 := Lib.hid (HBU.out.grown hgr HSZ.out (fun q hq => ⟨(World.ownsRow.lt HU.out.row q hq).1, .inr (.inr (.inl hq))⟩)); have HR := Lib.hid hrow; have d1 := HK.out.c1; have g1 := HK.out.f1; clear hrow hgr))
  go_end0
  have HR2 := HR.out
  rw [← HP1.out] at HR2
  refine ⟨rfl, ⟨.slice a' (ps.length + 1) cap', wk_set HK.out _, ?_, fun p hp => ?_⟩, (HB2.out).set HK.out.lg _ _⟩
  rotate_left
  · rcases List.mem_append.1 hp with hp | hp
    · exact HU.out.wf p hp
    · obtain rfl := List.mem_singleton.1 hp
      exact ⟨HZW.out, HWC.out⟩
  rw [List.length_append]
  exact Cop.row_set_ne HR2 (fun q hq => ty_ne (row_ty HR2 q hq) HK.out.ty ne_pw) _ _
theorem wk_map {w w' : World} {lo g B n : Nat} {xs ys : List En} {pv : Value} (h : Wk w lo g B xs pv) (hg : w.grownBy w' (some B)) (ho : owns w' B n (dm ys)) : Wk w' lo g B ys pv :=
  have e := hg.block g h.gt (fun e => h.ne (by injection e))
  ⟨(World.cell?_of_block (w := w) e).trans h.c0, (World.cell?_of_block (w := w) e).trans h.c1, (World.frozen?_of_block (w := w) e).trans h.f0, (World.frozen?_of_block (w := w) e).trans h.f1,
   owns_tight ho, h.lg, h.lb, h.ne, by obtain ⟨c, fr, h2⟩ := h.ty; exact ⟨c, fr, e.trans h2⟩⟩
theorem wp_map {w w' : World} {lo g B n : Nat} {xs ys : List En} {pv : Value} {ps : List Pc} (h : Wp w lo g B xs pv ps) (hg : w.grownBy w' (some B)) (ho : owns w' B n (dm ys)) : Wp w' lo g B ys pv ps :=
  ⟨wk_map h.wk hg ho, h.row.kept hg (.inr fun e => (h.apart B e).2 rfl), h.wf⟩
theorem wp_lo {w : World} {lo g B : Nat} {xs : List En} {pv : Value} {ps : List Pc} (h : Wp w lo g B xs pv ps) : lo ≤ w.heap.size := by
  have := h.wk.lg; have := h.wk.gt; omega

set_option maxRecDepth 100000 in
set_option maxHeartbeats 1600000 in
theorem drop (w : World) (lo g B : Nat) (xs : List En) (pv : Value) (ps : List Pc) (h : Wp w lo g B xs pv ps) (z : Int) (hz : (Lit.int .i64 z).wf = true) (hp : ps.length ≤ 16) :
    Calls Try.prog 150 #[.pointer (some ⟨g, 0, none⟩), .int .i64 z] w fun e w' => e = .returned (.tuple #[]) ∧ Lf lo g B (dl xs z) (ps ++ [(z, vl xs z, decide (z ∈ ks xs))]) w' ∧ Bl lo g B pv w w' := by
  have HR := Lib.hid (remember w lo g B xs pv ps h z hz hp)
  have HKEY := Lib.hid (keyOf_int_mk Try.underlying3 hz)
  have HD := Lib.hid (dm_del xs z)
  generalize ps ++ [(z, vl xs z, decide (z ∈ ks xs))] = ps1 at *
  clear h
  go_enter Try.func150, Try.ntmps150
  go_wp2_with fail
  refine HR.out.mono ?_
  rintro e w1 ⟨rfl, ⟨pv1, hw⟩, hb⟩
  have HW := Lib.hid hw
  have HB := Lib.hid hb
  have c0 := hw.wk.c0
  clear hw hb
  go_wp2_with (at_delete; refine wpList_delete_own _ rfl _ _ 137 3 rfl 3 law3 Try.underlying137 (plainElem Try.prog 3) B xs.length (dm xs) rfl HW.out.wk.own _ _ rfl HKEY.out ?_; intro w2 hown hturn; rw [HD.out] at hown; have HW2 := Lib.hid (wp_map HW.out hturn.grown hown); have HB2 := Lib.hid (HB.out.grown hturn.grown (wp_lo HW.out) (fun q hq => by cases hq; exact ⟨HW.out.wk.lb, .inr (.inl rfl)⟩)); clear hown hturn)
  go_end0
  exact ⟨rfl, ⟨_, HW2.out⟩, HB2.out⟩

/-- A put's code. -/
def pc_ (xs : List En) (z v : Int) : Int := if z ∈ ks xs ∨ xs.length ≠ 11 then (if v ≤ 999999 then 0 else 4) else 7
set_option maxRecDepth 100000 in
set_option maxHeartbeats 1600000 in
theorem put (w : World) (lo g B : Nat) (xs : List En) (pv : Value) (ps : List Pc) (h : Wp w lo g B xs pv ps) (hri : Ri xs) (hl : xs.length ≤ 11) (z v : Int) (hz : (Lit.int .i64 z).wf = true) (hv : (Lit.int .i64 v).wf = true) (hp : ps.length ≤ 16) :
    Calls Try.prog 149 #[.pointer (some ⟨g, 0, none⟩), .int .i64 z, .int .i64 v] w fun e w' => e = .returned (.int .i64 (pc_ xs z v)) ∧ Lf lo g B (if pc_ xs z v = 0 then pu xs z v else xs) (if pc_ xs z v = 0 then ps ++ [(z, vl xs z, decide (z ∈ ks xs))] else ps) w' ∧ Bl lo g B pv w w' := by
  have HR := Lib.hid (remember w lo g B xs pv ps h z hz hp)
  have HW := Lib.hid h
  have HKEY := Lib.hid (keyOf_int_mk Try.underlying3 hz)
  have HVAL := Lib.hid (plainElem_int (H := Unit) Try.underlying3 hv)
  have HP := Lib.hid (dm_put hri z v)
  have HHAS := Lib.hid (dm_has xs z)
  have HSIZ := Lib.hid (dm_size xs)
  have HML := Lib.hid (show xs.length < maxLen by unfold maxLen; omega)
  have HPC := Lib.hid (show pc_ xs z v = if z ∈ ks xs ∨ xs.length ≠ 11 then (if v ≤ 999999 then 0 else 4) else 7 from rfl)
  have c0 := h.wk.c0
  generalize ps ++ [(z, vl xs z, decide (z ∈ ks xs))] = ps1 at *
  generalize pc_ xs z v = C at *
  obtain ⟨n, en⟩ : ∃ n, xs.length = n := ⟨_, rfl⟩
  have hlen := World.ownsMap.len h.wk.own Try.underlying137 3
  rw [dm_size, en] at hlen
  rw [en] at HSIZ HPC hl
  clear hri h en
  by_cases hf : z ∈ ks xs ∨ n ≠ 11
  case neg =>
    obtain rfl : C = 7 := by rw [HPC.out, if_neg hf]
    have hn1 : ¬ z ∈ ks xs := fun h => hf (.inl h)
    have hn2 : n = 11 := by omega
    rw [decide_eq_false hn1] at HHAS
    clear hf hn1
    subst hn2
    go_enter Try.func149, Try.ntmps149
    go_wp2_with (first
      | (at_lookup; refine wpList_lookup_own_ok_int _ rfl _ _ 137 rfl 3 3 .i64 law3 Try.underlying137 Try.underlying3 (zero3 _) B xs.length (dm xs) rfl HW.out.wk.own _ _ rfl HKEY.out ?_; intro c hat hwc; rw [HHAS.out])
      | (at_len; refine wpList_len_own _ rfl _ 137 rfl 3 3 Try.underlying137 _ B xs.length (dm xs) rfl HW.out.wk.own ?_; rw [HSIZ.out]))
    go_ret
    exact ⟨rfl, ⟨_, HW.out⟩, Bl.refl _ _ _ _ _⟩
  by_cases hv9 : v ≤ 999999
  case neg =>
    obtain rfl : C = 4 := by rw [HPC.out, if_pos hf, if_neg hv9]
    have v1 : decide (v > 999999) = true := decide_eq_true (by omega)
    clear HPC
    by_cases hz1 : z ∈ ks xs
    · rw [decide_eq_true hz1] at HHAS
      clear hf hz1 hv9
      go_enter Try.func149, Try.ntmps149
      go_wp2_with (first
        | (at_lookup; refine wpList_lookup_own_ok_int _ rfl _ _ 137 rfl 3 3 .i64 law3 Try.underlying137 Try.underlying3 (zero3 _) B xs.length (dm xs) rfl HW.out.wk.own _ _ rfl HKEY.out ?_; intro c hat hwc; rw [HHAS.out])
        | (at_len; refine wpList_len_own _ rfl _ 137 rfl 3 3 Try.underlying137 _ B xs.length (dm xs) rfl HW.out.wk.own ?_; rw [HSIZ.out]))
      go_ret
      exact ⟨rfl, ⟨_, HW.out⟩, Bl.refl _ _ _ _ _⟩
    · rw [decide_eq_false hz1] at HHAS
      have hn : n ≠ 11 := by rcases hf with h | h; exact absurd h hz1; exact h
      have n1 : ((n : Int) == 11) = false := beq_eq_false_iff_ne.2 (by omega)
      have n2 : decide ((n : Int) = 11) = false := decide_eq_false (by omega)
      clear hf hz1 hv9
      go_enter Try.func149, Try.ntmps149
      go_wp2_with (first
        | (at_lookup; refine wpList_lookup_own_ok_int _ rfl _ _ 137 rfl 3 3 .i64 law3 Try.underlying137 Try.underlying3 (zero3 _) B xs.length (dm xs) rfl HW.out.wk.own _ _ rfl HKEY.out ?_; intro c hat hwc; rw [HHAS.out])
        | (at_len; refine wpList_len_own _ rfl _ 137 rfl 3 3 Try.underlying137 _ B xs.length (dm xs) rfl HW.out.wk.own ?_; rw [HSIZ.out]))
      go_ret
      exact ⟨rfl, ⟨_, HW.out⟩, Bl.refl _ _ _ _ _⟩
  obtain rfl : C = 0 := by rw [HPC.out, if_pos hf, if_pos hv9]
  have v1 : decide (v > 999999) = false := decide_eq_false (by omega)
  clear HPC
  by_cases hz1 : z ∈ ks xs
  · rw [decide_eq_true hz1] at HHAS
    clear hf hz1 hv9
    go_enter Try.func149, Try.ntmps149
    go_wp2_with (first
      | (at_lookup; refine wpList_lookup_own_ok_int _ rfl _ _ 137 rfl 3 3 .i64 law3 Try.underlying137 Try.underlying3 (zero3 _) B xs.length (dm xs) rfl HW.out.wk.own _ _ rfl HKEY.out ?_; intro c hat hwc; rw [HHAS.out])
      | (at_len; refine wpList_len_own _ rfl _ 137 rfl 3 3 Try.underlying137 _ B xs.length (dm xs) rfl HW.out.wk.own ?_; rw [HSIZ.out]))
    refine HR.out.mono ?_
    rintro e w1 ⟨rfl, ⟨pv1, hw⟩, hb⟩
    have HW1 := Lib.hid hw
    have HB1 := Lib.hid hb
    have d0 := hw.wk.c0
    clear hw hb c0
    go_wp2_with (at_mapUpdate; refine wpList_mapUpdate_own _ rfl _ _ _ 137 rfl 3 3 law3 Try.underlying137 (plainElem Try.prog 3) B xs.length (dm xs) rfl HW1.out.wk.own HML.out _ _ _ rfl rfl HKEY.out _ [] HVAL.out ?_; intro w2 hown hgrow; rw [HP.out] at hown; have HW2 := Lib.hid (wp_map HW1.out hgrow hown); have HB2 := Lib.hid (HB1.out.grown hgrow (wp_lo HW1.out) (fun q hq => by cases hq; exact ⟨HW1.out.wk.lb, .inr (.inl rfl)⟩)); clear hown hgrow)
    go_ret
    exact ⟨rfl, ⟨_, HW2.out⟩, HB2.out⟩
  · rw [decide_eq_false hz1] at HHAS
    have hn : n ≠ 11 := by rcases hf with h | h; exact absurd h hz1; exact h
    have n1 : ((n : Int) == 11) = false := beq_eq_false_iff_ne.2 (by omega)
    have n2 : decide ((n : Int) = 11) = false := decide_eq_false (by omega)
    clear hf hz1 hv9
    go_enter Try.func149, Try.ntmps149
    go_wp2_with (first
      | (at_lookup; refine wpList_lookup_own_ok_int _ rfl _ _ 137 rfl 3 3 .i64 law3 Try.underlying137 Try.underlying3 (zero3 _) B xs.length (dm xs) rfl HW.out.wk.own _ _ rfl HKEY.out ?_; intro c hat hwc; rw [HHAS.out])
      | (at_len; refine wpList_len_own _ rfl _ 137 rfl 3 3 Try.underlying137 _ B xs.length (dm xs) rfl HW.out.wk.own ?_; rw [HSIZ.out]))
    refine HR.out.mono ?_
    rintro e w1 ⟨rfl, ⟨pv1, hw⟩, hb⟩
    have HW1 := Lib.hid hw
    have HB1 := Lib.hid hb
    have d0 := hw.wk.c0
    clear hw hb c0
    go_wp2_with (at_mapUpdate; refine wpList_mapUpdate_own _ rfl _ _ _ 137 rfl 3 3 law3 Try.underlying137 (plainElem Try.prog 3) B xs.length (dm xs) rfl HW1.out.wk.own HML.out _ _ _ rfl rfl HKEY.out _ [] HVAL.out ?_; intro w2 hown hgrow; rw [HP.out] at hown; have HW2 := Lib.hid (wp_map HW1.out hgrow hown); have HB2 := Lib.hid (HB1.out.grown hgrow (wp_lo HW1.out) (fun q hq => by cases hq; exact ⟨HW1.out.wk.lb, .inr (.inl rfl)⟩)); clear hown hgrow)
    go_ret
    exact ⟨rfl, ⟨_, HW2.out⟩, HB2.out⟩
end Go.Proofs.Ytealdpkgfmokpaa.MapI
