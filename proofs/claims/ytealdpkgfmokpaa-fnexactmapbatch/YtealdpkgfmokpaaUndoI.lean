/-
  What is proved: the program puts back what a map was, from the last change on (a contract for the walks).
-/
import Derived.Test.YtealdpkgfmokpaaRows
import Derived.Test.YtealdpkgfmokpaaUndoP
import Derived.RegionIn
import Derived.RangeFuncNested
import Derived.Test.YtealdpkgfmokpaaSrc
namespace Go.Proofs.Ytealdpkgfmokpaa.UndoI
open Go.ChangeShapes Go.WideShapes Go.ChangeAt Go.RowKit Go.Maps
open Dev Orm LawE MapP OtB MapW MapD MapI MapU UndoP
set_option linter.unusedVariables false
attribute [local go_sem] Oper.semAt_some

/-- The row of what is remembered, as the iterator finds it. -/
def PR (W : World) (sv : Value) (ps : List Pc) : Prop := (sv = .slice none 0 0 ∧ ps = []) ∨ ∃ b cap, sv = .slice (some ⟨b, 0, none⟩) ps.length cap ∧ ∀ k, k < ps.length → PC W b k (ps.getD k pz)
theorem pr_of {w : World} {lo : Nat} {pv : Value} {ps : List Pc} (h : w.ownsRow lo 192 3 pv ps.length (pcs ps)) : PR w pv ps := by
  have hc := fun g hg => h.cells (g := g) hg
  obtain ⟨_, ⟨rfl, h0⟩ | ⟨g, cap, cur, rfl, hb, hg, h1, h2, h3, h4⟩⟩ := h
  · exact .inl ⟨rfl, List.length_eq_zero_iff.1 h0⟩
  · refine .inr ⟨g, cap, rfl, fun k hk => ?_⟩
    obtain ⟨e0, e1, e2⟩ := pcs_at ps k hk
    have f := hc g rfl
    refine ⟨?_, ?_, ?_⟩
    · have := f _ _ e0; rwa [OpenSl.add_none, Nat.zero_add] at this
    · have := f _ _ e1; rwa [OpenSl.add_none, Nat.zero_add] at this
    · have := f _ _ e2; rwa [OpenSl.add_none, Nat.zero_add] at this
theorem PR.below {w W : World} {sv : Value} {ps : List Pc} (h : PR w sv ps) (hb : Below w.heap.size w W) : PR W sv ps := by
  rcases h with h | ⟨b, cap, e, h⟩
  · exact .inl h
  · exact .inr ⟨b, cap, e, fun k hk => (h k hk).keep (KC.below hb)⟩

set_option maxRecDepth 100000 in
set_option maxHeartbeats 1000000 in
/-- .. at the nil slice: no round. -/
theorem back1_nil_in (n : Nat) (l Bs : Nat) (J : List Al → World → Prop) (W : World) (hBs : W.cell? ⟨Bs, 0, none⟩ = some (.slice none 0 0)) (h0 : J [] W) :
    CallsIn Fence.wide n Try.prog 159 #[.func (.yield l) #[] #[], .pointer (some ⟨Bs, 0, none⟩)] W fun e W' => (∃ v, e = .returned v) ∧ J [] W' := by
  have H0 := Lib.hid h0
  clear h0
  refine callsIn_of_wp Try.func159 rfl trivial ?_ rfl
  simp only [Try.ntmps159, List.size_toArray, List.length_cons, List.length_nil, Nat.reduceAdd, Nat.reduceSub, Array.replicate_succ, Array.replicate_zero, List.push_toArray, List.append_toArray, List.nil_append, List.cons_append]
  gi_wp2
  gi_loopw [3] (fun i wr => i = .int .i64 (-1) ∧ W = wr) (fun _ _ => 0)
  case atStart => exact ⟨rfl, rfl⟩
  case round =>
    obtain ⟨rfl, rfl⟩ := hrel
    gi_wp2
    go_end0
    first | exact ⟨⟨_, rfl⟩, H0.out⟩ | exact H0.out

set_option maxRecDepth 100000 in
set_option maxHeartbeats 1000000 in
theorem back_in (n : Nat) (a : Option Addr) (len cap : Nat) (w : World) :
    CallsIn Fence.wide n Try.prog 147 #[.slice a len cap] w fun e w' => e = .returned (.func (.func 159) #[] #[.pointer (some ⟨w.heap.size, 0, none⟩)]) ∧ w' = w.alloc (.cells #[.slice a len cap] 165) := by
  refine callsIn_of_wp Try.func147 rfl trivial ?_ rfl
  simp only [Try.ntmps147, List.size_toArray, List.length_cons, List.length_nil, Nat.reduceAdd, Nat.reduceSub, Array.replicate_succ, Array.replicate_zero, List.push_toArray, List.append_toArray, List.nil_append, List.cons_append]
  gi_wp2
  go_ret
  exact ⟨rfl, rfl⟩

theorem back_stops (n : Nat) (hn : 1 ≤ n) (Bs : Nat) (sv : Value) (ps : List Pc) (hps : ps.length ≤ 16) (hw : ∀ p ∈ ps, Rx p) (w : World) (hBs : w.cell? ⟨Bs, 0, none⟩ = some sv) (hI : PR w sv ps) :
    SeqStopsK Fence.wide n Try.prog 159 #[.pointer (some ⟨Bs, 0, none⟩)] encs KC (fun ys => ys = downK ps hw ps.length) (fun _ => True) ps.length w := fun l J Jx W hW _ _ hY h0 => by
  have hc := (KC.below hW).cell hBs
  rcases hI.below hW with ⟨rfl, rfl⟩ | ⟨b, cap, rfl, hcs⟩
  · exact (back1_nil_in n l Bs J W hc h0).mono fun e W' ⟨he, hj⟩ => ⟨he, .inl ⟨_, rfl, hj⟩⟩
  · exact back1_in n hn l Bs b cap ps hps hw J Jx hY W hc hcs h0

/-- What is left behind what has come. -/
def uf (pre : List Al) (ys : List En) : List En := pre.foldl (fun a x => undo1 a x.2.1) ys
theorem uf_snoc (pre : List Al) (x : Al) (ys : List En) : uf (pre ++ [x]) ys = undo1 (uf pre ys) x.2.1 := by simp [uf]
theorem uf_down (ps : List Pc) (h : ∀ p ∈ ps, Rx p) (ys : List En) : ∀ k, k ≤ ps.length → uf (downK ps h k) ys = und (ps.drop (ps.length - k)) ys
  | 0, _ => by rw [Nat.sub_zero, List.drop_length]; rfl
  | k + 1, hk => by
    rw [downK_succ, uf_snoc, uf_down ps h ys k (by omega)]
    have hj : ps.length - (k + 1) < ps.length := by omega
    have e : ps.drop (ps.length - (k + 1)) = ps.getD (ps.length - (k + 1)) pz :: ps.drop (ps.length - k) := by
      rw [List.drop_eq_getElem_cons hj, List.getD_eq_getElem?_getD, List.getElem?_eq_getElem hj, show ps.length - (k + 1) + 1 = ps.length - k by omega]
      rfl
    rw [e]
    show undo1 _ (ps.getD (ps.length - 1 - k) pz) = undo1 _ _
    rw [show ps.length - 1 - k = ps.length - (k + 1) by omega]
    rfl
theorem ri_undo1 {ys : List En} (h : Ri ys) (p : Pc) : Ri (undo1 ys p) := by
  unfold undo1
  split
  · exact ri_pu h _ _
  · exact ri_dl h _
theorem len_undo1 {ys : List En} (h : Ri ys) (p : Pc) : (undo1 ys p).length ≤ ys.length + 1 := by
  unfold undo1
  split
  · rw [len_pu h]; split <;> omega
  · have : (dl ys p.1).length ≤ ys.length := List.length_filter_le _ _
    omega
theorem uf_all (ys : List En) (h : Ri ys) : ∀ pre : List Al, Ri (uf pre ys) ∧ (uf pre ys).length ≤ ys.length + pre.length := by
  have main : ∀ (pre : List Al) (zs : List En), Ri zs → Ri (uf pre zs) ∧ (uf pre zs).length ≤ zs.length + pre.length := by
    intro pre
    induction pre with
    | nil => exact fun zs hz => ⟨hz, Nat.le_refl _⟩
    | cons x r ih =>
      intro zs hz
      obtain ⟨h1, h2⟩ := ih (undo1 zs x.2.1) (ri_undo1 hz _)
      have h3 := len_undo1 hz x.2.1
      exact ⟨h1, by show (uf r (undo1 zs x.2.1)).length ≤ _; rw [List.length_cons]; omega⟩
  exact fun pre => main pre ys h
theorem owns_map {w : World} {B n : Nat} {D : DataW Unit} (h : owns w B n D) : ∃ o : Obj, w.heap[B]? = some o ∧ o.isCells = false := by
  obtain ⟨es, clock, hb, _⟩ := h
  exact ⟨_, hb, rfl⟩

/-- What holds in the loop: the receiver's box, nothing turned but the map, the map. -/
def In (w : World) (M g B : Nat) (ys : List En) (pre : List Al) (W : World) : Prop := W.cell? ⟨M, 0, none⟩ = some (.pointer (some ⟨g, 0, none⟩)) ∧ w.grownBy W (some B) ∧ owns W B (uf pre ys).length (dm (uf pre ys))
theorem in_own {w : World} {M g B : Nat} {ys : List En} {N : Nat} (hN : w.heap.size ≤ N) (hB : B < w.heap.size) : OwnFrom N (In w M g B ys) := fun s X Y row hs hg hr =>
  ⟨cell_kept hs.1 hg (fun r e => (hr r e).2), Src.grown_then hs.2.1 hg (fun j e => .inl (by have := (hr j e).1; omega)), hs.2.2.kept hg (fun e => by have := (hr B e.symm).1; omega)⟩
/-- The frame of a round, and the loop variable's box. -/
def Ax (f : Al → Nat → Act) (x : Al) (a : Act) (W : World) : Prop := ∃ q, a = f x q ∧ W.cell? ⟨q, 0, none⟩ = some (.int .i64 x.2.1.1) ∧ W.cell? ⟨q, 1, none⟩ = some (.int .i64 x.2.1.2.1) ∧ W.cell? ⟨q, 2, none⟩ = some (.bool x.2.1.2.2)
theorem ax_own (f : Al → Nat → Act) (N : Nat) (x : Al) (a : Act) : OwnFrom N (fun (_ : Unit) W => Ax f x a W) := fun _ X Y row hs hg hr => by
  obtain ⟨q, e, h0, h1, h2⟩ := hs
  exact ⟨q, e, cell_kept h0 hg (fun r e => (hr r e).2), cell_kept h1 hg (fun r e => (hr r e).2), cell_kept h2 hg (fun r e => (hr r e).2)⟩
/-- A round that turns the map. -/
theorem round_of {w W W' : World} {M g B N : Nat} {ys : List En} {pre : List Al} {x : Al} {n : Nat} (h : In w M g B ys pre W) (hg : W.grownBy W' (some B)) (hB : B < w.heap.size) (hN : w.heap.size ≤ N) (ho : owns W' B n (dm (undo1 (uf pre ys) x.2.1))) :
    KeepsFrom N W W' ∧ KC W W' ∧ In w M g B ys (pre ++ [x]) W' := by
  obtain ⟨o, hb, hc⟩ := owns_map h.2.2
  refine ⟨KeepsFrom.of_grownBy hg (fun j e => by cases e; omega), KC.grown hg hb hc, (KC.grown hg hb hc).cell h.1, Src.grown_then h.2.1 hg (fun j e => .inr rfl), ?_⟩
  rw [uf_snoc]
  exact owns_tight ho

set_option maxRecDepth 100000 in
set_option maxHeartbeats 3200000 in
theorem undo (w : World) (lo g B : Nat) (ys : List En) (pv : Value) (ps : List Pc) (h : Wp w lo g B ys pv ps) (hri : Ri ys) (hl : ys.length ≤ 100) (hps : ps.length ≤ 16) :
    Calls Try.prog 127 #[.pointer (some ⟨g, 0, none⟩)] w fun e w' => e = .returned (.tuple #[]) ∧ Wp w' lo g B (und ps ys) pv ps ∧ Bl lo g B pv w w' := by
  refine (callsIn_wide (n := 6)).1 ?_
  have HW := Lib.hid h
  have HRI := Lib.hid (uf_all ys hri)
  have HWF := Lib.hid h.wf
  have HPR := Lib.hid (pr_of h.row)
  have hbt := h.wk.bt
  have hgt := h.wk.gt
  have c0 := h.wk.c0
  have c1 := h.wk.c1
  obtain ⟨a, cap, rfl⟩ := row_form h.row
  obtain ⟨U, eU, hbU, hsU, cU⟩ : ∃ U, w.alloc (.cells #[.pointer (some ⟨g, 0, none⟩)] 123) = U ∧ Below w.heap.size w U ∧ U.heap.size = w.heap.size + 1 ∧ U.cell? ⟨w.heap.size, 0, none⟩ = some (.pointer (some ⟨g, 0, none⟩)) := ⟨_, rfl, (Below.refl _ _).alloc (Nat.le_refl _) _, by simp, by go_simp⟩
  obtain ⟨M, eM⟩ : ∃ M, w.heap.size = M := ⟨_, rfl⟩
  have d0 := (hbU.cell (p := ⟨g, 0, none⟩) hgt).trans c0
  have d1 := (hbU.cell (p := ⟨g, 1, none⟩) hgt).trans c1
  rw [eM] at cU
  obtain ⟨V, eV, hbV, hsV, cV⟩ : ∃ V, U.alloc (.cells #[.slice a ps.length cap] 165) = V ∧ Below U.heap.size U V ∧ V.heap.size = U.heap.size + 1 ∧ V.cell? ⟨U.heap.size, 0, none⟩ = some (.slice a ps.length cap) := ⟨_, rfl, (Below.refl _ _).alloc (Nat.le_refl _) _, by simp, by go_simp⟩
  have HPV := Lib.hid ((HPR.out.below hbU).below hbV)
  have HCV := Lib.hid cV
  have HMV := Lib.hid ((hbV.cell (p := ⟨M, 0, none⟩) (by show M < _; omega)).trans cU)
  have hwV : Below w.heap.size w V := hbU.trans (hbV.mono (by omega))
  have HGV := Lib.hid (show w.grownBy V (some B) from ⟨hwV.os, hwV.tape, hwV.output, hwV.size, fun i hi _ => hwV.block i hi⟩)
  have HOV := Lib.hid (owns_below h.wk.own hwV)
  have HSZ := Lib.hid (show B < w.heap.size ∧ w.heap.size < V.heap.size ∧ M = w.heap.size ∧ V.heap.size = w.heap.size + 2 from ⟨hbt, by omega, by omega, by omega⟩)
  have HUS := Lib.hid (show U.heap.size = M + 1 by omega)
  have HPL := Lib.hid hps
  have HLY := Lib.hid hl
  clear hri hbU hsU hbV hsV cV hwV hgt hbt c0 c1 h hps
  have hfB : Fence.wide.fn 147 := trivial
  refine callsIn_of_wp_marks Try.func127 rfl trivial ?_ rfl
  simp only [Try.ntmps127, List.size_toArray, List.length_cons, List.length_nil, Nat.reduceAdd, Nat.reduceSub, Array.replicate_succ, Array.replicate_zero, List.push_toArray, List.append_toArray, List.nil_append, List.cons_append]
  gi_wp2_with (gi_at_call 147; refine (back_in 5 _ _ _ _).mono ?_; rintro e w' ⟨rfl, rfl⟩)
  obtain ⟨fr, efr⟩ : ∃ fr : Al → Nat → Act, fr = fun x q => { tmps := #[.pointer (some ⟨g, 0, none⟩), .pointer (some ⟨M, 0, none⟩), undef, .pointer (some ⟨q, 0, none⟩), .pointer (some ⟨g, 0, none⟩), .pointer (some ⟨g, 0, none⟩), .pointer (some ⟨g, 1, none⟩), .slice a ps.length cap, .func (.func 159) #[] #[.pointer (some ⟨U.heap.size, 0, none⟩)], .int .i64 (x.1 : Int), .agg #[.int .i64 x.2.1.1, .int .i64 x.2.1.2.1, .bool x.2.1.2.2], undef, undef, undef, undef, undef, undef, undef, undef, undef, undef, undef, undef, undef, undef, undef, undef], defers := [] } := ⟨_, rfl⟩
  refine wpIn_rangeFunc_ownH rfl (by omega) (gf := 159) (lb := #[.pointer (some ⟨U.heap.size, 0, none⟩)]) rfl trivial (enters_of Try.func159 (by kernel_rfl) rfl)
    (back_stops 5 (by omega) U.heap.size _ ps HPL.out HWF.out _ HCV.out HPV.out) (fun h k => KC.trans h k) (fun W l o o' _ hl ho _ => KC.putObj o' hl ho) (Below.refl _ _) (fun _ => rfl)
    (In w M g B ys) (fun _ _ _ => False) (in_own (by have := HSZ.out; omega) HSZ.out.1) (fun _ _ _ _ _ hs _ _ => hs) ⟨HMV.out, HGV.out, by exact HOV.out⟩
    (Ax fr) (fun x a' => ax_own fr _ x a') ?assign ?body ?done ?stop
  case assign =>
    intro l pre x W K hI hK
    obtain ⟨q, eq, hb, hz, X⟩ := Box3.box3 W 192 (.int .i64 x.2.1.1) (.int .i64 x.2.1.2.1) (.bool x.2.1.2.2)
    have HX := Lib.hid (And.intro X.c0 (And.intro X.c1 X.c2))
    have HKF := Lib.hid (show KeepsFrom V.heap.size W q ∧ KC W q ∧ In w M g B ys pre q from
      ⟨KeepsFrom.of_grownBy (B := V.heap.size) (row := none) ⟨hb.os, hb.tape, hb.output, hb.size, fun i hi _ => hb.block i hi⟩ (fun j e => by cases e), KC.below hb, in_own (N := W.heap.size) (by exact hI.2.1.size) HSZ.out.1 _ W q none hI ⟨hb.os, hb.tape, hb.output, hb.size, fun i hi _ => hb.block i hi⟩ (fun r e => by cases e)⟩)
    obtain ⟨Q9, eQ9⟩ : ∃ Q9, W.heap.size = Q9 := ⟨_, rfl⟩
    rw [eQ9] at HX
    obtain ⟨xi, ⟨⟨y0, y1, y2⟩, hxx⟩⟩ := x
    clear hb hz X hI
    simp only [encs] at *
    gi_wp2
    exact hK _ _ HKF.out.1 HKF.out.2.1 HKF.out.2.2 ⟨Q9, by rw [efr], HX.out.1, HX.out.2.1, HX.out.2.2⟩
  case body =>
    rintro l pre x a' W hl hr hI ⟨q, rfl, q0, q1, q2⟩ hlt
    rw [efr]
    clear d0 d1
    obtain ⟨xi, ⟨⟨y0, y1, y2⟩, hx1, hx2⟩⟩ := x
    simp only at q0 q1 q2
    have m0 := hI.1
    have d0 : W.cell? ⟨g, 0, none⟩ = some (.map (some B)) := (World.cell?_of_block (w := w) (hI.2.1.block g HW.out.wk.gt (fun e => HW.out.wk.ne (Option.some.inj e)))).trans HW.out.wk.c0
    have HI := Lib.hid hI
    have HLEN := Lib.hid (show (uf pre ys).length < maxLen by have := (HRI.out pre).2; have := HLY.out; have := HPL.out; unfold maxLen; omega)
    have HRW := Lib.hid (HRI.out pre).1
    have hgd : W.grownBy W.drew (some B) := ⟨rfl, rfl, rfl, Nat.le_refl _, fun _ _ _ => rfl⟩
    have hod : owns W.drew B (uf pre ys).length (dm (uf pre ys)) := hI.2.2.kept (row := none) ⟨rfl, rfl, rfl, Nat.le_refl _, fun _ _ _ => rfl⟩ (by simp)
    cases y2 with
    | true =>
      obtain ⟨W2, hrun, hown, hturn⟩ := World.ownsMap.store hod law3 Try.underlying137 HLEN.out (keyOf_int_mk Try.underlying3 hx1) (plainElem_int (H := Unit) Try.underlying3 hx2)
      rw [dm_put HRW.out] at hown
      have HR := Lib.hid (round_of (x := (xi, ⟨(y0, y1, true), hx1, hx2⟩)) HI.out (Src.grown_then hgd hturn.grown (fun j e => .inr rfl)) HSZ.out.1 (show w.heap.size ≤ V.heap.size by have := HSZ.out; omega) (by exact hown))
      clear hgd hod hown hturn hI hr hl hlt eU eV cU eM HPV HCV HMV HGV HOV HUS HPL HLY hfB efr HI HLEN HRW HRI HPR HWF HW HSZ
      gi_wp2
      gi_region
      all_goals
        gi_wp2
        exact HR.out
    | false =>
      obtain ⟨W2, hrun, hown, hturn⟩ := World.ownsMap.drop hod law3 Try.underlying137 (keyOf_int_mk Try.underlying3 hx1) 0
      rw [dm_del] at hown
      have HR := Lib.hid (round_of (x := (xi, ⟨(y0, y1, false), hx1, hx2⟩)) HI.out (Src.grown_then hgd hturn.grown (fun j e => .inr rfl)) HSZ.out.1 (show w.heap.size ≤ V.heap.size by have := HSZ.out; omega) (by exact hown))
      clear hgd hod hown hturn hI hr hl hlt eU eV cU eM HPV HCV HMV HGV HOV HUS HPL HLY hfB efr HI HLEN HRW HRI HPR HWF HW HSZ
      gi_wp2
      gi_region
      all_goals
        gi_wp2
        exact HR.out
  case done =>
    rintro D zs W hD rfl hI hK
    have HI := Lib.hid hI
    clear hI
    gi_wp2
    refine ⟨by simp, .inl ⟨_, _, rfl, run_takeDeferred hK, ?_⟩⟩
    have hpo : W.grownBy (W.putObj D (.deferred none)) (some D) := grownBy_putObj' _ D _
    have hG := Src.grown_then HI.out.2.1 hpo (fun j e => .inl (by cases e; have := HSZ.out; omega))
    have hO : owns (W.putObj D (.deferred none)) B (und ps ys).length (dm (und ps ys)) := by
      have := HI.out.2.2.kept hpo (fun e => by cases e; have := HSZ.out; omega)
      rw [uf_down ps HWF.out ys _ (Nat.le_refl _), Nat.sub_self, List.drop_zero] at this
      exact this
    exact ⟨_, results_none rfl _ _ _, rfl, wp_map HW.out hG hO, (Bl.refl _ _ _ _ _).grown hG (wp_lo HW.out) (fun q hq => by cases hq; exact ⟨HW.out.wk.lb, .inr (.inl rfl)⟩)⟩
  case stop =>
    rintro D c pre W _ _ h _
    exact h.elim
end Go.Proofs.Ytealdpkgfmokpaa.UndoI
