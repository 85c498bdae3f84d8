/-
  What is proved: the model's new trees are the plain one, of the call's own (contracts for the walks).
-/
import Derived.Test.YtealdpkgfmokpaaRows
import Derived.Test.YtealdpkgfmokpaaNewO
import Derived.Test.YtealdpkgfmokpaaInv
namespace Go.Proofs.Ytealdpkgfmokpaa.NewO2
open Go.ChangeShapes Go.WideShapes Go.ChangeAt Go.RowKit
open Sl (Sl Own Off)
open OpenSl (tc nc pc)
open Dev Orm Wy Box3 OkP Cop NewO
set_option linter.unusedVariables false

theorem slot {t : Array Value} {k : Nat} {v : Value} (h : t.getD k undef = v) : t[k]?.getD undef = v := by rw [← Array.getD_eq_getD_getElem?]; exact h
theorem arr_eq (t : Array Value) (n : Nat) (h : t.size = n) : t = ((List.range n).map fun k => t.getD k undef).toArray := by
  subst h
  apply Array.ext
  · simp
  · intro i h1 h2
    simp [Array.getD_eq_getD_getElem?, h1]
/-- A slice of the call's own whose cells stand in a block of elements T. -/
def OT (w : World) (base : Nat) (T : TypeId) (sz : Nat) (v : Value) (n : Nat) (c : Nat → Value) : Prop := Own w base sz v n c ∧ ∀ a cap, v = .slice (some a) n cap → 0 < n → ∃ cs fr, w.heap[a.block]? = some (.cells cs T fr)
theorem OT.apart {w : World} {base base' sz sz' n n' : Nat} {T T' : TypeId} {u v : Value} {c c' : Nat → Value} (h : OT w base T sz u n c) (h' : OT w base' T' sz' v n' c') (hT : T ≠ T') : Apart u v := by
  intro a m cap e hm a' m' cap' e' hm' heq
  obtain ⟨_, _, e1, _⟩ := h.1
  obtain ⟨_, _, e2, _⟩ := h'.1
  have h1 : m = n := by rw [e1] at e; injection e with _ h2 _; exact h2.symm
  have h2 : m' = n' := by rw [e2] at e'; injection e' with _ h2 _; exact h2.symm
  subst h1 h2
  obtain ⟨cs, fr, q⟩ := h.2 a cap e hm
  obtain ⟨cs', fr', q'⟩ := h'.2 a' cap' e' hm'
  rw [heq, q] at q'
  injection q' with q'
  injection q' with _ q'' _
  exact hT q''
theorem OT.grown {w w' : World} {base sz n : Nat} {T : TypeId} {v : Value} {c : Nat → Value} {g : Nat} (h : OT w base T sz v n c) (hsz : 0 < sz) (hg : w.grownBy w' (some g)) (hoff : Off v g) : OT w' base T sz v n c := by
  refine ⟨h.1.grown hg hoff, fun a cap e hn => ?_⟩
  obtain ⟨cs, fr, q⟩ := h.2 a cap e hn
  exact ⟨cs, fr, (hg.block a.block (Array.getElem?_eq_some_iff.1 q).1 (by simpa using hoff a n cap e hn)).trans q⟩
theorem run_app0T {P : Program} (w : World) (t ty e : TypeId) (sz bytes : Nat) (z : Value) (ht : P.underlying t = some (.slice e)) (hi : (P.info? e).map (fun i => (i.zero, i.size, i.bytes)) = some (some z, sz, bytes)) (hzs : z.cells.size = sz) (hsz : 0 < sz)
    (b : Addr) (u : Value) (m : Nat) (c : Nat → Value) (hu : Sl w sz u m c) (h1 : ∀ j, j < m * sz → (c j).oneCell' = true) (hm : m ≤ maxLen) (hbytes : m * bytes ≤ 140737488355328) :
    ∃ a' cap' w', (Builtin.append_ #[t, t] ty #[.slice (some b) 0 0, u]).run P w = .ok (.slice a' m cap') w' ∧ OT w' w.heap.size e sz (.slice a' m cap') m c ∧ Below w.heap.size w w' := by
  obtain ⟨i0, hi0, hz0, hz1, hz2⟩ := info_parts hi
  by_cases h0 : m = 0
  · subst h0
    obtain ⟨a', cap', w', hr, ho, hb⟩ := run_app0 (P := P) w t ty e sz bytes z ht hi hzs hsz b u 0 c hu h1 hm hbytes
    exact ⟨a', cap', w', hr, ⟨ho, fun a cap e h => absurd h (by omega)⟩, hb⟩
  · obtain ⟨a, cap, rfl, k1, k2, k3⟩ := hu
    obtain ⟨b', o, rfl, hc⟩ := k3 (by omega)
    obtain ⟨v', w', hr, h2, h3⟩ := run_append_arg_grows (P := P) w t ty e i0 z sz bytes ht hi0 hz0 hz1 hz2 hzs hsz b 0 0 [] (by simp) (by simp) ⟨b', o, none⟩ m cap (cl c (m * sz)) (cl_len _ _) (fun j u hj => by
      obtain ⟨hj', rfl⟩ := cl_of hj
      rw [Addr.add_lit]
      exact hc j hj') (by omega) (by rw [Nat.zero_add]; exact hm) (by rw [Nat.zero_add]; exact hbytes)
    rw [Nat.zero_add, List.nil_append] at h2
    have ho := own_of_row h2 c (fun j hj => cl_get c _ j hj)
    obtain ⟨a', cap', rfl, _, _⟩ := ho.sl.form
    refine ⟨a', cap', w', hr, ⟨ho, fun a cap3 e3 hn => ?_⟩, (Below.refl _ _).grown h3 (Nat.le_refl _) (fun k hk => by cases hk)⟩
    rcases h2.2 with ⟨e4, h5⟩ | ⟨g, cap2, cur, e4, _, hg, _⟩
    · omega
    · rw [e4] at e3
      injection e3 with e5 _ _
      injection e5 with e6
      subst e6
      exact ⟨cur, _, hg⟩
theorem wp_app0T {P : Program} (w : World) {o : Oper} {a : Act} {K : Act → World → Prop} {Q : Exit → Act → World → Prop} (s x : Operand) (t : TypeId)
    (ho : o.op = .call { callee := .builtin .append, args := #[s, x], argTypes := #[t, t] })
    (e : TypeId) (sz bytes : Nat) (z : Value) (ht : P.underlying t = some (.slice e)) (hi : (P.info? e).map (fun i => (i.zero, i.size, i.bytes)) = some (some z, sz, bytes)) (hzs : z.cells.size = sz) (hsz : 0 < sz)
    (b : Addr) (hs : a.eval s = .slice (some b) 0 0) (u : Value) (hx : a.eval x = u) (m : Nat) (c : Nat → Value) (hu : Sl w sz u m c) (h1 : ∀ j, j < m * sz → (c j).oneCell' = true) (hm : m ≤ maxLen) (hbytes : m * bytes ≤ 140737488355328)
    (h : ∀ a' cap' w', OT w' w.heap.size e sz (.slice a' m cap') m c → Below w.heap.size w w' → K (a.put o.dst (.slice a' m cap')) w') : o.wp P a w K Q := by
  obtain ⟨a', cap', w', hr, h2, h3⟩ := run_app0T (P := P) w t o.type e sz bytes z ht hi hzs hsz b u m c hu h1 hm hbytes
  unfold Oper.wp execOp
  simp only [ho, resolve, invoke, builtin, Sem.run_bind, Sem.run_pure, Result.andThen_ok, List.map_toArray, List.map_cons, List.map_nil, hs, hx, hr]
  exact h a' cap' w' h2 h3
theorem ot15 (x : World) : OT (x.alloc (.cells (madeCells #[Value.slice none 0 0] 15) 28)) x.heap.size 28 1 (.slice (some ⟨x.heap.size, 0, none⟩) 15 15) 15 (fun _ => .slice none 0 0) :=
  ⟨own15 x, fun a cap e hn => by
    injection e with e1 _ _
    injection e1 with e2
    subst e2
    exact ⟨_, _, heap_alloc_new x _⟩⟩

set_option maxRecDepth 100000 in
set_option maxHeartbeats 1600000 in
theorem l08New (w : World) (v : Value) (zs : List Int) (h : Sl w 1 v zs.length (nc zs)) (hn : zs.length ≤ 1048576) :
    Calls Try.prog 133 #[v] w fun e w' => ∃ r, e = .returned r ∧ RdO w' w.heap.size w'.heap.size r (nt zs) ∧ Below w.heap.size w w' := by
  have hmk := run_make_row' (P := Try.prog) 29 28 (.slice none 0 0) 24 Try.underlying29 LawO2.infoBS rfl .i64 .i64 15 (by omega) (by omega)
  simp only [Int.cast_ofNat_Int] at hmk
  obtain ⟨W, eW, hB, hz, X⟩ := box3 w 31 (.slice none 0 0) (.slice none 0 0) (.slice none 0 0)
  have H1 := Lib.hid (h.below hB)
  have HB := Lib.hid hB
  obtain ⟨G, eG⟩ : ∃ G, w.heap.size = G := ⟨_, rfl⟩
  rw [eG] at X
  have HX := Lib.hid X
  have lG : G < W.heap.size := by omega
  have HG := Lib.hid eG
  have HLG := Lib.hid lG
  have HOFF := Lib.hid (h.off (by omega) G (by omega))
  obtain ⟨c0, c1, c2, f0, f1, f2⟩ := X
  obtain ⟨a, cap, rfl, _, _⟩ := h.form
  have hm1 : zs.length ≤ maxLen := by unfold maxLen; omega
  have hy1 : zs.length * 8 ≤ 140737488355328 := by omega
  clear h hB hz
  go_enter Try.func133, Try.ntmps133
  go_wp2_with fail
  clear eW eG c0 c1 c2 f0 f1 f2
  refine Inv.region [3, 4, 5, 6, 7, 8, 1000]
    (fun i u x => match i with
      | 0 => ∃ g, u = .slice (some ⟨g, 0, none⟩) 0 0
      | 1 => u = .slice a zs.length cap
      | 2 => ∃ a1 cap1, u = .slice a1 zs.length cap1 ∧ OT x W.heap.size 3 1 u zs.length (nc zs)
      | 3 => ∃ g, u = .slice (some ⟨g, 0, none⟩) 0 0
      | 4 => ∃ g, u = .slice (some ⟨g, 0, none⟩) 15 15 ∧ OT x W.heap.size 28 1 u 15 (fun _ => .slice none 0 0)
      | 5 => ∃ p s b, u = .agg #[p, s, b] ∧ OT x W.heap.size 3 1 p zs.length (nc zs) ∧ (∃ g, s = .slice (some ⟨g, 0, none⟩) 0 0) ∧ OT x W.heap.size 28 1 b 15 (fun _ => .slice none 0 0)
      | 6 => ∃ p s b, Bx x G p s b ∧ OT x W.heap.size 3 1 p zs.length (nc zs) ∧ (∃ g, s = .slice (some ⟨g, 0, none⟩) 0 0) ∧ OT x W.heap.size 28 1 b 15 (fun _ => .slice none 0 0)
      | _ => True)
    (fun l x => W.grownBy x (some G) ∧ ∃ p s b, Bx x G p s b)
    (fun i x y => if i = 6 then x.grownBy y (some G) else Below x.heap.size x y)
    (by kernel_rfl) ?said ⟨⟨rfl, rfl, rfl, Nat.le_refl _, fun _ _ _ => rfl⟩, _, _, _, HX.out.below (by exact ⟨rfl, rfl, rfl, Nat.le_refl _, fun _ _ => rfl⟩)⟩ ?hop ?hend
  case said =>
    refine ⟨rfl, fun i o ho => ?_, by decide, fun i j u x y hij hp hr => ?_⟩
    · match i, ho with
      | 0, ho => obtain rfl := Option.some.inj ho; exact ⟨rfl, by decide, rfl, (show 3 < 9 by decide)⟩
      | 1, ho => obtain rfl := Option.some.inj ho; exact ⟨rfl, by decide, rfl, (show 4 < 9 by decide)⟩
      | 2, ho => obtain rfl := Option.some.inj ho; exact ⟨rfl, by decide, rfl, (show 5 < 9 by decide)⟩
      | 3, ho => obtain rfl := Option.some.inj ho; exact ⟨rfl, by decide, rfl, (show 6 < 9 by decide)⟩
      | 4, ho => obtain rfl := Option.some.inj ho; exact ⟨rfl, by decide, rfl, (show 7 < 9 by decide)⟩
      | 5, ho => obtain rfl := Option.some.inj ho; exact ⟨rfl, by decide, rfl, (show 8 < 9 by decide)⟩
      | 6, ho => obtain rfl := Option.some.inj ho; exact ⟨rfl, by decide, (show 9 ≤ 1000 by decide)⟩
      | n + 7, ho => cases ho
    · have hg : x.grownBy y (some G) := by
        by_cases h6 : j = 6
        · rw [if_pos h6] at hr; exact hr
        · rw [if_neg h6] at hr; exact OkI2.grown_below hr G
      have hot : ∀ {T n p c}, OT x W.heap.size T 1 p n c → OT y W.heap.size T 1 p n c := fun h => h.grown (by omega) hg (own_low h.1 G HLG.out)
      match i, hp with
      | 0, hp => exact hp
      | 1, hp => exact hp
      | 2, ⟨a1, cap1, e, ho⟩ => exact ⟨a1, cap1, e, hot ho⟩
      | 3, hp => exact hp
      | 4, ⟨g, e, ho⟩ => exact ⟨g, e, hot ho⟩
      | 5, ⟨p, s, b, e, ho, hs, hb⟩ => exact ⟨p, s, b, e, hot ho, hs, hot hb⟩
      | 6, ⟨p, s, b, hx, ho, hs, hb⟩ =>
        rw [if_neg (fun e => hij e.symm)] at hr
        exact ⟨p, s, b, hx.below hr, hot ho, hs, hot hb⟩
      | n + 7, _ => trivial
  case hop =>
    intro i o ho l a1 x hI hcl hls hli hfr hdep K hK
    have hbel : ∀ {y}, i ≠ 6 → Below x.heap.size x y → (if i = 6 then x.grownBy y (some G) else Below x.heap.size x y) := fun h hb => by rw [if_neg h]; exact hb
    have hinv : ∀ {y}, Below x.heap.size x y → W.grownBy y (some G) ∧ ∃ p s b, Bx y G p s b := fun hb => by
      obtain ⟨h1, p, s, b, h2⟩ := hI
      exact ⟨gb hb h1, p, s, b, h2.below hb⟩
    match i, ho with
    | 0, ho =>
      obtain rfl := Option.some.inj ho
      unfold Oper.wp execOp
      go_simp
      have hb : Below x.heap.size x (x.alloc (.cells #[] 3)) := (Below.refl _ _).alloc (Nat.le_refl _) _
      exact hK (.slice (some ⟨x.heap.size, 0, none⟩) 0 0) _ (hbel (by decide) hb) ⟨_, rfl⟩ (hinv hb) (fun h => by cases h)
    | 1, ho =>
      obtain rfl := Option.some.inj ho
      have s0 : a1.tmps.getD 0 undef = .slice a zs.length cap := hfr 0 (by decide)
      have e0 := slot s0
      unfold Oper.wp execOp
      go_simp
      exact hK (.slice a zs.length cap) x (hbel (by decide) (Below.refl _ _)) rfl (hinv (Below.refl _ _)) (fun h => by cases h)
    | 2, ho =>
      obtain rfl := Option.some.inj ho
      obtain ⟨_, g, s3⟩ := hdep { on := 0, ground := Ground.data } (by simp) (by kernel_rfl)
      obtain ⟨_, s4⟩ := hdep { on := 1, ground := Ground.data } (by simp) (by kernel_rfl)
      refine wp_app0T x (.tmp 3) (.tmp 4) 22 rfl 3 1 8 _ Try.underlying22 LawN.info3 rfl (by omega) ⟨g, 0, none⟩ s3 (.slice a zs.length cap) s4 zs.length (nc zs) (H1.out.grown hI.1 HOFF.out) (fun j _ => int_one zs j) hm1 hy1 (fun a' cap' w' ho2 hb => ?_)
      exact hK _ _ (hbel (by decide) hb) ⟨a', cap', rfl, ⟨ho2.1.base hI.1.size, ho2.2⟩⟩ (hinv hb) (fun h => by cases h)
    | 3, ho =>
      obtain rfl := Option.some.inj ho
      unfold Oper.wp execOp
      go_simp
      have hb : Below x.heap.size x (x.alloc (.cells #[] 110)) := (Below.refl _ _).alloc (Nat.le_refl _) _
      exact hK (.slice (some ⟨x.heap.size, 0, none⟩) 0 0) _ (hbel (by decide) hb) ⟨_, rfl⟩ (hinv hb) (fun h => by cases h)
    | 4, ho =>
      obtain rfl := Option.some.inj ho
      unfold Oper.wp execOp
      simp only [Act.eval]
      go_simp
      have hb : Below x.heap.size x (x.alloc (.cells (madeCells #[Value.slice none 0 0] 15) 28)) := (Below.refl _ _).alloc (Nat.le_refl _) _
      exact hK (.slice (some ⟨x.heap.size, 0, none⟩) 15 15) _ (hbel (by decide) hb) ⟨_, rfl, (ot15 x).1.base hI.1.size, (ot15 x).2⟩ (hinv hb) (fun h => by cases h)
    | 5, ho =>
      obtain rfl := Option.some.inj ho
      obtain ⟨_, a5, cap5, s5, o5⟩ := hdep { on := 2, ground := Ground.data } (by simp) (by kernel_rfl)
      obtain ⟨_, g6, s6⟩ := hdep { on := 3, ground := Ground.data } (by simp) (by kernel_rfl)
      obtain ⟨_, g7, s7, o7⟩ := hdep { on := 4, ground := Ground.data } (by simp) (by kernel_rfl)
      have e5 : a1.tmps[5]?.getD undef = .slice a5 zs.length cap5 := slot s5
      have e6 : a1.tmps[6]?.getD undef = .slice (some ⟨g6, 0, none⟩) 0 0 := slot s6
      have e7 : a1.tmps[7]?.getD undef = .slice (some ⟨g7, 0, none⟩) 15 15 := slot s7
      have p5 := o5
      unfold Oper.wp execOp
      go_simp
      exact hK (.agg #[.slice a5 zs.length cap5, .slice (some ⟨g6, 0, none⟩) 0 0, .slice (some ⟨g7, 0, none⟩) 15 15]) x (hbel (by decide) (Below.refl _ _)) ⟨_, _, _, rfl, by rw [← s5]; exact o5, ⟨_, rfl⟩, by rw [← s7]; exact o7⟩ (hinv (Below.refl _ _)) (fun h => by cases h)
    | 6, ho =>
      obtain rfl := Option.some.inj ho
      obtain ⟨_, p, s, b, s8, hp, hs, hb⟩ := hdep { on := 5, ground := Ground.data } (by simp) (by kernel_rfl)
      have s2 : a1.tmps.getD 2 undef = .pointer (some ⟨G, 0, none⟩) := hfr 2 (by decide)
      have e8 : a1.tmps[8]?.getD undef = .agg #[p, s, b] := slot s8
      have e2 := slot s2
      obtain ⟨hg, x0, x1, x2, hbx⟩ := hI
      have HBX := Lib.hid hbx
      have hpp := hp.1.sl.form
      obtain ⟨gs9, rfl⟩ := hs
      obtain ⟨ap, cp, rfl, _, _⟩ := hp.1.sl.form
      obtain ⟨ab, cb, rfl, _, _⟩ := hb.1.sl.form
      obtain ⟨c0, c1, c2, f0, f1, f2⟩ := hbx
      have HP := Lib.hid hp
      have HBB := Lib.hid hb
      have HGX := Lib.hid hg
      clear hp hb hg hpp
      unfold Oper.wp execOp
      go_simp
      have hgs := gs (gs (gs (gr x G) 0 (.slice ap zs.length cp)) 1 (.slice (some ⟨gs9, 0, none⟩) 0 0)) 2 (.slice ab 15 cb)
      have hx9 := ((HBX.out.set0 (.slice ap zs.length cp)).set1 (.slice (some ⟨gs9, 0, none⟩) 0 0)).set2 (.slice ab 15 cb)
      have hot := HP.out.grown (by omega) hgs (own_low HP.out.1 G HLG.out)
      have hob := HBB.out.grown (by omega) hgs (own_low HBB.out.1 G HLG.out)
      exact hK undef _ (by rw [if_pos rfl]; exact hgs) ⟨_, _, _, hx9, hot, ⟨_, rfl⟩, hob⟩ ⟨gs (gs (gs HGX.out _ _) _ _) _ _, _, _, _, hx9⟩ (fun _ _ => ⟨_, _, _, hx9, hot, ⟨_, rfl⟩, hob⟩)
    | n + 7, ho => cases ho
  case hend =>
    intro aa x hsz hdf hfr hall hl
    obtain ⟨p, s, b, hbx, hp, ⟨g6, rfl⟩, hb⟩ := hall 6 (by decide)
    obtain ⟨l, ⟨hg, _⟩, _⟩ := hl
    have s0 : aa.tmps.getD 2 undef = .pointer (some ⟨G, 0, none⟩) := hfr 2 (by decide)
    have et : aa.tmps = _ := arr_eq aa.tmps 9 hsz
    obtain ⟨tm, df⟩ := aa
    simp only at hdf hsz s0 et
    subst hdf
    have HR := Lib.hid (rdO_new (w := x) (lo := w.heap.size) (hi := x.heap.size) (zs := zs) (s := .slice (some ⟨g6, 0, none⟩) 0 0) (hp.1.base (by have := HB.out.size; omega)) ⟨_, 0, rfl, by unfold maxLen; omega⟩ (hb.1.base (by have := HB.out.size; omega)) (fun j _ => rfl) (hp.apart hb (by decide)) (lies_of (hp.1.base (by have := HB.out.size; omega)) (by omega)) (lies_of (hb.1.base (by have := HB.out.size; omega)) (by omega)))
    have HBW := Lib.hid (show Below w.heap.size w x from HB.out.grown hg HB.out.size (fun k hk => by cases hk; have := HG.out; omega))
    obtain ⟨R0, R1, R2, _, _, _⟩ := hbx
    obtain ⟨ap, cp, rfl, _, _⟩ := hp.1.sl.form
    obtain ⟨ab, cb, rfl, _, _⟩ := hb.1.sl.form
    have e2 := slot s0
    clear hall hfr et hp hb hg
    go_wp2
    refine bodyPost_ret (v := .agg #[.slice ap zs.length cp, .slice (some ⟨g6, 0, none⟩) 0 0, .slice ab 15 cb]) (by simp [results, Try.results133, go_sem, R0, R1, R2, e2]) rfl ⟨_, rfl, HR.out, HBW.out⟩
end Go.Proofs.Ytealdpkgfmokpaa.NewO2
