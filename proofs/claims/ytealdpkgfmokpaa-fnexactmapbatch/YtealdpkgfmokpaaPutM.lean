/-
  What is proved: the model's put of a key's value into a map leaves the plain one (a contract for the walks).
-/
import Derived.Test.YtealdpkgfmokpaaRows
import Derived.Test.YtealdpkgfmokpaaMapGet
import Derived.Test.YtealdpkgfmokpaaEntI
namespace Go.Proofs.Ytealdpkgfmokpaa.PutM
open Go.ChangeShapes Go.WideShapes Go.ChangeAt Go.RowKit Go.Maps
open Sl (Sl Own Off)
open OpenSl (nc)
open Dev Orm LawE MapP MapOk OtB MapW MapD ScanI EntI
set_option linter.unusedVariables false

theorem take_fi : ∀ (xs : List En), Ri xs → ∀ z, xs.take (fi xs z) = xs.filter (fun x => decide (x.1 < z))
  | [], _, z => rfl
  | y :: r, h, z => by
    obtain ⟨h1, h2⟩ := List.pairwise_cons.1 h
    by_cases e : y.1 < z
    · have : fi (y :: r) z = fi r z + 1 := by unfold fi ks; rw [List.map_cons, List.countP_cons_of_pos (by simpa using e)]
      rw [this, List.take_succ_cons, take_fi r h2 z, List.filter_cons_of_pos (by simpa using e)]
    · have hall : ∀ x ∈ y :: r, z ≤ x.1 := fun x hx => by
        rcases List.mem_cons.1 hx with rfl | hx
        · omega
        · have := h1 x hx; omega
      have : fi (y :: r) z = 0 := by
        unfold fi ks
        rw [List.countP_eq_zero]
        intro a ha
        obtain ⟨b, hb, rfl⟩ := List.mem_map.1 ha
        have := hall b hb
        simp only [decide_eq_true_eq]
        omega
      rw [this, List.take_zero, filter_none (fun x hx => by have := hall x hx; simp; omega)]
theorem fi_of {xs : List En} (h : Ri xs) {z : Int} {k : Nat} (hk : k ≤ xs.length) (h1 : ∀ i, i < k → (xs.getD i (0, 0)).1 < z) (h2 : k < xs.length → ¬ (xs.getD k (0, 0)).1 < z) : fi xs z = k := by
  have e : ks xs = ks (xs.take k) ++ ks (xs.drop k) := by unfold ks; rw [← List.map_append, List.take_append_drop]
  unfold fi
  rw [e, List.countP_append]
  have c1 : (ks (xs.take k)).countP (fun x => decide (x < z)) = (ks (xs.take k)).length := by
    rw [List.countP_eq_length]
    intro a ha
    obtain ⟨b, hb, rfl⟩ := List.mem_map.1 ha
    obtain ⟨i, hi, rfl⟩ := mem_at hb
    rw [List.length_take] at hi
    have : (xs.take k).getD i (0, 0) = xs.getD i (0, 0) := by rw [List.getD_eq_getElem?_getD, List.getD_eq_getElem?_getD, List.getElem?_take_of_lt (by omega)]
    rw [this]
    simpa using h1 i (by omega)
  have c2 : (ks (xs.drop k)).countP (fun x => decide (x < z)) = 0 := by
    rw [List.countP_eq_zero]
    intro a ha
    obtain ⟨b, hb, rfl⟩ := List.mem_map.1 ha
    obtain ⟨i, hi, rfl⟩ := mem_at hb
    rw [List.length_drop] at hi
    have e2 : (xs.drop k).getD i (0, 0) = xs.getD (k + i) (0, 0) := by rw [List.getD_eq_getElem?_getD, List.getD_eq_getElem?_getD, List.getElem?_drop]
    rw [e2]
    have h3 := h2 (by omega)
    have h4 : (xs.getD k (0, 0)).1 ≤ (xs.getD (k + i) (0, 0)).1 := by
      by_cases e0 : i = 0
      · rw [e0]; exact Int.le_refl _
      · unfold Ri at h
        rw [List.pairwise_iff_getElem] at h
        have := h k (k + i) (by omega) (by omega) (by omega)
        rw [List.getD_eq_getElem?_getD, List.getD_eq_getElem?_getD, List.getElem?_eq_getElem (by omega : k < xs.length), List.getElem?_eq_getElem (by omega : k + i < xs.length)]
        simp only [Option.getD_some]
        omega
    simp only [decide_eq_true_eq]
    omega
  rw [c1, c2]
  unfold ks
  rw [List.length_map, List.length_take]
  omega
/-- What stands behind the place of a key. -/
theorem drop_fi {xs : List En} (h : Ri xs) (z : Int) : xs.filter (fun x => decide (z < x.1)) = if fi xs z < xs.length ∧ (xs.getD (fi xs z) (0, 0)).1 = z then xs.drop (fi xs z + 1) else xs.drop (fi xs z) := by
  have hn := nx_drop xs h z
  have hf : xs.filter (fun x => decide (z < x.1)) = (nx xs z).filter (fun x => decide (z < x.1)) := by
    unfold nx
    rw [List.filter_filter]
    congr 1
    funext x
    by_cases e : z < x.1
    · simp [e]; omega
    · simp [e]
  rw [hf, hn]
  by_cases hl : fi xs z < xs.length
  · have hd : xs.drop (fi xs z) = xs.getD (fi xs z) (0, 0) :: xs.drop (fi xs z + 1) := by
      rw [List.getD_eq_getElem?_getD, List.getElem?_eq_getElem hl]
      exact List.drop_eq_getElem_cons hl
    have hr : Ri (xs.drop (fi xs z)) := List.Pairwise.sublist (List.drop_sublist _ _) h
    have hge : z ≤ (xs.getD (fi xs z) (0, 0)).1 := by
      have : xs.getD (fi xs z) (0, 0) ∈ nx xs z := by rw [hn, hd]; simp
      have := (List.mem_filter.1 this).2
      simpa using this
    rw [hd] at hr ⊢
    obtain ⟨r1, r2⟩ := List.pairwise_cons.1 hr
    obtain ⟨q, eq⟩ : ∃ q, xs.getD (fi xs z) (0, 0) = q := ⟨_, rfl⟩
    rw [eq] at r1 hge ⊢
    by_cases e : q.1 = z
    · rw [if_pos ⟨hl, e⟩, List.filter_cons_of_neg (by simp only [decide_eq_true_eq]; omega)]
      exact filter_all fun x hx => by have := r1 x hx; simp only [decide_eq_true_eq]; omega
    · rw [if_neg (fun h => e h.2), List.filter_cons_of_pos (by simp only [decide_eq_true_eq]; omega), filter_all fun x hx => by have := r1 x hx; simp only [decide_eq_true_eq]; omega]
  · rw [if_neg (fun h => hl h.1), List.drop_eq_nil_of_le (by omega)]
    rfl
/-- Parts of a slice of entries. -/
theorem sl_take {w : World} {a : Option Addr} {n cap : Nat} {xs : List En} (h : Sl w 2 (.slice a n cap) n (ec xs)) (k : Nat) (hk : k ≤ n) : Sl w 2 (.slice a k cap) k (ec (xs.take k)) := by
  obtain ⟨a', cap', e, h1, h2, h3⟩ := h
  obtain ⟨rfl, rfl⟩ : a = a' ∧ cap = cap' := by simpa using e
  refine ⟨a, cap, rfl, by omega, h2, fun hn => ?_⟩
  obtain ⟨b, o, ha, hc⟩ := h3 (by omega)
  refine ⟨b, o, ha, fun j hj => ?_⟩
  rw [hc j (by omega), ec_ext (n := k) hj (fun i hi => ?_)]
  rw [List.getD_eq_getElem?_getD, List.getD_eq_getElem?_getD, List.getElem?_take_of_lt hi]
theorem sl_drop {w : World} {a : Option Addr} {n cap : Nat} {xs : List En} (h : Sl w 2 (.slice a n cap) n (ec xs)) (k : Nat) (hk : k ≤ n) {a' : Option Addr} {m cap' : Nat} (hm : m = n - k) (hc' : cap' = cap - k) (ha : 0 < m → ∀ b o, a = some ⟨b, o, none⟩ → a' = some ⟨b, o + k * 2, none⟩) : Sl w 2 (.slice a' m cap') m (ec (xs.drop k)) := by
  obtain ⟨a2, cap2, e, h1, h2, h3⟩ := h
  obtain ⟨rfl, rfl⟩ : a = a2 ∧ cap = cap2 := by simpa using e
  refine ⟨a', cap', rfl, by omega, by omega, fun hn => ?_⟩
  obtain ⟨b, o, e2, hc⟩ := h3 (by omega)
  refine ⟨b, o + k * 2, ha hn b o e2, fun j hj => ?_⟩
  have hj2 : k * 2 + j < n * 2 := by omega
  rw [Nat.add_assoc, hc (k * 2 + j) hj2]
  unfold ec
  rw [show (k * 2 + j) % 2 = j % 2 by omega, show (k * 2 + j) / 2 = k + j / 2 by omega]
  have : (xs.drop k).getD (j / 2) (0, 0) = xs.getD (k + j / 2) (0, 0) := by rw [List.getD_eq_getElem?_getD, List.getD_eq_getElem?_getD, List.getElem?_drop]
  rw [this]
theorem es_cl (xs : List En) : Cop.cl (ec xs) (xs.length * 2) = es xs := by
  apply List.ext_getElem?
  intro j
  by_cases hj : j < xs.length * 2
  · rw [Cop.cl_get _ _ _ hj, es_get xs j hj]
  · rw [List.getElem?_eq_none (by rw [Cop.cl_len]; omega), List.getElem?_eq_none (by unfold es; rw [List.length_map, fl_len]; omega)]
theorem es_app (xs ys : List En) : es (xs ++ ys) = es xs ++ es ys := by unfold es fl; rw [List.flatMap_append, List.map_append]

theorem sl_drop_s {w : World} {b o n cap : Nat} {xs : List En} (h : Sl w 2 (.slice (some ⟨b, o, none⟩) n cap) n (ec xs)) (k : Nat) (hk : k ≤ n) : Sl w 2 (.slice (some ⟨b, o + k * 2, none⟩) (n - k) (cap - k)) (n - k) (ec (xs.drop k)) := by
  refine sl_drop h k hk rfl rfl (fun _ b' o' e => ?_)
  obtain ⟨rfl, rfl⟩ : b = b' ∧ o = o' := by simpa using e
  rfl
theorem empty_row (w : World) (T : TypeId) : ∃ U, w.alloc (.cells #[] T) = U ∧ Below w.heap.size w U ∧ U.ownsRow w.heap.size T 2 (.slice (some ⟨w.heap.size, 0, none⟩) 0 0) 0 [] :=
  ⟨_, rfl, (Below.refl _ w).alloc (Nat.le_refl _) _, rfl, .inr ⟨w.heap.size, 0, #[], rfl, Nat.le_refl _, heap_alloc_new w _, Nat.le_refl _, by unfold maxLen; omega, rfl, rfl⟩⟩
theorem lit_at {U : World} {G : Nat} {a b : Value} (x0 : U.cell? ⟨G, 0, none⟩ = some a) (x1 : U.cell? ⟨G, 1, none⟩ = some b) : ∀ j v, ([a, b])[j]? = some v → U.cell? ((⟨G, 0, none⟩ : Addr).add j) = some v := by
  intro j v hj
  match j, hj with
  | 0, hj => obtain rfl : a = v := by simpa using hj
             exact x0
  | 1, hj => obtain rfl : b = v := by simpa using hj
             exact x1
  | j + 2, hj => simp at hj
theorem fin {u : World} {s0 N k m : Nat} {r : Value} {A T P : List En} {z y : Int} (h : u.ownsRow s0 117 2 r N (Cop.cl (ec A) (k * 2) ++ [Value.int .i64 z, .int .i64 y] ++ Cop.cl (ec T) (m * 2))) (hA : A.length = k) (hT : T.length = m) (hP : P = A ++ (z, y) :: T) : u.ownsRow s0 117 2 r P.length (es P) := by
  have e : Cop.cl (ec A) (k * 2) ++ [Value.int .i64 z, .int .i64 y] ++ Cop.cl (ec T) (m * 2) = es P := by
    subst hA
    subst hT
    rw [es_cl, es_cl, hP, es_app]
    show _ = es A ++ es ([(z, y)] ++ T)
    rw [es_app]
    simp [es, fl]
  rw [e] at h
  have hl := h.1
  have h2 : (es P).length = P.length * 2 := by unfold es; rw [List.length_map, fl_len]
  have : N = P.length := by omega
  rw [this] at h
  exact h

set_option maxRecDepth 100000 in
set_option maxHeartbeats 3200000 in
theorem l10Put (w : World) (v : Value) (xs : List En) (h : Sl w 2 v xs.length (ec xs)) (hri : Ri xs) (hl : xs.length ≤ 11) (z y : Int) :
    Calls Try.prog 135 #[v, .int .i64 z, .int .i64 y] w fun e w' => ∃ r, e = .returned r ∧ w'.ownsRow w.heap.size 117 2 r (pu xs z y).length (es (pu xs z y)) ∧ Below w.heap.size w w' := by
  have HV := Lib.hid h
  obtain ⟨a, cap, rfl, h1, h2, h3⟩ := h
  have H3 := Lib.hid h3
  unfold maxLen at h2
  clear h3
  have HFI := Lib.hid (fun k (hk : k ≤ xs.length) (h1 : ∀ i, i < k → (xs.getD i (0, 0)).1 < z) (h2 : k < xs.length → ¬ (xs.getD k (0, 0)).1 < z) => fi_of hri hk h1 h2)
  obtain ⟨n, en⟩ : ∃ n, xs.length = n := ⟨_, rfl⟩
  have HEN := Lib.hid en
  rw [en] at HV H3 HFI hl h1 ⊢
  clear en
  go_enter Try.func135, Try.ntmps135
  go_wp2
  go_loopw [7] (fun i wz => ∃ k : Nat, w = wz ∧ k ≤ n ∧ i = .int .i64 k ∧ Hid (∀ i, i < k → (xs.getD i (0, 0)).1 < z)) (fun i _ => n - (Go.RowKit.intOf i).toNat)
  case atStart => exact ⟨0, rfl, by omega, rfl, Lib.hid (fun i hi => by omega)⟩
  case round =>
    obtain ⟨k, rfl, hk, rfl, HJ⟩ := hrel
    by_cases hlt : k < n
    · obtain ⟨b, o, rfl, hc⟩ := H3.out (by omega)
      have c0 := hc (k * 2) (by omega)
      rw [ec0] at c0
      have HN := Lib.hid (show (xs.getD k (0, 0)).1 < z → ∀ i, i < k + 1 → (xs.getD i (0, 0)).1 < z from fun hne i hi => by
        by_cases e : i = k
        · rw [e]; exact hne
        · exact HJ.out i (by omega))
      have HF := Lib.hid (HFI.out k hk HJ.out)
      have HK := Lib.hid (show (xs.getD k (0, 0)).1 = (xs.getD k (0, 0)).1 from rfl)
      obtain ⟨q, eq⟩ : ∃ q, (xs.getD k (0, 0)).1 = q := ⟨_, rfl⟩
      rw [eq] at c0 HN HF
      have HQ := Lib.hid eq
      clear hc eq HK
      by_cases hy : q < z
      · have HE := Lib.hid (HN.out hy)
        have b2 : decide (q < z) = true := decide_eq_true hy
        clear hy
        go_wp2
        go_roundw
        case rel => exact ⟨k + 1, by first | rfl | trivial, by omega, by go_num, HE⟩
        case measure => simp [Go.RowKit.intOf]; omega
      · have HE := Lib.hid (HF.out (fun _ => by omega))
        have b2 : decide (q < z) = false := decide_eq_false hy
        clear hy
        have HE2 := HE.out
        by_cases hqz : q = z
        · by_cases hcf : cap = k + 1
          · have hn1 : n = k + 1 := by omega
            have HTAIL := Lib.hid (fun u (hu : Below w.heap.size w u) => show Sl u 2 (.slice (some ⟨b, o, none⟩) 0 0) 0 (ec (xs.drop (k + 1))) from ⟨_, _, rfl, Nat.le_refl _, by unfold maxLen; omega, fun h => by omega⟩)
            have HFIN := Lib.hid (fun (u : World) (r : Value) (N : Nat) (hr : u.ownsRow w.heap.size 117 2 r N (Cop.cl (ec (xs.take k)) (k * 2) ++ [Value.int .i64 z, .int .i64 y] ++ Cop.cl (ec (xs.drop (k + 1))) ((0) * 2))) => show u.ownsRow w.heap.size 117 2 r (pu xs z y).length (es (pu xs z y)) from fin hr (by rw [List.length_take, HEN.out]; omega) (by rw [List.length_drop, HEN.out]; omega) (by unfold pu; rw [← take_fi xs hri z, drop_fi hri z, HE.out, if_pos ⟨by rw [HEN.out]; omega, by rw [HQ.out]; exact hqz⟩]))
            have hzq := hqz.symm
            subst hzq
            subst hn1
            subst hcf
            have b1 : (z == z) = true := by simp
            obtain ⟨i0, hi0, hz0, hz1, hz2⟩ := info_parts infoE
            obtain ⟨U0, eU0, hb0, HM⟩ := empty_row w 117
            have HT0 := Lib.hid (sl_take (HV.out.below hb0) k (by omega))
            have HB0 := Lib.hid hb0
            have HS0 := Lib.hid (show w.heap.size ≤ U0.heap.size from hb0.size)
            have HTT := Lib.hid (fun u (hu : Below w.heap.size w u) => show Sl u 2 (.slice (some ⟨b, o, none⟩) 0 0) (0) (ec (xs.drop (k + 1))) from HTAIL.out u hu)
            have hlk : k ≤ 11 := by omega
            have hlm : 0 ≤ 11 := by omega
            have hm1 : 0 + k ≤ maxLen := by unfold maxLen; omega
            have hm2 : k + 1 ≤ maxLen := by unfold maxLen; omega
            have hm3 : k + 1 + (0) ≤ maxLen := by unfold maxLen; omega
            have hy1 : (0 + k) * 16 ≤ 140737488355328 := by omega
            have hy2 : (k + 1) * 16 ≤ 140737488355328 := by omega
            have hy3 : (k + 1 + (0)) * 16 ≤ 140737488355328 := by omega
            have ho1 : ∀ v ∈ [Value.int .i64 z, .int .i64 y], v.oneCell' = true := by intro v hv; simp at hv; rcases hv with rfl | rfl <;> rfl
            clear hb0
            go_wp2_with (first
              | (at_builtin; refine Cop.wpList_appR _ rfl (.tmp 44) (.tmp 47) 47 rfl w.heap.size 117 2 16 _ Try.underlying47 infoE rfl (by omega) (.slice (some ⟨w.heap.size, 0, none⟩) 0 0) (by simp [Act.eval]) 0 [] HM HS0.out (.slice (some ⟨b, o, none⟩) k (k + 1)) (by simp [Act.eval]) k (ec (xs.take k)) HT0.out (fun j _ => ec_one _ j) hm1 hy1 ?_; intro a1 cap1 w1 hr1 hg1; rw [Nat.zero_add, List.nil_append] at hr1; rw [Nat.zero_add]; have HR1 := Lib.hid hr1; have HB1 := Lib.hid (MapI.below_grown hg1 (fun q hq => (World.ownsRow.lt HM q hq).1) HS0.out HB0.out); clear hr1 hg1; obtain ⟨U1, e1, hbb, _, x0, x1, _, _⟩ := box2 w1 117 (.int .i64 z) (.int .i64 y); have HR1b := Lib.hid (Cop.row_below HR1.out hbb); have HB1b := Lib.hid (HB1.out.trans (hbb.mono HB1.out.size)); have HX := Lib.hid (And.intro x0 x1); clear hbb x0 x1; obtain ⟨M1, eM1⟩ : ∃ M, w1.heap.size = M := ⟨_, rfl⟩; rw [eM1] at HX; have EM1 := Lib.hid eM1; clear eM1)
              | (at_builtin; refine wpList_append_own _ rfl (.tmp 48) (.tmp 52) 47 rfl w.heap.size 117 i0 _ 2 16 Try.underlying47 hi0 hz0 hz1 hz2 rfl (by omega) (.slice a1 k cap1) k _ (by simp [Act.eval]) HR1b.out ⟨M1, 0, none⟩ 1 1 [Value.int .i64 z, .int .i64 y] (by simp [Act.eval] <;> exact EM1.out) rfl (lit_at HX.out.1 HX.out.2) ho1 hm2 hy2 HB1b.out.size ?_; intro v2 w2 hr2 hg2 _; obtain ⟨a2, cap2, rfl⟩ := MapI.row_form hr2; have HR2 := Lib.hid hr2; have HB2 := Lib.hid (MapI.below_grown hg2 (fun q hq => (World.ownsRow.lt HR1b.out q hq).1) HB1b.out.size HB1b.out); clear hr2 hg2)
              | (at_builtin; refine Cop.wpList_appR _ rfl (.tmp 53) (.tmp 54) 47 rfl w.heap.size 117 2 16 _ Try.underlying47 infoE rfl (by omega) (.slice a2 (k + 1) cap2) (by simp [Act.eval]) (k + 1) _ HR2.out HB2.out.size (.slice (some ⟨b, o, none⟩) 0 0) (by simp [Act.eval]) (0) (ec (xs.drop (k + 1))) (HTT.out _ HB2.out) (fun j _ => ec_one _ j) hm3 hy3 ?_; intro a3 cap3 w3 hr3 hg3; have HR3 := Lib.hid hr3; have HB3 := Lib.hid (MapI.below_grown hg3 (fun q hq => (World.ownsRow.lt HR2.out q hq).1) HB2.out.size HB2.out); clear hr3 hg3))
            go_ret
            exact ⟨_, rfl, HFIN.out _ _ _ HR3.out, HB3.out⟩
          · have HTAIL := Lib.hid (fun u (hu : Below w.heap.size w u) => show Sl u 2 (.slice (some ⟨b, o + (k + 1) * 2, none⟩) (n - (k + 1)) (cap - (k + 1))) (n - (k + 1)) (ec (xs.drop (k + 1))) from sl_drop_s (HV.out.below hu) (k + 1) (by omega))
            have HFIN := Lib.hid (fun (u : World) (r : Value) (N : Nat) (hr : u.ownsRow w.heap.size 117 2 r N (Cop.cl (ec (xs.take k)) (k * 2) ++ [Value.int .i64 z, .int .i64 y] ++ Cop.cl (ec (xs.drop (k + 1))) ((n - (k + 1)) * 2))) => show u.ownsRow w.heap.size 117 2 r (pu xs z y).length (es (pu xs z y)) from fin hr (by rw [List.length_take, HEN.out]; omega) (by rw [List.length_drop, HEN.out]) (by unfold pu; rw [← take_fi xs hri z, drop_fi hri z, HE.out, if_pos ⟨by rw [HEN.out]; omega, by rw [HQ.out]; exact hqz⟩]))
            have hzq := hqz.symm
            subst hzq
            have b1 : (z == z) = true := by simp
            obtain ⟨i0, hi0, hz0, hz1, hz2⟩ := info_parts infoE
            obtain ⟨U0, eU0, hb0, HM⟩ := empty_row w 117
            have HT0 := Lib.hid (sl_take (HV.out.below hb0) k (by omega))
            have HB0 := Lib.hid hb0
            have HS0 := Lib.hid (show w.heap.size ≤ U0.heap.size from hb0.size)
            have HTT := Lib.hid (fun u (hu : Below w.heap.size w u) => show Sl u 2 (.slice (some ⟨b, o + (k + 1) * 2, none⟩) (n - (k + 1)) (cap - (k + 1))) (n - (k + 1)) (ec (xs.drop (k + 1))) from HTAIL.out u hu)
            have hlk : k ≤ 11 := by omega
            have hlm : n - (k + 1) ≤ 11 := by omega
            have hm1 : 0 + k ≤ maxLen := by unfold maxLen; omega
            have hm2 : k + 1 ≤ maxLen := by unfold maxLen; omega
            have hm3 : k + 1 + (n - (k + 1)) ≤ maxLen := by unfold maxLen; omega
            have hy1 : (0 + k) * 16 ≤ 140737488355328 := by omega
            have hy2 : (k + 1) * 16 ≤ 140737488355328 := by omega
            have hy3 : (k + 1 + (n - (k + 1))) * 16 ≤ 140737488355328 := by omega
            have ho1 : ∀ v ∈ [Value.int .i64 z, .int .i64 y], v.oneCell' = true := by intro v hv; simp at hv; rcases hv with rfl | rfl <;> rfl
            clear hb0
            go_wp2_with (first
              | (at_builtin; refine Cop.wpList_appR _ rfl (.tmp 44) (.tmp 47) 47 rfl w.heap.size 117 2 16 _ Try.underlying47 infoE rfl (by omega) (.slice (some ⟨w.heap.size, 0, none⟩) 0 0) (by simp [Act.eval]) 0 [] HM HS0.out (.slice (some ⟨b, o, none⟩) k (cap)) (by simp [Act.eval]) k (ec (xs.take k)) HT0.out (fun j _ => ec_one _ j) hm1 hy1 ?_; intro a1 cap1 w1 hr1 hg1; rw [Nat.zero_add, List.nil_append] at hr1; rw [Nat.zero_add]; have HR1 := Lib.hid hr1; have HB1 := Lib.hid (MapI.below_grown hg1 (fun q hq => (World.ownsRow.lt HM q hq).1) HS0.out HB0.out); clear hr1 hg1; obtain ⟨U1, e1, hbb, _, x0, x1, _, _⟩ := box2 w1 117 (.int .i64 z) (.int .i64 y); have HR1b := Lib.hid (Cop.row_below HR1.out hbb); have HB1b := Lib.hid (HB1.out.trans (hbb.mono HB1.out.size)); have HX := Lib.hid (And.intro x0 x1); clear hbb x0 x1; obtain ⟨M1, eM1⟩ : ∃ M, w1.heap.size = M := ⟨_, rfl⟩; rw [eM1] at HX; have EM1 := Lib.hid eM1; clear eM1)
              | (at_builtin; refine wpList_append_own _ rfl (.tmp 48) (.tmp 52) 47 rfl w.heap.size 117 i0 _ 2 16 Try.underlying47 hi0 hz0 hz1 hz2 rfl (by omega) (.slice a1 k cap1) k _ (by simp [Act.eval]) HR1b.out ⟨M1, 0, none⟩ 1 1 [Value.int .i64 z, .int .i64 y] (by simp [Act.eval] <;> exact EM1.out) rfl (lit_at HX.out.1 HX.out.2) ho1 hm2 hy2 HB1b.out.size ?_; intro v2 w2 hr2 hg2 _; obtain ⟨a2, cap2, rfl⟩ := MapI.row_form hr2; have HR2 := Lib.hid hr2; have HB2 := Lib.hid (MapI.below_grown hg2 (fun q hq => (World.ownsRow.lt HR1b.out q hq).1) HB1b.out.size HB1b.out); clear hr2 hg2)
              | (at_builtin; refine Cop.wpList_appR _ rfl (.tmp 53) (.tmp 54) 47 rfl w.heap.size 117 2 16 _ Try.underlying47 infoE rfl (by omega) (.slice a2 (k + 1) cap2) (by simp [Act.eval]) (k + 1) _ HR2.out HB2.out.size (.slice (some ⟨b, o + (k + 1) * 2, none⟩) (n - (k + 1)) (cap - (k + 1))) (by simp [Act.eval]) (n - (k + 1)) (ec (xs.drop (k + 1))) (HTT.out _ HB2.out) (fun j _ => ec_one _ j) hm3 hy3 ?_; intro a3 cap3 w3 hr3 hg3; have HR3 := Lib.hid hr3; have HB3 := Lib.hid (MapI.below_grown hg3 (fun q hq => (World.ownsRow.lt HR2.out q hq).1) HB2.out.size HB2.out); clear hr3 hg3))
            go_ret
            exact ⟨_, rfl, HFIN.out _ _ _ HR3.out, HB3.out⟩
        · have hcf : ¬ cap = k := by omega
          have HTAIL := Lib.hid (fun u (hu : Below w.heap.size w u) => show Sl u 2 (.slice (some ⟨b, o + k * 2, none⟩) (n - k) (cap - k)) (n - k) (ec (xs.drop k)) from sl_drop_s (HV.out.below hu) k (by omega))
          have HFIN := Lib.hid (fun (u : World) (r : Value) (N : Nat) (hr : u.ownsRow w.heap.size 117 2 r N (Cop.cl (ec (xs.take k)) (k * 2) ++ [Value.int .i64 z, .int .i64 y] ++ Cop.cl (ec (xs.drop k)) ((n - k) * 2))) => show u.ownsRow w.heap.size 117 2 r (pu xs z y).length (es (pu xs z y)) from fin hr (by rw [List.length_take, HEN.out]; omega) (by rw [List.length_drop, HEN.out]) (by unfold pu; rw [← take_fi xs hri z, drop_fi hri z, HE.out, if_neg (fun h => by rw [HQ.out] at h; exact hqz h.2)]))
          have b1 : (q == z) = false := beq_eq_false_iff_ne.2 hqz
          have b3 : decide (q = z) = false := decide_eq_false hqz
          clear hqz
          obtain ⟨i0, hi0, hz0, hz1, hz2⟩ := info_parts infoE
          obtain ⟨U0, eU0, hb0, HM⟩ := empty_row w 117
          have HT0 := Lib.hid (sl_take (HV.out.below hb0) k (by omega))
          have HB0 := Lib.hid hb0
          have HS0 := Lib.hid (show w.heap.size ≤ U0.heap.size from hb0.size)
          have HTT := Lib.hid (fun u (hu : Below w.heap.size w u) => show Sl u 2 (.slice (some ⟨b, o + k * 2, none⟩) (n - k) (cap - k)) (n - k) (ec (xs.drop k)) from HTAIL.out u hu)
          have hlk : k ≤ 11 := by omega
          have hlm : n - k ≤ 11 := by omega
          have hm1 : 0 + k ≤ maxLen := by unfold maxLen; omega
          have hm2 : k + 1 ≤ maxLen := by unfold maxLen; omega
          have hm3 : k + 1 + (n - k) ≤ maxLen := by unfold maxLen; omega
          have hy1 : (0 + k) * 16 ≤ 140737488355328 := by omega
          have hy2 : (k + 1) * 16 ≤ 140737488355328 := by omega
          have hy3 : (k + 1 + (n - k)) * 16 ≤ 140737488355328 := by omega
          have ho1 : ∀ v ∈ [Value.int .i64 z, .int .i64 y], v.oneCell' = true := by intro v hv; simp at hv; rcases hv with rfl | rfl <;> rfl
          clear hb0
          go_wp2_with (first
            | (at_builtin; refine Cop.wpList_appR _ rfl (.tmp 44) (.tmp 47) 47 rfl w.heap.size 117 2 16 _ Try.underlying47 infoE rfl (by omega) (.slice (some ⟨w.heap.size, 0, none⟩) 0 0) (by simp [Act.eval]) 0 [] HM HS0.out (.slice (some ⟨b, o, none⟩) k (cap)) (by simp [Act.eval]) k (ec (xs.take k)) HT0.out (fun j _ => ec_one _ j) hm1 hy1 ?_; intro a1 cap1 w1 hr1 hg1; rw [Nat.zero_add, List.nil_append] at hr1; rw [Nat.zero_add]; have HR1 := Lib.hid hr1; have HB1 := Lib.hid (MapI.below_grown hg1 (fun q hq => (World.ownsRow.lt HM q hq).1) HS0.out HB0.out); clear hr1 hg1; obtain ⟨U1, e1, hbb, _, x0, x1, _, _⟩ := box2 w1 117 (.int .i64 z) (.int .i64 y); have HR1b := Lib.hid (Cop.row_below HR1.out hbb); have HB1b := Lib.hid (HB1.out.trans (hbb.mono HB1.out.size)); have HX := Lib.hid (And.intro x0 x1); clear hbb x0 x1; obtain ⟨M1, eM1⟩ : ∃ M, w1.heap.size = M := ⟨_, rfl⟩; rw [eM1] at HX; have EM1 := Lib.hid eM1; clear eM1)
            | (at_builtin; refine wpList_append_own _ rfl (.tmp 48) (.tmp 52) 47 rfl w.heap.size 117 i0 _ 2 16 Try.underlying47 hi0 hz0 hz1 hz2 rfl (by omega) (.slice a1 k cap1) k _ (by simp [Act.eval]) HR1b.out ⟨M1, 0, none⟩ 1 1 [Value.int .i64 z, .int .i64 y] (by simp [Act.eval] <;> exact EM1.out) rfl (lit_at HX.out.1 HX.out.2) ho1 hm2 hy2 HB1b.out.size ?_; intro v2 w2 hr2 hg2 _; obtain ⟨a2, cap2, rfl⟩ := MapI.row_form hr2; have HR2 := Lib.hid hr2; have HB2 := Lib.hid (MapI.below_grown hg2 (fun q hq => (World.ownsRow.lt HR1b.out q hq).1) HB1b.out.size HB1b.out); clear hr2 hg2)
            | (at_builtin; refine Cop.wpList_appR _ rfl (.tmp 53) (.tmp 54) 47 rfl w.heap.size 117 2 16 _ Try.underlying47 infoE rfl (by omega) (.slice a2 (k + 1) cap2) (by simp [Act.eval]) (k + 1) _ HR2.out HB2.out.size (.slice (some ⟨b, o + k * 2, none⟩) (n - k) (cap - k)) (by simp [Act.eval]) (n - k) (ec (xs.drop k)) (HTT.out _ HB2.out) (fun j _ => ec_one _ j) hm3 hy3 ?_; intro a3 cap3 w3 hr3 hg3; have HR3 := Lib.hid hr3; have HB3 := Lib.hid (MapI.below_grown hg3 (fun q hq => (World.ownsRow.lt HR2.out q hq).1) HB2.out.size HB2.out); clear hr3 hg3))
          go_ret
          exact ⟨_, rfl, HFIN.out _ _ _ HR3.out, HB3.out⟩
    · have hkn : k = n := by omega
      have HE := Lib.hid (HFI.out k hk HJ.out (fun h => absurd h hlt))
      subst hkn
      by_cases hcf : cap = k
      · have HTAIL := Lib.hid (fun u (hu : Below w.heap.size w u) => show Sl u 2 (.slice a 0 0) 0 (ec (xs.drop k)) from ⟨_, _, rfl, Nat.zero_le _, by unfold maxLen; omega, fun h => by omega⟩)
        have HFIN := Lib.hid (fun (u : World) (r : Value) (N : Nat) (hr : u.ownsRow w.heap.size 117 2 r N (Cop.cl (ec (xs.take k)) (k * 2) ++ [Value.int .i64 z, .int .i64 y] ++ Cop.cl (ec (xs.drop k)) ((0) * 2))) => show u.ownsRow w.heap.size 117 2 r (pu xs z y).length (es (pu xs z y)) from fin hr (by rw [List.length_take, HEN.out]; omega) (by rw [List.length_drop, HEN.out]; omega) (by unfold pu; rw [← take_fi xs hri z, drop_fi hri z, HE.out, if_neg (fun h => by rw [HEN.out] at h; omega)]))
        have hck := hcf.symm
        subst hck
        obtain ⟨i0, hi0, hz0, hz1, hz2⟩ := info_parts infoE
        obtain ⟨U0, eU0, hb0, HM⟩ := empty_row w 117
        have HT0 := Lib.hid (sl_take (HV.out.below hb0) k (by omega))
        have HB0 := Lib.hid hb0
        have HS0 := Lib.hid (show w.heap.size ≤ U0.heap.size from hb0.size)
        have HTT := Lib.hid (fun u (hu : Below w.heap.size w u) => show Sl u 2 (.slice a 0 0) (0) (ec (xs.drop k)) from HTAIL.out u hu)
        have hlk : k ≤ 11 := by omega
        have hlm : 0 ≤ 11 := by omega
        have hm1 : 0 + k ≤ maxLen := by unfold maxLen; omega
        have hm2 : k + 1 ≤ maxLen := by unfold maxLen; omega
        have hm3 : k + 1 + (0) ≤ maxLen := by unfold maxLen; omega
        have hy1 : (0 + k) * 16 ≤ 140737488355328 := by omega
        have hy2 : (k + 1) * 16 ≤ 140737488355328 := by omega
        have hy3 : (k + 1 + (0)) * 16 ≤ 140737488355328 := by omega
        have ho1 : ∀ v ∈ [Value.int .i64 z, .int .i64 y], v.oneCell' = true := by intro v hv; simp at hv; rcases hv with rfl | rfl <;> rfl
        clear hb0
        go_wp2_with (first
          | (at_builtin; refine Cop.wpList_appR _ rfl (.tmp 44) (.tmp 47) 47 rfl w.heap.size 117 2 16 _ Try.underlying47 infoE rfl (by omega) (.slice (some ⟨w.heap.size, 0, none⟩) 0 0) (by simp [Act.eval]) 0 [] HM HS0.out (.slice a k (k)) (by simp [Act.eval]) k (ec (xs.take k)) HT0.out (fun j _ => ec_one _ j) hm1 hy1 ?_; intro a1 cap1 w1 hr1 hg1; rw [Nat.zero_add, List.nil_append] at hr1; rw [Nat.zero_add]; have HR1 := Lib.hid hr1; have HB1 := Lib.hid (MapI.below_grown hg1 (fun q hq => (World.ownsRow.lt HM q hq).1) HS0.out HB0.out); clear hr1 hg1; obtain ⟨U1, e1, hbb, _, x0, x1, _, _⟩ := box2 w1 117 (.int .i64 z) (.int .i64 y); have HR1b := Lib.hid (Cop.row_below HR1.out hbb); have HB1b := Lib.hid (HB1.out.trans (hbb.mono HB1.out.size)); have HX := Lib.hid (And.intro x0 x1); clear hbb x0 x1; obtain ⟨M1, eM1⟩ : ∃ M, w1.heap.size = M := ⟨_, rfl⟩; rw [eM1] at HX; have EM1 := Lib.hid eM1; clear eM1)
          | (at_builtin; refine wpList_append_own _ rfl (.tmp 48) (.tmp 52) 47 rfl w.heap.size 117 i0 _ 2 16 Try.underlying47 hi0 hz0 hz1 hz2 rfl (by omega) (.slice a1 k cap1) k _ (by simp [Act.eval]) HR1b.out ⟨M1, 0, none⟩ 1 1 [Value.int .i64 z, .int .i64 y] (by simp [Act.eval] <;> exact EM1.out) rfl (lit_at HX.out.1 HX.out.2) ho1 hm2 hy2 HB1b.out.size ?_; intro v2 w2 hr2 hg2 _; obtain ⟨a2, cap2, rfl⟩ := MapI.row_form hr2; have HR2 := Lib.hid hr2; have HB2 := Lib.hid (MapI.below_grown hg2 (fun q hq => (World.ownsRow.lt HR1b.out q hq).1) HB1b.out.size HB1b.out); clear hr2 hg2)
          | (at_builtin; refine Cop.wpList_appR _ rfl (.tmp 53) (.tmp 54) 47 rfl w.heap.size 117 2 16 _ Try.underlying47 infoE rfl (by omega) (.slice a2 (k + 1) cap2) (by simp [Act.eval]) (k + 1) _ HR2.out HB2.out.size (.slice a 0 0) (by simp [Act.eval]) (0) (ec (xs.drop k)) (HTT.out _ HB2.out) (fun j _ => ec_one _ j) hm3 hy3 ?_; intro a3 cap3 w3 hr3 hg3; have HR3 := Lib.hid hr3; have HB3 := Lib.hid (MapI.below_grown hg3 (fun q hq => (World.ownsRow.lt HR2.out q hq).1) HB2.out.size HB2.out); clear hr3 hg3))
        go_ret
        exact ⟨_, rfl, HFIN.out _ _ _ HR3.out, HB3.out⟩
      · have HTAIL := Lib.hid (fun u (hu : Below w.heap.size w u) => show Sl u 2 (.slice (Option.map (fun x => x.add (k * 2)) a) 0 (cap - k)) 0 (ec (xs.drop k)) from ⟨_, _, rfl, Nat.zero_le _, by unfold maxLen; omega, fun h => by omega⟩)
        have HFIN := Lib.hid (fun (u : World) (r : Value) (N : Nat) (hr : u.ownsRow w.heap.size 117 2 r N (Cop.cl (ec (xs.take k)) (k * 2) ++ [Value.int .i64 z, .int .i64 y] ++ Cop.cl (ec (xs.drop k)) ((0) * 2))) => show u.ownsRow w.heap.size 117 2 r (pu xs z y).length (es (pu xs z y)) from fin hr (by rw [List.length_take, HEN.out]; omega) (by rw [List.length_drop, HEN.out]; omega) (by unfold pu; rw [← take_fi xs hri z, drop_fi hri z, HE.out, if_neg (fun h => by rw [HEN.out] at h; omega)]))
        obtain ⟨i0, hi0, hz0, hz1, hz2⟩ := info_parts infoE
        obtain ⟨U0, eU0, hb0, HM⟩ := empty_row w 117
        have HT0 := Lib.hid (sl_take (HV.out.below hb0) k (by omega))
        have HB0 := Lib.hid hb0
        have HS0 := Lib.hid (show w.heap.size ≤ U0.heap.size from hb0.size)
        have HTT := Lib.hid (fun u (hu : Below w.heap.size w u) => show Sl u 2 (.slice (Option.map (fun x => x.add (k * 2)) a) 0 (cap - k)) (0) (ec (xs.drop k)) from HTAIL.out u hu)
        have hlk : k ≤ 11 := by omega
        have hlm : 0 ≤ 11 := by omega
        have hm1 : 0 + k ≤ maxLen := by unfold maxLen; omega
        have hm2 : k + 1 ≤ maxLen := by unfold maxLen; omega
        have hm3 : k + 1 + (0) ≤ maxLen := by unfold maxLen; omega
        have hy1 : (0 + k) * 16 ≤ 140737488355328 := by omega
        have hy2 : (k + 1) * 16 ≤ 140737488355328 := by omega
        have hy3 : (k + 1 + (0)) * 16 ≤ 140737488355328 := by omega
        have ho1 : ∀ v ∈ [Value.int .i64 z, .int .i64 y], v.oneCell' = true := by intro v hv; simp at hv; rcases hv with rfl | rfl <;> rfl
        clear hb0
        go_wp2_with (first
          | (at_builtin; refine Cop.wpList_appR _ rfl (.tmp 44) (.tmp 47) 47 rfl w.heap.size 117 2 16 _ Try.underlying47 infoE rfl (by omega) (.slice (some ⟨w.heap.size, 0, none⟩) 0 0) (by simp [Act.eval]) 0 [] HM HS0.out (.slice a k (cap)) (by simp [Act.eval]) k (ec (xs.take k)) HT0.out (fun j _ => ec_one _ j) hm1 hy1 ?_; intro a1 cap1 w1 hr1 hg1; rw [Nat.zero_add, List.nil_append] at hr1; rw [Nat.zero_add]; have HR1 := Lib.hid hr1; have HB1 := Lib.hid (MapI.below_grown hg1 (fun q hq => (World.ownsRow.lt HM q hq).1) HS0.out HB0.out); clear hr1 hg1; obtain ⟨U1, e1, hbb, _, x0, x1, _, _⟩ := box2 w1 117 (.int .i64 z) (.int .i64 y); have HR1b := Lib.hid (Cop.row_below HR1.out hbb); have HB1b := Lib.hid (HB1.out.trans (hbb.mono HB1.out.size)); have HX := Lib.hid (And.intro x0 x1); clear hbb x0 x1; obtain ⟨M1, eM1⟩ : ∃ M, w1.heap.size = M := ⟨_, rfl⟩; rw [eM1] at HX; have EM1 := Lib.hid eM1; clear eM1)
          | (at_builtin; refine wpList_append_own _ rfl (.tmp 48) (.tmp 52) 47 rfl w.heap.size 117 i0 _ 2 16 Try.underlying47 hi0 hz0 hz1 hz2 rfl (by omega) (.slice a1 k cap1) k _ (by simp [Act.eval]) HR1b.out ⟨M1, 0, none⟩ 1 1 [Value.int .i64 z, .int .i64 y] (by simp [Act.eval] <;> exact EM1.out) rfl (lit_at HX.out.1 HX.out.2) ho1 hm2 hy2 HB1b.out.size ?_; intro v2 w2 hr2 hg2 _; obtain ⟨a2, cap2, rfl⟩ := MapI.row_form hr2; have HR2 := Lib.hid hr2; have HB2 := Lib.hid (MapI.below_grown hg2 (fun q hq => (World.ownsRow.lt HR1b.out q hq).1) HB1b.out.size HB1b.out); clear hr2 hg2)
          | (at_builtin; refine Cop.wpList_appR _ rfl (.tmp 53) (.tmp 54) 47 rfl w.heap.size 117 2 16 _ Try.underlying47 infoE rfl (by omega) (.slice a2 (k + 1) cap2) (by simp [Act.eval]) (k + 1) _ HR2.out HB2.out.size (.slice (Option.map (fun x => x.add (k * 2)) a) 0 (cap - k)) (by simp [Act.eval]) (0) (ec (xs.drop k)) (HTT.out _ HB2.out) (fun j _ => ec_one _ j) hm3 hy3 ?_; intro a3 cap3 w3 hr3 hg3; have HR3 := Lib.hid hr3; have HB3 := Lib.hid (MapI.below_grown hg3 (fun q hq => (World.ownsRow.lt HR2.out q hq).1) HB2.out.size HB2.out); clear hr3 hg3))
        go_ret
        exact ⟨_, rfl, HFIN.out _ _ _ HR3.out, HB3.out⟩
end Go.Proofs.Ytealdpkgfmokpaa.PutM
