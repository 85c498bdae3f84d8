/-
  What is proved: the model's reading of an operation answers as the words say (contracts for the walks).
-/
import Derived.Test.YtidbkamadclchaaDoorRows
import Derived.Test.YtidbkamadclchaaDoorNumM
import Derived.Deep.QuietTactic
import Derived.BigQuiet
namespace Go.Proofs.YtidbkamadclchaaDoor.ToOpM
open Go.ChangeShapes Go.WideShapes Go.ChangeAt Go.RowKit
open Sl (Sl Own Off)
open OpenSl (tc)
open Dev Orm Box3 OpB BatB Txt TxtB TxtR Dig TextM TextJ ReadI NumM
set_option linter.unusedVariables false

/-- What reading a number as it is told tells. -/
def N9 (L : B) (n : Int) (q : Bool) : Prop := (q = true → ∃ m : Nat, m < 1000000000000000000 ∧ n = m ∧ L = Lib.decDigits m) ∧ ∀ m : Nat, m < 1000000000000000000 → L = Lib.decDigits m → n = m ∧ q = true
def N9Post (L : B) (e : Ending) : Prop := ∃ (n : Int) (q : Bool), e = .returned (.tuple #[.int .i64 n, .bool q]) ∧ Hid (N9 L n q)
theorem ds_eq (m : Nat) (s : ByteArray) : ((ds m).toList == s.toList) = decide (Lib.decDigits m = s.data.toList) := by
  rw [ByteArray.toList_eq, ByteArray.toList_eq]
  show (Lib.decDigits m == s.data.toList) = _
  by_cases h : Lib.decDigits m = s.data.toList
  · rw [h]; simp
  · rw [decide_eq_false h]; exact beq_eq_false_iff_ne.2 h
set_option maxRecDepth 100000 in
set_option maxHeartbeats 1600000 in
theorem l09Number (s : ByteArray) (hs : s.size ≤ 65536) (w : World) :
    Calls Tryd.prog 48 #[.string s] w fun e w' => N9Post s.data.toList e ∧ Below w.heap.size w w' := by
  have HN := Lib.hid (fun u => NumM.l00Number s hs u)
  have HD := Lib.hid (fun (m : Nat) (hm : m < 1000000000000000000) u => l00Digits m hm u)
  have HE := Lib.hid (fun m => ds_eq m s)
  generalize s.data.toList = L at *
  go_enter Tryd.func48, Tryd.ntmps48
  go_wp2_with fail
  refine (HN.out _).mono ?_
  rintro e w1 ⟨⟨n, q, rfl, hn⟩, rfl⟩
  cases q with
  | false =>
    have HF := Lib.hid (show N9 L n false from ⟨fun h => (by cases h), fun m hm e => by have := (hn.out.2.2 m hm e).2; cases this⟩)
    clear hn
    go_wp2_with fail
    go_ret2
    exact ⟨⟨_, _, rfl, HF⟩, Below.refl _ _⟩
  | true =>
    by_cases h0 : 0 ≤ n
    · obtain ⟨m, rfl⟩ : ∃ m : Nat, n = m := ⟨n.toNat, by omega⟩
      have hm : m < 1000000000000000000 := by have := hn.out.2.1; omega
      have HU := Lib.hid (fun k (hk : k < 1000000000000000000) (e : L = Lib.decDigits k) => (hn.out.2.2 k hk e).1)
      have HDm := Lib.hid (fun u => HD.out m hm u)
      have HEm := Lib.hid (HE.out m)
      clear hn HE HD
      go_wp2_with fail
      refine (HDm.out _).mono ?_
      rintro e w2 ⟨rfl, hb⟩
      have HB := Lib.hid hb
      by_cases h : Lib.decDigits m = L
      · have b : ((ds m).toList == s.toList) = true := by rw [HEm.out]; exact decide_eq_true h
        have HF := Lib.hid (show N9 L (m : Int) true from ⟨fun _ => ⟨m, hm, rfl, h.symm⟩, fun k hk e => ⟨HU.out k hk e, rfl⟩⟩)
        clear h hb
        generalize ds m = dt at *
        go_wp2_with fail
        go_ret2
        exact ⟨⟨_, _, rfl, HF⟩, HB.out⟩
      · have b : ((ds m).toList == s.toList) = false := by rw [HEm.out]; exact decide_eq_false h
        have HF := Lib.hid (show N9 L (m : Int) false from ⟨fun h => (by cases h), fun k hk e => absurd (show Lib.decDigits m = L from by rw [show m = k by have := HU.out k hk e; omega]; exact e.symm) h⟩)
        clear h hb
        generalize ds m = dt at *
        go_wp2_with fail
        go_ret2
        exact ⟨⟨_, _, rfl, HF⟩, HB.out⟩
    · have g0 : ¬ (0 : Int) ≤ n := h0
      have HF := Lib.hid (show N9 L n false from ⟨fun h => (by cases h), fun m hm e => by have := (hn.out.2.2 m hm e).1; omega⟩)
      clear hn h0
      go_wp2_with fail
      go_ret2
      exact ⟨⟨_, _, rfl, HF⟩, Below.refl _ _⟩

/-- Plain: words and kinds and numbers make an operation. -/
theorem n9_dd {L : B} {n : Int} {q : Bool} (h : N9 L n q) {z : Int} (h0 : 0 ≤ z) (h1 : z ≤ 999999) (e : L = dd z) : q = true ∧ n = z := by
  have := h.2 z.toNat (by omega) e
  exact ⟨this.2, by omega⟩
theorem n9_back {L : B} {n : Int} (h : N9 L n true) : L = dd n := by
  obtain ⟨m, _, rfl, e⟩ := h.1 rfl
  rw [e]
  unfold dd
  rw [Int.toNat_natCast]
theorem kd_back {a : B} {r : Int} (h : Kd a r) (hr : K6 r) : a = word r := by
  rcases h with ⟨k, _, rfl, e⟩ | ⟨rfl, _⟩
  · exact e.symm
  · unfold K6 at hr; omega
theorem rtA2 {a b : B} {r n : Int} {q : Bool} (hk : Kd a r) (hn : N9 b n q) {y : Bk} (h : Rt [a, b] y) : Bare r ∧ q = true ∧ y = (r, n, 0) := by
  rcases rt_len h with ⟨hb, _⟩ | ⟨_, h2⟩
  · obtain ⟨h1, h2⟩ := h
    have hv := ok_val h1
    unfold parts at h2
    rw [if_pos hb] at h2
    injection h2 with e1 h2
    injection h2 with e2 h2
    obtain ⟨k, z, v⟩ := y
    have hok := h1
    obtain ⟨q1, q2, _⟩ := h1
    simp only at *
    have hr := kd_of hk (ok_kind hok) e1
    have hz := n9_dd hn (by omega) (by omega) e2
    refine ⟨by rw [hr]; exact hb, hz.1, ?_⟩
    rw [hr, hz.2, show v = 0 by rcases hv with h | h; exact h.2; exact absurd hb h.1]
  · simp at h2
theorem rtA3 {a b c : B} {r n m : Int} {q q2 : Bool} (hk : Kd a r) (hn : N9 b n q) (hm : N9 c m q2) {y : Bk} (h : Rt [a, b, c] y) : ¬ Bare r ∧ q = true ∧ q2 = true ∧ y = (r, n, m) := by
  rcases rt_len h with ⟨_, h2⟩ | ⟨hb, _⟩
  · simp at h2
  · obtain ⟨h1, h2⟩ := h
    have hv := ok_val h1
    unfold parts at h2
    rw [if_neg hb] at h2
    injection h2 with e1 h2
    injection h2 with e2 h2
    injection h2 with e3 h2
    obtain ⟨k, z, v⟩ := y
    have hok := h1
    obtain ⟨p1, p2, _⟩ := h1
    simp only at *
    have hr := kd_of hk (ok_kind hok) e1
    have hz := n9_dd hn (by omega) (by omega) e2
    have hz2 := n9_dd hm (by omega) (by omega) e3
    refine ⟨by rw [hr]; exact hb, hz.1, hz2.1, ?_⟩
    rw [hr, hz.2, hz2.2]
theorem rtB2 {a b : B} {r n : Int} (hk : Kd a r) (hn : N9 b n true) (hb : Bare r) (ho : Ok (r, n, 0)) : Rt [a, b] (r, n, 0) := by
  refine ⟨ho, ?_⟩
  unfold parts
  rw [if_pos hb, kd_back hk (ok_kind ho), n9_back hn]
theorem rtB3 {a b c : B} {r n m : Int} (hk : Kd a r) (hn : N9 b n true) (hm : N9 c m true) (hb : ¬ Bare r) (ho : Ok (r, n, m)) : Rt [a, b, c] (r, n, m) := by
  refine ⟨ho, ?_⟩
  unfold parts
  rw [if_neg hb, kd_back hk (ok_kind ho), n9_back hn, n9_back hm]

/-- The kinds before k were looked at. -/
def Kp (L : B) (r : Int) (k : Nat) : Prop := (∃ j : Nat, 1 ≤ j ∧ j < k ∧ r = j ∧ word j = L) ∨ (r = 0 ∧ ∀ j : Nat, 1 ≤ j → j < k → word j ≠ L)
theorem kp_hit {L : B} {k : Nat} (h1 : 1 ≤ k) (e : word k = L) : Kp L (k : Int) (k + 1) := .inl ⟨k, h1, by omega, rfl, e⟩
theorem kp_miss {L : B} {r : Int} {k : Nat} (h : Kp L r k) (e : word k ≠ L) : Kp L r (k + 1) := by
  rcases h with ⟨j, h1, h2, h3, h4⟩ | ⟨h1, h2⟩
  · exact .inl ⟨j, h1, by omega, h3, h4⟩
  · exact .inr ⟨h1, fun j a b => by
      by_cases ej : j = k
      · rw [ej]; exact e
      · exact h2 j a (by omega)⟩
theorem kp_end {L : B} {r : Int} (h : Kp L r 7) (hne : L ≠ []) : Kd L r := by
  rcases h with ⟨j, h1, h2, h3, h4⟩ | ⟨h1, h2⟩
  · exact .inl ⟨j, h2, h3, h4⟩
  · exact .inr ⟨h1, fun j a => by
      by_cases ej : j = 0
      · subst ej; exact fun e => hne e.symm
      · exact h2 j (by omega) a⟩

/-- In the midst of reading. -/
structure Mid (w : World) (base G1 G2 : Nat) (v : Value) (ts : List ByteArray) (r p q : Int) (x : World) : Prop where
  bx2 : Bx x G2 (.int .i64 r) (.int .i64 p) (.int .i64 q)
  bx1 : Bx x G1 (.int .i64 0) (.int .i64 0) (.int .i64 0)
  below : Below w.heap.size w x
  own : Own x base 1 v ts.length (tc ts)
  ne : G1 ≠ G2
  lo1 : w.heap.size ≤ G1
  lo2 : w.heap.size ≤ G2
  off : Off v G2
variable {w x y : World} {base G1 G2 : Nat} {v : Value} {ts : List ByteArray} {r p q : Int}
theorem Mid.next (h : Mid w base G1 G2 v ts r p q x) (hb : Below x.heap.size x y) : Mid w base G1 G2 v ts r p q y :=
  ⟨h.bx2.below hb, h.bx1.below hb, h.below.trans (hb.mono h.below.size), h.own.below hb, h.ne, h.lo1, h.lo2, h.off⟩
theorem Mid.put0 (h : Mid w base G1 G2 v ts r p q x) (z : Int) : Mid w base G1 G2 v ts z p q (x.setCell ⟨G2, 0, none⟩ (.int .i64 z)) :=
  ⟨h.bx2.set0 _, h.bx1.other h.ne 0 _, h.below.setCell (p := ⟨G2, 0, none⟩) h.lo2 _, own_set_off h.own h.off 0 _, h.ne, h.lo1, h.lo2, h.off⟩
theorem Mid.put1 (h : Mid w base G1 G2 v ts r p q x) (z : Int) : Mid w base G1 G2 v ts r z q (x.setCell ⟨G2, 1, none⟩ (.int .i64 z)) :=
  ⟨h.bx2.set1 _, h.bx1.other h.ne 1 _, h.below.setCell (p := ⟨G2, 1, none⟩) h.lo2 _, own_set_off h.own h.off 1 _, h.ne, h.lo1, h.lo2, h.off⟩
theorem Mid.put2 (h : Mid w base G1 G2 v ts r p q x) (z : Int) : Mid w base G1 G2 v ts r p z (x.setCell ⟨G2, 2, none⟩ (.int .i64 z)) :=
  ⟨h.bx2.set2 _, h.bx1.other h.ne 2 _, h.below.setCell (p := ⟨G2, 2, none⟩) h.lo2 _, own_set_off h.own h.off 2 _, h.ne, h.lo1, h.lo2, h.off⟩
theorem Mid.texts {b o cap : Nat} (h : Mid w base G1 G2 (.slice (some ⟨b, o, none⟩) ts.length cap) ts r p q x) {j : Nat} (hj : j < ts.length) : x.cell? ⟨b, o + j, none⟩ = some (.string (ts.getD j ByteArray.empty)) := by
  obtain ⟨b9, o9, e9, _, hc⟩ := h.own.at (show 0 < ts.length by omega)
  obtain ⟨rfl, rfl⟩ : b = b9 ∧ o = o9 := by simpa using e9
  exact (hc j (by omega)).1
theorem rtP {a b : B} {rest : List B} {r n : Int} {q : Bool} (hk : Kd a r) (hn : N9 b n q) {y : Bk} (h : Rt (a :: b :: rest) y) : q = true ∧ (Bare r → rest.length = 0) ∧ (¬ Bare r → rest.length = 1) := by
  obtain ⟨h1, h2⟩ := h
  obtain ⟨k, z, v⟩ := y
  have hok := h1
  obtain ⟨q1, q2, _⟩ := h1
  unfold parts at h2
  simp only at *
  by_cases hb : Bare k
  · rw [if_pos hb] at h2
    injection h2 with e1 h2
    injection h2 with e2 h2
    have hr : r = k := kd_of hk (ok_kind hok) e1
    have hz := n9_dd hn (by omega) (by omega) e2
    exact ⟨hz.1, fun _ => by rw [h2]; rfl, fun h => absurd (by rw [hr]; exact hb) h⟩
  · rw [if_neg hb] at h2
    injection h2 with e1 h2
    injection h2 with e2 h2
    have hr : r = k := kd_of hk (ok_kind hok) e1
    have hz := n9_dd hn (by omega) (by omega) e2
    exact ⟨hz.1, fun h => absurd (by rw [← hr]; exact h) hb, fun _ => by rw [h2]; rfl⟩
theorem ansNo {ws : List B} (h : ∀ y, ¬ Rt ws y) : Ans ws (0, 0, 0) false := ⟨fun h => (by cases h), fun y hy => absurd hy (h y)⟩
theorem ansYes {ws : List B} {x : Bk} (h : Rt ws x) : Ans ws x true := ⟨fun _ => h, fun _ _ => rfl⟩
theorem lst2 {α β : Type} (f : α → β) (d : α) : ∀ ts : List α, 2 ≤ ts.length → ∃ rest, ts.map f = f (ts.getD 0 d) :: f (ts.getD 1 d) :: rest ∧ rest.length + 2 = ts.length ∧ (ts.length = 3 → rest = [f (ts.getD 2 d)]) ∧ (ts.length = 2 → rest = [])
  | [], h => by simp at h
  | [_], h => by simp at h
  | a :: b :: r, _ => ⟨r.map f, rfl, by simp, fun h => by
      match r, h with
      | [c], _ => rfl, fun h => by
      match r, h with
      | [], _ => rfl⟩
/-- The answer is stored. -/
theorem Mid.fin (h : Mid w base G1 G2 v ts r p q x) (a b c : Int) : ∃ F, ((x.setCell ⟨G1, 0, none⟩ (.int .i64 a)).setCell ⟨G1, 1, none⟩ (.int .i64 b)).setCell ⟨G1, 2, none⟩ (.int .i64 c) = F ∧ Bx F G1 (.int .i64 a) (.int .i64 b) (.int .i64 c) ∧ Below w.heap.size w F := by
  obtain ⟨F, e, h1, h2, h3, _⟩ := put3 h.bx1 (.int .i64 a) (.int .i64 b) (.int .i64 c)
  exact ⟨F, e, h1, h.below.trans (h3 _ h.lo1)⟩
/-- The words in their list. -/
def Ws (g : Nat) (x : World) : Prop := ∀ k : Nat, k < 7 → x.cell? ⟨g, k, none⟩ = some (.string (wB k))
theorem Ws.below {g : Nat} (h : Ws g x) (hb : Below x.heap.size x y) : Ws g y := fun k hk => (hb.cell (World.block_lt_of_cell? x _ (h k hk))).trans (h k hk)
theorem Ws.set {g : Nat} (h : Ws g x) {G2 : Nat} (hne : g ≠ G2) (j : Nat) (z : Value) : Ws g (x.setCell ⟨G2, j, none⟩ z) := fun k hk => by
  have := h k hk
  unfold World.cell? at this ⊢
  rw [Below.heap_setCell x _ z g hne]
  exact this

theorem l01Bit (b : Bool) (w : World) : Calls Tryd.prog 49 #[.bool b] w fun e w' => e = .returned (.int .i64 (if b = true then 1 else 0)) ∧ w = w' := by
  cases b with
  | true =>
    go_enter Tryd.func49, Tryd.ntmps49
    go_wp2
    go_ret
    exact ⟨rfl, rfl⟩
  | false =>
    go_enter Tryd.func49, Tryd.ntmps49
    go_wp2
    go_ret
    exact ⟨rfl, rfl⟩

def TPost (ws : List B) (e : Ending) : Prop := ∃ (x : Bk) (q : Bool), e = .returned (.tuple #[bv x, .bool q]) ∧ Hid (Ans ws x q)

set_option maxRecDepth 100000 in
set_option maxHeartbeats 6400000 in
theorem l09ToOp (w : World) (s : ByteArray) (hs : s.size ≤ 65536) :
    Calls Tryd.prog 26 #[.string s] w fun e w' => TPost (wds s.data.toList) e ∧ Below w.heap.size w w' := by
  have HLW := Lib.hid (fun u => WordsM.l00Words s hs u)
  have HWD := Lib.hid (wds_wd s.data.toList)
  have HWL := Lib.hid (show ∀ x ∈ wds s.data.toList, x.length ≤ 65536 from fun x hx => by have := wds_le s.data.toList x hx; have h2 : s.data.toList.length = s.size := rfl; omega)
  generalize wds s.data.toList = ws at *
  obtain ⟨U, e1, hb, hz, X⟩ := box3 w 26 (.int .i64 0) (.int .i64 0) (.int .i64 0)
  obtain ⟨G1, eG⟩ : ∃ G, w.heap.size = G := ⟨_, rfl⟩
  have HB0 := Lib.hid hb
  have HG1 := Lib.hid (show w.heap.size ≤ G1 by omega)
  have HGU := Lib.hid (show G1 < U.heap.size by omega)
  rw [eG] at X
  have HX0 := Lib.hid X
  clear hb hz X
  go_enter Tryd.func26, Tryd.ntmps26
  go_wp2_with fail
  refine (HLW.out _).mono ?_
  rintro e w1 ⟨v, ts, rfl, HO, hb⟩
  have HX1a := Lib.hid (HX0.out.below hb)
  have HB1 := Lib.hid (HB0.out.trans (hb.mono HB0.out.size))
  have HGW := Lib.hid (show U.heap.size ≤ w1.heap.size from hb.size)
  clear hb e1 eG HLW
  obtain ⟨V, e2, hb2, hz2, X2⟩ := box3 w1 26 (.int .i64 0) (.int .i64 0) (.int .i64 0)
  obtain ⟨G2, eG2⟩ : ∃ G, w1.heap.size = G := ⟨_, rfl⟩
  have HG2V := Lib.hid (show G2 < V.heap.size by omega)
  have HG2 := Lib.hid (show G1 < G2 ∧ w.heap.size ≤ G2 by have := HGU.out; have := HGW.out; have := HG1.out; omega)
  rw [eG2] at X2
  have HMV := Lib.hid (show Mid w U.heap.size G1 G2 v ts 0 0 0 V from ⟨X2, HX1a.out.below hb2, HB1.out.trans (hb2.mono HB1.out.size), HO.out.2.below hb2, by have := HG2.out; omega, HG1.out, HG2.out.2, (lies_of HO.out.2 (by omega)).off (by right; omega)⟩)
  have HWS := Lib.hid HO.out.1
  obtain ⟨a0, cap, rfl, _, hm⟩ := HO.out.2.sl.form
  unfold maxLen at hm
  clear hb2 hz2 X2 HO HX0 HX1a HB1 HB0
  have HWLEN := Lib.hid (show ws.length = ts.length by rw [← HWS.out, List.length_map])
  obtain ⟨V2, eV2⟩ : ∃ V2, ((V.setCell ⟨G2, 0, none⟩ (.int .i64 0)).setCell ⟨G2, 1, none⟩ (.int .i64 0)).setCell ⟨G2, 2, none⟩ (.int .i64 0) = V2 := ⟨_, rfl⟩
  have HM := Lib.hid (show Mid w U.heap.size G1 G2 (.slice a0 ts.length cap) ts 0 0 0 V2 from eV2 ▸ ((HMV.out.put0 0).put1 0).put2 0)
  have HG2W := Lib.hid (show G2 < V2.heap.size from HM.out.bx2.lt)
  obtain ⟨c0, c1, c2, f0, f1, f2⟩ := HMV.out.bx2
  go_upto_region 3 with (fail)
  clear c0 c1 c2 f0 f1 f2 e2 eG2 eV2 HMV HG2V
  by_cases h2 : ts.length < 2
  · have g2 : (ts.length : Int) < 2 := by omega
    have HA := Lib.hid (ansNo (ws := ws) (fun y hy => by have := HWLEN.out; rcases rt_len hy with h | h <;> omega))
    clear h2
    obtain ⟨F, eF, HXF, hbF⟩ := HM.out.fin 0 0 0
    obtain ⟨c0, c1, c2, f0, f1, f2⟩ := HM.out.bx2
    obtain ⟨d0, d1, d2, j0, j1, j2⟩ := HM.out.bx1
    obtain ⟨R0, R1, R2, _, _, _⟩ := HXF
    have HBF := Lib.hid hbF
    clear hbF
    go_wp2
    refine bodyPost_ret (v := .tuple #[.agg #[.int .i64 0, .int .i64 0, .int .i64 0], .bool false]) (by simp [results, Tryd.results26, go_sem, R0, R1, R2]) rfl ⟨⟨(0, 0, 0), false, rfl, HA⟩, HBF.out⟩
  obtain ⟨b, o, rfl, _, _⟩ := HM.out.own.at (show 0 < ts.length by omega)
  have g2 : ¬ (ts.length : Int) < 2 := by omega
  have i0 : (0 : Int) < (ts.length : Int) := by omega
  have i1 : (1 : Int) < (ts.length : Int) := by omega
  have HLN := Lib.hid (show 2 ≤ ts.length by omega)
  have HLW2 := Lib.hid (fun u => TextM.l09Words u)
  obtain ⟨rest, hws, hrl, hr3, hr2⟩ := lst2 (fun t : ByteArray => t.data.toList) ByteArray.empty ts (by omega)
  obtain ⟨ta, eta⟩ : ∃ t, ts.getD 0 ByteArray.empty = t := ⟨_, rfl⟩
  obtain ⟨tb, etb⟩ : ∃ t, ts.getD 1 ByteArray.empty = t := ⟨_, rfl⟩
  obtain ⟨tcc, etc⟩ : ∃ t, ts.getD 2 ByteArray.empty = t := ⟨_, rfl⟩
  rw [eta, etb] at hws
  rw [etc] at hr3
  have HWF := Lib.hid (show ws = ta.data.toList :: tb.data.toList :: rest from HWS.out.symm.trans hws)
  have HRL := Lib.hid hrl
  have HR3 := Lib.hid hr3
  have HR2 := Lib.hid hr2
  have HTA := Lib.hid eta
  have HTB := Lib.hid etb
  have HTC := Lib.hid etc
  have HNE := Lib.hid (show ta.data.toList ≠ [] from (HWD.out _ (by rw [HWF.out]; simp)).1)
  have HN9B := Lib.hid (fun u => l09Number tb (HWL.out tb.data.toList (by rw [HWF.out]; simp)) u)
  clear h2 hws hrl hr3 hr2 eta etb etc HWS HWD
  go_wp2_with fail
  refine (HLW2.out _).mono ?_
  rintro e w2 ⟨g, rfl, hcell, hgg, hb⟩
  have HM2 := Lib.hid (HM.out.next hb)
  have HC2 := Lib.hid (show Ws g w2 from hcell)
  have HGG := Lib.hid (show g ≠ G2 by have := HG2W.out; omega)
  clear hcell hgg hb HM HLW2
  go_wp2_with fail
  go_loopw [7] (fun i wz => ∃ (k : Nat) (r : Int) (x : World), x = wz ∧ 1 ≤ k ∧ k ≤ 7 ∧ i = .int .i64 k ∧ Hid (Mid w U.heap.size G1 G2 (.slice (some ⟨b, o, none⟩) ts.length cap) ts r 0 0 x ∧ Ws g x ∧ Kp ta.data.toList r k)) (fun i _ => 7 - (intOf i).toNat)
  case atStart => exact ⟨1, 0, _, rfl, by omega, by omega, rfl, Lib.hid ⟨HM2.out, HC2.out, .inr ⟨rfl, fun j a b => by omega⟩⟩⟩
  case round =>
    obtain ⟨k, r, x, rfl, hk1, hk, rfl, H⟩ := hrel
    by_cases hlt : k < 7
    · have t0 := H.out.1.texts (j := 0) (show 0 < ts.length by have := HLN.out; omega)
      rw [HTA.out, Nat.add_zero] at t0
      have t1 := H.out.2.1 k hlt
      have HQ := Lib.hid (ReadI.wB_eq k ta)
      obtain ⟨c0, c1, c2, f0, f1, f2⟩ := H.out.1.bx2
      by_cases hw : word k = ta.data.toList
      · have hq2 : ((wB (k : Int)).toList == ta.toList) = true := by rw [HQ.out]; exact decide_eq_true hw
        have HK := Lib.hid (kp_hit hk1 hw)
        clear hw
        generalize wB (k : Int) = wd at *
        go_wp2_with fail
        go_quiet (fail)
        go_wp2_with fail
        go_roundw
        case rel => exact ⟨k + 1, (k : Int), _, rfl, by omega, by omega, by go_num, Lib.hid ⟨(H.out.1.next (below_drewN (Below.refl _ _) _)).put0 _, (H.out.2.1.below (below_drewN (Below.refl _ _) _)).set HGG.out 0 _, HK.out⟩⟩
        case measure => simp [intOf]; omega
      · have hq2 : ((wB (k : Int)).toList == ta.toList) = false := by rw [HQ.out]; exact decide_eq_false hw
        have HK := Lib.hid (kp_miss H.out.2.2 hw)
        clear hw
        generalize wB (k : Int) = wd at *
        go_wp2_with fail
        go_quiet (fail)
        go_wp2_with fail
        go_roundw
        case rel => exact ⟨k + 1, r, _, rfl, by omega, by omega, by go_num, Lib.hid ⟨H.out.1.next (below_drewN (Below.refl _ _) _), H.out.2.1.below (below_drewN (Below.refl _ _) _), HK.out⟩⟩
        case measure => simp [intOf]; omega
    · have HKD := Lib.hid (show Kd ta.data.toList r from kp_end (by have h7 : k = 7 := by omega
                                                                    rw [← h7]; exact H.out.2.2) HNE.out)
      have HM3 := Lib.hid H.out.1
      have t1 := HM3.out.texts (j := 1) (show 1 < ts.length by have := HLN.out; omega)
      rw [HTB.out] at t1
      clear H HM2 HC2
      go_wp2_with fail
      refine (HN9B.out _).mono ?_
      rintro e w4 ⟨⟨n, q, rfl, HN⟩, hb4⟩
      have HM4 := Lib.hid (HM3.out.next hb4)
      obtain ⟨w5, e5⟩ : ∃ w5, w4.setCell ⟨G2, 1, none⟩ (.int .i64 n) = w5 := ⟨_, rfl⟩
      have HM5 := Lib.hid (show Mid w U.heap.size G1 G2 (.slice (some ⟨b, o, none⟩) ts.length cap) ts r n 0 w5 from e5 ▸ HM4.out.put1 n)
      obtain ⟨c0, c1, c2, f0, f1, f2⟩ := HM4.out.bx2
      clear hb4 t1 HM3
      go_upto_region 13 with (fail)
      clear c0 c1 c2 f0 f1 f2 e5
      have HRR : Hid (r = 1 ∨ r = 3 ∨ (¬ r = 1 ∧ ¬ r = 3)) := Lib.hid (by omega)
      rcases HRR.out with hr | hr | hr
      · clear HRR
        have b1 : (r == 1) = true := beq_iff_eq.2 hr

        have HBARE := Lib.hid (show Bare r by unfold Bare; omega)
        have HBT := Lib.hid (fun u => show Calls Tryd.prog 49 #[.bool true] u fun e w' => e = .returned (.int .i64 1) ∧ u = w' from l01Bit true u)
        clear hr
        obtain ⟨c0, c1, c2, f0, f1, f2⟩ := HM5.out.bx2
        go_wp2_with fail
        refine (HBT.out _).mono ?_
        rintro e w6 ⟨rfl, rfl⟩
        clear c0 c1 c2 f0 f1 f2 HBT
        cases q with
        | false =>
          have HA := Lib.hid (ansNo (ws := ws) (fun y hy => by have h := (rtP HKD.out HN.out (show Rt (ta.data.toList :: tb.data.toList :: rest) y by rw [← HWF.out]; exact hy)).1; cases h))
          obtain ⟨F, eF, HXF, hbF⟩ := HM5.out.fin 0 0 0
          obtain ⟨c0, c1, c2, f0, f1, f2⟩ := HM5.out.bx2
          obtain ⟨d0, d1, d2, j0, j1, j2⟩ := HM5.out.bx1
          obtain ⟨R0, R1, R2, _, _, _⟩ := HXF
          have HBF := Lib.hid hbF
          clear hbF
          go_wp2
          refine bodyPost_ret (v := .tuple #[.agg #[.int .i64 0, .int .i64 0, .int .i64 0], .bool false]) (by simp [results, Tryd.results26, go_sem, R0, R1, R2]) rfl ⟨⟨(0, 0, 0), false, rfl, HA⟩, HBF.out⟩
        | true =>
          by_cases hlen : ts.length = 2
          · have l1 : ((ts.length : Int) == 2) = true := beq_iff_eq.2 (by omega)
            have l2 : ((ts.length : Int) != 2) = false := by rw [bne, l1]; rfl
            have HWF2 := Lib.hid (show ws = [ta.data.toList, tb.data.toList] by rw [HWF.out, HR2.out hlen])
            clear hlen
            have HSO := Lib.hid (fun u => OpB.specOk u r n 0)
            by_cases hok : Ok (r, n, 0)
            · rw [decide_eq_true hok] at HSO
              have HA := Lib.hid (ansYes ((show Ok (r, n, 0) → Rt ws (r, n, 0) from fun hok => by rw [HWF2.out]; exact rtB2 HKD.out HN.out HBARE.out hok) hok))
              clear hok
              obtain ⟨c0, c1, c2, f0, f1, f2⟩ := HM5.out.bx2
              go_wp2_with fail
              refine (HSO.out _).mono ?_
              rintro e w8 ⟨rfl, hb8⟩
              have HM8 := Lib.hid (HM5.out.next hb8)
              clear hb8 c0 c1 c2 f0 f1 f2
              obtain ⟨F, eF, HXF, hbF⟩ := HM8.out.fin r n 0
              obtain ⟨c0, c1, c2, f0, f1, f2⟩ := HM8.out.bx2
              obtain ⟨d0, d1, d2, j0, j1, j2⟩ := HM8.out.bx1
              obtain ⟨R0, R1, R2, _, _, _⟩ := HXF
              have HBF := Lib.hid hbF
              clear hbF
              go_wp2
              refine bodyPost_ret (v := .tuple #[.agg #[.int .i64 r, .int .i64 n, .int .i64 0], .bool true]) (by simp [results, Tryd.results26, go_sem, R0, R1, R2]) rfl ⟨⟨(r, n, 0), true, rfl, HA⟩, HBF.out⟩
            · rw [decide_eq_false hok] at HSO
              have HA := Lib.hid (ansNo (ws := ws) (fun y hy => hok ((show ∀ y, Rt ws y → Ok (r, n, 0) from fun y hy => by have h := rtA2 HKD.out HN.out (show Rt [ta.data.toList, tb.data.toList] y by rw [← HWF2.out]; exact hy); rw [← h.2.2]; exact hy.1) y hy)))
              clear hok
              obtain ⟨c0, c1, c2, f0, f1, f2⟩ := HM5.out.bx2
              go_wp2_with fail
              refine (HSO.out _).mono ?_
              rintro e w8 ⟨rfl, hb8⟩
              have HM8 := Lib.hid (HM5.out.next hb8)
              clear hb8 c0 c1 c2 f0 f1 f2
              obtain ⟨F, eF, HXF, hbF⟩ := HM8.out.fin 0 0 0
              obtain ⟨c0, c1, c2, f0, f1, f2⟩ := HM8.out.bx2
              obtain ⟨d0, d1, d2, j0, j1, j2⟩ := HM8.out.bx1
              obtain ⟨R0, R1, R2, _, _, _⟩ := HXF
              have HBF := Lib.hid hbF
              clear hbF
              go_wp2
              refine bodyPost_ret (v := .tuple #[.agg #[.int .i64 0, .int .i64 0, .int .i64 0], .bool false]) (by simp [results, Tryd.results26, go_sem, R0, R1, R2]) rfl ⟨⟨(0, 0, 0), false, rfl, HA⟩, HBF.out⟩
          · have l1 : ((ts.length : Int) == 2) = false := beq_eq_false_iff_ne.2 (by omega)
            have l2 : ((ts.length : Int) != 2) = true := by rw [bne, l1]; rfl
            have HA := Lib.hid (ansNo (ws := ws) (fun y hy => by have h := (rtP HKD.out HN.out (show Rt (ta.data.toList :: tb.data.toList :: rest) y by rw [← HWF.out]; exact hy)).2.1 HBARE.out; have := HRL.out; omega))
            clear hlen
            obtain ⟨F, eF, HXF, hbF⟩ := HM5.out.fin 0 0 0
            obtain ⟨c0, c1, c2, f0, f1, f2⟩ := HM5.out.bx2
            obtain ⟨d0, d1, d2, j0, j1, j2⟩ := HM5.out.bx1
            obtain ⟨R0, R1, R2, _, _, _⟩ := HXF
            have HBF := Lib.hid hbF
            clear hbF
            go_wp2
            refine bodyPost_ret (v := .tuple #[.agg #[.int .i64 0, .int .i64 0, .int .i64 0], .bool false]) (by simp [results, Tryd.results26, go_sem, R0, R1, R2]) rfl ⟨⟨(0, 0, 0), false, rfl, HA⟩, HBF.out⟩
      · clear HRR
        have b1 : (r == 1) = false := beq_eq_false_iff_ne.2 (by omega)
        have b3 : (r == 3) = true := beq_iff_eq.2 hr
        have HBARE := Lib.hid (show Bare r by unfold Bare; omega)
        have HBT := Lib.hid (fun u => show Calls Tryd.prog 49 #[.bool true] u fun e w' => e = .returned (.int .i64 1) ∧ u = w' from l01Bit true u)
        clear hr
        obtain ⟨c0, c1, c2, f0, f1, f2⟩ := HM5.out.bx2
        go_wp2_with fail
        refine (HBT.out _).mono ?_
        rintro e w6 ⟨rfl, rfl⟩
        clear c0 c1 c2 f0 f1 f2 HBT
        cases q with
        | false =>
          have HA := Lib.hid (ansNo (ws := ws) (fun y hy => by have h := (rtP HKD.out HN.out (show Rt (ta.data.toList :: tb.data.toList :: rest) y by rw [← HWF.out]; exact hy)).1; cases h))
          obtain ⟨F, eF, HXF, hbF⟩ := HM5.out.fin 0 0 0
          obtain ⟨c0, c1, c2, f0, f1, f2⟩ := HM5.out.bx2
          obtain ⟨d0, d1, d2, j0, j1, j2⟩ := HM5.out.bx1
          obtain ⟨R0, R1, R2, _, _, _⟩ := HXF
          have HBF := Lib.hid hbF
          clear hbF
          go_wp2
          refine bodyPost_ret (v := .tuple #[.agg #[.int .i64 0, .int .i64 0, .int .i64 0], .bool false]) (by simp [results, Tryd.results26, go_sem, R0, R1, R2]) rfl ⟨⟨(0, 0, 0), false, rfl, HA⟩, HBF.out⟩
        | true =>
          by_cases hlen : ts.length = 2
          · have l1 : ((ts.length : Int) == 2) = true := beq_iff_eq.2 (by omega)
            have l2 : ((ts.length : Int) != 2) = false := by rw [bne, l1]; rfl
            have HWF2 := Lib.hid (show ws = [ta.data.toList, tb.data.toList] by rw [HWF.out, HR2.out hlen])
            clear hlen
            have HSO := Lib.hid (fun u => OpB.specOk u r n 0)
            by_cases hok : Ok (r, n, 0)
            · rw [decide_eq_true hok] at HSO
              have HA := Lib.hid (ansYes ((show Ok (r, n, 0) → Rt ws (r, n, 0) from fun hok => by rw [HWF2.out]; exact rtB2 HKD.out HN.out HBARE.out hok) hok))
              clear hok
              obtain ⟨c0, c1, c2, f0, f1, f2⟩ := HM5.out.bx2
              go_wp2_with fail
              refine (HSO.out _).mono ?_
              rintro e w8 ⟨rfl, hb8⟩
              have HM8 := Lib.hid (HM5.out.next hb8)
              clear hb8 c0 c1 c2 f0 f1 f2
              obtain ⟨F, eF, HXF, hbF⟩ := HM8.out.fin r n 0
              obtain ⟨c0, c1, c2, f0, f1, f2⟩ := HM8.out.bx2
              obtain ⟨d0, d1, d2, j0, j1, j2⟩ := HM8.out.bx1
              obtain ⟨R0, R1, R2, _, _, _⟩ := HXF
              have HBF := Lib.hid hbF
              clear hbF
              go_wp2
              refine bodyPost_ret (v := .tuple #[.agg #[.int .i64 r, .int .i64 n, .int .i64 0], .bool true]) (by simp [results, Tryd.results26, go_sem, R0, R1, R2]) rfl ⟨⟨(r, n, 0), true, rfl, HA⟩, HBF.out⟩
            · rw [decide_eq_false hok] at HSO
              have HA := Lib.hid (ansNo (ws := ws) (fun y hy => hok ((show ∀ y, Rt ws y → Ok (r, n, 0) from fun y hy => by have h := rtA2 HKD.out HN.out (show Rt [ta.data.toList, tb.data.toList] y by rw [← HWF2.out]; exact hy); rw [← h.2.2]; exact hy.1) y hy)))
              clear hok
              obtain ⟨c0, c1, c2, f0, f1, f2⟩ := HM5.out.bx2
              go_wp2_with fail
              refine (HSO.out _).mono ?_
              rintro e w8 ⟨rfl, hb8⟩
              have HM8 := Lib.hid (HM5.out.next hb8)
              clear hb8 c0 c1 c2 f0 f1 f2
              obtain ⟨F, eF, HXF, hbF⟩ := HM8.out.fin 0 0 0
              obtain ⟨c0, c1, c2, f0, f1, f2⟩ := HM8.out.bx2
              obtain ⟨d0, d1, d2, j0, j1, j2⟩ := HM8.out.bx1
              obtain ⟨R0, R1, R2, _, _, _⟩ := HXF
              have HBF := Lib.hid hbF
              clear hbF
              go_wp2
              refine bodyPost_ret (v := .tuple #[.agg #[.int .i64 0, .int .i64 0, .int .i64 0], .bool false]) (by simp [results, Tryd.results26, go_sem, R0, R1, R2]) rfl ⟨⟨(0, 0, 0), false, rfl, HA⟩, HBF.out⟩
          · have l1 : ((ts.length : Int) == 2) = false := beq_eq_false_iff_ne.2 (by omega)
            have l2 : ((ts.length : Int) != 2) = true := by rw [bne, l1]; rfl
            have HA := Lib.hid (ansNo (ws := ws) (fun y hy => by have h := (rtP HKD.out HN.out (show Rt (ta.data.toList :: tb.data.toList :: rest) y by rw [← HWF.out]; exact hy)).2.1 HBARE.out; have := HRL.out; omega))
            clear hlen
            obtain ⟨F, eF, HXF, hbF⟩ := HM5.out.fin 0 0 0
            obtain ⟨c0, c1, c2, f0, f1, f2⟩ := HM5.out.bx2
            obtain ⟨d0, d1, d2, j0, j1, j2⟩ := HM5.out.bx1
            obtain ⟨R0, R1, R2, _, _, _⟩ := HXF
            have HBF := Lib.hid hbF
            clear hbF
            go_wp2
            refine bodyPost_ret (v := .tuple #[.agg #[.int .i64 0, .int .i64 0, .int .i64 0], .bool false]) (by simp [results, Tryd.results26, go_sem, R0, R1, R2]) rfl ⟨⟨(0, 0, 0), false, rfl, HA⟩, HBF.out⟩
      · clear HRR
        have b1 : (r == 1) = false := beq_eq_false_iff_ne.2 (by omega)
        have b3 : (r == 3) = false := beq_eq_false_iff_ne.2 (by omega)
        have HBARE := Lib.hid (show ¬ Bare r by unfold Bare; omega)
        have HBT := Lib.hid (fun u => show Calls Tryd.prog 49 #[.bool false] u fun e w' => e = .returned (.int .i64 0) ∧ u = w' from l01Bit false u)
        clear hr
        obtain ⟨c0, c1, c2, f0, f1, f2⟩ := HM5.out.bx2
        go_wp2_with fail
        refine (HBT.out _).mono ?_
        rintro e w6 ⟨rfl, rfl⟩
        clear c0 c1 c2 f0 f1 f2 HBT
        cases q with
        | false =>
          have HA := Lib.hid (ansNo (ws := ws) (fun y hy => by have h := (rtP HKD.out HN.out (show Rt (ta.data.toList :: tb.data.toList :: rest) y by rw [← HWF.out]; exact hy)).1; cases h))
          obtain ⟨F, eF, HXF, hbF⟩ := HM5.out.fin 0 0 0
          obtain ⟨c0, c1, c2, f0, f1, f2⟩ := HM5.out.bx2
          obtain ⟨d0, d1, d2, j0, j1, j2⟩ := HM5.out.bx1
          obtain ⟨R0, R1, R2, _, _, _⟩ := HXF
          have HBF := Lib.hid hbF
          clear hbF
          go_wp2
          refine bodyPost_ret (v := .tuple #[.agg #[.int .i64 0, .int .i64 0, .int .i64 0], .bool false]) (by simp [results, Tryd.results26, go_sem, R0, R1, R2]) rfl ⟨⟨(0, 0, 0), false, rfl, HA⟩, HBF.out⟩
        | true =>
          by_cases hlen : ts.length = 3
          · have l1 : ((ts.length : Int) == 3) = true := beq_iff_eq.2 (by omega)
            have l2 : ((ts.length : Int) != 3) = false := by rw [bne, l1]; rfl
            have i2 : (2 : Int) < (ts.length : Int) := by omega
            have t2 := HM5.out.texts (j := 2) (by omega)
            rw [HTC.out] at t2
            have HWF2 := Lib.hid (show ws = [ta.data.toList, tb.data.toList, tcc.data.toList] by rw [HWF.out, HR3.out hlen])
            have HSZ := Lib.hid (show tcc.size ≤ 65536 from HWL.out tcc.data.toList (by rw [HWF2.out]; simp))
            have HN9 := Lib.hid (fun u => l09Number tcc HSZ.out u)
            clear hlen
            go_wp2_with fail
            refine (HN9.out _).mono ?_
            rintro e w6 ⟨⟨m, q2, rfl, HN2⟩, hb6⟩
            have HM6 := Lib.hid (HM5.out.next hb6)
            obtain ⟨w7, e7⟩ : ∃ w7, w6.setCell ⟨G2, 2, none⟩ (.int .i64 m) = w7 := ⟨_, rfl⟩
            have HM7 := Lib.hid (show Mid w U.heap.size G1 G2 (.slice (some ⟨b, o, none⟩) ts.length cap) ts r n m w7 from e7 ▸ HM6.out.put2 m)
            clear hb6 t2
            obtain ⟨c0, c1, c2, f0, f1, f2⟩ := HM6.out.bx2
            cases q2 with
            | false =>
              have HA := Lib.hid (ansNo (ws := ws) (fun y hy => by have h := (rtA3 HKD.out HN.out HN2.out (show Rt [ta.data.toList, tb.data.toList, tcc.data.toList] y by rw [← HWF2.out]; exact hy)).2.2.1; cases h))
              go_upto_region 20 with (fail)
              clear c0 c1 c2 f0 f1 f2 e7
              obtain ⟨F, eF, HXF, hbF⟩ := HM7.out.fin 0 0 0
              obtain ⟨c0, c1, c2, f0, f1, f2⟩ := HM7.out.bx2
              obtain ⟨d0, d1, d2, j0, j1, j2⟩ := HM7.out.bx1
              obtain ⟨R0, R1, R2, _, _, _⟩ := HXF
              have HBF := Lib.hid hbF
              clear hbF
              go_wp2
              refine bodyPost_ret (v := .tuple #[.agg #[.int .i64 0, .int .i64 0, .int .i64 0], .bool false]) (by simp [results, Tryd.results26, go_sem, R0, R1, R2]) rfl ⟨⟨(0, 0, 0), false, rfl, HA⟩, HBF.out⟩
            | true =>
              go_upto_region 20 with (fail)
              clear c0 c1 c2 f0 f1 f2 e7
              have HSO := Lib.hid (fun u => OpB.specOk u r n m)
              by_cases hok : Ok (r, n, m)
              · rw [decide_eq_true hok] at HSO
                have HA := Lib.hid (ansYes ((show Ok (r, n, m) → Rt ws (r, n, m) from fun hok => by rw [HWF2.out]; exact rtB3 HKD.out HN.out HN2.out HBARE.out hok) hok))
                clear hok
                obtain ⟨c0, c1, c2, f0, f1, f2⟩ := HM7.out.bx2
                go_wp2_with fail
                refine (HSO.out _).mono ?_
                rintro e w8 ⟨rfl, hb8⟩
                have HM8 := Lib.hid (HM7.out.next hb8)
                clear hb8 c0 c1 c2 f0 f1 f2
                obtain ⟨F, eF, HXF, hbF⟩ := HM8.out.fin r n m
                obtain ⟨c0, c1, c2, f0, f1, f2⟩ := HM8.out.bx2
                obtain ⟨d0, d1, d2, j0, j1, j2⟩ := HM8.out.bx1
                obtain ⟨R0, R1, R2, _, _, _⟩ := HXF
                have HBF := Lib.hid hbF
                clear hbF
                go_wp2
                refine bodyPost_ret (v := .tuple #[.agg #[.int .i64 r, .int .i64 n, .int .i64 m], .bool true]) (by simp [results, Tryd.results26, go_sem, R0, R1, R2]) rfl ⟨⟨(r, n, m), true, rfl, HA⟩, HBF.out⟩
              · rw [decide_eq_false hok] at HSO
                have HA := Lib.hid (ansNo (ws := ws) (fun y hy => hok ((show ∀ y, Rt ws y → Ok (r, n, m) from fun y hy => by have h := rtA3 HKD.out HN.out HN2.out (show Rt [ta.data.toList, tb.data.toList, tcc.data.toList] y by rw [← HWF2.out]; exact hy); rw [← h.2.2.2]; exact hy.1) y hy)))
                clear hok
                obtain ⟨c0, c1, c2, f0, f1, f2⟩ := HM7.out.bx2
                go_wp2_with fail
                refine (HSO.out _).mono ?_
                rintro e w8 ⟨rfl, hb8⟩
                have HM8 := Lib.hid (HM7.out.next hb8)
                clear hb8 c0 c1 c2 f0 f1 f2
                obtain ⟨F, eF, HXF, hbF⟩ := HM8.out.fin 0 0 0
                obtain ⟨c0, c1, c2, f0, f1, f2⟩ := HM8.out.bx2
                obtain ⟨d0, d1, d2, j0, j1, j2⟩ := HM8.out.bx1
                obtain ⟨R0, R1, R2, _, _, _⟩ := HXF
                have HBF := Lib.hid hbF
                clear hbF
                go_wp2
                refine bodyPost_ret (v := .tuple #[.agg #[.int .i64 0, .int .i64 0, .int .i64 0], .bool false]) (by simp [results, Tryd.results26, go_sem, R0, R1, R2]) rfl ⟨⟨(0, 0, 0), false, rfl, HA⟩, HBF.out⟩
          · have l1 : ((ts.length : Int) == 3) = false := beq_eq_false_iff_ne.2 (by omega)
            have l2 : ((ts.length : Int) != 3) = true := by rw [bne, l1]; rfl
            have HA := Lib.hid (ansNo (ws := ws) (fun y hy => by have h := (rtP HKD.out HN.out (show Rt (ta.data.toList :: tb.data.toList :: rest) y by rw [← HWF.out]; exact hy)).2.2 HBARE.out; have := HRL.out; omega))
            clear hlen
            obtain ⟨F, eF, HXF, hbF⟩ := HM5.out.fin 0 0 0
            obtain ⟨c0, c1, c2, f0, f1, f2⟩ := HM5.out.bx2
            obtain ⟨d0, d1, d2, j0, j1, j2⟩ := HM5.out.bx1
            obtain ⟨R0, R1, R2, _, _, _⟩ := HXF
            have HBF := Lib.hid hbF
            clear hbF
            go_wp2
            refine bodyPost_ret (v := .tuple #[.agg #[.int .i64 0, .int .i64 0, .int .i64 0], .bool false]) (by simp [results, Tryd.results26, go_sem, R0, R1, R2]) rfl ⟨⟨(0, 0, 0), false, rfl, HA⟩, HBF.out⟩
end Go.Proofs.YtidbkamadclchaaDoor.ToOpM
