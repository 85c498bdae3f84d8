/-
  What is proved: the program's reading of an operation: its words, its kind, and what it answers (contracts for the walks).
-/
import Derived.Test.YtidbkamadclchaaDoorRows
import Derived.Test.YtidbkamadclchaaDoorExText
import Derived.Test.YtidbkamadclchaaDoorShelf2
import Derived.Test.YtidbkamadclchaaDoorTxtR
import Derived.Test.YtidbkamadclchaaDoorInv3
import Derived.Test.YtidbkamadclchaaDoorInv4
import Derived.Deep.RegionHeld3
import Derived.Lib.BufferOwn
import Derived.Deep.CutBlock
namespace Go.Proofs.YtidbkamadclchaaDoor.ReadI
open Go.ChangeShapes Go.WideShapes Go.ChangeAt Go.RowKit
open Sl (Sl Own Off)
open OpenSl (tc)
open Dev Orm Box3 OpB BatB Txt TxtB TxtR Dig TextM TextJ OpI
open Shelf2 (Ev)
set_option linter.unusedVariables false

/-- The package's words, whole. -/
def wcs : Array Value := #[.string (wB 0), .string (wB 1), .string (wB 2), .string (wB 3), .string (wB 4), .string (wB 5), .string (wB 6)]
def OWB (w : World) : Prop := ∃ t fr, w.heap[(0 : Nat)]? = some (.cells wcs t fr)
theorem OWB.below {w w' : World} (h : OWB w) (hb : Below w.heap.size w w') : OWB w' := by
  obtain ⟨t, fr, q⟩ := h
  exact ⟨t, fr, (hb.block _ (Array.getElem?_eq_some_iff.1 q).1).trans q⟩
/-- What reading asks of the world. -/
structure Tr (w : World) : Prop where
  tb : Tb w
  ow : OWB w
  ev : Ev w
theorem Tr.below {w w' : World} (h : Tr w) (hb : Below w.heap.size w w') : Tr w' := ⟨h.tb.below hb, h.ow.below hb, h.ev.below hb⟩

theorem index7_0 (w : World) : (Instr.index 74 (.agg wcs) (.int .i64 0)).run Tryd.prog w = .ok (.string (wB 0)) w := by kernel_rfl
theorem index7_1 (w : World) : (Instr.index 74 (.agg wcs) (.int .i64 1)).run Tryd.prog w = .ok (.string (wB 1)) w := by kernel_rfl
theorem index7_2 (w : World) : (Instr.index 74 (.agg wcs) (.int .i64 2)).run Tryd.prog w = .ok (.string (wB 2)) w := by kernel_rfl
theorem index7_3 (w : World) : (Instr.index 74 (.agg wcs) (.int .i64 3)).run Tryd.prog w = .ok (.string (wB 3)) w := by kernel_rfl
theorem index7_4 (w : World) : (Instr.index 74 (.agg wcs) (.int .i64 4)).run Tryd.prog w = .ok (.string (wB 4)) w := by kernel_rfl
theorem index7_5 (w : World) : (Instr.index 74 (.agg wcs) (.int .i64 5)).run Tryd.prog w = .ok (.string (wB 5)) w := by kernel_rfl
theorem index7_6 (w : World) : (Instr.index 74 (.agg wcs) (.int .i64 6)).run Tryd.prog w = .ok (.string (wB 6)) w := by kernel_rfl
theorem index7 (k : Nat) (h : k < 7) (w : World) : (Instr.index 74 (.agg wcs) (.int .i64 (k : Int))).run Tryd.prog w = .ok (.string (wB k)) w := by
  match k, h with
  | 0, _ => exact index7_0 w
  | 1, _ => exact index7_1 w
  | 2, _ => exact index7_2 w
  | 3, _ => exact index7_3 w
  | 4, _ => exact index7_4 w
  | 5, _ => exact index7_5 w
  | 6, _ => exact index7_6 w
  | k + 7, h => exact absurd h (by omega)
theorem info7 : (Tryd.prog.info? 74).map (·.size) = some 7 := by kernel_rfl
theorem wB_eq (k : Nat) (s : ByteArray) : ((wB k).toList == s.toList) = decide (word k = s.data.toList) := by
  rw [ByteArray.toList_eq, ByteArray.toList_eq]
  show (word k == s.data.toList) = _
  by_cases h : word k = s.data.toList
  · rw [h]; simp
  · rw [decide_eq_false h]; exact beq_eq_false_iff_ne.2 h
set_option maxRecDepth 100000 in
set_option maxHeartbeats 400000 in
theorem kindOf (s : ByteArray) (w : World) (T : OWB w) :
    Calls Tryd.prog 52 #[.string s] w fun e w' => (∃ r : Int, e = .returned (.int .i64 r) ∧ Hid (Kd s.data.toList r)) ∧ w = w' := by
  obtain ⟨tt, fr, hg⟩ := T
  have HG := Lib.hid hg
  clear hg
  have HI := Lib.hid index7
  have HE := Lib.hid (fun k => wB_eq k s)
  generalize hcw : wcs = cw at HG HI
  have hsz : (Tryd.prog.info? 74).map (·.size) = some cw.size := by rw [← hcw]; exact info7
  have HS := Lib.hid hsz
  clear hcw hsz
  go_enter Tryd.func52, Tryd.ntmps52
  go_wp2_with (refine wpList_load_row rfl 74 _ rfl 0 rfl tt _ fr _ HG.out Tryd.underlying74 rfl HS.out ?_)
  go_loop [6] (fun i => ∃ k : Nat, k ≤ 7 ∧ i = .int .i64 k ∧ Hid (∀ j : Nat, j < k → word j ≠ s.data.toList)) (fun i => 7 - (intOf i).toNat)
  case atStart => exact ⟨0, by omega, rfl, Lib.hid (fun j a => by omega)⟩
  case round =>
    obtain ⟨k, hk, rfl, R⟩ := hrel
    by_cases hlt : k < 7
    · have hi := HI.out k hlt
      have HQ := Lib.hid (HE.out k)
      by_cases hq : word k = s.data.toList
      · have hq2 : ((wB (k : Int)).toList == s.toList) = true := by rw [HQ.out]; exact decide_eq_true hq
        have HF := Lib.hid (show Kd s.data.toList (k : Int) from .inl ⟨k, hlt, rfl, hq⟩)
        clear hq
        generalize wB (k : Int) = wd at *
        go_wp2
        go_ret
        exact ⟨⟨_, rfl, HF⟩, rfl⟩
      · have hq2 : ((wB (k : Int)).toList == s.toList) = false := by rw [HQ.out]; exact decide_eq_false hq
        have HN := Lib.hid (show ∀ j : Nat, j < k + 1 → word j ≠ s.data.toList from fun j a => by
          by_cases e : j = k
          · rw [e]; exact hq
          · exact R.out j (by omega))
        clear hq
        generalize wB (k : Int) = wd at *
        go_wp2
        go_round
        case rel => exact ⟨k + 1, by omega, by go_num, HN⟩
        case measure => simp [intOf]; omega
    · have HF := Lib.hid (show Kd s.data.toList 0 from .inr ⟨rfl, fun j a => R.out j (by omega)⟩)
      go_wp2
      go_ret
      exact ⟨⟨_, rfl, HF⟩, rfl⟩

set_option maxRecDepth 100000 in
theorem blankWords (s : ByteArray) (hs : s.size ≤ 4294967296) (w : World) :
    Calls Tryd.prog 50 #[.string s] w fun e w' => ∃ (A : Nat) (ts : List ByteArray), e = .returned (.slice (some ⟨A, 0, none⟩) ts.length ts.length) ∧ Hid (ts.map (·.data.toList) = wds s.data.toList ∧ Own w' w.heap.size 1 (.slice (some ⟨A, 0, none⟩) ts.length ts.length) ts.length (tc ts)) ∧ w.heap.size ≤ A ∧ Below w.heap.size w w' := by
  have HF := Lib.hid (fun u => Shelf2.fields s hs u)
  go_enter Tryd.func50, Tryd.ntmps50
  go_wp2_with fail
  refine (HF.out _).mono ?_
  rintro e w' ⟨A, ts, rfl, hA, hw, ho, hb⟩
  have HO := Lib.hid (And.intro hw (own_of_row ho (tc ts) (fun j hj => by
    rw [Nat.mul_one] at hj
    unfold tc
    rw [List.getElem?_map, List.getD_eq_getElem?_getD, List.getElem?_eq_getElem hj]
    rfl)))
  have HB := Lib.hid (And.intro hA hb)
  clear hw ho hb hA
  go_wp2_with fail
  go_ret
  exact ⟨A, ts, rfl, HO, HB.out.1, HB.out.2⟩

theorem wdsA_le : ∀ (t cur x : B), x ∈ wdsA cur t → x.length ≤ cur.length + t.length
  | [], cur, x, h => by
    rw [wdsA_nil] at h
    split at h
    · cases h
    · rw [List.mem_singleton] at h; rw [h]; omega
  | y :: t, cur, x, h => by
    have h2 : x ∈ (if y = 32 then (if cur = [] then wdsA [] t else cur :: wdsA [] t) else wdsA (cur ++ [y]) t) := h
    split at h2
    · split at h2
      · have := wdsA_le t [] x h2
        simp only [List.length_cons, List.length_nil] at *
        omega
      · rcases List.mem_cons.1 h2 with h3 | h3
        · rw [h3]; omega
        · have := wdsA_le t [] x h3
          simp only [List.length_cons, List.length_nil] at *
          omega
    · have := wdsA_le t (cur ++ [y]) x h2
      simp only [List.length_cons, List.length_append, List.length_nil] at *
      omega
theorem wds_le (t x : B) (h : x ∈ wds t) : x.length ≤ t.length := by
  have := wdsA_le t [] x h
  simpa using this
theorem put3 {u : World} {g : Nat} {x y z : Value} (X : Bx u g x y z) (a b c : Value) : ∃ F, ((u.setCell ⟨g, 0, none⟩ a).setCell ⟨g, 1, none⟩ b).setCell ⟨g, 2, none⟩ c = F ∧ Bx F g a b c ∧ F.heap.size = u.heap.size ∧ (∀ B, B ≤ g → Below B u F) ∧ ∀ g' x' y' z', g' ≠ g → Bx u g' x' y' z' → Bx F g' x' y' z' :=
  ⟨_, rfl, ((X.set0 a).set1 b).set2 c, by simp, fun B hB => (((Below.refl B u).setCell (p := ⟨g, 0, none⟩) hB a).setCell (p := ⟨g, 1, none⟩) hB b).setCell (p := ⟨g, 2, none⟩) hB c, fun g' x' y' z' hne h => ((h.other hne 0 a).other hne 1 b).other hne 2 c⟩


theorem grown_set {w w' : World} {b : Nat} (h : w.grownBy w' (some b)) (i : Nat) (v : Value) : w.grownBy (w'.setCell ⟨b, i, none⟩ v) (some b) := Lib.grownBy_setB h i v
theorem grown_more {w x y : World} {G : Nat} (h : w.grownBy x (some G)) (k : x.grownBy y (some G)) : w.grownBy y (some G) :=
  ⟨k.os.trans h.os, k.tape.trans h.tape, k.output.trans h.output, Nat.le_trans h.size k.size, fun i hi hne => (k.block i (Nat.lt_of_lt_of_le hi h.size) hne).trans (h.block i hi hne)⟩
theorem grown_low {w y : World} (hb : Below w.heap.size w y) (G : Nat) : w.grownBy y (some G) := ⟨hb.os, hb.tape, hb.output, hb.size, fun i hi _ => hb.block i hi⟩
theorem grown_id (w : World) (G : Nat) : w.grownBy w (some G) := ⟨rfl, rfl, rfl, Nat.le_refl _, fun _ _ _ => rfl⟩
/-- A block of three cells that a growing of another leaves. -/
theorem bx_grown {w y : World} {g G : Nat} {a b c : Value} (h : Bx w g a b c) (k : w.grownBy y (some G)) (hne : g ≠ G) : Bx y g a b c := h.block (k.block g h.lt (fun e => hne (Option.some.inj e)))
/-- The store of an operation into the result. -/
theorem own_cells {w : World} {base A n : Nat} {c : Nat → Value} (h : Own w base 1 (.slice (some ⟨A, 0, none⟩) n n) n c) (h0 : 0 < n) : (∀ j, j < n → w.cell? ⟨A, 0 + j, none⟩ = some (c j)) ∧ A < w.heap.size := by
  obtain ⟨b9, o9, e9, _, hc⟩ := h.at h0
  obtain ⟨rfl, rfl⟩ : A = b9 ∧ 0 = o9 := by simpa using e9
  exact ⟨fun j hj => (hc j (by omega)).1, World.block_lt_of_cell? w _ (hc 0 (by omega)).1⟩

/-- What readOp answers: an operation, and whether the words are just its. -/
def Ans (ws : List B) (x : Bk) (q : Bool) : Prop := (q = true → Rt ws x) ∧ ∀ y, Rt ws y → q = true

set_option maxRecDepth 100000 in
set_option maxHeartbeats 3200000 in
theorem readOp (w : World) (hT : Tr w) (s : ByteArray) (hs : s.size ≤ 65536) :
    Calls Tryd.prog 27 #[.string s] w fun e w' => ∃ (x : Bk) (q : Bool), e = .returned (.tuple #[bv x, .bool q]) ∧ Ans (wds s.data.toList) x q ∧ Below w.heap.size w w' := by
  have HBW := Lib.hid (fun u => blankWords s (by omega) u)
  have HJL := Lib.hid (join_len s.data.toList)
  have HNL := Lib.hid (show (wds s.data.toList).length ≤ 2 * s.size + 1 from by have h := wdsA_len s.data.toList []; have h2 : s.data.toList.length = s.size := rfl; unfold wds; simp only [List.length_nil] at h; omega)
  have HWD := Lib.hid (wds_wd s.data.toList)
  have HWL := Lib.hid (show ∀ x ∈ wds s.data.toList, x.length ≤ 281474976710656 from fun x hx => by have := wds_le s.data.toList x hx; have h2 : s.data.toList.length = s.size := rfl; omega)
  have hsl : s.data.toList.length = s.size := rfl
  rw [hsl] at HJL
  generalize wds s.data.toList = ws at *
  obtain ⟨U, e1, hb, hz, X⟩ := box3 w 26 (.int .i64 0) (.int .i64 0) (.int .i64 0)
  obtain ⟨G1, eG⟩ : ∃ G, w.heap.size = G := ⟨_, rfl⟩
  have HB0 := Lib.hid hb
  have HG1 := Lib.hid (show w.heap.size ≤ G1 by omega)
  have HGU := Lib.hid (show G1 < U.heap.size by omega)
  rw [eG] at X
  have HX0 := Lib.hid X
  have HTU := Lib.hid (hT.below hb)
  have HT0 := Lib.hid hT
  clear hb hz X hT hsl
  go_enter Tryd.func27, Tryd.ntmps27
  go_wp2_with fail
  refine (HBW.out _).mono ?_
  rintro e w1 ⟨A, ts, rfl, HO, hA, hb⟩
  have HB1 := Lib.hid (HB0.out.trans (hb.mono HB0.out.size))
  have HX1a := Lib.hid (HX0.out.below hb)
  have HT1 := Lib.hid (HTU.out.below hb)
  have HGW := Lib.hid (show U.heap.size ≤ w1.heap.size from hb.size)
  clear hb e1 eG HBW
  obtain ⟨V, e2, hb2, hz2, X2⟩ := box3 w1 26 (.int .i64 0) (.int .i64 0) (.int .i64 0)
  obtain ⟨G2, eG2⟩ : ∃ G, w1.heap.size = G := ⟨_, rfl⟩
  have HGV := Lib.hid (show G2 < V.heap.size by omega)
  have HG2 := Lib.hid (show G1 < G2 ∧ w.heap.size ≤ G2 by have := HGU.out; have := HGW.out; have := HG1.out; omega)
  have hne : G1 ≠ G2 := by have := HG2.out; omega
  rw [eG2] at X2
  have HX2V := Lib.hid X2
  have HX1V := Lib.hid (HX1a.out.below hb2)
  have HBV := Lib.hid (HB1.out.trans (hb2.mono HB1.out.size))
  have HTV := Lib.hid (HT1.out.below hb2)
  have HOV := Lib.hid (HO.out.2.below hb2)
  have HOF := Lib.hid (show Off (.slice (some ⟨A, 0, none⟩) ts.length ts.length) G2 from (lies_of HO.out.2 (by omega)).off (by right; omega))
  have HWS := Lib.hid HO.out.1
  clear hb2 hz2 X2 HO HX0 HX1a HT1 HB1
  obtain ⟨c0, c1, c2, f0, f1, f2⟩ := HX2V.out
  go_upto_block 0 with (fail)
  clear e2 eG2
  go_cut [] from 6 to 34 (fun wx => ∃ r v1 v2 : Int, Bx wx G2 (.int .i64 r) (.int .i64 v1) (.int .i64 v2) ∧ Hid (Bx wx G1 (.int .i64 0) (.int .i64 0) (.int .i64 0)) ∧ Hid (Below w.heap.size w wx) ∧ Hid (Own wx U.heap.size 1 (.slice (some ⟨A, 0, none⟩) ts.length ts.length) ts.length (tc ts)) ∧ Hid ((∀ y, Rt ws y → y = (r, v1, v2)) ∧ (Ok (r, v1, v2) → 0 < ts.length)))
  case first =>
    have hsz : ∀ t ∈ ts, t.size ≤ 281474976710656 := fun t ht => by
      have hm : t.data.toList ∈ ws := by rw [← HWS.out]; exact List.mem_map.2 ⟨t, ht, rfl⟩
      have hl := HWL.out _ hm
      have : t.size = t.data.toList.length := rfl
      omega
    by_cases h3 : ts.length = 3
    · obtain ⟨a, b, c, ets⟩ : ∃ a b c, ts = [a, b, c] := by
        match ts, h3 with
        | [a, b, c], _ => exact ⟨a, b, c, rfl⟩
      have b3 : ((ts.length : Int) == 3) = true := beq_iff_eq.2 (by omega)
      have i0 : (0 : Int) < (ts.length : Int) := by omega
      have i1 : (1 : Int) < (ts.length : Int) := by omega
      have i2 : (2 : Int) < (ts.length : Int) := by omega
      have HL3 := Lib.hid h3
      have HKD := Lib.hid (fun u (hu : ReadI.OWB u) => kindOf a u hu)
      have HAC := Lib.hid (fun u (hu : Ev u) => Shelf2.atoi c (hsz c (by rw [ets]; simp)) u hu)
      have HAB := Lib.hid (fun u (hu : Ev u) => Shelf2.atoi b (hsz b (by rw [ets]; simp)) u hu)
      have HRT := Lib.hid (fun (r : Int) (hk : Kd a.data.toList r) y (hy : Rt ws y) => rt3 hk (show Rt [a.data.toList, b.data.toList, c.data.toList] y by rw [← HWS.out, ets] at hy; exact hy))
      generalize av c.data.toList = vc at *
      generalize av b.data.toList = vb at *
      have HTC := Lib.hid (show tc ts 0 = .string a ∧ tc ts 1 = .string b ∧ tc ts 2 = .string c by rw [ets]; exact ⟨rfl, rfl, rfl⟩)
      clear h3 hsz ets
      obtain ⟨b9, o9, e9, _, hc⟩ := HOV.out.at (by have := HL3.out; omega)
      obtain ⟨rfl, rfl⟩ : A = b9 ∧ 0 = o9 := by simpa using e9
      have t0 : V.cell? ⟨A, 0, none⟩ = some (.string a) := by rw [show (0 : Nat) = 0 + 0 from rfl, (hc 0 (by have := HL3.out; omega)).1, HTC.out.1]
      have t1 : V.cell? ⟨A, 1, none⟩ = some (.string b) := by rw [show (1 : Nat) = 0 + 1 from rfl, (hc 1 (by have := HL3.out; omega)).1, HTC.out.2.1]
      have t2 : V.cell? ⟨A, 2, none⟩ = some (.string c) := by rw [show (2 : Nat) = 0 + 2 from rfl, (hc 2 (by have := HL3.out; omega)).1, HTC.out.2.2]
      clear hc e9
      go_wp2_with fail
      refine (HAC.out _ HTV.out.ev).mono ?_
      rintro e w2 ⟨u, rfl, hb⟩
      have X2 := HX2V.out.below hb
      have X1 := HX1V.out.below hb
      have HB2 := Lib.hid (HBV.out.trans (hb.mono HBV.out.size))
      have HT2 := Lib.hid (HTV.out.below hb)
      have HO2 := Lib.hid (HOV.out.below hb)
      obtain ⟨m0, m1, m2, q0, q1, q2⟩ := X2
      obtain ⟨w3, e3⟩ : ∃ w3, w2.setCell ⟨G2, 2, none⟩ (.int .i64 vc) = w3 := ⟨_, rfl⟩
      have HX23 := Lib.hid (show Bx w3 G2 _ _ _ from e3 ▸ (HX2V.out.below hb).set2 (.int .i64 vc))
      have HX13 := Lib.hid (show Bx w3 G1 _ _ _ from e3 ▸ X1.other hne 2 (.int .i64 vc))
      have HB3 := Lib.hid (show Below w.heap.size w w3 from e3 ▸ HB2.out.setCell (p := ⟨G2, 2, none⟩) HG2.out.2 _)
      have HO3 := Lib.hid (show Own w3 _ 1 _ _ _ from e3 ▸ own_set_off HO2.out HOF.out 2 (.int .i64 vc))
      have HT3 := Lib.hid (show Tr w3 from HT0.out.below HB3.out)
      clear hb X1 c0 c1 c2 f0 f1 f2 t0 t1 t2
      obtain ⟨b9, o9, e9, _, hc⟩ := HO3.out.at (by have := HL3.out; omega)
      obtain ⟨rfl, rfl⟩ : A = b9 ∧ 0 = o9 := by simpa using e9
      have t0 : w3.cell? ⟨A, 0, none⟩ = some (.string a) := by rw [show (0 : Nat) = 0 + 0 from rfl, (hc 0 (by have := HL3.out; omega)).1, HTC.out.1]
      have t1 : w3.cell? ⟨A, 1, none⟩ = some (.string b) := by rw [show (1 : Nat) = 0 + 1 from rfl, (hc 1 (by have := HL3.out; omega)).1, HTC.out.2.1]
      clear hc e9
      go_wp2_with fail
      clear e3 m0 m1 m2 q0 q1 q2
      refine (HAB.out _ HT3.out.ev).mono ?_
      rintro e w4 ⟨u2, rfl, hb⟩
      have HB4 := Lib.hid (HB3.out.trans (hb.mono HB3.out.size))
      have HX14 := Lib.hid (HX13.out.below hb)
      have HO4 := Lib.hid (HO3.out.below hb)
      obtain ⟨m0, m1, m2, q0, q1, q2⟩ := HX23.out.below hb
      obtain ⟨w5, e5⟩ : ∃ w5, w4.setCell ⟨G2, 1, none⟩ (.int .i64 vb) = w5 := ⟨_, rfl⟩
      have HX25 := Lib.hid (show Bx w5 G2 _ _ _ from e5 ▸ (HX23.out.below hb).set1 (.int .i64 vb))
      have HX15 := Lib.hid (show Bx w5 G1 _ _ _ from e5 ▸ HX14.out.other hne 1 (.int .i64 vb))
      have HB5 := Lib.hid (show Below w.heap.size w w5 from e5 ▸ HB4.out.setCell (p := ⟨G2, 1, none⟩) HG2.out.2 _)
      have HO5 := Lib.hid (show Own w5 _ 1 _ _ _ from e5 ▸ own_set_off HO4.out HOF.out 1 (.int .i64 vb))
      have HT5 := Lib.hid (show Tr w5 from HT0.out.below HB5.out)
      clear hb t0 t1
      obtain ⟨b9, o9, e9, _, hc⟩ := HO5.out.at (by have := HL3.out; omega)
      obtain ⟨rfl, rfl⟩ : A = b9 ∧ 0 = o9 := by simpa using e9
      have t0 : w5.cell? ⟨A, 0, none⟩ = some (.string a) := by rw [show (0 : Nat) = 0 + 0 from rfl, (hc 0 (by have := HL3.out; omega)).1, HTC.out.1]
      clear hc e9
      go_wp2_with fail
      clear e5 m0 m1 m2 q0 q1 q2
      refine (HKD.out _ HT5.out.ow).mono ?_
      rintro e w6 ⟨⟨r, rfl, hr⟩, rfl⟩
      have HRL := Lib.hid (show (∀ y, Rt ws y → y = (r, vb, vc)) ∧ (Ok (r, vb, vc) → 0 < ts.length) from ⟨HRT.out r hr.out, fun _ => by have := HL3.out; omega⟩)
      obtain ⟨m0, m1, m2, q0, q1, q2⟩ := HX25.out
      obtain ⟨w7, e7⟩ : ∃ w7, w5.setCell ⟨G2, 0, none⟩ (.int .i64 r) = w7 := ⟨_, rfl⟩
      have HX27 := Lib.hid (show Bx w7 G2 _ _ _ from e7 ▸ HX25.out.set0 (.int .i64 r))
      have HX17 := Lib.hid (show Bx w7 G1 _ _ _ from e7 ▸ HX15.out.other hne 0 (.int .i64 r))
      have HB7 := Lib.hid (show Below w.heap.size w w7 from e7 ▸ HB5.out.setCell (p := ⟨G2, 0, none⟩) HG2.out.2 _)
      have HO7 := Lib.hid (show Own w7 _ 1 _ _ _ from e7 ▸ own_set_off HO5.out HOF.out 0 (.int .i64 r))
      clear hr t0
      go_wp2_with fail
      go_meet
      exact ⟨r, vb, vc, HX27.out, HX17, HB7, HO7, HRL⟩
    by_cases h2 : ts.length = 2
    · obtain ⟨a, b, ets⟩ : ∃ a b, ts = [a, b] := by
        match ts, h2 with
        | [a, b], _ => exact ⟨a, b, rfl⟩
      have b3 : ((ts.length : Int) == 3) = false := beq_eq_false_iff_ne.2 (by omega)
      have b2 : ((ts.length : Int) == 2) = true := beq_iff_eq.2 (by omega)
      have i0 : (0 : Int) < (ts.length : Int) := by omega
      have i1 : (1 : Int) < (ts.length : Int) := by omega
      have HL3 := Lib.hid h2
      have HKD := Lib.hid (fun u (hu : ReadI.OWB u) => kindOf a u hu)
      have HAB := Lib.hid (fun u (hu : Ev u) => Shelf2.atoi b (hsz b (by rw [ets]; simp)) u hu)
      have HRT := Lib.hid (fun (r : Int) (hk : Kd a.data.toList r) y (hy : Rt ws y) => rt2 hk (show Rt [a.data.toList, b.data.toList] y by rw [← HWS.out, ets] at hy; exact hy))
      generalize av b.data.toList = vb at *
      have HTC := Lib.hid (show tc ts 0 = .string a ∧ tc ts 1 = .string b by rw [ets]; exact ⟨rfl, rfl⟩)
      clear h3 h2 hsz ets
      obtain ⟨b9, o9, e9, _, hc⟩ := HOV.out.at (by have := HL3.out; omega)
      obtain ⟨rfl, rfl⟩ : A = b9 ∧ 0 = o9 := by simpa using e9
      have t0 : V.cell? ⟨A, 0, none⟩ = some (.string a) := by rw [show (0 : Nat) = 0 + 0 from rfl, (hc 0 (by have := HL3.out; omega)).1, HTC.out.1]
      have t1 : V.cell? ⟨A, 1, none⟩ = some (.string b) := by rw [show (1 : Nat) = 0 + 1 from rfl, (hc 1 (by have := HL3.out; omega)).1, HTC.out.2]
      clear hc e9
      have HX23 := HX2V
      have HX13 := HX1V
      have HB3 := HBV
      have HO3 := HOV
      have HT3 := HTV
      go_wp2_with fail
      refine (HAB.out _ HT3.out.ev).mono ?_
      rintro e w4 ⟨u2, rfl, hb⟩
      have HB4 := Lib.hid (HB3.out.trans (hb.mono HB3.out.size))
      have HX14 := Lib.hid (HX13.out.below hb)
      have HO4 := Lib.hid (HO3.out.below hb)
      obtain ⟨m0, m1, m2, q0, q1, q2⟩ := HX23.out.below hb
      obtain ⟨w5, e5⟩ : ∃ w5, w4.setCell ⟨G2, 1, none⟩ (.int .i64 vb) = w5 := ⟨_, rfl⟩
      have HX25 := Lib.hid (show Bx w5 G2 _ _ _ from e5 ▸ (HX23.out.below hb).set1 (.int .i64 vb))
      have HX15 := Lib.hid (show Bx w5 G1 _ _ _ from e5 ▸ HX14.out.other hne 1 (.int .i64 vb))
      have HB5 := Lib.hid (show Below w.heap.size w w5 from e5 ▸ HB4.out.setCell (p := ⟨G2, 1, none⟩) HG2.out.2 _)
      have HO5 := Lib.hid (show Own w5 _ 1 _ _ _ from e5 ▸ own_set_off HO4.out HOF.out 1 (.int .i64 vb))
      have HT5 := Lib.hid (show Tr w5 from HT0.out.below HB5.out)
      clear hb t0 t1
      obtain ⟨b9, o9, e9, _, hc⟩ := HO5.out.at (by have := HL3.out; omega)
      obtain ⟨rfl, rfl⟩ : A = b9 ∧ 0 = o9 := by simpa using e9
      have t0 : w5.cell? ⟨A, 0, none⟩ = some (.string a) := by rw [show (0 : Nat) = 0 + 0 from rfl, (hc 0 (by have := HL3.out; omega)).1, HTC.out.1]
      clear hc e9
      go_wp2_with fail
      clear e5 m0 m1 m2 q0 q1 q2
      refine (HKD.out _ HT5.out.ow).mono ?_
      rintro e w6 ⟨⟨r, rfl, hr⟩, rfl⟩
      have HRL := Lib.hid (show (∀ y, Rt ws y → y = (r, vb, 0)) ∧ (Ok (r, vb, 0) → 0 < ts.length) from ⟨HRT.out r hr.out, fun _ => by have := HL3.out; omega⟩)
      obtain ⟨m0, m1, m2, q0, q1, q2⟩ := HX25.out
      obtain ⟨w7, e7⟩ : ∃ w7, w5.setCell ⟨G2, 0, none⟩ (.int .i64 r) = w7 := ⟨_, rfl⟩
      have HX27 := Lib.hid (show Bx w7 G2 _ _ _ from e7 ▸ HX25.out.set0 (.int .i64 r))
      have HX17 := Lib.hid (show Bx w7 G1 _ _ _ from e7 ▸ HX15.out.other hne 0 (.int .i64 r))
      have HB7 := Lib.hid (show Below w.heap.size w w7 from e7 ▸ HB5.out.setCell (p := ⟨G2, 0, none⟩) HG2.out.2 _)
      have HO7 := Lib.hid (show Own w7 _ 1 _ _ _ from e7 ▸ own_set_off HO5.out HOF.out 0 (.int .i64 r))
      clear hr t0
      go_wp2_with fail
      go_meet
      exact ⟨r, vb, 0, HX27.out, HX17, HB7, HO7, HRL⟩
    have b3 : ((ts.length : Int) == 3) = false := beq_eq_false_iff_ne.2 (by omega)
    have b2 : ((ts.length : Int) == 2) = false := beq_eq_false_iff_ne.2 (by omega)
    have HRL := Lib.hid (show (∀ y, Rt ws y → y = ((0 : Int), (0 : Int), (0 : Int))) ∧ (Ok (0, 0, 0) → 0 < ts.length) from ⟨fun y hy => by
      exfalso
      have hl : ws.length = ts.length := by rw [← HWS.out, List.length_map]
      rcases rt_len hy with h | h <;> omega, fun h => absurd h not_ok0⟩)
    clear h3 h2 hsz
    go_wp2_with fail
    go_meet
    exact ⟨0, 0, 0, HX2V.out, HX1V, HBV, HOV, HRL⟩
  case rest =>
    obtain ⟨r, v1, v2, HX2b, HX1b, HBb, HOb, HRL⟩ := hcut
    have HX2C := Lib.hid HX2b
    clear HX2b c0 c1 c2 f0 f1 f2 HX2V HX1V HBV HTV HOV
    obtain ⟨cB, hcB⟩ : ∃ c, decide (Ok (r, v1, v2)) = c := ⟨_, rfl⟩
    obtain ⟨eB, heB⟩ : ∃ c, ((opB (r, v1, v2)).toList == (jn ts ⟨#[32]⟩).toList) = c := ⟨_, rfl⟩
    obtain ⟨Q, hQ⟩ : ∃ c, (cB && eB) = c := ⟨_, rfl⟩
    have HQ1 := Lib.hid (show cB = true → eB = Q from fun h => by rw [← hQ, h]; rfl)
    have HQ0 := Lib.hid (show cB = false → Q = false from fun h => by rw [← hQ, h]; rfl)
    have HOK := Lib.hid (fun u => show Calls Tryd.prog 24 #[.agg #[.int .i64 r, .int .i64 v1, .int .i64 v2]] u fun e w' => e = .returned (.bool cB) ∧ Below u.heap.size u w' from hcB ▸ OpB.implOk u r v1 v2)
    have HCT := Lib.hid (show cB = true → Ok (r, v1, v2) from fun h => of_decide_eq_true (hcB.trans h))
    have HCF := Lib.hid (show Ok (r, v1, v2) → cB = true from fun h => hcB.symm.trans (decide_eq_true h))
    have HOT := Lib.hid (fun (hc : cB = true) u (hu : Tb u) => opText u hu r v1 v2 (HCT.out hc))
    have HLT := Lib.hid (show ws.length = ts.length from by rw [← HWS.out, List.length_map])
    have HJD : Hid ((jn ts ⟨#[32]⟩).data.toList = Lib.join ws [32]) := Lib.hid (by rw [← HWS.out]; rfl)
    have HJN := Lib.hid (fun (u : World) (hcells : ∀ j, j < ts.length → u.cell? ⟨A, 0 + j, none⟩ = some (tc ts j)) (hbk : A < u.heap.size) =>
      show Calls Tryd.prog 53 #[.slice (some ⟨A, 0, none⟩) ts.length ts.length, .string ⟨#[32]⟩] u fun e w' => e = .returned (.string (jn ts ⟨#[32]⟩)) ∧ Below u.heap.size u w' from
        Tryd.strings_Join A 0 ts.length ts ⟨#[32]⟩ u (fun j x hx => by
          have hj : j < ts.length := (List.getElem?_eq_some_iff.1 hx).1
          rw [hcells j hj]
          unfold tc
          rw [List.getD_eq_getElem?_getD, hx]
          rfl) hbk (by have := HNL.out; have := HLT.out; omega) (Nat.le_refl _) (by
            rw [HWS.out]
            show (Lib.join ws [32]).length ≤ _
            have := HJL.out
            omega))
    have HEND : Hid (Ans ws (r, v1, v2) Q) := Lib.hid (by
      have h1 : (opB (r, v1, v2)).toList = opT (r, v1, v2) := by rw [ByteArray.toList_eq]; rfl
      have h2 : (jn ts ⟨#[32]⟩).toList = Lib.join ws [32] := by rw [ByteArray.toList_eq]; exact HJD.out
      rw [h1, h2] at heB
      refine ⟨fun h => ?_, fun y hy => ?_⟩
      · rw [h, Bool.and_eq_true] at hQ
        rw [hQ.2] at heB
        exact (rt_join HWD.out (HCT.out hQ.1)).1 (eq_of_beq heB)
      · obtain rfl := HRL.out.1 y hy
        have hc := HCF.out hy.1
        have he := (rt_join HWD.out hy.1).2 hy
        rw [he] at heB
        rw [← hQ, hc, ← heB]
        simp)
    have HEB := Lib.hid heB
    have HTS := Lib.hid (show cB = true → 0 < ts.length from fun h => HRL.out.2 (HCT.out h))
    clear hQ hcB heB HCT HCF HRL HJD HWD HJL HWL HNL HLT HWS
    generalize opB (r, v1, v2) = TX at *
    generalize jn ts ⟨#[32]⟩ = JN at *
    clear hne
    have hne : G1 ≠ G2 := by have := HG2.out; omega
    have HNE := Lib.hid hne
    go_wp2_with fail
    refine Inv3.region [35, 36, 37, 38, 39, 40, 41, 42, 43, 44, 1000, 3]
      (fun i u x => match i with
        | 0 => u = .agg #[.int .i64 r, .int .i64 v1, .int .i64 v2]
        | 1 => u = .agg #[.int .i64 r, .int .i64 v1, .int .i64 v2]
        | 2 => u = .bool cB
        | 3 => u = .bool cB
        | 4 => cB = true → u = .agg #[.int .i64 r, .int .i64 v1, .int .i64 v2]
        | 5 => cB = true → u = .string TX
        | 6 => cB = true → u = .slice (some ⟨A, 0, none⟩) ts.length ts.length
        | 7 => cB = true → u = .string JN
        | 8 => cB = true → u = .bool eB
        | 9 => u = .bool Q
        | 11 => u = .bool Q
        | _ => True)
      (fun l _ x => wc.grownBy x (some G1) ∧ Bx x G2 (.int .i64 r) (.int .i64 v1) (.int .i64 v2) ∧ (l.getD 10 false = false → Bx x G1 (.int .i64 0) (.int .i64 0) (.int .i64 0)) ∧ (l.getD 10 false = true → Bx x G1 (.int .i64 r) (.int .i64 v1) (.int .i64 v2)))
      (fun i x y => if i = 10 then x.grownBy y (some G1) else Below x.heap.size x y)
      (by kernel_rfl) ?said ?h0 ?hop ?hend
    case h0 => exact ⟨⟨rfl, rfl, rfl, Nat.le_refl _, fun _ _ _ => rfl⟩, HX2C.out.below ⟨rfl, rfl, rfl, Nat.le_refl _, fun _ _ => rfl⟩, fun _ => HX1b.out.below ⟨rfl, rfl, rfl, Nat.le_refl _, fun _ _ => rfl⟩, fun h => by have h2 : false = true := h; cases h2⟩
    case said =>
      refine ⟨rfl, fun i o ho => ?_, by decide, fun i j u x y hij hp hr => ?_⟩
      · match i, ho with
        | 0, ho => obtain rfl := Option.some.inj ho; exact ⟨by decide, rfl, (show 35 < 45 by decide)⟩
        | 1, ho => obtain rfl := Option.some.inj ho; exact ⟨by decide, rfl, (show 36 < 45 by decide)⟩
        | 2, ho => obtain rfl := Option.some.inj ho; exact ⟨by decide, rfl, (show 37 < 45 by decide)⟩
        | 3, ho => obtain rfl := Option.some.inj ho; exact ⟨by decide, rfl, (show 38 < 45 by decide)⟩
        | 4, ho => obtain rfl := Option.some.inj ho; exact ⟨by decide, rfl, (show 39 < 45 by decide)⟩
        | 5, ho => obtain rfl := Option.some.inj ho; exact ⟨by decide, rfl, (show 40 < 45 by decide)⟩
        | 6, ho => obtain rfl := Option.some.inj ho; exact ⟨by decide, rfl, (show 41 < 45 by decide)⟩
        | 7, ho => obtain rfl := Option.some.inj ho; exact ⟨by decide, rfl, (show 42 < 45 by decide)⟩
        | 8, ho => obtain rfl := Option.some.inj ho; exact ⟨by decide, rfl, (show 43 < 45 by decide)⟩
        | 9, ho => obtain rfl := Option.some.inj ho; exact ⟨by decide, rfl, (show 44 < 45 by decide)⟩
        | 10, ho => obtain rfl := Option.some.inj ho; exact ⟨by decide, (show 45 ≤ 1000 by decide)⟩
        | 11, ho => obtain rfl := Option.some.inj ho; exact ⟨by decide, rfl, (show 3 < 45 by decide)⟩
        | n + 12, ho => cases ho
      · match i, hp with
        | 0, hp => exact hp
        | 1, hp => exact hp
        | 2, hp => exact hp
        | 3, hp => exact hp
        | 4, hp => exact hp
        | 5, hp => exact hp
        | 6, hp => exact hp
        | 7, hp => exact hp
        | 8, hp => exact hp
        | 9, hp => exact hp
        | 10, hp => exact hp
        | 11, hp => exact hp
        | n + 12, _ => trivial
    case hop =>
      intro i op ho l a1 x hI hsz hcl hls hli hfr hdep K hK
      have HSZ := Lib.hid hsz
      clear hsz
      have hil : i < l.size := by rw [hls]; exact (Array.getElem?_eq_some_iff.1 ho).1
      have hbel : ∀ {y}, i ≠ 10 → Below x.heap.size x y → (if i = 10 then x.grownBy y (some G1) else Below x.heap.size x y) := fun h hb => by rw [if_neg h]; exact hb
      have keep : ∀ {y}, i ≠ 10 → Below x.heap.size x y → (wc.grownBy y (some G1) ∧ Bx y G2 (.int .i64 r) (.int .i64 v1) (.int .i64 v2) ∧ ((l.setIfInBounds i true).getD 10 false = false → Bx y G1 (.int .i64 0) (.int .i64 0) (.int .i64 0)) ∧ ((l.setIfInBounds i true).getD 10 false = true → Bx y G1 (.int .i64 r) (.int .i64 v1) (.int .i64 v2))) := fun {y} h1 hb => by
        refine ⟨grown_more hI.1 (grown_low hb G1), hI.2.1.below hb, fun hl => ?_, fun hl => ?_⟩
        · rw [Inv.getD_set l i 10 false hil, if_neg (fun e => h1 e.symm)] at hl
          exact (hI.2.2.1 hl).below hb
        · rw [Inv.getD_set l i 10 false hil, if_neg (fun e => h1 e.symm)] at hl
          exact (hI.2.2.2 hl).below hb
      have HBx := Lib.hid (show Below w.heap.size w x from HBb.out.grown hI.1 HBb.out.size (fun k hk => by cases hk; exact HG1.out))
      have HTx := Lib.hid (HT0.out.below HBx.out)
      obtain ⟨c0, c1, c2, f0, f1, f2⟩ := hI.2.1
      have s5 : a1.tmps.getD 5 undef = .pointer (some ⟨G2, 0, none⟩) := hfr 5 (by decide)
      have s4 : a1.tmps.getD 4 undef = .slice (some ⟨A, 0, none⟩) ts.length ts.length := hfr 4 (by decide)
      have s2 : a1.tmps.getD 2 undef = .pointer (some ⟨G1, 0, none⟩) := hfr 2 (by decide)
      have e5 := Inv4.slot s5
      have e4 := Inv4.slot s4
      have e2 := Inv4.slot s2
      match i, ho with
      | 0, ho =>
        obtain rfl := Option.some.inj ho
        rw [if_pos (show Region.wanted _ _ = true from rfl)]
        unfold Oper.wp execOp
        go_simp
        exact hK (.agg #[.int .i64 r, .int .i64 v1, .int .i64 v2]) x (hbel (by decide) (Below.refl _ _)) rfl (keep (by decide) (Below.refl _ _)) (fun h => by cases h)
      | 1, ho =>
        obtain rfl := Option.some.inj ho
        rw [if_pos (show Region.wanted _ _ = true from rfl)]
        unfold Oper.wp execOp
        go_simp
        exact hK (.agg #[.int .i64 r, .int .i64 v1, .int .i64 v2]) x (hbel (by decide) (Below.refl _ _)) rfl (keep (by decide) (Below.refl _ _)) (fun h => by cases h)
      | 2, ho =>
        obtain rfl := Option.some.inj ho
        rw [if_pos (show Region.wanted _ _ = true from rfl)]
        obtain ⟨_, s36⟩ := hdep { on := 1, ground := Ground.data } (by simp) (by kernel_rfl)
        refine Inv4.wp_call 24 _ _ rfl #[.agg #[.int .i64 r, .int .i64 v1, .int .i64 v2]] (by simp only [List.map_toArray, List.map_cons, List.map_nil, Act.eval]; exact congrArg (fun v => #[v]) s36) (enters_of Tryd.func24 (by kernel_rfl) rfl _ _) ((HOK.out x).mono ?_)
        rintro e y ⟨rfl, hb⟩
        exact ⟨_, rfl, hK (.bool cB) y (hbel (by decide) hb) rfl (keep (by decide) hb) (fun h => by cases h)⟩
      | 3, ho =>
        obtain rfl := Option.some.inj ho
        rw [if_pos (show Region.wanted _ _ = true from rfl)]
        obtain ⟨_, s37⟩ := hdep { on := 2, ground := Ground.data } (by simp) (by kernel_rfl)
        have e37 : a1.tmps[37]?.getD undef = .bool cB := Inv4.slot s37
        unfold Oper.wp execOp
        go_simp
        exact hK (.bool cB) x (hbel (by decide) (Below.refl _ _)) rfl (keep (by decide) (Below.refl _ _)) (fun h => by cases h)
      | 4, ho =>
        obtain rfl := Option.some.inj ho
        have h3 : a1.tmps.getD 38 undef = .bool cB := (hdep { on := 3, ground := Ground.guard } (by simp) (by kernel_rfl)).2
        rw [Inv4.wanted_eq (j := 3) (t := 38) rfl (by kernel_rfl) h3]
        by_cases hc : cB = true
        rotate_left
        · rw [if_neg hc]
          exact hK undef x (hbel (by decide) (Below.refl _ _)) (fun h => absurd h hc) (keep (by decide) (Below.refl _ _)) (fun h => by cases h)
        rw [if_pos hc]
        unfold Oper.wp execOp
        go_simp
        exact hK (.agg #[.int .i64 r, .int .i64 v1, .int .i64 v2]) x (hbel (by decide) (Below.refl _ _)) (fun _ => rfl) (keep (by decide) (Below.refl _ _)) (fun h => by cases h)
      | 5, ho =>
        obtain rfl := Option.some.inj ho
        have h3 : a1.tmps.getD 38 undef = .bool cB := (hdep { on := 3, ground := Ground.guard } (by simp) (by kernel_rfl)).2
        rw [Inv4.wanted_eq (j := 3) (t := 38) rfl (by kernel_rfl) h3]
        by_cases hc : cB = true
        rotate_left
        · rw [if_neg hc]
          exact hK undef x (hbel (by decide) (Below.refl _ _)) (fun h => absurd h hc) (keep (by decide) (Below.refl _ _)) (fun h => by cases h)
        rw [if_pos hc]
        obtain ⟨_, s39⟩ := hdep { on := 4, ground := Ground.data } (by simp) (by kernel_rfl)
        have s39 := s39 hc
        refine Inv4.wp_call 25 _ _ rfl #[.agg #[.int .i64 r, .int .i64 v1, .int .i64 v2]] (by simp only [List.map_toArray, List.map_cons, List.map_nil, Act.eval]; exact congrArg (fun v => #[v]) s39) (enters_of Tryd.func25 (by kernel_rfl) rfl _ _) ((HOT.out hc x HTx.out.tb).mono ?_)
        rintro e y ⟨rfl, hb⟩
        exact ⟨_, rfl, hK (.string TX) y (hbel (by decide) hb) (fun _ => rfl) (keep (by decide) hb) (fun h => by cases h)⟩
      | 6, ho =>
        obtain rfl := Option.some.inj ho
        have h3 : a1.tmps.getD 38 undef = .bool cB := (hdep { on := 3, ground := Ground.guard } (by simp) (by kernel_rfl)).2
        rw [Inv4.wanted_eq (j := 3) (t := 38) rfl (by kernel_rfl) h3]
        by_cases hc : cB = true
        rotate_left
        · rw [if_neg hc]
          exact hK undef x (hbel (by decide) (Below.refl _ _)) (fun h => absurd h hc) (keep (by decide) (Below.refl _ _)) (fun h => by cases h)
        rw [if_pos hc]
        unfold Oper.wp execOp
        go_simp
        exact hK (.slice (some ⟨A, 0, none⟩) ts.length ts.length) x (hbel (by decide) (Below.refl _ _)) (fun _ => rfl) (keep (by decide) (Below.refl _ _)) (fun h => by cases h)
      | 7, ho =>
        obtain rfl := Option.some.inj ho
        have h3 : a1.tmps.getD 38 undef = .bool cB := (hdep { on := 3, ground := Ground.guard } (by simp) (by kernel_rfl)).2
        rw [Inv4.wanted_eq (j := 3) (t := 38) rfl (by kernel_rfl) h3]
        by_cases hc : cB = true
        rotate_left
        · rw [if_neg hc]
          exact hK undef x (hbel (by decide) (Below.refl _ _)) (fun h => absurd h hc) (keep (by decide) (Below.refl _ _)) (fun h => by cases h)
        rw [if_pos hc]
        obtain ⟨_, s41⟩ := hdep { on := 6, ground := Ground.data } (by simp) (by kernel_rfl)
        have s41 := s41 hc
        have hox := own_cells (HOb.out.grown hI.1 (own_low HOb.out G1 HGU.out)) (HTS.out hc)
        refine Inv4.wp_call 53 _ _ rfl #[.slice (some ⟨A, 0, none⟩) ts.length ts.length, .string ⟨#[32]⟩] (by simp only [List.map_toArray, List.map_cons, List.map_nil, Act.eval]; exact congrArg (fun v => #[v, .string ⟨#[32]⟩]) s41) (enters_of Tryd.func53 (by kernel_rfl) rfl _ _) ((HJN.out x hox.1 hox.2).mono ?_)
        rintro e y ⟨rfl, hb⟩
        exact ⟨_, rfl, hK (.string JN) y (hbel (by decide) hb) (fun _ => rfl) (keep (by decide) hb) (fun h => by cases h)⟩
      | 8, ho =>
        obtain rfl := Option.some.inj ho
        have h3 : a1.tmps.getD 38 undef = .bool cB := (hdep { on := 3, ground := Ground.guard } (by simp) (by kernel_rfl)).2
        rw [Inv4.wanted_eq (j := 3) (t := 38) rfl (by kernel_rfl) h3]
        by_cases hc : cB = true
        rotate_left
        · rw [if_neg hc]
          exact hK undef x (hbel (by decide) (Below.refl _ _)) (fun h => absurd h hc) (keep (by decide) (Below.refl _ _)) (fun h => by cases h)
        rw [if_pos hc]
        obtain ⟨_, s40⟩ := hdep { on := 5, ground := Ground.data } (by simp) (by kernel_rfl)
        obtain ⟨_, s42⟩ := hdep { on := 7, ground := Ground.data } (by simp) (by kernel_rfl)
        have e40 : a1.tmps[40]?.getD undef = .string TX := Inv4.slot (s40 hc)
        have e42 : a1.tmps[42]?.getD undef = .string JN := Inv4.slot (s42 hc)
        unfold Oper.wp execOp
        go_simp
        exact hK (.bool (TX.toList == JN.toList)) x (hbel (by decide) (Below.refl _ _)) (fun _ => congrArg Value.bool HEB.out) (keep (by decide) (Below.refl _ _)) (fun h => by cases h)
      | 9, ho =>
        obtain rfl := Option.some.inj ho
        rw [if_pos (show Region.wanted _ _ = true from rfl)]
        obtain ⟨_, s38⟩ := hdep { on := 3, ground := Ground.data } (by simp) (by kernel_rfl)
        obtain ⟨_, s43⟩ := hdep { on := 8, ground := Ground.data } (by simp) (by kernel_rfl)
        by_cases hc : cB = true
        · have e38 : a1.tmps[38]?.getD undef = .bool true := Inv4.slot (s38.trans (congrArg Value.bool hc))
          have e43 : a1.tmps[43]?.getD undef = .bool Q := Inv4.slot ((s43 hc).trans (congrArg Value.bool (HQ1.out hc)))
          unfold Oper.wp execOp
          go_simp
          exact hK (.bool Q) x (hbel (by decide) (Below.refl _ _)) rfl (keep (by decide) (Below.refl _ _)) (fun h => by cases h)
        · have hc2 : cB = false := Bool.eq_false_iff.2 hc
          have e38 : a1.tmps[38]?.getD undef = .bool false := Inv4.slot (s38.trans (congrArg Value.bool hc2))
          unfold Oper.wp execOp
          go_simp
          exact hK (.bool false) x (hbel (by decide) (Below.refl _ _)) (congrArg Value.bool (HQ0.out hc2).symm) (keep (by decide) (Below.refl _ _)) (fun h => by cases h)
      | 10, ho =>
        obtain rfl := Option.some.inj ho
        rw [if_pos (show Region.wanted _ _ = true from rfl)]
        obtain ⟨_, s35⟩ := hdep { on := 0, ground := Ground.data } (by simp) (by kernel_rfl)
        have e35 : a1.tmps[35]?.getD undef = .agg #[.int .i64 r, .int .i64 v1, .int .i64 v2] := Inv4.slot s35
        have hx1 := hI.2.2.1 hli
        have HX1 := Lib.hid hx1
        have HX2 := Lib.hid hI.2.1
        have HG := Lib.hid hI.1
        obtain ⟨d0, d1, d2, j0, j1, j2⟩ := hx1
        clear c0 c1 c2 f0 f1 f2
        unfold Oper.wp execOp
        go_simp
        have hgs := grown_set (grown_set (grown_set (grown_id x G1) 0 (.int .i64 r)) 1 (.int .i64 v1)) 2 (.int .i64 v2)
        have hx9 := ((HX1.out.set0 (.int .i64 r)).set1 (.int .i64 v1)).set2 (.int .i64 v2)
        have hl10 : (l.setIfInBounds 10 true).getD 10 false = true := by rw [Inv.getD_set l 10 10 false hil, if_pos rfl]
        refine hK undef _ ?_ trivial ?_ (fun _ _ => trivial)
        · rw [if_pos rfl]; exact hgs
        · exact ⟨grown_more HG.out hgs, bx_grown HX2.out hgs HNE.out.symm, fun h => absurd (hl10.symm.trans h) (by decide), fun _ => hx9⟩
      | 11, ho =>
        obtain rfl := Option.some.inj ho
        rw [if_pos (show Region.wanted _ _ = true from rfl)]
        obtain ⟨_, s44⟩ := hdep { on := 9, ground := Ground.data } (by simp) (by kernel_rfl)
        have e44 : a1.tmps[44]?.getD undef = .bool Q := Inv4.slot s44
        unfold Oper.wp execOp
        go_simp
        exact hK (.bool Q) x (hbel (by decide) (Below.refl _ _)) rfl (keep (by decide) (Below.refl _ _)) (fun h => by cases h)
      | n + 12, ho => cases ho
    case hend =>
      intro aa x hsz hdf hfr hall hl
      obtain ⟨l, ⟨hg, _, _, hx1⟩, hl⟩ := hl
      have hx1 := hx1 (hl 10 (by decide))
      have s3 : aa.tmps.getD 3 undef = .bool Q := hall 11 (by decide)
      have s2 : aa.tmps.getD 2 undef = .pointer (some ⟨G1, 0, none⟩) := hfr 2 (by decide)
      obtain ⟨tm, df⟩ := aa
      simp only at hdf hsz s2 s3
      subst hdf
      have HBW := Lib.hid (show Below w.heap.size w x from HBb.out.grown hg HBb.out.size (fun k hk => by cases hk; exact HG1.out))
      obtain ⟨R0, R1, R2, _, _, _⟩ := hx1
      have e2 := Inv4.slot s2
      have e3 := Inv4.slot s3
      clear hall hfr hg
      go_wp2
      refine bodyPost_ret (v := .tuple #[.agg #[.int .i64 r, .int .i64 v1, .int .i64 v2], .bool Q]) (by simp [results, Tryd.results27, go_sem, R0, R1, R2, e2, e3]) rfl ⟨(r, v1, v2), Q, rfl, HEND.out, HBW.out⟩
end Go.Proofs.YtidbkamadclchaaDoor.ReadI
