/-
  What is proved: the program's reading of a result answers a result, and whether the text is its own (a contract for the walks).
-/
import Derived.Test.YtifkihjjkomfiaaDoorRows
import Derived.Test.YtifkihjjkomfiaaDoorReadS
import Derived.Test.YtifkihjjkomfiaaDoorResT
import Derived.Test.YtifkihjjkomfiaaDoorShelf2r
import Derived.Test.YtifkihjjkomfiaaDoorInv4
import Derived.Lib.BufferOwn
import Derived.Deep.RegionHeld3
namespace Go.Proofs.YtifkihjjkomfiaaDoor.ReadRi
open Go.ChangeShapes Go.WideShapes Go.ChangeAt Go.RowKit
open Sl (Sl Own Off)
open OpenSl (nc tc)
open Dev Box2 LawR ResP ReadP RsP Txt Dig TxtRr OtB ReadS ResI
open CodesR (wordOf codeOf wordAt)
open Shelf2r (Ev)
set_option linter.unusedVariables false

theorem grown_set {w w' : World} {b : Nat} (h : w.grownBy w' (some b)) (i : Nat) (v : Value) : w.grownBy (w'.setCell ⟨b, i, none⟩ v) (some b) := Lib.grownBy_setB h i v
theorem grown_more {w x y : World} {G : Nat} (h : w.grownBy x (some G)) (k : x.grownBy y (some G)) : w.grownBy y (some G) :=
  ⟨k.os.trans h.os, k.tape.trans h.tape, k.output.trans h.output, Nat.le_trans h.size k.size, fun i hi hne => (k.block i (Nat.lt_of_lt_of_le hi h.size) hne).trans (h.block i hi hne)⟩
theorem grown_low {w y : World} (hb : Below w.heap.size w y) (G : Nat) : w.grownBy y (some G) := ⟨hb.os, hb.tape, hb.output, hb.size, fun i hi _ => hb.block i hi⟩
theorem grown_id (w : World) (G : Nat) : w.grownBy w (some G) := ⟨rfl, rfl, rfl, Nat.le_refl _, fun _ _ _ => rfl⟩
theorem bx_grown {w y : World} {g G : Nat} {a b : Value} (h : Bx w g a b) (k : w.grownBy y (some G)) (hne : g ≠ G) : Bx y g a b := h.block (k.block g h.lt (fun e => hne (Option.some.inj e)))
theorem own_cells {w : World} {base A n : Nat} {c : Nat → Value} (h : Own w base 1 (.slice (some ⟨A, 0, none⟩) n n) n c) (h0 : 0 < n) : (∀ j, j < n → w.cell? ⟨A, 0 + j, none⟩ = some (c j)) ∧ A < w.heap.size := by
  obtain ⟨b9, o9, e9, _, hc⟩ := h.at h0
  obtain ⟨rfl, rfl⟩ : A = b9 ∧ 0 = o9 := by simpa using e9
  exact ⟨fun j hj => (hc j (by omega)).1, World.block_lt_of_cell? w _ (hc 0 (by omega)).1⟩
/-- What reading asks of the world. -/
structure Te (w : World) : Prop where
  tc : Tc w
  ev : Ev w
theorem Te.below {w w' : World} (h : Te w) (hb : Below w.heap.size w w') : Te w' := ⟨h.tc.below hb, h.ev.below hb⟩
set_option maxRecDepth 100000 in
theorem blankWords (s : ByteArray) (hs : s.size ≤ 4294967296) (w : World) :
    Calls Tryd.prog 37 #[.string s] w fun e w' => ∃ (A : Nat) (ts : List ByteArray), e = .returned (.slice (some ⟨A, 0, none⟩) ts.length ts.length) ∧ Hid (ts.map (·.data.toList) = wds s.data.toList ∧ Own w' w.heap.size 1 (.slice (some ⟨A, 0, none⟩) ts.length ts.length) ts.length (tc ts)) ∧ Below w.heap.size w w' := by
  have HF := Lib.hid (fun u => Shelf2r.fields s hs u)
  go_enter Tryd.func37, Tryd.ntmps37
  go_wp2_with fail
  refine (HF.out _).mono ?_
  rintro e w' ⟨A, ts, rfl, hA, hw, ho, hb⟩
  have HO := Lib.hid (And.intro hw (own_of_row ho (tc ts) (fun j hj => by
    rw [Nat.mul_one] at hj
    unfold tc
    rw [List.getElem?_map, List.getD_eq_getElem?_getD, List.getElem?_eq_getElem hj]
    rfl)))
  have HB := Lib.hid hb
  clear hw ho hb hA
  go_wp2_with fail
  go_ret
  exact ⟨A, ts, rfl, HO, HB.out⟩

/-- What the values read so far are. -/
def av1 (ts : List ByteArray) (k : Nat) : List Int := ((ts.drop 1).take k).map fun t => av t.data.toList
theorem av1_next (ts : List ByteArray) (k : Nat) (h : k + 1 < ts.length) : av1 ts (k + 1) = av1 ts k ++ [av (ts.getD (k + 1) ByteArray.empty).data.toList] := by
  unfold av1
  rw [List.take_add_one, List.map_append, List.getElem?_drop]
  have e2 : ts[1 + k]? = some (ts.getD (k + 1) ByteArray.empty) := by
    rw [List.getD_eq_getElem?_getD, Nat.add_comm 1 k, List.getElem?_eq_getElem h]; rfl
  rw [e2]
  rfl
theorem av1_len (ts : List ByteArray) (k : Nat) (h : k < ts.length) : (av1 ts k).length = k := by
  unfold av1
  rw [List.length_map, List.length_take, List.length_drop]
  omega
theorem av1_all {ts : List ByteArray} {k : Nat} (h : k + 1 = ts.length) : av1 ts k = (ts.drop 1).map fun t => av t.data.toList := by
  unfold av1
  rw [List.take_of_length_le (by rw [List.length_drop]; omega)]
theorem zs_own' {w : World} {base k : Nat} {v : Value} {vs : List Int} (h : w.ownsRow base 3 1 v k (zs vs)) (hl : vs.length = k) : Own w base 1 v k (nc vs) := by
  subst hl
  exact zs_own h
/-- What readResult answers. -/
def QPost (s : ByteArray) (base : Nat) (w : World) (e : Ending) : Prop := ∃ c v vs q, e = .returned (.tuple #[.agg #[.int .i64 c, v], .bool q]) ∧ Hid (An (wds s.data.toList) c vs q ∧ Own w base 1 v vs.length (nc vs))
theorem an_of {ws : List B} {ts : List ByteArray} (hw : ts.map (·.data.toList) = ws) (hwd : ∀ x ∈ ws, Wd x) {k : Nat} (hk : k + 1 = ts.length) {c : Int} (hc : codeOf (ts.getD 0 ByteArray.empty) = c) {cB eB Q : Bool} (h1 : decide (ROk c (av1 ts k)) = cB) (h2 : ((rB c (av1 ts k)).toList == (jnR ts).toList) = eB) (h3 : (cB && eB) = Q) : An ws c (av1 ts k) Q := by
  have hj : (jnR ts).data.toList = Lib.join ws [32] := by unfold jnR; rw [hw]
  rw [ByteArray.toList_eq, ByteArray.toList_eq, rB_data, hj] at h2
  refine ⟨fun h => ?_, fun c' vs' hok e => ?_⟩
  · rw [h, Bool.and_eq_true] at h3
    rw [h3.1] at h1
    rw [h3.2] at h2
    have hok := of_decide_eq_true h1
    exact ⟨hok, (join_iff hwd hok).1 (eq_of_beq h2)⟩
  · obtain ⟨t0, r, rfl⟩ : ∃ t0 r, ts = t0 :: r := by
      cases ts with
      | nil => simp at hk
      | cons a b => exact ⟨a, b, rfl⟩
    obtain ⟨e1, e2⟩ := parse hok (e.trans hw.symm)
    have e3 : av1 (t0 :: r) k = vs' := by rw [av1_all hk]; exact e2
    have e4 : c' = c := by rw [← e1]; exact hc
    subst e4
    rw [e3] at h1 h2 ⊢
    refine ⟨rfl, rfl, ?_⟩
    rw [← h3, ← h1, ← h2, decide_eq_true hok, e]
    simp

set_option maxRecDepth 100000 in
set_option maxHeartbeats 6400000 in
theorem readResult (s : ByteArray) (hs : s.size ≤ 65536) (w : World) (hT : Te w) :
    Calls Tryd.prog 24 #[.string s] w fun e w' => QPost s w.heap.size w' e ∧ Below w.heap.size w w' := by
  obtain ⟨U1, e1, hb1, hz1, X1⟩ := box2 w 28 (.int .i64 0) (.slice none 0 0)
  obtain ⟨G1, eG1⟩ : ∃ G1, w.heap.size = G1 := ⟨_, rfl⟩
  have HB1 := Lib.hid (show Below G1 w U1 from eG1 ▸ hb1)
  have HZ1 := Lib.hid (show U1.heap.size = G1 + 1 by omega)
  rw [eG1] at X1
  have HX1 := Lib.hid X1
  have HT0 := Lib.hid hT
  have HT1 := Lib.hid (hT.below hb1)
  have HE1 := Lib.hid eG1
  rw [eG1]
  have HWD := Lib.hid (fun u => blankWords s (by omega) u)
  obtain ⟨c0, c1, f0, f1⟩ := X1
  clear hb1 hz1 hT
  go_enter Tryd.func24, Tryd.ntmps24
  go_wp2_with fail
  clear e1 eG1 c0 c1 f0 f1
  refine (HWD.out _).mono ?_
  rintro e w2 ⟨A, ts, rfl, HW, hb2⟩
  have HFW := Lib.hid (few HW.out.1 hs)
  have HWW := Lib.hid (show ∀ x ∈ wds s.data.toList, Wd x from wds_wd _)
  have HB2 := Lib.hid (HB1.out.trans (hb2.mono (by have := HZ1.out; omega)))
  have HX2 := Lib.hid (HX1.out.below hb2)
  have HT2 := Lib.hid (HT1.out.below hb2)
  have HZ2 := Lib.hid (show G1 < w2.heap.size ∧ G1 < U1.heap.size by have := HZ1.out; have := hb2.size; omega)
  clear hb2
  by_cases hn0 : ts = []
  · subst hn0
    have HR := Lib.hid (show An (wds s.data.toList) 0 [] false from by
      rw [← HW.out.1]
      exact an_none (fun c' vs' hok e => rP_ne c' vs' e) 0 [])
    obtain ⟨W, eW, hx, hbl, _⟩ := put2 w2 G1 _ _ (.int .i64 0) (.slice none 0 0) HX2.out
    obtain ⟨c0, c1, f0, f1⟩ := HX2.out
    have HBW := Lib.hid (HB2.out.trans (hbl G1 (Nat.le_refl _)))
    clear hbl
    go_wp2
    clear eW c0 c1 f0 f1
    obtain ⟨R0, R1, _, _⟩ := hx
    refine bodyPost_ret (v := .tuple #[.agg #[.int .i64 0, .slice none 0 0], .bool false]) (by simp [results, Tryd.results24, go_sem, R0, R1]) rfl ⟨⟨0, _, [], false, rfl, Lib.hid ⟨HR.out, zero_own _ _⟩⟩, HBW.out⟩
  have hpos : 0 < ts.length := List.length_pos_iff.2 hn0
  have HPOS := Lib.hid hpos
  obtain ⟨T0, eT0⟩ : ∃ T0, ts.getD 0 ByteArray.empty = T0 := ⟨_, rfl⟩
  have HT00 := Lib.hid eT0
  have t0 : w2.cell? ⟨A, 0, none⟩ = some (.string T0) := by
    have := (own_cells HW.out.2 hpos).1 0 hpos
    unfold tc at this
    rw [eT0] at this
    exact this
  have HCD := Lib.hid (fun u (hu : Te u) => CodesR.code_impl T0 u hu.tc.tab)
  obtain ⟨c, ec⟩ : ∃ c, codeOf T0 = c := ⟨_, rfl⟩
  have HEC := Lib.hid (show codeOf (ts.getD 0 ByteArray.empty) = c by rw [HT00.out]; exact ec)
  rw [ec] at HCD
  have HTS := Lib.hid (fun k (hk : k < ts.length) => show (ts.getD k ByteArray.empty).size ≤ 65536 from HFW.out.1 _ (by rw [List.getD_eq_getElem?_getD, List.getElem?_eq_getElem hk]; exact List.getElem_mem hk))
  have HNX := Lib.hid (fun k (hk : k + 1 < ts.length) => av1_next ts k hk)
  have HNL := Lib.hid (fun k (hk : k < ts.length) => av1_len ts k hk)
  have HWC := Lib.hid (fun (j : Nat) (hj : j < ts.length) => (own_cells HW.out.2 hpos).1 j hj)
  have HAN := Lib.hid (fun k (hk : k + 1 = ts.length) (cB eB Q : Bool) h1 h2 h3 => an_of (k := k) (cB := cB) (eB := eB) (Q := Q) HW.out.1 HWW.out hk HEC.out h1 h2 h3)
  have HJL := Lib.hid (show ts.length ≤ 131073 ∧ (Lib.join (ts.map (·.data.toList)) [32]).length ≤ 140737488355328 from ⟨HFW.out.2, by
    rw [HW.out.1]
    have := join_len s.data.toList
    have hl : s.data.toList.length = s.size := rfl
    omega⟩)
  have HJN := Lib.hid (fun (u : World) (hcells : ∀ j, j < ts.length → u.cell? ⟨A, 0 + j, none⟩ = some (tc ts j)) (hbk : A < u.heap.size) =>
    show Calls Tryd.prog 35 #[.slice (some ⟨A, 0, none⟩) ts.length ts.length, .string ⟨#[32]⟩] u fun e w' => e = .returned (.string (jnR ts)) ∧ Below u.heap.size u w' from
      Tryd.strings_Join A 0 ts.length ts ⟨#[32]⟩ u (fun j x hx => by
        have hj : j < ts.length := (List.getElem?_eq_some_iff.1 hx).1
        rw [hcells j hj]
        unfold tc
        rw [List.getD_eq_getElem?_getD, hx]
        rfl) hbk (by have := HJL.out.1; omega) (Nat.le_refl _) HJL.out.2)
  have HAT := Lib.hid (fun (t : ByteArray) (ht : t.size ≤ 65536) u (hu : Te u) => Shelf2r.atoi t (by omega) u hu.ev)
  obtain ⟨n, en⟩ : ∃ n, ts.length = n := ⟨_, rfl⟩
  have HEN := Lib.hid en
  have HWO := Lib.hid HW.out.2
  rw [en] at HPOS HTS HNX HNL HWC HAN HJL HJN HWO hpos ⊢
  have hn13 := HJL.out.1
  obtain ⟨U3, e3, hb4, hz4, X4, ty4⟩ := boxR w2 (.int .i64 c) (.slice none 0 0)
  obtain ⟨U4, e4, HRS⟩ : ∃ U4, U3.setCell ⟨w2.heap.size, 1, none⟩ (.slice none 0 0) = U4 ∧ Hid (Rs w2 w2.heap.size U4 w2.heap.size c none 0 0 []) :=
    ⟨_, rfl, Lib.hid ⟨hb4.setCell (p := ⟨w2.heap.size, 1, none⟩) (Nat.le_refl _) _, X4.set1 _, ty_set ty4 1 _, ⟨rfl, .inl ⟨rfl, rfl⟩⟩, Nat.le_refl _, Nat.le_trans hb4.size (by simp)⟩⟩
  obtain ⟨G, eG⟩ : ∃ G, w2.heap.size = G := ⟨_, rfl⟩
  have HS0 := Lib.hid eG
  rw [eG] at HRS HZ2 X4 e4
  obtain ⟨y0, y1, y2, y3⟩ := X4
  have HXX := Lib.hid (fun (u : World) (hu : Below G w2 u) => HX2.out.below (show Below w2.heap.size w2 u by rw [eG]; exact hu))
  have HWX := Lib.hid (fun (u : World) (hu : Below G w2 u) (j : Nat) (hj : j < n) => show u.cell? ⟨A, j, none⟩ = some (.string (ts.getD j ByteArray.empty)) from by
    have h1 := HWC.out j hj
    rw [Nat.zero_add] at h1
    exact (hu.cell (p := ⟨A, j, none⟩) (by have := World.block_lt_of_cell? _ _ h1; rw [← eG]; exact this)).trans h1)
  have HWY := Lib.hid (fun (u : World) (hu : Below G w2 u) => HWO.out.below (show Below w2.heap.size w2 u by rw [eG]; exact hu))
  have HBX := Lib.hid (fun (u : World) (hu : Below G w2 u) => HB2.out.trans (hu.mono (by have := HZ2.out; omega)))
  have HTX := Lib.hid (fun (u : World) (hu : Below G w2 u) => HT2.out.below (show Below w2.heap.size w2 u by rw [eG]; exact hu))
  have dn : ((n : Int) == 0) = false := beq_eq_false_iff_ne.2 (by omega)
  clear hb4 hz4 ty4 en ec eT0 hn0
  go_wp2_with fail
  refine (HCD.out _ HT2.out).mono ?_
  rintro e u ⟨rfl, hu⟩
  subst hu
  clear t0
  obtain ⟨l, hl⟩ : ∃ l, n - 1 = l := ⟨_, rfl⟩
  by_cases hn1 : n = 1
  case neg =>
    have hcap : ¬ n = 1 := hn1
    go_wp2
    clear e3 e4 eG y0 y1 y2 y3
    go_loopw [24] (fun i wz => ∃ (k : Nat) (wr : World) (b : Option Addr) (cp : Nat), wr = wz ∧ k ≤ l ∧ i = .int .i64 k ∧ Hid (Rs w2 G wr G c b k cp (av1 ts k))) (fun i _ => l - (Go.RowKit.intOf i).toNat)
    case atStart => exact ⟨0, _, _, _, rfl, by omega, rfl, HRS⟩
    case round =>
      obtain ⟨k, wr, b, cp, rfl, hk, rfl, HJ⟩ := hrel
      by_cases hlt : k < l
      · have hkn : k + 1 < n := by omega
        have t1 := HWX.out wr HJ.out.bel (k + 1) hkn
        rw [Nat.add_comm k 1] at t1
        have HT := Lib.hid (HTS.out (k + 1) hkn)
        have HV := Lib.hid (HNX.out k hkn)
        rw [Nat.add_comm k 1] at HT HV
        generalize ts.getD (1 + k) ByteArray.empty = tx at *
        have HA := Lib.hid (HAT.out tx HT.out)
        have HTW := Lib.hid (HTX.out wr HJ.out.bel)
        generalize av tx.data.toList = z at *
        go_wp2_with fail
        refine (HA.out _ HTW.out).mono ?_
        rintro e w8 ⟨ev, rfl, hb8⟩
        have HR8 := Lib.hid (HJ.out.below hb8)
        clear hb8 t1
        obtain ⟨i0, hi0, hz0, hz1, hz2⟩ := info_parts infoN
        obtain ⟨U9, e9, hb9, x0⟩ := litN w8 z
        have HR9 := Lib.hid (HR8.out.below hb9)
        obtain ⟨M, eM⟩ : ∃ M, w8.heap.size = M := ⟨_, rfl⟩
        rw [eM] at x0
        have EM := Lib.hid eM
        have HN0 := Lib.hid (lit_at x0)
        obtain ⟨d0, d1, g0, g1⟩ := HR8.out.box
        have hm2 : k + 1 ≤ maxLen := by unfold maxLen; omega
        have hy2 : (k + 1) * 8 ≤ 140737488355328 := by omega
        have ho1 : ∀ v ∈ [Value.int .i64 z], v.oneCell' = true := by intro v hv; simp at hv; rw [hv]; rfl
        clear hb9 x0 eM
        go_wp2_with (at_builtin; refine wpList_append_own _ rfl (.tmp 34) (.tmp 36) 22 rfl G 3 i0 _ 1 8 Tryd.underlying22 hi0 hz0 hz1 hz2 rfl (by omega) (.slice b k cp) k (zs (av1 ts k)) (by simp [Act.eval]) HR9.out.row ⟨M, 0, none⟩ 1 1 [Value.int .i64 z] (by simp [Act.eval] <;> exact EM.out) rfl HN0.out ho1 hm2 hy2 HR9.out.lo ?_; intro v4 w10 hr4 hg4 _; obtain ⟨b4, cp4, rfl⟩ := row_form hr4; obtain ⟨x5, _⟩ := HR9.out.mid hg4; obtain ⟨d2, d3, g2, g3⟩ := x5; have HR11 := Lib.hid (HR9.out.next hg4 hr4); clear hr4 hg4)
        go_roundw
        case rel => exact ⟨k + 1, _, b4, cp4, rfl, by omega, by go_num, Lib.hid (by rw [show av1 ts (k + 1) = av1 ts k ++ [z] from by rw [Nat.add_comm k 1]; exact HV.out]; exact HR11.out)⟩
        case measure => simp [Go.RowKit.intOf]; omega
      · have hkn : k + 1 = n := by omega
        have HLE := Lib.hid (HNL.out k (by omega))
        have HX2C := Lib.hid HJ.out.box
        have HX1b := Lib.hid (HXX.out wr HJ.out.bel)
        have HBb := Lib.hid (HBX.out wr HJ.out.bel)
        have HOb := Lib.hid (HWY.out wr HJ.out.bel)
        have HVO := Lib.hid (show Own wr G 1 (.slice b k cp) k (nc (av1 ts k)) from zs_own' HJ.out.row HLE.out)
        obtain ⟨cB, hcB⟩ : ∃ q, decide (ROk c (av1 ts k)) = q := ⟨_, rfl⟩
        obtain ⟨eB, heB⟩ : ∃ q, ((rB c (av1 ts k)).toList == (jnR ts).toList) = q := ⟨_, rfl⟩
        obtain ⟨Q, hQ⟩ : ∃ q, (cB && eB) = q := ⟨_, rfl⟩
        have HQ1 := Lib.hid (show cB = true → eB = Q from fun h => by rw [← hQ, h]; rfl)
        have HQ0 := Lib.hid (show cB = false → Q = false from fun h => by rw [← hQ, h]; rfl)
        have HOK := Lib.hid (fun u hu v hr => ResI.right u hu v c (av1 ts k) hr cB hcB)
        have HOT := Lib.hid (fun (hc : cB = true) u hu v hr => ResT.resultText u hu v c (av1 ts k) hr (of_decide_eq_true (hcB.trans hc)))
        have HEND := Lib.hid (HAN.out k hkn cB eB Q hcB heB hQ)
        have HEB := Lib.hid heB
        have HG1U := Lib.hid HZ2.out.1
        have HGU := Lib.hid HZ2.out.2
        have hne : G1 ≠ G := by have := HZ2.out; omega
        have HNE := Lib.hid hne
        clear hQ hcB heB
        generalize rB c (av1 ts k) = TX at *
        generalize jnR ts = JN at *
        generalize av1 ts k = xs at *
        clear HAN HNX HNL HRS
        go_wp2_with fail
        refine Inv3.region [40, 41, 42, 43, 44, 45, 46, 47, 48, 49, 1000, 3]
          (fun i u x => match i with
            | 0 => u = .agg #[.int .i64 c, .slice b k cp]
            | 1 => u = .agg #[.int .i64 c, .slice b k cp]
            | 2 => u = .bool cB
            | 3 => u = .bool cB
            | 4 => cB = true → u = .agg #[.int .i64 c, .slice b k cp]
            | 5 => cB = true → u = .string TX
            | 6 => cB = true → u = .slice (some ⟨A, 0, none⟩) n n
            | 7 => cB = true → u = .string JN
            | 8 => cB = true → u = .bool eB
            | 9 => u = .bool Q
            | 11 => u = .bool Q
            | _ => True)
          (fun l _ x => wr.grownBy x (some G1) ∧ Bx x G (.int .i64 c) (.slice b k cp) ∧ (l.getD 10 false = false → Bx x G1 (.int .i64 0) (.slice none 0 0)) ∧ (l.getD 10 false = true → Bx x G1 (.int .i64 c) (.slice b k cp)))
          (fun i x y => if i = 10 then x.grownBy y (some G1) else Below x.heap.size x y)
          (by kernel_rfl) ?said ?h0 ?hop ?hend
        case h0 => exact ⟨⟨rfl, rfl, rfl, Nat.le_refl _, fun _ _ _ => rfl⟩, HX2C.out.below ⟨rfl, rfl, rfl, Nat.le_refl _, fun _ _ => rfl⟩, fun _ => HX1b.out.below ⟨rfl, rfl, rfl, Nat.le_refl _, fun _ _ => rfl⟩, fun h => by have h2 : false = true := h; cases h2⟩
        case said =>
          refine ⟨rfl, fun i o ho => ?_, by decide, fun i j u x y hij hp hr => ?_⟩
          · match i, ho with
            | 0, ho => obtain rfl := Option.some.inj ho; exact ⟨by decide, rfl, (show 40 < 50 by decide)⟩
            | 1, ho => obtain rfl := Option.some.inj ho; exact ⟨by decide, rfl, (show 41 < 50 by decide)⟩
            | 2, ho => obtain rfl := Option.some.inj ho; exact ⟨by decide, rfl, (show 42 < 50 by decide)⟩
            | 3, ho => obtain rfl := Option.some.inj ho; exact ⟨by decide, rfl, (show 43 < 50 by decide)⟩
            | 4, ho => obtain rfl := Option.some.inj ho; exact ⟨by decide, rfl, (show 44 < 50 by decide)⟩
            | 5, ho => obtain rfl := Option.some.inj ho; exact ⟨by decide, rfl, (show 45 < 50 by decide)⟩
            | 6, ho => obtain rfl := Option.some.inj ho; exact ⟨by decide, rfl, (show 46 < 50 by decide)⟩
            | 7, ho => obtain rfl := Option.some.inj ho; exact ⟨by decide, rfl, (show 47 < 50 by decide)⟩
            | 8, ho => obtain rfl := Option.some.inj ho; exact ⟨by decide, rfl, (show 48 < 50 by decide)⟩
            | 9, ho => obtain rfl := Option.some.inj ho; exact ⟨by decide, rfl, (show 49 < 50 by decide)⟩
            | 10, ho => obtain rfl := Option.some.inj ho; exact ⟨by decide, (show 50 ≤ 1000 by decide)⟩
            | 11, ho => obtain rfl := Option.some.inj ho; exact ⟨by decide, rfl, (show 3 < 50 by decide)⟩
            | nn + 12, ho => cases ho
          · match i, hp with
            | 0, hp => exact hp
            | 1, hp => exact hp
            | 2, hp => exact hp
            | 3, hp => exact hp
            | 4, hp => exact hp
            | 5, hp => exact hp
            | 6, hp => exact hp
            | 7, hp => exact hp
            | 8, hp => exact hp
            | 9, hp => exact hp
            | 10, hp => exact hp
            | 11, hp => exact hp
            | nn + 12, _ => trivial
        case hop =>
          intro i op ho l a1 x hI hsz hcl hls hli hfr hdep K hK
          have HSZ := Lib.hid hsz
          clear hsz
          have hil : i < l.size := by rw [hls]; exact (Array.getElem?_eq_some_iff.1 ho).1
          have hbel : ∀ {y}, i ≠ 10 → Below x.heap.size x y → (if i = 10 then x.grownBy y (some G1) else Below x.heap.size x y) := fun h hb => by rw [if_neg h]; exact hb
          have keep : ∀ {y}, i ≠ 10 → Below x.heap.size x y → (wr.grownBy y (some G1) ∧ Bx y G (.int .i64 c) (.slice b k cp) ∧ ((l.setIfInBounds i true).getD 10 false = false → Bx y G1 (.int .i64 0) (.slice none 0 0)) ∧ ((l.setIfInBounds i true).getD 10 false = true → Bx y G1 (.int .i64 c) (.slice b k cp))) := fun {y} h1 hb => by
            refine ⟨grown_more hI.1 (grown_low hb G1), hI.2.1.below hb, fun hl => ?_, fun hl => ?_⟩
            · rw [Inv.getD_set l i 10 false hil, if_neg (fun e => h1 e.symm)] at hl
              exact (hI.2.2.1 hl).below hb
            · rw [Inv.getD_set l i 10 false hil, if_neg (fun e => h1 e.symm)] at hl
              exact (hI.2.2.2 hl).below hb
          have HBx := Lib.hid (show Below G1 w x from HBb.out.grown hI.1 (Nat.le_trans (Nat.le_of_eq HE1.out.symm) HBb.out.size) (fun kk hk => by cases hk; exact Nat.le_refl _))
          have HTx := Lib.hid (HT0.out.below (by rw [HE1.out]; exact HBx.out))
          have HRx := Lib.hid (show Rr x (.agg #[.int .i64 c, .slice b k cp]) c xs from ⟨_, rfl, by have h := (HVO.out.grown hI.1 (own_low HVO.out G1 HG1U.out)).sl; rw [HLE.out]; exact h⟩)
          obtain ⟨c0, c1, f0, f1⟩ := hI.2.1
          have s5 : a1.tmps.getD 5 undef = .pointer (some ⟨G, 0, none⟩) := hfr 5 (by decide)
          have s4 : a1.tmps.getD 4 undef = .slice (some ⟨A, 0, none⟩) n n := hfr 4 (by decide)
          have s2 : a1.tmps.getD 2 undef = .pointer (some ⟨G1, 0, none⟩) := hfr 2 (by decide)
          have e5 := Inv4.slot s5
          have e4 := Inv4.slot s4
          have e2 := Inv4.slot s2
          match i, ho with
          | 0, ho =>
            obtain rfl := Option.some.inj ho
            rw [if_pos (show Region.wanted _ _ = true from rfl)]
            unfold Oper.wp execOp
            go_simp
            exact hK (.agg #[.int .i64 c, .slice b k cp]) x (hbel (by decide) (Below.refl _ _)) rfl (keep (by decide) (Below.refl _ _)) (fun h => by cases h)
          | 1, ho =>
            obtain rfl := Option.some.inj ho
            rw [if_pos (show Region.wanted _ _ = true from rfl)]
            unfold Oper.wp execOp
            go_simp
            exact hK (.agg #[.int .i64 c, .slice b k cp]) x (hbel (by decide) (Below.refl _ _)) rfl (keep (by decide) (Below.refl _ _)) (fun h => by cases h)
          | 2, ho =>
            obtain rfl := Option.some.inj ho
            rw [if_pos (show Region.wanted _ _ = true from rfl)]
            obtain ⟨_, s36⟩ := hdep { on := 1, ground := Ground.data } (by simp) (by kernel_rfl)
            refine Inv4.wp_call 18 _ _ rfl #[.agg #[.int .i64 c, .slice b k cp]] (by simp only [List.map_toArray, List.map_cons, List.map_nil, Act.eval]; exact congrArg (fun v => #[v]) s36) (enters_of Tryd.func18 (by kernel_rfl) rfl _ _) ((HOK.out x HTx.out.tc _ HRx.out).mono ?_)
            rintro e y ⟨rfl, hb⟩
            exact ⟨_, rfl, hK (.bool cB) y (hbel (by decide) hb) rfl (keep (by decide) hb) (fun h => by cases h)⟩
          | 3, ho =>
            obtain rfl := Option.some.inj ho
            rw [if_pos (show Region.wanted _ _ = true from rfl)]
            obtain ⟨_, s37⟩ := hdep { on := 2, ground := Ground.data } (by simp) (by kernel_rfl)
            have e37 : a1.tmps[42]?.getD undef = .bool cB := Inv4.slot s37
            unfold Oper.wp execOp
            go_simp
            exact hK (.bool cB) x (hbel (by decide) (Below.refl _ _)) rfl (keep (by decide) (Below.refl _ _)) (fun h => by cases h)
          | 4, ho =>
            obtain rfl := Option.some.inj ho
            have h3 : a1.tmps.getD 43 undef = .bool cB := (hdep { on := 3, ground := Ground.guard } (by simp) (by kernel_rfl)).2
            rw [Inv4.wanted_eq (j := 3) (t := 43) rfl (by kernel_rfl) h3]
            by_cases hc : cB = true
            rotate_left
            · rw [if_neg hc]
              exact hK undef x (hbel (by decide) (Below.refl _ _)) (fun h => absurd h hc) (keep (by decide) (Below.refl _ _)) (fun h => by cases h)
            rw [if_pos hc]
            unfold Oper.wp execOp
            go_simp
            exact hK (.agg #[.int .i64 c, .slice b k cp]) x (hbel (by decide) (Below.refl _ _)) (fun _ => rfl) (keep (by decide) (Below.refl _ _)) (fun h => by cases h)
          | 5, ho =>
            obtain rfl := Option.some.inj ho
            have h3 : a1.tmps.getD 43 undef = .bool cB := (hdep { on := 3, ground := Ground.guard } (by simp) (by kernel_rfl)).2
            rw [Inv4.wanted_eq (j := 3) (t := 43) rfl (by kernel_rfl) h3]
            by_cases hc : cB = true
            rotate_left
            · rw [if_neg hc]
              exact hK undef x (hbel (by decide) (Below.refl _ _)) (fun h => absurd h hc) (keep (by decide) (Below.refl _ _)) (fun h => by cases h)
            rw [if_pos hc]
            obtain ⟨_, s39⟩ := hdep { on := 4, ground := Ground.data } (by simp) (by kernel_rfl)
            have s39 := s39 hc
            refine Inv4.wp_call 19 _ _ rfl #[.agg #[.int .i64 c, .slice b k cp]] (by simp only [List.map_toArray, List.map_cons, List.map_nil, Act.eval]; exact congrArg (fun v => #[v]) s39) (enters_of Tryd.func19 (by kernel_rfl) rfl _ _) ((HOT.out hc x HTx.out.tc _ HRx.out).mono ?_)
            rintro e y ⟨rfl, hb⟩
            exact ⟨_, rfl, hK (.string TX) y (hbel (by decide) hb) (fun _ => rfl) (keep (by decide) hb) (fun h => by cases h)⟩
          | 6, ho =>
            obtain rfl := Option.some.inj ho
            have h3 : a1.tmps.getD 43 undef = .bool cB := (hdep { on := 3, ground := Ground.guard } (by simp) (by kernel_rfl)).2
            rw [Inv4.wanted_eq (j := 3) (t := 43) rfl (by kernel_rfl) h3]
            by_cases hc : cB = true
            rotate_left
            · rw [if_neg hc]
              exact hK undef x (hbel (by decide) (Below.refl _ _)) (fun h => absurd h hc) (keep (by decide) (Below.refl _ _)) (fun h => by cases h)
            rw [if_pos hc]
            unfold Oper.wp execOp
            go_simp
            exact hK (.slice (some ⟨A, 0, none⟩) n n) x (hbel (by decide) (Below.refl _ _)) (fun _ => rfl) (keep (by decide) (Below.refl _ _)) (fun h => by cases h)
          | 7, ho =>
            obtain rfl := Option.some.inj ho
            have h3 : a1.tmps.getD 43 undef = .bool cB := (hdep { on := 3, ground := Ground.guard } (by simp) (by kernel_rfl)).2
            rw [Inv4.wanted_eq (j := 3) (t := 43) rfl (by kernel_rfl) h3]
            by_cases hc : cB = true
            rotate_left
            · rw [if_neg hc]
              exact hK undef x (hbel (by decide) (Below.refl _ _)) (fun h => absurd h hc) (keep (by decide) (Below.refl _ _)) (fun h => by cases h)
            rw [if_pos hc]
            obtain ⟨_, s41⟩ := hdep { on := 6, ground := Ground.data } (by simp) (by kernel_rfl)
            have s41 := s41 hc
            have hox := own_cells (HOb.out.grown hI.1 (own_low HOb.out G1 HGU.out)) HPOS.out
            refine Inv4.wp_call 35 _ _ rfl #[.slice (some ⟨A, 0, none⟩) n n, .string ⟨#[32]⟩] (by simp only [List.map_toArray, List.map_cons, List.map_nil, Act.eval]; exact congrArg (fun v => #[v, .string ⟨#[32]⟩]) s41) (enters_of Tryd.func35 (by kernel_rfl) rfl _ _) ((HJN.out x hox.1 hox.2).mono ?_)
            rintro e y ⟨rfl, hb⟩
            exact ⟨_, rfl, hK (.string JN) y (hbel (by decide) hb) (fun _ => rfl) (keep (by decide) hb) (fun h => by cases h)⟩
          | 8, ho =>
            obtain rfl := Option.some.inj ho
            have h3 : a1.tmps.getD 43 undef = .bool cB := (hdep { on := 3, ground := Ground.guard } (by simp) (by kernel_rfl)).2
            rw [Inv4.wanted_eq (j := 3) (t := 43) rfl (by kernel_rfl) h3]
            by_cases hc : cB = true
            rotate_left
            · rw [if_neg hc]
              exact hK undef x (hbel (by decide) (Below.refl _ _)) (fun h => absurd h hc) (keep (by decide) (Below.refl _ _)) (fun h => by cases h)
            rw [if_pos hc]
            obtain ⟨_, s40⟩ := hdep { on := 5, ground := Ground.data } (by simp) (by kernel_rfl)
            obtain ⟨_, s42⟩ := hdep { on := 7, ground := Ground.data } (by simp) (by kernel_rfl)
            have e40 : a1.tmps[45]?.getD undef = .string TX := Inv4.slot (s40 hc)
            have e42 : a1.tmps[47]?.getD undef = .string JN := Inv4.slot (s42 hc)
            unfold Oper.wp execOp
            go_simp
            exact hK (.bool (TX.toList == JN.toList)) x (hbel (by decide) (Below.refl _ _)) (fun _ => congrArg Value.bool HEB.out) (keep (by decide) (Below.refl _ _)) (fun h => by cases h)
          | 9, ho =>
            obtain rfl := Option.some.inj ho
            rw [if_pos (show Region.wanted _ _ = true from rfl)]
            obtain ⟨_, s38⟩ := hdep { on := 3, ground := Ground.data } (by simp) (by kernel_rfl)
            obtain ⟨_, s43⟩ := hdep { on := 8, ground := Ground.data } (by simp) (by kernel_rfl)
            by_cases hc : cB = true
            · have e38 : a1.tmps[43]?.getD undef = .bool true := Inv4.slot (s38.trans (congrArg Value.bool hc))
              have e43 : a1.tmps[48]?.getD undef = .bool Q := Inv4.slot ((s43 hc).trans (congrArg Value.bool (HQ1.out hc)))
              unfold Oper.wp execOp
              go_simp
              exact hK (.bool Q) x (hbel (by decide) (Below.refl _ _)) rfl (keep (by decide) (Below.refl _ _)) (fun h => by cases h)
            · have hc2 : cB = false := Bool.eq_false_iff.2 hc
              have e38 : a1.tmps[43]?.getD undef = .bool false := Inv4.slot (s38.trans (congrArg Value.bool hc2))
              unfold Oper.wp execOp
              go_simp
              exact hK (.bool false) x (hbel (by decide) (Below.refl _ _)) (congrArg Value.bool (HQ0.out hc2).symm) (keep (by decide) (Below.refl _ _)) (fun h => by cases h)
          | 10, ho =>
            obtain rfl := Option.some.inj ho
            rw [if_pos (show Region.wanted _ _ = true from rfl)]
            obtain ⟨_, s35⟩ := hdep { on := 0, ground := Ground.data } (by simp) (by kernel_rfl)
            have e35 : a1.tmps[40]?.getD undef = .agg #[.int .i64 c, .slice b k cp] := Inv4.slot s35
            have hx1 := hI.2.2.1 hli
            have HX1 := Lib.hid hx1
            have HX2 := Lib.hid hI.2.1
            have HG := Lib.hid hI.1
            obtain ⟨d0, d1, j0, j1⟩ := hx1
            clear c0 c1 f0 f1
            unfold Oper.wp execOp
            go_simp
            have hgs := grown_set (grown_set (grown_id x G1) 0 (.int .i64 c)) 1 (.slice b k cp)
            have hx9 := (HX1.out.set0 (.int .i64 c)).set1 (.slice b k cp)
            have hl10 : (l.setIfInBounds 10 true).getD 10 false = true := by rw [Inv.getD_set l 10 10 false hil, if_pos rfl]
            refine hK undef _ ?_ trivial ?_ (fun _ _ => trivial)
            · rw [if_pos rfl]; exact hgs
            · exact ⟨grown_more HG.out hgs, bx_grown HX2.out hgs HNE.out.symm, fun h => absurd (hl10.symm.trans h) (by decide), fun _ => hx9⟩
          | 11, ho =>
            obtain rfl := Option.some.inj ho
            rw [if_pos (show Region.wanted _ _ = true from rfl)]
            obtain ⟨_, s44⟩ := hdep { on := 9, ground := Ground.data } (by simp) (by kernel_rfl)
            have e44 : a1.tmps[49]?.getD undef = .bool Q := Inv4.slot s44
            unfold Oper.wp execOp
            go_simp
            exact hK (.bool Q) x (hbel (by decide) (Below.refl _ _)) rfl (keep (by decide) (Below.refl _ _)) (fun h => by cases h)
          | nn + 12, ho => cases ho
        case hend =>
          intro aa x hsz hdf hfr hall hl
          obtain ⟨l, ⟨hg, _, _, hx1⟩, hl⟩ := hl
          have hx1 := hx1 (hl 10 (by decide))
          have s3 : aa.tmps.getD 3 undef = .bool Q := hall 11 (by decide)
          have s2 : aa.tmps.getD 2 undef = .pointer (some ⟨G1, 0, none⟩) := hfr 2 (by decide)
          obtain ⟨tm, df⟩ := aa
          simp only at hdf hsz s2 s3
          subst hdf
          have HBW := Lib.hid (show Below G1 w x from HBb.out.grown hg (Nat.le_trans (Nat.le_of_eq HE1.out.symm) HBb.out.size) (fun kk hk => by cases hk; exact Nat.le_refl _))
          obtain ⟨R0, R1, _, _⟩ := hx1
          have e2 := Inv4.slot s2
          have e3 := Inv4.slot s3
          have HVW := Lib.hid (show Own x G1 1 (.slice b k cp) xs.length (nc xs) from by rw [HLE.out]; exact ((HVO.out.grown hg (own_low HVO.out G1 HG1U.out)).base (Nat.le_of_lt HG1U.out)))
          clear hall hfr hg
          go_wp2
          refine bodyPost_ret (v := .tuple #[.agg #[.int .i64 c, .slice b k cp], .bool Q]) (by simp [results, Tryd.results24, go_sem, R0, R1, e2, e3]) rfl ⟨⟨c, _, xs, Q, rfl, Lib.hid ⟨HEND.out, HVW.out⟩⟩, HBW.out⟩
  case pos =>
    have hn1' := hn1.symm
    subst hn1'
    go_wp2
    clear e3 e4 eG y0 y1 y2 y3
    go_loopw [24] (fun i wz => ∃ (k : Nat) (wr : World) (b : Option Addr) (cp : Nat), wr = wz ∧ k ≤ l ∧ i = .int .i64 k ∧ Hid (Rs w2 G wr G c b k cp (av1 ts k))) (fun i _ => l - (Go.RowKit.intOf i).toNat)
    case atStart => exact ⟨0, _, _, _, rfl, by omega, rfl, HRS⟩
    case round =>
      obtain ⟨k, wr, b, cp, rfl, hk, rfl, HJ⟩ := hrel
      by_cases hlt : k < l
      · exact absurd hlt (by omega)
      · have hkn : k + 1 = 1 := by omega
        have HLE := Lib.hid (HNL.out k (by omega))
        have HX2C := Lib.hid HJ.out.box
        have HX1b := Lib.hid (HXX.out wr HJ.out.bel)
        have HBb := Lib.hid (HBX.out wr HJ.out.bel)
        have HOb := Lib.hid (HWY.out wr HJ.out.bel)
        have HVO := Lib.hid (show Own wr G 1 (.slice b k cp) k (nc (av1 ts k)) from zs_own' HJ.out.row HLE.out)
        obtain ⟨cB, hcB⟩ : ∃ q, decide (ROk c (av1 ts k)) = q := ⟨_, rfl⟩
        obtain ⟨eB, heB⟩ : ∃ q, ((rB c (av1 ts k)).toList == (jnR ts).toList) = q := ⟨_, rfl⟩
        obtain ⟨Q, hQ⟩ : ∃ q, (cB && eB) = q := ⟨_, rfl⟩
        have HQ1 := Lib.hid (show cB = true → eB = Q from fun h => by rw [← hQ, h]; rfl)
        have HQ0 := Lib.hid (show cB = false → Q = false from fun h => by rw [← hQ, h]; rfl)
        have HOK := Lib.hid (fun u hu v hr => ResI.right u hu v c (av1 ts k) hr cB hcB)
        have HOT := Lib.hid (fun (hc : cB = true) u hu v hr => ResT.resultText u hu v c (av1 ts k) hr (of_decide_eq_true (hcB.trans hc)))
        have HEND := Lib.hid (HAN.out k hkn cB eB Q hcB heB hQ)
        have HEB := Lib.hid heB
        have HG1U := Lib.hid HZ2.out.1
        have HGU := Lib.hid HZ2.out.2
        have hne : G1 ≠ G := by have := HZ2.out; omega
        have HNE := Lib.hid hne
        clear hQ hcB heB
        generalize rB c (av1 ts k) = TX at *
        generalize jnR ts = JN at *
        generalize av1 ts k = xs at *
        clear HAN HNX HNL HRS
        go_wp2_with fail
        refine Inv3.region [40, 41, 42, 43, 44, 45, 46, 47, 48, 49, 1000, 3]
          (fun i u x => match i with
            | 0 => u = .agg #[.int .i64 c, .slice b k cp]
            | 1 => u = .agg #[.int .i64 c, .slice b k cp]
            | 2 => u = .bool cB
            | 3 => u = .bool cB
            | 4 => cB = true → u = .agg #[.int .i64 c, .slice b k cp]
            | 5 => cB = true → u = .string TX
            | 6 => cB = true → u = .slice (some ⟨A, 0, none⟩) 1 1
            | 7 => cB = true → u = .string JN
            | 8 => cB = true → u = .bool eB
            | 9 => u = .bool Q
            | 11 => u = .bool Q
            | _ => True)
          (fun l _ x => wr.grownBy x (some G1) ∧ Bx x G (.int .i64 c) (.slice b k cp) ∧ (l.getD 10 false = false → Bx x G1 (.int .i64 0) (.slice none 0 0)) ∧ (l.getD 10 false = true → Bx x G1 (.int .i64 c) (.slice b k cp)))
          (fun i x y => if i = 10 then x.grownBy y (some G1) else Below x.heap.size x y)
          (by kernel_rfl) ?said ?h0 ?hop ?hend
        case h0 => exact ⟨⟨rfl, rfl, rfl, Nat.le_refl _, fun _ _ _ => rfl⟩, HX2C.out.below ⟨rfl, rfl, rfl, Nat.le_refl _, fun _ _ => rfl⟩, fun _ => HX1b.out.below ⟨rfl, rfl, rfl, Nat.le_refl _, fun _ _ => rfl⟩, fun h => by have h2 : false = true := h; cases h2⟩
        case said =>
          refine ⟨rfl, fun i o ho => ?_, by decide, fun i j u x y hij hp hr => ?_⟩
          · match i, ho with
            | 0, ho => obtain rfl := Option.some.inj ho; exact ⟨by decide, rfl, (show 40 < 50 by decide)⟩
            | 1, ho => obtain rfl := Option.some.inj ho; exact ⟨by decide, rfl, (show 41 < 50 by decide)⟩
            | 2, ho => obtain rfl := Option.some.inj ho; exact ⟨by decide, rfl, (show 42 < 50 by decide)⟩
            | 3, ho => obtain rfl := Option.some.inj ho; exact ⟨by decide, rfl, (show 43 < 50 by decide)⟩
            | 4, ho => obtain rfl := Option.some.inj ho; exact ⟨by decide, rfl, (show 44 < 50 by decide)⟩
            | 5, ho => obtain rfl := Option.some.inj ho; exact ⟨by decide, rfl, (show 45 < 50 by decide)⟩
            | 6, ho => obtain rfl := Option.some.inj ho; exact ⟨by decide, rfl, (show 46 < 50 by decide)⟩
            | 7, ho => obtain rfl := Option.some.inj ho; exact ⟨by decide, rfl, (show 47 < 50 by decide)⟩
            | 8, ho => obtain rfl := Option.some.inj ho; exact ⟨by decide, rfl, (show 48 < 50 by decide)⟩
            | 9, ho => obtain rfl := Option.some.inj ho; exact ⟨by decide, rfl, (show 49 < 50 by decide)⟩
            | 10, ho => obtain rfl := Option.some.inj ho; exact ⟨by decide, (show 50 ≤ 1000 by decide)⟩
            | 11, ho => obtain rfl := Option.some.inj ho; exact ⟨by decide, rfl, (show 3 < 50 by decide)⟩
            | nn + 12, ho => cases ho
          · match i, hp with
            | 0, hp => exact hp
            | 1, hp => exact hp
            | 2, hp => exact hp
            | 3, hp => exact hp
            | 4, hp => exact hp
            | 5, hp => exact hp
            | 6, hp => exact hp
            | 7, hp => exact hp
            | 8, hp => exact hp
            | 9, hp => exact hp
            | 10, hp => exact hp
            | 11, hp => exact hp
            | nn + 12, _ => trivial
        case hop =>
          intro i op ho l a1 x hI hsz hcl hls hli hfr hdep K hK
          have HSZ := Lib.hid hsz
          clear hsz
          have hil : i < l.size := by rw [hls]; exact (Array.getElem?_eq_some_iff.1 ho).1
          have hbel : ∀ {y}, i ≠ 10 → Below x.heap.size x y → (if i = 10 then x.grownBy y (some G1) else Below x.heap.size x y) := fun h hb => by rw [if_neg h]; exact hb
          have keep : ∀ {y}, i ≠ 10 → Below x.heap.size x y → (wr.grownBy y (some G1) ∧ Bx y G (.int .i64 c) (.slice b k cp) ∧ ((l.setIfInBounds i true).getD 10 false = false → Bx y G1 (.int .i64 0) (.slice none 0 0)) ∧ ((l.setIfInBounds i true).getD 10 false = true → Bx y G1 (.int .i64 c) (.slice b k cp))) := fun {y} h1 hb => by
            refine ⟨grown_more hI.1 (grown_low hb G1), hI.2.1.below hb, fun hl => ?_, fun hl => ?_⟩
            · rw [Inv.getD_set l i 10 false hil, if_neg (fun e => h1 e.symm)] at hl
              exact (hI.2.2.1 hl).below hb
            · rw [Inv.getD_set l i 10 false hil, if_neg (fun e => h1 e.symm)] at hl
              exact (hI.2.2.2 hl).below hb
          have HBx := Lib.hid (show Below G1 w x from HBb.out.grown hI.1 (Nat.le_trans (Nat.le_of_eq HE1.out.symm) HBb.out.size) (fun kk hk => by cases hk; exact Nat.le_refl _))
          have HTx := Lib.hid (HT0.out.below (by rw [HE1.out]; exact HBx.out))
          have HRx := Lib.hid (show Rr x (.agg #[.int .i64 c, .slice b k cp]) c xs from ⟨_, rfl, by have h := (HVO.out.grown hI.1 (own_low HVO.out G1 HG1U.out)).sl; rw [HLE.out]; exact h⟩)
          obtain ⟨c0, c1, f0, f1⟩ := hI.2.1
          have s5 : a1.tmps.getD 5 undef = .pointer (some ⟨G, 0, none⟩) := hfr 5 (by decide)
          have s4 : a1.tmps.getD 4 undef = .slice (some ⟨A, 0, none⟩) 1 1 := hfr 4 (by decide)
          have s2 : a1.tmps.getD 2 undef = .pointer (some ⟨G1, 0, none⟩) := hfr 2 (by decide)
          have e5 := Inv4.slot s5
          have e4 := Inv4.slot s4
          have e2 := Inv4.slot s2
          match i, ho with
          | 0, ho =>
            obtain rfl := Option.some.inj ho
            rw [if_pos (show Region.wanted _ _ = true from rfl)]
            unfold Oper.wp execOp
            go_simp
            exact hK (.agg #[.int .i64 c, .slice b k cp]) x (hbel (by decide) (Below.refl _ _)) rfl (keep (by decide) (Below.refl _ _)) (fun h => by cases h)
          | 1, ho =>
            obtain rfl := Option.some.inj ho
            rw [if_pos (show Region.wanted _ _ = true from rfl)]
            unfold Oper.wp execOp
            go_simp
            exact hK (.agg #[.int .i64 c, .slice b k cp]) x (hbel (by decide) (Below.refl _ _)) rfl (keep (by decide) (Below.refl _ _)) (fun h => by cases h)
          | 2, ho =>
            obtain rfl := Option.some.inj ho
            rw [if_pos (show Region.wanted _ _ = true from rfl)]
            obtain ⟨_, s36⟩ := hdep { on := 1, ground := Ground.data } (by simp) (by kernel_rfl)
            refine Inv4.wp_call 18 _ _ rfl #[.agg #[.int .i64 c, .slice b k cp]] (by simp only [List.map_toArray, List.map_cons, List.map_nil, Act.eval]; exact congrArg (fun v => #[v]) s36) (enters_of Tryd.func18 (by kernel_rfl) rfl _ _) ((HOK.out x HTx.out.tc _ HRx.out).mono ?_)
            rintro e y ⟨rfl, hb⟩
            exact ⟨_, rfl, hK (.bool cB) y (hbel (by decide) hb) rfl (keep (by decide) hb) (fun h => by cases h)⟩
          | 3, ho =>
            obtain rfl := Option.some.inj ho
            rw [if_pos (show Region.wanted _ _ = true from rfl)]
            obtain ⟨_, s37⟩ := hdep { on := 2, ground := Ground.data } (by simp) (by kernel_rfl)
            have e37 : a1.tmps[42]?.getD undef = .bool cB := Inv4.slot s37
            unfold Oper.wp execOp
            go_simp
            exact hK (.bool cB) x (hbel (by decide) (Below.refl _ _)) rfl (keep (by decide) (Below.refl _ _)) (fun h => by cases h)
          | 4, ho =>
            obtain rfl := Option.some.inj ho
            have h3 : a1.tmps.getD 43 undef = .bool cB := (hdep { on := 3, ground := Ground.guard } (by simp) (by kernel_rfl)).2
            rw [Inv4.wanted_eq (j := 3) (t := 43) rfl (by kernel_rfl) h3]
            by_cases hc : cB = true
            rotate_left
            · rw [if_neg hc]
              exact hK undef x (hbel (by decide) (Below.refl _ _)) (fun h => absurd h hc) (keep (by decide) (Below.refl _ _)) (fun h => by cases h)
            rw [if_pos hc]
            unfold Oper.wp execOp
            go_simp
            exact hK (.agg #[.int .i64 c, .slice b k cp]) x (hbel (by decide) (Below.refl _ _)) (fun _ => rfl) (keep (by decide) (Below.refl _ _)) (fun h => by cases h)
          | 5, ho =>
            obtain rfl := Option.some.inj ho
            have h3 : a1.tmps.getD 43 undef = .bool cB := (hdep { on := 3, ground := Ground.guard } (by simp) (by kernel_rfl)).2
            rw [Inv4.wanted_eq (j := 3) (t := 43) rfl (by kernel_rfl) h3]
            by_cases hc : cB = true
            rotate_left
            · rw [if_neg hc]
              exact hK undef x (hbel (by decide) (Below.refl _ _)) (fun h => absurd h hc) (keep (by decide) (Below.refl _ _)) (fun h => by cases h)
            rw [if_pos hc]
            obtain ⟨_, s39⟩ := hdep { on := 4, ground := Ground.data } (by simp) (by kernel_rfl)
            have s39 := s39 hc
            refine Inv4.wp_call 19 _ _ rfl #[.agg #[.int .i64 c, .slice b k cp]] (by simp only [List.map_toArray, List.map_cons, List.map_nil, Act.eval]; exact congrArg (fun v => #[v]) s39) (enters_of Tryd.func19 (by kernel_rfl) rfl _ _) ((HOT.out hc x HTx.out.tc _ HRx.out).mono ?_)
            rintro e y ⟨rfl, hb⟩
            exact ⟨_, rfl, hK (.string TX) y (hbel (by decide) hb) (fun _ => rfl) (keep (by decide) hb) (fun h => by cases h)⟩
          | 6, ho =>
            obtain rfl := Option.some.inj ho
            have h3 : a1.tmps.getD 43 undef = .bool cB := (hdep { on := 3, ground := Ground.guard } (by simp) (by kernel_rfl)).2
            rw [Inv4.wanted_eq (j := 3) (t := 43) rfl (by kernel_rfl) h3]
            by_cases hc : cB = true
            rotate_left
            · rw [if_neg hc]
              exact hK undef x (hbel (by decide) (Below.refl _ _)) (fun h => absurd h hc) (keep (by decide) (Below.refl _ _)) (fun h => by cases h)
            rw [if_pos hc]
            unfold Oper.wp execOp
            go_simp
            exact hK (.slice (some ⟨A, 0, none⟩) 1 1) x (hbel (by decide) (Below.refl _ _)) (fun _ => rfl) (keep (by decide) (Below.refl _ _)) (fun h => by cases h)
          | 7, ho =>
            obtain rfl := Option.some.inj ho
            have h3 : a1.tmps.getD 43 undef = .bool cB := (hdep { on := 3, ground := Ground.guard } (by simp) (by kernel_rfl)).2
            rw [Inv4.wanted_eq (j := 3) (t := 43) rfl (by kernel_rfl) h3]
            by_cases hc : cB = true
            rotate_left
            · rw [if_neg hc]
              exact hK undef x (hbel (by decide) (Below.refl _ _)) (fun h => absurd h hc) (keep (by decide) (Below.refl _ _)) (fun h => by cases h)
            rw [if_pos hc]
            obtain ⟨_, s41⟩ := hdep { on := 6, ground := Ground.data } (by simp) (by kernel_rfl)
            have s41 := s41 hc
            have hox := own_cells (HOb.out.grown hI.1 (own_low HOb.out G1 HGU.out)) HPOS.out
            refine Inv4.wp_call 35 _ _ rfl #[.slice (some ⟨A, 0, none⟩) 1 1, .string ⟨#[32]⟩] (by simp only [List.map_toArray, List.map_cons, List.map_nil, Act.eval]; exact congrArg (fun v => #[v, .string ⟨#[32]⟩]) s41) (enters_of Tryd.func35 (by kernel_rfl) rfl _ _) ((HJN.out x hox.1 hox.2).mono ?_)
            rintro e y ⟨rfl, hb⟩
            exact ⟨_, rfl, hK (.string JN) y (hbel (by decide) hb) (fun _ => rfl) (keep (by decide) hb) (fun h => by cases h)⟩
          | 8, ho =>
            obtain rfl := Option.some.inj ho
            have h3 : a1.tmps.getD 43 undef = .bool cB := (hdep { on := 3, ground := Ground.guard } (by simp) (by kernel_rfl)).2
            rw [Inv4.wanted_eq (j := 3) (t := 43) rfl (by kernel_rfl) h3]
            by_cases hc : cB = true
            rotate_left
            · rw [if_neg hc]
              exact hK undef x (hbel (by decide) (Below.refl _ _)) (fun h => absurd h hc) (keep (by decide) (Below.refl _ _)) (fun h => by cases h)
            rw [if_pos hc]
            obtain ⟨_, s40⟩ := hdep { on := 5, ground := Ground.data } (by simp) (by kernel_rfl)
            obtain ⟨_, s42⟩ := hdep { on := 7, ground := Ground.data } (by simp) (by kernel_rfl)
            have e40 : a1.tmps[45]?.getD undef = .string TX := Inv4.slot (s40 hc)
            have e42 : a1.tmps[47]?.getD undef = .string JN := Inv4.slot (s42 hc)
            unfold Oper.wp execOp
            go_simp
            exact hK (.bool (TX.toList == JN.toList)) x (hbel (by decide) (Below.refl _ _)) (fun _ => congrArg Value.bool HEB.out) (keep (by decide) (Below.refl _ _)) (fun h => by cases h)
          | 9, ho =>
            obtain rfl := Option.some.inj ho
            rw [if_pos (show Region.wanted _ _ = true from rfl)]
            obtain ⟨_, s38⟩ := hdep { on := 3, ground := Ground.data } (by simp) (by kernel_rfl)
            obtain ⟨_, s43⟩ := hdep { on := 8, ground := Ground.data } (by simp) (by kernel_rfl)
            by_cases hc : cB = true
            · have e38 : a1.tmps[43]?.getD undef = .bool true := Inv4.slot (s38.trans (congrArg Value.bool hc))
              have e43 : a1.tmps[48]?.getD undef = .bool Q := Inv4.slot ((s43 hc).trans (congrArg Value.bool (HQ1.out hc)))
              unfold Oper.wp execOp
              go_simp
              exact hK (.bool Q) x (hbel (by decide) (Below.refl _ _)) rfl (keep (by decide) (Below.refl _ _)) (fun h => by cases h)
            · have hc2 : cB = false := Bool.eq_false_iff.2 hc
              have e38 : a1.tmps[43]?.getD undef = .bool false := Inv4.slot (s38.trans (congrArg Value.bool hc2))
              unfold Oper.wp execOp
              go_simp
              exact hK (.bool false) x (hbel (by decide) (Below.refl _ _)) (congrArg Value.bool (HQ0.out hc2).symm) (keep (by decide) (Below.refl _ _)) (fun h => by cases h)
          | 10, ho =>
            obtain rfl := Option.some.inj ho
            rw [if_pos (show Region.wanted _ _ = true from rfl)]
            obtain ⟨_, s35⟩ := hdep { on := 0, ground := Ground.data } (by simp) (by kernel_rfl)
            have e35 : a1.tmps[40]?.getD undef = .agg #[.int .i64 c, .slice b k cp] := Inv4.slot s35
            have hx1 := hI.2.2.1 hli
            have HX1 := Lib.hid hx1
            have HX2 := Lib.hid hI.2.1
            have HG := Lib.hid hI.1
            obtain ⟨d0, d1, j0, j1⟩ := hx1
            clear c0 c1 f0 f1
            unfold Oper.wp execOp
            go_simp
            have hgs := grown_set (grown_set (grown_id x G1) 0 (.int .i64 c)) 1 (.slice b k cp)
            have hx9 := (HX1.out.set0 (.int .i64 c)).set1 (.slice b k cp)
            have hl10 : (l.setIfInBounds 10 true).getD 10 false = true := by rw [Inv.getD_set l 10 10 false hil, if_pos rfl]
            refine hK undef _ ?_ trivial ?_ (fun _ _ => trivial)
            · rw [if_pos rfl]; exact hgs
            · exact ⟨grown_more HG.out hgs, bx_grown HX2.out hgs HNE.out.symm, fun h => absurd (hl10.symm.trans h) (by decide), fun _ => hx9⟩
          | 11, ho =>
            obtain rfl := Option.some.inj ho
            rw [if_pos (show Region.wanted _ _ = true from rfl)]
            obtain ⟨_, s44⟩ := hdep { on := 9, ground := Ground.data } (by simp) (by kernel_rfl)
            have e44 : a1.tmps[49]?.getD undef = .bool Q := Inv4.slot s44
            unfold Oper.wp execOp
            go_simp
            exact hK (.bool Q) x (hbel (by decide) (Below.refl _ _)) rfl (keep (by decide) (Below.refl _ _)) (fun h => by cases h)
          | nn + 12, ho => cases ho
        case hend =>
          intro aa x hsz hdf hfr hall hl
          obtain ⟨l, ⟨hg, _, _, hx1⟩, hl⟩ := hl
          have hx1 := hx1 (hl 10 (by decide))
          have s3 : aa.tmps.getD 3 undef = .bool Q := hall 11 (by decide)
          have s2 : aa.tmps.getD 2 undef = .pointer (some ⟨G1, 0, none⟩) := hfr 2 (by decide)
          obtain ⟨tm, df⟩ := aa
          simp only at hdf hsz s2 s3
          subst hdf
          have HBW := Lib.hid (show Below G1 w x from HBb.out.grown hg (Nat.le_trans (Nat.le_of_eq HE1.out.symm) HBb.out.size) (fun kk hk => by cases hk; exact Nat.le_refl _))
          obtain ⟨R0, R1, _, _⟩ := hx1
          have e2 := Inv4.slot s2
          have e3 := Inv4.slot s3
          have HVW := Lib.hid (show Own x G1 1 (.slice b k cp) xs.length (nc xs) from by rw [HLE.out]; exact ((HVO.out.grown hg (own_low HVO.out G1 HG1U.out)).base (Nat.le_of_lt HG1U.out)))
          clear hall hfr hg
          go_wp2
          refine bodyPost_ret (v := .tuple #[.agg #[.int .i64 c, .slice b k cp], .bool Q]) (by simp [results, Tryd.results24, go_sem, R0, R1, e2, e3]) rfl ⟨⟨c, _, xs, Q, rfl, Lib.hid ⟨HEND.out, HVW.out⟩⟩, HBW.out⟩
end Go.Proofs.YtifkihjjkomfiaaDoor.ReadRi
