/-
  What is proved: the program's reading of the operations between semicolons answers as the pieces say (a contract for the walks).
-/
import Derived.Test.YtidbkamadclchaaDoorRows
import Derived.Test.YtidbkamadclchaaDoorReadBL
import Derived.Test.YtidbkamadclchaaDoorSplitC
namespace Go.Proofs.YtidbkamadclchaaDoor.PiecesO
open Go.ChangeShapes Go.WideShapes Go.ChangeAt Go.RowKit
open Sl (Sl Own Off)
open OpenSl (tc)
open Dev Orm Box3 OpB BatB Txt TxtB TxtR OtB BtM ReadI
open LawB (infoOp made_three)
set_option linter.unusedVariables false

/-- The library's bound is in its place. -/
def Mx (w : World) : Prop := ∃ m : Int, w.cell? ⟨4, 0, none⟩ = some (.int .i64 m)
theorem Mx.below {w w' : World} (h : Mx w) (hb : Below w.heap.size w w') : Mx w' := by
  obtain ⟨m, h⟩ := h
  exact ⟨m, (hb.cell (World.block_lt_of_cell? w _ h)).trans h⟩
/-- What reading a transaction's pieces tells. -/
def PO (K : List (List UInt8)) (xs : List Bk) (q : Bool) : Prop := (q = true → (∀ x ∈ xs, Ok x) ∧ xs.length ≤ 4 ∧ xs.map parts = K.map wds) ∧ ∀ ys : List Bk, (∀ y ∈ ys, Ok y) → ys.length ≤ 4 → ys.map parts = K.map wds → q = true
theorem po_long {K : List (List UInt8)} (h : 4 < K.length) : PO K [] false := ⟨fun e => (by cases e), fun ys _ hl e => by
  have := congrArg List.length e
  rw [List.length_map, List.length_map] at this
  omega⟩
theorem po_bad {K : List (List UInt8)} {p : List UInt8} (hp : p ∈ K) (h : ∀ y, ¬ Rt (wds p) y) : PO K [] false := ⟨fun e => (by cases e), fun ys ho _ e => by
  exfalso
  have hm : wds p ∈ K.map wds := List.mem_map.2 ⟨p, hp, rfl⟩
  rw [← e] at hm
  obtain ⟨y, hy, e2⟩ := List.mem_map.1 hm
  exact h y ⟨ho y hy, e2.symm⟩⟩
theorem po_good {ts : List ByteArray} {xs : List Bk} (h : Pl ts xs ts.length) (h4 : ts.length ≤ 4) : PO (ts.map (·.data.toList)) xs true :=
  ⟨fun _ => ⟨h.2, by rw [pl_len h (Nat.le_refl _)]; exact h4, by rw [h.1, List.take_length, List.map_map]; rfl⟩, fun _ _ _ _ => rfl⟩
theorem bc_app (xs : List Bk) (o : Bk) (j : Nat) (h : j < xs.length * 3) : bc (xs ++ [o]) j = bc xs j := by
  unfold bc
  rw [show (xs ++ [o]).getD (j / 3) (0, 0, 0) = xs.getD (j / 3) (0, 0, 0) by rw [List.getD_eq_getElem?_getD, List.getD_eq_getElem?_getD, List.getElem?_append_left (by omega)]]
theorem getD_app (xs : List Bk) (o : Bk) : (xs ++ [o]).getD xs.length (0, 0, 0) = o := by rw [List.getD_eq_getElem?_getD, List.getElem?_append_right (Nat.le_refl _)]; simp
def Post (L : List UInt8) (lo : Nat) (w' : World) (e : Ending) : Prop := ∃ (v : Value) (xs : List Bk) (q : Bool), e = .returned (.tuple #[v, .bool q]) ∧ Hid (PO (cut 59 L) xs q ∧ Own w' lo 3 v xs.length (bc xs))

set_option maxRecDepth 100000 in
set_option maxHeartbeats 3200000 in
theorem piecesOp (w : World) (hT : Tr w) (hM : Mx w) (s : ByteArray) (hs : s.size ≤ 65536) :
    Calls Tryd.prog 66 #[.string s, .string ⟨#[59]⟩, .int .i64 4, .func (.func 27) #[] #[]] w fun e w' => Post s.data.toList w.heap.size w' e ∧ Below w.heap.size w w' := by
  obtain ⟨m, hm⟩ := hM
  have HSP := Lib.hid (SplitC.split s 59 hs w m hm)
  have HCL := Lib.hid (show ∀ x ∈ cut 59 s.data.toList, x.length ≤ 65536 from fun x hx => by have := ToBatM.cutA_le 59 s.data.toList [] x hx; have h2 : s.data.toList.length = s.size := rfl; simp only [List.length_nil] at this; omega)
  have HTW := Lib.hid hT
  generalize s.data.toList = L at *
  clear hT hm
  go_enter Tryd.func66, Tryd.ntmps66
  go_wp2_with fail
  refine HSP.out.mono ?_
  rintro e w1 ⟨ts, rfl, HTS, e1⟩
  have hb1 : Below w.heap.size w w1 := e1 ▸ (Below.refl _ _).alloc (Nat.le_refl _) _
  have HC := Lib.hid (show ∀ j, j < ts.length → w1.cell? ⟨w.heap.size, j, none⟩ = some (.string (ts.getD j ByteArray.empty)) from fun j hj => by
    rw [e1, cell_of_row _ w.heap.size j _ _ _ (heap_alloc_new w _)]
    simp [List.getD_eq_getElem?_getD, hj])
  have HB1 := Lib.hid hb1
  have HT1 := Lib.hid (HTW.out.below hb1)
  have HSZ := Lib.hid (fun j (hj : j < ts.length) => show (ts.getD j ByteArray.empty).size ≤ 65536 from HCL.out (ts.getD j ByteArray.empty).data.toList (by rw [← HTS.out]; exact List.mem_map.2 ⟨_, getD_mem ts _ j hj, rfl⟩))
  have HLW := Lib.hid (show w.heap.size < w1.heap.size by rw [e1]; simp)
  clear e1 hb1 HSP HCL HTW
  obtain ⟨W0, eW0⟩ : ∃ W0, w.heap.size = W0 := ⟨_, rfl⟩
  rw [eW0] at HC HLW
  simp only [eW0]
  by_cases h4 : 4 < ts.length
  · have g4 : (4 : Int) < (ts.length : Int) := by omega
    have HP := Lib.hid (show PO (cut 59 L) [] false from po_long (by rw [← HTS.out, List.length_map]; exact h4))
    clear h4 eW0
    go_wp2_with fail
    go_ret2
    exact ⟨⟨_, [], _, rfl, Lib.hid ⟨HP.out, ⟨_, 0, rfl, Nat.le_refl _, by unfold maxLen; omega, fun h => absurd h (by simp)⟩⟩⟩, HB1.out⟩
  have g4 : ¬ (4 : Int) < (ts.length : Int) := by omega
  have hn4 : ts.length ≤ 4 := by omega
  obtain ⟨n, en⟩ : ∃ n, ts.length = n := ⟨_, rfl⟩
  have EN := Lib.hid en
  rw [en] at g4 hn4 HSZ HC
  simp only [en]
  clear en h4 eW0
  obtain ⟨g, o, w2, hmk, hown, hbel⟩ := made (P := Tryd.prog) w1 53 26 3 (.agg #[.int .i64 0, .int .i64 0, .int .i64 0]) 24 Tryd.underlying53 infoOp n (by omega) (by unfold maxLen; omega) (fun _ => .int .i64 0) (made_three n)
  have HO := Lib.hid hown
  have HB := Lib.hid hbel
  clear hown hbel
  go_wp2_with fail
  go_loopw [28] (fun i wr => ∃ (k : Nat) (xs : List Bk), k ≤ n ∧ i = .int .i64 k ∧ Hid (Own wr w1.heap.size 3 (.slice (some ⟨g, o, none⟩) n n) n (fun j => if j < k * 3 then bc xs j else .int .i64 0) ∧ Below w1.heap.size w1 wr ∧ Pl ts xs k ∧ xs.length = k)) (fun i _ => n - (intOf i).toNat)
  case atStart => exact ⟨0, [], by omega, rfl, Lib.hid ⟨HO.out.congr (fun j _ => by rw [if_neg (by omega)]), HB.out, pl_zero ts, rfl⟩⟩
  case round =>
    rename_i wr
    obtain ⟨k, xs, hk, rfl, HX⟩ := hrel
    by_cases hlt : k < n
    · have hlt2 : (k : Int) < (n : Int) := by omega
      have c0 := HC.out k hlt
      rw [← HX.out.2.1.cell (World.block_lt_of_cell? w1 _ c0)] at c0
      have HPS := HSZ.out k hlt
      have HSTEP := Lib.hid (fun (z : Bk) hz => pl_step HX.out.2.2.1 (show k < ts.length by rw [EN.out]; exact hlt) (o := z) hz)
      have HNO := Lib.hid (fun (hno : ∀ z, ¬ Rt (wds (ts.getD k ByteArray.empty).data.toList) z) => show PO (cut 59 L) [] false from po_bad (p := (ts.getD k ByteArray.empty).data.toList) (by rw [← HTS.out]; exact List.mem_map.2 ⟨_, getD_mem ts _ k (by rw [EN.out]; exact hlt), rfl⟩) hno)
      obtain ⟨pt, ept⟩ : ∃ t, ts.getD k ByteArray.empty = t := ⟨_, rfl⟩
      rw [ept] at c0 HPS HSTEP HNO
      have HRO := Lib.hid (readOp wr (HT1.out.below HX.out.2.1) pt HPS)
      clear ept
      go_wp2_with fail
      refine HRO.out.mono ?_
      rintro e y1 ⟨⟨z0, z1, z2⟩, q, he, hA, hb5⟩
      have e0 : e = .returned (.tuple #[.agg #[.int .i64 z0, .int .i64 z1, .int .i64 z2], .bool q]) := he
      subst e0
      have HA := Lib.hid hA
      obtain ⟨Y2, eY2, hb6, hz6, X6⟩ := box3 y1 26 (.int .i64 z0) (.int .i64 z1) (.int .i64 z2)
      have HB6 := Lib.hid (hb5.trans (hb6.mono hb5.size))
      have HX2 := Lib.hid (show Own Y2 w1.heap.size 3 (.slice (some ⟨g, o, none⟩) n n) n (fun j => if j < k * 3 then bc xs j else .int .i64 0) ∧ Below w1.heap.size w1 Y2 from ⟨HX.out.1.below HB6.out, HX.out.2.1.trans (HB6.out.mono HX.out.2.1.size)⟩)
      have HX6 := Lib.hid X6
      obtain ⟨GO, eGO⟩ : ∃ G, y1.heap.size = G := ⟨_, rfl⟩
      rw [eGO] at HX6
      clear hA hb5 hb6 hz6 X6 c0 he HRO
      cases q with
      | false =>
        have HP := Lib.hid (HNO.out (fun z hz => by have := HA.out.2 z hz; cases this))
        go_wp2_with fail
        go_ret2
        exact ⟨⟨_, [], _, rfl, Lib.hid ⟨HP.out, ⟨_, 0, rfl, Nat.le_refl _, by unfold maxLen; omega, fun h => absurd h (by simp)⟩⟩⟩, HB1.out.trans (HX2.out.2.mono HB1.out.size)⟩
      | true =>
        have HPL := Lib.hid (HSTEP.out (z0, z1, z2) (HA.out.1 rfl))
        have HL := Lib.hid HX.out.2.2.2
        obtain ⟨b', o', e', hb', hc'⟩ := HX2.out.1.at (by omega)
        obtain ⟨rfl, rfl⟩ : g = b' ∧ o = o' := by simpa using e'
        obtain ⟨c3, f3⟩ := hc' (k * 3) (by omega)
        obtain ⟨c4, f4⟩ := hc' (k * 3 + 1) (by omega)
        obtain ⟨c5, f5⟩ := hc' (k * 3 + 2) (by omega)
        have HG := Lib.hid hb'
        rw [← Nat.add_assoc] at c4 f4 c5 f5
        obtain ⟨d0, d1, d2, _, _, _⟩ := HX6.out
        clear hc' hb' e'
        go_wp2
        go_roundw
        case rel =>
          refine ⟨k + 1, xs ++ [(z0, z1, z2)], by omega, by go_num, Lib.hid ⟨(((HX2.out.1.set (k * 3) (by omega) _).set (k * 3 + 1) (by omega) _).set (k * 3 + 2) (by omega) _).congr (fun j hj => ?_), ((HX2.out.2.setCell HG.out _).setCell HG.out _).setCell HG.out _, HPL.out, by rw [List.length_append, HL.out]; rfl⟩⟩
          have hgd := getD_app xs (z0, z1, z2)
          rw [HL.out] at hgd
          show (if j = k * 3 + 2 then _ else if j = k * 3 + 1 then _ else if j = k * 3 then _ else if j < k * 3 then _ else _) = if j < (k + 1) * 3 then _ else _
          by_cases ej3 : j = k * 3 + 2
          · rw [if_pos ej3, if_pos (by omega), ej3, bc2, hgd]
          · rw [if_neg ej3]
            by_cases ej : j = k * 3 + 1
            · rw [if_pos ej, if_pos (by omega), ej, bc1, hgd]
            · rw [if_neg ej]
              by_cases ej2 : j = k * 3
              · rw [if_pos ej2, if_pos (by omega), ej2, bc0, hgd]
              · rw [if_neg ej2]
                by_cases h5 : j < k * 3
                · rw [if_pos h5, if_pos (by omega), bc_app xs _ j (by rw [HL.out]; exact h5)]
                · rw [if_neg h5, if_neg (by omega)]
        case measure => simp [intOf]; omega
    · have hk2 := Lib.hid (show k = n by omega)
      have hlt2 : ¬ (k : Int) < (n : Int) := by omega
      have HP := Lib.hid (show PO (cut 59 L) xs true from by
        rw [← HTS.out]
        exact po_good (by rw [EN.out, ← hk2.out]; exact HX.out.2.2.1) (by rw [EN.out]; exact hn4))
      go_wp2
      go_ret2
      refine ⟨⟨_, xs, _, rfl, Lib.hid ⟨HP.out, ?_⟩⟩, HB1.out.trans (HX.out.2.1.mono HB1.out.size)⟩
      rw [show xs.length = n by rw [HX.out.2.2.2, hk2.out]]
      exact (HX.out.1.congr (fun j hj => by rw [if_pos (by rw [hk2.out]; omega)])).base HB1.out.size
end Go.Proofs.YtidbkamadclchaaDoor.PiecesO
