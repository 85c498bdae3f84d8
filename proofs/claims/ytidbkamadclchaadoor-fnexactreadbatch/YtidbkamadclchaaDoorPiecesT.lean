/-
  What is proved: the program's reading of the transactions between bars, and its ReadBatch, answer as the pieces say (contracts for the walks).
-/
import Derived.Test.YtidbkamadclchaaDoorRows
import Derived.Test.YtidbkamadclchaaDoorReadT
namespace Go.Proofs.YtidbkamadclchaaDoor.PiecesT
open Go.ChangeShapes Go.WideShapes Go.ChangeAt Go.RowKit
open Sl (Sl Own Off)
open OpenSl (tc)
open Dev Orm Box3 OpB BatB Txt TxtB TxtR OtB BtM ReadI
open PiecesO (Mx PO)
open LawB (infoTxn made_txn Part part_step)
set_option linter.unusedVariables false

theorem part_more {w : World} {base g o n k : Nat} {bss : List (List Bk)} {vs : Nat → Value} (h : Part w base g o n bss vs k) (hk : bss.length = k) (xs : List Bk) : Part w base g o n (bss ++ [xs]) vs k :=
  ⟨h.out, fun j hj => by
    have := h.inn j hj
    rwa [show (bss ++ [xs]).getD j [] = bss.getD j [] by rw [List.getD_eq_getElem?_getD, List.getD_eq_getElem?_getD, List.getElem?_append_left (by omega)]], h.off, h.each⟩
theorem getD_app (bss : List (List Bk)) (xs : List Bk) : (bss ++ [xs]).getD bss.length [] = xs := by rw [List.getD_eq_getElem?_getD, List.getElem?_append_right (Nat.le_refl _)]; simp
theorem tb_long {L : List UInt8} (h : 2 < (cut 124 L).length) : TB (tok L) [] false := ⟨fun e => (by cases e), fun cs hc e => by
  have := congrArg List.length e
  unfold TxtB.tok at this
  rw [List.length_map, List.length_map] at this
  have := hc.1.2
  omega⟩
theorem tb_bad {L p : List UInt8} (hp : p ∈ cut 124 L) {xs : List Bk} (h : PO (cut 59 p) xs false) : TB (tok L) [] false := ⟨fun e => (by cases e), fun cs hc e => by
  exfalso
  have hm : opsOf p ∈ tok L := List.mem_map.2 ⟨p, hp, rfl⟩
  rw [← e] at hm
  obtain ⟨ys, hy, e2⟩ := List.mem_map.1 hm
  have := h.2 ys (hc.2 ys hy).2 (hc.2 ys hy).1.2 e2
  cases this⟩
theorem pb_more {ts : List ByteArray} {bss : List (List Bk)} {xs : List Bk} {j : Nat} (h : Pb ts bss j) (hj : j < ts.length) (hx : PO (cut 59 (ts.getD j ByteArray.empty).data.toList) xs true) : Pb ts (bss ++ [xs]) (j + 1) := by
  have e : ts.getD j ByteArray.empty = ts[j] := by rw [List.getD_eq_getElem?_getD, List.getElem?_eq_getElem hj]; rfl
  rw [e] at hx
  obtain ⟨h1, h2, h3⟩ := hx.1 rfl
  refine ⟨?_, fun ys hy => ?_⟩
  · rw [List.map_append, h.1, List.take_add_one, List.getElem?_eq_getElem hj, List.map_append]
    show _ ++ [xs.map parts] = _ ++ [opsOf ts[j].data.toList]
    rw [h3]
    rfl
  · rcases List.mem_append.1 hy with h4 | h4
    · exact h.2 ys h4
    · obtain rfl := List.mem_singleton.1 h4
      exact h1
theorem tb_good {L : List UInt8} {ts : List ByteArray} {bss : List (List Bk)} (ht : ts.map (·.data.toList) = cut 124 L) (h : Pb ts bss ts.length) (h4 : ∀ xs ∈ bss, xs.length ≤ 4) (h2 : ts.length ≤ 2) : TB (tok L) bss true := by
  have hm : bss.map (·.map parts) = tok L := by
    unfold TxtB.tok
    rw [h.1, List.take_length, ← ht, List.map_map]
    rfl
  have hl := pb_len h (Nat.le_refl _)
  have hn : 0 < ts.length := by
    have := List.length_pos_iff.2 (cut_ne 124 L)
    rw [← ht, List.length_map] at this
    exact this
  refine ⟨fun _ => ⟨⟨⟨by omega, by omega⟩, fun xs hx => ⟨⟨?_, h4 xs hx⟩, h.2 xs hx⟩⟩, hm⟩, fun _ _ _ => rfl⟩
  have hx2 : xs.map parts ∈ tok L := by rw [← hm]; exact List.mem_map.2 ⟨xs, hx, rfl⟩
  obtain ⟨p, _, e⟩ := List.mem_map.1 hx2
  have h6 := List.length_pos_iff.2 (cut_ne 59 p)
  have h7 := congrArg List.length e
  unfold opsOf at h7
  rw [List.length_map, List.length_map] at h7
  omega
def Post (L : List UInt8) (lo : Nat) (w' : World) (e : Ending) : Prop := ∃ (v : Value) (vs : Nat → Value) (bss : List (List Bk)) (q : Bool), e = .returned (.tuple #[v, .bool q]) ∧ Hid (TB (tok L) bss q ∧ NsO w' lo v bss vs ∧ (q = false → v = .slice none 0 0))
theorem ns_none (x : World) (lo : Nat) : NsO x lo (.slice none 0 0) [] (fun _ => .slice none 0 0) :=
  ⟨⟨_, 0, rfl, Nat.le_refl _, by unfold maxLen; omega, fun h => absurd h (by simp)⟩, fun j hj => absurd hj (by simp), fun j hj => absurd hj (by simp), fun i j hi => absurd hi (by simp)⟩

set_option maxRecDepth 100000 in
set_option maxHeartbeats 3200000 in
theorem piecesTxn (w : World) (hT : Tr w) (hM : Mx w) (s : ByteArray) (hs : s.size ≤ 65536) :
    Calls Tryd.prog 37 #[.string s, .string ⟨#[124]⟩, .int .i64 2, .func (.func 38) #[] #[]] w fun e w' => Post s.data.toList w.heap.size w' e ∧ Below w.heap.size w w' := by
  obtain ⟨m, hm⟩ := id hM
  have HSP := Lib.hid (SplitC.split s 124 hs w m hm)
  have HCL := Lib.hid (show ∀ x ∈ cut 124 s.data.toList, x.length ≤ 65536 from fun x hx => by have := ToBatM.cutA_le 124 s.data.toList [] x hx; have h2 : s.data.toList.length = s.size := rfl; simp only [List.length_nil] at this; omega)
  have HTW := Lib.hid hT
  have HMW := Lib.hid hM
  generalize s.data.toList = L at *
  clear hT hm hM
  go_enter Tryd.func37, Tryd.ntmps37
  go_wp2_with fail
  refine HSP.out.mono ?_
  rintro e w1 ⟨ts, rfl, HTS, e1⟩
  have hb1 : Below w.heap.size w w1 := e1 ▸ (Below.refl _ _).alloc (Nat.le_refl _) _
  have HC := Lib.hid (show ∀ j, j < ts.length → w1.cell? ⟨w.heap.size, j, none⟩ = some (.string (ts.getD j ByteArray.empty)) from fun j hj => by
    rw [e1, cell_of_row _ w.heap.size j _ _ _ (heap_alloc_new w _)]
    simp [List.getD_eq_getElem?_getD, hj])
  have HB1 := Lib.hid hb1
  have HT1 := Lib.hid (HTW.out.below hb1)
  have HM1 := Lib.hid (HMW.out.below hb1)
  have HSZ := Lib.hid (fun j (hj : j < ts.length) => show (ts.getD j ByteArray.empty).size ≤ 65536 from HCL.out (ts.getD j ByteArray.empty).data.toList (by rw [← HTS.out]; exact List.mem_map.2 ⟨_, getD_mem ts _ j hj, rfl⟩))
  clear e1 hb1 HSP HCL HTW HMW
  obtain ⟨W0, eW0⟩ : ∃ W0, w.heap.size = W0 := ⟨_, rfl⟩
  rw [eW0] at HC
  simp only [eW0]
  by_cases h4 : 2 < ts.length
  · have g4 : (2 : Int) < (ts.length : Int) := by omega
    have HP := Lib.hid (show TB (tok L) [] false from tb_long (by rw [← HTS.out, List.length_map]; exact h4))
    clear h4 eW0
    go_wp2_with fail
    go_ret2
    exact ⟨⟨_, _, [], _, rfl, Lib.hid ⟨HP.out, ns_none _ _, fun _ => rfl⟩⟩, HB1.out⟩
  have g4 : ¬ (2 : Int) < (ts.length : Int) := by omega
  have hn4 : ts.length ≤ 2 := by omega
  obtain ⟨n, en⟩ : ∃ n, ts.length = n := ⟨_, rfl⟩
  have EN := Lib.hid en
  rw [en] at g4 hn4 HSZ HC
  simp only [en]
  clear en h4 eW0
  obtain ⟨g, o, w2, hmk, hown, hbel⟩ := made (P := Tryd.prog) w1 36 55 1 (.agg #[.slice none 0 0]) 24 Tryd.underlying36 infoTxn n (by omega) (by unfold maxLen; omega) (fun _ => .slice none 0 0) (made_txn n)
  have HO := Lib.hid hown
  have HB := Lib.hid hbel
  clear hown hbel
  go_wp2_with fail
  go_loopw [28] (fun i wr => ∃ (k : Nat) (bss : List (List Bk)), k ≤ n ∧ i = .int .i64 k ∧ Hid ((∃ vs, Part wr w1.heap.size g o n bss vs k) ∧ Below w1.heap.size w1 wr ∧ Pb ts bss k ∧ bss.length = k ∧ ∀ xs ∈ bss, xs.length ≤ 4)) (fun i _ => n - (intOf i).toNat)
  case atStart => exact ⟨0, [], by omega, rfl, Lib.hid ⟨⟨fun _ => .slice none 0 0, HO.out.congr (fun j _ => by rw [if_neg (by omega)]), fun j hj => by omega, fun j hj => by omega, fun i j hi => by omega⟩, HB.out, pb_zero ts, rfl, fun xs hx => by cases hx⟩⟩
  case round =>
    rename_i wr
    obtain ⟨k, bss, hk, rfl, HX⟩ := hrel
    by_cases hlt : k < n
    · have hlt2 : (k : Int) < (n : Int) := by omega
      have c0 := HC.out k hlt
      rw [← HX.out.2.1.cell (World.block_lt_of_cell? w1 _ c0)] at c0
      have HPS := HSZ.out k hlt
      have HSTEP := Lib.hid (fun (xs : List Bk) hz => pb_more HX.out.2.2.1 (show k < ts.length by rw [EN.out]; exact hlt) (xs := xs) hz)
      have HNO := Lib.hid (fun (xs : List Bk) (hno : PO (cut 59 (ts.getD k ByteArray.empty).data.toList) xs false) => show TB (tok L) [] false from tb_bad (p := (ts.getD k ByteArray.empty).data.toList) (by rw [← HTS.out]; exact List.mem_map.2 ⟨_, getD_mem ts _ k (by rw [EN.out]; exact hlt), rfl⟩) hno)
      obtain ⟨pt, ept⟩ : ∃ t, ts.getD k ByteArray.empty = t := ⟨_, rfl⟩
      rw [ept] at c0 HPS HSTEP HNO
      have HRO := Lib.hid (ReadT.readTxn wr (HT1.out.below HX.out.2.1) (HM1.out.below HX.out.2.1) pt HPS)
      clear ept
      go_wp2_with fail
      refine HRO.out.mono ?_
      rintro e y1 ⟨⟨v, xs, q, rfl, HA⟩, hb5⟩
      obtain ⟨a0, cap, rfl, _, _⟩ := HA.out.2.sl.form
      obtain ⟨Y2, eY2, hb6, hz6, c6, f6⟩ := LawB.box1 y1 55 (.slice a0 xs.length cap)
      have HB6 := Lib.hid (hb5.trans (hb6.mono hb5.size))
      have HBY := Lib.hid (HX.out.2.1.trans (HB6.out.mono HX.out.2.1.size))
      have HOW := Lib.hid (HA.out.2.below hb6)
      obtain ⟨GO, eGO⟩ : ∃ G, y1.heap.size = G := ⟨_, rfl⟩
      rw [eGO] at c6
      clear hb5 hb6 hz6 f6 c0 HRO
      cases q with
      | false =>
        have HP := Lib.hid (HNO.out xs HA.out.1)
        go_wp2_with fail
        go_ret2
        exact ⟨⟨_, _, [], _, rfl, Lib.hid ⟨HP.out, ns_none _ _, fun _ => rfl⟩⟩, HB1.out.trans (HBY.out.mono HB1.out.size)⟩
      | true =>
        have HPL := Lib.hid (HSTEP.out xs HA.out.1)
        have HL := Lib.hid HX.out.2.2.2.1
        have H4 := Lib.hid (show ∀ ys ∈ bss ++ [xs], ys.length ≤ 4 from fun ys hy => by
          rcases List.mem_append.1 hy with h | h
          · exact HX.out.2.2.2.2 ys h
          · obtain rfl := List.mem_singleton.1 h
            exact (HA.out.1.1 rfl).2.1)
        have HP := Lib.hid (show ∃ vs, Part (Y2.setCell ⟨g, o + k, none⟩ (.slice a0 xs.length cap)) w1.heap.size g o n (bss ++ [xs]) vs (k + 1) from by
          obtain ⟨vs, hp⟩ := HX.out.1
          refine ⟨_, part_step (part_more hp HL.out xs) hlt HB6.out HX.out.2.1.size ?_⟩
          have hgd := getD_app bss xs
          rw [HL.out] at hgd
          rw [hgd]
          exact HOW.out)
        obtain ⟨b', o', e', hb', hc'⟩ := (show ∃ b' o', (some ⟨g, o, none⟩ : Option Addr) = some ⟨b', o', none⟩ ∧ w1.heap.size ≤ b' ∧ ∀ j, j < n * 1 → (∃ u, Y2.cell? ⟨b', o' + j, none⟩ = some u) ∧ Y2.frozen? ⟨b', o' + j, none⟩ = false from by
          obtain ⟨vs, hp⟩ := HX.out.1
          obtain ⟨b', o', e', hb', hc'⟩ := (hp.out.below HB6.out).at (by omega)
          exact ⟨b', o', e', hb', fun j hj => ⟨⟨_, (hc' j hj).1⟩, (hc' j hj).2⟩⟩)
        obtain ⟨rfl, rfl⟩ : g = b' ∧ o = o' := by simpa using e'
        obtain ⟨⟨u0, c3⟩, f3⟩ := hc' k (by omega)
        have HG := Lib.hid hb'
        clear hc' hb' e'
        go_wp2
        go_roundw
        case rel => exact ⟨k + 1, bss ++ [xs], by omega, by go_num, Lib.hid ⟨HP.out, HBY.out.setCell HG.out _, HPL.out, by rw [List.length_append, HL.out]; rfl, H4.out⟩⟩
        case measure => simp [intOf]; omega
    · have hk2 := Lib.hid (show k = n by omega)
      have hlt2 : ¬ (k : Int) < (n : Int) := by omega
      have HP := Lib.hid (show TB (tok L) bss true from tb_good HTS.out (by rw [EN.out, ← hk2.out]; exact HX.out.2.2.1) HX.out.2.2.2.2 (by rw [EN.out]; exact hn4))
      go_wp2
      go_ret2
      obtain ⟨vs, hp⟩ := HX.out.1
      have hbl : bss.length = n := by rw [HX.out.2.2.2.1, hk2.out]
      rw [hk2.out] at hp
      refine ⟨⟨_, vs, bss, _, rfl, Lib.hid ⟨HP.out, NsO.base (lo := w1.heap.size) ⟨?_, ?_, ?_, ?_⟩ HB1.out.size, fun h => by cases h⟩⟩, HB1.out.trans (HX.out.2.1.mono HB1.out.size)⟩ <;> rw [hbl]
      · exact hp.out.congr (fun j hj => by rw [if_pos (by omega)])
      · exact hp.inn
      · exact hp.off
      · exact hp.each
end Go.Proofs.YtidbkamadclchaaDoor.PiecesT
