/-
  What is proved: the program's ReadBatch answers as the pieces say; the exact law on ReadBatch returns true (the walk), where the package's words, the library's table of tens, its two errors and its bound stand in their places.
-/
import Derived.Test.YtidbkamadclchaaDoorRows
import Derived.Test.YtidbkamadclchaaDoorPiecesT
import Derived.Test.YtidbkamadclchaaDoorLawB2
namespace Go.Proofs.YtidbkamadclchaaDoor.ReadBX
open Go.ChangeShapes Go.WideShapes Go.ChangeAt Go.RowKit
open Sl (Sl Own Off)
open OpenSl (tc)
open Dev Orm Box3 OpB BatB Txt TxtB TxtR OtB BtM ReadI ReadBL LawB
open PiecesO (Mx)
open LawN (mi)
set_option linter.unusedVariables false

set_option maxRecDepth 100000 in
set_option maxHeartbeats 1600000 in
theorem implRead (w : World) (hT : Tr w) (hM : Mx w) (s : ByteArray) : Calls Tryd.prog 19 #[.string s] w fun e w' => RPost s w.heap.size w' e ∧ Below w.heap.size w w' := by
  by_cases hl : 65536 < s.size
  · have g1 : (65536 : Int) < (s.size : Int) := by omega
    have HR := Lib.hid (show RBB s [] 2 from .inl ⟨hl, rfl, rfl⟩)
    clear hl
    go_enter Tryd.func19, Tryd.ntmps19
    go_wp2
    go_ret2
    exact ⟨⟨_, _, [], _, rfl, Lib.hid ⟨HR.out, PiecesT.ns_none _ _⟩⟩, Below.refl _ _⟩
  have g1 : ¬ (65536 : Int) < (s.size : Int) := by omega
  have HC := Lib.hid (PiecesT.piecesTxn w hT hM s (by omega))
  have HL := Lib.hid hl
  clear hl hT hM
  go_enter Tryd.func19, Tryd.ntmps19
  go_wp2_with fail
  refine HC.out.mono ?_
  rintro e w1 ⟨⟨v, vs, bss, q, rfl, H⟩, hb⟩
  have HB := Lib.hid hb
  obtain ⟨a0, cap, rfl, _, _⟩ := H.out.2.1.out.sl.form
  clear hb HC
  cases q with
  | false =>
    have HR := Lib.hid (rbb_no HL.out H.out.1)
    go_wp2_with fail
    go_ret2
    exact ⟨⟨_, _, [], _, rfl, Lib.hid ⟨HR.out, PiecesT.ns_none _ _⟩⟩, HB.out⟩
  | true =>
    have HR := Lib.hid (rbb_of HL.out H.out.1)
    go_wp2_with fail
    go_ret2
    exact ⟨⟨_, vs, bss, _, rfl, Lib.hid ⟨HR.out, H.out.2.1⟩⟩, HB.out⟩
/-- A right batch's weight is small. -/
theorem sm_small {s : ByteArray} {bss : List (List Bk)} {c : Int} (h : RBB s bss c) : 1 + sm bss bss.length * 3 ≤ 10000000 := by
  have hz : sm bss bss.length ≤ 8 := by
    rw [sm_all]
    have key : ∀ (l : List (List Bk)), (∀ xs ∈ l, xs.length ≤ 4) → (l.map List.length).sum ≤ l.length * 4 := by
      intro l
      induction l with
      | nil => intro _; simp
      | cons x l ih =>
        intro h
        have h1 := ih (fun y hy => h y (List.mem_cons_of_mem _ hy))
        have h2 := h x List.mem_cons_self
        rw [List.map_cons, List.sum_cons, List.length_cons]
        omega
    rcases h with ⟨_, rfl, _⟩ | ⟨_, ⟨_, hb, _⟩ | ⟨_, rfl, _⟩⟩
    · simp
    · have := key bss (fun xs hx => (hb.2 xs hx).1.2)
      have := hb.1.2
      omega
    · simp
  omega
theorem ns_turns {w w' : World} {lo : Nat} {v : Value} {bss : List (List Bk)} {vs : Nat → Value} {us : List Value} (h : NsO w lo v bss vs) (ht : Turns us w w') (h1 : ∀ u ∈ us, Apart v u) (h2 : ∀ u ∈ us, ∀ j, j < bss.length → Apart (vs j) u) : NsO w' lo v bss vs :=
  ⟨own_turns h.out ht h1, fun j hj => own_turns (h.inn j hj) ht (fun u hu => h2 u hu j hj), h.off, h.each⟩
set_option maxRecDepth 100000 in
set_option maxHeartbeats 3200000 in
theorem walk (w : World) (hT : Tr w) (hM : Mx w) (s : ByteArray) : Calls Tryd.prog 6 #[.string s] w fun e w' => e = .returned (.bool true) ∧ Below w.heap.size w w' := by
  by_cases hl : 1048576 < s.size
  · have g1 : (1048576 : Int) < (s.size : Int) := by omega
    clear hl
    go_enter Tryd.func6, Tryd.ntmps6
    go_wp2
    go_ret
    exact ⟨rfl, Below.refl _ _⟩
  have g1 : ¬ (1048576 : Int) < (s.size : Int) := by omega
  have HTW := Lib.hid hT
  have HMW := Lib.hid hM
  clear hl hT hM
  go_enter Tryd.func6, Tryd.ntmps6
  go_wp2_with fail
  refine (specRead _ s).mono ?_
  rintro e w1 ⟨⟨p, ps, bss, c, rfl, HP⟩, hb⟩
  have HB1 := Lib.hid hb
  obtain ⟨a0, cap0, rfl, _, _⟩ := HP.out.2.out.sl.form
  clear hb
  go_wp2_with fail
  refine (implRead _ (HTW.out.below HB1.out) (HMW.out.below HB1.out) s).mono ?_
  rintro e w2 ⟨⟨q, qs, bss', c', rfl, HQ⟩, hb⟩
  obtain ⟨rfl, rfl⟩ := rbb_same HQ.out.1 HP.out.1
  have HB2 := Lib.hid (HB1.out.trans (hb.mono HB1.out.size))
  have HP2 := Lib.hid (HP.out.2.below hb)
  have HLP := Lib.hid (lies_of HP.out.2.out (by decide))
  obtain ⟨a1, cap1, rfl, _, _⟩ := HQ.out.2.out.sl.form
  have HAA := Lib.hid (show Apart (.slice a0 bss'.length cap0) (.slice a1 bss'.length cap1) ∧ (∀ j, j < bss'.length → Apart (.slice a0 bss'.length cap0) (qs j)) ∧ (∀ j, j < bss'.length → Apart (ps j) (.slice a1 bss'.length cap1)) ∧ ∀ i j, i < bss'.length → j < bss'.length → Apart (ps i) (qs j) from
    ⟨apart_of HP.out.2.out.sl (by decide) HQ.out.2.out (Nat.le_refl _), fun j hj => apart_of HP.out.2.out.sl (by decide) (HQ.out.2.inn j hj) (Nat.le_refl _), fun j hj => apart_of (HP.out.2.inn j hj).sl (by decide) HQ.out.2.out (Nat.le_refl _), fun i j hi hj => apart_of (HP.out.2.inn i hi).sl (by decide) (HQ.out.2.inn j hj) (Nat.le_refl _)⟩)
  have HSM := Lib.hid (sm_small HQ.out.1)
  have HLO := Lib.hid HB1.out.size
  clear hb
  go_wp2_with fail
  refine (eqTxnS w2 _ _ bss' HQ.out.2.ns HP2.out.ns).mono ?_
  rintro e w3 ⟨rfl, hb⟩
  have HB3 := Lib.hid (HB2.out.trans (hb.mono HB2.out.size))
  have HP3 := Lib.hid (HP2.out.below hb)
  have HQ3 := Lib.hid (HQ.out.2.below hb)
  clear hb
  go_wp2_with fail
  obtain ⟨M, eM⟩ : ∃ M, 1 + sm bss' bss'.length * 3 = M := ⟨_, rfl⟩
  have HMK := Lib.hid (LawB2.markTxnS w3 w1.heap.size _ bss' qs HQ3.out 1 HSM.out)
  have HHD := Lib.hid (fun u h1 h2 => LawB2.heldTxnS u (.slice a1 bss'.length cap1) bss' qs 1 h1 h2 HSM.out)
  rw [eM] at HMK HHD
  clear eM
  refine HMK.out.mono ?_
  rintro e w4 ⟨rfl, hm1, hm2, ht⟩
  have HB4 := Lib.hid (show Below w.heap.size w w4 from HB3.out.trans ⟨ht.os, ht.tape, ht.output, ht.size, fun i hi => ht.block i (Nat.lt_of_lt_of_le hi HB3.out.size) (fun u hu => by
    obtain ⟨j, hj, rfl⟩ := List.mem_map.1 hu
    exact own_low (HQ3.out.inn j (List.mem_range.1 hj)) i (by have := HLO.out; omega))⟩)
  have HP4 := Lib.hid (ns_turns HP3.out ht (fun u hu => by
    obtain ⟨j, hj, rfl⟩ := List.mem_map.1 hu
    exact HAA.out.2.1 j (List.mem_range.1 hj)) (fun u hu i hi => by
    obtain ⟨j, hj, rfl⟩ := List.mem_map.1 hu
    exact HAA.out.2.2.2 i j hi (List.mem_range.1 hj)))
  have HM1 := Lib.hid hm1.sl
  have HM2 := Lib.hid (fun j (hj : j < bss'.length) => (hm2 j hj).sl)
  have d0 : ¬ (M : Int) < 0 := by omega
  clear hm1 hm2 ht HMK
  go_wp2_with fail
  refine (HHD.out _ HM1.out HM2.out).mono ?_
  rintro e w5 ⟨rfl, rfl⟩
  go_wp2_with fail
  refine (implRead _ (HTW.out.below HB4.out) (HMW.out.below HB4.out) s).mono ?_
  rintro e w6 ⟨⟨r, rs, bss2, c2, rfl, HR⟩, hb⟩
  obtain ⟨rfl, rfl⟩ := rbb_same HR.out.1 HP.out.1
  have HB6 := Lib.hid (HB4.out.trans (hb.mono HB4.out.size))
  have HP6 := Lib.hid (HP4.out.below hb)
  have HM16 := Lib.hid (HM1.out.below hb)
  have HM26 := Lib.hid (fun j hj => (HM2.out j hj).below hb)
  obtain ⟨a2, cap2, rfl, _, _⟩ := HR.out.2.out.sl.form
  clear hb
  go_wp2_with fail
  refine (eqTxnS w6 _ _ _ HR.out.2.ns HP6.out.ns).mono ?_
  rintro e w7 ⟨rfl, hb⟩
  have HB7 := Lib.hid (HB6.out.trans (hb.mono HB6.out.size))
  have HM17 := Lib.hid (HM16.out.below hb)
  have HM27 := Lib.hid (fun j hj => (HM26.out j hj).below hb)
  clear hb
  go_wp2_with fail
  refine (HHD.out _ HM17.out HM27.out).mono ?_
  rintro e w8 ⟨rfl, rfl⟩
  go_wp2_with fail
  go_ret
  exact ⟨rfl, HB7.out⟩
end Go.Proofs.YtidbkamadclchaaDoor.ReadBX
