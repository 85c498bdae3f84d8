/-
  What is proved: the model's ways to a box's tag, to seal a box and to open it are the plain ones; the exact laws on boxes return true (the walks), where the package's errors stand in their variables.
-/
import Derived.Test.YtcfdnifllehbjaaDoorRows
import Derived.Test.YtcfdnifllehbjaaDoorBoxL
namespace Go.Proofs.YtcfdnifllehbjaaDoor.BoxS
open Go.ChangeShapes Go.WideShapes Go.ChangeAt Go.RowKit
open BoxErr (Two Three ev code long)
open BoxTagI (boxT boxT_size)
open BoxL (tagRes sealRes openRes sealT sealT_size hid tg good xorS_size teq_comm)
open SpXor (xorS)
open TagEq (teq acc)
set_option linter.unusedVariables false

theorem code_ask (key nonce ad t : ByteArray) (h : ¬ long key nonce ad t) : code key nonce ad t = ChaBlk.ask key nonce 0 := by
  unfold code ChaBlk.ask
  rw [if_neg h]
  by_cases h2 : key.size = 32 ∧ nonce.size = 12
  · rw [if_pos h2, if_neg (by omega), if_neg (by omega)]
  · rw [if_neg h2, if_pos (by omega)]
theorem code_long (key nonce ad t : ByteArray) (h : long key nonce ad t) : code key nonce ad t = 2 := by unfold code; rw [if_pos h]

theorem askB (key nonce ad t : ByteArray) (hk : key.size ≤ maxLen) (hn : nonce.size ≤ maxLen) (ha : ad.size ≤ maxLen) (ht : t.size ≤ maxLen) (w : World) :
    Calls Tryd.prog 27 #[.string key, .string nonce, .string ad, .string t] w fun e w' => e = .returned (.int .i64 (code key nonce ad t)) ∧ w = w' := by
  have HA := Lib.hid (SpCha3.askM key nonce 0 hk hn)
  unfold maxLen at hk hn ha ht
  by_cases l0 : 65536 < key.size
  · rw [code_long key nonce ad t (show long key nonce ad t from .inl l0)]
    have d0 : decide (65536 < (key.size : Int)) = true := decide_eq_true (by omega)
    go_enter Tryd.func27, Tryd.ntmps27
    go_wp2_with fail
    go_ret
    exact ⟨rfl, rfl⟩
  have d0 : decide (65536 < (key.size : Int)) = false := decide_eq_false (by omega)
  by_cases l1 : 65536 < nonce.size
  · rw [code_long key nonce ad t (show long key nonce ad t from .inr (.inl l1))]
    have d1 : decide (65536 < (nonce.size : Int)) = true := decide_eq_true (by omega)
    go_enter Tryd.func27, Tryd.ntmps27
    go_wp2_with fail
    go_ret
    exact ⟨rfl, rfl⟩
  have d1 : decide (65536 < (nonce.size : Int)) = false := decide_eq_false (by omega)
  by_cases l2 : 65536 < ad.size
  · rw [code_long key nonce ad t (show long key nonce ad t from .inr (.inr (.inl l2)))]
    have d2 : decide (65536 < (ad.size : Int)) = true := decide_eq_true (by omega)
    go_enter Tryd.func27, Tryd.ntmps27
    go_wp2_with fail
    go_ret
    exact ⟨rfl, rfl⟩
  have d2 : decide (65536 < (ad.size : Int)) = false := decide_eq_false (by omega)
  by_cases l3 : 65536 < t.size
  · rw [code_long key nonce ad t (show long key nonce ad t from .inr (.inr (.inr l3)))]
    have d3 : decide (65536 < (t.size : Int)) = true := decide_eq_true (by omega)
    go_enter Tryd.func27, Tryd.ntmps27
    go_wp2_with fail
    go_ret
    exact ⟨rfl, rfl⟩
  have d3 : decide (65536 < (t.size : Int)) = false := decide_eq_false (by omega)
  have hl : ¬ long key nonce ad t := by unfold long; omega
  rw [code_ask key nonce ad t hl]
  clear l0 l1 l2 l3 hl
  generalize ChaBlk.ask key nonce 0 = C at *
  go_enter Tryd.func27, Tryd.ntmps27
  go_wp2_with fail
  refine (HA.out _).mono ?_
  rintro e w1 ⟨rfl, rfl⟩
  go_wp2
  go_ret
  exact ⟨rfl, rfl⟩

theorem sealM (key nonce ad t : ByteArray) (h1 : key.size = 32) (h2 : nonce.size = 12) (h3 : ad.size ≤ 65536) (h4 : t.size ≤ 65536) (w : World) :
    Calls Tryd.prog 28 #[.string key, .string nonce, .string ad, .string t] w fun e w' => e = .returned (.string (sealT key nonce ad t)) ∧ Below w.heap.size w w' := by
  have HX := Lib.hid (SpXor.xorM key nonce h1 h2 1 (by omega) t h4)
  have hxs := xorS_size key nonce 1 t
  have HB := Lib.hid (BoxTagI.l04Tag key nonce h1 h2 ad (xorS key nonce 1 t) h3 (by rw [hxs]; exact h4))
  have hbs := boxT_size key nonce ad (xorS key nonce 1 t)
  have HR := Lib.hid (show sealT key nonce ad t = xorS key nonce 1 t ++ boxT key nonce ad (xorS key nonce 1 t) from rfl)
  rw [HR.out]
  generalize boxT key nonce ad (xorS key nonce 1 t) = X at *
  generalize xorS key nonce 1 t = Y at *
  have hs : ¬ 9223372036854775807 < Y.size + X.size := by omega
  clear h1 h2 h3 h4 hxs hbs
  go_enter Tryd.func28, Tryd.ntmps28
  go_wp2_with fail
  refine (HX.out _).mono ?_
  rintro e w1 ⟨rfl, hb⟩
  have HB1 := Lib.hid hb
  clear hb
  go_wp2_with fail
  refine (HB.out _).mono ?_
  rintro e w2 ⟨rfl, hb⟩
  have HB2 := Lib.hid (HB1.out.trans (hb.mono HB1.out.size))
  clear hb
  go_wp2
  go_ret
  exact ⟨rfl, HB2.out⟩

theorem chain {w u w2 v w3 : World} (h1 : Below w.heap.size w u) (hb2 : Below u.heap.size u w2) (h2 : Below w2.heap.size w2 v) (hb3 : Below v.heap.size v w3) : Below w.heap.size w w3 := by
  have a := h1.trans (hb2.mono h1.size)
  have b := a.trans (h2.mono a.size)
  exact b.trans (hb3.mono b.size)
/-- What the model's l04Open answers. -/
def openM (key nonce ad t : ByteArray) : Value := if good key nonce ad t = true then .tuple #[.string (xorS key nonce 1 (hid t)), .bool true] else .tuple #[.string ⟨#[]⟩, .bool false]

set_option maxRecDepth 100000 in
set_option maxHeartbeats 1600000 in
theorem opened (key nonce ad t : ByteArray) (h1 : key.size = 32) (h2 : nonce.size = 12) (h3 : ad.size ≤ 65536) (h4 : t.size ≤ 65536) (w : World) :
    Calls Tryd.prog 30 #[.string key, .string nonce, .string ad, .string t] w fun e w' => e = .returned (openM key nonce ad t) ∧ Below w.heap.size w w' := by
  unfold openM
  by_cases h16 : t.size < 16
  · have hg : good key nonce ad t = false := by unfold good; rw [decide_eq_false (by omega)]; rfl
    rw [hg, if_neg (by decide)]
    have d16 : decide ((t.size : Int) < 16) = true := decide_eq_true (by omega)
    clear hg h1 h2 h3
    go_enter Tryd.func30, Tryd.ntmps30
    go_wp2
    go_ret2
    exact ⟨rfl, Below.refl _ _⟩
  have d16 : decide ((t.size : Int) < 16) = false := decide_eq_false (by omega)
  obtain ⟨m, em⟩ : ∃ m, t.size - 16 = m := ⟨_, rfl⟩
  have HG := Lib.hid (show good key nonce ad t = teq (boxT key nonce ad (hid t)) (tg t) by unfold good; rw [decide_eq_true (by omega), teq_comm]; rfl)
  have e1 : (t.size : Int) - 16 = (m : Int) := by omega
  have wm : IntKind.i64.wrap (m : Int) = m := by rw [IntKind.wrap_i64]; omega
  have q1 : (m : Int) ≤ (t.size : Int) := by omega
  have q0 : (0 : Int) ≤ (m : Int) := by omega
  have hm : (t.extract 0 m).size = m := by rw [ByteArray.size_extract]; omega
  have hhs : (hid t).size ≤ 65536 := by unfold hid; rw [ByteArray.size_extract]; omega
  have hts : (tg t).size ≤ 16 := by unfold tg; rw [ByteArray.size_extract]; omega
  have HH := Lib.hid (show hid t = t.extract 0 m by unfold hid; rw [em])
  have HTG := Lib.hid (show tg t = t.extract m t.size by unfold tg; rw [em])
  have HB := Lib.hid (BoxTagI.l04Tag key nonce h1 h2 ad (hid t) h3 hhs)
  have hbs := boxT_size key nonce ad (hid t)
  have HE := Lib.hid (TagEq.spec (boxT key nonce ad (hid t)) (tg t) (by unfold maxLen; omega) (by unfold maxLen; omega))
  have HX := Lib.hid (SpXor.xorM key nonce h1 h2 1 (by omega) (hid t) hhs)
  rw [HG.out]
  clear HG
  generalize teq (boxT key nonce ad (hid t)) (tg t) = G at *
  generalize boxT key nonce ad (hid t) = X at *
  generalize xorS key nonce 1 (hid t) = Y at *
  rw [HH.out] at HB HX
  rw [HTG.out] at HE
  clear h1 h2 h3 h4 hhs hts hbs em h16 HH HTG
  have HM := Lib.hid hm
  clear hm
  go_enter Tryd.func30, Tryd.ntmps30
  go_upto_region 4 with (fail)
  generalize t.extract 0 m = S at *
  have hmi : (S.size : Int) = (m : Int) := by have := HM.out; omega
  go_region_with (first
    | (go_at_call 31; refine (HB.out _).mono ?_; rintro e w2 ⟨rfl, hb2⟩; have HB2 := Lib.hid hb2; clear hb2)
    | (go_at_call 43; refine (HE.out _).mono ?_; rintro e w3 ⟨rfl, hb3⟩; have HB3 := Lib.hid hb3; clear hb3))
  all_goals
    have HW := Lib.hid (show Below w.heap.size w w3 from chain (by repeat (with_reducible (first | exact Below.refl _ _ | exact below_drewN (Below.refl _ _) _ | refine Below.drew ?_))) HB2.out (by repeat (with_reducible (first | exact Below.refl _ _ | exact below_drewN (Below.refl _ _) _ | refine Below.drew ?_))) HB3.out)
    clear HB2 HB3
    cases G
    · go_wp2
      go_ret2
      exact ⟨rfl, by repeat (with_reducible (first | exact HW.out | exact below_drewN HW.out _ | refine Below.drew ?_))⟩
    · go_wp2_with fail
      refine (HX.out _).mono ?_
      rintro e w4 ⟨rfl, hb⟩
      have HW4 := Lib.hid (show Below w.heap.size w w4 from chain (u := w3) HW.out (Below.refl _ _) (by repeat (with_reducible (first | exact Below.refl _ _ | exact below_drewN (Below.refl _ _) _ | refine Below.drew ?_))) hb)
      clear hb HW
      go_wp2
      go_ret2
      exact ⟨rfl, HW4.out⟩


theorem specBoxTag (key nonce ad t : ByteArray) (hk : key.size ≤ maxLen) (hn : nonce.size ≤ maxLen) (ha : ad.size ≤ maxLen) (ht : t.size ≤ maxLen) (w : World) :
    Calls Tryd.prog 17 #[.string key, .string nonce, .string ad, .string t] w fun e w' => e = .returned (tagRes key nonce ad t) ∧ Below w.heap.size w w' := by
  have HA := Lib.hid (askB key nonce ad t hk hn ha ht)
  unfold maxLen at hk hn ha ht
  unfold tagRes
  by_cases l0 : 65536 < key.size
  · rw [code_long key nonce ad t (show long key nonce ad t from .inl l0), if_neg (show ¬ (2 : Int) = 0 by omega)]
    have d0 : decide (65536 < (key.size : Int)) = true := decide_eq_true (by omega)
    go_enter Tryd.func17, Tryd.ntmps17
    go_wp2_with fail
    go_ret2
    exact ⟨rfl, Below.refl _ _⟩
  have d0 : decide (65536 < (key.size : Int)) = false := decide_eq_false (by omega)
  by_cases l1 : 65536 < nonce.size
  · rw [code_long key nonce ad t (show long key nonce ad t from .inr (.inl l1)), if_neg (show ¬ (2 : Int) = 0 by omega)]
    have d1 : decide (65536 < (nonce.size : Int)) = true := decide_eq_true (by omega)
    go_enter Tryd.func17, Tryd.ntmps17
    go_wp2_with fail
    go_ret2
    exact ⟨rfl, Below.refl _ _⟩
  have d1 : decide (65536 < (nonce.size : Int)) = false := decide_eq_false (by omega)
  by_cases l2 : 65536 < ad.size
  · rw [code_long key nonce ad t (show long key nonce ad t from .inr (.inr (.inl l2))), if_neg (show ¬ (2 : Int) = 0 by omega)]
    have d2 : decide (65536 < (ad.size : Int)) = true := decide_eq_true (by omega)
    go_enter Tryd.func17, Tryd.ntmps17
    go_wp2_with fail
    go_ret2
    exact ⟨rfl, Below.refl _ _⟩
  have d2 : decide (65536 < (ad.size : Int)) = false := decide_eq_false (by omega)
  by_cases l3 : 65536 < t.size
  · rw [code_long key nonce ad t (show long key nonce ad t from .inr (.inr (.inr l3))), if_neg (show ¬ (2 : Int) = 0 by omega)]
    have d3 : decide (65536 < (t.size : Int)) = true := decide_eq_true (by omega)
    go_enter Tryd.func17, Tryd.ntmps17
    go_wp2_with fail
    go_ret2
    exact ⟨rfl, Below.refl _ _⟩
  have d3 : decide (65536 < (t.size : Int)) = false := decide_eq_false (by omega)
  have hl : ¬ long key nonce ad t := by unfold long; omega
  clear l0 l1 l2 l3
  rcases BoxL.cases key nonce ad t ⟨0, 0, none⟩ ⟨0, 0, none⟩ with ⟨_, h, _⟩ | ⟨hc, _, _⟩ | ⟨hc, h1, h2, h3, h4, _⟩
  · exact absurd h hl
  · rw [hc] at HA
    rw [hc, if_neg (by omega)]
    clear hl hc
    go_enter Tryd.func17, Tryd.ntmps17
    go_wp2_with fail
    refine (HA.out _).mono ?_
    rintro e w1 ⟨rfl, rfl⟩
    go_wp2
    go_ret2
    exact ⟨rfl, Below.refl _ _⟩
  · rw [hc] at HA
    rw [if_pos hc]
    have HB := Lib.hid (BoxTagI.l04Tag key nonce h1 h2 ad t h3 h4)
    generalize boxT key nonce ad t = X at *
    clear hl hc h1 h2 h3 h4
    go_enter Tryd.func17, Tryd.ntmps17
    go_wp2_with fail
    refine (HA.out _).mono ?_
    rintro e w1 ⟨rfl, rfl⟩
    go_wp2_with fail
    refine (HB.out _).mono ?_
    rintro e w1 ⟨rfl, hb⟩
    have HB1 := Lib.hid hb
    clear hb
    go_wp2
    go_ret2
    exact ⟨rfl, HB1.out⟩


theorem specSealBox (key nonce ad t : ByteArray) (hk : key.size ≤ maxLen) (hn : nonce.size ≤ maxLen) (ha : ad.size ≤ maxLen) (ht : t.size ≤ maxLen) (w : World) :
    Calls Tryd.prog 13 #[.string key, .string nonce, .string ad, .string t] w fun e w' => e = .returned (sealRes key nonce ad t) ∧ Below w.heap.size w w' := by
  have HA := Lib.hid (askB key nonce ad t hk hn ha ht)
  unfold maxLen at hk hn ha ht
  unfold sealRes
  by_cases l0 : 65536 < key.size
  · rw [code_long key nonce ad t (show long key nonce ad t from .inl l0), if_neg (show ¬ (2 : Int) = 0 by omega)]
    have d0 : decide (65536 < (key.size : Int)) = true := decide_eq_true (by omega)
    go_enter Tryd.func13, Tryd.ntmps13
    go_wp2_with fail
    go_ret2
    exact ⟨rfl, Below.refl _ _⟩
  have d0 : decide (65536 < (key.size : Int)) = false := decide_eq_false (by omega)
  by_cases l1 : 65536 < nonce.size
  · rw [code_long key nonce ad t (show long key nonce ad t from .inr (.inl l1)), if_neg (show ¬ (2 : Int) = 0 by omega)]
    have d1 : decide (65536 < (nonce.size : Int)) = true := decide_eq_true (by omega)
    go_enter Tryd.func13, Tryd.ntmps13
    go_wp2_with fail
    go_ret2
    exact ⟨rfl, Below.refl _ _⟩
  have d1 : decide (65536 < (nonce.size : Int)) = false := decide_eq_false (by omega)
  by_cases l2 : 65536 < ad.size
  · rw [code_long key nonce ad t (show long key nonce ad t from .inr (.inr (.inl l2))), if_neg (show ¬ (2 : Int) = 0 by omega)]
    have d2 : decide (65536 < (ad.size : Int)) = true := decide_eq_true (by omega)
    go_enter Tryd.func13, Tryd.ntmps13
    go_wp2_with fail
    go_ret2
    exact ⟨rfl, Below.refl _ _⟩
  have d2 : decide (65536 < (ad.size : Int)) = false := decide_eq_false (by omega)
  by_cases l3 : 65536 < t.size
  · rw [code_long key nonce ad t (show long key nonce ad t from .inr (.inr (.inr l3))), if_neg (show ¬ (2 : Int) = 0 by omega)]
    have d3 : decide (65536 < (t.size : Int)) = true := decide_eq_true (by omega)
    go_enter Tryd.func13, Tryd.ntmps13
    go_wp2_with fail
    go_ret2
    exact ⟨rfl, Below.refl _ _⟩
  have d3 : decide (65536 < (t.size : Int)) = false := decide_eq_false (by omega)
  have hl : ¬ long key nonce ad t := by unfold long; omega
  clear l0 l1 l2 l3
  rcases BoxL.cases key nonce ad t ⟨0, 0, none⟩ ⟨0, 0, none⟩ with ⟨_, h, _⟩ | ⟨hc, _, _⟩ | ⟨hc, h1, h2, h3, h4, _⟩
  · exact absurd h hl
  · rw [hc] at HA
    rw [hc, if_neg (by omega)]
    clear hl hc
    go_enter Tryd.func13, Tryd.ntmps13
    go_wp2_with fail
    refine (HA.out _).mono ?_
    rintro e w1 ⟨rfl, rfl⟩
    go_wp2
    go_ret2
    exact ⟨rfl, Below.refl _ _⟩
  · rw [hc] at HA
    rw [if_pos hc]
    have HB := Lib.hid (sealM key nonce ad t h1 h2 h3 h4)
    generalize sealT key nonce ad t = X at *
    clear hl hc h1 h2 h3 h4
    go_enter Tryd.func13, Tryd.ntmps13
    go_wp2_with fail
    refine (HA.out _).mono ?_
    rintro e w1 ⟨rfl, rfl⟩
    go_wp2_with fail
    refine (HB.out _).mono ?_
    rintro e w1 ⟨rfl, hb⟩
    have HB1 := Lib.hid hb
    clear hb
    go_wp2
    go_ret2
    exact ⟨rfl, HB1.out⟩


theorem specOpenBox (key nonce ad t : ByteArray) (hk : key.size ≤ maxLen) (hn : nonce.size ≤ maxLen) (ha : ad.size ≤ maxLen) (ht : t.size ≤ maxLen) (w : World) :
    Calls Tryd.prog 16 #[.string key, .string nonce, .string ad, .string t] w fun e w' => e = .returned (openRes key nonce ad t) ∧ Below w.heap.size w w' := by
  have HA := Lib.hid (askB key nonce ad t hk hn ha ht)
  unfold maxLen at hk hn ha ht
  unfold openRes
  by_cases l0 : 65536 < key.size
  · rw [code_long key nonce ad t (show long key nonce ad t from .inl l0), if_neg (show ¬ (2 : Int) = 0 by omega)]
    have d0 : decide (65536 < (key.size : Int)) = true := decide_eq_true (by omega)
    go_enter Tryd.func16, Tryd.ntmps16
    go_wp2_with fail
    go_ret2
    exact ⟨rfl, Below.refl _ _⟩
  have d0 : decide (65536 < (key.size : Int)) = false := decide_eq_false (by omega)
  by_cases l1 : 65536 < nonce.size
  · rw [code_long key nonce ad t (show long key nonce ad t from .inr (.inl l1)), if_neg (show ¬ (2 : Int) = 0 by omega)]
    have d1 : decide (65536 < (nonce.size : Int)) = true := decide_eq_true (by omega)
    go_enter Tryd.func16, Tryd.ntmps16
    go_wp2_with fail
    go_ret2
    exact ⟨rfl, Below.refl _ _⟩
  have d1 : decide (65536 < (nonce.size : Int)) = false := decide_eq_false (by omega)
  by_cases l2 : 65536 < ad.size
  · rw [code_long key nonce ad t (show long key nonce ad t from .inr (.inr (.inl l2))), if_neg (show ¬ (2 : Int) = 0 by omega)]
    have d2 : decide (65536 < (ad.size : Int)) = true := decide_eq_true (by omega)
    go_enter Tryd.func16, Tryd.ntmps16
    go_wp2_with fail
    go_ret2
    exact ⟨rfl, Below.refl _ _⟩
  have d2 : decide (65536 < (ad.size : Int)) = false := decide_eq_false (by omega)
  by_cases l3 : 65536 < t.size
  · rw [code_long key nonce ad t (show long key nonce ad t from .inr (.inr (.inr l3))), if_neg (show ¬ (2 : Int) = 0 by omega)]
    have d3 : decide (65536 < (t.size : Int)) = true := decide_eq_true (by omega)
    go_enter Tryd.func16, Tryd.ntmps16
    go_wp2_with fail
    go_ret2
    exact ⟨rfl, Below.refl _ _⟩
  have d3 : decide (65536 < (t.size : Int)) = false := decide_eq_false (by omega)
  have hl : ¬ long key nonce ad t := by unfold long; omega
  clear l0 l1 l2 l3
  rcases BoxL.cases key nonce ad t ⟨0, 0, none⟩ ⟨0, 0, none⟩ with ⟨_, h, _⟩ | ⟨hc, _, _⟩ | ⟨hc, h1, h2, h3, h4, _⟩
  · exact absurd h hl
  · rw [hc] at HA
    rw [hc, if_neg (by omega)]
    clear hl hc
    go_enter Tryd.func16, Tryd.ntmps16
    go_wp2_with fail
    refine (HA.out _).mono ?_
    rintro e w1 ⟨rfl, rfl⟩
    go_wp2
    go_ret2
    exact ⟨rfl, Below.refl _ _⟩
  · rw [hc] at HA
    rw [if_pos hc]
    have HB := Lib.hid (opened key nonce ad t h1 h2 h3 h4)
    unfold openM at HB
    generalize good key nonce ad t = G at *
    generalize xorS key nonce 1 (hid t) = Y at *
    clear hl hc h1 h2 h3 h4
    cases G
    · rw [if_neg (by decide)] at HB
      rw [if_neg (by decide)]
      go_enter Tryd.func16, Tryd.ntmps16
      go_wp2_with fail
      refine (HA.out _).mono ?_
      rintro e w1 ⟨rfl, rfl⟩
      go_wp2_with fail
      refine (HB.out _).mono ?_
      rintro e w1 ⟨rfl, hb⟩
      have HB1 := Lib.hid hb
      clear hb
      go_wp2
      go_ret2
      exact ⟨rfl, HB1.out⟩
    · rw [if_pos rfl] at HB
      rw [if_pos rfl]
      go_enter Tryd.func16, Tryd.ntmps16
      go_wp2_with fail
      refine (HA.out _).mono ?_
      rintro e w1 ⟨rfl, rfl⟩
      go_wp2_with fail
      refine (HB.out _).mono ?_
      rintro e w1 ⟨rfl, hb⟩
      have HB1 := Lib.hid hb
      clear hb
      go_wp2
      go_ret2
      exact ⟨rfl, HB1.out⟩

theorem tag_form (key nonce ad t : ByteArray) : ∃ (s : ByteArray) (c : Int), tagRes key nonce ad t = .tuple #[.string s, .int .i64 c] := by
  unfold tagRes
  split
  · exact ⟨_, _, rfl⟩
  · exact ⟨_, _, rfl⟩
theorem seal_form (key nonce ad t : ByteArray) : ∃ (s : ByteArray) (c : Int), sealRes key nonce ad t = .tuple #[.string s, .int .i64 c] := by
  unfold sealRes
  split
  · exact ⟨_, _, rfl⟩
  · exact ⟨_, _, rfl⟩
theorem open_form (key nonce ad t : ByteArray) : ∃ (s : ByteArray) (c : Int), openRes key nonce ad t = .tuple #[.string s, .int .i64 c] := by
  unfold openRes
  split
  · split
    · exact ⟨_, _, rfl⟩
    · exact ⟨_, _, rfl⟩
  · exact ⟨_, _, rfl⟩

theorem walkTag (a b c d : ByteArray) (ha : a.size ≤ maxLen) (hb : b.size ≤ maxLen) (hc : c.size ≤ maxLen) (hd : d.size ≤ maxLen) (a0 a1 : Addr) (w : World) (H : Two w a0 a1) :
    Calls Tryd.prog 6 #[.string a, .string b, .string c, .string d] w fun e w' => e = .returned (.bool true) ∧ Below w.heap.size w w' := by
  by_cases h0 : 1048576 < a.size
  · unfold maxLen at ha
    go_enter Tryd.func6, Tryd.ntmps6
    go_wp2_with fail
    go_ret
    exact ⟨rfl, Below.refl _ _⟩
  have d0 : decide (1048576 < (a.size : Int)) = false := decide_eq_false (by omega)
  by_cases h1 : 1048576 < b.size
  · unfold maxLen at hb
    go_enter Tryd.func6, Tryd.ntmps6
    go_wp2_with fail
    go_ret
    exact ⟨rfl, Below.refl _ _⟩
  have d1 : decide (1048576 < (b.size : Int)) = false := decide_eq_false (by omega)
  by_cases h2 : 1048576 < c.size
  · unfold maxLen at hc
    go_enter Tryd.func6, Tryd.ntmps6
    go_wp2_with fail
    go_ret
    exact ⟨rfl, Below.refl _ _⟩
  have d2 : decide (1048576 < (c.size : Int)) = false := decide_eq_false (by omega)
  by_cases h3 : 1048576 < d.size
  · unfold maxLen at hd
    go_enter Tryd.func6, Tryd.ntmps6
    go_wp2_with fail
    go_ret
    exact ⟨rfl, Below.refl _ _⟩
  have d3 : decide (1048576 < (d.size : Int)) = false := decide_eq_false (by omega)
  obtain ⟨s, cc, hres⟩ := tag_form a b c d
  have HS := Lib.hid (specBoxTag a b c d ha hb hc hd)
  have HI := Lib.hid (fun u (h : Two u a0 a1) => BoxL.implTag a b c d ha hb hc hd a0 a1 u h)
  rw [hres] at HS HI
  have HE := Lib.hid H
  clear hres H h0 h1 h2 h3 ha hb hc hd
  go_enter Tryd.func6, Tryd.ntmps6
  go_wp2_with fail
  refine (HS.out _).mono ?_
  rintro e w1 ⟨rfl, hb1⟩
  have HB := Lib.hid hb1
  clear hb1
  go_wp2_with fail
  refine (HI.out _ (HE.out.below HB.out)).mono ?_
  rintro e w2 ⟨rfl, hb2⟩
  have HB2 := Lib.hid hb2
  clear hb2
  go_wp2
  go_ret
  exact ⟨rfl, HB.out.trans (HB2.out.mono HB.out.size)⟩

theorem walkSeal (a b c d : ByteArray) (ha : a.size ≤ maxLen) (hb : b.size ≤ maxLen) (hc : c.size ≤ maxLen) (hd : d.size ≤ maxLen) (a0 a1 : Addr) (w : World) (H : Two w a0 a1) :
    Calls Tryd.prog 4 #[.string a, .string b, .string c, .string d] w fun e w' => e = .returned (.bool true) ∧ Below w.heap.size w w' := by
  by_cases h0 : 1048576 < a.size
  · unfold maxLen at ha
    go_enter Tryd.func4, Tryd.ntmps4
    go_wp2_with fail
    go_ret
    exact ⟨rfl, Below.refl _ _⟩
  have d0 : decide (1048576 < (a.size : Int)) = false := decide_eq_false (by omega)
  by_cases h1 : 1048576 < b.size
  · unfold maxLen at hb
    go_enter Tryd.func4, Tryd.ntmps4
    go_wp2_with fail
    go_ret
    exact ⟨rfl, Below.refl _ _⟩
  have d1 : decide (1048576 < (b.size : Int)) = false := decide_eq_false (by omega)
  by_cases h2 : 1048576 < c.size
  · unfold maxLen at hc
    go_enter Tryd.func4, Tryd.ntmps4
    go_wp2_with fail
    go_ret
    exact ⟨rfl, Below.refl _ _⟩
  have d2 : decide (1048576 < (c.size : Int)) = false := decide_eq_false (by omega)
  by_cases h3 : 1048576 < d.size
  · unfold maxLen at hd
    go_enter Tryd.func4, Tryd.ntmps4
    go_wp2_with fail
    go_ret
    exact ⟨rfl, Below.refl _ _⟩
  have d3 : decide (1048576 < (d.size : Int)) = false := decide_eq_false (by omega)
  obtain ⟨s, cc, hres⟩ := seal_form a b c d
  have HS := Lib.hid (specSealBox a b c d ha hb hc hd)
  have HI := Lib.hid (fun u (h : Two u a0 a1) => BoxL.implSeal a b c d ha hb hc hd a0 a1 u h)
  rw [hres] at HS HI
  have HE := Lib.hid H
  clear hres H h0 h1 h2 h3 ha hb hc hd
  go_enter Tryd.func4, Tryd.ntmps4
  go_wp2_with fail
  refine (HS.out _).mono ?_
  rintro e w1 ⟨rfl, hb1⟩
  have HB := Lib.hid hb1
  clear hb1
  go_wp2_with fail
  refine (HI.out _ (HE.out.below HB.out)).mono ?_
  rintro e w2 ⟨rfl, hb2⟩
  have HB2 := Lib.hid hb2
  clear hb2
  go_wp2
  go_ret
  exact ⟨rfl, HB.out.trans (HB2.out.mono HB.out.size)⟩

theorem walkOpen (a b c d : ByteArray) (ha : a.size ≤ maxLen) (hb : b.size ≤ maxLen) (hc : c.size ≤ maxLen) (hd : d.size ≤ maxLen) (a0 a1 a2 : Addr) (w : World) (H : Three w a0 a1 a2) :
    Calls Tryd.prog 5 #[.string a, .string b, .string c, .string d] w fun e w' => e = .returned (.bool true) ∧ Below w.heap.size w w' := by
  by_cases h0 : 1048576 < a.size
  · unfold maxLen at ha
    go_enter Tryd.func5, Tryd.ntmps5
    go_wp2_with fail
    go_ret
    exact ⟨rfl, Below.refl _ _⟩
  have d0 : decide (1048576 < (a.size : Int)) = false := decide_eq_false (by omega)
  by_cases h1 : 1048576 < b.size
  · unfold maxLen at hb
    go_enter Tryd.func5, Tryd.ntmps5
    go_wp2_with fail
    go_ret
    exact ⟨rfl, Below.refl _ _⟩
  have d1 : decide (1048576 < (b.size : Int)) = false := decide_eq_false (by omega)
  by_cases h2 : 1048576 < c.size
  · unfold maxLen at hc
    go_enter Tryd.func5, Tryd.ntmps5
    go_wp2_with fail
    go_ret
    exact ⟨rfl, Below.refl _ _⟩
  have d2 : decide (1048576 < (c.size : Int)) = false := decide_eq_false (by omega)
  by_cases h3 : 1048576 < d.size
  · unfold maxLen at hd
    go_enter Tryd.func5, Tryd.ntmps5
    go_wp2_with fail
    go_ret
    exact ⟨rfl, Below.refl _ _⟩
  have d3 : decide (1048576 < (d.size : Int)) = false := decide_eq_false (by omega)
  obtain ⟨s, cc, hres⟩ := open_form a b c d
  have HS := Lib.hid (specOpenBox a b c d ha hb hc hd)
  have HI := Lib.hid (fun u (h : Three u a0 a1 a2) => BoxL.implOpen a b c d ha hb hc hd a0 a1 a2 u h)
  rw [hres] at HS HI
  have HE := Lib.hid H
  clear hres H h0 h1 h2 h3 ha hb hc hd
  go_enter Tryd.func5, Tryd.ntmps5
  go_wp2_with fail
  refine (HS.out _).mono ?_
  rintro e w1 ⟨rfl, hb1⟩
  have HB := Lib.hid hb1
  clear hb1
  go_wp2_with fail
  refine (HI.out _ (HE.out.below HB.out)).mono ?_
  rintro e w2 ⟨rfl, hb2⟩
  have HB2 := Lib.hid hb2
  clear hb2
  go_wp2
  go_ret
  exact ⟨rfl, HB.out.trans (HB2.out.mono HB.out.size)⟩

end Go.Proofs.YtcfdnifllehbjaaDoor.BoxS
