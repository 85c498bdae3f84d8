/-
  What is proved: both ways to a box's tag, to seal a box and to open it answer one plain function each; the laws on them return true (the walks), where the package's errors stand in their variables.
-/
import Derived.Test.YtcfdnifllehbjaaDoorRows
import Derived.Test.YtcfdnifllehbjaaDoorBoxErr
import Derived.Test.YtcfdnifllehbjaaDoorBoxTagI
import Derived.Test.YtcfdnifllehbjaaDoorChaXorI
import Derived.Test.YtcfdnifllehbjaaDoorTagEq
namespace Go.Proofs.YtcfdnifllehbjaaDoor.BoxL
open Go.ChangeShapes Go.WideShapes Go.ChangeAt Go.RowKit
open BoxErr (Two Three ev code faultV)
open BoxTagI (boxT boxT_size)
open SpXor (xorS)
open TagEq (teq acc)
open Word (bN)
set_option linter.unusedVariables false

theorem xorS_size (key nonce : ByteArray) (c : Nat) (t : ByteArray) : (xorS key nonce c t).size = t.size := by
  show (XorOf.xb _ _ t.size).toArray.size = t.size
  rw [List.size_toArray, XorOf.xb_length]
/-- What the calls answer. -/
def tagRes (key nonce ad t : ByteArray) : Value := if code key nonce ad t = 0 then .tuple #[.string (boxT key nonce ad t), .int .i64 0] else .tuple #[.string ⟨#[]⟩, .int .i64 (code key nonce ad t)]
def sealT (key nonce ad t : ByteArray) : ByteArray := xorS key nonce 1 t ++ boxT key nonce ad (xorS key nonce 1 t)
theorem sealT_size (key nonce ad t : ByteArray) : (sealT key nonce ad t).size = t.size + 16 := by
  unfold sealT
  rw [ByteArray.size_append, xorS_size, boxT_size]
def sealRes (key nonce ad t : ByteArray) : Value := if code key nonce ad t = 0 then .tuple #[.string (sealT key nonce ad t), .int .i64 0] else .tuple #[.string ⟨#[]⟩, .int .i64 (code key nonce ad t)]
def hid (t : ByteArray) : ByteArray := t.extract 0 (t.size - 16)
def tg (t : ByteArray) : ByteArray := t.extract (t.size - 16) t.size
/-- Whether a sealed text has its tag. -/
def good (key nonce ad t : ByteArray) : Bool := decide (16 ≤ t.size) && teq (tg t) (boxT key nonce ad (hid t))
def openRes (key nonce ad t : ByteArray) : Value :=
  if code key nonce ad t = 0 then (if good key nonce ad t = true then .tuple #[.string (xorS key nonce 1 (hid t)), .int .i64 0] else .tuple #[.string ⟨#[]⟩, .int .i64 9])
  else .tuple #[.string ⟨#[]⟩, .int .i64 (code key nonce ad t)]

theorem acc_comm (a b : ByteArray) : ∀ n, acc a b n = acc b a n
  | 0 => rfl
  | n + 1 => by show acc a b n ||| _ = acc b a n ||| _; rw [acc_comm a b n, Nat.xor_comm]
theorem teq_comm (a b : ByteArray) : teq a b = teq b a := by
  unfold teq
  rw [Bool.eq_iff_iff]
  simp only [decide_eq_true_eq]
  constructor
  · rintro ⟨h1, h2, h3⟩
    exact ⟨by omega, h2.symm, by rw [← h2, acc_comm]; exact h3⟩
  · rintro ⟨h1, h2, h3⟩
    exact ⟨by omega, h2.symm, by rw [← h2, acc_comm]; exact h3⟩

/-- The four ways that a box's arguments can be. -/
theorem cases (key nonce ad t : ByteArray) (a0 a1 : Addr) : (code key nonce ad t = 2 ∧ BoxErr.long key nonce ad t ∧ faultV key nonce ad t a0 a1 = ev a0) ∨ (code key nonce ad t = 8 ∧ ¬ BoxErr.long key nonce ad t ∧ faultV key nonce ad t a0 a1 = ev a1) ∨
    (code key nonce ad t = 0 ∧ key.size = 32 ∧ nonce.size = 12 ∧ ad.size ≤ 65536 ∧ t.size ≤ 65536 ∧ faultV key nonce ad t a0 a1 = .nilIface) := by
  unfold code faultV
  by_cases h : BoxErr.long key nonce ad t
  · rw [if_pos h, if_pos h]
    exact .inl ⟨rfl, h, rfl⟩
  · rw [if_neg h, if_neg h]
    by_cases h2 : key.size = 32 ∧ nonce.size = 12
    · rw [if_pos h2, if_pos h2]
      unfold BoxErr.long at h
      exact .inr (.inr ⟨rfl, h2.1, h2.2, by omega, by omega, rfl⟩)
    · rw [if_neg h2, if_neg h2]
      exact .inr (.inl ⟨rfl, h, rfl⟩)

theorem implTag (key nonce ad t : ByteArray) (hk : key.size ≤ maxLen) (hn : nonce.size ≤ maxLen) (ha : ad.size ≤ maxLen) (ht : t.size ≤ maxLen) (a0 a1 : Addr) (w : World) (H : Two w a0 a1) :
    Calls Tryd.prog 15 #[.string key, .string nonce, .string ad, .string t] w fun e w' => e = .returned (tagRes key nonce ad t) ∧ Below w.heap.size w w' := by
  have HF := Lib.hid (BoxErr.boxFault key nonce ad t hk hn ha ht a0 a1 w H)
  have HT := Lib.hid H
  clear H hk hn ha ht
  unfold tagRes
  rcases cases key nonce ad t a0 a1 with ⟨hc, _, hv⟩ | ⟨hc, _, hv⟩ | ⟨hc, h1, h2, h3, h4, hv⟩
  · rw [hv] at HF
    rw [hc, if_neg (by omega)]
    clear hv hc
    go_enter Tryd.func15, Tryd.ntmps15
    go_wp2_with fail
    refine (HF.out).mono ?_
    rintro e w1 ⟨rfl, rfl⟩
    go_wp2_with fail
    refine (BoxErr.code_long a0 a1 _ HT.out).mono ?_
    rintro e w1 ⟨rfl, rfl⟩
    go_wp2
    go_ret2
    exact ⟨rfl, Below.refl _ _⟩
  · rw [hv] at HF
    rw [hc, if_neg (by omega)]
    clear hv hc
    go_enter Tryd.func15, Tryd.ntmps15
    go_wp2_with fail
    refine (HF.out).mono ?_
    rintro e w1 ⟨rfl, rfl⟩
    go_wp2_with fail
    refine (BoxErr.code_size a0 a1 _ HT.out).mono ?_
    rintro e w1 ⟨rfl, rfl⟩
    go_wp2
    go_ret2
    exact ⟨rfl, Below.refl _ _⟩
  · rw [hv] at HF
    rw [if_pos hc]
    have HB := Lib.hid (BoxTagI.boxTag key nonce h1 h2 ad t h3 h4)
    generalize boxT key nonce ad t = X at *
    clear hv hc h1 h2 h3 h4
    go_enter Tryd.func15, Tryd.ntmps15
    go_wp2_with fail
    refine (HF.out).mono ?_
    rintro e w1 ⟨rfl, rfl⟩
    go_wp2_with fail
    refine (HB.out _).mono ?_
    rintro e w1 ⟨rfl, hb⟩
    have HB1 := Lib.hid hb
    clear hb
    go_wp2
    go_ret2
    exact ⟨rfl, HB1.out⟩

theorem implSeal (key nonce ad t : ByteArray) (hk : key.size ≤ maxLen) (hn : nonce.size ≤ maxLen) (ha : ad.size ≤ maxLen) (ht : t.size ≤ maxLen) (a0 a1 : Addr) (w : World) (H : Two w a0 a1) :
    Calls Tryd.prog 12 #[.string key, .string nonce, .string ad, .string t] w fun e w' => e = .returned (sealRes key nonce ad t) ∧ Below w.heap.size w w' := by
  have HF := Lib.hid (BoxErr.boxFault key nonce ad t hk hn ha ht a0 a1 w H)
  have HT := Lib.hid H
  clear H hk hn ha ht
  unfold sealRes
  rcases cases key nonce ad t a0 a1 with ⟨hc, _, hv⟩ | ⟨hc, _, hv⟩ | ⟨hc, h1, h2, h3, h4, hv⟩
  · rw [hv] at HF
    rw [hc, if_neg (by omega)]
    clear hv hc
    go_enter Tryd.func12, Tryd.ntmps12
    go_wp2_with fail
    refine (HF.out).mono ?_
    rintro e w1 ⟨rfl, rfl⟩
    go_wp2_with fail
    refine (BoxErr.code_long a0 a1 _ HT.out).mono ?_
    rintro e w1 ⟨rfl, rfl⟩
    go_wp2
    go_ret2
    exact ⟨rfl, Below.refl _ _⟩
  · rw [hv] at HF
    rw [hc, if_neg (by omega)]
    clear hv hc
    go_enter Tryd.func12, Tryd.ntmps12
    go_wp2_with fail
    refine (HF.out).mono ?_
    rintro e w1 ⟨rfl, rfl⟩
    go_wp2_with fail
    refine (BoxErr.code_size a0 a1 _ HT.out).mono ?_
    rintro e w1 ⟨rfl, rfl⟩
    go_wp2
    go_ret2
    exact ⟨rfl, Below.refl _ _⟩
  · rw [hv] at HF
    rw [if_pos hc]
    have HX := Lib.hid (ChaXorI.chaXor key nonce h1 h2 1 (by omega) t h4)
    have hxs := xorS_size key nonce 1 t
    have HB := Lib.hid (BoxTagI.boxTag key nonce h1 h2 ad (xorS key nonce 1 t) h3 (by rw [hxs]; exact h4))
    have hbs := boxT_size key nonce ad (xorS key nonce 1 t)
    have HR := Lib.hid (show sealT key nonce ad t = xorS key nonce 1 t ++ boxT key nonce ad (xorS key nonce 1 t) from rfl)
    rw [HR.out]
    generalize boxT key nonce ad (xorS key nonce 1 t) = X at *
    generalize xorS key nonce 1 t = Y at *
    have hs : ¬ 9223372036854775807 < Y.size + X.size := by omega
    clear hv hc h1 h2 h3 h4 hxs hbs
    go_enter Tryd.func12, Tryd.ntmps12
    go_wp2_with fail
    refine (HF.out).mono ?_
    rintro e w1 ⟨rfl, rfl⟩
    go_wp2_with fail
    refine (HX.out _).mono ?_
    rintro e w1 ⟨rfl, hb⟩
    have HB1 := Lib.hid hb
    clear hb
    go_wp2_with fail
    refine (HB.out _).mono ?_
    rintro e w2 ⟨rfl, hb⟩
    have HB2 := Lib.hid (HB1.out.trans (hb.mono HB1.out.size))
    clear hb
    go_wp2
    go_ret2
    exact ⟨rfl, HB2.out⟩

/-- What the program's openBox answers: a text and an error. -/
def openV (key nonce ad t : ByteArray) (a0 a1 a2 : Addr) : Value :=
  if code key nonce ad t = 0 then (if good key nonce ad t = true then .tuple #[.string (xorS key nonce 1 (hid t)), .nilIface] else .tuple #[.string ⟨#[]⟩, ev a2])
  else .tuple #[.string ⟨#[]⟩, faultV key nonce ad t a0 a1]

set_option maxHeartbeats 1600000 in
theorem openBox (key nonce ad t : ByteArray) (hk : key.size ≤ maxLen) (hn : nonce.size ≤ maxLen) (ha : ad.size ≤ maxLen) (ht : t.size ≤ maxLen) (a0 a1 a2 : Addr) (w : World) (H : Three w a0 a1 a2) :
    Calls Tryd.prog 29 #[.string key, .string nonce, .string ad, .string t] w fun e w' => e = .returned (openV key nonce ad t a0 a1 a2) ∧ Below w.heap.size w w' := by
  have HF := Lib.hid (BoxErr.boxFault key nonce ad t hk hn ha ht a0 a1 w H.two)
  have HT := Lib.hid H
  clear H hk hn ha ht
  unfold openV
  rcases cases key nonce ad t a0 a1 with ⟨hc, _, hv⟩ | ⟨hc, _, hv⟩ | ⟨hc, h1, h2, h3, h4, hv⟩
  · rw [hv] at HF
    rw [hv, hc, if_neg (by omega)]
    clear hv hc
    go_enter Tryd.func29, Tryd.ntmps29
    go_wp2_with fail
    refine (HF.out).mono ?_
    rintro e w1 ⟨rfl, rfl⟩
    go_wp2
    go_ret2
    exact ⟨rfl, Below.refl _ _⟩
  · rw [hv] at HF
    rw [hv, hc, if_neg (by omega)]
    clear hv hc
    go_enter Tryd.func29, Tryd.ntmps29
    go_wp2_with fail
    refine (HF.out).mono ?_
    rintro e w1 ⟨rfl, rfl⟩
    go_wp2
    go_ret2
    exact ⟨rfl, Below.refl _ _⟩
  · rw [hv] at HF
    rw [if_pos hc]
    have c2 := HT.out.h2.cell
    clear hv hc
    by_cases h16 : t.size < 16
    · have hg : good key nonce ad t = false := by unfold good; rw [decide_eq_false (by omega)]; rfl
      rw [hg, if_neg (by decide)]
      have d16 : decide ((t.size : Int) < 16) = true := decide_eq_true (by omega)
      clear hg h1 h2 h3
      go_enter Tryd.func29, Tryd.ntmps29
      go_wp2_with fail
      refine (HF.out).mono ?_
      rintro e w1 ⟨rfl, rfl⟩
      go_wp2
      go_quiet (fail)
      go_wp2
      go_ret2
      exact ⟨rfl, below_drewN (Below.refl _ _) _⟩
    · have d16 : decide ((t.size : Int) < 16) = false := decide_eq_false (by omega)
      obtain ⟨m, em⟩ : ∃ m, t.size - 16 = m := ⟨_, rfl⟩
      have HG := Lib.hid (show good key nonce ad t = teq (tg t) (boxT key nonce ad (hid t)) by unfold good; rw [decide_eq_true (by omega)]; rfl)
      have e1 : (t.size : Int) - 16 = (m : Int) := by omega
      have wm : IntKind.i64.wrap (m : Int) = m := by rw [IntKind.wrap_i64]; omega
      have q1 : (m : Int) ≤ (t.size : Int) := by omega
      have q0 : (0 : Int) ≤ (m : Int) := by omega
      have hhs : (hid t).size ≤ 65536 := by unfold hid; rw [ByteArray.size_extract]; omega
      have hts : (tg t).size ≤ 16 := by unfold tg; rw [ByteArray.size_extract]; omega
      have HH := Lib.hid (show hid t = t.extract 0 m by unfold hid; rw [em])
      have HTG := Lib.hid (show tg t = t.extract m t.size by unfold tg; rw [em])
      have HB := Lib.hid (BoxTagI.boxTag key nonce h1 h2 ad (hid t) h3 hhs)
      have hbs := boxT_size key nonce ad (hid t)
      have HE := Lib.hid (TagEq.impl (tg t) (boxT key nonce ad (hid t)) (by unfold maxLen; omega) (by unfold maxLen; omega))
      have HX := Lib.hid (ChaXorI.chaXor key nonce h1 h2 1 (by omega) (hid t) hhs)
      rw [HG.out]
      clear HG
      generalize teq (tg t) (boxT key nonce ad (hid t)) = G at *
      generalize boxT key nonce ad (hid t) = X at *
      generalize xorS key nonce 1 (hid t) = Y at *
      rw [HH.out] at HB HX
      rw [HTG.out] at HE
      clear h1 h2 h3 h4 hhs hts hbs em h16 HH HTG
      go_enter Tryd.func29, Tryd.ntmps29
      go_wp2_with fail
      refine (HF.out).mono ?_
      rintro e w1 ⟨rfl, rfl⟩
      go_wp2
      go_quiet (fail)
      go_wp2_with fail
      refine (HB.out _).mono ?_
      rintro e w2 ⟨rfl, hb⟩
      have HB2 := Lib.hid (show Below w.heap.size w w2 from (below_drewN (Below.refl _ _) _).trans (hb.mono (Nat.le_refl _)))
      clear hb
      go_wp2_with fail
      refine (HE.out _).mono ?_
      rintro e w3 ⟨rfl, hb⟩
      have HB3 := Lib.hid (HB2.out.trans (hb.mono HB2.out.size))
      clear hb HB2 c2
      cases G
      · have c3 := (HT.out.below HB3.out).h2.cell
        go_wp2
        go_quiet (fail)
        go_wp2
        go_ret2
        exact ⟨rfl, below_drewN HB3.out _⟩
      · go_wp2_with fail
        refine (HX.out _).mono ?_
        rintro e w4 ⟨rfl, hb⟩
        have HB4 := Lib.hid (HB3.out.trans (hb.mono HB3.out.size))
        clear hb HB3
        go_wp2
        go_ret2
        exact ⟨rfl, HB4.out⟩

theorem implOpen (key nonce ad t : ByteArray) (hk : key.size ≤ maxLen) (hn : nonce.size ≤ maxLen) (ha : ad.size ≤ maxLen) (ht : t.size ≤ maxLen) (a0 a1 a2 : Addr) (w : World) (H : Three w a0 a1 a2) :
    Calls Tryd.prog 14 #[.string key, .string nonce, .string ad, .string t] w fun e w' => e = .returned (openRes key nonce ad t) ∧ Below w.heap.size w w' := by
  have HO := Lib.hid (openBox key nonce ad t hk hn ha ht a0 a1 a2 w H)
  have HT := Lib.hid H
  clear H hk hn ha ht
  unfold openV at HO
  unfold openRes
  rcases cases key nonce ad t a0 a1 with ⟨hc, _, hv⟩ | ⟨hc, _, hv⟩ | ⟨hc, h1, h2, h3, h4, hv⟩
  · rw [hv, hc, if_neg (by omega)] at HO
    rw [hc, if_neg (by omega)]
    clear hv hc
    go_enter Tryd.func14, Tryd.ntmps14
    go_wp2_with fail
    refine (HO.out).mono ?_
    rintro e w1 ⟨rfl, hb⟩
    have HB := Lib.hid hb
    clear hb
    go_wp2_with fail
    refine (BoxErr.code_long a0 a1 _ (HT.out.below HB.out).two).mono ?_
    rintro e w1 ⟨rfl, rfl⟩
    go_wp2
    go_ret2
    exact ⟨rfl, HB.out⟩
  · rw [hv, hc, if_neg (by omega)] at HO
    rw [hc, if_neg (by omega)]
    clear hv hc
    go_enter Tryd.func14, Tryd.ntmps14
    go_wp2_with fail
    refine (HO.out).mono ?_
    rintro e w1 ⟨rfl, hb⟩
    have HB := Lib.hid hb
    clear hb
    go_wp2_with fail
    refine (BoxErr.code_size a0 a1 _ (HT.out.below HB.out).two).mono ?_
    rintro e w1 ⟨rfl, rfl⟩
    go_wp2
    go_ret2
    exact ⟨rfl, HB.out⟩
  · rw [if_pos hc] at HO
    rw [if_pos hc]
    clear hv hc h1 h2 h3 h4
    generalize good key nonce ad t = G at *
    generalize xorS key nonce 1 (hid t) = Y at *
    cases G
    · rw [if_neg (by decide)] at HO
      rw [if_neg (by decide)]
      go_enter Tryd.func14, Tryd.ntmps14
      go_wp2_with fail
      refine (HO.out).mono ?_
      rintro e w1 ⟨rfl, hb⟩
      have HB := Lib.hid hb
      clear hb
      go_wp2_with fail
      refine (BoxErr.code_tag a0 a1 a2 _ (HT.out.below HB.out)).mono ?_
      rintro e w1 ⟨rfl, rfl⟩
      go_wp2
      go_ret2
      exact ⟨rfl, HB.out⟩
    · rw [if_pos rfl] at HO
      rw [if_pos rfl]
      go_enter Tryd.func14, Tryd.ntmps14
      go_wp2_with fail
      refine (HO.out).mono ?_
      rintro e w1 ⟨rfl, hb⟩
      have HB := Lib.hid hb
      clear hb
      go_wp2_with fail
      refine (BoxErr.code_nil _).mono ?_
      rintro e w1 ⟨rfl, rfl⟩
      go_wp2
      go_ret2
      exact ⟨rfl, HB.out⟩
end Go.Proofs.YtcfdnifllehbjaaDoor.BoxL
