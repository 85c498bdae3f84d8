/-
  What is proved: both ways to open a block answer one plain value (contracts for the walks); the exact law on them returns true (the walk), where the package's errors and errors' own variable stand in their places.
-/
import Derived.Test.YtggobhpjfflooaaGreatDoorRows
import Derived.Test.YtggobhpjfflooaaGreatDoorSealAtL
namespace Go.Proofs.YtggobhpjfflooaaGreatDoor.OpenAtL
open Go.ChangeShapes Go.WideShapes Go.ChangeAt Go.RowKit
open BoxErr (Two Three ev)
open BoxL (hid tg good xorS_size)
open SpXor (xorS)
open As (pv Hnd)
open Nonce (Ok nonT nonT_size nonceFault nonceOf l06In code_hit code_nil)
open Nonce2 (nat_of l06Nonce)
open SealAtL (bk bk_size non non_size ask_ok blockFault l06Ask code_ok)
set_option linter.unusedVariables false

/-- What both OpenAt answer. -/
def openRes (key : ByteArray) (k p e : Int) (t : ByteArray) : Value :=
  if SealAtL.ask key k p e t = 0 then (if good key (non k p e) bk t = true then .tuple #[.string (xorS key (non k p e) 1 (hid t)), .int .i64 0] else .tuple #[.string ⟨#[]⟩, .int .i64 9])
  else .tuple #[.string ⟨#[]⟩, .int .i64 (SealAtL.ask key k p e t)]
theorem open_form (key : ByteArray) (k p e : Int) (t : ByteArray) : ∃ (s : ByteArray) (c : Int), openRes key k p e t = .tuple #[.string s, .int .i64 c] := by
  unfold openRes
  split
  · split
    · exact ⟨_, _, rfl⟩
    · exact ⟨_, _, rfl⟩
  · exact ⟨_, _, rfl⟩
theorem openV_ok (key nonce ad t : ByteArray) (h1 : key.size = 32) (h2 : nonce.size = 12) (h3 : ad.size ≤ 65536) (h4 : t.size ≤ 65536) (a0 a1 a2 : Addr) :
    BoxL.openV key nonce ad t a0 a1 a2 = if good key nonce ad t = true then .tuple #[.string (xorS key nonce 1 (hid t)), .nilIface] else .tuple #[.string ⟨#[]⟩, ev a2] := by
  unfold BoxL.openV
  rw [if_pos (code_ok key nonce ad t h1 h2 h3 h4)]

set_option maxHeartbeats 800000 in
theorem openAt (key : ByteArray) (k p e : Int) (t : ByteArray) (hk : key.size ≤ maxLen) (ht : t.size ≤ maxLen) (a0 a1 a2 : Addr) (w : World) (H : Three w a0 a1 a2) :
    Calls Tryz.prog 26 #[.string key, .int .i64 k, .int .i64 p, .int .i64 e, .string t] w fun ev w' => ev = .returned (if SealAtL.ask key k p e t = 0 then (if good key (non k p e) bk t = true then .tuple #[.string (xorS key (non k p e) 1 (hid t)), .nilIface] else .tuple #[.string ⟨#[]⟩, pv p 9]) else .tuple #[.string ⟨#[]⟩, pv p (SealAtL.ask key k p e t)]) ∧ Below w.heap.size w w' := by
  have HF := Lib.hid (blockFault key k p e t hk ht)
  by_cases hc : SealAtL.ask key k p e t = 0
  · rw [if_pos hc] at HF ⊢
    obtain ⟨h1, h2, h3⟩ := ask_ok hc
    obtain ⟨K, P, E, rfl, rfl, rfl, hK, _, hP, hE⟩ := nat_of h3
    have HNO := Lib.hid (nonceOf K P E hK hP hE)
    have hns := nonT_size K P E
    have HS := Lib.hid (fun u (h : Three u a0 a1 a2) => BoxL.openBox key (nonT K P E) bk t hk (by rw [hns]; unfold maxLen; omega) (by rw [bk_size]; unfold maxLen; omega) ht a0 a1 a2 u h)
    rw [openV_ok key (nonT K P E) bk t h1 hns (by rw [bk_size]; omega) h2] at HS
    have HR := Lib.hid (show non (K : Int) (P : Int) (E : Int) = nonT K P E by unfold non; rw [Int.toNat_natCast, Int.toNat_natCast, Int.toNat_natCast])
    rw [HR.out]
    have HT := Lib.hid H
    generalize xorS key (nonT K P E) 1 (hid t) = X at *
    generalize good key (nonT K P E) bk t = G at *
    generalize nonT K P E = NT at *
    clear hc h1 h2 h3 hK hP hE H hk ht hns HR
    cases G
    · rw [if_neg (by decide)] at HS ⊢
      go_enter Tryz.func26, Tryz.ntmps26
      go_wp2_with fail
      refine (HF.out _).mono ?_
      rintro e' w1 ⟨rfl, rfl⟩
      go_wp2_with fail
      refine (HNO.out _).mono ?_
      rintro e' w1 ⟨rfl, hb⟩
      have HB := Lib.hid hb
      clear hb
      go_wp2_with fail
      refine (HS.out _ (HT.out.below HB.out)).mono ?_
      rintro e' w2 ⟨rfl, hb⟩
      have HB2 := Lib.hid (HB.out.trans (hb.mono HB.out.size))
      clear hb HB
      go_wp2_with fail
      refine (BoxErr.code_tag a0 a1 a2 _ (HT.out.below HB2.out)).mono ?_
      rintro e' w3 ⟨rfl, rfl⟩
      go_wp2
      go_ret2
      exact ⟨rfl, HB2.out⟩
    · rw [if_pos rfl] at HS ⊢
      go_enter Tryz.func26, Tryz.ntmps26
      go_wp2_with fail
      refine (HF.out _).mono ?_
      rintro e' w1 ⟨rfl, rfl⟩
      go_wp2_with fail
      refine (HNO.out _).mono ?_
      rintro e' w1 ⟨rfl, hb⟩
      have HB := Lib.hid hb
      clear hb
      go_wp2_with fail
      refine (HS.out _ (HT.out.below HB.out)).mono ?_
      rintro e' w2 ⟨rfl, hb⟩
      have HB2 := Lib.hid (HB.out.trans (hb.mono HB.out.size))
      clear hb HB
      go_wp2
      go_ret2
      exact ⟨rfl, HB2.out⟩
  · rw [if_neg hc] at HF ⊢
    generalize SealAtL.ask key k p e t = c at *
    clear hc H hk ht
    go_enter Tryz.func26, Tryz.ntmps26
    go_wp2_with fail
    refine (HF.out _).mono ?_
    rintro e' w1 ⟨rfl, rfl⟩
    go_wp2
    go_ret2
    exact ⟨rfl, Below.refl _ _⟩

theorem impl (key : ByteArray) (k p e : Int) (t : ByteArray) (hk : key.size ≤ maxLen) (ht : t.size ≤ maxLen) (a0 a1 a2 : Addr) (w : World) (H : Three w a0 a1 a2) (HN : Hnd w) :
    Calls Tryz.prog 10 #[.string key, .int .i64 k, .int .i64 p, .int .i64 e, .string t] w fun ev w' => ev = .returned (openRes key k p e t) ∧ Below w.heap.size w w' := by
  have HO := Lib.hid (openAt key k p e t hk ht a0 a1 a2 w H)
  have HG := Lib.hid HN
  unfold openRes
  by_cases hc : SealAtL.ask key k p e t = 0
  · rw [if_pos hc] at HO ⊢
    generalize xorS key (non k p e) 1 (hid t) = X at *
    generalize good key (non k p e) bk t = G at *
    clear hc H HN hk ht
    cases G
    · rw [if_neg (by decide)] at HO ⊢
      go_enter Tryz.func10, Tryz.ntmps10
      go_wp2_with fail
      refine (HO.out).mono ?_
      rintro e' w1 ⟨rfl, hb⟩
      have HB := Lib.hid hb
      clear hb
      go_wp2_with fail
      refine (code_hit p 9 _ (HG.out.below HB.out)).mono ?_
      rintro e' w2 ⟨rfl, hb⟩
      have HB2 := Lib.hid (HB.out.trans (hb.mono HB.out.size))
      clear hb
      go_wp2
      go_ret2
      exact ⟨rfl, HB2.out⟩
    · rw [if_pos rfl] at HO ⊢
      go_enter Tryz.func10, Tryz.ntmps10
      go_wp2_with fail
      refine (HO.out).mono ?_
      rintro e' w1 ⟨rfl, hb⟩
      have HB := Lib.hid hb
      clear hb
      go_wp2_with fail
      refine (code_nil _).mono ?_
      rintro e' w2 ⟨rfl, hb⟩
      have HB2 := Lib.hid (HB.out.trans (hb.mono HB.out.size))
      clear hb
      go_wp2
      go_ret2
      exact ⟨rfl, HB2.out⟩
  · rw [if_neg hc] at HO ⊢
    generalize SealAtL.ask key k p e t = c at *
    clear hc H HN hk ht
    go_enter Tryz.func10, Tryz.ntmps10
    go_wp2_with fail
    refine (HO.out).mono ?_
    rintro e' w1 ⟨rfl, hb⟩
    have HB := Lib.hid hb
    clear hb
    go_wp2_with fail
    refine (code_hit p c _ (HG.out.below HB.out)).mono ?_
    rintro e' w2 ⟨rfl, hb⟩
    have HB2 := Lib.hid (HB.out.trans (hb.mono HB.out.size))
    clear hb
    go_wp2
    go_ret2
    exact ⟨rfl, HB2.out⟩

theorem l06Open (key : ByteArray) (K P E : Nat) (hK : K ≤ 3) (hP : P < 40) (hE : E ≤ 1099511627776) (t : ByteArray) (h1 : key.size = 32) (h2 : t.size ≤ 65536) (w : World) :
    Calls Tryz.prog 33 #[.string key, .int .i64 (K : Int), .int .i64 (P : Int), .int .i64 (E : Int), .string t] w fun ev w' => ev = .returned (if good key (nonT K P E) bk t = true then .tuple #[.string (xorS key (nonT K P E) 1 (hid t)), .bool true] else .tuple #[.string ⟨#[]⟩, .bool false]) ∧ Below w.heap.size w w' := by
  have HNO := Lib.hid (l06Nonce K P E hK hP hE)
  have hns := nonT_size K P E
  have HS := Lib.hid (BoxS.opened key (nonT K P E) bk t h1 hns (by rw [bk_size]; omega) h2)
  unfold BoxS.openM at HS
  generalize xorS key (nonT K P E) 1 (hid t) = X at *
  generalize good key (nonT K P E) bk t = G at *
  generalize nonT K P E = NT at *
  clear hK hP hE h1 h2 hns
  cases G
  · rw [if_neg (by decide)] at HS ⊢
    go_enter Tryz.func33, Tryz.ntmps33
    go_wp2_with fail
    refine (HNO.out _).mono ?_
    rintro e' w1 ⟨rfl, hb⟩
    have HB := Lib.hid hb
    clear hb
    go_wp2_with fail
    refine (HS.out _).mono ?_
    rintro e' w2 ⟨rfl, hb⟩
    have HB2 := Lib.hid (HB.out.trans (hb.mono HB.out.size))
    clear hb
    go_wp2
    go_ret2
    exact ⟨rfl, HB2.out⟩
  · rw [if_pos rfl] at HS ⊢
    go_enter Tryz.func33, Tryz.ntmps33
    go_wp2_with fail
    refine (HNO.out _).mono ?_
    rintro e' w1 ⟨rfl, hb⟩
    have HB := Lib.hid hb
    clear hb
    go_wp2_with fail
    refine (HS.out _).mono ?_
    rintro e' w2 ⟨rfl, hb⟩
    have HB2 := Lib.hid (HB.out.trans (hb.mono HB.out.size))
    clear hb
    go_wp2
    go_ret2
    exact ⟨rfl, HB2.out⟩

set_option maxHeartbeats 800000 in
theorem spec (key : ByteArray) (k p e : Int) (t : ByteArray) (hk : key.size ≤ maxLen) (ht : t.size ≤ maxLen) (w : World) :
    Calls Tryz.prog 16 #[.string key, .int .i64 k, .int .i64 p, .int .i64 e, .string t] w fun ev w' => ev = .returned (openRes key k p e t) ∧ Below w.heap.size w w' := by
  have HA := Lib.hid (l06Ask key k p e t hk ht)
  unfold maxLen at hk ht
  unfold openRes
  by_cases l0 : 65536 < key.size
  · have ha : SealAtL.ask key k p e t = 2 := by unfold SealAtL.ask; rw [if_pos (.inl l0)]
    rw [ha, if_neg (by decide)]
    have d0 : decide (65536 < (key.size : Int)) = true := decide_eq_true (by omega)
    clear ha
    go_enter Tryz.func16, Tryz.ntmps16
    go_wp2_with fail
    go_ret2
    exact ⟨rfl, Below.refl _ _⟩
  have d0 : decide (65536 < (key.size : Int)) = false := decide_eq_false (by omega)
  by_cases l1 : 65536 < t.size
  · have ha : SealAtL.ask key k p e t = 2 := by unfold SealAtL.ask; rw [if_pos (.inr l1)]
    rw [ha, if_neg (by decide)]
    have d1 : decide (65536 < (t.size : Int)) = true := decide_eq_true (by omega)
    clear ha
    go_enter Tryz.func16, Tryz.ntmps16
    go_wp2_with fail
    go_ret2
    exact ⟨rfl, Below.refl _ _⟩
  have d1 : decide (65536 < (t.size : Int)) = false := decide_eq_false (by omega)
  by_cases hc : SealAtL.ask key k p e t = 0
  · rw [if_pos hc]
    rw [hc] at HA
    obtain ⟨h1, h2, h3⟩ := ask_ok hc
    obtain ⟨K, P, E, rfl, rfl, rfl, hK, _, hP, hE⟩ := nat_of h3
    have HS := Lib.hid (l06Open key K P E hK hP hE t h1 h2)
    have HR := Lib.hid (show non (K : Int) (P : Int) (E : Int) = nonT K P E by unfold non; rw [Int.toNat_natCast, Int.toNat_natCast, Int.toNat_natCast])
    rw [HR.out]
    generalize xorS key (nonT K P E) 1 (hid t) = X at *
    generalize good key (nonT K P E) bk t = G at *
    clear hc h1 h2 h3 hK hP hE hk ht HR l0 l1
    cases G
    · rw [if_neg (by decide)] at HS ⊢
      go_enter Tryz.func16, Tryz.ntmps16
      go_wp2_with fail
      refine (HA.out _).mono ?_
      rintro e' w1 ⟨rfl, rfl⟩
      go_wp2_with fail
      refine (HS.out _).mono ?_
      rintro e' w2 ⟨rfl, hb⟩
      have HB2 := Lib.hid hb
      clear hb
      go_wp2
      go_ret2
      exact ⟨rfl, HB2.out⟩
    · rw [if_pos rfl] at HS ⊢
      go_enter Tryz.func16, Tryz.ntmps16
      go_wp2_with fail
      refine (HA.out _).mono ?_
      rintro e' w1 ⟨rfl, rfl⟩
      go_wp2_with fail
      refine (HS.out _).mono ?_
      rintro e' w2 ⟨rfl, hb⟩
      have HB2 := Lib.hid hb
      clear hb
      go_wp2
      go_ret2
      exact ⟨rfl, HB2.out⟩
  · rw [if_neg hc]
    generalize SealAtL.ask key k p e t = c at *
    have b0 : (c != 0) = true := by simp [hc]
    clear hc hk ht l0 l1
    go_enter Tryz.func16, Tryz.ntmps16
    go_wp2_with fail
    refine (HA.out _).mono ?_
    rintro e' w1 ⟨rfl, rfl⟩
    go_wp2
    go_ret2
    exact ⟨rfl, Below.refl _ _⟩

theorem walkOpen (key : ByteArray) (k p e : Int) (t : ByteArray) (hk : key.size ≤ maxLen) (ht : t.size ≤ maxLen) (a0 a1 a2 : Addr) (w : World) (H : Three w a0 a1 a2) (HN : Hnd w) :
    Calls Tryz.prog 4 #[.string key, .int .i64 k, .int .i64 p, .int .i64 e, .string t] w fun e w' => e = .returned (.bool true) ∧ Below w.heap.size w w' := by
  by_cases h0 : 1048576 < key.size
  · unfold maxLen at hk
    go_enter Tryz.func4, Tryz.ntmps4
    go_wp2_with fail
    go_ret
    exact ⟨rfl, Below.refl _ _⟩
  have d0 : decide (1048576 < (key.size : Int)) = false := decide_eq_false (by omega)
  by_cases h1 : 1048576 < t.size
  · unfold maxLen at ht
    go_enter Tryz.func4, Tryz.ntmps4
    go_wp2_with fail
    go_ret
    exact ⟨rfl, Below.refl _ _⟩
  have d1 : decide (1048576 < (t.size : Int)) = false := decide_eq_false (by omega)
  obtain ⟨s, cc, hres⟩ := open_form key k p e t
  have HS := Lib.hid (spec key k p e t hk ht)
  have HI := Lib.hid (fun u (h : Three u a0 a1 a2) (g : Hnd u) => impl key k p e t hk ht a0 a1 a2 u h g)
  rw [hres] at HS HI
  have HE := Lib.hid H
  have HG := Lib.hid HN
  clear hres H h0 h1 hk ht HN
  go_enter Tryz.func4, Tryz.ntmps4
  go_wp2_with fail
  refine (HS.out _).mono ?_
  rintro e w1 ⟨rfl, hb1⟩
  have HB := Lib.hid hb1
  clear hb1
  go_wp2_with fail
  refine (HI.out _ (HE.out.below HB.out) (HG.out.below HB.out)).mono ?_
  rintro e w2 ⟨rfl, hb2⟩
  have HB2 := Lib.hid hb2
  clear hb2
  go_wp2
  go_ret
  exact ⟨rfl, HB.out.trans (HB2.out.mono HB.out.size)⟩
end Go.Proofs.YtggobhpjfflooaaGreatDoor.OpenAtL
