/-
  What is proved: both ways to seal a block answer one plain value (contracts for the walks); the exact law on them returns true (the walk), where the package's errors and errors' own variable stand in their places.
-/
import Derived.Test.YtggobhpjfflooaaGreatDoorRows
import Derived.Test.YtggobhpjfflooaaGreatDoorBoxA
import Derived.Test.YtggobhpjfflooaaGreatDoorNonce2
namespace Go.Proofs.YtggobhpjfflooaaGreatDoor.SealAtL
open Go.ChangeShapes Go.WideShapes Go.ChangeAt Go.RowKit
open BoxErr (Two Three)
open BoxL (sealT sealT_size)
open As (pv Hnd)
open Nonce (Ok nonT nonT_size nonceFault nonceOf l06In code_hit)
open Nonce2 (nat_of l06Nonce)
set_option linter.unusedVariables false

/-- The words beside every block. -/
abbrev bk : ByteArray := { data := #[98, 108, 111, 99, 107] }
/-- The code of a block's faults. -/
def ask (key : ByteArray) (k p e : Int) (t : ByteArray) : Int := if 65536 < key.size ∨ 65536 < t.size then 2 else if key.size = 32 then (if Ok k p e then 0 else 4) else 8
/-- The nonce of a block. -/
def non (k p e : Int) : ByteArray := nonT k.toNat p.toNat e.toNat
theorem non_size (k p e : Int) : (non k p e).size = 12 := nonT_size _ _ _
/-- What both SealAt answer. -/
def sealRes (key : ByteArray) (k p e : Int) (t : ByteArray) : Value := if ask key k p e t = 0 then .tuple #[.string (sealT key (non k p e) bk t), .int .i64 0] else .tuple #[.string ⟨#[]⟩, .int .i64 (ask key k p e t)]
theorem seal_form (key : ByteArray) (k p e : Int) (t : ByteArray) : ∃ (s : ByteArray) (c : Int), sealRes key k p e t = .tuple #[.string s, .int .i64 c] := by
  unfold sealRes
  split
  · exact ⟨_, _, rfl⟩
  · exact ⟨_, _, rfl⟩
/-- What a block without a fault is. -/
theorem ask_ok {key : ByteArray} {k p e : Int} {t : ByteArray} (h : ask key k p e t = 0) : key.size = 32 ∧ t.size ≤ 65536 ∧ Ok k p e := by
  unfold ask at h
  by_cases h1 : 65536 < key.size ∨ 65536 < t.size
  · rw [if_pos h1] at h
    exact absurd h (by decide)
  · rw [if_neg h1] at h
    by_cases h2 : key.size = 32
    · rw [if_pos h2] at h
      by_cases h3 : Ok k p e
      · exact ⟨h2, by omega, h3⟩
      · rw [if_neg h3] at h
        exact absurd h (by decide)
    · rw [if_neg h2] at h
      exact absurd h (by decide)

theorem blockFault (key : ByteArray) (k p e : Int) (t : ByteArray) (hk : key.size ≤ maxLen) (ht : t.size ≤ maxLen) (w : World) :
    Calls Tryz.prog 20 #[.string key, .int .i64 k, .int .i64 p, .int .i64 e, .string t] w fun ev w' => ev = .returned (if ask key k p e t = 0 then .nilIface else pv p (ask key k p e t)) ∧ w = w' := by
  unfold maxLen at hk ht
  by_cases l0 : 65536 < key.size
  · have ha : ask key k p e t = 2 := by unfold ask; rw [if_pos (.inl l0)]
    rw [ha, if_neg (by decide)]
    have d0 : decide (65536 < (key.size : Int)) = true := decide_eq_true (by omega)
    clear ha
    go_enter Tryz.func20, Tryz.ntmps20
    go_wp2_with fail
    go_ret
    exact ⟨rfl, rfl⟩
  have d0 : decide (65536 < (key.size : Int)) = false := decide_eq_false (by omega)
  by_cases l1 : 65536 < t.size
  · have ha : ask key k p e t = 2 := by unfold ask; rw [if_pos (.inr l1)]
    rw [ha, if_neg (by decide)]
    have d1 : decide (65536 < (t.size : Int)) = true := decide_eq_true (by omega)
    clear ha
    go_enter Tryz.func20, Tryz.ntmps20
    go_wp2_with fail
    go_ret
    exact ⟨rfl, rfl⟩
  have d1 : decide (65536 < (t.size : Int)) = false := decide_eq_false (by omega)
  by_cases l2 : key.size = 32
  · have f1 : ((key.size : Int) != 32) = false := by simp; omega
    have ha : ask key k p e t = if Ok k p e then 0 else 4 := by unfold ask; rw [if_neg (by omega), if_pos l2]
    have HF := Lib.hid (nonceFault k p e)
    have hV : (if ask key k p e t = 0 then Value.nilIface else pv p (ask key k p e t)) = if Ok k p e then .nilIface else pv p 4 := by
      rw [ha]
      by_cases h3 : Ok k p e
      · rw [if_pos h3, if_pos rfl, if_pos h3]
      · rw [if_neg h3, if_neg (by decide), if_neg h3]
    rw [hV]
    generalize (if Ok k p e then Value.nilIface else pv p 4) = V at *
    clear ha hV l0 l1 l2
    go_enter Tryz.func20, Tryz.ntmps20
    go_wp2_with fail
    refine (HF.out _).mono ?_
    rintro e' w1 ⟨rfl, rfl⟩
    go_wp2
    go_ret
    exact ⟨rfl, rfl⟩
  · have f1 : ((key.size : Int) != 32) = true := by simp; omega
    have ha : ask key k p e t = 8 := by unfold ask; rw [if_neg (by omega), if_neg l2]
    rw [ha, if_neg (by decide)]
    clear ha l0 l1 l2
    go_enter Tryz.func20, Tryz.ntmps20
    go_wp2_with fail
    go_ret
    exact ⟨rfl, rfl⟩

theorem l06Ask (key : ByteArray) (k p e : Int) (t : ByteArray) (hk : key.size ≤ maxLen) (ht : t.size ≤ maxLen) (w : World) :
    Calls Tryz.prog 24 #[.string key, .int .i64 k, .int .i64 p, .int .i64 e, .string t] w fun ev w' => ev = .returned (.int .i64 (ask key k p e t)) ∧ w = w' := by
  unfold maxLen at hk ht
  by_cases l0 : 65536 < key.size
  · have ha : ask key k p e t = 2 := by unfold ask; rw [if_pos (.inl l0)]
    rw [ha]
    have d0 : decide (65536 < (key.size : Int)) = true := decide_eq_true (by omega)
    clear ha
    go_enter Tryz.func24, Tryz.ntmps24
    go_wp2_with fail
    go_ret
    exact ⟨rfl, rfl⟩
  have d0 : decide (65536 < (key.size : Int)) = false := decide_eq_false (by omega)
  by_cases l1 : 65536 < t.size
  · have ha : ask key k p e t = 2 := by unfold ask; rw [if_pos (.inr l1)]
    rw [ha]
    have d1 : decide (65536 < (t.size : Int)) = true := decide_eq_true (by omega)
    clear ha
    go_enter Tryz.func24, Tryz.ntmps24
    go_wp2_with fail
    go_ret
    exact ⟨rfl, rfl⟩
  have d1 : decide (65536 < (t.size : Int)) = false := decide_eq_false (by omega)
  by_cases l2 : key.size = 32
  · have f1 : ((key.size : Int) != 32) = false := by simp; omega
    have HF := Lib.hid (l06In k p e)
    by_cases h3 : Ok k p e
    · have ha : ask key k p e t = 0 := by unfold ask; rw [if_neg (by omega), if_pos l2, if_pos h3]
      rw [ha]
      rw [decide_eq_true h3] at HF
      clear ha l0 l1 l2 h3
      go_enter Tryz.func24, Tryz.ntmps24
      go_wp2_with fail
      refine (HF.out _).mono ?_
      rintro e' w1 ⟨rfl, rfl⟩
      go_wp2
      go_ret
      exact ⟨rfl, rfl⟩
    · have ha : ask key k p e t = 4 := by unfold ask; rw [if_neg (by omega), if_pos l2, if_neg h3]
      rw [ha]
      rw [decide_eq_false h3] at HF
      clear ha l0 l1 l2 h3
      go_enter Tryz.func24, Tryz.ntmps24
      go_wp2_with fail
      refine (HF.out _).mono ?_
      rintro e' w1 ⟨rfl, rfl⟩
      go_wp2
      go_ret
      exact ⟨rfl, rfl⟩
  · have f1 : ((key.size : Int) != 32) = true := by simp; omega
    have ha : ask key k p e t = 8 := by unfold ask; rw [if_neg (by omega), if_neg l2]
    rw [ha]
    clear ha l0 l1 l2
    go_enter Tryz.func24, Tryz.ntmps24
    go_wp2_with fail
    go_ret
    exact ⟨rfl, rfl⟩

theorem code_ok (key nonce ad t : ByteArray) (h1 : key.size = 32) (h2 : nonce.size = 12) (h3 : ad.size ≤ 65536) (h4 : t.size ≤ 65536) : BoxErr.code key nonce ad t = 0 := by
  unfold BoxErr.code
  rw [if_neg (by unfold BoxErr.long; omega), if_pos ⟨h1, h2⟩]
theorem seal_ok (key nonce ad t : ByteArray) (h1 : key.size = 32) (h2 : nonce.size = 12) (h3 : ad.size ≤ 65536) (h4 : t.size ≤ 65536) : BoxL.sealRes key nonce ad t = .tuple #[.string (sealT key nonce ad t), .int .i64 0] := by
  unfold BoxL.sealRes
  rw [if_pos (code_ok key nonce ad t h1 h2 h3 h4)]
theorem bk_size : bk.size = 5 := rfl

set_option maxHeartbeats 800000 in
theorem impl (key : ByteArray) (k p e : Int) (t : ByteArray) (hk : key.size ≤ maxLen) (ht : t.size ≤ maxLen) (a0 a1 : Addr) (w : World) (H : Two w a0 a1) (HN : Hnd w) :
    Calls Tryz.prog 8 #[.string key, .int .i64 k, .int .i64 p, .int .i64 e, .string t] w fun ev w' => ev = .returned (sealRes key k p e t) ∧ Below w.heap.size w w' := by
  have HF := Lib.hid (blockFault key k p e t hk ht)
  unfold sealRes
  by_cases hc : ask key k p e t = 0
  · rw [if_pos hc] at HF ⊢
    obtain ⟨h1, h2, h3⟩ := ask_ok hc
    obtain ⟨K, P, E, rfl, rfl, rfl, hK, _, hP, hE⟩ := nat_of h3
    have HNO := Lib.hid (nonceOf K P E hK hP hE)
    have hns := nonT_size K P E
    have HS := Lib.hid (fun u (h : Two u a0 a1) => BoxL.implSeal key (nonT K P E) bk t hk (by rw [hns]; unfold maxLen; omega) (by rw [bk_size]; unfold maxLen; omega) ht a0 a1 u h)
    rw [seal_ok key (nonT K P E) bk t h1 hns (by rw [bk_size]; omega) h2] at HS
    have HR := Lib.hid (show sealT key (non (K : Int) (P : Int) (E : Int)) bk t = sealT key (nonT K P E) bk t by unfold non; rw [Int.toNat_natCast, Int.toNat_natCast, Int.toNat_natCast])
    rw [HR.out]
    have HT := Lib.hid H
    generalize sealT key (nonT K P E) bk t = X at *
    generalize nonT K P E = NT at *
    clear hc h1 h2 h3 hK hP hE H HN hk ht hns HR
    go_enter Tryz.func8, Tryz.ntmps8
    go_wp2_with fail
    refine (HF.out _).mono ?_
    rintro e' w1 ⟨rfl, rfl⟩
    go_wp2_with fail
    refine (HNO.out _).mono ?_
    rintro e' w1 ⟨rfl, hb⟩
    have HB := Lib.hid hb
    clear hb
    go_wp2_with fail
    refine (HS.out _ (HT.out.below HB.out)).mono ?_
    rintro e' w2 ⟨rfl, hb⟩
    have HB2 := Lib.hid (HB.out.trans (hb.mono HB.out.size))
    clear hb
    go_wp2
    go_ret2
    exact ⟨rfl, HB2.out⟩
  · rw [if_neg hc] at HF ⊢
    have HC := Lib.hid (code_hit p (ask key k p e t) w HN)
    generalize ask key k p e t = c at *
    clear hc H HN hk ht
    go_enter Tryz.func8, Tryz.ntmps8
    go_wp2_with fail
    refine (HF.out _).mono ?_
    rintro e' w1 ⟨rfl, rfl⟩
    go_wp2_with fail
    refine (HC.out).mono ?_
    rintro e' w1 ⟨rfl, hb⟩
    have HB := Lib.hid hb
    clear hb
    go_wp2
    go_ret2
    exact ⟨rfl, HB.out⟩

theorem l06Seal (key : ByteArray) (K P E : Nat) (hK : K ≤ 3) (hP : P < 40) (hE : E ≤ 1099511627776) (t : ByteArray) (h1 : key.size = 32) (h2 : t.size ≤ 65536) (w : World) :
    Calls Tryz.prog 25 #[.string key, .int .i64 (K : Int), .int .i64 (P : Int), .int .i64 (E : Int), .string t] w fun ev w' => ev = .returned (.string (sealT key (nonT K P E) bk t)) ∧ Below w.heap.size w w' := by
  have HNO := Lib.hid (l06Nonce K P E hK hP hE)
  have hns := nonT_size K P E
  have HS := Lib.hid (BoxS.sealM key (nonT K P E) bk t h1 hns (by rw [bk_size]; omega) h2)
  generalize sealT key (nonT K P E) bk t = X at *
  generalize nonT K P E = NT at *
  clear hK hP hE h1 h2 hns
  go_enter Tryz.func25, Tryz.ntmps25
  go_wp2_with fail
  refine (HNO.out _).mono ?_
  rintro e' w1 ⟨rfl, hb⟩
  have HB := Lib.hid hb
  clear hb
  go_wp2_with fail
  refine (HS.out _).mono ?_
  rintro e' w2 ⟨rfl, hb⟩
  have HB2 := Lib.hid (HB.out.trans (hb.mono HB.out.size))
  clear hb
  go_wp2
  go_ret
  exact ⟨rfl, HB2.out⟩

set_option maxHeartbeats 800000 in
theorem spec (key : ByteArray) (k p e : Int) (t : ByteArray) (hk : key.size ≤ maxLen) (ht : t.size ≤ maxLen) (w : World) :
    Calls Tryz.prog 9 #[.string key, .int .i64 k, .int .i64 p, .int .i64 e, .string t] w fun ev w' => ev = .returned (sealRes key k p e t) ∧ Below w.heap.size w w' := by
  have HA := Lib.hid (l06Ask key k p e t hk ht)
  unfold maxLen at hk ht
  unfold sealRes
  by_cases l0 : 65536 < key.size
  · have ha : ask key k p e t = 2 := by unfold ask; rw [if_pos (.inl l0)]
    rw [ha, if_neg (by decide)]
    have d0 : decide (65536 < (key.size : Int)) = true := decide_eq_true (by omega)
    clear ha
    go_enter Tryz.func9, Tryz.ntmps9
    go_wp2_with fail
    go_ret2
    exact ⟨rfl, Below.refl _ _⟩
  have d0 : decide (65536 < (key.size : Int)) = false := decide_eq_false (by omega)
  by_cases l1 : 65536 < t.size
  · have ha : ask key k p e t = 2 := by unfold ask; rw [if_pos (.inr l1)]
    rw [ha, if_neg (by decide)]
    have d1 : decide (65536 < (t.size : Int)) = true := decide_eq_true (by omega)
    clear ha
    go_enter Tryz.func9, Tryz.ntmps9
    go_wp2_with fail
    go_ret2
    exact ⟨rfl, Below.refl _ _⟩
  have d1 : decide (65536 < (t.size : Int)) = false := decide_eq_false (by omega)
  by_cases hc : ask key k p e t = 0
  · rw [if_pos hc]
    rw [hc] at HA
    obtain ⟨h1, h2, h3⟩ := ask_ok hc
    obtain ⟨K, P, E, rfl, rfl, rfl, hK, _, hP, hE⟩ := nat_of h3
    have HS := Lib.hid (l06Seal key K P E hK hP hE t h1 h2)
    have HR := Lib.hid (show sealT key (non (K : Int) (P : Int) (E : Int)) bk t = sealT key (nonT K P E) bk t by unfold non; rw [Int.toNat_natCast, Int.toNat_natCast, Int.toNat_natCast])
    rw [HR.out]
    generalize sealT key (nonT K P E) bk t = X at *
    clear hc h1 h2 h3 hK hP hE hk ht HR l0 l1
    go_enter Tryz.func9, Tryz.ntmps9
    go_wp2_with fail
    refine (HA.out _).mono ?_
    rintro e' w1 ⟨rfl, rfl⟩
    go_wp2_with fail
    refine (HS.out _).mono ?_
    rintro e' w2 ⟨rfl, hb⟩
    have HB2 := Lib.hid hb
    clear hb
    go_wp2
    go_ret2
    exact ⟨rfl, HB2.out⟩
  · rw [if_neg hc]
    generalize ask key k p e t = c at *
    have b0 : (c != 0) = true := by simp [hc]
    clear hc hk ht l0 l1
    go_enter Tryz.func9, Tryz.ntmps9
    go_wp2_with fail
    refine (HA.out _).mono ?_
    rintro e' w1 ⟨rfl, rfl⟩
    go_wp2
    go_ret2
    exact ⟨rfl, Below.refl _ _⟩

end Go.Proofs.YtggobhpjfflooaaGreatDoor.SealAtL
