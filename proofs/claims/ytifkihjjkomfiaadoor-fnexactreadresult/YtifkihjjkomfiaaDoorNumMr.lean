/-
  What is proved: the model's reading of a number: the number of a text of digits as they are told, and of no other text (contracts for the walks).
-/
import Derived.Test.YtifkihjjkomfiaaDoorRows
import Derived.Test.YtifkihjjkomfiaaDoorWordsMr
namespace Go.Proofs.YtifkihjjkomfiaaDoor.NumMr
open Go.ChangeShapes Go.WideShapes Go.ChangeAt Go.RowKit
open Dev Orm Box3 Txt TxtRr Dig
open WordsMr (byte_at ext_list)
set_option linter.unusedVariables false

theorem dec_head (n : Nat) : 0 < n → ((Lib.decDigits n).getD 0 0).toNat ≠ 48 := by
  induction n using Nat.strongRecOn with
  | _ n ih =>
    intro hn
    by_cases h : n < 10
    · rw [Lib.decDigits_one h]
      show (UInt8.ofNat (48 + n)).toNat ≠ 48
      rw [of48 n h]
      omega
    · rw [Lib.decDigits, dif_neg h]
      have h2 := ih (n / 10) (by omega) (by omega)
      have hne := dec_ne (n / 10)
      generalize Lib.decDigits (n / 10) = l at *
      cases l with
      | nil => exact absurd rfl hne
      | cons c r => exact h2
theorem dec_zero (n : Nat) (h : ((Lib.decDigits n).getD 0 0).toNat = 48) : (Lib.decDigits n).length = 1 := by
  by_cases h0 : 0 < n
  · exact absurd h (dec_head n h0)
  · obtain rfl : n = 0 := by omega
    rw [Lib.decDigits_one (by omega)]
    rfl
/-- What reading a number tells. -/
def Nm (L : B) (n : Int) (q : Bool) : Prop := -1000000000000000000 < n ∧ n < 1000000000000000000 ∧ ∀ m : Nat, m < 1000000000000000000 → L = Lib.decDigits m → n = m ∧ q = true
def NPost (L : B) (e : Ending) : Prop := ∃ (n : Int) (q : Bool), e = .returned (.tuple #[.int .i64 n, .bool q]) ∧ Hid (Nm L n q)
theorem nm_no {L : B} (h : ∀ m : Nat, m < 1000000000000000000 → L ≠ Lib.decDigits m) (n : Int) (q : Bool) (h1 : -1000000000000000000 < n) (h2 : n < 1000000000000000000) : Nm L n q := ⟨h1, h2, fun m hm e => absurd e (h m hm)⟩
theorem dv_step (L : B) (k v : Nat) (hk : k < L.length) (h : dv 0 L = dv v (L.drop k)) : dv 0 L = dv (v * 10 + ((L.getD k 0).toNat - 48)) (L.drop (k + 1)) := by
  rw [h, List.drop_eq_getElem_cons hk, List.getD_eq_getElem?_getD, List.getElem?_eq_getElem hk]
  rfl
theorem pow_le (k v : Nat) (h : v < 10 ^ k) (hk : k ≤ 17) : v < 100000000000000000 := Nat.lt_of_lt_of_le h (Nat.pow_le_pow_right (by decide) hk)
theorem pow_le8 (k v : Nat) (h : v < 10 ^ k) (hk : k ≤ 18) : v < 1000000000000000000 := Nat.lt_of_lt_of_le h (Nat.pow_le_pow_right (by decide) hk)
theorem not_digit {L : B} (k : Nat) (hk : k < L.length) (h : ¬ IsD (L.getD k 0)) (m : Nat) : L ≠ Lib.decDigits m := by
  rintro rfl
  refine h (dec_digit m _ ?_)
  rw [List.getD_eq_getElem?_getD, List.getElem?_eq_getElem hk]
  exact List.getElem_mem _

set_option maxRecDepth 100000 in
set_option maxHeartbeats 3200000 in
theorem l00Number (s : ByteArray) (hs : s.size ≤ 65536) (w : World) :
    Calls Tryd.prog 36 #[.string s] w fun e w' => NPost s.data.toList e ∧ w = w' := by
  have HB := Lib.hid (byte_at s)
  have HL : Hid (s.data.toList.length = s.size) := Lib.hid rfl
  have HX : Hid ((s.extract 1 s.size).size = s.size - 1) := Lib.hid (by rw [ByteArray.size_extract]; omega)
  have HBT := Lib.hid (byte_at (s.extract 1 s.size))
  have HBS := Lib.hid (byte_at s)
  generalize hL : s.data.toList = L at *
  by_cases h0 : s.size = 0
  · have HN := Lib.hid (nm_no (L := L) (fun m hm e => dec_ne m (by rw [← e]; exact List.length_eq_zero_iff.1 (by have := HL.out; omega))) 0 false (by omega) (by omega))
    have g0 : ¬ (0 : Int) < (s.size : Int) := by omega
    have b0 : ((s.size : Int) == 0) = true := beq_iff_eq.2 (by omega)
    clear h0 hL
    go_enter Tryd.func36, Tryd.ntmps36
    go_wp2
    go_ret2
    exact ⟨⟨_, _, rfl, HN⟩, rfl⟩
  have g0 : (0 : Int) < (s.size : Int) := by omega
  have hp : 0 < s.size := by omega
  have b0 : ((s.size : Int) == 0) = false := beq_eq_false_iff_ne.2 (by omega)
  by_cases h45 : L.getD 0 0 = 45
  · have b45 : ((s[0].toNat : Int) == 45) = true := by rw [← HB.out 0 hp, h45]; rfl
    have HNO := Lib.hid (show ∀ m : Nat, m < 1000000000000000000 → L ≠ Lib.decDigits m from fun m _ => not_digit 0 (by have := HL.out; omega) (by rw [h45]; unfold IsD; decide) m)
    have HNK := Lib.hid (show ∀ (n : Int) (q : Bool), -1000000000000000000 < n → n < 1000000000000000000 → Nm L n q from fun n q => nm_no HNO.out n q)
    have hx := HX.out
    have HBT2 := HBT
    obtain ⟨T, eT⟩ : ∃ T, s.extract 1 s.size = T := ⟨_, rfl⟩
    rw [eT] at hx HBT2
    have hts : T.size ≤ 65536 := by omega
    have HBN := HBT2
    clear h45 hL HX HBT h0 HNO
    by_cases h18 : 18 < T.size
    · have g18 : (18 : Int) < (T.size : Int) := by omega
      have b1 : ((T.size : Int) == 0) = false := beq_eq_false_iff_ne.2 (by omega)
      have HN := Lib.hid (HNK.out 0 false (by omega) (by omega))
      clear h18
      go_enter Tryd.func36, Tryd.ntmps36
      go_wp2
      go_ret2
      exact ⟨⟨_, _, rfl, HN⟩, rfl⟩
    have g18 : ¬ (18 : Int) < (T.size : Int) := by omega
    by_cases ht0 : T.size = 0
    · have b1 : ((T.size : Int) == 0) = true := beq_iff_eq.2 (by omega)
      have HN := Lib.hid (HNK.out 0 false (by omega) (by omega))
      clear ht0 hx h18
      go_enter Tryd.func36, Tryd.ntmps36
      go_wp2
      go_ret2
      exact ⟨⟨_, _, rfl, HN⟩, rfl⟩
    have b1 : ((T.size : Int) == 0) = false := beq_eq_false_iff_ne.2 (by omega)
    have ht : 0 < T.size := by omega
    have g1 : (0 : Int) < (T.size : Int) := by omega
    clear ht0 hx
    by_cases h48 : T[0].toNat = 48
    · have b48 : ((T[0].toNat : Int) == 48) = true := beq_iff_eq.2 (by omega)
      have HN := Lib.hid (HNK.out 0 false (by omega) (by omega))
      clear h48 h18
      by_cases hs1 : (1 : Int) < (T.size : Int)
      · go_enter Tryd.func36, Tryd.ntmps36
        go_wp2
        go_ret2
        exact ⟨⟨_, _, rfl, HN⟩, rfl⟩
      · go_enter Tryd.func36, Tryd.ntmps36
        go_wp2
        go_ret2
        exact ⟨⟨_, _, rfl, HN⟩, rfl⟩
    have b48 : ((T[0].toNat : Int) == 48) = false := beq_eq_false_iff_ne.2 (by omega)
    clear h48
    go_enter Tryd.func36, Tryd.ntmps36
    go_wp2
    go_loop [5, 6] (fun n i => ∃ v k : Nat, k ≤ T.size ∧ n = .int .i64 v ∧ i = .int .i64 k ∧ Hid (v < 10 ^ k) ∧ Hid (dv 0 T.data.toList = dv v (T.data.toList.drop k))) (fun _ i => T.size - (intOf i).toNat)
    case atStart => exact ⟨0, 0, by omega, rfl, rfl, Lib.hid (by decide), Lib.hid rfl⟩
    case round =>
      obtain ⟨v, k, hk, rfl, rfl, HP, HD⟩ := hrel
      by_cases hlt : k < T.size
      · have hv := pow_le k v HP.out (by omega)
        by_cases hlo : T[k].toNat < 48
        · have g2 : (T[k].toNat : Int) < 48 := by omega
          have HN := Lib.hid (HNK.out 0 false (by omega) (by omega))
          clear hlo
          go_wp2
          go_ret2
          exact ⟨⟨_, _, rfl, HN⟩, rfl⟩
        have g2 : ¬ (T[k].toNat : Int) < 48 := by omega
        by_cases hhi : 57 < T[k].toNat
        · have g3 : (57 : Int) < (T[k].toNat : Int) := by omega
          have HN := Lib.hid (HNK.out 0 false (by omega) (by omega))
          clear hhi hlo
          go_wp2
          go_ret2
          exact ⟨⟨_, _, rfl, HN⟩, rfl⟩
        have g3 : ¬ (57 : Int) < (T[k].toNat : Int) := by omega
        have HS := Lib.hid (dv_step T.data.toList k v (by first | exact hlt | (have := HL.out; omega)) HD.out)
        rw [HBT2.out k hlt] at HS
        have HP2 := Lib.hid (show v * 10 + (T[k].toNat - 48) < 10 ^ (k + 1) by have := HP.out; rw [Nat.pow_succ]; omega)
        have HE := Lib.hid (show ((v * 10 + (T[k].toNat - 48) : Nat) : Int) = (v : Int) * 10 + (T[k].toNat : Int) - 48 by omega)
        clear HD HP
        go_wp2
        go_round
        case rel => exact ⟨v * 10 + (T[k].toNat - 48), k + 1, by omega, by rw [HE.out], by go_num, HP2, HS⟩
        case measure => simp [intOf]; omega
      · have hv := pow_le8 k v HP.out (by omega)
        have HV := Lib.hid (show dv 0 T.data.toList = v from HD.out.trans (by rw [List.drop_eq_nil_of_le (by first | (have := HL.out; omega) | (show T.data.toList.length ≤ k; have h9 : T.data.toList.length = T.size := rfl; omega))]; rfl))
        have HN := Lib.hid (show Nm L (-(v : Int)) true from HNK.out _ _ (by omega) (by omega))
        go_wp2
        go_ret2
        refine ⟨⟨_, _, rfl, ?_⟩, rfl⟩
        first | exact HN | (refine Lib.hid ?_; have := HN.out; simpa using this)
  · have b45 : ((s[0].toNat : Int) == 45) = false := beq_eq_false_iff_ne.2 (fun e => h45 (by rw [HB.out 0 hp]; exact UInt8.toNat_inj.1 (show s[0].toNat = 45 by omega)))
    have HBT2 := HBS
    have HLB := HB
    have HNK := Lib.hid (show ∀ (n : Int) (q : Bool), (∀ m : Nat, m < 1000000000000000000 → L ≠ Lib.decDigits m) → -1000000000000000000 < n → n < 1000000000000000000 → Nm L n q from fun n q h => nm_no h n q)
    have HLEN := Lib.hid (show ∀ m : Nat, m < 1000000000000000000 → L = Lib.decDigits m → L.length ≤ 18 from fun m hm e => by rw [e]; exact dec_len 17 m hm)
    have HZER := Lib.hid (show ∀ m : Nat, L = Lib.decDigits m → (L.getD 0 0).toNat = 48 → L.length = 1 from fun m e h => by rw [e] at h ⊢; exact dec_zero m h)
    have HDIG := Lib.hid (show ∀ k (hk : k < s.size), ¬ IsD s[k] → ∀ m : Nat, L ≠ Lib.decDigits m from fun k hk h => not_digit k (by have := HL.out; omega) (by rw [HB.out k hk]; exact h))
    clear h45 h0 HX HBT hL
    by_cases h18 : 18 < s.size
    · have g18 : (18 : Int) < (s.size : Int) := by omega
      have b1 : ((s.size : Int) == 0) = false := beq_eq_false_iff_ne.2 (by omega)
      have HN := Lib.hid (HNK.out 0 false (fun m hm e => by have := HLEN.out m hm e; have := HL.out; omega) (by omega) (by omega))
      clear h18
      go_enter Tryd.func36, Tryd.ntmps36
      go_wp2
      go_ret2
      exact ⟨⟨_, _, rfl, HN⟩, rfl⟩
    have g18 : ¬ (18 : Int) < (s.size : Int) := by omega
    have ht : 0 < s.size := hp
    have HK48 : Hid ((s[0].toNat = 48 ∧ 1 < s.size) ∨ (s[0].toNat = 48 ∧ ¬ 1 < s.size) ∨ ¬ s[0].toNat = 48) := Lib.hid (by omega)
    rcases HK48.out with ⟨h48, hs1⟩ | ⟨h48, hs1⟩ | h48
    · have b48 : ((s[0].toNat : Int) == 48) = true := beq_iff_eq.2 (by omega)
      have g9 : (1 : Int) < (s.size : Int) := by omega
      have HN := Lib.hid (HNK.out 0 false (fun m hm e => by have := HZER.out m e (by rw [HB.out 0 hp]; exact h48); have := HL.out; omega) (by omega) (by omega))
      clear h48 h18
      go_enter Tryd.func36, Tryd.ntmps36
      go_wp2
      go_ret2
      exact ⟨⟨_, _, rfl, HN⟩, rfl⟩
    · have b48 : ((s[0].toNat : Int) == 48) = true := beq_iff_eq.2 (by omega)
      have g9 : ¬ (1 : Int) < (s.size : Int) := by omega
      clear h48
      go_enter Tryd.func36, Tryd.ntmps36
      go_wp2
      go_loop [5, 6] (fun n i => ∃ v k : Nat, k ≤ s.size ∧ n = .int .i64 v ∧ i = .int .i64 k ∧ Hid (v < 10 ^ k) ∧ Hid (dv 0 L = dv v (L.drop k))) (fun _ i => s.size - (intOf i).toNat)
      case atStart => exact ⟨0, 0, by omega, rfl, rfl, Lib.hid (by decide), Lib.hid rfl⟩
      case round =>
        obtain ⟨v, k, hk, rfl, rfl, HP, HD⟩ := hrel
        by_cases hlt : k < s.size
        · have hv := pow_le k v HP.out (by omega)
          by_cases hlo : s[k].toNat < 48
          · have g2 : (s[k].toNat : Int) < 48 := by omega
            have HN := Lib.hid (HNK.out 0 false (fun m hm => HDIG.out k hlt (by unfold IsD; omega) m) (by omega) (by omega))
            clear hlo
            go_wp2
            go_ret2
            exact ⟨⟨_, _, rfl, HN⟩, rfl⟩
          have g2 : ¬ (s[k].toNat : Int) < 48 := by omega
          by_cases hhi : 57 < s[k].toNat
          · have g3 : (57 : Int) < (s[k].toNat : Int) := by omega
            have HN := Lib.hid (HNK.out 0 false (fun m hm => HDIG.out k hlt (by unfold IsD; omega) m) (by omega) (by omega))
            clear hhi hlo
            go_wp2
            go_ret2
            exact ⟨⟨_, _, rfl, HN⟩, rfl⟩
          have g3 : ¬ (57 : Int) < (s[k].toNat : Int) := by omega
          have HS := Lib.hid (dv_step L k v (by first | exact hlt | (have := HL.out; omega)) HD.out)
          rw [HBT2.out k hlt] at HS
          have HP2 := Lib.hid (show v * 10 + (s[k].toNat - 48) < 10 ^ (k + 1) by have := HP.out; rw [Nat.pow_succ]; omega)
          have HE := Lib.hid (show ((v * 10 + (s[k].toNat - 48) : Nat) : Int) = (v : Int) * 10 + (s[k].toNat : Int) - 48 by omega)
          clear HD HP
          go_wp2
          go_round
          case rel => exact ⟨v * 10 + (s[k].toNat - 48), k + 1, by omega, by rw [HE.out], by go_num, HP2, HS⟩
          case measure => simp [intOf]; omega
        · have hv := pow_le8 k v HP.out (by omega)
          have HV := Lib.hid (show dv 0 L = v from HD.out.trans (by rw [List.drop_eq_nil_of_le (by first | (have := HL.out; omega) | (show s.data.toList.length ≤ k; have h9 : s.data.toList.length = s.size := rfl; omega))]; rfl))
          have HN := Lib.hid (show Nm L ((v : Int)) true from ⟨by omega, by omega, fun m hm e => ⟨by rw [← HV.out] ; rw [e, dv_dec], rfl⟩⟩)
          go_wp2
          go_ret2
          refine ⟨⟨_, _, rfl, ?_⟩, rfl⟩
          first | exact HN | (refine Lib.hid ?_; have := HN.out; simpa using this)
    · have b48 : ((s[0].toNat : Int) == 48) = false := beq_eq_false_iff_ne.2 (by omega)
      clear h48
      go_enter Tryd.func36, Tryd.ntmps36
      go_wp2
      go_loop [5, 6] (fun n i => ∃ v k : Nat, k ≤ s.size ∧ n = .int .i64 v ∧ i = .int .i64 k ∧ Hid (v < 10 ^ k) ∧ Hid (dv 0 L = dv v (L.drop k))) (fun _ i => s.size - (intOf i).toNat)
      case atStart => exact ⟨0, 0, by omega, rfl, rfl, Lib.hid (by decide), Lib.hid rfl⟩
      case round =>
        obtain ⟨v, k, hk, rfl, rfl, HP, HD⟩ := hrel
        by_cases hlt : k < s.size
        · have hv := pow_le k v HP.out (by omega)
          by_cases hlo : s[k].toNat < 48
          · have g2 : (s[k].toNat : Int) < 48 := by omega
            have HN := Lib.hid (HNK.out 0 false (fun m hm => HDIG.out k hlt (by unfold IsD; omega) m) (by omega) (by omega))
            clear hlo
            go_wp2
            go_ret2
            exact ⟨⟨_, _, rfl, HN⟩, rfl⟩
          have g2 : ¬ (s[k].toNat : Int) < 48 := by omega
          by_cases hhi : 57 < s[k].toNat
          · have g3 : (57 : Int) < (s[k].toNat : Int) := by omega
            have HN := Lib.hid (HNK.out 0 false (fun m hm => HDIG.out k hlt (by unfold IsD; omega) m) (by omega) (by omega))
            clear hhi hlo
            go_wp2
            go_ret2
            exact ⟨⟨_, _, rfl, HN⟩, rfl⟩
          have g3 : ¬ (57 : Int) < (s[k].toNat : Int) := by omega
          have HS := Lib.hid (dv_step L k v (by first | exact hlt | (have := HL.out; omega)) HD.out)
          rw [HBT2.out k hlt] at HS
          have HP2 := Lib.hid (show v * 10 + (s[k].toNat - 48) < 10 ^ (k + 1) by have := HP.out; rw [Nat.pow_succ]; omega)
          have HE := Lib.hid (show ((v * 10 + (s[k].toNat - 48) : Nat) : Int) = (v : Int) * 10 + (s[k].toNat : Int) - 48 by omega)
          clear HD HP
          go_wp2
          go_round
          case rel => exact ⟨v * 10 + (s[k].toNat - 48), k + 1, by omega, by rw [HE.out], by go_num, HP2, HS⟩
          case measure => simp [intOf]; omega
        · have hv := pow_le8 k v HP.out (by omega)
          have HV := Lib.hid (show dv 0 L = v from HD.out.trans (by rw [List.drop_eq_nil_of_le (by first | (have := HL.out; omega) | (show s.data.toList.length ≤ k; have h9 : s.data.toList.length = s.size := rfl; omega))]; rfl))
          have HN := Lib.hid (show Nm L ((v : Int)) true from ⟨by omega, by omega, fun m hm e => ⟨by rw [← HV.out] ; rw [e, dv_dec], rfl⟩⟩)
          go_wp2
          go_ret2
          refine ⟨⟨_, _, rfl, ?_⟩, rfl⟩
          first | exact HN | (refine Lib.hid ?_; have := HN.out; simpa using this)

end Go.Proofs.YtifkihjjkomfiaaDoor.NumMr
