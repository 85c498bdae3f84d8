/-
  What is proved: plain facts on texts: digits, words between blanks, pieces between cuts, and that a right batch's text is read back piece by piece (nothing of the program).
-/
import Derived.Test.YtifkihjjkomfiaaDoorRows
import Derived.Test.YtifkihjjkomfiaaDoorOrm
import Derived.Lib.ItoaNum
import Derived.Lib.Join
namespace Go.Proofs.YtifkihjjkomfiaaDoor.Txt
open Orm
set_option linter.unusedVariables false

abbrev B := List UInt8
/-- The digits of a number that is not negative. -/
def dd (n : Int) : B := Lib.decDigits n.toNat
def IsD (c : UInt8) : Prop := 48 ≤ c.toNat ∧ c.toNat ≤ 57
theorem of48 (u : Nat) (h : u < 10) : (UInt8.ofNat (48 + u)).toNat = 48 + u := by
  rw [UInt8.toNat_ofNat']
  omega
theorem dec_ne (n : Nat) : Lib.decDigits n ≠ [] := by
  rw [Lib.decDigits]
  split <;> simp
theorem dec_digit : ∀ (n : Nat), ∀ c ∈ Lib.decDigits n, IsD c := by
  intro n
  induction n using Nat.strongRecOn with
  | _ n ih =>
    intro c hc
    rw [Lib.decDigits] at hc
    split at hc
    · rename_i h
      rw [List.mem_singleton] at hc
      subst hc
      unfold IsD
      rw [of48 n h]
      omega
    · rename_i h
      rcases List.mem_append.1 hc with h1 | h1
      · exact ih (n / 10) (by omega) c h1
      · rw [List.mem_singleton] at h1
        subst h1
        unfold IsD
        rw [of48 _ (by omega)]
        omega
/-- The number that digits are. -/
def dv (a : Nat) (l : B) : Nat := l.foldl (fun a c => a * 10 + (c.toNat - 48)) a
theorem dv_app (a : Nat) (l r : B) : dv a (l ++ r) = dv (dv a l) r := by unfold dv; rw [List.foldl_append]
theorem dv_dec : ∀ n : Nat, dv 0 (Lib.decDigits n) = n := by
  intro n
  induction n using Nat.strongRecOn with
  | _ n ih =>
    rw [Lib.decDigits]
    split
    · rename_i h
      show 0 * 10 + ((UInt8.ofNat (48 + n)).toNat - 48) = n
      rw [of48 n h]
      omega
    · rename_i h
      rw [dv_app, ih (n / 10) (by omega)]
      show n / 10 * 10 + ((UInt8.ofNat (48 + n % 10)).toNat - 48) = n
      rw [of48 _ (by omega)]
      omega
theorem dec_inj {n m : Nat} (h : Lib.decDigits n = Lib.decDigits m) : n = m := by
  rw [← dv_dec n, h, dv_dec]
theorem dec_len : ∀ (k n : Nat), n < 10 ^ (k + 1) → (Lib.decDigits n).length ≤ k + 1
  | 0, n, h => by
    rw [Lib.decDigits, dif_pos (by simpa using h)]
    simp
  | k + 1, n, h => by
    rw [Lib.decDigits]
    split
    · simp
    · rename_i h1
      rw [List.length_append]
      have := dec_len k (n / 10) (by rw [Nat.pow_succ] at h; omega)
      simp only [List.length_singleton]
      omega
/-- No nought stands ahead of another digit. -/
theorem dec_head : ∀ n : Nat, 0 < n → ∃ c r, Lib.decDigits n = c :: r ∧ c.toNat ≠ 48 := by
  intro n
  induction n using Nat.strongRecOn with
  | _ n ih =>
    intro h0
    rw [Lib.decDigits]
    split
    · rename_i h
      exact ⟨_, [], rfl, by rw [of48 n h]; omega⟩
    · rename_i h
      obtain ⟨c, r, e, hc⟩ := ih (n / 10) (by omega) (by omega)
      exact ⟨c, r ++ [UInt8.ofNat (48 + n % 10)], by rw [e]; rfl, hc⟩
theorem dec_zero : Lib.decDigits 0 = [48] := by rw [Lib.decDigits, dif_pos (by omega)]; rfl
theorem dd_inj {a b : Int} (ha : 0 ≤ a) (hb : 0 ≤ b) (h : dd a = dd b) : a = b := by
  have := dec_inj h
  omega

/-- The pieces between bytes c. -/
def cutA (c : UInt8) (cur : B) : B → List B
  | [] => [cur]
  | x :: r => if x = c then cur :: cutA c [] r else cutA c (cur ++ [x]) r
def cut (c : UInt8) (t : B) : List B := cutA c [] t
theorem cutA_app (c : UInt8) : ∀ (x cur r : B), c ∉ x → cutA c cur (x ++ r) = cutA c (cur ++ x) r
  | [], cur, r, _ => by simp
  | y :: x, cur, r, h => by
    have hy : ¬ y = c := fun e => h (by rw [e]; exact List.mem_cons_self)
    show (if y = c then cur :: cutA c [] (x ++ r) else cutA c (cur ++ [y]) (x ++ r)) = _
    rw [if_neg hy, cutA_app c x (cur ++ [y]) r (fun hm => h (List.mem_cons_of_mem _ hm))]
    simp
theorem cutA_hit (c : UInt8) (x cur r : B) (h : c ∉ x) : cutA c cur (x ++ c :: r) = (cur ++ x) :: cutA c [] r := by
  rw [cutA_app c x cur _ h]
  show (if c = c then _ else _) = _
  rw [if_pos rfl]
theorem cutA_last (c : UInt8) (x cur : B) (h : c ∉ x) : cutA c cur x = [cur ++ x] := by
  have := cutA_app c x cur [] h
  rw [List.append_nil] at this
  rw [this]
  rfl
theorem cutA_cur (c : UInt8) : ∀ (r a b : B), ∃ p ps, cutA c b r = p :: ps ∧ cutA c (a ++ b) r = (a ++ p) :: ps
  | [], a, b => ⟨b, [], rfl, rfl⟩
  | x :: r, a, b => by
    by_cases h : x = c
    · refine ⟨b, cutA c [] r, ?_, ?_⟩
      · show (if x = c then _ else _) = _
        rw [if_pos h]
      · show (if x = c then _ else _) = _
        rw [if_pos h]
    · obtain ⟨p, ps, h1, h2⟩ := cutA_cur c r a (b ++ [x])
      refine ⟨p, ps, ?_, ?_⟩
      · show (if x = c then _ else _) = _
        rw [if_neg h]
        exact h1
      · show (if x = c then _ else _) = _
        rw [if_neg h, List.append_assoc]
        exact h2
theorem cut_ne (c : UInt8) (t : B) : cut c t ≠ [] := by
  obtain ⟨p, ps, h, _⟩ := cutA_cur c t [] []
  unfold cut
  rw [h]
  simp

/-- The words between blanks. -/
def wdsA (cur : B) : B → List B
  | [] => if cur = [] then [] else [cur]
  | x :: r => if x = 32 then (if cur = [] then wdsA [] r else cur :: wdsA [] r) else wdsA (cur ++ [x]) r
def wds (t : B) : List B := wdsA [] t
theorem wdsA_app : ∀ (x cur r : B), (32 : UInt8) ∉ x → wdsA cur (x ++ r) = wdsA (cur ++ x) r
  | [], cur, r, _ => by simp
  | y :: x, cur, r, h => by
    have hy : ¬ y = 32 := fun e => h (by rw [e]; exact List.mem_cons_self)
    show (if y = 32 then (if cur = [] then wdsA [] (x ++ r) else cur :: wdsA [] (x ++ r)) else wdsA (cur ++ [y]) (x ++ r)) = _
    rw [if_neg hy, wdsA_app x (cur ++ [y]) r (fun hm => h (List.mem_cons_of_mem _ hm))]
    simp
theorem wds_blank (t : B) : wds (32 :: t) = wds t := by
  show (if (32 : UInt8) = 32 then (if ([] : B) = [] then wdsA [] t else [] :: wdsA [] t) else wdsA ([] ++ [32]) t) = _
  rw [if_pos rfl, if_pos rfl]
  rfl
theorem wdsA_tail : ∀ (t cur : B), wdsA cur (t ++ [32]) = wdsA cur t
  | [], cur => by
    show (if (32 : UInt8) = 32 then (if cur = [] then wdsA [] [] else cur :: wdsA [] []) else _) = (if cur = [] then [] else [cur])
    rw [if_pos rfl]
    rfl
  | x :: t, cur => by
    show (if x = 32 then (if cur = [] then wdsA [] (t ++ [32]) else cur :: wdsA [] (t ++ [32])) else wdsA (cur ++ [x]) (t ++ [32])) = (if x = 32 then (if cur = [] then wdsA [] t else cur :: wdsA [] t) else wdsA (cur ++ [x]) t)
    rw [wdsA_tail t, wdsA_tail t]
theorem wds_tail (t : B) : wds (t ++ [32]) = wds t := wdsA_tail t []
/-- A word: at least a byte, no blank. -/
def Wd (x : B) : Prop := x ≠ [] ∧ (32 : UInt8) ∉ x
theorem wds_cons (x r : B) (h : Wd x) : wds (x ++ 32 :: r) = x :: wds r := by
  unfold wds
  rw [wdsA_app x [] _ h.2, List.nil_append]
  show (if (32 : UInt8) = 32 then (if x = [] then _ else x :: wdsA [] r) else _) = _
  rw [if_pos rfl, if_neg h.1]
theorem wds_one (x : B) (h : Wd x) : wds x = [x] := by
  have := wdsA_app x [] [] h.2
  rw [List.append_nil, List.nil_append] at this
  unfold wds
  rw [this]
  show (if x = [] then _ else [x]) = _
  rw [if_neg h.1]
theorem wdsA_wd : ∀ (t cur : B), (32 : UInt8) ∉ cur → ∀ x ∈ wdsA cur t, Wd x
  | [], cur, h, x, hx => by
    have hx2 : x ∈ (if cur = [] then ([] : List B) else [cur]) := hx
    split at hx2
    · cases hx2
    · rename_i hc
      rw [List.mem_singleton] at hx2
      subst hx2
      exact ⟨hc, h⟩
  | y :: t, cur, h, x, hx => by
    have hx2 : x ∈ (if y = 32 then (if cur = [] then wdsA [] t else cur :: wdsA [] t) else wdsA (cur ++ [y]) t) := hx
    split at hx2
    · split at hx2
      · exact wdsA_wd t [] (by simp) x hx2
      · rename_i hc
        rcases List.mem_cons.1 hx2 with h1 | h1
        · subst h1
          exact ⟨hc, h⟩
        · exact wdsA_wd t [] (by simp) x h1
    · rename_i hy
      refine wdsA_wd t (cur ++ [y]) ?_ x hx2
      intro hm
      rcases List.mem_append.1 hm with h1 | h1
      · exact h h1
      · rw [List.mem_singleton] at h1
        exact hy h1.symm
theorem wds_wd (t : B) : ∀ x ∈ wds t, Wd x := wdsA_wd t [] (by simp)
theorem join_cons2 (x y : B) (r : List B) (sep : B) : Lib.join (x :: y :: r) sep = x ++ sep ++ Lib.join (y :: r) sep := by
  rw [Lib.join_cons, Lib.join_cons]
  unfold Lib.joinTail
  simp
/-- Words with blanks between are read back. -/
theorem wds_join : ∀ ws : List B, (∀ x ∈ ws, Wd x) → wds (Lib.join ws [32]) = ws
  | [], _ => rfl
  | [x], h => by rw [Lib.join_one]; exact wds_one x (h x List.mem_cons_self)
  | x :: y :: r, h => by
    rw [join_cons2, List.append_assoc]
    show wds (x ++ 32 :: Lib.join (y :: r) [32]) = _
    rw [wds_cons x _ (h x List.mem_cons_self), wds_join (y :: r) (fun z hz => h z (List.mem_cons_of_mem _ hz))]
theorem join_inj {a b : List B} (ha : ∀ x ∈ a, Wd x) (hb : ∀ x ∈ b, Wd x) (h : Lib.join a [32] = Lib.join b [32]) : a = b := by
  rw [← wds_join a ha, h, wds_join b hb]
end Go.Proofs.YtifkihjjkomfiaaDoor.Txt
