/-
  What is proved: the library's strings.Split at one byte gives the pieces between the cut (a contract for the walks).
-/
import Derived.Test.YtidbkamadclchaaDoorRows
import Derived.Test.YtidbkamadclchaaDoorShelf3
import Derived.Test.YtidbkamadclchaaDoorTxtB
import Derived.Lib.SplitLaws
namespace Go.Proofs.YtidbkamadclchaaDoor.SplitC
open Go.ChangeShapes Go.WideShapes Go.ChangeAt Go.RowKit
open Txt
set_option linter.unusedVariables false

theorem index_ne (c x : UInt8) (l : List UInt8) (h : x ≠ c) : Lib.index (x :: l) [c] = if Lib.index l [c] == -1 then -1 else Lib.index l [c] + 1 := by
  have hp : ([c] : List UInt8).isPrefixOf (x :: l) = false := by simp [List.isPrefixOf, Ne.symm h]
  rw [Lib.index, hp]
  simp
theorem index_eq (c : UInt8) (l : List UInt8) : Lib.index (c :: l) [c] = 0 := by rw [Lib.index]; simp [List.isPrefixOf]
theorem succK (sep : List UInt8) (k : Nat) (s : List UInt8) : Lib.splitK sep 0 (k + 1) s = if Lib.index s sep == -1 then [s] else s.take ((Lib.index s sep).toNat + 0) :: Lib.splitK sep 0 k (s.drop ((Lib.index s sep).toNat + sep.length)) := rfl
theorem splitK_ne (c x : UInt8) (l : List UInt8) (h : x ≠ c) : ∀ k, ∃ p ps, Lib.splitK [c] 0 k l = p :: ps ∧ Lib.splitK [c] 0 k (x :: l) = (x :: p) :: ps
  | 0 => ⟨l, [], rfl, rfl⟩
  | k + 1 => by
    have hx := index_ne c x l h
    by_cases hm : Lib.index l [c] = -1
    · have hb : (Lib.index l [c] == -1) = true := beq_iff_eq.2 hm
      rw [if_pos hb] at hx
      refine ⟨l, [], ?_, ?_⟩
      · rw [succK, if_pos hb]
      · rw [succK, if_pos (beq_iff_eq.2 hx)]
    · have hge := Lib.index_ge l [c]
      obtain ⟨j, hj⟩ : ∃ j : Nat, Lib.index l [c] = j := ⟨(Lib.index l [c]).toNat, by omega⟩
      have hb : ¬ (Lib.index l [c] == -1) = true := fun e => hm (beq_iff_eq.1 e)
      rw [if_neg hb, hj] at hx
      have hb2 : ¬ (Lib.index (x :: l) [c] == -1) = true := fun e => by have := beq_iff_eq.1 e; omega
      refine ⟨l.take j, Lib.splitK [c] 0 k (l.drop (j + 1)), ?_, ?_⟩
      · rw [succK, if_neg hb, hj]
        rfl
      · rw [succK, if_neg hb2, hx, show ((j : Int) + 1).toNat = j + 1 by omega]
        rfl
theorem split_cut (c : UInt8) : ∀ (L : List UInt8) (k : Nat), L.count c ≤ k → Lib.splitK [c] 0 k L = cut c L
  | [], 0, _ => rfl
  | [], k + 1, _ => by
    rw [succK, show Lib.index [] [c] = -1 from rfl, if_pos (by decide)]
    rfl
  | x :: l, k, hk => by
    by_cases h : x = c
    · subst h
      rw [List.count_cons_self] at hk
      obtain ⟨n, rfl⟩ : ∃ n, k = n + 1 := ⟨k - 1, by omega⟩
      have hb : ¬ (Lib.index (x :: l) [x] == -1) = true := by rw [index_eq]; decide
      rw [succK, if_neg hb, index_eq]
      show [] :: Lib.splitK [x] 0 n l = cutA x [] (x :: l)
      rw [split_cut x l n (by omega)]
      show _ = (if x = x then [] :: cutA x [] l else _)
      rw [if_pos rfl]
      rfl
    · rw [List.count_cons_of_ne (by simpa using h)] at hk
      obtain ⟨p, ps, h1, h2⟩ := splitK_ne c x l h k
      rw [split_cut c l k hk] at h1
      rw [h2]
      obtain ⟨p', ps', h3, h4⟩ := cutA_cur c l [x] []
      have h1' : cutA c [] l = p :: ps := h1
      rw [h1'] at h3
      injection h3 with e1 e2
      show _ = (if x = c then _ else cutA c ([] ++ [x]) l)
      rw [if_neg h]
      rw [List.append_nil] at h4
      rw [List.nil_append, h4, ← e1, ← e2]
      rfl
set_option maxRecDepth 100000 in
/-- strings.Split at one byte. -/
theorem split (s : ByteArray) (c : UInt8) (hs : s.size ≤ 65536) (w : World) (m : Int) (hm : w.cell? ⟨4, 0, none⟩ = some (.int .i64 m)) :
    Calls Tryd.prog 65 #[.string s, .string ⟨#[c]⟩] w fun e w' => ∃ ts : List ByteArray, e = .returned (.slice (some ⟨w.heap.size, 0, none⟩) ts.length ts.length) ∧ Hid (ts.map (·.data.toList) = cut c s.data.toList) ∧ w' = w.alloc (.cells (ts.map Value.string).toArray 9) := by
  refine (Any.strings_Split Tryd.lays146 (by kernel_rfl) s ⟨#[c]⟩ m w (by omega) hm (Nat.le_refl _)).mono ?_
  rintro e w' ⟨rfl, rfl⟩
  have hl := Lib.splitB_all ⟨#[c]⟩ (Nat.le_refl _) 0 _ s rfl
  refine ⟨Lib.splitB ⟨#[c]⟩ 0 (Lib.countB s ⟨#[c]⟩) s, by rw [hl], Lib.hid ?_, rfl⟩
  rw [Lib.splitB_data]
  exact split_cut c _ _ (by unfold Lib.countB; rw [← Lib.count_one]; exact Nat.le_refl _)
end Go.Proofs.YtidbkamadclchaaDoor.SplitC
