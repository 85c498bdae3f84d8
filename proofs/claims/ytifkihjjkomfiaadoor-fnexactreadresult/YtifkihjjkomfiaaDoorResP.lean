/-
  What is proved: plain facts on results: what is right, its words and its text. Nothing of the program.
-/
import Derived.Test.YtifkihjjkomfiaaDoorRows
import Derived.Test.YtifkihjjkomfiaaDoorCodesR
import Derived.Test.YtifkihjjkomfiaaDoorDig
namespace Go.Proofs.YtifkihjjkomfiaaDoor.ResP
open Txt Dig
open CodesR (wordAt wordOf words)
set_option linter.unusedVariables false

def Vk (z : Int) : Prop := 0 ≤ z ∧ z ≤ 999999
instance (z : Int) : Decidable (Vk z) := by unfold Vk; infer_instance
/-- A result. -/
def ROk (c : Int) (vs : List Int) : Prop := (0 ≤ c ∧ c ≤ 19) ∧ vs.length ≤ 32 ∧ (c ≠ 0 → vs = []) ∧ ∀ x ∈ vs, Vk x
theorem rok_iff (c : Int) (vs : List Int) : ROk c vs ↔ (0 ≤ c ∧ c ≤ 19) ∧ vs.length ≤ 32 ∧ (c = 0 ∨ vs.length = 0) ∧ ∀ x ∈ vs, Vk x := by
  unfold ROk
  constructor
  · rintro ⟨h1, h2, h3, h4⟩
    refine ⟨h1, h2, ?_, h4⟩
    by_cases e : c = 0
    · exact .inl e
    · right; rw [h3 e]; rfl
  · rintro ⟨h1, h2, h3, h4⟩
    refine ⟨h1, h2, fun e => ?_, h4⟩
    rcases h3 with h | h
    · exact absurd h e
    · exact List.length_eq_zero_iff.1 h
instance (c : Int) (vs : List Int) : Decidable (ROk c vs) := decidable_of_iff _ (rok_iff c vs).symm
/-- The words of a result; its text. -/
def rW (c : Int) (vs : List Int) : List ByteArray := wordOf c :: vs.map fun x => ds x.toNat
def jnR (ts : List ByteArray) : ByteArray := ⟨(Lib.join (ts.map (·.data.toList)) [32]).toArray⟩
def rB (c : Int) (vs : List Int) : ByteArray := jnR (rW c vs)
theorem join_snoc (sep : B) : ∀ (xs : List B) (y : B), xs ≠ [] → Lib.join (xs ++ [y]) sep = Lib.join xs sep ++ sep ++ y
  | [], _, h => absurd rfl h
  | [x], y, _ => by
    show Lib.join (x :: y :: []) sep = _
    rw [join_cons2, Lib.join_one, Lib.join_one]
  | x :: z :: r, y, _ => by
    show Lib.join (x :: z :: (r ++ [y])) sep = _
    rw [join_cons2, join_cons2]
    have := join_snoc sep (z :: r) y (by simp)
    rw [show z :: (r ++ [y]) = (z :: r) ++ [y] from rfl, this]
    simp
theorem rB_nil (c : Int) : rB c [] = wordOf c := by
  unfold rB jnR rW
  show ByteArray.mk (Lib.join [(wordOf c).data.toList] [32]).toArray = _
  rw [Lib.join_one]
theorem rB_snoc (c : Int) (vs : List Int) (x : Int) : rB c (vs ++ [x]) = rB c vs ++ (⟨#[32]⟩ ++ ds x.toNat) := by
  unfold rB jnR rW
  have e : (wordOf c :: (vs ++ [x]).map fun x => ds x.toNat).map (·.data.toList) = (wordOf c :: vs.map fun x => ds x.toNat).map (·.data.toList) ++ [(ds x.toNat).data.toList] := by simp
  rw [e, join_snoc _ _ _ (by simp)]
  apply ByteArray.ext
  simp [ByteArray.data_append]
theorem dsz (x : Int) (h : Vk x) : (ds x.toNat).size ≤ 18 := ds_size _ (by unfold Vk at h; omega)
theorem word_size (c : Int) : (wordOf c).size ≤ 8 := by
  unfold wordOf
  split
  · rename_i h
    obtain ⟨k, rfl⟩ : ∃ k : Nat, c = k := ⟨c.toNat, by omega⟩
    have hk : k < 20 := by omega
    rw [Int.toNat_natCast]
    have : ∀ k : Fin 20, (wordAt k.val).size ≤ 8 := by decide +kernel
    exact this ⟨k, hk⟩
  · decide
theorem word_some (c : Int) : 0 < (wordOf c).size ↔ 0 ≤ c ∧ c < 20 := by
  unfold wordOf
  by_cases h : 0 ≤ c ∧ c < 20
  · rw [if_pos h]
    obtain ⟨k, rfl⟩ : ∃ k : Nat, c = k := ⟨c.toNat, by omega⟩
    have hk : k < 20 := by omega
    rw [Int.toNat_natCast]
    have : ∀ k : Fin 20, 0 < (wordAt k.val).size := by decide +kernel
    exact ⟨fun _ => h, fun _ => this ⟨k, hk⟩⟩
  · rw [if_neg h]
    exact ⟨fun h => by simp [ByteArray.size] at h, fun h2 => absurd h2 h⟩
theorem rB_size (c : Int) : ∀ (n : Nat) (vs : List Int), vs.length = n → (∀ x ∈ vs, Vk x) → (rB c vs).size ≤ 8 + n * 19
  | 0, vs, h, _ => by
    obtain rfl := List.length_eq_zero_iff.1 h
    rw [rB_nil]
    have := word_size c
    omega
  | n + 1, vs, h, hv => by
    have hne : vs ≠ [] := fun e => by rw [e] at h; simp at h
    have e := List.dropLast_concat_getLast hne
    have hl : vs.dropLast.length = n := by rw [List.length_dropLast, h]; rfl
    have ih := rB_size c n vs.dropLast hl (fun x hx => hv x (List.dropLast_subset _ hx))
    have hd := dsz (vs.getLast hne) (hv _ (List.getLast_mem hne))
    rw [← e, rB_snoc, ByteArray.size_append, ByteArray.size_append]
    have : (ByteArray.mk #[32]).size = 1 := rfl
    omega
theorem rB_join (c : Int) (vs : List Int) (h : vs.length ≤ 32) (hv : ∀ x ∈ vs, Vk x) : (Lib.join ((rW c vs).map (·.data.toList)) [32]).length ≤ 1000 := by
  have h1 := rB_size c vs.length vs rfl hv
  have h2 : (rB c vs).size = (Lib.join ((rW c vs).map (·.data.toList)) [32]).length := List.size_toArray
  have := Nat.mul_le_mul_right 19 h
  omega
theorem take_next (vs : List Int) (k : Nat) (h : k < vs.length) : vs.take (k + 1) = vs.take k ++ [vs.getD k 0] := by
  rw [List.take_add_one, List.getElem?_eq_getElem h, List.getD_eq_getElem?_getD, List.getElem?_eq_getElem h]
  rfl
theorem getD_in (vs : List Int) (k : Nat) (h : k < vs.length) : vs.getD k 0 ∈ vs := by
  rw [List.getD_eq_getElem?_getD, List.getElem?_eq_getElem h]; exact List.getElem_mem h
end Go.Proofs.YtifkihjjkomfiaaDoor.ResP
