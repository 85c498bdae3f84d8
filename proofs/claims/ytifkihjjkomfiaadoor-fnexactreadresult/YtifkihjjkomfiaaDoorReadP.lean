/-
  What is proved: plain facts on reading a result: its words, that no two results have the same, and what who reads answers. Nothing of the program.
-/
import Derived.Test.YtifkihjjkomfiaaDoorRows
import Derived.Test.YtifkihjjkomfiaaDoorResP
import Derived.Test.YtifkihjjkomfiaaDoorTxtRr
namespace Go.Proofs.YtifkihjjkomfiaaDoor.ReadP
open Txt Dig ResP TxtRr
open CodesR (wordAt wordOf codeOf codeOf_hit)
set_option linter.unusedVariables false

def rP (c : Int) (vs : List Int) : List B := (wordOf c).data.toList :: vs.map dd
theorem rW_data (c : Int) (vs : List Int) : (rW c vs).map (·.data.toList) = rP c vs := by
  unfold rW rP
  rw [List.map_cons, List.map_map]
  rfl
theorem rB_data (c : Int) (vs : List Int) : (rB c vs).data.toList = Lib.join (rP c vs) [32] := by
  unfold rB jnR
  rw [rW_data]
theorem word_wd (c : Int) (h : 0 ≤ c ∧ c ≤ 19) : Wd (wordOf c).data.toList := by
  unfold wordOf
  rw [if_pos (by omega)]
  obtain ⟨k, rfl⟩ : ∃ k : Nat, c = k := ⟨c.toNat, by omega⟩
  rw [Int.toNat_natCast]
  have hk : k < 20 := by omega
  have h1 : ∀ k : Fin 20, (wordAt k.val).data.toList ≠ [] := by decide +kernel
  have h2 : ∀ k : Fin 20, ¬ (32 : UInt8) ∈ (wordAt k.val).data.toList := by decide +kernel
  exact ⟨h1 ⟨k, hk⟩, h2 ⟨k, hk⟩⟩
theorem dd_wd (n : Int) : Wd (dd n) := by
  refine ⟨dec_ne _, fun hm => ?_⟩
  have h := dec_digit n.toNat 32 hm
  have e : (32 : UInt8).toNat = 32 := rfl
  unfold IsD at h
  omega
theorem rP_wd {c : Int} {vs : List Int} (h : ROk c vs) : ∀ p ∈ rP c vs, Wd p := by
  intro p hp
  rcases List.mem_cons.1 hp with rfl | hp
  · exact word_wd c h.1
  · obtain ⟨x, _, rfl⟩ := List.mem_map.1 hp
    exact dd_wd x
theorem word_ne : ∀ i j : Fin 20, i.val < j.val → ((wordAt i.val).toList == (wordAt j.val).toList) = false := by decide +kernel
theorem codeOf_word (c : Int) (h : 0 ≤ c ∧ c ≤ 19) : codeOf (wordOf c) = c := by
  unfold wordOf
  rw [if_pos (by omega)]
  obtain ⟨k, rfl⟩ : ∃ k : Nat, c = k := ⟨c.toNat, by omega⟩
  rw [Int.toNat_natCast]
  have hk : k < 20 := by omega
  exact codeOf_hit _ k hk (by simp) (fun j hj => word_ne ⟨j, by omega⟩ ⟨k, hk⟩ hj)
theorem ext_data {a b : ByteArray} (h : a.data.toList = b.data.toList) : a = b := ByteArray.ext (Array.toList_inj.1 h)
/-- What the words of a right result are read as. -/
theorem parse {c : Int} {vs : List Int} (h : ROk c vs) {t0 : ByteArray} {ts : List ByteArray} (e : rP c vs = (t0 :: ts).map (·.data.toList)) : codeOf t0 = c ∧ ts.map (fun t => av t.data.toList) = vs := by
  rw [List.map_cons] at e
  unfold rP at e
  injection e with e1 e2
  obtain rfl : wordOf c = t0 := ext_data e1
  refine ⟨codeOf_word c h.1, ?_⟩
  have : ts.map (fun t => av t.data.toList) = (ts.map (·.data.toList)).map av := by rw [List.map_map]; rfl
  rw [this, ← e2, List.map_map]
  have hv := h.2.2.2
  clear e1 e2 this h
  induction vs with
  | nil => rfl
  | cons x r ih =>
    rw [List.map_cons, ih (fun y hy => hv y (List.mem_cons_of_mem _ hy))]
    have hx := hv x List.mem_cons_self
    unfold Vk at hx
    show av (dd x) :: r = x :: r
    rw [av_dd x hx.1 (by omega)]
/-- The text of a right result is the words' just if its words are. -/
theorem join_iff {ws : List B} (hw : ∀ x ∈ ws, Wd x) {c : Int} {vs : List Int} (h : ROk c vs) : Lib.join (rP c vs) [32] = Lib.join ws [32] ↔ rP c vs = ws :=
  ⟨fun e => join_inj (rP_wd h) hw e, fun e => by rw [e]⟩
/-- What a reading answers of words. -/
def An (ws : List B) (c : Int) (vs : List Int) (q : Bool) : Prop := (q = true → ROk c vs ∧ rP c vs = ws) ∧ ∀ c' vs', ROk c' vs' → rP c' vs' = ws → c' = c ∧ vs' = vs ∧ q = true
/-- What ReadResult answers of a text. -/
def RA (s : ByteArray) (c : Int) (vs : List Int) (k : Int) : Prop :=
  (65536 < s.size ∧ c = 0 ∧ vs = [] ∧ k = 2) ∨ (¬ 65536 < s.size ∧ ((k = 0 ∧ ROk c vs ∧ rP c vs = wds s.data.toList) ∨ (k = 3 ∧ c = 0 ∧ vs = [] ∧ ∀ c' vs', ROk c' vs' → ¬ rP c' vs' = wds s.data.toList)))
theorem rP_inj {c c' : Int} {vs vs' : List Int} (h : ROk c vs) (h' : ROk c' vs') (e : rP c vs = rP c' vs') : c = c' ∧ vs = vs' := by
  have e2 : rP c' vs' = (wordOf c' :: vs'.map fun x => ds x.toNat).map (·.data.toList) := (rW_data c' vs').symm
  obtain ⟨h1, h2⟩ := parse h (e.trans e2)
  obtain ⟨h3, h4⟩ := parse h' e2
  exact ⟨h1.symm.trans h3, h2.symm.trans h4⟩
theorem ra_same {s : ByteArray} {c c' : Int} {vs vs' : List Int} {k k' : Int} (h : RA s c vs k) (h' : RA s c' vs' k') : c = c' ∧ vs = vs' ∧ k = k' := by
  rcases h with ⟨h0, h1, h2, h3⟩ | ⟨h0, h⟩
  · rcases h' with ⟨_, g1, g2, g3⟩ | ⟨g0, _⟩
    · exact ⟨h1.trans g1.symm, h2.trans g2.symm, h3.trans g3.symm⟩
    · exact absurd h0 g0
  · rcases h' with ⟨g0, _⟩ | ⟨_, h'⟩
    · exact absurd g0 h0
    · rcases h with ⟨k0, ok, e⟩ | ⟨k0, c0, v0, no⟩
      · rcases h' with ⟨k1, ok', e'⟩ | ⟨_, _, _, no⟩
        · obtain ⟨e1, e2⟩ := rP_inj ok ok' (e.trans e'.symm)
          exact ⟨e1, e2, k0.trans k1.symm⟩
        · exact absurd e (no _ _ ok)
      · rcases h' with ⟨_, ok', e'⟩ | ⟨k1, c1, v1, _⟩
        · exact absurd e' (no _ _ ok')
        · exact ⟨c0.trans c1.symm, v0.trans v1.symm, k0.trans k1.symm⟩
theorem ra_long {s : ByteArray} (h : 65536 < s.size) : RA s 0 [] 2 := .inl ⟨h, rfl, rfl, rfl⟩
theorem ra_yes {s : ByteArray} {c : Int} {vs : List Int} (h : ¬ 65536 < s.size) (ha : An (wds s.data.toList) c vs true) : RA s c vs 0 := .inr ⟨h, .inl ⟨rfl, ha.1 rfl⟩⟩
theorem ra_no {s : ByteArray} {c : Int} {vs : List Int} (h : ¬ 65536 < s.size) (ha : An (wds s.data.toList) c vs false) : RA s 0 [] 3 :=
  .inr ⟨h, .inr ⟨rfl, rfl, rfl, fun c' vs' hok e => by have := (ha.2 c' vs' hok e).2.2; cases this⟩⟩
theorem an_none {ws : List B} (h : ∀ c' vs', ROk c' vs' → ¬ rP c' vs' = ws) (c : Int) (vs : List Int) : An ws c vs false := ⟨fun h => (by cases h), fun c' vs' hok e => absurd e (h c' vs' hok)⟩
theorem rP_ne (c : Int) (vs : List Int) : rP c vs ≠ [] := by unfold rP; simp
end Go.Proofs.YtifkihjjkomfiaaDoor.ReadP
