/-
  What is proved: the model's ReadResult answers the right result whose words the text has, and of no other text one (a contract for the walks).
-/
import Derived.Test.YtifkihjjkomfiaaDoorRows
import Derived.Test.YtifkihjjkomfiaaDoorReadP
import Derived.Test.YtifkihjjkomfiaaDoorRsP
import Derived.Test.YtifkihjjkomfiaaDoorResS
import Derived.Test.YtifkihjjkomfiaaDoorN9M
namespace Go.Proofs.YtifkihjjkomfiaaDoor.ReadS
open Go.ChangeShapes Go.WideShapes Go.ChangeAt Go.RowKit
open Sl (Sl Own Off)
open OpenSl (nc tc)
open Dev Box2 LawR ResP ReadP RsP Txt Dig TxtRr OtB N9M
open CodesR (wordOf codeOf wordAt)
set_option linter.unusedVariables false

theorem wdsA_le : ∀ (t cur x : B), x ∈ wdsA cur t → x.length ≤ cur.length + t.length
  | [], cur, x, h => by
    rw [wdsA_nil] at h
    split at h
    · cases h
    · rw [List.mem_singleton] at h; rw [h]; omega
  | y :: t, cur, x, h => by
    have h2 : x ∈ (if y = 32 then (if cur = [] then wdsA [] t else cur :: wdsA [] t) else wdsA (cur ++ [y]) t) := h
    split at h2
    · split at h2
      · have := wdsA_le t [] x h2
        simp only [List.length_cons, List.length_nil] at *
        omega
      · rcases List.mem_cons.1 h2 with h3 | h3
        · rw [h3]; omega
        · have := wdsA_le t [] x h3
          simp only [List.length_cons, List.length_nil] at *
          omega
    · have := wdsA_le t (cur ++ [y]) x h2
      simp only [List.length_cons, List.length_append, List.length_nil] at *
      omega
/-- Words are no longer than their text, and not too many. -/
theorem few {s : ByteArray} {ts : List ByteArray} (h : ts.map (·.data.toList) = wds s.data.toList) (hs : s.size ≤ 65536) : (∀ t ∈ ts, t.size ≤ 65536) ∧ ts.length ≤ 131073 := by
  have hl : s.data.toList.length = s.size := rfl
  constructor
  · intro t ht
    have : t.data.toList ∈ wds s.data.toList := by rw [← h]; exact List.mem_map.2 ⟨t, ht, rfl⟩
    have := wdsA_le _ _ _ this
    have h2 : t.data.toList.length = t.size := rfl
    simp at this
    omega
  · have := wdsA_len s.data.toList []
    have h2 : (wdsA [] s.data.toList).length = ts.length := by
      show (wds s.data.toList).length = _
      rw [← h, List.length_map]
    simp at this
    omega
theorem codeOf_some {t : ByteArray} {c : Int} (h : codeOf t = c) (h0 : 0 ≤ c) : c ≤ 19 ∧ wordOf c = t := by
  unfold codeOf at h
  cases e : (List.range 20).find? (fun j => (wordAt j).toList == t.toList) with
  | none => rw [e] at h; simp only at h; omega
  | some j =>
    rw [e] at h
    simp only at h
    have h1 := List.find?_some e
    have h2 := List.mem_range.1 (List.mem_of_find?_eq_some e)
    have h3 : (wordAt j).toList = t.toList := eq_of_beq h1
    rw [ByteArray.toList_eq, ByteArray.toList_eq] at h3
    refine ⟨by omega, ?_⟩
    unfold wordOf
    rw [if_pos (by omega), show c.toNat = j by omega]
    exact ext_data h3
/-- Both cells of a box are stored. -/
theorem put2 (u : World) (g : Nat) (a b x y : Value) (h : Bx u g a b) : ∃ W, (u.setCell ⟨g, 0, none⟩ x).setCell ⟨g, 1, none⟩ y = W ∧ Bx W g x y ∧ (∀ lo, lo ≤ g → Below lo u W) ∧ ∀ g', g' ≠ g → W.heap[g']? = u.heap[g']? :=
  ⟨_, rfl, (h.set0 x).set1 y, fun lo hl => ((Below.refl lo u).setCell (p := ⟨g, 0, none⟩) hl x).setCell (p := ⟨g, 1, none⟩) hl y, fun g' hne => by rw [Below.heap_setCell _ _ _ g' hne, Below.heap_setCell _ _ _ g' hne]⟩
/-- What both ReadResult answer. -/
def RPost (s : ByteArray) (base : Nat) (w : World) (e : Ending) : Prop := ∃ c v vs k, e = .returned (.tuple #[.agg #[.int .i64 c, v], .int .i64 k]) ∧ Hid (RA s c vs k ∧ Own w base 1 v vs.length (nc vs))
theorem zero_own (w : World) (base : Nat) : Own w base 1 (.slice none 0 0) ([] : List Int).length (nc []) := ⟨none, 0, rfl, Nat.le_refl _, by unfold maxLen; omega, fun h => by simp at h⟩
/-- What the values read so far say. -/
structure Vw (ts : List ByteArray) (k : Nat) (xs : List Int) : Prop where
  len : xs.length = k
  wd : xs.map dd = ((ts.drop 1).take k).map (·.data.toList)
  up : ∀ x ∈ xs, 0 ≤ x ∧ x < 1000000000000000000
theorem Vw.nil (ts : List ByteArray) : Vw ts 0 [] := ⟨rfl, by simp, fun x hx => by cases hx⟩
theorem Vw.next {ts : List ByteArray} {k : Nat} {xs : List Int} (h : Vw ts k xs) (hk : k + 1 < ts.length) {m : Nat} (hm : m < 1000000000000000000) (e : (ts.getD (k + 1) ByteArray.empty).data.toList = Lib.decDigits m) : Vw ts (k + 1) (xs ++ [(m : Int)]) := by
  refine ⟨by rw [List.length_append, h.len]; rfl, ?_, fun x hx => ?_⟩
  · have hd : k < (ts.drop 1).length := by rw [List.length_drop]; omega
    rw [List.take_add_one, List.map_append, List.map_append, h.wd, List.getElem?_drop]
    have e2 : ts[1 + k]? = some (ts.getD (k + 1) ByteArray.empty) := by
      rw [List.getD_eq_getElem?_getD, Nat.add_comm 1 k, List.getElem?_eq_getElem hk]; rfl
    rw [e2]
    show _ ++ [dd (m : Int)] = _ ++ [(ts.getD (k + 1) ByteArray.empty).data.toList]
    rw [e]
    rfl
  · rcases List.mem_append.1 hx with h1 | h1
    · exact h.up x h1
    · rw [List.mem_singleton.1 h1]; omega
/-- All values read: what the answer is. -/
theorem Vw.ans {ts : List ByteArray} {n : Nat} {xs : List Int} (h : Vw ts n xs) (hn : n + 1 = ts.length) {c : Int} (hc : codeOf (ts.getD 0 ByteArray.empty) = c) (h0 : 0 ≤ c) {q : Bool} (hq : decide (ROk c xs) = q) : An (ts.map (·.data.toList)) c xs q := by
  obtain ⟨t0, r, rfl⟩ : ∃ t0 r, ts = t0 :: r := by
    cases ts with
    | nil => simp at hn
    | cons a b => exact ⟨a, b, rfl⟩
  have hw : xs.map dd = r.map (·.data.toList) := by
    rw [h.wd, List.drop_succ_cons, List.drop_zero, List.take_of_length_le (by simp at hn; omega)]
  obtain ⟨_, hwo⟩ := codeOf_some hc h0
  have hP : rP c xs = (t0 :: r).map (·.data.toList) := by
    unfold rP
    rw [hwo, hw]
    rfl
  refine ⟨fun e => ⟨by rw [← hq] at e; exact of_decide_eq_true e, hP⟩, fun c' vs' hok e => ?_⟩
  obtain ⟨e1, e2⟩ := parse hok e
  have e3 : c' = c := by rw [← e1]; exact hc
  have e4 : r.map (fun t => av t.data.toList) = xs := by
    have : r.map (fun t => av t.data.toList) = (r.map (·.data.toList)).map av := by rw [List.map_map]; rfl
    rw [this, ← hw, List.map_map]
    have hu := h.up
    clear this hw hP h hq
    induction xs with
    | nil => rfl
    | cons x l ih =>
      rw [List.map_cons, ih (fun y hy => hu y (List.mem_cons_of_mem _ hy))]
      have := hu x List.mem_cons_self
      show av (dd x) :: l = x :: l
      rw [av_dd x this.1 this.2]
  have e5 : vs' = xs := e2.symm.trans e4
  subst e3
  subst e5
  exact ⟨rfl, rfl, by rw [← hq]; exact decide_eq_true hok⟩
/-- A word that is no number: no result. -/
theorem Vw.no {ts : List ByteArray} {k : Nat} (hk : k + 1 < ts.length) (h : ∀ m : Nat, m < 1000000000000000000 → (ts.getD (k + 1) ByteArray.empty).data.toList ≠ Lib.decDigits m) (c' : Int) (vs' : List Int) (hok : ROk c' vs') : ¬ rP c' vs' = ts.map (·.data.toList) := by
  intro e
  have hl : vs'.length + 1 = ts.length := by
    have := congrArg List.length e
    unfold rP at this
    simpa using this
  have e2 := congrArg (fun l => l[k + 1]?) e
  simp only [rP, List.getElem?_cons_succ, List.getElem?_map] at e2
  rw [List.getElem?_eq_getElem (by omega : k < vs'.length), List.getElem?_eq_getElem hk] at e2
  simp only [Option.map_some, Option.some.injEq] at e2
  have hv := hok.2.2.2 vs'[k] (List.getElem_mem _)
  unfold Vk at hv
  refine h (vs'[k]).toNat (by omega) ?_
  rw [List.getD_eq_getElem?_getD, List.getElem?_eq_getElem hk]
  exact e2.symm
theorem no_code {ts : List ByteArray} (h0 : ts = [] ∨ codeOf (ts.getD 0 ByteArray.empty) < 0) (c' : Int) (vs' : List Int) (hok : ROk c' vs') : ¬ rP c' vs' = ts.map (·.data.toList) := by
  intro e
  cases ts with
  | nil => exact rP_ne c' vs' e
  | cons t0 r =>
    obtain ⟨e1, _⟩ := parse hok e
    rcases h0 with h | h
    · cases h
    · have : codeOf t0 < 0 := h
      have := hok.1.1
      omega
end Go.Proofs.YtifkihjjkomfiaaDoor.ReadS
