/-
  What is proved: the program's test of a result, and its text, are the plain ones, where the package's words and the library's table of tens stand in their places (contracts for the walks).
-/
import Derived.Test.YtifkihjjkomfiaaDoorRows
import Derived.Test.YtifkihjjkomfiaaDoorResP
import Derived.Test.YtifkihjjkomfiaaDoorLawR
import Derived.Test.YtifkihjjkomfiaaDoorShelf1
import Derived.Test.YtifkihjjkomfiaaDoorOtB
namespace Go.Proofs.YtifkihjjkomfiaaDoor.ResI
open Go.ChangeShapes Go.WideShapes Go.ChangeAt Go.RowKit
open Sl (Sl Own Off)
open OpenSl (nc)
open Dev Box2 LawR ResP Dig
open CodesR (wordOf Tab)
open Shelf1 (Pow)
set_option linter.unusedVariables false

/-- The package's words, and the table of tens, are in their places. -/
structure Tc (w : World) : Prop where
  tab : Tab w
  pow : Pow w
theorem Tc.below {w w' : World} (h : Tc w) (hb : Below w.heap.size w w') : Tc w' := ⟨h.tab.below hb, h.pow.below hb⟩

theorem isCell (z : Int) (w : World) : Calls Tryd.prog 33 #[.int .i64 z] w fun e w' => e = .returned (.bool (decide (Vk z))) ∧ w' = w := by
  rw [show decide (Vk z) = decide (0 ≤ z ∧ z ≤ 999999) from decide_eq_decide.2 Iff.rfl]
  go_enter Tryd.func33, Tryd.ntmps33
  go_wp2
  all_goals (go_ret; exact ⟨by congr 2; simp; try omega, rfl⟩)
theorem lit (z : Int) (w : World) : Calls Tryd.prog 32 #[.int .i64 z] w fun e w' => e = .returned (.bool (!decide (Vk z))) ∧ w' = w := by
  have H := Lib.hid (fun u => isCell z u)
  generalize decide (Vk z) = q at *
  go_enter Tryd.func32, Tryd.ntmps32
  go_wp2_with fail
  refine (H.out _).mono ?_
  rintro e u ⟨rfl, rfl⟩
  go_wp2_with fail
  go_ret
  exact ⟨rfl, rfl⟩
def IPost (vs : List Int) (e : Ending) : Prop := ∃ r : Int, e = .returned (.int .i64 r) ∧ Hid (0 ≤ r ∧ (¬ ∀ x ∈ vs, Vk x) ∨ r < 0 ∧ ∀ x ∈ vs, Vk x)
set_option maxRecDepth 100000 in
theorem index (w : World) (v : Value) (vs : List Int) (h : Sl w 1 v vs.length (nc vs)) :
    Calls Tryd.prog 40 #[v, .func (.func 32) #[] #[]] w fun e w' => IPost vs e ∧ w' = w := by
  obtain ⟨a, cap, rfl, h1, h2, h3⟩ := h
  have H3 := Lib.hid h3
  unfold maxLen at h2
  clear h3
  have HNO := Lib.hid (show ∀ k : Nat, k < vs.length → ¬ Vk (vs.getD k 0) → IPost vs (.returned (.int .i64 (k : Int))) from fun k hk hn => ⟨_, rfl, Lib.hid (.inl ⟨by omega, fun ha => hn (ha _ (ResP.getD_in vs k hk))⟩)⟩)
  have HYES := Lib.hid (show (∀ x ∈ vs, Vk x) → IPost vs (.returned (.int .i64 (-1))) from fun ha => ⟨_, rfl, Lib.hid (.inr ⟨by omega, ha⟩)⟩)
  have HTN := Lib.hid (fun k (hk : k < vs.length) => ResP.take_next vs k hk)
  have HTL := Lib.hid (List.take_length (l := vs))
  generalize IPost vs = IP at *
  generalize vs.length = n at *
  go_enter Tryd.func40, Tryd.ntmps40
  go_wp2
  go_loopw [8] (fun i wz => ∃ (k : Nat), w = wz ∧ k ≤ n ∧ i = .int .i64 k ∧ Hid (∀ x ∈ vs.take k, Vk x)) (fun i _ => n - (Go.RowKit.intOf i).toNat)
  case atStart => exact ⟨0, rfl, by omega, rfl, Lib.hid (by simp)⟩
  case round =>
    obtain ⟨k, rfl, hk, rfl, HJ⟩ := hrel
    by_cases hlt : k < n
    · obtain ⟨b, o, rfl, hc⟩ := H3.out (by omega)
      have c0 := hc k (by omega)
      unfold nc at c0
      have HN := Lib.hid (HNO.out k hlt)
      have HT := Lib.hid (show Vk (vs.getD k 0) → ∀ x ∈ vs.take (k + 1), Vk x from fun hy x hx => by
        rw [HTN.out k hlt] at hx
        rcases List.mem_append.1 hx with h | h
        · exact HJ.out x h
        · rw [List.mem_singleton.1 h]; exact hy)
      clear hc
      generalize vs.getD k 0 = y at *
      have HL := Lib.hid (fun u => lit y u)
      by_cases hy : Vk y
      · rw [decide_eq_true hy] at HL
        have HE := Lib.hid (HT.out hy)
        clear hy
        go_wp2_with fail
        refine (HL.out _).mono ?_
        rintro e u ⟨rfl, hu⟩
        replace hu := hu.symm
        subst hu
        go_wp2
        go_roundw
        case rel => exact ⟨k + 1, by first | rfl | trivial, by omega, by go_num, HE⟩
        case measure => simp [Go.RowKit.intOf]; omega
      · rw [decide_eq_false hy] at HL
        have HE := Lib.hid (HN.out hy)
        clear hy
        go_wp2_with fail
        refine (HL.out _).mono ?_
        rintro e u ⟨rfl, hu⟩
        replace hu := hu.symm
        subst hu
        go_wp2
        go_ret
        exact ⟨HE.out, rfl⟩
    · have hk2 := Lib.hid (show k = n by omega)
      have HE := Lib.hid (HYES.out (by have := HJ.out; rwa [hk2.out, HTL.out] at this))
      go_wp2
      go_ret
      exact ⟨HE.out, rfl⟩
set_option maxRecDepth 100000 in
theorem contains (w : World) (v : Value) (vs : List Int) (h : Sl w 1 v vs.length (nc vs)) (q : Bool) (hq : q = true ↔ ∀ x ∈ vs, Vk x) :
    Calls Tryd.prog 31 #[v, .func (.func 32) #[] #[]] w fun e w' => e = .returned (.bool (!q)) ∧ w' = w := by
  have HI := Lib.hid (index w v vs h)
  obtain ⟨a, cap, rfl, _, _⟩ := h.form
  clear h
  generalize vs.length = n at *
  go_enter Tryd.func31, Tryd.ntmps31
  go_wp2_with fail
  refine HI.out.mono ?_
  rintro e u ⟨⟨r, rfl, HR⟩, rfl⟩
  rcases HR.out with ⟨h1, h2⟩ | ⟨h1, h2⟩
  · obtain rfl : q = false := by cases q with | false => rfl | true => exact absurd (hq.1 rfl) h2
    have d : decide (r ≥ 0) = true := decide_eq_true h1
    have d2 : decide (0 ≤ r) = true := decide_eq_true h1
    clear h1 h2 hq
    go_wp2_with fail
    go_ret
    exact ⟨rfl, rfl⟩
  · obtain rfl : q = true := hq.2 h2
    have d : decide (r ≥ 0) = false := decide_eq_false (by omega)
    have d2 : decide (0 ≤ r) = false := decide_eq_false (by omega)
    clear h1 h2 hq
    go_wp2_with fail
    go_ret
    exact ⟨rfl, rfl⟩
theorem word_list (c : Int) (h : 0 ≤ c ∧ c < 20) : (wordOf c).toList.isEmpty = false := by
  unfold wordOf
  rw [if_pos h]
  obtain ⟨k, rfl⟩ : ∃ k : Nat, c = k := ⟨c.toNat, by omega⟩
  have hk : k < 20 := by omega
  rw [Int.toNat_natCast]
  have : ∀ k : Fin 20, (CodesR.wordAt k.val).toList.isEmpty = false := by decide +kernel
  exact this ⟨k, hk⟩
theorem empty_ne (a : ByteArray) (h : 0 < a.size) : a ≠ ⟨#[]⟩ := by rintro rfl; simp [ByteArray.size] at h
theorem empty_eq (a : ByteArray) (h : ¬ 0 < a.size) : a = ⟨#[]⟩ := by
  apply ByteArray.ext
  have : a.data.size = 0 := by show a.size = 0; omega
  exact Array.eq_empty_of_size_eq_zero this

set_option maxRecDepth 100000 in
set_option maxHeartbeats 1600000 in
theorem right (w : World) (hT : Tc w) (v : Value) (c : Int) (vs : List Int) (h : Rr w v c vs) (q : Bool) (hq : decide (ROk c vs) = q) :
    Calls Tryd.prog 18 #[v] w fun e w' => e = .returned (.bool q) ∧ Below w.heap.size w w' := by
  obtain ⟨s, rfl, h1⟩ := h
  obtain ⟨U, e1, hb, hz, X⟩ := box2 w 28 (.int .i64 c) s
  obtain ⟨G, eG⟩ : ∃ G, w.heap.size = G := ⟨_, rfl⟩
  have HB := Lib.hid hb
  have HBG := Lib.hid (show Below G w U from eG ▸ hb)
  have HT := Lib.hid (hT.below hb)
  have HC := Lib.hid (fun p hp => contains U s vs (h1.below hb) p hp)
  obtain ⟨a, cap, rfl, _, hm, _⟩ := h1
  unfold maxLen at hm
  rw [eG] at X
  obtain ⟨c0, c1, _, _⟩ := X
  have HQ := Lib.hid (show (ROk c vs → q = true) ∧ (¬ ROk c vs → q = false) from ⟨fun h => by rw [← hq]; exact decide_eq_true h, fun h => by rw [← hq]; exact decide_eq_false h⟩)
  have HI := Lib.hid (rok_iff c vs)
  clear hb hz hq hT
  by_cases hc0 : c = 0
  · subst hc0
    by_cases h32 : vs.length ≤ 32
    · obtain ⟨p, ep⟩ : ∃ p, decide (∀ x ∈ vs, Vk x) = p := ⟨_, rfl⟩
      have HC2 := Lib.hid (HC.out p (by rw [← ep, decide_eq_true_eq]))
      obtain rfl : q = p := by
        by_cases hv : ∀ x ∈ vs, Vk x
        · rw [HQ.out.1 (HI.out.2 ⟨by omega, h32, .inl rfl, hv⟩), ← ep, decide_eq_true hv]
        · rw [HQ.out.2 (fun h => hv (HI.out.1 h).2.2.2), ← ep, decide_eq_false hv]
      clear ep HQ HI HC
      generalize vs.length = n at *
      go_enter Tryd.func18, Tryd.ntmps18
      go_wp2_with fail
      clear e1 eG
      refine HC2.out.mono ?_
      rintro e u ⟨rfl, rfl⟩
      go_wp2_with fail
      go_ret
      exact ⟨by simp, HB.out⟩
    · obtain rfl := HQ.out.2 (fun h => h32 h.2.1)
      clear HQ HI HC
      generalize vs.length = n at *
      go_enter Tryd.func18, Tryd.ntmps18
      go_wp2
      go_ret
      first | exact ⟨rfl, HB.out⟩ | exact ⟨rfl, HBG.out⟩
  · have HW := Lib.hid (fun u (hu : Tc u) => CodesR.word_impl c u hu.tab)
    have HWS := Lib.hid (word_some c)
    have b1 : (c != 0) = true := bne_iff_ne.2 hc0
    have b2 : decide (c ≠ 0) = true := decide_eq_true hc0
    have HWL := Lib.hid (word_list c)
    generalize wordOf c = WD at *
    by_cases hw : 0 < WD.size
    · have hne := HWL.out (HWS.out.1 hw)
      have hci := HWS.out.1 hw
      by_cases hv : vs.length = 0
      · obtain rfl := HQ.out.1 (HI.out.2 ⟨by omega, by omega, .inr hv, fun x hx => by rw [List.length_eq_zero_iff.1 hv] at hx; cases hx⟩)
        rw [hv] at c1 e1 ⊢
        clear HQ HI HC hv hw hci hc0
        go_enter Tryd.func18, Tryd.ntmps18
        go_wp2_with fail
        clear e1 eG
        refine (HW.out _ HT.out).mono ?_
        rintro e u ⟨rfl, rfl⟩
        go_wp2_with fail
        go_ret
        exact ⟨rfl, HB.out⟩
      · obtain rfl := HQ.out.2 (fun h => by have := (HI.out.1 h).2.2.1; omega)
        clear HQ HI HC hw hci hc0
        have hv2 : 0 < vs.length := by omega
        generalize vs.length = n at *
        have d1 : ((n : Int) == 0) = false := beq_eq_false_iff_ne.2 (by omega)
        have d2 : decide ((n : Int) = 0) = false := decide_eq_false (by omega)
        go_enter Tryd.func18, Tryd.ntmps18
        go_wp2_with fail
        clear e1 eG
        refine (HW.out _ HT.out).mono ?_
        rintro e u ⟨rfl, rfl⟩
        go_wp2_with fail
        go_ret
        exact ⟨rfl, HB.out⟩
    · obtain rfl := empty_eq WD hw
      obtain rfl := HQ.out.2 (fun h => hw (HWS.out.2 (by have := h.1; omega)))
      clear HQ HI HC hw hc0
      generalize vs.length = n at *
      go_enter Tryd.func18, Tryd.ntmps18
      go_wp2_with fail
      clear e1 eG
      refine (HW.out _ HT.out).mono ?_
      rintro e u ⟨rfl, rfl⟩
      go_wp2_with fail
      go_ret
      exact ⟨rfl, HB.out⟩
end Go.Proofs.YtifkihjjkomfiaaDoor.ResI
