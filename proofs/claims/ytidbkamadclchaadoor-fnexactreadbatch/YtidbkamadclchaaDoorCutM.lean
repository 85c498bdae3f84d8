/-
  What is proved: the model's pieces of a text are the pieces between the cut (a contract for the walks).
-/
import Derived.Test.YtidbkamadclchaaDoorRows
import Derived.Test.YtidbkamadclchaaDoorWordsM
import Derived.Test.YtidbkamadclchaaDoorOtB
namespace Go.Proofs.YtidbkamadclchaaDoor.CutM
open Go.ChangeShapes Go.WideShapes Go.ChangeAt Go.RowKit
open Sl (Sl Own Off)
open OpenSl (tc)
open Dev Orm Box3 OpB BatB Txt TxtB TxtR Dig TextM TextJ
open WordsM (ext_list byte_at)
open OtB
set_option linter.unusedVariables false

/-- What is still to come of the pieces, from k on, a piece standing open at f. -/
def rest (c : UInt8) (L : B) (f k : Nat) : List B := cutA c ((L.drop f).take (k - f)) (L.drop k)
theorem str_cl (ts : List ByteArray) : ts.map Value.string = Cop.cl (tc ts) (ts.length * 1) := by
  apply List.ext_getElem?
  intro j
  by_cases h : j < ts.length
  · rw [Cop.cl_get _ _ j (by omega), List.getElem?_map, List.getElem?_eq_getElem h]
    unfold tc
    rw [List.getD_eq_getElem?_getD, List.getElem?_eq_getElem h]
    rfl
  · rw [List.getElem?_eq_none (by rw [List.length_map]; omega), List.getElem?_eq_none (by rw [Cop.cl_len]; omega)]
theorem rest_hit (c : UInt8) (L : B) (f k : Nat) (hk : k < L.length) (h : L.getD k 0 = c) : rest c L f k = (L.drop f).take (k - f) :: rest c L (k + 1) (k + 1) := by
  unfold rest
  rw [Nat.sub_self, List.take_zero, List.drop_eq_getElem_cons hk]
  have h2 : L[k] = c := by
    rw [List.getD_eq_getElem?_getD, List.getElem?_eq_getElem hk] at h
    exact h
  rw [h2]
  show (if c = c then _ else _) = _
  rw [if_pos rfl]
theorem rest_miss (c : UInt8) (L : B) (f k : Nat) (hk : k < L.length) (hf : f ≤ k) (h : L.getD k 0 ≠ c) : rest c L f k = rest c L f (k + 1) := by
  unfold rest
  rw [List.drop_eq_getElem_cons hk]
  have h2 : L[k] ≠ c := by
    rw [List.getD_eq_getElem?_getD, List.getElem?_eq_getElem hk] at h
    exact h
  show (if L[k] = c then _ else cutA c ((L.drop f).take (k - f) ++ [L[k]]) _) = _
  rw [if_neg h2]
  congr 1
  rw [show k + 1 - f = (k - f) + 1 by omega, List.take_add_one, List.getElem?_drop, show f + (k - f) = k by omega, List.getElem?_eq_getElem hk]
  rfl
theorem rest_end (c : UInt8) (L : B) (f k : Nat) (hk : k = L.length) : rest c L f k = [(L.drop f).take (k - f)] := by
  have e3 : L.drop k = [] := List.drop_eq_nil_of_le (by omega)
  unfold rest
  rw [e3]
  rfl

set_option maxRecDepth 100000 in
set_option maxHeartbeats 1600000 in
theorem l00Cut (s : ByteArray) (c : UInt8) (hs : s.size ≤ 65536) (w : World) :
    Calls Tryd.prog 64 #[.string s, .int .u8 (c.toNat : Int)] w fun e w' => ∃ (v : Value) (ts : List ByteArray), e = .returned v ∧ Hid (ts.map (·.data.toList) = cut c s.data.toList ∧ OT w' w.heap.size 9 1 v ts.length (tc ts)) ∧ Below w.heap.size w w' := by
  obtain ⟨i0, hi0, hz0, hz1, hz2⟩ := info_parts LawS.info9
  have HB := Lib.hid (byte_at s)
  have HL : Hid (s.data.toList.length = s.size) := Lib.hid rfl
  have HE := Lib.hid (ext_list s)
  have HR1 := Lib.hid (rest_hit c s.data.toList)
  have HR2 := Lib.hid (rest_miss c s.data.toList)
  have HR3 := Lib.hid (rest_end c s.data.toList)
  have HW0 : Hid (cut c s.data.toList = rest c s.data.toList 0 0) := Lib.hid rfl
  generalize s.data.toList = L at *
  have HCC := Lib.hid (fun a : UInt8 => show ((a.toNat : Int) = (c.toNat : Int) ↔ a = c) from ⟨fun h => UInt8.toNat_inj.1 (by omega), fun h => by rw [h]⟩)
  go_enter Tryd.func64, Tryd.ntmps64
  go_wp2
  go_loopw [5, 6, 7] (fun v f i wz => ∃ (ts : List ByteArray) (g k : Nat) (wr : World), wr = wz ∧ g ≤ k ∧ k ≤ s.size ∧ i = .int .i64 k ∧ f = .int .i64 g ∧ Hid (wr.ownsRow w.heap.size 9 1 v ts.length (ts.map Value.string)) ∧ Hid (cut c L = ts.map (·.data.toList) ++ rest c L g k) ∧ Hid (ts.length ≤ k) ∧ Hid (Below w.heap.size w wr)) (fun _ _ i _ => s.size + 1 - (intOf i).toNat)
  case atStart => exact ⟨[], 0, 0, _, rfl, by omega, by omega, rfl, rfl, Lib.hid (World.ownsRow_made w #[] 0 (Nat.le_refl _) (by unfold maxLen; omega) rfl), Lib.hid (by rw [HW0.out]; rfl), Lib.hid (Nat.le_refl _), Lib.hid ((Below.refl _ _).alloc (Nat.le_refl _) _)⟩
  case round =>
    obtain ⟨ts, g, k, w1, rfl, hgk, hk, rfl, rfl, R, HW, HN, HBW⟩ := hrel
    by_cases hlt : k < s.size
    · by_cases h32 : L.getD k 0 = c
      · have HWE := Lib.hid (HR1.out g k (by have := HL.out; omega) h32)
        have b2 : ((s[k].toNat : Int) == (c.toNat : Int)) = true := beq_iff_eq.2 ((HCC.out _).2 (by rw [← HB.out k hlt]; exact h32))
        clear h32
        have HW2 := Lib.hid (show cut c L = (ts ++ [s.extract g k]).map (·.data.toList) ++ rest c L (k + 1) (k + 1) by
          rw [HW.out, HWE.out, List.map_append, List.append_assoc]
          show _ ++ (_ :: _) = _ ++ ([(s.extract g k).data.toList] ++ _)
          rw [HE.out g k]
          rfl)
        have HN2 := Lib.hid (show (ts ++ [s.extract g k]).length ≤ k + 1 by rw [List.length_append]; have := HN.out; simp; omega)
        have HM := Lib.hid (show (ts ++ [s.extract g k]).map Value.string = ts.map Value.string ++ [.string (s.extract g k)] by simp)
        have HK := Lib.hid (show (ts ++ [s.extract g k]).length = ts.length + 1 by simp)
        have hn := HN.out
        have hz1' := Lib.hid HBW.out.size
        generalize ts.map Value.string = cs at *
        generalize ts.length = n at *
        generalize ts ++ [s.extract g k] = ts2 at *
        clear HW HWE
        go_wp2_with (at_builtin; refine wpList_append_lies _ rfl _ _ _ rfl w.heap.size 9 i0 _ 1 16 Tryd.underlying66 hi0 hz0 hz1 hz2 rfl (by omega) _ n cs (by rfl) (World.ownsRow.alloc R.out _) ⟨w1.heap.size, 0, none⟩ 1 1 [.string (s.extract g k)] (by rfl) (by rfl) (World.news_of_block (cs := #[.string (s.extract g k)]) (t := 9) (fr := (0, 0)) (heap_alloc_new w1 _)) (by simp [Value.oneCell']) (by omega) (by unfold maxLen; omega) (by omega) (by have := hz1'.out; simp; omega) (w1.heap.size + 1) (by simp) ?_; intro gg cap w2 hown1 hgrow hat1 hlt1; have HO := Lib.hid hown1; have HG := Lib.hid hgrow; have HB2 := Lib.hid ((HBW.out.alloc HBW.out.size _).grown HG.out (by have := hz1'.out; simp; omega) (fun k hk => (World.ownsRow.lt R.out k hk).1)); clear hown1 hgrow hat1 hlt1)
        go_roundw
        case rel => exact ⟨ts2, k + 1, k + 1, _, rfl, by omega, by omega, by go_num, by go_num, Lib.hid (by rw [HM.out, HK.out]; exact HO.out), HW2, HN2, HB2⟩
        case measure => simp [intOf]; omega
      · have HWE := Lib.hid (HR2.out g k (by have := HL.out; omega) hgk h32)
        have b2 : ((s[k].toNat : Int) == (c.toNat : Int)) = false := beq_eq_false_iff_ne.2 (fun e => h32 (by rw [HB.out k hlt]; exact (HCC.out _).1 e))
        have HW2 := Lib.hid (show cut c L = ts.map (·.data.toList) ++ rest c L g (k + 1) by rw [← HWE.out]; exact HW.out)
        have HN2 := Lib.hid (show ts.length ≤ k + 1 by have := HN.out; omega)
        clear h32 HW HWE HN
        go_wp2
        go_roundw
        case rel => exact ⟨ts, g, k + 1, _, rfl, by omega, by omega, by go_num, rfl, R, HW2, HN2, HBW⟩
        case measure => simp [intOf]; omega
    · have hke : k = s.size := by omega
      have hg2 : g ≤ s.size := by omega
      have HWF := Lib.hid (show (ts ++ [s.extract g s.size]).map (·.data.toList) = cut c L by
        rw [HW.out, HR3.out g k (by have := HL.out; omega), List.map_append]
        show _ ++ [(s.extract g s.size).data.toList] = _
        rw [HE.out g s.size, hke])
      clear hke
      have HN2 := Lib.hid (show (ts ++ [s.extract g s.size]).length ≤ k + 1 by rw [List.length_append]; have := HN.out; simp; omega)
      have HM := Lib.hid (show (ts ++ [s.extract g s.size]).map Value.string = ts.map Value.string ++ [.string (s.extract g s.size)] by simp)
      have HK := Lib.hid (show (ts ++ [s.extract g s.size]).length = ts.length + 1 by simp)
      have hn := HN.out
      have hz1' := Lib.hid HBW.out.size
      generalize ts.map Value.string = cs at *
      generalize ts.length = n at *
      generalize ts ++ [s.extract g s.size] = ts2 at *
      clear HW
      go_wp2_with (at_builtin; refine wpList_append_lies _ rfl _ _ _ rfl w.heap.size 9 i0 _ 1 16 Tryd.underlying66 hi0 hz0 hz1 hz2 rfl (by omega) _ n cs (by rfl) (World.ownsRow.alloc R.out _) ⟨w1.heap.size, 0, none⟩ 1 1 [.string (s.extract g s.size)] (by rfl) (by rfl) (World.news_of_block (cs := #[.string (s.extract g s.size)]) (t := 9) (fr := (0, 0)) (heap_alloc_new w1 _)) (by simp [Value.oneCell']) (by omega) (by unfold maxLen; omega) (by omega) (by have := hz1'.out; simp; omega) (w1.heap.size + 1) (by simp) ?_; intro gg cap w2 hown1 hgrow hat1 hlt1; have HO := Lib.hid hown1; have HG := Lib.hid hgrow; have HB2 := Lib.hid ((HBW.out.alloc HBW.out.size _).grown HG.out (by have := hz1'.out; simp; omega) (fun k hk => (World.ownsRow.lt R.out k hk).1)); clear hown1 hgrow hat1 hlt1)
      have HOW := Lib.hid (row_ot (show w2.ownsRow w.heap.size 9 1 _ ts2.length (Cop.cl (tc ts2) (ts2.length * 1)) by rw [← str_cl, HM.out, HK.out]; exact HO.out))
      go_wp2
      go_ret
      exact ⟨_, ts2, rfl, Lib.hid ⟨HWF.out, by rw [HK.out] at HOW ⊢; exact HOW.out⟩, HB2.out⟩
end Go.Proofs.YtidbkamadclchaaDoor.CutM
