/-
  What is proved: the model's words of a text are the words between blanks (a contract for the walks).
-/
import Derived.Test.YtifkihjjkomfiaaDoorRows
import Derived.Test.YtifkihjjkomfiaaDoorTxtRr
import Derived.Test.YtifkihjjkomfiaaDoorFlat
import Derived.Test.YtifkihjjkomfiaaDoorCop
import Derived.Test.YtifkihjjkomfiaaDoorBox3
import Derived.Test.YtifkihjjkomfiaaDoorDig
import Derived.Test.YtifkihjjkomfiaaDoorLawS
import Derived.Test.YtifkihjjkomfiaaDoorArr
import Derived.Laws.DeepStrings4
namespace Go.Proofs.YtifkihjjkomfiaaDoor.WordsMr
open Go.ChangeShapes Go.WideShapes Go.ChangeAt Go.RowKit
open Sl (Sl Own Off)
open OpenSl (tc)
open Dev Orm Box3 Txt TxtRr Dig
set_option linter.unusedVariables false

/-- What is still to come of the words, from k on, a word standing open at f. -/
def rest (L : B) (f k : Nat) : List B := if k ≤ L.length then wdsA ((L.drop f).take (k - f)) (L.drop k) else []
def cutOf (L : B) (f k : Nat) : List B := if f < k then [(L.drop f).take (k - f)] else []
theorem open_ne (L : B) (f k : Nat) (h : f ≤ k) (hk : k ≤ L.length) : ((L.drop f).take (k - f) = []) ↔ ¬ f < k := by
  constructor
  · intro h2
    have := congrArg List.length h2
    rw [List.length_take, List.length_drop] at this
    simp at this
    omega
  · intro h2
    rw [show k - f = 0 by omega, List.take_zero]
theorem rest_hit (L : B) (f k : Nat) (hk : k < L.length) (hf : f ≤ k) (h : L.getD k 0 = 32) : rest L f k = cutOf L f k ++ rest L (k + 1) (k + 1) := by
  have e1 : rest L f k = wdsA ((L.drop f).take (k - f)) (L.drop k) := by unfold rest; rw [if_pos (show k ≤ L.length by omega)]
  have e2 : rest L (k + 1) (k + 1) = wdsA [] (L.drop (k + 1)) := by unfold rest; rw [if_pos (show k + 1 ≤ L.length by omega), Nat.sub_self, List.take_zero]
  rw [e1, e2, List.drop_eq_getElem_cons hk]
  have h2 : L[k] = 32 := by
    rw [List.getD_eq_getElem?_getD, List.getElem?_eq_getElem hk] at h
    exact h
  rw [h2]
  show (if (32 : UInt8) = 32 then (if (L.drop f).take (k - f) = [] then wdsA [] _ else (L.drop f).take (k - f) :: wdsA [] _) else _) = _
  rw [if_pos rfl]
  unfold cutOf
  by_cases hlt : f < k
  · rw [if_neg (show ¬ (L.drop f).take (k - f) = [] from fun e => (open_ne L f k hf (by omega)).1 e hlt), if_pos hlt]
    rfl
  · rw [if_pos ((open_ne L f k hf (by omega)).2 hlt), if_neg hlt]
    rfl
theorem rest_miss (L : B) (f k : Nat) (hk : k < L.length) (hf : f ≤ k) (h : L.getD k 0 ≠ 32) : rest L f k = rest L f (k + 1) := by
  have e1 : rest L f k = wdsA ((L.drop f).take (k - f)) (L.drop k) := by unfold rest; rw [if_pos (show k ≤ L.length by omega)]
  have e2 : rest L f (k + 1) = wdsA ((L.drop f).take (k + 1 - f)) (L.drop (k + 1)) := by unfold rest; rw [if_pos (show k + 1 ≤ L.length by omega)]
  rw [e1, e2, List.drop_eq_getElem_cons hk]
  have h2 : L[k] ≠ 32 := by
    rw [List.getD_eq_getElem?_getD, List.getElem?_eq_getElem hk] at h
    exact h
  show (if L[k] = 32 then _ else wdsA ((L.drop f).take (k - f) ++ [L[k]]) _) = _
  rw [if_neg h2]
  congr 1
  rw [show k + 1 - f = (k - f) + 1 by omega, List.take_add_one, List.getElem?_drop, show f + (k - f) = k by omega, List.getElem?_eq_getElem hk]
  rfl
theorem rest_end (L : B) (f k : Nat) (hk : k = L.length) (hf : f ≤ k) : rest L f k = cutOf L f k ++ rest L (k + 1) (k + 1) := by
  have e1 : rest L f k = wdsA ((L.drop f).take (k - f)) (L.drop k) := by unfold rest; rw [if_pos (show k ≤ L.length by omega)]
  have e2 : rest L (k + 1) (k + 1) = [] := by unfold rest; rw [if_neg (show ¬ k + 1 ≤ L.length by omega)]
  have e3 : L.drop k = [] := List.drop_eq_nil_of_le (by omega)
  rw [e1, e2, e3, wdsA_nil, List.append_nil]
  unfold cutOf
  by_cases hlt : f < k
  · rw [if_neg (show ¬ (L.drop f).take (k - f) = [] from fun e => (open_ne L f k hf (by omega)).1 e hlt), if_pos hlt]
  · rw [if_pos ((open_ne L f k hf (by omega)).2 hlt), if_neg hlt]
theorem rest_no (L : B) (f k : Nat) (hk : L.length < k) : rest L f k = [] := by
  unfold rest
  rw [if_neg (by omega)]
theorem ext_list (s : ByteArray) (f k : Nat) : (s.extract f k).data.toList = (s.data.toList.drop f).take (k - f) := by
  rw [ByteArray.data_extract, Array.toList_extract]
theorem byte_at (s : ByteArray) (k : Nat) (h : k < s.size) : s.data.toList.getD k 0 = s[k] := by
  have h2 : k < s.data.toList.length := by simpa using h
  rw [List.getD_eq_getElem?_getD, List.getElem?_eq_getElem h2]
  rfl

set_option maxRecDepth 100000 in
set_option maxHeartbeats 1600000 in
theorem l00Words (s : ByteArray) (hs : s.size ≤ 65536) (w : World) :
    Calls Tryd.prog 21 #[.string s] w fun e w' => ∃ (v : Value) (ts : List ByteArray), e = .returned v ∧ Hid (ts.map (·.data.toList) = wds s.data.toList ∧ Own w' w.heap.size 1 v ts.length (tc ts)) ∧ Below w.heap.size w w' := by
  obtain ⟨i0, hi0, hz0, hz1, hz2⟩ := info_parts LawS.info9
  have HB := Lib.hid (byte_at s)
  have HL : Hid (s.data.toList.length = s.size) := Lib.hid rfl
  have HE := Lib.hid (ext_list s)
  have HR1 := Lib.hid (rest_hit s.data.toList)
  have HR2 := Lib.hid (rest_miss s.data.toList)
  have HR3 := Lib.hid (rest_end s.data.toList)
  have HR4 := Lib.hid (rest_no s.data.toList)
  have HW0 : Hid (wds s.data.toList = rest s.data.toList 0 0) := Lib.hid (by unfold rest wds; rw [if_pos (Nat.zero_le _)]; rfl)
  generalize s.data.toList = L at *
  go_enter Tryd.func21, Tryd.ntmps21
  go_wp2
  go_loopw [3, 4, 5] (fun v f i wz => ∃ (ts : List ByteArray) (g k : Nat) (wr : World), wr = wz ∧ g ≤ k ∧ k ≤ s.size + 1 ∧ i = .int .i64 k ∧ f = .int .i64 g ∧ Hid (wr.ownsRow w.heap.size 9 1 v ts.length (ts.map Value.string)) ∧ Hid (wds L = ts.map (·.data.toList) ++ rest L g k) ∧ Hid (ts.length ≤ k) ∧ Hid (Below w.heap.size w wr)) (fun _ _ i _ => s.size + 2 - (intOf i).toNat)
  case atStart => exact ⟨[], 0, 0, _, rfl, by omega, by omega, rfl, rfl, Lib.hid (World.ownsRow_made w #[] 0 (Nat.le_refl _) (by unfold maxLen; omega) rfl), Lib.hid (by rw [HW0.out]; rfl), Lib.hid (Nat.le_refl _), Lib.hid ((Below.refl _ _).alloc (Nat.le_refl _) _)⟩
  case round =>
    obtain ⟨ts, g, k, w1, rfl, hgk, hk, rfl, rfl, R, HW, HN, HBW⟩ := hrel
    by_cases hend : k ≤ s.size
    · by_cases hat : k = s.size
      · have b1 : ((k : Int) == (s.size : Int)) = true := beq_iff_eq.2 (by omega)
        have HWE := Lib.hid (HR3.out g k (by have := HL.out; omega) hgk)
        have hsz2 : k ≤ 65536 := by omega
        clear hat
        by_cases hcut : g < k
        · have HW2 := Lib.hid (show wds L = (ts ++ [s.extract g k]).map (·.data.toList) ++ rest L (k + 1) (k + 1) by
            rw [HW.out, HWE.out, List.map_append, List.append_assoc]
            show _ ++ (cutOf L g k ++ _) = _ ++ ([(s.extract g k).data.toList] ++ _)
            rw [HE.out g k]
            unfold cutOf
            rw [if_pos hcut])
          have HN2 := Lib.hid (show (ts ++ [s.extract g k]).length ≤ k + 1 by rw [List.length_append]; have := HN.out; simp; omega)
          have HM := Lib.hid (show (ts ++ [s.extract g k]).map Value.string = ts.map Value.string ++ [.string (s.extract g k)] by simp)
          have HK := Lib.hid (show (ts ++ [s.extract g k]).length = ts.length + 1 by simp)
          have hn := HN.out
          have hz1' := Lib.hid HBW.out.size
          generalize ts.map Value.string = cs at *
          generalize ts.length = n at *
          generalize ts ++ [s.extract g k] = ts2 at *
          clear HW HWE
          go_wp2_with (at_builtin; refine wpList_append_lies _ rfl _ _ _ rfl w.heap.size 9 i0 _ 1 16 Tryd.underlying42 hi0 hz0 hz1 hz2 rfl (by omega) _ n cs (by rfl) (World.ownsRow.alloc R.out _) ⟨w1.heap.size, 0, none⟩ 1 1 [.string (s.extract g k)] (by rfl) (by rfl) (World.news_of_block (cs := #[.string (s.extract g k)]) (t := 9) (fr := (0, 0)) (heap_alloc_new w1 _)) (by simp [Value.oneCell']) (by omega) (by unfold maxLen; omega) (by omega) (by have := hz1'.out; simp; omega) (w1.heap.size + 1) (by simp) ?_; intro gg cap w2 hown1 hgrow hat1 hlt1; have HO := Lib.hid hown1; have HG := Lib.hid hgrow; have HB2 := Lib.hid ((HBW.out.alloc HBW.out.size _).grown HG.out (by have := hz1'.out; simp; omega) (fun k hk => (World.ownsRow.lt R.out k hk).1)); clear hown1 hgrow hat1 hlt1)
          go_roundw
          case rel => exact ⟨ts2, k + 1, k + 1, _, rfl, by omega, by omega, by go_num, by go_num, Lib.hid (by rw [HM.out, HK.out]; exact HO.out), HW2, HN2, HB2⟩
          case measure => simp [intOf]; omega
        · have HW2 := Lib.hid (show wds L = ts.map (·.data.toList) ++ rest L (k + 1) (k + 1) by
            rw [HW.out, HWE.out]
            unfold cutOf
            rw [if_neg hcut]
            rfl)
          have HN2 := Lib.hid (show ts.length ≤ k + 1 by have := HN.out; omega)
          clear HW HWE HN
          go_wp2
          go_roundw
          case rel => exact ⟨ts, k + 1, k + 1, _, rfl, by omega, by omega, by go_num, by go_num, R, HW2, HN2, HBW⟩
          case measure => simp [intOf]; omega
      · have hlt : k < s.size := by omega
        have b1 : ((k : Int) == (s.size : Int)) = false := beq_eq_false_iff_ne.2 (by omega)
        by_cases h32 : L.getD k 0 = 32
        · have HWE := Lib.hid (HR1.out g k (by have := HL.out; omega) hgk h32)
          have b2 : ((s[k].toNat : Int) == 32) = true := by rw [← HB.out k hlt, h32]; rfl
          clear h32 hat
          by_cases hcut : g < k
          · have HW2 := Lib.hid (show wds L = (ts ++ [s.extract g k]).map (·.data.toList) ++ rest L (k + 1) (k + 1) by
              rw [HW.out, HWE.out, List.map_append, List.append_assoc]
              show _ ++ (cutOf L g k ++ _) = _ ++ ([(s.extract g k).data.toList] ++ _)
              rw [HE.out g k]
              unfold cutOf
              rw [if_pos hcut])
            have HN2 := Lib.hid (show (ts ++ [s.extract g k]).length ≤ k + 1 by rw [List.length_append]; have := HN.out; simp; omega)
            have HM := Lib.hid (show (ts ++ [s.extract g k]).map Value.string = ts.map Value.string ++ [.string (s.extract g k)] by simp)
            have HK := Lib.hid (show (ts ++ [s.extract g k]).length = ts.length + 1 by simp)
            have hn := HN.out
            have hz1' := Lib.hid HBW.out.size
            generalize ts.map Value.string = cs at *
            generalize ts.length = n at *
            generalize ts ++ [s.extract g k] = ts2 at *
            clear HW HWE
            go_wp2_with (at_builtin; refine wpList_append_lies _ rfl _ _ _ rfl w.heap.size 9 i0 _ 1 16 Tryd.underlying42 hi0 hz0 hz1 hz2 rfl (by omega) _ n cs (by rfl) (World.ownsRow.alloc R.out _) ⟨w1.heap.size, 0, none⟩ 1 1 [.string (s.extract g k)] (by rfl) (by rfl) (World.news_of_block (cs := #[.string (s.extract g k)]) (t := 9) (fr := (0, 0)) (heap_alloc_new w1 _)) (by simp [Value.oneCell']) (by omega) (by unfold maxLen; omega) (by omega) (by have := hz1'.out; simp; omega) (w1.heap.size + 1) (by simp) ?_; intro gg cap w2 hown1 hgrow hat1 hlt1; have HO := Lib.hid hown1; have HG := Lib.hid hgrow; have HB2 := Lib.hid ((HBW.out.alloc HBW.out.size _).grown HG.out (by have := hz1'.out; simp; omega) (fun k hk => (World.ownsRow.lt R.out k hk).1)); clear hown1 hgrow hat1 hlt1)
            go_roundw
            case rel => exact ⟨ts2, k + 1, k + 1, _, rfl, by omega, by omega, by go_num, by go_num, Lib.hid (by rw [HM.out, HK.out]; exact HO.out), HW2, HN2, HB2⟩
            case measure => simp [intOf]; omega
          · have HW2 := Lib.hid (show wds L = ts.map (·.data.toList) ++ rest L (k + 1) (k + 1) by
              rw [HW.out, HWE.out]
              unfold cutOf
              rw [if_neg hcut]
              rfl)
            have HN2 := Lib.hid (show ts.length ≤ k + 1 by have := HN.out; omega)
            clear HW HWE HN
            go_wp2
            go_roundw
            case rel => exact ⟨ts, k + 1, k + 1, _, rfl, by omega, by omega, by go_num, by go_num, R, HW2, HN2, HBW⟩
            case measure => simp [intOf]; omega
        · have HWE := Lib.hid (HR2.out g k (by have := HL.out; omega) hgk h32)
          have b2 : ((s[k].toNat : Int) == 32) = false := beq_eq_false_iff_ne.2 (fun e => h32 (by rw [HB.out k hlt]; exact b32 _ (by omega)))
          have HW2 := Lib.hid (show wds L = ts.map (·.data.toList) ++ rest L g (k + 1) by rw [← HWE.out]; exact HW.out)
          have HN2 := Lib.hid (show ts.length ≤ k + 1 by have := HN.out; omega)
          clear h32 hat HW HWE HN
          go_wp2
          go_roundw
          case rel => exact ⟨ts, g, k + 1, _, rfl, by omega, by omega, by go_num, rfl, R, HW2, HN2, HBW⟩
          case measure => simp [intOf]; omega
    · have HWF := Lib.hid (show ts.map (·.data.toList) = wds L by rw [HW.out, HR4.out g k (by have := HL.out; omega), List.append_nil])
      have HO := Lib.hid (own_of_row R.out (tc ts) (fun j hj => by
        rw [Nat.mul_one] at hj
        unfold tc
        rw [List.getElem?_map, List.getD_eq_getElem?_getD, List.getElem?_eq_getElem hj]
        rfl))
      clear R HW
      go_wp2
      go_ret
      exact ⟨_, ts, rfl, Lib.hid ⟨HWF.out, HO.out⟩, HBW.out⟩
end Go.Proofs.YtifkihjjkomfiaaDoor.WordsMr
