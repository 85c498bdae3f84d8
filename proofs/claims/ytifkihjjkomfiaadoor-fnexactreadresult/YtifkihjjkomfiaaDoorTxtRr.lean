/-
  What is proved: plain facts on how texts are read: the library's fields at blanks are the words between blanks; what digits parse to; which operation the words are, as the program and as the model ask (nothing of the program).
-/
import Derived.Test.YtifkihjjkomfiaaDoorRows
import Derived.Test.YtifkihjjkomfiaaDoorTxt
import Derived.Lib.FieldsP
import Derived.Lib.MapLaws
import Derived.Lib.AtoiAll
import Derived.Lib.RuneCount
namespace Go.Proofs.YtifkihjjkomfiaaDoor.TxtRr
open Orm Txt
set_option linter.unusedVariables false

theorem b32 (c : UInt8) (h : c.toNat = 32) : c = 32 := UInt8.toNat_inj.1 (by rw [h]; rfl)
theorem ne32 (c : UInt8) (h : c.toNat ≠ 32) : (32 : UInt8) ≠ c := fun e => h (by rw [← e]; rfl)
theorem dec32 (l : B) (hne : l ≠ []) : ((Lib.decodeL l).1 = 32 → (Lib.decodeL l).2 = 1 ∧ l.getD 0 0 = 32) ∧ ((Lib.decodeL l).1 ≠ 32 → (32 : UInt8) ∉ l.take (Lib.decodeL l).2) := by
  have hl : 0 < l.length := List.length_pos_iff.2 hne
  rw [Lib.decodeL_N]
  have ha := Lib.decodeN_ascii l.length (l.getD 0 0).toNat (l.getD 1 0).toNat (l.getD 2 0).toNat (l.getD 3 0).toNat
  rcases Lib.decodeN_shape l.length (l.getD 0 0).toNat (l.getD 1 0).toNat (l.getD 2 0).toNat (l.getD 3 0).toNat with ⟨c, e⟩ | ⟨c1, c2, c3, cv, e⟩ | ⟨c1, c2, c3, c4, cv, cs, e⟩ | ⟨c1, c2, c3, c4, c5, cv, cw, e⟩ | e
  · rw [e]
    refine ⟨fun h => ⟨rfl, b32 _ h⟩, fun h hm => ?_⟩
    rw [show ((l.getD 0 0).toNat, 1).2 = 1 from rfl, Lib.takeA l hl, List.mem_singleton] at hm
    exact ne32 _ h hm
  · rw [e]
    refine ⟨fun h => absurd h (by dsimp only; omega), fun h hm => ?_⟩
    dsimp only at hm
    rw [Lib.takeB l c2] at hm
    rcases List.mem_cons.1 hm with h1 | h1
    · exact ne32 _ (by omega) h1
    · rw [List.mem_singleton] at h1
      exact ne32 _ (by omega) h1
  · rw [e]
    refine ⟨fun h => absurd h (by dsimp only; omega), fun h hm => ?_⟩
    dsimp only at hm
    rw [Lib.takeC l c2] at hm
    rcases List.mem_cons.1 hm with h1 | h1
    · exact ne32 _ (by omega) h1
    · rcases List.mem_cons.1 h1 with h1 | h1
      · exact ne32 _ (by omega) h1
      · rw [List.mem_singleton] at h1
        exact ne32 _ (by omega) h1
  · rw [e]
    refine ⟨fun h => absurd h (by dsimp only; omega), fun h hm => ?_⟩
    dsimp only at hm
    rw [Lib.takeD l c2] at hm
    rcases List.mem_cons.1 hm with h1 | h1
    · exact ne32 _ (by omega) h1
    · rcases List.mem_cons.1 h1 with h1 | h1
      · exact ne32 _ (by omega) h1
      · rcases List.mem_cons.1 h1 with h1 | h1
        · exact ne32 _ (by omega) h1
        · rw [List.mem_singleton] at h1
          exact ne32 _ (by omega) h1
  · rw [e]
    refine ⟨fun h => absurd h (by decide), fun h hm => ?_⟩
    rw [show (65533, 1).2 = 1 from rfl, Lib.takeA l hl, List.mem_singleton] at hm
    have h32 : (l.getD 0 0).toNat = 32 := by rw [← hm]; rfl
    rw [ha (by omega)] at e
    have := congrArg Prod.fst e
    simp only at this
    omega
theorem wdsA_nil (cur : B) : wdsA cur [] = if cur = [] then [] else [cur] := rfl
open Lib in
/-- The pass over the runes gives the words. -/
theorem spans_wds (s : ByteArray) : ∀ (f pos : Nat) (st : Option Nat) (acc : List (Nat × Nat)), s.size ≤ pos + f → pos ≤ s.size → (∀ a, st = some a → a < pos) →
    acc.map (fun p => pieceU s.data.toList p.1 p.2) ++ wdsA (openPiece s.data.toList st pos) (s.data.toList.drop pos) = (closeSpans s (spansFromP (fun r => r == 32) s f pos st acc)).map (fun p => pieceU s.data.toList p.1 p.2)
  | 0, pos, st, acc, h, hp, hst => by
    obtain rfl : pos = s.size := by omega
    have hd : s.data.toList.drop s.size = [] := List.drop_eq_nil_of_le (by rw [← size_eq]; exact Nat.le_refl _)
    rw [hd, wdsA_nil]
    cases st with
    | none => simp [spansFromP, closeSpans, openPiece]
    | some a =>
      have := pieceU_ne s.data.toList a s.size (hst a rfl) (by rw [← size_eq]; exact Nat.le_refl _)
      simp [spansFromP, closeSpans, openPiece, this]
  | f + 1, pos, st, acc, h, hp, hst => by
    by_cases hlt : pos < s.size
    · have hne : s.data.toList.drop pos ≠ [] := by
        intro h0
        have := congrArg List.length h0
        rw [List.length_drop, ← size_eq] at this
        simp at this
        omega
      have hw := decode_width_pos s pos hlt
      have hwn : pos + (Utf8.decode s pos).2 ≤ s.size := by
        have := decodeL_le (s.data.toList.drop pos) hne
        rw [decodeL_drop, List.length_drop, ← size_eq] at this
        omega
      have hd := dec32 (s.data.toList.drop pos) hne
      rw [decodeL_drop] at hd
      have hdd : (s.data.toList.drop pos).drop (Utf8.decode s pos).2 = s.data.toList.drop (pos + (Utf8.decode s pos).2) := List.drop_drop
      have hsplit : s.data.toList.drop pos = (s.data.toList.drop pos).take (Utf8.decode s pos).2 ++ s.data.toList.drop (pos + (Utf8.decode s pos).2) := by
        rw [← hdd, List.take_append_drop]
      unfold spansFromP
      rw [if_pos hlt]
      by_cases h32 : (Utf8.decode s pos).1 = 32
      · obtain ⟨hk, hb⟩ := hd.1 h32
        rw [if_pos (beq_iff_eq.2 h32), hk]
        rw [hk] at hwn
        have hcons : s.data.toList.drop pos = 32 :: s.data.toList.drop (pos + 1) := by
          rw [hsplit, hk, takeA _ (List.length_pos_iff.2 hne), hb]
          rfl
        rw [hcons]
        cases st with
        | none =>
          have ih := spans_wds s f (pos + 1) none acc (by omega) hwn (fun a h => by cases h)
          exact ih
        | some a =>
          have hpn := pieceU_ne s.data.toList a pos (hst a rfl) (by rw [← size_eq]; omega)
          have ih := spans_wds s f (pos + 1) none (acc ++ [(a, pos)]) (by omega) hwn (fun a h => by cases h)
          rw [List.map_append] at ih
          have e : wdsA (openPiece s.data.toList (some a) pos) (32 :: s.data.toList.drop (pos + 1)) = pieceU s.data.toList a pos :: wdsA [] (s.data.toList.drop (pos + 1)) := by
            show (if (32 : UInt8) = 32 then (if pieceU s.data.toList a pos = [] then wdsA [] _ else pieceU s.data.toList a pos :: wdsA [] _) else _) = _
            rw [if_pos rfl, if_neg hpn]
          rw [e]
          simpa [openPiece] using ih
      · have hno := hd.2 h32
        rw [if_neg (fun h => h32 (beq_iff_eq.1 h))]
        rw [hsplit, wdsA_app _ _ _ hno]
        cases st with
        | none =>
          have ih := spans_wds s f (pos + (Utf8.decode s pos).2) (some pos) acc (by omega) hwn (fun a h => by cases h; omega)
          have e : ([] : B) ++ (s.data.toList.drop pos).take (Utf8.decode s pos).2 = pieceU s.data.toList pos (pos + (Utf8.decode s pos).2) := by
            unfold pieceU
            rw [List.nil_append, Nat.add_sub_cancel_left]
          simp only [openPiece] at ih ⊢
          rw [e]
          exact ih
        | some a =>
          have ih := spans_wds s f (pos + (Utf8.decode s pos).2) (some a) acc (by omega) hwn (fun b h => by cases h; have := hst a rfl; omega)
          simp only [openPiece] at ih ⊢
          rw [pieceU_grow _ _ _ _ (Nat.le_of_lt (hst a rfl))]
          exact ih
    · obtain rfl : pos = s.size := by omega
      have hd : s.data.toList.drop s.size = [] := List.drop_eq_nil_of_le (by rw [← size_eq]; exact Nat.le_refl _)
      rw [hd, wdsA_nil, spansFromP_end _ s _ _ _ _ hlt]
      cases st with
      | none => simp [closeSpans, openPiece]
      | some a =>
        have := pieceU_ne s.data.toList a s.size (hst a rfl) (by rw [← size_eq]; exact Nat.le_refl _)
        simp [closeSpans, openPiece, this]
theorem ext_piece (s : ByteArray) (a b : Nat) : (s.extract a b).data.toList = Lib.pieceU s.data.toList a b := by
  rw [Lib.extract_data]
  unfold Lib.pieceU
  first | rfl | (rw [List.take_drop]; congr 1; omega) | simp
theorem fields_wds (s : ByteArray) : (Lib.goFieldsP (fun r => r == 32) s).map (·.data.toList) = wds s.data.toList := by
  have h := spans_wds s s.size 0 none [] (by omega) (by omega) (fun a h => by cases h)
  rw [List.map_nil, List.nil_append, List.drop_zero] at h
  unfold Lib.goFieldsP
  rw [List.map_map]
  have e : ((fun x : ByteArray => x.data.toList) ∘ fun x : Nat × Nat => s.extract x.1 x.2) = fun p => Lib.pieceU s.data.toList p.1 p.2 := funext fun p => ext_piece s p.1 p.2
  rw [e]
  exact h.symm
/-- Words are no longer than their text. -/
theorem wdsA_len : ∀ (t cur : B), ((wdsA cur t).map List.length).sum + (wdsA cur t).length ≤ cur.length + 2 * t.length + 1
  | [], cur => by
    rw [wdsA_nil]
    split
    · simp
    · simp
  | x :: t, cur => by
    show ((if x = 32 then (if cur = [] then wdsA [] t else cur :: wdsA [] t) else wdsA (cur ++ [x]) t).map List.length).sum + (if x = 32 then (if cur = [] then wdsA [] t else cur :: wdsA [] t) else wdsA (cur ++ [x]) t).length ≤ _
    split
    · have := wdsA_len t []
      split
      · simp only [List.length_cons, List.length_nil] at *
        omega
      · simp only [List.length_cons, List.length_nil, List.map_cons, List.sum_cons] at *
        omega
    · have := wdsA_len t (cur ++ [x])
      simp only [List.length_cons, List.length_append, List.length_nil] at *
      omega
theorem lens_eq (ws : List B) : Lib.lens ws = (ws.map List.length).sum := by
  first | rfl | (unfold Lib.lens; simp) | (induction ws <;> simp_all [Lib.lens])
theorem join_len (t : B) : (Lib.join (wds t) [32]).length ≤ 2 * t.length + 1 := by
  have h := wdsA_len t []
  unfold wds
  cases e : wdsA [] t with
  | nil => show (0 : Nat) ≤ _; omega
  | cons x r =>
    rw [e] at h
    rw [Lib.join_length, lens_eq]
    simp only [List.length_cons, List.length_nil] at *
    omega

/-- What strconv.Atoi answers. -/
def av (l : B) : Int := match Lib.atoiAll l with
  | .ok v => v
  | .range => Lib.atoiSat l
  | _ => 0
theorem dv_mono : ∀ (l : B) (a : Nat), a ≤ dv a l
  | [], a => Nat.le_refl _
  | c :: l, a => by
    have := dv_mono l (a * 10 + (c.toNat - 48))
    show a ≤ dv (a * 10 + (c.toNat - 48)) l
    omega
theorem parse_dv : ∀ (l : B) (a : Nat), (∀ c ∈ l, IsD c) → dv a l < 1000000000000000000 → Lib.parseUint10 a l = .ok (dv a l)
  | [], a, _, _ => rfl
  | c :: l, a, h, hb => by
    have hc := h c List.mem_cons_self
    unfold IsD at hc
    have hm := dv_mono l (a * 10 + (c.toNat - 48))
    have hb2 : dv (a * 10 + (c.toNat - 48)) l < 1000000000000000000 := hb
    unfold Lib.parseUint10
    rw [if_pos hc, if_neg (by omega), if_neg (by omega), parse_dv l _ (fun d hd => h d (List.mem_cons_of_mem _ hd)) hb2]
    rfl
theorem atoi_dec (n : Nat) (hn : n < 1000000000000000000) : Lib.atoiAll (Lib.decDigits n) = .ok (n : Int) := by
  have hp := parse_dv (Lib.decDigits n) 0 (dec_digit n) (by rw [dv_dec]; exact hn)
  rw [dv_dec] at hp
  have hne := dec_ne n
  have hd := dec_digit n
  generalize Lib.decDigits n = l at *
  cases l with
  | nil => exact absurd rfl hne
  | cons c r =>
    have hc := hd c List.mem_cons_self
    unfold IsD at hc
    unfold Lib.atoiAll
    simp only
    rw [if_neg (show ¬ (c.toNat = 43 ∨ c.toNat = 45) by omega)]
    unfold Lib.parseMag
    rw [if_neg hne, hp]
    simp only
    rw [if_neg (show ¬ (¬ c.toNat = 45 ∧ 9223372036854775808 ≤ n) by omega), if_neg (show ¬ (c.toNat = 45 ∧ 9223372036854775808 < n) by omega), if_neg (show ¬ c.toNat = 45 by omega)]
theorem av_dd (n : Int) (h : 0 ≤ n) (h2 : n < 1000000000000000000) : av (dd n) = n := by
  unfold av dd
  rw [atoi_dec n.toNat (by omega)]
  show ((n.toNat : Nat) : Int) = n
  omega

end Go.Proofs.YtifkihjjkomfiaaDoor.TxtRr
