/-
  What is proved: the model's MapBatch answers the plain outcome of a batch (a contract for the walks).
  What is proved: the model's doing of a batch on a map (a contract for the walks).
-/
import Derived.Test.YtealdpkgfmokpaaRows
import Derived.Test.YtealdpkgfmokpaaTxM
import Derived.Test.YtealdpkgfmokpaaBatR
import Derived.Maps.AppendAt
import Derived.Test.YtealdpkgfmokpaaBatS
import Derived.Test.YtealdpkgfmokpaaMapOkS
namespace Go.Proofs.Ytealdpkgfmokpaa.BatM
open Go.ChangeShapes Go.WideShapes Go.ChangeAt Go.RowKit Go.Maps
open Sl (Sl Own Off)
open OpenSl (nc)
open Dev Orm LawE MapP MapOk OtB MapD MapW EntI PutM DoM Box2 TxP TxM BatR
open BatB (TOk BOk)
set_option linter.unusedVariables false

theorem infoRes : (Try.prog.info? 49).map (fun i => (i.zero, i.size, i.bytes)) = some (some (.agg #[.int .i64 0, .slice none 0 0]), 2, 32) := by kernel_rfl
theorem lit2 {U : World} {G : Nat} {a b : Value} (h : Bx U G a b) : ∀ j v, ([a, b])[j]? = some v → U.cell? ((⟨G, 0, none⟩ : Addr).add j) = some v := by
  obtain ⟨x0, x1, _, _⟩ := h
  intro j v hj
  match j, hj with
  | 0, hj => obtain rfl : a = v := by simpa using hj
             exact x0
  | 1, hj => obtain rfl : b = v := by simpa using hj
             exact x1
  | j + 2, hj => simp at hj
/-- What the model answers of a batch. -/
def BQ (base : Nat) (v0 : Value) (t : List En × List Re) (w : World) (e : Ending) : Prop := ∃ x v us, e = .returned (.tuple #[x, v]) ∧ Hid (Sl w 2 x t.1.length (ec t.1) ∧ NrO w base v t.2 us ∧ ∀ q, q < base → Off v0 q → Off x q)

set_option maxRecDepth 100000 in
set_option maxHeartbeats 3200000 in
theorem l10Batch (w : World) (v : Value) (xs : List En) (h : Sl w 2 v xs.length (ec xs)) (hok : MOk xs) (u : Value) (bss : List (List Bk)) (hs : Ns w u bss) (hb : BOk bss) :
    Calls Try.prog 93 #[v, u] w fun e w' => BQ w.heap.size v (bt xs bss) w' e ∧ Below w.heap.size w w' := by
  have HALL := Lib.hid hb.2
  have hn2 := hb.1.2
  have HJOK := Lib.hid (fun j (hj : j ≤ bss.length) => bj_ok hok hb.2 j hj)
  have HJL := Lib.hid (fun j (hj : j ≤ bss.length) => bj_len xs bss j hj)
  have HJS := Lib.hid (fun j (hj : j < bss.length) => bj_step xs bss j hj)
  have HJA := Lib.hid (bj_all xs bss)
  have HJ0 := Lib.hid (bj_zero xs bss)
  rw [← HJA.out]
  generalize bj xs bss = BJ at *
  obtain ⟨ts, hu, hin⟩ := hs
  obtain ⟨a, cap, rfl, _, hm⟩ := hu.form
  unfold maxLen at hm
  have HU := Lib.hid hu
  have HIN := Lib.hid hin
  have HV := Lib.hid h
  obtain ⟨U0, eU0, hb0, HM⟩ := empty_row w 49
  have HB0 := Lib.hid hb0
  have HL0 := Lib.hid (show Lt w w.heap.size v U0 v xs (.slice (some ⟨w.heap.size, 0, none⟩) 0 0) [] (fun _ => undef) from
    ⟨h.below hb0, HM, fun j hj => absurd hj (by simp), fun i j hi => absurd hi (by simp), fun q hq => off_top h (by decide) (by
      have : w.heap.size = q := by simpa [Value.ownBlock] using hq
      omega), fun q hq j hj => absurd hj (by simp), hb0, hb0.size, fun q _ hf => hf⟩)
  obtain ⟨G0, eG0⟩ : ∃ G0, w.heap.size = G0 := ⟨_, rfl⟩
  rw [eG0] at HL0 ⊢
  obtain ⟨n, en⟩ : ∃ n, bss.length = n := ⟨_, rfl⟩
  have HEN := Lib.hid en
  rw [en] at HU HIN HJOK HJL HJS hn2 ⊢
  clear h hok hu hin hb hb0 HM en
  obtain ⟨i0, hi0, hz0, hz1, hz2⟩ := info_parts infoRes
  go_enter Try.func93, Try.ntmps93
  go_wp2
  clear eU0
  have HG0 := Lib.hid eG0
  clear eG0
  go_loopw [0, 6, 7] (fun x ov i wz => ∃ (j : Nat) (wr : World) (a2 : Option Addr) (cap2 : Nat) (us : Nat → Value), wr = wz ∧ j ≤ n ∧ ov = .slice a2 j cap2 ∧ i = .int .i64 j ∧ Hid (Lt w G0 v wr x (BJ j).1 (.slice a2 j cap2) (BJ j).2 us)) (fun _ _ i _ => n - (Go.RowKit.intOf i).toNat)
  case atStart => exact ⟨0, _, _, _, fun _ => undef, rfl, by omega, rfl, rfl, Lib.hid (by rw [HJ0.out]; exact HL0.out)⟩
  case round =>
    obtain ⟨j, wr, a2, cap2, us, rfl, hj, rfl, rfl, HJ⟩ := hrel
    by_cases hlt : j < n
    · have HBw := Lib.hid (show Below w.heap.size w wr from by rw [HG0.out]; exact HJ.out.bel)
      obtain ⟨b0, o0, e5, hc⟩ := (HU.out.below HBw.out).at (by omega)
      obtain rfl : a = some ⟨b0, o0, none⟩ := by simpa using e5
      have c0 := hc j (by omega)
      have HO := Lib.hid (HALL.out _ (getD_mem (show j < bss.length by rw [HEN.out]; exact hlt)))
      have HS := Lib.hid (HJS.out j hlt)
      have HL := Lib.hid (HJL.out j hj)
      have HT := Lib.hid (l10Txn wr u0 (BJ j).1 HJ.out.map (HJOK.out j hj) (ts j) (bss.getD j []) ((HIN.out j hlt).below HBw.out) HO.out.2 HO.out.1.2)
      obtain ⟨t, et⟩ : ∃ t, tx (BJ j).1 (BJ j).1 [] (bss.getD j []) = t := ⟨_, rfl⟩
      rw [et] at HS HT
      clear et hc e5 HO
      obtain ⟨zs, vs, C⟩ := t
      generalize ts j = tj at *
      go_wp2_with fail
      refine HT.out.mono ?_
      rintro e w5 ⟨⟨x5, r5, rfl, hq⟩, hb⟩
      have HQ := Lib.hid hq.out
      have HUL := Lib.hid (fun i (hi : i < (BJ j).2.length) => apart_of (HJ.out.inn i hi).sl (by decide) HQ.out.2.1 (Nat.le_refl _))
      have HRB := Lib.hid (fun q (hq : (Value.slice a2 j cap2).ownBlock = some q) => (World.ownsRow.lt HJ.out.row q hq).2)
      have HSZ := Lib.hid hb.size
      have HL5 := Lib.hid (HJ.out.below hb)
      obtain ⟨a5, cap5, rfl, _, _⟩ := hq.out.2.1.sl.form
      obtain ⟨m, hm9⟩ : ∃ m, vs.length = m := ⟨_, rfl⟩
      have HML := Lib.hid hm9
      simp only at HQ HUL ⊢
      rw [hm9] at HQ HUL ⊢
      obtain ⟨U6, e6, hb6, hz6, X6⟩ := Box2.box2 w5 49 (.int .i64 0) (.slice none 0 0)
      obtain ⟨G6, eG6⟩ : ∃ G, w5.heap.size = G := ⟨_, rfl⟩
      rw [eG6] at X6
      obtain ⟨W7, eW7, hx7, hb7, _⟩ := put2 U6 G6 _ _ (.int .i64 C) (.slice a5 m cap5) X6
      obtain ⟨U8, e8, hb8, hz8, X8⟩ := Box2.box2 W7 49 (.int .i64 C) (.slice a5 m cap5)
      obtain ⟨G8, eG8⟩ : ∃ G, W7.heap.size = G := ⟨_, rfl⟩
      rw [eG8] at X8
      have h67 := hb6.trans (hb7 w5.heap.size (by omega))
      have HB8 := Lib.hid (h67.trans (hb8.mono h67.size))
      have HN8 := Lib.hid (lit2 X8)
      have HL8 := Lib.hid (HL5.out.below HB8.out)
      have HROW := Lib.hid (show U8.ownsRow G0 49 2 (.slice a2 j cap2) j (rl (BJ j).2 us) from by have := HL8.out.row; rwa [HL.out] at this)
      have HSZ8 := Lib.hid (show G0 ≤ U8.heap.size from HL8.out.size)
      have ho1 : ∀ v ∈ [Value.int .i64 C, .slice a5 m cap5], v.oneCell' = true := by intro v hv; simp at hv; rcases hv with rfl | rfl <;> rfl
      have hm2 : j + 1 ≤ maxLen := by unfold maxLen; omega
      have hy2 : (j + 1) * 32 ≤ 140737488355328 := by omega
      obtain ⟨d0, d1, f0, f1⟩ := X6
      obtain ⟨R0, R1, _, _⟩ := hx7
      clear hb hq hb6 hb7 hb8 hz6 hz8 X8 h67 hm9 c0
      go_wp2_with (at_builtin; refine wpList_append_own_at _ rfl (.tmp 27) (.tmp 29) 66 rfl G0 49 i0 _ 2 32 Try.underlying66 hi0 hz0 hz1 hz2 rfl (by omega) (.slice a2 j cap2) j (rl (BJ j).2 us) (by simp [Act.eval]) HROW.out ⟨G8, 0, none⟩ 1 1 _ (by simp [Act.eval]) rfl HN8.out ho1 hm2 hy2 HSZ8.out ?_; intro v9 w9 hrow hgr _ hat; obtain ⟨a9, cap9, rfl⟩ := MapI.row_form hrow; have HR9 := Lib.hid hrow; have HG9 := Lib.hid hgr; have HA9 := Lib.hid hat; clear hrow hgr hat)
      have HL9 := Lib.hid (HL8.out.snoc (B := wr.heap.size) (x' := x5) (zs := zs) (r := .slice a5 m cap5) (c := C) (vs := vs) (Nat.le_trans HSZ.out HB8.out.size) HJ.out.size HRB.out HUL.out (HQ.out.1.below HB8.out) (by rw [HML.out]; exact HQ.out.2.1.below HB8.out) HQ.out.2.2 HG9.out (by rw [HL.out]; exact HR9.out) HA9.out)
      go_wp2
      go_roundw
      case rel => exact ⟨j + 1, _, a9, cap9, su (BJ j).2 us (.slice a5 m cap5), rfl, by omega, rfl, by go_num, Lib.hid (by rw [HS.out]; exact HL9.out)⟩
      case measure => simp [Go.RowKit.intOf]; omega
    · have HE := Lib.hid (show j = n by omega)
      have HF := Lib.hid (show Lt w G0 v wr u0 (BJ n).1 (.slice a2 j cap2) (BJ n).2 us from HE.out ▸ HJ.out)
      go_wp2
      go_ret2
      exact ⟨⟨_, _, us, rfl, Lib.hid ⟨HF.out.map, HF.out.res, HF.out.old⟩⟩, HF.out.bel⟩
end Go.Proofs.Ytealdpkgfmokpaa.BatM
namespace Go.Proofs.Ytealdpkgfmokpaa.BatMS
open Go.ChangeShapes Go.WideShapes Go.ChangeAt Go.RowKit Go.Maps
open Sl (Sl Own Off)
open OpenSl (nc)
open Dev Orm LawE MapP MapOk MapOkS OtB MapD MapW EntI PutM TxP TxM BatR BatM
open BatB (TOk BOk)
set_option linter.unusedVariables false

/-- What MapBatch answers: map and results; and the call's code. -/
def gb (xs : List En) (bss : List (List Bk)) : List En × List Re := if MOk xs ∧ BOk bss then bt xs bss else ([], [])
def gk (xs : List En) (bss : List (List Bk)) : Int := if 4096 < xs.length ∨ 4096 < bss.length then 2 else if MOk xs ∧ BOk bss then 0 else 1
theorem gb_len (xs : List En) (bss : List (List Bk)) : (gb xs bss).1.length ≤ 11 ∧ (gb xs bss).2.length ≤ 2 ∧ ∀ r ∈ (gb xs bss).2, r.2.length ≤ 32 := by
  unfold gb
  split
  · rename_i h
    exact ⟨(bt_ok h.1 h.2.2).1, by rw [bt_len]; exact h.2.1.2, bt_vals h.2.2⟩
  · exact ⟨by simp, by simp, fun r h => by cases h⟩
def BS (base : Nat) (t : List En × List Re) (k : Int) (w : World) (e : Ending) : Prop := ∃ x v us, e = .returned (.tuple #[x, v, .int .i64 k]) ∧ Hid (Own w base 2 x t.1.length (ec t.1) ∧ NrO w base v t.2 us)
theorem nil_map (w : World) (base : Nat) (a : Option Addr) : Own w base 2 (.slice a 0 0) ([] : List En).length (ec []) := ⟨a, 0, rfl, Nat.le_refl _, by unfold maxLen; omega, fun h => absurd h (by simp)⟩
theorem empties (w : World) : ∃ U1, w.alloc (.cells #[] 117) = U1 ∧ ∃ U2, U1.alloc (.cells #[] 49) = U2 ∧ Below w.heap.size w U2 := by
  obtain ⟨U1, e1, hb1, _⟩ := empty_row w 117
  obtain ⟨U2, e2, hb2, _⟩ := empty_row U1 49
  exact ⟨U1, e1, U2, e2, hb1.trans (hb2.mono hb1.size)⟩
set_option maxRecDepth 100000 in
set_option maxHeartbeats 3200000 in
theorem specBatch (w : World) (v : Value) (xs : List En) (h : Sl w 2 v xs.length (ec xs)) (u : Value) (bss : List (List Bk)) (hs : Ns w u bss) :
    Calls Try.prog 34 #[v, u] w fun e w' => BS w.heap.size (gb xs bss) (gk xs bss) w' e ∧ Below w.heap.size w w' := by
  have HV := Lib.hid h
  have HS := Lib.hid hs
  obtain ⟨p, hp⟩ : ∃ p, decide (BOk bss) = p := ⟨_, rfl⟩
  obtain ⟨q, hq⟩ : ∃ q, decide (MOk xs) = q := ⟨_, rfl⟩
  have HBO := Lib.hid (fun t (ht : Ns t u bss) => show Calls Try.prog 92 #[u] t fun e w' => e = .returned (.bool p) ∧ Below t.heap.size t w' from hp ▸ BatS.specOk t u bss ht)
  have HMO := Lib.hid (fun t (ht : Sl t 2 v xs.length (ec xs)) => MapOkS.specOk t v xs ht q hq)
  obtain ⟨a, cap, rfl, _, hm⟩ := h.form
  unfold maxLen at hm
  obtain ⟨ts, hu, _⟩ := hs
  obtain ⟨a2, cap2, rfl, _, hm2⟩ := hu.form
  unfold maxLen at hm2
  clear h hu
  by_cases hl : 4096 < xs.length
  · have e1x : gb xs bss = ([], []) := if_neg (fun hh => by have := hh.1.1; omega)
    have e2x : gk xs bss = 2 := by unfold gk; rw [if_pos (.inl hl)]
    rw [e1x, e2x]
    obtain ⟨U1, e1, U2, e2, hb⟩ := empties w
    have HB := Lib.hid hb
    clear e1x e2x hb hq hp
    generalize xs.length = n at *
    generalize bss.length = n2 at *
    go_enter Try.func34, Try.ntmps34
    go_wp2
    go_ret3
    exact ⟨⟨_, _, fun _ => undef, rfl, Lib.hid ⟨nil_map _ _ _, no_res _ _ _ _⟩⟩, HB.out⟩
  by_cases hl2 : 4096 < bss.length
  · have e1x : gb xs bss = ([], []) := if_neg (fun hh => by have := hh.2.1.2; omega)
    have e2x : gk xs bss = 2 := by unfold gk; rw [if_pos (.inr hl2)]
    rw [e1x, e2x]
    obtain ⟨U1, e1, U2, e2, hb⟩ := empties w
    have HB := Lib.hid hb
    clear e1x e2x hb hq hp
    generalize xs.length = n at *
    generalize bss.length = n2 at *
    go_enter Try.func34, Try.ntmps34
    go_wp2
    go_ret3
    exact ⟨⟨_, _, fun _ => undef, rfl, Lib.hid ⟨nil_map _ _ _, no_res _ _ _ _⟩⟩, HB.out⟩
  by_cases hgood : q = true ∧ p = true
  · obtain ⟨rfl, rfl⟩ := hgood
    have hok : MOk xs := of_decide_eq_true hq
    have hop : BOk bss := of_decide_eq_true hp
    have e1x : gb xs bss = bt xs bss := if_pos ⟨hok, hop⟩
    have e2x : gk xs bss = 0 := by unfold gk; rw [if_neg (fun hh => hh.elim hl hl2), if_pos ⟨hok, hop⟩]
    rw [e1x, e2x]
    have HD := Lib.hid (fun t (ht : Sl t 2 (.slice a xs.length cap) xs.length (ec xs)) (hs : Ns t (.slice a2 bss.length cap2) bss) => l10Batch t _ xs ht hok _ bss hs hop)
    have HYL := Lib.hid (bt_ok hok hop.2).1
    clear e1x e2x hq hp hok hop
    generalize bt xs bss = t at *
    obtain ⟨ys, rs⟩ := t
    simp only at HYL
    generalize xs.length = n at *
    generalize bss.length = n2 at *
    go_enter Try.func34, Try.ntmps34
    go_wp2_with fail
    refine (HMO.out _ HV.out).mono ?_
    rintro e w1 ⟨rfl, hb⟩
    have HB1 := Lib.hid hb
    clear hb
    go_wp2_with fail
    refine (HBO.out _ (HS.out.below HB1.out)).mono ?_
    rintro e w2 ⟨rfl, hb⟩
    have HB2 := Lib.hid (HB1.out.trans (hb.mono HB1.out.size))
    clear hb
    go_wp2_with fail
    refine (HD.out _ (HV.out.below HB2.out) (HS.out.below HB2.out)).mono ?_
    rintro e w3 ⟨⟨x3, v3, us, rfl, hq3⟩, hb⟩
    simp only at hq3
    have HB3 := Lib.hid (HB2.out.trans (hb.mono HB2.out.size))
    obtain ⟨b3, cap4, rfl, _, _⟩ := hq3.out.1.form
    obtain ⟨l, hl9⟩ : ∃ l, ys.length = l := ⟨_, rfl⟩
    have HLL := Lib.hid hl9
    obtain ⟨U4, e4, hb4, hrow⟩ := empty_row w3 117
    have HM4 := Lib.hid (hq3.out.1.below hb4)
    have HR3 := Lib.hid (hq3.out.2.1.base HB2.out.size)
    have HRW := Lib.hid hrow
    have HB4 := Lib.hid hb4
    have HS4 := Lib.hid (show w3.heap.size ≤ U4.heap.size from hb4.size)
    rw [hl9] at HM4 HYL ⊢
    have hm3 : 0 + l ≤ maxLen := by have := HYL.out; unfold maxLen; omega
    have hy3 : (0 + l) * 16 ≤ 140737488355328 := by have := HYL.out; omega
    clear hl9 hb hb4 hrow hq3
    go_wp2_with (at_builtin; refine Cop.wpList_appR _ rfl (.tmp 35) (.tmp 36) 47 rfl w3.heap.size 117 2 16 _ Try.underlying47 infoE rfl (by omega) (.slice (some ⟨w3.heap.size, 0, none⟩) 0 0) (by simp [Act.eval]) 0 [] HRW.out HS4.out (.slice b3 l cap4) (by simp [Act.eval]) l (ec ys) HM4.out (fun j _ => ec_one _ j) hm3 hy3 ?_; intro a7 cap7 w7 hr7 hg7; rw [Nat.zero_add, List.nil_append] at hr7; rw [Nat.zero_add]; have HR7 := Lib.hid hr7; have HB7 := Lib.hid (MapI.below_grown hg7 (fun q hq => (World.ownsRow.lt HRW.out q hq).1) HS4.out HB4.out); clear hr7 hg7)
    go_ret3
    exact ⟨⟨_, _, us, rfl, Lib.hid ⟨by rw [HLL.out]; exact (Cop.row_own HR7.out).base HB3.out.size, HR3.out.below HB7.out⟩⟩, HB3.out.trans (HB7.out.mono HB3.out.size)⟩
  have hno : ¬ (MOk xs ∧ BOk bss) := fun hh => hgood ⟨by rw [← hq]; exact decide_eq_true hh.1, by rw [← hp]; exact decide_eq_true hh.2⟩
  have e1x : gb xs bss = ([], []) := if_neg hno
  have e2x : gk xs bss = 1 := by unfold gk; rw [if_neg (fun hh => hh.elim hl hl2), if_neg hno]
  rw [e1x, e2x]
  clear hno e1x e2x hq hp
  generalize xs.length = n at *
  generalize bss.length = n2 at *
  cases q with
  | false =>
    clear hgood
    go_enter Try.func34, Try.ntmps34
    go_wp2_with fail
    refine (HMO.out _ HV.out).mono ?_
    rintro e w1 ⟨rfl, hb⟩
    have HB1 := Lib.hid hb
    obtain ⟨U1, e1, U2, e2, hb2⟩ := empties w1
    have HB2 := Lib.hid (HB1.out.trans (hb2.mono HB1.out.size))
    clear hb hb2
    go_wp2_with fail
    go_ret3
    exact ⟨⟨_, _, fun _ => undef, rfl, Lib.hid ⟨nil_map _ _ _, no_res _ _ _ _⟩⟩, HB2.out⟩
  | true =>
    cases p with
    | true => exact absurd ⟨rfl, rfl⟩ hgood
    | false =>
      clear hgood
      go_enter Try.func34, Try.ntmps34
      go_wp2_with fail
      refine (HMO.out _ HV.out).mono ?_
      rintro e w1 ⟨rfl, hb⟩
      have HB1 := Lib.hid hb
      clear hb
      go_wp2_with fail
      refine (HBO.out _ (HS.out.below HB1.out)).mono ?_
      rintro e w2 ⟨rfl, hb⟩
      have HB2 := Lib.hid (HB1.out.trans (hb.mono HB1.out.size))
      obtain ⟨U1, e1, U2, e2, hb2⟩ := empties w2
      have HB3 := Lib.hid (HB2.out.trans (hb2.mono HB2.out.size))
      clear hb hb2
      go_wp2_with fail
      go_ret3
      exact ⟨⟨_, _, fun _ => undef, rfl, Lib.hid ⟨nil_map _ _ _, no_res _ _ _ _⟩⟩, HB3.out⟩
end Go.Proofs.Ytealdpkgfmokpaa.BatMS
