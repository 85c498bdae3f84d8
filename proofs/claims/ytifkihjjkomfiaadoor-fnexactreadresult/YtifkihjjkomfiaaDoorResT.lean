/-
  What is proved: the program's text of a result is the plain one; both ResultText answer it; the exact law on ResultText returns true (the walk).
-/
import Derived.Test.YtifkihjjkomfiaaDoorRows
import Derived.Test.YtifkihjjkomfiaaDoorResI
import Derived.Test.YtifkihjjkomfiaaDoorResS
namespace Go.Proofs.YtifkihjjkomfiaaDoor.ResT
open Go.ChangeShapes Go.WideShapes Go.ChangeAt Go.RowKit
open Sl (Sl Own Off)
open OpenSl (nc)
open Dev Box2 LawR ResP Dig OtB ResI
open CodesR (wordOf)
set_option linter.unusedVariables false

theorem infoS : (Tryd.prog.info? 9).map (fun i => (i.zero, i.size, i.bytes)) = some (some (.string ByteArray.empty), 1, 16) := by kernel_rfl
theorem row_form {w : World} {base : Nat} {e : TypeId} {sz : Nat} {v : Value} {n : Nat} {xs : List Value} (h : w.ownsRow base e sz v n xs) : ∃ a cap, v = .slice a n cap := by
  obtain ⟨_, ⟨rfl, rfl⟩ | ⟨g, cap, cur, rfl, _⟩⟩ := h
  · exact ⟨_, _, rfl⟩
  · exact ⟨_, _, rfl⟩
theorem below_grown {u w' w : World} {r : Option Nat} (h : u.grownBy w' r) {lo : Nat} (hr : ∀ q, r = some q → lo ≤ q) (hlo : lo ≤ u.heap.size) (hb : Below lo w u) : Below lo w w' :=
  ⟨h.os.trans hb.os, h.tape.trans hb.tape, h.output.trans hb.output, Nat.le_trans hb.size h.size, fun i hi => (h.block i (Nat.lt_of_lt_of_le hi hlo) (fun e => by have := hr i e.symm; omega)).trans (hb.block i hi)⟩
def rs (c : Int) (vs : List Int) : List Value := (rW c vs).map Value.string
theorem rs_snoc (c : Int) (vs : List Int) (x : Int) : rs c (vs ++ [x]) = rs c vs ++ [.string (ds x.toNat)] := by simp [rs, rW]
theorem rs_len (c : Int) (vs : List Int) : (rs c vs).length = vs.length + 1 := by simp [rs, rW]
/-- A text is made a literal. -/
theorem litS (w : World) (t : ByteArray) : ∃ U, w.alloc (.cells #[.string t] 9) = U ∧ Below w.heap.size w U ∧ U.cell? ⟨w.heap.size, 0, none⟩ = some (.string t) ∧ U.ownsRow w.heap.size 9 1 (.slice (some ⟨w.heap.size, 0, none⟩) 1 1) 1 [.string t] :=
  ⟨_, rfl, (Below.refl _ w).alloc (Nat.le_refl _) _, by go_simp, World.ownsRow_lit w #[.string t] 1 (Nat.le_refl _) (by unfold maxLen; omega) rfl⟩
theorem lit_at {U : World} {G : Nat} {a : Value} (x0 : U.cell? ⟨G, 0, none⟩ = some a) : ∀ j v, ([a])[j]? = some v → U.cell? ((⟨G, 0, none⟩ : Addr).add j) = some v := by
  intro j v hj
  match j, hj with
  | 0, hj => obtain rfl : a = v := by simpa using hj
             exact x0
  | j + 1, hj => simp at hj

set_option maxRecDepth 100000 in
set_option maxHeartbeats 1600000 in
theorem resultText (w : World) (hT : Tc w) (v : Value) (c : Int) (vs : List Int) (h : Rr w v c vs) (hok : ROk c vs) :
    Calls Tryd.prog 19 #[v] w fun e w' => e = .returned (.string (rB c vs)) ∧ Below w.heap.size w w' := by
  obtain ⟨s, rfl, h1⟩ := h
  obtain ⟨U, e1, hb, hz, X⟩ := box2 w 28 (.int .i64 c) s
  obtain ⟨G, eG⟩ : ∃ G, w.heap.size = G := ⟨_, rfl⟩
  have HB := Lib.hid hb
  have HS := Lib.hid (h1.below hb)
  have HTU := Lib.hid (hT.below hb)
  obtain ⟨a, cap, rfl, _, hm, h3⟩ := h1
  unfold maxLen at hm
  rw [eG] at X
  have HX := Lib.hid X
  obtain ⟨c0, c1, _, _⟩ := X
  have HW := Lib.hid (fun u (hu : Tc u) => CodesR.word_impl c u hu.tab)
  have h32 := hok.2.1
  have HV := Lib.hid (fun k (hk : k < vs.length) => hok.2.2.2 _ (ResP.getD_in vs k hk))
  have HTN := Lib.hid (fun k (hk : k < vs.length) => show rs c (vs.take (k + 1)) = rs c (vs.take k) ++ [.string (ds (vs.getD k 0).toNat)] by rw [ResP.take_next vs k hk, rs_snoc])
  have HTL := Lib.hid (List.take_length (l := vs))
  have H0 := Lib.hid (show rs c (vs.take 0) = [.string (wordOf c)] by rw [List.take_zero]; rfl)
  have HJN := Lib.hid (fun (u : World) (bk cp : Nat) (hr : u.ownsRow U.heap.size 9 1 (.slice (some ⟨bk, 0, none⟩) (vs.length + 1) cp) (vs.length + 1) (rs c vs)) => show Calls Tryd.prog 35 #[.slice (some ⟨bk, 0, none⟩) (vs.length + 1) cp, .string ⟨#[32]⟩] u fun e w' => e = .returned (.string (rB c vs)) ∧ Below u.heap.size u w' from by
    have hl : (rW c vs).length = vs.length + 1 := by simp [rW]
    have hcp : vs.length + 1 ≤ cp := by
      rcases hr.2 with ⟨e, _⟩ | ⟨g, cap', cur, e, _, _, k1, _⟩
      · cases e
      · obtain ⟨_, rfl⟩ : bk = g ∧ cp = cap' := by simpa using e
        exact k1
    have := Tryd.strings_Join bk 0 cp (rW c vs) ⟨#[32]⟩ u (fun j x hx => by
      have := hr.cells (g := bk) rfl j (.string x) (by unfold rs; rw [List.getElem?_map, hx]; rfl)
      rwa [OpenSl.add_none] at this) ((World.ownsRow.lt hr bk rfl).2) (by rw [hl]; omega) (by rw [hl]; exact hcp) (by
        have := rB_join c vs h32 hok.2.2.2
        exact Nat.le_trans this (by omega))
    rw [hl] at this
    exact this)
  obtain ⟨i0, hi0, hz0, hz1, hz2⟩ := info_parts infoS
  clear hb hz h3 hok hT
  generalize wordOf c = WD at *
  obtain ⟨n, en⟩ : ∃ n, vs.length = n := ⟨_, rfl⟩
  rw [en] at HS HV HTN HTL HJN h32 c1 e1 ⊢
  have HEN := Lib.hid en
  rw [en] at HX
  clear en
  go_enter Tryd.func19, Tryd.ntmps19
  go_wp2_with fail
  clear e1 eG
  refine (HW.out _ HTU.out).mono ?_
  rintro e u ⟨rfl, hu⟩
  replace hu := hu.symm
  subst hu
  obtain ⟨U1, e1, hb1, x0, hr1⟩ := litS u WD
  have HB1 := Lib.hid hb1
  have HR1 := Lib.hid hr1
  obtain ⟨s0, es0⟩ : ∃ s0, u.heap.size = s0 := ⟨_, rfl⟩
  have HS0 := Lib.hid es0
  rw [es0] at HR1 HB1 HJN
  have c1b := (HX.out.below hb1).c1
  clear hb1 x0 hr1 c0 c1
  go_wp2
  clear e1
  go_loopw [3, 13] (fun lv i wz => ∃ (k : Nat) (wr : World) (b : Option Addr) (cp : Nat), wr = wz ∧ k ≤ n ∧ lv = .slice b (k + 1) cp ∧ i = .int .i64 k ∧ Hid (wr.ownsRow s0 9 1 (.slice b (k + 1) cp) (k + 1) (rs c (vs.take k)) ∧ Below s0 u wr)) (fun lv i _ => n - (Go.RowKit.intOf i).toNat)
  case atStart => exact ⟨0, _, _, _, rfl, by omega, rfl, rfl, Lib.hid ⟨by rw [H0.out]; exact HR1.out, HB1.out⟩⟩
  case round =>
    obtain ⟨k, wr, b, cp, rfl, hk, rfl, rfl, HJ⟩ := hrel
    have HBU := Lib.hid (show Below u.heap.size u wr by rw [HS0.out]; exact HJ.out.2)
    by_cases hlt : k < n
    · obtain ⟨b2, o, hsa, hc⟩ := (HS.out.below HBU.out).at (by omega)
      obtain rfl : a = some ⟨b2, o, none⟩ := by simpa using hsa
      have d0 := hc k (by omega)
      unfold nc at d0
      have HT := Lib.hid (HTN.out k hlt)
      have HVK := Lib.hid (HV.out k hlt)
      clear hc hsa
      generalize vs.getD k 0 = y at *
      obtain ⟨m, rfl⟩ : ∃ m : Nat, y = m := ⟨y.toNat, by have := HVK.out.1; omega⟩
      have hm6 : m ≤ 999999 := by have := HVK.out.2; omega
      rw [Int.toNat_natCast] at HT
      have HD := Lib.hid (fun u (hu : Tc u) => Shelf1.itoa m (by omega) u hu.pow)
      have HTW := Lib.hid (HTU.out.below HBU.out)
      generalize ds m = D at *
      go_wp2_with fail
      refine (HD.out _ HTW.out).mono ?_
      rintro e w2 ⟨rfl, hb⟩
      have HR2 := Lib.hid (Cop.row_below HJ.out.1 hb)
      have HB2 := Lib.hid (HJ.out.2.trans (hb.mono (Nat.le_trans (Nat.le_of_eq HS0.out.symm) HJ.out.2.size)))
      obtain ⟨U2, e2, hb2, x0, _⟩ := litS w2 D
      have HR3 := Lib.hid (Cop.row_below HR2.out hb2)
      have HSL := Lib.hid (show s0 ≤ U2.heap.size from Nat.le_trans (Nat.le_trans (Nat.le_of_eq HS0.out.symm) HB2.out.size) hb2.size)
      have HB3 := Lib.hid (HB2.out.trans (hb2.mono (Nat.le_trans (Nat.le_of_eq HS0.out.symm) HB2.out.size)))
      obtain ⟨M, eM⟩ : ∃ M, w2.heap.size = M := ⟨_, rfl⟩
      rw [eM] at x0
      have HN := Lib.hid (lit_at x0)
      have EM := Lib.hid eM
      have hm2 : k + 1 + 1 ≤ maxLen := by unfold maxLen; omega
      have hy2 : (k + 1 + 1) * 16 ≤ 140737488355328 := by omega
      have ho1 : ∀ v ∈ [Value.string D], v.oneCell' = true := by intro v hv; simp at hv; rw [hv]; rfl
      clear hb hb2 x0 d0 eM
      go_wp2_with (at_builtin; refine wpList_append_own _ rfl (.tmp 17) (.tmp 20) 42 rfl s0 9 i0 _ 1 16 Tryd.underlying42 hi0 hz0 hz1 hz2 rfl (by omega) (.slice b (k + 1) cp) (k + 1) _ (by simp [Act.eval]) HR3.out ⟨M, 0, none⟩ 1 1 [Value.string D] (by simp [Act.eval] <;> exact EM.out) rfl HN.out ho1 hm2 hy2 HSL.out ?_; intro v4 w4 hr4 hg4 _; obtain ⟨b4, cp4, rfl⟩ := row_form hr4; have HR4 := Lib.hid hr4; have HB4 := Lib.hid (below_grown hg4 (fun q hq => (World.ownsRow.lt HR3.out q hq).1) HSL.out HB3.out); clear hr4 hg4)
      go_roundw
      case rel => exact ⟨k + 1, _, b4, cp4, rfl, by omega, rfl, by go_num, Lib.hid ⟨by rw [HT.out]; exact HR4.out, HB4.out⟩⟩
      case measure => simp [Go.RowKit.intOf]; omega
    · have hk2 := Lib.hid (show k = n by omega)
      obtain ⟨bk, hbk⟩ : ∃ bk, b = some ⟨bk, 0, none⟩ := by
        rcases HJ.out.1.2 with ⟨e, e2⟩ | ⟨g, cap', cur, e, _⟩
        · omega
        · obtain ⟨e3, _⟩ : b = some ⟨g, 0, none⟩ ∧ cp = cap' := by simpa using e
          exact ⟨g, e3⟩
      subst hbk
      have hr := HJ.out.1
      rw [hk2.out, HTL.out] at hr
      have HJ2 := Lib.hid (HJN.out wr bk cp hr)
      have hkn := hk2.out
      clear hk2 hr
      subst hkn
      go_wp2_with fail
      refine HJ2.out.mono ?_
      rintro e w5 ⟨rfl, hb⟩
      have HB5 := Lib.hid (HBU.out.trans (hb.mono HBU.out.size))
      clear hb
      go_wp2_with fail
      go_ret
      exact ⟨rfl, HB.out.trans (HB5.out.mono HB.out.size)⟩

/-- What both ResultText answer. -/
def tt (c : Int) (vs : List Int) (q : Bool) : ByteArray := if q = true then rB c vs else ⟨#[]⟩
def tk (q : Bool) : Int := if q = true then 0 else 1
set_option maxRecDepth 100000 in
theorem implText (w : World) (hT : Tc w) (v : Value) (c : Int) (vs : List Int) (h : Rr w v c vs) (q : Bool) (hq : decide (ROk c vs) = q) :
    Calls Tryd.prog 8 #[v] w fun e w' => e = .returned (.tuple #[.string (tt c vs q), .int .i64 (tk q)]) ∧ Below w.heap.size w w' := by
  obtain ⟨s, rfl, h1⟩ := h
  obtain ⟨U, e1, hb, hz, X⟩ := box2 w 28 (.int .i64 c) s
  obtain ⟨G, eG⟩ : ∃ G, w.heap.size = G := ⟨_, rfl⟩
  have HB := Lib.hid hb
  have HR := Lib.hid (show Rr U (.agg #[.int .i64 c, s]) c vs from ⟨s, rfl, h1.below hb⟩)
  have HTU := Lib.hid (hT.below hb)
  rw [eG] at X
  have HX := Lib.hid X
  obtain ⟨c0, c1, _, _⟩ := X
  have HG := Lib.hid (right U HTU.out _ c vs HR.out q hq)
  have HE := Lib.hid (show q = true → ROk c vs from fun e => by rw [← hq] at e; exact of_decide_eq_true e)
  have HTX := Lib.hid (fun u hu v hv hok => resultText u hu v c vs hv hok)
  have HTT := Lib.hid (show tt c vs true = rB c vs ∧ tt c vs false = ⟨#[]⟩ ∧ tk true = 0 ∧ tk false = 1 from ⟨by unfold tt; simp, by unfold tt; simp, rfl, rfl⟩)
  obtain ⟨a, cap, rfl, _, _⟩ := h1.form
  clear hb hz h1 hq hT
  cases q with
  | false =>
    rw [HTT.out.2.1, HTT.out.2.2.2]
    clear HTT HTX
    generalize vs.length = n at *
    go_enter Tryd.func8, Tryd.ntmps8
    go_wp2_with fail
    clear e1 eG
    refine HG.out.mono ?_
    rintro e w1 ⟨rfl, hb⟩
    have HB1 := Lib.hid (HB.out.trans (hb.mono HB.out.size))
    clear hb
    go_wp2_with fail
    go_ret2
    exact ⟨rfl, HB1.out⟩
  | true =>
    rw [HTT.out.1, HTT.out.2.2.1]
    have hok := HE.out rfl
    generalize rB c vs = RB at *
    clear HTT HE
    generalize vs.length = n at *
    go_enter Tryd.func8, Tryd.ntmps8
    go_wp2_with fail
    clear e1 eG
    refine HG.out.mono ?_
    rintro e w1 ⟨rfl, hb⟩
    have HB1 := Lib.hid (HB.out.trans (hb.mono HB.out.size))
    have HT1 := Lib.hid (HTU.out.below hb)
    have HR1 := Lib.hid (HR.out.below hb)
    obtain ⟨d0, d1, _, _⟩ := HX.out.below hb
    have HOK := Lib.hid hok
    clear hb c0 c1 hok
    go_wp2_with fail
    refine (HTX.out _ HT1.out _ HR1.out HOK.out).mono ?_
    rintro e w2 ⟨rfl, hb⟩
    have HB2 := Lib.hid (HB1.out.trans (hb.mono HB1.out.size))
    clear hb
    go_wp2_with fail
    go_ret2
    exact ⟨rfl, HB2.out⟩
set_option maxRecDepth 100000 in
theorem specText (w : World) (v : Value) (c : Int) (vs : List Int) (h : Rr w v c vs) (q : Bool) (hq : decide (ROk c vs) = q) :
    Calls Tryd.prog 6 #[v] w fun e w' => e = .returned (.tuple #[.string (tt c vs q), .int .i64 (tk q)]) ∧ Below w.heap.size w w' := by
  obtain ⟨s, rfl, h1⟩ := h
  obtain ⟨U, e1, hb, hz, X⟩ := box2 w 28 (.int .i64 c) s
  obtain ⟨G, eG⟩ : ∃ G, w.heap.size = G := ⟨_, rfl⟩
  have HB := Lib.hid hb
  have HR := Lib.hid (show Rr U (.agg #[.int .i64 c, s]) c vs from ⟨s, rfl, h1.below hb⟩)
  rw [eG] at X
  have HX := Lib.hid X
  obtain ⟨c0, c1, _, _⟩ := X
  have HG := Lib.hid (ResS.specOk U _ c vs HR.out q hq)
  have HE := Lib.hid (show q = true → ROk c vs from fun e => by rw [← hq] at e; exact of_decide_eq_true e)
  have HTX := Lib.hid (fun u v hv hok => ResS.l10Text u v c vs hv hok)
  have HTT := Lib.hid (show tt c vs true = rB c vs ∧ tt c vs false = ⟨#[]⟩ ∧ tk true = 0 ∧ tk false = 1 from ⟨by unfold tt; simp, by unfold tt; simp, rfl, rfl⟩)
  obtain ⟨a, cap, rfl, _, _⟩ := h1.form
  clear hb hz h1 hq
  cases q with
  | false =>
    rw [HTT.out.2.1, HTT.out.2.2.2]
    clear HTT HTX
    generalize vs.length = n at *
    go_enter Tryd.func6, Tryd.ntmps6
    go_wp2_with fail
    clear e1 eG
    refine HG.out.mono ?_
    rintro e w1 ⟨rfl, hb⟩
    have HB1 := Lib.hid (HB.out.trans (hb.mono HB.out.size))
    clear hb
    go_wp2_with fail
    go_ret2
    exact ⟨rfl, HB1.out⟩
  | true =>
    rw [HTT.out.1, HTT.out.2.2.1]
    have hok := HE.out rfl
    generalize rB c vs = RB at *
    clear HTT HE
    generalize vs.length = n at *
    go_enter Tryd.func6, Tryd.ntmps6
    go_wp2_with fail
    clear e1 eG
    refine HG.out.mono ?_
    rintro e w1 ⟨rfl, hb⟩
    have HB1 := Lib.hid (HB.out.trans (hb.mono HB.out.size))
    have HR1 := Lib.hid (HR.out.below hb)
    obtain ⟨d0, d1, _, _⟩ := HX.out.below hb
    have HOK := Lib.hid hok
    clear hb c0 c1 hok
    go_wp2_with fail
    refine (HTX.out _ _ HR1.out HOK.out).mono ?_
    rintro e w2 ⟨rfl, hb⟩
    have HB2 := Lib.hid (HB1.out.trans (hb.mono HB1.out.size))
    clear hb
    go_wp2_with fail
    go_ret2
    exact ⟨rfl, HB2.out⟩
end Go.Proofs.YtifkihjjkomfiaaDoor.ResT
