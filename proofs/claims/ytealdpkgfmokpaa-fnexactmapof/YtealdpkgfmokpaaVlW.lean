/-
  What is proved: the program's and the model's word on a block's value and place are the plain ones (contracts for the walks).
-/
import Derived.Test.YtealdpkgfmokpaaRows
import Derived.Test.YtealdpkgfmokpaaIdx
import Derived.Test.YtealdpkgfmokpaaOkS2
namespace Go.Proofs.Ytealdpkgfmokpaa.VlW
open Go.ChangeShapes Go.WideShapes Go.ChangeAt Go.RowKit Go.Maps
open Sl (Sl Own Off)
open OpenSl (tc nc pc)
open Dev Orm Wy Box3 OkP OkI2 OkV
set_option linter.unusedVariables false

theorem find_at {L P R : List Bk} {x : Bk} {z : Int} (h : L = P ++ x :: R) (hp : z ∉ ids P) (hx : x.1 = z) : L.find? (fun y => y.1 == z) = some x := by
  subst h
  rw [List.find?_append]
  have : P.find? (fun y => y.1 == z) = none := by
    rw [List.find?_eq_none]
    intro y hy he
    exact hp (List.mem_map.2 ⟨y, hy, by simpa using he⟩)
  rw [this, Option.none_or, List.find?_cons_of_pos (by simpa using hx)]
theorem split_at {α : Type} (L : List α) (d : α) (k : Nat) (h : k < L.length) : L = L.take k ++ L.getD k d :: L.drop (k + 1) := by
  rw [List.getD_eq_getElem?_getD, List.getElem?_eq_getElem h]
  simp
theorem al_st (o : Om) (k : Nat) (h : k < o.st.length) : ∃ R, al o = o.st.take k ++ o.st.getD k (0, 0, 0) :: R := by
  refine ⟨o.st.drop (k + 1) ++ o.bk.flatten, ?_⟩
  unfold al
  conv => lhs; rw [split_at o.st (0, 0, 0) k h]
  simp
theorem al_bk (o : Om) (j k : Nat) (hj : j < o.bk.length) (h : k < (o.bk.getD j []).length) : ∃ R, al o = sb o j k ++ (o.bk.getD j []).getD k (0, 0, 0) :: R := by
  refine ⟨(o.bk.getD j []).drop (k + 1) ++ (o.bk.drop (j + 1)).flatten, ?_⟩
  unfold al sb
  conv => lhs; rw [split_at o.bk [] j hj]
  rw [List.flatten_append, List.flatten_cons]
  conv => lhs; rw [split_at (o.bk.getD j []) (0, 0, 0) k h]
  simp
theorem vl_st {o : Om} {z : Int} {k : Nat} (h : k < o.st.length) (hp : z ∉ ids (o.st.take k)) (hx : (o.st.getD k (0, 0, 0)).1 = z) : vl o z = (o.st.getD k (0, 0, 0)).2.2 := by
  obtain ⟨R, e⟩ := al_st o k h
  unfold vl
  rw [find_at e hp hx]
theorem vl_bk {o : Om} {z : Int} {j k : Nat} (hj : j < o.bk.length) (h : k < (o.bk.getD j []).length) (hp : z ∉ ids (sb o j k)) (hx : ((o.bk.getD j []).getD k (0, 0, 0)).1 = z) : vl o z = ((o.bk.getD j []).getD k (0, 0, 0)).2.2 := by
  obtain ⟨R, e⟩ := al_bk o j k hj h
  unfold vl
  rw [find_at e hp hx]
theorem vl_none {o : Om} {z : Int} (h : z ∉ ids (al o)) : vl o z = 0 := by
  unfold vl
  have : (al o).find? (fun y => y.1 == z) = none := by
    rw [List.find?_eq_none]
    intro y hy he
    exact h (List.mem_map.2 ⟨y, hy, by simpa using he⟩)
  rw [this]
theorem not_snoc {z : Int} {L : List Bk} {x : Bk} (h : z ∉ ids L) (hx : x.1 ≠ z) : z ∉ ids (L ++ [x]) := by
  rw [ids_append]
  intro hm
  rcases List.mem_append.1 hm with h1 | h1
  · exact h h1
  · have : z = x.1 := by simpa [ids] using h1
    exact hx this.symm

/-- What both calls ValueAt answer. -/
def va (o : Om) (q : Bool) (z : Int) : Int := if q = true then if I12 z then vl o z else 0 else 0
def vc (q : Bool) (z : Int) : Int := if q = true then if I12 z then 0 else 4 else 1

set_option maxRecDepth 100000 in
set_option maxHeartbeats 3200000 in
theorem l08Value (w : World) (v : Value) (o : Om) (h : Rd w v o) (z : Int) :
    Calls Try.prog 136 #[v, .int .i64 z] w fun e w' => e = .returned (.int .i64 (vl o z)) ∧ Below w.heap.size w w' := by
  have HNN := Lib.hid (vl_none (o := o) (z := z))
  have HVS := Lib.hid (fun k => vl_st (o := o) (z := z) (k := k))
  have HVB := Lib.hid (fun j k => vl_bk (o := o) (z := z) (j := j) (k := k))
  generalize vl o z = VV at *
  obtain ⟨p, s, b, rfl, h1, h2, h3⟩ := h
  obtain ⟨U, e1, hb, hz, X⟩ := box3 w 31 p s b
  obtain ⟨G, eG⟩ : ∃ G, w.heap.size = G := ⟨_, rfl⟩
  have HB := Lib.hid hb
  have HBG := Lib.hid (show Below G w U from eG ▸ hb)
  have HSU := Lib.hid (h2.below hb)
  obtain ⟨vs, hv, hi⟩ := h3
  have HVU := Lib.hid (hv.below hb)
  have HIU := Lib.hid (fun j hj => (hi j hj).below hb)
  rw [eG] at X
  obtain ⟨c0, c1, c2, _, _, _⟩ := X
  obtain ⟨sa, sp, rfl, _, es2⟩ := h2.form
  obtain ⟨ba, bp, rfl, _, eb2⟩ := hv.form
  unfold maxLen at es2 eb2
  have HAE := Lib.hid (sb_end o)
  have HTK := Lib.hid (fun k (hk : k < o.st.length) => take_next o.st (0, 0, 0) k hk)
  have HTL := Lib.hid (List.take_length (l := o.st))
  have HSN := Lib.hid (fun j k => sb_next o j k)
  have HSR := Lib.hid (fun j => sb_row o j)
  clear h1 h2 hv hi hb hz
  generalize o.st.length = n at *
  generalize o.bk.length = m at *
  go_enter Try.func136, Try.ntmps136
  go_wp2
  clear e1 eG
  go_loopw [5] (fun i wz => ∃ k : Nat, k ≤ n ∧ i = .int .i64 k ∧ U = wz ∧ Hid (z ∉ ids (o.st.take k))) (fun i _ => n - (intOf i).toNat)
  case atStart => exact ⟨0, by omega, rfl, rfl, Lib.hid (by simp [ids])⟩
  case round =>
    obtain ⟨k, hk, rfl, rfl, HJ⟩ := hrel
    by_cases hlt : k < n
    · obtain ⟨b5, o5, hsa, hc⟩ := HSU.out.at (by omega)
      subst hsa
      have d0 := hc (k * 3) (by omega)
      have d2 := hc (k * 3 + 2) (by omega)
      rw [bc0] at d0
      rw [bc2, ← Nat.add_assoc] at d2
      have HK := Lib.hid (HTK.out k hlt)
      have HV1 := Lib.hid (HVS.out k hlt HJ.out)
      clear hc
      generalize o.st.getD k (0, 0, 0) = y at *
      obtain ⟨y0, y1, y2⟩ := y
      simp only at d0 d2
      by_cases hy : y0 = z
      · have hvv := HV1.out hy
        simp only at hvv
        subst hvv
        have b1 : (y0 == z) = true := by simp [hy]
        subst hy
        go_wp2
        go_ret
        exact ⟨rfl, by first | exact HB.out | exact HBG.out⟩
      · have b1 : (y0 == z) = false := beq_eq_false_iff_ne.2 hy
        have HN := Lib.hid (show z ∉ ids (o.st.take (k + 1)) from by rw [HK.out]; exact not_snoc HJ.out hy)
        go_wp2
        go_roundw
        case rel => exact ⟨k + 1, by omega, by go_num, by trivial, Lib.hid HN.out⟩
        case measure => simp [intOf]; omega
    · have HN := Lib.hid (show z ∉ ids (sb o 0 0) from by
        obtain rfl : k = n := by omega
        have := HJ.out
        rwa [HTL.out, ← sb_start] at this)
      clear HJ
      go_wp2
      go_loopw [6] (fun i wz => ∃ j : Nat, j ≤ m ∧ i = .int .i64 j ∧ U = wz ∧ Hid (z ∉ ids (sb o j 0))) (fun i _ => m - (intOf i).toNat)
      case atStart => exact ⟨0, by omega, rfl, rfl, HN⟩
      case round =>
        clear hk hlt
        obtain ⟨j, hj, rfl, rfl, HJ⟩ := hrel
        by_cases hlt : j < m
        · obtain ⟨b6, o6, hba, hc⟩ := HVU.out.at (by omega)
          subst hba
          have e0 := hc j (by omega)
          have HI := Lib.hid (HIU.out j hlt)
          obtain ⟨a2, cap2, ev, _, em⟩ := HI.out.form
          rw [ev] at e0 HI
          unfold maxLen at em
          have HRW := Lib.hid (HSR.out j hlt)
          have HVJ := Lib.hid (fun k => HVB.out j k hlt)
          have HNJ := Lib.hid (fun k => HSN.out j k)
          obtain ⟨Lj, eL⟩ : ∃ Lj, (o.bk.getD j []).length = Lj := ⟨_, rfl⟩
          rw [eL] at e0 HI HRW
          simp only [eL] at HVJ HNJ
          have dj : decide ((j : Int) < m) = true := decide_eq_true (by omega)
          have hLj : Lj ≤ 9223372036854775807 := by
            obtain ⟨_, _, e9, h9, _⟩ := HI.out
            have := congrArg (fun v => match v with | Value.slice _ _ c => c | _ => 0) e9
            simp at this
            omega
          clear hc ev eL
          go_wp2
          go_loopw [7] (fun i wz => ∃ k : Nat, k ≤ Lj ∧ i = .int .i64 k ∧ U = wz ∧ Hid (z ∉ ids (sb o j k))) (fun i _ => Lj - (intOf i).toNat)
          case atStart => exact ⟨0, by omega, rfl, rfl, HJ⟩
          case round =>
            obtain ⟨k, hk, rfl, rfl, HK⟩ := hrel
            by_cases hlt3 : k < Lj
            · obtain ⟨b8, o8, hba, hc⟩ := HI.out.at (by omega)
              subst hba
              have d0 := hc (k * 3) (by omega)
              have d2 := hc (k * 3 + 2) (by omega)
              rw [bc0] at d0
              rw [bc2, ← Nat.add_assoc] at d2
              have HNX := Lib.hid (HNJ.out k hlt3)
              have HV1 := Lib.hid (HVJ.out k hlt3 HK.out)
              clear hc
              generalize (o.bk.getD j []).getD k (0, 0, 0) = y at *
              obtain ⟨y0, y1, y2⟩ := y
              simp only at d0 d2
              by_cases hy : y0 = z
              · have hvv := HV1.out hy
                simp only at hvv
                subst hvv
                have b1 : (y0 == z) = true := by simp [hy]
                subst hy
                go_wp2
                go_ret
                exact ⟨rfl, by first | exact HB.out | exact HBG.out⟩
              · have b1 : (y0 == z) = false := beq_eq_false_iff_ne.2 hy
                have HN := Lib.hid (show z ∉ ids (sb o j (k + 1)) from by rw [HNX.out]; exact not_snoc HK.out hy)
                go_wp2
                go_roundw
                case rel => exact ⟨k + 1, by omega, by go_num, by trivial, Lib.hid HN.out⟩
                case measure => simp [intOf]; omega
            · have HN := Lib.hid (show z ∉ ids (sb o (j + 1) 0) from by
                obtain rfl : k = Lj := by omega
                rw [HRW.out]
                exact HK.out)
              clear HK
              go_wp2
              go_roundw
              case rel => exact ⟨j + 1, by omega, by go_num, by trivial, Lib.hid HN.out⟩
              case measure => simp [intOf]; omega
        · obtain rfl := HNN.out (by
            obtain rfl : j = m := by omega
            have := HJ.out
            rwa [HAE.out] at this)
          go_wp2
          go_ret
          exact ⟨rfl, by first | exact HB.out | exact HBG.out⟩

end Go.Proofs.Ytealdpkgfmokpaa.VlW
