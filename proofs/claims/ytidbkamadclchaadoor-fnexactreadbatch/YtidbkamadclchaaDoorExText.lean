/-
  What is proved: both OpText answer the plain text; the exact laws on OpText and on BatchText return true (the walks), where the package's words and the library's table of tens stand in their places.
-/
import Derived.Test.YtidbkamadclchaaDoorRows
import Derived.Test.YtidbkamadclchaaDoorBatchI
import Derived.Test.YtidbkamadclchaaDoorOpenB
import Derived.Test.YtidbkamadclchaaDoorLawB
import Derived.LaidSub
import Derived.Lib.LaidTab
namespace Go.Proofs.YtidbkamadclchaaDoor.ExText
open Go.ChangeShapes Go.WideShapes Go.ChangeAt Go.RowKit
open Sl (Sl Own Off)
open OpenSl (tc)
open Dev Orm Box3 OpB BatB Txt TxtB Dig TextM TextJ OpI BatchI
set_option linter.unusedVariables false

def oT (x : Bk) (q : Bool) : ByteArray := if q = true then opB x else ⟨#[]⟩
def oC (q : Bool) : Int := if q = true then 0 else 1
set_option maxRecDepth 100000 in
set_option maxHeartbeats 800000 in
theorem implOp (w : World) (hT : Tb w) (k y v : Int) (q : Bool) (hq : decide (Ok (k, y, v)) = q) :
    Calls Tryd.prog 9 #[.agg #[.int .i64 k, .int .i64 y, .int .i64 v]] w fun e w' => e = .returned (.tuple #[.string (oT (k, y, v) q), .int .i64 (oC q)]) ∧ Below w.heap.size w w' := by
  have HI := Lib.hid (fun u => hq ▸ implOk u k y v)
  have HO := Lib.hid (fun u (hu : Tb u) (h : q = true) => opText u hu k y v (of_decide_eq_true (hq.trans h)))
  have HTR := Lib.hid (show q = true → oT (k, y, v) q = opB (k, y, v) from fun h => by unfold oT; rw [if_pos h])
  generalize opB (k, y, v) = T at *
  generalize hot : oT (k, y, v) q = R at *
  have HFR := Lib.hid (show q = false → R = ⟨#[]⟩ from fun h => by rw [← hot, h]; rfl)
  obtain ⟨U, e1, hb, hz, X⟩ := box3 w 26 (.int .i64 k) (.int .i64 y) (.int .i64 v)
  obtain ⟨G, eG⟩ : ∃ G, w.heap.size = G := ⟨_, rfl⟩
  have HB := Lib.hid hb
  have HTW := Lib.hid hT
  rw [eG] at X
  have HX := Lib.hid X
  obtain ⟨c0, c1, c2, _, _, _⟩ := X
  clear hb hz hT hq hot
  cases q with
  | false =>
    obtain rfl := HFR.out rfl
    go_enter Tryd.func9, Tryd.ntmps9
    go_wp2_with fail
    clear e1 eG
    refine (HI.out _).mono ?_
    rintro e w1 ⟨rfl, hb⟩
    have HB1 := Lib.hid (HB.out.trans (hb.mono HB.out.size))
    clear hb
    go_wp2_with fail
    go_ret2
    exact ⟨rfl, HB1.out⟩
  | true =>
    obtain rfl := HTR.out rfl
    go_enter Tryd.func9, Tryd.ntmps9
    go_wp2_with fail
    clear e1 eG
    refine (HI.out _).mono ?_
    rintro e w1 ⟨rfl, hb⟩
    have HB1 := Lib.hid (HB.out.trans (hb.mono HB.out.size))
    obtain ⟨c0, c1, c2, _⟩ := HX.out.below hb
    clear hb
    go_wp2_with fail
    refine (HO.out _ (HTW.out.below HB1.out) (by trivial)).mono ?_
    rintro e w2 ⟨rfl, hb⟩
    have HB2 := Lib.hid (HB1.out.trans (hb.mono HB1.out.size))
    clear hb
    go_wp2_with fail
    go_ret2
    exact ⟨rfl, HB2.out⟩
set_option maxRecDepth 100000 in
set_option maxHeartbeats 800000 in
theorem specOp (w : World) (k y v : Int) (q : Bool) (hq : decide (Ok (k, y, v)) = q) :
    Calls Tryd.prog 7 #[.agg #[.int .i64 k, .int .i64 y, .int .i64 v]] w fun e w' => e = .returned (.tuple #[.string (oT (k, y, v) q), .int .i64 (oC q)]) ∧ Below w.heap.size w w' := by
  have HI := Lib.hid (fun u => hq ▸ specOk u k y v)
  have HO := Lib.hid (fun u (h : q = true) => l09Op u k y v (of_decide_eq_true (hq.trans h)))
  have HTR := Lib.hid (show q = true → oT (k, y, v) q = opB (k, y, v) from fun h => by unfold oT; rw [if_pos h])
  generalize opB (k, y, v) = T at *
  generalize hot : oT (k, y, v) q = R at *
  have HFR := Lib.hid (show q = false → R = ⟨#[]⟩ from fun h => by rw [← hot, h]; rfl)
  obtain ⟨U, e1, hb, hz, X⟩ := box3 w 26 (.int .i64 k) (.int .i64 y) (.int .i64 v)
  obtain ⟨G, eG⟩ : ∃ G, w.heap.size = G := ⟨_, rfl⟩
  have HB := Lib.hid hb
  rw [eG] at X
  have HX := Lib.hid X
  obtain ⟨c0, c1, c2, _, _, _⟩ := X
  clear hb hz hq hot
  cases q with
  | false =>
    obtain rfl := HFR.out rfl
    go_enter Tryd.func7, Tryd.ntmps7
    go_wp2_with fail
    clear e1 eG
    refine (HI.out _).mono ?_
    rintro e w1 ⟨rfl, hb⟩
    have HB1 := Lib.hid (HB.out.trans (hb.mono HB.out.size))
    clear hb
    go_wp2_with fail
    go_ret2
    exact ⟨rfl, HB1.out⟩
  | true =>
    obtain rfl := HTR.out rfl
    go_enter Tryd.func7, Tryd.ntmps7
    go_wp2_with fail
    clear e1 eG
    refine (HI.out _).mono ?_
    rintro e w1 ⟨rfl, hb⟩
    have HB1 := Lib.hid (HB.out.trans (hb.mono HB.out.size))
    obtain ⟨c0, c1, c2, _⟩ := HX.out.below hb
    clear hb
    go_wp2_with fail
    refine (HO.out _ (by trivial)).mono ?_
    rintro e w2 ⟨rfl, hb⟩
    have HB2 := Lib.hid (HB1.out.trans (hb.mono HB1.out.size))
    clear hb
    go_wp2_with fail
    go_ret2
    exact ⟨rfl, HB2.out⟩
set_option maxRecDepth 100000 in
set_option maxHeartbeats 1600000 in
theorem walkOp (w : World) (hT : Tb w) (k y v : Int) : Calls Tryd.prog 3 #[.agg #[.int .i64 k, .int .i64 y, .int .i64 v]] w fun e w' => e = .returned (.bool true) ∧ Below w.heap.size w w' := by
  obtain ⟨q, eq⟩ : ∃ q, decide (Ok (k, y, v)) = q := ⟨_, rfl⟩
  have HS := Lib.hid (fun u => specOp u k y v q eq)
  have HI := Lib.hid (fun u (hu : Tb u) => implOp u hu k y v q eq)
  have HTW := Lib.hid hT
  generalize oT (k, y, v) q = R at *
  generalize oC q = C at *
  obtain ⟨U, e1, hb, hz, X⟩ := box3 w 23 (.int .i64 k) (.int .i64 y) (.int .i64 v)
  obtain ⟨G, eG⟩ : ∃ G, w.heap.size = G := ⟨_, rfl⟩
  have HB := Lib.hid hb
  have HX := Lib.hid X
  rw [eG] at X HX
  obtain ⟨c0, c1, c2, _, _, _⟩ := X
  clear hb hz eq hT
  go_enter Tryd.func3, Tryd.ntmps3
  go_wp2_with fail
  clear e1 eG
  refine (LawB.toOp k y v _).mono ?_
  rintro e w1 ⟨rfl, hb⟩
  have HX1 := Lib.hid (HX.out.below hb)
  have HB1 := Lib.hid (HB.out.trans (hb.mono HB.out.size))
  clear hb c0 c1 c2
  go_wp2_with fail
  refine (HS.out _).mono ?_
  rintro e w2 ⟨rfl, hb⟩
  have HX2 := Lib.hid (HX1.out.below hb)
  have HB2 := Lib.hid (HB1.out.trans (hb.mono HB1.out.size))
  clear hb
  obtain ⟨c0, c1, c2, _, _, _⟩ := HX2.out
  go_wp2_with fail
  refine (LawB.toOp k y v _).mono ?_
  rintro e w3 ⟨rfl, hb⟩
  have HB3 := Lib.hid (HB2.out.trans (hb.mono HB2.out.size))
  clear hb c0 c1 c2
  go_wp2_with fail
  refine (HI.out _ (HTW.out.below HB3.out)).mono ?_
  rintro e w4 ⟨rfl, hb⟩
  have HB4 := Lib.hid (HB3.out.trans (hb.mono HB3.out.size))
  clear hb
  go_wp2_with fail
  go_ret
  exact ⟨rfl, HB4.out⟩
set_option maxRecDepth 100000 in
theorem walkOp_any {H : Type} {enc : TypeId × Value → H} {W : World} {base b0 : Nat} {spare : Nat → Bool} {held : Bool} {v : Value} {d : DataW H} {p : List MemPlace}
    (o : Value.okWide Tryd.prog W .any b0 23 v) (h : DataW.Trod enc Tryd.prog W base spare held 23 v d p) (hT : Tb W) :
    Calls Tryd.prog 3 #[v] W fun e w' => e = .returned (.bool true) ∧ Below W.heap.size W w' := by
  obtain ⟨x, y, z, rfl⟩ := OpenB.open_op o h
  exact walkOp W hT x y z
/-- Each list of a batch of so many elements in all is short. -/
theorem shorts {bss : List (List Bk)} {R L : Nat} (h : R + bss.length + (bss.map List.length).sum = L) : bss.length ≤ L ∧ ∀ j, j < bss.length → (bss.getD j []).length ≤ L := by
  refine ⟨by omega, fun j hj => ?_⟩
  have hm : (bss.getD j []).length ∈ bss.map List.length := List.mem_map.2 ⟨_, getD_mem bss [] j hj, rfl⟩
  have : ∀ (l : List Nat) (x : Nat), x ∈ l → x ≤ l.sum := by
    intro l
    induction l with
    | nil => intro x hx; cases hx
    | cons y l ih =>
      intro x hx
      rw [List.sum_cons]
      rcases List.mem_cons.1 hx with h | h
      · omega
      · have := ih x h; omega
  have := this _ _ hm
  omega
set_option maxRecDepth 100000 in
set_option maxHeartbeats 1600000 in
theorem walkBatch (w : World) (hT : Tb w) (v : Value) (bss : List (List Bk)) (h : Ns w v bss) : Calls Tryd.prog 5 #[v] w fun e w' => e = .returned (.bool true) ∧ Below w.heap.size w w' := by
  obtain ⟨q, eq⟩ : ∃ q, decide (BOk bss) = q := ⟨_, rfl⟩
  have HS := Lib.hid (fun u x (hx : Ns u x bss) => specBatchText u x bss hx q eq)
  have HI := Lib.hid (fun u (hu : Tb u) x (hx : Ns u x bss) => implBatchText u hu x bss hx q eq)
  have HTW := Lib.hid hT
  have HV := Lib.hid h
  generalize bt0 bss q = R at *
  generalize bc0_ bss.length q = C at *
  clear eq hT
  obtain ⟨vs, hh, _⟩ := h
  obtain ⟨a, cap, rfl, _, _⟩ := hh.form
  clear hh
  go_enter Tryd.func5, Tryd.ntmps5
  go_wp2_with fail
  refine (LawB.szTxnS w _ bss HV.out 1048576 (by omega)).mono ?_
  rintro e w1 ⟨⟨r, rfl, hr⟩, hb⟩
  have HB1 := Lib.hid hb
  clear hb
  rcases hr with rfl | ⟨R2, rfl, hR⟩
  · go_wp2_with fail
    go_ret
    exact ⟨rfl, HB1.out⟩
  have HSH := Lib.hid (shorts hR)
  clear hR
  go_wp2_with fail
  refine (LawB.toTxnS _ _ bss (HV.out.below HB1.out) HSH.out.1 HSH.out.2).mono ?_
  rintro e w2 ⟨r1, us1, rfl, ho1, hb⟩
  have HN1 := Lib.hid ho1.ns
  have HB2 := Lib.hid (HB1.out.trans (hb.mono HB1.out.size))
  clear hb ho1
  go_wp2_with fail
  refine (HS.out _ _ HN1.out).mono ?_
  rintro e w3 ⟨rfl, hb⟩
  have HB3 := Lib.hid (HB2.out.trans (hb.mono HB2.out.size))
  clear hb
  go_wp2_with fail
  refine (LawB.toTxnS _ _ bss (HV.out.below HB3.out) HSH.out.1 HSH.out.2).mono ?_
  rintro e w4 ⟨r2, us2, rfl, ho2, hb⟩
  have HN2 := Lib.hid ho2.ns
  have HB4 := Lib.hid (HB3.out.trans (hb.mono HB3.out.size))
  clear hb ho2
  go_wp2_with fail
  refine (HI.out _ (HTW.out.below HB4.out) _ HN2.out).mono ?_
  rintro e w5 ⟨rfl, hb⟩
  have HB5 := Lib.hid (HB4.out.trans (hb.mono HB4.out.size))
  have HN3 := Lib.hid (HN2.out.below hb)
  clear hb
  go_wp2_with fail
  refine (LawB.toTxnS _ _ bss (HV.out.below HB5.out) HSH.out.1 HSH.out.2).mono ?_
  rintro e w6 ⟨r3, us3, rfl, ho3, hb⟩
  have HN4 := Lib.hid ho3.ns
  have HN5 := Lib.hid (HN3.out.below hb)
  have HB6 := Lib.hid (HB5.out.trans (hb.mono HB5.out.size))
  clear hb ho3
  go_wp2_with fail
  refine (LawB.eqTxnS _ _ _ bss HN5.out HN4.out).mono ?_
  rintro e w7 ⟨rfl, hb⟩
  have HB7 := Lib.hid (HB6.out.trans (hb.mono HB6.out.size))
  clear hb
  go_wp2_with fail
  go_ret
  exact ⟨rfl, HB7.out⟩
set_option maxRecDepth 100000 in
theorem walkBatch_any {H : Type} {enc : TypeId × Value → H} {W : World} {base b0 : Nat} {spare : Nat → Bool} {held : Bool} {v : Value} {d : DataW H} {p : List MemPlace}
    (o : Value.okWide Tryd.prog W .any b0 33 v) (h : DataW.Trod enc Tryd.prog W base spare held 33 v d p) (hT : Tb W) :
    Calls Tryd.prog 5 #[v] W fun e w' => e = .returned (.bool true) ∧ Below W.heap.size W w' := by
  obtain ⟨bss, hr⟩ := OpenB.open_batch (okWide_slice Tryd.underlying33 o) h
  exact walkBatch W hT v bss hr
end Go.Proofs.YtidbkamadclchaaDoor.ExText
