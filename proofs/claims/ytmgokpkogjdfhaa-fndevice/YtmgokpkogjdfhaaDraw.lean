/-
  What is proved: what is drawn of a device: the device is right, and of the call's own (contracts for the walks).
-/
import Derived.Test.YtmgokpkogjdfhaaRows
import Derived.Test.YtmgokpkogjdfhaaSrc
import Derived.Test.YtmgokpkogjdfhaaCrash2
import Derived.Test.YtmgokpkogjdfhaaNews
namespace Go.Proofs.Ytmgokpkogjdfhaa.Draw
open Go.ChangeShapes Go.WideShapes Go.ChangeAt Go.RowKit
open Sl (Sl Own Off)
open OpenSl (tc nc pc)
open Dev Cop Copied Writes Settle Crash
open Right
open Src (Is)
set_option linter.unusedVariables false

set_option maxRecDepth 100000 in
set_option maxHeartbeats 1600000 in
theorem l05WriteO (w : World) (a : Option Addr) (p : Nat) (uv : Value) (ts : List ByteArray) (xs : List (Int × ByteArray)) (h : Dev w (.agg #[.slice a ts.length p, uv]) ts xs) (hn : ts.length ≤ 1048576) (hm : xs.length ≤ 1048576) (z : Int) (t : ByteArray) :
    Calls Try.prog 70 #[.agg #[.slice a ts.length p, uv], .int .i64 z, .string t] w fun e w' => ∃ a2 p2, e = .returned (.agg #[.slice a ts.length p, .slice a2 (xs ++ [(z, t)]).length p2]) ∧ Own w' w.heap.size 2 (.slice a2 (xs ++ [(z, t)]).length p2) (xs ++ [(z, t)]).length (pc (xs ++ [(z, t)])) ∧ Below w.heap.size w w' := by
  have HV := Lib.hid h
  obtain ⟨a', p', rfl⟩ : ∃ a' p', uv = .slice a' xs.length p' := by
    obtain ⟨s1, s2, e, _, k⟩ := h
    obtain ⟨rfl, rfl⟩ : Value.slice a ts.length p = s1 ∧ uv = s2 := by simpa using e
    obtain ⟨a', p', rfl, _, _⟩ := k.form
    exact ⟨_, _, rfl⟩
  obtain ⟨W, eW, hB, hlt, c0, c1, r0, r1, f0, f1⟩ := boxed w 26 26 (.slice a ts.length p) (.slice a' xs.length p')
  have hfz : W.frozen? ⟨w.heap.size, 1, none⟩ = false := by rw [← eW]; clear eW; go_simp
  have HFZ := Lib.hid hfz
  have HV2 := Lib.hid (HV.out.below hB)
  have H2 : Hid (Sl W 2 (.slice a' xs.length p') xs.length (pc xs)) := Lib.hid (by
    obtain ⟨s1, s2, e, _, k⟩ := HV2.out
    obtain ⟨rfl, rfl⟩ : Value.slice a ts.length p = s1 ∧ Value.slice a' xs.length p' = s2 := by simpa using e
    exact k)
  have HB := Lib.hid hB
  have HLT := Lib.hid hlt
  have HSIX := Lib.hid (fun u (hb : Below W.heap.size W u) => six hb hlt c0 c1 r0 r1 f0 f1)
  have HM := Lib.hid (World.ownsRow_made (base := W.heap.size) (e := 64) (size := 2) W #[] 0 (Nat.le_refl _) (by unfold maxLen; omega) rfl)
  have HB1 := Lib.hid ((Below.refl W.heap.size W).alloc (Nat.le_refl _) (.cells #[] 64))
  have hl0 : w.heap.size < W.heap.size := by omega
  have hp2 : 0 < 2 := by omega
  have hm1 : 0 + xs.length ≤ maxLen := by unfold maxLen; omega
  have hy1 : (0 + xs.length) * 24 ≤ 140737488355328 := by omega
  have hm2 : xs.length + 1 ≤ maxLen := by unfold maxLen; omega
  have hy2 : (xs.length + 1) * 24 ≤ 140737488355328 := by omega
  clear h hB
  go_enter Try.func70, Try.ntmps70
  go_wp2_with (at_builtin; first
    | (refine wpList_appR _ rfl (.tmp 7) (.tmp 9) 24 rfl W.heap.size 64 2 24 _ Try.underlying24 LawI.info64 rfl hp2 (.slice (some ⟨W.heap.size, 0, none⟩) 0 0) rfl 0 [] HM.out HB1.out.size (.slice a' xs.length p') rfl xs.length (pc xs) (H2.out.below HB1.out) (fun j _ => pc_one xs j) hm1 hy1 ?_; intro a1 cap1 u1 ho1 hg1; rw [Nat.zero_add, List.nil_append] at ho1; rw [Nat.zero_add]; have HE1 := Lib.hid (HB1.out.grown hg1 HB1.out.size (fun k hk => by cases hk; exact Nat.le_refl _)); obtain ⟨g0, g1, g2, g3, g4, g5⟩ := HSIX.out u1 HE1.out; have HO1 := Lib.hid ho1; have hz1 := HE1.out.size; have lz1 : w.heap.size < u1.heap.size := (by omega); clear ho1 hg1)
    | (refine wpList_appR _ rfl (.tmp 10) (.tmp 14) 24 rfl W.heap.size 64 2 24 _ Try.underlying24 LawI.info64 rfl hp2 (.slice a1 xs.length cap1) rfl xs.length (cl (pc xs) (xs.length * 2)) (World.ownsRow.alloc HO1.out _) (by simp; omega) (.slice (some ⟨u1.heap.size, 0, none⟩) 1 1) rfl 1 (pc [(z, t)]) (lit1 u1 z t 64) (fun j _ => pc_one _ j) hm2 hy2 ?_; intro a2 cap2 u2 ho2 hg2; have HE2 := Lib.hid ((HE1.out.alloc HE1.out.size (.cells #[.int .i64 z, .string t] 64)).grown hg2 (by simp; omega) (fun k hk => (World.ownsRow.lt HO1.out k hk).1)); obtain ⟨g0, g1, g2, g3, g4, g5⟩ := HSIX.out u2 HE2.out; have fz2 := (HE2.out.frozen (p := ⟨w.heap.size, 1, none⟩) hl0).trans HFZ.out; have HO2 := Lib.hid ho2; have hz2 := HE2.out.size; have lz2 : w.heap.size < u2.heap.size := (by omega); clear ho2 hg2))
  have HOF := Lib.hid (row_set_off (row_set_off (row_set_off HO2.out hl0 1 (.slice a2 (xs.length + 1) cap2)) hlt 0 (.slice a ts.length p)) hlt 1 (.slice a2 (xs.length + 1) cap2))
  have HBF := Lib.hid ((((HB.out.trans (HE2.out.mono HB.out.size)).setCell (p := ⟨w.heap.size, 1, none⟩) (Nat.le_refl _) (.slice a2 (xs.length + 1) cap2)).setCell (p := ⟨w.heap.size + 1, 0, none⟩) (by simp) (.slice a ts.length p)).setCell (p := ⟨w.heap.size + 1, 1, none⟩) (by simp) (.slice a2 (xs.length + 1) cap2))
  rw [← World.cell?_setCell_other u2 ⟨w.heap.size, 1, none⟩ _ (.slice a2 (xs.length + 1) cap2) (by simp)] at g2 g3
  obtain ⟨R0, R1⟩ := LawD.stored (u := .slice a ts.length p) (v := .slice a2 (xs.length + 1) cap2) g2 g3
  generalize World.setCell (World.setCell (World.setCell _ _ _) _ _) _ _ = F at *
  have ho := HOF.out
  rw [cl_app] at ho
  obtain ⟨ys, ey⟩ : ∃ ys, xs ++ [(z, t)] = ys := ⟨_, rfl⟩
  have hl : xs.length + 1 = ys.length := by rw [← ey]; simp
  rw [ey] at ho ⊢
  rw [hl] at ho R1 ⊢
  refine bodyPost_ret (v := .agg #[.slice a ts.length p, .slice a2 ys.length cap2]) (by simp [results, Try.results70, go_sem, R0, R1]) rfl ⟨_, _, rfl, (row_own ho).base HB.out.size, HBF.out⟩


theorem grown_of {w w' : World} (h : Below w.heap.size w w') : w.grownBy w' none := ⟨h.os, h.tape, h.output, h.size, fun k hk _ => h.block k hk⟩
theorem is_below {w w' : World} {b : Nat} {a0 : Option Addr} {len cap : Nat} {pl seed : Int} (h : Is w b a0 len cap pl seed) (hb : Below w.heap.size w w') : Is w' b a0 len cap pl seed := h.far (grown_of hb) (fun k hk => by cases hk)
set_option maxRecDepth 100000 in
theorem chance (w : World) (b : Nat) (a0 : Option Addr) (len cap : Nat) (pl seed : Int) (h : Is w b a0 len cap pl seed) (hp : pl ≤ 1000000) :
    Calls Try.prog 73 #[.pointer (some ⟨b, 0, none⟩), .int .i64 4] w fun e w' => ∃ (q : Bool) (pl' seed' : Int), e = .returned (.bool q) ∧ Is w' b a0 len cap pl' seed' ∧ pl' ≤ pl + 1 ∧ w.grownBy w' (some b) := by
  have HI := Lib.hid h
  clear h
  go_enter Try.func73, Try.ntmps73
  go_wp2_with fail
  refine (Src.next 4 (by omega) (by omega) w b a0 len cap pl seed HI.out hp).mono ?_
  rintro e w1 ⟨r, pl', seed', rfl, h0, h1, hi, hl, hg⟩
  have HI1 := Lib.hid hi
  have HL := Lib.hid hl
  have HG := Lib.hid hg
  clear hi hl hg
  go_wp2_with fail
  go_ret
  exact ⟨_, pl', seed', rfl, HI1.out, HL.out, HG.out⟩

/-- No cell of x's stands in one of three blocks. -/
def Off3 (x : Value) (b R G : Nat) : Prop := Off x b ∧ Off x R ∧ Off x G
/-- Where a draw of a device stands: the source in block b, the result's place R, the device's box G. -/
structure DI (w wr : World) (b R G : Nat) (a0 : Option Addr) (len cap : Nat) (sv uv : Value) (ts : List ByteArray) (xs : List (Int × ByteArray)) (pl seed : Int) : Prop where
  is : Is wr b a0 len cap pl seed
  d0 : wr.cell? ⟨G, 0, none⟩ = some sv
  d1 : wr.cell? ⟨G, 1, none⟩ = some uv
  e0 : wr.frozen? ⟨G, 0, none⟩ = false
  e1 : wr.frozen? ⟨G, 1, none⟩ = false
  r0 : wr.cell? ⟨R, 0, none⟩ = some (.slice none 0 0)
  r1 : wr.cell? ⟨R, 1, none⟩ = some (.slice none 0 0)
  q0 : wr.frozen? ⟨R, 0, none⟩ = false
  q1 : wr.frozen? ⟨R, 1, none⟩ = false
  dev : Dev wr (.agg #[sv, uv]) ts xs
  os : Off3 sv b R G
  ou : Off3 uv b R G
  gr : w.grownBy wr (some b)
theorem dev_grown {x y : World} {g : Nat} {sv uv : Value} {ts : List ByteArray} {xs : List (Int × ByteArray)} (h : Dev x (.agg #[sv, uv]) ts xs) (hg : x.grownBy y (some g)) (h1 : Off sv g) (h2 : Off uv g) : Dev y (.agg #[sv, uv]) ts xs := by
  obtain ⟨s, u, e, k1, k2⟩ := h
  obtain ⟨rfl, rfl⟩ : sv = s ∧ uv = u := by simpa using e
  exact ⟨sv, uv, rfl, k1.grown hg h1, k2.grown hg h2⟩
theorem blk {x y : World} {b : Nat} (hg : x.grownBy y (some b)) {p : Addr} {v : Value} (h : x.cell? p = some v) (hne : p.block ≠ b) : y.heap[p.block]? = x.heap[p.block]? := hg.block p.block (World.block_lt_of_cell? x _ h) (fun e => hne (Option.some.inj e))
theorem cb {x y : World} {g : Nat} (h : y.heap[g]? = x.heap[g]?) (o : Nat) : y.cell? ⟨g, o, none⟩ = x.cell? ⟨g, o, none⟩ := World.cell?_of_block (w := x) (a := ⟨g, o, none⟩) h
theorem fb {x y : World} {g : Nat} (h : y.heap[g]? = x.heap[g]?) (o : Nat) : y.frozen? ⟨g, o, none⟩ = x.frozen? ⟨g, o, none⟩ := World.frozen?_of_block (w := x) (a := ⟨g, o, none⟩) h
theorem DI.src {w x y : World} {b R G : Nat} {a0 : Option Addr} {len cap : Nat} {sv uv : Value} {ts : List ByteArray} {xs : List (Int × ByteArray)} {pl seed pl' seed' : Int} (h : DI w x b R G a0 len cap sv uv ts xs pl seed) (hg : x.grownBy y (some b)) (hi : Is y b a0 len cap pl' seed') (hG : G ≠ b) (hR : R ≠ b) : DI w y b R G a0 len cap sv uv ts xs pl' seed' := by
  have bG : y.heap[G]? = x.heap[G]? := blk hg h.d0 hG
  have bR : y.heap[R]? = x.heap[R]? := blk hg h.r0 hR
  exact ⟨hi, (cb bG 0).trans h.d0, (cb bG 1).trans h.d1, (fb bG 0).trans h.e0, (fb bG 1).trans h.e1,
    (cb bR 0).trans h.r0, (cb bR 1).trans h.r1, (fb bR 0).trans h.q0, (fb bR 1).trans h.q1,
    dev_grown h.dev hg h.os.1 h.ou.1, h.os, h.ou, Src.grown_then h.gr hg (fun j hj => Or.inr rfl)⟩
theorem DI.below {w x y : World} {b R G : Nat} {a0 : Option Addr} {len cap : Nat} {sv uv : Value} {ts : List ByteArray} {xs : List (Int × ByteArray)} {pl seed : Int} (h : DI w x b R G a0 len cap sv uv ts xs pl seed) (hb : Below x.heap.size x y) : DI w y b R G a0 len cap sv uv ts xs pl seed := by
  have lG := World.block_lt_of_cell? x _ h.d0
  have lR := World.block_lt_of_cell? x _ h.r0
  exact ⟨is_below h.is hb, (hb.cell (p := ⟨G, 0, none⟩) lG).trans h.d0, (hb.cell (p := ⟨G, 1, none⟩) lG).trans h.d1, (hb.frozen (p := ⟨G, 0, none⟩) lG).trans h.e0, (hb.frozen (p := ⟨G, 1, none⟩) lG).trans h.e1,
    (hb.cell (p := ⟨R, 0, none⟩) lR).trans h.r0, (hb.cell (p := ⟨R, 1, none⟩) lR).trans h.r1, (hb.frozen (p := ⟨R, 0, none⟩) lR).trans h.q0, (hb.frozen (p := ⟨R, 1, none⟩) lR).trans h.q1,
    h.dev.below hb, h.os, h.ou, Src.grown_then h.gr (grown_of hb) (fun j hj => by cases hj)⟩
/-- A new device is stored into the box. -/
theorem DI.put {w x : World} {b R G : Nat} {a0 : Option Addr} {len cap : Nat} {sv uv sv' uv' : Value} {ts ts' : List ByteArray} {xs xs' : List (Int × ByteArray)} {pl seed : Int} (h : DI w x b R G a0 len cap sv uv ts xs pl seed) (hd : Dev x (.agg #[sv', uv']) ts' xs') (os : Off3 sv' b R G) (ou : Off3 uv' b R G) (hG : G ≠ b) (hRG : R ≠ G) (hw : w.heap.size ≤ G)
    (hc : 0 < len → ∀ bb off, a0 = some ⟨bb, off, none⟩ → G ≠ bb) : DI w ((x.setCell ⟨G, 0, none⟩ sv').setCell ⟨G, 1, none⟩ uv') b R G a0 len cap sv' uv' ts' xs' pl seed := by
  obtain ⟨s0, s1⟩ := LawD.stored (u := sv') (v := uv') h.d0 h.d1
  have hg : x.grownBy ((x.setCell ⟨G, 0, none⟩ sv').setCell ⟨G, 1, none⟩ uv') (some G) := Src.grown_set (Src.grown_set (World.grownBy.refl x (some G)) 0 sv') 1 uv'
  have bR : _ = x.heap[R]? := blk hg h.r0 hRG
  exact ⟨h.is.far hg (fun k hk => by cases hk; exact ⟨hG, hc⟩), s0, s1, by rw [Sl.frozen_set, Sl.frozen_set]; exact h.e0, by rw [Sl.frozen_set, Sl.frozen_set]; exact h.e1,
    (cb bR 0).trans h.r0, (cb bR 1).trans h.r1, (fb bR 0).trans h.q0, (fb bR 1).trans h.q1,
    dev_grown hd hg os.2.2 ou.2.2, os, ou, Src.grown_then h.gr hg (fun j hj => by cases hj; exact .inl hw)⟩
theorem rt_write {ts : List ByteArray} {xs : List (Int × ByteArray)} (h : Rt ts xs) (hl : xs.length < 60) (z : Int) (hz : In z) (t : ByteArray) (ht : t.size ≤ 700) : Rt ts (xs ++ [(z, t)]) := by
  refine ⟨h.1, by simp; omega, h.2.2.1, fun j hj => ?_⟩
  by_cases hj2 : j < xs.length
  · rw [show (xs ++ [(z, t)]).getD j (0, ByteArray.empty) = xs.getD j (0, ByteArray.empty) by rw [List.getD_eq_getElem?_getD, List.getD_eq_getElem?_getD, List.getElem?_append_left hj2]]
    exact h.2.2.2 j hj2
  · obtain rfl : j = xs.length := by simp at hj; omega
    rw [show (xs ++ [(z, t)]).getD xs.length (0, ByteArray.empty) = (z, t) by rw [List.getD_eq_getElem?_getD, List.getElem?_append_right (Nat.le_refl _)]; simp]
    exact ⟨hz, ht⟩
theorem rt_st {ts : List ByteArray} {xs : List (Int × ByteArray)} (h : Rt ts xs) (fs : List Int) : Rt (st ts xs fs xs.length) [] :=
  ⟨by rw [st_len]; exact h.1, by simp, fun j _ => st_small h fs xs.length (Nat.le_refl _) j, fun j hj => absurd hj (by simp)⟩
theorem rt_zr : Rt News.zr [] := ⟨News.zr_len, by simp, fun j _ => by
  have e := News.zr_tc j
  have e2 : News.zr.getD j ByteArray.empty = ByteArray.empty := by unfold tc at e; injection e
  rw [e2]; exact Nat.zero_le _, fun j hj => absurd hj (by simp)⟩
end Go.Proofs.Ytmgokpkogjdfhaa.Draw
