/-
  What is proved: the model's word of four bytes, its quarter round of four of sixteen words, its bytes of a word are the plain ones (contracts for the walks).
-/
import Derived.Test.YtggobhpjfflooaaGreatDoorRows
import Derived.Test.YtggobhpjfflooaaGreatDoorKitA
import Derived.Test.YtggobhpjfflooaaGreatDoorStreamA
import Derived.WalkSpells
import Derived.Deep.RegionHeld3
import Derived.Deep.CutRange
namespace Go.Proofs.YtggobhpjfflooaaGreatDoor.SpCha1
open Go.ChangeShapes Go.WideShapes Go.ChangeAt Go.RowKit
open Quarter (Q4 qr agg4)
open Arr (Row)
open Bytes (BV Owns)
open Word (bN bN_lt bN_at)
open Cha
set_option linter.unusedVariables false

theorem ret_int {k : IntKind} {a b : Int} (h : a = b) : Ending.returned (.int k a) = .returned (.int k b) := by rw [h]
theorem low_or (x0 x1 x2 x3 : Nat) (h0 : x0 < 256) (h1 : x1 < 256) (h2 : x2 < 256) (h3 : x3 < 256) :
    ((x0 ||| x1 * 256) ||| x2 * 65536) ||| x3 * 16777216 = x0 + x1 * 256 + x2 * 65536 + x3 * 16777216 := by
  rw [Nat.or_comm x0, Word.shl_or x1 x0 256 8 rfl h0, Nat.or_comm _ (x2 * 65536), Word.shl_or x2 _ 65536 16 rfl (by omega), Nat.or_comm _ (x3 * 16777216), Word.shl_or x3 _ 16777216 24 rfl (by omega)]
  omega
theorem i64_low (x0 x1 x2 x3 : Nat) (h0 : x0 < 256) (h1 : x1 < 256) (h2 : x2 < 256) (h3 : x3 < 256) :
    bits .or .i64 (bits .or .i64 (bits .or .i64 (x0 : Int) ((x1 : Int) * 256)) ((x2 : Int) * 65536)) ((x3 : Int) * 16777216) = ((x0 + x1 * 256 + x2 * 65536 + x3 * 16777216 : Nat) : Int) := by
  have e1 : (x1 : Int) * 256 = ((x1 * 256 : Nat) : Int) := by omega
  have e2 : (x2 : Int) * 65536 = ((x2 * 65536 : Nat) : Int) := by omega
  have e3 : (x3 : Int) * 16777216 = ((x3 * 16777216 : Nat) : Int) := by omega
  have l1 := Word.or_lt (a := x0) (b := x1 * 256) (by omega) (by omega)
  have l2 := Word.or_lt l1 (b := x2 * 65536) (by omega)
  rw [e1, e2, e3, Word.i64_or _ _ (by omega) (by omega), Word.i64_or _ _ (by omega) (by omega), Word.i64_or _ _ (by omega) (by omega), low_or x0 x1 x2 x3 h0 h1 h2 h3]
def lwAt (s : ByteArray) (a : Nat) : Nat := bN s a + bN s (a + 1) * 256 + bN s (a + 2) * 65536 + bN s (a + 3) * 16777216
theorem lwAt_lw (s : ByteArray) (j : Nat) : lwAt s (4 * j) = lw s j := rfl

set_option maxHeartbeats 800000 in
theorem word (s : ByteArray) (a : Nat) (h : a + 3 < s.size) (hs : s.size ≤ 1048576) (w : World) :
    Calls Tryz.prog 90 #[.string s, .int .i64 (a : Int)] w fun e w' => e = .returned (.int .i64 (lwAt s a : Int)) ∧ ∃ n, w' = w.drewN n := by
  obtain ⟨x0, e0, hx0⟩ : ∃ x : Nat, bN s a = x ∧ x < 256 := ⟨_, rfl, bN_lt _ _⟩
  obtain ⟨x1, e1, hx1⟩ : ∃ x : Nat, bN s (a + 1) = x ∧ x < 256 := ⟨_, rfl, bN_lt _ _⟩
  obtain ⟨x2, e2, hx2⟩ : ∃ x : Nat, bN s (a + 2) = x ∧ x < 256 := ⟨_, rfl, bN_lt _ _⟩
  obtain ⟨x3, e3, hx3⟩ : ∃ x : Nat, bN s (a + 3) = x ∧ x < 256 := ⟨_, rfl, bN_lt _ _⟩
  have HM := Lib.hid (show lwAt s a = x0 + x1 * 256 + x2 * 65536 + x3 * 16777216 by unfold lwAt; rw [e0, e1, e2, e3])
  obtain ⟨a1, f1⟩ : ∃ n, a + 1 = n := ⟨_, rfl⟩
  obtain ⟨a2, f2⟩ : ∃ n, a + 2 = n := ⟨_, rfl⟩
  obtain ⟨a3, f3⟩ : ∃ n, a + 3 = n := ⟨_, rfl⟩
  have n0 : a < s.size := by omega
  have n1 : a1 < s.size := by omega
  have n2 : a2 < s.size := by omega
  have n3 : a3 < s.size := by omega
  have q0 : s[a].toNat = x0 := by rw [bN_at]; exact e0
  have q1 : s[a1].toNat = x1 := by rw [bN_at, ← f1]; exact e1
  have q2 : s[a2].toNat = x2 := by rw [bN_at, ← f2]; exact e2
  have q3 : s[a3].toNat = x3 := by rw [bN_at, ← f3]; exact e3
  have g1 : (a : Int) + 1 = (a1 : Int) := by omega
  have g2 : (a : Int) + 2 = (a2 : Int) := by omega
  have g3 : (a : Int) + 3 = (a3 : Int) := by omega
  have j1 : IntKind.i64.wrap (a1 : Int) = a1 := by rw [IntKind.wrap_i64]; omega
  have j2 : IntKind.i64.wrap (a2 : Int) = a2 := by rw [IntKind.wrap_i64]; omega
  have j3 : IntKind.i64.wrap (a3 : Int) = a3 := by rw [IntKind.wrap_i64]; omega
  have b0 : (a : Int) < (s.size : Int) := by omega
  have b1 : (a1 : Int) < (s.size : Int) := by omega
  have b2 : (a2 : Int) < (s.size : Int) := by omega
  have b3 : (a3 : Int) < (s.size : Int) := by omega
  have v0a : IntKind.i64.wrap (x0 : Int) = x0 := by rw [IntKind.wrap_i64]; omega
  have v1a : IntKind.i64.wrap (x1 : Int) = x1 := by rw [IntKind.wrap_i64]; omega
  have v2a : IntKind.i64.wrap (x2 : Int) = x2 := by rw [IntKind.wrap_i64]; omega
  have v3a : IntKind.i64.wrap (x3 : Int) = x3 := by rw [IntKind.wrap_i64]; omega
  have v3b : IntKind.i64.wrap ((x3 : Int) * 16777216) = (x3 : Int) * 16777216 := by rw [IntKind.wrap_i64]; omega
  have v2b : IntKind.i64.wrap ((x2 : Int) * 65536) = (x2 : Int) * 65536 := by rw [IntKind.wrap_i64]; omega
  have v1b : IntKind.i64.wrap ((x1 : Int) * 256) = (x1 : Int) * 256 := by rw [IntKind.wrap_i64]; omega
  clear e0 e1 e2 e3 f1 f2 f3
  go_enter Tryz.func90, Tryz.ntmps90
  go_wp2
  go_quiet (fail)
  go_wp2
  go_ret
  exact ⟨ret_int ((i64_low x0 x1 x2 x3 hx0 hx1 hx2 hx3).trans (by rw [HM.out])), _, rfl⟩

set_option maxRecDepth 100000 in
set_option maxHeartbeats 1600000 in
theorem bytes4 (base : Nat) (v : Value) (bs : List UInt8) (hl : bs.length ≤ 65536) (x : Nat) (hx : x < 4294967296) (w : World) (hb : base ≤ w.heap.size) (R : Owns w base v bs) :
    Calls Tryz.prog 92 #[v, .int .i64 (x : Int)] w fun e w' => ∃ v', e = .returned v' ∧ Hid (Owns w' base v' (bs ++ le4 x) ∧ Below base w w') := by
  obtain ⟨i0, hi0, hz0, hz1, hz2⟩ := info_parts Bytes.info5
  have HR := Lib.hid R
  have HB := Lib.hid hb
  have HLE := Lib.hid (ChaOut.le4_cells x hx)
  have hx2 : (x : Int) < 4294967296 := by omega
  clear R hb
  go_enter Tryz.func92, Tryz.ntmps92
  go_wp2_with (at_builtin; refine wpList_append_lies _ rfl _ _ _ rfl base 5 i0 _ 1 1 Tryz.underlying22 hi0 hz0 hz1 hz2 rfl (by omega) _ bs.length (BV bs) (by rfl) (World.ownsRow.alloc HR.out _) ⟨w.heap.size, 0, none⟩ 4 4 [.int .u8 ((x : Int) % 256), .int .u8 ((x : Int) / 256 % 256), .int .u8 ((x : Int) / 65536 % 256), .int .u8 ((x : Int) / 16777216)] (by rfl) (by rfl) (World.news_of_block (cs := #[.int .u8 ((x : Int) % 256), .int .u8 ((x : Int) / 256 % 256), .int .u8 ((x : Int) / 65536 % 256), .int .u8 ((x : Int) / 16777216)]) (t := 5) (fr := (0, 0)) (heap_alloc_new w _)) (by simp [Value.oneCell']) (by omega) (by unfold maxLen; omega) (by omega) (by have := HB.out; simp; omega) (w.heap.size + 1) (by simp) ?_; intro gg cap w2 hown1 hgrow hat hlt1; have HO := Lib.hid hown1; have HG3 := Lib.hid hgrow; clear hown1 hgrow hat hlt1)
  go_ret
  refine ⟨_, rfl, Lib.hid ⟨?_, ?_⟩⟩
  · have := HO.out
    rw [← HLE.out] at this
    exact Bytes.owns_grown this rfl
  · exact ((Below.refl base w).alloc HB.out _).grown HG3.out (by have := HB.out; simp; omega) (Owns.block HR.out)

set_option maxRecDepth 100000 in
set_option maxHeartbeats 3200000 in
theorem round (V : List Nat) (hV : Ok V) (a b c d : Nat) (ha : a < 4) (hb : 4 ≤ b ∧ b < 8) (hc : 8 ≤ c ∧ c < 12) (hd : 12 ≤ d ∧ d < 16) (w : World) :
    Calls Tryz.prog 91 #[.agg (c64 V).toArray, .int .i64 (a : Int), .int .i64 (b : Int), .int .i64 (c : Int), .int .i64 (d : Int)] w fun e' w' => e' = .returned (.agg (c64 (Cha.step V a b c d)).toArray) ∧ Below w.heap.size w w' := by
  have HV := Lib.hid hV
  have HI := Lib.hid (infoIV hV)
  have HST := Lib.hid (step_ok hV a b c d)
  have HQ0 := Lib.hid (c64_step V a b c d)
  have xab : ∀ j, j < 16 → (c64 V)[j]? = some (.int .i64 (V.getD j 0 : Int)) := fun j hj => c64_at V j (by rw [hV.len]; exact hj)
  have HXA := Lib.hid xab
  have la := hV.getD a
  have lb := hV.getD b
  have lc := hV.getD c
  have ld := hV.getD d
  obtain ⟨hb1, hb2⟩ := hb
  obtain ⟨hc1, hc2⟩ := hc
  obtain ⟨hd1, hd2⟩ := hd
  have HLa := Lib.hid (xab a (by omega))
  have HLb := Lib.hid (xab b (by omega))
  have HLc := Lib.hid (xab c (by omega))
  have HLd := Lib.hid (xab d (by omega))
  clear hV xab
  generalize Cha.step V a b c d = V2 at *
  generalize V.getD a 0 = xa at *
  generalize V.getD b 0 = xb at *
  generalize V.getD c 0 = xc at *
  generalize V.getD d 0 = xd at *
  have HQ := Lib.hid (HQ0.out (qr ⟨xa, xb, xc, xd⟩) rfl)
  have HQT := Lib.hid (fun u => Quarter.quarterM ⟨xa, xb, xc, xd⟩ ⟨la, lb, lc, ld⟩ u)
  clear HQ0 la lb lc ld
  generalize qr ⟨xa, xb, xc, xd⟩ = q at *
  unfold agg4 at HQT
  have r0 : (a : Int) < 16 := by omega
  have r1 : (b : Int) < 16 := by omega
  have r2 : (c : Int) < 16 := by omega
  have r3 : (d : Int) < 16 := by omega
  have s0 : (0 : Int) ≤ (a : Int) := by omega
  have s1 : (0 : Int) ≤ (b : Int) := by omega
  have s2 : (0 : Int) ≤ (c : Int) := by omega
  have s3 : (0 : Int) ≤ (d : Int) := by omega
  have n1 : a ≠ b := by omega
  have n2 : a ≠ c := by omega
  have n3 : a ≠ d := by omega
  have n4 : b ≠ c := by omega
  have n5 : b ≠ d := by omega
  have n6 : c ≠ d := by omega
  have HL16 := Lib.hid (show (c64 V).length = 16 by rw [c64_len, HV.out.len])
  generalize hys : c64 V = ys at *
  clear hys
  go_enter Tryz.func91, Tryz.ntmps91
  go_upto_region 1 with (fail)
  generalize hW : (w.alloc _).alloc _ = W
  obtain ⟨z1, hz1, RR⟩ : ∃ z1 : List Value, z1.length = 16 ∧ Row W w.heap.size 138 ys ∧ Row W (w.heap.size + 1) 138 z1 ∧ Below w.heap.size w W ∧ w.heap.size + 2 ≤ W.heap.size := by
    rw [← hW]
    exact ⟨_, rfl, Arr.two_new w _ _ _ _⟩
  clear hW
  have Z1 := Lib.hid hz1
  have HX := Lib.hid RR
  clear hz1 RR
  have ca := (HX.out.1.cell a).trans HLa.out
  have cb := (HX.out.1.cell b).trans HLb.out
  have cc := (HX.out.1.cell c).trans HLc.out
  have cd := (HX.out.1.cell d).trans HLd.out
  have hsz := HX.out.2.2.2
  have lw0 : w.heap.size < W.heap.size := by omega
  have lw1 : w.heap.size < W.heap.size + 1 := by omega
  go_cut [11] from 12 to 41 (fun v9 wc => ∃ gg : Nat, v9 = .pointer (some ⟨gg, 0, none⟩) ∧ w.heap.size + 2 ≤ gg ∧ (wc.cell? ⟨gg, 0, none⟩ = some (.int .i64 (q.a : Int)) ∧ wc.cell? ⟨gg, 1, none⟩ = some (.int .i64 (q.b : Int)) ∧ wc.cell? ⟨gg, 2, none⟩ = some (.int .i64 (q.c : Int)) ∧ wc.cell? ⟨gg, 3, none⟩ = some (.int .i64 (q.d : Int))) ∧ Hid (Row wc w.heap.size 138 ys ∧ Row wc (w.heap.size + 1) 138 z1 ∧ Below w.heap.size w wc ∧ w.heap.size + 2 ≤ wc.heap.size))
  case first =>
    go_region_held3 (fun w' => w'.cell? ⟨w.heap.size, a, none⟩ = some (.int .i64 (xa : Int)) ∧ w'.cell? ⟨w.heap.size, b, none⟩ = some (.int .i64 (xb : Int)) ∧ w'.cell? ⟨w.heap.size, c, none⟩ = some (.int .i64 (xc : Int)) ∧ w'.cell? ⟨w.heap.size, d, none⟩ = some (.int .i64 (xd : Int)))
      (first | exact ⟨ca, cb, cc, cd⟩ | (refine ⟨?_, ?_, ?_, ?_⟩ <;> go_simp))
      ((go_at_call 104; refine (HQT.out _).mono ?_; rintro e' w1 ⟨rfl, hb1⟩; obtain ⟨hc1, hf1⟩ := Quarter.bcell hb1; have hz1 := hb1.size; have HB1 := Lib.hid hb1; clear hb1; (try simp only [World.size_drew] at hc1 hf1 hz1); (try simp only [World.size_alloc] at hc1 hf1 hz1); have l5 : w.heap.size < w1.heap.size := (by omega)))
    all_goals
      go_wp2_with fail
      go_meet
      refine ⟨_, rfl, by omega, ⟨?_, ?_, ?_, ?_⟩, Lib.hid ⟨?_, ?_, ?_, ?_⟩⟩
      · go_simp
      · go_simp
      · go_simp
      · go_simp
      · first
          | exact (Row.below HX.out.1.drew HB1.out (show w.heap.size < W.heap.size by omega)).alloc _
          | exact ((((Row.below (HX.out.1.alloc _).drew HB1.out (by simp; omega)).set_far _ _ _ (by omega)).set_far _ _ _ (by omega)).set_far _ _ _ (by omega)).set_far _ _ _ (by omega)
      · first
          | exact (Row.below HX.out.2.1.drew HB1.out (show w.heap.size + 1 < W.heap.size by omega)).alloc _
          | exact ((((Row.below (HX.out.2.1.alloc _).drew HB1.out (by simp; omega)).set_far _ _ _ (by omega)).set_far _ _ _ (by omega)).set_far _ _ _ (by omega)).set_far _ _ _ (by omega)
      · first
          | exact (HX.out.2.2.1.drew.trans (HB1.out.mono (show w.heap.size ≤ W.heap.size by omega))).alloc (by omega) _
          | exact (((((HX.out.2.2.1.alloc (by omega) _).drew.trans (HB1.out.mono (by simp; omega))).setCell (show w.heap.size ≤ W.heap.size by omega) _).setCell (show w.heap.size ≤ W.heap.size by omega) _).setCell (show w.heap.size ≤ W.heap.size by omega) _).setCell (show w.heap.size ≤ W.heap.size by omega) _
      · first
          | (simp; omega)
          | (simp; done)
  case rest =>
  clear ca cb cc cd HQT hsz lw0 lw1 HX HXA
  obtain ⟨gg, rfl, hgg, ⟨c0, c1, c2, c3⟩, HW1⟩ := hcut
  have l1 : w.heap.size < gg := by omega
  have l2 : gg ≠ w.heap.size := by omega
  have l3 : w.heap.size ≠ gg := by omega
  obtain ⟨va, ca⟩ : ∃ v, wc.cell? ⟨w.heap.size, a, none⟩ = some v := ⟨_, (HW1.out.1.cell a).trans HLa.out⟩
  obtain ⟨vb, cb⟩ : ∃ v, wc.cell? ⟨w.heap.size, b, none⟩ = some v := ⟨_, (HW1.out.1.cell b).trans HLb.out⟩
  obtain ⟨vc, cc⟩ : ∃ v, wc.cell? ⟨w.heap.size, c, none⟩ = some v := ⟨_, (HW1.out.1.cell c).trans HLc.out⟩
  obtain ⟨vd, cd⟩ : ∃ v, wc.cell? ⟨w.heap.size, d, none⟩ = some v := ⟨_, (HW1.out.1.cell d).trans HLd.out⟩
  have fa := HW1.out.1.frozen a
  have fb := HW1.out.1.frozen b
  have fc := HW1.out.1.frozen c
  have fd := HW1.out.1.frozen d
  clear HLa HLb HLc HLd
  go_upto_region 6 with (fail)
  generalize hW6 : World.setCell _ _ _ = W6
  have HF6 := Lib.hid (show Row W6 w.heap.size 138 (c64 V2) ∧ Row W6 (w.heap.size + 1) 138 z1 ∧ Below w.heap.size w W6 by
    rw [← hW6]
    refine ⟨?_, ?_, ?_⟩
    · rw [← HQ.out]
      exact (((HW1.out.1.set a _).set b _).set c _).set d _
    · exact (((HW1.out.2.1.set_far _ _ _ (by omega)).set_far _ _ _ (by omega)).set_far _ _ _ (by omega)).set_far _ _ _ (by omega)
    · exact HW1.out.2.2.1.setCell (by exact Nat.le_refl _) _ |>.setCell (by exact Nat.le_refl _) _ |>.setCell (by exact Nat.le_refl _) _ |>.setCell (by exact Nat.le_refl _) _)
  clear hW6 ca cb cc cd fa fb fc fd c0 c1 c2 c3
  have HK := HST.out
  have HI4 := Lib.hid (infoIV HK)
  have H1 := Lib.hid (c64_one V2)
  have HRR := Lib.hid HF6.out.1
  have HT := Lib.hid (show W6.there (w.heap.size + 1) 0 (c64 V2).toArray.size by have := HF6.out.2.1.there; rw [Z1.out] at this; rw [show (c64 V2).toArray.size = 16 by rw [List.size_toArray, c64_len, HK.len]]; exact this)
  have HRES := Lib.hid (HF6.out.2.1.sets_all (vs := c64 V2) (by rw [c64_len, HK.len, Z1.out]))
  have HBF := Lib.hid (Arr.below_sets (B := w.heap.size) (a := w) (w.heap.size + 1) (by omega) (c64 V2) 0 W6 HF6.out.2.2)
  clear HK HF6
  generalize hus : c64 V2 = us at *
  have HUS := Lib.hid hus
  clear hus
  go_wp2_with (first
    | ((with_reducible show wpList _ _ _ _ _ _); refine wpList_load_row rfl 138 _ rfl w.heap.size rfl 138 _ (0, 0) _ HRR.out Tryz.underlying138 rfl HI4.out ?_)
    | ((with_reducible show wpList _ _ _ _ _ _); refine wpList_store_mid rfl 138 _ _ rfl (w.heap.size + 1) 0 us.toArray rfl rfl HT.out HI4.out H1.out ?_))
  refine bodyPost_ret (v := .agg us.toArray) ?_ rfl ⟨by rw [HUS.out], HBF.out⟩
  exact results_cell_row rfl _ _ (w.heap.size + 1) 138 _ (0, 0) _ rfl HRES.out Tryz.underlying138 rfl HI4.out
end Go.Proofs.YtggobhpjfflooaaGreatDoor.SpCha1