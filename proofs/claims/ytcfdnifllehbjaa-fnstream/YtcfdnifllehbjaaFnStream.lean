/-
  What is proved: the law on the stream (xored twice is what it was; later blocks come later) returns true (the walk).
-/
import Derived.Test.YtcfdnifllehbjaaRows
import Derived.Test.YtcfdnifllehbjaaSrcKey
import Derived.Test.YtcfdnifllehbjaaAt0
import Derived.Test.YtcfdnifllehbjaaStreamW
import Derived.Test.YtcfdnifllehbjaaChaXorL
import Derived.Test.YtcfdnifllehbjaaQRound
import Derived.Laws.StructEq
import Derived.Laws.Tables
namespace Go.Proofs.Ytcfdnifllehbjaa.FnStream
open Go.ChangeShapes Go.WideShapes Go.ChangeAt Go.RowKit
open ChaBlk (blkT blkT_size fault)
open SpXor (xorS)
open Src (IsRow)
set_option linter.unusedVariables false

theorem isRow_below {k : IntKind} {w w' : World} {a : Option Addr} {len cap : Nat} {zs : List Int} (h : IsRow k w a len cap zs) (hb : Below w.heap.size w w') : IsRow k w' a len cap zs := by
  rcases h with h | ⟨x, h1, h2, h3, h4, h5, h6⟩
  · exact .inl h
  · refine .inr ⟨x, h1, h2, h3, h4, fun i hi => ?_, h6⟩
    have hc := h5 i hi
    exact (hb.cell (World.block_lt_of_cell? w _ hc)).trans hc
theorem fault_ok (key nonce : ByteArray) (c : Int) (h1 : key.size = 32) (h2 : nonce.size = 12) (h3 : 0 ≤ c) (h4 : c ≤ 1000000000) : fault key nonce c = 0 := by
  unfold fault ChaBlk.ask
  rw [if_neg (by omega), if_neg (by omega), if_neg (by omega)]
theorem xor_ok (key nonce : ByteArray) (c : Nat) (t : ByteArray) (h1 : key.size = 32) (h2 : nonce.size = 12) (h4 : c ≤ 1000000000) (ht : t.size ≤ 65536) :
    ChaXorL.res key nonce (c : Int) t = .tuple #[.string (xorS key nonce c t), .int .i64 0] := by
  unfold ChaXorL.res
  rw [if_neg (by omega), if_pos (fault_ok key nonce c h1 h2 (by omega) (by omega))]
  rfl
theorem blk_ok (key nonce : ByteArray) (c : Nat) (h1 : key.size = 32) (h2 : nonce.size = 12) (h4 : c ≤ 1000000000) :
    ChaBlk.res key nonce (c : Int) = .tuple #[.string (blkT key nonce c), .int .i64 0] := by
  unfold ChaBlk.res
  rw [if_pos (fault_ok key nonce c h1 h2 (by omega) (by omega))]
  rfl
theorem xorT_ok (a b : ByteArray) (h1 : a.size = 64) (h2 : b.size = 64) : XorOf.res a b = .tuple #[.string (XorOf.xorT a b), .int .i64 0] := by
  unfold XorOf.res
  rw [if_neg (by omega), if_neg (by omega)]
theorem q_ok (x0 x1 x2 x3 : Int) (h0 : 0 ≤ x0 ∧ x0 < 9) (h1 : 0 ≤ x1 ∧ x1 < 9) (h2 : 0 ≤ x2 ∧ x2 < 9) (h3 : 0 ≤ x3 ∧ x3 < 9) :
    ∃ y0 y1 y2 y3 : Int, QRound.resQ x0 x1 x2 x3 = .tuple #[.agg #[.int .i64 y0, .int .i64 y1, .int .i64 y2, .int .i64 y3], .int .i64 0] := by
  unfold QRound.resQ QRound.inW
  rw [if_pos ⟨⟨by omega, by omega⟩, ⟨by omega, by omega⟩, ⟨by omega, by omega⟩, ⟨by omega, by omega⟩⟩]
  exact ⟨_, _, _, _, rfl⟩

theorem eqA (y0 y1 y2 y3 : Int) (u : World) : (Op.equalIn 10000 30 (.agg #[.int .i64 y0, .int .i64 y1, .int .i64 y2, .int .i64 y3]) (.agg #[.int .i64 y0, .int .i64 y1, .int .i64 y2, .int .i64 y3])).run Try.prog u = .ok true u := by
  have u3 := Try.underlying3
  have a3 := Try.isAgg3
  have z3 := Try.sizeOf3
  rw [show (10000 : Nat) = 9999 + 1 from rfl, Op.equalIn]
  simp only [Sem.run_bind, run_underlying Try.underlying30, Result.andThen_ok]
  simp only [Std.Legacy.Range.forIn_eq_forIn_range', Std.Legacy.Range.size, Nat.sub_zero, Nat.add_sub_cancel, Nat.div_one, List.range'_succ, List.range'_zero, List.forIn_cons, List.forIn_nil]
  go_simp
/-- Block g holds four numbers. -/
structure QC (u : World) (g : Nat) (y0 y1 y2 y3 : Int) : Prop where
  c0 : u.cell? ⟨g, 0, none⟩ = some (.int .i64 y0)
  c1 : u.cell? ⟨g, 1, none⟩ = some (.int .i64 y1)
  c2 : u.cell? ⟨g, 2, none⟩ = some (.int .i64 y2)
  c3 : u.cell? ⟨g, 3, none⟩ = some (.int .i64 y3)
  lt : g < u.heap.size
theorem QC.drewN {u : World} {g : Nat} {y0 y1 y2 y3 : Int} (h : QC u g y0 y1 y2 y3) (n : Nat) : QC (u.drewN n) g y0 y1 y2 y3 := ⟨h.c0, h.c1, h.c2, h.c3, h.lt⟩
theorem QC.below {u u' : World} {g : Nat} {y0 y1 y2 y3 : Int} (h : QC u g y0 y1 y2 y3) (hb : Below u.heap.size u u') : QC u' g y0 y1 y2 y3 :=
  ⟨(hb.cell (p := ⟨g, 0, none⟩) h.lt).trans h.c0, (hb.cell (p := ⟨g, 1, none⟩) h.lt).trans h.c1, (hb.cell (p := ⟨g, 2, none⟩) h.lt).trans h.c2, (hb.cell (p := ⟨g, 3, none⟩) h.lt).trans h.c3, Nat.lt_of_lt_of_le h.lt hb.size⟩
theorem QC.new (u : World) (y0 y1 y2 y3 : Int) : QC (u.alloc (.cells #[.int .i64 y0, .int .i64 y1, .int .i64 y2, .int .i64 y3] 30)) u.heap.size y0 y1 y2 y3 :=
  ⟨by go_simp, by go_simp, by go_simp, by go_simp, by simp⟩

set_option maxRecDepth 100000 in
set_option maxHeartbeats 3200000 in
theorem walk (a0 : Option Addr) (len0 cap0 : Nat) (z0 : List Int) (a1 : Option Addr) (len1 cap1 : Nat) (z1 : List Int) (w : World) (h0 : IsRow .u8 w a0 len0 cap0 z0) (h1 : IsRow .u8 w a1 len1 cap1 z1) :
    Calls Try.prog 3 #[.slice a0 len0 cap0, .slice a1 len1 cap1] w fun e w' => e = .returned (.bool true) ∧ Below w.heap.size w w' := by
  have m0 := h0.code.1
  have m1 := h1.code.1
  unfold maxLen at m0 m1
  have H0 := Lib.hid h0
  have H1 := Lib.hid h1
  clear h0 h1
  by_cases b0 : 1048576 < len0
  · go_enter Try.func3, Try.ntmps3
    go_wp2_with fail
    go_ret
    exact ⟨rfl, Below.refl _ _⟩
  by_cases b1 : 1048576 < len1
  · have d0 : decide (1048576 < (len0 : Int)) = false := decide_eq_false (by omega)
    go_enter Try.func3, Try.ntmps3
    go_wp2_with fail
    go_ret
    exact ⟨rfl, Below.refl _ _⟩
  have d0 : decide (1048576 < (len0 : Int)) = false := decide_eq_false (by omega)
  have d1 : decide (1048576 < (len1 : Int)) = false := decide_eq_false (by omega)
  have hl0 : len0 ≤ 1048576 := by omega
  have hl1 : len1 ≤ 1048576 := by omega
  clear b0 b1 m0 m1
  go_enter Try.func3, Try.ntmps3
  go_wp2_with fail
  clear d0 d1
  refine (SrcKey.keyOf w a0 len0 cap0 z0 H0.out).mono ?_
  rintro e w1 ⟨bs0, rfl, hs0, hb1⟩
  have HB1 := Lib.hid hb1
  clear hb1
  obtain ⟨key, ekey⟩ : ∃ t : ByteArray, (⟨bs0.toArray⟩ : ByteArray) = t := ⟨_, rfl⟩
  have HK := Lib.hid (show key.size = 32 by rw [← ekey]; exact List.size_toArray.trans hs0)
  rw [ekey]
  clear ekey hs0
  go_wp2_with fail
  refine (SrcKey.nonceDrawn w1 a1 len1 cap1 z1 (isRow_below H1.out HB1.out)).mono ?_
  rintro e w2 ⟨bs1, rfl, hs1, hb2⟩
  have HB2 := Lib.hid (HB1.out.trans (hb2.mono HB1.out.size))
  clear hb2 HB1
  obtain ⟨nonce, enonce⟩ : ∃ t : ByteArray, (⟨bs1.toArray⟩ : ByteArray) = t := ⟨_, rfl⟩
  have HN := Lib.hid (show nonce.size = 12 by rw [← enonce]; exact List.size_toArray.trans hs1)
  rw [enonce]
  clear enonce hs1
  go_wp2_with fail
  refine (At.at_ w2 a0 len0 cap0 z0 (isRow_below H0.out HB2.out) hl0 0 (by omega) 0 rfl 80 (by omega)).mono ?_
  obtain ⟨i, ei⟩ : ∃ i : Nat, At.val z0 len0 0 80 = (i : Int) := ⟨_, (Int.toNat_of_nonneg (At.val_nonneg _ _ _ _)).symm⟩
  have hi : i < 80 := by have := At.val_lt z0 len0 0 80 (by omega); omega
  rw [ei]
  clear ei
  rintro e w3 ⟨rfl, n3, rfl⟩
  have HB3 := Lib.hid (below_drewN HB2.out n3)
  clear HB2
  generalize w2.drewN n3 = w3 at *
  obtain ⟨n, en⟩ : ∃ n, 70 + i = n := ⟨_, rfl⟩
  have i70 : (70 : Int) + (i : Int) = (n : Int) := by omega
  have hn : n < 150 ∧ 70 ≤ n := by omega
  have wn : IntKind.i64.wrap (n : Int) = n := by rw [IntKind.wrap_i64]; omega
  clear en hi
  go_wp2_with fail
  refine (SrcKey.bytesOf w3 a1 len1 cap1 z1 (isRow_below H1.out HB3.out) n (by omega)).mono ?_
  rintro e w4 ⟨bs2, rfl, hs2, hb4⟩
  have HB4 := Lib.hid (HB3.out.trans (hb4.mono HB3.out.size))
  clear hb4 HB3 i70 wn
  obtain ⟨t, et⟩ : ∃ t : ByteArray, (⟨bs2.toArray⟩ : ByteArray) = t := ⟨_, rfl⟩
  have HT := Lib.hid (show t.size = n by rw [← et]; exact List.size_toArray.trans hs2)
  rw [et]
  clear et hs2
  have ht1 : t.size ≤ 150 := by have := HT.out; omega
  have ht2 : 64 ≤ t.size := by have := HT.out; omega
  have ht3 : (64 : Int) ≤ (t.size : Int) := by omega
  have R1 := Lib.hid (show ChaXorL.res key nonce 3 t = .tuple #[.string (xorS key nonce 3 t), .int .i64 0] from xor_ok key nonce 3 t HK.out HN.out (by omega) (by omega))
  have hx := StreamW.xorS_size key nonce 3 t
  have R2 := Lib.hid (show ChaXorL.res key nonce 3 (xorS key nonce 3 t) = .tuple #[.string t, .int .i64 0] from (xor_ok key nonce 3 _ HK.out HN.out (by omega) (by rw [hx]; omega)).trans (by rw [StreamW.twice]))
  have s64 : (t.extract 64 t.size).size ≤ 150 := by rw [ByteArray.size_extract]; omega
  have R3 := Lib.hid (show ChaXorL.res key nonce 4 (t.extract 64 t.size) = .tuple #[.string ((xorS key nonce 3 t).extract 64 (xorS key nonce 3 t).size), .int .i64 0] from (xor_ok key nonce 4 _ HK.out HN.out (by omega) (by omega)).trans (by rw [StreamW.later key nonce 3 t ht2]))
  have R4 := Lib.hid (show ChaBlk.res key nonce 3 = .tuple #[.string (blkT key nonce 3), .int .i64 0] from blk_ok key nonce 3 HK.out HN.out (by omega))
  have s65 : (t.extract 0 64).size = 64 := by rw [ByteArray.size_extract]; omega
  have R5 := Lib.hid (show XorOf.res (blkT key nonce 3) (t.extract 0 64) = .tuple #[.string ((xorS key nonce 3 t).extract 0 64), .int .i64 0] from (xorT_ok _ _ (blkT_size _ _ _) s65).trans (by rw [StreamW.head key nonce 3 t ht2]))
  have HBS := Lib.hid (blkT_size key nonce 3)
  have HS64 := Lib.hid s64
  have HS65 := Lib.hid s65
  have hX1 : (xorS key nonce 3 t).size ≤ 150 := by rw [hx]; exact ht1
  have hX2 : 64 ≤ (xorS key nonce 3 t).size := by rw [hx]; exact ht2
  have hX3 : (64 : Int) ≤ ((xorS key nonce 3 t).size : Int) := by omega
  have mk : key.size ≤ maxLen := by rw [HK.out]; unfold maxLen; omega
  have mn : nonce.size ≤ maxLen := by rw [HN.out]; unfold maxLen; omega
  have MK := Lib.hid (And.intro mk mn)
  clear hx s64 s65 mk mn hn HT
  generalize xorS key nonce 3 t = X at *
  generalize blkT key nonce 3 = B at *
  go_wp2_with fail
  refine (ChaXorL.impl key nonce 3 t MK.out.1 MK.out.2 (by unfold maxLen; omega) _).mono ?_
  rw [R1.out]
  rintro e w5 ⟨rfl, hb⟩
  have HB5 := Lib.hid (HB4.out.trans (hb.mono HB4.out.size))
  clear hb HB4
  go_wp2_with fail
  refine (ChaXorL.spec key nonce 3 t MK.out.1 MK.out.2 (by unfold maxLen; omega) _).mono ?_
  rw [R1.out]
  rintro e w6 ⟨rfl, hb⟩
  have HB6 := Lib.hid (HB5.out.trans (hb.mono HB5.out.size))
  clear hb HB5
  go_wp2_with fail
  refine (ChaXorL.impl key nonce 3 X MK.out.1 MK.out.2 (by unfold maxLen; omega) _).mono ?_
  rw [R2.out]
  rintro e w7 ⟨rfl, hb⟩
  have HB7 := Lib.hid (HB6.out.trans (hb.mono HB6.out.size))
  clear hb HB6
  go_wp2_with fail
  refine (ChaXorL.impl key nonce 4 (t.extract 64 t.size) MK.out.1 MK.out.2 (by have := HS64.out; unfold maxLen; omega) _).mono ?_
  rw [R3.out]
  rintro e w8 ⟨rfl, hb⟩
  have HB8 := Lib.hid (HB7.out.trans (hb.mono HB7.out.size))
  clear hb HB7
  go_wp2_with fail
  refine (ChaBlk.impl key nonce 3 MK.out.1 MK.out.2 _).mono ?_
  rw [R4.out]
  rintro e w9 ⟨rfl, hb⟩
  have HB9 := Lib.hid (HB8.out.trans (hb.mono HB8.out.size))
  clear hb HB8
  go_wp2_with fail
  refine (XorOf.impl B (t.extract 0 64) (by rw [HBS.out]; unfold maxLen; omega) (by rw [HS65.out]; unfold maxLen; omega) _).mono ?_
  rw [R5.out]
  rintro e w10 ⟨rfl, hb⟩
  have HB10 := Lib.hid (HB9.out.trans (hb.mono HB9.out.size))
  clear hb HB9 R1 R2 R3 R4 R5
  have x1 := And.intro (At.val_nonneg z0 len0 1 9) (At.val_lt z0 len0 1 9 (by omega))
  have x2 := And.intro (At.val_nonneg z0 len0 2 9) (At.val_lt z0 len0 2 9 (by omega))
  have x3 := And.intro (At.val_nonneg z1 len1 3 9) (At.val_lt z1 len1 3 9 (by omega))
  have x4 := And.intro (At.val_nonneg z1 len1 4 9) (At.val_lt z1 len1 4 9 (by omega))
  obtain ⟨y0, y1, y2, y3, hq⟩ := q_ok _ _ _ _ x1 x2 x3 x4
  have HQ := Lib.hid hq
  have A1 := Lib.hid (fun u (h : IsRow .u8 u a0 len0 cap0 z0) => At.at_ u a0 len0 cap0 z0 h hl0 1 (by omega) 1 rfl 9 (by omega))
  have A2 := Lib.hid (fun u (h : IsRow .u8 u a0 len0 cap0 z0) => At.at_ u a0 len0 cap0 z0 h hl0 2 (by omega) 2 rfl 9 (by omega))
  have A3 := Lib.hid (fun u (h : IsRow .u8 u a1 len1 cap1 z1) => At.at_ u a1 len1 cap1 z1 h hl1 3 (by omega) 3 rfl 9 (by omega))
  have A4 := Lib.hid (fun u (h : IsRow .u8 u a1 len1 cap1 z1) => At.at_ u a1 len1 cap1 z1 h hl1 4 (by omega) 4 rfl 9 (by omega))
  clear hq x1 x2 x3 x4
  generalize At.val z0 len0 1 9 = v1 at *
  generalize At.val z0 len0 2 9 = v2 at *
  generalize At.val z1 len1 3 9 = v3 at *
  generalize At.val z1 len1 4 9 = v4 at *
  go_wp2_with fail
  refine (A1.out _ (isRow_below H0.out HB10.out)).mono ?_
  rintro e w11' ⟨rfl, n11, rfl⟩
  have HB11 := Lib.hid (below_drewN HB10.out n11)
  clear HB10
  generalize w10.drewN n11 = u11 at *
  go_wp2_with fail
  refine (A2.out _ (isRow_below H0.out HB11.out)).mono ?_
  rintro e w12' ⟨rfl, n12, rfl⟩
  have HB12 := Lib.hid (below_drewN HB11.out n12)
  clear HB11
  generalize u11.drewN n12 = u12 at *
  go_wp2_with fail
  refine (A3.out _ (isRow_below H1.out HB12.out)).mono ?_
  rintro e w13' ⟨rfl, n13, rfl⟩
  have HB13 := Lib.hid (below_drewN HB12.out n13)
  clear HB12
  generalize u12.drewN n13 = u13 at *
  go_wp2_with fail
  refine (A4.out _ (isRow_below H1.out HB13.out)).mono ?_
  rintro e w14' ⟨rfl, n14, rfl⟩
  have HB14 := Lib.hid (below_drewN HB13.out n14)
  clear HB13
  generalize u13.drewN n14 = u14 at *
  go_wp2_with fail
  refine (QRound.impl _ _ _ _ _).mono ?_
  rw [HQ.out]
  rintro e w15 ⟨rfl, hb⟩
  have HB15 := Lib.hid (HB14.out.trans (hb.mono HB14.out.size))
  clear hb HB14
  have hz15 := HB15.out.size
  have HB15b := Lib.hid (HB15.out.alloc hz15 (.cells #[.int .i64 y0, .int .i64 y1, .int .i64 y2, .int .i64 y3] 30))
  go_wp2_with fail
  have C0 := Lib.hid (QC.new w15 y0 y1 y2 y3)
  generalize w15.alloc (.cells #[.int .i64 y0, .int .i64 y1, .int .i64 y2, .int .i64 y3] 30) = U15 at *
  generalize w15.heap.size = gq at *
  clear HB15 hz15
  refine (A1.out _ (isRow_below H0.out HB15b.out)).mono ?_
  rintro e w21' ⟨rfl, n21, rfl⟩
  have HB21 := Lib.hid (below_drewN HB15b.out n21)
  clear HB15b
  have C21 := Lib.hid (C0.out.drewN n21)
  clear C0
  generalize U15.drewN n21 = u21 at *
  go_wp2_with fail
  refine (A2.out _ (isRow_below H0.out HB21.out)).mono ?_
  rintro e w22' ⟨rfl, n22, rfl⟩
  have HB22 := Lib.hid (below_drewN HB21.out n22)
  clear HB21
  have C22 := Lib.hid (C21.out.drewN n22)
  clear C21
  generalize u21.drewN n22 = u22 at *
  go_wp2_with fail
  refine (A3.out _ (isRow_below H1.out HB22.out)).mono ?_
  rintro e w23' ⟨rfl, n23, rfl⟩
  have HB23 := Lib.hid (below_drewN HB22.out n23)
  clear HB22
  have C23 := Lib.hid (C22.out.drewN n23)
  clear C22
  generalize u22.drewN n23 = u23 at *
  go_wp2_with fail
  refine (A4.out _ (isRow_below H1.out HB23.out)).mono ?_
  rintro e w24' ⟨rfl, n24, rfl⟩
  have HB24 := Lib.hid (below_drewN HB23.out n24)
  clear HB23
  have C24 := Lib.hid (C23.out.drewN n24)
  clear C23
  generalize u23.drewN n24 = u24 at *
  go_wp2_with fail
  refine (QRound.spec _ _ _ _ _).mono ?_
  rw [HQ.out]
  rintro e w25 ⟨rfl, hb⟩
  have HB25 := Lib.hid (HB24.out.trans (hb.mono HB24.out.size))
  obtain ⟨c0, c1, c2, c3, lq⟩ := C24.out.below hb
  have lq2 : gq ≠ w25.heap.size := by omega
  have heq := eqA y0 y1 y2 y3
  clear hb HB24
  go_wp2
  go_ret
  exact ⟨rfl, HB25.out.alloc HB25.out.size _⟩
end Go.Proofs.Ytcfdnifllehbjaa.FnStream
