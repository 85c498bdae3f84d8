/-
  What is proved: the program's xoring with the stream is the plain one (contract for the walks).
-/
import Derived.Test.YtcfdnifllehbjaaDoorRows
import Derived.Test.YtcfdnifllehbjaaDoorSpXor
namespace Go.Proofs.YtcfdnifllehbjaaDoor.ChaXorI
open Go.ChangeShapes Go.WideShapes Go.ChangeAt Go.RowKit
open Arr (Row)
open Bytes (BV Owns)
open XorInto (RowF Only)
open Word (bN bN_lt bN_at)
open Cha
open ChaBlk (blkT blkT_size)
open XorOf (xb xb_length xb_at bytes_at bytes_size bytes_below)
open SpXor (ks ks_lt xorS)
set_option linter.unusedVariables false

theorem _root_.Go.Proofs.YtcfdnifllehbjaaDoor.XorInto.RowF.far {w : World} {g : Nat} {t : TypeId} {fr : Nat × Nat} {xs : List Value} (h : RowF w g t fr xs) (b i : Nat) (v : Value) (hb : g ≠ b) : RowF (w.setCell ⟨b, i, none⟩ v) g t fr xs :=
  (heap_setCell_other w ⟨b, i, none⟩ g v hb).trans h
theorem store_words (w w2 : World) (z : Array Value) (X : List Nat) (hX : Ok X) (W3 : World) (h : (w2.alloc (.cells z 52)).setCells w2.heap.size 0 (c32 X).toArray.toList = W3) (hz : z.size = 16) (hb : Below w.heap.size w w2) :
    Row W3 w2.heap.size 52 (c32 X) ∧ Below w.heap.size w W3 ∧ w2.heap.size < W3.heap.size := by
  rw [← h]
  exact ⟨(Arr.row_new w2 z _).sets_all (by rw [c32_len, hX.len]; exact hz.symm), Arr.below_sets _ hb.size _ _ _ (hb.alloc hb.size _), by rw [Arr.size_sets]; simp⟩
/-- The next count. -/
theorem next_words (key nonce : ByteArray) (c : Nat) : (c32 (first key nonce c)).set 12 (.int .u32 (((c + 1) % 4294967296 : Nat) : Int)) = c32 (first key nonce (c + 1)) := by
  simp [c32, first]
theorem word12 (key nonce : ByteArray) (c : Nat) : (c32 (first key nonce c))[12]? = some (.int .u32 ((c % 4294967296 : Nat) : Int)) := rfl
/-- Byte j of a block, as the stream tells it. -/
theorem blk_byte (key nonce : ByteArray) (count m j : Nat) (hj : j < 64) : (BV (Cha.blk (first key nonce (count + m))))[j]? = some (.int .u8 ((ks key nonce count (64 * m + j) : Nat) : Int)) := by
  have hl : j < (Cha.blk (first key nonce (count + m))).length := by rw [Cha.blk_length]; exact hj
  have e1 : (64 * m + j) / 64 = m := by omega
  have e2 : (64 * m + j) % 64 = j := by omega
  have h3 : ks key nonce count (64 * m + j) = ((Cha.blk (first key nonce (count + m)))[j]).toNat := by
    unfold ks
    rw [e1, e2]
    unfold bN blkT
    simp [List.getD_eq_getElem?_getD, List.getElem?_eq_getElem hl]
  rw [h3]
  simp [BV, List.getElem?_eq_getElem hl]
/-- What the text's row holds when m blocks are done. -/
def mid (t : ByteArray) (K : Nat → Nat) (m j : Nat) : Nat := if j < 64 * m then bN t j ^^^ K j else bN t j
theorem mid_lt (t : ByteArray) (K : Nat → Nat) (hK : ∀ j, K j < 256) (m j : Nat) : mid t K m j < 256 := by
  unfold mid
  split
  · exact Nat.xor_lt_two_pow (n := 8) (bN_lt _ _) (hK j)
  · exact bN_lt _ _

theorem mid_next (t : ByteArray) (K : Nat → Nat) (m n pp : Nat) (ys zs : List Value) (hpp : pp = 64 * m) (hn : n ≤ 64) (hend : ∀ j, j < t.size → pp + n ≤ j → 64 * (m + 1) ≤ j)
    (h0 : ∀ j, j < t.size → ys[j]? = some (.int .u8 ((mid t K m j : Nat) : Int))) (h1 : ∀ j, j < n → zs[pp + j]? = some (.int .u8 ((mid t K m (pp + j) ^^^ K (pp + j) : Nat) : Int)))
    (h2 : ∀ j, (j < pp ∨ pp + n ≤ j) → zs[j]? = ys[j]?) : ∀ j, j < t.size → zs[j]? = some (.int .u8 ((mid t K (m + 1) j : Nat) : Int)) := by
  intro j hj
  by_cases ha : j < pp
  · rw [h2 j (.inl ha), h0 j hj]
    unfold mid
    rw [if_pos (by omega), if_pos (by omega)]
  · by_cases hb : pp + n ≤ j
    · rw [h2 j (.inr hb), h0 j hj]
      have := hend j hj hb
      unfold mid
      rw [if_neg (by omega), if_neg (by omega)]
    · obtain ⟨i, rfl⟩ : ∃ i, j = pp + i := ⟨j - pp, by omega⟩
      rw [h1 i (by omega)]
      unfold mid
      rw [if_neg (by omega), if_pos (by omega)]


set_option maxRecDepth 100000 in
set_option maxHeartbeats 3200000 in
theorem chaXor (key nonce : ByteArray) (h1 : key.size = 32) (h2 : nonce.size = 12) (count : Nat) (hcm : count ≤ 1000000000) (t : ByteArray) (ht : t.size ≤ 65536) (w : World) :
    Calls Tryd.prog 25 #[.string key, .string nonce, .int .i64 (count : Int), .string t] w fun e w' => e = .returned (.string (xorS key nonce count t)) ∧ Below w.heap.size w w' := by
  have HF := Lib.hid (ChaFirst.firstWords key nonce h1 h2 count (by omega))
  have HWOK := Lib.hid (fun c => first_ok key nonce c)
  have HWN := Lib.hid (next_words key nonce)
  have HW12 := Lib.hid (word12 key nonce)
  have HBB := Lib.hid (blk_byte key nonce count)
  have HOUT := Lib.hid (fun c u => ChaOut.chaBytes (first key nonce c) (first_ok key nonce c) u)
  have HLEN := Lib.hid (fun c => Cha.blk_length (first key nonce c))
  have HKL := Lib.hid (ks_lt key nonce count)
  have HRES := Lib.hid (show xorS key nonce count t = ⟨(xb (bN t) (ks key nonce count) t.size).toArray⟩ from rfl)
  obtain ⟨BL, hBL⟩ : ∃ BL : Nat → List UInt8, ∀ c, Cha.blk (first key nonce c) = BL c := ⟨_, fun _ => rfl⟩
  simp only [hBL] at HBB HOUT HLEN
  clear hBL
  obtain ⟨FW, hFW⟩ : ∃ FW : Nat → List Nat, ∀ c, first key nonce c = FW c := ⟨_, fun _ => rfl⟩
  simp only [hFW] at HF HWOK HWN HW12 HOUT
  clear hFW
  generalize xorS key nonce count t = RES at *
  generalize ks key nonce count = K at *
  clear h1 h2
  have HI0 := Lib.hid (infoUV (HWOK.out count))
  have H10 := Lib.hid (c32_one (FW count))
  have HZ0 := Lib.hid (show (c32 (FW count)).toArray.size = 16 by rw [List.size_toArray, c32_len, (HWOK.out count).len])
  go_enter Tryd.func25, Tryd.ntmps25
  go_wp2_with fail
  refine (HF.out _).mono ?_
  rintro e w1 ⟨rfl, hb1⟩
  have HB1 := Lib.hid hb1
  clear hb1 HF
  have HFACT := Lib.hid (fun (z : Array Value) (W3 : World) (h : (w1.alloc (.cells z 52)).setCells w1.heap.size 0 (c32 (FW count)).toArray.toList = W3) (hz : z.size = 16) => store_words w w1 z (FW count) (HWOK.out count) W3 h hz HB1.out)
  go_upto_region 2 with (((with_reducible show wpList _ _ _ _ _ _); refine wpList_store_mid rfl 52 _ _ rfl w1.heap.size 0 (c32 (FW count)).toArray rfl rfl (ChaBlk.there_new _ _ _ _ (by rw [HZ0.out]; rfl)) HI0.out H10.out ?_; generalize hW3 : World.setCells _ _ _ _ = W3; have HF3 := Lib.hid (HFACT.out _ W3 hW3 (by rfl)); clear hW3))
  clear HFACT HI0 H10 HZ0
  have k1 := Lib.run_convert_string_bytes (P := Tryd.prog) W3 9 22 5 t Tryd.underlying9 Tryd.underlying22 Tryd.underlying5
  obtain ⟨g1, hg1⟩ : ∃ g, w1.heap.size = g := ⟨_, rfl⟩
  obtain ⟨g2, hg2⟩ : ∃ g, W3.heap.size = g := ⟨_, rfl⟩
  have HG := Lib.hid (show w.heap.size ≤ g1 ∧ g1 < g2 from ⟨by rw [← hg1]; exact HB1.out.size, by rw [← hg1, ← hg2]; exact HF3.out.2.2⟩)
  obtain ⟨fr, L0, hL0, hfr, HR0⟩ : ∃ (fr : Nat × Nat) (L0 : List Value), t.size ≤ L0.length ∧ t.size ≤ fr.1 ∧ (RowF (Lib.bytesWorld W3 5 t) g2 5 fr L0 ∧ (∀ j, j < t.size → L0[j]? = some (.int .u8 ((bN t j : Nat) : Int))) ∧ Row (Lib.bytesWorld W3 5 t) g1 52 (c32 (FW count)) ∧ Below w.heap.size w (Lib.bytesWorld W3 5 t) ∧ g2 < (Lib.bytesWorld W3 5 t).heap.size) := by
    refine ⟨((Lib.bytesCells W3 5 t).size, (Lib.bytesCells W3 5 t).size + 1), (Lib.bytesCells W3 5 t).toList, ?_, bytes_size W3 t, ?_, fun j hj => bytes_at W3 t j hj, ?_, ?_, ?_⟩
    · simpa using bytes_size W3 t
    · rw [← hg2]; exact Lib.bytesWorld_at_new W3 5 t
    · rw [← hg1]; exact HF3.out.1.below (bytes_below W3 t) HF3.out.2.2
    · exact HF3.out.2.1.trans ((bytes_below W3 t).mono HF3.out.2.1.size)
    · rw [Lib.bytesWorld_size, hg2]; omega
  have HRR := Lib.hid HR0
  have HLL := Lib.hid (And.intro hL0 hfr)
  clear HR0 hL0 hfr
  generalize Lib.bytesWorld W3 5 t = W4 at *
  have hcp : t.size ≤ grownCap W3 t.size 0 5 := grownCap_ge _ _ _ _
  generalize grownCap W3 t.size 0 5 = cp at *
  rw [hg1, hg2] at *
  go_wp2
  clear k1 HF3 HB1
  go_loopw [11] (fun i wz => ∃ (m pp : Nat) (ys : List Value) (wr : World), wr = wz ∧ i = .int .i64 (pp : Int) ∧ Hid (pp = 64 * m ∧ pp < t.size + 64) ∧ Hid (RowF wr g2 5 fr ys ∧ ys.length = L0.length ∧ (∀ j, j < t.size → ys[j]? = some (.int .u8 ((mid t K m j : Nat) : Int))) ∧ Row wr g1 52 (c32 (FW (count + m))) ∧ Below w.heap.size w wr ∧ g2 < wr.heap.size)) (fun i _ => t.size + 64 - (intOf i).toNat)
  case atStart => exact ⟨0, 0, L0, _, rfl, rfl, Lib.hid ⟨rfl, by omega⟩, Lib.hid ⟨HRR.out.1, rfl, fun j hj => HRR.out.2.1 j hj, HRR.out.2.2⟩⟩
  case round =>
  clear HRR
  obtain ⟨m, pp, ys, wr, rfl, rfl, HM, HX⟩ := hrel
  by_cases hlt : pp < t.size
  · have hlt2 : decide ((pp : Int) < (t.size : Int)) = true := decide_eq_true (by omega)
    obtain ⟨c, ec⟩ : ∃ c, count + m = c := ⟨_, rfl⟩
    have HBC := Lib.hid (HBB.out m)
    have hc2 : c ≤ 1000002000 := by have := HM.out; omega
    rw [ec] at HX HBC
    have HC := Lib.hid ec
    clear ec
    have HCO := Lib.hid (HOUT.out c)
    have HL64 := Lib.hid (HLEN.out c)
    have HWC := Lib.hid (HWOK.out c)
    have HWNC := Lib.hid (HWN.out c)
    have HW12C := Lib.hid (HW12.out c)
    have HRW := Lib.hid HX.out.2.2.2.1
    generalize BL c = us at *
    have HIC := Lib.hid (infoUV HWC.out)
    generalize hws : FW c = ws at *
    clear hws
    go_wp2_with (((with_reducible show wpList _ _ _ _ _ _); refine wpList_load_row rfl 52 _ rfl g1 rfl 52 _ (0, 0) _ HRW.out Tryd.underlying52 rfl HIC.out ?_))
    refine (HCO.out _).mono ?_
    rintro e w5 ⟨rfl, hb5⟩
    have HX5 := Lib.hid (show RowF w5 g2 5 fr ys ∧ Row w5 g1 52 (c32 ws) ∧ Below w.heap.size w w5 ∧ g2 < w5.heap.size from
      ⟨(hb5.block g2 HX.out.2.2.2.2.2).trans HX.out.1, HX.out.2.2.2.1.below hb5 (by have := HX.out.2.2.2.2.2; have := HG.out; omega), HX.out.2.2.2.2.1.trans (hb5.mono HX.out.2.2.2.2.1.size), Nat.lt_of_lt_of_le HX.out.2.2.2.2.2 hb5.size⟩)
    clear hb5 HRW
    have HI6 := Lib.hid (show (Tryd.prog.info? 54).map (·.size) = some (BV us).toArray.size by rw [List.size_toArray, Bytes.BV_length, HL64.out]; exact ChaOut.info64)
    have H16 := Lib.hid (show (BV us).toArray.all (·.oneCell') = true from all_oneCell_toArray (Bytes.BV_one us))
    have HS6 := Lib.hid (show (BV us).toArray.size = 64 by rw [List.size_toArray, Bytes.BV_length, HL64.out])
    have HFACT := Lib.hid (fun (z : Array Value) (W3 : World) (h : (w5.alloc (.cells z 54)).setCells w5.heap.size 0 (BV us).toArray.toList = W3) (hz : z.size = 64) => ChaBlk.store_new w5 w5 z us W3 h hz HL64.out (Below.refl _ _))
    go_upto_region 7 with (((with_reducible show wpList _ _ _ _ _ _); refine wpList_store_mid rfl 54 _ _ rfl w5.heap.size 0 (BV us).toArray rfl rfl (ChaBlk.there_new _ _ _ _ (by rw [HS6.out]; rfl)) HI6.out H16.out ?_; generalize hW6 : World.setCells _ _ _ _ = W6; have HF6 := Lib.hid (HFACT.out _ W6 hW6 (by rfl)); clear hW6))
    clear HFACT HI6 H16 HS6
    obtain ⟨g3, hg3⟩ : ∃ g, w5.heap.size = g := ⟨_, rfl⟩
    have HX6 := Lib.hid (show RowF W6 g2 5 fr ys ∧ Row W6 g1 52 (c32 ws) ∧ Row W6 g3 54 (BV us) ∧ Below w.heap.size w W6 ∧ g2 < g3 ∧ g3 < W6.heap.size from
      ⟨(HF6.out.2.block g2 HX5.out.2.2.2).trans HX5.out.1, HX5.out.2.1.below HF6.out.2 (by have := HX5.out.2.2.2; have := HG.out; omega), by rw [← hg3]; exact HF6.out.1, HX5.out.2.2.1.trans (HF6.out.2.mono HX5.out.2.2.1.size), by rw [← hg3]; exact HX5.out.2.2.2, by rw [← hg3]; exact HF6.out.1.lt⟩)
    rw [hg3]
    clear HF6 HX5 hg3
    have hp1 : (pp : Int) ≤ (t.size : Int) := by omega
    have hp0 : (0 : Int) ≤ (pp : Int) := by omega
    have hcp2 : (t.size : Int) ≤ (cp : Int) := by omega
    obtain ⟨q, eq⟩ : ∃ q, pp + 64 = q := ⟨_, rfl⟩
    have i64 : (pp : Int) + 64 = (q : Int) := by omega
    have wq : IntKind.i64.wrap (q : Int) = q := by rw [IntKind.wrap_i64]; omega
    have hpq : (pp : Int) ≤ (q : Int) := by omega
    have hq0 : (0 : Int) ≤ (q : Int) := by omega
    have HQ := Lib.hid eq
    clear eq
    have hne : ¬ cp = pp := by omega
    have HBY := Lib.hid (show ∀ j, j < 64 → W6.drew.cell? ⟨g3, 0 + j, none⟩ = some (.int .u8 ((K (pp + j) : Nat) : Int)) from fun j hj => by
      rw [Nat.zero_add]
      have h1 := (HX6.out.2.2.1.drew.cell j).trans (HBC.out j hj)
      rw [h1, HM.out.1])
    obtain ⟨cn, ecn⟩ : ∃ n, (c + 1) % 4294967296 = n := ⟨_, rfl⟩
    rw [ecn] at HWNC
    have hcw : IntKind.u32.wrap (((c % 4294967296 : Nat) : Int) + 1) = (cn : Int) := by rw [IntKind.wrap_u32', ← ecn]; omega
    clear ecn
    by_cases hfull : q < t.size
    · have hf2 : (q : Int) < (t.size : Int) := by omega
      have hf3 : (q : Int) ≤ (cp : Int) := by omega
      go_region_with ((go_at_call 36; refine (XorInto.xorInto g2 pp (q - pp) _ g3 0 64 _ 5 fr ys (fun j => mid t K m (pp + j)) (fun j => K (pp + j)) (by have := HX6.out.2.2.2.2.1; omega) (by have := HQ.out; omega) (by omega) W6.drew HX6.out.1.drew (.inl (by have := HLL.out.2; have := HQ.out; omega)) (fun j hj => HX.out.2.2.1 (pp + j) (by have := HQ.out; omega)) (fun j => mid_lt t K HKL.out m _) (fun j hj => HBY.out j (by have := HQ.out; omega)) (fun j => HKL.out _)).mono ?_; rintro e w7 ⟨rfl, H7⟩))
      have HY := H7.out
      obtain ⟨ho, zs, hr7, hl7, h17, h27⟩ := HY
      have HNXT := Lib.hid (mid_next t K m (q - pp) pp ys zs HM.out.1 (by have := HQ.out; omega) (fun j hj hjj => by have := HQ.out; have := HM.out; omega) HX.out.2.2.1 h17 h27)
      have HX7 := Lib.hid (show RowF w7 g2 5 fr zs ∧ zs.length = L0.length ∧ Row w7 g1 52 (c32 ws) ∧ Below w.heap.size w w7 ∧ g2 < w7.heap.size from
        ⟨hr7, hl7.trans HX.out.2.1, (ho.block g1 (by have := HG.out; omega)).trans HX6.out.2.1.drew, HX6.out.2.2.2.1.drew.trans (ho.below (by have := HG.out; omega)), by rw [ho.size]; exact Nat.lt_trans HX6.out.2.2.2.2.1 HX6.out.2.2.2.2.2⟩)
      have c12 := (HX7.out.2.2.1.cell 12).trans HW12C.out
      have f12 := HX7.out.2.2.1.frozen 12
      clear H7 ho hr7 hl7 h17 h27 HX6
      generalize c % 4294967296 = cm at *
      go_wp2
      go_roundw
      case rel =>
        refine ⟨m + 1, q, zs, _, rfl, by go_num, Lib.hid ⟨by have := HM.out; have := HQ.out; omega, by have := HQ.out; omega⟩, Lib.hid ⟨?_, HX7.out.2.1, HNXT.out, ?_, ?_, ?_⟩⟩
        · exact (HX7.out.1.far g1 12 _ (by have := HG.out; omega))
        · have := HX7.out.2.2.1.set 12 (.int .u32 ((cn : Nat) : Int))
          rw [HWNC.out] at this
          rw [show count + (m + 1) = c + 1 by have := HC.out; omega]
          exact this
        · exact HX7.out.2.2.2.1.setCell (show w.heap.size ≤ g1 from HG.out.1) _
        · have := HX7.out.2.2.2.2
          simpa [World.setCell] using this
      case measure => simp [intOf]; have := HQ.out; omega
    · have hf2 : decide ((q : Int) < (t.size : Int)) = false := decide_eq_false (by omega)
      have hf4 : ¬ ((q : Int) < (t.size : Int)) := by omega
      go_region_with ((go_at_call 36; refine (XorInto.xorInto g2 pp (t.size - pp) _ g3 0 64 _ 5 fr ys (fun j => mid t K m (pp + j)) (fun j => K (pp + j)) (by have := HX6.out.2.2.2.2.1; omega) (by have := HQ.out; omega) (by omega) W6.drew HX6.out.1.drew (.inl (by have := HLL.out.2; have := HQ.out; omega)) (fun j hj => HX.out.2.2.1 (pp + j) (by have := HQ.out; omega)) (fun j => mid_lt t K HKL.out m _) (fun j hj => HBY.out j (by have := HQ.out; omega)) (fun j => HKL.out _)).mono ?_; rintro e w7 ⟨rfl, H7⟩))
      have HY := H7.out
      obtain ⟨ho, zs, hr7, hl7, h17, h27⟩ := HY
      have HNXT := Lib.hid (mid_next t K m (t.size - pp) pp ys zs HM.out.1 (by have := HQ.out; omega) (fun j hj hjj => by have := HQ.out; have := HM.out; omega) HX.out.2.2.1 h17 h27)
      have HX7 := Lib.hid (show RowF w7 g2 5 fr zs ∧ zs.length = L0.length ∧ Row w7 g1 52 (c32 ws) ∧ Below w.heap.size w w7 ∧ g2 < w7.heap.size from
        ⟨hr7, hl7.trans HX.out.2.1, (ho.block g1 (by have := HG.out; omega)).trans HX6.out.2.1.drew, HX6.out.2.2.2.1.drew.trans (ho.below (by have := HG.out; omega)), by rw [ho.size]; exact Nat.lt_trans HX6.out.2.2.2.2.1 HX6.out.2.2.2.2.2⟩)
      have c12 := (HX7.out.2.2.1.cell 12).trans HW12C.out
      have f12 := HX7.out.2.2.1.frozen 12
      clear H7 ho hr7 hl7 h17 h27 HX6
      generalize c % 4294967296 = cm at *
      go_wp2
      go_roundw
      case rel =>
        refine ⟨m + 1, q, zs, _, rfl, by go_num, Lib.hid ⟨by have := HM.out; have := HQ.out; omega, by have := HQ.out; omega⟩, Lib.hid ⟨?_, HX7.out.2.1, HNXT.out, ?_, ?_, ?_⟩⟩
        · exact (HX7.out.1.far g1 12 _ (by have := HG.out; omega))
        · have := HX7.out.2.2.1.set 12 (.int .u32 ((cn : Nat) : Int))
          rw [HWNC.out] at this
          rw [show count + (m + 1) = c + 1 by have := HC.out; omega]
          exact this
        · exact HX7.out.2.2.2.1.setCell (show w.heap.size ≤ g1 from HG.out.1) _
        · have := HX7.out.2.2.2.2
          simpa [World.setCell] using this
      case measure => simp [intOf]; have := HQ.out; omega
  have hge : decide ((pp : Int) < (t.size : Int)) = false := decide_eq_false (by omega)
  have kc := run_convert_bytes_back (P := Tryd.prog) wr 22 9 5 ⟨g2, 0, none⟩ cp (xb (bN t) K t.size) Tryd.underlying22 Tryd.underlying5 Tryd.underlying9 (fun j hj => by
    rw [xb_length] at hj
    have hadd : (⟨g2, 0, none⟩ : Addr).add j = ⟨g2, j, none⟩ := by unfold Addr.add; split <;> simp_all
    have h1 := HX.out.2.2.1 j hj
    unfold mid at h1
    rw [if_pos (by have := HM.out; omega)] at h1
    rw [hadd, HX.out.1.cell, h1, xb_at _ _ _ _ hj (bN_lt _ _) (HKL.out _)])
  rw [xb_length] at kc
  go_wp2
  go_ret
  exact ⟨by rw [HRES.out]; rfl, HX.out.2.2.2.2.1⟩

end Go.Proofs.YtcfdnifllehbjaaDoor.ChaXorI