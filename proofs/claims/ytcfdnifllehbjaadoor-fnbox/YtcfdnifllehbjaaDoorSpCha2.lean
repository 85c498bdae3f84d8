/-
  What is proved: the model's block of the stream is the plain one (contract for the walks).
-/
import Derived.Test.YtcfdnifllehbjaaDoorRows
import Derived.Test.YtcfdnifllehbjaaDoorSpCha1
import Derived.Test.YtcfdnifllehbjaaDoorChaBlk
namespace Go.Proofs.YtcfdnifllehbjaaDoor.SpCha2
open Go.ChangeShapes Go.WideShapes Go.ChangeAt Go.RowKit
open Arr (Row)
open Bytes (BV Owns)
open Cha
open ChaBlk (blkT)
set_option linter.unusedVariables false

theorem fa (x : Nat → Nat) (a0 a1 a2 a3 a4 a5 a6 a7 c d0 d1 d2 : Nat) (j : Nat) (h : j < 4) : [x 0, x 1, x 2, x 3, a0, a1, a2, a3, a4, a5, a6, a7, c, d0, d1, d2].getD j 0 = x j := by
  match j, h with
  | 0, _ | 1, _ | 2, _ | 3, _ => rfl
theorem fb (x : Nat → Nat) (a0 a1 a2 a3 c d0 d1 d2 : Nat) (j : Nat) (h : j < 8) : [a0, a1, a2, a3, x 0, x 1, x 2, x 3, x 4, x 5, x 6, x 7, c, d0, d1, d2].getD (4 + j) 0 = x j := by
  match j, h with
  | 0, _ | 1, _ | 2, _ | 3, _ | 4, _ | 5, _ | 6, _ | 7, _ => rfl
theorem fd (x : Nat → Nat) (a0 a1 a2 a3 b0 b1 b2 b3 b4 b5 b6 b7 c : Nat) (j : Nat) (h : j < 3) : [a0, a1, a2, a3, b0, b1, b2, b3, b4, b5, b6, b7, c, x 0, x 1, x 2].getD (13 + j) 0 = x j := by
  match j, h with
  | 0, _ | 1, _ | 2, _ => rfl
theorem fc (a0 a1 a2 a3 b0 b1 b2 b3 b4 b5 b6 b7 c d0 d1 d2 : Nat) : [a0, a1, a2, a3, b0, b1, b2, b3, b4, b5, b6, b7, c, d0, d1, d2].getD 12 0 = c := rfl
theorem first_a (key nonce : ByteArray) (count : Nat) (j : Nat) (h : j < 4) : (first key nonce count).getD j 0 = lw opening j := fa (lw opening) _ _ _ _ _ _ _ _ _ _ _ _ j h
theorem first_b (key nonce : ByteArray) (count : Nat) (j : Nat) (h : j < 8) : (first key nonce count).getD (4 + j) 0 = lw key j := fb (lw key) _ _ _ _ _ _ _ _ j h
theorem first_c (key nonce : ByteArray) (count : Nat) (h : count < 4294967296) : (first key nonce count).getD 12 0 = count :=
  (fc _ _ _ _ _ _ _ _ _ _ _ _ (count % 4294967296) _ _ _).trans (Nat.mod_eq_of_lt h)
theorem first_d (key nonce : ByteArray) (count : Nat) (j : Nat) (h : j < 3) : (first key nonce count).getD (13 + j) 0 = lw nonce j := fd (lw nonce) _ _ _ _ _ _ _ _ _ _ _ _ _ j h
theorem full (V : List Nat) (hV : Ok V) (xs : List Value) (hl : xs.length = 16) (h : ∀ j, j < 16 → xs[j]? = some (.int .i64 ((V.getD j 0 : Nat) : Int))) : xs = c64 V := by
  apply List.ext_getElem?
  intro i
  by_cases hi : i < 16
  · rw [h i hi, c64_at V i (by rw [hV.len]; exact hi)]
  · rw [List.getElem?_eq_none (by omega), List.getElem?_eq_none (by rw [c64_len, hV.len]; omega)]
theorem there_at (w : World) (z : Array Value) (t : TypeId) (n g : Nat) (hg : w.heap.size = g) (h : z.size = n) : (w.alloc (.cells z t)).there g 0 n := by
  subst hg
  exact ChaBlk.there_new w z t n h
theorem store16 (w w2 : World) (z : Array Value) (X : List Nat) (hX : Ok X) (W3 : World) (h : (w2.alloc (.cells z 83)).setCells (w.heap.size + 1) 0 (c64 X).toArray.toList = W3) (hz : z.size = 16) (hr : Row w2 w.heap.size 83 (c64 X)) (hb : Below w.heap.size w w2) (hs : w2.heap.size = w.heap.size + 1) :
    Row W3 w.heap.size 83 (c64 X) ∧ Row W3 (w.heap.size + 1) 83 (c64 X) ∧ Below w.heap.size w W3 ∧ w.heap.size + 2 ≤ W3.heap.size := by
  rw [← h]
  refine ⟨(hr.alloc _).sets_far (by omega) _ _ _, ?_, Arr.below_sets _ (by omega) _ _ _ (hb.alloc hb.size _), by rw [Arr.size_sets]; simp; omega⟩
  have := (Arr.row_new w2 z 83).sets_all (vs := c64 X) (by rw [c64_len, hX.len]; exact hz.symm)
  rw [hs] at this
  exact this



set_option maxRecDepth 100000 in
set_option maxHeartbeats 6400000 in
theorem block (key nonce : ByteArray) (hk : key.size = 32) (hn : nonce.size = 12) (count : Nat) (hc : count ≤ 1100000000) (w : World) :
    Calls Tryd.prog 44 #[.string key, .string nonce, .int .i64 (count : Int)] w fun e' w' => e' = .returned (.string (blkT key nonce count)) ∧ Below w.heap.size w w' := by
  have HK := Lib.hid hk
  have HN := Lib.hid hn
  have HA := Lib.hid (first_a key nonce count)
  have HBB := Lib.hid (first_b key nonce count)
  have HCC := Lib.hid (first_c key nonce count (by omega))
  have HDD := Lib.hid (first_d key nonce count)
  have HFO := Lib.hid (first_ok key nonce count)
  have HO := Lib.hid (show opening.size = 16 from rfl)
  have HOP := Lib.hid (show (⟨#[101, 120, 112, 97, 110, 100, 32, 51, 50, 45, 98, 121, 116, 101, 32, 107]⟩ : ByteArray) = opening from rfl)
  have HRES := Lib.hid (show blkT key nonce count = ⟨(Cha.bytes (first key nonce count) 16).toArray⟩ from rfl)
  generalize blkT key nonce count = RES at *
  generalize first key nonce count = FW at *
  generalize opening = op at *
  clear hk hn
  go_enter Tryd.func44, Tryd.ntmps44
  go_wp2
  generalize hW : w.alloc _ = W
  obtain ⟨z0, hz0, RR⟩ : ∃ z0 : List Value, z0.length = 16 ∧ Row W w.heap.size 83 z0 ∧ Below w.heap.size w W ∧ W.heap.size = w.heap.size + 1 := by
    rw [← hW]
    exact ⟨_, rfl, Arr.row_new w _ _, (Below.refl _ _).alloc (Nat.le_refl _) _, by simp⟩
  clear hW
  have HR := Lib.hid RR
  have Z0 := Lib.hid hz0
  clear RR hz0
  go_loopw [8] (fun i wr => ∃ (k : Nat) (xs : List Value), k ≤ 4 ∧ i = .int .i64 k ∧ Hid (xs.length = 16 ∧ Row wr w.heap.size 83 xs ∧ (∀ j, j < k → xs[j]? = some (.int .i64 ((FW.getD j 0 : Nat) : Int))) ∧ Below w.heap.size w wr ∧ wr.heap.size = w.heap.size + 1)) (fun i _ => 4 - (intOf i).toNat)
  case atStart => exact ⟨0, z0, by omega, rfl, Lib.hid ⟨Z0.out, HR.out.1, fun j h => by omega, HR.out.2.1, HR.out.2.2⟩⟩
  case round =>
  rename_i wr
  obtain ⟨k, xs, hk, rfl, HX⟩ := hrel
  by_cases hlt : k < 4
  · obtain ⟨pp, ep⟩ : ∃ p, 4 * k = p := ⟨_, rfl⟩
    have i0 : (4 : Int) * (k : Int) = (pp : Int) := by omega
    have w0 : IntKind.i64.wrap (pp : Int) = pp := by rw [IntKind.wrap_i64]; omega
    obtain ⟨qq, eq⟩ : ∃ p, k = p := ⟨_, rfl⟩
    have i1 : (k : Int) < 16 := by omega
    have w1 : IntKind.i64.wrap (qq : Int) = qq := by rw [IntKind.wrap_i64]; omega
    have r1 : (qq : Int) < 16 := by omega
    have HV := Lib.hid (show SpCha1.lwAt op pp = FW.getD qq 0 by rw [← ep, ← eq, SpCha1.lwAt_lw, HA.out k hlt])
    have HE := Lib.hid (show 4 * k = pp ∧ k = qq from ⟨ep, eq⟩)
    obtain ⟨v0, c0⟩ : ∃ v, wr.cell? ⟨w.heap.size, qq, none⟩ = some v := ⟨_, (HX.out.2.1.cell qq).trans (List.getElem?_eq_getElem (by have := HX.out.1; omega))⟩
    have f0 := HX.out.2.1.frozen qq
    clear ep
    subst eq
    go_wp2_with fail
    rw [HOP.out]
    refine (SpCha1.word op pp (by have := HO.out; have := HE.out; omega) (by have := HO.out; omega) _).mono ?_
    rw [HV.out]
    rintro e' w1' ⟨rfl, n1, rfl⟩
    go_wp2
    go_roundw
    case rel =>
      obtain ⟨h1, h2, h3, h4, h5⟩ := HX.out
      obtain ⟨e1, e2⟩ := HE.out
      refine ⟨k + 1, xs.set k (.int .i64 ((FW.getD k 0 : Nat) : Int)), by omega, by go_num, Lib.hid ⟨by simp [h1], ?_, fun j hj => ?_, ?_, ?_⟩⟩
      · first | exact (h2.drewN n1).set _ _ | exact (h2.set _ _).drewN n1
      · by_cases e : j = k
        · rw [e, List.getElem?_set_self (by omega)]
        · rw [List.getElem?_set_ne (by omega)]; exact h3 j (by omega)
      · first | exact (below_drewN h4 n1).setCell (by exact Nat.le_refl _) _ | exact below_drewN (h4.setCell (by exact Nat.le_refl _) _) n1
      · first | (simpa using h5) | (simp [World.setCell]; exact h5)
    case measure => simp [intOf]; omega
  have hge : decide ((k : Int) < 4) = false := decide_eq_false (by omega)
  have HKL := Lib.hid (show k = 4 by omega)
  clear hlt hk
  have HX1 := Lib.hid (show xs.length = 16 ∧ Row wr w.heap.size 83 xs ∧ (∀ j, j < 4 → xs[j]? = some (.int .i64 ((FW.getD j 0 : Nat) : Int))) ∧ Below w.heap.size w wr ∧ wr.heap.size = w.heap.size + 1 by have := HX.out; rw [HKL.out] at this; exact this)
  clear HX HR HKL
  go_wp2
  clear hge
  go_loopw [9] (fun i wr => ∃ (k : Nat) (xs : List Value), k ≤ 8 ∧ i = .int .i64 k ∧ Hid (xs.length = 16 ∧ Row wr w.heap.size 83 xs ∧ (∀ j, j < 4 + k → xs[j]? = some (.int .i64 ((FW.getD j 0 : Nat) : Int))) ∧ Below w.heap.size w wr ∧ wr.heap.size = w.heap.size + 1)) (fun i _ => 8 - (intOf i).toNat)
  case atStart => exact ⟨0, xs, by omega, rfl, Lib.hid ⟨HX1.out.1, HX1.out.2.1, fun j h => HX1.out.2.2.1 j (by omega), HX1.out.2.2.2⟩⟩
  case round =>
  rename_i wr
  obtain ⟨k, xs, hk, rfl, HX⟩ := hrel
  by_cases hlt : k < 8
  · obtain ⟨pp, ep⟩ : ∃ p, 4 * k = p := ⟨_, rfl⟩
    have i0 : (4 : Int) * (k : Int) = (pp : Int) := by omega
    have w0 : IntKind.i64.wrap (pp : Int) = pp := by rw [IntKind.wrap_i64]; omega
    obtain ⟨qq, eq⟩ : ∃ p, 4 + k = p := ⟨_, rfl⟩
    have i1 : (4 : Int) + (k : Int) = (qq : Int) := by omega
    have w1 : IntKind.i64.wrap (qq : Int) = qq := by rw [IntKind.wrap_i64]; omega
    have r1 : (qq : Int) < 16 := by omega
    have HV := Lib.hid (show SpCha1.lwAt key pp = FW.getD qq 0 by rw [← ep, ← eq, SpCha1.lwAt_lw, HBB.out k hlt])
    have HE := Lib.hid (show 4 * k = pp ∧ 4 + k = qq from ⟨ep, eq⟩)
    obtain ⟨v0, c0⟩ : ∃ v, wr.cell? ⟨w.heap.size, qq, none⟩ = some v := ⟨_, (HX.out.2.1.cell qq).trans (List.getElem?_eq_getElem (by have := HX.out.1; omega))⟩
    have f0 := HX.out.2.1.frozen qq
    clear ep
    clear eq
    go_wp2_with fail
    skip
    refine (SpCha1.word key pp (by have := HK.out; have := HE.out; omega) (by have := HK.out; omega) _).mono ?_
    rw [HV.out]
    rintro e' w1' ⟨rfl, n1, rfl⟩
    go_wp2
    go_roundw
    case rel =>
      obtain ⟨h1, h2, h3, h4, h5⟩ := HX.out
      obtain ⟨e1, e2⟩ := HE.out
      refine ⟨k + 1, xs.set qq (.int .i64 ((FW.getD qq 0 : Nat) : Int)), by omega, by go_num, Lib.hid ⟨by simp [h1], ?_, fun j hj => ?_, ?_, ?_⟩⟩
      · first | exact (h2.drewN n1).set _ _ | exact (h2.set _ _).drewN n1
      · by_cases e : j = qq
        · rw [e, List.getElem?_set_self (by omega)]
        · rw [List.getElem?_set_ne (by omega)]; exact h3 j (by omega)
      · first | exact (below_drewN h4 n1).setCell (by exact Nat.le_refl _) _ | exact below_drewN (h4.setCell (by exact Nat.le_refl _) _) n1
      · first | (simpa using h5) | (simp [World.setCell]; exact h5)
    case measure => simp [intOf]; omega
  have hge : decide ((k : Int) < 8) = false := decide_eq_false (by omega)
  have HKL := Lib.hid (show k = 8 by omega)
  clear hlt hk
  obtain ⟨v12, c12⟩ : ∃ v, wr.cell? ⟨w.heap.size, 12, none⟩ = some v := ⟨_, (HX.out.2.1.cell 12).trans (List.getElem?_eq_getElem (by have := HX.out.1; omega))⟩
  have f12 := HX.out.2.1.frozen 12
  go_wp2
  clear hge
  generalize hW5 : World.setCell _ _ _ = W5
  have HX5 := Lib.hid (show (xs.set 12 (.int .i64 (count : Int))).length = 16 ∧ Row W5 w.heap.size 83 (xs.set 12 (.int .i64 (count : Int))) ∧ (∀ j, j < 13 → (xs.set 12 (.int .i64 (count : Int)))[j]? = some (.int .i64 ((FW.getD j 0 : Nat) : Int))) ∧ Below w.heap.size w W5 ∧ W5.heap.size = w.heap.size + 1 by
    obtain ⟨h1, h2, h3, h4, h5⟩ := HX.out
    rw [← hW5]
    refine ⟨by simp [h1], h2.set _ _, fun j hj => ?_, h4.setCell (by exact Nat.le_refl _) _, by simp [World.setCell]; exact h5⟩
    by_cases e : j = 12
    · rw [e, List.getElem?_set_self (by omega), HCC.out]
    · rw [List.getElem?_set_ne (by omega)]; exact h3 j (by have := HKL.out; omega))
  clear hW5 HX c12 f12 HKL
  generalize xs.set 12 (.int .i64 (count : Int)) = us at *
  go_loopw [10] (fun i wr => ∃ (k : Nat) (xs : List Value), k ≤ 3 ∧ i = .int .i64 k ∧ Hid (xs.length = 16 ∧ Row wr w.heap.size 83 xs ∧ (∀ j, j < 13 + k → xs[j]? = some (.int .i64 ((FW.getD j 0 : Nat) : Int))) ∧ Below w.heap.size w wr ∧ wr.heap.size = w.heap.size + 1)) (fun i _ => 3 - (intOf i).toNat)
  case atStart => exact ⟨0, us, by omega, rfl, Lib.hid ⟨HX5.out.1, HX5.out.2.1, fun j h => HX5.out.2.2.1 j (by omega), HX5.out.2.2.2⟩⟩
  case round =>
  rename_i wr
  obtain ⟨k, xs, hk, rfl, HX⟩ := hrel
  by_cases hlt : k < 3
  · obtain ⟨pp, ep⟩ : ∃ p, 4 * k = p := ⟨_, rfl⟩
    have i0 : (4 : Int) * (k : Int) = (pp : Int) := by omega
    have w0 : IntKind.i64.wrap (pp : Int) = pp := by rw [IntKind.wrap_i64]; omega
    obtain ⟨qq, eq⟩ : ∃ p, 13 + k = p := ⟨_, rfl⟩
    have i1 : (13 : Int) + (k : Int) = (qq : Int) := by omega
    have w1 : IntKind.i64.wrap (qq : Int) = qq := by rw [IntKind.wrap_i64]; omega
    have r1 : (qq : Int) < 16 := by omega
    have HV := Lib.hid (show SpCha1.lwAt nonce pp = FW.getD qq 0 by rw [← ep, ← eq, SpCha1.lwAt_lw, HDD.out k hlt])
    have HE := Lib.hid (show 4 * k = pp ∧ 13 + k = qq from ⟨ep, eq⟩)
    obtain ⟨v0, c0⟩ : ∃ v, wr.cell? ⟨w.heap.size, qq, none⟩ = some v := ⟨_, (HX.out.2.1.cell qq).trans (List.getElem?_eq_getElem (by have := HX.out.1; omega))⟩
    have f0 := HX.out.2.1.frozen qq
    clear ep
    clear eq
    go_wp2_with fail
    skip
    refine (SpCha1.word nonce pp (by have := HN.out; have := HE.out; omega) (by have := HN.out; omega) _).mono ?_
    rw [HV.out]
    rintro e' w1' ⟨rfl, n1, rfl⟩
    go_wp2
    go_roundw
    case rel =>
      obtain ⟨h1, h2, h3, h4, h5⟩ := HX.out
      obtain ⟨e1, e2⟩ := HE.out
      refine ⟨k + 1, xs.set qq (.int .i64 ((FW.getD qq 0 : Nat) : Int)), by omega, by go_num, Lib.hid ⟨by simp [h1], ?_, fun j hj => ?_, ?_, ?_⟩⟩
      · first | exact (h2.drewN n1).set _ _ | exact (h2.set _ _).drewN n1
      · by_cases e : j = qq
        · rw [e, List.getElem?_set_self (by omega)]
        · rw [List.getElem?_set_ne (by omega)]; exact h3 j (by omega)
      · first | exact (below_drewN h4 n1).setCell (by exact Nat.le_refl _) _ | exact below_drewN (h4.setCell (by exact Nat.le_refl _) _) n1
      · first | (simpa using h5) | (simp [World.setCell]; exact h5)
    case measure => simp [intOf]; omega
  have hge : decide ((k : Int) < 3) = false := decide_eq_false (by omega)
  have HKL := Lib.hid (show k = 3 by omega)
  clear hlt hk
  have hxs := full FW HFO.out xs HX.out.1 (fun j hj => HX.out.2.2.1 j (by have := HKL.out; omega))
  have HX6 := Lib.hid (show Row wr w.heap.size 83 (c64 FW) ∧ Below w.heap.size w wr ∧ wr.heap.size = w.heap.size + 1 from ⟨by rw [← hxs]; exact HX.out.2.1, HX.out.2.2.2⟩)
  clear hxs HX HX1 HX5
  have HI := Lib.hid (infoIV HFO.out)
  have H1 := Lib.hid (c64_one FW)
  have HSZ := Lib.hid (show (c64 FW).toArray.size = 16 by rw [List.size_toArray, c64_len, HFO.out.len])
  have hws := HX6.out.2.2
  have HFACT := Lib.hid (fun (z : Array Value) (W3 : World) (h : (wr.alloc (.cells z 83)).setCells (w.heap.size + 1) 0 (c64 FW).toArray.toList = W3) (hz : z.size = 16) => store16 w wr z FW HFO.out W3 h hz HX6.out.1 HX6.out.2.1 HX6.out.2.2)
  go_wp2_with (first
    | ((with_reducible show wpList _ _ _ _ _ _); refine wpList_load_row rfl 83 _ rfl w.heap.size rfl 83 _ (0, 0) _ HX6.out.1 Tryd.underlying83 rfl HI.out ?_)
    | ((with_reducible show wpList _ _ _ _ _ _); refine wpList_store_mid rfl 83 _ _ rfl (w.heap.size + 1) 0 (c64 FW).toArray rfl rfl (there_at _ _ _ _ _ HX6.out.2.2 (by rw [HSZ.out]; rfl)) HI.out H1.out ?_; generalize hW3 : World.setCells _ _ _ _ = W3; have HF3 := Lib.hid (HFACT.out _ W3 hW3 (by rfl)); clear hW3))
  clear hge HX6 HFACT HI H1 HSZ hws HK HN HA HBB HCC HDD HO HOP HKL
  clear hc

  have HMO := Lib.hid (fun k => mixN_ok HFO.out k)
  have HM0 := Lib.hid (ChaMix.mixN_zero FW)
  have HMS := Lib.hid (ChaMix.mixN_succ FW)
  have HMX := Lib.hid (show mix FW = mixN FW 10 from rfl)
  have HBS := Lib.hid (Cha.bytes_succ FW)
  have HB0 := Lib.hid (show Cha.bytes FW 0 = [] from rfl)
  have HBL := Lib.hid (Cha.bytes_length FW)
  have HFIN := Lib.hid (show ∀ i, fin FW i = ((mix FW).getD i 0 + FW.getD i 0) % 4294967296 from fun _ => rfl)
  have HFL := Lib.hid (fin_lt FW)
  generalize mixN FW = F at *
  generalize mix FW = M at *
  generalize Cha.bytes FW = By at *
  generalize fin FW = Fi at *
  go_loopw [12] (fun i wr => ∃ k : Nat, k ≤ 10 ∧ i = .int .i64 k ∧ Hid (Row wr w.heap.size 83 (c64 FW) ∧ Row wr (w.heap.size + 1) 83 (c64 (F k)) ∧ Below w.heap.size w wr ∧ w.heap.size + 2 ≤ wr.heap.size)) (fun i _ => 10 - (intOf i).toNat)
  case atStart => exact ⟨0, by omega, rfl, Lib.hid (by rw [HM0.out]; exact HF3.out)⟩
  case round =>
  rename_i wr
  clear HF3
  obtain ⟨k, hk, rfl, HX⟩ := hrel
  by_cases hlt : k < 10
  · have hlt10 : decide ((k : Int) < 10) = true := decide_eq_true (by omega)
    have HKO := HMO.out k
    have HNXT := Lib.hid (HMS.out k)
    generalize F k = X0 at *
    have HG0O := Lib.hid (fun j => runS_ok 0 HKO j)
    have HG0S := Lib.hid (runS_succ 0 X0)
    have HG0Z := Lib.hid (runS_zero 0 X0)
    have HS0 := Lib.hid (show slant 0 X0 = runS 0 X0 4 from rfl)
    have HS1O := Lib.hid (slant_ok 0 HKO)
    rw [HS0.out] at HNXT HS1O
    generalize runS 0 X0 = G0 at *
    clear HKO HS0
    go_wp2
    clear hlt10
    go_loopw [13] (fun i wr => ∃ j : Nat, j ≤ 4 ∧ i = .int .i64 j ∧ Hid (Row wr w.heap.size 83 (c64 FW) ∧ Row wr (w.heap.size + 1) 83 (c64 (G0 j)) ∧ Below w.heap.size w wr ∧ w.heap.size + 2 ≤ wr.heap.size)) (fun i _ => 4 - (intOf i).toNat)
    case atStart => exact ⟨0, by omega, rfl, Lib.hid (by rw [HG0Z.out]; exact HX.out)⟩
    case round =>
    rename_i wr
    obtain ⟨j, hj, rfl, HY⟩ := hrel
    by_cases hlt : j < 4
    · have HOKJ := Lib.hid (HG0O.out j)
      have HNX := Lib.hid (HG0S.out j)
      obtain ⟨bi, ebi⟩ : ∃ b : Nat, 4 + (j + 0) % 4 = b := ⟨_, rfl⟩
      obtain ⟨ci, eci⟩ : ∃ b : Nat, 8 + (j + 2 * 0) % 4 = b := ⟨_, rfl⟩
      obtain ⟨di, edi⟩ : ∃ b : Nat, 12 + (j + 3 * 0) % 4 = b := ⟨_, rfl⟩
      rw [ebi, eci, edi] at HNX
      have EB : (4 : Int) + (j : Int) = (bi : Int) := by omega
      have EC : (8 : Int) + (j : Int) = (ci : Int) := by omega
      have ED : (12 : Int) + (j : Int) = (di : Int) := by omega
      have hbi : 4 ≤ bi ∧ bi < 8 := by omega
      have hci : 8 ≤ ci ∧ ci < 12 := by omega
      have hdi : 12 ≤ di ∧ di < 16 := by omega
      have HBD := Lib.hid (And.intro hbi (And.intro hci hdi))
      have wb : IntKind.i64.wrap (bi : Int) = bi := by rw [IntKind.wrap_i64]; omega
      have wc : IntKind.i64.wrap (ci : Int) = ci := by rw [IntKind.wrap_i64]; omega
      have wd : IntKind.i64.wrap (di : Int) = di := by rw [IntKind.wrap_i64]; omega
      have j0 : (0 : Int) ≤ (j : Int) := by omega
      have j4 : (j : Int) < 4 := by omega
      clear ebi eci edi hbi hci hdi
      have HRR := Lib.hid HY.out.2.1
      generalize G0 j = X at *
      have HI0 := Lib.hid (infoIV HOKJ.out)
      go_wp2_with (((with_reducible show wpList _ _ _ _ _ _); refine wpList_load_row rfl 83 _ rfl (w.heap.size + 1) rfl 83 _ (0, 0) _ HRR.out Tryd.underlying83 rfl HI0.out ?_))
      refine (SpCha1.round X HOKJ.out j bi ci di (by omega) HBD.out.1 HBD.out.2.1 HBD.out.2.2 _).mono ?_
      rintro e' w1 ⟨rfl, hb⟩
      have HOKN := Lib.hid (step_ok HOKJ.out j bi ci di)
      rw [← HNX.out] at HOKN ⊢
      generalize hX1 : G0 (j + 1) = X1 at *
      have HX1E := Lib.hid hX1
      clear hX1
      have HI1 := Lib.hid (infoIV HOKN.out)
      have H11 := Lib.hid (c64_one X1)
      have HR1 := Lib.hid (show Row w1 w.heap.size 83 (c64 FW) ∧ Row w1 (w.heap.size + 1) 83 (c64 X) ∧ Below w.heap.size w w1 ∧ w.heap.size + 2 ≤ w1.heap.size from
        ⟨HY.out.1.below hb (by have := HY.out.2.2.2; omega), HY.out.2.1.below hb (by have := HY.out.2.2.2; omega), HY.out.2.2.1.trans (hb.mono (by have := HY.out.2.2.2; omega)), Nat.le_trans HY.out.2.2.2 hb.size⟩)
      have HT1 := Lib.hid (show w1.there (w.heap.size + 1) 0 (c64 X1).toArray.size by have := HR1.out.2.1.there; rw [c64_len, HOKJ.out.len] at this; rw [show (c64 X1).toArray.size = 16 by rw [List.size_toArray, c64_len, HOKN.out.len]]; exact this)
      have HS1 := Lib.hid (show Row (w1.setCells (w.heap.size + 1) 0 (c64 X1)) w.heap.size 83 (c64 FW) ∧ Row (w1.setCells (w.heap.size + 1) 0 (c64 X1)) (w.heap.size + 1) 83 (c64 X1) ∧ Below w.heap.size w (w1.setCells (w.heap.size + 1) 0 (c64 X1)) ∧ w.heap.size + 2 ≤ (w1.setCells (w.heap.size + 1) 0 (c64 X1)).heap.size from
        ⟨HR1.out.1.sets_far (by omega) _ _ _, HR1.out.2.1.sets_all (by rw [c64_len, c64_len, HOKN.out.len, HOKJ.out.len]), Arr.below_sets _ (by omega) _ _ _ HR1.out.2.2.1, by rw [Arr.size_sets]; exact HR1.out.2.2.2⟩)
      clear hb HY HRR HR1
      go_wp2_with (((with_reducible show wpList _ _ _ _ _ _); refine wpList_store_mid rfl 83 _ _ rfl (w.heap.size + 1) 0 (c64 X1).toArray rfl rfl HT1.out HI1.out H11.out ?_; simp only []))
      generalize w1.setCells (w.heap.size + 1) 0 (c64 X1) = W4 at *
      go_wp2
      go_roundw
      case rel => exact ⟨j + 1, by omega, by go_num, Lib.hid (by rw [HX1E.out]; exact HS1.out)⟩
      case measure => simp [intOf]; omega
    have hge0 : decide ((j : Int) < 4) = false := decide_eq_false (by omega)
    have HJ0 := Lib.hid (show Row wr w.heap.size 83 (c64 FW) ∧ Row wr (w.heap.size + 1) 83 (c64 (G0 4)) ∧ Below w.heap.size w wr ∧ w.heap.size + 2 ≤ wr.heap.size by
      obtain rfl : j = 4 := by omega
      exact HY.out)
    clear hlt hj HY
    go_wp2
    clear hge0
    clear HX
    generalize G0 4 = Y0 at *
    have HG1O := Lib.hid (fun j => runS_ok 1 HS1O.out j)
    have HG1S := Lib.hid (runS_succ 1 Y0)
    have HG1Z := Lib.hid (runS_zero 1 Y0)
    have HS1 := Lib.hid (show slant 1 Y0 = runS 1 Y0 4 from rfl)
    rw [HS1.out] at HNXT
    generalize runS 1 Y0 = G1 at *
    clear HS1 HG0O HG0S HG0Z
    go_loopw [14] (fun i wr => ∃ j : Nat, j ≤ 4 ∧ i = .int .i64 j ∧ Hid (Row wr w.heap.size 83 (c64 FW) ∧ Row wr (w.heap.size + 1) 83 (c64 (G1 j)) ∧ Below w.heap.size w wr ∧ w.heap.size + 2 ≤ wr.heap.size)) (fun i _ => 4 - (intOf i).toNat)
    case atStart => exact ⟨0, by omega, rfl, Lib.hid (by rw [HG1Z.out]; exact HJ0.out)⟩
    case round =>
    rename_i wr
    obtain ⟨j, hj, rfl, HY⟩ := hrel
    by_cases hlt : j < 4
    · have HOKJ := Lib.hid (HG1O.out j)
      have HNX := Lib.hid (HG1S.out j)
      obtain ⟨bi, ebi⟩ : ∃ b : Nat, 4 + (j + 1) % 4 = b := ⟨_, rfl⟩
      obtain ⟨ci, eci⟩ : ∃ b : Nat, 8 + (j + 2 * 1) % 4 = b := ⟨_, rfl⟩
      obtain ⟨di, edi⟩ : ∃ b : Nat, 12 + (j + 3 * 1) % 4 = b := ⟨_, rfl⟩
      rw [ebi, eci, edi] at HNX
      have EB : (4 : Int) + ((j : Int) + 1) % 4 = (bi : Int) := by omega
      have EC : (8 : Int) + ((j : Int) + 2) % 4 = (ci : Int) := by omega
      have ED : (12 : Int) + ((j : Int) + 3) % 4 = (di : Int) := by omega
      have hbi : 4 ≤ bi ∧ bi < 8 := by omega
      have hci : 8 ≤ ci ∧ ci < 12 := by omega
      have hdi : 12 ≤ di ∧ di < 16 := by omega
      have HBD := Lib.hid (And.intro hbi (And.intro hci hdi))
      have wb : IntKind.i64.wrap (bi : Int) = bi := by rw [IntKind.wrap_i64]; omega
      have wc : IntKind.i64.wrap (ci : Int) = ci := by rw [IntKind.wrap_i64]; omega
      have wd : IntKind.i64.wrap (di : Int) = di := by rw [IntKind.wrap_i64]; omega
      have j0 : (0 : Int) ≤ (j : Int) := by omega
      have j4 : (j : Int) < 4 := by omega
      clear ebi eci edi hbi hci hdi
      have HRR := Lib.hid HY.out.2.1
      generalize G1 j = X at *
      have HI0 := Lib.hid (infoIV HOKJ.out)
      go_wp2_with (((with_reducible show wpList _ _ _ _ _ _); refine wpList_load_row rfl 83 _ rfl (w.heap.size + 1) rfl 83 _ (0, 0) _ HRR.out Tryd.underlying83 rfl HI0.out ?_))
      refine (SpCha1.round X HOKJ.out j bi ci di (by omega) HBD.out.1 HBD.out.2.1 HBD.out.2.2 _).mono ?_
      rintro e' w1 ⟨rfl, hb⟩
      have HOKN := Lib.hid (step_ok HOKJ.out j bi ci di)
      rw [← HNX.out] at HOKN ⊢
      generalize hX1 : G1 (j + 1) = X1 at *
      have HX1E := Lib.hid hX1
      clear hX1
      have HI1 := Lib.hid (infoIV HOKN.out)
      have H11 := Lib.hid (c64_one X1)
      have HR1 := Lib.hid (show Row w1 w.heap.size 83 (c64 FW) ∧ Row w1 (w.heap.size + 1) 83 (c64 X) ∧ Below w.heap.size w w1 ∧ w.heap.size + 2 ≤ w1.heap.size from
        ⟨HY.out.1.below hb (by have := HY.out.2.2.2; omega), HY.out.2.1.below hb (by have := HY.out.2.2.2; omega), HY.out.2.2.1.trans (hb.mono (by have := HY.out.2.2.2; omega)), Nat.le_trans HY.out.2.2.2 hb.size⟩)
      have HT1 := Lib.hid (show w1.there (w.heap.size + 1) 0 (c64 X1).toArray.size by have := HR1.out.2.1.there; rw [c64_len, HOKJ.out.len] at this; rw [show (c64 X1).toArray.size = 16 by rw [List.size_toArray, c64_len, HOKN.out.len]]; exact this)
      have HS1 := Lib.hid (show Row (w1.setCells (w.heap.size + 1) 0 (c64 X1)) w.heap.size 83 (c64 FW) ∧ Row (w1.setCells (w.heap.size + 1) 0 (c64 X1)) (w.heap.size + 1) 83 (c64 X1) ∧ Below w.heap.size w (w1.setCells (w.heap.size + 1) 0 (c64 X1)) ∧ w.heap.size + 2 ≤ (w1.setCells (w.heap.size + 1) 0 (c64 X1)).heap.size from
        ⟨HR1.out.1.sets_far (by omega) _ _ _, HR1.out.2.1.sets_all (by rw [c64_len, c64_len, HOKN.out.len, HOKJ.out.len]), Arr.below_sets _ (by omega) _ _ _ HR1.out.2.2.1, by rw [Arr.size_sets]; exact HR1.out.2.2.2⟩)
      clear hb HY HRR HR1
      go_wp2_with (((with_reducible show wpList _ _ _ _ _ _); refine wpList_store_mid rfl 83 _ _ rfl (w.heap.size + 1) 0 (c64 X1).toArray rfl rfl HT1.out HI1.out H11.out ?_; simp only []))
      generalize w1.setCells (w.heap.size + 1) 0 (c64 X1) = W4 at *
      go_wp2
      go_roundw
      case rel => exact ⟨j + 1, by omega, by go_num, Lib.hid (by rw [HX1E.out]; exact HS1.out)⟩
      case measure => simp [intOf]; omega
    have hge1 : decide ((j : Int) < 4) = false := decide_eq_false (by omega)
    have HJ1 := Lib.hid (show Row wr w.heap.size 83 (c64 FW) ∧ Row wr (w.heap.size + 1) 83 (c64 (G1 4)) ∧ Below w.heap.size w wr ∧ w.heap.size + 2 ≤ wr.heap.size by
      obtain rfl : j = 4 := by omega
      exact HY.out)
    clear hlt hj HY
    go_wp2
    clear hge1
    go_roundw
    case rel => exact ⟨k + 1, by omega, by go_num, Lib.hid (by rw [HNXT.out]; exact HJ1.out)⟩
    case measure => simp [intOf]; omega
  have hge : decide ((k : Int) < 10) = false := decide_eq_false (by omega)
  have HJ := Lib.hid (show Row wr w.heap.size 83 (c64 FW) ∧ Row wr (w.heap.size + 1) 83 (c64 M) ∧ Below w.heap.size w wr ∧ w.heap.size + 2 ≤ wr.heap.size by
    obtain rfl : k = 10 := by omega
    rw [HMX.out]
    exact HX.out)
  have HMOK := Lib.hid (show Ok M by rw [HMX.out]; exact HMO.out 10)
  clear hlt hk HX HMO HM0 HMS HMX
  go_wp2
  clear hge
  obtain ⟨B0, hB0⟩ : ∃ B, wr.heap.size = B := ⟨_, rfl⟩
  have HBX := Lib.hid (show w.heap.size + 2 ≤ B0 by have := HJ.out.2.2.2; omega)
  have HBE := Lib.hid hB0
  clear hB0
  go_loopw [15, 16] (fun v i wz => ∃ (k : Nat) (wq : World), wq = wz ∧ k ≤ 16 ∧ i = .int .i64 k ∧ Hid (Owns wq B0 v (By k)) ∧ Hid (Row wq w.heap.size 83 (c64 FW) ∧ Row wq (w.heap.size + 1) 83 (c64 M) ∧ Below w.heap.size w wq ∧ B0 ≤ wq.heap.size)) (fun _ i _ => 16 - (intOf i).toNat)
  case atStart => exact ⟨0, _, rfl, by omega, rfl, Lib.hid (by rw [HB0.out]; exact Bytes.owns_made wr B0 0 #[] (by have := HBE.out; omega) (by unfold maxLen; omega) rfl), Lib.hid ⟨HJ.out.1.alloc _, HJ.out.2.1.alloc _, HJ.out.2.2.1.alloc (by have := HJ.out.2.2.2; omega) _, by have := HBE.out; simp; omega⟩⟩
  case round =>
  clear HJ
  obtain ⟨k, wq, rfl, hk, rfl, R, HX⟩ := hrel
  by_cases hlt : k < 16
  · have cm := HX.out.2.1.cell k
    rw [c64_at M k (by rw [HMOK.out.len]; exact hlt)] at cm
    have cf := HX.out.1.cell k
    rw [c64_at FW k (by rw [HFO.out.len]; exact hlt)] at cf
    have lm := HMOK.out.getD k
    have lf := HFO.out.getD k
    have HF := Lib.hid (HFIN.out k)
    have HBK := Lib.hid (HBS.out k)
    have HLK := Lib.hid (HBL.out k)
    generalize M.getD k 0 = m at *
    generalize FW.getD k 0 = f at *
    have q0 : ∀ k', (World.mk wq.heap wq.tape k' wq.os wq.output).cell? ⟨w.heap.size + 1, k, none⟩ = some (.int .i64 (m : Int)) := fun _ => cm
    have q1 : ∀ k', (World.mk wq.heap wq.tape k' wq.os wq.output).cell? ⟨w.heap.size, k, none⟩ = some (.int .i64 (f : Int)) := fun _ => cf
    have k16 : (k : Int) < 16 := by omega
    have k0 : (0 : Int) ≤ (k : Int) := by omega
    have HLM := Lib.hid (And.intro lm lf)
    go_wp2
    go_still_tail 9, (by kernel_rfl)
    clear q0 q1 cm cf
    change wpList _ _ _ _ _ wq.drew
    go_wp2_with fail
    rw [Quarter.addM m f lm lf]
    have HAD := Lib.hid (show Quarter.add m f = Fi k by rw [HF.out]; rfl)
    refine (SpCha1.bytes4 B0 _ (By k) (by rw [HLK.out]; omega) (Quarter.add m f) (Quarter.add_lt _ _) wq.drew HX.out.2.2.2 R.out).mono ?_
    rintro e' w1 ⟨v', rfl, H⟩
    have HN1 := Lib.hid (show Owns w1 B0 v' (By (k + 1)) by rw [HBK.out, ← HAD.out]; exact H.out.1)
    have HN2 := Lib.hid (show Row w1 w.heap.size 83 (c64 FW) ∧ Row w1 (w.heap.size + 1) 83 (c64 M) ∧ Below w.heap.size w w1 ∧ B0 ≤ w1.heap.size from
      ⟨Row.below HX.out.1.drew H.out.2 (by have := HBX.out; omega), Row.below HX.out.2.1.drew H.out.2 (by have := HBX.out; omega), HX.out.2.2.1.drew.trans (H.out.2.mono (by have := HBX.out; omega)), Nat.le_trans HX.out.2.2.2 H.out.2.size⟩)
    clear H
    go_wp2
    go_roundw
    case rel => exact ⟨k + 1, _, rfl, by omega, by go_num, HN1, HN2⟩
    case measure => simp [intOf]; omega
  have hge : decide ((k : Int) < 16) = false := decide_eq_false (by omega)
  have hconv := (show Owns wq B0 _ (By 16) by
    obtain rfl : k = 16 := by omega
    exact R.out).string
  go_wp2
  go_ret
  exact ⟨by rw [HRES.out]; rfl, HX.out.2.2.1⟩
end Go.Proofs.YtcfdnifllehbjaaDoor.SpCha2