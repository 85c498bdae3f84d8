/-
  What is proved: the model's block of the stream is the plain one (contract for the walks).
  What is proved: the model's call of a block answers what the program's does; the law on them returns true (the walk).
  What is proved: the model's xoring with the stream is the plain one (contract for the walks).
  What is proved: the program's xoring with the stream is the plain one (contract for the walks).
-/
import Derived.Test.YtggobhpjfflooaaGreatDoorRows
import Derived.Test.YtggobhpjfflooaaGreatDoorSpCha1
import Derived.Test.YtggobhpjfflooaaGreatDoorStreamA
import Derived.Test.YtggobhpjfflooaaGreatDoorKitA
namespace Go.Proofs.YtggobhpjfflooaaGreatDoor.SpCha2
open Go.ChangeShapes Go.WideShapes Go.ChangeAt Go.RowKit
open Arr (Row)
open Bytes (BV Owns)
open Cha
open ChaBlk (blkT)
set_option linter.unusedVariables false

theorem fa (x : Nat → Nat) (a0 a1 a2 a3 a4 a5 a6 a7 c d0 d1 d2 : Nat) (j : Nat) (h : j < 4) : [x 0, x 1, x 2, x 3, a0, a1, a2, a3, a4, a5, a6, a7, c, d0, d1, d2].getD j 0 = x j := by
  match j, h with
  | 0, _ | 1, _ | 2, _ | 3, _ => rfl
theorem fb (x : Nat → Nat) (a0 a1 a2 a3 c d0 d1 d2 : Nat) (j : Nat) (h : j < 8) : [a0, a1, a2, a3, x 0, x 1, x 2, x 3, x 4, x 5, x 6, x 7, c, d0, d1, d2].getD (4 + j) 0 = x j := by
  match j, h with
  | 0, _ | 1, _ | 2, _ | 3, _ | 4, _ | 5, _ | 6, _ | 7, _ => rfl
theorem fd (x : Nat → Nat) (a0 a1 a2 a3 b0 b1 b2 b3 b4 b5 b6 b7 c : Nat) (j : Nat) (h : j < 3) : [a0, a1, a2, a3, b0, b1, b2, b3, b4, b5, b6, b7, c, x 0, x 1, x 2].getD (13 + j) 0 = x j := by
  match j, h with
  | 0, _ | 1, _ | 2, _ => rfl
theorem fc (a0 a1 a2 a3 b0 b1 b2 b3 b4 b5 b6 b7 c d0 d1 d2 : Nat) : [a0, a1, a2, a3, b0, b1, b2, b3, b4, b5, b6, b7, c, d0, d1, d2].getD 12 0 = c := rfl
theorem first_a (key nonce : ByteArray) (count : Nat) (j : Nat) (h : j < 4) : (first key nonce count).getD j 0 = lw opening j := fa (lw opening) _ _ _ _ _ _ _ _ _ _ _ _ j h
theorem first_b (key nonce : ByteArray) (count : Nat) (j : Nat) (h : j < 8) : (first key nonce count).getD (4 + j) 0 = lw key j := fb (lw key) _ _ _ _ _ _ _ _ j h
theorem first_c (key nonce : ByteArray) (count : Nat) (h : count < 4294967296) : (first key nonce count).getD 12 0 = count :=
  (fc _ _ _ _ _ _ _ _ _ _ _ _ (count % 4294967296) _ _ _).trans (Nat.mod_eq_of_lt h)
theorem first_d (key nonce : ByteArray) (count : Nat) (j : Nat) (h : j < 3) : (first key nonce count).getD (13 + j) 0 = lw nonce j := fd (lw nonce) _ _ _ _ _ _ _ _ _ _ _ _ _ j h
theorem full (V : List Nat) (hV : Ok V) (xs : List Value) (hl : xs.length = 16) (h : ∀ j, j < 16 → xs[j]? = some (.int .i64 ((V.getD j 0 : Nat) : Int))) : xs = c64 V := by
  apply List.ext_getElem?
  intro i
  by_cases hi : i < 16
  · rw [h i hi, c64_at V i (by rw [hV.len]; exact hi)]
  · rw [List.getElem?_eq_none (by omega), List.getElem?_eq_none (by rw [c64_len, hV.len]; omega)]
theorem there_at (w : World) (z : Array Value) (t : TypeId) (n g : Nat) (hg : w.heap.size = g) (h : z.size = n) : (w.alloc (.cells z t)).there g 0 n := by
  subst hg
  exact ChaBlk.there_new w z t n h
theorem store16 (w w2 : World) (z : Array Value) (X : List Nat) (hX : Ok X) (W3 : World) (h : (w2.alloc (.cells z 138)).setCells (w.heap.size + 1) 0 (c64 X).toArray.toList = W3) (hz : z.size = 16) (hr : Row w2 w.heap.size 138 (c64 X)) (hb : Below w.heap.size w w2) (hs : w2.heap.size = w.heap.size + 1) :
    Row W3 w.heap.size 138 (c64 X) ∧ Row W3 (w.heap.size + 1) 138 (c64 X) ∧ Below w.heap.size w W3 ∧ w.heap.size + 2 ≤ W3.heap.size := by
  rw [← h]
  refine ⟨(hr.alloc _).sets_far (by omega) _ _ _, ?_, Arr.below_sets _ (by omega) _ _ _ (hb.alloc hb.size _), by rw [Arr.size_sets]; simp; omega⟩
  have := (Arr.row_new w2 z 138).sets_all (vs := c64 X) (by rw [c64_len, hX.len]; exact hz.symm)
  rw [hs] at this
  exact this



set_option maxRecDepth 100000 in
set_option maxHeartbeats 6400000 in
theorem block (key nonce : ByteArray) (hk : key.size = 32) (hn : nonce.size = 12) (count : Nat) (hc : count ≤ 1100000000) (w : World) :
    Calls Tryz.prog 79 #[.string key, .string nonce, .int .i64 (count : Int)] w fun e' w' => e' = .returned (.string (blkT key nonce count)) ∧ Below w.heap.size w w' := by
  have HK := Lib.hid hk
  have HN := Lib.hid hn
  have HA := Lib.hid (first_a key nonce count)
  have HBB := Lib.hid (first_b key nonce count)
  have HCC := Lib.hid (first_c key nonce count (by omega))
  have HDD := Lib.hid (first_d key nonce count)
  have HFO := Lib.hid (first_ok key nonce count)
  have HO := Lib.hid (show opening.size = 16 from rfl)
  have HOP := Lib.hid (show (⟨#[101, 120, 112, 97, 110, 100, 32, 51, 50, 45, 98, 121, 116, 101, 32, 107]⟩ : ByteArray) = opening from rfl)
  have HRES := Lib.hid (show blkT key nonce count = ⟨(Cha.bytes (first key nonce count) 16).toArray⟩ from rfl)
  generalize blkT key nonce count = RES at *
  generalize first key nonce count = FW at *
  generalize opening = op at *
  clear hk hn
  go_enter Tryz.func79, Tryz.ntmps79
  go_wp2
  generalize hW : w.alloc _ = W
  obtain ⟨z0, hz0, RR⟩ : ∃ z0 : List Value, z0.length = 16 ∧ Row W w.heap.size 138 z0 ∧ Below w.heap.size w W ∧ W.heap.size = w.heap.size + 1 := by
    rw [← hW]
    exact ⟨_, rfl, Arr.row_new w _ _, (Below.refl _ _).alloc (Nat.le_refl _) _, by simp⟩
  clear hW
  have HR := Lib.hid RR
  have Z0 := Lib.hid hz0
  clear RR hz0
  go_loopw [8] (fun i wr => ∃ (k : Nat) (xs : List Value), k ≤ 4 ∧ i = .int .i64 k ∧ Hid (xs.length = 16 ∧ Row wr w.heap.size 138 xs ∧ (∀ j, j < k → xs[j]? = some (.int .i64 ((FW.getD j 0 : Nat) : Int))) ∧ Below w.heap.size w wr ∧ wr.heap.size = w.heap.size + 1)) (fun i _ => 4 - (intOf i).toNat)
  case atStart => exact ⟨0, z0, by omega, rfl, Lib.hid ⟨Z0.out, HR.out.1, fun j h => by omega, HR.out.2.1, HR.out.2.2⟩⟩
  case round =>
  rename_i wr
  obtain ⟨k, xs, hk, rfl, HX⟩ := hrel
  by_cases hlt : k < 4
  · obtain ⟨pp, ep⟩ : ∃ p, 4 * k = p := ⟨_, rfl⟩
    have i0 : (4 : Int) * (k : Int) = (pp : Int) := by omega
    have w0 : IntKind.i64.wrap (pp : Int) = pp := by rw [IntKind.wrap_i64]; omega
    obtain ⟨qq, eq⟩ : ∃ p, k = p := ⟨_, rfl⟩
    have i1 : (k : Int) < 16 := by omega
    have w1 : IntKind.i64.wrap (qq : Int) = qq := by rw [IntKind.wrap_i64]; omega
    have r1 : (qq : Int) < 16 := by omega
    have HV := Lib.hid (show SpCha1.lwAt op pp = FW.getD qq 0 by rw [← ep, ← eq, SpCha1.lwAt_lw, HA.out k hlt])
    have HE := Lib.hid (show 4 * k = pp ∧ k = qq from ⟨ep, eq⟩)
    obtain ⟨v0, c0⟩ : ∃ v, wr.cell? ⟨w.heap.size, qq, none⟩ = some v := ⟨_, (HX.out.2.1.cell qq).trans (List.getElem?_eq_getElem (by have := HX.out.1; omega))⟩
    have f0 := HX.out.2.1.frozen qq
    clear ep
    subst eq
    go_wp2_with fail
    rw [HOP.out]
    refine (SpCha1.word op pp (by have := HO.out; have := HE.out; omega) (by have := HO.out; omega) _).mono ?_
    rw [HV.out]
    rintro e' w1' ⟨rfl, n1, rfl⟩
    go_wp2
    go_roundw
    case rel =>
      obtain ⟨h1, h2, h3, h4, h5⟩ := HX.out
      obtain ⟨e1, e2⟩ := HE.out
      refine ⟨k + 1, xs.set k (.int .i64 ((FW.getD k 0 : Nat) : Int)), by omega, by go_num, Lib.hid ⟨by simp [h1], ?_, fun j hj => ?_, ?_, ?_⟩⟩
      · first | exact (h2.drewN n1).set _ _ | exact (h2.set _ _).drewN n1
      · by_cases e : j = k
        · rw [e, List.getElem?_set_self (by omega)]
        · rw [List.getElem?_set_ne (by omega)]; exact h3 j (by omega)
      · first | exact (below_drewN h4 n1).setCell (by exact Nat.le_refl _) _ | exact below_drewN (h4.setCell (by exact Nat.le_refl _) _) n1
      · first | (simpa using h5) | (simp [World.setCell]; exact h5)
    case measure => simp [intOf]; omega
  have hge : decide ((k : Int) < 4) = false := decide_eq_false (by omega)
  have HKL := Lib.hid (show k = 4 by omega)
  clear hlt hk
  have HX1 := Lib.hid (show xs.length = 16 ∧ Row wr w.heap.size 138 xs ∧ (∀ j, j < 4 → xs[j]? = some (.int .i64 ((FW.getD j 0 : Nat) : Int))) ∧ Below w.heap.size w wr ∧ wr.heap.size = w.heap.size + 1 by have := HX.out; rw [HKL.out] at this; exact this)
  clear HX HR HKL
  go_wp2
  clear hge
  go_loopw [9] (fun i wr => ∃ (k : Nat) (xs : List Value), k ≤ 8 ∧ i = .int .i64 k ∧ Hid (xs.length = 16 ∧ Row wr w.heap.size 138 xs ∧ (∀ j, j < 4 + k → xs[j]? = some (.int .i64 ((FW.getD j 0 : Nat) : Int))) ∧ Below w.heap.size w wr ∧ wr.heap.size = w.heap.size + 1)) (fun i _ => 8 - (intOf i).toNat)
  case atStart => exact ⟨0, xs, by omega, rfl, Lib.hid ⟨HX1.out.1, HX1.out.2.1, fun j h => HX1.out.2.2.1 j (by omega), HX1.out.2.2.2⟩⟩
  case round =>
  rename_i wr
  obtain ⟨k, xs, hk, rfl, HX⟩ := hrel
  by_cases hlt : k < 8
  · obtain ⟨pp, ep⟩ : ∃ p, 4 * k = p := ⟨_, rfl⟩
    have i0 : (4 : Int) * (k : Int) = (pp : Int) := by omega
    have w0 : IntKind.i64.wrap (pp : Int) = pp := by rw [IntKind.wrap_i64]; omega
    obtain ⟨qq, eq⟩ : ∃ p, 4 + k = p := ⟨_, rfl⟩
    have i1 : (4 : Int) + (k : Int) = (qq : Int) := by omega
    have w1 : IntKind.i64.wrap (qq : Int) = qq := by rw [IntKind.wrap_i64]; omega
    have r1 : (qq : Int) < 16 := by omega
    have HV := Lib.hid (show SpCha1.lwAt key pp = FW.getD qq 0 by rw [← ep, ← eq, SpCha1.lwAt_lw, HBB.out k hlt])
    have HE := Lib.hid (show 4 * k = pp ∧ 4 + k = qq from ⟨ep, eq⟩)
    obtain ⟨v0, c0⟩ : ∃ v, wr.cell? ⟨w.heap.size, qq, none⟩ = some v := ⟨_, (HX.out.2.1.cell qq).trans (List.getElem?_eq_getElem (by have := HX.out.1; omega))⟩
    have f0 := HX.out.2.1.frozen qq
    clear ep
    clear eq
    go_wp2_with fail
    skip
    refine (SpCha1.word key pp (by have := HK.out; have := HE.out; omega) (by have := HK.out; omega) _).mono ?_
    rw [HV.out]
    rintro e' w1' ⟨rfl, n1, rfl⟩
    go_wp2
    go_roundw
    case rel =>
      obtain ⟨h1, h2, h3, h4, h5⟩ := HX.out
      obtain ⟨e1, e2⟩ := HE.out
      refine ⟨k + 1, xs.set qq (.int .i64 ((FW.getD qq 0 : Nat) : Int)), by omega, by go_num, Lib.hid ⟨by simp [h1], ?_, fun j hj => ?_, ?_, ?_⟩⟩
      · first | exact (h2.drewN n1).set _ _ | exact (h2.set _ _).drewN n1
      · by_cases e : j = qq
        · rw [e, List.getElem?_set_self (by omega)]
        · rw [List.getElem?_set_ne (by omega)]; exact h3 j (by omega)
      · first | exact (below_drewN h4 n1).setCell (by exact Nat.le_refl _) _ | exact below_drewN (h4.setCell (by exact Nat.le_refl _) _) n1
      · first | (simpa using h5) | (simp [World.setCell]; exact h5)
    case measure => simp [intOf]; omega
  have hge : decide ((k : Int) < 8) = false := decide_eq_false (by omega)
  have HKL := Lib.hid (show k = 8 by omega)
  clear hlt hk
  obtain ⟨v12, c12⟩ : ∃ v, wr.cell? ⟨w.heap.size, 12, none⟩ = some v := ⟨_, (HX.out.2.1.cell 12).trans (List.getElem?_eq_getElem (by have := HX.out.1; omega))⟩
  have f12 := HX.out.2.1.frozen 12
  go_wp2
  clear hge
  generalize hW5 : World.setCell _ _ _ = W5
  have HX5 := Lib.hid (show (xs.set 12 (.int .i64 (count : Int))).length = 16 ∧ Row W5 w.heap.size 138 (xs.set 12 (.int .i64 (count : Int))) ∧ (∀ j, j < 13 → (xs.set 12 (.int .i64 (count : Int)))[j]? = some (.int .i64 ((FW.getD j 0 : Nat) : Int))) ∧ Below w.heap.size w W5 ∧ W5.heap.size = w.heap.size + 1 by
    obtain ⟨h1, h2, h3, h4, h5⟩ := HX.out
    rw [← hW5]
    refine ⟨by simp [h1], h2.set _ _, fun j hj => ?_, h4.setCell (by exact Nat.le_refl _) _, by simp [World.setCell]; exact h5⟩
    by_cases e : j = 12
    · rw [e, List.getElem?_set_self (by omega), HCC.out]
    · rw [List.getElem?_set_ne (by omega)]; exact h3 j (by have := HKL.out; omega))
  clear hW5 HX c12 f12 HKL
  generalize xs.set 12 (.int .i64 (count : Int)) = us at *
  go_loopw [10] (fun i wr => ∃ (k : Nat) (xs : List Value), k ≤ 3 ∧ i = .int .i64 k ∧ Hid (xs.length = 16 ∧ Row wr w.heap.size 138 xs ∧ (∀ j, j < 13 + k → xs[j]? = some (.int .i64 ((FW.getD j 0 : Nat) : Int))) ∧ Below w.heap.size w wr ∧ wr.heap.size = w.heap.size + 1)) (fun i _ => 3 - (intOf i).toNat)
  case atStart => exact ⟨0, us, by omega, rfl, Lib.hid ⟨HX5.out.1, HX5.out.2.1, fun j h => HX5.out.2.2.1 j (by omega), HX5.out.2.2.2⟩⟩
  case round =>
  rename_i wr
  obtain ⟨k, xs, hk, rfl, HX⟩ := hrel
  by_cases hlt : k < 3
  · obtain ⟨pp, ep⟩ : ∃ p, 4 * k = p := ⟨_, rfl⟩
    have i0 : (4 : Int) * (k : Int) = (pp : Int) := by omega
    have w0 : IntKind.i64.wrap (pp : Int) = pp := by rw [IntKind.wrap_i64]; omega
    obtain ⟨qq, eq⟩ : ∃ p, 13 + k = p := ⟨_, rfl⟩
    have i1 : (13 : Int) + (k : Int) = (qq : Int) := by omega
    have w1 : IntKind.i64.wrap (qq : Int) = qq := by rw [IntKind.wrap_i64]; omega
    have r1 : (qq : Int) < 16 := by omega
    have HV := Lib.hid (show SpCha1.lwAt nonce pp = FW.getD qq 0 by rw [← ep, ← eq, SpCha1.lwAt_lw, HDD.out k hlt])
    have HE := Lib.hid (show 4 * k = pp ∧ 13 + k = qq from ⟨ep, eq⟩)
    obtain ⟨v0, c0⟩ : ∃ v, wr.cell? ⟨w.heap.size, qq, none⟩ = some v := ⟨_, (HX.out.2.1.cell qq).trans (List.getElem?_eq_getElem (by have := HX.out.1; omega))⟩
    have f0 := HX.out.2.1.frozen qq
    clear ep
    clear eq
    go_wp2_with fail
    skip
    refine (SpCha1.word nonce pp (by have := HN.out; have := HE.out; omega) (by have := HN.out; omega) _).mono ?_
    rw [HV.out]
    rintro e' w1' ⟨rfl, n1, rfl⟩
    go_wp2
    go_roundw
    case rel =>
      obtain ⟨h1, h2, h3, h4, h5⟩ := HX.out
      obtain ⟨e1, e2⟩ := HE.out
      refine ⟨k + 1, xs.set qq (.int .i64 ((FW.getD qq 0 : Nat) : Int)), by omega, by go_num, Lib.hid ⟨by simp [h1], ?_, fun j hj => ?_, ?_, ?_⟩⟩
      · first | exact (h2.drewN n1).set _ _ | exact (h2.set _ _).drewN n1
      · by_cases e : j = qq
        · rw [e, List.getElem?_set_self (by omega)]
        · rw [List.getElem?_set_ne (by omega)]; exact h3 j (by omega)
      · first | exact (below_drewN h4 n1).setCell (by exact Nat.le_refl _) _ | exact below_drewN (h4.setCell (by exact Nat.le_refl _) _) n1
      · first | (simpa using h5) | (simp [World.setCell]; exact h5)
    case measure => simp [intOf]; omega
  have hge : decide ((k : Int) < 3) = false := decide_eq_false (by omega)
  have HKL := Lib.hid (show k = 3 by omega)
  clear hlt hk
  have hxs := full FW HFO.out xs HX.out.1 (fun j hj => HX.out.2.2.1 j (by have := HKL.out; omega))
  have HX6 := Lib.hid (show Row wr w.heap.size 138 (c64 FW) ∧ Below w.heap.size w wr ∧ wr.heap.size = w.heap.size + 1 from ⟨by rw [← hxs]; exact HX.out.2.1, HX.out.2.2.2⟩)
  clear hxs HX HX1 HX5
  have HI := Lib.hid (infoIV HFO.out)
  have H1 := Lib.hid (c64_one FW)
  have HSZ := Lib.hid (show (c64 FW).toArray.size = 16 by rw [List.size_toArray, c64_len, HFO.out.len])
  have hws := HX6.out.2.2
  have HFACT := Lib.hid (fun (z : Array Value) (W3 : World) (h : (wr.alloc (.cells z 138)).setCells (w.heap.size + 1) 0 (c64 FW).toArray.toList = W3) (hz : z.size = 16) => store16 w wr z FW HFO.out W3 h hz HX6.out.1 HX6.out.2.1 HX6.out.2.2)
  go_wp2_with (first
    | ((with_reducible show wpList _ _ _ _ _ _); refine wpList_load_row rfl 138 _ rfl w.heap.size rfl 138 _ (0, 0) _ HX6.out.1 Tryz.underlying138 rfl HI.out ?_)
    | ((with_reducible show wpList _ _ _ _ _ _); refine wpList_store_mid rfl 138 _ _ rfl (w.heap.size + 1) 0 (c64 FW).toArray rfl rfl (there_at _ _ _ _ _ HX6.out.2.2 (by rw [HSZ.out]; rfl)) HI.out H1.out ?_; generalize hW3 : World.setCells _ _ _ _ = W3; have HF3 := Lib.hid (HFACT.out _ W3 hW3 (by rfl)); clear hW3))
  clear hge HX6 HFACT HI H1 HSZ hws HK HN HA HBB HCC HDD HO HOP HKL
  clear hc

  have HMO := Lib.hid (fun k => mixN_ok HFO.out k)
  have HM0 := Lib.hid (ChaMix.mixN_zero FW)
  have HMS := Lib.hid (ChaMix.mixN_succ FW)
  have HMX := Lib.hid (show mix FW = mixN FW 10 from rfl)
  have HBS := Lib.hid (Cha.bytes_succ FW)
  have HB0 := Lib.hid (show Cha.bytes FW 0 = [] from rfl)
  have HBL := Lib.hid (Cha.bytes_length FW)
  have HFIN := Lib.hid (show ∀ i, fin FW i = ((mix FW).getD i 0 + FW.getD i 0) % 4294967296 from fun _ => rfl)
  have HFL := Lib.hid (fin_lt FW)
  generalize mixN FW = F at *
  generalize mix FW = M at *
  generalize Cha.bytes FW = By at *
  generalize fin FW = Fi at *
  go_loopw [12] (fun i wr => ∃ k : Nat, k ≤ 10 ∧ i = .int .i64 k ∧ Hid (Row wr w.heap.size 138 (c64 FW) ∧ Row wr (w.heap.size + 1) 138 (c64 (F k)) ∧ Below w.heap.size w wr ∧ w.heap.size + 2 ≤ wr.heap.size)) (fun i _ => 10 - (intOf i).toNat)
  case atStart => exact ⟨0, by omega, rfl, Lib.hid (by rw [HM0.out]; exact HF3.out)⟩
  case round =>
  rename_i wr
  clear HF3
  obtain ⟨k, hk, rfl, HX⟩ := hrel
  by_cases hlt : k < 10
  · have hlt10 : decide ((k : Int) < 10) = true := decide_eq_true (by omega)
    have HKO := HMO.out k
    have HNXT := Lib.hid (HMS.out k)
    generalize F k = X0 at *
    have HG0O := Lib.hid (fun j => runS_ok 0 HKO j)
    have HG0S := Lib.hid (runS_succ 0 X0)
    have HG0Z := Lib.hid (runS_zero 0 X0)
    have HS0 := Lib.hid (show slant 0 X0 = runS 0 X0 4 from rfl)
    have HS1O := Lib.hid (slant_ok 0 HKO)
    rw [HS0.out] at HNXT HS1O
    generalize runS 0 X0 = G0 at *
    clear HKO HS0
    go_wp2
    clear hlt10
    go_loopw [13] (fun i wr => ∃ j : Nat, j ≤ 4 ∧ i = .int .i64 j ∧ Hid (Row wr w.heap.size 138 (c64 FW) ∧ Row wr (w.heap.size + 1) 138 (c64 (G0 j)) ∧ Below w.heap.size w wr ∧ w.heap.size + 2 ≤ wr.heap.size)) (fun i _ => 4 - (intOf i).toNat)
    case atStart => exact ⟨0, by omega, rfl, Lib.hid (by rw [HG0Z.out]; exact HX.out)⟩
    case round =>
    rename_i wr
    obtain ⟨j, hj, rfl, HY⟩ := hrel
    by_cases hlt : j < 4
    · have HOKJ := Lib.hid (HG0O.out j)
      have HNX := Lib.hid (HG0S.out j)
      obtain ⟨bi, ebi⟩ : ∃ b : Nat, 4 + (j + 0) % 4 = b := ⟨_, rfl⟩
      obtain ⟨ci, eci⟩ : ∃ b : Nat, 8 + (j + 2 * 0) % 4 = b := ⟨_, rfl⟩
      obtain ⟨di, edi⟩ : ∃ b : Nat, 12 + (j + 3 * 0) % 4 = b := ⟨_, rfl⟩
      rw [ebi, eci, edi] at HNX
      have EB : (4 : Int) + (j : Int) = (bi : Int) := by omega
      have EC : (8 : Int) + (j : Int) = (ci : Int) := by omega
      have ED : (12 : Int) + (j : Int) = (di : Int) := by omega
      have hbi : 4 ≤ bi ∧ bi < 8 := by omega
      have hci : 8 ≤ ci ∧ ci < 12 := by omega
      have hdi : 12 ≤ di ∧ di < 16 := by omega
      have HBD := Lib.hid (And.intro hbi (And.intro hci hdi))
      have wb : IntKind.i64.wrap (bi : Int) = bi := by rw [IntKind.wrap_i64]; omega
      have wc : IntKind.i64.wrap (ci : Int) = ci := by rw [IntKind.wrap_i64]; omega
      have wd : IntKind.i64.wrap (di : Int) = di := by rw [IntKind.wrap_i64]; omega
      have j0 : (0 : Int) ≤ (j : Int) := by omega
      have j4 : (j : Int) < 4 := by omega
      clear ebi eci edi hbi hci hdi
      have HRR := Lib.hid HY.out.2.1
      generalize G0 j = X at *
      have HI0 := Lib.hid (infoIV HOKJ.out)
      go_wp2_with (((with_reducible show wpList _ _ _ _ _ _); refine wpList_load_row rfl 138 _ rfl (w.heap.size + 1) rfl 138 _ (0, 0) _ HRR.out Tryz.underlying138 rfl HI0.out ?_))
      refine (SpCha1.round X HOKJ.out j bi ci di (by omega) HBD.out.1 HBD.out.2.1 HBD.out.2.2 _).mono ?_
      rintro e' w1 ⟨rfl, hb⟩
      have HOKN := Lib.hid (step_ok HOKJ.out j bi ci di)
      rw [← HNX.out] at HOKN ⊢
      generalize hX1 : G0 (j + 1) = X1 at *
      have HX1E := Lib.hid hX1
      clear hX1
      have HI1 := Lib.hid (infoIV HOKN.out)
      have H11 := Lib.hid (c64_one X1)
      have HR1 := Lib.hid (show Row w1 w.heap.size 138 (c64 FW) ∧ Row w1 (w.heap.size + 1) 138 (c64 X) ∧ Below w.heap.size w w1 ∧ w.heap.size + 2 ≤ w1.heap.size from
        ⟨HY.out.1.below hb (by have := HY.out.2.2.2; omega), HY.out.2.1.below hb (by have := HY.out.2.2.2; omega), HY.out.2.2.1.trans (hb.mono (by have := HY.out.2.2.2; omega)), Nat.le_trans HY.out.2.2.2 hb.size⟩)
      have HT1 := Lib.hid (show w1.there (w.heap.size + 1) 0 (c64 X1).toArray.size by have := HR1.out.2.1.there; rw [c64_len, HOKJ.out.len] at this; rw [show (c64 X1).toArray.size = 16 by rw [List.size_toArray, c64_len, HOKN.out.len]]; exact this)
      have HS1 := Lib.hid (show Row (w1.setCells (w.heap.size + 1) 0 (c64 X1)) w.heap.size 138 (c64 FW) ∧ Row (w1.setCells (w.heap.size + 1) 0 (c64 X1)) (w.heap.size + 1) 138 (c64 X1) ∧ Below w.heap.size w (w1.setCells (w.heap.size + 1) 0 (c64 X1)) ∧ w.heap.size + 2 ≤ (w1.setCells (w.heap.size + 1) 0 (c64 X1)).heap.size from
        ⟨HR1.out.1.sets_far (by omega) _ _ _, HR1.out.2.1.sets_all (by rw [c64_len, c64_len, HOKN.out.len, HOKJ.out.len]), Arr.below_sets _ (by omega) _ _ _ HR1.out.2.2.1, by rw [Arr.size_sets]; exact HR1.out.2.2.2⟩)
      clear hb HY HRR HR1
      go_wp2_with (((with_reducible show wpList _ _ _ _ _ _); refine wpList_store_mid rfl 138 _ _ rfl (w.heap.size + 1) 0 (c64 X1).toArray rfl rfl HT1.out HI1.out H11.out ?_; simp only []))
      generalize w1.setCells (w.heap.size + 1) 0 (c64 X1) = W4 at *
      go_wp2
      go_roundw
      case rel => exact ⟨j + 1, by omega, by go_num, Lib.hid (by rw [HX1E.out]; exact HS1.out)⟩
      case measure => simp [intOf]; omega
    have hge0 : decide ((j : Int) < 4) = false := decide_eq_false (by omega)
    have HJ0 := Lib.hid (show Row wr w.heap.size 138 (c64 FW) ∧ Row wr (w.heap.size + 1) 138 (c64 (G0 4)) ∧ Below w.heap.size w wr ∧ w.heap.size + 2 ≤ wr.heap.size by
      obtain rfl : j = 4 := by omega
      exact HY.out)
    clear hlt hj HY
    go_wp2
    clear hge0
    clear HX
    generalize G0 4 = Y0 at *
    have HG1O := Lib.hid (fun j => runS_ok 1 HS1O.out j)
    have HG1S := Lib.hid (runS_succ 1 Y0)
    have HG1Z := Lib.hid (runS_zero 1 Y0)
    have HS1 := Lib.hid (show slant 1 Y0 = runS 1 Y0 4 from rfl)
    rw [HS1.out] at HNXT
    generalize runS 1 Y0 = G1 at *
    clear HS1 HG0O HG0S HG0Z
    go_loopw [14] (fun i wr => ∃ j : Nat, j ≤ 4 ∧ i = .int .i64 j ∧ Hid (Row wr w.heap.size 138 (c64 FW) ∧ Row wr (w.heap.size + 1) 138 (c64 (G1 j)) ∧ Below w.heap.size w wr ∧ w.heap.size + 2 ≤ wr.heap.size)) (fun i _ => 4 - (intOf i).toNat)
    case atStart => exact ⟨0, by omega, rfl, Lib.hid (by rw [HG1Z.out]; exact HJ0.out)⟩
    case round =>
    rename_i wr
    obtain ⟨j, hj, rfl, HY⟩ := hrel
    by_cases hlt : j < 4
    · have HOKJ := Lib.hid (HG1O.out j)
      have HNX := Lib.hid (HG1S.out j)
      obtain ⟨bi, ebi⟩ : ∃ b : Nat, 4 + (j + 1) % 4 = b := ⟨_, rfl⟩
      obtain ⟨ci, eci⟩ : ∃ b : Nat, 8 + (j + 2 * 1) % 4 = b := ⟨_, rfl⟩
      obtain ⟨di, edi⟩ : ∃ b : Nat, 12 + (j + 3 * 1) % 4 = b := ⟨_, rfl⟩
      rw [ebi, eci, edi] at HNX
      have EB : (4 : Int) + ((j : Int) + 1) % 4 = (bi : Int) := by omega
      have EC : (8 : Int) + ((j : Int) + 2) % 4 = (ci : Int) := by omega
      have ED : (12 : Int) + ((j : Int) + 3) % 4 = (di : Int) := by omega
      have hbi : 4 ≤ bi ∧ bi < 8 := by omega
      have hci : 8 ≤ ci ∧ ci < 12 := by omega
      have hdi : 12 ≤ di ∧ di < 16 := by omega
      have HBD := Lib.hid (And.intro hbi (And.intro hci hdi))
      have wb : IntKind.i64.wrap (bi : Int) = bi := by rw [IntKind.wrap_i64]; omega
      have wc : IntKind.i64.wrap (ci : Int) = ci := by rw [IntKind.wrap_i64]; omega
      have wd : IntKind.i64.wrap (di : Int) = di := by rw [IntKind.wrap_i64]; omega
      have j0 : (0 : Int) ≤ (j : Int) := by omega
      have j4 : (j : Int) < 4 := by omega
      clear ebi eci edi hbi hci hdi
      have HRR := Lib.hid HY.out.2.1
      generalize G1 j = X at *
      have HI0 := Lib.hid (infoIV HOKJ.out)
      go_wp2_with (((with_reducible show wpList _ _ _ _ _ _); refine wpList_load_row rfl 138 _ rfl (w.heap.size + 1) rfl 138 _ (0, 0) _ HRR.out Tryz.underlying138 rfl HI0.out ?_))
      refine (SpCha1.round X HOKJ.out j bi ci di (by omega) HBD.out.1 HBD.out.2.1 HBD.out.2.2 _).mono ?_
      rintro e' w1 ⟨rfl, hb⟩
      have HOKN := Lib.hid (step_ok HOKJ.out j bi ci di)
      rw [← HNX.out] at HOKN ⊢
      generalize hX1 : G1 (j + 1) = X1 at *
      have HX1E := Lib.hid hX1
      clear hX1
      have HI1 := Lib.hid (infoIV HOKN.out)
      have H11 := Lib.hid (c64_one X1)
      have HR1 := Lib.hid (show Row w1 w.heap.size 138 (c64 FW) ∧ Row w1 (w.heap.size + 1) 138 (c64 X) ∧ Below w.heap.size w w1 ∧ w.heap.size + 2 ≤ w1.heap.size from
        ⟨HY.out.1.below hb (by have := HY.out.2.2.2; omega), HY.out.2.1.below hb (by have := HY.out.2.2.2; omega), HY.out.2.2.1.trans (hb.mono (by have := HY.out.2.2.2; omega)), Nat.le_trans HY.out.2.2.2 hb.size⟩)
      have HT1 := Lib.hid (show w1.there (w.heap.size + 1) 0 (c64 X1).toArray.size by have := HR1.out.2.1.there; rw [c64_len, HOKJ.out.len] at this; rw [show (c64 X1).toArray.size = 16 by rw [List.size_toArray, c64_len, HOKN.out.len]]; exact this)
      have HS1 := Lib.hid (show Row (w1.setCells (w.heap.size + 1) 0 (c64 X1)) w.heap.size 138 (c64 FW) ∧ Row (w1.setCells (w.heap.size + 1) 0 (c64 X1)) (w.heap.size + 1) 138 (c64 X1) ∧ Below w.heap.size w (w1.setCells (w.heap.size + 1) 0 (c64 X1)) ∧ w.heap.size + 2 ≤ (w1.setCells (w.heap.size + 1) 0 (c64 X1)).heap.size from
        ⟨HR1.out.1.sets_far (by omega) _ _ _, HR1.out.2.1.sets_all (by rw [c64_len, c64_len, HOKN.out.len, HOKJ.out.len]), Arr.below_sets _ (by omega) _ _ _ HR1.out.2.2.1, by rw [Arr.size_sets]; exact HR1.out.2.2.2⟩)
      clear hb HY HRR HR1
      go_wp2_with (((with_reducible show wpList _ _ _ _ _ _); refine wpList_store_mid rfl 138 _ _ rfl (w.heap.size + 1) 0 (c64 X1).toArray rfl rfl HT1.out HI1.out H11.out ?_; simp only []))
      generalize w1.setCells (w.heap.size + 1) 0 (c64 X1) = W4 at *
      go_wp2
      go_roundw
      case rel => exact ⟨j + 1, by omega, by go_num, Lib.hid (by rw [HX1E.out]; exact HS1.out)⟩
      case measure => simp [intOf]; omega
    have hge1 : decide ((j : Int) < 4) = false := decide_eq_false (by omega)
    have HJ1 := Lib.hid (show Row wr w.heap.size 138 (c64 FW) ∧ Row wr (w.heap.size + 1) 138 (c64 (G1 4)) ∧ Below w.heap.size w wr ∧ w.heap.size + 2 ≤ wr.heap.size by
      obtain rfl : j = 4 := by omega
      exact HY.out)
    clear hlt hj HY
    go_wp2
    clear hge1
    go_roundw
    case rel => exact ⟨k + 1, by omega, by go_num, Lib.hid (by rw [HNXT.out]; exact HJ1.out)⟩
    case measure => simp [intOf]; omega
  have hge : decide ((k : Int) < 10) = false := decide_eq_false (by omega)
  have HJ := Lib.hid (show Row wr w.heap.size 138 (c64 FW) ∧ Row wr (w.heap.size + 1) 138 (c64 M) ∧ Below w.heap.size w wr ∧ w.heap.size + 2 ≤ wr.heap.size by
    obtain rfl : k = 10 := by omega
    rw [HMX.out]
    exact HX.out)
  have HMOK := Lib.hid (show Ok M by rw [HMX.out]; exact HMO.out 10)
  clear hlt hk HX HMO HM0 HMS HMX
  go_wp2
  clear hge
  obtain ⟨B0, hB0⟩ : ∃ B, wr.heap.size = B := ⟨_, rfl⟩
  have HBX := Lib.hid (show w.heap.size + 2 ≤ B0 by have := HJ.out.2.2.2; omega)
  have HBE := Lib.hid hB0
  clear hB0
  go_loopw [15, 16] (fun v i wz => ∃ (k : Nat) (wq : World), wq = wz ∧ k ≤ 16 ∧ i = .int .i64 k ∧ Hid (Owns wq B0 v (By k)) ∧ Hid (Row wq w.heap.size 138 (c64 FW) ∧ Row wq (w.heap.size + 1) 138 (c64 M) ∧ Below w.heap.size w wq ∧ B0 ≤ wq.heap.size)) (fun _ i _ => 16 - (intOf i).toNat)
  case atStart => exact ⟨0, _, rfl, by omega, rfl, Lib.hid (by rw [HB0.out]; exact Bytes.owns_made wr B0 0 #[] (by have := HBE.out; omega) (by unfold maxLen; omega) rfl), Lib.hid ⟨HJ.out.1.alloc _, HJ.out.2.1.alloc _, HJ.out.2.2.1.alloc (by have := HJ.out.2.2.2; omega) _, by have := HBE.out; simp; omega⟩⟩
  case round =>
  clear HJ
  obtain ⟨k, wq, rfl, hk, rfl, R, HX⟩ := hrel
  by_cases hlt : k < 16
  · have cm := HX.out.2.1.cell k
    rw [c64_at M k (by rw [HMOK.out.len]; exact hlt)] at cm
    have cf := HX.out.1.cell k
    rw [c64_at FW k (by rw [HFO.out.len]; exact hlt)] at cf
    have lm := HMOK.out.getD k
    have lf := HFO.out.getD k
    have HF := Lib.hid (HFIN.out k)
    have HBK := Lib.hid (HBS.out k)
    have HLK := Lib.hid (HBL.out k)
    generalize M.getD k 0 = m at *
    generalize FW.getD k 0 = f at *
    have q0 : ∀ k', (World.mk wq.heap wq.tape k' wq.os wq.output).cell? ⟨w.heap.size + 1, k, none⟩ = some (.int .i64 (m : Int)) := fun _ => cm
    have q1 : ∀ k', (World.mk wq.heap wq.tape k' wq.os wq.output).cell? ⟨w.heap.size, k, none⟩ = some (.int .i64 (f : Int)) := fun _ => cf
    have k16 : (k : Int) < 16 := by omega
    have k0 : (0 : Int) ≤ (k : Int) := by omega
    have HLM := Lib.hid (And.intro lm lf)
    go_wp2
    go_still_tail 9, (by kernel_rfl)
    clear q0 q1 cm cf
    change wpList _ _ _ _ _ wq.drew
    go_wp2_with fail
    rw [Quarter.addM m f lm lf]
    have HAD := Lib.hid (show Quarter.add m f = Fi k by rw [HF.out]; rfl)
    refine (SpCha1.bytes4 B0 _ (By k) (by rw [HLK.out]; omega) (Quarter.add m f) (Quarter.add_lt _ _) wq.drew HX.out.2.2.2 R.out).mono ?_
    rintro e' w1 ⟨v', rfl, H⟩
    have HN1 := Lib.hid (show Owns w1 B0 v' (By (k + 1)) by rw [HBK.out, ← HAD.out]; exact H.out.1)
    have HN2 := Lib.hid (show Row w1 w.heap.size 138 (c64 FW) ∧ Row w1 (w.heap.size + 1) 138 (c64 M) ∧ Below w.heap.size w w1 ∧ B0 ≤ w1.heap.size from
      ⟨Row.below HX.out.1.drew H.out.2 (by have := HBX.out; omega), Row.below HX.out.2.1.drew H.out.2 (by have := HBX.out; omega), HX.out.2.2.1.drew.trans (H.out.2.mono (by have := HBX.out; omega)), Nat.le_trans HX.out.2.2.2 H.out.2.size⟩)
    clear H
    go_wp2
    go_roundw
    case rel => exact ⟨k + 1, _, rfl, by omega, by go_num, HN1, HN2⟩
    case measure => simp [intOf]; omega
  have hge : decide ((k : Int) < 16) = false := decide_eq_false (by omega)
  have hconv := (show Owns wq B0 _ (By 16) by
    obtain rfl : k = 16 := by omega
    exact R.out).string
  go_wp2
  go_ret
  exact ⟨by rw [HRES.out]; rfl, HX.out.2.2.1⟩
end Go.Proofs.YtggobhpjfflooaaGreatDoor.SpCha2
namespace Go.Proofs.YtggobhpjfflooaaGreatDoor.SpCha3
open Go.ChangeShapes Go.WideShapes Go.ChangeAt Go.RowKit
open ChaBlk (blkT fault res)
set_option linter.unusedVariables false

theorem res_form (key nonce : ByteArray) (count : Int) : ∃ (s : ByteArray) (c : Int), res key nonce count = .tuple #[.string s, .int .i64 c] := by
  unfold res
  split
  · exact ⟨_, _, rfl⟩
  · exact ⟨_, _, rfl⟩

end Go.Proofs.YtggobhpjfflooaaGreatDoor.SpCha3
namespace Go.Proofs.YtggobhpjfflooaaGreatDoor.SpXor
open Go.ChangeShapes Go.WideShapes Go.ChangeAt Go.RowKit
open Bytes (BV Owns)
open Word (bN bN_lt bN_at)
open ChaBlk (blkT blkT_size)
open XorOf (xb xb_length xb_snoc xb_cell)
set_option linter.unusedVariables false

/-- Byte i of the stream from the block of count on. -/
def ks (key nonce : ByteArray) (count : Nat) (i : Nat) : Nat := bN (blkT key nonce (count + i / 64)) (i % 64)
theorem ks_lt (key nonce : ByteArray) (count i : Nat) : ks key nonce count i < 256 := bN_lt _ _
/-- A text xored with the stream. -/
def xorS (key nonce : ByteArray) (count : Nat) (t : ByteArray) : ByteArray := ⟨(xb (bN t) (ks key nonce count) t.size).toArray⟩
/-- The block that the model holds behind k bytes. -/
def held (key nonce : ByteArray) (count : Nat) (k : Nat) : ByteArray := if k = 0 then ⟨#[]⟩ else blkT key nonce (count + (k - 1) / 64)
theorem held_zero (key nonce : ByteArray) (count : Nat) : held key nonce count 0 = ⟨#[]⟩ := rfl
theorem held_succ (key nonce : ByteArray) (count k : Nat) : held key nonce count (k + 1) = blkT key nonce (count + k / 64) := rfl
theorem held_mid (key nonce : ByteArray) (count k : Nat) (h : k % 64 ≠ 0) : held key nonce count k = blkT key nonce (count + k / 64) := by
  unfold held
  rw [if_neg (by intro e; rw [e] at h; exact h rfl), show (k - 1) / 64 = k / 64 by omega]

/-- A row of the call's own stays where nothing that was there has turned. -/
theorem owns_below {w w' : World} {base : Nat} {v : Value} {bs : List UInt8} (h : Owns w base v bs) (hb : Below w.heap.size w w') : Owns w' base v bs := by
  obtain ⟨hl, h⟩ := h
  refine ⟨hl, ?_⟩
  rcases h with h | ⟨g, cap, cur, rfl, hbg, hg, hnc, hcm, hcs, ht⟩
  · exact .inl h
  · have hlt : g < w.heap.size := (Array.getElem?_eq_some_iff.1 hg).1
    exact .inr ⟨g, cap, cur, rfl, hbg, (hb.block g hlt).trans hg, hnc, hcm, hcs, ht⟩

set_option maxRecDepth 100000 in
set_option maxHeartbeats 3200000 in
theorem xorM (key nonce : ByteArray) (hk : key.size = 32) (hn : nonce.size = 12) (count : Nat) (hc : count ≤ 1000000000) (t : ByteArray) (ht : t.size ≤ 65536) (w : World) :
    Calls Tryz.prog 62 #[.string key, .string nonce, .int .i64 (count : Int), .string t] w fun e w' => e = .returned (.string (xorS key nonce count t)) ∧ Below w.heap.size w w' := by
  obtain ⟨i0, hi0, hz0, hz1, hz2⟩ := info_parts Bytes.info5
  have HBLK := Lib.hid (fun m (h : m ≤ 1100000000) u => SpCha2.block key nonce hk hn m h u)
  have HH0 := Lib.hid (held_zero key nonce count)
  have HHS := Lib.hid (held_succ key nonce count)
  have HHM := Lib.hid (held_mid key nonce count)
  have HKS := Lib.hid (show ∀ i, ks key nonce count i = bN (blkT key nonce (count + i / 64)) (i % 64) from fun _ => rfl)
  have HKL := Lib.hid (ks_lt key nonce count)
  have HSZ := Lib.hid (fun m => blkT_size key nonce m)
  have HRES := Lib.hid (show xorS key nonce count t = ⟨(xb (bN t) (ks key nonce count) t.size).toArray⟩ from rfl)
  generalize xorS key nonce count t = RES at *
  generalize ks key nonce count = K at *
  generalize held key nonce count = H at *
  generalize blkT key nonce = BT at *
  clear hk hn
  go_enter Tryz.func62, Tryz.ntmps62
  go_wp2
  go_loopw [9, 10, 11] (fun v b i wz => ∃ (k : Nat) (wr : World), wr = wz ∧ k ≤ t.size ∧ i = .int .i64 k ∧ b = .string (H k) ∧ Hid (Owns wr w.heap.size v (xb (bN t) K k)) ∧ Hid (Below w.heap.size w wr)) (fun _ _ i _ => t.size - (intOf i).toNat)
  case atStart => exact ⟨0, _, rfl, by omega, rfl, by rw [HH0.out], Lib.hid (Bytes.owns_made w w.heap.size 0 #[] (Nat.le_refl _) (by unfold maxLen; omega) rfl), Lib.hid ((Below.refl _ _).alloc (Nat.le_refl _) _)⟩
  case round =>
  obtain ⟨k, wr, rfl, hk, rfl, rfl, R, HB⟩ := hrel
  by_cases hlt : k < t.size
  · have hlt2 : decide ((k : Int) < (t.size : Int)) = true := decide_eq_true (by omega)
    have HS := Lib.hid (xb_snoc (bN t) K k)
    have HT := Lib.hid (xb_cell (bN t) K k (bN_lt _ _) (HKL.out k))
    have HL := Lib.hid (xb_length (bN t) K k)
    have HX := Lib.hid (HHS.out k)
    have kq : (k : Int) / 64 = ((k / 64 : Nat) : Int) := by omega
    have km : (k : Int) % 64 = ((k % 64 : Nat) : Int) := by omega
    have kt : Int.tmod (k : Int) 64 = ((k % 64 : Nat) : Int) := by rw [Int.tmod_eq_emod_of_nonneg (by omega), km]
    have HK := Lib.hid (HKS.out k)
    have hmid := HHM.out k
    have hq : k / 64 ≤ 1024 := by omega
    have hm : k % 64 < 64 := by omega
    generalize k / 64 = q at *
    generalize hmm : k % 64 = m at *
    have HMM := Lib.hid hmm
    clear hmm
    obtain ⟨cn, ecn⟩ : ∃ c, count + q = c := ⟨_, rfl⟩
    rw [ecn] at HX HK hmid
    have cq : (count : Int) + (q : Int) = (cn : Int) := by omega
    have hcn : cn ≤ 1100000000 := by omega
    have wcn : IntKind.i64.wrap (cn : Int) = cn := by rw [IntKind.wrap_i64]; omega
    clear ecn
    have hbs := HSZ.out cn
    have HBC := Lib.hid (HBLK.out cn hcn)
    generalize BT cn = B at *
    have z0 := bN_lt t k
    have z1 := bN_lt B m
    have y0 : t[k].toNat = bN t k := bN_at t k hlt
    have hmb : m < B.size := by omega
    have y1 : B[m].toNat = bN B m := bN_at B m hmb
    have hxr := XorInto.u8_xor (bN t k) (bN B m) z0 z1
    rw [HK.out] at HT HS
    have hl1 : (xb (bN t) K k).length ≤ 65536 := by rw [HL.out]; omega
    generalize bN t k = ak at *
    generalize bN B m = bk at *
    have hk0 : (0 : Int) ≤ (k : Int) := by omega
    have hk2 : (k : Int) < (t.size : Int) := by omega
    have hm0 : (0 : Int) ≤ (m : Int) := by omega
    have hm2 : (m : Int) < (B.size : Int) := by omega
    have hm3 : (m : Int) < 64 := by omega
    have wm : IntKind.i64.wrap (m : Int) = m := by rw [IntKind.wrap_i64]; omega
    clear hbs
    have hz := Lib.hid HB.out.size
    by_cases h0 : m = 0
    · have e0 : ((m : Int) == 0) = true := by simp; omega
      clear hmid h0
      go_wp2_with fail
      refine (HBC.out _).mono ?_
      rintro e w1 ⟨rfl, hb1⟩
      have HB1 := Lib.hid (HB.out.trans (hb1.mono HB.out.size))
      have hz1' := Lib.hid (HB1.out.size)
      have R1 := Lib.hid (show Owns w1 w.heap.size _ (xb (bN t) K k) from owns_below R.out hb1)
      clear hb1
      go_wp2
      go_region_held3 (fun w' => True) (trivial)
        ((refine step_append_lies _ (by rfl) _ _ _ (by rfl) w.heap.size 5 i0 _ 1 1 Tryz.underlying22 hi0 hz0 hz1 hz2 rfl (by omega) _ (xb (bN t) K k).length (BV (xb (bN t) K k)) (by rfl) ((World.ownsRow.alloc R1.out _).drew) ⟨w1.heap.size, 0, none⟩ 1 1 [.int .u8 ((ak ^^^ bk : Nat) : Int)] (by rfl) (by rfl) (World.news_of_block (cs := #[.int .u8 ((ak ^^^ bk : Nat) : Int)]) (t := 5) (fr := (0, 0)) (heap_alloc_new w1 _)) (by simp [Value.oneCell']) (by omega) (by unfold maxLen; omega) (by omega) (by have := hz1'.out; simp; omega) (w1.heap.size + 1) (by simp) ?_; intro gg cap w1 hown1 hgrow hat hlt1))
      all_goals
        have HO := Lib.hid hown1
        have HG := Lib.hid hgrow
        clear hown1 hgrow hat hlt1 hxr y0 y1
        go_wp2
        go_roundw
        case rel => exact ⟨k + 1, _, rfl, by omega, by go_num, by rw [HX.out], Lib.hid (by
          rw [HS.out]
          have := HO.out
          rw [← HT.out] at this
          exact Bytes.owns_grown this rfl), Lib.hid ((HB1.out.trans (((Below.refl _ _).alloc HB1.out.size _).drew)).grown HG.out (by have := hz1'.out; simp; omega) (Owns.block R1.out))⟩
        case measure => simp [intOf]; omega
    · have e0 : ((m : Int) == 0) = false := by simp; omega
      rw [hmid h0]
      clear hmid h0
      go_wp2
      go_region_held3 (fun w' => True) (trivial)
        ((refine step_append_lies _ (by rfl) _ _ _ (by rfl) w.heap.size 5 i0 _ 1 1 Tryz.underlying22 hi0 hz0 hz1 hz2 rfl (by omega) _ (xb (bN t) K k).length (BV (xb (bN t) K k)) (by rfl) ((World.ownsRow.alloc R.out _).drew) ⟨wr.heap.size, 0, none⟩ 1 1 [.int .u8 ((ak ^^^ bk : Nat) : Int)] (by rfl) (by rfl) (World.news_of_block (cs := #[.int .u8 ((ak ^^^ bk : Nat) : Int)]) (t := 5) (fr := (0, 0)) (heap_alloc_new wr _)) (by simp [Value.oneCell']) (by omega) (by unfold maxLen; omega) (by omega) (by have := hz.out; simp; omega) (wr.heap.size + 1) (by simp) ?_; intro gg cap w1 hown1 hgrow hat hlt1))
      all_goals
        have HO := Lib.hid hown1
        have HG := Lib.hid hgrow
        clear hown1 hgrow hat hlt1 hxr y0 y1
        go_wp2
        go_roundw
        case rel => exact ⟨k + 1, _, rfl, by omega, by go_num, by rw [HX.out], Lib.hid (by
          rw [HS.out]
          have := HO.out
          rw [← HT.out] at this
          exact Bytes.owns_grown this rfl), Lib.hid ((HB.out.trans (((Below.refl _ _).alloc HB.out.size _).drew)).grown HG.out (by have := hz.out; simp; omega) (Owns.block R.out))⟩
        case measure => simp [intOf]; omega
  have hge : decide ((k : Int) < (t.size : Int)) = false := decide_eq_false (by omega)
  have hconv := (show Owns wr w.heap.size _ (xb (bN t) K t.size) by
    obtain rfl : k = t.size := by omega
    exact R.out).string
  go_wp2
  go_ret
  exact ⟨by rw [HRES.out]; rfl, HB.out⟩
end Go.Proofs.YtggobhpjfflooaaGreatDoor.SpXor
namespace Go.Proofs.YtggobhpjfflooaaGreatDoor.ChaXorI
open Go.ChangeShapes Go.WideShapes Go.ChangeAt Go.RowKit
open Arr (Row)
open Bytes (BV Owns)
open XorInto (RowF Only)
open Word (bN bN_lt bN_at)
open Cha
open ChaBlk (blkT blkT_size)
open XorOf (xb xb_length xb_at bytes_at bytes_size bytes_below)
open SpXor (ks ks_lt xorS)
set_option linter.unusedVariables false

theorem _root_.Go.Proofs.YtggobhpjfflooaaGreatDoor.XorInto.RowF.far {w : World} {g : Nat} {t : TypeId} {fr : Nat × Nat} {xs : List Value} (h : RowF w g t fr xs) (b i : Nat) (v : Value) (hb : g ≠ b) : RowF (w.setCell ⟨b, i, none⟩ v) g t fr xs :=
  (heap_setCell_other w ⟨b, i, none⟩ g v hb).trans h
theorem store_words (w w2 : World) (z : Array Value) (X : List Nat) (hX : Ok X) (W3 : World) (h : (w2.alloc (.cells z 91)).setCells w2.heap.size 0 (c32 X).toArray.toList = W3) (hz : z.size = 16) (hb : Below w.heap.size w w2) :
    Row W3 w2.heap.size 91 (c32 X) ∧ Below w.heap.size w W3 ∧ w2.heap.size < W3.heap.size := by
  rw [← h]
  exact ⟨(Arr.row_new w2 z _).sets_all (by rw [c32_len, hX.len]; exact hz.symm), Arr.below_sets _ hb.size _ _ _ (hb.alloc hb.size _), by rw [Arr.size_sets]; simp⟩
/-- The next count. -/
theorem next_words (key nonce : ByteArray) (c : Nat) : (c32 (first key nonce c)).set 12 (.int .u32 (((c + 1) % 4294967296 : Nat) : Int)) = c32 (first key nonce (c + 1)) := by
  simp [c32, first]
theorem word12 (key nonce : ByteArray) (c : Nat) : (c32 (first key nonce c))[12]? = some (.int .u32 ((c % 4294967296 : Nat) : Int)) := rfl
/-- Byte j of a block, as the stream tells it. -/
theorem blk_byte (key nonce : ByteArray) (count m j : Nat) (hj : j < 64) : (BV (Cha.blk (first key nonce (count + m))))[j]? = some (.int .u8 ((ks key nonce count (64 * m + j) : Nat) : Int)) := by
  have hl : j < (Cha.blk (first key nonce (count + m))).length := by rw [Cha.blk_length]; exact hj
  have e1 : (64 * m + j) / 64 = m := by omega
  have e2 : (64 * m + j) % 64 = j := by omega
  have h3 : ks key nonce count (64 * m + j) = ((Cha.blk (first key nonce (count + m)))[j]).toNat := by
    unfold ks
    rw [e1, e2]
    unfold bN blkT
    simp [List.getD_eq_getElem?_getD, List.getElem?_eq_getElem hl]
  rw [h3]
  simp [BV, List.getElem?_eq_getElem hl]
/-- What the text's row holds when m blocks are done. -/
def mid (t : ByteArray) (K : Nat → Nat) (m j : Nat) : Nat := if j < 64 * m then bN t j ^^^ K j else bN t j
theorem mid_lt (t : ByteArray) (K : Nat → Nat) (hK : ∀ j, K j < 256) (m j : Nat) : mid t K m j < 256 := by
  unfold mid
  split
  · exact Nat.xor_lt_two_pow (n := 8) (bN_lt _ _) (hK j)
  · exact bN_lt _ _

theorem mid_next (t : ByteArray) (K : Nat → Nat) (m n pp : Nat) (ys zs : List Value) (hpp : pp = 64 * m) (hn : n ≤ 64) (hend : ∀ j, j < t.size → pp + n ≤ j → 64 * (m + 1) ≤ j)
    (h0 : ∀ j, j < t.size → ys[j]? = some (.int .u8 ((mid t K m j : Nat) : Int))) (h1 : ∀ j, j < n → zs[pp + j]? = some (.int .u8 ((mid t K m (pp + j) ^^^ K (pp + j) : Nat) : Int)))
    (h2 : ∀ j, (j < pp ∨ pp + n ≤ j) → zs[j]? = ys[j]?) : ∀ j, j < t.size → zs[j]? = some (.int .u8 ((mid t K (m + 1) j : Nat) : Int)) := by
  intro j hj
  by_cases ha : j < pp
  · rw [h2 j (.inl ha), h0 j hj]
    unfold mid
    rw [if_pos (by omega), if_pos (by omega)]
  · by_cases hb : pp + n ≤ j
    · rw [h2 j (.inr hb), h0 j hj]
      have := hend j hj hb
      unfold mid
      rw [if_neg (by omega), if_neg (by omega)]
    · obtain ⟨i, rfl⟩ : ∃ i, j = pp + i := ⟨j - pp, by omega⟩
      rw [h1 i (by omega)]
      unfold mid
      rw [if_neg (by omega), if_pos (by omega)]


set_option maxRecDepth 100000 in
set_option maxHeartbeats 3200000 in
theorem chaXor (key nonce : ByteArray) (h1 : key.size = 32) (h2 : nonce.size = 12) (count : Nat) (hcm : count ≤ 1000000000) (t : ByteArray) (ht : t.size ≤ 65536) (w : World) :
    Calls Tryz.prog 39 #[.string key, .string nonce, .int .i64 (count : Int), .string t] w fun e w' => e = .returned (.string (xorS key nonce count t)) ∧ Below w.heap.size w w' := by
  have HF := Lib.hid (ChaFirst.firstWords key nonce h1 h2 count (by omega))
  have HWOK := Lib.hid (fun c => first_ok key nonce c)
  have HWN := Lib.hid (next_words key nonce)
  have HW12 := Lib.hid (word12 key nonce)
  have HBB := Lib.hid (blk_byte key nonce count)
  have HOUT := Lib.hid (fun c u => ChaOut.chaBytes (first key nonce c) (first_ok key nonce c) u)
  have HLEN := Lib.hid (fun c => Cha.blk_length (first key nonce c))
  have HKL := Lib.hid (ks_lt key nonce count)
  have HRES := Lib.hid (show xorS key nonce count t = ⟨(xb (bN t) (ks key nonce count) t.size).toArray⟩ from rfl)
  obtain ⟨BL, hBL⟩ : ∃ BL : Nat → List UInt8, ∀ c, Cha.blk (first key nonce c) = BL c := ⟨_, fun _ => rfl⟩
  simp only [hBL] at HBB HOUT HLEN
  clear hBL
  obtain ⟨FW, hFW⟩ : ∃ FW : Nat → List Nat, ∀ c, first key nonce c = FW c := ⟨_, fun _ => rfl⟩
  simp only [hFW] at HF HWOK HWN HW12 HOUT
  clear hFW
  generalize xorS key nonce count t = RES at *
  generalize ks key nonce count = K at *
  clear h1 h2
  have HI0 := Lib.hid (infoUV (HWOK.out count))
  have H10 := Lib.hid (c32_one (FW count))
  have HZ0 := Lib.hid (show (c32 (FW count)).toArray.size = 16 by rw [List.size_toArray, c32_len, (HWOK.out count).len])
  go_enter Tryz.func39, Tryz.ntmps39
  go_wp2_with fail
  refine (HF.out _).mono ?_
  rintro e w1 ⟨rfl, hb1⟩
  have HB1 := Lib.hid hb1
  clear hb1 HF
  have HFACT := Lib.hid (fun (z : Array Value) (W3 : World) (h : (w1.alloc (.cells z 91)).setCells w1.heap.size 0 (c32 (FW count)).toArray.toList = W3) (hz : z.size = 16) => store_words w w1 z (FW count) (HWOK.out count) W3 h hz HB1.out)
  go_upto_region 2 with (((with_reducible show wpList _ _ _ _ _ _); refine wpList_store_mid rfl 91 _ _ rfl w1.heap.size 0 (c32 (FW count)).toArray rfl rfl (ChaBlk.there_new _ _ _ _ (by rw [HZ0.out]; rfl)) HI0.out H10.out ?_; generalize hW3 : World.setCells _ _ _ _ = W3; have HF3 := Lib.hid (HFACT.out _ W3 hW3 (by rfl)); clear hW3))
  clear HFACT HI0 H10 HZ0
  have k1 := Lib.run_convert_string_bytes (P := Tryz.prog) W3 9 22 5 t Tryz.underlying9 Tryz.underlying22 Tryz.underlying5
  obtain ⟨g1, hg1⟩ : ∃ g, w1.heap.size = g := ⟨_, rfl⟩
  obtain ⟨g2, hg2⟩ : ∃ g, W3.heap.size = g := ⟨_, rfl⟩
  have HG := Lib.hid (show w.heap.size ≤ g1 ∧ g1 < g2 from ⟨by rw [← hg1]; exact HB1.out.size, by rw [← hg1, ← hg2]; exact HF3.out.2.2⟩)
  obtain ⟨fr, L0, hL0, hfr, HR0⟩ : ∃ (fr : Nat × Nat) (L0 : List Value), t.size ≤ L0.length ∧ t.size ≤ fr.1 ∧ (RowF (Lib.bytesWorld W3 5 t) g2 5 fr L0 ∧ (∀ j, j < t.size → L0[j]? = some (.int .u8 ((bN t j : Nat) : Int))) ∧ Row (Lib.bytesWorld W3 5 t) g1 91 (c32 (FW count)) ∧ Below w.heap.size w (Lib.bytesWorld W3 5 t) ∧ g2 < (Lib.bytesWorld W3 5 t).heap.size) := by
    refine ⟨((Lib.bytesCells W3 5 t).size, (Lib.bytesCells W3 5 t).size + 1), (Lib.bytesCells W3 5 t).toList, ?_, bytes_size W3 t, ?_, fun j hj => bytes_at W3 t j hj, ?_, ?_, ?_⟩
    · simpa using bytes_size W3 t
    · rw [← hg2]; exact Lib.bytesWorld_at_new W3 5 t
    · rw [← hg1]; exact HF3.out.1.below (bytes_below W3 t) HF3.out.2.2
    · exact HF3.out.2.1.trans ((bytes_below W3 t).mono HF3.out.2.1.size)
    · rw [Lib.bytesWorld_size, hg2]; omega
  have HRR := Lib.hid HR0
  have HLL := Lib.hid (And.intro hL0 hfr)
  clear HR0 hL0 hfr
  generalize Lib.bytesWorld W3 5 t = W4 at *
  have hcp : t.size ≤ grownCap W3 t.size 0 5 := grownCap_ge _ _ _ _
  generalize grownCap W3 t.size 0 5 = cp at *
  rw [hg1, hg2] at *
  go_wp2
  clear k1 HF3 HB1
  go_loopw [11] (fun i wz => ∃ (m pp : Nat) (ys : List Value) (wr : World), wr = wz ∧ i = .int .i64 (pp : Int) ∧ Hid (pp = 64 * m ∧ pp < t.size + 64) ∧ Hid (RowF wr g2 5 fr ys ∧ ys.length = L0.length ∧ (∀ j, j < t.size → ys[j]? = some (.int .u8 ((mid t K m j : Nat) : Int))) ∧ Row wr g1 91 (c32 (FW (count + m))) ∧ Below w.heap.size w wr ∧ g2 < wr.heap.size)) (fun i _ => t.size + 64 - (intOf i).toNat)
  case atStart => exact ⟨0, 0, L0, _, rfl, rfl, Lib.hid ⟨rfl, by omega⟩, Lib.hid ⟨HRR.out.1, rfl, fun j hj => HRR.out.2.1 j hj, HRR.out.2.2⟩⟩
  case round =>
  clear HRR
  obtain ⟨m, pp, ys, wr, rfl, rfl, HM, HX⟩ := hrel
  by_cases hlt : pp < t.size
  · have hlt2 : decide ((pp : Int) < (t.size : Int)) = true := decide_eq_true (by omega)
    obtain ⟨c, ec⟩ : ∃ c, count + m = c := ⟨_, rfl⟩
    have HBC := Lib.hid (HBB.out m)
    have hc2 : c ≤ 1000002000 := by have := HM.out; omega
    rw [ec] at HX HBC
    have HC := Lib.hid ec
    clear ec
    have HCO := Lib.hid (HOUT.out c)
    have HL64 := Lib.hid (HLEN.out c)
    have HWC := Lib.hid (HWOK.out c)
    have HWNC := Lib.hid (HWN.out c)
    have HW12C := Lib.hid (HW12.out c)
    have HRW := Lib.hid HX.out.2.2.2.1
    generalize BL c = us at *
    have HIC := Lib.hid (infoUV HWC.out)
    generalize hws : FW c = ws at *
    clear hws
    go_wp2_with (((with_reducible show wpList _ _ _ _ _ _); refine wpList_load_row rfl 91 _ rfl g1 rfl 91 _ (0, 0) _ HRW.out Tryz.underlying91 rfl HIC.out ?_))
    refine (HCO.out _).mono ?_
    rintro e w5 ⟨rfl, hb5⟩
    have HX5 := Lib.hid (show RowF w5 g2 5 fr ys ∧ Row w5 g1 91 (c32 ws) ∧ Below w.heap.size w w5 ∧ g2 < w5.heap.size from
      ⟨(hb5.block g2 HX.out.2.2.2.2.2).trans HX.out.1, HX.out.2.2.2.1.below hb5 (by have := HX.out.2.2.2.2.2; have := HG.out; omega), HX.out.2.2.2.2.1.trans (hb5.mono HX.out.2.2.2.2.1.size), Nat.lt_of_lt_of_le HX.out.2.2.2.2.2 hb5.size⟩)
    clear hb5 HRW
    have HI6 := Lib.hid (show (Tryz.prog.info? 93).map (·.size) = some (BV us).toArray.size by rw [List.size_toArray, Bytes.BV_length, HL64.out]; exact ChaOut.info64)
    have H16 := Lib.hid (show (BV us).toArray.all (·.oneCell') = true from all_oneCell_toArray (Bytes.BV_one us))
    have HS6 := Lib.hid (show (BV us).toArray.size = 64 by rw [List.size_toArray, Bytes.BV_length, HL64.out])
    have HFACT := Lib.hid (fun (z : Array Value) (W3 : World) (h : (w5.alloc (.cells z 93)).setCells w5.heap.size 0 (BV us).toArray.toList = W3) (hz : z.size = 64) => ChaBlk.store_new w5 w5 z us W3 h hz HL64.out (Below.refl _ _))
    go_upto_region 7 with (((with_reducible show wpList _ _ _ _ _ _); refine wpList_store_mid rfl 93 _ _ rfl w5.heap.size 0 (BV us).toArray rfl rfl (ChaBlk.there_new _ _ _ _ (by rw [HS6.out]; rfl)) HI6.out H16.out ?_; generalize hW6 : World.setCells _ _ _ _ = W6; have HF6 := Lib.hid (HFACT.out _ W6 hW6 (by rfl)); clear hW6))
    clear HFACT HI6 H16 HS6
    obtain ⟨g3, hg3⟩ : ∃ g, w5.heap.size = g := ⟨_, rfl⟩
    have HX6 := Lib.hid (show RowF W6 g2 5 fr ys ∧ Row W6 g1 91 (c32 ws) ∧ Row W6 g3 93 (BV us) ∧ Below w.heap.size w W6 ∧ g2 < g3 ∧ g3 < W6.heap.size from
      ⟨(HF6.out.2.block g2 HX5.out.2.2.2).trans HX5.out.1, HX5.out.2.1.below HF6.out.2 (by have := HX5.out.2.2.2; have := HG.out; omega), by rw [← hg3]; exact HF6.out.1, HX5.out.2.2.1.trans (HF6.out.2.mono HX5.out.2.2.1.size), by rw [← hg3]; exact HX5.out.2.2.2, by rw [← hg3]; exact HF6.out.1.lt⟩)
    rw [hg3]
    clear HF6 HX5 hg3
    have hp1 : (pp : Int) ≤ (t.size : Int) := by omega
    have hp0 : (0 : Int) ≤ (pp : Int) := by omega
    have hcp2 : (t.size : Int) ≤ (cp : Int) := by omega
    obtain ⟨q, eq⟩ : ∃ q, pp + 64 = q := ⟨_, rfl⟩
    have i64 : (pp : Int) + 64 = (q : Int) := by omega
    have wq : IntKind.i64.wrap (q : Int) = q := by rw [IntKind.wrap_i64]; omega
    have hpq : (pp : Int) ≤ (q : Int) := by omega
    have hq0 : (0 : Int) ≤ (q : Int) := by omega
    have HQ := Lib.hid eq
    clear eq
    have hne : ¬ cp = pp := by omega
    have HBY := Lib.hid (show ∀ j, j < 64 → W6.drew.cell? ⟨g3, 0 + j, none⟩ = some (.int .u8 ((K (pp + j) : Nat) : Int)) from fun j hj => by
      rw [Nat.zero_add]
      have h1 := (HX6.out.2.2.1.drew.cell j).trans (HBC.out j hj)
      rw [h1, HM.out.1])
    obtain ⟨cn, ecn⟩ : ∃ n, (c + 1) % 4294967296 = n := ⟨_, rfl⟩
    rw [ecn] at HWNC
    have hcw : IntKind.u32.wrap (((c % 4294967296 : Nat) : Int) + 1) = (cn : Int) := by rw [IntKind.wrap_u32', ← ecn]; omega
    clear ecn
    by_cases hfull : q < t.size
    · have hf2 : (q : Int) < (t.size : Int) := by omega
      have hf3 : (q : Int) ≤ (cp : Int) := by omega
      go_region_with ((go_at_call 55; refine (XorInto.xorInto g2 pp (q - pp) _ g3 0 64 _ 5 fr ys (fun j => mid t K m (pp + j)) (fun j => K (pp + j)) (by have := HX6.out.2.2.2.2.1; omega) (by have := HQ.out; omega) (by omega) W6.drew HX6.out.1.drew (.inl (by have := HLL.out.2; have := HQ.out; omega)) (fun j hj => HX.out.2.2.1 (pp + j) (by have := HQ.out; omega)) (fun j => mid_lt t K HKL.out m _) (fun j hj => HBY.out j (by have := HQ.out; omega)) (fun j => HKL.out _)).mono ?_; rintro e w7 ⟨rfl, H7⟩))
      have HY := H7.out
      obtain ⟨ho, zs, hr7, hl7, h17, h27⟩ := HY
      have HNXT := Lib.hid (mid_next t K m (q - pp) pp ys zs HM.out.1 (by have := HQ.out; omega) (fun j hj hjj => by have := HQ.out; have := HM.out; omega) HX.out.2.2.1 h17 h27)
      have HX7 := Lib.hid (show RowF w7 g2 5 fr zs ∧ zs.length = L0.length ∧ Row w7 g1 91 (c32 ws) ∧ Below w.heap.size w w7 ∧ g2 < w7.heap.size from
        ⟨hr7, hl7.trans HX.out.2.1, (ho.block g1 (by have := HG.out; omega)).trans HX6.out.2.1.drew, HX6.out.2.2.2.1.drew.trans (ho.below (by have := HG.out; omega)), by rw [ho.size]; exact Nat.lt_trans HX6.out.2.2.2.2.1 HX6.out.2.2.2.2.2⟩)
      have c12 := (HX7.out.2.2.1.cell 12).trans HW12C.out
      have f12 := HX7.out.2.2.1.frozen 12
      clear H7 ho hr7 hl7 h17 h27 HX6
      generalize c % 4294967296 = cm at *
      go_wp2
      go_roundw
      case rel =>
        refine ⟨m + 1, q, zs, _, rfl, by go_num, Lib.hid ⟨by have := HM.out; have := HQ.out; omega, by have := HQ.out; omega⟩, Lib.hid ⟨?_, HX7.out.2.1, HNXT.out, ?_, ?_, ?_⟩⟩
        · exact (HX7.out.1.far g1 12 _ (by have := HG.out; omega))
        · have := HX7.out.2.2.1.set 12 (.int .u32 ((cn : Nat) : Int))
          rw [HWNC.out] at this
          rw [show count + (m + 1) = c + 1 by have := HC.out; omega]
          exact this
        · exact HX7.out.2.2.2.1.setCell (show w.heap.size ≤ g1 from HG.out.1) _
        · have := HX7.out.2.2.2.2
          simpa [World.setCell] using this
      case measure => simp [intOf]; have := HQ.out; omega
    · have hf2 : decide ((q : Int) < (t.size : Int)) = false := decide_eq_false (by omega)
      have hf4 : ¬ ((q : Int) < (t.size : Int)) := by omega
      go_region_with ((go_at_call 55; refine (XorInto.xorInto g2 pp (t.size - pp) _ g3 0 64 _ 5 fr ys (fun j => mid t K m (pp + j)) (fun j => K (pp + j)) (by have := HX6.out.2.2.2.2.1; omega) (by have := HQ.out; omega) (by omega) W6.drew HX6.out.1.drew (.inl (by have := HLL.out.2; have := HQ.out; omega)) (fun j hj => HX.out.2.2.1 (pp + j) (by have := HQ.out; omega)) (fun j => mid_lt t K HKL.out m _) (fun j hj => HBY.out j (by have := HQ.out; omega)) (fun j => HKL.out _)).mono ?_; rintro e w7 ⟨rfl, H7⟩))
      have HY := H7.out
      obtain ⟨ho, zs, hr7, hl7, h17, h27⟩ := HY
      have HNXT := Lib.hid (mid_next t K m (t.size - pp) pp ys zs HM.out.1 (by have := HQ.out; omega) (fun j hj hjj => by have := HQ.out; have := HM.out; omega) HX.out.2.2.1 h17 h27)
      have HX7 := Lib.hid (show RowF w7 g2 5 fr zs ∧ zs.length = L0.length ∧ Row w7 g1 91 (c32 ws) ∧ Below w.heap.size w w7 ∧ g2 < w7.heap.size from
        ⟨hr7, hl7.trans HX.out.2.1, (ho.block g1 (by have := HG.out; omega)).trans HX6.out.2.1.drew, HX6.out.2.2.2.1.drew.trans (ho.below (by have := HG.out; omega)), by rw [ho.size]; exact Nat.lt_trans HX6.out.2.2.2.2.1 HX6.out.2.2.2.2.2⟩)
      have c12 := (HX7.out.2.2.1.cell 12).trans HW12C.out
      have f12 := HX7.out.2.2.1.frozen 12
      clear H7 ho hr7 hl7 h17 h27 HX6
      generalize c % 4294967296 = cm at *
      go_wp2
      go_roundw
      case rel =>
        refine ⟨m + 1, q, zs, _, rfl, by go_num, Lib.hid ⟨by have := HM.out; have := HQ.out; omega, by have := HQ.out; omega⟩, Lib.hid ⟨?_, HX7.out.2.1, HNXT.out, ?_, ?_, ?_⟩⟩
        · exact (HX7.out.1.far g1 12 _ (by have := HG.out; omega))
        · have := HX7.out.2.2.1.set 12 (.int .u32 ((cn : Nat) : Int))
          rw [HWNC.out] at this
          rw [show count + (m + 1) = c + 1 by have := HC.out; omega]
          exact this
        · exact HX7.out.2.2.2.1.setCell (show w.heap.size ≤ g1 from HG.out.1) _
        · have := HX7.out.2.2.2.2
          simpa [World.setCell] using this
      case measure => simp [intOf]; have := HQ.out; omega
  have hge : decide ((pp : Int) < (t.size : Int)) = false := decide_eq_false (by omega)
  have kc := run_convert_bytes_back (P := Tryz.prog) wr 22 9 5 ⟨g2, 0, none⟩ cp (xb (bN t) K t.size) Tryz.underlying22 Tryz.underlying5 Tryz.underlying9 (fun j hj => by
    rw [xb_length] at hj
    have hadd : (⟨g2, 0, none⟩ : Addr).add j = ⟨g2, j, none⟩ := by unfold Addr.add; split <;> simp_all
    have h1 := HX.out.2.2.1 j hj
    unfold mid at h1
    rw [if_pos (by have := HM.out; omega)] at h1
    rw [hadd, HX.out.1.cell, h1, xb_at _ _ _ _ hj (bN_lt _ _) (HKL.out _)])
  rw [xb_length] at kc
  go_wp2
  go_ret
  exact ⟨by rw [HRES.out]; rfl, HX.out.2.2.2.2.1⟩

end Go.Proofs.YtggobhpjfflooaaGreatDoor.ChaXorI
