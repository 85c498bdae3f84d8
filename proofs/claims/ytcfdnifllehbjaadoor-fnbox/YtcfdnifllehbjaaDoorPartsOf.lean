/-
  What is proved: the program's five parts of a text of at most 17 bytes are the plain ones (contract for the walks).
-/
import Derived.Test.YtcfdnifllehbjaaDoorRows
import Derived.Test.YtcfdnifllehbjaaDoorCarried
namespace Go.Proofs.YtcfdnifllehbjaaDoor.PartsOf
open Go.ChangeShapes Go.WideShapes Go.ChangeAt Go.RowKit
open Arr (Row)
open Five Poly
open Word (bN bN_lt bN_at)
set_option linter.unusedVariables false

theorem raw_set (f : Nat → Nat) (i q s : Nat) (hi : i < 17) (hq : 8 * i / 26 = q) (hs : raw f i q + f i * 2 ^ (8 * i % 26) = s) :
    (cn .u64 (raw f i)).set q (.int .u64 (s : Int)) = cn .u64 (raw f (i + 1)) := by
  refine cn_set .u64 _ _ q _ (by omega) ?_ ?_
  · show (s : Int) = ((if 8 * i / 26 = q then raw f i q + f i * 2 ^ (8 * i % 26) else raw f i q : Nat) : Int)
    rw [if_pos hq, hs]
  · intro j hj hne
    show _ = (if 8 * i / 26 = j then raw f i j + f i * 2 ^ (8 * i % 26) else raw f i j : Nat)
    rw [if_neg (by omega)]

set_option maxRecDepth 100000 in
set_option maxHeartbeats 1600000 in
theorem partsOf (t : ByteArray) (ht : t.size ≤ 17) (w : World) :
    Calls Tryd.prog 54 #[.string t] w fun e' w' => e' = .returned (.agg (cn .u64 (dg (raw (bN t) t.size))).toArray) ∧ Below w.heap.size w w' := by
  have HC := Lib.hid (Carried.carried _ (raw_small (bN_lt t) t.size ht))
  have HRL := Lib.hid (raw_le (bN_lt t))
  have HRS := Lib.hid (raw_set (bN t))
  have ht0 : (t.size : Int) ≤ 17 := by omega
  go_enter Tryd.func54, Tryd.ntmps54
  have HW := Lib.hid (Arr.two_new w)
  go_wp2
  generalize hW : (w.alloc _).alloc _ = W
  obtain ⟨z1, hz1, R0, R1, HB, hsz⟩ : ∃ z1 : List Value, z1.length = 5 ∧ Row W w.heap.size 76 z1 ∧ Row W (w.heap.size + 1) 76 (cn .u64 (raw (bN t) 0)) ∧ Below w.heap.size w W ∧ w.heap.size + 2 ≤ W.heap.size := by
    rw [← hW]
    exact ⟨_, rfl, HW.out _ _ _ _⟩
  clear hW HW
  have Z1 := Lib.hid hz1
  have RR := Lib.hid (show Row W w.heap.size 76 z1 ∧ Row W (w.heap.size + 1) 76 (cn .u64 (raw (bN t) 0)) ∧ Below w.heap.size w W ∧ w.heap.size + 2 ≤ W.heap.size from ⟨R0, R1, HB, hsz⟩)
  clear hz1 R0 R1 HB hsz
  go_loopw [7] (fun i wr => ∃ k : Nat, k ≤ t.size ∧ i = .int .i64 k ∧ Hid (Row wr w.heap.size 76 z1 ∧ Row wr (w.heap.size + 1) 76 (cn .u64 (raw (bN t) k)) ∧ Below w.heap.size w wr ∧ w.heap.size + 2 ≤ wr.heap.size)) (fun i _ => t.size - (intOf i).toNat)
  case atStart => exact ⟨0, by omega, rfl, RR⟩
  case round =>
    rename_i wr
    clear RR
    obtain ⟨k, hk, rfl, HX⟩ := hrel
    by_cases hlt : k < t.size
    · obtain ⟨q, eq⟩ : ∃ q, 8 * k / 26 = q := ⟨_, rfl⟩
      obtain ⟨r, er⟩ : ∃ r, 8 * k % 26 = r := ⟨_, rfl⟩
      obtain ⟨p, ep⟩ : ∃ p, 8 * k = p := ⟨_, rfl⟩
      have hq : q < 5 := by omega
      have hr : r < 26 := by omega
      have c0 := HX.out.2.1.cell q
      rw [cn_at .u64 _ q hq] at c0
      have f0 := HX.out.2.1.frozen q
      have i1 : (k : Int) < (t.size : Int) := by omega
      have i0 : (0 : Int) ≤ (k : Int) := by omega
      have e0 : (8 : Int) * (k : Int) = (p : Int) := by omega
      have e1 : (p : Int) / 26 = (q : Int) := by omega
      have e1t : (p : Int).tdiv 26 = (q : Int) := by rw [Int.tdiv_eq_ediv_of_nonneg (by omega)]; omega
      have e2 : (p : Int) % 26 = (r : Int) := by omega
      have e2t : (p : Int).tmod 26 = (r : Int) := by rw [Int.tmod_eq_emod_of_nonneg (by omega)]; omega
      have wp : IntKind.i64.wrap (p : Int) = p := by rw [IntKind.wrap_i64]; omega
      have wq : IntKind.i64.wrap (q : Int) = q := by rw [IntKind.wrap_i64]; omega
      have wr1 : IntKind.i64.wrap (r : Int) = r := by rw [IntKind.wrap_i64]; omega
      have q1 : (q : Int) < 5 := by omega
      have q0 : (0 : Int) ≤ (q : Int) := by omega
      have r0 : (0 : Int) ≤ (r : Int) := by omega
      have y0 : t[k].toNat = bN t k := bN_at t k hlt
      have hb := bN_lt t k
      have hpw : 2 ^ r ≤ 33554432 := by rw [← er]; exact pow_le k
      have hxl := Nat.mul_le_mul (Nat.le_of_lt hb) hpw
      have HSET := Lib.hid (fun s hs => HRS.out k q s (by omega) eq hs)
      have hol := HRL.out k q
      have hol2 : raw (bN t) k q ≤ 17 * 8589934592 := Nat.le_trans hol (Nat.mul_le_mul_right _ (by omega))
      rw [er] at HSET
      obtain ⟨x, ex⟩ : ∃ x, bN t k * 2 ^ r = x := ⟨_, rfl⟩
      rw [ex] at HSET hxl
      have wb : IntKind.u64.wrap (bN t k : Int) = (bN t k : Int) := u64_wrap _ (by omega)
      have hsh : IntKind.u64.wrap ((bN t k : Int) * 2 ^ r) = (x : Int) := by
        have e10 : (bN t k : Int) * 2 ^ r = (x : Int) := by rw [← ex]; simp
        rw [e10, u64_wrap x (by omega)]
      generalize raw (bN t) k q = o at *
      have hwo : IntKind.u64.wrap ((o : Int) + (x : Int)) = ((o + x : Nat) : Int) := by rw [← u64_wrap (o + x) (by omega)]; rfl
      generalize o + x = s at *
      generalize bN t k = bk at *
      clear hol hol2 hxl hpw ex er ep eq hq hr
      have q2 : ∀ k', (World.mk wr.heap wr.tape k' wr.os wr.output).cell? ⟨w.heap.size + 1, q, none⟩ = some (.int .u64 (o : Int)) := fun _ => c0
      go_wp2
      go_still_tail 15, (by kernel_rfl)
      clear q2
      change wpList _ _ _ _ _ wr.drew
      go_wp2
      go_roundw
      case rel =>
        obtain ⟨h1, h2, h3, h4⟩ := HX.out
        refine ⟨k + 1, by omega, by go_num, Lib.hid ⟨(h1.set_far _ _ _ (by omega)).drew, ?_, (h3.setCell (show w.heap.size ≤ w.heap.size + 1 by omega) _).drew, by rw [show ∀ (x : World), x.drew.heap.size = x.heap.size from fun _ => rfl]; simp [World.setCell]; exact h4⟩⟩
        rw [← HSET.out s rfl]
        exact (h2.set q _).drew
      case measure => simp [intOf]; omega
    · obtain rfl : k = t.size := by omega
      obtain ⟨h1, h2, h3, h4⟩ := HX.out
      have HR0 := Lib.hid h1
      have HR1 := Lib.hid h2
      have HBB := Lib.hid h3
      have HI0 := Lib.hid (infoU (raw (bN t) t.size))
      have HL0 := Lib.hid (cn_len .u64 (raw (bN t) t.size))
      have HID := Lib.hid (infoU (dg (raw (bN t) t.size)))
      have HOD := Lib.hid (cn_one .u64 (dg (raw (bN t) t.size)))
      have HLD := Lib.hid (cn_len .u64 (dg (raw (bN t) t.size)))
      have HTD := Lib.hid (fun (w : World) g t1 xs (h : Row w g t1 xs) hl => there_row h hl .u64 (dg (raw (bN t) t.size)))
      have HSD := Lib.hid (fun (w : World) g t1 xs (h : Row w g t1 xs) hl => sets_row h hl .u64 (dg (raw (bN t) t.size)))
      clear h1 h2 h3 HX HRL HRS
      generalize ov (raw (bN t) t.size) 5 = o5 at *
      generalize hus : cn .u64 (dg (raw (bN t) t.size)) = ds at *
      have HUS := Lib.hid hus
      clear hus
      generalize cn .u64 (raw (bN t) t.size) = ys at *
      go_wp2_with (((with_reducible show wpList _ _ _ _ _ _); refine wpList_load_row rfl 76 _ rfl (w.heap.size + 1) rfl 76 _ (0, 0) _ HR1.out Tryd.underlying76 rfl HI0.out ?_))
      refine (HC.out _).mono ?_
      rintro e' w1 ⟨rfl, hb⟩
      have HQ0 := Lib.hid (HR0.out.below hb (by omega))
      have HQ1 := Lib.hid (HR1.out.below hb (by omega))
      have HQB := Lib.hid (HBB.out.trans (hb.mono (by omega)))
      clear hb HR0 HR1 HBB
      have HT1 := Lib.hid (HTD.out _ _ _ _ HQ1.out HL0.out)
      have HS1 := Lib.hid (HSD.out _ _ _ _ HQ1.out HL0.out)
      have HS0 := Lib.hid (HQ0.out.sets_far (show w.heap.size ≠ w.heap.size + 1 by omega) ds 0 w1)
      have HSB := Lib.hid (Arr.below_sets (B := w.heap.size) (a := w) (w.heap.size + 1) (by omega) ds 0 w1 HQB.out)
      go_upto_region 8 with (((with_reducible show wpList _ _ _ _ _ _); refine wpList_store_mid rfl 76 _ _ rfl (w.heap.size + 1) 0 ds.toArray rfl rfl HT1.out HID.out HOD.out ?_; simp only []))
      generalize w1.setCells (w.heap.size + 1) 0 ds = W2 at *
      have HT := Lib.hid (HTD.out _ _ _ _ HS0.out Z1.out)
      have HRES := Lib.hid (HSD.out _ _ _ _ HS0.out Z1.out)
      have HBF := Lib.hid (Arr.below_sets (B := w.heap.size) (a := w) w.heap.size (Nat.le_refl _) ds 0 W2 HSB.out)
      go_wp2_with (first
        | ((with_reducible show wpList _ _ _ _ _ _); refine wpList_load_row rfl 76 _ rfl (w.heap.size + 1) rfl 76 _ (0, 0) _ HS1.out Tryd.underlying76 rfl HID.out ?_)
        | ((with_reducible show wpList _ _ _ _ _ _); refine wpList_store_mid rfl 76 _ _ rfl w.heap.size 0 ds.toArray rfl rfl HT.out HID.out HOD.out ?_))
      refine bodyPost_ret (v := .agg ds.toArray) ?_ rfl ⟨by rw [HUS.out], HBF.out⟩
      exact results_cell_row rfl _ _ w.heap.size 76 _ (0, 0) _ rfl HRES.out Tryd.underlying76 rfl HID.out
end Go.Proofs.YtcfdnifllehbjaaDoor.PartsOf
