/-
  What is proved: the program's tag is the plain one (contract for the walks).
-/
import Derived.Test.YtggobhpjfflooaaGreatDoorRows
import Derived.Test.YtggobhpjfflooaaGreatDoorPolyA
namespace Go.Proofs.YtggobhpjfflooaaGreatDoor.PolyTagI
open Go.ChangeShapes Go.WideShapes Go.ChangeAt Go.RowKit
open Arr (Row)
open Five Poly PolyN
open Clamp (clT)
open Word (bN bN_lt bN_at)
set_option linter.unusedVariables false

/-- The program's parts of a text. -/
def prt (s : ByteArray) : Nat → Nat := dg (raw (bN s) s.size)
theorem prt_lt (s : ByteArray) (j : Nat) : prt s j < 67108864 := dg_lt _ _
theorem prt_val (s : ByteArray) (h : s.size ≤ 17) (h16 : bN s 16 < 4) : val (prt s) = num s := by
  unfold prt
  rw [val_dg_mod, raw_val _ _ h]
  exact Nat.mod_eq_of_lt (num_lt s h h16)
theorem new_row (w : World) (v : Nat → Nat) (cs : Array Value) (hcs : cs.size = 5) : (w.alloc (.cells cs 118)).there w.heap.size 0 (cn .u64 v).toArray.size ∧
    Row ((w.alloc (.cells cs 118)).setCells w.heap.size 0 (cn .u64 v)) w.heap.size 118 (cn .u64 v) := Reduced.new_row w .u64 v _ cs hcs
theorem bl_mod (X : Nat) : TagBytes.bl (X % 1361129467683753853853498429727072845824) = TagBytes.bl X := by
  refine TagBytes.bl_congr fun i hi => ?_
  have e : (1361129467683753853853498429727072845824 : Nat) = 256 ^ i * (256 * (4 * 256 ^ (15 - i))) := by
    refine cases17 (p := fun i => i < 16 → (1361129467683753853853498429727072845824 : Nat) = 256 ^ i * (256 * (4 * 256 ^ (15 - i)))) ?_ i (by omega) hi
    simp
  rw [e, Nat.mod_mul_right_div_self, Nat.mod_mul_right_mod]
theorem bcell {W w1 : World} (hb : Below W.heap.size W w1) : (∀ b o, b < W.heap.size → w1.cell? ⟨b, o, none⟩ = W.cell? ⟨b, o, none⟩) ∧ (∀ b o, b < W.heap.size → w1.frozen? ⟨b, o, none⟩ = W.frozen? ⟨b, o, none⟩) :=
  ⟨fun b o h => hb.cell (p := ⟨b, o, none⟩) h, fun b o h => hb.frozen (p := ⟨b, o, none⟩) h⟩
theorem row_cells {w : World} {g : Nat} {t : TypeId} {v : Nat → Nat} (h : Row w g t (cn .u64 v)) : w.cell? ⟨g, 0, none⟩ = some (.int .u64 (v 0 : Int)) ∧ w.cell? ⟨g, 1, none⟩ = some (.int .u64 (v 1 : Int)) ∧ w.cell? ⟨g, 2, none⟩ = some (.int .u64 (v 2 : Int)) ∧ w.cell? ⟨g, 3, none⟩ = some (.int .u64 (v 3 : Int)) ∧ w.cell? ⟨g, 4, none⟩ = some (.int .u64 (v 4 : Int)) :=
  ⟨h.cell 0, h.cell 1, h.cell 2, h.cell 3, h.cell 4⟩
theorem row_frozen {w : World} {g : Nat} {t : TypeId} {v : Nat → Nat} (h : Row w g t (cn .u64 v)) : w.frozen? ⟨g, 0, none⟩ = false ∧ w.frozen? ⟨g, 1, none⟩ = false ∧ w.frozen? ⟨g, 2, none⟩ = false ∧ w.frozen? ⟨g, 3, none⟩ = false ∧ w.frozen? ⟨g, 4, none⟩ = false :=
  ⟨h.frozen 0, h.frozen 1, h.frozen 2, h.frozen 3, h.frozen 4⟩
theorem row_sets {w : World} {g : Nat} {t : TypeId} {v : Nat → Nat} (h : Row w g t (cn .u64 v)) (u : Nat → Nat) :
    Row (((((w.setCell ⟨g, 0, none⟩ (.int .u64 (u 0 : Int))).setCell ⟨g, 1, none⟩ (.int .u64 (u 1 : Int))).setCell ⟨g, 2, none⟩ (.int .u64 (u 2 : Int))).setCell ⟨g, 3, none⟩ (.int .u64 (u 3 : Int))).setCell ⟨g, 4, none⟩ (.int .u64 (u 4 : Int))) g t (cn .u64 u) :=
  ((((h.set 0 _).set 1 _).set 2 _).set 3 _).set 4 _
/-- What a round leaves. -/
structure Inv (w wr : World) (gf gh : Nat) (rv : Nat → Nat) (r : Nat) (t : ByteArray) (k : Nat) (v : Nat → Nat) : Prop where
  f : Row wr gf 118 (cn .u64 rv)
  h : Row wr gh 118 (cn .u64 v)
  below : Below w.heap.size w wr
  half : Half v
  num : val v % P = hN r t k
  lf : w.heap.size ≤ gf
  fh : gf < gh
  lh : gh < wr.heap.size

set_option maxRecDepth 100000 in
set_option maxHeartbeats 16000000 in
theorem polyTag (key t : ByteArray) (hk : key.size = 32) (ht : t.size ≤ 1000000) (w : World) :
    Calls Tryz.prog 58 #[.string key, .string t] w fun e' w' => e' = .returned (.string (tagT key t)) ∧ Below w.heap.size w w' := by
  have HCL := Lib.hid (Clamp.clamped key (by omega) (by omega))
  have HPF := Lib.hid (PartsOf.partsOf (clT key) (by rw [Clamp.clT_size]; omega))
  have HRV := Lib.hid (show val (prt (clT key)) = fac key from prt_val _ (by rw [Clamp.clT_size]; omega) (by rw [bN_zero _ 16 (by rw [Clamp.clT_size]; omega)]; omega))
  have HRL := Lib.hid (prt_lt (clT key))
  have HPRT := Lib.hid (show dg (raw (bN (clT key)) (clT key).size) = prt (clT key) from rfl)
  rw [HPRT.out] at HPF
  clear HPRT
  generalize prt (clT key) = rv at *
  generalize clT key = CL at *
  have HT0 := Lib.hid ht
  have HK0 := Lib.hid hk
  have HNF := Lib.hid (fun w cs hcs => new_row w rv cs hcs)
  have HIF := Lib.hid (infoU rv)
  have HOF := Lib.hid (cn_one .u64 rv)
  have hti : (t.size : Int) ≤ 1000000 := by omega
  have hki : (key.size : Int) = 32 := by omega
  clear hk
  have HTG := Lib.hid (show tagT key t = ⟨(TagBytes.bl (hN (fac key) t (pcs t) + num (tail key))).toArray⟩ from rfl)
  generalize tagT key t = TG at *
  generalize fac key = r at *
  go_enter Tryz.func58, Tryz.ntmps58
  go_wp2_with fail
  refine (HCL.out _).mono ?_
  rintro e' w1 ⟨rfl, hb1⟩
  go_wp2_with fail
  refine (HPF.out _).mono ?_
  rintro e' w2 ⟨rfl, hb2⟩
  have HB2 := Lib.hid (hb1.trans (hb2.mono hb1.size))
  clear hb1 hb2 HCL HPF
  go_upto_region 2 with (((with_reducible show wpList _ _ _ _ _ _); refine wpList_store_mid rfl 118 _ _ rfl w2.heap.size 0 (cn .u64 rv).toArray rfl rfl (HNF.out w2 _ rfl).1 HIF.out HOF.out ?_; simp only []))
  generalize hW3 : (w2.alloc _).setCells _ _ _ = W3
  obtain ⟨Q0, QB, qsz⟩ : Row W3 w2.heap.size 118 (cn .u64 rv) ∧ Below w.heap.size w W3 ∧ W3.heap.size = w2.heap.size + 1 := by
    rw [← hW3]
    exact ⟨(HNF.out w2 _ rfl).2, Arr.below_sets _ HB2.out.size _ _ _ (HB2.out.alloc HB2.out.size _), by rw [Arr.size_sets]; simp⟩
  have hlf := HB2.out.size
  clear hW3 HB2
  generalize w2.heap.size = gf at *
  have HQ0 := Lib.hid Q0
  have HQB := Lib.hid QB
  clear Q0 QB
  go_wp2
  generalize hW4 : W3.alloc _ = W4
  have HST : Hid (Inv w W4 gf W3.heap.size rv r t 0 (fun _ => 0)) := by
    rw [← hW4]
    exact Lib.hid ⟨HQ0.out.alloc _, Arr.row_new W3 _ _, HQB.out.alloc HQB.out.size _, half_zero, rfl, hlf, by omega, by simp⟩
  clear hW4 HQ0 HQB HNF HOF
  generalize W3.heap.size = gh at *
  subst qsz
  go_loopw [7] (fun i wz => ∃ (k p : Nat) (v : Nat → Nat) (wr : World), p ≤ t.size + 15 ∧ i = .int .i64 p ∧ wr = wz ∧ Hid (p = 16 * k) ∧ Hid (Inv w wr gf (gf + 1) rv r t k v)) (fun i _ => t.size + 16 - (intOf i).toNat)
  case atStart => exact ⟨0, 0, _, _, by omega, rfl, rfl, Lib.hid rfl, HST⟩
  case round =>
    clear HST
    obtain ⟨k, p, v, wr, hp, rfl, rfl, HP, HX⟩ := hrel
    by_cases hlt : p < t.size
    · have i1 : (p : Int) < (t.size : Int) := by omega
      have i0 : (0 : Int) ≤ (p : Int) := by omega
      obtain ⟨q, eq⟩ : ∃ q, p + 16 = q := ⟨_, rfl⟩
      have e1 : (p : Int) + 16 = (q : Int) := by omega
      have wq : IntKind.i64.wrap (q : Int) = q := by rw [IntKind.wrap_i64]; omega
      obtain ⟨b, hbm⟩ : ∃ b, min t.size q = b := ⟨_, rfl⟩
      have HPC := Lib.hid (show t.extract p b ++ one = piece t k by unfold piece; rw [← hbm, ← eq, HP.out])
      have hps : (t.extract p b).size ≤ 16 := by rw [ByteArray.size_extract]; omega
      have HPP := Lib.hid (PartsOf.partsOf (piece t k) (piece_small t k))
      have HPV := Lib.hid (prt_val (piece t k) (piece_small t k) (piece_top t k))
      have HPL := Lib.hid (prt_lt (piece t k))
      have HPRT := Lib.hid (show dg (raw (bN (piece t k)) (piece t k).size) = prt (piece t k) from rfl)
      rw [HPRT.out] at HPP
      clear HPRT
      generalize prt (piece t k) = m at *
      rw [← HPC.out] at HPP
      have HNP := Lib.hid (fun w cs hcs => new_row w m cs hcs)
      have HIP := Lib.hid (infoU m)
      have HOP := Lib.hid (cn_one .u64 m)
      have hlh := HX.out.lh
      have HPS := Lib.hid (Wrapped.plus v m (fun j _ => by have := HX.out.half.lt j; have := HPL.out j; omega))
      have HTM := Lib.hid (Times.times (fun j => v j + m j) rv (fun j => by have := HX.out.half.lt j; have := HPL.out j; omega) HRL.out)
      have HHF := Lib.hid (fo_fo (pa_small (a := fun j => v j + m j) (b := rv) (fun j => by have := HX.out.half.lt j; have := HPL.out j; omega) HRL.out))
      have HNM := Lib.hid (show val (fo (fo (pa (fun j => v j + m j) rv 25))) % P = hN r t (k + 1) from
        hN_step r t k (val v) _ HX.out.num (by rw [val_fo_mod, val_fo_mod, pa_mod, val_add, HRV.out, HPV.out]))
      generalize fo (fo (pa (fun j => v j + m j) rv 25)) = v' at *
      by_cases hq : q < t.size
      · obtain rfl : b = q := by omega
        have q1 : (b : Int) < (t.size : Int) := by omega
        have q2 : (p : Int) ≤ (b : Int) := by omega
        have q3 : (b : Int) ≤ (t.size : Int) := by omega
        clear hbm
        go_wp2_with fail
        refine (HPP.out _).mono ?_
        rintro e' w1 ⟨rfl, hb1⟩
        go_upto_region 7 with (((with_reducible show wpList _ _ _ _ _ _); refine wpList_store_mid rfl 118 _ _ rfl w1.heap.size 0 (cn .u64 m).toArray rfl rfl (HNP.out w1 _ rfl).1 HIP.out HOP.out ?_; simp only []))
        generalize hW5 : (w1.alloc _).setCells _ _ _ = W5
        obtain ⟨Q0, Q1, Q2, QB, qsz⟩ : Row W5 gf 118 (cn .u64 rv) ∧ Row W5 (gf + 1) 118 (cn .u64 v) ∧ Row W5 w1.heap.size 118 (cn .u64 m) ∧ Below w.heap.size w W5 ∧ W5.heap.size = w1.heap.size + 1 := by
          rw [← hW5]
          have hz := hb1.size
          refine ⟨((HX.out.f.below hb1 (by omega)).alloc _).sets_far (by omega) _ _ _, ((HX.out.h.below hb1 (by omega)).alloc _).sets_far (by omega) _ _ _, (HNP.out w1 _ rfl).2, Arr.below_sets _ (by have := HX.out.lf; omega) _ _ _ ((HX.out.below.trans (hb1.mono (by have := HX.out.lf; omega))).alloc (by have := HX.out.lf; omega) _), by rw [Arr.size_sets]; simp⟩
        have hz := hb1.size
        clear hW5 hb1
        generalize w1.heap.size = gp at *
        have HPS2 := Lib.hid (show ∀ u : World, Calls Tryz.prog 74 #[.agg #[.int .u64 (v 0 : Int), .int .u64 (v 1 : Int), .int .u64 (v 2 : Int), .int .u64 (v 3 : Int), .int .u64 (v 4 : Int)], .agg #[.int .u64 (m 0 : Int), .int .u64 (m 1 : Int), .int .u64 (m 2 : Int), .int .u64 (m 3 : Int), .int .u64 (m 4 : Int)]] u fun e' u' => e' = .returned (.agg (cn .u64 fun j => v j + m j).toArray) ∧ Below u.heap.size u u' from HPS.out)
        have HTM2 := Lib.hid (show ∀ u : World, Calls Tryz.prog 75 #[.agg (cn .u64 fun j => v j + m j).toArray, .agg #[.int .u64 (rv 0 : Int), .int .u64 (rv 1 : Int), .int .u64 (rv 2 : Int), .int .u64 (rv 3 : Int), .int .u64 (rv 4 : Int)]] u fun e' u' => e' = .returned (.agg #[.int .u64 (v' 0 : Int), .int .u64 (v' 1 : Int), .int .u64 (v' 2 : Int), .int .u64 (v' 3 : Int), .int .u64 (v' 4 : Int)]) ∧ Below u.heap.size u u' from HTM.out)
        generalize (cn .u64 fun j => v j + m j).toArray = sm at *
        have HQ := Lib.hid (show Row W5 gf 118 (cn .u64 rv) ∧ Row W5 (gf + 1) 118 (cn .u64 v) ∧ Below w.heap.size w W5 from ⟨Q0, Q1, QB⟩)
        obtain ⟨a0, a1, a2, a3, a4⟩ := row_cells Q0
        obtain ⟨b0, b1, b2, b3, b4⟩ := row_cells Q1
        obtain ⟨c0, c1, c2, c3, c4⟩ := row_cells Q2
        have l0 : gf + 1 < W5.heap.size := by omega
        have lw : w.heap.size ≤ gf := HX.out.lf
        clear Q0 Q1 Q2 QB HPS HTM HPP qsz
        go_region_with (first
          | (go_at_call 74; refine (HPS2.out _).mono ?_; rintro e' w6 ⟨rfl, hb6⟩; have H6 := Lib.hid (show Row w6 gf 118 (cn .u64 rv) ∧ Row w6 (gf + 1) 118 (cn .u64 v) ∧ Below w.heap.size w w6 ∧ gf + 1 < w6.heap.size from ⟨HQ.out.1.drew.below hb6 (show gf < W5.heap.size by omega), HQ.out.2.1.drew.below hb6 (show gf + 1 < W5.heap.size by omega), HQ.out.2.2.drew.trans (hb6.mono (show w.heap.size ≤ W5.heap.size by omega)), Nat.lt_of_lt_of_le l0 hb6.size⟩); obtain ⟨d0, d1, d2, d3, d4⟩ := row_cells H6.out.1; clear hb6)
          | (go_at_call 75; refine (HTM2.out _).mono ?_; rintro e' w7 ⟨rfl, hb7⟩; have H7 := Lib.hid (show Row w7 gf 118 (cn .u64 rv) ∧ Row w7 (gf + 1) 118 (cn .u64 v) ∧ Below w.heap.size w w7 ∧ gf + 1 < w7.heap.size from ⟨H6.out.1.below hb7 (by have := H6.out.2.2.2; omega), H6.out.2.1.below hb7 (by have := H6.out.2.2.2; omega), H6.out.2.2.1.trans (hb7.mono (by have := H6.out.2.2.2; omega)), Nat.lt_of_lt_of_le H6.out.2.2.2 hb7.size⟩); obtain ⟨f0, f1, f2, f3, f4⟩ := row_frozen H7.out.2.1; obtain ⟨g0, g1, g2, g3, g4⟩ := row_cells H7.out.2.1; clear hb7))
        all_goals
          go_wp2
          go_roundw
          case rel =>
            refine ⟨k + 1, b, v', _, by omega, by go_num, rfl, Lib.hid (by have := HP.out; omega), Lib.hid ⟨?_, row_sets H7.out.2.1 v', ?_, HHF.out, HNM.out, lw, by omega, by simp [World.setCell]; exact H7.out.2.2.2⟩⟩
            · exact ((((H7.out.1.set_far _ _ _ (by omega)).set_far _ _ _ (by omega)).set_far _ _ _ (by omega)).set_far _ _ _ (by omega)).set_far _ _ _ (by omega)
            · exact ((((H7.out.2.2.1.setCell (show w.heap.size ≤ gf + 1 by omega) _).setCell (show w.heap.size ≤ gf + 1 by omega) _).setCell (show w.heap.size ≤ gf + 1 by omega) _).setCell (show w.heap.size ≤ gf + 1 by omega) _).setCell (show w.heap.size ≤ gf + 1 by omega) _
          case measure => simp [intOf]; omega
      · obtain rfl : b = t.size := by omega
        have q1 : ¬ (q : Int) < (t.size : Int) := by omega
        have q2 : (p : Int) ≤ (t.size : Int) := by omega
        have q3 : (t.size : Int) ≤ (q : Int) := by omega
        clear hbm
        go_wp2_with fail
        refine (HPP.out _).mono ?_
        rintro e' w1 ⟨rfl, hb1⟩
        go_upto_region 7 with (((with_reducible show wpList _ _ _ _ _ _); refine wpList_store_mid rfl 118 _ _ rfl w1.heap.size 0 (cn .u64 m).toArray rfl rfl (HNP.out w1 _ rfl).1 HIP.out HOP.out ?_; simp only []))
        generalize hW5 : (w1.alloc _).setCells _ _ _ = W5
        obtain ⟨Q0, Q1, Q2, QB, qsz⟩ : Row W5 gf 118 (cn .u64 rv) ∧ Row W5 (gf + 1) 118 (cn .u64 v) ∧ Row W5 w1.heap.size 118 (cn .u64 m) ∧ Below w.heap.size w W5 ∧ W5.heap.size = w1.heap.size + 1 := by
          rw [← hW5]
          have hz := hb1.size
          refine ⟨((HX.out.f.below hb1 (by omega)).alloc _).sets_far (by omega) _ _ _, ((HX.out.h.below hb1 (by omega)).alloc _).sets_far (by omega) _ _ _, (HNP.out w1 _ rfl).2, Arr.below_sets _ (by have := HX.out.lf; omega) _ _ _ ((HX.out.below.trans (hb1.mono (by have := HX.out.lf; omega))).alloc (by have := HX.out.lf; omega) _), by rw [Arr.size_sets]; simp⟩
        have hz := hb1.size
        clear hW5 hb1
        generalize w1.heap.size = gp at *
        have HPS2 := Lib.hid (show ∀ u : World, Calls Tryz.prog 74 #[.agg #[.int .u64 (v 0 : Int), .int .u64 (v 1 : Int), .int .u64 (v 2 : Int), .int .u64 (v 3 : Int), .int .u64 (v 4 : Int)], .agg #[.int .u64 (m 0 : Int), .int .u64 (m 1 : Int), .int .u64 (m 2 : Int), .int .u64 (m 3 : Int), .int .u64 (m 4 : Int)]] u fun e' u' => e' = .returned (.agg (cn .u64 fun j => v j + m j).toArray) ∧ Below u.heap.size u u' from HPS.out)
        have HTM2 := Lib.hid (show ∀ u : World, Calls Tryz.prog 75 #[.agg (cn .u64 fun j => v j + m j).toArray, .agg #[.int .u64 (rv 0 : Int), .int .u64 (rv 1 : Int), .int .u64 (rv 2 : Int), .int .u64 (rv 3 : Int), .int .u64 (rv 4 : Int)]] u fun e' u' => e' = .returned (.agg #[.int .u64 (v' 0 : Int), .int .u64 (v' 1 : Int), .int .u64 (v' 2 : Int), .int .u64 (v' 3 : Int), .int .u64 (v' 4 : Int)]) ∧ Below u.heap.size u u' from HTM.out)
        generalize (cn .u64 fun j => v j + m j).toArray = sm at *
        have HQ := Lib.hid (show Row W5 gf 118 (cn .u64 rv) ∧ Row W5 (gf + 1) 118 (cn .u64 v) ∧ Below w.heap.size w W5 from ⟨Q0, Q1, QB⟩)
        obtain ⟨a0, a1, a2, a3, a4⟩ := row_cells Q0
        obtain ⟨b0, b1, b2, b3, b4⟩ := row_cells Q1
        obtain ⟨c0, c1, c2, c3, c4⟩ := row_cells Q2
        have l0 : gf + 1 < W5.heap.size := by omega
        have lw : w.heap.size ≤ gf := HX.out.lf
        clear Q0 Q1 Q2 QB HPS HTM HPP qsz
        go_region_with (first
          | (go_at_call 74; refine (HPS2.out _).mono ?_; rintro e' w6 ⟨rfl, hb6⟩; have H6 := Lib.hid (show Row w6 gf 118 (cn .u64 rv) ∧ Row w6 (gf + 1) 118 (cn .u64 v) ∧ Below w.heap.size w w6 ∧ gf + 1 < w6.heap.size from ⟨HQ.out.1.drew.below hb6 (show gf < W5.heap.size by omega), HQ.out.2.1.drew.below hb6 (show gf + 1 < W5.heap.size by omega), HQ.out.2.2.drew.trans (hb6.mono (show w.heap.size ≤ W5.heap.size by omega)), Nat.lt_of_lt_of_le l0 hb6.size⟩); obtain ⟨d0, d1, d2, d3, d4⟩ := row_cells H6.out.1; clear hb6)
          | (go_at_call 75; refine (HTM2.out _).mono ?_; rintro e' w7 ⟨rfl, hb7⟩; have H7 := Lib.hid (show Row w7 gf 118 (cn .u64 rv) ∧ Row w7 (gf + 1) 118 (cn .u64 v) ∧ Below w.heap.size w w7 ∧ gf + 1 < w7.heap.size from ⟨H6.out.1.below hb7 (by have := H6.out.2.2.2; omega), H6.out.2.1.below hb7 (by have := H6.out.2.2.2; omega), H6.out.2.2.1.trans (hb7.mono (by have := H6.out.2.2.2; omega)), Nat.lt_of_lt_of_le H6.out.2.2.2 hb7.size⟩); obtain ⟨f0, f1, f2, f3, f4⟩ := row_frozen H7.out.2.1; obtain ⟨g0, g1, g2, g3, g4⟩ := row_cells H7.out.2.1; clear hb7))
        all_goals
          go_wp2
          go_roundw
          case rel =>
            refine ⟨k + 1, q, v', _, by omega, by go_num, rfl, Lib.hid (by have := HP.out; omega), Lib.hid ⟨?_, row_sets H7.out.2.1 v', ?_, HHF.out, HNM.out, lw, by omega, by simp [World.setCell]; exact H7.out.2.2.2⟩⟩
            · exact ((((H7.out.1.set_far _ _ _ (by omega)).set_far _ _ _ (by omega)).set_far _ _ _ (by omega)).set_far _ _ _ (by omega)).set_far _ _ _ (by omega)
            · exact ((((H7.out.2.2.1.setCell (show w.heap.size ≤ gf + 1 by omega) _).setCell (show w.heap.size ≤ gf + 1 by omega) _).setCell (show w.heap.size ≤ gf + 1 by omega) _).setCell (show w.heap.size ≤ gf + 1 by omega) _).setCell (show w.heap.size ≤ gf + 1 by omega) _
          case measure => simp [intOf]; omega
    · have HKP := Lib.hid (show k = pcs t by unfold pcs; have := HP.out; omega)
      have HRDV := Lib.hid (rd_val HX.out.half)
      have HNUM := Lib.hid HX.out.num
      have hl := HX.out.lh
      have lw : w.heap.size ≤ gf := HX.out.lf
      have hks : (tail key).size = 16 := by unfold tail; rw [ByteArray.size_extract, HK0.out]; omega
      have HTV := Lib.hid (prt_val (tail key) (by omega) (by rw [bN_zero _ 16 (by omega)]; omega))
      have HPRT := Lib.hid (show dg (raw (bN (tail key)) (tail key).size) = prt (tail key) from rfl)
      have HC2' := Lib.hid (PartsOf.partsOf (tail key) (by omega))
      rw [HPRT.out] at HC2'
      have HC1' := Lib.hid (show ∀ u : World, Calls Tryz.prog 76 #[.agg #[.int .u64 ((v) 0 : Int), .int .u64 ((v) 1 : Int), .int .u64 ((v) 2 : Int), .int .u64 ((v) 3 : Int), .int .u64 ((v) 4 : Int)]] u fun e' u' => e' = .returned (.agg (cn .u64 (rd v)).toArray) ∧ Below u.heap.size u u' from Reduced.reduced v HX.out.half)
      have HC3' := Lib.hid (Wrapped.plus (rd v) (prt (tail key)) (fun j _ => by have := (rd_half HX.out.half).lt j; have := prt_lt (tail key) j; omega))
      have HC4' := Lib.hid (Carried.carried (fun j => rd v j + prt (tail key) j) (fun j _ => by have := (rd_half HX.out.half).lt j; have := prt_lt (tail key) j; show rd v j + prt (tail key) j < _; omega))
      have HVAL := Lib.hid (show val (dg (fun j => rd v j + prt (tail key) j)) = (hN r t (pcs t) + num (tail key)) % 1361129467683753853853498429727072845824 by
        rw [val_dg_mod, val_add, HRDV.out, HTV.out, HNUM.out, HKP.out])
      have HTB := Lib.hid (TagBytes.tagBytes (dg (fun j => rd v j + prt (tail key) j)) (dg_lt _))
      rw [HVAL.out, bl_mod, ← HTG.out] at HTB
      generalize (cn .u64 (rd v)).toArray = RA at *
      generalize (cn .u64 (prt (tail key))).toArray = KA at *
      generalize (cn .u64 (fun j => rd v j + prt (tail key) j)).toArray = SA at *
      generalize ov (fun j => rd v j + prt (tail key) j) 5 = o5 at *
      generalize dg (fun j => rd v j + prt (tail key) j) = d at *
      have HC4x := Lib.hid (show ∀ u : World, Calls Tryz.prog 77 #[.agg SA] u fun e' u' => e' = .returned (.tuple #[.agg #[.int .u64 ((d) 0 : Int), .int .u64 ((d) 1 : Int), .int .u64 ((d) 2 : Int), .int .u64 ((d) 3 : Int), .int .u64 ((d) 4 : Int)], .int .u64 (o5 : Int)]) ∧ Below u.heap.size u u' from HC4'.out)
      have HTBx := Lib.hid (show ∀ u : World, Calls Tryz.prog 78 #[.agg #[.int .u64 ((d) 0 : Int), .int .u64 ((d) 1 : Int), .int .u64 ((d) 2 : Int), .int .u64 ((d) 3 : Int), .int .u64 ((d) 4 : Int)]] u fun e' u' => e' = .returned (.string TG) ∧ Below u.heap.size u u' from HTB.out)
      have HC2x := Lib.hid (show ∀ u : World, Calls Tryz.prog 72 #[.string (key.extract 16 key.size)] u fun e' u' => e' = .returned (.agg KA) ∧ Below u.heap.size u u' from HC2'.out)
      clear hks HTV HPRT HC2' HC4' HVAL HTB HRDV HNUM HKP
      obtain ⟨b0, b1, b2, b3, b4⟩ := row_cells HX.out.h
      have i1 : ¬ (p : Int) < (t.size : Int) := by omega
      have k16 : (16 : Int) ≤ (key.size : Int) := by omega
      clear hki
      go_upto_region 8 with (fail)
      go_cut [9, 10] from 35 to 46 (fun v9 v10 wc => ∃ gg : Nat, v9 = .pointer (some ⟨gg, 0, none⟩) ∧ (wc.cell? ⟨gg, 0, none⟩ = some (.int .u64 (d 0 : Int)) ∧ wc.cell? ⟨gg, 1, none⟩ = some (.int .u64 (d 1 : Int)) ∧ wc.cell? ⟨gg, 2, none⟩ = some (.int .u64 (d 2 : Int)) ∧ wc.cell? ⟨gg, 3, none⟩ = some (.int .u64 (d 3 : Int)) ∧ wc.cell? ⟨gg, 4, none⟩ = some (.int .u64 (d 4 : Int))) ∧ Hid (Below w.heap.size w wc))
      case first =>
        go_region_with
          (first
           | (go_at_call 76
              refine (HC1'.out _).mono ?_
              rintro e' u1 ⟨rfl, hb1⟩
              obtain ⟨hc1, hf1⟩ := bcell hb1
              have hz1 := hb1.size
              have HC1 := Lib.hid hb1
              clear hb1
              (try simp only [World.size_drew] at hc1 hf1 hz1)
              (try simp only [World.size_alloc] at hc1 hf1 hz1)
              (have m1 : gf + 1 < u1.heap.size := (by omega))
              (try have n1wr : wr.heap.size < u1.heap.size := (by omega)))
           | (go_at_call 72
              refine (HC2x.out _).mono ?_
              rintro e' u2 ⟨rfl, hb2⟩
              obtain ⟨hc2, hf2⟩ := bcell hb2
              have hz2 := hb2.size
              have HC2 := Lib.hid hb2
              clear hb2
              (try simp only [World.size_drew] at hc2 hf2 hz2)
              (try simp only [World.size_alloc] at hc2 hf2 hz2)
              (have m2 : gf + 1 < u2.heap.size := (by omega))
              (try have n2wr : wr.heap.size < u2.heap.size := (by omega))
              (try have n2u1 : u1.heap.size < u2.heap.size := (by omega)))
           | (go_at_call 74
              refine (HC3'.out _).mono ?_
              rintro e' u3 ⟨rfl, hb3⟩
              obtain ⟨hc3, hf3⟩ := bcell hb3
              have hz3 := hb3.size
              have HC3 := Lib.hid hb3
              clear hb3
              (try simp only [World.size_drew] at hc3 hf3 hz3)
              (try simp only [World.size_alloc] at hc3 hf3 hz3)
              (have m3 : gf + 1 < u3.heap.size := (by omega))
              (try have n3wr : wr.heap.size < u3.heap.size := (by omega))
              (try have n3u1 : u1.heap.size < u3.heap.size := (by omega))
              (try have n3u2 : u2.heap.size < u3.heap.size := (by omega)))
           | (go_at_call 77
              refine (HC4x.out _).mono ?_
              rintro e' u4 ⟨rfl, hb4⟩
              obtain ⟨hc4, hf4⟩ := bcell hb4
              have hz4 := hb4.size
              have HC4 := Lib.hid hb4
              clear hb4
              (try simp only [World.size_drew] at hc4 hf4 hz4)
              (try simp only [World.size_alloc] at hc4 hf4 hz4)
              (have m4 : gf + 1 < u4.heap.size := (by omega))
              (try have n4wr : wr.heap.size < u4.heap.size := (by omega))
              (try have n4u1 : u1.heap.size < u4.heap.size := (by omega))
              (try have n4u2 : u2.heap.size < u4.heap.size := (by omega))
              (try have n4u3 : u3.heap.size < u4.heap.size := (by omega))))
        all_goals
          go_wp2_with fail
          go_meet
          refine ⟨_, rfl, ⟨?_, ?_, ?_, ?_, ?_⟩, Lib.hid ?_⟩
          iterate 5 (rotate_left)
          · repeat (with_reducible (first | exact HX.out.below | refine Below.setCell ?_ (by first | omega | (simp; done) | (simp; omega)) _ | refine Below.alloc ?_ (by first | omega | (simp; done) | (simp; omega)) _ | refine Below.drew ?_ | refine Below.trans ?_ (HC4.out.mono (by first | omega | (simp; done) | (simp; omega))) | refine Below.trans ?_ (HC3.out.mono (by first | omega | (simp; done) | (simp; omega))) | refine Below.trans ?_ (HC2.out.mono (by first | omega | (simp; done) | (simp; omega))) | refine Below.trans ?_ (HC1.out.mono (by first | omega | (simp; done) | (simp; omega)))))
          all_goals go_simp
      case rest =>
        clear b0 b1 b2 b3 b4
        obtain ⟨gg, rfl, ⟨b0, b1, b2, b3, b4⟩, HBZ⟩ := hcut
        go_wp2_with fail
        refine (HTBx.out _).mono ?_
        rintro e' w9 ⟨rfl, hb9⟩
        have HBY := Lib.hid (HBZ.out.trans (hb9.mono HBZ.out.size))
        clear hb9
        go_wp2
        go_ret
        exact ⟨rfl, HBY.out⟩
end Go.Proofs.YtggobhpjfflooaaGreatDoor.PolyTagI
