/-
  What is proved: the model's tag is the plain one (contract for the walks).
-/
import Derived.Test.YtcfdnifllehbjaaDoorRows
import Derived.Test.YtcfdnifllehbjaaDoorPolyD
import Derived.Test.YtcfdnifllehbjaaDoorSpTimes
import Derived.Test.YtcfdnifllehbjaaDoorSpLess
namespace Go.Proofs.YtcfdnifllehbjaaDoor.SpTag
open Go.ChangeShapes Go.WideShapes Go.ChangeAt Go.RowKit
open Arr (Row)
open Five Poly PolyN PolyD
open Clamp (clT)
open Bytes (BV Owns)
open Word (bN bN_lt bN_at)
open SpParts (i64_wrap i64_mask26)
set_option linter.unusedVariables false

theorem new_row (w : World) (v : Nat → Nat) (cs : Array Value) (hcs : cs.size = 5) : (w.alloc (.cells cs 87)).there w.heap.size 0 (cn .i64 v).toArray.size ∧
    Row ((w.alloc (.cells cs 87)).setCells w.heap.size 0 (cn .i64 v)) w.heap.size 87 (cn .i64 v) := Reduced.new_row w .i64 v _ cs hcs
/-- What a round leaves. -/
structure Inv (w wr : World) (gf : Nat) (rv : Nat → Nat) (r : Nat) (t : ByteArray) (k : Nat) (v : Nat → Nat) : Prop where
  f : Row wr gf 87 (cn .i64 rv)
  h : Row wr (gf + 1) 87 (cn .i64 v)
  below : Below w.heap.size w wr
  half : Half v
  num : val v % P = hN r t k
  lf : w.heap.size ≤ gf
  lh : gf + 1 < wr.heap.size
def strLen : Value → Nat
  | .string s => s.size
  | _ => 0
theorem i64_mask8 (x : Nat) (h : x < 9223372036854775808) : bits .and .i64 (x : Int) 255 = ((x % 256 : Nat) : Int) := by
  have := Word.i64_and x 255 h (by omega)
  rw [nat_mask8] at this
  exact this

set_option maxRecDepth 100000 in
set_option maxHeartbeats 8000000 in
theorem l03Tag (key t : ByteArray) (hk : key.size = 32) (ht : t.size ≤ 1000000) (w : World) :
    Calls Tryd.prog 45 #[.string key, .string t] w fun e' w' => e' = .returned (.string (tagT key t)) ∧ Below w.heap.size w w' := by
  have HCL := Lib.hid (Clamp.l03Clamp key (by omega) (by omega))
  have hcs := Clamp.clT_size key
  have HPF := Lib.hid (SpParts.l03Parts (clT key ++ zero1) (by rw [size_zero1, hcs]))
  obtain ⟨hrv, hrl⟩ := sp_num (clT key ++ zero1) (clT key) (bN_zero1 _) (by omega) (by rw [bN_zero _ 16 (by omega)]; omega)
  have HRV := Lib.hid (show val (sp (bN (clT key ++ zero1)) 17) = fac key from hrv)
  have HRL := Lib.hid hrl
  clear hrv hrl
  have HPF2 := Lib.hid (show ∀ u : World, Calls Tryd.prog 65 #[.string (clT key ++ ⟨#[0]⟩)] u fun e' u' => e' = .returned (.agg (cn .i64 (sp (bN (clT key ++ zero1)) 17)).toArray) ∧ Below u.heap.size u u' from HPF.out)
  clear HPF
  generalize sp (bN (clT key ++ zero1)) 17 = rv at *
  generalize clT key = CL at *
  have HT0 := Lib.hid ht
  have HK0 := Lib.hid hk
  have HNF := Lib.hid (fun w cs hcs => new_row w rv cs hcs)
  have HIF := Lib.hid (infoI rv)
  have HOF := Lib.hid (cn_one .i64 rv)
  have hti : (t.size : Int) ≤ 1000000 := by omega
  have hki : (key.size : Int) = 32 := by omega
  clear hk
  have HTG := Lib.hid (show tagT key t = ⟨(TagBytes.bl (hN (fac key) t (pcs t) + num (tail key))).toArray⟩ from rfl)
  generalize tagT key t = TG at *
  generalize fac key = r at *
  go_enter Tryd.func45, Tryd.ntmps45
  go_wp2_with fail
  refine (HCL.out _).mono ?_
  rintro e' w1 ⟨rfl, hb1⟩
  go_wp2_with fail
  refine (HPF2.out _).mono ?_
  rintro e' w2 ⟨rfl, hb2⟩
  have HB2 := Lib.hid (hb1.trans (hb2.mono hb1.size))
  clear hb1 hb2 HCL HPF2 hcs
  go_upto_region 2 with (((with_reducible show wpList _ _ _ _ _ _); refine wpList_store_mid rfl 87 _ _ rfl w2.heap.size 0 (cn .i64 rv).toArray rfl rfl (HNF.out w2 _ rfl).1 HIF.out HOF.out ?_; simp only []))
  generalize hW3 : (w2.alloc _).setCells _ _ _ = W3
  obtain ⟨Q0, QB, qsz⟩ : Row W3 w2.heap.size 87 (cn .i64 rv) ∧ Below w.heap.size w W3 ∧ W3.heap.size = w2.heap.size + 1 := by
    rw [← hW3]
    exact ⟨(HNF.out w2 _ rfl).2, Arr.below_sets _ HB2.out.size _ _ _ (HB2.out.alloc HB2.out.size _), by rw [Arr.size_sets]; simp⟩
  have hlf := HB2.out.size
  clear hW3 HB2
  generalize w2.heap.size = gf at *
  have HQ0 := Lib.hid Q0
  have HQB := Lib.hid QB
  clear Q0 QB
  go_wp2
  generalize hW4 : W3.alloc _ = W4
  have HST : Hid (Inv w W4 gf rv r t 0 (fun _ => 0)) := by
    rw [← hW4]
    have h4 := Arr.row_new W3 (#[.int .i64 0, .int .i64 0, .int .i64 0, .int .i64 0, .int .i64 0] : Array Value) 87
    rw [qsz] at h4
    exact Lib.hid ⟨HQ0.out.alloc _, h4, HQB.out.alloc HQB.out.size _, half_zero, rfl, hlf, by simp; omega⟩
  clear hW4 HQ0 HQB HNF HOF qsz
  go_loopw [7] (fun i wz => ∃ (k p : Nat) (v : Nat → Nat) (wr : World), p ≤ t.size + 15 ∧ i = .int .i64 p ∧ wr = wz ∧ Hid (p = 16 * k) ∧ Hid (Inv w wr gf rv r t k v)) (fun i _ => t.size + 16 - (intOf i).toNat)
  case atStart => exact ⟨0, 0, _, _, by omega, rfl, rfl, Lib.hid rfl, HST⟩
  case round =>
    clear HST
    obtain ⟨k, p, v, wo, hp, rfl, rfl, HP, HX⟩ := hrel
    by_cases hlt : p < t.size
    · have i1 : (p : Int) < (t.size : Int) := by omega
      have i0 : (0 : Int) ≤ (p : Int) := by omega
      obtain ⟨q, eq⟩ : ∃ q, p + 16 = q := ⟨_, rfl⟩
      have e1 : (p : Int) + 16 = (q : Int) := by omega
      have wq : IntKind.i64.wrap (q : Int) = q := by rw [IntKind.wrap_i64]; omega
      obtain ⟨b, hbm⟩ : ∃ b, min t.size q = b := ⟨_, rfl⟩
      have HPC := Lib.hid (show t.extract p b ++ one = piece t k by unfold piece; rw [← hbm, ← eq, HP.out])
      have hps : (t.extract p b).size ≤ 16 := by rw [ByteArray.size_extract]; omega
      have HSM := Lib.hid (piece_small t k)
      have HTP := Lib.hid (piece_top t k)
      have HST2 := Lib.hid (hN_step r t k)
      generalize piece t k = pc at *
      have hlh := HX.out.lh
      have hlw : w.heap.size ≤ gf := HX.out.lf
      have hvh := Lib.hid HX.out.half.lt
      go_upto_region 6 with (fail)
      go_cut [8] from 27 to 36 (fun v8 wc => v8 = .string pc ∧ wo = wc)
      case first =>
        by_cases hq : q < t.size
        · obtain rfl : b = q := by omega
          have q1 : (b : Int) < (t.size : Int) := by omega
          have q2 : (p : Int) ≤ (b : Int) := by omega
          have q3 : (b : Int) ≤ (t.size : Int) := by omega
          clear hbm
          go_wp2_with fail
          go_meet
          exact ⟨by rw [← HPC.out]; rfl, rfl⟩
        · obtain rfl : b = t.size := by omega
          have q1 : ¬ (q : Int) < (t.size : Int) := by omega
          have q2 : (p : Int) ≤ (t.size : Int) := by omega
          have q3 : (t.size : Int) ≤ (q : Int) := by omega
          clear hbm
          go_wp2_with fail
          go_meet
          exact ⟨by rw [← HPC.out]; rfl, rfl⟩
      case rest =>
      obtain ⟨rfl, rfl⟩ := hcut
      have HPQ := Lib.hid (show p + 16 = q from eq)
      clear hbm hps HPC eq
      go_wp2
      go_loopw [8] (fun s wz => ∃ (x : ByteArray), s = .string x ∧ x.size ≤ 17 ∧ wo = wz ∧ Hid (∀ j, bN x j = bN pc j)) (fun s _ => 17 - strLen s)
      case atStart => exact ⟨pc, rfl, HSM.out, rfl, Lib.hid fun _ => rfl⟩
      case round =>
        obtain ⟨x, rfl, hxs, rfl, HXB⟩ := hrel
        by_cases hx : x.size < 17
        · have x17 : (x.size : Int) < 17 := by omega
          have HXZ := Lib.hid (size_zero1 x)
          have HXN := Lib.hid (bN_zero1 x)
          go_wp2
          go_roundw
          case rel => exact ⟨_, rfl, by have := HXZ.out; show (x ++ zero1).size ≤ 17; omega, by first | rfl | trivial, Lib.hid fun j => (HXN.out j).trans (HXB.out j)⟩
          case measure => show 17 - (x ++ zero1).size < 17 - x.size; have := HXZ.out; omega
        · have x17 : ¬ (x.size : Int) < 17 := by omega
          have HXS := Lib.hid (show x.size = 17 by omega)
          have HPP := Lib.hid (SpParts.l03Parts x HXS.out)
          obtain ⟨hmv, hml⟩ := sp_num x pc HXB.out HSM.out HTP.out
          have HPV := Lib.hid hmv
          have HPL := Lib.hid hml
          clear hmv hml hxs
          generalize sp (bN x) 17 = m at *
          have HNP := Lib.hid (fun w cs hcs => new_row w m cs hcs)
          have HIP := Lib.hid (infoI m)
          have HOP := Lib.hid (cn_one .i64 m)
          have HTM := Lib.hid (SpTimes.l03Times (fun j => v j + m j) rv (fun j => by have := hvh.out j; have := HPL.out j; show v j + m j < _; omega) HRL.out)
          have HSS := Lib.hid (pa_small (a := fun j => v j + m j) (b := rv) (fun j => by have := hvh.out j; have := HPL.out j; show v j + m j < _; omega) HRL.out)
          have HHF := Lib.hid (show Half (fo (fo (fo (pa (fun j => v j + m j) rv 25)))) from fo_fo (fun j hj => by have := (fo_small HSS.out).1 j hj; omega))
          have HNM := Lib.hid (show val (fo (fo (fo (pa (fun j => v j + m j) rv 25)))) % P = hN r t (k + 1) from
            HST2.out (val v) _ HX.out.num (by rw [val_fo_mod, val_fo_mod, val_fo_mod, pa_mod, val_add, HRV.out, HPV.out]))
          generalize fo (fo (fo (pa (fun j => v j + m j) rv 25))) = v' at *
          clear HSS
          go_wp2_with fail
          refine (HPP.out _).mono ?_
          rintro e' w1 ⟨rfl, hb1⟩
          go_upto_region 10 with (((with_reducible show wpList _ _ _ _ _ _); refine wpList_store_mid rfl 87 _ _ rfl w1.heap.size 0 (cn .i64 m).toArray rfl rfl (HNP.out w1 _ rfl).1 HIP.out HOP.out ?_; simp only []))
          generalize hW5 : (w1.alloc _).setCells _ _ _ = W5
          obtain ⟨Q0, Q1, Q2, QB, qsz⟩ : Row W5 gf 87 (cn .i64 rv) ∧ Row W5 (gf + 1) 87 (cn .i64 v) ∧ Row W5 w1.heap.size 87 (cn .i64 m) ∧ Below w.heap.size w W5 ∧ W5.heap.size = w1.heap.size + 1 := by
            rw [← hW5]
            have hz := hb1.size
            refine ⟨((HX.out.f.below hb1 (by omega)).alloc _).sets_far (by omega) _ _ _, ((HX.out.h.below hb1 (by omega)).alloc _).sets_far (by omega) _ _ _, (HNP.out w1 _ rfl).2, Arr.below_sets _ (by omega) _ _ _ ((HX.out.below.trans (hb1.mono (by omega))).alloc (by omega) _), by rw [Arr.size_sets]; simp⟩
          have hz := hb1.size
          clear hW5 hb1
          generalize w1.heap.size = gp at *
          have HQ : Hid (Row W5 gf 87 (cn .i64 rv) ∧ Row W5 (gf + 1) 87 (cn .i64 fun j => if j < 0 then v j + m j else v j) ∧ Row W5 gp 87 (cn .i64 m) ∧ Below w.heap.size w W5 ∧ gf + 1 < W5.heap.size) := Lib.hid ⟨Q0, Q1, Q2, QB, by omega⟩
          have hgp : gf + 1 < gp := by omega
          clear Q0 Q1 Q2 QB HNP HIP HOP HPP qsz hz
          go_wp2
          go_loopw [10] (fun i wz => ∃ (l : Nat) (wr : World), l ≤ 5 ∧ i = .int .i64 l ∧ wr = wz ∧ Hid (Row wr gf 87 (cn .i64 rv) ∧ Row wr (gf + 1) 87 (cn .i64 fun j => if j < l then v j + m j else v j) ∧ Row wr gp 87 (cn .i64 m) ∧ Below w.heap.size w wr ∧ gf + 1 < wr.heap.size)) (fun i _ => 5 - (intOf i).toNat)
          case atStart => exact ⟨0, _, by omega, rfl, rfl, HQ⟩
          case round =>
            clear HQ
            obtain ⟨l, wr, hl, rfl, rfl, HQ⟩ := hrel
            by_cases hl5 : l < 5
            · have c0 := HQ.out.2.1.cell l
              rw [cn_at .i64 _ l hl5, if_neg (by omega)] at c0
              have c1 := HQ.out.2.2.1.cell l
              rw [cn_at .i64 _ l hl5] at c1
              have f0 := HQ.out.2.1.frozen l
              have b0 := hvh.out l
              have b1 := HPL.out l
              have l1 : (l : Int) < 5 := by omega
              have l0 : (0 : Int) ≤ (l : Int) := by omega
              obtain ⟨s, es⟩ : ∃ s, v l + m l = s := ⟨_, rfl⟩
              have hw : IntKind.i64.wrap ((v l : Int) + (m l : Int)) = (s : Int) := by rw [← i64_wrap s (by omega), ← es]; rfl
              have HES := Lib.hid (show ∀ c, c = l → v c + m c = s from fun c hc => by rw [hc]; exact es)
              clear es b0 b1
              generalize v l = ak at *
              generalize m l = bk at *
              have q0 : ∀ k', (World.mk wr.heap wr.tape k' wr.os wr.output).cell? ⟨gf + 1, l, none⟩ = some (.int .i64 (ak : Int)) := fun _ => c0
              have q1 : ∀ k', (World.mk wr.heap wr.tape k' wr.os wr.output).cell? ⟨gp, l, none⟩ = some (.int .i64 (bk : Int)) := fun _ => c1
              go_wp2
              go_still_tail 8, (by kernel_rfl)
              clear q0 q1
              change wpList _ _ _ _ _ wr.drew
              go_wp2
              go_roundw
              case rel =>
                obtain ⟨h1, h2, h3, h4, h6⟩ := HQ.out
                refine ⟨l + 1, _, by omega, by go_num, rfl, Lib.hid ⟨(h1.set_far _ _ _ (by omega)).drew, ?_, (h3.set_far _ _ _ (by omega)).drew, (h4.setCell (show w.heap.size ≤ gf + 1 by omega) _).drew, by show gf + 1 < (World.setCell _ _ _).heap.size; simp [World.setCell]; exact h6⟩⟩
                have h5 := h2.set l (.int .i64 (s : Int))
                rw [cn_set .i64 _ (fun j => if j < l + 1 then v j + m j else v j) l _ hl5 ?_ ?_] at h5
                · exact h5.drew
                · rw [if_pos (by omega), HES.out l rfl]
                · intro j hj hjk
                  by_cases e : j < l
                  · rw [if_pos e, if_pos (by omega)]
                  · rw [if_neg e, if_neg (by omega)]
              case measure => simp [intOf]; omega
            · obtain rfl : l = 5 := by omega
              obtain ⟨h1, h2, h3, h4, h6⟩ := HQ.out
              rw [cn_congr .i64 (u := fun j => v j + m j) (fun j hj => if_pos hj)] at h2
              have HR0 := Lib.hid h1
              have HR1 := Lib.hid h2
              have HRB := Lib.hid h4
              have HI1 := Lib.hid (infoI (fun j => v j + m j))
              have HL1 := Lib.hid (cn_len .i64 (fun j => v j + m j))
              have HIV := Lib.hid (infoI v')
              have HOV := Lib.hid (cn_one .i64 v')
              have HTV := Lib.hid (fun (w : World) g t xs (h : Row w g t xs) hl => there_row h hl .i64 v')
              have HSV := Lib.hid (fun (w : World) g t xs (h : Row w g t xs) hl => sets_row h hl .i64 v')
              clear h1 h2 h3 h4 HQ
              generalize cn .i64 (fun j => v j + m j) = sm at *
              go_wp2_with (first
                | ((with_reducible show wpList _ _ _ _ _ _); refine wpList_load_row rfl 87 _ rfl (gf + 1) rfl 87 _ (0, 0) _ HR1.out Tryd.underlying87 rfl HI1.out ?_)
                | ((with_reducible show wpList _ _ _ _ _ _); refine wpList_load_row rfl 87 _ rfl gf rfl 87 _ (0, 0) _ HR0.out Tryd.underlying87 rfl HIF.out ?_))
              refine (HTM.out _).mono ?_
              rintro e' w6 ⟨rfl, hb6⟩
              have HS0 := Lib.hid (HR0.out.below hb6 (by omega))
              have HS1 := Lib.hid (HR1.out.below hb6 h6)
              have HSB := Lib.hid (HRB.out.trans (hb6.mono (by omega)))
              have hz6 : gf + 1 < w6.heap.size := Nat.lt_of_lt_of_le h6 hb6.size
              clear hb6 HR0 HR1 HRB
              have HT1 := Lib.hid (HTV.out _ _ _ _ HS1.out HL1.out)
              have HF1 := Lib.hid (HSV.out _ _ _ _ HS1.out HL1.out)
              have HF0 := Lib.hid (HS0.out.sets_far (show gf ≠ gf + 1 by omega) (cn .i64 v') 0 w6)
              have HFB := Lib.hid (Arr.below_sets (B := w.heap.size) (a := w) (gf + 1) (by omega) (cn .i64 v') 0 w6 HSB.out)
              have HFZ := Lib.hid (show gf + 1 < (w6.setCells (gf + 1) 0 (cn .i64 v')).heap.size by rw [Arr.size_sets]; exact hz6)
              go_upto_region 5 with (((with_reducible show wpList _ _ _ _ _ _); refine wpList_store_mid rfl 87 _ _ rfl (gf + 1) 0 (cn .i64 v').toArray rfl rfl HT1.out HIV.out HOV.out ?_; simp only []))
              generalize w6.setCells (gf + 1) 0 (cn .i64 v') = W7 at *
              go_wp2
              go_roundw
              case rel => exact ⟨k + 1, q, v', _, by have := HPQ.out; omega, by go_num, rfl, Lib.hid (by have := HP.out; have := HPQ.out; omega), Lib.hid ⟨HF0.out, HF1.out, HFB.out, HHF.out, HNM.out, hlw, HFZ.out⟩⟩
              case measure => simp [intOf]; have := HPQ.out; omega
    · have i1 : ¬ (p : Int) < (t.size : Int) := by omega
      have HKP := Lib.hid (show k = pcs t by unfold pcs; have := HP.out; omega)
      obtain ⟨h3a, h3b, h3c⟩ := fo3 HX.out.half
      have HC1 := Lib.hid (SpCarry.l03Carry v (fun j _ => by have := HX.out.half.lt j; omega))
      have HC2 := Lib.hid (SpLess.l03Less _ h3a)
      have HVAL := Lib.hid (show val (rd (fo (fo (fo v)))) = hN r t (pcs t) by rw [rd_val h3a, h3b, HX.out.num, HKP.out])
      have HUL := Lib.hid (rd_lt h3c)
      have hlh := HX.out.lh
      have hlw : w.heap.size ≤ gf := HX.out.lf
      have HR1 := Lib.hid HX.out.h
      have HRB := Lib.hid HX.out.below
      have HIV := Lib.hid (infoI v)
      have HLV := Lib.hid (cn_len .i64 v)
      clear h3a h3b h3c HX HP
      generalize rd (fo (fo (fo v))) = u at *
      generalize fo (fo (fo v)) = v3 at *
      have HIU := Lib.hid (infoI u)
      have HOU := Lib.hid (cn_one .i64 u)
      have HTU := Lib.hid (fun (w : World) g t xs (h : Row w g t xs) hl => there_row h hl .i64 u)
      have HSU := Lib.hid (fun (w : World) g t xs (h : Row w g t xs) hl => sets_row h hl .i64 u)
      go_wp2_with (((with_reducible show wpList _ _ _ _ _ _); refine wpList_load_row rfl 87 _ rfl (gf + 1) rfl 87 _ (0, 0) _ HR1.out Tryd.underlying87 rfl HIV.out ?_))
      refine (HC1.out _).mono ?_
      rintro e' w6 ⟨rfl, hb6⟩
      have hz6 : gf + 1 < w6.heap.size := Nat.lt_of_lt_of_le hlh hb6.size
      have HS1 := Lib.hid (HR1.out.below hb6 hlh)
      have HSB := Lib.hid (HRB.out.trans (hb6.mono (by omega)))
      clear hb6 HR1 HRB HC1
      go_wp2_with fail
      refine (HC2.out _).mono ?_
      rintro e' w7 ⟨rfl, hb7⟩
      have hz7 : gf + 1 < w7.heap.size := Nat.lt_of_lt_of_le hz6 hb7.size
      have HX1 := Lib.hid (HS1.out.below hb7 hz6)
      have HXB := Lib.hid (HSB.out.trans (hb7.mono (by omega)))
      clear hb7 HS1 HSB HC2
      have HT1 := Lib.hid (HTU.out _ _ _ _ HX1.out HLV.out)
      have HF1 := Lib.hid (HSU.out _ _ _ _ HX1.out HLV.out)
      have HFB := Lib.hid (Arr.below_sets (B := w.heap.size) (a := w) (gf + 1) (by omega) (cn .i64 u) 0 w7 HXB.out)
      have hfz : gf + 1 < (w7.setCells (gf + 1) 0 (cn .i64 u)).heap.size := by rw [Arr.size_sets]; exact hz7
      go_upto_region 16 with (((with_reducible show wpList _ _ _ _ _ _); refine wpList_store_mid rfl 87 _ _ rfl (gf + 1) 0 (cn .i64 u).toArray rfl rfl HT1.out HIU.out HOU.out ?_; simp only []))
      generalize w7.setCells (gf + 1) 0 (cn .i64 u) = W7 at *
      clear HT1 HX1 HXB hz6 hz7 hlh
      have HTGL := Lib.hid (tgl_bl (val u) key HK0.out)
      rw [HVAL.out] at HTGL
      have HBY := Lib.hid (byte_add u HUL.out)
      rw [HVAL.out] at HBY
      have HFL := Lib.hid (show ∀ i, (fun i => hN r t (pcs t) / 256 ^ i % 256) i < 256 from fun i => Nat.mod_lt _ (by omega))
      have HC0 := Lib.hid (show cy (fun i => hN r t (pcs t) / 256 ^ i % 256) (fun i => bN key (16 + i)) 0 = 0 from rfl)
      have HCS := Lib.hid (show ∀ k, cy (fun i => hN r t (pcs t) / 256 ^ i % 256) (fun i => bN key (16 + i)) (k + 1) = (cy (fun i => hN r t (pcs t) / 256 ^ i % 256) (fun i => bN key (16 + i)) k + (hN r t (pcs t) / 256 ^ k % 256 + bN key (16 + k))) / 256 from fun _ => rfl)
      have HDS := Lib.hid (show ∀ k, di (fun i => hN r t (pcs t) / 256 ^ i % 256) (fun i => bN key (16 + i)) k = (cy (fun i => hN r t (pcs t) / 256 ^ i % 256) (fun i => bN key (16 + i)) k + (hN r t (pcs t) / 256 ^ k % 256 + bN key (16 + k))) % 256 from fun _ => rfl)
      have HCL := Lib.hid (cy_le HFL.out (fun i => bN_lt key (16 + i)))
      rw [← HTGL.out] at HTG
      clear HTGL HVAL HFL
      generalize di (fun i => hN r t (pcs t) / 256 ^ i % 256) (fun i => bN key (16 + i)) = D at *
      generalize cy (fun i => hN r t (pcs t) / 256 ^ i % 256) (fun i => bN key (16 + i)) = C at *
      generalize hN r t (pcs t) = H at *
      obtain ⟨i0, hi0, hz0, hz1, hz2⟩ := info_parts Bytes.info5
      go_wp2
      go_loopw [11, 12, 13] (fun ou c i wz => ∃ (k : Nat) (wr : World), k ≤ 16 ∧ i = .int .i64 k ∧ c = .int .i64 (C k : Int) ∧ wr = wz ∧ Hid (Owns wr W7.heap.size ou (tgl D k)) ∧ Hid (Below W7.heap.size W7 wr)) (fun _ _ i _ => 16 - (intOf i).toNat)
      case atStart => exact ⟨0, _, by omega, rfl, by rw [HC0.out]; rfl, rfl, Lib.hid (Bytes.owns_made W7 W7.heap.size 0 #[] (Nat.le_refl _) (by unfold maxLen; omega) rfl), Lib.hid ((Below.refl _ _).alloc (Nat.le_refl _) _)⟩
      case round =>
        obtain ⟨k, wr, hk, rfl, rfl, rfl, R, HB⟩ := hrel
        have HL := Lib.hid (tgl_length D k)
        have hl1 : (tgl D k).length ≤ 16 := by rw [HL.out]; omega
        have hz := Lib.hid HB.out.size
        by_cases hlt16 : k < 16
        · obtain ⟨q, eq⟩ : ∃ q, 8 * k / 26 = q := ⟨_, rfl⟩
          obtain ⟨rr, er⟩ : ∃ r, 8 * k % 26 = r := ⟨_, rfl⟩
          obtain ⟨pp, ep⟩ : ∃ p, 8 * k = p := ⟨_, rfl⟩
          obtain ⟨sb, es⟩ : ∃ s, 26 - rr = s := ⟨_, rfl⟩
          have hq : q < 5 := by omega
          have hr : rr < 26 := by omega
          have HRW := Lib.hid (HF1.out.below HB.out hfz)
          have c0 := HRW.out.cell q
          rw [cn_at .i64 _ q hq] at c0
          have i16 : (k : Int) < 16 := by omega
          have k0 : (0 : Int) ≤ (k : Int) := by omega
          have e0 : (8 : Int) * (k : Int) = (pp : Int) := by omega
          have e1 : (pp : Int) / 26 = (q : Int) := by omega
          have e2 : (pp : Int) % 26 = (rr : Int) := by omega
          have e3 : (26 : Int) - (rr : Int) = (sb : Int) := by omega
          have wp : IntKind.i64.wrap (pp : Int) = pp := by rw [IntKind.wrap_i64]; omega
          have wq : IntKind.i64.wrap (q : Int) = q := by rw [IntKind.wrap_i64]; omega
          have wr1 : IntKind.i64.wrap (rr : Int) = rr := by rw [IntKind.wrap_i64]; omega
          have ws : IntKind.i64.wrap (sb : Int) = sb := by rw [IntKind.wrap_i64]; omega
          have q1 : (q : Int) < 5 := by omega
          have q0 : (0 : Int) ≤ (q : Int) := by omega
          have r0 : (0 : Int) ≤ (rr : Int) := by omega
          have s0 : (0 : Int) ≤ (sb : Int) := by omega
          have HBX := Lib.hid (HBY.out k hlt16)
          rw [eq, er, es] at HBX
          have hvq := HUL.out q
          have hvn := HUL.out (q + 1)
          obtain ⟨a, ea⟩ : ∃ a, u q / 2 ^ rr = a := ⟨_, rfl⟩
          have hab : a ≤ u q := by rw [← ea]; exact Nat.div_le_self _ _
          have hdv : (u q : Int) / 2 ^ rr = (a : Int) := by rw [← ea]; simp
          have hnn : (0 : Int) ≤ (u q : Int) := by omega
          obtain ⟨y, ey⟩ : ∃ y, u (q + 1) * 2 ^ sb = y := ⟨_, rfl⟩
          have hyb : y ≤ 67108864 * 67108864 := by rw [← ey]; exact Nat.mul_le_mul (Nat.le_of_lt hvn) (show 2 ^ sb ≤ 2 ^ 26 from Nat.pow_le_pow_right (by omega) (by omega))
          have hml : IntKind.i64.wrap ((u (q + 1) : Int) * 2 ^ sb) = (y : Int) := by
            have e10 : (u (q + 1) : Int) * 2 ^ sb = (y : Int) := by rw [← ey]; simp
            rw [e10, i64_wrap y (by omega)]
          rw [ea, ey] at HBX
          obtain ⟨kk, ek⟩ : ∃ kk, 16 + k = kk := ⟨_, rfl⟩
          have e6 : (16 : Int) + (k : Int) = (kk : Int) := by omega
          have wk : IntKind.i64.wrap (kk : Int) = kk := by rw [IntKind.wrap_i64]; omega
          have hkk : kk < key.size := by have := HK0.out; omega
          have k1 : (kk : Int) < (key.size : Int) := by omega
          have k2 : (0 : Int) ≤ (kk : Int) := by omega
          have y1 : key[kk].toNat = bN key kk := bN_at key kk hkk
          have hgk := bN_lt key kk
          have hck := HCL.out k
          have HCX := Lib.hid (HCS.out k)
          have HDX := Lib.hid (HDS.out k)
          rw [ek] at HCX HDX
          have wg : IntKind.i64.wrap (bN key kk : Int) = (bN key kk : Int) := i64_wrap _ (by omega)
          obtain ⟨fb, efb⟩ : ∃ fb, H / 256 ^ k % 256 = fb := ⟨_, rfl⟩
          have hfb : fb < 256 := by rw [← efb]; exact Nat.mod_lt _ (by omega)
          rw [efb] at HBX HCX HDX
          generalize bN key kk = gk at *
          obtain ⟨e, ee⟩ : ∃ e, fb + gk = e := ⟨_, rfl⟩
          have hwe : IntKind.i64.wrap ((fb : Int) + (gk : Int)) = (e : Int) := by rw [← i64_wrap e (by omega), ← ee]; rfl
          rw [ee] at HCX HDX
          generalize C k = ck at *
          obtain ⟨s, es2⟩ : ∃ s, ck + e = s := ⟨_, rfl⟩
          have hws : IntKind.i64.wrap ((ck : Int) + (e : Int)) = (s : Int) := by rw [← i64_wrap s (by omega), ← es2]; rfl
          rw [es2] at HCX HDX
          have hd256 : (s : Int) % 256 = (D k : Int) := by rw [HDX.out]; omega
          have hs256 : (s : Int) / 256 = (C (k + 1) : Int) := by rw [HCX.out]; omega
          have hsn : (0 : Int) ≤ (s : Int) := by omega
          have hdl : D k < 256 := by rw [HDX.out]; omega
          have HSN := Lib.hid (tgl_snoc D k)
          have HCE := Lib.hid (show BV [UInt8.ofNat (D k)] = [.int .u8 (D k : Int)] by simp only [BV, List.map_cons, List.map_nil, UInt8.toNat_ofNat']; rw [Nat.mod_eq_of_lt hdl])
          generalize D k = dk at *
          generalize hcn : C (k + 1) = cn1 at *
          have HCN := Lib.hid hcn
          clear hcn
          generalize tgl D k = bs at *
          by_cases h18 : 18 < rr
          · have t18 : (18 : Int) < (rr : Int) := by omega
            rw [if_pos h18] at HBX
            obtain ⟨qn, eqn⟩ : ∃ qn, q + 1 = qn := ⟨_, rfl⟩
            have hq4 : qn < 5 := by omega
            have c2 := HRW.out.cell qn
            rw [cn_at .i64 _ qn hq4] at c2
            rw [eqn] at hml
            have e5 : (q : Int) + 1 = (qn : Int) := by omega
            have q3 : (qn : Int) < 5 := by omega
            have q4 : (0 : Int) ≤ (qn : Int) := by omega
            have wqn : IntKind.i64.wrap (qn : Int) = qn := by rw [IntKind.wrap_i64]; omega
            have hwa : IntKind.i64.wrap ((a : Int) + (y : Int)) = ((a + y : Nat) : Int) := by rw [← i64_wrap (a + y) (by omega)]; rfl
            have hmk := i64_mask8 (a + y) (by omega)
            rw [HBX.out] at hmk
            have hmm : ((a + y : Nat) : Int) % 256 = (fb : Int) := by rw [← HBX.out]; omega
            generalize a + y = ay at *
            generalize u q = uq at *
            generalize u qn = un at *
            have hayn : (0 : Int) ≤ (ay : Int) := by omega
            clear ea ey eq er ep es hq hr hab hyb hvq hvn ek hgk hck HCX HDX efb hfb ee es2 hdl h18 eqn hq4 HBX
            go_wp2_with (at_builtin; refine wpList_append_lies _ rfl _ _ _ rfl W7.heap.size 5 i0 _ 1 1 Tryd.underlying22 hi0 hz0 hz1 hz2 rfl (by omega) _ bs.length (BV bs) (by rfl) (World.ownsRow.alloc R.out _) ⟨wr.heap.size, 0, none⟩ 1 1 [.int .u8 (dk : Int)] (by rfl) (by rfl) (World.news_of_block (cs := #[.int .u8 (dk : Int)]) (t := 5) (fr := (0, 0)) (heap_alloc_new wr _)) (by simp [Value.oneCell']) (by omega) (by unfold maxLen; omega) (by omega) (by have := hz.out; simp; omega) (wr.heap.size + 1) (by simp) ?_; intro gg cap w1 hown1 hgrow hat hlt1; have HO := Lib.hid hown1; have HG := Lib.hid hgrow; clear hown1 hgrow hat hlt1)
            go_roundw
            case rel => exact ⟨k + 1, _, by omega, by go_num, by rw [HCN.out], rfl, Lib.hid (by
              rw [HSN.out]
              have := HO.out
              rw [← HCE.out] at this
              exact Bytes.owns_grown this rfl), Lib.hid ((HB.out.trans ((Below.refl _ _).alloc HB.out.size _)).grown HG.out (by have := hz.out; simp; omega) (Owns.block R.out))⟩
            case measure => simp [intOf]; omega
          · have t18 : ¬ (18 : Int) < (rr : Int) := by omega
            rw [if_neg h18] at HBX
            have hmk := i64_mask8 a (by omega)
            rw [HBX.out] at hmk
            have hmm : (a : Int) % 256 = (fb : Int) := by rw [← HBX.out]; omega
            generalize u q = uq at *
            clear ea ey eq er ep es hq hr hab hyb hvq hvn ek hgk hck HCX HDX efb hfb ee es2 hdl h18 HBX hml
            go_wp2_with (at_builtin; refine wpList_append_lies _ rfl _ _ _ rfl W7.heap.size 5 i0 _ 1 1 Tryd.underlying22 hi0 hz0 hz1 hz2 rfl (by omega) _ bs.length (BV bs) (by rfl) (World.ownsRow.alloc R.out _) ⟨wr.heap.size, 0, none⟩ 1 1 [.int .u8 (dk : Int)] (by rfl) (by rfl) (World.news_of_block (cs := #[.int .u8 (dk : Int)]) (t := 5) (fr := (0, 0)) (heap_alloc_new wr _)) (by simp [Value.oneCell']) (by omega) (by unfold maxLen; omega) (by omega) (by have := hz.out; simp; omega) (wr.heap.size + 1) (by simp) ?_; intro gg cap w1 hown1 hgrow hat hlt1; have HO := Lib.hid hown1; have HG := Lib.hid hgrow; clear hown1 hgrow hat hlt1)
            go_roundw
            case rel => exact ⟨k + 1, _, by omega, by go_num, by rw [HCN.out], rfl, Lib.hid (by
              rw [HSN.out]
              have := HO.out
              rw [← HCE.out] at this
              exact Bytes.owns_grown this rfl), Lib.hid ((HB.out.trans ((Below.refl _ _).alloc HB.out.size _)).grown HG.out (by have := hz.out; simp; omega) (Owns.block R.out))⟩
            case measure => simp [intOf]; omega
        · have hfin := Lib.hid (show k = 16 by omega)
          have hconv := R.out.string
          rw [hfin.out, ← HTG.out] at hconv
          go_wp2
          go_ret
          exact ⟨rfl, HFB.out.trans (HB.out.mono HFB.out.size)⟩
end Go.Proofs.YtcfdnifllehbjaaDoor.SpTag
