/-
  What is proved: the digest that the program's own makes is the plain one, where the package's table holds its words (contract for the walks).
-/
import Derived.Test.YtemlmffoehclhaaDoorRows
import Derived.Test.YtemlmffoehclhaaDoorDigestW
import Derived.Deep.DeepCutAuto
import Derived.Deep.RegionWith
namespace Go.Proofs.YtemlmffoehclhaaDoor.Digest
open Go.ChangeShapes Go.WideShapes Go.ChangeAt Go.RowKit
open Word
open Bytes (BV Owns)
open MixBlock (Tab lst)
open Absorb (all)
open With (hv)
open Pad (pad)
open DigestW
set_option linter.unusedVariables false

set_option maxRecDepth 100000 in
set_option maxHeartbeats 3200000 in
theorem digest (x0 x1 x2 x3 x4 x5 x6 x7 : Nat) (hok : St.ok ⟨x0, x1, x2, x3, x4, x5, x6, x7⟩) (s : ByteArray) (hs : s.size ≤ 64) (n : Nat) (hn : n ≤ 1100000000) (w : World) (T : Tab w) :
    Calls Tryd.prog 48 #[.agg #[.int .i64 (x0 : Int), .int .i64 (x1 : Int), .int .i64 (x2 : Int), .int .i64 (x3 : Int), .int .i64 (x4 : Int), .int .i64 (x5 : Int), .int .i64 (x6 : Int), .int .i64 (x7 : Int), .string s, .int .i64 (n : Int)]] w fun e w' => e = .returned (.string (sum ⟨x0, x1, x2, x3, x4, x5, x6, x7⟩ s n)) ∧ Below w.heap.size w w' := by
  have HOK := Lib.hid hok
  have TT := Lib.hid T
  have HTL := Lib.hid T.lt
  clear hok T
  have hps := padB_size n
  have HP := Lib.hid (show (⟨(pad n).toArray⟩ : ByteArray) = padB n from rfl)
  obtain ⟨⟨⟨a, b, c, d, e, f, g, z⟩, bb⟩, hp⟩ : ∃ p, all ⟨x0, x1, x2, x3, x4, x5, x6, x7⟩ (s ++ padB n) = p := ⟨_, rfl⟩
  have HALL := Lib.hid hp
  have HSOK := Lib.hid (show St.ok ⟨a, b, c, d, e, f, g, z⟩ by have := Absorb.all_ok _ (s ++ padB n) HOK.out; rw [hp] at this; exact this)
  clear hp
  go_enter Tryd.func48, Tryd.ntmps48
  go_upto_region 1 with (fail)
  go_cut [3] (fun v3 wr => ∃ gg : Nat, v3 = .pointer (some ⟨gg, 0, none⟩) ∧ w.heap.size ≤ gg ∧ (wr.cell? ⟨gg, 0, none⟩ = some (.int .i64 (a : Int)) ∧ wr.cell? ⟨gg, 1, none⟩ = some (.int .i64 (b : Int)) ∧ wr.cell? ⟨gg, 2, none⟩ = some (.int .i64 (c : Int)) ∧ wr.cell? ⟨gg, 3, none⟩ = some (.int .i64 (d : Int)) ∧ wr.cell? ⟨gg, 4, none⟩ = some (.int .i64 (e : Int)) ∧ wr.cell? ⟨gg, 5, none⟩ = some (.int .i64 (f : Int)) ∧ wr.cell? ⟨gg, 6, none⟩ = some (.int .i64 (g : Int)) ∧ wr.cell? ⟨gg, 7, none⟩ = some (.int .i64 (z : Int))) ∧ Hid (Below w.heap.size w wr))
  case first =>
    go_region_with (first
      | (go_at_call 75
         refine (Pad.padding n (by omega) _).mono ?_
         rintro e' w1 ⟨rfl, hb1⟩
         obtain ⟨hc1, hf1⟩ := Eq8.bcell hb1
         have hz1 := hb1.size
         have HB1 := Lib.hid hb1
         clear hb1
         (try simp only [World.size_drew, World.size_alloc] at hc1 hf1 hz1)
         have l0 : w.heap.size < w1.heap.size := by omega
         (try have l1 : w.heap.size + 1 < w1.heap.size := by omega))
      | (go_at_call 47
         refine (With.withImpl _ _ _ _ _ _ _ _ HOK.out s (padB n) (n : Int) (by omega) (by omega) (by omega) (by omega) _ ?_).mono ?_
         exact TT.out.below (B := w.heap.size) (by repeat (first | exact Below.refl _ _ | refine Below.drew ?_ | refine Below.alloc ?_ (by first | omega | (simp; done) | (simp; omega)) _ | refine Below.trans ?_ (HB1.out.mono (by first | omega | (simp; done) | (simp; omega))))) HTL.out
         rintro e' w2 ⟨rfl, hb2⟩
         rw [HALL.out]
         unfold hv
         obtain ⟨hc2, hf2⟩ := Eq8.bcell hb2
         have hz2 := hb2.size
         have HB2 := Lib.hid hb2
         clear hb2
         (try simp only [World.size_alloc] at hc2 hf2 hz2)))
    all_goals
      go_wp2_with fail
      go_meet
      refine ⟨_, rfl, by omega, ?_, Lib.hid ?_⟩
      · refine ⟨?_, ?_, ?_, ?_, ?_, ?_, ?_, ?_⟩
        all_goals go_simp
      · repeat (with_reducible (first | refine Below.setCell ?_ (by first | omega | (simp; done) | (simp; omega)) _ | refine Below.alloc ?_ (by first | omega | (simp; done) | (simp; omega)) _ | refine Below.drew ?_ | refine Below.trans ?_ (HB2.out.mono (by first | omega | (simp; done) | (simp; omega))) | refine Below.trans ?_ (HB1.out.mono (by first | omega | (simp; done) | (simp; omega))) | exact Below.refl _ _))
  case rest =>
    obtain ⟨gg, rfl, hgg, ⟨q0, q1, q2, q3, q4, q5, q6, q7⟩, HB⟩ := hcut
    obtain ⟨i0, hi0, hz0, hz1, hz2⟩ := info_parts Bytes.info5
    have hmk : ∀ u : World, (Instr.makeSlice 22 (.int .i64 0) (.int .i64 32)).run Tryd.prog u =
        .ok (.slice (some ⟨u.heap.size, 0, none⟩) 0 32) (u.alloc (.cells (madeCells #[.int .u8 0] 32) 5)) := fun u => by
      have h := run_make (P := Tryd.prog) u 22 5 i0 (.int .u8 0) Tryd.underlying22 hi0 hz0 .i64 .i64 0 32 (by omega) (by omega) (by rw [hz2]; omega) (by omega)
      simpa [hz1, Value.cells] using h
    have hms := Lib.hid (size_madeCells #[.int .u8 0] 32)
    generalize madeCells #[.int .u8 0] 32 = mc at hmk hms
    have hzc := HB.out.size
    have hglt : gg < wc.heap.size := World.block_lt_of_cell? wc _ q0
    have HIX := Lib.hid (fun k (h : k < 8) (u : World) => (HashOKc.index8 (a : Int) (b : Int) (c : Int) (d : Int) (e : Int) (f : Int) (g : Int) (z : Int) k h u).trans (show _ = Result.ok (Value.int .i64 (((lst ⟨a, b, c, d, e, f, g, z⟩).getD k 0 : Nat) : Int)) u by rw [← getD_cast ⟨a, b, c, d, e, f, g, z⟩ k h]))
    have HFL := Lib.hid (fun k (h : k < 8) => flat_snoc ⟨a, b, c, d, e, f, g, z⟩ k h)
    have HLT := Lib.hid (fun k => Absorb.getD_lt (lst ⟨a, b, c, d, e, f, g, z⟩) (lst_lt _ HSOK.out) k)
    have HSUM := Lib.hid (show sum ⟨x0, x1, x2, x3, x4, x5, x6, x7⟩ s n = ⟨(dig ⟨a, b, c, d, e, f, g, z⟩).toArray⟩ by unfold sum; rw [HALL.out])
    generalize hst : (⟨a, b, c, d, e, f, g, z⟩ : St) = st at HIX HFL HLT HSUM
    clear hst
    go_wp2
    clear hmk q0 q1 q2 q3 q4 q5 q6 q7
    go_loopw [4, 15] (fun v i wr => ∃ k : Nat, k ≤ 8 ∧ i = .int .i64 k ∧ Hid (Owns wr w.heap.size v (((lst st).take k).flatMap four)) ∧ Hid (Below w.heap.size w wr)) (fun _ i _ => 8 - (intOf i).toNat)
    case atStart => exact ⟨0, by omega, rfl, Lib.hid (Bytes.owns_made wc w.heap.size 32 mc hzc (by unfold maxLen; omega) hms.out), Lib.hid (HB.out.alloc hzc _)⟩
    case round =>
      rename_i wr
      obtain ⟨k, hk, rfl, R, HB2⟩ := hrel
      obtain ⟨bs, hbs⟩ : ∃ bs, ((lst st).take k).flatMap four = bs := ⟨_, rfl⟩
      have hl1 : bs.length ≤ 32 := by rw [← hbs]; exact flat_le st k
      rw [hbs] at R
      have HBS := Lib.hid hbs
      clear hbs
      have hz := Lib.hid HB2.out.size
      by_cases hlt : k < 8
      · have hk2 : (k : Int) < 8 := by omega
        have hix := HIX.out k hlt
        have HFS := Lib.hid (HFL.out k hlt)
        have hm := HLT.out k
        generalize (lst st).getD k 0 = m at hix HFS hm
        have HV := Lib.hid (four_cells m hm)
        go_wp2_with (at_builtin; refine wpList_append_lies _ rfl _ _ _ rfl w.heap.size 5 i0 _ 1 1 Tryd.underlying22 hi0 hz0 hz1 hz2 rfl (by omega) _ bs.length (BV bs) (by rfl) (World.ownsRow.alloc R.out _) ⟨wr.heap.size, 0, none⟩ 4 4 [.int .u8 ((m : Int) / 16777216), .int .u8 ((m : Int) / 65536 % 256), .int .u8 ((m : Int) / 256 % 256), .int .u8 ((m : Int) % 256)] (by rfl) (by rfl) (World.news_of_block (cs := #[.int .u8 ((m : Int) / 16777216), .int .u8 ((m : Int) / 65536 % 256), .int .u8 ((m : Int) / 256 % 256), .int .u8 ((m : Int) % 256)]) (t := 5) (fr := (0, 0)) (heap_alloc_new wr _)) (by simp [Value.oneCell']) (by omega) (by unfold maxLen; omega) (by omega) (by have := hz.out; simp; omega) (wr.heap.size + 1) (by simp) ?_; intro g2 cap w1 hown1 hgrow hat hlt1; have HO := Lib.hid hown1; have HG := Lib.hid hgrow; clear hown1 hgrow hat hlt1)
        go_roundw
        case rel => exact ⟨k + 1, by omega, by go_num, Lib.hid (by
          rw [HFS.out, HBS.out]
          have := HO.out
          rw [← HV.out] at this
          exact Bytes.owns_grown this rfl), Lib.hid ((HB2.out.trans ((Below.refl _ _).alloc HB2.out.size _)).grown HG.out (by have := hz.out; simp; omega) (Owns.block R.out))⟩
        case measure => simp [intOf]; omega
      · have hconv := R.out.string
        have hk8 : k = 8 := by omega
        subst hk8
        rw [← HBS.out] at hconv
        have hfin : ((lst st).take 8).flatMap four = dig st := rfl
        rw [hfin, ← HSUM.out] at hconv
        go_wp2
        go_ret
        exact ⟨rfl, HB2.out⟩
end Go.Proofs.YtemlmffoehclhaaDoor.Digest
