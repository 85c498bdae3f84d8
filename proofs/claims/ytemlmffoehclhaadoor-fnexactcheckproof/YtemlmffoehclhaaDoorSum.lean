/-
  What is proved: the digest that the model makes is the plain one (contract for the walks).
-/
import Derived.Test.YtemlmffoehclhaaDoorRows
import Derived.Test.YtemlmffoehclhaaDoorDigestW
import Derived.Deep.LoopGhost
namespace Go.Proofs.YtemlmffoehclhaaDoor.Sum
open Go.ChangeShapes Go.WideShapes Go.ChangeAt Go.RowKit
open Word
open Bytes (BV Owns)
open Arr (Row)
open MixBlock (lst)
open Absorb (all)
open With (hv hcells)
open Pad (pad head be8 zer byte_cell)
open DigestW
set_option linter.unusedVariables false

theorem _root_.Go.Proofs.YtemlmffoehclhaaDoor.Arr.Row.grown {w w' : World} {g : Nat} {t : TypeId} {xs : List Value} {row : Option Nat} (h : Row w g t xs) (hg : w.grownBy w' row) (hr : ∀ k, row = some k → k ≠ g) : Row w' g t xs :=
  (hg.block g h.lt (fun e => hr g e.symm rfl)).trans h
theorem hcell_at (s : St) (b : ByteArray) (n : Int) (k : Nat) (h : k < 8) : (hcells s b n)[k]? = some (.int .i64 (((lst s).getD k 0 : Nat) : Int)) := by
  match k, h with
  | 0, _ => rfl
  | 1, _ => rfl
  | 2, _ => rfl
  | 3, _ => rfl
  | 4, _ => rfl
  | 5, _ => rfl
  | 6, _ => rfl
  | 7, _ => rfl
theorem four_take (m k : Nat) (h : k < 4) : (four m).take (k + 1) = (four m).take k ++ [UInt8.ofNat (m / 2 ^ (8 * (3 - k)))] := by
  match k, h with
  | 0, _ => rfl
  | 1, _ => rfl
  | 2, _ => rfl
  | 3, _ => simp [four]
theorem head_snoc (z : Nat) : head (z + 1) = head z ++ [0] := by
  simp [head, List.replicate_succ']
theorem owns_first (w : World) (b : Nat) (h : b ≤ w.heap.size) : Owns (w.alloc (.cells #[.int .u8 128] 5)) b (.slice (some ⟨w.heap.size, 0, none⟩) 1 1) (head 0) :=
  Bytes.owns_lit w b [128] h (by decide)

set_option maxRecDepth 100000 in
set_option maxHeartbeats 3200000 in
theorem sumSpec (x0 x1 x2 x3 x4 x5 x6 x7 : Nat) (hok : St.ok ⟨x0, x1, x2, x3, x4, x5, x6, x7⟩) (s : ByteArray) (hs : s.size ≤ 64) (n : Nat) (hn : n ≤ 1100000000) (w : World) :
    Calls Tryd.prog 62 #[.agg #[.int .i64 (x0 : Int), .int .i64 (x1 : Int), .int .i64 (x2 : Int), .int .i64 (x3 : Int), .int .i64 (x4 : Int), .int .i64 (x5 : Int), .int .i64 (x6 : Int), .int .i64 (x7 : Int), .string s, .int .i64 (n : Int)]] w fun e w' => e = .returned (.string (sum ⟨x0, x1, x2, x3, x4, x5, x6, x7⟩ s n)) ∧ Below w.heap.size w w' := by
  have HOK := Lib.hid hok
  clear hok
  obtain ⟨i0, hi0, hz0, hz1, hz2⟩ := info_parts Bytes.info5
  go_enter Tryd.func62, Tryd.ntmps62
  go_wp2
  generalize hW : World.alloc _ _ = W
  obtain ⟨HR, HO, HB⟩ : Hid (Row W w.heap.size 29 (hcells ⟨x0, x1, x2, x3, x4, x5, x6, x7⟩ s (n : Int))) ∧ Hid (Owns W (w.heap.size + 1) (.slice (some ⟨w.heap.size + 1, 0, none⟩) 1 1) (head 0)) ∧ Hid (Below w.heap.size w W) := by
    rw [← hW]
    exact ⟨Lib.hid (Arr.two_new w _ _ _ _).1, Lib.hid (by have := owns_first (w.alloc (.cells #[.int .i64 (x0 : Int), .int .i64 (x1 : Int), .int .i64 (x2 : Int), .int .i64 (x3 : Int), .int .i64 (x4 : Int), .int .i64 (x5 : Int), .int .i64 (x6 : Int), .int .i64 (x7 : Int), .string s, .int .i64 (n : Int)] 29)) (w.heap.size + 1) (by simp); simpa using this), Lib.hid (Arr.two_new w _ _ _ _).2.2.1⟩
  clear hW
  have hzl := Pad.zer_lt n
  have HZN := Lib.hid (show zer n = (119 - n % 64) % 64 from rfl)
  go_loopg [4] (zer n) (fun gk v wr => ∃ k : Nat, k + gk = zer n ∧ Hid (Owns wr (w.heap.size + 1) v (head k)) ∧ Hid (Row wr w.heap.size 29 (hcells ⟨x0, x1, x2, x3, x4, x5, x6, x7⟩ s (n : Int))) ∧ Hid (Below w.heap.size w wr))
  case atStart => exact ⟨0, by omega, HO, HR, HB⟩
  case round =>
    obtain ⟨k, hk, R, HRr, HBr⟩ := hrel
    clear HO HR HB
    have HLN := Pad.head_length k
    obtain ⟨ad, cp, rfl⟩ := R.out.length
    have HL := Lib.hid HLN
    have hl1 : (head k).length ≤ 80 := by omega
    have hlw : Hid (w.heap.size < wr.heap.size) := Lib.hid HRr.out.lt
    have q9 : wr.cell? ⟨w.heap.size, 9, none⟩ = some (.int .i64 (n : Int)) := HRr.out.cell 9
    by_cases hlt : k < zer n
    · have he : ((n : Int) + ((head k).length : Int)) % 64 ≠ 56 := by have := HZN.out; rw [HLN]; omega
      have he2 : ((((n : Int) + ((head k).length : Int)) % 64) == 56) = false := beq_eq_false_iff_ne.2 he
      have HSN := Lib.hid (head_snoc k)
      generalize hbs : head k = bs at *
      clear HLN
      go_wp2_with (at_builtin; refine wpList_append_lies _ rfl _ _ _ rfl (w.heap.size + 1) 5 i0 _ 1 1 Tryd.underlying22 hi0 hz0 hz1 hz2 rfl (by omega) _ bs.length (BV bs) (by rfl) (World.ownsRow.alloc R.out _) ⟨wr.heap.size, 0, none⟩ 1 1 [.int .u8 0] (by rfl) (by rfl) (World.news_of_block (cs := #[.int .u8 0]) (t := 5) (fr := (0, 0)) (heap_alloc_new wr _)) (by simp [Value.oneCell']) (by omega) (by unfold maxLen; omega) (by omega) (by have := hlw.out; simp; omega) (wr.heap.size + 1) (by simp) ?_; intro g2 cap w1 hown1 hgrow hat hlt1; have HO := Lib.hid hown1; have HG := Lib.hid hgrow; clear hown1 hgrow hat hlt1)
      go_roundg (zer n - (k + 1))
      case measure => omega
      case rel =>
        have hl := hlw.out
        exact ⟨k + 1, by omega, Lib.hid (by
          rw [HSN.out]
          exact Bytes.owns_grown (news := [0]) HO.out rfl), Lib.hid (Row.grown (HRr.out.alloc _) HG.out (fun j hj => by have := Owns.block R.out j hj; omega)), Lib.hid ((HBr.out.trans ((Below.refl _ _).alloc HBr.out.size _)).grown HG.out (by simp; omega) (fun j hj => by have := Owns.block R.out j hj; omega))⟩
    · have he : ((n : Int) + ((head k).length : Int)) % 64 = 56 := by have := HZN.out; rw [HLN]; omega
      have he2 : ((((n : Int) + ((head k).length : Int)) % 64) == 56) = true := by rw [he]; rfl
      have hkz : k = zer n := by omega
      subst hkz
      clear hlt hk
      go_wp2
      clear q9 he he2 hl1 HLN HL
      generalize hvv : Value.slice ad (head (zer n)).length cp = vv at *
      have HOUT := Lib.hid (show pad n = head (zer n) ++ be8 (8 * n) 8 from rfl)
      have HHL := Lib.hid (Pad.head_length (zer n))
      generalize head (zer n) = hd at *
      generalize zer n = zz at *
      clear HZN hvv
      generalize ((n : Int) + (1 + (zz : Int))) % 64 = ta
      generalize (ta != 56) = tb
      go_loopw [4, 5] (fun v i wq => ∃ k : Nat, k ≤ 8 ∧ i = .int .i64 (7 - (k : Int)) ∧ Hid (Owns wq (w.heap.size + 1) v (hd ++ be8 (8 * n) k)) ∧ Hid (Row wq w.heap.size 29 (hcells ⟨x0, x1, x2, x3, x4, x5, x6, x7⟩ s (n : Int))) ∧ Hid (Below w.heap.size w wq)) (fun _ i _ => (intOf i + 1).toNat)
      case atStart => exact ⟨0, by omega, rfl, Lib.hid (by rw [show be8 (8 * n) 0 = [] from rfl, List.append_nil]; exact R.out), HRr, HBr⟩
      case round =>
        obtain ⟨k, hk, rfl, R2, HR2, HB2⟩ := hrel
        clear R HRr HBr hlw
        have hlw : Hid (w.heap.size < wr.heap.size) := Lib.hid HR2.out.lt
        obtain ⟨bs, hbs⟩ : ∃ bs, hd ++ be8 (8 * n) k = bs := ⟨_, rfl⟩
        have hl1 : bs.length ≤ 80 := by rw [← hbs, List.length_append, HHL.out, Pad.be8_length]; omega
        rw [hbs] at R2
        have HBS := Lib.hid hbs
        clear hbs
        by_cases hlt : k < 8
        · have hk2 : 0 ≤ 7 - (k : Int) := by omega
          have HV := Lib.hid (byte_cell (8 * n) (8 * (7 - k)))
          rw [Int.natCast_mul, show ((8 : Nat) : Int) = 8 from rfl] at HV
          have HBE := Lib.hid (show be8 (8 * n) (k + 1) = be8 (8 * n) k ++ [UInt8.ofNat (8 * n / 2 ^ (8 * (7 - k)))] by rw [show 8 * (7 - k) = 56 - 8 * k by omega]; rfl)
          go_wp2_with (at_builtin; refine wpList_append_lies _ rfl _ _ _ rfl (w.heap.size + 1) 5 i0 _ 1 1 Tryd.underlying22 hi0 hz0 hz1 hz2 rfl (by omega) _ bs.length (BV bs) (by rfl) (World.ownsRow.alloc R2.out _) ⟨wr.heap.size, 0, none⟩ 1 1 [.int .u8 (8 * (n : Int) / 2 ^ (8 * (7 - k)) % 256)] (by rfl) (by rfl) (World.news_of_block (cs := #[.int .u8 (8 * (n : Int) / 2 ^ (8 * (7 - k)) % 256)]) (t := 5) (fr := (0, 0)) (heap_alloc_new wr _)) (by simp [Value.oneCell']) (by omega) (by unfold maxLen; omega) (by omega) (by have := hlw.out; simp; omega) (wr.heap.size + 1) (by simp) ?_; intro g2 cap w1 hown1 hgrow hat hlt1; have HO := Lib.hid hown1; have HG := Lib.hid hgrow; clear hown1 hgrow hat hlt1)
          go_roundw
          case rel =>
            have hl := hlw.out
            exact ⟨k + 1, by omega, by congr 1; omega, Lib.hid (by
              rw [HBE.out, ← List.append_assoc, HBS.out]
              have := HO.out
              rw [← HV.out] at this
              exact Bytes.owns_grown this rfl), Lib.hid (Row.grown (HR2.out.alloc _) HG.out (fun j hj => by have := Owns.block R2.out j hj; omega)), Lib.hid ((HB2.out.trans ((Below.refl _ _).alloc HB2.out.size _)).grown HG.out (by simp; omega) (fun j hj => by have := Owns.block R2.out j hj; omega))⟩
          case measure => simp [intOf]; omega
        · have hk8 : k = 8 := by omega
          subst hk8
          have hconv := R2.out.string
          rw [← HBS.out, ← HOUT.out] at hconv
          have hps := padB_size n
          have hl := hlw.out
          have HLW := Lib.hid hlw.out
          clear hlw
          have c0 : wr.cell? ⟨w.heap.size, 0, none⟩ = some (.int .i64 (x0 : Int)) := HR2.out.cell 0
          have c1 : wr.cell? ⟨w.heap.size, 1, none⟩ = some (.int .i64 (x1 : Int)) := HR2.out.cell 1
          have c2 : wr.cell? ⟨w.heap.size, 2, none⟩ = some (.int .i64 (x2 : Int)) := HR2.out.cell 2
          have c3 : wr.cell? ⟨w.heap.size, 3, none⟩ = some (.int .i64 (x3 : Int)) := HR2.out.cell 3
          have c4 : wr.cell? ⟨w.heap.size, 4, none⟩ = some (.int .i64 (x4 : Int)) := HR2.out.cell 4
          have c5 : wr.cell? ⟨w.heap.size, 5, none⟩ = some (.int .i64 (x5 : Int)) := HR2.out.cell 5
          have c6 : wr.cell? ⟨w.heap.size, 6, none⟩ = some (.int .i64 (x6 : Int)) := HR2.out.cell 6
          have c7 : wr.cell? ⟨w.heap.size, 7, none⟩ = some (.int .i64 (x7 : Int)) := HR2.out.cell 7
          have c8 : wr.cell? ⟨w.heap.size, 8, none⟩ = some (.string s) := HR2.out.cell 8
          have c9 : wr.cell? ⟨w.heap.size, 9, none⟩ = some (.int .i64 (n : Int)) := HR2.out.cell 9
          have HP := Lib.hid (show (⟨(pad n).toArray⟩ : ByteArray) = padB n from rfl)
          go_wp2_with fail
          refine (More.more _ _ _ _ _ _ _ _ HOK.out s (padB n) (n : Int) (by omega) (by omega) (by omega) (by omega) _).mono ?_
          rintro e' w1 ⟨rfl, hb1⟩
          obtain ⟨⟨⟨a, b, c, d, e, f, g, z⟩, bb⟩, hp⟩ : ∃ p, all ⟨x0, x1, x2, x3, x4, x5, x6, x7⟩ (s ++ padB n) = p := ⟨_, rfl⟩
          have HALL := Lib.hid hp
          have HSOK := Lib.hid (show St.ok ⟨a, b, c, d, e, f, g, z⟩ by have := Absorb.all_ok _ (s ++ padB n) HOK.out; rw [hp] at this; exact this)
          rw [hp]
          clear hp
          unfold hv
          have HRB := Lib.hid (HR2.out.below hb1 HLW.out)
          have HBB := Lib.hid (HB2.out.trans (hb1.mono (Nat.le_of_lt HLW.out)))
          have hz9 := hb1.size
          clear hb1
          have cd0 : w1.cell? ⟨w.heap.size, 0, none⟩ = some (.int .i64 (x0 : Int)) := HRB.out.cell 0
          have cf0 : w1.frozen? ⟨w.heap.size, 0, none⟩ = false := HRB.out.frozen 0
          have cd1 : w1.cell? ⟨w.heap.size, 1, none⟩ = some (.int .i64 (x1 : Int)) := HRB.out.cell 1
          have cf1 : w1.frozen? ⟨w.heap.size, 1, none⟩ = false := HRB.out.frozen 1
          have cd2 : w1.cell? ⟨w.heap.size, 2, none⟩ = some (.int .i64 (x2 : Int)) := HRB.out.cell 2
          have cf2 : w1.frozen? ⟨w.heap.size, 2, none⟩ = false := HRB.out.frozen 2
          have cd3 : w1.cell? ⟨w.heap.size, 3, none⟩ = some (.int .i64 (x3 : Int)) := HRB.out.cell 3
          have cf3 : w1.frozen? ⟨w.heap.size, 3, none⟩ = false := HRB.out.frozen 3
          have cd4 : w1.cell? ⟨w.heap.size, 4, none⟩ = some (.int .i64 (x4 : Int)) := HRB.out.cell 4
          have cf4 : w1.frozen? ⟨w.heap.size, 4, none⟩ = false := HRB.out.frozen 4
          have cd5 : w1.cell? ⟨w.heap.size, 5, none⟩ = some (.int .i64 (x5 : Int)) := HRB.out.cell 5
          have cf5 : w1.frozen? ⟨w.heap.size, 5, none⟩ = false := HRB.out.frozen 5
          have cd6 : w1.cell? ⟨w.heap.size, 6, none⟩ = some (.int .i64 (x6 : Int)) := HRB.out.cell 6
          have cf6 : w1.frozen? ⟨w.heap.size, 6, none⟩ = false := HRB.out.frozen 6
          have cd7 : w1.cell? ⟨w.heap.size, 7, none⟩ = some (.int .i64 (x7 : Int)) := HRB.out.cell 7
          have cf7 : w1.frozen? ⟨w.heap.size, 7, none⟩ = false := HRB.out.frozen 7
          have cd8 : w1.cell? ⟨w.heap.size, 8, none⟩ = some (.string s) := HRB.out.cell 8
          have cf8 : w1.frozen? ⟨w.heap.size, 8, none⟩ = false := HRB.out.frozen 8
          have cd9 : w1.cell? ⟨w.heap.size, 9, none⟩ = some (.int .i64 (n : Int)) := HRB.out.cell 9
          have cf9 : w1.frozen? ⟨w.heap.size, 9, none⟩ = false := HRB.out.frozen 9
          go_wp2
          have hl9 : w.heap.size < w1.heap.size := HRB.out.lt
          generalize hW9 : World.setCell _ _ _ = w9
          obtain ⟨HR9, HB9, hs9⟩ : Hid (Row w9 w.heap.size 29 (hcells ⟨a, b, c, d, e, f, g, z⟩ bb ((n : Int) + ((padB n).size : Int)))) ∧ Hid (Below w.heap.size w w9) ∧ w9.heap.size = w1.heap.size := by
            rw [← hW9]
            refine ⟨Lib.hid ?_, Lib.hid ?_, by simp [World.setCell]⟩
            · exact (((((((((HRB.out.set 0 _).set 1 _).set 2 _).set 3 _).set 4 _).set 5 _).set 6 _).set 7 _).set 8 _).set 9 _
            · iterate 10 refine Below.setCell ?_ (by exact Nat.le_refl _) _
              exact HBB.out
          clear hW9
          generalize hW2 : World.alloc _ _ = W2
          obtain ⟨HO6, HR6, HB6⟩ : Hid (Owns W2 (w.heap.size + 1) (.slice (some ⟨w1.heap.size, 0, none⟩) 0 0) []) ∧ Hid (Row W2 w.heap.size 29 (hcells ⟨a, b, c, d, e, f, g, z⟩ bb ((n : Int) + ((padB n).size : Int)))) ∧ Hid (Below w.heap.size w W2) := by
            rw [← hW2, ← hs9]
            exact ⟨Lib.hid (Bytes.owns_made w9 (w.heap.size + 1) 0 #[] (by omega) (by unfold maxLen; omega) rfl), Lib.hid (HR9.out.alloc _), Lib.hid (HB9.out.alloc (by omega) _)⟩
          clear hW2 cd0 cf0 cd1 cf1 cd2 cf2 cd3 cf3 cd4 cf4 cd5 cf5 cd6 cf6 cd7 cf7 cd8 cf8 cd9 cf9
          have HSUM := Lib.hid (show sum ⟨x0, x1, x2, x3, x4, x5, x6, x7⟩ s n = ⟨(dig ⟨a, b, c, d, e, f, g, z⟩).toArray⟩ by unfold sum; rw [HALL.out])
          generalize hst : (⟨a, b, c, d, e, f, g, z⟩ : St) = st at HSUM HR6 HSOK
          clear hst HALL
          go_loopw [6, 7] (fun v i wr => ∃ k : Nat, k ≤ 8 ∧ i = .int .i64 (k : Int) ∧ Hid (Owns wr (w.heap.size + 1) v (((lst st).take k).flatMap four)) ∧ Hid (Row wr w.heap.size 29 (hcells st bb ((n : Int) + ((padB n).size : Int)))) ∧ Hid (Below w.heap.size w wr)) (fun _ i _ => 8 - (intOf i).toNat)
          case atStart => exact ⟨0, by omega, rfl, HO6, HR6, HB6⟩
          case round =>
            obtain ⟨i, hi, rfl, R3, HR3, HB3⟩ := hrel
            clear HO6 HR6 HB6
            obtain ⟨bs0, hbs⟩ : ∃ bs, ((lst st).take i).flatMap four = bs := ⟨_, rfl⟩
            have hl3 : bs0.length ≤ 32 := by rw [← hbs]; exact flat_le st i
            rw [hbs] at R3
            have HBS3 := Lib.hid hbs
            clear hbs
            by_cases hlt3 : i < 8
            · have hi2 : (i : Int) < 8 := by omega
              have HFS := Lib.hid (flat_snoc st i hlt3)
              have hm := Absorb.getD_lt (lst st) (lst_lt _ HSOK.out) i
              have HCI := Lib.hid (fun (u : World) (h : Row u w.heap.size 29 (hcells st bb ((n : Int) + ((padB n).size : Int)))) => (h.cell i).trans (hcell_at st bb _ i hlt3))
              generalize (lst st).getD i 0 = m at HFS hm HCI
              go_wp2
              go_loopw [6, 8] (fun v i wr => ∃ k : Nat, k ≤ 4 ∧ i = .int .i64 (3 - (k : Int)) ∧ Hid (Owns wr (w.heap.size + 1) v (bs0 ++ (four m).take k)) ∧ Hid (Row wr w.heap.size 29 (hcells st bb ((n : Int) + ((padB n).size : Int)))) ∧ Hid (Below w.heap.size w wr)) (fun _ i _ => (intOf i + 1).toNat)
              case atStart => exact ⟨0, by omega, rfl, Lib.hid (by rw [List.take_zero, List.append_nil]; exact R3.out), HR3, HB3⟩
              case round =>
                obtain ⟨k, hk, rfl, R4, HR4, HB4⟩ := hrel
                clear R3 HR3 HB3
                have q := HCI.out _ HR4.out
                have hlw4 := Lib.hid HR4.out.lt
                have HFT := Lib.hid (fun (h : k < 4) => four_take m k h)
                have HF4 := Lib.hid (show (four m).take 4 = four m from rfl)
                have hfl : ((four m).take k).length ≤ 4 := by rw [List.length_take]; exact Nat.min_le_right _ _
                generalize four m = fm at *
                obtain ⟨bs, hbs⟩ : ∃ bs, bs0 ++ fm.take k = bs := ⟨_, rfl⟩
                have hl4 : bs.length ≤ 80 := by rw [← hbs, List.length_append]; omega
                rw [hbs] at R4
                have HBS4 := Lib.hid hbs
                clear hbs
                by_cases hlt4 : k < 4
                · have hk2 : 0 ≤ 3 - (k : Int) := by omega
                  have HV := Lib.hid (byte_cell m (8 * (3 - k)))
                  go_wp2_with (at_builtin; refine wpList_append_lies _ rfl _ _ _ rfl (w.heap.size + 1) 5 i0 _ 1 1 Tryd.underlying22 hi0 hz0 hz1 hz2 rfl (by omega) _ bs.length (BV bs) (by rfl) (World.ownsRow.alloc R4.out _) ⟨wr.heap.size, 0, none⟩ 1 1 [.int .u8 ((m : Int) / 2 ^ (8 * (3 - k)) % 256)] (by rfl) (by rfl) (World.news_of_block (cs := #[.int .u8 ((m : Int) / 2 ^ (8 * (3 - k)) % 256)]) (t := 5) (fr := (0, 0)) (heap_alloc_new wr _)) (by simp [Value.oneCell']) (by omega) (by unfold maxLen; omega) (by omega) (by have := hlw4.out; simp; omega) (wr.heap.size + 1) (by simp) ?_; intro g2 cap w3 hown1 hgrow hat hlt1; have HO := Lib.hid hown1; have HG := Lib.hid hgrow; clear hown1 hgrow hat hlt1)
                  go_roundw
                  case rel =>
                    have hl := hlw4.out
                    exact ⟨k + 1, by omega, by congr 1; omega, Lib.hid (by
                      rw [HFT.out hlt4, ← List.append_assoc, HBS4.out]
                      have := HO.out
                      rw [← HV.out] at this
                      exact Bytes.owns_grown this rfl), Lib.hid (Row.grown (HR4.out.alloc _) HG.out (fun j hj => by have := Owns.block R4.out j hj; omega)), Lib.hid ((HB4.out.trans ((Below.refl _ _).alloc HB4.out.size _)).grown HG.out (by simp; omega) (fun j hj => by have := Owns.block R4.out j hj; omega))⟩
                  case measure => simp [intOf]; omega
                · have hk4 : k = 4 := by omega
                  subst hk4
                  go_wp2
                  go_roundw
                  case rel => exact ⟨i + 1, by omega, by go_num, Lib.hid (by rw [HFS.out, HBS3.out, ← HF4.out, HBS4.out]; exact R4.out), HR4, HB4⟩
                  case measure => simp [intOf]; omega
            · have hk8 : i = 8 := by omega
              subst hk8
              have hconv := R3.out.string
              rw [← HBS3.out] at hconv
              have hfin : ((lst st).take 8).flatMap four = dig st := rfl
              rw [hfin, ← HSUM.out] at hconv
              go_wp2
              go_ret
              exact ⟨rfl, HB3.out⟩
end Go.Proofs.YtemlmffoehclhaaDoor.Sum
