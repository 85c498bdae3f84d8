/-
  What is proved: the model's way from bytes to words answers the plain words and code, in new memory (contracts for the walks); the exact law on both ways returns true (the walk), where errors' own variable stands in its place.
-/
import Derived.Test.YtggobhpjfflooaaDoorRows
import Derived.Test.YtggobhpjfflooaaDoorInts3
namespace Go.Proofs.YtggobhpjfflooaaDoor.Ints4
open Go.ChangeShapes Go.WideShapes Go.ChangeAt Go.RowKit
open Sl (Sl Own Off)
open OpenSl (tc nc pc)
open Dev
open As (Hnd)
open Cha (lw lw_lt)
open Ints3
set_option linter.unusedVariables false

theorem cl_succ (c : Nat → Value) (k : Nat) : Cop.cl c (k + 1) = Cop.cl c k ++ [c k] := by simp [Cop.cl, List.range_succ]
/-- Word j's cell. -/
def wc (s : ByteArray) (j : Nat) : Value := .int .i64 (lw s j : Int)

set_option maxRecDepth 100000 in
set_option maxHeartbeats 1600000 in
theorem l06ToInts (s : ByteArray) (hs : s.size ≤ 65536) (w : World) :
    Calls Tryd.prog 60 #[.string s] w fun e w' => ∃ r, e = .returned (.tuple #[r, .bool (decide (s.size % 4 = 0))]) ∧ Own w' w.heap.size 1 r (s.size / 4) (wc s) ∧ Below w.heap.size w w' := by
  obtain ⟨i0, hi0, hz0, hz1, hz2⟩ := info_parts LawN.info3
  obtain ⟨n, en⟩ : ∃ n, s.size / 4 = n := ⟨_, rfl⟩
  obtain ⟨r, er⟩ : ∃ r, s.size % 4 = r := ⟨_, rfl⟩
  obtain ⟨B, hB⟩ : ∃ B, decide (r = 0) = B := ⟨_, rfl⟩
  rw [en, er, hB]
  have hdec : ((r : Int) == 0) = B := by
    rw [← hB]
    by_cases h : r = 0
    · subst h; rfl
    · rw [decide_eq_false h]; simp; omega
  have HDEC := Lib.hid hdec
  clear hdec hB
  have hsz : s.size = 4 * n + r := by omega
  have hr : r < 4 := by omega
  have HWD := Lib.hid (fun k (hk : k < n) => Four.word s (4 * k) (by omega) (by omega))
  have HLT := Lib.hid (lw_lt s)
  have HC := Lib.hid (show ∀ k, wc s k = .int .i64 (lw s k : Int) from fun _ => rfl)
  simp only [Four.lwAt_lw] at HWD
  generalize lw s = LW at *
  generalize wc s = C at *
  have HSN := Lib.hid (cl_succ C)
  have HLN := Lib.hid (Cop.cl_len C)
  have HZ := Lib.hid (show Cop.cl C 0 = [] from rfl)
  have HOWN := Lib.hid (fun (u : World) (v : Value) (k : Nat) (h : u.ownsRow w.heap.size 3 1 v k (Cop.cl C k)) => (Cop.row_own (c := C) (by rw [Nat.mul_one]; exact h) : Own u w.heap.size 1 v k C))
  generalize Cop.cl C = CL at *
  have hr2 : (s.size : Int) % 4 = (r : Int) := by omega
  have HSZ := Lib.hid hsz
  have hn4 : 4 * n ≤ 65536 := by omega
  clear en er hsz
  go_enter Tryd.func60, Tryd.ntmps60
  go_wp2
  go_loopw [4, 5] (fun v i wz => ∃ (k p : Nat) (wr : World), wr = wz ∧ k ≤ n ∧ i = .int .i64 p ∧ Hid (p = 4 * k) ∧ Hid (wr.ownsRow w.heap.size 3 1 v k (CL k)) ∧ Hid (Below w.heap.size w wr)) (fun _ i _ => 4 * n + 4 - (intOf i).toNat)
  case atStart => exact ⟨0, 0, _, rfl, by omega, rfl, Lib.hid rfl, Lib.hid (by rw [HZ.out]; exact World.ownsRow_made w #[] 0 (Nat.le_refl _) (by unfold maxLen; omega) rfl), Lib.hid ((Below.refl _ _).alloc (Nat.le_refl _) _)⟩
  case round =>
  obtain ⟨k, p, wr, rfl, hk, rfl, HP, R, HB⟩ := hrel
  have hz := Lib.hid HB.out.size
  have hp : p ≤ 65536 := by have := HP.out; omega
  by_cases hlt : k < n
  · have hlt2 : (p : Int) + 4 ≤ (s.size : Int) := by have := HP.out; have := HSZ.out; omega
    have HW := Lib.hid (HWD.out k hlt)
    have hx := HLT.out k
    have HS := Lib.hid (show CL (k + 1) = CL k ++ [.int .i64 (LW k : Int)] by rw [HSN.out k, HC.out k])
    have HL := Lib.hid (HLN.out k)
    rw [← HP.out] at HW
    generalize LW k = x at *
    generalize CL k = cs at *
    have hkl : k ≤ 16384 := by have := HP.out; omega
    go_wp2_with fail
    refine (HW.out _).mono ?_
    rintro e w1 ⟨rfl, m, rfl⟩
    have HB1 := Lib.hid (below_drewN HB.out m)
    have R1 := Lib.hid (show (wr.drewN m).ownsRow w.heap.size 3 1 _ k cs from R.out)
    have hz1' := Lib.hid HB1.out.size
    clear HB R hz
    generalize wr.drewN m = wr at *
    go_wp2_with (at_builtin; refine wpList_append_lies _ rfl _ _ _ rfl w.heap.size 3 i0 _ 1 8 Tryd.underlying34 hi0 hz0 hz1 hz2 rfl (by omega) _ k cs (by rfl) (World.ownsRow.alloc R1.out _) ⟨wr.heap.size, 0, none⟩ 1 1 [.int .i64 (x : Int)] (by rfl) (by rfl) (World.news_of_block (cs := #[.int .i64 (x : Int)]) (t := 3) (fr := (0, 0)) (heap_alloc_new wr _)) (by simp [Value.oneCell']) (by omega) (by unfold maxLen; omega) (by omega) (by have := hz1'.out; simp; omega) (wr.heap.size + 1) (by simp) ?_; intro gg cap w1 hown1 hgrow hat hlt1; have HO := Lib.hid hown1; have HG := Lib.hid hgrow; clear hown1 hgrow hat hlt1)
    go_roundw
    case rel => exact ⟨k + 1, p + 4, _, rfl, by omega, by go_num, Lib.hid (by have := HP.out; omega), Lib.hid (by rw [HS.out]; exact HO.out), Lib.hid ((HB1.out.trans ((Below.refl _ _).alloc HB1.out.size _)).grown HG.out (by have := hz1'.out; simp; omega) (fun k hk => (World.ownsRow.lt R1.out k hk).1))⟩
    case measure => simp [intOf]; have := HP.out; omega
  · have hfin := Lib.hid (show k = n by omega)
    have hlt2 : ¬ (p : Int) + 4 ≤ (s.size : Int) := by have := HP.out; have := HSZ.out; have := hfin.out; omega
    have HO := Lib.hid (HOWN.out _ _ _ R.out)
    have hdec := HDEC.out
    have wr4 : IntKind.i64.wrap (r : Int) = r := by rw [IntKind.wrap_i64]; omega
    clear R
    go_wp2
    go_ret2
    refine ⟨_, rfl, ?_, HB.out⟩
    have := HO.out
    rw [hfin.out] at this
    exact this

theorem out_nc (s : ByteArray) (h : code s = 0) (j : Nat) (hj : j < s.size / 4) : wc s j = nc (out s) j := by
  unfold out
  rw [if_pos h, ws_nc s _ j hj]
  rfl
theorem out_length (s : ByteArray) (h : code s = 0) : (out s).length = s.size / 4 := by
  unfold out
  rw [if_pos h, ws_length]
theorem out_le (s : ByteArray) : (out s).length ≤ 16384 := by
  unfold out code
  by_cases h : 65536 < s.size
  · rw [if_pos h, if_neg (by decide)]
    exact Nat.zero_le _
  · rw [if_neg h]
    by_cases h2 : s.size % 4 = 0
    · rw [if_pos h2, if_pos rfl, ws_length]
      omega
    · rw [if_neg h2, if_neg (by decide)]
      exact Nat.zero_le _
theorem own_nil (w : World) (base : Nat) (a : Option Addr) : Own w base 1 (.slice a 0 0) 0 (nc []) := ⟨a, 0, rfl, Nat.le_refl _, by unfold maxLen; omega, fun h => absurd h (by omega)⟩

set_option maxRecDepth 100000 in
set_option maxHeartbeats 1600000 in
theorem spec (s : ByteArray) (hs : s.size ≤ maxLen) (w : World) :
    Calls Tryd.prog 30 #[.string s] w fun e w' => ∃ r, e = .returned (.tuple #[r, .int .i64 (code s)]) ∧ Own w' w.heap.size 1 r (out s).length (nc (out s)) ∧ Below w.heap.size w w' := by
  unfold maxLen at hs
  by_cases hl : 65536 < s.size
  · have hc : code s = 2 := by unfold code; rw [if_pos hl]
    have ho : out s = [] := by unfold out; rw [if_neg (by rw [hc]; decide)]
    rw [hc, ho]
    clear hc ho
    go_enter Tryd.func30, Tryd.ntmps30
    go_wp2
    go_ret2
    exact ⟨_, rfl, own_nil _ _ _, (Below.refl _ _).alloc (Nat.le_refl _) _⟩
  have d0 : decide (65536 < (s.size : Int)) = false := decide_eq_false (by omega)
  have HL := Lib.hid (l06ToInts s (by omega))
  by_cases h4 : s.size % 4 = 0
  · have hc : code s = 0 := by unfold code; rw [if_neg hl, if_pos h4]
    have HN := Lib.hid (fun j hj => out_nc s hc j hj)
    rw [out_length s hc, hc]
    rw [decide_eq_true h4] at HL
    generalize nc (out s) = NC at *
    generalize wc s = WC at *
    generalize s.size / 4 = n at *
    clear hc h4 hl
    go_enter Tryd.func30, Tryd.ntmps30
    go_wp2_with fail
    refine (HL.out _).mono ?_
    rintro e w1 ⟨r, rfl, ho, hb⟩
    have HO := Lib.hid ho
    have HB := Lib.hid hb
    clear ho hb
    go_wp2
    go_ret2
    exact ⟨_, rfl, HO.out.congr (fun j hj => HN.out j (by omega)), HB.out⟩
  · have hc : code s = 3 := by unfold code; rw [if_neg hl, if_neg h4]
    have ho : out s = [] := by unfold out; rw [if_neg (by rw [hc]; decide)]
    rw [hc, ho]
    rw [decide_eq_false h4] at HL
    generalize wc s = WC at *
    generalize s.size / 4 = n at *
    clear hc ho h4 hl
    go_enter Tryd.func30, Tryd.ntmps30
    go_wp2_with fail
    refine (HL.out _).mono ?_
    rintro e w1 ⟨r, rfl, ho, hb⟩
    have HB := Lib.hid hb
    clear ho hb
    go_wp2
    go_ret2
    exact ⟨_, rfl, own_nil _ _ _, HB.out.alloc HB.out.size _⟩

set_option maxRecDepth 100000 in
set_option maxHeartbeats 800000 in
theorem heldIntS (w : World) (v : Value) (n : Nat) (k : Nat) (h : Sl w 1 v n (LawN.mi k)) (hk : k + n ≤ 10000000) :
    Calls Tryd.prog 33 #[v, .int .i64 k] w fun e w' => e = .returned (.int .i64 ((k + n : Nat) : Int)) ∧ Below w.heap.size w w' := by
  obtain ⟨a, cap, rfl, h1, h2, h3⟩ := h
  have H3 := Lib.hid h3
  clear h3
  unfold maxLen at h2
  go_enter Tryd.func33, Tryd.ntmps33
  go_wp2
  go_loopw [1, 5] (fun q i wr => ∃ j m : Nat, j ≤ n ∧ q = .int .i64 m ∧ i = .int .i64 j ∧ Hid (m = k + j ∧ Below w.heap.size w wr)) (fun q i _ => n - (intOf i).toNat)
  case atStart => exact ⟨0, k, by omega, rfl, rfl, Lib.hid ⟨rfl, Below.refl _ _⟩⟩
  case round =>
    rename_i wr
    obtain ⟨j, m, hj, rfl, rfl, HX⟩ := hrel
    by_cases hlt : j < n
    · have hm : m ≤ 10000000 := by have := HX.out.1; omega
      obtain ⟨b, o, rfl, hc⟩ := H3.out (by omega)
      have c0 := hc j (by omega)
      rw [← HX.out.2.cell (World.block_lt_of_cell? w _ c0), show LawN.mi k j = .int .i64 (m : Int) by unfold LawN.mi; rw [HX.out.1]] at c0
      clear hc
      have i1 : (j : Int) < (n : Int) := by omega
      have i3 : (0 : Int) ≤ (j : Int) := by omega
      go_wp2
      go_roundw
      case rel => exact ⟨j + 1, m + 1, by omega, by go_num, by go_num, Lib.hid ⟨by have := HX.out.1; omega, HX.out.2⟩⟩
      case measure => simp [intOf]; omega
    · have hj2 := Lib.hid (show j = n by omega)
      go_wp2
      go_ret
      refine ⟨?_, HX.out.2⟩
      show Ending.returned (Value.int .i64 (m : Int)) = _
      rw [HX.out.1, hj2.out]

set_option maxRecDepth 100000 in
set_option maxHeartbeats 1600000 in
theorem walk (s : ByteArray) (hs : s.size ≤ maxLen) (w : World) (H : Hnd w) :
    Calls Tryd.prog 10 #[.string s] w fun e w' => e = .returned (.bool true) ∧ Below w.heap.size w w' := by
  by_cases hl : 1048576 < s.size
  · unfold maxLen at hs
    go_enter Tryd.func10, Tryd.ntmps10
    go_wp2
    go_ret
    exact ⟨rfl, Below.refl _ _⟩
  have d0 : decide (1048576 < (s.size : Int)) = false := decide_eq_false (by omega)
  have HS := Lib.hid (spec s hs)
  have HI := Lib.hid (fun u (h : Hnd u) => impl s hs u h)
  have HQ := Lib.hid (fun u x y hx hy => LawN.eqIntS u x y (out s) hx hy)
  have hn := out_le s
  have HE := Lib.hid H
  clear H hl hs
  generalize nc (out s) = C at *
  generalize (out s).length = n at *
  generalize code s = cd at *
  have HM := Lib.hid (fun u base x c (h : Own u base 1 x n c) => LawN.markIntS u base x n c h 1 (by omega))
  have HH := Lib.hid (fun u x (h : Sl u 1 x n (LawN.mi 1)) => heldIntS u x n 1 h (by omega))
  obtain ⟨n1, en1⟩ : ∃ n1, 1 + n = n1 := ⟨_, rfl⟩
  rw [en1] at HM HH
  have p1 : ¬ (n1 : Int) < 0 := by omega
  have b1 : ((n1 : Int) != (n1 : Int)) = false := by simp
  clear en1
  go_enter Tryd.func10, Tryd.ntmps10
  go_wp2_with fail
  refine (HS.out _).mono ?_
  rintro e w1 ⟨r1, rfl, ho1, hb1⟩
  have HO1 := Lib.hid ho1
  have HB1 := Lib.hid hb1
  clear ho1 hb1 HS
  go_wp2_with fail
  refine (HI.out _ (HE.out.below HB1.out)).mono ?_
  rintro e w2 ⟨r2, rfl, ho2, hb2⟩
  have HAP := Lib.hid (show Apart r1 r2 from apart_of HO1.out.sl (by omega) ho2 (Nat.le_refl _))
  have HO2 := Lib.hid ho2
  have HP1 := Lib.hid (HO1.out.below hb2)
  have HB2 := Lib.hid (And.intro (HB1.out.trans (hb2.mono HB1.out.size)) HB1.out.size)
  clear ho2 hb2 HB1 HO1
  go_wp2_with fail
  refine (HQ.out _ _ _ HO2.out.sl HP1.out.sl).mono ?_
  rintro e w3 ⟨rfl, hb⟩
  have HP2 := Lib.hid (HP1.out.below hb)
  have HO3 := Lib.hid (HO2.out.below hb)
  have HB3 := Lib.hid (And.intro (HB2.out.1.trans (hb.mono HB2.out.1.size)) HB2.out.2)
  clear hb HB2 HO2 HP1
  go_wp2_with fail
  refine (HM.out _ _ _ _ HO3.out).mono ?_
  rintro e w4 ⟨rfl, ho4, ht⟩
  have HP3 := Lib.hid (own_turns HP2.out ht (by
    intro u hu
    obtain rfl := List.mem_singleton.1 hu
    exact HAP.out))
  have HB4 := Lib.hid (show Below w.heap.size w w4 from HB3.out.1.trans (ht.below HB3.out.1.size (by
    intro u hu k hk
    obtain rfl := List.mem_singleton.1 hu
    exact own_low HO3.out k (Nat.lt_of_lt_of_le hk HB3.out.2))))
  have HO4 := Lib.hid ho4
  clear ho4 ht HB3 HP2 HO3
  go_wp2_with fail
  refine (HH.out _ _ HO4.out.sl).mono ?_
  rintro e w5 ⟨rfl, hb⟩
  have HP4 := Lib.hid (HP3.out.below hb)
  have HO5 := Lib.hid (HO4.out.below hb)
  have HB5 := Lib.hid (HB4.out.trans (hb.mono HB4.out.size))
  clear hb HB4 HO4 HP3
  go_wp2_with fail
  refine (HI.out _ (HE.out.below HB5.out)).mono ?_
  rintro e w6 ⟨r6, rfl, ho6, hb⟩
  have HO6 := Lib.hid ho6
  have HP5 := Lib.hid (HP4.out.below hb)
  have HO7 := Lib.hid (HO5.out.below hb)
  have HB6 := Lib.hid (HB5.out.trans (hb.mono HB5.out.size))
  clear hb HB5 HO5 HP4 ho6
  go_wp2_with fail
  refine (HQ.out _ _ _ HO6.out.sl HP5.out.sl).mono ?_
  rintro e w7 ⟨rfl, hb⟩
  have HO8 := Lib.hid (HO7.out.below hb)
  have HB7 := Lib.hid (HB6.out.trans (hb.mono HB6.out.size))
  clear hb HB6 HO7 HP5 HO6
  go_wp2_with fail
  refine (HH.out _ _ HO8.out.sl).mono ?_
  rintro e w8 ⟨rfl, hb⟩
  have HB8 := Lib.hid (HB7.out.trans (hb.mono HB7.out.size))
  clear hb HB7 HO8
  go_wp2
  go_ret
  exact ⟨rfl, HB8.out⟩
end Go.Proofs.YtggobhpjfflooaaDoor.Ints4
