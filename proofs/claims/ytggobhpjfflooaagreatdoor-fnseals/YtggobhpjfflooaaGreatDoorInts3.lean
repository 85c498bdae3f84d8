/-
  What is proved: both ways from bytes to words answer the same words and code, in new memory (contracts for the walks); the exact law on them returns true (the walk), where errors' own variable stands in its place.
-/
import Derived.Test.YtggobhpjfflooaaGreatDoorRows
import Derived.Test.YtggobhpjfflooaaGreatDoorNonce
import Derived.Test.YtggobhpjfflooaaGreatDoorLawN
import Derived.Test.YtggobhpjfflooaaGreatDoorFour
import Derived.Test.YtggobhpjfflooaaGreatDoorCop
namespace Go.Proofs.YtggobhpjfflooaaGreatDoor.Ints3
open Go.ChangeShapes Go.WideShapes Go.ChangeAt Go.RowKit
open Sl (Sl Own Off)
open OpenSl (tc nc pc)
open Dev
open Arr (Row)
open Bytes (BV Owns)
open XorInto (Only)
open As (pv Hnd)
open Nonce (code_hit code_nil)
open Cha (lw lw_lt)
set_option linter.unusedVariables false

/-- The words of a text. -/
def ws (s : ByteArray) (n : Nat) : List Int := (List.range n).map fun j => (lw s j : Int)
theorem ws_length (s : ByteArray) (n : Nat) : (ws s n).length = n := by simp [ws]
theorem ws_nc (s : ByteArray) (n j : Nat) (h : j < n) : nc (ws s n) j = .int .i64 (lw s j : Int) := by
  unfold nc ws
  rw [List.getD_eq_getElem?_getD]
  simp [h]
/-- The code that both TextInts answer, and their words. -/
def code (s : ByteArray) : Int := if 65536 < s.size then 2 else if s.size % 4 = 0 then 0 else 3
def out (s : ByteArray) : List Int := if code s = 0 then ws s (s.size / 4) else []

theorem fault_bad (s : ByteArray) (hs : s.size ≤ maxLen) (hc : code s ≠ 0) (w : World) :
    Calls Tryz.prog 31 #[.string s] w fun e w' => (∃ i : Int, e = .returned (pv i (code s))) ∧ w = w' := by
  unfold maxLen at hs
  unfold code at hc ⊢
  by_cases hl : 65536 < s.size
  · rw [if_pos hl]
    clear hc
    go_enter Tryz.func31, Tryz.ntmps31
    go_wp2
    go_ret
    exact ⟨⟨_, rfl⟩, rfl⟩
  rw [if_neg hl] at hc ⊢
  have d0 : decide (65536 < (s.size : Int)) = false := decide_eq_false (by omega)
  obtain ⟨r, er⟩ : ∃ r, s.size % 4 = r := ⟨_, rfl⟩
  have c1 : (s.size : Int) % 4 = (r : Int) := by omega
  have w1 : IntKind.i64.wrap (r : Int) = r := by rw [IntKind.wrap_i64]; omega
  rw [er] at hc ⊢
  have hr : r ≠ 0 := fun h => hc (by rw [if_pos h])
  rw [if_neg hr]
  have b0 : ((r : Int) != 0) = true := by simp; omega
  clear hl er hr hc
  go_enter Tryz.func31, Tryz.ntmps31
  go_wp2
  go_ret
  exact ⟨⟨_, rfl⟩, rfl⟩
theorem fault_ok (s : ByteArray) (hs : s.size ≤ maxLen) (hc : code s = 0) (w : World) :
    Calls Tryz.prog 31 #[.string s] w fun e w' => e = .returned .nilIface ∧ w = w' := by
  unfold maxLen at hs
  unfold code at hc
  by_cases hl : 65536 < s.size
  · rw [if_pos hl] at hc
    exact absurd hc (by decide)
  rw [if_neg hl] at hc
  have d0 : decide (65536 < (s.size : Int)) = false := decide_eq_false (by omega)
  obtain ⟨r, er⟩ : ∃ r, s.size % 4 = r := ⟨_, rfl⟩
  have c1 : (s.size : Int) % 4 = (r : Int) := by omega
  have w1 : IntKind.i64.wrap (r : Int) = r := by rw [IntKind.wrap_i64]; omega
  rw [er] at hc
  have hr : r = 0 := by
    by_cases h : r = 0
    · exact h
    · rw [if_neg h] at hc
      exact absurd hc (by decide)
  have b0 : ((r : Int) != 0) = false := by simp; omega
  clear hl er hr hc
  go_enter Tryz.func31, Tryz.ntmps31
  go_wp2
  go_ret
  exact ⟨rfl, rfl⟩

theorem info72 : (Tryz.prog.info? 56).map (fun i => (i.zero, i.size, i.bytes)) = some (some (.int .u32 0), 1, 4) := by kernel_rfl
/-- 'make([]uint32, n)', its block whole. -/
theorem made32 (w : World) (n : Nat) (hn : n ≤ 16384) : ∃ (g : Nat) (xs : List Value) (w1 : World), (Instr.makeSlice 54 (.int .i64 (n : Int)) (.int .i64 (n : Int))).run Tryz.prog w = .ok (.slice (some ⟨g, 0, none⟩) n n) w1 ∧ Row w1 g 56 xs ∧ xs.length = n ∧ w.heap.size ≤ g ∧ Below w.heap.size w w1 := by
  obtain ⟨i0, hi0, hz0, hz1, hz2⟩ := info_parts info72
  have h := run_make (P := Tryz.prog) w 54 56 i0 (.int .u32 0) Tryz.underlying54 hi0 hz0 .i64 .i64 (n : Int) (n : Int) (by omega) (by omega) (by rw [hz2]; omega) (by omega)
  simp only [Int.toNat_natCast] at h
  refine ⟨w.heap.size, (madeCells #[.int .u32 0] n).toList, w.alloc (.cells (madeCells #[.int .u32 0] n) 56), by simpa [hz1, Value.cells] using h, ?_, by simp [size_madeCells], Nat.le_refl _, (Below.refl _ _).alloc (Nat.le_refl _) _⟩
  show _ = _
  simpa using heap_alloc_new w (.cells (madeCells #[.int .u32 0] n) 56)

set_option maxRecDepth 100000 in
set_option maxHeartbeats 1600000 in
theorem impl (s : ByteArray) (hs : s.size ≤ maxLen) (w : World) (H : Hnd w) :
    Calls Tryz.prog 14 #[.string s] w fun e w' => ∃ r, e = .returned (.tuple #[r, .int .i64 (code s)]) ∧ Own w' w.heap.size 1 r (out s).length (nc (out s)) ∧ Below w.heap.size w w' := by
  have HS := hs
  unfold maxLen at hs
  unfold out
  by_cases hc : code s = 0
  · have HF := Lib.hid (fault_ok s HS hc)
    clear HS
    rw [if_pos hc, hc]
    have hl : s.size ≤ 65536 := by
      unfold code at hc
      by_cases h : 65536 < s.size
      · rw [if_pos h] at hc; omega
      · omega
    rw [ws_length]
    obtain ⟨n, en⟩ : ∃ n, s.size / 4 = n := ⟨_, rfl⟩
    have c1 : (s.size : Int) / 4 = (n : Int) := by omega
    have c2 : IntKind.i64.wrap (n : Int) = n := by rw [IntKind.wrap_i64]; omega
    have hn : n ≤ 16384 := by omega
    have h4 : 4 * n ≤ s.size := by omega
    rw [en]
    have HC := Lib.hid (fun j hj => ws_nc s n j hj)
    have HLT := Lib.hid (lw_lt s)
    obtain ⟨g, xs, w1, hmk, hrow, hxs, hgb, hb1⟩ := made32 w n hn
    have HLW := Lib.hid (Four.lowWords g 0 n n 56 xs s h4 (by omega) (by omega) w1 hrow)
    have HB1 := Lib.hid (And.intro hb1 (And.intro hgb hrow.lt))
    have HXS := Lib.hid hxs
    generalize nc (ws s n) = NC at *
    generalize lw s = LW at *
    clear hc en hrow hxs hgb hb1 h4
    go_enter Tryz.func14, Tryz.ntmps14
    go_wp2_with fail
    refine (HF.out _).mono ?_
    rintro e w0 ⟨rfl, rfl⟩
    go_wp2_with fail
    refine (HLW.out).mono ?_
    rintro e w2 ⟨rfl, HX⟩
    clear hmk HLW HF
    obtain ⟨ys, hY⟩ := HX.out.2
    have HY := Lib.hid hY
    have HB2 := Lib.hid (show Below w.heap.size w w2 ∧ w1.heap.size = w2.heap.size from ⟨HB1.out.1.trans (HX.out.1.below HB1.out.2.1), HX.out.1.size.symm⟩)
    have hgw : g < w2.heap.size := by have := HB1.out.2.2; have := HB2.out.2; omega
    clear hY HX
    obtain ⟨G, o, w3, hmk, hown, hbel⟩ := made (P := Tryz.prog) w2 28 3 1 (.int .i64 0) 8 Tryz.underlying28 LawN.info3 n (by omega) (by unfold maxLen; omega) (fun _ => .int .i64 0) (LawS.made_one _ rfl n)
    have HO := Lib.hid hown
    have HB3 := Lib.hid (show Below w.heap.size w w3 from HB2.out.1.trans (hbel.mono HB2.out.1.size))
    have HR3 := Lib.hid (show Row w3 g 56 ys from HY.out.1.below hbel hgw)
    clear hown
    have HL3 := Lib.hid hbel
    clear hbel
    go_wp2_with fail
    clear hmk
    go_loopw [27] (fun i wr => ∃ k : Nat, k ≤ n ∧ i = .int .i64 k ∧ Hid (Own wr w2.heap.size 1 (.slice (some ⟨G, o, none⟩) n n) n (fun j => if j < k then NC j else .int .i64 0) ∧ Row wr g 56 ys ∧ Below w.heap.size w wr)) (fun i _ => n - (intOf i).toNat)
    case atStart => exact ⟨0, by omega, rfl, Lib.hid ⟨HO.out.congr (fun j _ => by rw [if_neg (by omega)]), HR3.out, HB3.out⟩⟩
    case round =>
      rename_i wr
      obtain ⟨k, hk, rfl, HX⟩ := hrel
      by_cases hlt : k < n
      · have c0 := HX.out.2.1.cell k
        have hyk := HY.out.2.2.1 k hlt
        rw [Nat.zero_add] at hyk
        rw [hyk] at c0
        obtain ⟨b', o', e', hb', hc'⟩ := HX.out.1.at (by omega)
        obtain ⟨rfl, rfl⟩ : G = b' ∧ o = o' := by simpa using e'
        obtain ⟨c2', f2⟩ := hc' k (by omega)
        rw [if_neg (by omega)] at c2'
        have HG := Lib.hid (show w2.heap.size ≤ G from hb')
        have HT := Lib.hid (HC.out k hlt)
        have hx := HLT.out k
        clear hc' hb' e' hyk
        generalize LW k = x at *
        have wx : IntKind.i64.wrap (x : Int) = x := by rw [IntKind.wrap_i64]; omega
        have i1 : (k : Int) < (n : Int) := by omega
        have i3 : (0 : Int) ≤ (k : Int) := by omega
        go_wp2
        go_roundw
        case rel =>
          refine ⟨k + 1, by omega, by go_num, Lib.hid ⟨(HX.out.1.set k (by omega) _).congr (fun j hj => ?_), ?_, HX.out.2.2.setCell (Nat.le_trans HB2.out.1.size HG.out) _⟩⟩
          · show (if j = k then _ else if j < k then _ else _) = if j < k + 1 then _ else _
            by_cases ej : j = k
            · rw [if_pos ej, if_pos (by omega), ej, HT.out]
            · rw [if_neg ej]
              by_cases h5 : j < k
              · rw [if_pos h5, if_pos (by omega)]
              · rw [if_neg h5, if_neg (by omega)]
          · have := HG.out
            exact (Below.heap_setCell wr ⟨G, o + k, none⟩ _ g (by show g ≠ G; omega)).trans HX.out.2.1
        case measure => simp [intOf]; omega
      · have hk2 := Lib.hid (show k = n by omega)
        go_wp2
        go_ret2
        exact ⟨_, rfl, (HX.out.1.congr (fun j hj => by rw [if_pos (by rw [hk2.out]; omega)])).base HB2.out.1.size, HX.out.2.2⟩
  · have HF := Lib.hid (fault_bad s HS hc)
    clear HS
    rw [if_neg hc]
    generalize code s = c at *
    have HC := Lib.hid (fun i => code_hit i c w H)
    clear hc H
    go_enter Tryz.func14, Tryz.ntmps14
    go_wp2_with fail
    refine (HF.out _).mono ?_
    rintro e w0 ⟨⟨i, rfl⟩, rfl⟩
    go_wp2_with fail
    refine (HC.out i).mono ?_
    rintro e w1 ⟨rfl, hb⟩
    have HB := Lib.hid hb
    clear hb
    go_wp2
    go_ret2
    exact ⟨_, rfl, ⟨none, 0, rfl, Nat.le_refl _, by unfold maxLen; omega, fun h => absurd h (by simp)⟩, HB.out⟩

end Go.Proofs.YtggobhpjfflooaaGreatDoor.Ints3
