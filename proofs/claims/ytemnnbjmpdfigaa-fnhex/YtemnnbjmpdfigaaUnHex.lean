/-
  What is proved: both ways to read bytes from their digits answer the same plain function; the law on them returns true (the walk).
-/
import Derived.Test.YtemnnbjmpdfigaaRows
import Derived.Test.YtemnnbjmpdfigaaBytes
import Derived.Lib.Bytealg
namespace Go.Proofs.Ytemnnbjmpdfigaa.UnHex
open Go.ChangeShapes Go.WideShapes Go.ChangeAt Go.RowKit
open Bytes (BV Owns)
set_option linter.unusedVariables false

theorem ret_int {k : IntKind} {a b : Int} (h : a = b) : Ending.returned (.int k a) = .returned (.int k b) := by rw [h]
def nib (x : Int) : Int := if 48 ≤ x ∧ x ≤ 57 then x - 48 else if 97 ≤ x ∧ x ≤ 102 then x - 87 else -1
theorem nib_bd (x : Int) : -1 ≤ nib x ∧ nib x ≤ 15 := by unfold nib; split <;> (try split) <;> omega
theorem nibble (x : Int) (h0 : 0 ≤ x) (h1 : x < 256) (w : World) :
    Calls Try.prog 41 #[.int .u8 x] w fun e w' => e = .returned (.int .i64 (nib x)) ∧ w = w' := by
  by_cases a : 48 ≤ x
  · by_cases b : x ≤ 57
    · have hz := Lib.hid (show nib x = x - 48 by unfold nib; rw [if_pos ⟨a, b⟩])
      go_enter Try.func41, Try.ntmps41
      go_wp2
      go_ret
      exact ⟨ret_int hz.out.symm, rfl⟩
    · have d2 : decide (x ≤ 57) = false := decide_eq_false b
      by_cases c : 97 ≤ x
      · by_cases d : x ≤ 102
        · have hz := Lib.hid (show nib x = x - 87 by unfold nib; rw [if_neg (by omega), if_pos ⟨c, d⟩])
          go_enter Try.func41, Try.ntmps41
          go_wp2
          go_ret
          exact ⟨ret_int (by rw [hz.out]; omega), rfl⟩
        · have d3 : decide (x ≤ 102) = false := decide_eq_false d
          have hz := Lib.hid (show nib x = -1 by unfold nib; rw [if_neg (by omega), if_neg (by omega)])
          go_enter Try.func41, Try.ntmps41
          go_wp2
          go_ret
          exact ⟨ret_int hz.out.symm, rfl⟩
      · have d3 : decide (97 ≤ x) = false := decide_eq_false c
        have hz := Lib.hid (show nib x = -1 by unfold nib; rw [if_neg (by omega), if_neg (by omega)])
        go_enter Try.func41, Try.ntmps41
        go_wp2
        go_ret
        exact ⟨ret_int hz.out.symm, rfl⟩
  · have d2 : decide (48 ≤ x) = false := decide_eq_false a
    have d3 : decide (97 ≤ x) = false := decide_eq_false (by omega)
    have hz := Lib.hid (show nib x = -1 by unfold nib; rw [if_neg (by omega), if_neg (by omega)])
    go_enter Try.func41, Try.ntmps41
    go_wp2
    go_ret
    exact ⟨ret_int hz.out.symm, rfl⟩

theorem idx_fin : ∀ c : Fin 256, Lib.indexByte [48, 49, 50, 51, 52, 53, 54, 55, 56, 57, 97, 98, 99, 100, 101, 102] (UInt8.ofNat c.val) = nib (c.val : Int) := by decide +kernel
theorem idx_nib (c : UInt8) : Lib.indexByte [48, 49, 50, 51, 52, 53, 54, 55, 56, 57, 97, 98, 99, 100, 101, 102] c = nib (c.toNat : Int) := by
  have := idx_fin ⟨c.toNat, c.toNat_lt⟩
  simpa using this

set_option maxHeartbeats 1000000 in
set_option maxRecDepth 100000 in
theorem idx_lite (c : UInt8) (w : World) :
    Calls Try.prog 38 #[.string ⟨#[48, 49, 50, 51, 52, 53, 54, 55, 56, 57, 97, 98, 99, 100, 101, 102]⟩, .int .u8 (c.toNat : Int)] w fun e w' => e = .returned (.int .i64 (nib (c.toNat : Int))) ∧ w = w' := by
  have HN := Lib.hid (idx_nib c)
  go_enter Try.func38, Try.ntmps38
  go_wp2
  rw [run_callFunc_extern Try.func43 (by kernel_rfl) (by kernel_rfl) (by kernel_rfl) (e := Extern.BytealgIndexByte.indexByte) (by kernel_rfl), Lib.run_indexByteString]
  simp only [Result.andThen]
  rw [Oper.upon_value]
  go_wp2
  go_ret
  exact ⟨ret_int (by simpa using HN.out), rfl⟩
theorem idx_impl (c : UInt8) (w : World) :
    Calls Try.prog 26 #[.string ⟨#[48, 49, 50, 51, 52, 53, 54, 55, 56, 57, 97, 98, 99, 100, 101, 102]⟩, .int .u8 (c.toNat : Int)] w fun e w' => e = .returned (.int .i64 (nib (c.toNat : Int))) ∧ w = w' := by
  go_enter Try.func26, Try.ntmps26
  go_wp2_with fail
  refine (idx_lite c _).mono ?_
  rintro e w' ⟨rfl, rfl⟩
  go_wp2
  go_ret
  exact ⟨rfl, rfl⟩

def byteN (s : ByteArray) (j : Nat) : Int := ((s.data.toList.getD j 0).toNat : Int)
theorem byteN_at (s : ByteArray) (j : Nat) (h : j < s.size) : byteN s j = (s[j].toNat : Int) := by
  unfold byteN
  have h2 : j < s.data.toList.length := by simpa using h
  simp [List.getD_eq_getElem?_getD, List.getElem?_eq_getElem h2]
  rfl
def goodAt (s : ByteArray) (j : Nat) : Bool := decide (0 ≤ nib (byteN s (2 * j))) && decide (0 ≤ nib (byteN s (2 * j + 1)))
def valAt (s : ByteArray) (j : Nat) : UInt8 := UInt8.ofNat (16 * nib (byteN s (2 * j)) + nib (byteN s (2 * j + 1))).toNat
def valL (s : ByteArray) (k : Nat) : List UInt8 := (List.range k).map (valAt s)
theorem valL_succ (s : ByteArray) (k : Nat) : valL s (k + 1) = valL s k ++ [valAt s k] := by simp [valL, List.range_succ]
theorem valL_length (s : ByteArray) (k : Nat) : (valL s k).length = k := by simp [valL]
def goodB (s : ByteArray) : Bool := decide (s.size % 2 = 0) && (List.range (s.size / 2)).all (goodAt s)
theorem good_no (s : ByteArray) (k : Nat) (h : 2 * k < s.size) (h2 : s.size % 2 = 0) (hb : goodAt s k = false) : goodB s = false := by
  unfold goodB
  rw [Bool.and_eq_false_iff]
  right
  rw [List.all_eq_false]
  exact ⟨k, List.mem_range.2 (by omega), by simp [hb]⟩
theorem good_yes (s : ByteArray) (h2 : s.size % 2 = 0) (h : ∀ j, j < s.size / 2 → goodAt s j = true) : goodB s = true := by
  unfold goodB
  simp only [Bool.and_eq_true, decide_eq_true_eq, List.all_eq_true, List.mem_range]
  exact ⟨h2, h⟩
theorem good_odd (s : ByteArray) (h2 : ¬ s.size % 2 = 0) : goodB s = false := by unfold goodB; simp [h2]
theorem val_cells (s : ByteArray) (k : Nat) (a b : Int) (ha : nib (byteN s (2 * k)) = a) (hb : nib (byteN s (2 * k + 1)) = b) (h1 : 0 ≤ a) (h2 : 0 ≤ b) : BV [valAt s k] = [.int .u8 (16 * a + b)] := by
  have b1 := nib_bd (byteN s (2 * k))
  have b2 := nib_bd (byteN s (2 * k + 1))
  unfold valAt
  rw [ha, hb] at *
  simp only [BV, List.map_cons, List.map_nil, UInt8.toNat_ofNat']
  rw [Nat.mod_eq_of_lt (by omega)]
  simp
  omega

def resB (s : ByteArray) : ByteArray := if goodB s = true then ⟨(valL s (s.size / 2)).toArray⟩ else ⟨#[]⟩
theorem resB_no {s : ByteArray} (h : goodB s = false) : resB s = ⟨#[]⟩ := by unfold resB; rw [h]; simp
theorem resB_yes {s : ByteArray} (h : goodB s = true) : resB s = ⟨(valL s (s.size / 2)).toArray⟩ := by unfold resB; rw [h]; simp
def cod (s : ByteArray) : Int := if goodB s = true then 0 else 3
theorem cod_no {s : ByteArray} (h : goodB s = false) : cod s = 3 := by unfold cod; rw [h]; simp
theorem cod_yes {s : ByteArray} (h : goodB s = true) : cod s = 0 := by unfold cod; rw [h]; simp
theorem ret_sb {a c : ByteArray} {b d : Bool} (h : a = c) (g : b = d) : Ending.returned (.tuple #[.string a, .bool b]) = .returned (.tuple #[.string c, .bool d]) := by rw [h, g]
theorem ret_si {a c : ByteArray} {b d : Int} (h : a = c) (g : b = d) : Ending.returned (.tuple #[.string a, .int .i64 b]) = .returned (.tuple #[.string c, .int .i64 d]) := by rw [h, g]

theorem unhex_odd (s : ByteArray) (hs : s.size ≤ 65536) (hodd : ¬ s.size % 2 = 0) (w : World) :
    Calls Try.prog 35 #[.string s] w fun e w' => e = .returned (.tuple #[.string (resB s), .bool (goodB s)]) ∧ Below w.heap.size w w' := by
  have hz := Lib.hid (good_odd s hodd)
  have d : ((s.size : Int) % 2 == 1) = true := beq_iff_eq.2 (by omega)
  go_enter Try.func35, Try.ntmps35
  go_wp2
  go_ret2
  exact ⟨ret_sb (resB_no hz.out).symm hz.out.symm, (Below.refl _ _).alloc (Nat.le_refl _) _⟩

set_option maxRecDepth 100000 in
set_option maxHeartbeats 1600000 in
theorem unhex_even (s : ByteArray) (hs : s.size ≤ 65536) (hev0 : s.size % 2 = 0) (w : World) :
    Calls Try.prog 35 #[.string s] w fun e w' => e = .returned (.tuple #[.string (resB s), .bool (goodB s)]) ∧ Below w.heap.size w w' := by
  obtain ⟨i0, hi0, hz0, hz1, hz2⟩ := info_parts Bytes.info5
  have hev := Lib.hid hev0
  have d : ((s.size : Int) % 2 == 1) = false := beq_eq_false_iff_ne.2 (by omega)
  clear hev0
  go_enter Try.func35, Try.ntmps35
  go_wp2
  go_loopw [4, 5] (fun v i wr => ∃ j k : Nat, j ≤ s.size ∧ i = .int .i64 j ∧ Hid (j = 2 * k) ∧ Hid (Owns wr w.heap.size v (valL s k)) ∧ Hid (Below w.heap.size w wr) ∧ Hid (∀ q, q < k → goodAt s q = true)) (fun _ i _ => s.size - (intOf i).toNat)
  case atStart => exact ⟨0, 0, by omega, rfl, Lib.hid rfl, Lib.hid (Bytes.owns_made w w.heap.size 0 #[] (Nat.le_refl _) (by unfold maxLen; omega) rfl), Lib.hid ((Below.refl _ _).alloc (Nat.le_refl _) _), Lib.hid (fun q h => by omega)⟩
  case round =>
    rename_i wr
    obtain ⟨j, k, hj, rfl, HJ, R, HB, HGD⟩ := hrel
    have HL := Lib.hid (valL_length s k)
    have hl1 : (valL s k).length ≤ 65536 := by rw [HL.out]; have := HJ.out; omega
    have hz := Lib.hid HB.out.size
    by_cases hlt : j < s.size
    · have hlt1 : j + 1 < s.size := by have := HJ.out; have := hev.out; omega
      have hk2 : (j : Int) < (s.size : Int) := by omega
      have hk3 : (j : Int) + 1 < (s.size : Int) := by omega
      have B0 := Lib.hid (byteN_at s j hlt)
      have B1 := Lib.hid (byteN_at s (j + 1) hlt1)
      have bd0 := nib_bd (byteN s j)
      have bd1 := nib_bd (byteN s (j + 1))
      have u0 : 0 ≤ byteN s j ∧ byteN s j < 256 := by rw [B0.out]; have := s[j].toNat_lt; omega
      have u1 : 0 ≤ byteN s (j + 1) ∧ byteN s (j + 1) < 256 := by rw [B1.out]; have := s[j + 1].toNat_lt; omega
      have U0 := Lib.hid u0
      have U1 := Lib.hid u1
      obtain ⟨a, ha⟩ : ∃ a, nib (byteN s j) = a := ⟨_, rfl⟩
      obtain ⟨b, hb⟩ : ∃ b, nib (byteN s (j + 1)) = b := ⟨_, rfl⟩
      have HA := Lib.hid ha
      have HBb := Lib.hid hb
      rw [ha] at bd0
      rw [hb] at bd1
      obtain ⟨bd00, bd01⟩ := bd0
      obtain ⟨bd10, bd11⟩ := bd1
      clear ha hb u0 u1
      by_cases ga : a < 0
      · have hz0' := Lib.hid (good_no s k (by have := HJ.out; omega) hev.out (by unfold goodAt; rw [← HJ.out, HA.out]; simp; omega))
        go_wp2_with fail
        rw [← B0.out]
        refine (nibble _ U0.out.1 U0.out.2 _).mono ?_
        rintro e w' ⟨rfl, rfl⟩
        rw [HA.out]
        go_wp2_with fail
        rw [← B1.out]
        refine (nibble _ U1.out.1 U1.out.2 _).mono ?_
        rintro e w' ⟨rfl, rfl⟩
        rw [HBb.out]
        go_wp2
        go_ret2
        exact ⟨ret_sb (resB_no hz0'.out).symm hz0'.out.symm, HB.out⟩
      · by_cases gb : b < 0
        · have hz0' := Lib.hid (good_no s k (by have := HJ.out; omega) hev.out (by unfold goodAt; rw [← HJ.out, HBb.out]; simp; omega))
          have ga' : decide (a < 0) = false := decide_eq_false ga
          go_wp2_with fail
          rw [← B0.out]
          refine (nibble _ U0.out.1 U0.out.2 _).mono ?_
          rintro e w' ⟨rfl, rfl⟩
          rw [HA.out]
          go_wp2_with fail
          rw [← B1.out]
          refine (nibble _ U1.out.1 U1.out.2 _).mono ?_
          rintro e w' ⟨rfl, rfl⟩
          rw [HBb.out]
          go_wp2
          go_ret2
          exact ⟨ret_sb (resB_no hz0'.out).symm hz0'.out.symm, HB.out⟩
        · have HV := Lib.hid (val_cells s k a b (by rw [← HJ.out]; exact HA.out) (by rw [← HJ.out]; exact HBb.out) (by omega) (by omega))
          have hgd := Lib.hid (show goodAt s k = true by unfold goodAt; rw [← HJ.out, HA.out, HBb.out]; simp; omega)
          have ga' : decide (a < 0) = false := decide_eq_false ga
          have gb' : decide (b < 0) = false := decide_eq_false gb
          go_wp2_with fail
          rw [← B0.out]
          refine (nibble _ U0.out.1 U0.out.2 _).mono ?_
          rintro e w' ⟨rfl, rfl⟩
          rw [HA.out]
          go_wp2_with fail
          rw [← B1.out]
          refine (nibble _ U1.out.1 U1.out.2 _).mono ?_
          rintro e w' ⟨rfl, rfl⟩
          rw [HBb.out]
          go_wp2_with (at_builtin; refine wpList_append_lies _ rfl _ _ _ rfl w.heap.size 5 i0 _ 1 1 Try.underlying22 hi0 hz0 hz1 hz2 rfl (by omega) _ (valL s k).length (BV (valL s k)) (by rfl) (World.ownsRow.alloc R.out _) ⟨wr.heap.size, 0, none⟩ 1 1 [.int .u8 (16 * a + b)] (by rfl) (by rfl) (World.news_of_block (cs := #[.int .u8 (16 * a + b)]) (t := 5) (fr := (0, 0)) (heap_alloc_new wr _)) (by simp [Value.oneCell']) (by omega) (by unfold maxLen; omega) (by omega) (by have := hz.out; simp; omega) (wr.heap.size + 1) (by simp) ?_; intro gg cap w1 hown1 hgrow hat hlt1; have HO := Lib.hid hown1; have HG := Lib.hid hgrow; clear hown1 hgrow hat hlt1)
          go_roundw
          case rel => exact ⟨j + 2, k + 1, by omega, by go_num, Lib.hid (by have := HJ.out; omega), Lib.hid (by
            rw [valL_succ]
            have := HO.out
            rw [← HV.out] at this
            exact Bytes.owns_grown this rfl), Lib.hid ((HB.out.trans ((Below.refl _ _).alloc HB.out.size _)).grown HG.out (by have := hz.out; simp; omega) (Owns.block R.out)), Lib.hid (fun q hq => by
              by_cases e : q = k
              · rw [e]; exact hgd.out
              · exact HGD.out q (by omega))⟩
          case measure => simp [intOf]; omega
    · have hgood := Lib.hid (good_yes s hev.out (fun q hq => HGD.out q (by have := HJ.out; omega)))
      have hk := Lib.hid (show k = s.size / 2 by have := HJ.out; have := hev.out; omega)
      have hconv := R.out.string
      rw [hk.out] at hconv
      have hge : decide ((j : Int) + 1 < (s.size : Int)) = false := decide_eq_false (by omega)
      go_wp2
      go_ret2
      exact ⟨ret_sb (resB_yes hgood.out).symm hgood.out.symm, HB.out⟩

theorem impl_odd (s : ByteArray) (hs : s.size ≤ 65536) (hodd : ¬ s.size % 2 = 0) (w : World) :
    Calls Try.prog 12 #[.string s] w fun e w' => e = .returned (.tuple #[.string (resB s), .int .i64 (cod s)]) ∧ Below w.heap.size w w' := by
  have hz := Lib.hid (good_odd s hodd)
  have d : ((s.size : Int) % 2 != 0) = true := by rw [bne_iff_ne]; omega
  have d0 : decide (65536 < (s.size : Int)) = false := decide_eq_false (by omega)
  go_enter Try.func12, Try.ntmps12
  go_wp2
  go_ret2
  exact ⟨ret_si (resB_no hz.out).symm (cod_no hz.out).symm, Below.refl _ _⟩

set_option maxRecDepth 100000 in
set_option maxHeartbeats 1600000 in
theorem impl_even (s : ByteArray) (hs : s.size ≤ 65536) (hev0 : s.size % 2 = 0) (w : World) :
    Calls Try.prog 12 #[.string s] w fun e w' => e = .returned (.tuple #[.string (resB s), .int .i64 (cod s)]) ∧ Below w.heap.size w w' := by
  obtain ⟨i0, hi0, hz0, hz1, hz2⟩ := info_parts Bytes.info5
  have hev := Lib.hid hev0
  have d : ((s.size : Int) % 2 != 0) = false := by rw [bne_eq_false_iff_eq]; omega
  have d0 : decide (65536 < (s.size : Int)) = false := decide_eq_false (by omega)
  clear hev0
  have hmk : ∀ u : World, (Instr.makeSlice 22 (.int .i64 0) (.int .i64 ((s.size : Int) / 2))).run Try.prog u =
      .ok (.slice (some ⟨u.heap.size, 0, none⟩) 0 (s.size / 2)) (u.alloc (.cells (madeCells #[.int .u8 0] (s.size / 2)) 5)) := fun u => by
    have h := run_make (P := Try.prog) u 22 5 i0 (.int .u8 0) Try.underlying22 hi0 hz0 .i64 .i64 0 ((s.size : Int) / 2) (by omega) (by omega) (by rw [hz2]; omega) (by omega)
    have e : ((s.size : Int) / 2).toNat = s.size / 2 := by omega
    rw [e] at h
    simpa [hz1, Value.cells] using h
  have hms := Lib.hid (size_madeCells #[.int .u8 0] (s.size / 2))
  generalize madeCells #[.int .u8 0] (s.size / 2) = mc at hmk hms
  go_enter Try.func12, Try.ntmps12
  go_wp2
  clear hmk
  go_loopw [4, 5] (fun v i wr => ∃ j k : Nat, j ≤ s.size ∧ i = .int .i64 j ∧ Hid (j = 2 * k) ∧ Hid (Owns wr w.heap.size v (valL s k)) ∧ Hid (Below w.heap.size w wr) ∧ Hid (∀ q, q < k → goodAt s q = true)) (fun _ i _ => s.size - (intOf i).toNat)
  case atStart => exact ⟨0, 0, by omega, rfl, Lib.hid rfl, Lib.hid (Bytes.owns_made w w.heap.size (s.size / 2) mc (Nat.le_refl _) (by unfold maxLen; omega) hms.out), Lib.hid ((Below.refl _ _).alloc (Nat.le_refl _) _), Lib.hid (fun q h => by omega)⟩
  case round =>
    rename_i wr
    obtain ⟨j, k, hj, rfl, HJ, R, HB, HGD⟩ := hrel
    have HL := Lib.hid (valL_length s k)
    have hl1 : (valL s k).length ≤ 65536 := by rw [HL.out]; have := HJ.out; omega
    have hz := Lib.hid HB.out.size
    by_cases hlt : j < s.size
    · have hlt1 : j + 1 < s.size := by have := HJ.out; have := hev.out; omega
      have hk2 : (j : Int) < (s.size : Int) := by omega
      have hk3 : (j : Int) + 1 < (s.size : Int) := by omega
      have B0 := Lib.hid (byteN_at s j hlt)
      have B1 := Lib.hid (byteN_at s (j + 1) hlt1)
      have bd0 := nib_bd (byteN s j)
      have bd1 := nib_bd (byteN s (j + 1))
      have u0 : 0 ≤ byteN s j ∧ byteN s j < 256 := by rw [B0.out]; have := s[j].toNat_lt; omega
      have u1 : 0 ≤ byteN s (j + 1) ∧ byteN s (j + 1) < 256 := by rw [B1.out]; have := s[j + 1].toNat_lt; omega
      have U0 := Lib.hid u0
      have U1 := Lib.hid u1
      obtain ⟨a, ha⟩ : ∃ a, nib (byteN s j) = a := ⟨_, rfl⟩
      obtain ⟨b, hb⟩ : ∃ b, nib (byteN s (j + 1)) = b := ⟨_, rfl⟩
      have HA := Lib.hid ha
      have HBb := Lib.hid hb
      rw [ha] at bd0
      rw [hb] at bd1
      obtain ⟨bd00, bd01⟩ := bd0
      obtain ⟨bd10, bd11⟩ := bd1
      clear ha hb u0 u1
      by_cases ga : a < 0
      · have hz0' := Lib.hid (good_no s k (by have := HJ.out; omega) hev.out (by unfold goodAt; rw [← HJ.out, HA.out]; simp; omega))
        go_wp2_with fail
        refine (idx_impl _ _).mono ?_
        rintro e w' ⟨rfl, rfl⟩
        rw [← B0.out, HA.out]
        go_wp2_with fail
        refine (idx_impl _ _).mono ?_
        rintro e w' ⟨rfl, rfl⟩
        rw [← B1.out, HBb.out]
        go_wp2
        go_ret2
        exact ⟨ret_si (resB_no hz0'.out).symm (cod_no hz0'.out).symm, HB.out⟩
      · by_cases gb : b < 0
        · have hz0' := Lib.hid (good_no s k (by have := HJ.out; omega) hev.out (by unfold goodAt; rw [← HJ.out, HBb.out]; simp; omega))
          have ga' : decide (a < 0) = false := decide_eq_false ga
          go_wp2_with fail
          refine (idx_impl _ _).mono ?_
          rintro e w' ⟨rfl, rfl⟩
          rw [← B0.out, HA.out]
          go_wp2_with fail
          refine (idx_impl _ _).mono ?_
          rintro e w' ⟨rfl, rfl⟩
          rw [← B1.out, HBb.out]
          go_wp2
          go_ret2
          exact ⟨ret_si (resB_no hz0'.out).symm (cod_no hz0'.out).symm, HB.out⟩
        · have HV := Lib.hid (val_cells s k a b (by rw [← HJ.out]; exact HA.out) (by rw [← HJ.out]; exact HBb.out) (by omega) (by omega))
          have hgd := Lib.hid (show goodAt s k = true by unfold goodAt; rw [← HJ.out, HA.out, HBb.out]; simp; omega)
          have ga' : decide (a < 0) = false := decide_eq_false ga
          have gb' : decide (b < 0) = false := decide_eq_false gb
          go_wp2_with fail
          refine (idx_impl _ _).mono ?_
          rintro e w' ⟨rfl, rfl⟩
          rw [← B0.out, HA.out]
          go_wp2_with fail
          refine (idx_impl _ _).mono ?_
          rintro e w' ⟨rfl, rfl⟩
          rw [← B1.out, HBb.out]
          go_wp2_with (at_builtin; refine wpList_append_lies _ rfl _ _ _ rfl w.heap.size 5 i0 _ 1 1 Try.underlying22 hi0 hz0 hz1 hz2 rfl (by omega) _ (valL s k).length (BV (valL s k)) (by rfl) (World.ownsRow.alloc R.out _) ⟨wr.heap.size, 0, none⟩ 1 1 [.int .u8 (16 * a + b)] (by rfl) (by rfl) (World.news_of_block (cs := #[.int .u8 (16 * a + b)]) (t := 5) (fr := (0, 0)) (heap_alloc_new wr _)) (by simp [Value.oneCell']) (by omega) (by unfold maxLen; omega) (by omega) (by have := hz.out; simp; omega) (wr.heap.size + 1) (by simp) ?_; intro gg cap w1 hown1 hgrow hat hlt1; have HO := Lib.hid hown1; have HG := Lib.hid hgrow; clear hown1 hgrow hat hlt1)
          go_roundw
          case rel => exact ⟨j + 2, k + 1, by omega, by go_num, Lib.hid (by have := HJ.out; omega), Lib.hid (by
            rw [valL_succ]
            have := HO.out
            rw [← HV.out] at this
            exact Bytes.owns_grown this rfl), Lib.hid ((HB.out.trans ((Below.refl _ _).alloc HB.out.size _)).grown HG.out (by have := hz.out; simp; omega) (Owns.block R.out)), Lib.hid (fun q hq => by
              by_cases e : q = k
              · rw [e]; exact hgd.out
              · exact HGD.out q (by omega))⟩
          case measure => simp [intOf]; omega
    · have hgood := Lib.hid (good_yes s hev.out (fun q hq => HGD.out q (by have := HJ.out; omega)))
      have hk := Lib.hid (show k = s.size / 2 by have := HJ.out; have := hev.out; omega)
      have hconv := R.out.string
      rw [hk.out] at hconv
      have hge : decide ((j : Int) + 1 < (s.size : Int)) = false := decide_eq_false (by omega)
      go_wp2
      go_ret2
      exact ⟨ret_si (resB_yes hgood.out).symm (cod_yes hgood.out).symm, HB.out⟩

theorem unhex_impl (s : ByteArray) (hs : s.size ≤ 65536) (w : World) :
    Calls Try.prog 12 #[.string s] w fun e w' => e = .returned (.tuple #[.string (resB s), .int .i64 (cod s)]) ∧ Below w.heap.size w w' := by
  by_cases h : s.size % 2 = 0
  · exact impl_even s hs h w
  · exact impl_odd s hs h w
theorem unhex_l01 (s : ByteArray) (hs : s.size ≤ 65536) (w : World) :
    Calls Try.prog 35 #[.string s] w fun e w' => e = .returned (.tuple #[.string (resB s), .bool (goodB s)]) ∧ Below w.heap.size w w' := by
  by_cases h : s.size % 2 = 0
  · exact unhex_even s hs h w
  · exact unhex_odd s hs h w
theorem unhex_spec (s : ByteArray) (hs : s.size ≤ 65536) (w : World) :
    Calls Try.prog 22 #[.string s] w fun e w' => e = .returned (.tuple #[.string (resB s), .int .i64 (cod s)]) ∧ Below w.heap.size w w' := by
  have d0 : decide (65536 < (s.size : Int)) = false := decide_eq_false (by omega)
  cases hg : goodB s
  · have HG := Lib.hid hg
    clear hg
    go_enter Try.func22, Try.ntmps22
    go_wp2_with fail
    refine (unhex_l01 s hs _).mono ?_
    rintro e w1 ⟨rfl, hb⟩
    have HB := Lib.hid hb
    clear hb
    rw [HG.out]
    go_wp2
    go_ret2
    exact ⟨ret_si (resB_no HG.out).symm (cod_no HG.out).symm, HB.out⟩
  · have HG := Lib.hid hg
    clear hg
    go_enter Try.func22, Try.ntmps22
    go_wp2_with fail
    refine (unhex_l01 s hs _).mono ?_
    rintro e w1 ⟨rfl, hb⟩
    have HB := Lib.hid hb
    clear hb
    rw [HG.out]
    go_wp2
    go_ret2
    exact ⟨ret_si rfl (cod_yes HG.out).symm, HB.out⟩
theorem unhex_impl_long (s : ByteArray) (hs : 65536 < s.size) (hm : s.size ≤ maxLen) (w : World) :
    Calls Try.prog 12 #[.string s] w fun e w' => e = .returned (.tuple #[.string ⟨#[]⟩, .int .i64 2]) ∧ Below w.heap.size w w' := by
  unfold maxLen at hm
  go_enter Try.func12, Try.ntmps12
  go_wp2
  go_ret2
  exact ⟨rfl, Below.refl _ _⟩
theorem unhex_spec_long (s : ByteArray) (hs : 65536 < s.size) (hm : s.size ≤ maxLen) (w : World) :
    Calls Try.prog 22 #[.string s] w fun e w' => e = .returned (.tuple #[.string ⟨#[]⟩, .int .i64 2]) ∧ Below w.heap.size w w' := by
  unfold maxLen at hm
  go_enter Try.func22, Try.ntmps22
  go_wp2_with fail
  go_ret2
  exact ⟨rfl, Below.refl _ _⟩

theorem walk (s : ByteArray) (hm : s.size ≤ maxLen) (w : World) :
    Calls Try.prog 8 #[.string s] w fun e w' => e = .returned (.bool true) ∧ Below w.heap.size w w' := by
  by_cases h1 : 1048576 < s.size
  · unfold maxLen at hm
    go_enter Try.func8, Try.ntmps8
    go_wp2_with fail
    go_ret
    exact ⟨rfl, Below.refl _ _⟩
  · have d1 : decide (1048576 < (s.size : Int)) = false := decide_eq_false (by omega)
    by_cases h2 : 65536 < s.size
    · go_enter Try.func8, Try.ntmps8
      go_wp2_with fail
      refine (unhex_spec_long s h2 hm _).mono ?_
      rintro e w1 ⟨rfl, hb⟩
      have HB := Lib.hid hb
      clear hb
      go_wp2_with fail
      refine (unhex_impl_long s h2 hm _).mono ?_
      rintro e w2 ⟨rfl, hb⟩
      have HB2 := Lib.hid hb
      clear hb
      go_wp2
      go_ret
      exact ⟨rfl, HB.out.trans (HB2.out.mono HB.out.size)⟩
    · go_enter Try.func8, Try.ntmps8
      go_wp2_with fail
      refine (unhex_spec s (by omega) _).mono ?_
      rintro e w1 ⟨rfl, hb⟩
      have HB := Lib.hid hb
      clear hb
      go_wp2_with fail
      refine (unhex_impl s (by omega) _).mono ?_
      rintro e w2 ⟨rfl, hb⟩
      have HB2 := Lib.hid hb
      clear hb
      generalize resB s = r
      generalize cod s = c
      go_wp2
      go_ret
      exact ⟨rfl, HB.out.trans (HB2.out.mono HB.out.size)⟩
end Go.Proofs.Ytemnnbjmpdfigaa.UnHex
