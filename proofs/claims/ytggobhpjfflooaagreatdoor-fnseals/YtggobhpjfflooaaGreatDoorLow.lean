/-
  What is proved: the lowest bytes of a number, the lowest first: the program's appendLow and the model's eight bytes are the plain ones (contracts for the walks).
-/
import Derived.Test.YtggobhpjfflooaaGreatDoorRows
import Derived.Test.YtggobhpjfflooaaGreatDoorKitA
namespace Go.Proofs.YtggobhpjfflooaaGreatDoor.Low
open Go.ChangeShapes Go.WideShapes Go.ChangeAt Go.RowKit
open Arr (Row)
open Bytes (BV Owns)
open Word (bN bN_lt bN_at)
set_option linter.unusedVariables false

/-- A number in eight bytes, the lowest first. -/
def b8 (N : Nat) : Nat → List UInt8
  | 0 => []
  | k + 1 => b8 N k ++ [UInt8.ofNat (N / 2 ^ (8 * k) % 256)]
theorem b8_length (N : Nat) : ∀ k, (b8 N k).length = k
  | 0 => rfl
  | k + 1 => by show (b8 N k ++ _).length = _; rw [List.length_append, b8_length N k]; rfl
theorem b8_at (N : Nat) : ∀ k j (h : j < k), (b8 N k)[j]? = some (UInt8.ofNat (N / 2 ^ (8 * j) % 256))
  | 0, j, h => by omega
  | k + 1, j, h => by
    show (b8 N k ++ _)[j]? = _
    by_cases e : j < k
    · rw [List.getElem?_append_left (by rw [b8_length]; exact e)]
      exact b8_at N k j e
    · obtain rfl : j = k := by omega
      rw [List.getElem?_append_right (by rw [b8_length]; omega), b8_length]
      simp
def lenT (N : Nat) : ByteArray := ⟨(b8 N 8).toArray⟩
theorem lenT_size (N : Nat) : (lenT N).size = 8 := by show (b8 N 8).toArray.size = 8; rw [List.size_toArray, b8_length]

theorem owns_nil (w : World) (base : Nat) : Owns w base (.slice none 0 0) [] := ⟨rfl, .inl ⟨rfl, rfl⟩⟩

set_option maxRecDepth 100000 in
set_option maxHeartbeats 1600000 in
/-- appendLow: the size lowest bytes of N behind what was there. -/
theorem appendLow (N size : Nat) (hN : N ≤ 1099511627776) (hs : size ≤ 8) (v : Value) (bs : List UInt8) (hl : bs.length ≤ 20000) (w : World) (base : Nat) (hbase : base ≤ w.heap.size) (HO0 : Owns w base v bs) :
    Calls Tryz.prog 30 #[v, .int .i64 (N : Int), .int .i64 (size : Int)] w fun e w' => ∃ v', e = .returned v' ∧ Owns w' base v' (bs ++ b8 N size) ∧ Below base w w' := by
  obtain ⟨i0, hi0, hz0, hz1, hz2⟩ := info_parts Bytes.info5
  have HLN := Lib.hid (fun k => show (bs ++ b8 N k).length = bs.length + k by rw [List.length_append, b8_length])
  have HSN := Lib.hid (show ∀ k, bs ++ b8 N (k + 1) = bs ++ b8 N k ++ [UInt8.ofNat (N / 2 ^ (8 * k) % 256)] from fun k => by
    rw [List.append_assoc]; rfl)
  have HZ := Lib.hid (show bs ++ b8 N 0 = bs from List.append_nil bs)
  have HR := Lib.hid HO0
  clear HO0
  obtain ⟨BL, hBL⟩ : ∃ BL : Nat → List UInt8, ∀ k, bs ++ b8 N k = BL k := ⟨_, fun _ => rfl⟩
  simp only [hBL] at HLN HSN HZ ⊢
  clear hBL
  go_enter Tryz.func30, Tryz.ntmps30
  go_wp2
  go_loopw [0, 9] (fun v i wz => ∃ (k : Nat) (wr : World), wr = wz ∧ k ≤ size ∧ i = .int .i64 k ∧ Hid (Owns wr base v (BL k)) ∧ Hid (Below base w wr)) (fun _ i _ => size - (intOf i).toNat)
  case atStart => exact ⟨0, _, rfl, by omega, rfl, Lib.hid (by rw [HZ.out]; exact HR.out), Lib.hid (Below.refl _ _)⟩
  case round =>
  clear HR
  obtain ⟨k, wr, rfl, hk, rfl, R, HB⟩ := hrel
  have hz := Lib.hid HB.out.size
  by_cases hlt : k < size
  · have hlt2 : (k : Int) < (size : Int) := by omega
    obtain ⟨p, ep⟩ : ∃ p, 8 * k = p := ⟨_, rfl⟩
    have e0 : (8 : Int) * (k : Int) = (p : Int) := by omega
    have wp : IntKind.i64.wrap (p : Int) = p := by rw [IntKind.wrap_i64]; omega
    have p0 : (0 : Int) ≤ (p : Int) := by omega
    have m0 : min p 64 = p := by omega
    obtain ⟨a, ea⟩ : ∃ a, N / 2 ^ p = a := ⟨_, rfl⟩
    have hdv : (N : Int) / 2 ^ p = (a : Int) := by rw [← ea]; simp
    have hwa : IntKind.u8.wrap (a : Int) = ((a % 256 : Nat) : Int) := by rw [IntKind.wrap_u8']; omega
    have hb8 : a % 256 < 256 := Nat.mod_lt _ (by omega)
    have HS := Lib.hid (show BL (k + 1) = BL k ++ [UInt8.ofNat (a % 256)] by rw [HSN.out k, ep, ea])
    have HCE := Lib.hid (show BV [UInt8.ofNat (a % 256)] = [.int .u8 ((a % 256 : Nat) : Int)] by simp only [BV, List.map_cons, List.map_nil, UInt8.toNat_ofNat']; rw [Nat.mod_eq_of_lt hb8])
    have hl1 : (BL k).length ≤ 20008 := by rw [HLN.out k]; omega
    generalize a % 256 = dk at *
    generalize BL k = cs at *
    clear ea ep hb8
    go_wp2_with (at_builtin; refine wpList_append_lies _ rfl _ _ _ rfl base 5 i0 _ 1 1 Tryz.underlying22 hi0 hz0 hz1 hz2 rfl (by omega) _ cs.length (BV cs) (by rfl) (World.ownsRow.alloc R.out _) ⟨wr.heap.size, 0, none⟩ 1 1 [.int .u8 (dk : Int)] (by rfl) (by rfl) (World.news_of_block (cs := #[.int .u8 (dk : Int)]) (t := 5) (fr := (0, 0)) (heap_alloc_new wr _)) (by simp [Value.oneCell']) (by omega) (by unfold maxLen; omega) (by omega) (by have := hz.out; simp; omega) (wr.heap.size + 1) (by simp) ?_; intro gg cap w1 hown1 hgrow hat hlt1; have HO := Lib.hid hown1; have HG := Lib.hid hgrow; clear hown1 hgrow hat hlt1)
    go_roundw
    case rel => exact ⟨k + 1, _, rfl, by omega, by go_num, Lib.hid (by
      rw [HS.out]
      have := HO.out
      rw [← HCE.out] at this
      exact Bytes.owns_grown this rfl), Lib.hid ((HB.out.trans ((Below.refl _ _).alloc (Nat.le_trans hbase HB.out.size) _)).grown HG.out (by have := hz.out; simp; omega) (Owns.block R.out))⟩
    case measure => simp [intOf]; omega
  · have hfin := Lib.hid (show k = size by omega)
    go_wp2
    go_ret
    exact ⟨_, rfl, by rw [← hfin.out]; exact R.out, HB.out⟩

set_option maxRecDepth 100000 in
set_option maxHeartbeats 1600000 in
theorem l04Eight (N : Nat) (hN : N ≤ 1099511627776) (w : World) :
    Calls Tryz.prog 61 #[.int .i64 (N : Int)] w fun e w' => e = .returned (.string (lenT N)) ∧ Below w.heap.size w w' := by
  obtain ⟨i0, hi0, hz0, hz1, hz2⟩ := info_parts Bytes.info5
  have HR := Lib.hid (show lenT N = ⟨(b8 N 8).toArray⟩ from rfl)
  have HLN := Lib.hid (b8_length N)
  have HSN := Lib.hid (show ∀ k, b8 N (k + 1) = b8 N k ++ [UInt8.ofNat (N / 2 ^ (8 * k) % 256)] from fun _ => rfl)
  have HZ := Lib.hid (show b8 N 0 = [] from rfl)
  rw [HR.out]
  generalize b8 N = BL at *
  clear HR
  go_enter Tryz.func61, Tryz.ntmps61
  go_wp2
  go_loopw [3, 4] (fun v i wz => ∃ (k : Nat) (wr : World), wr = wz ∧ k ≤ 8 ∧ i = .int .i64 k ∧ Hid (Owns wr w.heap.size v (BL k)) ∧ Hid (Below w.heap.size w wr)) (fun _ i _ => 8 - (intOf i).toNat)
  case atStart => exact ⟨0, _, rfl, by omega, rfl, Lib.hid (by rw [HZ.out]; exact Bytes.owns_made w w.heap.size 0 #[] (Nat.le_refl _) (by unfold maxLen; omega) rfl), Lib.hid ((Below.refl _ _).alloc (Nat.le_refl _) _)⟩
  case round =>
  obtain ⟨k, wr, rfl, hk, rfl, R, HB⟩ := hrel
  have hz := Lib.hid HB.out.size
  by_cases hlt : k < 8
  · have hlt2 : (k : Int) < 8 := by omega
    obtain ⟨p, ep⟩ : ∃ p, 8 * k = p := ⟨_, rfl⟩
    have e0 : (8 : Int) * (k : Int) = (p : Int) := by omega
    have wp : IntKind.i64.wrap (p : Int) = p := by rw [IntKind.wrap_i64]; omega
    have p0 : (0 : Int) ≤ (p : Int) := by omega
    have m0 : min p 64 = p := by omega
    obtain ⟨a, ea⟩ : ∃ a, N / 2 ^ p = a := ⟨_, rfl⟩
    have hdv : (N : Int) / 2 ^ p = (a : Int) := by rw [← ea]; simp
    have hwa : IntKind.u8.wrap (a : Int) = ((a % 256 : Nat) : Int) := by rw [IntKind.wrap_u8']; omega
    have hb8 : a % 256 < 256 := Nat.mod_lt _ (by omega)
    have HS := Lib.hid (show BL (k + 1) = BL k ++ [UInt8.ofNat (a % 256)] by rw [HSN.out k, ep, ea])
    have HCE := Lib.hid (show BV [UInt8.ofNat (a % 256)] = [.int .u8 ((a % 256 : Nat) : Int)] by simp only [BV, List.map_cons, List.map_nil, UInt8.toNat_ofNat']; rw [Nat.mod_eq_of_lt hb8])
    have hl1 : (BL k).length ≤ 8 := by rw [HLN.out k]; omega
    generalize a % 256 = dk at *
    generalize BL k = bs at *
    clear ea ep hb8
    go_wp2_with (at_builtin; refine wpList_append_lies _ rfl _ _ _ rfl w.heap.size 5 i0 _ 1 1 Tryz.underlying22 hi0 hz0 hz1 hz2 rfl (by omega) _ bs.length (BV bs) (by rfl) (World.ownsRow.alloc R.out _) ⟨wr.heap.size, 0, none⟩ 1 1 [.int .u8 (dk : Int)] (by rfl) (by rfl) (World.news_of_block (cs := #[.int .u8 (dk : Int)]) (t := 5) (fr := (0, 0)) (heap_alloc_new wr _)) (by simp [Value.oneCell']) (by omega) (by unfold maxLen; omega) (by omega) (by have := hz.out; simp; omega) (wr.heap.size + 1) (by simp) ?_; intro gg cap w1 hown1 hgrow hat hlt1; have HO := Lib.hid hown1; have HG := Lib.hid hgrow; clear hown1 hgrow hat hlt1)
    go_roundw
    case rel => exact ⟨k + 1, _, rfl, by omega, by go_num, Lib.hid (by
      rw [HS.out]
      have := HO.out
      rw [← HCE.out] at this
      exact Bytes.owns_grown this rfl), Lib.hid ((HB.out.trans ((Below.refl _ _).alloc HB.out.size _)).grown HG.out (by have := hz.out; simp; omega) (Owns.block R.out))⟩
    case measure => simp [intOf]; omega
  · have hfin := Lib.hid (show k = 8 by omega)
    have hconv := R.out.string
    rw [hfin.out] at hconv
    go_wp2
    go_ret
    exact ⟨rfl, HB.out⟩
set_option maxHeartbeats 800000 in
theorem lengthBytes (t : ByteArray) (ht : t.size ≤ 65536) (w : World) :
    Calls Tryz.prog 57 #[.string t] w fun e w' => e = .returned (.string (lenT t.size)) ∧ Below w.heap.size w w' := by
  have HR := Lib.hid (show lenT t.size = ⟨(b8 t.size 8).toArray⟩ from rfl)
  have HA := Lib.hid (appendLow t.size 8 (by omega) (by omega) (.slice none 0 0) [] (by simp) w w.heap.size (Nat.le_refl _) (owns_nil _ _))
  rw [HR.out]
  generalize b8 t.size 8 = BL at *
  clear HR
  go_enter Tryz.func57, Tryz.ntmps57
  go_wp2_with fail
  refine (HA.out).mono ?_
  rintro e w1 ⟨v, rfl, ho, hb⟩
  rw [List.nil_append] at ho
  have hconv := ho.string
  have HB := Lib.hid hb
  clear hb ho
  go_wp2
  go_ret
  exact ⟨rfl, HB.out⟩
end Go.Proofs.YtggobhpjfflooaaGreatDoor.Low
