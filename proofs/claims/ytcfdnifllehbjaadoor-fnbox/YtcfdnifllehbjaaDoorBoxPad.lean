/-
  What is proved: a text filled up to pieces of sixteen, and how many bytes it has in eight bytes: the program's and the model's ways to them are plain ones (contracts for the walks).
-/
import Derived.Test.YtcfdnifllehbjaaDoorRows
import Derived.Test.YtcfdnifllehbjaaDoorFlat
import Derived.Test.YtcfdnifllehbjaaDoorShelf
namespace Go.Proofs.YtcfdnifllehbjaaDoor.BoxPad
open Go.ChangeShapes Go.WideShapes Go.ChangeAt Go.RowKit
open Arr (Row)
open Bytes (BV Owns)
open Word (bN bN_lt bN_at)
set_option linter.unusedVariables false

/-- n bytes 0. -/
def zeros (n : Nat) : ByteArray := ⟨(Lib.repeatL [0] n).toArray⟩
theorem zeros_size (n : Nat) : (zeros n).size = n := by
  show (Lib.repeatL [0] n).toArray.size = n
  rw [List.size_toArray, Lib.repeatL_length]
  simp
theorem zeros_succ (n : Nat) : zeros (n + 1) = zeros n ++ ⟨#[0]⟩ := by
  apply ByteArray.ext
  unfold zeros
  rw [ByteArray.data_append, Lib.repeatL_add, Lib.repeatL_one]
  simp
/-- How many bytes are missing to pieces of sixteen. -/
def miss (n : Nat) : Nat := (16 - n % 16) % 16
theorem miss_lt (n : Nat) : miss n < 16 := Nat.mod_lt _ (by omega)
/-- A text filled up. -/
def padT (t : ByteArray) : ByteArray := t ++ zeros (miss t.size)
theorem padT_size (t : ByteArray) : (padT t).size = t.size + miss t.size := by
  unfold padT
  rw [ByteArray.size_append, zeros_size]
theorem pad_more (t : ByteArray) (k : Nat) : t ++ zeros k ++ ⟨#[0]⟩ = t ++ zeros (k + 1) := by rw [zeros_succ, ByteArray.append_assoc]

set_option maxHeartbeats 800000 in
theorem wholePieces (t : ByteArray) (ht : t.size ≤ 65536) (w : World) :
    Calls Tryd.prog 37 #[.string t] w fun e w' => e = .returned (.string (padT t)) ∧ Below w.heap.size w w' := by
  have HM := Lib.hid (miss_lt t.size)
  obtain ⟨r, er⟩ : ∃ r, t.size % 16 = r := ⟨_, rfl⟩
  obtain ⟨s, es⟩ : ∃ s, 16 - r = s := ⟨_, rfl⟩
  obtain ⟨m, em⟩ : ∃ m, miss t.size = m := ⟨_, rfl⟩
  have esm : s % 16 = m := by rw [← em, ← es, ← er]; rfl
  have HR := Lib.hid (show padT t = t ++ zeros m by unfold padT; rw [em])
  rw [em] at HM
  have hm : m < 16 := HM.out
  have c1 : (t.size : Int) % 16 = (r : Int) := by omega
  have c2 : (16 : Int) - (r : Int) = (s : Int) := by omega
  have c3 : (s : Int) % 16 = (m : Int) := by omega
  have w1 : IntKind.i64.wrap (r : Int) = r := by rw [IntKind.wrap_i64]; omega
  have w2 : IntKind.i64.wrap (s : Int) = s := by rw [IntKind.wrap_i64]; omega
  have w3 : IntKind.i64.wrap (m : Int) = m := by rw [IntKind.wrap_i64]; omega
  have HREP := Lib.hid (fun u => Tryd.strings_Repeat ⟨#[0]⟩ m u (by omega) (by show 1 * m ≤ _; omega))
  have HZ := Lib.hid (show (⟨(Lib.repeatL (⟨#[0]⟩ : ByteArray).data.toList m).toArray⟩ : ByteArray) = zeros m from rfl)
  rw [HZ.out] at HREP
  have hzs := zeros_size m
  rw [HR.out]
  generalize zeros m = Z at *
  clear em esm er es HZ HR HM
  go_enter Tryd.func37, Tryd.ntmps37
  go_wp2_with fail
  refine (HREP.out _).mono ?_
  rintro e w1 ⟨rfl, hb⟩
  have HB := Lib.hid hb
  clear hb
  have hsum : ¬ 9223372036854775807 < t.size + Z.size := by omega
  go_wp2
  go_ret
  exact ⟨rfl, HB.out⟩

set_option maxHeartbeats 800000 in
theorem l04Pad (t : ByteArray) (ht : t.size ≤ 65536) (w : World) :
    Calls Tryd.prog 46 #[.string t] w fun e w' => e = .returned (.string (padT t)) ∧ Below w.heap.size w w' := by
  have HM := Lib.hid (show miss t.size < 16 ∧ (t.size + miss t.size) % 16 = 0 from ⟨miss_lt _, by unfold miss; omega⟩)
  have HL := Lib.hid (show ∀ k, k < miss t.size → (t.size + k) % 16 ≠ 0 from fun k hk => by unfold miss at hk; omega)
  have HR := Lib.hid (show padT t = t ++ zeros (miss t.size) from rfl)
  rw [HR.out]
  generalize miss t.size = m at *
  have HZ := Lib.hid (fun k => show (t ++ zeros k).size = t.size + k by rw [ByteArray.size_append, zeros_size])
  have HS := Lib.hid (pad_more t)
  have H0 := Lib.hid (show t ++ zeros 0 = t by
    apply ByteArray.ext
    rw [ByteArray.data_append]
    show t.data ++ #[] = t.data
    simp)
  obtain ⟨T, hT⟩ : ∃ T : Nat → ByteArray, ∀ k, t ++ zeros k = T k := ⟨_, fun _ => rfl⟩
  simp only [hT] at HZ HS H0 ⊢
  clear hT HR
  go_enter Tryd.func46, Tryd.ntmps46
  go_wp2
  go_loopw [0] (fun v wr => ∃ k : Nat, k ≤ m ∧ v = .string (T k) ∧ wr = w) (fun v _ => m - ((match v with | .string s => s.size | _ => 0) - t.size))
  case atStart => exact ⟨0, by omega, by rw [H0.out], rfl⟩
  case round =>
    obtain ⟨k, hk, rfl, rfl⟩ := hrel
    have hz := HZ.out k
    have hzn := HZ.out (k + 1)
    have hst := HS.out k
    have hmm := HM.out
    by_cases hlt : k < m
    · have hne := HL.out k hlt
      have d1 : (((T k).size : Int) % 16 != 0) = true := by simp; omega
      have hsum : ¬ 9223372036854775807 < (T k).size + 1 := by omega
      generalize T k = X at *
      generalize hY : T (k + 1) = Y at *
      go_wp2
      go_roundw
      case rel => exact ⟨k + 1, by omega, by rw [hY, ← hst], by first | rfl | trivial⟩
      case measure => (try simp only); omega
    · obtain rfl : k = m := by omega
      have d1 : (((T k).size : Int) % 16 != 0) = false := by simp; omega
      go_wp2
      go_ret
      exact ⟨rfl, Below.refl _ _⟩

/-- A number in eight bytes, the lowest first. -/
def b8 (N : Nat) : Nat → List UInt8
  | 0 => []
  | k + 1 => b8 N k ++ [UInt8.ofNat (N / 2 ^ (8 * k) % 256)]
theorem b8_length (N : Nat) : ∀ k, (b8 N k).length = k
  | 0 => rfl
  | k + 1 => by show (b8 N k ++ _).length = _; rw [List.length_append, b8_length N k]; rfl
theorem b8_at (N : Nat) : ∀ k j (h : j < k), (b8 N k)[j]? = some (UInt8.ofNat (N / 2 ^ (8 * j) % 256))
  | 0, j, h => by omega
  | k + 1, j, h => by
    show (b8 N k ++ _)[j]? = _
    by_cases e : j < k
    · rw [List.getElem?_append_left (by rw [b8_length]; exact e)]
      exact b8_at N k j e
    · obtain rfl : j = k := by omega
      rw [List.getElem?_append_right (by rw [b8_length]; omega), b8_length]
      simp
def lenT (N : Nat) : ByteArray := ⟨(b8 N 8).toArray⟩
theorem lenT_size (N : Nat) : (lenT N).size = 8 := by show (b8 N 8).toArray.size = 8; rw [List.size_toArray, b8_length]

set_option maxRecDepth 100000 in
set_option maxHeartbeats 1600000 in
theorem lengthBytes (t : ByteArray) (ht : t.size ≤ 65536) (w : World) :
    Calls Tryd.prog 38 #[.string t] w fun e w' => e = .returned (.string (lenT t.size)) ∧ Below w.heap.size w w' := by
  have HR := Lib.hid (show lenT t.size = ⟨(b8 t.size 8).toArray⟩ from rfl)
  have HLN := Lib.hid (b8_length t.size 8)
  have HAT := Lib.hid (b8_at t.size 8)
  rw [HR.out]
  generalize b8 t.size 8 = BL at *
  clear HR
  go_enter Tryd.func38, Tryd.ntmps38
  go_wp2
  obtain ⟨xs0, hxs, RR⟩ : ∃ xs : List Value, xs.length = 8 ∧ Row (w.alloc (.cells #[.int .u8 0, .int .u8 0, .int .u8 0, .int .u8 0, .int .u8 0, .int .u8 0, .int .u8 0, .int .u8 0] 73)) w.heap.size 73 xs := ⟨_, rfl, Arr.row_new w _ _⟩
  have RX := Lib.hid (And.intro RR (And.intro hxs (show Below w.heap.size w (w.alloc (.cells #[.int .u8 0, .int .u8 0, .int .u8 0, .int .u8 0, .int .u8 0, .int .u8 0, .int .u8 0, .int .u8 0] 73)) from (Below.refl _ _).alloc (Nat.le_refl _) _)))
  clear RR hxs
  generalize w.alloc (.cells #[.int .u8 0, .int .u8 0, .int .u8 0, .int .u8 0, .int .u8 0, .int .u8 0, .int .u8 0, .int .u8 0] 73) = W at *
  go_loopw [5] (fun i wz => ∃ (k : Nat) (xs : List Value) (wr : World), wr = wz ∧ k ≤ 8 ∧ i = .int .i64 k ∧ Hid (Row wr w.heap.size 73 xs ∧ xs.length = 8 ∧ (∀ j, j < k → xs[j]? = some (.int .u8 ((t.size / 2 ^ (8 * j) % 256 : Nat) : Int))) ∧ Below w.heap.size w wr)) (fun i _ => 8 - (intOf i).toNat)
  case atStart => exact ⟨0, xs0, _, rfl, by omega, rfl, Lib.hid ⟨RX.out.1, RX.out.2.1, fun j hj => by omega, RX.out.2.2⟩⟩
  case round =>
  clear RX
  obtain ⟨k, xs, wr, rfl, hk, rfl, HX⟩ := hrel
  by_cases hlt : k < 8
  · have hlt2 : (k : Int) < 8 := by omega
    have hk0 : (0 : Int) ≤ (k : Int) := by omega
    obtain ⟨old, c1⟩ : ∃ v, wr.cell? ⟨w.heap.size, k, none⟩ = some v := ⟨_, (HX.out.1.cell k).trans (List.getElem?_eq_getElem (by have := HX.out.2.1; omega))⟩
    have f1 := HX.out.1.frozen k
    obtain ⟨p, ep⟩ : ∃ p, 8 * k = p := ⟨_, rfl⟩
    have e0 : (8 : Int) * (k : Int) = (p : Int) := by omega
    have wp : IntKind.i64.wrap (p : Int) = p := by rw [IntKind.wrap_i64]; omega
    have p0 : (0 : Int) ≤ (p : Int) := by omega
    have m0 : min p 64 = p := by omega
    obtain ⟨a, ea⟩ : ∃ a, t.size / 2 ^ p = a := ⟨_, rfl⟩
    have hab : a ≤ t.size := by rw [← ea]; exact Nat.div_le_self _ _
    have hdv : (t.size : Int) / 2 ^ p = (a : Int) := by rw [← ea]; simp
    have hwa : IntKind.u8.wrap (a : Int) = ((a % 256 : Nat) : Int) := by rw [IntKind.wrap_u8']; omega
    have HBY := Lib.hid (show t.size / 2 ^ (8 * k) % 256 = a % 256 by rw [ep, ea])
    generalize a % 256 = b at *
    clear ea ep hab
    go_wp2
    go_roundw
    case rel =>
      obtain ⟨h1, h3, h4, h6⟩ := HX.out
      refine ⟨k + 1, xs.set k _, _, rfl, by omega, by go_num, Lib.hid ⟨h1.set k _, by simp [h3], fun j hj => ?_, h6.setCell (Nat.le_refl _) _⟩⟩
      by_cases e : j = k
      · rw [e, List.getElem?_set_self (by omega), HBY.out]
      · rw [List.getElem?_set_ne (by omega)]; exact h4 j (by omega)
    case measure => simp [intOf]; omega
  · have hfin := Lib.hid (show k = 8 by omega)
    have hconv := Flat.back wr w.heap.size 8 8 BL HLN.out (fun j hj => by
      have hj2 := hj
      rw [HLN.out] at hj2
      have h5 := HAT.out j hj2
      rw [List.getElem?_eq_getElem hj] at h5
      rw [HX.out.1.cell j, HX.out.2.2.1 j (by have := hfin.out; omega), Option.some.inj h5, UInt8.toNat_ofNat']
      simp)
    go_wp2
    go_ret
    exact ⟨rfl, HX.out.2.2.2⟩

set_option maxRecDepth 100000 in
set_option maxHeartbeats 1600000 in
theorem l04Eight (N : Nat) (hN : N ≤ 65536) (w : World) :
    Calls Tryd.prog 47 #[.int .i64 (N : Int)] w fun e w' => e = .returned (.string (lenT N)) ∧ Below w.heap.size w w' := by
  obtain ⟨i0, hi0, hz0, hz1, hz2⟩ := info_parts Bytes.info5
  have HR := Lib.hid (show lenT N = ⟨(b8 N 8).toArray⟩ from rfl)
  have HLN := Lib.hid (b8_length N)
  have HSN := Lib.hid (show ∀ k, b8 N (k + 1) = b8 N k ++ [UInt8.ofNat (N / 2 ^ (8 * k) % 256)] from fun _ => rfl)
  have HZ := Lib.hid (show b8 N 0 = [] from rfl)
  rw [HR.out]
  generalize b8 N = BL at *
  clear HR
  go_enter Tryd.func47, Tryd.ntmps47
  go_wp2
  go_loopw [3, 4] (fun v i wz => ∃ (k : Nat) (wr : World), wr = wz ∧ k ≤ 8 ∧ i = .int .i64 k ∧ Hid (Owns wr w.heap.size v (BL k)) ∧ Hid (Below w.heap.size w wr)) (fun _ i _ => 8 - (intOf i).toNat)
  case atStart => exact ⟨0, _, rfl, by omega, rfl, Lib.hid (by rw [HZ.out]; exact Bytes.owns_made w w.heap.size 0 #[] (Nat.le_refl _) (by unfold maxLen; omega) rfl), Lib.hid ((Below.refl _ _).alloc (Nat.le_refl _) _)⟩
  case round =>
  obtain ⟨k, wr, rfl, hk, rfl, R, HB⟩ := hrel
  have hz := Lib.hid HB.out.size
  by_cases hlt : k < 8
  · have hlt2 : (k : Int) < 8 := by omega
    obtain ⟨p, ep⟩ : ∃ p, 8 * k = p := ⟨_, rfl⟩
    have e0 : (8 : Int) * (k : Int) = (p : Int) := by omega
    have wp : IntKind.i64.wrap (p : Int) = p := by rw [IntKind.wrap_i64]; omega
    have p0 : (0 : Int) ≤ (p : Int) := by omega
    have m0 : min p 64 = p := by omega
    obtain ⟨a, ea⟩ : ∃ a, N / 2 ^ p = a := ⟨_, rfl⟩
    have hdv : (N : Int) / 2 ^ p = (a : Int) := by rw [← ea]; simp
    have hwa : IntKind.u8.wrap (a : Int) = ((a % 256 : Nat) : Int) := by rw [IntKind.wrap_u8']; omega
    have hb8 : a % 256 < 256 := Nat.mod_lt _ (by omega)
    have HS := Lib.hid (show BL (k + 1) = BL k ++ [UInt8.ofNat (a % 256)] by rw [HSN.out k, ep, ea])
    have HCE := Lib.hid (show BV [UInt8.ofNat (a % 256)] = [.int .u8 ((a % 256 : Nat) : Int)] by simp only [BV, List.map_cons, List.map_nil, UInt8.toNat_ofNat']; rw [Nat.mod_eq_of_lt hb8])
    have hl1 : (BL k).length ≤ 8 := by rw [HLN.out k]; omega
    generalize a % 256 = dk at *
    generalize BL k = bs at *
    clear ea ep hb8
    go_wp2_with (at_builtin; refine wpList_append_lies _ rfl _ _ _ rfl w.heap.size 5 i0 _ 1 1 Tryd.underlying22 hi0 hz0 hz1 hz2 rfl (by omega) _ bs.length (BV bs) (by rfl) (World.ownsRow.alloc R.out _) ⟨wr.heap.size, 0, none⟩ 1 1 [.int .u8 (dk : Int)] (by rfl) (by rfl) (World.news_of_block (cs := #[.int .u8 (dk : Int)]) (t := 5) (fr := (0, 0)) (heap_alloc_new wr _)) (by simp [Value.oneCell']) (by omega) (by unfold maxLen; omega) (by omega) (by have := hz.out; simp; omega) (wr.heap.size + 1) (by simp) ?_; intro gg cap w1 hown1 hgrow hat hlt1; have HO := Lib.hid hown1; have HG := Lib.hid hgrow; clear hown1 hgrow hat hlt1)
    go_roundw
    case rel => exact ⟨k + 1, _, rfl, by omega, by go_num, Lib.hid (by
      rw [HS.out]
      have := HO.out
      rw [← HCE.out] at this
      exact Bytes.owns_grown this rfl), Lib.hid ((HB.out.trans ((Below.refl _ _).alloc HB.out.size _)).grown HG.out (by have := hz.out; simp; omega) (Owns.block R.out))⟩
    case measure => simp [intOf]; omega
  · have hfin := Lib.hid (show k = 8 by omega)
    have hconv := R.out.string
    rw [hfin.out] at hconv
    go_wp2
    go_ret
    exact ⟨rfl, HB.out⟩
end Go.Proofs.YtcfdnifllehbjaaDoor.BoxPad
