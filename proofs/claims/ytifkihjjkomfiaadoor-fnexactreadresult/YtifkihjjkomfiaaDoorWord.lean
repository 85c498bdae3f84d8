/-
  What is proved: plain facts on words of 32 bits: how the two kinds of arithmetic (on uint32, and on int with a mask) tell the same words. Nothing of the program.
-/
import Derived.Laws.BitsAllLaws
import Derived.Laws.Bits64
import Derived.WalkKit
namespace Go.Proofs.YtifkihjjkomfiaaDoor.Word
open Go.RowKit
set_option linter.unusedVariables false

/-- 2 to the 32, and one less. -/
abbrev M : Nat := 4294967296

theorem ofInt_i64 (a : Nat) (ha : a < 9223372036854775808) : (BitVec.ofInt 64 (a : Int)).toNat = a := ofInt_u64 a (by omega)
theorem i64_and (a b : Nat) (ha : a < 9223372036854775808) (hb : b < 9223372036854775808) : bits .and .i64 (a : Int) (b : Int) = ((a &&& b : Nat) : Int) := by
  have hx : a &&& b < 2 ^ 63 := Nat.and_lt_two_pow _ (by omega)
  show IntKind.i64.wrap ((BitVec.ofInt 64 (a : Int) &&& BitVec.ofInt 64 (b : Int)).toNat : Int) = _
  rw [BitVec.toNat_and, ofInt_i64 a ha, ofInt_i64 b hb, IntKind.wrap_i64]
  omega
theorem i64_or (a b : Nat) (ha : a < 9223372036854775808) (hb : b < 9223372036854775808) : bits .or .i64 (a : Int) (b : Int) = ((a ||| b : Nat) : Int) := by
  have hx : a ||| b < 2 ^ 63 := Nat.or_lt_two_pow (by omega) (by omega)
  show IntKind.i64.wrap ((BitVec.ofInt 64 (a : Int) ||| BitVec.ofInt 64 (b : Int)).toNat : Int) = _
  rw [BitVec.toNat_or, ofInt_i64 a ha, ofInt_i64 b hb, IntKind.wrap_i64]
  omega
theorem i64_xor (a b : Nat) (ha : a < 9223372036854775808) (hb : b < 9223372036854775808) : bits .xor .i64 (a : Int) (b : Int) = ((a ^^^ b : Nat) : Int) := by
  have hx : a ^^^ b < 2 ^ 63 := Nat.xor_lt_two_pow (by omega) (by omega)
  show IntKind.i64.wrap ((BitVec.ofInt 64 (a : Int) ^^^ BitVec.ofInt 64 (b : Int)).toNat : Int) = _
  rw [BitVec.toNat_xor, ofInt_i64 a ha, ofInt_i64 b hb, IntKind.wrap_i64]
  omega
theorem i64_mask (a : Nat) (ha : a < 9223372036854775808) : bits .and .i64 (a : Int) 4294967295 = ((a % 4294967296 : Nat) : Int) := by
  have := i64_and a 4294967295 ha (by omega)
  rw [nat_mask32] at this
  exact this

theorem and_lt {a b : Nat} (h : a < 4294967296) : a &&& b < 4294967296 := Nat.lt_of_le_of_lt Nat.and_le_left h
theorem and_lt' {a b : Nat} (h : b < 4294967296) : a &&& b < 4294967296 := Nat.lt_of_le_of_lt Nat.and_le_right h
theorem xor_lt {a b : Nat} (h : a < 4294967296) (k : b < 4294967296) : a ^^^ b < 4294967296 := Nat.xor_lt_two_pow (n := 32) h k
theorem or_lt {a b : Nat} (h : a < 4294967296) (k : b < 4294967296) : a ||| b < 4294967296 := Nat.or_lt_two_pow (n := 32) h k

/-- A word turned right by n bits (x / p with p = 2 to the n, q = 2 to the 32 - n). -/
def rot (p q x : Nat) : Nat := (x / p ||| x * q) % 4294967296
theorem rot_lt (p q x : Nat) : rot p q x < 4294967296 := Nat.mod_lt _ (by omega)

/-- What stands above 32 bits is cut off, part by part. -/
theorem or_mod (a b : Nat) (h : a < 4294967296) : (a ||| b) % 4294967296 = a ||| b % 4294967296 := by
  rw [← nat_mask32, ← nat_mask32, Nat.and_or_distrib_right, nat_mask32 a, Nat.mod_eq_of_lt h]

/-- The complement of a word. -/
theorem not_eq (e : Nat) (h : e < 4294967296) : 4294967295 - e = 4294967295 ^^^ e := by
  apply Nat.eq_of_testBit_eq
  intro i
  have h1 := Nat.testBit_two_pow_sub_succ (n := 32) h i
  have e1 : 2 ^ 32 - (e + 1) = 4294967295 - e := by omega
  rw [e1] at h1
  have h2 := Nat.testBit_two_pow_sub_one 32 i
  rw [h1, Nat.testBit_xor, show (4294967295 : Nat) = 2 ^ 32 - 1 from rfl, h2]
  by_cases hi : i < 32
  · simp [hi]
  · have : e.testBit i = false := Nat.testBit_lt_two_pow (Nat.lt_of_lt_of_le h (Nat.pow_le_pow_right (n := 2) (by decide) (Nat.le_of_not_lt hi)))
    simp [hi, this]

theorem rot_spec (p q x : Nat) (hx : x < 4294967296) (hq : q ≤ 1073741824) :
    bits .and .i64 (bits .or .i64 ((x : Int) / (p : Nat)) ((x : Int) * (q : Nat))) 4294967295 = ((rot p q x : Nat) : Int) := by
  have h1 : x / p < 4294967296 := Nat.lt_of_le_of_lt (Nat.div_le_self _ _) hx
  have h2 : x * q < 9223372036854775808 := by
    have := Nat.mul_le_mul (Nat.le_of_lt_succ hx : x ≤ 4294967295) hq
    omega
  have h3 : x / p ||| x * q < 2 ^ 63 := Nat.or_lt_two_pow (by omega) h2
  have e1 : (x : Int) / ((p : Nat) : Int) = ((x / p : Nat) : Int) := (Int.natCast_ediv x p).symm
  have e2 : (x : Int) * ((q : Nat) : Int) = ((x * q : Nat) : Int) := (Int.natCast_mul x q).symm
  rw [e1, e2, i64_or _ _ (by omega) h2, i64_mask _ h3]
  rfl
theorem rot_impl (p q x : Nat) (hx : x < 4294967296) :
    bits .or .u32 ((x : Int) * (q : Nat) % 4294967296) ((x : Int) / (p : Nat)) = ((rot p q x : Nat) : Int) := by
  have h1 : x / p < 4294967296 := Nat.lt_of_le_of_lt (Nat.div_le_self _ _) hx
  have e1 : (x : Int) / ((p : Nat) : Int) = ((x / p : Nat) : Int) := (Int.natCast_ediv x p).symm
  have e2 : (x : Int) * ((q : Nat) : Int) % 4294967296 = ((x * q % 4294967296 : Nat) : Int) := by rw [Int.natCast_emod, Int.natCast_mul]; rfl
  rw [e1, e2, u32_or_nat _ _ (Nat.mod_lt _ (by omega)) h1, Nat.or_comm, ← or_mod _ _ h1]
  rfl

/-- A word turned right by n bits. -/
def rotI (x : Nat) (n : Int) : Nat := rot (2 ^ n.toNat) (2 ^ (32 - n.toNat)) x
theorem rotI_lt (x : Nat) (n : Int) : rotI x n < 4294967296 := rot_lt _ _ _
def S1 (e : Nat) : Nat := rotI e 6 ^^^ rotI e 11 ^^^ rotI e 25
def S0 (a : Nat) : Nat := rotI a 2 ^^^ rotI a 13 ^^^ rotI a 22
def s0 (x : Nat) : Nat := rotI x 7 ^^^ rotI x 18 ^^^ x / 8
def s1 (y : Nat) : Nat := rotI y 17 ^^^ rotI y 19 ^^^ y / 1024
def ch (e f g : Nat) : Nat := (e &&& f) ^^^ ((4294967295 ^^^ e) &&& g)
def maj (a b c : Nat) : Nat := (a &&& b) ^^^ (a &&& c) ^^^ (b &&& c)
theorem S1_lt (e : Nat) : S1 e < 4294967296 := xor_lt (xor_lt (rotI_lt _ _) (rotI_lt _ _)) (rotI_lt _ _)
theorem S0_lt (e : Nat) : S0 e < 4294967296 := xor_lt (xor_lt (rotI_lt _ _) (rotI_lt _ _)) (rotI_lt _ _)
theorem s0_lt (e : Nat) (h : e < 4294967296) : s0 e < 4294967296 := xor_lt (xor_lt (rotI_lt _ _) (rotI_lt _ _)) (by omega)
theorem s1_lt (e : Nat) (h : e < 4294967296) : s1 e < 4294967296 := xor_lt (xor_lt (rotI_lt _ _) (rotI_lt _ _)) (by omega)
theorem ch_lt (e f g : Nat) (h : e < 4294967296) (k : g < 4294967296) : ch e f g < 4294967296 := xor_lt (and_lt h) (and_lt' k)
theorem maj_lt (a b c : Nat) (h : a < 4294967296) (k : b < 4294967296) : maj a b c < 4294967296 := xor_lt (xor_lt (and_lt h) (and_lt h)) (and_lt k)
def TT (e f g h kw : Nat) : Nat := h + S1 e + ch e f g + kw
def UU (a b c : Nat) : Nat := S0 a + maj a b c
/-- One of the 64 turns, of the eight words. -/
structure St where
  a : Nat
  b : Nat
  c : Nat
  d : Nat
  e : Nat
  f : Nat
  g : Nat
  h : Nat
def St.ok (s : St) : Prop := s.a < 4294967296 ∧ s.b < 4294967296 ∧ s.c < 4294967296 ∧ s.d < 4294967296 ∧ s.e < 4294967296 ∧ s.f < 4294967296 ∧ s.g < 4294967296 ∧ s.h < 4294967296
def St.turn (s : St) (kw : Nat) : St :=
  ⟨(TT s.e s.f s.g s.h kw + UU s.a s.b s.c) % 4294967296, s.a, s.b, s.c, (s.d + TT s.e s.f s.g s.h kw) % 4294967296, s.e, s.f, s.g⟩
theorem St.turn_ok {s : St} (h : s.ok) (kw : Nat) : (s.turn kw).ok := by
  obtain ⟨h1, h2, h3, h4, h5, h6, h7, h8⟩ := h
  exact ⟨Nat.mod_lt _ (by omega), h1, h2, h3, Nat.mod_lt _ (by omega), h5, h6, h7⟩
/-- What is added to a word may be cut first. -/
theorem St.turn_mod (s : St) (kw kw' : Nat) (h : kw % 4294967296 = kw' % 4294967296) : s.turn kw = s.turn kw' := by
  have e1 : (TT s.e s.f s.g s.h kw + UU s.a s.b s.c) % 4294967296 = (TT s.e s.f s.g s.h kw' + UU s.a s.b s.c) % 4294967296 := by unfold TT; omega
  have e2 : (s.d + TT s.e s.f s.g s.h kw) % 4294967296 = (s.d + TT s.e s.f s.g s.h kw') % 4294967296 := by unfold TT; omega
  simp only [St.turn, e1, e2]

/-! The forms that the walks come to. -/
theorem u32_S1 (e : Nat) : bits .xor .u32 (bits .xor .u32 ((rotI e 6 : Nat) : Int) ((rotI e 11 : Nat) : Int)) ((rotI e 25 : Nat) : Int) = ((S1 e : Nat) : Int) := by
  rw [u32_xor_nat _ _ (rotI_lt _ _) (rotI_lt _ _), u32_xor_nat _ _ (xor_lt (rotI_lt _ _) (rotI_lt _ _)) (rotI_lt _ _)]; rfl
theorem u32_S0 (e : Nat) : bits .xor .u32 (bits .xor .u32 ((rotI e 2 : Nat) : Int) ((rotI e 13 : Nat) : Int)) ((rotI e 22 : Nat) : Int) = ((S0 e : Nat) : Int) := by
  rw [u32_xor_nat _ _ (rotI_lt _ _) (rotI_lt _ _), u32_xor_nat _ _ (xor_lt (rotI_lt _ _) (rotI_lt _ _)) (rotI_lt _ _)]; rfl
theorem i64_S1 (e : Nat) : bits .xor .i64 (bits .xor .i64 ((rotI e 6 : Nat) : Int) ((rotI e 11 : Nat) : Int)) ((rotI e 25 : Nat) : Int) = ((S1 e : Nat) : Int) := by
  have h1 := rotI_lt e 6
  have h2 := rotI_lt e 11
  have h3 := rotI_lt e 25
  have h4 := xor_lt h1 h2
  rw [i64_xor _ _ (by omega) (by omega), i64_xor _ _ (by omega) (by omega)]; rfl
theorem i64_S0 (e : Nat) : bits .xor .i64 (bits .xor .i64 ((rotI e 2 : Nat) : Int) ((rotI e 13 : Nat) : Int)) ((rotI e 22 : Nat) : Int) = ((S0 e : Nat) : Int) := by
  have h1 := rotI_lt e 2
  have h2 := rotI_lt e 13
  have h3 := rotI_lt e 22
  have h4 := xor_lt h1 h2
  rw [i64_xor _ _ (by omega) (by omega), i64_xor _ _ (by omega) (by omega)]; rfl

theorem u32_ch (e f g : Nat) (he : e < 4294967296) (hf : f < 4294967296) (hg : g < 4294967296) :
    bits .xor .u32 (bits .and .u32 (e : Int) (f : Int)) (bits .and .u32 (bits .xor .u32 IntKind.u32.max (e : Int)) (g : Int)) = ((ch e f g : Nat) : Int) := by
  have hm : IntKind.u32.max = ((4294967295 : Nat) : Int) := by decide
  have hn : 4294967295 ^^^ e < 4294967296 := xor_lt (by omega) he
  rw [hm, u32_xor_nat _ _ (by omega) he, u32_and_nat _ _ he hf, u32_and_nat _ _ hn hg, u32_xor_nat _ _ (and_lt he) (and_lt hn)]
  rfl
theorem i64_ch (e f g : Nat) (he : e < 4294967296) (hf : f < 4294967296) (hg : g < 4294967296) :
    bits .xor .i64 (bits .and .i64 (e : Int) (f : Int)) (bits .and .i64 (bits .xor .i64 4294967295 (e : Int)) (g : Int)) = ((ch e f g : Nat) : Int) := by
  have hn : 4294967295 ^^^ e < 4294967296 := xor_lt (by omega) he
  have h1 := and_lt (b := f) he
  have h2 := and_lt (b := g) hn
  have hm : bits .xor .i64 4294967295 (e : Int) = ((4294967295 ^^^ e : Nat) : Int) := i64_xor 4294967295 e (by omega) (by omega)
  rw [hm, i64_and _ _ (by omega) (by omega), i64_and _ _ (by omega) (by omega), i64_xor _ _ (by omega) (by omega)]
  rfl
theorem u32_maj (a b c : Nat) (ha : a < 4294967296) (hb : b < 4294967296) (hc : c < 4294967296) :
    bits .xor .u32 (bits .xor .u32 (bits .and .u32 (a : Int) (b : Int)) (bits .and .u32 (a : Int) (c : Int))) (bits .and .u32 (b : Int) (c : Int)) = ((maj a b c : Nat) : Int) := by
  rw [u32_and_nat _ _ ha hb, u32_and_nat _ _ ha hc, u32_and_nat _ _ hb hc, u32_xor_nat _ _ (and_lt ha) (and_lt ha), u32_xor_nat _ _ (xor_lt (and_lt ha) (and_lt ha)) (and_lt hb)]
  rfl
theorem i64_maj (a b c : Nat) (ha : a < 4294967296) (hb : b < 4294967296) (hc : c < 4294967296) :
    bits .xor .i64 (bits .xor .i64 (bits .and .i64 (a : Int) (b : Int)) (bits .and .i64 (a : Int) (c : Int))) (bits .and .i64 (b : Int) (c : Int)) = ((maj a b c : Nat) : Int) := by
  have h1 := and_lt (b := b) ha
  have h2 := and_lt (b := c) ha
  have h3 := and_lt (b := c) hb
  have h4 := xor_lt h1 h2
  rw [i64_and _ _ (by omega) (by omega), i64_and _ _ (by omega) (by omega), i64_and _ _ (by omega) (by omega), i64_xor _ _ (by omega) (by omega), i64_xor _ _ (by omega) (by omega)]
  rfl
theorem sum_a (a b c e f g h kw : Nat) : ((h : Int) + ((S1 e : Nat) : Int) + ((ch e f g : Nat) : Int) + (kw : Int) + (((S0 a : Nat) : Int) + ((maj a b c : Nat) : Int))) % 4294967296 = (((TT e f g h kw + UU a b c) % 4294967296 : Nat) : Int) := by
  unfold TT UU; omega
theorem sum_e (d e f g h kw : Nat) : ((d : Int) + ((h : Int) + ((S1 e : Nat) : Int) + ((ch e f g : Nat) : Int) + (kw : Int))) % 4294967296 = (((d + TT e f g h kw) % 4294967296 : Nat) : Int) := by
  unfold TT; omega

/-! The 64 words of a block. -/
def bN (s : ByteArray) (j : Nat) : Nat := (s.data.toList.getD j 0).toNat
theorem bN_at (s : ByteArray) (j : Nat) (h : j < s.size) : s[j].toNat = bN s j := by
  unfold bN
  have h2 : j < s.data.toList.length := by simpa using h
  simp [List.getD_eq_getElem?_getD, List.getElem?_eq_getElem h2]
  rfl
theorem bN_lt (s : ByteArray) (j : Nat) : bN s j < 256 := (s.data.toList.getD j 0).toNat_lt
/-- Word j of a text: four bytes, the highest first. -/
def mw (s : ByteArray) (j : Nat) : Nat := bN s (4 * j) * 16777216 + bN s (4 * j + 1) * 65536 + bN s (4 * j + 2) * 256 + bN s (4 * j + 3)
theorem mw_lt (s : ByteArray) (j : Nat) : mw s j < 4294967296 := by
  have h0 := bN_lt s (4 * j)
  have h1 := bN_lt s (4 * j + 1)
  have h2 := bN_lt s (4 * j + 2)
  have h3 := bN_lt s (4 * j + 3)
  unfold mw
  omega
def nxt (l : List Nat) (k : Nat) : Nat := (l.getD k 0 + s0 (l.getD (k + 1) 0) + l.getD (k + 9) 0 + s1 (l.getD (k + 14) 0)) % 4294967296
def grow (m : Nat → Nat) : Nat → List Nat
  | 0 => (List.range 16).map m
  | k + 1 => grow m k ++ [nxt (grow m k) k]
def wd (m : Nat → Nat) (i : Nat) : Nat := (grow m 48).getD i 0
theorem grow_length (m : Nat → Nat) : ∀ k, (grow m k).length = 16 + k
  | 0 => by simp [grow]
  | k + 1 => by simp [grow, grow_length m k]; omega
theorem grow_stays (m : Nat → Nat) (k d i : Nat) (h : i < 16 + k) : (grow m (k + d)).getD i 0 = (grow m k).getD i 0 := by
  induction d with
  | zero => rfl
  | succ d ih =>
    rw [← ih]
    show (grow m (k + d) ++ [nxt (grow m (k + d)) (k + d)]).getD i 0 = _
    have := grow_length m (k + d)
    simp only [List.getD_eq_getElem?_getD]
    rw [List.getElem?_append_left (by omega)]
theorem wd_low (m : Nat → Nat) (i : Nat) (h : i < 16) : wd m i = m i := by
  have := grow_stays m 0 48 i (by omega)
  rw [Nat.zero_add] at this
  unfold wd
  rw [this]
  simp [grow, List.getD_eq_getElem?_getD, h]
theorem wd_high (m : Nat → Nat) (k : Nat) (h : k < 48) : wd m (16 + k) = (wd m k + s0 (wd m (k + 1)) + wd m (k + 9) + s1 (wd m (k + 14))) % 4294967296 := by
  have e : ∀ i, i < 16 + k → wd m i = (grow m k).getD i 0 := fun i hi => by
    have := grow_stays m k (48 - k) i hi
    rw [show k + (48 - k) = 48 by omega] at this
    exact this
  have e2 : wd m (16 + k) = (grow m (k + 1)).getD (16 + k) 0 := by
    have := grow_stays m (k + 1) (47 - k) (16 + k) (by omega)
    rw [show k + 1 + (47 - k) = 48 by omega] at this
    exact this
  rw [e k (by omega), e (k + 1) (by omega), e (k + 9) (by omega), e (k + 14) (by omega), e2]
  have := grow_length m k
  show (grow m k ++ [nxt (grow m k) k]).getD (16 + k) 0 = _
  simp only [List.getD_eq_getElem?_getD]
  rw [List.getElem?_append_right (by omega), this]
  simp [nxt, List.getD_eq_getElem?_getD]
theorem wd_lt (m : Nat → Nat) (hm : ∀ j, m j < 4294967296) (i : Nat) (h : i < 64) : wd m i < 4294967296 := by
  by_cases hi : i < 16
  · rw [wd_low m i hi]; exact hm i
  · have := wd_high m (i - 16) (by omega)
    rw [show 16 + (i - 16) = i by omega] at this
    rw [this]
    exact Nat.mod_lt _ (by omega)
theorem wd_congr (m m' : Nat → Nat) (h : ∀ j, j < 16 → m j = m' j) (i : Nat) : wd m i = wd m' i := by
  have : ∀ k, grow m k = grow m' k := by
    intro k
    induction k with
    | zero => exact List.map_congr_left fun j hj => h j (List.mem_range.1 hj)
    | succ k ih => simp only [grow, ih]
  unfold wd
  rw [this]

theorem bN_extract (s : ByteArray) (a b j : Nat) (h : a + j < b) : bN (s.extract a b) j = bN s (a + j) := by
  have e : (s.extract a b).data.toList = (s.data.toList.drop a).take (b - a) := by
    rw [ByteArray.data_extract]
    simp
  unfold bN
  rw [e]
  simp only [List.getD_eq_getElem?_getD]
  rw [List.getElem?_take_of_lt (by omega), List.getElem?_drop]
theorem shl_or (a b p : Nat) (k : Nat) (hp : p = 2 ^ k) (hb : b < p) : a * p ||| b = a * p + b := by
  subst hp
  exact nat_join k _ _ (Nat.mul_mod_left _ _) hb
theorem word_or (x0 x1 x2 x3 : Nat) (h0 : x0 < 256) (h1 : x1 < 256) (h2 : x2 < 256) (h3 : x3 < 256) :
    ((x0 * 16777216 ||| x1 * 65536) ||| x2 * 256) ||| x3 = x0 * 16777216 + x1 * 65536 + x2 * 256 + x3 := by
  rw [shl_or x0 (x1 * 65536) 16777216 24 rfl (by omega), show x0 * 16777216 + x1 * 65536 = (x0 * 256 + x1) * 65536 by omega, shl_or (x0 * 256 + x1) (x2 * 256) 65536 16 rfl (by omega),
    show (x0 * 256 + x1) * 65536 + x2 * 256 = (x0 * 65536 + x1 * 256 + x2) * 256 by omega, shl_or (x0 * 65536 + x1 * 256 + x2) x3 256 8 rfl h3]
theorem u32_word (x0 x1 x2 x3 : Nat) (h0 : x0 < 256) (h1 : x1 < 256) (h2 : x2 < 256) (h3 : x3 < 256) :
    bits .or .u32 (bits .or .u32 (bits .or .u32 ((x0 : Int) * 16777216) ((x1 : Int) * 65536)) ((x2 : Int) * 256)) (x3 : Int) = ((x0 * 16777216 + x1 * 65536 + x2 * 256 + x3 : Nat) : Int) := by
  have e0 : (x0 : Int) * 16777216 = ((x0 * 16777216 : Nat) : Int) := by omega
  have e1 : (x1 : Int) * 65536 = ((x1 * 65536 : Nat) : Int) := by omega
  have e2 : (x2 : Int) * 256 = ((x2 * 256 : Nat) : Int) := by omega
  have l1 := or_lt (a := x0 * 16777216) (b := x1 * 65536) (by omega) (by omega)
  have l2 := or_lt l1 (b := x2 * 256) (by omega)
  rw [e0, e1, e2, u32_or_nat _ _ (by omega) (by omega), u32_or_nat _ _ l1 (by omega), u32_or_nat _ _ l2 (by omega), word_or x0 x1 x2 x3 h0 h1 h2 h3]
theorem i64_word (x0 x1 x2 x3 : Nat) (h0 : x0 < 256) (h1 : x1 < 256) (h2 : x2 < 256) (h3 : x3 < 256) :
    bits .or .i64 (bits .or .i64 (bits .or .i64 ((x0 : Int) * 16777216) ((x1 : Int) * 65536)) ((x2 : Int) * 256)) (x3 : Int) = ((x0 * 16777216 + x1 * 65536 + x2 * 256 + x3 : Nat) : Int) := by
  have e0 : (x0 : Int) * 16777216 = ((x0 * 16777216 : Nat) : Int) := by omega
  have e1 : (x1 : Int) * 65536 = ((x1 * 65536 : Nat) : Int) := by omega
  have e2 : (x2 : Int) * 256 = ((x2 * 256 : Nat) : Int) := by omega
  have l1 := or_lt (a := x0 * 16777216) (b := x1 * 65536) (by omega) (by omega)
  have l2 := or_lt l1 (b := x2 * 256) (by omega)
  rw [e0, e1, e2, i64_or _ _ (by omega) (by omega), i64_or _ _ (by omega) (by omega), i64_or _ _ (by omega) (by omega), word_or x0 x1 x2 x3 h0 h1 h2 h3]

theorem div8 (x : Nat) : (x : Int) / 8 = ((x / 8 : Nat) : Int) := by omega
theorem div1024 (x : Nat) : (x : Int) / 1024 = ((x / 1024 : Nat) : Int) := by omega
theorem u32_s0 (x : Nat) (h : x < 4294967296) : bits .xor .u32 (bits .xor .u32 ((rotI x 7 : Nat) : Int) ((rotI x 18 : Nat) : Int)) ((x : Int) / 8) = ((s0 x : Nat) : Int) := by
  rw [div8, u32_xor_nat _ _ (rotI_lt _ _) (rotI_lt _ _), u32_xor_nat _ _ (xor_lt (rotI_lt _ _) (rotI_lt _ _)) (by omega)]; rfl
theorem u32_s1 (x : Nat) (h : x < 4294967296) : bits .xor .u32 (bits .xor .u32 ((rotI x 17 : Nat) : Int) ((rotI x 19 : Nat) : Int)) ((x : Int) / 1024) = ((s1 x : Nat) : Int) := by
  rw [div1024, u32_xor_nat _ _ (rotI_lt _ _) (rotI_lt _ _), u32_xor_nat _ _ (xor_lt (rotI_lt _ _) (rotI_lt _ _)) (by omega)]; rfl
theorem i64_s0 (x : Nat) (h : x < 4294967296) : bits .xor .i64 (bits .xor .i64 ((rotI x 7 : Nat) : Int) ((rotI x 18 : Nat) : Int)) ((x : Int) / 8) = ((s0 x : Nat) : Int) := by
  have h1 := rotI_lt x 7
  have h2 := rotI_lt x 18
  have h4 := xor_lt h1 h2
  rw [div8, i64_xor _ _ (by omega) (by omega), i64_xor _ _ (by omega) (by omega)]; rfl
theorem i64_s1 (x : Nat) (h : x < 4294967296) : bits .xor .i64 (bits .xor .i64 ((rotI x 17 : Nat) : Int) ((rotI x 19 : Nat) : Int)) ((x : Int) / 1024) = ((s1 x : Nat) : Int) := by
  have h1 := rotI_lt x 17
  have h2 := rotI_lt x 19
  have h4 := xor_lt h1 h2
  rw [div1024, i64_xor _ _ (by omega) (by omega), i64_xor _ _ (by omega) (by omega)]; rfl
end Go.Proofs.YtifkihjjkomfiaaDoor.Word
