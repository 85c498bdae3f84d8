/-
  What is proved: plain facts on numbers in five parts of 26 bits: carrying, folding what is above 130 bits, products, bytes. Nothing of the program.
-/
import Derived.WalkKit
namespace Go.Proofs.YtcfdnifllehbjaaDoor.Poly
set_option linter.unusedVariables false

/-- 2 to the 130 less 5. -/
abbrev P : Nat := 1361129467683753853853498429727072845819
abbrev T130 : Nat := 1361129467683753853853498429727072845824

/-- The number that five parts are. -/
def val (v : Nat → Nat) : Nat := v 0 + v 1 * 67108864 + v 2 * 4503599627370496 + v 3 * 302231454903657293676544 + v 4 * 20282409603651670423947251286016
/-- What is carried into part k. -/
def ov (v : Nat → Nat) : Nat → Nat
  | 0 => 0
  | k + 1 => (v k + ov v k) / 67108864
def dg (v : Nat → Nat) (k : Nat) : Nat := (v k + ov v k) % 67108864
theorem dg_lt (v : Nat → Nat) (k : Nat) : dg v k < 67108864 := Nat.mod_lt _ (by omega)
theorem dg_ov (v : Nat → Nat) (k : Nat) : v k + ov v k = 67108864 * ov v (k + 1) + dg v k := by
  show _ = 67108864 * ((v k + ov v k) / 67108864) + (v k + ov v k) % 67108864
  omega
theorem val_dg (v : Nat → Nat) : val v = val (dg v) + ov v 5 * 1361129467683753853853498429727072845824 := by
  have h0 := dg_ov v 0
  have h1 := dg_ov v 1
  have h2 := dg_ov v 2
  have h3 := dg_ov v 3
  have h4 := dg_ov v 4
  have z : ov v 0 = 0 := rfl
  unfold val
  generalize dg v = d at *
  generalize ov v = o at *
  simp only [Nat.zero_add, Nat.reduceAdd] at *
  omega
theorem val_lt {v : Nat → Nat} (h : ∀ j, j < 5 → v j < 67108864) : val v < 1361129467683753853853498429727072845824 := by
  have h0 := h 0 (by omega)
  have h1 := h 1 (by omega)
  have h2 := h 2 (by omega)
  have h3 := h 3 (by omega)
  have h4 := h 4 (by omega)
  unfold val
  omega
theorem val_dg_lt (v : Nat → Nat) : val (dg v) < 1361129467683753853853498429727072845824 := val_lt fun j _ => dg_lt v j
theorem val_dg_mod (v : Nat → Nat) : val (dg v) = val v % 1361129467683753853853498429727072845824 := by
  have h1 := val_dg v
  have h2 := val_dg_lt v
  omega
theorem ov5 (v : Nat → Nat) : ov v 5 = val v / 1361129467683753853853498429727072845824 := by
  have h1 := val_dg v
  have h2 := val_dg_lt v
  omega
/-- What is above 130 bits comes back five times. -/
def fo (v : Nat → Nat) (j : Nat) : Nat := if j = 0 then dg v 0 + 5 * ov v 5 else dg v j
theorem fo_zero (v : Nat → Nat) : fo v 0 = dg v 0 + 5 * ov v 5 := rfl
theorem fo_pos (v : Nat → Nat) (j : Nat) (h : 0 < j) : fo v j = dg v j := if_neg (by omega)
theorem val_fo (v : Nat → Nat) : val (fo v) = val (dg v) + 5 * ov v 5 := by
  show (dg v 0 + 5 * ov v 5) + dg v 1 * _ + dg v 2 * _ + dg v 3 * _ + dg v 4 * _ = _
  unfold val
  omega
theorem val_fo_mod (v : Nat → Nat) : val (fo v) % P = val v % P := by
  have h1 := val_dg v
  have h2 := val_fo v
  have h3 : val v = val (fo v) + P * ov v 5 := by unfold P; omega
  rw [h3, Nat.add_mul_mod_self_left]
def Small (v : Nat → Nat) : Prop := ∀ j, j < 5 → v j < 4611686018427387904
theorem ov_lt {v : Nat → Nat} (h : Small v) : ∀ k, k ≤ 5 → ov v k ≤ 137438953472
  | 0, _ => by show 0 ≤ _; omega
  | k + 1, hk => by
    have h1 := h k (by omega)
    have h2 := ov_lt h k (by omega)
    show (v k + ov v k) / 67108864 ≤ _
    omega
theorem fo_small {v : Nat → Nat} (h : Small v) : (∀ j, j < 5 → fo v j < 1099511627776) ∧ val (fo v) < 1361129467683753853853498429727072845824 + 1099511627776 := by
  have h1 := ov_lt h 5 (by omega)
  have h2 := val_fo v
  have h3 := val_dg_lt v
  constructor
  · intro j hj
    by_cases h0 : j = 0
    · subst h0
      have := dg_lt v 0
      rw [fo_zero]
      omega
    · rw [fo_pos v j (by omega)]
      have := dg_lt v j
      omega
  · omega
/-- What a product leaves. -/
structure Half (v : Nat → Nat) : Prop where
  low : v 0 < 67108869
  high : ∀ j, 0 < j → v j < 67108864
  num : val v < 1361129467683753853853498429727072845824
theorem Half.lt {v : Nat → Nat} (h : Half v) (j : Nat) : v j < 67108869 := by
  by_cases h0 : j = 0
  · subst h0; exact h.low
  · have := h.high j (by omega); omega
theorem half_zero : Half fun _ => 0 := ⟨by omega, fun _ _ => by omega, by simp [val]⟩
theorem fo_fo {v : Nat → Nat} (h : Small v) : Half (fo (fo v)) := by
  obtain ⟨h1, h2⟩ := fo_small h
  have h3 := ov5 (fo v)
  have h4 := val_dg (fo v)
  have h5 := val_fo (fo v)
  have h6 := val_dg_lt (fo v)
  have h7 : ov (fo v) 5 ≤ 1 := by omega
  refine ⟨?_, fun j hj => ?_, ?_⟩
  · rw [fo_zero]
    have := dg_lt (fo v) 0
    omega
  · rw [fo_pos _ j hj]
    exact dg_lt _ _
  · omega
theorem fo_half {v : Nat → Nat} (h : Half v) : (∀ j, fo v j = dg v j) ∧ val (fo v) = val v ∧ ov v 5 = 0 := by
  have h1 := ov5 v
  have h2 := h.num
  have h3 : ov v 5 = 0 := by omega
  refine ⟨fun j => ?_, ?_, h3⟩
  · by_cases h0 : j = 0
    · subst h0
      rw [fo_zero, h3, Nat.mul_zero, Nat.add_zero]
    · exact fo_pos v j (by omega)
  · have h4 := val_fo v
    have h5 := val_dg v
    omega
theorem dg_half (v : Nat → Nat) : Half (dg v) := ⟨by have := dg_lt v 0; omega, fun j _ => dg_lt v j, val_dg_lt v⟩
theorem val_congr {v u : Nat → Nat} (h : ∀ j, j < 5 → v j = u j) : val v = val u := by
  unfold val
  rw [h 0 (by omega), h 1 (by omega), h 2 (by omega), h 3 (by omega), h 4 (by omega)]
theorem ov_congr {v u : Nat → Nat} (h : ∀ j, j < 5 → v j = u j) : ∀ k, k ≤ 5 → ov v k = ov u k
  | 0, _ => rfl
  | k + 1, hk => by
    show (v k + ov v k) / _ = (u k + ov u k) / _
    rw [h k (by omega), ov_congr h k (by omega)]
theorem dg_congr {v u : Nat → Nat} (h : ∀ j, j < 5 → v j = u j) (j : Nat) (hj : j < 5) : dg v j = dg u j := by
  show (v j + ov v j) % _ = (u j + ov u j) % _
  rw [h j hj, ov_congr h j (by omega)]
theorem fo_congr {v u : Nat → Nat} (h : ∀ j, j < 5 → v j = u j) (j : Nat) (hj : j < 5) : fo v j = fo u j := by
  unfold fo
  rw [dg_congr h j hj, dg_congr h 0 (by omega), ov_congr h 5 (by omega)]

/-! Products. -/
def pt (a b : Nat → Nat) (n : Nat) : Nat := if 5 ≤ n / 5 + n % 5 then a (n / 5) * b (n % 5) * 5 else a (n / 5) * b (n % 5)
def pa (a b : Nat → Nat) : Nat → Nat → Nat
  | 0, _ => 0
  | n + 1, k => if (n / 5 + n % 5) % 5 = k then pa a b n k + pt a b n else pa a b n k
theorem pt_le {a b : Nat → Nat} (ha : ∀ j, a j < 268435456) (hb : ∀ j, b j < 67108864) (n : Nat) : pt a b n ≤ 90071992547409920 := by
  have h := Nat.mul_le_mul (Nat.le_of_lt (ha (n / 5))) (Nat.le_of_lt (hb (n % 5)))
  unfold pt
  generalize a (n / 5) * b (n % 5) = x at *
  split <;> omega
theorem pa_le {a b : Nat → Nat} (ha : ∀ j, a j < 268435456) (hb : ∀ j, b j < 67108864) : ∀ n k, pa a b n k ≤ n * 90071992547409920
  | 0, _ => by show 0 ≤ _; omega
  | n + 1, k => by
    have h1 := pa_le ha hb n k
    have h2 := pt_le ha hb n
    rw [pa, Nat.succ_mul n 90071992547409920]
    split
    · exact Nat.add_le_add h1 h2
    · exact Nat.le_trans h1 (Nat.le_add_right _ _)
theorem pa_small {a b : Nat → Nat} (ha : ∀ j, a j < 268435456) (hb : ∀ j, b j < 67108864) : Small (pa a b 25) := fun j _ => by
  have := pa_le ha hb 25 j
  omega
theorem pa_val (a b : Nat → Nat) : val a * val b = val (pa a b 25) + P * (a 1 * b 4 + a 2 * b 3 + a 3 * b 2 + a 4 * b 1 + (a 2 * b 4 + a 3 * b 3 + a 4 * b 2) * 67108864 + (a 3 * b 4 + a 4 * b 3) * 4503599627370496 + a 4 * b 4 * 302231454903657293676544) := by
  have e0 : pa a b 25 0 = a 0 * b 0 + a 1 * b 4 * 5 + a 2 * b 3 * 5 + a 3 * b 2 * 5 + a 4 * b 1 * 5 := by simp [pa, pt]
  have e1 : pa a b 25 1 = a 0 * b 1 + a 1 * b 0 + a 2 * b 4 * 5 + a 3 * b 3 * 5 + a 4 * b 2 * 5 := by simp [pa, pt]
  have e2 : pa a b 25 2 = a 0 * b 2 + a 1 * b 1 + a 2 * b 0 + a 3 * b 4 * 5 + a 4 * b 3 * 5 := by simp [pa, pt]
  have e3 : pa a b 25 3 = a 0 * b 3 + a 1 * b 2 + a 2 * b 1 + a 3 * b 0 + a 4 * b 4 * 5 := by simp [pa, pt]
  have e4 : pa a b 25 4 = a 0 * b 4 + a 1 * b 3 + a 2 * b 2 + a 3 * b 1 + a 4 * b 0 := by simp [pa, pt]
  unfold val P
  rw [e0, e1, e2, e3, e4]
  clear e0 e1 e2 e3 e4
  generalize a 0 = a0
  generalize a 1 = a1
  generalize a 2 = a2
  generalize a 3 = a3
  generalize a 4 = a4
  generalize b 0 = b0
  generalize b 1 = b1
  generalize b 2 = b2
  generalize b 3 = b3
  generalize b 4 = b4
  grind
theorem pa_mod (a b : Nat → Nat) : val (pa a b 25) % P = val a * val b % P := by
  rw [pa_val, Nat.add_mul_mod_self_left]
theorem val_add (a b : Nat → Nat) : val (fun j => a j + b j) = val a + val b := by
  simp only [val]
  omega

/-! Bytes, the lowest first. -/
def le (f : Nat → Nat) : Nat → Nat
  | 0 => 0
  | n + 1 => le f n + f n * 256 ^ n
theorem le_lt {f : Nat → Nat} (h : ∀ j, f j < 256) : ∀ n, le f n < 256 ^ n
  | 0 => by show 0 < 1; omega
  | n + 1 => by
    have h1 := le_lt h n
    have h2 := h n
    have h3 : f n * 256 ^ n ≤ 255 * 256 ^ n := Nat.mul_le_mul_right _ (by omega)
    show le f n + f n * 256 ^ n < 256 ^ (n + 1)
    rw [Nat.pow_succ]
    omega
theorem le_congr {f g : Nat → Nat} : ∀ n, (∀ j, j < n → f j = g j) → le f n = le g n
  | 0, _ => rfl
  | n + 1, h => by
    show le f n + f n * _ = le g n + g n * _
    rw [h n (by omega), le_congr n fun j hj => h j (by omega)]
theorem le_zeros {f : Nat → Nat} (m : Nat) (h : ∀ j, m ≤ j → f j = 0) : ∀ d, le f (m + d) = le f m
  | 0 => rfl
  | d + 1 => by
    show le f (m + d) + f (m + d) * _ = _
    rw [h (m + d) (by omega), Nat.zero_mul, Nat.add_zero, le_zeros m h d]
theorem le_digits (F : Nat) : ∀ n, le (fun i => F / 256 ^ i % 256) n = F % 256 ^ n
  | 0 => by show 0 = F % 1; omega
  | n + 1 => by
    show le _ n + F / 256 ^ n % 256 * 256 ^ n = _
    rw [le_digits F n, Nat.mod_pow_succ, Nat.mul_comm]
/-- A byte of what bytes are. -/
theorem le_byte {d : Nat → Nat} (h : ∀ j, d j < 256) (Y : Nat) : ∀ n i, i < n → (le d n + Y * 256 ^ n) / 256 ^ i % 256 = d i := by
  intro n
  induction n generalizing Y with
  | zero => intro i hi; omega
  | succ n ih =>
    intro i hi
    have e : le d (n + 1) + Y * 256 ^ (n + 1) = le d n + (d n + Y * 256) * 256 ^ n := by
      show le d n + d n * 256 ^ n + Y * 256 ^ (n + 1) = _
      rw [Nat.pow_succ, Nat.add_mul, Nat.mul_comm (256 ^ n) 256, ← Nat.mul_assoc]
      omega
    rw [e]
    by_cases h0 : i = n
    · subst h0
      rw [Nat.add_mul_div_right _ _ (Nat.pow_pos (by omega)), Nat.div_eq_of_lt (le_lt h i)]
      have := h i
      omega
    · exact ih _ i (by omega)

/-- The program's way to lay bytes into parts. -/
def raw (f : Nat → Nat) : Nat → Nat → Nat
  | 0, _ => 0
  | i + 1, j => if 8 * i / 26 = j then raw f i j + f i * 2 ^ (8 * i % 26) else raw f i j
theorem cases17 {p : Nat → Prop} (h : p 0 ∧ p 1 ∧ p 2 ∧ p 3 ∧ p 4 ∧ p 5 ∧ p 6 ∧ p 7 ∧ p 8 ∧ p 9 ∧ p 10 ∧ p 11 ∧ p 12 ∧ p 13 ∧ p 14 ∧ p 15 ∧ p 16) (i : Nat) (hi : i < 17) : p i := by
  obtain ⟨h0, h1, h2, h3, h4, h5, h6, h7, h8, h9, h10, h11, h12, h13, h14, h15, h16⟩ := h
  match i, hi with
  | 0, _ => exact h0
  | 1, _ => exact h1
  | 2, _ => exact h2
  | 3, _ => exact h3
  | 4, _ => exact h4
  | 5, _ => exact h5
  | 6, _ => exact h6
  | 7, _ => exact h7
  | 8, _ => exact h8
  | 9, _ => exact h9
  | 10, _ => exact h10
  | 11, _ => exact h11
  | 12, _ => exact h12
  | 13, _ => exact h13
  | 14, _ => exact h14
  | 15, _ => exact h15
  | 16, _ => exact h16
  | k + 17, h => omega
theorem raw_step (g : Nat → Nat) (x i : Nat) (hi : i < 17) : val (fun j => if 8 * i / 26 = j then g j + x * 2 ^ (8 * i % 26) else g j) = val g + x * 256 ^ i := by
  refine cases17 (p := fun i => val (fun j => if 8 * i / 26 = j then g j + x * 2 ^ (8 * i % 26) else g j) = val g + x * 256 ^ i) ?_ i hi
  refine ⟨?_, ?_, ?_, ?_, ?_, ?_, ?_, ?_, ?_, ?_, ?_, ?_, ?_, ?_, ?_, ?_, ?_⟩ <;> (simp [val]; try omega)
theorem raw_val (f : Nat → Nat) : ∀ i, i ≤ 17 → val (raw f i) = le f i
  | 0, _ => by simp [val, raw, le]
  | i + 1, hi => by
    show val (fun j => if 8 * i / 26 = j then raw f i j + f i * 2 ^ (8 * i % 26) else raw f i j) = le f i + f i * 256 ^ i
    rw [raw_step _ _ i (by omega), raw_val f i (by omega)]
theorem pow_le (i : Nat) : 2 ^ (8 * i % 26) ≤ 33554432 := by
  have : 8 * i % 26 ≤ 25 := by omega
  exact Nat.pow_le_pow_right (n := 2) (by omega) this
theorem raw_le {f : Nat → Nat} (h : ∀ j, f j < 256) : ∀ i j, raw f i j ≤ i * 8589934592
  | 0, _ => by show 0 ≤ _; omega
  | i + 1, j => by
    have h1 := raw_le h i j
    have h2 : f i * 2 ^ (8 * i % 26) ≤ 8589934592 := Nat.mul_le_mul (Nat.le_of_lt (h i)) (pow_le i)
    rw [raw, Nat.succ_mul i 8589934592]
    split
    · exact Nat.add_le_add h1 h2
    · exact Nat.le_trans h1 (Nat.le_add_right _ _)
theorem raw_small {f : Nat → Nat} (h : ∀ j, f j < 256) (i : Nat) (hi : i ≤ 17) : Small (raw f i) := fun j _ => by
  have := raw_le h i j
  omega

/-- The model's way. -/
def sp (f : Nat → Nat) : Nat → Nat → Nat
  | 0, _ => 0
  | i + 1, j => if 8 * i / 26 = j then sp f i j + f i * 2 ^ (8 * i % 26) % 67108864 else if 18 < 8 * i % 26 ∧ 8 * i / 26 < 4 ∧ 8 * i / 26 + 1 = j then sp f i j + f i / 2 ^ (26 - 8 * i % 26) else sp f i j
theorem sp_step (g : Nat → Nat) (x i : Nat) (hi : i < 17) (hx : x < 256) (h16 : i = 16 → x < 4) :
    val (fun j => if 8 * i / 26 = j then g j + x * 2 ^ (8 * i % 26) % 67108864 else if 18 < 8 * i % 26 ∧ 8 * i / 26 < 4 ∧ 8 * i / 26 + 1 = j then g j + x / 2 ^ (26 - 8 * i % 26) else g j) = val g + x * 256 ^ i := by
  revert h16
  refine cases17 (p := fun i => (i = 16 → x < 4) → val (fun j => if 8 * i / 26 = j then g j + x * 2 ^ (8 * i % 26) % 67108864 else if 18 < 8 * i % 26 ∧ 8 * i / 26 < 4 ∧ 8 * i / 26 + 1 = j then g j + x / 2 ^ (26 - 8 * i % 26) else g j) = val g + x * 256 ^ i) ?_ i hi
  refine ⟨?_, ?_, ?_, ?_, ?_, ?_, ?_, ?_, ?_, ?_, ?_, ?_, ?_, ?_, ?_, ?_, ?_⟩ <;> (simp [val]; try omega)
theorem sp_val {f : Nat → Nat} (h : ∀ j, f j < 256) (h16 : f 16 < 4) : ∀ i, i ≤ 17 → val (sp f i) = le f i
  | 0, _ => by simp [val, sp, le]
  | i + 1, hi => by
    show val (fun j => if 8 * i / 26 = j then sp f i j + f i * 2 ^ (8 * i % 26) % 67108864 else if 18 < 8 * i % 26 ∧ 8 * i / 26 < 4 ∧ 8 * i / 26 + 1 = j then sp f i j + f i / 2 ^ (26 - 8 * i % 26) else sp f i j) = le f i + f i * 256 ^ i
    rw [sp_step _ _ i (by omega) (h i) (fun e => by rw [e]; exact h16), sp_val h h16 i (by omega)]
theorem sp_le {f : Nat → Nat} (h : ∀ j, f j < 256) : ∀ i j, sp f i j ≤ i * 67108864
  | 0, _ => by show 0 ≤ _; omega
  | i + 1, j => by
    have h1 := sp_le h i j
    have h2 : f i * 2 ^ (8 * i % 26) % 67108864 ≤ 67108864 := Nat.le_of_lt (Nat.mod_lt _ (by omega))
    have h3 : f i / 2 ^ (26 - 8 * i % 26) ≤ 67108864 := Nat.le_trans (Nat.div_le_self _ _) (by have := h i; omega)
    rw [sp, Nat.succ_mul i 67108864]
    split
    · exact Nat.add_le_add h1 h2
    · split
      · exact Nat.add_le_add h1 h3
      · exact Nat.le_trans h1 (Nat.le_add_right _ _)
theorem sp_lt {f : Nat → Nat} (h : ∀ j, f j < 256) (h16 : f 16 < 4) (j : Nat) : sp f 17 j < 67108864 := by
  have h0 := h 0
  have h1 := h 1
  have h2 := h 2
  have h3 := h 3
  have h4 := h 4
  have h5 := h 5
  have h6 := h 6
  have h7 := h 7
  have h8 := h 8
  have h9 := h 9
  have h10 := h 10
  have h11 := h 11
  have h12 := h 12
  have h13 := h 13
  have h14 := h 14
  have h15 := h 15
  by_cases hj : j < 5
  · match j, hj with
    | 0, _ => simp [sp]; omega
    | 1, _ => simp [sp]; omega
    | 2, _ => simp [sp]; omega
    | 3, _ => simp [sp]; omega
    | 4, _ => simp [sp]; omega
  · have n0 : ¬ 0 = j := by omega
    have n1 : ¬ 1 = j := by omega
    have n2 : ¬ 2 = j := by omega
    have n3 : ¬ 3 = j := by omega
    have n4 : ¬ 4 = j := by omega
    simp [sp, n0, n1, n2, n3, n4]

/-! The bytes of a number in five parts below 2 to the 26. -/
theorem byte_or (v : Nat → Nat) (hv : ∀ j, v j < 67108864) (i : Nat) (hi : i < 16) :
    (if 8 * i / 26 + 1 < 5 then v (8 * i / 26) / 2 ^ (8 * i % 26) ||| v (8 * i / 26 + 1) * 2 ^ (26 - 8 * i % 26) else v (8 * i / 26) / 2 ^ (8 * i % 26)) % 256 = val v / 256 ^ i % 256 := by
  have e : ∀ a b k, a < 2 ^ k → a ||| b * 2 ^ k = a + b * 2 ^ k := fun a b k h => by
    rw [Nat.or_comm, Nat.mul_comm, ← Nat.two_pow_add_eq_or_of_lt h, Nat.add_comm]
  have h0 := hv 0
  have h1 := hv 1
  have h2 := hv 2
  have h3 := hv 3
  have h4 := hv 4
  refine cases17 (p := fun i => i < 16 → (if 8 * i / 26 + 1 < 5 then v (8 * i / 26) / 2 ^ (8 * i % 26) ||| v (8 * i / 26 + 1) * 2 ^ (26 - 8 * i % 26) else v (8 * i / 26) / 2 ^ (8 * i % 26)) % 256 = val v / 256 ^ i % 256) ?_ i (by omega) hi
  refine ⟨?_, ?_, ?_, ?_, ?_, ?_, ?_, ?_, ?_, ?_, ?_, ?_, ?_, ?_, ?_, ?_, fun h => absurd h (by omega)⟩
  all_goals
    intro _
    first | rw [if_pos (by omega), e _ _ _ (by simp; omega)] | rw [if_neg (by omega)]
    simp only [val, Nat.reduceMul, Nat.reduceDiv, Nat.reduceMod, Nat.reducePow, Nat.reduceAdd, Nat.reduceSub]
    omega
theorem byte_add (v : Nat → Nat) (hv : ∀ j, v j < 67108864) (i : Nat) (hi : i < 16) :
    (if 18 < 8 * i % 26 then v (8 * i / 26) / 2 ^ (8 * i % 26) + v (8 * i / 26 + 1) * 2 ^ (26 - 8 * i % 26) else v (8 * i / 26) / 2 ^ (8 * i % 26)) % 256 = val v / 256 ^ i % 256 := by
  have h0 := hv 0
  have h1 := hv 1
  have h2 := hv 2
  have h3 := hv 3
  have h4 := hv 4
  refine cases17 (p := fun i => i < 16 → (if 18 < 8 * i % 26 then v (8 * i / 26) / 2 ^ (8 * i % 26) + v (8 * i / 26 + 1) * 2 ^ (26 - 8 * i % 26) else v (8 * i / 26) / 2 ^ (8 * i % 26)) % 256 = val v / 256 ^ i % 256) ?_ i (by omega) hi
  refine ⟨?_, ?_, ?_, ?_, ?_, ?_, ?_, ?_, ?_, ?_, ?_, ?_, ?_, ?_, ?_, ?_, fun h => absurd h (by omega)⟩
  all_goals
    intro _
    first | rw [if_pos (by omega)] | rw [if_neg (by omega)]
    simp only [val, Nat.reduceMul, Nat.reduceDiv, Nat.reduceMod, Nat.reducePow, Nat.reduceAdd, Nat.reduceSub]
    omega

/-! The least number that is the same modulo 2 to the 130 less 5. -/
def p5 (v : Nat → Nat) (j : Nat) : Nat := if j = 0 then v 0 + 5 else v j
theorem p5_val (v : Nat → Nat) : val (p5 v) = val v + 5 := by
  show (v 0 + 5) + v 1 * _ + v 2 * _ + v 3 * _ + v 4 * _ = _
  unfold val
  omega
def rd (v : Nat → Nat) : Nat → Nat := if 0 < ov (p5 v) 5 then dg (p5 v) else v
theorem p5_small {v : Nat → Nat} (h : Half v) : Small (p5 v) := fun j _ => by
  have := h.lt j
  have := h.lt 0
  unfold p5
  split <;> omega
theorem rd_val {v : Nat → Nat} (h : Half v) : val (rd v) = val v % P := by
  have h1 := p5_val v
  have h2 := ov5 (p5 v)
  have h3 := val_dg_mod (p5 v)
  have h4 := h.num
  unfold P
  by_cases hx : val v < 1361129467683753853853498429727072845819
  · have h5 : ov (p5 v) 5 = 0 := by rw [h2]; exact Nat.div_eq_of_lt (by omega)
    unfold rd
    rw [h5, if_neg (by omega), Nat.mod_eq_of_lt hx]
  · have h5 : 0 < ov (p5 v) 5 := by rw [h2]; exact Nat.div_pos (by omega) (by omega)
    unfold rd
    rw [if_pos h5, h3, h1]
    generalize val v = X at *
    clear h1 h2 h3 h5
    have e1 : (X + 5) % 1361129467683753853853498429727072845824 = X + 5 - 1361129467683753853853498429727072845824 := by
      rw [Nat.mod_eq_sub_mod (by omega), Nat.mod_eq_of_lt (by omega)]
    have e2 : X % 1361129467683753853853498429727072845819 = X - 1361129467683753853853498429727072845819 := by
      rw [Nat.mod_eq_sub_mod (by omega), Nat.mod_eq_of_lt (by omega)]
    omega
theorem rd_half {v : Nat → Nat} (h : Half v) : Half (rd v) := by
  unfold rd
  split
  · exact dg_half _
  · exact h
end Go.Proofs.YtcfdnifllehbjaaDoor.Poly
