/-
  What is proved: both ways to turn a word left answer the same word; a quarter round on words of uint32 and one on ints are the plain one (contracts for the walks).
-/
import Derived.Test.YtcfdnifllehbjaaDoorRows
import Derived.Test.YtcfdnifllehbjaaDoorWord
import Derived.WalkKit
import Derived.WalkLawsBesides
import Derived.ProofKit
import Derived.Outline
import Derived.Lib.Hide
import Derived.Below
import Derived.Deep.QuietTactic
import Derived.BigQuiet
import Derived.WalkSpells
namespace Go.Proofs.YtcfdnifllehbjaaDoor.Quarter
open Go.ChangeShapes Go.WideShapes Go.ChangeAt Go.RowKit
open Word
set_option linter.unusedVariables false

theorem ret_int {k : IntKind} {a b : Int} (h : a = b) : Ending.returned (.int k a) = .returned (.int k b) := by rw [h]
/-- A word turned left by n bits. -/
def rl (n : Nat) (x : Nat) : Nat := rot (2 ^ (32 - n)) (2 ^ n) x
theorem rl_lt (n x : Nat) : rl n x < 4294967296 := rot_lt _ _ _
def add (a b : Nat) : Nat := (a + b) % 4294967296
theorem add_lt (a b : Nat) : add a b < 4294967296 := Nat.mod_lt _ (by omega)
theorem addI (a b : Nat) : ((a : Int) + (b : Int)) % 4294967296 = ((add a b : Nat) : Int) := by unfold add; omega
theorem addM (a b : Nat) (ha : a < 4294967296) (hb : b < 4294967296) : bits .and .i64 ((a : Int) + (b : Int)) 4294967295 = ((add a b : Nat) : Int) := by
  have := i64_mask (a + b) (by omega)
  rw [Int.natCast_add] at this
  exact this
theorem xorI (a b : Nat) (ha : a < 4294967296) (hb : b < 4294967296) : bits .xor .u32 (a : Int) (b : Int) = ((a ^^^ b : Nat) : Int) := u32_xor_nat _ _ ha hb
theorem xorM (a b : Nat) (ha : a < 4294967296) (hb : b < 4294967296) : bits .xor .i64 (a : Int) (b : Int) = ((a ^^^ b : Nat) : Int) := i64_xor _ _ (by omega) (by omega)
theorem rl_spec (p q x : Nat) (hx : x < 4294967296) (hq : q ≤ 1073741824) :
    bits .and .i64 (bits .or .i64 ((x : Int) * (q : Nat)) ((x : Int) / (p : Nat))) 4294967295 = ((rot p q x : Nat) : Int) := by
  have h1 : x / p < 4294967296 := Nat.lt_of_le_of_lt (Nat.div_le_self _ _) hx
  have h2 : x * q < 9223372036854775808 := by
    have := Nat.mul_le_mul (Nat.le_of_lt_succ hx : x ≤ 4294967295) hq
    omega
  have h3 : x / p ||| x * q < 2 ^ 63 := Nat.or_lt_two_pow (by omega) h2
  have e1 : (x : Int) / ((p : Nat) : Int) = ((x / p : Nat) : Int) := (Int.natCast_ediv x p).symm
  have e2 : (x : Int) * ((q : Nat) : Int) = ((x * q : Nat) : Int) := (Int.natCast_mul x q).symm
  rw [e1, e2, i64_or _ _ h2 (by omega), Nat.or_comm, i64_mask _ h3]
  rfl

set_option maxHeartbeats 400000 in
theorem spec16 (x : Nat) (hx : x < 4294967296) (w : World) :
    Calls Tryd.prog 85 #[.int .i64 (x : Int), .int .i64 16] w fun e w' => e = .returned (.int .i64 ((rl 16 x : Nat) : Int)) ∧ ∃ n, w' = w.drewN n := by
  have HR := Lib.hid (rl_spec 65536 65536 x hx (by omega))
  have hx2 : (x : Int) < 4294967296 := by omega
  go_enter Tryd.func85, Tryd.ntmps85
  go_wp2
  go_quiet (fail)
  go_wp2
  go_ret
  exact ⟨ret_int HR.out, _, rfl⟩
set_option maxHeartbeats 400000 in
theorem impl16 (x : Nat) (hx : x < 4294967296) (w : World) :
    Calls Tryd.prog 89 #[.int .u32 (x : Int), .int .i64 16] w fun e w' => e = .returned (.int .u32 ((rl 16 x : Nat) : Int)) ∧ ∃ n, w' = w.drewN n := by
  have HR := Lib.hid (rot_impl 65536 65536 x hx)
  have hx2 : (x : Int) < 4294967296 := by omega
  go_enter Tryd.func89, Tryd.ntmps89
  go_wp2
  go_quiet (fail)
  go_wp2
  go_ret
  exact ⟨ret_int HR.out, _, rfl⟩

set_option maxHeartbeats 400000 in
theorem spec12 (x : Nat) (hx : x < 4294967296) (w : World) :
    Calls Tryd.prog 85 #[.int .i64 (x : Int), .int .i64 12] w fun e w' => e = .returned (.int .i64 ((rl 12 x : Nat) : Int)) ∧ ∃ n, w' = w.drewN n := by
  have HR := Lib.hid (rl_spec 1048576 4096 x hx (by omega))
  have hx2 : (x : Int) < 4294967296 := by omega
  go_enter Tryd.func85, Tryd.ntmps85
  go_wp2
  go_quiet (fail)
  go_wp2
  go_ret
  exact ⟨ret_int HR.out, _, rfl⟩
set_option maxHeartbeats 400000 in
theorem impl12 (x : Nat) (hx : x < 4294967296) (w : World) :
    Calls Tryd.prog 89 #[.int .u32 (x : Int), .int .i64 12] w fun e w' => e = .returned (.int .u32 ((rl 12 x : Nat) : Int)) ∧ ∃ n, w' = w.drewN n := by
  have HR := Lib.hid (rot_impl 1048576 4096 x hx)
  have hx2 : (x : Int) < 4294967296 := by omega
  go_enter Tryd.func89, Tryd.ntmps89
  go_wp2
  go_quiet (fail)
  go_wp2
  go_ret
  exact ⟨ret_int HR.out, _, rfl⟩

set_option maxHeartbeats 400000 in
theorem spec8 (x : Nat) (hx : x < 4294967296) (w : World) :
    Calls Tryd.prog 85 #[.int .i64 (x : Int), .int .i64 8] w fun e w' => e = .returned (.int .i64 ((rl 8 x : Nat) : Int)) ∧ ∃ n, w' = w.drewN n := by
  have HR := Lib.hid (rl_spec 16777216 256 x hx (by omega))
  have hx2 : (x : Int) < 4294967296 := by omega
  go_enter Tryd.func85, Tryd.ntmps85
  go_wp2
  go_quiet (fail)
  go_wp2
  go_ret
  exact ⟨ret_int HR.out, _, rfl⟩
set_option maxHeartbeats 400000 in
theorem impl8 (x : Nat) (hx : x < 4294967296) (w : World) :
    Calls Tryd.prog 89 #[.int .u32 (x : Int), .int .i64 8] w fun e w' => e = .returned (.int .u32 ((rl 8 x : Nat) : Int)) ∧ ∃ n, w' = w.drewN n := by
  have HR := Lib.hid (rot_impl 16777216 256 x hx)
  have hx2 : (x : Int) < 4294967296 := by omega
  go_enter Tryd.func89, Tryd.ntmps89
  go_wp2
  go_quiet (fail)
  go_wp2
  go_ret
  exact ⟨ret_int HR.out, _, rfl⟩

set_option maxHeartbeats 400000 in
theorem spec7 (x : Nat) (hx : x < 4294967296) (w : World) :
    Calls Tryd.prog 85 #[.int .i64 (x : Int), .int .i64 7] w fun e w' => e = .returned (.int .i64 ((rl 7 x : Nat) : Int)) ∧ ∃ n, w' = w.drewN n := by
  have HR := Lib.hid (rl_spec 33554432 128 x hx (by omega))
  have hx2 : (x : Int) < 4294967296 := by omega
  go_enter Tryd.func85, Tryd.ntmps85
  go_wp2
  go_quiet (fail)
  go_wp2
  go_ret
  exact ⟨ret_int HR.out, _, rfl⟩
set_option maxHeartbeats 400000 in
theorem impl7 (x : Nat) (hx : x < 4294967296) (w : World) :
    Calls Tryd.prog 89 #[.int .u32 (x : Int), .int .i64 7] w fun e w' => e = .returned (.int .u32 ((rl 7 x : Nat) : Int)) ∧ ∃ n, w' = w.drewN n := by
  have HR := Lib.hid (rot_impl 33554432 128 x hx)
  have hx2 : (x : Int) < 4294967296 := by omega
  go_enter Tryd.func89, Tryd.ntmps89
  go_wp2
  go_quiet (fail)
  go_wp2
  go_ret
  exact ⟨ret_int HR.out, _, rfl⟩

/-- Four words. -/
structure Q4 where
  a : Nat
  b : Nat
  c : Nat
  d : Nat
def Q4.ok (s : Q4) : Prop := s.a < 4294967296 ∧ s.b < 4294967296 ∧ s.c < 4294967296 ∧ s.d < 4294967296
/-- Half a quarter round. -/
def half (n m : Nat) (s : Q4) : Q4 :=
  let a := add s.a s.b
  let d := rl n (s.d ^^^ a)
  let c := add s.c d
  ⟨a, rl m (s.b ^^^ c), c, d⟩
theorem half_ok (n m : Nat) (s : Q4) : (half n m s).ok := ⟨add_lt _ _, rl_lt _ _, add_lt _ _, rl_lt _ _⟩
def qr (s : Q4) : Q4 := half 8 7 (half 16 12 s)
theorem qr_ok (s : Q4) : (qr s).ok := half_ok _ _ _
def agg4 (k : IntKind) (s : Q4) : Value := .agg #[.int k (s.a : Int), .int k (s.b : Int), .int k (s.c : Int), .int k (s.d : Int)]

set_option maxHeartbeats 1600000 in
theorem half16 (s : Q4) (hs : s.ok) (w : World) :
    Calls Tryd.prog 86 #[agg4 .u32 s, .int .i64 16, .int .i64 12] w fun e' w' => e' = .returned (agg4 .u32 (half 16 12 s)) ∧ Below w.heap.size w w' := by
  obtain ⟨a, b, c, d⟩ := s
  obtain ⟨ha, hb, hc, hd⟩ := hs
  unfold agg4
  simp only at ha hb hc hd ⊢
  go_enter Tryd.func86, Tryd.ntmps86
  go_wp2
  go_quiet (fail)
  go_wp2_with fail
  rw [addI, xorI _ _ hd (add_lt _ _)]
  refine (impl16 _ (xor_lt hd (add_lt _ _)) _).mono ?_
  rintro e' w' ⟨rfl, m1, rfl⟩
  go_wp2_with fail
  rw [addI, xorI _ _ hb (add_lt _ _)]
  refine (impl12 _ (xor_lt hb (add_lt _ _)) _).mono ?_
  rintro e' w' ⟨rfl, m2, rfl⟩
  go_wp2
  refine bodyPost_ret (v := agg4 .u32 (half 16 12 ⟨a, b, c, d⟩)) (by simp [results, Tryd.results86, go_sem, agg4, half]) rfl ⟨by simp [agg4], ?_⟩
  iterate 4 refine Below.setCell ?_ (by exact Nat.le_succ _) _
  exact below_drewN (((Below.refl _ _).alloc (Nat.le_refl _) _).alloc (by simp) _) _

set_option maxHeartbeats 1600000 in
theorem half8 (s : Q4) (hs : s.ok) (w : World) :
    Calls Tryd.prog 86 #[agg4 .u32 s, .int .i64 8, .int .i64 7] w fun e' w' => e' = .returned (agg4 .u32 (half 8 7 s)) ∧ Below w.heap.size w w' := by
  obtain ⟨a, b, c, d⟩ := s
  obtain ⟨ha, hb, hc, hd⟩ := hs
  unfold agg4
  simp only at ha hb hc hd ⊢
  go_enter Tryd.func86, Tryd.ntmps86
  go_wp2
  go_quiet (fail)
  go_wp2_with fail
  rw [addI, xorI _ _ hd (add_lt _ _)]
  refine (impl8 _ (xor_lt hd (add_lt _ _)) _).mono ?_
  rintro e' w' ⟨rfl, m1, rfl⟩
  go_wp2_with fail
  rw [addI, xorI _ _ hb (add_lt _ _)]
  refine (impl7 _ (xor_lt hb (add_lt _ _)) _).mono ?_
  rintro e' w' ⟨rfl, m2, rfl⟩
  go_wp2
  refine bodyPost_ret (v := agg4 .u32 (half 8 7 ⟨a, b, c, d⟩)) (by simp [results, Tryd.results86, go_sem, agg4, half]) rfl ⟨by simp [agg4], ?_⟩
  iterate 4 refine Below.setCell ?_ (by exact Nat.le_succ _) _
  exact below_drewN (((Below.refl _ _).alloc (Nat.le_refl _) _).alloc (by simp) _) _

theorem bcell {W w1 : World} (hb : Below W.heap.size W w1) : (∀ b o, b < W.heap.size → w1.cell? ⟨b, o, none⟩ = W.cell? ⟨b, o, none⟩) ∧ (∀ b o, b < W.heap.size → w1.frozen? ⟨b, o, none⟩ = W.frozen? ⟨b, o, none⟩) :=
  ⟨fun b o h => hb.cell (p := ⟨b, o, none⟩) h, fun b o h => hb.frozen (p := ⟨b, o, none⟩) h⟩

set_option maxHeartbeats 1600000 in
/-- The program's quarter round. -/
theorem quarter (s : Q4) (hs : s.ok) (w : World) :
    Calls Tryd.prog 79 #[agg4 .u32 s] w fun e' w' => e' = .returned (agg4 .u32 (qr s)) ∧ Below w.heap.size w w' := by
  have HQ := Lib.hid (show half 8 7 (half 16 12 s) = qr s from rfl)
  have HH := Lib.hid (half_ok 16 12 s)
  have HS := Lib.hid (half16 s hs)
  clear hs
  unfold agg4 at HS ⊢
  go_enter Tryd.func79, Tryd.ntmps79
  go_wp2_with fail
  refine (HS.out _).mono ?_
  rintro e' w1 ⟨rfl, hb⟩
  obtain ⟨hc, hf⟩ := bcell hb
  have hz := hb.size
  have HB := Lib.hid hb
  simp only [World.size_alloc] at hc hf hz
  clear hb
  generalize half 16 12 s = s1 at *
  go_wp2_with fail
  refine (half8 s1 HH.out _).mono ?_
  rw [HQ.out]
  rintro e' w2 ⟨rfl, hb⟩
  obtain ⟨hc2, hf2⟩ := bcell hb
  have hz2 := hb.size
  have HB2 := Lib.hid hb
  clear hb
  unfold agg4
  have l1 : w.heap.size < w1.heap.size := by omega
  have l2 : w.heap.size + 1 < w1.heap.size := by omega
  go_wp2
  refine bodyPost_ret (v := agg4 .u32 (qr s)) (by simp [results, Tryd.results79, go_sem, agg4, hc2, hc, l2]) rfl ⟨rfl, ?_⟩
  iterate 4 refine Below.setCell ?_ (by exact Nat.le_succ _) _
  exact ((((Below.refl _ _).alloc (Nat.le_refl _) _).alloc (by simp) _).trans (HB.out.mono (by simp; omega))).trans (HB2.out.mono (by omega))

set_option maxHeartbeats 1600000 in
/-- The model's quarter round. -/
theorem quarterM (s : Q4) (hs : s.ok) (w : World) :
    Calls Tryd.prog 78 #[.int .i64 (s.a : Int), .int .i64 (s.b : Int), .int .i64 (s.c : Int), .int .i64 (s.d : Int)] w fun e' w' => e' = .returned (agg4 .i64 (qr s)) ∧ Below w.heap.size w w' := by
  obtain ⟨a, b, c, d⟩ := s
  obtain ⟨ha, hb, hc, hd⟩ := hs
  have HQ := Lib.hid (show half 8 7 (half 16 12 ⟨a, b, c, d⟩) = qr ⟨a, b, c, d⟩ from rfl)
  simp only at ha hb hc hd ⊢
  go_enter Tryd.func78, Tryd.ntmps78

  go_wp2_with fail
  rw [addM _ _ ha hb]
  obtain ⟨a0, ea0, ha0⟩ : ∃ x, add a b = x ∧ x < 4294967296 := ⟨_, rfl, add_lt _ _⟩
  rw [ea0, xorM _ _ hd ha0]
  have Ea0 := Lib.hid ea0
  clear ea0
  refine (spec16 _ (xor_lt hd ha0) _).mono ?_
  rintro e' w' ⟨rfl, m0, rfl⟩
  obtain ⟨d0, ed0, hd0⟩ : ∃ x, rl 16 (d ^^^ a0) = x ∧ x < 4294967296 := ⟨_, rfl, rl_lt _ _⟩
  rw [ed0]
  have Ed0 := Lib.hid ed0
  clear ed0
  go_wp2_with fail
  rw [addM _ _ hc hd0]
  obtain ⟨c1, ec1, hc1⟩ : ∃ x, add c d0 = x ∧ x < 4294967296 := ⟨_, rfl, add_lt _ _⟩
  rw [ec1, xorM _ _ hb hc1]
  have Ec1 := Lib.hid ec1
  clear ec1
  refine (spec12 _ (xor_lt hb hc1) _).mono ?_
  rintro e' w' ⟨rfl, m1, rfl⟩
  obtain ⟨b1, eb1, hb1⟩ : ∃ x, rl 12 (b ^^^ c1) = x ∧ x < 4294967296 := ⟨_, rfl, rl_lt _ _⟩
  rw [eb1]
  have Eb1 := Lib.hid eb1
  clear eb1
  go_wp2_with fail
  rw [addM _ _ ha0 hb1]
  obtain ⟨a2, ea2, ha2⟩ : ∃ x, add a0 b1 = x ∧ x < 4294967296 := ⟨_, rfl, add_lt _ _⟩
  rw [ea2, xorM _ _ hd0 ha2]
  have Ea2 := Lib.hid ea2
  clear ea2
  refine (spec8 _ (xor_lt hd0 ha2) _).mono ?_
  rintro e' w' ⟨rfl, m2, rfl⟩
  obtain ⟨d2, ed2, hd2⟩ : ∃ x, rl 8 (d0 ^^^ a2) = x ∧ x < 4294967296 := ⟨_, rfl, rl_lt _ _⟩
  rw [ed2]
  have Ed2 := Lib.hid ed2
  clear ed2
  go_wp2_with fail
  rw [addM _ _ hc1 hd2]
  obtain ⟨c3, ec3, hc3⟩ : ∃ x, add c1 d2 = x ∧ x < 4294967296 := ⟨_, rfl, add_lt _ _⟩
  rw [ec3, xorM _ _ hb1 hc3]
  have Ec3 := Lib.hid ec3
  clear ec3
  refine (spec7 _ (xor_lt hb1 hc3) _).mono ?_
  rintro e' w' ⟨rfl, m3, rfl⟩
  obtain ⟨b3, eb3, hb3⟩ : ∃ x, rl 7 (b1 ^^^ c3) = x ∧ x < 4294967296 := ⟨_, rfl, rl_lt _ _⟩
  rw [eb3]
  have Eb3 := Lib.hid eb3
  clear eb3
  go_wp2
  have HF : half 8 7 (half 16 12 ⟨a, b, c, d⟩) = ⟨a2, b3, c3, d2⟩ := by simp only [half, Ea0.out, Ed0.out, Ec1.out, Eb1.out, Ea2.out, Ed2.out, Ec3.out, Eb3.out]
  rw [← HQ.out, HF]
  refine bodyPost_ret (v := agg4 .i64 ⟨a2, b3, c3, d2⟩) (by simp [results, Tryd.results78, go_sem, agg4]) rfl ⟨rfl, ?_⟩
  iterate 4 refine Below.setCell ?_ (by exact Nat.le_refl _) _
  exact below_drewN ((Below.refl _ _).alloc (Nat.le_refl _) _) _
end Go.Proofs.YtcfdnifllehbjaaDoor.Quarter