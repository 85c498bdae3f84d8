/-
  What is proved: the source of choices (a pointer to a code, a place and a seed) answers numbers within their bounds and writes into its own block alone; the texts that are drawn from it have at most 199 bytes (contracts for the walks of laws that draw).
-/
import Derived.Test.YtodhfpnfbdkefaaRows
import Derived.Test.YtodhfpnfbdkefaaBytes
import Derived.Lib.BufferOwn
import Derived.OpenShut
import Derived.StillTailTactics
namespace Go.Proofs.Ytodhfpnfbdkefaa.Src
open Go.ChangeShapes Go.WideShapes Go.ChangeAt Go.RowKit
open Bytes (BV Owns)
set_option linter.unusedVariables false

/-- A source in block b: its code, its place, its seed. -/
structure Is (w : World) (b : Nat) (a0 : Option Addr) (len cap : Nat) (pl seed : Int) : Prop where
  c0 : w.cell? ⟨b, 0, none⟩ = some (.slice a0 len cap)
  c1 : w.cell? ⟨b, 1, none⟩ = some (.int .i64 pl)
  c2 : w.cell? ⟨b, 2, none⟩ = some (.int .i64 seed)
  f1 : w.frozen? ⟨b, 1, none⟩ = false
  f2 : w.frozen? ⟨b, 2, none⟩ = false
  p0 : 0 ≤ pl
  s0 : 0 ≤ seed
  s1 : seed < 2147483648
  hl : len ≤ maxLen
  code : ∀ i, i < len → ∃ bb off z, a0 = some ⟨bb, off, none⟩ ∧ bb ≠ b ∧ 0 ≤ z ∧ z < 256 ∧ w.cell? ⟨bb, off + i, none⟩ = some (.int .u8 z)

theorem cell_lt {w : World} {a : Addr} {v : Value} (h : w.cell? a = some v) : a.block < w.heap.size := World.block_lt_of_cell? w _ h

theorem Is.set1 {w : World} {b : Nat} {a0 : Option Addr} {len cap : Nat} {pl seed : Int} (h : Is w b a0 len cap pl seed) (pl' : Int) (hp : 0 ≤ pl') :
    Is (w.setCell ⟨b, 1, none⟩ (.int .i64 pl')) b a0 len cap pl' seed := by
  obtain ⟨c0, c1, c2, f1, f2, p0, s0, s1, hl, code⟩ := h
  refine ⟨by go_simp, by go_simp, by go_simp, by go_simp, by go_simp, hp, s0, s1, hl, fun i hi => ?_⟩
  obtain ⟨bb, off, z, rfl, hne, z0, z1, hz⟩ := code i hi
  exact ⟨bb, off, z, rfl, hne, z0, z1, by clear code; go_simp⟩
theorem Is.set2 {w : World} {b : Nat} {a0 : Option Addr} {len cap : Nat} {pl seed : Int} (h : Is w b a0 len cap pl seed) (sd : Int) (h0 : 0 ≤ sd) (h1 : sd < 2147483648) :
    Is (w.setCell ⟨b, 2, none⟩ (.int .i64 sd)) b a0 len cap pl sd := by
  obtain ⟨c0, c1, c2, f1, f2, p0, s0, s1, hl, code⟩ := h
  refine ⟨by go_simp, by go_simp, by go_simp, by go_simp, by go_simp, p0, h0, h1, hl, fun i hi => ?_⟩
  obtain ⟨bb, off, z, rfl, hne, z0, z1, hz⟩ := code i hi
  exact ⟨bb, off, z, rfl, hne, z0, z1, by clear code; go_simp⟩
theorem Is.drewN {w : World} {b : Nat} {a0 : Option Addr} {len cap : Nat} {pl seed : Int} (h : Is w b a0 len cap pl seed) (n : Nat) : Is (w.drewN n) b a0 len cap pl seed :=
  ⟨h.c0, h.c1, h.c2, h.f1, h.f2, h.p0, h.s0, h.s1, h.hl, h.code⟩
theorem Is.drew {w : World} {b : Nat} {a0 : Option Addr} {len cap : Nat} {pl seed : Int} (h : Is w b a0 len cap pl seed) : Is w.drew b a0 len cap pl seed :=
  ⟨h.c0, h.c1, h.c2, h.f1, h.f2, h.p0, h.s0, h.s1, h.hl, h.code⟩
/-- Where another block alone has turned the source is as it was. -/
theorem Is.far {w w' : World} {b : Nat} {a0 : Option Addr} {len cap : Nat} {pl seed : Int} {row : Option Nat} (h : Is w b a0 len cap pl seed) (hg : w.grownBy w' row) (hr : ∀ k, row = some k → k ≠ b ∧ (0 < len → ∀ bb off, a0 = some ⟨bb, off, none⟩ → k ≠ bb)) :
    Is w' b a0 len cap pl seed := by
  have hb : some b ≠ row := fun e => (hr b e.symm).1 rfl
  have hlt := cell_lt h.c1
  refine ⟨(hg.cell_far ⟨b, 0, none⟩ hlt hb).trans h.c0, (hg.cell_far ⟨b, 1, none⟩ hlt hb).trans h.c1, (hg.cell_far ⟨b, 2, none⟩ hlt hb).trans h.c2, (hg.frozen_far ⟨b, 1, none⟩ hlt hb).trans h.f1, (hg.frozen_far ⟨b, 2, none⟩ hlt hb).trans h.f2, h.p0, h.s0, h.s1, h.hl, fun i hi => ?_⟩
  obtain ⟨bb, off, z, e, hne, z0, z1, hz⟩ := h.code i hi
  exact ⟨bb, off, z, e, hne, z0, z1, (hg.cell_far _ (cell_lt hz) (fun e2 => (hr bb e2.symm).2 (by omega) bb off e rfl)).trans hz⟩
theorem grown_drewN {w w' : World} {row : Option Nat} (h : w.grownBy w' row) (n : Nat) : w.grownBy (w'.drewN n) row := ⟨h.os, h.tape, h.output, h.size, h.block⟩
theorem grown_drew {w w' : World} {row : Option Nat} (h : w.grownBy w' row) : w.grownBy w'.drew row := ⟨h.os, h.tape, h.output, h.size, h.block⟩
theorem grown_set {w w' : World} {b : Nat} (h : w.grownBy w' (some b)) (i : Nat) (v : Value) : w.grownBy (w'.setCell ⟨b, i, none⟩ v) (some b) := Lib.grownBy_setB h i v

theorem grown_then {w w1 w2 : World} {row row' : Option Nat} (h : w.grownBy w1 row) (k : w1.grownBy w2 row') (hr : ∀ j, row' = some j → w.heap.size ≤ j ∨ row = row') : w.grownBy w2 row :=
  ⟨k.os.trans h.os, k.tape.trans h.tape, k.output.trans h.output, Nat.le_trans h.size k.size, fun i hi hne => (k.block i (Nat.lt_of_lt_of_le hi h.size) (fun e => by
    rcases hr i e.symm with h1 | h1
    · omega
    · exact hne (e.trans h1.symm))).trans (h.block i hi hne)⟩

/-- What an answer below m leaves: the source, at most n places further; nothing else written. -/
def Post (w : World) (b : Nat) (a0 : Option Addr) (len cap : Nat) (pl m n : Int) (e : Ending) (w' : World) : Prop :=
  ∃ r pl' seed', e = .returned (.int .i64 r) ∧ 0 ≤ r ∧ r < m ∧ Is w' b a0 len cap pl' seed' ∧ pl' ≤ pl + n ∧ w.grownBy w' (some b)

set_option maxRecDepth 100000 in
set_option maxHeartbeats 1600000 in
theorem byte (w : World) (b : Nat) (a0 : Option Addr) (len cap : Nat) (pl seed : Int) (h : Is w b a0 len cap pl seed) (hp : pl ≤ 1000000) :
    Calls Try.prog 98 #[.pointer (some ⟨b, 0, none⟩)] w (Post w b a0 len cap pl 256 1) := by
  have HI := Lib.hid (h.set1 (pl + 1) (by have := h.p0; omega))
  have HG := Lib.hid (grown_set (World.grownBy.refl w (some b)) 1 (.int .i64 (pl + 1)))
  obtain ⟨c0, c1, c2, f1, f2, p0, s0, s1, hl, code⟩ := h
  have HC := Lib.hid code
  clear code
  unfold maxLen at hl
  obtain ⟨i, rfl⟩ := Int.eq_ofNat_of_zero_le p0
  by_cases hlt : i < len
  · obtain ⟨bb, off, z, rfl, hne, z0, z1, hz⟩ := HC.out i hlt
    have i1 : (i : Int) < (len : Int) := by omega
    have d3 : (w.setCell ⟨b, 1, none⟩ (.int .i64 ((i : Int) + 1))).cell? ⟨bb, off + i, none⟩ = some (.int .u8 z) := by go_simp
    go_enter Try.func98, Try.ntmps98
    go_wp2
    clear c0 c1 c2 f1 f2 hz HC
    generalize w.setCell ⟨b, 1, none⟩ (.int .i64 ((i : Int) + 1)) = W1 at *
    generalize hn : ((i : Int) + 1) = n at *
    have n1 : 1 ≤ n := by omega
    have n2 : n ≤ (len : Int) := by omega
    have e1 : IntKind.i64.wrap (i : Int) = i := by rw [IntKind.wrap_i64]; omega
    have e2 : n - 1 = i := by omega
    have HN := Lib.hid hn
    clear hn
    have d0 := HI.out.c0
    have d1 := HI.out.c1
    have d2 := HI.out.c2
    have d4 := HI.out.f2
    go_quiet (fail)
    go_wp2
    have D0 : (W1.drewN nq).cell? ⟨b, 0, none⟩ = some (.slice (some ⟨bb, off, none⟩) len cap) := d0
    have D1 : (W1.drewN nq).cell? ⟨b, 1, none⟩ = some (.int .i64 n) := d1
    have D2 : (W1.drewN nq).cell? ⟨b, 2, none⟩ = some (.int .i64 seed) := d2
    have D3 : (W1.drewN nq).cell? ⟨bb, off + i, none⟩ = some (.int .u8 z) := d3
    have D4 : (W1.drewN nq).frozen? ⟨b, 2, none⟩ = false := d4
    have HI2 := Lib.hid (HI.out.drewN nq)
    have HG2 := Lib.hid (grown_drewN HG.out nq)
    clear HI HG d0 d1 d2 d3 d4
    generalize W1.drewN nq = W2 at *
    have q0 : ∀ k, (World.mk W2.heap W2.tape k W2.os W2.output).cell? ⟨b, 0, none⟩ = some (.slice (some ⟨bb, off, none⟩) len cap) := fun _ => D0
    have q1 : ∀ k, (World.mk W2.heap W2.tape k W2.os W2.output).cell? ⟨b, 1, none⟩ = some (.int .i64 n) := fun _ => D1
    have q2 : ∀ k, (World.mk W2.heap W2.tape k W2.os W2.output).cell? ⟨b, 2, none⟩ = some (.int .i64 seed) := fun _ => D2
    have q3 : ∀ k, (World.mk W2.heap W2.tape k W2.os W2.output).cell? ⟨bb, off + i, none⟩ = some (.int .u8 z) := fun _ => D3
    go_still_tail 23, (by kernel_rfl)
    clear q0 q1 q2 q3
    change wpList _ _ _ _ _ W2.drew
    go_wp2
    go_quiet (fail)
    go_wp2
    go_ret
    refine ⟨z, n, (seed * 31 + z + 7) % 2147483648, ?_, z0, z1, ?_, by have := HN.out; omega, ?_⟩
    · simp
    · exact ((HI2.out.set2 _ (by omega) (by omega)).drew).drewN _
    · exact grown_drewN (grown_drew (grown_set HG2.out 2 _)) _
  · have hge : decide ((i : Int) + 1 ≤ (len : Int)) = false := decide_eq_false (by omega)
    by_cases h3 : 3000 < (i : Int) + 1
    · go_enter Try.func98, Try.ntmps98
      go_wp2
      go_quiet (fail)
      go_wp2
      go_ret
      refine ⟨0, (i : Int) + 1, seed, rfl, by omega, by omega, HI.out.drewN _, by omega, grown_drewN HG.out _⟩
    · have d3 : decide (3000 < (i : Int) + 1) = false := decide_eq_false h3
      go_enter Try.func98, Try.ntmps98
      go_wp2
      go_quiet (fail)
      go_wp2
      go_ret
      refine ⟨(seed * 1103515245 + 12345) % 2147483648 / 65536 % 256, (i : Int) + 1, (seed * 1103515245 + 12345) % 2147483648, ?_, by omega, by omega, ?_, by omega, ?_⟩
      · simp
      · exact (HI.out.drewN _).set2 _ (by omega) (by omega)
      · exact grown_set (grown_drewN HG.out _) 2 _

set_option maxHeartbeats 400000 in
theorem next (n : Int) (n1 : 1 < n) (n2 : n ≤ 256) (w : World) (b : Nat) (a0 : Option Addr) (len cap : Nat) (pl seed : Int) (h : Is w b a0 len cap pl seed) (hp : pl ≤ 1000000) :
    Calls Try.prog 84 #[.pointer (some ⟨b, 0, none⟩), .int .i64 n] w (Post w b a0 len cap pl n 1) := by
  have HI := Lib.hid h
  clear h
  go_enter Try.func84, Try.ntmps84
  go_wp2_with fail
  refine (byte _ _ _ _ _ _ _ HI.out hp).mono ?_
  rintro e w1 ⟨r, pl', seed', rfl, r0, r1, hi, hpl, hg⟩
  have HI1 := Lib.hid hi
  have HG := Lib.hid hg
  clear hi hg
  go_wp2
  go_ret
  refine ⟨r % n, pl', seed', ?_, Int.emod_nonneg _ (by omega), Int.emod_lt_of_pos _ (by omega), HI1.out, hpl, HG.out⟩
  simp

/-- What a text that is drawn leaves. -/
def TextPost (w : World) (b : Nat) (a0 : Option Addr) (len cap : Nat) (pl : Int) (lo hi : Nat) (n : Int) (e : Ending) (w' : World) : Prop :=
  ∃ (bs : List UInt8) (pl' seed' : Int), e = .returned (.string ⟨bs.toArray⟩) ∧ lo ≤ bs.length ∧ bs.length ≤ hi ∧ Is w' b a0 len cap pl' seed' ∧ pl' ≤ pl + n ∧ w.grownBy w' (some b)

/-- What the walk is told of a slice of integers that came in. -/
def IsRow (k : IntKind) (w : World) (a : Option Addr) (len cap : Nat) (zs : List Int) : Prop :=
  (a = none ∧ len = 0 ∧ cap = 0 ∧ zs = []) ∨
  ∃ x, a = some x ∧ len ≤ cap ∧ cap ≤ maxLen ∧ zs.length = cap ∧ (∀ i, i < zs.length → w.cell? (x.add i) = some (.int k (zs.getD i 0))) ∧ ∀ n ∈ zs, (Lit.int k n).wf = true

theorem IsRow.code {w : World} {a : Option Addr} {len cap : Nat} {zs : List Int} (h : IsRow .u8 w a len cap zs) :
    len ≤ maxLen ∧ ∀ i, i < len → ∃ bb off z, a = some ⟨bb, off, none⟩ ∧ 0 ≤ z ∧ z < 256 ∧ w.cell? ⟨bb, off + i, none⟩ = some (.int .u8 z) := by
  rcases h with ⟨rfl, rfl, rfl, rfl⟩ | ⟨x, rfl, h1, h2, h3, h4, h5⟩
  · exact ⟨by unfold maxLen; omega, fun i hi => by omega⟩
  · refine ⟨by omega, fun i hi => ?_⟩
    obtain ⟨b, off, rfl, hc⟩ := ints_at h4 (by omega)
    have hz := h5 (zs.getD i 0) (by simp [List.getD_eq_getElem?_getD, List.getElem?_eq_getElem (show i < zs.length by omega)])
    have hb := bounds_u8 hz
    exact ⟨b, off, zs.getD i 0, rfl, hb.1, by omega, hc i (by omega)⟩

/-- A source that is made of a code that came in. -/
theorem source (w : World) (a : Option Addr) (len cap : Nat) (zs : List Int) (h : IsRow .u8 w a len cap zs) :
    Calls Try.prog 42 #[.slice a len cap] w fun e w' => e = .returned (.pointer (some ⟨w.heap.size, 0, none⟩)) ∧ Hid (Is w' w.heap.size a len cap 0 ((len : Int) % 1000) ∧ Below w.heap.size w w' ∧ w.heap.size < w'.heap.size) := by
  obtain ⟨hl, hcode⟩ := h.code
  have HC := Lib.hid hcode
  clear hcode
  have hl2 := hl
  unfold maxLen at hl2
  go_enter Try.func42, Try.ntmps42
  go_wp2
  go_ret
  refine ⟨rfl, Lib.hid ⟨⟨by go_simp, by go_simp, by go_simp, by go_simp, by go_simp, by omega, by omega, by omega, hl, fun i hi => ?_⟩, (Below.refl _ _).alloc (Nat.le_refl _) _, by simp⟩⟩
  obtain ⟨bb, off, z, e, z0, z1, hz⟩ := HC.out i hi
  have hb := cell_lt hz
  have hb2 : bb < w.heap.size := hb
  exact ⟨bb, off, z, e, by omega, z0, z1, by rw [World.cell?_alloc_old _ _ _ (by exact Nat.ne_of_lt hb2)]; exact hz⟩

/-- What a text that is drawn from a code is. -/
def Drawn (w : World) (hi : Nat) (e : Ending) (w' : World) : Prop := ∃ bs : List UInt8, e = .returned (.string ⟨bs.toArray⟩) ∧ bs.length ≤ hi ∧ Below w.heap.size w w'

end Go.Proofs.Ytodhfpnfbdkefaa.Src
