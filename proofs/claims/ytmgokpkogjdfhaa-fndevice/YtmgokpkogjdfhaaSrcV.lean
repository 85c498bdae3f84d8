/-
  What is proved: the bytes that a source answers are a plain function of its code, its place and its seed; so are the fates that are drawn out of a code (contracts for the walks of laws that draw the same twice).
-/
import Derived.Test.YtmgokpkogjdfhaaRows
import Derived.Test.YtmgokpkogjdfhaaSrc
import Derived.Test.YtmgokpkogjdfhaaDraw
import Derived.Lib.BufferOwn
import Derived.OpenShut
import Derived.StillTailTactics
namespace Go.Proofs.Ytmgokpkogjdfhaa.SrcV
open Go.ChangeShapes Go.WideShapes Go.ChangeAt Go.RowKit
open Sl (Sl Own Off)
open OpenSl (tc nc pc)
open Dev Cop Copied
open Src
set_option linter.unusedVariables false

/-- The code's bytes, as they came in. -/
def Cs (w : World) (a0 : Option Addr) (len : Nat) (zs : List Int) : Prop := ∀ i, i < len → ∀ bb off, a0 = some ⟨bb, off, none⟩ → w.cell? ⟨bb, off + i, none⟩ = some (.int .u8 (zs.getD i 0))
/-- One byte and the seed behind it. -/
def bv (zs : List Int) (len : Nat) (pl seed : Int) : Int × Int :=
  if pl < len then (zs.getD pl.toNat 0, (seed * 31 + zs.getD pl.toNat 0 + 7) % 2147483648)
  else if 3000 < pl + 1 then (0, seed)
  else ((seed * 1103515245 + 12345) % 2147483648 / 65536 % 256, (seed * 1103515245 + 12345) % 2147483648)
def PostV (w : World) (b : Nat) (a0 : Option Addr) (len cap : Nat) (pl : Int) (zs : List Int) (r sd : Int) (e : Ending) (w' : World) : Prop :=
  e = .returned (.int .i64 r) ∧ 0 ≤ r ∧ r < 256 ∧ Is w' b a0 len cap (pl + 1) sd ∧ Cs w' a0 len zs ∧ w.grownBy w' (some b)
theorem Cs.far {w w' : World} {b : Nat} {a0 : Option Addr} {len cap : Nat} {pl seed : Int} {zs : List Int} {row : Option Nat} (h : Is w b a0 len cap pl seed) (hc : Cs w a0 len zs) (hg : w.grownBy w' row) (hr : ∀ k, row = some k → k = b ∨ (0 < len → ∀ bb off, a0 = some ⟨bb, off, none⟩ → k ≠ bb)) : Cs w' a0 len zs := by
  intro i hi bb off e
  have hz := hc i hi bb off e
  refine (hg.cell_far ⟨bb, off + i, none⟩ (cell_lt hz) (fun e2 => ?_)).trans hz
  rcases hr bb e2.symm with h1 | h1
  · obtain ⟨bb2, off2, z, e3, hne, _⟩ := h.code i hi
    rw [e] at e3
    simp at e3
    first | done | exact hne (e3.1 ▸ h1)
  · exact h1 (by omega) bb off e rfl
theorem post_of {w w' : World} {b : Nat} {a0 : Option Addr} {len cap : Nat} {pl seed r sd : Int} {zs : List Int} {e : Ending} (h : Is w b a0 len cap pl seed) (hc : Cs w a0 len zs) (he : e = .returned (.int .i64 r)) (h0 : 0 ≤ r) (h1 : r < 256) (hi : Is w' b a0 len cap (pl + 1) sd) (hg : w.grownBy w' (some b)) : PostV w b a0 len cap pl zs r sd e w' :=
  ⟨he, h0, h1, hi, hc.far h hg (fun k hk => by cases hk; exact .inl rfl), hg⟩
theorem bv_code {w : World} {bb off len i : Nat} {zs : List Int} {z : Int} (hc : Cs w (some ⟨bb, off, none⟩) len zs) (hi : i < len) (hz : w.cell? ⟨bb, off + i, none⟩ = some (.int .u8 z)) (seed : Int) : bv zs len (i : Int) seed = (z, (seed * 31 + z + 7) % 2147483648) := by
  have h := hc i hi bb off rfl
  rw [hz] at h
  have e : z = zs.getD i 0 := by injection h with h; injection h
  unfold bv
  rw [if_pos (show (i : Int) < (len : Int) by omega), Int.toNat_natCast, ← e]
theorem bv_zero (zs : List Int) (len : Nat) {i : Nat} (hi : ¬ i < len) (h3 : 3000 < (i : Int) + 1) (seed : Int) : bv zs len (i : Int) seed = (0, seed) := by
  unfold bv
  rw [if_neg (show ¬ (i : Int) < (len : Int) by omega), if_pos h3]
theorem bv_seed (zs : List Int) (len : Nat) {i : Nat} (hi : ¬ i < len) (h3 : ¬ 3000 < (i : Int) + 1) (seed : Int) : bv zs len (i : Int) seed = ((seed * 1103515245 + 12345) % 2147483648 / 65536 % 256, (seed * 1103515245 + 12345) % 2147483648) := by
  unfold bv
  rw [if_neg (show ¬ (i : Int) < (len : Int) by omega), if_neg h3]

set_option maxRecDepth 100000 in
set_option maxHeartbeats 1600000 in
theorem byteV (w : World) (b : Nat) (a0 : Option Addr) (len cap : Nat) (pl seed : Int) (zs : List Int) (h : Is w b a0 len cap pl seed) (hcs : Cs w a0 len zs) (hp : pl ≤ 1000000) :
    Calls Try.prog 83 #[.pointer (some ⟨b, 0, none⟩)] w (PostV w b a0 len cap pl zs (bv zs len pl seed).1 (bv zs len pl seed).2) := by
  have HI := Lib.hid (h.set1 (pl + 1) (by have := h.p0; omega))
  have HG := Lib.hid (grown_set (World.grownBy.refl w (some b)) 1 (.int .i64 (pl + 1)))
  have HC0 := Lib.hid (⟨h, hcs⟩ : _ ∧ _)
  clear hcs
  obtain ⟨c0, c1, c2, f1, f2, p0, s0, s1, hl, code⟩ := h
  have HC := Lib.hid code
  clear code
  unfold maxLen at hl
  obtain ⟨i, rfl⟩ := Int.eq_ofNat_of_zero_le p0
  by_cases hlt : i < len
  · obtain ⟨bb, off, z, rfl, hne, z0, z1, hz⟩ := HC.out i hlt
    have i1 : (i : Int) < (len : Int) := by omega
    have HZ := Lib.hid (bv_code HC0.out.2 hlt hz seed)
    have d3 : (w.setCell ⟨b, 1, none⟩ (.int .i64 ((i : Int) + 1))).cell? ⟨bb, off + i, none⟩ = some (.int .u8 z) := by go_simp
    go_enter Try.func83, Try.ntmps83
    go_wp2
    clear c0 c1 c2 f1 f2 hz HC
    generalize w.setCell ⟨b, 1, none⟩ (.int .i64 ((i : Int) + 1)) = W1 at *
    generalize hn : ((i : Int) + 1) = n at *
    have n1 : 1 ≤ n := by omega
    have n2 : n ≤ (len : Int) := by omega
    have e1 : IntKind.i64.wrap (i : Int) = i := by rw [IntKind.wrap_i64]; omega
    have e2 : n - 1 = i := by omega
    have HN := Lib.hid hn
    clear hn
    have d0 := HI.out.c0
    have d1 := HI.out.c1
    have d2 := HI.out.c2
    have d4 := HI.out.f2
    go_quiet (fail)
    go_wp2
    have D0 : (W1.drewN nq).cell? ⟨b, 0, none⟩ = some (.slice (some ⟨bb, off, none⟩) len cap) := d0
    have D1 : (W1.drewN nq).cell? ⟨b, 1, none⟩ = some (.int .i64 n) := d1
    have D2 : (W1.drewN nq).cell? ⟨b, 2, none⟩ = some (.int .i64 seed) := d2
    have D3 : (W1.drewN nq).cell? ⟨bb, off + i, none⟩ = some (.int .u8 z) := d3
    have D4 : (W1.drewN nq).frozen? ⟨b, 2, none⟩ = false := d4
    have HI2 := Lib.hid (HI.out.drewN nq)
    have HG2 := Lib.hid (grown_drewN HG.out nq)
    clear HI HG d0 d1 d2 d3 d4
    generalize W1.drewN nq = W2 at *
    have q0 : ∀ k, (World.mk W2.heap W2.tape k W2.os W2.output).cell? ⟨b, 0, none⟩ = some (.slice (some ⟨bb, off, none⟩) len cap) := fun _ => D0
    have q1 : ∀ k, (World.mk W2.heap W2.tape k W2.os W2.output).cell? ⟨b, 1, none⟩ = some (.int .i64 n) := fun _ => D1
    have q2 : ∀ k, (World.mk W2.heap W2.tape k W2.os W2.output).cell? ⟨b, 2, none⟩ = some (.int .i64 seed) := fun _ => D2
    have q3 : ∀ k, (World.mk W2.heap W2.tape k W2.os W2.output).cell? ⟨bb, off + i, none⟩ = some (.int .u8 z) := fun _ => D3
    go_still_tail 23, (by kernel_rfl)
    clear q0 q1 q2 q3
    change wpList _ _ _ _ _ W2.drew
    go_wp2
    go_quiet (fail)
    go_wp2
    go_ret
    rw [HZ.out]
    rw [← HN.out] at *
    refine post_of HC0.out.1 HC0.out.2 ?_ z0 z1 ?_ ?_
    · simp
    · exact ((HI2.out.set2 _ (by omega) (by omega)).drew).drewN _
    · exact grown_drewN (grown_drew (grown_set HG2.out 2 _)) _
  · have hge : decide ((i : Int) + 1 ≤ (len : Int)) = false := decide_eq_false (by omega)
    by_cases h3 : 3000 < (i : Int) + 1
    · go_enter Try.func83, Try.ntmps83
      go_wp2
      go_quiet (fail)
      go_wp2
      go_ret
      rw [bv_zero zs len hlt (by omega) seed]
      exact post_of HC0.out.1 HC0.out.2 rfl (by omega) (by omega) (HI.out.drewN _) (grown_drewN HG.out _)
    · have d3 : decide (3000 < (i : Int) + 1) = false := decide_eq_false h3
      go_enter Try.func83, Try.ntmps83
      go_wp2
      go_quiet (fail)
      go_wp2
      go_ret
      rw [bv_seed zs len hlt (by omega) seed]
      refine post_of HC0.out.1 HC0.out.2 ?_ (by omega) (by omega) ?_ ?_
      · simp
      · exact (HI.out.drewN _).set2 _ (by omega) (by omega)
      · exact grown_set (grown_drewN HG.out _) 2 _

set_option maxHeartbeats 400000 in
theorem nextV (n : Int) (n1 : 1 < n) (n2 : n ≤ 256) (w : World) (b : Nat) (a0 : Option Addr) (len cap : Nat) (pl seed : Int) (zs : List Int) (h : Is w b a0 len cap pl seed) (hcs : Cs w a0 len zs) (hp : pl ≤ 1000000) :
    Calls Try.prog 72 #[.pointer (some ⟨b, 0, none⟩), .int .i64 n] w (PostV w b a0 len cap pl zs ((bv zs len pl seed).1 % n) (bv zs len pl seed).2) := by
  have HI := Lib.hid h
  clear h
  go_enter Try.func72, Try.ntmps72
  go_wp2_with fail
  refine (byteV _ _ _ _ _ _ _ zs HI.out hcs hp).mono ?_
  rintro e w1 ⟨rfl, r0, r1, hi, hc2, hg⟩
  generalize (bv zs len pl seed).1 = r at *
  have HC2 := Lib.hid hc2
  have HI1 := Lib.hid hi
  have HG := Lib.hid hg
  clear hi hg hc2 hcs
  go_wp2
  go_ret
  have := Int.emod_nonneg r (show n ≠ 0 by omega)
  have := Int.emod_lt_of_pos r (show 0 < n by omega)
  refine ⟨?_, by omega, by omega, HI1.out, HC2.out, HG.out⟩
  simp

end Go.Proofs.Ytmgokpkogjdfhaa.SrcV
