/-
  What is proved: the law on the two quarter rounds returns true (the walk).
-/
import Derived.Test.YtehdiabkpaoekaaRows
import Derived.Test.YtehdiabkpaoekaaQRound
namespace Go.Proofs.Ytehdiabkpaoekaa.QRoundLaw
open Go.ChangeShapes Go.WideShapes Go.ChangeAt Go.RowKit
open Quarter (Q4 qr agg4 bcell)
open QRound (resQ)
set_option linter.unusedVariables false

def mix (x0 x1 x2 x3 : Int) : Nat → Array Value
  | 0 => #[.int .i64 0, .int .i64 0, .int .i64 0, .int .i64 0]
  | 1 => #[.int .i64 x0, .int .i64 0, .int .i64 0, .int .i64 0]
  | 2 => #[.int .i64 x0, .int .i64 x1, .int .i64 0, .int .i64 0]
  | 3 => #[.int .i64 x0, .int .i64 x1, .int .i64 x2, .int .i64 0]
  | _ => #[.int .i64 x0, .int .i64 x1, .int .i64 x2, .int .i64 x3]

set_option maxHeartbeats 800000 in
theorem toA4 (x0 x1 x2 x3 : Int) (w : World) :
    Calls Try.prog 18 #[.agg #[.int .i64 x0, .int .i64 x1, .int .i64 x2, .int .i64 x3]] w fun e w' => e = .returned (.agg #[.int .i64 x0, .int .i64 x1, .int .i64 x2, .int .i64 x3]) ∧ Below w.heap.size w w' := by
  go_enter Try.func18, Try.ntmps18
  go_wp2
  go_loopw [4] (fun i wr => ∃ k : Nat, k ≤ 4 ∧ i = .int .i64 k ∧ wr = ((w.alloc (.cells #[.int .i64 x0, .int .i64 x1, .int .i64 x2, .int .i64 x3] 30)).alloc (.cells #[.int .i64 0, .int .i64 0, .int .i64 0, .int .i64 0] 30)).alloc (.cells (mix x0 x1 x2 x3 k) 30)) (fun i _ => 4 - (intOf i).toNat)
  case atStart => exact ⟨0, by omega, rfl, rfl⟩
  case round =>
    obtain ⟨k, hk, rfl, rfl⟩ := hrel
    have hc : k = 0 ∨ k = 1 ∨ k = 2 ∨ k = 3 ∨ k = 4 := by omega
    rcases hc with rfl | rfl | rfl | rfl | rfl
    · unfold mix
      go_wp2
      go_roundw
      case rel => exact ⟨1, by omega, rfl, rfl⟩
      case measure => simp [intOf]
    · unfold mix
      go_wp2
      go_roundw
      case rel => exact ⟨2, by omega, rfl, rfl⟩
      case measure => simp [intOf]
    · unfold mix
      go_wp2
      go_roundw
      case rel => exact ⟨3, by omega, rfl, rfl⟩
      case measure => simp [intOf]
    · unfold mix
      go_wp2
      go_roundw
      case rel => exact ⟨4, by omega, rfl, rfl⟩
      case measure => simp [intOf]
    · unfold mix
      go_wp2
      refine bodyPost_ret (v := .agg #[.int .i64 x0, .int .i64 x1, .int .i64 x2, .int .i64 x3]) (by simp [results, Try.results18, go_sem]) rfl ⟨rfl, ?_⟩
      repeat (first | exact Below.refl _ _ | refine Below.alloc ?_ (by simp; try omega) _ | refine Below.setCell ?_ (by simp; try omega) _)

theorem cells4 (x0 x1 x2 x3 : Int) (w : World) (k : Nat) (h : k < 4) : ∃ X : Int,
    ((w.alloc (Obj.cells #[.int .i64 x0, .int .i64 x1, .int .i64 x2, .int .i64 x3] 30)).alloc (Obj.cells #[.int .i64 x0, .int .i64 x1, .int .i64 x2, .int .i64 x3] 30)).cell? ⟨w.heap.size, k, none⟩ = some (.int .i64 X) ∧
    ((w.alloc (Obj.cells #[.int .i64 x0, .int .i64 x1, .int .i64 x2, .int .i64 x3] 30)).alloc (Obj.cells #[.int .i64 x0, .int .i64 x1, .int .i64 x2, .int .i64 x3] 30)).cell? ⟨w.heap.size + 1, k, none⟩ = some (.int .i64 X) := by
  match k, h with
  | 0, _ => exact ⟨x0, by go_simp, by go_simp⟩
  | 1, _ => exact ⟨x1, by go_simp, by go_simp⟩
  | 2, _ => exact ⟨x2, by go_simp, by go_simp⟩
  | 3, _ => exact ⟨x3, by go_simp, by go_simp⟩

set_option maxHeartbeats 400000 in
theorem eq4 (x0 x1 x2 x3 : Int) (w : World) :
    Calls Try.prog 19 #[.agg #[.int .i64 x0, .int .i64 x1, .int .i64 x2, .int .i64 x3], .agg #[.int .i64 x0, .int .i64 x1, .int .i64 x2, .int .i64 x3]] w fun e w' => e = .returned (.bool true) ∧ Below w.heap.size w w' := by
  have HC := Lib.hid (cells4 x0 x1 x2 x3 w)
  have HB := Lib.hid (show Below w.heap.size w ((w.alloc (Obj.cells #[.int .i64 x0, .int .i64 x1, .int .i64 x2, .int .i64 x3] 30)).alloc (Obj.cells #[.int .i64 x0, .int .i64 x1, .int .i64 x2, .int .i64 x3] 30)) from
    ((Below.refl _ _).alloc (Nat.le_refl _) _).alloc (by simp) _)
  go_enter Try.func19, Try.ntmps19
  go_wp2
  generalize (w.alloc _).alloc _ = W at *
  go_loopw [5] (fun i wr => ∃ k n : Nat, k ≤ 4 ∧ i = .int .i64 k ∧ wr = W.drewN n) (fun i _ => 4 - (intOf i).toNat)
  case atStart => exact ⟨0, 0, by omega, rfl, rfl⟩
  case round =>
    obtain ⟨k, n, hk, rfl, rfl⟩ := hrel
    by_cases hlt : k < 4
    · obtain ⟨X, c0, c1⟩ := HC.out k hlt
      go_wp2
      go_quiet (fail)
      go_wp2
      go_roundw
      case rel => exact ⟨k + 1, _, by omega, by go_num, rfl⟩
      case measure => simp [intOf]; omega
    · go_wp2
      go_ret
      exact ⟨rfl, below_drewN HB.out n⟩

theorem res_form (x0 x1 x2 x3 : Int) : ∃ y0 y1 y2 y3 c : Int, resQ x0 x1 x2 x3 = .tuple #[.agg #[.int .i64 y0, .int .i64 y1, .int .i64 y2, .int .i64 y3], .int .i64 c] := by
  unfold resQ
  split
  · exact ⟨_, _, _, _, _, rfl⟩
  · exact ⟨_, _, _, _, _, rfl⟩

set_option maxHeartbeats 800000 in
theorem walk (x0 x1 x2 x3 : Int) (w : World) :
    Calls Try.prog 4 #[.agg #[.int .i64 x0, .int .i64 x1, .int .i64 x2, .int .i64 x3]] w fun e w' => e = .returned (.bool true) ∧ Below w.heap.size w w' := by
  obtain ⟨y0, y1, y2, y3, c, hres⟩ := res_form x0 x1 x2 x3
  have HRES := Lib.hid hres
  clear hres
  go_enter Try.func4, Try.ntmps4
  go_wp2_with fail
  refine (toA4 _ _ _ _ _).mono ?_
  rintro e w1 ⟨rfl, hb⟩
  obtain ⟨hc1, hf1⟩ := bcell hb
  have hz1 := hb.size
  have HB1 := Lib.hid hb
  clear hb
  simp only [World.size_alloc] at hc1 hf1 hz1
  go_wp2_with fail
  refine (QRound.spec _ _ _ _ _).mono ?_
  rintro e w2 ⟨rfl, hb⟩
  obtain ⟨hc2, hf2⟩ := bcell hb
  have hz2 := hb.size
  have HB2 := Lib.hid hb
  clear hb
  rw [HRES.out]
  have l1 : w.heap.size < w1.heap.size := hz1
  have l2 : w.heap.size < w2.heap.size := by omega
  have a0 : w2.cell? ⟨w.heap.size, 0, none⟩ = some (.int .i64 x0) := by rw [hc2 _ _ l1, hc1 _ _ (by omega)]; go_simp
  have a1 : w2.cell? ⟨w.heap.size, 1, none⟩ = some (.int .i64 x1) := by rw [hc2 _ _ l1, hc1 _ _ (by omega)]; go_simp
  have a2 : w2.cell? ⟨w.heap.size, 2, none⟩ = some (.int .i64 x2) := by rw [hc2 _ _ l1, hc1 _ _ (by omega)]; go_simp
  have a3 : w2.cell? ⟨w.heap.size, 3, none⟩ = some (.int .i64 x3) := by rw [hc2 _ _ l1, hc1 _ _ (by omega)]; go_simp
  have HBW := Lib.hid ((((Below.refl w.heap.size w).alloc (Nat.le_refl _) _).trans (HB1.out.mono (by simp))).trans (HB2.out.mono (by omega)))
  clear hc1 hf1 hc2 hf2 HB1 HB2
  go_wp2_with fail
  refine (toA4 _ _ _ _ _).mono ?_
  rintro e w3 ⟨rfl, hb⟩
  obtain ⟨hc3, hf3⟩ := bcell hb
  have hz3 := hb.size
  have HB3 := Lib.hid hb
  clear hb
  simp only [World.size_alloc] at hc3 hf3 hz3
  go_wp2_with fail
  refine (QRound.impl _ _ _ _ _).mono ?_
  rintro e w4 ⟨rfl, hb⟩
  obtain ⟨hc4, hf4⟩ := bcell hb
  have hz4 := hb.size
  have HB4 := Lib.hid hb
  clear hb
  rw [HRES.out]
  have l3 : w2.heap.size < w3.heap.size := hz3
  have l4 : w2.heap.size < w4.heap.size := by omega
  have b0 : w4.cell? ⟨w2.heap.size, 0, none⟩ = some (.int .i64 y0) := by rw [hc4 _ _ l3, hc3 _ _ (by omega)]; go_simp
  have b1 : w4.cell? ⟨w2.heap.size, 1, none⟩ = some (.int .i64 y1) := by rw [hc4 _ _ l3, hc3 _ _ (by omega)]; go_simp
  have b2 : w4.cell? ⟨w2.heap.size, 2, none⟩ = some (.int .i64 y2) := by rw [hc4 _ _ l3, hc3 _ _ (by omega)]; go_simp
  have b3 : w4.cell? ⟨w2.heap.size, 3, none⟩ = some (.int .i64 y3) := by rw [hc4 _ _ l3, hc3 _ _ (by omega)]; go_simp
  have HBX := Lib.hid (((HBW.out.alloc (by omega) _).trans (HB3.out.mono (by simp; omega))).trans (HB4.out.mono (by omega)))
  clear hc3 hf3 hc4 hf4 HB3 HB4 HBW
  have l5 : w2.heap.size ≠ w4.heap.size := by omega
  go_wp2_with fail
  refine (eq4 _ _ _ _ _).mono ?_
  rintro e w5 ⟨rfl, hb⟩
  have HB5 := Lib.hid hb
  clear hb
  go_wp2
  go_ret
  refine ⟨rfl, ?_⟩
  exact (HBX.out.alloc (by omega) _).trans (HB5.out.mono (by simp; omega))

theorem array4 {cs : Array Value} (h : cs.size = 4) : ∃ c0 c1 c2 c3, cs = #[c0, c1, c2, c3] := by
  rcases cs with ⟨l⟩
  match l, h with
  | [c0, c1, c2, c3], _ => exact ⟨c0, c1, c2, c3, rfl⟩
theorem cells3 : Try.prog.cellsOf 3 = 1 := by kernel_rfl
theorem cellsA : Try.prog.cellsOf 30 = 4 := by kernel_rfl
theorem walk_any {H : Type} {enc : TypeId × Value → H} {W : World} {base b0 : Nat} {spare : Nat → Bool} {held : Bool} {v : Value} {d : DataW H} {p : List MemPlace}
    (o : Value.okWide Try.prog W .any b0 30 v) (h : DataW.Trod enc Try.prog W base spare held 30 v d p) :
    Calls Try.prog 4 #[v] W fun e w' => e = .returned (.bool true) ∧ Below W.heap.size W w' := by
  obtain ⟨cs, rfl, hsz⟩ : ∃ cs, v = .agg cs ∧ cs.size = Try.prog.cellsOf 30 := by
    simp only [Value.okWide, Try.underlying30] at o
    obtain ⟨cs, h1, h2, _⟩ := o
    exact ⟨cs, h1, h2⟩
  obtain ⟨c0, c1, c2, c3, rfl⟩ := array4 (hsz.trans cellsA)
  obtain ⟨fuel, hf⟩ := h
  simp only [Value.cells] at hf
  obtain ⟨zs, m2, _, _, _, hl, ha⟩ := DataW.trod_array Try.underlying30 hf
  match zs, hl with
  | [z0, z1, z2, z3], _ =>
    have a0 := ha 0 (by omega)
    have a1 := ha 1 (by omega)
    have a2 := ha 2 (by omega)
    have a3 := ha 3 (by omega)
    simp [cells3] at a0 a1 a2 a3
    obtain ⟨x0, e, _, k0⟩ := DataW.trod_int Try.underlying3 a0
    simp at e; subst e
    obtain ⟨x1, e, _, k1⟩ := DataW.trod_int Try.underlying3 a1
    simp at e; subst e
    obtain ⟨x2, e, _, k2⟩ := DataW.trod_int Try.underlying3 a2
    simp at e; subst e
    obtain ⟨x3, e, _, k3⟩ := DataW.trod_int Try.underlying3 a3
    simp at e; subst e
    exact walk x0 x1 x2 x3 W
end Go.Proofs.Ytehdiabkpaoekaa.QRoundLaw