/-
  What is proved: the errors of a box (three texts of the package, each at its own place), errors.Is on them, which fault a box has and which code an error is told by (contracts for the walks).
-/
import Derived.Test.YtggobhpjfflooaaGreatDoorRows
import Derived.WalkKit
import Derived.WalkLawsBesides
import Derived.ProofKit
import Derived.Lib.Hide
import Derived.Below
import Derived.LaidEql
import Derived.Stop.Asserts
import Derived.RowKitTokens
namespace Go.Proofs.YtggobhpjfflooaaGreatDoor.BoxErr
open Go.ChangeShapes Go.WideShapes Go.ChangeAt Go.RowKit Go.Extern.Stop Go.Stop Go.Extern
set_option linter.unusedVariables false

theorem isTypeOf (v : Value) (w : World) : (Extern.ReflectliteType.typeOf #[.iface 160 v]).run Tryz.prog w = .ok (.iface 100 (.agg #[.pointer (some ⟨5, 160, none⟩)])) w := by kernel_rfl
/-- What the model runs for a type's method Comparable. -/
def cmpM : Array Value → Sem Value := Extern.ReflectliteType.method fun t => do _root_.Go.Extern.Rtype.noPackHeld "Comparable" t; pure (.bool (← typeInfo t).comparable)
theorem isComparable (w : World) : (cmpM #[.agg #[.pointer (some ⟨5, 160, none⟩)]]).run Tryz.prog w = .ok (.bool true) w := by kernel_rfl
theorem isMethodComparable (v : Value) (w : World) : (Go.method 289 100 v "Comparable").run Tryz.prog w = .ok (134, v) w := by kernel_rfl
theorem isComp : (Tryz.prog.info? 160).map (·.comparable) = some true := by kernel_rfl
theorem isSize : (Tryz.prog.info? 178).map (·.size) = some 1 := by kernel_rfl
theorem noIsE (v : Value) (xT : TypeId) (w : World) : (Instr.typeAssert (.iface 160 v) xT 125 true).run Tryz.prog w = .ok (.tuple #[.nilIface, .bool false]) w := run_typeAssert_lacksB Tryz.underlying125 (by kernel_rfl) (by kernel_rfl) v xT w
theorem noUnwrapE (v : Value) (xT : TypeId) (w : World) : (Instr.typeAssert (.iface 160 v) xT 108 true).run Tryz.prog w = .ok (.tuple #[.nilIface, .bool false]) w := run_typeAssert_lacksB Tryz.underlying108 (by kernel_rfl) (by kernel_rfl) v xT w
theorem noUnwrapsE (v : Value) (xT : TypeId) (w : World) : (Instr.typeAssert (.iface 160 v) xT 110 true).run Tryz.prog w = .ok (.tuple #[.nilIface, .bool false]) w := run_typeAssert_lacksB Tryz.underlying110 (by kernel_rfl) (by kernel_rfl) v xT w

/-- An error of the package's: a pointer to its text. -/
abbrev ev (a : Addr) : Value := .iface 160 (.pointer (some a))

theorem is_same (a : Addr) (w : World) :
    Calls Tryz.prog 52 #[ev a, ev a] w fun e w' => e = .returned (.bool true) ∧ w = w' := by
  obtain ⟨i, hi, hcmp⟩ := Option.map_eq_some_iff.1 isComp
  obtain ⟨j, hj, hjs⟩ := Option.map_eq_some_iff.1 isSize
  have h8 := @run_callFunc_extern Tryz.prog 66 _ Extern.ReflectliteType.typeOf Tryz.func66 (by kernel_rfl) (by kernel_rfl) (by kernel_rfl) (by kernel_rfl)
  have h32 := @run_callFunc_extern Tryz.prog 134 _ cmpM Tryz.func134 (by kernel_rfl) (by kernel_rfl) (by kernel_rfl) (by kernel_rfl)
  have tT := isTypeOf
  have cT := isComparable
  have mR := isMethodComparable
  have heq := run_eql_iface_ptr_same (P := Tryz.prog) w a Tryz.underlying40 Tryz.underlying160 hi hcmp hj
  go_enter Tryz.func52, Tryz.ntmps52
  go_wp2
  refine wp_loop_rounds 1 ?_
  rw [rounds_succ]
  go_wp2
  go_ret
  exact ⟨rfl, rfl⟩

theorem is_other (a b : Addr) (ca cb : Array Value) (ta tb : TypeId) (w : World) (hne : a ≠ b) (ha : w.heap[a.block]? = some (.cells ca ta (0, 0))) (hb : w.heap[b.block]? = some (.cells cb tb (0, 0))) :
    Calls Tryz.prog 52 #[ev a, ev b] w fun e w' => e = .returned (.bool false) ∧ w = w' := by
  obtain ⟨i, hi, hcmp⟩ := Option.map_eq_some_iff.1 isComp
  obtain ⟨j, hj, hjs⟩ := Option.map_eq_some_iff.1 isSize
  have h8 := @run_callFunc_extern Tryz.prog 66 _ Extern.ReflectliteType.typeOf Tryz.func66 (by kernel_rfl) (by kernel_rfl) (by kernel_rfl) (by kernel_rfl)
  have h32 := @run_callFunc_extern Tryz.prog 134 _ cmpM Tryz.func134 (by kernel_rfl) (by kernel_rfl) (by kernel_rfl) (by kernel_rfl)
  have tT := isTypeOf
  have cT := isComparable
  have mR := isMethodComparable
  have nE := noIsE
  have uE := noUnwrapE
  have vE := noUnwrapsE
  have heq := run_eql_iface_ptr_other (P := Tryz.prog) w Tryz.underlying40 Tryz.underlying160 hi hcmp hj (by rw [hjs]; decide) hne ha hb
  go_enter Tryz.func52, Tryz.ntmps52
  go_wp2
  refine wp_loop_rounds 1 ?_
  rw [rounds_succ]
  go_wp2
  go_ret
  exact ⟨rfl, rfl⟩

/-- Package variable g holds the error at a, whose text stands in a block of its own. -/
structure Held (w : World) (g : Nat) (a : Addr) : Prop where
  cell : w.cell? ⟨g, 0, none⟩ = some (ev a)
  row : ∃ c t, w.heap[a.block]? = some (.cells c t (0, 0))
theorem Held.below {w w' : World} {g : Nat} {a : Addr} (h : Held w g a) (hb : Below w.heap.size w w') : Held w' g a := by
  refine ⟨(hb.cell (World.block_lt_of_cell? w _ h.cell)).trans h.cell, ?_⟩
  obtain ⟨c, t, hr⟩ := h.row
  exact ⟨c, t, (hb.block a.block (Array.getElem?_eq_some_iff.1 hr).1).trans hr⟩
/-- The first two errors stand in their variables. -/
structure Two (w : World) (a0 a1 : Addr) : Prop where
  h0 : Held w 1 a0
  h1 : Held w 2 a1
  ne : a0 ≠ a1
theorem Two.below {w w' : World} {a0 a1 : Addr} (h : Two w a0 a1) (hb : Below w.heap.size w w') : Two w' a0 a1 := ⟨h.h0.below hb, h.h1.below hb, h.ne⟩
/-- All three. -/
structure Three (w : World) (a0 a1 a2 : Addr) : Prop where
  two : Two w a0 a1
  h2 : Held w 3 a2
  n0 : a2 ≠ a0
  n1 : a2 ≠ a1
theorem Three.below {w w' : World} {a0 a1 a2 : Addr} (h : Three w a0 a1 a2) (hb : Below w.heap.size w w') : Three w' a0 a1 a2 := ⟨h.two.below hb, h.h2.below hb, h.n0, h.n1⟩

/-- The code of a box's faults. -/
def long (key nonce ad t : ByteArray) : Prop := 65536 < key.size ∨ 65536 < nonce.size ∨ 65536 < ad.size ∨ 65536 < t.size
instance (key nonce ad t : ByteArray) : Decidable (long key nonce ad t) := by unfold long; infer_instance
def code (key nonce ad t : ByteArray) : Int := if long key nonce ad t then 2 else if key.size = 32 ∧ nonce.size = 12 then 0 else 8
def faultV (key nonce ad t : ByteArray) (a0 a1 : Addr) : Value := if long key nonce ad t then ev a0 else if key.size = 32 ∧ nonce.size = 12 then .nilIface else ev a1

theorem idx0 (x0 x1 x2 x3 : ByteArray) (u : World) : (Instr.index 90 (.agg #[.string x0, .string x1, .string x2, .string x3]) (.int .i64 0)).run Tryz.prog u = .ok (.string x0) u := by
  simp [Instr.index, run_underlying Tryz.underlying90, part, go_sem]
theorem idx1 (x0 x1 x2 x3 : ByteArray) (u : World) : (Instr.index 90 (.agg #[.string x0, .string x1, .string x2, .string x3]) (.int .i64 1)).run Tryz.prog u = .ok (.string x1) u := by
  simp [Instr.index, run_underlying Tryz.underlying90, part, go_sem]
theorem idx2 (x0 x1 x2 x3 : ByteArray) (u : World) : (Instr.index 90 (.agg #[.string x0, .string x1, .string x2, .string x3]) (.int .i64 2)).run Tryz.prog u = .ok (.string x2) u := by
  simp [Instr.index, run_underlying Tryz.underlying90, part, go_sem]
theorem idx3 (x0 x1 x2 x3 : ByteArray) (u : World) : (Instr.index 90 (.agg #[.string x0, .string x1, .string x2, .string x3]) (.int .i64 3)).run Tryz.prog u = .ok (.string x3) u := by
  simp [Instr.index, run_underlying Tryz.underlying90, part, go_sem]

set_option maxRecDepth 100000 in
set_option maxHeartbeats 1600000 in
theorem boxFault (key nonce ad t : ByteArray) (hk : key.size ≤ maxLen) (hn : nonce.size ≤ maxLen) (ha : ad.size ≤ maxLen) (ht : t.size ≤ maxLen) (a0 a1 : Addr) (w : World) (H : Two w a0 a1) :
    Calls Tryz.prog 38 #[.string key, .string nonce, .string ad, .string t] w fun e w' => e = .returned (faultV key nonce ad t a0 a1) ∧ w = w' := by
  have c0 := H.h0.cell
  have c1 := H.h1.cell
  unfold maxLen at hk hn ha ht
  unfold faultV
  have i0 := idx0 key nonce ad t
  have i1 := idx1 key nonce ad t
  have i2 := idx2 key nonce ad t
  have i3 := idx3 key nonce ad t
  by_cases l0 : 65536 < key.size
  · rw [if_pos (.inl l0)]
    go_enter Tryz.func38, Tryz.ntmps38
    go_wp2
    refine wp_loop_rounds 1 ?_
    rw [rounds_succ]
    go_wp2
    go_ret
    exact ⟨rfl, rfl⟩
  have e0 : decide (65536 < (key.size : Int)) = false := decide_eq_false (by omega)
  by_cases l1 : 65536 < nonce.size
  · rw [if_pos (.inr (.inl l1))]
    go_enter Tryz.func38, Tryz.ntmps38
    go_wp2
    refine wp_loop_rounds 2 ?_
    rw [rounds_succ]
    go_wp2
    rw [rounds_succ]
    go_wp2
    go_ret
    exact ⟨rfl, rfl⟩
  have e1 : decide (65536 < (nonce.size : Int)) = false := decide_eq_false (by omega)
  by_cases l2 : 65536 < ad.size
  · rw [if_pos (.inr (.inr (.inl l2)))]
    go_enter Tryz.func38, Tryz.ntmps38
    go_wp2
    refine wp_loop_rounds 3 ?_
    rw [rounds_succ]
    go_wp2
    rw [rounds_succ]
    go_wp2
    rw [rounds_succ]
    go_wp2
    go_ret
    exact ⟨rfl, rfl⟩
  have e2 : decide (65536 < (ad.size : Int)) = false := decide_eq_false (by omega)
  by_cases l3 : 65536 < t.size
  · rw [if_pos (.inr (.inr (.inr l3)))]
    go_enter Tryz.func38, Tryz.ntmps38
    go_wp2
    refine wp_loop_rounds 4 ?_
    rw [rounds_succ]
    go_wp2
    rw [rounds_succ]
    go_wp2
    rw [rounds_succ]
    go_wp2
    rw [rounds_succ]
    go_wp2
    go_ret
    exact ⟨rfl, rfl⟩
  have e3 : decide (65536 < (t.size : Int)) = false := decide_eq_false (by omega)
  rw [if_neg (by unfold long; omega)]
  clear l0 l1 l2 l3
  by_cases k1 : key.size = 32
  · have f1 : ((key.size : Int) != 32) = false := by simp; omega
    by_cases k2 : nonce.size = 12
    · have f2 : ((nonce.size : Int) != 12) = false := by simp; omega
      rw [if_pos ⟨k1, k2⟩]
      clear k1 k2
      go_enter Tryz.func38, Tryz.ntmps38
      go_wp2
      refine wp_loop_rounds 5 ?_
      rw [rounds_succ]
      go_wp2
      rw [rounds_succ]
      go_wp2
      rw [rounds_succ]
      go_wp2
      rw [rounds_succ]
      go_wp2
      rw [rounds_succ]
      go_wp2
      go_ret
      exact ⟨rfl, rfl⟩
    · have f2 : ((nonce.size : Int) != 12) = true := by simp; omega
      rw [if_neg (fun h => k2 h.2)]
      clear k1 k2
      go_enter Tryz.func38, Tryz.ntmps38
      go_wp2
      refine wp_loop_rounds 5 ?_
      rw [rounds_succ]
      go_wp2
      rw [rounds_succ]
      go_wp2
      rw [rounds_succ]
      go_wp2
      rw [rounds_succ]
      go_wp2
      rw [rounds_succ]
      go_wp2
      go_ret
      exact ⟨rfl, rfl⟩
  · have f1 : ((key.size : Int) != 32) = true := by simp; omega
    rw [if_neg (fun h => k1 h.1)]
    clear k1
    go_enter Tryz.func38, Tryz.ntmps38
    go_wp2
    refine wp_loop_rounds 5 ?_
    rw [rounds_succ]
    go_wp2
    rw [rounds_succ]
    go_wp2
    rw [rounds_succ]
    go_wp2
    rw [rounds_succ]
    go_wp2
    rw [rounds_succ]
    go_wp2
    go_ret
    exact ⟨rfl, rfl⟩

theorem code_nil (w : World) : Calls Tryz.prog 37 #[.nilIface] w fun e w' => e = .returned (.int .i64 0) ∧ w = w' := by
  go_enter Tryz.func37, Tryz.ntmps37
  go_wp2
  go_ret
  exact ⟨rfl, rfl⟩
theorem code_long (a0 a1 : Addr) (w : World) (H : Two w a0 a1) : Calls Tryz.prog 37 #[ev a0] w fun e w' => e = .returned (.int .i64 2) ∧ w = w' := by
  have c0 := H.h0.cell
  go_enter Tryz.func37, Tryz.ntmps37
  go_wp2_with fail
  refine (is_same a0 _).mono ?_
  rintro e w' ⟨rfl, rfl⟩
  go_wp2
  go_ret
  exact ⟨rfl, rfl⟩
theorem code_size (a0 a1 : Addr) (w : World) (H : Two w a0 a1) : Calls Tryz.prog 37 #[ev a1] w fun e w' => e = .returned (.int .i64 8) ∧ w = w' := by
  have c0 := H.h0.cell
  have c1 := H.h1.cell
  obtain ⟨d0, t0, r0⟩ := H.h0.row
  obtain ⟨d1, t1, r1⟩ := H.h1.row
  go_enter Tryz.func37, Tryz.ntmps37
  go_wp2_with fail
  refine (is_other a1 a0 d1 d0 t1 t0 _ (Ne.symm H.ne) r1 r0).mono ?_
  rintro e w' ⟨rfl, rfl⟩
  go_wp2_with fail
  refine (is_same a1 _).mono ?_
  rintro e w' ⟨rfl, rfl⟩
  go_wp2
  go_ret
  exact ⟨rfl, rfl⟩
theorem code_tag (a0 a1 a2 : Addr) (w : World) (H : Three w a0 a1 a2) : Calls Tryz.prog 37 #[ev a2] w fun e w' => e = .returned (.int .i64 9) ∧ w = w' := by
  have c0 := H.two.h0.cell
  have c1 := H.two.h1.cell
  obtain ⟨d0, t0, r0⟩ := H.two.h0.row
  obtain ⟨d1, t1, r1⟩ := H.two.h1.row
  obtain ⟨d2, t2, r2⟩ := H.h2.row
  go_enter Tryz.func37, Tryz.ntmps37
  go_wp2_with fail
  refine (is_other a2 a0 d2 d0 t2 t0 _ H.n0 r2 r0).mono ?_
  rintro e w' ⟨rfl, rfl⟩
  go_wp2_with fail
  refine (is_other a2 a1 d2 d1 t2 t1 _ H.n1 r2 r1).mono ?_
  rintro e w' ⟨rfl, rfl⟩
  go_wp2
  go_ret
  exact ⟨rfl, rfl⟩
end Go.Proofs.YtggobhpjfflooaaGreatDoor.BoxErr
