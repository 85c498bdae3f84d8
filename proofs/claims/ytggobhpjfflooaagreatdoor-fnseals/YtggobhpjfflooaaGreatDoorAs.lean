/-
  What is proved: errors.As at the package's errors with a place (a struct's value as the error, a pointer to such a struct as the target): nil is none; such an error is found, and stands in the target then (contracts for the walks).
-/
import Derived.Test.YtggobhpjfflooaaGreatDoorRows
import Derived.Test.YtggobhpjfflooaaGreatDoorBoxErr
import Derived.Test.YtggobhpjfflooaaGreatDoorKitA
import Derived.Laws.IdiomCopy
import Derived.Laws.Cells
namespace Go.Proofs.YtggobhpjfflooaaGreatDoor.As
open Go.ChangeShapes Go.WideShapes Go.ChangeAt Go.RowKit Go.Extern.Stop Go.Stop Go.Extern
set_option linter.unusedVariables false

/-- errors.As(nil, target). -/
theorem as_nil (t : Value) (w : World) :
    Calls Tryz.prog 36 #[.nilIface, t] w fun e w' => e = .returned (.bool false) ∧ w = w' := by
  go_enter Tryz.func36, Tryz.ntmps36
  go_wp2
  go_ret
  exact ⟨rfl, rfl⟩

/-- The handle of a type. -/
abbrev hd (t : TypeId) : Value := .pointer (some ⟨5, t, none⟩)
/-- An error with a place. -/
abbrev pv (p c : Int) : Value := .iface 64 (.agg #[.int .i64 p, .int .i64 c])

theorem valueOfP (t : Addr) (w : World) : (ReflectliteValue.unpack (.iface 66 (.pointer (some t)))).run Tryz.prog w
    = .ok (.agg #[hd 66, .pointer (some ⟨w.heap.size, 0, none⟩), .int .u64 150]) (w.alloc (.cells #[.pointer (some t)] 66)) := by kernel_rfl
theorem typeP (a : Addr) (w : World) : (ReflectliteValue.methodAny (ReflectliteValue.valueError "reflectlite.Value.Type" 0) (fun t _ _ _ => ReflectliteType.toType t) #[.agg #[hd 66, .pointer (some a), .int .u64 150]]).run Tryz.prog w
    = .ok (.iface 100 (.agg #[hd 66])) w := by kernel_rfl
theorem methodKind (h : Value) (w : World) : (Go.method 289 100 (.agg #[h]) "Kind").run Tryz.prog w = .ok (124, h) w := by kernel_rfl
theorem kindP (w : World) : ((ReflectliteType.abiMethod fun t => (fun a : Nat => Value.int IntKind.u8 (a : Int)) <$> Rtype.kind t) #[hd 66]).run Tryz.prog w = .ok (.int .u8 22) w := by kernel_rfl
theorem kindV (w : World) : ((ReflectliteType.abiMethod fun t => (fun a : Nat => Value.int IntKind.u8 (a : Int)) <$> Rtype.kind t) #[hd 64]).run Tryz.prog w = .ok (.int .u8 25) w := by kernel_rfl

theorem rlm (z : Sem Value) (f : TypeId → Addr → Nat → Nat → Sem Value) (v : Value) :
    ReflectliteValue.method z f #[v] = (do match ← ReflectliteValue.parts v with | none => z | some (t, a, fl) => f t a fl (fl % 32)) := rfl
theorem partsP (a : Addr) (w : World) : (ReflectliteValue.parts (.agg #[hd 66, .pointer (some a), .int .u64 150])).run Tryz.prog w = .ok (some (66, a, 150)) w := by kernel_rfl
theorem isNilP (a p : Addr) (W : World) (ha : W.cell? a = some (.pointer (some p))) :
    (ReflectliteValue.method (ReflectliteValue.valueError "reflectlite.Value.IsNil" 0) ReflectliteValue.isNil #[.agg #[hd 66, .pointer (some a), .int .u64 150]]).run Tryz.prog W = .ok (.bool false) W := by
  rw [rlm]
  simp only [Sem.run_bind, partsP, Result.andThen]
  simp [ReflectliteValue.isNil, loadVar, isAgg, underlying, Tryz.underlying66, ha, Result.andThen]

theorem methodElem (h : Value) (w : World) : (Go.method 289 100 (.agg #[h]) "Elem").run Tryz.prog w = .ok (135, .agg #[h]) w := by kernel_rfl
theorem methodImplements (h : Value) (w : World) : (Go.method 289 100 (.agg #[h]) "Implements").run Tryz.prog w = .ok (136, .agg #[h]) w := by kernel_rfl
theorem methodAssignableTo (h : Value) (w : World) : (Go.method 289 100 (.agg #[h]) "AssignableTo").run Tryz.prog w = .ok (133, .agg #[h]) w := by kernel_rfl
theorem elemP (w : World) : (ReflectliteType.method ReflectliteType.elem #[.agg #[hd 66]]).run Tryz.prog w = .ok (.iface 100 (.agg #[hd 64])) w := by kernel_rfl
theorem implementsV (w : World) : (ReflectliteType.relation "Implements" ReflectliteType.implements_ #[.agg #[hd 64], .iface 100 (.agg #[hd 40])]).run Tryz.prog w = .ok (.bool true) w := by kernel_rfl
theorem typeOfV (v : Value) (w : World) : (ReflectliteType.typeOf #[.iface 64 v]).run Tryz.prog w = .ok (.iface 100 (.agg #[hd 64])) w := by kernel_rfl
theorem assignableV (w : World) : (ReflectliteType.relation "AssignableTo" ReflectliteType.assignableTo #[.agg #[hd 64], .iface 100 (.agg #[hd 64])]).run Tryz.prog w = .ok (.bool true) w := by kernel_rfl
theorem valueOfV (p c : Int) (w : World) : (ReflectliteValue.unpack (pv p c)).run Tryz.prog w
    = .ok (.agg #[hd 64, .pointer (some ⟨w.heap.size, 0, none⟩), .int .u64 153]) (w.alloc (.cells #[.int .i64 p, .int .i64 c] 64)) := by kernel_rfl

theorem elemOfP (w : World) : (Rtype.elem? 66).run Tryz.prog w = .ok (some 64) w := by kernel_rfl
theorem mkV (p : Addr) (w : World) : (ReflectliteValue.mk 64 p ReflectliteValue.flagAddr).run Tryz.prog w = .ok (.agg #[hd 64, .pointer (some p), .int .u64 409]) w := by kernel_rfl
theorem elemVP (a p : Addr) (W : World) (ha : W.cell? a = some (.pointer (some p))) :
    (ReflectliteValue.method (ReflectliteValue.valueError "reflectlite.Value.Elem" 0) ReflectliteValue.elem #[.agg #[hd 66, .pointer (some a), .int .u64 150]]).run Tryz.prog W
      = .ok (.agg #[hd 64, .pointer (some p), .int .u64 409]) W := by
  rw [rlm]
  simp only [Sem.run_bind, partsP, Result.andThen]
  simp [ReflectliteValue.elem, loadVar, isAgg, underlying, Tryz.underlying66, ha, Result.andThen, elemOfP, mkV]
theorem rls (v x : Value) : ReflectliteValue.set #[v, x] = (do
    let (some (dst, a, fl), some (src, b, _)) := (← ReflectliteValue.parts v, ← ReflectliteValue.parts x)
      | unsupported (.noEntry "extern/(internal/reflectlite.Value).Set.zeroValue")
    if fl / ReflectliteValue.flagAddr % 2 == 0 then unsupported (.noEntry "extern/(internal/reflectlite.Value).Set.unaddressable")
    let val ← loadVar src b
    if ← Rtype.directlyAssignable dst src then storeVar dst a val
    else if ← Rtype.implements dst src then
      if (← Rtype.kind src) == 20 then
        match val with
        | .nilIface => unsupported (.noEntry "extern/reflectlite: a nil value of one interface type handed on as a value of another")
        | _ => storeVar dst a val
      else storeVar dst a (.iface src val)
    else panicString ("reflectlite.Set: value of type " ++ (← Rtype.spelt src) ++ " is not assignable to type " ++ (← Rtype.spelt dst))
    pure (.tuple #[])) := rfl
theorem partsVa (a : Addr) (w : World) : (ReflectliteValue.parts (.agg #[hd 64, .pointer (some a), .int .u64 409])).run Tryz.prog w = .ok (some (64, a, 409)) w := by kernel_rfl
theorem partsV (a : Addr) (w : World) : (ReflectliteValue.parts (.agg #[hd 64, .pointer (some a), .int .u64 153])).run Tryz.prog w = .ok (some (64, a, 153)) w := by kernel_rfl
theorem directV (w : World) : (Rtype.directlyAssignable 64 64).run Tryz.prog w = .ok true w := by kernel_rfl
theorem loadV (h : Nat) (p c : Int) (W : World) (h0 : W.cell? ⟨h, 0, none⟩ = some (.int .i64 p)) (h1 : W.cell? ⟨h, 1, none⟩ = some (.int .i64 c)) :
    (loadVar 64 ⟨h, 0, none⟩).run Tryz.prog W = .ok (.agg #[.int .i64 p, .int .i64 c]) W := by
  have hl := run_loadCells_list (P := Tryz.prog) W ⟨h, 0, none⟩ [.int .i64 p, .int .i64 c] (fun j v hj => by
    have hadd : (⟨h, 0, none⟩ : Addr).add j = ⟨h, j, none⟩ := by unfold Addr.add; split <;> simp_all
    rw [hadd]
    match j, hj with
    | 0, hj => rw [h0]; exact hj
    | 1, hj => rw [h1]; exact hj
    | j + 2, hj => simp at hj)
  have hl2 : (loadCells ⟨h, 0, none⟩ 2).run Tryz.prog W = .ok #[.int .i64 p, .int .i64 c] W := hl
  simp [loadVar, isAgg, underlying, Tryz.underlying64, Result.andThen, hl2]
theorem storeV (g : Nat) (p c : Int) (o0 o1 : Value) (W : World) (h0 : W.cell? ⟨g, 0, none⟩ = some o0) (h1 : W.cell? ⟨g, 1, none⟩ = some o1) (f0 : W.frozen? ⟨g, 0, none⟩ = false) (f1 : W.frozen? ⟨g, 1, none⟩ = false) :
    (storeVar 64 ⟨g, 0, none⟩ (.agg #[.int .i64 p, .int .i64 c])).run Tryz.prog W = .ok () (W.setCells g 0 [.int .i64 p, .int .i64 c]) := by
  have hs := run_storeCells_cells (P := Tryz.prog) g 0 [.int .i64 p, .int .i64 c] 0 W (fun j hj => by
      match j, hj with
      | 0, _ => simp [h0]
      | 1, _ => simp [h1]
      | j + 2, hj => exact absurd hj (by simp)) (fun j hj => by
      match j, hj with
      | 0, _ => simpa using f0
      | 1, _ => simpa using f1
      | j + 2, hj => exact absurd hj (by simp)) (by intro v hv; simp at hv; rcases hv with rfl | rfl <;> rfl)
  simp only [Nat.add_zero] at hs
  simp [storeVar, Value.cells, Result.andThen, hs]
theorem setV (g h : Nat) (p c : Int) (o0 o1 : Value) (W : World) (h0 : W.cell? ⟨h, 0, none⟩ = some (.int .i64 p)) (h1 : W.cell? ⟨h, 1, none⟩ = some (.int .i64 c)) (g0 : W.cell? ⟨g, 0, none⟩ = some o0) (g1 : W.cell? ⟨g, 1, none⟩ = some o1) (f0 : W.frozen? ⟨g, 0, none⟩ = false) (f1 : W.frozen? ⟨g, 1, none⟩ = false) :
    (ReflectliteValue.set #[.agg #[hd 64, .pointer (some ⟨g, 0, none⟩), .int .u64 409], .agg #[hd 64, .pointer (some ⟨h, 0, none⟩), .int .u64 153]]).run Tryz.prog W
      = .ok (.tuple #[]) (W.setCells g 0 [.int .i64 p, .int .i64 c]) := by
  have hl := loadV h p c W h0 h1
  have hs := storeV g p c o0 o1 W g0 g1 f0 f1
  rw [rls]
  simp only [Sem.run_bind, partsVa, partsV, Result.andThen]
  simp [ReflectliteValue.flagAddr, hl, Result.andThen, directV, hs]

/-- errors.errorType holds the handle of the type error. -/
def Hnd (w : World) : Prop := w.cell? ⟨0, 0, none⟩ = some (.iface 100 (.agg #[hd 40]))
theorem Hnd.below {w w' : World} (h : Hnd w) (hb : Below w.heap.size w w') : Hnd w' := (hb.cell (World.block_lt_of_cell? w _ h)).trans h

theorem run_new (w : World) (c : Array Value) (t : TypeId) : (w.alloc (.cells c t)).heap[w.heap.size]? = some (.cells c t (0, 0)) := heap_alloc_new w _

set_option maxHeartbeats 4000000 in
theorem as_hit (p c : Int) (g : Nat) (o0 o1 : Value) (w : World) (hg : Hnd w) (ht : w.heap[g]? = some (.cells #[o0, o1] 64 (0, 0))) :
    Calls Tryz.prog 36 #[pv p c, .iface 66 (.pointer (some ⟨g, 0, none⟩))] w fun ev w' => ev = .returned (.bool true) ∧ w'.cell? ⟨g, 0, none⟩ = some (.int .i64 p) ∧ w'.cell? ⟨g, 1, none⟩ = some (.int .i64 c) ∧ Below g w w' := by
  unfold Hnd at hg
  have h6 := @run_callFunc_extern Tryz.prog 48 _ (fun args => ReflectliteValue.unpack (args.getD 0 (.tuple #[]))) Tryz.func48 (by kernel_rfl) (by kernel_rfl) (by kernel_rfl) (by kernel_rfl)
  have h7 := @run_callFunc_extern Tryz.prog 49 _ (ReflectliteValue.methodAny (ReflectliteValue.valueError "reflectlite.Value.Type" 0) (fun t _ _ _ => ReflectliteType.toType t)) Tryz.func49 (by kernel_rfl) (by kernel_rfl) (by kernel_rfl) (by kernel_rfl)
  have h8 := @run_callFunc_extern Tryz.prog 50 _ (ReflectliteValue.method (ReflectliteValue.valueError "reflectlite.Value.IsNil" 0) ReflectliteValue.isNil) Tryz.func50 (by kernel_rfl) (by kernel_rfl) (by kernel_rfl) (by kernel_rfl)
  have h27 := @run_callFunc_extern Tryz.prog 124 _ (ReflectliteType.abiMethod fun t => do pure (.int .u8 (← Rtype.kind t))) Tryz.func124 (by kernel_rfl) (by kernel_rfl) (by kernel_rfl) (by kernel_rfl)
  have h37 := @run_callFunc_extern Tryz.prog 135 _ (ReflectliteType.method ReflectliteType.elem) Tryz.func135 (by kernel_rfl) (by kernel_rfl) (by kernel_rfl) (by kernel_rfl)
  have h38 := @run_callFunc_extern Tryz.prog 136 _ (ReflectliteType.relation "Implements" ReflectliteType.implements_) Tryz.func136 (by kernel_rfl) (by kernel_rfl) (by kernel_rfl) (by kernel_rfl)
  have h10 := @run_callFunc_extern Tryz.prog 66 _ ReflectliteType.typeOf Tryz.func66 (by kernel_rfl) (by kernel_rfl) (by kernel_rfl) (by kernel_rfl)
  have h35 := @run_callFunc_extern Tryz.prog 133 _ (ReflectliteType.relation "AssignableTo" ReflectliteType.assignableTo) Tryz.func133 (by kernel_rfl) (by kernel_rfl) (by kernel_rfl) (by kernel_rfl)
  have h11 := @run_callFunc_extern Tryz.prog 67 _ (ReflectliteValue.method (ReflectliteValue.valueError "reflectlite.Value.Elem" 0) ReflectliteValue.elem) Tryz.func67 (by kernel_rfl) (by kernel_rfl) (by kernel_rfl) (by kernel_rfl)
  have h12 := @run_callFunc_extern Tryz.prog 68 _ ReflectliteValue.set Tryz.func68 (by kernel_rfl) (by kernel_rfl) (by kernel_rfl) (by kernel_rfl)
  have tO := typeOfV
  have mA := methodAssignableTo
  have a25 := assignableV
  have v25 := valueOfV
  have f6 := valueOfP
  have f7 := typeP
  have mK := methodKind
  have mE := methodElem
  have mI := methodImplements
  have k27 := kindP
  have k25 := kindV
  have e27 := elemP
  have i25 := implementsV
  have n8 := isNilP ⟨w.heap.size, 0, none⟩ ⟨g, 0, none⟩ ((w.alloc (.cells #[.pointer (some ⟨g, 0, none⟩)] 66)).alloc (.cells #[hd 66, .pointer (some ⟨w.heap.size, 0, none⟩), .int .u64 150] 79)) (by simp)
  have hlt : 0 < w.heap.size := World.block_lt_of_cell? w _ hg
  have hg2 : ((w.alloc (.cells #[.pointer (some ⟨g, 0, none⟩)] 66)).alloc (.cells #[hd 66, .pointer (some ⟨w.heap.size, 0, none⟩), .int .u64 150] 79)).cell? ⟨0, 0, none⟩ = some (.iface 100 (.agg #[hd 40])) := by
    rw [World.cell?_alloc_lt _ _ ⟨0, 0, none⟩ (by first | (simp; done) | (simp; omega)), World.cell?_alloc_lt _ _ ⟨0, 0, none⟩ hlt]; exact hg
  have htl : g < w.heap.size := (Array.getElem?_eq_some_iff.1 ht).1
  have c0 : w.cell? ⟨g, 0, none⟩ = some o0 := by rw [cell_of_row w g 0 _ _ _ ht]; rfl
  have c1 : w.cell? ⟨g, 1, none⟩ = some o1 := by rw [cell_of_row w g 1 _ _ _ ht]; rfl
  have z0 : w.frozen? ⟨g, 0, none⟩ = false := by simp [World.frozen?, ht]
  have z1 : w.frozen? ⟨g, 1, none⟩ = false := by simp [World.frozen?, ht]
  have el := elemVP ⟨w.heap.size, 0, none⟩ ⟨g, 0, none⟩ (((w.alloc (.cells #[.pointer (some ⟨g, 0, none⟩)] 66)).alloc (.cells #[hd 66, .pointer (some ⟨w.heap.size, 0, none⟩), .int .u64 150] 79)).alloc (.cells #[hd 66, .pointer (some ⟨w.heap.size, 0, none⟩), .int .u64 150] 79)) (by rw [World.cell?_alloc_lt _ _ ⟨w.heap.size, 0, none⟩ (by simp; omega)]; simp)
  have st := setV g (w.heap.size + 1 + 1 + 1) p c o0 o1 ((((w.alloc (.cells #[.pointer (some ⟨g, 0, none⟩)] 66)).alloc (.cells #[hd 66, .pointer (some ⟨w.heap.size, 0, none⟩), .int .u64 150] 79)).alloc (.cells #[hd 66, .pointer (some ⟨w.heap.size, 0, none⟩), .int .u64 150] 79)).alloc (.cells #[.int .i64 p, .int .i64 c] 64))
    (by rw [World.cell?_alloc_at _ _ _ _ (by simp)]; rfl) (by rw [World.cell?_alloc_at _ _ _ _ (by simp)]; rfl)
    (by rw [World.cell?_alloc_lt _ _ ⟨g, 0, none⟩ (by simp; omega), World.cell?_alloc_lt _ _ ⟨g, 0, none⟩ (by simp; omega), World.cell?_alloc_lt _ _ ⟨g, 0, none⟩ (by simp; omega), World.cell?_alloc_lt _ _ ⟨g, 0, none⟩ htl]; exact c0)
    (by rw [World.cell?_alloc_lt _ _ ⟨g, 1, none⟩ (by simp; omega), World.cell?_alloc_lt _ _ ⟨g, 1, none⟩ (by simp; omega), World.cell?_alloc_lt _ _ ⟨g, 1, none⟩ (by simp; omega), World.cell?_alloc_lt _ _ ⟨g, 1, none⟩ htl]; exact c1)
    (by rw [World.frozen?_alloc_old _ _ ⟨g, 0, none⟩ (by simp; omega), World.frozen?_alloc_old _ _ ⟨g, 0, none⟩ (by simp; omega), World.frozen?_alloc_old _ _ ⟨g, 0, none⟩ (by simp; omega), World.frozen?_alloc_old _ _ ⟨g, 0, none⟩ (Nat.ne_of_lt htl)]; exact z0)
    (by rw [World.frozen?_alloc_old _ _ ⟨g, 1, none⟩ (by simp; omega), World.frozen?_alloc_old _ _ ⟨g, 1, none⟩ (by simp; omega), World.frozen?_alloc_old _ _ ⟨g, 1, none⟩ (by simp; omega), World.frozen?_alloc_old _ _ ⟨g, 1, none⟩ (Nat.ne_of_lt htl)]; exact z1)
  have HFIN := Lib.hid (show ∀ U : World, (∃ W4 : World, Below w.heap.size w W4 ∧ U = W4.setCells g 0 [.int .i64 p, .int .i64 c]) → U.cell? ⟨g, 0, none⟩ = some (.int .i64 p) ∧ U.cell? ⟨g, 1, none⟩ = some (.int .i64 c) ∧ Below g w U by
    rintro U ⟨W4, hb, rfl⟩
    have b0 : W4.heap[g]? = some (.cells #[o0, o1] 64 (0, 0)) := (hb.block g htl).trans ht
    have r1 := Flat.RowF.set (w := W4) (g := g) (t := 64) (fr := (0, 0)) (xs := [o0, o1]) b0 0 (.int .i64 p)
    have r2 := Flat.RowF.set r1 1 (.int .i64 c)
    refine ⟨?_, ?_, (hb.mono (Nat.le_of_lt htl)).trans (((Below.refl g W4).setCell (p := ⟨g, 0, none⟩) (Nat.le_refl g) _).setCell (p := ⟨g, 1, none⟩) (Nat.le_refl g) _)⟩
    · exact (r2.cell 0).trans rfl
    · exact (r2.cell 1).trans rfl)
  clear c0 c1 z0 z1 hlt
  go_enter Tryz.func36, Tryz.ntmps36
  go_wp2
  refine wp_loop_rounds 1 ?_
  rw [rounds_succ]
  go_wp2
  go_ret
  exact ⟨rfl, HFIN.out _ ⟨_, ((((Below.refl _ _).alloc (Nat.le_refl _) _).alloc (by simp) _).alloc (by simp; omega) _).alloc (by simp; omega) _, rfl⟩⟩
end Go.Proofs.YtggobhpjfflooaaGreatDoor.As
