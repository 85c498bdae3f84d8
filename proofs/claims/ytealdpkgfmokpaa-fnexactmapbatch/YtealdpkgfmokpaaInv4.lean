/-
  What is proved: for regions in which operations are guarded: whether one is wanted, and a call of one of the program's functions by its contract (laws for the walks). Nothing of the program.
-/
import Derived.Test.YtealdpkgfmokpaaRows
import Derived.Test.YtealdpkgfmokpaaInv3
namespace Go.Proofs.Ytealdpkgfmokpaa.Inv4
open Go
set_option linter.unusedVariables false

theorem yld {ops : Array Oper} {tmps : Array Value} {j t : Nat} {c : Bool} (h : (ops[j]?).bind (·.dst) = some t) (h2 : tmps.getD t undef = .bool c) : yielded ops tmps j = some c := by
  unfold yielded
  rw [h, Option.bind_some]
  rw [Array.getD_eq_getD_getElem?] at h2
  cases e : tmps[t]? with
  | none => rw [e] at h2; cases h2
  | some v =>
    rw [e] at h2
    have h3 : v = .bool c := h2
    rw [h3]
theorem wanted_eq {ops : Array Oper} {tmps : Array Value} {o : Oper} {j t : Nat} {c : Bool} (hg : o.guard = some (j, true)) (h : (ops[j]?).bind (·.dst) = some t) (h2 : tmps.getD t undef = .bool c) : Region.wanted o (yielded ops tmps) = c := by
  unfold Region.wanted
  rw [hg]
  simp only
  rw [yld h h2]
  cases c <;> rfl
theorem slot {t : Array Value} {k : Nat} {v : Value} (h : t.getD k undef = v) : t[k]?.getD undef = v := by
  rw [← Array.getD_eq_getD_getElem?]
  exact h
theorem wp_call {P : Program} {o : Oper} {a : Act} {x : World} {K : Act → World → Prop} {Q : Exit → Act → World → Prop} (f : FuncId) (args : Array Operand) (tys : Array TypeId)
    (ho : o.op = .call { callee := .value (.func f), args := args, argTypes := tys }) (vals : Array Value) (hv : args.map a.eval = vals)
    (he : (callFunc f vals).run P x = .ok (.enter f vals) x) (hC : Calls P f vals x fun e w' => ∃ v, e = .returned v ∧ K (a.put o.dst v) w') : o.wp P a x K Q := by
  unfold Oper.wp execOp
  simp only [ho, resolve, invoke, Sem.run_bind, hv, Act.eval]
  have hd : (Deferred.ofValue (Value.func (Fn.func f) #[] #[]) vals).run P x = .ok { target := .fn (.func f) #[], args := vals } x := by
    simp [Deferred.ofValue]
  rw [hd]
  simp only [Result.andThen_ok, Array.append_empty, he]
  refine Calls.mono hC ?_
  rintro e w' ⟨v, rfl, h⟩
  exact h
end Go.Proofs.Ytealdpkgfmokpaa.Inv4
