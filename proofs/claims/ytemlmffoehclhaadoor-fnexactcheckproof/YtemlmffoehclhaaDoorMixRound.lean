/-
  What is proved: one turn of the digest on words of uint32 is the plain turn (contract for the walks).
-/
import Derived.Test.YtemlmffoehclhaaDoorRows
import Derived.Test.YtemlmffoehclhaaDoorRot
import Derived.Test.YtemlmffoehclhaaDoorEq8
namespace Go.Proofs.YtemlmffoehclhaaDoor.MixRound
open Go.ChangeShapes Go.WideShapes Go.ChangeAt Go.RowKit
open Word
set_option linter.unusedVariables false

def agg32 (s : St) : Value := .agg #[.int .u32 (s.a : Int), .int .u32 (s.b : Int), .int .u32 (s.c : Int), .int .u32 (s.d : Int), .int .u32 (s.e : Int), .int .u32 (s.f : Int), .int .u32 (s.g : Int), .int .u32 (s.h : Int)]

set_option maxRecDepth 100000 in
set_option maxHeartbeats 1600000 in
theorem turn (a b c d e f g z kw : Nat) (ha : a < 4294967296) (hb : b < 4294967296) (hc : c < 4294967296) (hd : d < 4294967296) (he : e < 4294967296) (hf : f < 4294967296) (hg : g < 4294967296) (hh : z < 4294967296) (hk : kw < 4294967296) (w : World) :
    Calls Tryd.prog 80 #[.agg #[.int .u32 (a : Int), .int .u32 (b : Int), .int .u32 (c : Int), .int .u32 (d : Int), .int .u32 (e : Int), .int .u32 (f : Int), .int .u32 (g : Int), .int .u32 (z : Int)], .int .u32 (kw : Int)] w fun e' w' => e' = .returned (agg32 (St.turn ⟨a, b, c, d, e, f, g, z⟩ kw)) ∧ Below w.heap.size w w' := by
  go_enter Tryd.func80, Tryd.ntmps80
  go_wp2
  go_quiet (fail)
  go_wp2
  go_quiet (fail)
  go_wp2
  go_quiet ((go_at_call 85; exact Rot.on (Rot.impl _ _ he (by unfold Rot.Turns; decide))))
  go_wp2_with fail
  refine (Rot.impl _ _ ha (by unfold Rot.Turns; decide) _).mono ?_
  rintro e' w' ⟨rfl, m1, rfl⟩
  go_wp2_with fail
  refine (Rot.impl _ _ ha (by unfold Rot.Turns; decide) _).mono ?_
  rintro e' w' ⟨rfl, m2, rfl⟩
  go_wp2_with fail
  refine (Rot.impl _ _ ha (by unfold Rot.Turns; decide) _).mono ?_
  rintro e' w' ⟨rfl, m3, rfl⟩
  go_wp2
  rw [u32_S1, u32_S0, u32_ch e f g he hf hg, u32_maj a b c ha hb hc, sum_a, sum_e]
  refine bodyPost_ret (v := agg32 (St.turn ⟨a, b, c, d, e, f, g, z⟩ kw)) (by simp [results, Tryd.results80, go_sem, agg32, St.turn]) rfl ⟨rfl, ?_⟩
  iterate 8 refine Below.setCell ?_ (by exact Nat.le_succ _) _
  exact below_drewN (((Below.refl _ _).alloc (Nat.le_refl _) _).alloc (by simp) _) _
end Go.Proofs.YtemlmffoehclhaaDoor.MixRound
