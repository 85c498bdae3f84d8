/-
  What is proved: the model's word of four bytes, and its table, are the plain ones (contracts for the walks).
-/
import Derived.Test.YtemlmffoehclhaaDoorRows
import Derived.Test.YtemlmffoehclhaaDoorRot
import Derived.Test.YtemlmffoehclhaaDoorMixBlock
namespace Go.Proofs.YtemlmffoehclhaaDoor.SpecWord
open Go.ChangeShapes Go.WideShapes Go.ChangeAt Go.RowKit
open Word
open MixBlock (KL kk c64)
set_option linter.unusedVariables false

def mwAt (s : ByteArray) (a : Nat) : Nat := bN s a * 16777216 + bN s (a + 1) * 65536 + bN s (a + 2) * 256 + bN s (a + 3)
theorem mwAt_mw (s : ByteArray) (j : Nat) : mwAt s (4 * j) = mw s j := rfl

theorem ret_int {k : IntKind} {a b : Int} (h : a = b) : Ending.returned (.int k a) = .returned (.int k b) := by rw [h]

set_option maxHeartbeats 800000 in
theorem word (s : ByteArray) (a : Nat) (h : a + 3 < s.size) (hs : s.size ≤ 1048576) (w : World) :
    Calls Tryd.prog 82 #[.string s, .int .i64 (a : Int)] w fun e w' => e = .returned (.int .i64 (mwAt s a : Int)) ∧ ∃ n, w' = w.drewN n := by
  obtain ⟨x0, e0, hx0⟩ : ∃ x : Nat, bN s a = x ∧ x < 256 := ⟨_, rfl, bN_lt _ _⟩
  obtain ⟨x1, e1, hx1⟩ : ∃ x : Nat, bN s (a + 1) = x ∧ x < 256 := ⟨_, rfl, bN_lt _ _⟩
  obtain ⟨x2, e2, hx2⟩ : ∃ x : Nat, bN s (a + 2) = x ∧ x < 256 := ⟨_, rfl, bN_lt _ _⟩
  obtain ⟨x3, e3, hx3⟩ : ∃ x : Nat, bN s (a + 3) = x ∧ x < 256 := ⟨_, rfl, bN_lt _ _⟩
  have HM := Lib.hid (show mwAt s a = x0 * 16777216 + x1 * 65536 + x2 * 256 + x3 by unfold mwAt; rw [e0, e1, e2, e3])
  obtain ⟨a1, f1⟩ : ∃ n, a + 1 = n := ⟨_, rfl⟩
  obtain ⟨a2, f2⟩ : ∃ n, a + 2 = n := ⟨_, rfl⟩
  obtain ⟨a3, f3⟩ : ∃ n, a + 3 = n := ⟨_, rfl⟩
  have n0 : a < s.size := by omega
  have n1 : a1 < s.size := by omega
  have n2 : a2 < s.size := by omega
  have n3 : a3 < s.size := by omega
  have q0 : s[a].toNat = x0 := by rw [bN_at]; exact e0
  have q1 : s[a1].toNat = x1 := by rw [bN_at, ← f1]; exact e1
  have q2 : s[a2].toNat = x2 := by rw [bN_at, ← f2]; exact e2
  have q3 : s[a3].toNat = x3 := by rw [bN_at, ← f3]; exact e3
  have g1 : (a : Int) + 1 = (a1 : Int) := by omega
  have g2 : (a : Int) + 2 = (a2 : Int) := by omega
  have g3 : (a : Int) + 3 = (a3 : Int) := by omega
  have j1 : IntKind.i64.wrap (a1 : Int) = a1 := by rw [IntKind.wrap_i64]; omega
  have j2 : IntKind.i64.wrap (a2 : Int) = a2 := by rw [IntKind.wrap_i64]; omega
  have j3 : IntKind.i64.wrap (a3 : Int) = a3 := by rw [IntKind.wrap_i64]; omega
  have b0 : (a : Int) < (s.size : Int) := by omega
  have b1 : (a1 : Int) < (s.size : Int) := by omega
  have b2 : (a2 : Int) < (s.size : Int) := by omega
  have b3 : (a3 : Int) < (s.size : Int) := by omega
  have v0a : IntKind.i64.wrap (x0 : Int) = x0 := by rw [IntKind.wrap_i64]; omega
  have v1a : IntKind.i64.wrap (x1 : Int) = x1 := by rw [IntKind.wrap_i64]; omega
  have v2a : IntKind.i64.wrap (x2 : Int) = x2 := by rw [IntKind.wrap_i64]; omega
  have v3a : IntKind.i64.wrap (x3 : Int) = x3 := by rw [IntKind.wrap_i64]; omega
  have v0b : IntKind.i64.wrap ((x0 : Int) * 16777216) = (x0 : Int) * 16777216 := by rw [IntKind.wrap_i64]; omega
  have v1b : IntKind.i64.wrap ((x1 : Int) * 65536) = (x1 : Int) * 65536 := by rw [IntKind.wrap_i64]; omega
  have v2b : IntKind.i64.wrap ((x2 : Int) * 256) = (x2 : Int) * 256 := by rw [IntKind.wrap_i64]; omega
  clear e0 e1 e2 e3 f1 f2 f3
  go_enter Tryd.func82, Tryd.ntmps82
  go_wp2
  go_quiet (fail)
  go_wp2
  go_ret
  exact ⟨ret_int ((i64_word x0 x1 x2 x3 hx0 hx1 hx2 hx3).trans (by rw [HM.out])), _, rfl⟩

def KZ : List Int := [1116352408, 1899447441, 3049323471, 3921009573, 961987163, 1508970993, 2453635748, 2870763221, 3624381080, 310598401, 607225278, 1426881987, 1925078388, 2162078206, 2614888103, 3248222580, 3835390401, 4022224774, 264347078, 604807628, 770255983, 1249150122, 1555081692, 1996064986, 2554220882, 2821834349, 2952996808, 3210313671, 3336571891, 3584528711, 113926993, 338241895, 666307205, 773529912, 1294757372, 1396182291, 1695183700, 1986661051, 2177026350, 2456956037, 2730485921, 2820302411, 3259730800, 3345764771, 3516065817, 3600352804, 4094571909, 275423344, 430227734, 506948616, 659060556, 883997877, 958139571, 1322822218, 1537002063, 1747873779, 1955562222, 2024104815, 2227730452, 2361852424, 2428436474, 2756734187, 3204031479, 3329325298]
theorem KZ_eq : KL.map (fun x : Nat => (x : Int)) = KZ := by decide +kernel
def kcells : List Value := [.int .i64 1116352408, .int .i64 1899447441, .int .i64 3049323471, .int .i64 3921009573, .int .i64 961987163, .int .i64 1508970993, .int .i64 2453635748, .int .i64 2870763221, .int .i64 3624381080, .int .i64 310598401, .int .i64 607225278, .int .i64 1426881987, .int .i64 1925078388, .int .i64 2162078206, .int .i64 2614888103, .int .i64 3248222580, .int .i64 3835390401, .int .i64 4022224774, .int .i64 264347078, .int .i64 604807628, .int .i64 770255983, .int .i64 1249150122, .int .i64 1555081692, .int .i64 1996064986, .int .i64 2554220882, .int .i64 2821834349, .int .i64 2952996808, .int .i64 3210313671, .int .i64 3336571891, .int .i64 3584528711, .int .i64 113926993, .int .i64 338241895, .int .i64 666307205, .int .i64 773529912, .int .i64 1294757372, .int .i64 1396182291, .int .i64 1695183700, .int .i64 1986661051, .int .i64 2177026350, .int .i64 2456956037, .int .i64 2730485921, .int .i64 2820302411, .int .i64 3259730800, .int .i64 3345764771, .int .i64 3516065817, .int .i64 3600352804, .int .i64 4094571909, .int .i64 275423344, .int .i64 430227734, .int .i64 506948616, .int .i64 659060556, .int .i64 883997877, .int .i64 958139571, .int .i64 1322822218, .int .i64 1537002063, .int .i64 1747873779, .int .i64 1955562222, .int .i64 2024104815, .int .i64 2227730452, .int .i64 2361852424, .int .i64 2428436474, .int .i64 2756734187, .int .i64 3204031479, .int .i64 3329325298]
theorem kcells_eq : kcells = c64 KL := by
  have h : c64 KL = (KL.map (fun x : Nat => (x : Int))).map (Value.int .i64) := by simp [c64]
  rw [h, KZ_eq]
  rfl

theorem kcells_one : kcells.toArray.all (·.oneCell') = true := by decide +kernel
theorem kinfo : (Tryd.prog.info? 92).map (·.size) = some kcells.toArray.size := by kernel_rfl
theorem khere (w : World) (z : Array Value) (h : z.size = 64) : (w.alloc (.cells z 92)).there w.heap.size 0 kcells.toArray.size := by
  have := (Arr.row_new w z 92).there
  have e : z.toList.length = kcells.toArray.size := by rw [Array.length_toList, h]; rfl
  rw [e] at this
  exact this
theorem kres (w : World) (z : Array Value) (h : z.size = 64) : Arr.Row ((w.alloc (.cells z 92)).setCells w.heap.size 0 kcells.toArray.toList) w.heap.size 92 kcells :=
  (Arr.row_new w z 92).sets_all (vs := kcells) (by rw [show z.toList.length = 64 from h]; rfl)

set_option maxRecDepth 100000 in
set_option maxHeartbeats 1600000 in
theorem table0 (w : World) :
    Calls Tryd.prog 84 #[] w fun e w' => e = .returned (.agg kcells.toArray) ∧ Below w.heap.size w w' := by
  go_enter Tryd.func84, Tryd.ntmps84
  go_wp2_with (refine wpList_store_mid rfl 92 _ _ rfl w.heap.size 0 kcells.toArray rfl rfl (khere w _ rfl) kinfo kcells_one ?_)
  refine bodyPost_ret (v := .agg kcells.toArray) ?_ rfl ⟨rfl, ?_⟩
  · exact results_cell_row rfl _ _ w.heap.size 92 _ (0, 0) _ rfl (kres w _ rfl) Tryd.underlying92 rfl kinfo
  · exact Arr.below_sets w.heap.size (Nat.le_refl _) _ _ _ ((Below.refl _ _).alloc (Nat.le_refl _) _)
theorem table (w : World) :
    Calls Tryd.prog 84 #[] w fun e w' => e = .returned (.agg (c64 KL).toArray) ∧ Below w.heap.size w w' := by
  have := table0 w
  rw [kcells_eq] at this
  exact this
end Go.Proofs.YtemlmffoehclhaaDoor.SpecWord
