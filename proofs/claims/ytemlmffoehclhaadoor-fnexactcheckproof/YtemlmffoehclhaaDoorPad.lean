/-
  What is proved: what stands behind a text, as both make it (contracts for the walks).
-/
import Derived.Test.YtemlmffoehclhaaDoorRows
import Derived.Test.YtemlmffoehclhaaDoorMore
import Derived.Test.YtemlmffoehclhaaDoorBytes
namespace Go.Proofs.YtemlmffoehclhaaDoor.Pad
open Go.ChangeShapes Go.WideShapes Go.ChangeAt Go.RowKit
open Word
open Bytes (BV Owns)
open Arr (Row)
set_option linter.unusedVariables false

def zer (n : Nat) : Nat := (119 - n % 64) % 64
theorem zer_lt (n : Nat) : zer n < 64 := Nat.mod_lt _ (by omega)
/-- The first k of the eight bytes of a number, the highest first. -/
def be8 (m : Nat) : Nat → List UInt8
  | 0 => []
  | k + 1 => be8 m k ++ [UInt8.ofNat (m / 2 ^ (56 - 8 * k))]
theorem be8_length (m : Nat) : ∀ k, (be8 m k).length = k
  | 0 => rfl
  | k + 1 => by simp [be8, be8_length m k]
def head (z : Nat) : List UInt8 := 128 :: List.replicate z 0
def pad (n : Nat) : List UInt8 := head (zer n) ++ be8 (8 * n) 8
theorem byte_cell (m p : Nat) : BV [UInt8.ofNat (m / 2 ^ p)] = [.int .u8 ((m : Int) / 2 ^ p % 256)] := by
  simp only [BV, List.map_cons, List.map_nil, UInt8.toNat_ofNat']
  congr 2
theorem head_length (z : Nat) : (head z).length = 1 + z := by simp [head]; omega
theorem owns_head (w : World) (z c : Nat) (mc : Array Value) (h : 1 + z ≤ c) (hc : c ≤ 1000) (hmc : mc.toList = List.replicate c (.int .u8 0)) :
    Owns (w.alloc (.cells (mc.setIfInBounds 0 (.int .u8 128)) 5)) w.heap.size (.slice (some ⟨w.heap.size, 0, none⟩) (1 + z) c) (head z) := by
  have hs : mc.size = c := by have := congrArg List.length hmc; simpa using this
  refine ⟨by simp [BV], Or.inr ⟨w.heap.size, c, mc.setIfInBounds 0 (.int .u8 128), by rw [head_length], Nat.le_refl _, heap_alloc_new w _, by rw [head_length]; exact h, by unfold maxLen; omega, by simp [hs], ?_⟩⟩
  rw [head_length, Array.toList_setIfInBounds, hmc]
  obtain ⟨d, rfl⟩ : ∃ d, c = 1 + z + d := ⟨c - (1 + z), by omega⟩
  rw [show 1 + z + d = (z + d) + 1 by omega, List.replicate_succ, List.set_cons_zero, Nat.mul_one, Nat.add_comm 1 z, List.take_succ_cons]
  simp [BV, head]

set_option maxRecDepth 100000 in
set_option maxHeartbeats 1600000 in
theorem padding (n : Nat) (hn : n ≤ 2000000000) (w : World) :
    Calls Tryd.prog 75 #[.int .i64 (n : Int)] w fun e w' => e = .returned (.string ⟨(pad n).toArray⟩) ∧ Below w.heap.size w w' := by
  obtain ⟨i0, hi0, hz0, hz1, hz2⟩ := info_parts Bytes.info5
  obtain ⟨zz, hzz⟩ : ∃ zz, zer n = zz := ⟨_, rfl⟩
  have hzer : zz < 64 := by rw [← hzz]; exact zer_lt n
  have hzi : ((119 : Int) - (n : Int) % 64) % 64 = (zz : Int) := by rw [← hzz]; unfold zer; omega
  have HZZ := Lib.hid (show pad n = head zz ++ be8 (8 * n) 8 by unfold pad; rw [hzz])
  clear hzz
  have hmk : ∀ u : World, (Instr.makeSlice 22 (.int .i64 (1 + (zz : Int))) (.int .i64 (1 + (zz : Int) + 8))).run Tryd.prog u =
      .ok (.slice (some ⟨u.heap.size, 0, none⟩) (1 + zz) (1 + zz + 8)) (u.alloc (.cells (madeCells #[.int .u8 0] (1 + zz + 8)) 5)) := fun u => by
    have h := run_make (P := Tryd.prog) u 22 5 i0 (.int .u8 0) Tryd.underlying22 hi0 hz0 .i64 .i64 (1 + (zz : Int)) (1 + (zz : Int) + 8) (by omega) (by omega) (by rw [hz2]; omega) (by omega)
    have e : (1 + (zz : Int) + 8).toNat = 1 + zz + 8 := by omega
    have e2 : (1 + (zz : Int)).toNat = 1 + zz := by omega
    rw [e, e2] at h
    simpa [hz1, Value.cells] using h
  have HMC := Lib.hid (toList_madeCells_one (.int .u8 0) (1 + zz + 8))
  have hm0 : (madeCells #[Value.int .u8 0] (1 + zz + 8))[0]? = some (.int .u8 0) := by
    rw [← Array.getElem?_toList, HMC.out]; simp
  generalize madeCells #[Value.int .u8 0] (1 + zz + 8) = mc at hmk hm0 HMC
  go_enter Tryd.func75, Tryd.ntmps75
  go_wp2
  clear hmk hm0 hzi
  generalize ((119 : Int) - (n : Int) % 64) % 64 = zi
  go_loopw [4, 6] (fun v i wr => ∃ k : Nat, k ≤ 8 ∧ i = .int .i64 (56 - 8 * (k : Int)) ∧ Hid (Owns wr w.heap.size v (head zz ++ be8 (8 * n) k)) ∧ Hid (Below w.heap.size w wr)) (fun _ i _ => (intOf i + 8).toNat)
  case atStart => exact ⟨0, by omega, rfl, Lib.hid (by rw [show be8 (8 * n) 0 = [] from rfl, List.append_nil]; exact owns_head w zz _ mc (by omega) (by omega) HMC.out), Lib.hid ((Below.refl _ _).alloc (Nat.le_refl _) _)⟩
  case round =>
    rename_i wr
    obtain ⟨k, hk, rfl, R, HB⟩ := hrel
    obtain ⟨bs, hbs⟩ : ∃ bs, head zz ++ be8 (8 * n) k = bs := ⟨_, rfl⟩
    have hl1 : bs.length ≤ 80 := by rw [← hbs, List.length_append, head_length, be8_length]; omega
    rw [hbs] at R
    have HBS := Lib.hid hbs
    clear hbs
    have hz := Lib.hid HB.out.size
    by_cases hlt : k < 8
    · have hk2 : 0 ≤ 56 - 8 * (k : Int) := by omega
      have HV := Lib.hid (byte_cell (8 * n) (56 - 8 * k))
      rw [Int.natCast_mul, show ((8 : Nat) : Int) = 8 from rfl] at HV
      go_wp2_with (at_builtin; refine wpList_append_lies _ rfl _ _ _ rfl w.heap.size 5 i0 _ 1 1 Tryd.underlying22 hi0 hz0 hz1 hz2 rfl (by omega) _ bs.length (BV bs) (by rfl) (World.ownsRow.alloc R.out _) ⟨wr.heap.size, 0, none⟩ 1 1 [.int .u8 (8 * (n : Int) / 2 ^ (56 - 8 * k) % 256)] (by rfl) (by rfl) (World.news_of_block (cs := #[.int .u8 (8 * (n : Int) / 2 ^ (56 - 8 * k) % 256)]) (t := 5) (fr := (0, 0)) (heap_alloc_new wr _)) (by simp [Value.oneCell']) (by omega) (by unfold maxLen; omega) (by omega) (by have := hz.out; simp; omega) (wr.heap.size + 1) (by simp) ?_; intro gg cap w1 hown1 hgrow hat hlt1; have HO := Lib.hid hown1; have HG := Lib.hid hgrow; clear hown1 hgrow hat hlt1)
      go_roundw
      case rel => exact ⟨k + 1, by omega, by congr 1; omega, Lib.hid (by
        rw [show be8 (8 * n) (k + 1) = be8 (8 * n) k ++ [UInt8.ofNat (8 * n / 2 ^ (56 - 8 * k))] from rfl, ← List.append_assoc, HBS.out]
        have := HO.out
        rw [← HV.out] at this
        exact Bytes.owns_grown this rfl), Lib.hid ((HB.out.trans ((Below.refl _ _).alloc HB.out.size _)).grown HG.out (by have := hz.out; simp; omega) (Owns.block R.out))⟩
      case measure => simp [intOf]; omega
    · have hconv := R.out.string
      have hk8 : k = 8 := by omega
      subst hk8
      rw [← HBS.out, ← HZZ.out] at hconv
      go_wp2
      go_ret
      exact ⟨rfl, HB.out⟩
end Go.Proofs.YtemlmffoehclhaaDoor.Pad
