/-
  What is proved: the model's call of a block answers what the program's does; the law on them returns true (the walk).
-/
import Derived.Test.YtcfdnifllehbjaaDoorRows
import Derived.Test.YtcfdnifllehbjaaDoorSpCha2
namespace Go.Proofs.YtcfdnifllehbjaaDoor.SpCha3
open Go.ChangeShapes Go.WideShapes Go.ChangeAt Go.RowKit
open ChaBlk (blkT fault res)
set_option linter.unusedVariables false

theorem askM (key nonce : ByteArray) (count : Int) (hk : key.size ≤ maxLen) (hn : nonce.size ≤ maxLen) (w : World) :
    Calls Tryd.prog 40 #[.string key, .string nonce, .int .i64 count] w fun e w' => e = .returned (.int .i64 (ChaBlk.ask key nonce count)) ∧ w = w' := by
  unfold maxLen at hk hn
  unfold ChaBlk.ask
  by_cases h3 : key.size = 32
  · have e3 : ((key.size : Int) != 32) = false := by simp; omega
    by_cases h4 : nonce.size = 12
    · have e4 : ((nonce.size : Int) != 12) = false := by simp; omega
      rw [if_neg (by omega)]
      by_cases h5 : count < 0
      · rw [if_pos (.inl h5)]
        have d5 : decide (0 ≤ count) = false := decide_eq_false (by omega)
        clear h3 h4 h5
        go_enter Tryd.func40, Tryd.ntmps40
        go_wp2
        go_ret
        exact ⟨rfl, rfl⟩
      · have d5 : decide (0 ≤ count) = true := decide_eq_true (by omega)
        by_cases h6 : 1000000000 < count
        · rw [if_pos (.inr h6)]
          have d6 : decide (count ≤ 1000000000) = false := decide_eq_false (by omega)
          clear h3 h4 h5 h6
          go_enter Tryd.func40, Tryd.ntmps40
          go_wp2
          go_ret
          exact ⟨rfl, rfl⟩
        · have d6 : decide (count ≤ 1000000000) = true := decide_eq_true (by omega)
          rw [if_neg (by omega)]
          clear h3 h4 h5 h6
          go_enter Tryd.func40, Tryd.ntmps40
          go_wp2
          go_ret
          exact ⟨rfl, rfl⟩
    · have e4 : ((nonce.size : Int) != 12) = true := by simp; omega
      rw [if_pos (.inr h4)]
      clear h3 h4
      go_enter Tryd.func40, Tryd.ntmps40
      go_wp2
      go_ret
      exact ⟨rfl, rfl⟩
  · have e3 : ((key.size : Int) != 32) = true := by simp; omega
    rw [if_pos (.inl h3)]
    clear h3
    go_enter Tryd.func40, Tryd.ntmps40
    go_wp2
    go_ret
    exact ⟨rfl, rfl⟩

theorem res_form (key nonce : ByteArray) (count : Int) : ∃ (s : ByteArray) (c : Int), res key nonce count = .tuple #[.string s, .int .i64 c] := by
  unfold res
  split
  · exact ⟨_, _, rfl⟩
  · exact ⟨_, _, rfl⟩

end Go.Proofs.YtcfdnifllehbjaaDoor.SpCha3
