/-
  What is proved: both tables of words, and both ways back, are one plain function each.
-/
import Derived.Test.YtifkihjjkomfiaaDoorRows
import Derived.WalkKit
import Derived.WalkLawsBesides
import Derived.ProofKit
import Derived.Outline
import Derived.Lib.Hide
import Derived.Lib.LaidTab
import Derived.Below
import Derived.Laws.Rows
import Derived.OpenShut
namespace Go.Proofs.YtifkihjjkomfiaaDoor.CodesR
open Go.ChangeShapes Go.WideShapes Go.ChangeAt Go.RowKit
set_option linter.unusedVariables false

def words : List ByteArray := [⟨#[111, 107]⟩, ⟨#[98, 97, 100]⟩, ⟨#[108, 111, 110, 103]⟩, ⟨#[102, 111, 114, 109]⟩, ⟨#[114, 97, 110, 103, 101]⟩, ⟨#[110, 111, 110, 101]⟩, ⟨#[109, 97, 110, 121]⟩, ⟨#[102, 117, 108, 108]⟩, ⟨#[115, 105, 122, 101]⟩, ⟨#[116, 97, 103]⟩, ⟨#[116, 97, 109, 112, 101, 114, 101, 100]⟩, ⟨#[116, 111, 114, 110]⟩, ⟨#[115, 116, 97, 115, 104]⟩, ⟨#[116, 97, 112, 101]⟩, ⟨#[99, 104, 101, 99, 107]⟩, ⟨#[112, 101, 110, 100, 105, 110, 103]⟩, ⟨#[100, 111, 119, 110]⟩, ⟨#[117, 112]⟩, ⟨#[115, 112, 101, 110, 116]⟩, ⟨#[107, 101, 121]⟩]
def wordAt (k : Nat) : ByteArray := words.getD k ⟨#[]⟩
def wordOf (n : Int) : ByteArray := if 0 ≤ n ∧ n < 20 then wordAt n.toNat else ⟨#[]⟩

theorem ret_str {a b : ByteArray} (h : a = b) : Ending.returned (.string a) = .returned (.string b) := by rw [h]
theorem ret_int {k : IntKind} {a b : Int} (h : a = b) : Ending.returned (.int k a) = .returned (.int k b) := by rw [h]
theorem bcell {W w1 : World} (hb : Below W.heap.size W w1) : ∀ b o, b < W.heap.size → w1.cell? ⟨b, o, none⟩ = W.cell? ⟨b, o, none⟩ :=
  fun b o h => hb.cell (p := ⟨b, o, none⟩) h

theorem made (w : World) (k : Nat) (h : k < 20) :
    (w.alloc (Obj.cells #[.string ⟨#[111, 107]⟩, .string ⟨#[98, 97, 100]⟩, .string ⟨#[108, 111, 110, 103]⟩, .string ⟨#[102, 111, 114, 109]⟩, .string ⟨#[114, 97, 110, 103, 101]⟩, .string ⟨#[110, 111, 110, 101]⟩, .string ⟨#[109, 97, 110, 121]⟩, .string ⟨#[102, 117, 108, 108]⟩, .string ⟨#[115, 105, 122, 101]⟩, .string ⟨#[116, 97, 103]⟩, .string ⟨#[116, 97, 109, 112, 101, 114, 101, 100]⟩, .string ⟨#[116, 111, 114, 110]⟩, .string ⟨#[115, 116, 97, 115, 104]⟩, .string ⟨#[116, 97, 112, 101]⟩, .string ⟨#[99, 104, 101, 99, 107]⟩, .string ⟨#[112, 101, 110, 100, 105, 110, 103]⟩, .string ⟨#[100, 111, 119, 110]⟩, .string ⟨#[117, 112]⟩, .string ⟨#[115, 112, 101, 110, 116]⟩, .string ⟨#[107, 101, 121]⟩] 9)).cell? ⟨w.heap.size, k, none⟩ = some (.string (wordAt k)) := by
  unfold wordAt words
  match k, h with
  | 0, _ => go_simp
  | 1, _ => go_simp
  | 2, _ => go_simp
  | 3, _ => go_simp
  | 4, _ => go_simp
  | 5, _ => go_simp
  | 6, _ => go_simp
  | 7, _ => go_simp
  | 8, _ => go_simp
  | 9, _ => go_simp
  | 10, _ => go_simp
  | 11, _ => go_simp
  | 12, _ => go_simp
  | 13, _ => go_simp
  | 14, _ => go_simp
  | 15, _ => go_simp
  | 16, _ => go_simp
  | 17, _ => go_simp
  | 18, _ => go_simp
  | 19, _ => go_simp
  | k + 20, h => exact absurd h (by omega)

theorem word_spec (n : Int) (w : World) :
    Calls Tryd.prog 28 #[.int .i64 n] w fun e w' => e = .returned (.string (wordOf n)) ∧ Below w.heap.size w w' := by
  by_cases h0 : n < 0
  · have hz := Lib.hid (show wordOf n = ⟨#[]⟩ by unfold wordOf; rw [if_neg (by omega)])
    go_enter Tryd.func28, Tryd.ntmps28
    go_wp2
    go_ret
    exact ⟨ret_str hz.out.symm, (Below.refl _ _).alloc (Nat.le_refl _) _⟩
  · by_cases h1 : 20 ≤ n
    · have hz := Lib.hid (show wordOf n = ⟨#[]⟩ by unfold wordOf; rw [if_neg (by omega)])
      go_enter Tryd.func28, Tryd.ntmps28
      go_wp2
      go_ret
      exact ⟨ret_str hz.out.symm, (Below.refl _ _).alloc (Nat.le_refl _) _⟩
    · obtain ⟨k, rfl⟩ := Int.eq_ofNat_of_zero_le (show 0 ≤ n by omega)
      have hk : k < 20 := by omega
      have hz := Lib.hid (show wordOf k = wordAt k by unfold wordOf; rw [if_pos (by omega)]; rfl)
      have hc := made w k hk
      have d0 : decide ((k : Int) < 0) = false := decide_eq_false (by omega)
      have d1 : decide (20 ≤ (k : Int)) = false := decide_eq_false (by omega)
      generalize wordAt k = wd at hc hz
      go_enter Tryd.func28, Tryd.ntmps28
      go_wp2
      go_ret
      exact ⟨ret_str hz.out.symm, (Below.refl _ _).alloc (Nat.le_refl _) _⟩

/-- The package's table holds its words. -/
def cellsW : Array Value := #[.string ⟨#[111, 107]⟩, .string ⟨#[98, 97, 100]⟩, .string ⟨#[108, 111, 110, 103]⟩, .string ⟨#[102, 111, 114, 109]⟩, .string ⟨#[114, 97, 110, 103, 101]⟩, .string ⟨#[110, 111, 110, 101]⟩, .string ⟨#[109, 97, 110, 121]⟩, .string ⟨#[102, 117, 108, 108]⟩, .string ⟨#[115, 105, 122, 101]⟩, .string ⟨#[116, 97, 103]⟩, .string ⟨#[116, 97, 109, 112, 101, 114, 101, 100]⟩, .string ⟨#[116, 111, 114, 110]⟩, .string ⟨#[115, 116, 97, 115, 104]⟩, .string ⟨#[116, 97, 112, 101]⟩, .string ⟨#[99, 104, 101, 99, 107]⟩, .string ⟨#[112, 101, 110, 100, 105, 110, 103]⟩, .string ⟨#[100, 111, 119, 110]⟩, .string ⟨#[117, 112]⟩, .string ⟨#[115, 112, 101, 110, 116]⟩, .string ⟨#[107, 101, 121]⟩]
def Tab (w : World) : Prop := ∃ t fr, w.heap[(0 : Nat)]? = some (.cells cellsW t fr)
theorem cellsW_at (k : Nat) (h : k < 20) : cellsW[k]? = some (.string (wordAt k)) := by
  unfold wordAt words cellsW
  match k, h with
  | 0, _ => rfl
  | 1, _ => rfl
  | 2, _ => rfl
  | 3, _ => rfl
  | 4, _ => rfl
  | 5, _ => rfl
  | 6, _ => rfl
  | 7, _ => rfl
  | 8, _ => rfl
  | 9, _ => rfl
  | 10, _ => rfl
  | 11, _ => rfl
  | 12, _ => rfl
  | 13, _ => rfl
  | 14, _ => rfl
  | 15, _ => rfl
  | 16, _ => rfl
  | 17, _ => rfl
  | 18, _ => rfl
  | 19, _ => rfl
  | k + 20, h => exact absurd h (by omega)

theorem Tab.cell {w : World} (h : Tab w) (k : Nat) (hk : k < 20) : w.cell? ⟨0, k, none⟩ = some (.string (wordAt k)) := by
  obtain ⟨t, fr, h⟩ := h
  simp only [World.cell?, h]
  exact cellsW_at k hk
theorem Tab.below {W w1 : World} (h : Tab W) (hb : Below W.heap.size W w1) : Tab w1 := by
  obtain ⟨t, fr, h⟩ := h
  refine ⟨t, fr, (hb.block _ ?_).trans h⟩
  exact (Array.getElem?_eq_some_iff.1 h).1

theorem word_impl (n : Int) (w : World) (T : Tab w) :
    Calls Tryd.prog 30 #[.int .i64 n] w fun e w' => e = .returned (.string (wordOf n)) ∧ w = w' := by
  have TT := Lib.hid T
  clear T
  by_cases h0 : n < 0
  · have hz := Lib.hid (show wordOf n = ⟨#[]⟩ by unfold wordOf; rw [if_neg (by omega)])
    go_enter Tryd.func30, Tryd.ntmps30
    go_wp2
    go_ret
    exact ⟨ret_str hz.out.symm, rfl⟩
  · by_cases h1 : 20 ≤ n
    · have hz := Lib.hid (show wordOf n = ⟨#[]⟩ by unfold wordOf; rw [if_neg (by omega)])
      go_enter Tryd.func30, Tryd.ntmps30
      go_wp2
      go_ret
      exact ⟨ret_str hz.out.symm, rfl⟩
    · obtain ⟨k, rfl⟩ := Int.eq_ofNat_of_zero_le (show 0 ≤ n by omega)
      have hk : k < 20 := by omega
      have hz := Lib.hid (show wordOf k = wordAt k by unfold wordOf; rw [if_pos (by omega)]; rfl)
      have hc := TT.out.cell k hk
      have d0 : decide ((k : Int) < 0) = false := decide_eq_false (by omega)
      have d1 : decide (20 ≤ (k : Int)) = false := decide_eq_false (by omega)
      generalize wordAt k = wd at hc hz
      go_enter Tryd.func30, Tryd.ntmps30
      go_wp2
      go_ret
      exact ⟨ret_str hz.out.symm, rfl⟩

def codeOf (s : ByteArray) : Int := match (List.range 20).find? (fun j => (wordAt j).toList == s.toList) with | some j => j | none => -1
theorem codeOf_hit (s : ByteArray) (k : Nat) (hk : k < 20) (h : ((wordAt k).toList == s.toList) = true) (hn : ∀ j, j < k → ((wordAt j).toList == s.toList) = false) : codeOf s = k := by
  have : (List.range 20).find? (fun j => (wordAt j).toList == s.toList) = some k := by
    rw [List.find?_range_eq_some]
    refine ⟨h, List.mem_range.2 hk, fun j hj => by simp [hn j hj]⟩
  simp only [codeOf, this]
theorem codeOf_miss (s : ByteArray) (hn : ∀ j, j < 20 → ((wordAt j).toList == s.toList) = false) : codeOf s = -1 := by
  have : (List.range 20).find? (fun j => (wordAt j).toList == s.toList) = none := by
    rw [List.find?_eq_none]
    intro j hj
    simp [hn j (List.mem_range.1 hj)]
  simp only [codeOf, this]

set_option maxHeartbeats 400000 in
theorem code_spec (s : ByteArray) (w : World) :
    Calls Tryd.prog 22 #[.string s] w fun e w' => e = .returned (.int .i64 (codeOf s)) ∧ Below w.heap.size w w' := by
  go_enter Tryd.func22, Tryd.ntmps22
  go_wp2
  go_loopw [3] (fun i wr => ∃ k : Nat, k ≤ 20 ∧ i = .int .i64 k ∧ Below w.heap.size w wr ∧ Hid (∀ j, j < k → ((wordAt j).toList == s.toList) = false)) (fun i _ => 20 - (intOf i).toNat)
  case atStart => exact ⟨0, by omega, rfl, Below.refl _ _, Lib.hid (fun j a => by omega)⟩
  case round =>
    rename_i wr
    obtain ⟨k, hk, rfl, hb, R⟩ := hrel
    have HB := Lib.hid hb
    clear hb
    by_cases hlt : k < 20
    · have hz := Lib.hid (show wordOf k = wordAt k by unfold wordOf; rw [if_pos (by omega)]; rfl)
      have hle : (k : Int) ≤ 19 := by omega
      cases hq : ((wordAt k).toList == s.toList)
      · have HQ := Lib.hid hq
        clear hq
        go_wp2_with fail
        refine (word_spec _ _).mono ?_
        rintro e w1 ⟨rfl, hb1⟩
        have HB1 := Lib.hid hb1
        clear hb1
        rw [hz.out]
        have hq := HQ.out
        generalize wordAt k = wd at hq
        go_wp2
        go_roundw
        case rel => exact ⟨k + 1, by omega, by go_num, HB.out.trans (HB1.out.mono HB.out.size), Lib.hid (fun j a => by
          by_cases e : j = k
          · rw [e]; exact HQ.out
          · exact R.out j (by omega))⟩
        case measure => simp [intOf]; omega
      · have HF := Lib.hid (codeOf_hit s k hlt hq R.out)
        have HQ := Lib.hid hq
        clear hq
        go_wp2_with fail
        refine (word_spec _ _).mono ?_
        rintro e w1 ⟨rfl, hb1⟩
        have HB1 := Lib.hid hb1
        clear hb1
        rw [hz.out]
        have hq := HQ.out
        generalize wordAt k = wd at hq
        go_wp2
        go_ret
        exact ⟨ret_int HF.out.symm, HB.out.trans (HB1.out.mono HB.out.size)⟩
    · have HF := Lib.hid (codeOf_miss s (fun j a => R.out j (by omega)))
      go_wp2
      go_ret
      exact ⟨ret_int HF.out.symm, HB.out⟩

theorem index20_0 (w : World) : (Instr.index 59 (.agg cellsW) (.int .i64 0)).run Tryd.prog w = .ok (.string ⟨#[111, 107]⟩) w := by kernel_rfl
theorem index20_1 (w : World) : (Instr.index 59 (.agg cellsW) (.int .i64 1)).run Tryd.prog w = .ok (.string ⟨#[98, 97, 100]⟩) w := by kernel_rfl
theorem index20_2 (w : World) : (Instr.index 59 (.agg cellsW) (.int .i64 2)).run Tryd.prog w = .ok (.string ⟨#[108, 111, 110, 103]⟩) w := by kernel_rfl
theorem index20_3 (w : World) : (Instr.index 59 (.agg cellsW) (.int .i64 3)).run Tryd.prog w = .ok (.string ⟨#[102, 111, 114, 109]⟩) w := by kernel_rfl
theorem index20_4 (w : World) : (Instr.index 59 (.agg cellsW) (.int .i64 4)).run Tryd.prog w = .ok (.string ⟨#[114, 97, 110, 103, 101]⟩) w := by kernel_rfl
theorem index20_5 (w : World) : (Instr.index 59 (.agg cellsW) (.int .i64 5)).run Tryd.prog w = .ok (.string ⟨#[110, 111, 110, 101]⟩) w := by kernel_rfl
theorem index20_6 (w : World) : (Instr.index 59 (.agg cellsW) (.int .i64 6)).run Tryd.prog w = .ok (.string ⟨#[109, 97, 110, 121]⟩) w := by kernel_rfl
theorem index20_7 (w : World) : (Instr.index 59 (.agg cellsW) (.int .i64 7)).run Tryd.prog w = .ok (.string ⟨#[102, 117, 108, 108]⟩) w := by kernel_rfl
theorem index20_8 (w : World) : (Instr.index 59 (.agg cellsW) (.int .i64 8)).run Tryd.prog w = .ok (.string ⟨#[115, 105, 122, 101]⟩) w := by kernel_rfl
theorem index20_9 (w : World) : (Instr.index 59 (.agg cellsW) (.int .i64 9)).run Tryd.prog w = .ok (.string ⟨#[116, 97, 103]⟩) w := by kernel_rfl
theorem index20_10 (w : World) : (Instr.index 59 (.agg cellsW) (.int .i64 10)).run Tryd.prog w = .ok (.string ⟨#[116, 97, 109, 112, 101, 114, 101, 100]⟩) w := by kernel_rfl
theorem index20_11 (w : World) : (Instr.index 59 (.agg cellsW) (.int .i64 11)).run Tryd.prog w = .ok (.string ⟨#[116, 111, 114, 110]⟩) w := by kernel_rfl
theorem index20_12 (w : World) : (Instr.index 59 (.agg cellsW) (.int .i64 12)).run Tryd.prog w = .ok (.string ⟨#[115, 116, 97, 115, 104]⟩) w := by kernel_rfl
theorem index20_13 (w : World) : (Instr.index 59 (.agg cellsW) (.int .i64 13)).run Tryd.prog w = .ok (.string ⟨#[116, 97, 112, 101]⟩) w := by kernel_rfl
theorem index20_14 (w : World) : (Instr.index 59 (.agg cellsW) (.int .i64 14)).run Tryd.prog w = .ok (.string ⟨#[99, 104, 101, 99, 107]⟩) w := by kernel_rfl
theorem index20_15 (w : World) : (Instr.index 59 (.agg cellsW) (.int .i64 15)).run Tryd.prog w = .ok (.string ⟨#[112, 101, 110, 100, 105, 110, 103]⟩) w := by kernel_rfl
theorem index20_16 (w : World) : (Instr.index 59 (.agg cellsW) (.int .i64 16)).run Tryd.prog w = .ok (.string ⟨#[100, 111, 119, 110]⟩) w := by kernel_rfl
theorem index20_17 (w : World) : (Instr.index 59 (.agg cellsW) (.int .i64 17)).run Tryd.prog w = .ok (.string ⟨#[117, 112]⟩) w := by kernel_rfl
theorem index20_18 (w : World) : (Instr.index 59 (.agg cellsW) (.int .i64 18)).run Tryd.prog w = .ok (.string ⟨#[115, 112, 101, 110, 116]⟩) w := by kernel_rfl
theorem index20_19 (w : World) : (Instr.index 59 (.agg cellsW) (.int .i64 19)).run Tryd.prog w = .ok (.string ⟨#[107, 101, 121]⟩) w := by kernel_rfl
theorem index20 (k : Nat) (h : k < 20) (w : World) :
    (Instr.index 59 (.agg cellsW) (.int .i64 (k : Int))).run Tryd.prog w = .ok (.string (wordAt k)) w := by
  match k, h with
  | 0, _ => exact index20_0 w
  | 1, _ => exact index20_1 w
  | 2, _ => exact index20_2 w
  | 3, _ => exact index20_3 w
  | 4, _ => exact index20_4 w
  | 5, _ => exact index20_5 w
  | 6, _ => exact index20_6 w
  | 7, _ => exact index20_7 w
  | 8, _ => exact index20_8 w
  | 9, _ => exact index20_9 w
  | 10, _ => exact index20_10 w
  | 11, _ => exact index20_11 w
  | 12, _ => exact index20_12 w
  | 13, _ => exact index20_13 w
  | 14, _ => exact index20_14 w
  | 15, _ => exact index20_15 w
  | 16, _ => exact index20_16 w
  | 17, _ => exact index20_17 w
  | 18, _ => exact index20_18 w
  | 19, _ => exact index20_19 w
  | k + 20, h => exact absurd h (by omega)

theorem info20 : (Tryd.prog.info? 59).map (·.size) = some 20 := by kernel_rfl

set_option maxHeartbeats 400000 in
set_option maxRecDepth 100000 in
theorem code_impl (s : ByteArray) (w : World) (T : Tab w) :
    Calls Tryd.prog 38 #[.string s] w fun e w' => e = .returned (.int .i64 (codeOf s)) ∧ w = w' := by
  obtain ⟨tt, fr, hg⟩ := T
  have HG := Lib.hid hg
  clear hg
  have HI := Lib.hid index20
  generalize hcw : cellsW = cw at HG HI
  have hsz : (Tryd.prog.info? 59).map (·.size) = some cw.size := by rw [← hcw]; exact info20
  have HS := Lib.hid hsz
  clear hcw hsz
  go_enter Tryd.func38, Tryd.ntmps38
  go_wp2_with (refine wpList_load_row rfl 59 _ rfl 0 rfl tt _ fr _ HG.out Tryd.underlying59 rfl HS.out ?_)
  go_loop [6] (fun i => ∃ k : Nat, k ≤ 20 ∧ i = .int .i64 k ∧ Hid (∀ j, j < k → ((wordAt j).toList == s.toList) = false)) (fun i => 20 - (intOf i).toNat)
  case atStart => exact ⟨0, by omega, rfl, Lib.hid (fun j a => by omega)⟩
  case round =>
    obtain ⟨k, hk, rfl, R⟩ := hrel
    by_cases hlt : k < 20
    · have hi := HI.out k hlt
      cases hq : ((wordAt k).toList == s.toList)
      · have HQ := Lib.hid hq
        generalize wordAt k = wd at hq hi
        go_wp2
        go_round
        case rel => exact ⟨k + 1, by omega, by go_num, Lib.hid (fun j a => by
          by_cases e : j = k
          · rw [e]; exact HQ.out
          · exact R.out j (by omega))⟩
        case measure => simp [intOf]; omega
      · have HF := Lib.hid (codeOf_hit s k hlt hq R.out)
        generalize wordAt k = wd at hq hi
        go_wp2
        go_ret
        exact ⟨ret_int HF.out.symm, rfl⟩
    · have HF := Lib.hid (codeOf_miss s (fun j a => R.out j (by omega)))
      go_wp2
      go_ret
      exact ⟨ret_int HF.out.symm, rfl⟩

end Go.Proofs.YtifkihjjkomfiaaDoor.CodesR
