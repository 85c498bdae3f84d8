/-
  What is proved: what a write that was not sure leaves at its sector: dropped, kept or torn; the program's functions on one write and its fate answer the plain ones (contracts for the walks).
-/
import Derived.Test.YtmgokpkogjdfhaaRows
import Derived.Test.YtmgokpkogjdfhaaCopied
import Derived.Test.YtmgokpkogjdfhaaRight
import Derived.Test.YtmgokpkogjdfhaaFlat
import Derived.Lib.BufferWrite
namespace Go.Proofs.Ytmgokpkogjdfhaa.Settle
open Go.ChangeShapes Go.WideShapes Go.ChangeAt Go.RowKit
open Sl (Sl Own Off)
open OpenSl (tc nc pc)
open Dev Cop Copied
open Word (bN bN_lt bN_at)
set_option linter.unusedVariables false

/-- The first half of d, and what was there behind it. -/
def torn (s d : ByteArray) : ByteArray := d.extract 0 (d.size / 2) ++ s.extract (min (d.size / 2) s.size) s.size
def met (s d : ByteArray) (f : Int) : ByteArray := if f = 2 then torn s d else if f = 1 then d else s
def fate (fs : List Int) (i : Nat) : Int := if fs.length = 0 then 0 else fs.getD (i % fs.length) 0
/-- What is sure behind the first k writes. -/
def st (ts : List ByteArray) (xs : List (Int × ByteArray)) (fs : List Int) : Nat → List ByteArray
  | 0 => ts
  | k + 1 => (st ts xs fs k).set (xs.getD k (0, ByteArray.empty)).1.toNat (met ((st ts xs fs k).getD (xs.getD k (0, ByteArray.empty)).1.toNat ByteArray.empty) (xs.getD k (0, ByteArray.empty)).2 (fate fs k))
theorem st_len (ts : List ByteArray) (xs : List (Int × ByteArray)) (fs : List Int) : ∀ k, (st ts xs fs k).length = ts.length
  | 0 => rfl
  | k + 1 => by
    show ((st ts xs fs k).set _ _).length = _
    rw [List.length_set, st_len ts xs fs k]
theorem torn_size (s d : ByteArray) : (torn s d).size = max (d.size / 2) s.size := by
  unfold torn
  rw [ByteArray.size_append, ByteArray.size_extract, ByteArray.size_extract]
  omega
theorem met_size {s d : ByteArray} {f : Int} {n : Nat} (hs : s.size ≤ n) (hd : d.size ≤ n) : (met s d f).size ≤ n := by
  unfold met
  split
  · rw [torn_size]; omega
  · split <;> assumption
theorem bN_app (a b : ByteArray) (j : Nat) : bN (a ++ b) j = if j < a.size then bN a j else bN b (j - a.size) := by
  unfold bN
  rw [show (a ++ b).data.toList = a.data.toList ++ b.data.toList by rw [ByteArray.data_append]; simp]
  simp only [List.getD_eq_getElem?_getD]
  by_cases h : j < a.size
  · rw [if_pos h, List.getElem?_append_left (by simpa using h)]
  · rw [if_neg h, List.getElem?_append_right (by simpa using h)]
    simp
theorem torn_bN (s d : ByteArray) (j : Nat) (hj : j < (torn s d).size) : bN (torn s d) j = if j < d.size / 2 then bN d j else bN s j := by
  rw [torn_size] at hj
  unfold torn
  have h0 : (d.extract 0 (d.size / 2)).size = d.size / 2 := by rw [ByteArray.size_extract]; omega
  rw [bN_app, h0]
  by_cases h : j < d.size / 2
  · rw [if_pos h, if_pos h, Flat.bN_extract d 0 (d.size / 2) j (by omega) (by omega), Nat.zero_add]
  · rw [if_neg h, if_neg h, Flat.bN_extract s _ s.size _ (Nat.le_refl _) (by omega)]
    congr 1
    omega
theorem back_text (w : World) (g o cap n : Nat) (T : ByteArray) (hn : T.size = n) (h : ∀ j, j < n → w.cell? ⟨g, o + j, none⟩ = some (.int .u8 (bN T j : Int))) :
    (convert 22 9 (.slice (some ⟨g, o, none⟩) n cap)).run Try.prog w = .ok (.string T) w := by
  have hl : T.data.toList.length = n := by rw [Array.length_toList]; exact hn
  have e := run_convert_bytes_back (P := Try.prog) w 22 9 5 ⟨g, o, none⟩ cap T.data.toList Try.underlying22 Try.underlying5 Try.underlying9 (fun j hj => by
    rw [Addr.add_lit, h j (by omega)]
    congr 3
    rw [← bN_at T j (by omega)]
    rfl)
  rw [hl] at e
  rw [e]
theorem u8_one : ∀ w : World, (Go.sizeOf 5).run Try.prog w = .ok 1 w := fun w => by kernel_rfl
/-- 'copy(out, s)' of a text into bytes of the call's own. -/
theorem run_copied_str (w : World) (base g o n cap : Nat) (b : Nat → Nat) (hd : Own w base 1 (.slice (some ⟨g, o, none⟩) n cap) n (fun j => .int .u8 (b j : Int))) (s : ByteArray) (hs : s.size ≤ n) :
    ∃ w', (Builtin.copy_ #[22, 9] 3 #[.slice (some ⟨g, o, none⟩) n cap, .string s]).run Try.prog w = .ok (goInt s.size) w' ∧ Own w' base 1 (.slice (some ⟨g, o, none⟩) n cap) n (fun j => .int .u8 ((if j < s.size then bN s j else b j : Nat) : Int)) ∧ ∀ B, B ≤ base → Below B w w' := by
  by_cases h0 : n = 0
  · subst h0
    have hs0 : s.size = 0 := by omega
    refine ⟨w, ?_, hd.congr (fun j hj => by omega), fun B _ => Below.refl _ _⟩
    have := Lib.run_copy_empty_string (P := Try.prog) w 22 9 3 5 (some ⟨g, o, none⟩) 0 cap s Try.underlying22 (by kernel_rfl) hs0
    rw [this, hs0]
    rfl
  · obtain ⟨b2, o2, e2, hbb, hcc⟩ := hd.at (by omega)
    obtain ⟨rfl, rfl⟩ : g = b2 ∧ o = o2 := by simpa using e2
    have hr := run_copy_string (P := Try.prog) w 22 9 3 5 g o n cap s Try.underlying22 u8_one hs (fun j hj => by rw [(hcc j (by omega)).1]; rfl) (fun j hj => (hcc j (by omega)).2)
    have hl : (s.data.toList.map fun x => Value.int .u8 (x.toNat : Int)).length = s.size := by rw [List.length_map, Array.length_toList]; rfl
    refine ⟨_, hr, ?_, fun B hB => below_cells g B (by omega) _ _ _⟩
    obtain ⟨a9, cap9, e9, q1, q2, q3⟩ := hd
    obtain ⟨rfl, rfl⟩ : some ⟨g, o, none⟩ = a9 ∧ cap = cap9 := by simpa using e9
    refine ⟨_, _, rfl, q1, q2, fun hn => ⟨g, o, rfl, hbb, fun j hj => ⟨?_, ?_⟩⟩⟩
    · show _ = some (Value.int .u8 ((if j < s.size then bN s j else b j : Nat) : Int))
      by_cases hjs : j < s.size
      · rw [if_pos hjs, World.cell?_setCells_in g _ o w (fun j hj => by rw [(hcc j (by omega)).1]; rfl) j (by omega), ← List.getElem?_eq_getElem (by omega)]
        have hj2 : j < s.data.toList.length := by rw [Array.length_toList]; exact hjs
        rw [List.getElem?_map, List.getElem?_eq_getElem hj2, ← bN_at s j hjs]
        rfl
      · rw [if_neg hjs, World.cell?_setCells_out g _ o w _ (fun _ _ => by right; rw [hl]; show o + s.size ≤ o + j; omega)]
        exact (hcc j hj).1
    · rw [World.frozen?_setCells]; exact (hcc j hj).2

set_option maxRecDepth 100000 in
set_option maxHeartbeats 1600000 in
theorem tornI (s d : ByteArray) (hs : s.size ≤ 700) (hd : d.size ≤ 700) (w : World) :
    Calls Try.prog 84 #[.string s, .string d] w fun e w' => e = .returned (.string (torn s d)) ∧ Below w.heap.size w w' := by
  obtain ⟨n, en⟩ : ∃ n, (torn s d).size = n := ⟨_, rfl⟩
  have hn := torn_size s d
  rw [en] at hn
  have hn7 : n ≤ 700 := by omega
  obtain ⟨hf, ehf⟩ : ∃ hf, d.extract 0 (d.size / 2) = hf := ⟨_, rfl⟩
  have hfs : hf.size = d.size / 2 := by rw [← ehf, ByteArray.size_extract]; omega
  have hfb : ∀ j, j < hf.size → bN hf j = bN d j := fun j hj => by rw [← ehf, Flat.bN_extract d 0 (d.size / 2) j (by omega) (by omega), Nat.zero_add]
  obtain ⟨g, o, w1, hmk, hown, hbel⟩ := made (P := Try.prog) w 22 5 1 (.int .u8 0) 1 Try.underlying22 Bytes.info5 n (by omega) (by unfold maxLen; omega) (fun _ => .int .u8 0) (LawS.made_one _ rfl n)
  obtain ⟨w2, hc2, ho2, hb2⟩ := run_copied_str w1 w.heap.size g o n n (fun _ => 0) hown s (by omega)
  obtain ⟨w3, hc3, ho3, hb3⟩ := run_copied_str w2 w.heap.size g o n n _ ho2 hf (by omega)
  have hcv : (convert 22 9 (.slice (some ⟨g, o, none⟩) n n)).run Try.prog w3 = .ok (.string (torn s d)) w3 := back_text w3 g o n n _ en (fun j hj => by
    obtain ⟨b2, o2, e2, _, hcc⟩ := ho3.at (by omega)
    obtain ⟨rfl, rfl⟩ : g = b2 ∧ o = o2 := by simpa using e2
    rw [(hcc j (by omega)).1, torn_bN s d j (by omega)]
    show some (Value.int .u8 ((if j < hf.size then bN hf j else if j < s.size then bN s j else 0 : Nat) : Int)) = _
    by_cases h : j < d.size / 2
    · rw [if_pos (by omega), if_pos h, hfb j (by omega)]
    · rw [if_neg (by omega), if_neg h, if_pos (by omega)])
  have HB := Lib.hid (hbel.trans ((hb2 _ (Nat.le_refl _)).trans (hb3 _ (Nat.le_refl _))))
  clear hown ho2 ho3 hb2 hb3 hbel hfb
  generalize torn s d = T at *
  have hle : d.size / 2 ≤ d.size := by omega
  obtain ⟨h2, eh2⟩ : ∃ h2, d.size / 2 = h2 := ⟨_, rfl⟩
  rw [eh2] at hfs hle ehf hn
  have q1 : (d.size : Int) / 2 = (h2 : Int) := by omega
  have q2 : (h2 : Int) ≤ (d.size : Int) := by omega
  have HB0 := Lib.hid hn
  clear eh2 en
  rcases Nat.lt_or_ge h2 s.size with hlt | hge
  · obtain rfl : n = s.size := by omega
    clear hn HB0
    have q3 : (h2 : Int) < (s.size : Int) := by omega
    go_enter Try.func84, Try.ntmps84
    go_wp2
    go_ret
    exact ⟨rfl, HB.out⟩
  · obtain rfl : n = h2 := by omega
    clear hn HB0
    have q3 : ¬ (n : Int) < (s.size : Int) := by omega
    have q4 : (s.size : Int) ≤ (n : Int) := by omega
    go_enter Try.func84, Try.ntmps84
    go_wp2
    go_ret
    exact ⟨rfl, HB.out⟩

set_option maxRecDepth 100000 in
set_option maxHeartbeats 1600000 in
theorem metI (s d : ByteArray) (f : Int) (hs : s.size ≤ 700) (hd : d.size ≤ 700) (w : World) :
    Calls Try.prog 77 #[.string s, .string d, .int .i64 f] w fun e w' => e = .returned (.string (met s d f)) ∧ Below w.heap.size w w' := by
  by_cases h2 : f = 2
  · have EM := Lib.hid (show met s d f = torn s d by unfold met; rw [if_pos h2])
    subst h2
    go_enter Try.func77, Try.ntmps77
    go_wp2_with fail
    refine (tornI s d hs hd w).mono ?_
    rintro e w1 ⟨rfl, hb⟩
    have HB := Lib.hid hb
    clear hb
    obtain ⟨T, eT⟩ : ∃ T, torn s d = T := ⟨_, rfl⟩
    rw [eT] at EM ⊢
    clear eT
    go_wp2_with fail
    go_ret
    exact ⟨by rw [EM.out]; rfl, HB.out⟩
  · by_cases h1 : f = 1
    · have EM := Lib.hid (show met s d f = d by unfold met; rw [if_neg h2, if_pos h1])
      subst h1
      go_enter Try.func77, Try.ntmps77
      go_wp2_with fail
      go_ret
      exact ⟨by rw [EM.out]; rfl, Below.refl _ _⟩
    · have EM := Lib.hid (show met s d f = s by unfold met; rw [if_neg h2, if_neg h1])
      have d1 : (f == 1) = false := beq_eq_false_iff_ne.2 h1
      have d2 : (f == 2) = false := beq_eq_false_iff_ne.2 h2
      go_enter Try.func77, Try.ntmps77
      go_wp2_with fail
      go_ret
      exact ⟨by rw [EM.out]; rfl, Below.refl _ _⟩

set_option maxRecDepth 100000 in
set_option maxHeartbeats 1600000 in
theorem fateOf (w : World) (v : Value) (fs : List Int) (h : Sl w 1 v fs.length (nc fs)) (i : Nat) (hi : i ≤ 1000000) (hl : fs.length ≤ 1048576) :
    Calls Try.prog 78 #[v, .int .i64 i] w fun e w' => e = .returned (.int .i64 (fate fs i)) ∧ w' = w := by
  obtain ⟨a, cap, rfl, h1, h2, h3⟩ := h
  unfold maxLen at h2
  by_cases h0 : fs.length = 0
  · have EM := Lib.hid (show fate fs i = 0 by unfold fate; rw [if_pos h0])
    have d0 : ((fs.length : Int) == 0) = true := by rw [h0]; rfl
    clear h3 h0
    go_enter Try.func78, Try.ntmps78
    go_wp2_with fail
    go_ret
    exact ⟨by rw [EM.out]; rfl, rfl⟩
  · have EM := Lib.hid (show fate fs i = fs.getD (i % fs.length) 0 by unfold fate; rw [if_neg h0])
    have d0 : ((fs.length : Int) == 0) = false := beq_eq_false_iff_ne.2 (by omega)
    obtain ⟨b, o, rfl, hc⟩ := h3 (by omega)
    have hm : i % fs.length < fs.length := Nat.mod_lt _ (by omega)
    have c0 := hc (i % fs.length) (by omega)
    unfold nc at c0
    have e1 : (i : Int) % (fs.length : Int) = ((i % fs.length : Nat) : Int) := by omega
    have e2 : Int.tmod (i : Int) (fs.length : Int) = ((i % fs.length : Nat) : Int) := by rw [Int.tmod_eq_emod_of_nonneg (by omega)]; exact e1
    generalize i % fs.length = q at *
    generalize fs.getD q 0 = f at *
    generalize fs.length = n at *
    have i1 : (q : Int) < (n : Int) := by omega
    have i3 : (0 : Int) ≤ (q : Int) := by omega
    have n0 : ¬ (n : Int) = 0 := by omega
    clear hc
    go_enter Try.func78, Try.ntmps78
    go_wp2
    go_ret
    exact ⟨by rw [EM.out]; rfl, rfl⟩
end Go.Proofs.Ytmgokpkogjdfhaa.Settle
