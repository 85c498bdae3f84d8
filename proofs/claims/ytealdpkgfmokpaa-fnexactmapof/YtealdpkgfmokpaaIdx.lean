/-
  What is proved: a list is asked for a block of a number by a function literal that holds the number: whether one is there, and where the first (contracts for the walks).
-/
import Derived.Test.YtealdpkgfmokpaaRows
import Derived.Test.YtealdpkgfmokpaaOkP
namespace Go.Proofs.Ytealdpkgfmokpaa.Idx
open Go.ChangeShapes Go.WideShapes Go.ChangeAt Go.RowKit Go.Maps
open Sl (Sl Own Off)
open OpenSl (tc nc pc)
open Dev Orm Wy Box3 OkP
set_option linter.unusedVariables false

/-- A function literal that says whether a block has the number in block g. -/
def Lit (F : FuncId) (g : Nat) (z : Int) : Prop := ∀ (u : World) (x y t : Int), u.cell? ⟨g, 0, none⟩ = some (.int .i64 z) → Calls Try.prog F #[.agg #[.int .i64 x, .int .i64 y, .int .i64 t], .pointer (some ⟨g, 0, none⟩)] u fun e w' => e = .returned (.bool (decide (x = z))) ∧ Below u.heap.size u w'
set_option maxRecDepth 100000 in
theorem litIndex (g : Nat) (z : Int) : Idx.Lit 117 g z := by
  intro u x y t hc
  obtain ⟨U, e1, hb, hz, X⟩ := box3 u 110 (.int .i64 x) (.int .i64 y) (.int .i64 t)
  have c := (hb.cell (World.block_lt_of_cell? u _ hc)).trans hc
  have HB := Lib.hid hb
  obtain ⟨c0, c1, c2, _, _, _⟩ := X
  obtain ⟨G, eG⟩ : ∃ G, u.heap.size = G := ⟨_, rfl⟩
  have HBG := Lib.hid (show Below G u U from eG ▸ hb)
  rw [eG] at c0 c1 c2
  clear hb hz hc
  by_cases h : x = z
  · subst h
    go_enter Try.func117, Try.ntmps117
    go_wp2
    go_ret
    exact ⟨by simp, by first | exact HB.out | exact HBG.out⟩
  · have HD := Lib.hid (decide_eq_false h)
    have b1 : (x == z) = false := beq_eq_false_iff_ne.2 h
    go_enter Try.func117, Try.ntmps117
    go_wp2
    go_ret
    exact ⟨by first | rfl | (rw [HD.out]; rfl) | simp [h], by first | exact HB.out | exact HBG.out⟩
theorem box1 (u : World) (t : TypeId) (a : Value) : ∃ U, u.alloc (.cells #[a] t) = U ∧ Below u.heap.size u U ∧ U.heap.size = u.heap.size + 1 ∧ U.cell? ⟨u.heap.size, 0, none⟩ = some a :=
  ⟨_, rfl, (Below.refl _ u).alloc (Nat.le_refl _) _, by simp, by go_simp⟩
/-- Where the first block of number z is. -/
def At (xs : List Bk) (z : Int) (r : Int) : Prop := (r = -1 ∧ z ∉ ids xs) ∨ ∃ k : Nat, k < xs.length ∧ r = k ∧ (xs.getD k (0, 0, 0)).1 = z ∧ z ∉ ids (xs.take k)
set_option maxRecDepth 100000 in
set_option maxHeartbeats 800000 in
theorem indexI (g : Nat) (z : Int) (hF : Idx.Lit 117 g z) (w : World) (hg : w.cell? ⟨g, 0, none⟩ = some (.int .i64 z)) (v : Value) (xs : List Bk) (h : Sl w 3 v xs.length (bc xs)) :
    Calls Try.prog 116 #[v, .func (.func 117) #[] #[.pointer (some ⟨g, 0, none⟩)]] w fun e w' => (∃ r : Int, e = .returned (.int .i64 r) ∧ At xs z r) ∧ Below w.heap.size w w' := by
  obtain ⟨a, cap, rfl, h1, h2, h3⟩ := h
  have H3 := Lib.hid h3
  have HF := Lib.hid hF
  have HG := Lib.hid hg
  unfold maxLen at h2
  have HT := Lib.hid (fun k hk => take_next xs (0, 0, 0) k hk)
  have HAY := Lib.hid (fun r (hr : At xs z r) => hr)
  have HA1 := Lib.hid (show z ∉ ids xs → At xs z (-1) from fun hh => .inl ⟨rfl, hh⟩)
  have HA2 := Lib.hid (show ∀ k : Nat, k < xs.length → (xs.getD k (0, 0, 0)).1 = z → z ∉ ids (xs.take k) → At xs z k from fun k hk e hn => .inr ⟨k, hk, rfl, e, hn⟩)
  have HTL := Lib.hid (List.take_length (l := xs))
  clear h3 hF hg HAY
  obtain ⟨P, eP⟩ : ∃ P : Int → Prop, At xs z = P := ⟨_, rfl⟩
  rw [eP] at HA1 HA2 ⊢
  clear eP
  generalize xs.length = n at *
  go_enter Try.func116, Try.ntmps116
  go_wp2
  go_loopw [8] (fun i wz => ∃ (k : Nat) (wr : World), wr = wz ∧ k ≤ n ∧ i = .int .i64 k ∧ Hid (Below w.heap.size w wr ∧ z ∉ ids (xs.take k))) (fun i _ => n - (intOf i).toNat)
  case atStart => exact ⟨0, _, rfl, by omega, rfl, Lib.hid ⟨Below.refl _ _, by simp [ids]⟩⟩
  case round =>
    obtain ⟨k, wr, rfl, hk, rfl, HJ⟩ := hrel
    by_cases hlt : k < n
    · obtain ⟨b, o, rfl, hc⟩ := H3.out (by omega)
      have c0 := hc (k * 3) (by omega)
      have c1 := hc (k * 3 + 1) (by omega)
      have c2 := hc (k * 3 + 2) (by omega)
      rw [← HJ.out.1.cell (World.block_lt_of_cell? w _ c0), bc0] at c0
      rw [← HJ.out.1.cell (World.block_lt_of_cell? w _ c1), bc1, ← Nat.add_assoc] at c1
      rw [← HJ.out.1.cell (World.block_lt_of_cell? w _ c2), bc2, ← Nat.add_assoc] at c2
      have HTK := Lib.hid (HT.out k hlt)
      have HAK := Lib.hid (HA2.out k hlt)
      clear hc
      generalize xs.getD k (0, 0, 0) = y at *
      obtain ⟨y0, y1, y2⟩ := y
      simp only at c0 c1 c2
      go_wp2_with fail
      refine (HF.out wr y0 y1 y2 ((HJ.out.1.cell (World.block_lt_of_cell? w _ HG.out)).trans HG.out)).mono ?_
      rintro e w1 ⟨rfl, hb⟩
      have HB := Lib.hid (HJ.out.1.trans (hb.mono HJ.out.1.size))
      clear hb
      by_cases hy : y0 = z
      · rw [decide_eq_true hy]
        have HR := Lib.hid (HAK.out hy HJ.out.2)
        clear hy
        go_wp2
        go_ret
        exact ⟨⟨_, rfl, HR.out⟩, HB.out⟩
      · rw [decide_eq_false hy]
        have HN := Lib.hid (show z ∉ ids (xs.take (k + 1)) from by
          rw [HTK.out, ids_append]
          intro hm
          rcases List.mem_append.1 hm with h1 | h1
          · exact HJ.out.2 h1
          · have h2 : z = y0 := by simpa [ids] using h1
            exact hy h2.symm)
        clear hy
        go_wp2
        go_roundw
        case rel => exact ⟨k + 1, _, rfl, by omega, by go_num, Lib.hid ⟨HB.out, HN.out⟩⟩
        case measure => simp [intOf]; omega
    · have HR := Lib.hid (HA1.out (by
        obtain rfl : k = n := by omega
        have := HJ.out.2
        rwa [HTL.out] at this))
      go_wp2
      go_ret
      exact ⟨⟨_, rfl, HR.out⟩, HJ.out.1⟩
theorem At.ge {xs : List Bk} {z r : Int} (h : At xs z r) : (0 ≤ r) ↔ z ∈ ids xs := by
  rcases h with ⟨rfl, h⟩ | ⟨k, hk, rfl, e, _⟩
  · exact ⟨fun h2 => by omega, fun h2 => absurd h2 h⟩
  · refine ⟨fun _ => ?_, fun _ => by omega⟩
    rw [← e]
    refine List.mem_map.2 ⟨xs.getD k (0, 0, 0), ?_, rfl⟩
    rw [List.getD_eq_getElem?_getD, List.getElem?_eq_getElem hk]
    exact List.getElem_mem hk
set_option maxRecDepth 100000 in
set_option maxHeartbeats 800000 in
theorem indexOf (z : Int) (w : World) (v : Value) (xs : List Bk) (h : Sl w 3 v xs.length (bc xs)) :
    Calls Try.prog 77 #[v, .int .i64 z] w fun e w' => (∃ r : Int, e = .returned (.int .i64 r) ∧ At xs z r) ∧ Below w.heap.size w w' := by
  have hmf : ∀ (fn : Fn) (first cap : Array Value) (w : World), (Instr.makeFunc fn first cap).run Try.prog w = .ok (.func fn first cap) w := fun _ _ _ _ => rfl
  obtain ⟨U, eU, hb, _, hc⟩ := box1 w 3 (.int .i64 z)
  have HC := Lib.hid (indexI w.heap.size z (litIndex _ z) U hc v xs (h.below hb))
  have HB := Lib.hid hb
  obtain ⟨a, cap, rfl, _, _⟩ := h.form
  clear h hb hc
  generalize At xs z = P at *
  go_enter Try.func77, Try.ntmps77
  go_wp2_with fail
  refine HC.out.mono ?_
  rintro e w1 ⟨⟨r, rfl, hr⟩, hb⟩
  have HB2 := Lib.hid (HB.out.trans (hb.mono HB.out.size))
  have HR := Lib.hid hr
  clear hb hr
  go_wp2
  go_ret
  exact ⟨⟨r, rfl, HR.out⟩, HB2.out⟩
/-- .. as what is asked of it: whether there is one. -/
theorem indexOf_ge (z : Int) (w : World) (v : Value) (xs : List Bk) (h : Sl w 3 v xs.length (bc xs)) :
    Calls Try.prog 77 #[v, .int .i64 z] w fun e w' => (∃ r : Int, e = .returned (.int .i64 r) ∧ decide (r ≥ 0) = decide (z ∈ ids xs)) ∧ Below w.heap.size w w' := by
  refine (indexOf z w v xs h).mono ?_
  rintro e w' ⟨⟨r, rfl, hr⟩, hb⟩
  exact ⟨⟨r, rfl, decide_eq_decide.2 hr.ge⟩, hb⟩
end Go.Proofs.Ytealdpkgfmokpaa.Idx
