/-
  What is proved: the model's ReadBatch answers what the text's pieces say (a contract for the walks); two who answer so answer alike.
-/
import Derived.Test.YtidbkamadclchaaDoorRows
import Derived.Test.YtidbkamadclchaaDoorToBatM
namespace Go.Proofs.YtidbkamadclchaaDoor.ReadBL
open Go.ChangeShapes Go.WideShapes Go.ChangeAt Go.RowKit
open Sl (Sl Own Off)
open OpenSl (tc)
open Dev Orm Box3 OpB BatB Txt TxtB TxtR OtB BtM ToBatM
set_option linter.unusedVariables false

/-- What is answered. -/
def RBB (s : ByteArray) (bss : List (List Bk)) (c : Int) : Prop := (65536 < s.size ∧ bss = [] ∧ c = 2) ∨ (¬ 65536 < s.size ∧ ((c = 0 ∧ BOk bss ∧ bss.map (·.map parts) = tok s.data.toList) ∨ (c = 3 ∧ bss = [] ∧ ∀ cs : List (List Bk), BOk cs → cs.map (·.map parts) ≠ tok s.data.toList)))
theorem rbb_same {s : ByteArray} {a b : List (List Bk)} {c d : Int} (h : RBB s a c) (k : RBB s b d) : a = b ∧ c = d := by
  rcases h with ⟨h1, rfl, rfl⟩ | ⟨h1, h⟩
  · rcases k with ⟨_, rfl, rfl⟩ | ⟨k1, _⟩
    · exact ⟨rfl, rfl⟩
    · exact absurd h1 k1
  · rcases k with ⟨k1, _⟩ | ⟨_, k⟩
    · exact absurd k1 h1
    · rcases h with ⟨rfl, h, h2⟩ | ⟨rfl, rfl, h⟩
      · rcases k with ⟨rfl, k, k2⟩ | ⟨rfl, rfl, k⟩
        · exact ⟨tok_inj h k (h2.trans k2.symm), rfl⟩
        · exact absurd h2 (k a h)
      · rcases k with ⟨rfl, k, k2⟩ | ⟨rfl, rfl, k⟩
        · exact absurd k2 (h b k)
        · exact ⟨rfl, rfl⟩
theorem rbb_of {s : ByteArray} (hs : ¬ 65536 < s.size) {bss : List (List Bk)} (h : TB (tok s.data.toList) bss true) : RBB s bss 0 := .inr ⟨hs, .inl ⟨rfl, h.1 rfl⟩⟩
theorem rbb_no {s : ByteArray} (hs : ¬ 65536 < s.size) {bss : List (List Bk)} (h : TB (tok s.data.toList) bss false) : RBB s [] 3 := .inr ⟨hs, .inr ⟨rfl, rfl, fun cs hc e => by have := h.2 cs hc e; cases this⟩⟩
def RPost (s : ByteArray) (lo : Nat) (w' : World) (e : Ending) : Prop := ∃ (v : Value) (vs : Nat → Value) (bss : List (List Bk)) (c : Int), e = .returned (.tuple #[v, .int .i64 c]) ∧ Hid (RBB s bss c ∧ NsO w' lo v bss vs)

set_option maxRecDepth 100000 in
set_option maxHeartbeats 1600000 in
theorem specRead (w : World) (s : ByteArray) : Calls Tryd.prog 18 #[.string s] w fun e w' => RPost s w.heap.size w' e ∧ Below w.heap.size w w' := by
  by_cases hl : 65536 < s.size
  · have g1 : (65536 : Int) < (s.size : Int) := by omega
    have HR := Lib.hid (show RBB s [] 2 from .inl ⟨hl, rfl, rfl⟩)
    clear hl
    go_enter Tryd.func18, Tryd.ntmps18
    go_wp2
    go_ret2
    exact ⟨⟨_, _, [], _, rfl, Lib.hid ⟨HR.out, ns_nil w _ _ (Nat.le_refl _)⟩⟩, (Below.refl _ _).alloc (Nat.le_refl _) _⟩
  have g1 : ¬ (65536 : Int) < (s.size : Int) := by omega
  have HC := Lib.hid (fun u => l09ToBatch u s (by omega))
  have HL := Lib.hid hl
  clear hl
  go_enter Tryd.func18, Tryd.ntmps18
  go_wp2_with fail
  refine (HC.out _).mono ?_
  rintro e w1 ⟨⟨v, vs, bss, q, rfl, H⟩, hb⟩
  have HB := Lib.hid hb
  obtain ⟨a0, cap, rfl, _, _⟩ := H.out.2.out.sl.form
  clear hb HC
  cases q with
  | false =>
    have HR := Lib.hid (rbb_no HL.out H.out.1)
    have HZ := Lib.hid HB.out.size
    go_wp2_with fail
    go_ret2
    exact ⟨⟨_, _, [], _, rfl, Lib.hid ⟨HR.out, ns_nil w1 _ _ HZ.out⟩⟩, HB.out.alloc HZ.out _⟩
  | true =>
    have HR := Lib.hid (rbb_of HL.out H.out.1)
    go_wp2_with fail
    go_ret2
    exact ⟨⟨_, vs, bss, _, rfl, Lib.hid ⟨HR.out, H.out.2⟩⟩, HB.out⟩
end Go.Proofs.YtidbkamadclchaaDoor.ReadBL
