/-
  What is proved: whether a proof leads from a text to a root is one plain answer with its code; the program's call and the model's both give it (contracts for the walks), the program's where the package's table holds its words.
-/
import Derived.Test.YtemlmffoehclhaaDoorRows
import Derived.Test.YtemlmffoehclhaaDoorTree4
namespace Go.Proofs.YtemlmffoehclhaaDoor.Chk
open Go.ChangeShapes Go.WideShapes Go.ChangeAt Go.RowKit
open Sl (Sl Own Off)
open OpenSl (tc nc pc)
open Dev
open MixBlock (Tab)
open Tree1 (leafT joinT leafT_size joinT_size)
open Tree2 (tx sc tc_sc)
open Tree4 (num8)
set_option linter.unusedVariables false

/-- The digest that k members of a proof lead to. -/
def up (f : Nat → ByteArray) (a : Nat) (x : ByteArray) : Nat → ByteArray
  | 0 => x
  | k + 1 => if (a / 2 ^ k) % 2 = 0 then joinT (up f a x k) (f k) else joinT (f k) (up f a x k)
theorem up_size (f : Nat → ByteArray) (a : Nat) (x : ByteArray) (hx : x.size = 32) (k : Nat) : (up f a x k).size = 32 := by
  cases k with
  | zero => exact hx
  | succ k => unfold up; split <;> exact joinT_size _ _
theorem up_left (f : Nat → ByteArray) (a : Nat) (x : ByteArray) (k : Nat) (h : (a / 2 ^ k) % 2 = 0) : up f a x (k + 1) = joinT (up f a x k) (f k) := if_pos h
theorem up_right (f : Nat → ByteArray) (a : Nat) (x : ByteArray) (k : Nat) (h : ¬ (a / 2 ^ k) % 2 = 0) : up f a x (k + 1) = joinT (f k) (up f a x k) := if_neg h
/-- The code. -/
def code (root : ByteArray) (z : Int) (t : ByteArray) (ts : List ByteArray) : Int :=
  if 65536 < root.size ∨ 65536 < t.size ∨ 4096 < ts.length then 2
  else if root.size = 32 ∧ ts.length = 4 then (if 0 ≤ z ∧ z < 16 then (if (ts.all fun s => decide (s.size = 32)) = true then 0 else 8) else 4) else 8
def yes (root : ByteArray) (z : Int) (t : ByteArray) (ts : List ByteArray) : Bool :=
  if code root z t ts = 0 then ((up (tx ts) z.toNat (leafT z.toNat t) 4).toList == root.toList) else false
section
variable {root : ByteArray} {z : Int} {t : ByteArray} {ts : List ByteArray}
theorem c_long (h : 65536 < root.size ∨ 65536 < t.size ∨ 4096 < ts.length) : code root z t ts = 2 := if_pos h
theorem c_size (h : ¬ (65536 < root.size ∨ 65536 < t.size ∨ 4096 < ts.length)) (h1 : ¬ (root.size = 32 ∧ ts.length = 4)) : code root z t ts = 8 := by unfold code; rw [if_neg h, if_neg h1]
theorem c_range (h : ¬ (65536 < root.size ∨ 65536 < t.size ∨ 4096 < ts.length)) (h1 : root.size = 32 ∧ ts.length = 4) (h2 : ¬ (0 ≤ z ∧ z < 16)) : code root z t ts = 4 := by unfold code; rw [if_neg h, if_pos h1, if_neg h2]
theorem c_bad (h : ¬ (65536 < root.size ∨ 65536 < t.size ∨ 4096 < ts.length)) (h1 : root.size = 32 ∧ ts.length = 4) (h2 : 0 ≤ z ∧ z < 16) (j : Nat) (hj : j < 4) (hs : ¬ (tx ts j).size = 32) : code root z t ts = 8 := by
  unfold code
  rw [if_neg h, if_pos h1, if_pos h2, if_neg]
  intro ha
  exact hs (of_decide_eq_true (List.all_eq_true.1 ha _ (LawS.mem_getD (ts := ts) (k := j) (by omega))))
theorem c_ok (h : ¬ (65536 < root.size ∨ 65536 < t.size ∨ 4096 < ts.length)) (h1 : root.size = 32 ∧ ts.length = 4) (h2 : 0 ≤ z ∧ z < 16) (hs : ∀ j, j < 4 → (tx ts j).size = 32) : code root z t ts = 0 := by
  unfold code
  rw [if_neg h, if_pos h1, if_pos h2, if_pos]
  refine List.all_eq_true.2 fun s hm => ?_
  obtain ⟨j, hj, rfl⟩ := List.getElem_of_mem hm
  have := hs j (by omega)
  unfold tx at this
  rw [List.getD_eq_getElem?_getD, List.getElem?_eq_getElem hj] at this
  exact decide_eq_true this
theorem c_zero (h : code root z t ts = 0) : root.size = 32 ∧ t.size ≤ 65536 ∧ ts.length = 4 ∧ (0 ≤ z ∧ z < 16) ∧ ∀ j, j < 4 → (tx ts j).size = 32 := by
  by_cases h1 : 65536 < root.size ∨ 65536 < t.size ∨ 4096 < ts.length
  · rw [c_long h1] at h; exact absurd h (by decide)
  by_cases h2 : root.size = 32 ∧ ts.length = 4
  · by_cases h3 : 0 ≤ z ∧ z < 16
    · refine ⟨h2.1, by omega, h2.2, h3, fun j hj => ?_⟩
      by_cases h4 : (tx ts j).size = 32
      · exact h4
      · rw [c_bad h1 h2 h3 j hj h4] at h; exact absurd h (by decide)
    · rw [c_range h1 h2 h3] at h; exact absurd h (by decide)
  · rw [c_size h1 h2] at h; exact absurd h (by decide)
theorem y_no (h : code root z t ts ≠ 0) : yes root z t ts = false := if_neg h
theorem y_ok (h : code root z t ts = 0) : yes root z t ts = ((up (tx ts) z.toNat (leafT z.toNat t) 4).toList == root.toList) := if_pos h
end

set_option maxRecDepth 100000 in
set_option maxHeartbeats 1600000 in
theorem proofFault (w : World) (root : ByteArray) (z : Int) (t : ByteArray) (v : Value) (ts : List ByteArray) (hr : root.size ≤ maxLen) (ht : t.size ≤ maxLen) (h : Sl w 1 v ts.length (tc ts)) (hs : ∀ s ∈ ts, s.size ≤ maxLen) :
    Calls Tryd.prog 55 #[.string root, .int .i64 z, .string t, v] w fun e w' => e = .returned (.int .i64 (code root z t ts)) ∧ w' = w := by
  obtain ⟨a, cap, rfl, h1, h2, h3⟩ := h
  have HS := Lib.hid (show ∀ j, (tx ts j).size ≤ maxLen from LawS.size_le hs)
  rw [tc_sc] at h3
  have H3 := Lib.hid h3
  clear hs h3
  unfold maxLen at h2 HS hr ht
  by_cases g0 : 65536 < root.size ∨ 65536 < t.size ∨ 4096 < ts.length
  · rw [c_long g0]
    clear H3 HS
    generalize ts.length = n at *
    by_cases ga : 65536 < root.size
    · have d0 : decide (65536 < (root.size : Int)) = true := decide_eq_true (by omega)
      go_enter Tryd.func55, Tryd.ntmps55
      go_wp2
      go_ret
      exact ⟨rfl, rfl⟩
    have d0 : decide (65536 < (root.size : Int)) = false := decide_eq_false (by omega)
    by_cases gb : 65536 < t.size
    · have d1 : decide (65536 < (t.size : Int)) = true := decide_eq_true (by omega)
      go_enter Tryd.func55, Tryd.ntmps55
      go_wp2
      go_ret
      exact ⟨rfl, rfl⟩
    have d1 : decide (65536 < (t.size : Int)) = false := decide_eq_false (by omega)
    have d2 : decide (4096 < (n : Int)) = true := decide_eq_true (by omega)
    go_enter Tryd.func55, Tryd.ntmps55
    go_wp2
    go_ret
    exact ⟨rfl, rfl⟩
  have d0 : decide (65536 < (root.size : Int)) = false := decide_eq_false (by omega)
  have d1 : decide (65536 < (t.size : Int)) = false := decide_eq_false (by omega)
  have d2 : decide (4096 < (ts.length : Int)) = false := decide_eq_false (by omega)
  by_cases g1 : root.size = 32 ∧ ts.length = 4
  · have b0 : ((root.size : Int) != 32) = false := by rw [g1.1]; rfl
    have HI := Lib.hid (Tree1.isLeaf z)
    by_cases g2 : 0 ≤ z ∧ z < 16
    · rw [decide_eq_true g2] at HI
      have A0 := Lib.hid (fun j hj hs => (c_bad g0 g1 g2 j hj hs : code root z t ts = 8))
      have A1 := Lib.hid (fun hs => (c_ok g0 g1 g2 hs : code root z t ts = 0))
      generalize code root z t ts = c at *
      rw [g1.2] at H3 h1 d2 ⊢
      generalize tx ts = f at *
      clear g0 g1 g2
      go_enter Tryd.func55, Tryd.ntmps55
      go_wp2_with fail
      refine (HI.out _).mono ?_
      rintro e w1 ⟨rfl, rfl⟩
      go_wp2
      go_loopw [40] (fun i wr => ∃ k : Nat, k ≤ 4 ∧ i = .int .i64 k ∧ wr = w1 ∧ Hid (∀ j, j < k → (f j).size = 32)) (fun i _ => 4 - (intOf i).toNat)
      case atStart => exact ⟨0, by omega, rfl, rfl, Lib.hid fun j hj => by omega⟩
      case round =>
        obtain ⟨k, hk, rfl, rfl, HJ⟩ := hrel
        by_cases hkn : k < 4
        · obtain ⟨b, o, rfl, hc⟩ := H3.out (by omega)
          have c0 := hc k (by omega)
          unfold sc at c0
          have hsz := HS.out k
          have HB := Lib.hid (A0.out k hkn)
          have HJ2 := Lib.hid (show (f k).size = 32 → ∀ j, j < k + 1 → (f j).size = 32 from fun hs j hj => by
            by_cases ej : j = k
            · rw [ej]; exact hs
            · exact HJ.out j (by omega))
          clear hc HS
          generalize f k = s at *
          by_cases hb : s.size = 32
          · have b5 : ((s.size : Int) != 32) = false := by rw [hb]; rfl
            have HJ3 := Lib.hid (HJ2.out hb)
            clear hb
            go_wp2
            go_roundw
            case rel => exact ⟨k + 1, by omega, by go_num, by trivial, HJ3⟩
            case measure => simp [intOf]; omega
          · have HC := Lib.hid (HB.out hb)
            have b5 : ((s.size : Int) != 32) = true := by simp; omega
            clear hb
            go_wp2
            go_ret
            exact ⟨by rw [HC.out]; rfl, rfl⟩
        · have HC := Lib.hid (A1.out fun j hj => HJ.out j (by omega))
          go_wp2
          go_ret
          exact ⟨by rw [HC.out]; rfl, rfl⟩
    · rw [c_range g0 g1 g2]
      rw [decide_eq_false g2] at HI
      rw [g1.2] at h1 d2 ⊢
      clear g0 g1 g2 H3 HS
      go_enter Tryd.func55, Tryd.ntmps55
      go_wp2_with fail
      refine (HI.out _).mono ?_
      rintro e w1 ⟨rfl, rfl⟩
      go_wp2
      go_ret
      exact ⟨rfl, rfl⟩
  · rw [c_size g0 g1]
    clear H3 HS
    generalize ts.length = n at *
    by_cases ga : root.size = 32
    · have b0 : ((root.size : Int) != 32) = false := by rw [ga]; rfl
      have b1 : ((n : Int) != 4) = true := by simp; omega
      clear ga g0 g1
      go_enter Tryd.func55, Tryd.ntmps55
      go_wp2
      go_ret
      exact ⟨rfl, rfl⟩
    · have b0 : ((root.size : Int) != 32) = true := by simp; omega
      clear ga g0 g1
      go_enter Tryd.func55, Tryd.ntmps55
      go_wp2
      go_ret
      exact ⟨rfl, rfl⟩

set_option maxRecDepth 100000 in
set_option maxHeartbeats 1600000 in
theorem impl (w : World) (root : ByteArray) (z : Int) (t : ByteArray) (v : Value) (ts : List ByteArray) (hr : root.size ≤ maxLen) (ht : t.size ≤ maxLen) (h : Sl w 1 v ts.length (tc ts)) (hs : ∀ s ∈ ts, s.size ≤ maxLen) (T : Tab w) :
    Calls Tryd.prog 25 #[.string root, .int .i64 z, .string t, v] w fun e w' => e = .returned (.tuple #[.bool (yes root z t ts), .int .i64 (code root z t ts)]) ∧ Below w.heap.size w w' := by
  have HP := Lib.hid (proofFault w root z t v ts hr ht h hs)
  by_cases h0 : code root z t ts = 0
  · obtain ⟨q1, q2, q3, q4, q5⟩ := c_zero h0
    rw [y_ok h0, h0]
    rw [h0] at HP
    have TT := Lib.hid T
    have HTL := Lib.hid T.lt
    obtain ⟨ad, cap, rfl, h1, h2, h3⟩ := h
    rw [tc_sc] at h3
    have H3 := Lib.hid h3
    clear h3 T hs h0 ht
    obtain ⟨a, rfl⟩ : ∃ a : Nat, z = a := ⟨z.toNat, by omega⟩
    rw [Int.toNat_natCast]
    have HA := Lib.hid (show a < 16 by omega)
    have HLF := Lib.hid (fun u hu => Tree1.leafDigest a (by omega) t q2 u hu)
    have HX := Lib.hid (leafT_size a t)
    generalize leafT a t = X at *
    generalize tx ts = f at *
    have HUL := Lib.hid (fun k => up_left f a X k)
    have HUR := Lib.hid (fun k => up_right f a X k)
    have HUS := Lib.hid (up_size f a X HX.out)
    have HU0 := Lib.hid (show up f a X 0 = X from rfl)
    generalize up f a X = U at *
    have HF := Lib.hid q5
    rw [q3] at *
    clear q1 q2 q3 q4 q5 h1
    go_enter Tryd.func25, Tryd.ntmps25
    go_wp2_with fail
    refine HP.out.mono ?_
    rintro e w1 ⟨rfl, rfl⟩
    go_wp2_with fail
    refine (HLF.out _ TT.out).mono ?_
    rintro e w2 ⟨rfl, hb⟩
    have HB2 := Lib.hid hb
    clear hb HLF HP
    go_wp2_with fail
    go_loopg [11, 27] 4 (fun g s11 s27 wz => ∃ (k : Nat) (D : ByteArray) (wr : World), wr = wz ∧ k + g = 4 ∧ s27 = .int .i64 k ∧ s11 = .string D ∧ Hid (D = U k) ∧ Hid (Below w1.heap.size w1 wr))
    case atStart => exact ⟨0, X, _, rfl, by omega, rfl, rfl, Lib.hid HU0.out.symm, HB2⟩
    case round =>
      clear HB2
      obtain ⟨k, D, wr, rfl, hkg, rfl, rfl, HD, HB⟩ := hrel
      cases gk with
      | zero =>
        have hkz : ¬ ((k : Int) < 4) := by omega
        have HK := Lib.hid (show k = 4 by omega)
        have HDD := Lib.hid (show D = U 4 by have := HD.out; rw [HK.out] at this; exact this)
        clear hkg HD H3
        go_wp2
        go_ret2
        exact ⟨by rw [HDD.out]; rfl, HB.out⟩
      | succ g =>
        have hkz : (k : Int) < 4 := by omega
        have hk0 : (0 : Int) ≤ (k : Int) := by omega
        have hk4 : k < 4 := by omega
        have HKG := Lib.hid hkg
        have hp16 := num8 a HA.out k hk4
        have s2 : (a : Int) / 2 ^ k = ((a / 2 ^ k : Nat) : Int) := by simp
        have HL := Lib.hid (HUL.out k)
        have HR := Lib.hid (HUR.out k)
        have HFS := Lib.hid (HF.out k hk4)
        have HDS := Lib.hid (show D.size = 32 by rw [HD.out]; exact HUS.out k)
        rw [← HD.out] at HL HR
        obtain ⟨b, o, rfl, hc⟩ := H3.out (by omega)
        have c0 := hc k (by omega)
        rw [← HB.out.cell (World.block_lt_of_cell? w1 _ c0)] at c0
        unfold sc at c0
        clear hc hkg HD
        generalize a / 2 ^ k = p at *
        generalize f k = s at *
        have HQ := Lib.hid (Tree1.isLeft p (by omega))
        by_cases he : p % 2 = 0
        · rw [decide_eq_true he] at HQ
          have HU := Lib.hid (HL.out he)
          clear he HL HR
          go_wp2_with fail
          refine (HQ.out _).mono ?_
          rintro e w3 ⟨rfl, rfl⟩
          have HJ := Lib.hid (Tree1.joined D s HDS.out HFS.out w3 (TT.out.below HB.out HTL.out))
          generalize joinT D s = D2 at *
          go_wp2_with fail
          refine HJ.out.mono ?_
          rintro e w4 ⟨rfl, hb⟩
          have HB4 := Lib.hid (HB.out.trans (hb.mono HB.out.size))
          clear hb c0 HJ HB
          go_wp2
          go_roundg g
          case measure => omega
          case rel => exact ⟨k + 1, D2, _, rfl, by have := HKG.out; omega, by go_num, rfl, Lib.hid HU.out.symm, HB4⟩
        · rw [decide_eq_false he] at HQ
          have HU := Lib.hid (HR.out he)
          clear he HL HR
          go_wp2_with fail
          refine (HQ.out _).mono ?_
          rintro e w3 ⟨rfl, rfl⟩
          have HJ := Lib.hid (Tree1.joined s D HFS.out HDS.out w3 (TT.out.below HB.out HTL.out))
          generalize joinT s D = D2 at *
          go_wp2_with fail
          refine HJ.out.mono ?_
          rintro e w4 ⟨rfl, hb⟩
          have HB4 := Lib.hid (HB.out.trans (hb.mono HB.out.size))
          clear hb c0 HJ HB
          go_wp2
          go_roundg g
          case measure => omega
          case rel => exact ⟨k + 1, D2, _, rfl, by have := HKG.out; omega, by go_num, rfl, Lib.hid HU.out.symm, HB4⟩
  · rw [y_no h0]
    generalize code root z t ts = c at *
    have b0 : (c != 0) = true := by simp; exact h0
    clear h hs T h0 hr ht
    go_enter Tryd.func25, Tryd.ntmps25
    go_wp2_with fail
    refine HP.out.mono ?_
    rintro e w1 ⟨rfl, rfl⟩
    go_wp2
    go_ret2
    exact ⟨rfl, Below.refl _ _⟩
end Go.Proofs.YtemlmffoehclhaaDoor.Chk
