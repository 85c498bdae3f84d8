/-
  What is proved: digits are read back as the bytes that they tell (plain), and the law FnHex returns true (the walk).
-/
import Derived.Test.YtemnnbjmpdfigaaRows
import Derived.Test.YtemnnbjmpdfigaaSrc
import Derived.Test.YtemnnbjmpdfigaaHex
import Derived.Test.YtemnnbjmpdfigaaUnHex
namespace Go.Proofs.Ytemnnbjmpdfigaa.FnHex
open Go.ChangeShapes Go.WideShapes Go.ChangeAt Go.RowKit
open Bytes (BV Owns)
open Src (IsRow)
open Hex (hexL hexN two)
open UnHex (nib byteN goodAt valAt valL goodB resB cod)
set_option linter.unusedVariables false

theorem nib_hexN (d : Nat) (h : d < 16) : nib (hexN d : Int) = d := by
  unfold nib hexN
  split <;> split <;> (try split) <;> omega
theorem hexL_even (l : List UInt8) (j : Nat) (h : j < l.length) : (hexL l)[2 * j]? = some (UInt8.ofNat (hexN (l[j].toNat / 16))) ∧ (hexL l)[2 * j + 1]? = some (UInt8.ofNat (hexN (l[j].toNat % 16))) := by
  induction l generalizing j with
  | nil => simp at h
  | cons c l ih =>
    match j with
    | 0 => simp [hexL, two]
    | j + 1 =>
      have := ih j (by simpa using h)
      have e1 : 2 * (j + 1) = 2 * j + 1 + 1 := by omega
      have e2 : 2 * (j + 1) + 1 = 2 * j + 1 + 1 + 1 := by omega
      simp only [hexL, two, List.flatMap_cons] at this ⊢
      rw [e1]
      simpa using this
theorem toNat_hexN (d : Nat) (h : d < 16) : (UInt8.ofNat (hexN d)).toNat = hexN d := by
  rw [UInt8.toNat_ofNat', Nat.mod_eq_of_lt (Hex.hexN_lt d h)]
/-- Digits at the head of a text. -/
theorem byteN_hex (l t : List UInt8) (j : Nat) (h : j < l.length) : byteN ⟨(hexL l ++ t).toArray⟩ (2 * j) = (hexN (l[j].toNat / 16) : Int) ∧ byteN ⟨(hexL l ++ t).toArray⟩ (2 * j + 1) = (hexN (l[j].toNat % 16) : Int) := by
  obtain ⟨h1, h2⟩ := hexL_even l j h
  have hl := Hex.hexL_length l
  have hc := (l[j]).toNat_lt
  unfold byteN
  simp only [List.getD_eq_getElem?_getD]
  rw [List.getElem?_append_left (by omega), List.getElem?_append_left (by omega), h1, h2]
  simp only [Option.getD_some]
  rw [toNat_hexN _ (by omega), toNat_hexN _ (by omega)]
  exact ⟨rfl, rfl⟩
theorem good_hex (l t : List UInt8) (j : Nat) (h : j < l.length) : goodAt ⟨(hexL l ++ t).toArray⟩ j = true ∧ valAt ⟨(hexL l ++ t).toArray⟩ j = l[j] := by
  obtain ⟨h1, h2⟩ := byteN_hex l t j h
  have hc := (l[j]).toNat_lt
  unfold goodAt valAt
  rw [h1, h2, nib_hexN _ (by omega), nib_hexN _ (by omega)]
  refine ⟨by simp; omega, ?_⟩
  have : (16 * ((l[j].toNat / 16 : Nat) : Int) + ((l[j].toNat % 16 : Nat) : Int)).toNat = l[j].toNat := by omega
  rw [this]
  simp
theorem size_of (l : List UInt8) : (ByteArray.mk l.toArray).size = l.length := rfl
theorem back (l : List UInt8) : goodB ⟨(hexL l).toArray⟩ = true ∧ resB ⟨(hexL l).toArray⟩ = ⟨l.toArray⟩ := by
  have hl := Hex.hexL_length l
  have hg : goodB ⟨(hexL l).toArray⟩ = true := UnHex.good_yes _ (by rw [size_of]; omega) (fun j hj => by
    rw [size_of] at hj
    have := (good_hex l [] j (by omega)).1
    simpa using this)
  refine ⟨hg, ?_⟩
  rw [UnHex.resB_yes hg, size_of, hl]
  have : valL ⟨(hexL l).toArray⟩ (2 * l.length / 2) = l := by
    rw [show 2 * l.length / 2 = l.length by omega]
    unfold valL
    apply List.ext_getElem
    · simp
    · intro i h1 h2
      have := (good_hex l [] i h2).2
      simpa using this
  rw [this]
theorem bad_odd (l : List UInt8) : goodB (⟨(hexL l).toArray⟩ ++ ⟨#[48]⟩) = false := by
  have hl := Hex.hexL_length l
  apply UnHex.good_odd
  rw [ByteArray.size_append, size_of]
  show ¬ ((hexL l).length + 1) % 2 = 0
  omega
theorem app_eq (l t : List UInt8) : (⟨l.toArray⟩ : ByteArray) ++ ⟨t.toArray⟩ = ⟨(l ++ t).toArray⟩ := by
  apply ByteArray.ext
  simp [ByteArray.data_append]
theorem bad_g (l : List UInt8) : goodB (⟨(hexL l).toArray⟩ ++ ⟨#[103, 48]⟩) = false := by
  have hl := Hex.hexL_length l
  have e := app_eq (hexL l) [103, 48]
  rw [show (⟨#[103, 48]⟩ : ByteArray) = ⟨[103, 48].toArray⟩ from rfl, e]
  apply UnHex.good_no _ l.length (by rw [size_of]; simp; omega) (by rw [size_of]; simp; omega)
  unfold goodAt byteN
  have : (hexL l ++ [103, 48])[2 * l.length]? = some 103 := by rw [List.getElem?_append_right (by omega), hl]; simp
  simp only [List.getD_eq_getElem?_getD, this]
  rfl

set_option maxRecDepth 100000 in
set_option maxHeartbeats 1600000 in
theorem walk (a : Option Addr) (len cap : Nat) (zs : List Int) (w : World) (h : IsRow .u8 w a len cap zs) :
    Calls Try.prog 3 #[.slice a len cap] w fun e w' => e = .returned (.bool true) ∧ Below w.heap.size w w' := by
  have HR := Lib.hid h
  have hl := h.code.1
  unfold maxLen at hl
  clear h
  by_cases hbig : 1048576 < len
  · go_enter Try.func3, Try.ntmps3
    go_wp2_with fail
    go_ret
    exact ⟨rfl, Below.refl _ _⟩
  · have d1 : decide (1048576 < (len : Int)) = false := decide_eq_false (by omega)
    go_enter Try.func3, Try.ntmps3
    go_wp2_with fail
    refine (Src.textOf w a len cap zs HR.out).mono ?_
    rintro e w1 ⟨bs, rfl, hb, hbel⟩
    have HB1 := Lib.hid hbel
    clear hbel
    have hbs : (ByteArray.mk bs.toArray).size ≤ 199 := hb
    go_wp2_with fail
    refine (Hex.hex_impl ⟨bs.toArray⟩ (by omega) _).mono ?_
    rintro e w2 ⟨rfl, hbel⟩
    have HB2 := Lib.hid hbel
    clear hbel
    go_wp2_with fail
    refine (Hex.hexof_spec ⟨bs.toArray⟩ (by omega) _).mono ?_
    rintro e w3 ⟨rfl, hbel⟩
    have HB3 := Lib.hid hbel
    clear hbel
    have HBK := Lib.hid (back bs)
    have HOD := Lib.hid (bad_odd bs)
    have HGG := Lib.hid (bad_g bs)
    have HSZ := Lib.hid (show (ByteArray.mk (hexL bs).toArray).size = 2 * (ByteArray.mk bs.toArray).size from Hex.hexL_length bs)
    generalize (⟨(hexL bs).toArray⟩ : ByteArray) = Hx at *
    generalize (⟨bs.toArray⟩ : ByteArray) = T at *
    have hsz : Hx.size ≤ 398 := by rw [HSZ.out]; omega
    go_wp2_with fail
    refine (UnHex.unhex_impl Hx (by omega) _).mono ?_
    rintro e w4 ⟨rfl, hbel⟩
    have HB4 := Lib.hid hbel
    clear hbel
    rw [HBK.out.2, UnHex.cod_yes HBK.out.1]
    go_wp2_with fail
    refine (UnHex.unhex_impl _ (by rw [ByteArray.size_append]; have : (ByteArray.mk #[48]).size = 1 := rfl; omega) _).mono ?_
    rintro e w5 ⟨rfl, hbel⟩
    have HB5 := Lib.hid hbel
    clear hbel
    rw [UnHex.resB_no HOD.out, UnHex.cod_no HOD.out]
    go_wp2_with fail
    refine (UnHex.unhex_impl _ (by rw [ByteArray.size_append]; have : (ByteArray.mk #[103, 48]).size = 2 := rfl; omega) _).mono ?_
    rintro e w6 ⟨rfl, hbel⟩
    have HB6 := Lib.hid hbel
    clear hbel
    rw [UnHex.resB_no HGG.out, UnHex.cod_no HGG.out]
    have dd : ((Hx.size : Int) == 2 * (T.size : Int)) = true := beq_iff_eq.2 (by rw [HSZ.out]; omega)
    go_wp2
    go_ret
    exact ⟨rfl, ((((HB1.out.trans (HB2.out.mono HB1.out.size)).trans (HB3.out.mono (Nat.le_trans HB1.out.size HB2.out.size))).trans (HB4.out.mono (Nat.le_trans (Nat.le_trans HB1.out.size HB2.out.size) HB3.out.size))).trans (HB5.out.mono (Nat.le_trans (Nat.le_trans (Nat.le_trans HB1.out.size HB2.out.size) HB3.out.size) HB4.out.size))).trans (HB6.out.mono (Nat.le_trans (Nat.le_trans (Nat.le_trans (Nat.le_trans HB1.out.size HB2.out.size) HB3.out.size) HB4.out.size) HB5.out.size))⟩
end Go.Proofs.Ytemnnbjmpdfigaa.FnHex
