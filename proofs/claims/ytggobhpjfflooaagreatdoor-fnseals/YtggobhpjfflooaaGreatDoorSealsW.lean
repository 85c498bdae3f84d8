/-
  What is proved: plain facts on blocks: what is sealed is opened in its place, kind and epoch; nonces of another place or epoch are others; words are read back from their bytes. Nothing of the program's runs.
-/
import Derived.Test.YtggobhpjfflooaaGreatDoorRows
import Derived.Test.YtggobhpjfflooaaGreatDoorOpenAtL
import Derived.Test.YtggobhpjfflooaaGreatDoorFnBox
import Derived.Test.YtggobhpjfflooaaGreatDoorInts
import Derived.Test.YtggobhpjfflooaaGreatDoorInts3
namespace Go.Proofs.YtggobhpjfflooaaGreatDoor.SealsW
open Go.ChangeShapes Go.WideShapes Go.ChangeAt Go.RowKit
open BoxL (sealT sealT_size)
open Word (bN bN_lt bN_at)
open Low (b8 b8_length b8_at)
open Nonce (Ok In nonT nonL nonT_size)
open Ints (wd wl wl_length)
open Cha (lw)
set_option linter.unusedVariables false

theorem ask_zero {key : ByteArray} {k p e : Int} {t : ByteArray} (h1 : key.size = 32) (h2 : t.size ≤ 65536) (h3 : Ok k p e) : SealAtL.ask key k p e t = 0 := by
  unfold SealAtL.ask
  rw [if_neg (by omega), if_pos h1, if_pos h3]
theorem seal_ok (key : ByteArray) (k p e : Int) (t : ByteArray) (h1 : key.size = 32) (h2 : t.size ≤ 65536) (h3 : Ok k p e) : SealAtL.sealRes key k p e t = .tuple #[.string (sealT key (SealAtL.non k p e) SealAtL.bk t), .int .i64 0] := by
  unfold SealAtL.sealRes
  rw [if_pos (ask_zero h1 h2 h3)]
theorem open_ok (key : ByteArray) (k p e : Int) (t : ByteArray) (h1 : key.size = 32) (h2 : t.size + 16 ≤ 65536) (h3 : Ok k p e) : OpenAtL.openRes key k p e (sealT key (SealAtL.non k p e) SealAtL.bk t) = .tuple #[.string t, .int .i64 0] := by
  have hs : (sealT key (SealAtL.non k p e) SealAtL.bk t).size ≤ 65536 := by rw [sealT_size]; omega
  have h := FnBox.open_seal key (SealAtL.non k p e) SealAtL.bk t h1 (SealAtL.non_size k p e) (by rw [SealAtL.bk_size]; omega) h2
  unfold BoxL.openRes at h
  rw [if_pos (SealAtL.code_ok key _ SealAtL.bk _ h1 (SealAtL.non_size k p e) (by rw [SealAtL.bk_size]; omega) hs)] at h
  unfold OpenAtL.openRes
  rw [if_pos (ask_zero h1 hs h3)]
  exact h
theorem res_ok (k p e : Int) (h : Ok k p e) : Nonce2.res k p e = .tuple #[.string (SealAtL.non k p e), .int .i64 0] := by
  unfold Nonce2.res
  rw [if_pos h]
  rfl

theorem non1 (k p e : Nat) : (nonL k p e)[1]? = some (UInt8.ofNat (p % 256)) := by
  unfold nonL
  simp [b8]
theorem non4 (k p e : Nat) : (nonL k p e)[4]? = some (UInt8.ofNat (e % 256)) := by
  unfold nonL
  simp [b8]
theorem nonL_of {k p e k' p' e' : Nat} (h : nonT k p e = nonT k' p' e') : nonL k p e = nonL k' p' e' := by
  have h2 : (nonL k p e).toArray = (nonL k' p' e').toArray := congrArg ByteArray.data h
  simpa using h2
theorem ofNat_ne {x y : Nat} (hx : x < 256) (hy : y < 256) (h : x ≠ y) : UInt8.ofNat x ≠ UInt8.ofNat y := by
  intro e
  have := congrArg UInt8.toNat e
  rw [UInt8.toNat_ofNat', UInt8.toNat_ofNat', Nat.mod_eq_of_lt hx, Nat.mod_eq_of_lt hy] at this
  exact h this
theorem ne_place (k p e k' p' e' : Nat) (hp : p < 256) (hp' : p' < 256) (h : p ≠ p') : nonT k p e ≠ nonT k' p' e' := by
  intro he
  have h1 := non1 k p e
  rw [nonL_of he, non1] at h1
  exact ofNat_ne (Nat.mod_lt _ (by omega)) (Nat.mod_lt _ (by omega)) (by omega) (Option.some.inj h1).symm
theorem ne_epoch (k p e k' p' : Nat) : nonT k p e ≠ nonT k' p' (e + 1) := by
  intro he
  have h1 := non4 k p e
  rw [nonL_of he, non4] at h1
  exact ofNat_ne (Nat.mod_lt _ (by omega)) (Nat.mod_lt _ (by omega)) (by omega) (Option.some.inj h1).symm

theorem wl_at (zs : List Int) : ∀ (n j r : Nat), j < n → r < 4 → (wl zs n)[4 * j + r]? = some (UInt8.ofNat ((wd zs j).toNat / 2 ^ (8 * r) % 256))
  | 0, j, r, h, _ => by omega
  | n + 1, j, r, h, hr => by
    show (wl zs n ++ b8 (wd zs n).toNat 4)[4 * j + r]? = _
    by_cases e : j < n
    · rw [List.getElem?_append_left (by rw [wl_length]; omega)]
      exact wl_at zs n j r e hr
    · obtain rfl : j = n := by omega
      rw [List.getElem?_append_right (by rw [wl_length]; omega), wl_length, show 4 * j + r - 4 * j = r by omega]
      exact b8_at _ 4 r hr
theorem bN_wl (zs : List Int) (n j r : Nat) (hj : j < n) (hr : r < 4) : bN ⟨(wl zs n).toArray⟩ (4 * j + r) = (wd zs j).toNat / 2 ^ (8 * r) % 256 := by
  have hl : 4 * j + r < (⟨(wl zs n).toArray⟩ : ByteArray).size := by
    show 4 * j + r < (wl zs n).toArray.size
    rw [List.size_toArray, wl_length]
    omega
  rw [← bN_at _ _ hl]
  have h := wl_at zs n j r hj hr
  have h2 : (wl zs n)[4 * j + r]? = some ((⟨(wl zs n).toArray⟩ : ByteArray)[4 * j + r]) := by
    rw [List.getElem?_eq_getElem (by rw [wl_length]; omega)]
    rfl
  rw [h2] at h
  rw [Option.some.inj h, UInt8.toNat_ofNat']
  omega
/-- A word is read back from its bytes. -/
theorem lw_wl (zs : List Int) (n j : Nat) (hj : j < n) (hx : (wd zs j).toNat < 4294967296) : lw ⟨(wl zs n).toArray⟩ j = (wd zs j).toNat := by
  unfold lw
  have h0 := bN_wl zs n j 0 hj (by omega)
  rw [Nat.add_zero] at h0
  rw [h0, bN_wl zs n j 1 hj (by omega), bN_wl zs n j 2 hj (by omega), bN_wl zs n j 3 hj (by omega)]
  generalize (wd zs j).toNat = x at *
  simp only [Nat.mul_zero, Nat.pow_zero, Nat.div_one]
  omega
/-- The bytes of the words of a list. -/
def tx (zs : List Int) : ByteArray := ⟨(wl zs zs.length).toArray⟩
theorem tx_size (zs : List Int) : (tx zs).size = 4 * zs.length := by
  show (wl zs zs.length).toArray.size = _
  rw [List.size_toArray, wl_length]
theorem code_tx (zs : List Int) (h : zs.length ≤ 100) : Ints3.code (tx zs) = 0 := by
  unfold Ints3.code
  rw [tx_size, if_neg (by omega), if_pos (by omega)]
theorem out_tx (zs : List Int) (h : zs.length ≤ 100) (hx : ∀ x ∈ zs, 0 ≤ x ∧ x < 8) : Ints3.out (tx zs) = zs := by
  unfold Ints3.out
  rw [if_pos (code_tx zs h), tx_size, show 4 * zs.length / 4 = zs.length by omega]
  apply List.ext_getElem?
  intro j
  by_cases h2 : j < zs.length
  · have hb := hx zs[j] (List.getElem_mem _)
    have hw : wd zs j = zs[j] := by
      unfold wd
      rw [List.getD_eq_getElem?_getD, List.getElem?_eq_getElem h2]
      rfl
    have hl : lw (tx zs) j = (wd zs j).toNat := lw_wl zs zs.length j h2 (by rw [hw]; omega)
    have e1 : (Ints3.ws (tx zs) zs.length)[j]? = some ((lw (tx zs) j : Nat) : Int) := by simp [Ints3.ws, h2]
    rw [e1, List.getElem?_eq_getElem h2, hl, hw]
    congr 1
    omega
  · rw [List.getElem?_eq_none (by rw [Ints3.ws_length]; omega), List.getElem?_eq_none (by omega)]
theorem good_of (zs : List Int) (hx : ∀ x ∈ zs, 0 ≤ x ∧ x < 8) : Ints.Good zs := by
  intro j hj
  have hb := hx zs[j] (List.getElem_mem _)
  have hw : wd zs j = zs[j] := by
    unfold wd
    rw [List.getD_eq_getElem?_getD, List.getElem?_eq_getElem hj]
    rfl
  rw [hw]
  omega
theorem ints_ok (zs : List Int) (h : zs.length ≤ 100) (hx : ∀ x ∈ zs, 0 ≤ x ∧ x < 8) : Ints.res zs = .tuple #[.string (tx zs), .int .i64 0] := by
  unfold Ints.res
  rw [if_neg (by omega), if_pos (good_of zs hx)]
  rfl
theorem code_more (zs : List Int) (h : zs.length ≤ 100) : Ints3.code (tx zs ++ { data := #[120] }) = 3 := by
  unfold Ints3.code
  rw [ByteArray.size_append, tx_size]
  rw [if_neg (by show ¬ 65536 < 4 * zs.length + 1; omega), if_neg (by show ¬ (4 * zs.length + 1) % 4 = 0; omega)]
end Go.Proofs.YtggobhpjfflooaaGreatDoor.SealsW
