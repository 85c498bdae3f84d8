/-
  What is proved: the law on tags (they are as the document says; two are equal just if all their bytes are) returns true (the walk).
-/
import Derived.Test.YtkafaoajdfokcaaRows
import Derived.Test.YtkafaoajdfokcaaSrcKeyT
import Derived.Test.YtkafaoajdfokcaaAt
import Derived.Test.YtkafaoajdfokcaaPolyTagL
import Derived.Test.YtkafaoajdfokcaaTagEq
namespace Go.Proofs.Ytkafaoajdfokcaa.FnTag
open Go.ChangeShapes Go.WideShapes Go.ChangeAt Go.RowKit
open Poly PolyN
open TagEq (teq acc)
open Word (bN bN_lt bN_at)
open Src (IsRow)
set_option linter.unusedVariables false

theorem isRow_below {k : IntKind} {w w' : World} {a : Option Addr} {len cap : Nat} {zs : List Int} (h : IsRow k w a len cap zs) (hb : Below w.heap.size w w') : IsRow k w' a len cap zs := by
  rcases h with h | ⟨x, h1, h2, h3, h4, h5, h6⟩
  · exact .inl h
  · refine .inr ⟨x, h1, h2, h3, h4, fun i hi => ?_, h6⟩
    have hc := h5 i hi
    exact (hb.cell (World.block_lt_of_cell? w _ hc)).trans hc
theorem ext_bN (a b : ByteArray) (h : a.size = b.size) (hj : ∀ j, j < a.size → bN a j = bN b j) : a = b := by
  apply ByteArray.ext
  apply Array.ext
  · exact h
  · intro i h1 h2
    have e := hj i h1
    rw [← bN_at a i h1, ← bN_at b i h2] at e
    exact UInt8.toNat_inj.1 e
theorem bl_bN (N j : Nat) (h : j < 16) : bN ⟨(TagBytes.bl N).toArray⟩ j = N / 256 ^ j % 256 := by
  have hl : j < (⟨(TagBytes.bl N).toArray⟩ : ByteArray).size := by show j < (TagBytes.bl N).toArray.size; rw [List.size_toArray, TagBytes.bl_length]; exact h
  rw [← bN_at _ _ hl]
  exact TagBytes.bl_at N j (by rw [TagBytes.bl_length]; exact h)
/-- The tag of the empty text is the key's second half. -/
theorem empty_tag (key : ByteArray) (hk : key.size = 32) : tagT key ⟨#[]⟩ = key.extract 16 key.size := by
  have hs : (tail key).size = 16 := by unfold tail; rw [ByteArray.size_extract, hk]; omega
  have e : tagN key ⟨#[]⟩ = num (tail key) := by
    show 0 + num (tail key) = _
    omega
  show _ = tail key
  apply ext_bN
  · rw [tagT_size, hs]
  · intro j hj
    rw [tagT_size] at hj
    unfold tagT
    rw [bl_bN _ _ hj, e]
    unfold num
    rw [hs]
    have := le_byte (bN_lt (tail key)) 0 16 j hj
    rw [Nat.zero_mul, Nat.add_zero] at this
    exact this
theorem acc_self (a : ByteArray) : ∀ n, acc a a n = 0
  | 0 => rfl
  | n + 1 => by
    show acc a a n ||| (bN a n ^^^ bN a n) = 0
    rw [acc_self a n, Nat.xor_self]
    rfl
theorem acc_ne (a b : ByteArray) (j : Nat) (h : bN a j ≠ bN b j) : ∀ n, j < n → acc a b n ≠ 0
  | 0, hn => by omega
  | n + 1, hn => by
    show acc a b n ||| (bN a n ^^^ bN b n) ≠ 0
    intro h0
    obtain ⟨h1, h2⟩ := Nat.or_eq_zero_iff.1 h0
    by_cases e : j = n
    · subst e
      have h3 : (bN a j ^^^ bN b j) ^^^ bN b j = 0 ^^^ bN b j := by rw [h2]
      rw [Nat.xor_assoc, Nat.xor_self, Nat.xor_zero, Nat.zero_xor] at h3
      exact h h3
    · exact acc_ne a b j h n (by omega) h1
theorem teq_self (a : ByteArray) (h : a.size = 16) : teq a a = true := decide_eq_true ⟨by omega, rfl, acc_self a _⟩
theorem teq_short (a b : ByteArray) (h : a.size ≠ b.size) : teq a b = false := decide_eq_false fun h2 => h h2.2.1
/-- A text of which byte i is changed. -/
def turned (x : ByteArray) (i y : Nat) : ByteArray := x.extract 0 i ++ ⟨#[UInt8.ofNat y]⟩ ++ x.extract (i + 1) x.size
theorem turned_at (x : ByteArray) (i y : Nat) (hi : i < x.size) (hy : y < 256) : bN (turned x i y) i = y := by
  have s0 : (x.extract 0 i).size = i := by rw [ByteArray.size_extract]; omega
  have s1 : (x.extract 0 i ++ ⟨#[UInt8.ofNat y]⟩).size = i + 1 := by rw [ByteArray.size_append, s0]; rfl
  unfold turned
  rw [bN_append, if_pos (by omega), bN_append, if_neg (by omega), s0, Nat.sub_self]
  show (UInt8.ofNat y).toNat = y
  rw [UInt8.toNat_ofNat']
  exact Nat.mod_eq_of_lt hy
theorem turned_teq (x : ByteArray) (i y : Nat) (hi : i < x.size) (hy : y < 256) (hne : bN x i ≠ y) : teq x (turned x i y) = false :=
  decide_eq_false fun h => acc_ne x (turned x i y) i (by rw [turned_at x i y hi hy]; exact hne) x.size hi h.2.2
theorem turned_size (x : ByteArray) (i y : Nat) (hi : i < x.size) : (turned x i y).size = x.size := by
  unfold turned
  rw [ByteArray.size_append, ByteArray.size_append, ByteArray.size_extract, ByteArray.size_extract]
  show _ + 1 + _ = _
  omega
theorem res_ok (key t : ByteArray) (hk : key.size = 32) (ht : t.size ≤ 65536) : PolyTagL.res key t = .tuple #[.string (tagT key t), .int .i64 0] := by
  unfold PolyTagL.res PolyTagL.fault Clamp.fault
  rw [if_pos ⟨hk, ht⟩, if_neg (by omega), if_neg (by omega), if_pos hk]
theorem clamp_ok (key : ByteArray) (hk : key.size = 32) : Clamp.res key = .tuple #[.string (Clamp.clT key), .int .i64 0] := by
  unfold Clamp.res Clamp.fault
  rw [if_pos hk, if_neg (by omega), if_pos hk]
theorem one_back (y : Nat) (hy : y < 256) (u : World) (g : Nat) (h : u.cell? ⟨g, 0, none⟩ = some (.int .u8 (y : Int))) : (convert 22 9 (.slice (some ⟨g, 0, none⟩) 1 1)).run Try.prog u = .ok (.string ⟨#[UInt8.ofNat y]⟩) u := by
  refine Flat.back u g 1 1 [UInt8.ofNat y] rfl fun j hj => ?_
  obtain rfl : j = 0 := by simp at hj; omega
  rw [h]
  show _ = some (Value.int .u8 ((UInt8.ofNat y).toNat : Int))
  rw [UInt8.toNat_ofNat', Nat.mod_eq_of_lt hy]

set_option maxRecDepth 100000 in
set_option maxHeartbeats 3200000 in
theorem walk (a0 : Option Addr) (len0 cap0 : Nat) (z0 : List Int) (a1 : Option Addr) (len1 cap1 : Nat) (z1 : List Int) (w : World) (h0 : IsRow .u8 w a0 len0 cap0 z0) (h1 : IsRow .u8 w a1 len1 cap1 z1) :
    Calls Try.prog 3 #[.slice a0 len0 cap0, .slice a1 len1 cap1] w fun e w' => e = .returned (.bool true) ∧ Below w.heap.size w w' := by
  have m0 := h0.code.1
  have m1 := h1.code.1
  unfold maxLen at m0 m1
  have H0 := Lib.hid h0
  have H1 := Lib.hid h1
  clear h0 h1
  by_cases b0 : 1048576 < len0
  · go_enter Try.func3, Try.ntmps3
    go_wp2_with fail
    go_ret
    exact ⟨rfl, Below.refl _ _⟩
  by_cases b1 : 1048576 < len1
  · have d0 : decide (1048576 < (len0 : Int)) = false := decide_eq_false (by omega)
    go_enter Try.func3, Try.ntmps3
    go_wp2_with fail
    go_ret
    exact ⟨rfl, Below.refl _ _⟩
  have d0 : decide (1048576 < (len0 : Int)) = false := decide_eq_false (by omega)
  have d1 : decide (1048576 < (len1 : Int)) = false := decide_eq_false (by omega)
  have hl0 : len0 ≤ 1048576 := by omega
  have hl1 : len1 ≤ 1048576 := by omega
  clear b0 b1 m0 m1
  go_enter Try.func3, Try.ntmps3
  go_wp2_with fail
  clear d0 d1
  refine (SrcKeyT.keyOf w a0 len0 cap0 z0 H0.out).mono ?_
  rintro e w1 ⟨bs0, rfl, hs0, hb1⟩
  have HB1 := Lib.hid hb1
  clear hb1
  obtain ⟨key, ekey⟩ : ∃ t : ByteArray, (⟨bs0.toArray⟩ : ByteArray) = t := ⟨_, rfl⟩
  have HK := Lib.hid (show key.size = 32 by rw [← ekey]; exact List.size_toArray.trans hs0)
  rw [ekey]
  clear ekey hs0
  go_wp2_with fail
  refine (Src.textOf w1 a1 len1 cap1 z1 (isRow_below H1.out HB1.out)).mono ?_
  rintro e w2 ⟨bs1, rfl, hs1, hb2⟩
  have HB2 := Lib.hid (HB1.out.trans (hb2.mono HB1.out.size))
  clear hb2 HB1
  obtain ⟨t, et⟩ : ∃ t : ByteArray, (⟨bs1.toArray⟩ : ByteArray) = t := ⟨_, rfl⟩
  have HT := Lib.hid (show t.size ≤ 199 by rw [← et]; exact Nat.le_trans (Nat.le_of_eq List.size_toArray) hs1)
  rw [et]
  clear et hs1
  have R1 := Lib.hid (res_ok key t HK.out (by have := HT.out; omega))
  have R2 := Lib.hid (clamp_ok key HK.out)
  have R3 := Lib.hid (res_ok key ⟨#[]⟩ HK.out (show 0 ≤ 65536 by omega))
  rw [empty_tag key HK.out] at R3
  have hX := tagT_size key t
  have mk : key.size ≤ maxLen := by rw [HK.out]; unfold maxLen; omega
  have mt : t.size ≤ maxLen := by have := HT.out; unfold maxLen; omega
  have C1 := Lib.hid (PolyTagL.impl key t mk mt)
  have C2 := Lib.hid (PolyTagL.spec key t mk mt)
  have C3 := Lib.hid (Clamp.impl key mk)
  have C4 := Lib.hid (Clamp.spec key mk)
  have C5 := Lib.hid (PolyTagL.impl key ⟨#[]⟩ mk (show 0 ≤ maxLen by unfold maxLen; omega))
  rw [R1.out] at C1 C2
  rw [R2.out] at C3 C4
  rw [R3.out] at C5
  clear R1 R2 R3 mk mt
  have hks : (16 : Int) ≤ (key.size : Int) := by have := HK.out; omega
  generalize tagT key t = X at *
  generalize Clamp.clT key = CL at *
  go_wp2_with fail
  refine (C1.out _).mono ?_
  rintro e w3 ⟨rfl, hb⟩
  have HB3 := Lib.hid (HB2.out.trans (hb.mono HB2.out.size))
  clear hb HB2
  go_wp2_with fail
  refine (C2.out _).mono ?_
  rintro e w4 ⟨rfl, hb⟩
  have HB4 := Lib.hid (HB3.out.trans (hb.mono HB3.out.size))
  clear hb HB3
  go_wp2_with fail
  refine (C3.out _).mono ?_
  rintro e w5 ⟨rfl, hb⟩
  have HB5 := Lib.hid (HB4.out.trans (hb.mono HB4.out.size))
  clear hb HB4
  go_wp2_with fail
  refine (C4.out _).mono ?_
  rintro e w6 ⟨rfl, hb⟩
  have HB6 := Lib.hid (HB5.out.trans (hb.mono HB5.out.size))
  clear hb HB5
  go_wp2_with fail
  refine (C5.out _).mono ?_
  rintro e w7 ⟨rfl, hb⟩
  have HB7 := Lib.hid (HB6.out.trans (hb.mono HB6.out.size))
  clear hb HB6 C1 C2 C3 C4 C5
  have hXi : (X.size : Int) = 16 := by omega
  have hXn : ((X.size : Int) != 16) = false := by rw [hXi]; rfl
  have HXS := Lib.hid hX
  clear hX
  go_wp2_with fail
  refine (At.at_ w7 a1 len1 cap1 z1 (isRow_below H1.out HB7.out) hl1 0 (by omega) 0 rfl 16 (by omega)).mono ?_
  obtain ⟨i, ei⟩ : ∃ i : Nat, At.val z1 len1 0 16 = (i : Int) := ⟨_, (Int.toNat_of_nonneg (At.val_nonneg _ _ _ _)).symm⟩
  have hi : i < 16 := by have := At.val_lt z1 len1 0 16 (by omega); omega
  rw [ei]
  clear ei
  rintro e w8 ⟨rfl, n8, rfl⟩
  have HB8 := Lib.hid (below_drewN HB7.out n8)
  clear HB7
  generalize w7.drewN n8 = W at *
  go_upto_region 13 with (fail)
  have hiX : i < X.size := by have := HXS.out; omega
  have q1 : (i : Int) < (X.size : Int) := by omega
  have q2 : (i : Int) ≤ (X.size : Int) := by omega
  have q3 : (0 : Int) ≤ (i : Int) := by omega
  obtain ⟨i', ei'⟩ : ∃ i', i + 1 = i' := ⟨_, rfl⟩
  have q4 : (i : Int) + 1 = (i' : Int) := by omega
  have q5 : (i' : Int) ≤ (X.size : Int) := by omega
  have q6 : (0 : Int) ≤ (i' : Int) := by omega
  have wi' : IntKind.i64.wrap (i' : Int) = i' := by rw [IntKind.wrap_i64]; omega
  have y1 : X[i].toNat = bN X i := bN_at X i hiX
  have hxi := bN_lt X i
  obtain ⟨v, ev⟩ : ∃ v : Nat, At.val z0 len0 0 255 = (v : Int) := ⟨_, (Int.toNat_of_nonneg (At.val_nonneg _ _ _ _)).symm⟩
  have hv : v < 255 := by have := At.val_lt z0 len0 0 255 (by omega); omega
  have A1 := Lib.hid (fun u (h : IsRow .u8 u a0 len0 cap0 z0) => At.at_ u a0 len0 cap0 z0 h hl0 0 (by omega) 0 rfl 255 (by omega))
  rw [ev] at A1
  clear ev
  obtain ⟨e, ee⟩ : ∃ e, 1 + v = e := ⟨_, rfl⟩
  have r1 : (1 : Int) + (v : Int) = (e : Int) := by omega
  have r2 : IntKind.i64.wrap (e : Int) = e := by rw [IntKind.wrap_i64]; omega
  have r3 : IntKind.u8.wrap (e : Int) = e := by rw [IntKind.wrap_u8']; omega
  have r4 : (e : Int) % 256 = e := by omega
  have he : e < 256 := by omega
  have hxr := u8_xor_nat (bN X i) e hxi he
  obtain ⟨y, ey⟩ : ∃ y, bN X i ^^^ e = y := ⟨_, rfl⟩
  have hy : y < 256 := by rw [← ey]; exact Nat.xor_lt_two_pow (n := 8) hxi he
  have hne : bN X i ≠ y := by
    intro h
    have h2 : bN X i ^^^ (bN X i ^^^ e) = bN X i ^^^ bN X i := by rw [ey, ← h]
    rw [← Nat.xor_assoc, Nat.xor_self, Nat.zero_xor] at h2
    omega
  have T1 := Lib.hid (teq_self X HXS.out)
  have T2 := Lib.hid (turned_teq X i y hiX hy hne)
  have T3 := Lib.hid (teq_short X (X.extract 0 i) (by rw [ByteArray.size_extract]; omega))
  have hTS := turned_size X i y hiX
  have HTU := Lib.hid (show X.extract 0 i ++ ⟨#[UInt8.ofNat y]⟩ ++ X.extract i' X.size = turned X i y by unfold turned; rw [ei'])
  have mX : X.size ≤ maxLen := by rw [HXS.out]; unfold maxLen; omega
  have E1 := Lib.hid (TagEq.impl X X mX mX)
  have E2 := Lib.hid (TagEq.impl X (turned X i y) mX (by rw [hTS]; exact mX))
  have E3 := Lib.hid (TagEq.impl X (X.extract 0 i) mX (by rw [ByteArray.size_extract]; unfold maxLen at *; omega))
  rw [T1.out] at E1
  rw [T2.out, ← HTU.out] at E2
  rw [T3.out] at E3
  rw [ey] at hxr
  have hcv := one_back y hy
  have sz0 : (X.extract 0 i).size ≤ 16 := by rw [ByteArray.size_extract]; have := HXS.out; omega
  have sz1 : (X.extract i' X.size).size ≤ 16 := by rw [ByteArray.size_extract]; have := HXS.out; omega
  have sz2 : (X.extract 0 i ++ ⟨#[UInt8.ofNat y]⟩).size ≤ 17 := by rw [ByteArray.size_append]; show _ + 1 ≤ 17; omega
  have ux := Lib.hid hne
  clear ei' ee ey hne T1 T2 T3 mX HTU hTS
  generalize bN X i = xi at *
  have hs3 : ¬ 9223372036854775807 < min i X.size + 1 + (X.size - i') := by have := HXS.out; omega
  have hs4 : ¬ 9223372036854775807 < min i X.size + 1 := by have := HXS.out; omega
  have hcv2 := fun n => hcv ((W.drewN n).alloc (.cells #[.int .u8 (y : Int)] 5)) W.heap.size (by rw [cell_of_row _ W.heap.size 0 #[.int .u8 (y : Int)] 5 (0, 0) (heap_alloc_new (W.drewN n) _)]; rfl)
  clear hcv hXi hXn
  go_region_with
    ((go_at_call 13; refine (A1.out _ (isRow_below H0.out (by repeat (with_reducible (first | exact HB8.out | refine Below.drew ?_))))).mono ?_; rintro e' u9 ⟨rfl, n9, rfl⟩))
  all_goals
    go_wp2_with fail
    refine (E1.out _).mono ?_
    rintro e' u1 ⟨rfl, hb⟩
    have HC1 := Lib.hid (((below_drewN HB8.out _).alloc HB8.out.size _).trans (hb.mono (by have := HB8.out.size; simp; omega)))
    clear hb
    go_wp2_with fail
    refine (E2.out _).mono ?_
    rintro e' u2 ⟨rfl, hb⟩
    have HC2 := Lib.hid (HC1.out.trans (hb.mono HC1.out.size))
    clear hb
    go_wp2_with fail
    refine (E3.out _).mono ?_
    rintro e' u3 ⟨rfl, hb⟩
    have HC3 := Lib.hid (HC2.out.trans (hb.mono HC2.out.size))
    clear hb
    go_wp2
    go_ret
    exact ⟨rfl, HC3.out⟩
end Go.Proofs.Ytkafaoajdfokcaa.FnTag
