/-
  What is proved: the law on boxes (what is sealed is opened by the same key, nonce and words beside it; changed it is told, unless its tag is right) returns true (the walk), where the package's errors stand in their variables.
-/
import Derived.Test.YtggobhpjfflooaaDoorRows
import Derived.Test.YtggobhpjfflooaaDoorSrcA
import Derived.Test.YtggobhpjfflooaaDoorStreamW
import Derived.Test.YtggobhpjfflooaaDoorBoxA
namespace Go.Proofs.YtggobhpjfflooaaDoor.FnBox
open Go.ChangeShapes Go.WideShapes Go.ChangeAt Go.RowKit
open BoxErr (Two Three ev code long)
open BoxTagI (boxT boxT_size)
open BoxL (tagRes sealRes openRes sealT sealT_size hid tg good xorS_size)
open SpXor (xorS)
open TagEq (teq acc)
open Word (bN bN_lt bN_at bN_extract)
open PolyN (bN_append)
open StreamW (ext_bN)
open Src (IsRow)
set_option linter.unusedVariables false

theorem isRow_below {k : IntKind} {w w' : World} {a : Option Addr} {len cap : Nat} {zs : List Int} (h : IsRow k w a len cap zs) (hb : Below w.heap.size w w') : IsRow k w' a len cap zs := by
  rcases h with h | ⟨x, h1, h2, h3, h4, h5, h6⟩
  · exact .inl h
  · refine .inr ⟨x, h1, h2, h3, h4, fun i hi => ?_, h6⟩
    have hc := h5 i hi
    exact (hb.cell (World.block_lt_of_cell? w _ hc)).trans hc
theorem ext_head (a b : ByteArray) : (a ++ b).extract 0 a.size = a := by
  apply ext_bN
  · rw [ByteArray.size_extract, ByteArray.size_append]; omega
  · intro j hj
    rw [ByteArray.size_extract, ByteArray.size_append] at hj
    rw [bN_extract _ _ _ _ (by omega), Nat.zero_add, bN_append, if_pos (by omega)]
theorem ext_tail (a b : ByteArray) (n m : Nat) (hn : n = a.size) (hm : m = a.size + b.size) : (a ++ b).extract n m = b := by
  subst hn
  subst hm
  apply ext_bN
  · rw [ByteArray.size_extract, ByteArray.size_append]; omega
  · intro j hj
    rw [ByteArray.size_extract, ByteArray.size_append] at hj
    rw [bN_extract _ _ _ _ (by omega), bN_append, if_neg (by omega), show a.size + j - a.size = j by omega]
theorem acc_self (a : ByteArray) : ∀ n, acc a a n = 0
  | 0 => rfl
  | n + 1 => by
    show acc a a n ||| (bN a n ^^^ bN a n) = 0
    rw [acc_self a n, Nat.xor_self]
    rfl
theorem teq_self (a : ByteArray) (h : a.size = 16) : teq a a = true := decide_eq_true ⟨by omega, rfl, acc_self a _⟩
/-- A text of which byte i is changed. -/
def turned (x : ByteArray) (i y : Nat) : ByteArray := x.extract 0 i ++ ⟨#[UInt8.ofNat y]⟩ ++ x.extract (i + 1) x.size
theorem turned_size (x : ByteArray) (i y : Nat) (hi : i < x.size) : (turned x i y).size = x.size := by
  unfold turned
  rw [ByteArray.size_append, ByteArray.size_append, ByteArray.size_extract, ByteArray.size_extract]
  show _ + 1 + _ = _
  omega
theorem one_back (y : Nat) (hy : y < 256) (u : World) (g : Nat) (h : u.cell? ⟨g, 0, none⟩ = some (.int .u8 (y : Int))) : (convert 22 9 (.slice (some ⟨g, 0, none⟩) 1 1)).run Tryd.prog u = .ok (.string ⟨#[UInt8.ofNat y]⟩) u := by
  refine Flat.back u g 1 1 [UInt8.ofNat y] rfl fun j hj => ?_
  obtain rfl : j = 0 := by simp at hj; omega
  rw [h]
  show _ = some (Value.int .u8 ((UInt8.ofNat y).toNat : Int))
  rw [UInt8.toNat_ofNat', Nat.mod_eq_of_lt hy]

theorem code_ok (key nonce ad t : ByteArray) (h1 : key.size = 32) (h2 : nonce.size = 12) (h3 : ad.size ≤ 65536) (h4 : t.size ≤ 65536) : code key nonce ad t = 0 := by
  unfold code
  rw [if_neg (by unfold long; omega), if_pos ⟨h1, h2⟩]
theorem seal_hid (key nonce ad t : ByteArray) : hid (sealT key nonce ad t) = xorS key nonce 1 t := by
  unfold hid
  rw [sealT_size, show t.size + 16 - 16 = (xorS key nonce 1 t).size by rw [xorS_size]; omega]
  exact ext_head _ _
theorem seal_tail (key nonce ad t : ByteArray) (m : Nat) (hm : m = t.size + 16) : (sealT key nonce ad t).extract t.size m = boxT key nonce ad (xorS key nonce 1 t) :=
  ext_tail _ _ _ _ (xorS_size _ _ _ _).symm (by rw [xorS_size, boxT_size]; exact hm)
/-- What is sealed is opened. -/
theorem open_seal (key nonce ad t : ByteArray) (h1 : key.size = 32) (h2 : nonce.size = 12) (h3 : ad.size ≤ 65536) (h4 : t.size + 16 ≤ 65536) : openRes key nonce ad (sealT key nonce ad t) = .tuple #[.string t, .int .i64 0] := by
  unfold openRes
  have hg : good key nonce ad (sealT key nonce ad t) = true := by
    unfold good
    rw [seal_hid, decide_eq_true (by rw [sealT_size]; omega)]
    have ht : tg (sealT key nonce ad t) = boxT key nonce ad (xorS key nonce 1 t) := by
      unfold tg
      rw [sealT_size, Nat.add_sub_cancel]
      exact seal_tail key nonce ad t _ rfl
    rw [ht, teq_self _ (boxT_size _ _ _ _)]
    rfl
  rw [if_pos (code_ok key nonce ad _ h1 h2 h3 (by rw [sealT_size]; exact h4)), if_pos hg, seal_hid, StreamW.twice]
theorem seal_ok (key nonce ad t : ByteArray) (h1 : key.size = 32) (h2 : nonce.size = 12) (h3 : ad.size ≤ 65536) (h4 : t.size ≤ 65536) : sealRes key nonce ad t = .tuple #[.string (sealT key nonce ad t), .int .i64 0] := by
  unfold sealRes
  rw [if_pos (code_ok key nonce ad t h1 h2 h3 h4)]
theorem tag_ok (key nonce ad t : ByteArray) (h1 : key.size = 32) (h2 : nonce.size = 12) (h3 : ad.size ≤ 65536) (h4 : t.size ≤ 65536) :
    tagRes key nonce ad ((sealT key nonce ad t).extract 0 t.size) = .tuple #[.string ((sealT key nonce ad t).extract t.size (sealT key nonce ad t).size), .int .i64 0] := by
  have e : (sealT key nonce ad t).extract 0 t.size = xorS key nonce 1 t := by
    have := seal_hid key nonce ad t
    unfold hid at this
    rw [sealT_size, Nat.add_sub_cancel] at this
    exact this
  unfold tagRes
  rw [e, if_pos (code_ok key nonce ad _ h1 h2 h3 (by rw [xorS_size]; exact h4)), seal_tail key nonce ad t _ (sealT_size _ _ _ _)]
/-- What is opened is told, or a text of its length. -/
theorem open_any (key nonce ad y : ByteArray) (n : Nat) (h1 : key.size = 32) (h2 : nonce.size = 12) (h3 : ad.size ≤ 65536) (h4 : y.size ≤ 65536) (hn : y.size = n + 16) :
    ∃ (s : ByteArray) (c : Int), openRes key nonce ad y = .tuple #[.string s, .int .i64 c] ∧ (c = 9 ∨ (c = 0 ∧ s.size = n)) := by
  unfold openRes
  rw [if_pos (code_ok key nonce ad _ h1 h2 h3 h4)]
  cases good key nonce ad y
  · exact ⟨_, _, rfl, .inl rfl⟩
  · refine ⟨_, _, rfl, .inr ⟨rfl, ?_⟩⟩
    rw [xorS_size]
    unfold hid
    rw [ByteArray.size_extract]
    omega
theorem open_short (key nonce ad y : ByteArray) (h1 : key.size = 32) (h2 : nonce.size = 12) (h3 : ad.size ≤ 65536) (h4 : y.size < 16) : openRes key nonce ad y = .tuple #[.string ⟨#[]⟩, .int .i64 9] := by
  unfold openRes
  rw [if_pos (code_ok key nonce ad _ h1 h2 h3 (by omega)), if_neg]
  unfold good
  rw [decide_eq_false (by omega)]
  simp

set_option maxRecDepth 100000 in
set_option maxHeartbeats 3200000 in
theorem walk (a0 : Option Addr) (len0 cap0 : Nat) (z0 : List Int) (a1 : Option Addr) (len1 cap1 : Nat) (z1 : List Int) (w : World) (h0 : IsRow .u8 w a0 len0 cap0 z0) (h1 : IsRow .u8 w a1 len1 cap1 z1) (e0 e1 e2 : Addr) (E : Three w e0 e1 e2) :
    Calls Tryd.prog 3 #[.slice a0 len0 cap0, .slice a1 len1 cap1] w fun e w' => e = .returned (.bool true) ∧ Below w.heap.size w w' := by
  have m0 := h0.code.1
  have m1 := h1.code.1
  unfold maxLen at m0 m1
  have H0 := Lib.hid h0
  have H1 := Lib.hid h1
  have HE := Lib.hid E
  clear h0 h1 E
  by_cases b0 : 1048576 < len0
  · go_enter Tryd.func3, Tryd.ntmps3
    go_wp2_with fail
    go_ret
    exact ⟨rfl, Below.refl _ _⟩
  by_cases b1 : 1048576 < len1
  · have d0 : decide (1048576 < (len0 : Int)) = false := decide_eq_false (by omega)
    go_enter Tryd.func3, Tryd.ntmps3
    go_wp2_with fail
    go_ret
    exact ⟨rfl, Below.refl _ _⟩
  have d0 : decide (1048576 < (len0 : Int)) = false := decide_eq_false (by omega)
  have d1 : decide (1048576 < (len1 : Int)) = false := decide_eq_false (by omega)
  have hl0 : len0 ≤ 1048576 := by omega
  have hl1 : len1 ≤ 1048576 := by omega
  clear b0 b1 m0 m1
  go_enter Tryd.func3, Tryd.ntmps3
  go_wp2_with fail
  clear d0 d1
  refine (SrcKeyT.keyOf w a0 len0 cap0 z0 H0.out).mono ?_
  rintro e w1 ⟨bs0, rfl, hs0, hb1⟩
  have HB1 := Lib.hid hb1
  clear hb1
  obtain ⟨key, ekey⟩ : ∃ t : ByteArray, (⟨bs0.toArray⟩ : ByteArray) = t := ⟨_, rfl⟩
  have HK := Lib.hid (show key.size = 32 by rw [← ekey]; exact List.size_toArray.trans hs0)
  rw [ekey]
  clear ekey hs0
  go_wp2_with fail
  refine (SrcKeyT.nonceDrawn w1 a1 len1 cap1 z1 (isRow_below H1.out HB1.out)).mono ?_
  rintro e w2 ⟨bs1, rfl, hs1, hb2⟩
  have HB2 := Lib.hid (HB1.out.trans (hb2.mono HB1.out.size))
  clear hb2 HB1
  obtain ⟨nonce, enonce⟩ : ∃ t : ByteArray, (⟨bs1.toArray⟩ : ByteArray) = t := ⟨_, rfl⟩
  have HN := Lib.hid (show nonce.size = 12 by rw [← enonce]; exact List.size_toArray.trans hs1)
  rw [enonce]
  clear enonce hs1
  go_wp2_with fail
  refine (At.at_ w2 a1 len1 cap1 z1 (isRow_below H1.out HB2.out) hl1 0 (by omega) 0 rfl 20 (by omega)).mono ?_
  obtain ⟨na, ena⟩ : ∃ i : Nat, At.val z1 len1 0 20 = (i : Int) := ⟨_, (Int.toNat_of_nonneg (At.val_nonneg _ _ _ _)).symm⟩
  have hna : na < 20 := by have := At.val_lt z1 len1 0 20 (by omega); omega
  rw [ena]
  clear ena
  rintro e w3' ⟨rfl, n3, rfl⟩
  have HB3 := Lib.hid (below_drewN HB2.out n3)
  clear HB2
  generalize w2.drewN n3 = w3 at *
  go_wp2_with fail
  refine (SrcKeyT.bytesOf w3 a0 len0 cap0 z0 (isRow_below H0.out HB3.out) na (by omega)).mono ?_
  rintro e w4 ⟨bs2, rfl, hs2, hb4⟩
  have HB4 := Lib.hid (HB3.out.trans (hb4.mono HB3.out.size))
  clear hb4 HB3
  obtain ⟨ad, ead⟩ : ∃ t : ByteArray, (⟨bs2.toArray⟩ : ByteArray) = t := ⟨_, rfl⟩
  have HA := Lib.hid (show ad.size < 20 by rw [← ead]; exact Nat.lt_of_le_of_lt (Nat.le_of_eq (List.size_toArray.trans hs2)) hna)
  rw [ead]
  clear ead hs2 hna
  go_wp2_with fail
  refine (Src.textOf w4 a1 len1 cap1 z1 (isRow_below H1.out HB4.out)).mono ?_
  rintro e w5 ⟨bs3, rfl, hs3, hb5⟩
  have HB5 := Lib.hid (HB4.out.trans (hb5.mono HB4.out.size))
  clear hb5 HB4
  obtain ⟨t, et⟩ : ∃ t : ByteArray, (⟨bs3.toArray⟩ : ByteArray) = t := ⟨_, rfl⟩
  have HT := Lib.hid (show t.size ≤ 199 by rw [← et]; exact Nat.le_trans (Nat.le_of_eq List.size_toArray) hs3)
  rw [et]
  clear et hs3
  have mk : key.size ≤ maxLen := by rw [HK.out]; unfold maxLen; omega
  have mn : nonce.size ≤ maxLen := by rw [HN.out]; unfold maxLen; omega
  have ma : ad.size ≤ maxLen := by have := HA.out; unfold maxLen; omega
  have mt : t.size ≤ maxLen := by have := HT.out; unfold maxLen; omega
  have ha : ad.size ≤ 65536 := by have := HA.out; omega
  have ht : t.size ≤ 199 := HT.out
  have hX := sealT_size key nonce ad t
  have mX : (sealT key nonce ad t).size ≤ maxLen := by rw [hX]; unfold maxLen; omega
  have C1 := Lib.hid (fun u (h : Three u e0 e1 e2) => BoxL.implSeal key nonce ad t mk mn ma mt e0 e1 u h.two)
  have C2 := Lib.hid (BoxS.specSealBox key nonce ad t mk mn ma mt)
  have C3 := Lib.hid (fun u (h : Three u e0 e1 e2) => BoxL.implOpen key nonce ad (sealT key nonce ad t) mk mn ma mX e0 e1 e2 u h)
  have C4 := Lib.hid (fun u (h : Three u e0 e1 e2) => BoxL.implTag key nonce ad ((sealT key nonce ad t).extract 0 t.size) mk mn ma (by rw [ByteArray.size_extract, hX]; unfold maxLen; omega) e0 e1 u h.two)
  have C5 := Lib.hid (fun y (my : y.size ≤ maxLen) u (h : Three u e0 e1 e2) => BoxL.implOpen key nonce ad y mk mn ma my e0 e1 e2 u h)
  have C6 := Lib.hid (fun y (my : y.size ≤ maxLen) => BoxS.specOpenBox key nonce ad y mk mn ma my)
  rw [seal_ok key nonce ad t HK.out HN.out ha (by omega)] at C1 C2
  rw [open_seal key nonce ad t HK.out HN.out ha (by omega)] at C3
  rw [tag_ok key nonce ad t HK.out HN.out ha (by omega)] at C4
  have OA := Lib.hid (fun y (hy : y.size = t.size + 16) => open_any key nonce ad y t.size HK.out HN.out ha (by omega) hy)
  have OS := Lib.hid (fun y (hy : y.size < 16) => open_short key nonce ad y HK.out HN.out ha hy)
  clear mk mn ma mt mX ha
  generalize sealT key nonce ad t = X at *
  go_wp2_with fail
  refine (C1.out _ (HE.out.below HB5.out)).mono ?_
  rintro e w6 ⟨rfl, hb⟩
  have HB6 := Lib.hid (HB5.out.trans (hb.mono HB5.out.size))
  clear hb HB5
  go_wp2_with fail
  refine (C2.out _).mono ?_
  rintro e w7 ⟨rfl, hb⟩
  have HB7 := Lib.hid (HB6.out.trans (hb.mono HB6.out.size))
  clear hb HB6
  go_wp2_with fail
  refine (C3.out _ (HE.out.below HB7.out)).mono ?_
  rintro e w8 ⟨rfl, hb⟩
  have HB8 := Lib.hid (HB7.out.trans (hb.mono HB7.out.size))
  clear hb HB7 C1 C2 C3
  have j1 : (X.size : Int) = (t.size : Int) + 16 := by omega
  have j2 : ((X.size : Int) != (t.size : Int) + 16) = false := by rw [j1]; simp
  have j3 : IntKind.i64.wrap ((t.size : Int) + 16) = (t.size : Int) + 16 := by rw [IntKind.wrap_i64]; omega
  have j4 : (t.size : Int) ≤ (X.size : Int) := by omega
  have HX := Lib.hid hX
  clear hX j1
  go_wp2_with fail
  refine (C4.out _ (HE.out.below HB8.out)).mono ?_
  rintro e w9 ⟨rfl, hb⟩
  have HB9 := Lib.hid (HB8.out.trans (hb.mono HB8.out.size))
  clear hb HB8 C4 j2 j3
  go_wp2_with fail
  refine (At.at_ w9 a1 len1 cap1 z1 (isRow_below H1.out HB9.out) hl1 1 (by omega) 1 rfl (X.size : Int) (by have := HX.out; have := HT.out; omega)).mono ?_
  obtain ⟨i, ei⟩ : ∃ i : Nat, At.val z1 len1 1 (X.size : Int) = (i : Int) := ⟨_, (Int.toNat_of_nonneg (At.val_nonneg _ _ _ _)).symm⟩
  have hi : i < X.size := by have := At.val_lt z1 len1 1 (X.size : Int) (by have := HX.out; omega); omega
  rw [ei]
  clear ei
  rintro e w10 ⟨rfl, n10, rfl⟩
  have HB10 := Lib.hid (below_drewN HB9.out n10)
  clear HB9
  generalize w9.drewN n10 = W at *
  go_upto_region 14 with (fail)
  have q1 : (i : Int) < (X.size : Int) := by omega
  have q2 : (i : Int) ≤ (X.size : Int) := by omega
  have q3 : (0 : Int) ≤ (i : Int) := by omega
  obtain ⟨i', ei'⟩ : ∃ i', i + 1 = i' := ⟨_, rfl⟩
  have q4 : (i : Int) + 1 = (i' : Int) := by omega
  have q5 : (i' : Int) ≤ (X.size : Int) := by omega
  have q6 : (0 : Int) ≤ (i' : Int) := by omega
  have hbX : X.size ≤ 215 := by have := HX.out; omega
  have wi' : IntKind.i64.wrap (i' : Int) = i' := by rw [IntKind.wrap_i64]; omega
  have y1 : X[i].toNat = bN X i := bN_at X i hi
  have hxi := bN_lt X i
  obtain ⟨v, ev⟩ : ∃ v : Nat, At.val z0 len0 1 255 = (v : Int) := ⟨_, (Int.toNat_of_nonneg (At.val_nonneg _ _ _ _)).symm⟩
  have hv : v < 255 := by have := At.val_lt z0 len0 1 255 (by omega); omega
  have A1 := Lib.hid (fun u (h : IsRow .u8 u a0 len0 cap0 z0) => At.at_ u a0 len0 cap0 z0 h hl0 1 (by omega) 1 rfl 255 (by omega))
  rw [ev] at A1
  clear ev
  obtain ⟨e, ee⟩ : ∃ e, 1 + v = e := ⟨_, rfl⟩
  have r1 : (1 : Int) + (v : Int) = (e : Int) := by omega
  have r2 : IntKind.i64.wrap (e : Int) = e := by rw [IntKind.wrap_i64]; omega
  have r3 : IntKind.u8.wrap (e : Int) = e := by rw [IntKind.wrap_u8']; omega
  have r4 : (e : Int) % 256 = e := by omega
  have he : e < 256 := by omega
  have hxr := u8_xor_nat (bN X i) e hxi he
  obtain ⟨y, ey⟩ : ∃ y, bN X i ^^^ e = y := ⟨_, rfl⟩
  have hy : y < 256 := by rw [← ey]; exact Nat.xor_lt_two_pow (n := 8) hxi he
  have hTS := turned_size X i y hi
  have HTU := Lib.hid (show X.extract 0 i ++ ⟨#[UInt8.ofNat y]⟩ ++ X.extract i' X.size = turned X i y by unfold turned; rw [ei'])
  have mT : (turned X i y).size ≤ maxLen := by rw [hTS]; unfold maxLen; omega
  have E1 := Lib.hid (C5.out (turned X i y) mT)
  have E2 := Lib.hid (C6.out (turned X i y) mT)
  obtain ⟨Yd, dd, hres, hcase⟩ := OA.out (turned X i y) (by rw [hTS]; exact HX.out)
  rw [hres, ← HTU.out] at E1 E2
  obtain ⟨r, er⟩ : ∃ r, i % 16 = r := ⟨_, rfl⟩
  have s1 : (i : Int) % 16 = (r : Int) := by omega
  have s2 : IntKind.i64.wrap (r : Int) = r := by rw [IntKind.wrap_i64]; omega
  have s3 : (r : Int) ≤ (X.size : Int) := by have : r ≤ i := by rw [← er]; exact Nat.mod_le _ _
                                             omega
  have s4 : (0 : Int) ≤ (r : Int) := by omega
  have hrs : (X.extract 0 r).size < 16 := by rw [ByteArray.size_extract]; omega
  have E3 := Lib.hid (C5.out (X.extract 0 r) (by unfold maxLen; omega))
  rw [OS.out _ hrs] at E3
  rw [ey] at hxr
  have hcv := one_back y hy
  have HCASE := Lib.hid hcase
  clear ei' ee ey HTU hTS mT hres hcase C5 C6 OA OS er hrs
  generalize bN X i = xi at *
  have hs3 : ¬ 9223372036854775807 < min i X.size + 1 + (X.size - i') := by omega
  have hs4 : ¬ 9223372036854775807 < min i X.size + 1 := by omega
  have hcv2 := fun n => hcv ((W.drewN n).alloc (.cells #[.int .u8 (y : Int)] 5)) W.heap.size (by rw [cell_of_row _ W.heap.size 0 #[.int .u8 (y : Int)] 5 (0, 0) (heap_alloc_new (W.drewN n) _)]; rfl)
  clear hcv
  go_region_with
    ((go_at_call 14; refine (A1.out _ (isRow_below H0.out (by repeat (with_reducible (first | exact HB10.out | refine Below.drew ?_))))).mono ?_; rintro e' u9 ⟨rfl, n9, rfl⟩))
  all_goals
    go_wp2_with fail
    refine (E1.out _ (HE.out.below ((below_drewN HB10.out _).alloc HB10.out.size _))).mono ?_
    rintro e' u1 ⟨rfl, hb⟩
    have HC1 := Lib.hid (((below_drewN HB10.out _).alloc HB10.out.size _).trans (hb.mono (by have := HB10.out.size; simp; omega)))
    clear hb
    go_wp2_with fail
    refine (E2.out _).mono ?_
    rintro e' u2 ⟨rfl, hb⟩
    have HC2 := Lib.hid (HC1.out.trans (hb.mono HC1.out.size))
    clear hb
    go_wp2_with fail
    refine (E3.out _ (HE.out.below HC2.out)).mono ?_
    rintro e' u3 ⟨rfl, hb⟩
    have HC3 := Lib.hid (HC2.out.trans (hb.mono HC2.out.size))
    clear hb
    rcases HCASE.out with rfl | ⟨rfl, hYs⟩
    · go_wp2
      go_ret
      exact ⟨rfl, HC3.out⟩
    · have hY2 : (Yd.size : Int) = (t.size : Int) := by omega
      clear hYs
      go_wp2
      go_ret
      exact ⟨rfl, HC3.out⟩
end Go.Proofs.YtggobhpjfflooaaDoor.FnBox
