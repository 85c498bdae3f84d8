/-
  What is proved: the model's doing of one operation on a map: what it leaves, what it tells, its code (contracts for the walks): checks, puts, adds.
-/
import Derived.Test.YtealdpkgfmokpaaRows
import Derived.Test.YtealdpkgfmokpaaDoM
import Derived.Test.YtealdpkgfmokpaaInv4
import Derived.Deep.RegionHeld3
import Derived.OwnWalk
namespace Go.Proofs.Ytealdpkgfmokpaa.DoM2
open Go.ChangeShapes Go.WideShapes Go.ChangeAt Go.RowKit Go.Maps
open Sl (Sl Own Off)
open OpenSl (nc)
open Dev Orm LawE MapP MapOk OtB MapD MapGet EntI PutM DoM
open DoI (lit1 lit2 bit_of)
set_option linter.unusedVariables false

set_option maxRecDepth 100000 in
set_option maxHeartbeats 3200000 in
theorem mCheck (w : World) (v : Value) (xs : List En) (h : Sl w 2 v xs.length (ec xs)) (z y : Int) :
    Calls Try.prog 119 #[v, .agg #[.int .i64 4, .int .i64 z, .int .i64 y]] w fun e w' => MQ w.heap.size v xs [] (if z ∈ ks xs ∧ vl xs z = y then 0 else 14) w' e ∧ Below w.heap.size w w' := by
  obtain ⟨U, e1, hb, hsz, X⟩ := Box3.box3 w 159 (.int .i64 4) (.int .i64 z) (.int .i64 y)
  have HF := Lib.hid (l10Find U v xs (h.below hb) z)
  have HVU := Lib.hid (h.below hb)
  have HB := Lib.hid hb
  have HSZ := Lib.hid (show w.heap.size ≤ U.heap.size from hb.size)
  obtain ⟨M, eM⟩ : ∃ M, w.heap.size = M := ⟨_, rfl⟩
  rw [eM] at X
  have HX := Lib.hid X
  obtain ⟨x0, x1, x2, _, _, _⟩ := X
  obtain ⟨a, cap, rfl, h1, h2, _⟩ := h
  unfold maxLen at h2
  have HVN := Lib.hid (vl_not (xs := xs) (k := z))
  have HVA := Lib.hid (fun (j : Nat) h1 h2 h3 => found (xs := xs) (z := z) (j := j) h1 h2 h3)
  have HBY := Lib.hid (bit_yes (p := z ∈ ks xs))
  have HBN := Lib.hid (bit_no (p := z ∈ ks xs))
  have HEC := Lib.hid (ec1 xs)
  obtain ⟨C, eC⟩ : ∃ C : Int, (if z ∈ ks xs ∧ vl xs z = y then (0 : Int) else 14) = C := ⟨_, rfl⟩
  have HC := Lib.hid eC
  rw [eC]
  clear eC
  generalize bit (z ∈ ks xs) = bb at *
  generalize vl xs z = V at *
  obtain ⟨n, en⟩ : ∃ n, xs.length = n := ⟨_, rfl⟩
  have HEN := Lib.hid en
  rw [en] at HVU HVA HF h1 ⊢
  clear en hb hsz
  go_enter Try.func119, Try.ntmps119
  go_wp2_with fail
  refine HF.out.mono ?_
  rintro e w2 ⟨⟨r, rfl, HR⟩, hu⟩
  have hu2 := hu.symm
  subst hu2
  clear e1 hu eM
  rcases HR.out with ⟨rfl, hn⟩ | ⟨j, rfl, hj, hy, hf⟩
  · have e0 := HC.out
    rw [if_neg (fun h => hn h.1)] at e0
    subst e0
    have e0 := HVN.out hn
    subst e0
    clear hn
    obtain ⟨U2, e2, hb2, ho2⟩ := lit0 U 3
    have HO2 := Lib.hid (ho2.base HSZ.out)
    have HB2 := Lib.hid (HB.out.trans (hb2.mono HSZ.out))
    have HV2 := Lib.hid (HVU.out.below hb2)
    clear hb2 ho2
    go_wp2_with fail
    go_ret3
    exact ⟨⟨_, _, rfl, Lib.hid ⟨by rw [HEN.out]; exact HV2.out, HO2.out, fun _ _ h => h⟩⟩, HB2.out⟩
  · rw [HEN.out] at hj
    obtain ⟨ev, hm2⟩ := HVA.out j hj hy hf
    obtain ⟨b, o, e5, hc⟩ := HVU.out.at (by omega)
    obtain rfl : a = some ⟨b, o, none⟩ := by simpa using e5
    have c1 := hc (j * 2 + 1) (by omega)
    rw [HEC.out, ← Nat.add_assoc, ← ev] at c1
    clear hc e5 ev
    by_cases hv : V = y
    · have e0 := HC.out
      rw [if_pos ⟨hm2, hv⟩] at e0
      subst e0
      subst hv
      have b1 : (V != V) = false := by simp
      clear hm2 hy hf
      obtain ⟨U2, e2, hb2, ho2⟩ := lit0 U 3
      have HO2 := Lib.hid (ho2.base HSZ.out)
      have HB2 := Lib.hid (HB.out.trans (hb2.mono HSZ.out))
      have HV2 := Lib.hid (HVU.out.below hb2)
      clear hb2 ho2
      go_wp2_with fail
      go_ret3
      exact ⟨⟨_, _, rfl, Lib.hid ⟨by rw [HEN.out]; exact HV2.out, HO2.out, fun _ _ h => h⟩⟩, HB2.out⟩
    · have e0 := HC.out
      rw [if_neg (fun h => hv h.2)] at e0
      subst e0
      have b1 : (V != y) = true := bne_iff_ne.2 hv
      have b2 : decide (V ≠ y) = true := decide_eq_true hv
      clear hm2 hy hf hv
      obtain ⟨U2, e2, hb2, ho2⟩ := lit0 U 3
      have HO2 := Lib.hid (ho2.base HSZ.out)
      have HB2 := Lib.hid (HB.out.trans (hb2.mono HSZ.out))
      have HV2 := Lib.hid (HVU.out.below hb2)
      clear hb2 ho2
      go_wp2_with fail
      go_ret3
      exact ⟨⟨_, _, rfl, Lib.hid ⟨by rw [HEN.out]; exact HV2.out, HO2.out, fun _ _ h => h⟩⟩, HB2.out⟩
set_option maxRecDepth 100000 in
set_option maxHeartbeats 3200000 in
theorem mPut (w : World) (v : Value) (xs : List En) (h : Sl w 2 v xs.length (ec xs)) (z y : Int) (hri : Ri xs) (hl : xs.length ≤ 11) :
    Calls Try.prog 119 #[v, .agg #[.int .i64 2, .int .i64 z, .int .i64 y]] w fun e w' => MQ w.heap.size v (if z ∈ ks xs ∨ xs.length ≠ 11 then pu xs z y else xs) [] (if z ∈ ks xs ∨ xs.length ≠ 11 then 0 else 7) w' e ∧ Below w.heap.size w w' := by
  obtain ⟨U, e1, hb, hsz, X⟩ := Box3.box3 w 159 (.int .i64 2) (.int .i64 z) (.int .i64 y)
  have HF := Lib.hid (l10Find U v xs (h.below hb) z)
  have HVU := Lib.hid (h.below hb)
  have HB := Lib.hid hb
  have HSZ := Lib.hid (show w.heap.size ≤ U.heap.size from hb.size)
  obtain ⟨M, eM⟩ : ∃ M, w.heap.size = M := ⟨_, rfl⟩
  rw [eM] at X
  have HX := Lib.hid X
  obtain ⟨x0, x1, x2, _, _, _⟩ := X
  obtain ⟨a, cap, rfl, h1, h2, _⟩ := h
  unfold maxLen at h2
  have HVN := Lib.hid (vl_not (xs := xs) (k := z))
  have HVA := Lib.hid (fun (j : Nat) h1 h2 h3 => found (xs := xs) (z := z) (j := j) h1 h2 h3)
  have HBY := Lib.hid (bit_yes (p := z ∈ ks xs))
  have HBN := Lib.hid (bit_no (p := z ∈ ks xs))
  have HEC := Lib.hid (ec1 xs)
  have HPU := Lib.hid (fun u (hu : Sl u 2 (.slice a xs.length cap) xs.length (ec xs)) => l10Put u (.slice a xs.length cap) xs hu hri hl z y)
  generalize pu xs z y = P at *
  obtain ⟨C, eC⟩ : ∃ C : Int, (if z ∈ ks xs ∨ xs.length ≠ 11 then (0 : Int) else 7) = C := ⟨_, rfl⟩
  obtain ⟨Y, eY⟩ : ∃ Y : List En, (if z ∈ ks xs ∨ xs.length ≠ 11 then P else xs) = Y := ⟨_, rfl⟩
  rw [eC, eY]
  have HC := Lib.hid eC
  have HY := Lib.hid eY
  clear eC eY
  generalize bit (z ∈ ks xs) = bb at *
  generalize vl xs z = V at *
  obtain ⟨n, en⟩ : ∃ n, xs.length = n := ⟨_, rfl⟩
  have HEN := Lib.hid en
  rw [en] at HVU HVA HF h1 HPU hl HC HY ⊢
  clear en hb hsz
  go_enter Try.func119, Try.ntmps119
  go_wp2_with fail
  refine HF.out.mono ?_
  rintro e w2 ⟨⟨r, rfl, HR⟩, hu⟩
  have hu2 := hu.symm
  subst hu2
  clear e1 hu eM
  rcases HR.out with ⟨rfl, hn⟩ | ⟨j, rfl, hj, hy, hf⟩
  · have e0 := HVN.out hn
    subst e0
    have eC := HC.out
    have eY := HY.out
    by_cases hfull : n = 11
    · rw [if_neg (fun h => h.elim hn (fun h => h hfull))] at eC eY
      have HYX := Lib.hid eY
      subst eC
      subst hfull
      clear hn HPU eY HY HC
      obtain ⟨U2, e2, hb2, ho2⟩ := lit0 U 3
      have HO2 := Lib.hid (ho2.base HSZ.out)
      have HB2 := Lib.hid (HB.out.trans (hb2.mono HSZ.out))
      have HV2 := Lib.hid (HVU.out.below hb2)
      clear hb2 ho2
      go_wp2_with fail
      go_ret3
      exact ⟨⟨_, _, rfl, Lib.hid ⟨by rw [← HYX.out, HEN.out]; exact HV2.out, HO2.out, fun _ _ h => h⟩⟩, HB2.out⟩
    · rw [if_pos (.inr hfull)] at eC eY
      have HYX := Lib.hid eY
      subst eC
      have n1 : ((n : Int) == 11) = false := beq_eq_false_iff_ne.2 (by omega)
      have n2 : decide ((n : Int) = 11) = false := decide_eq_false (by omega)
      clear hn eY HY HC
      have HPT := Lib.hid (HPU.out U HVU.out)
      go_wp2_with fail
      refine HPT.out.mono ?_
      rintro e w3 ⟨r3, rfl, hrow, hb3⟩
      have HS3 := Lib.hid (Nat.le_trans HSZ.out hb3.size)
      obtain ⟨U2, e2, hb2, ho2⟩ := lit0 w3 3
      have HO2 := Lib.hid (ho2.base HS3.out)
      have HB2 := Lib.hid ((HB.out.trans (hb3.mono HSZ.out)).trans (hb2.mono HS3.out))
      have HR2 := Lib.hid (es_own (Cop.row_below hrow hb2)).sl
      have HOF := Lib.hid (fun q (hq : q < w.heap.size) => own_low (es_own hrow) q (Nat.lt_of_lt_of_le hq HSZ.out))
      clear hb2 ho2 hrow hb3
      go_wp2_with fail
      go_ret3
      exact ⟨⟨_, _, rfl, Lib.hid ⟨by rw [← HYX.out]; exact HR2.out, HO2.out, fun q hq _ => HOF.out q hq⟩⟩, HB2.out⟩
  · rw [HEN.out] at hj
    obtain ⟨ev, hm2⟩ := HVA.out j hj hy hf
    obtain ⟨b, o, e5, hc⟩ := HVU.out.at (by omega)
    obtain rfl : a = some ⟨b, o, none⟩ := by simpa using e5
    have c1 := hc (j * 2 + 1) (by omega)
    rw [HEC.out, ← Nat.add_assoc, ← ev] at c1
    clear hc e5 ev
    have eC := HC.out
    have eY := HY.out
    rw [if_pos (.inl hm2)] at eC eY
    have HYX := Lib.hid eY
    subst eC
    clear hm2 hy hf eY HY HC
    have HPT := Lib.hid (HPU.out U HVU.out)
    go_wp2_with fail
    refine HPT.out.mono ?_
    rintro e w3 ⟨r3, rfl, hrow, hb3⟩
    have HS3 := Lib.hid (Nat.le_trans HSZ.out hb3.size)
    obtain ⟨U2, e2, hb2, ho2⟩ := lit0 w3 3
    have HO2 := Lib.hid (ho2.base HS3.out)
    have HB2 := Lib.hid ((HB.out.trans (hb3.mono HSZ.out)).trans (hb2.mono HS3.out))
    have HR2 := Lib.hid (es_own (Cop.row_below hrow hb2)).sl
    have HOF := Lib.hid (fun q (hq : q < w.heap.size) => own_low (es_own hrow) q (Nat.lt_of_lt_of_le hq HSZ.out))
    clear hb2 ho2 hrow hb3
    go_wp2_with fail
    go_ret3
    exact ⟨⟨_, _, rfl, Lib.hid ⟨by rw [← HYX.out]; exact HR2.out, HO2.out, fun q hq _ => HOF.out q hq⟩⟩, HB2.out⟩
set_option maxRecDepth 100000 in
set_option maxHeartbeats 3200000 in
theorem mAddNo (w : World) (v : Value) (xs : List En) (h : Sl w 2 v xs.length (ec xs)) (z y : Int) (hkv : ∀ x ∈ xs, Kv x) (hy0 : 0 ≤ y ∧ y ≤ 999999) (hno : ¬ ((z ∈ ks xs ∨ xs.length ≠ 11) ∧ vl xs z + y ≤ 999999)) :
    Calls Try.prog 119 #[v, .agg #[.int .i64 5, .int .i64 z, .int .i64 y]] w fun e w' => MQ w.heap.size v xs [] (if z ∈ ks xs ∨ xs.length ≠ 11 then 4 else 7) w' e ∧ Below w.heap.size w w' := by
  obtain ⟨U, e1, hb, hsz, X⟩ := Box3.box3 w 159 (.int .i64 5) (.int .i64 z) (.int .i64 y)
  have HF := Lib.hid (l10Find U v xs (h.below hb) z)
  have HVU := Lib.hid (h.below hb)
  have HB := Lib.hid hb
  have HSZ := Lib.hid (show w.heap.size ≤ U.heap.size from hb.size)
  obtain ⟨M, eM⟩ : ∃ M, w.heap.size = M := ⟨_, rfl⟩
  rw [eM] at X
  have HX := Lib.hid X
  obtain ⟨x0, x1, x2, _, _, _⟩ := X
  obtain ⟨a, cap, rfl, h1, h2, _⟩ := h
  unfold maxLen at h2
  have HVN := Lib.hid (vl_not (xs := xs) (k := z))
  have HVA := Lib.hid (fun (j : Nat) h1 h2 h3 => found (xs := xs) (z := z) (j := j) h1 h2 h3)
  have HBY := Lib.hid (bit_yes (p := z ∈ ks xs))
  have HBN := Lib.hid (bit_no (p := z ∈ ks xs))
  have HEC := Lib.hid (ec1 xs)
  have hv9 := vl_kv hkv z
  obtain ⟨C, eC⟩ : ∃ C : Int, (if z ∈ ks xs ∨ xs.length ≠ 11 then (4 : Int) else 7) = C := ⟨_, rfl⟩
  rw [eC]
  have HC := Lib.hid eC
  clear eC
  generalize bit (z ∈ ks xs) = bb at *
  generalize vl xs z = V at *
  obtain ⟨n, en⟩ : ∃ n, xs.length = n := ⟨_, rfl⟩
  have HEN := Lib.hid en
  rw [en] at HVU HVA HF h1 hno HC ⊢
  clear en hb hsz
  go_enter Try.func119, Try.ntmps119
  go_wp2_with fail
  refine HF.out.mono ?_
  rintro e w2 ⟨⟨r, rfl, HR⟩, hu⟩
  have hu2 := hu.symm
  subst hu2
  clear e1 hu eM
  rcases HR.out with ⟨rfl, hn⟩ | ⟨j, rfl, hj, hy, hf⟩
  · have e0 := HVN.out hn
    subst e0
    have eC := HC.out
    by_cases hfull : n = 11
    · rw [if_neg (fun h => h.elim hn (fun h => h hfull))] at eC
      subst eC
      subst hfull
      clear hn hno HC
      obtain ⟨U2, e2, hb2, ho2⟩ := lit0 U 3
      have HO2 := Lib.hid (ho2.base HSZ.out)
      have HB2 := Lib.hid (HB.out.trans (hb2.mono HSZ.out))
      have HV2 := Lib.hid (HVU.out.below hb2)
      clear hb2 ho2
      go_wp2_with fail
      go_ret3
      exact ⟨⟨_, _, rfl, Lib.hid ⟨by rw [HEN.out]; exact HV2.out, HO2.out, fun _ _ h => h⟩⟩, HB2.out⟩
    · exact absurd ⟨.inr hfull, by omega⟩ hno
  · rw [HEN.out] at hj
    obtain ⟨ev, hm2⟩ := HVA.out j hj hy hf
    obtain ⟨b, o, e5, hc⟩ := HVU.out.at (by omega)
    obtain rfl : a = some ⟨b, o, none⟩ := by simpa using e5
    have c1 := hc (j * 2 + 1) (by omega)
    rw [HEC.out, ← Nat.add_assoc, ← ev] at c1
    clear hc e5 ev
    have h9 : ¬ V + y ≤ 999999 := fun h => hno ⟨.inl hm2, h⟩
    have eC := HC.out
    rw [if_pos (.inl hm2)] at eC
    subst eC
    clear hm2 hy hf hno HC
    obtain ⟨U2, e2, hb2, ho2⟩ := lit0 U 3
    have HO2 := Lib.hid (ho2.base HSZ.out)
    have HB2 := Lib.hid (HB.out.trans (hb2.mono HSZ.out))
    have HV2 := Lib.hid (HVU.out.below hb2)
    clear hb2 ho2
    go_wp2_with fail
    go_ret3
    exact ⟨⟨_, _, rfl, Lib.hid ⟨by rw [HEN.out]; exact HV2.out, HO2.out, fun _ _ h => h⟩⟩, HB2.out⟩
set_option maxRecDepth 100000 in
set_option maxHeartbeats 3200000 in
theorem mAdd (w : World) (v : Value) (xs : List En) (h : Sl w 2 v xs.length (ec xs)) (z y : Int) (hri : Ri xs) (hkv : ∀ x ∈ xs, Kv x) (hl : xs.length ≤ 11) (hy0 : 0 ≤ y ∧ y ≤ 999999) (hf : z ∈ ks xs ∨ xs.length ≠ 11) (hs : vl xs z + y ≤ 999999) :
    Calls Try.prog 119 #[v, .agg #[.int .i64 5, .int .i64 z, .int .i64 y]] w fun e w' => MQ w.heap.size v (pu xs z (vl xs z + y)) [vl xs z + y] 0 w' e ∧ Below w.heap.size w w' := by
  obtain ⟨U, e1, hb, hsz, X⟩ := Box3.box3 w 159 (.int .i64 5) (.int .i64 z) (.int .i64 y)
  have HF := Lib.hid (l10Find U v xs (h.below hb) z)
  have HVU := Lib.hid (h.below hb)
  have HB := Lib.hid hb
  have HSZ := Lib.hid (show w.heap.size ≤ U.heap.size from hb.size)
  obtain ⟨M, eM⟩ : ∃ M, w.heap.size = M := ⟨_, rfl⟩
  rw [eM] at X
  have HX := Lib.hid X
  obtain ⟨x0, x1, x2, _, _, _⟩ := X
  obtain ⟨a, cap, rfl, h1, h2, _⟩ := h
  unfold maxLen at h2
  have HVN := Lib.hid (vl_not (xs := xs) (k := z))
  have HVA := Lib.hid (fun (j : Nat) h1 h2 h3 => found (xs := xs) (z := z) (j := j) h1 h2 h3)
  have HBY := Lib.hid (bit_yes (p := z ∈ ks xs))
  have HBN := Lib.hid (bit_no (p := z ∈ ks xs))
  have HEC := Lib.hid (ec1 xs)
  have hv9 := vl_kv hkv z
  have HPU := Lib.hid (fun u (hu : Sl u 2 (.slice a xs.length cap) xs.length (ec xs)) => l10Put u (.slice a xs.length cap) xs hu hri hl z (vl xs z + y))
  generalize pu xs z (vl xs z + y) = P at *
  generalize bit (z ∈ ks xs) = bb at *
  generalize vl xs z = V at *
  obtain ⟨n, en⟩ : ∃ n, xs.length = n := ⟨_, rfl⟩
  have HEN := Lib.hid en
  rw [en] at HVU HVA HF h1 HPU hl hf ⊢
  clear en hb hsz
  go_enter Try.func119, Try.ntmps119
  go_wp2_with fail
  refine HF.out.mono ?_
  rintro e w2 ⟨⟨r, rfl, HR⟩, hu⟩
  have hu2 := hu.symm
  subst hu2
  clear e1 hu eM
  rcases HR.out with ⟨rfl, hn⟩ | ⟨j, rfl, hj, hy, hff⟩
  · have HZ0 := Lib.hid (show y = V + y by rw [HVN.out hn]; omega)
    have hfull : n ≠ 11 := hf.elim (fun h => absurd h hn) id
    have n1 : ((n : Int) == 11) = false := beq_eq_false_iff_ne.2 (by omega)
    have n2 : decide ((n : Int) = 11) = false := decide_eq_false (by omega)
    clear hn hf
    have HPT := Lib.hid (HPU.out)
    have HUB := Lib.hid (fun (u : World) (hu : Below U.heap.size U u) => HVU.out.below hu)
    have HXB := Lib.hid (fun (u : World) (hu : Below U.heap.size U u) => HX.out.below hu)
    have HVY := Lib.hid (show V + y ≤ 999999 ∧ 0 ≤ V + y by omega)
    go_wp2_with fail
    refine Inv3.region [140, 141, 142, 143, 144, 145, 146, 147, 148, 149, 150, 151, 152, 4, 5, 6]
      (fun i u x => match i with
        | 0 => u = .slice (a) n cap
        | 1 => u = .pointer (some ⟨M, 1, none⟩)
        | 2 => u = .int .i64 z
        | 3 => u = .int .i64 0
        | 4 => u = .pointer (some ⟨M, 2, none⟩)
        | 5 => u = .int .i64 y
        | 6 => u = .int .i64 (V + y)
        | 7 => Sl x 2 u P.length (ec P) ∧ ∀ q, q < w.heap.size → Off u q
        | 8 => u = .int .i64 0
        | 9 => u = .pointer (some ⟨M, 2, none⟩)
        | 10 => u = .int .i64 y
        | 11 => u = .int .i64 (V + y)
        | 12 => Own x w.heap.size 1 u [V + y].length (nc [V + y])
        | 13 => Sl x 2 u P.length (ec P) ∧ ∀ q, q < w.heap.size → Off u q
        | 14 => Own x w.heap.size 1 u [V + y].length (nc [V + y])
        | 15 => u = .int .i64 0
        | _ => True)
      (fun _ _ x => Below U.heap.size U x) (fun _ x y => Below x.heap.size x y)
      (by kernel_rfl) ?said ?h0 ?hop ?hend
    case h0 => exact ⟨rfl, rfl, rfl, Nat.le_refl _, fun _ _ => rfl⟩
    case said =>
      refine ⟨rfl, fun i o ho => ?_, by decide, fun i j u x y hij hp hr => ?_⟩
      · match i, ho with
        | 0, ho => obtain rfl := Option.some.inj ho; exact ⟨by decide, rfl, (show 140 < 153 by decide)⟩
        | 1, ho => obtain rfl := Option.some.inj ho; exact ⟨by decide, rfl, (show 141 < 153 by decide)⟩
        | 2, ho => obtain rfl := Option.some.inj ho; exact ⟨by decide, rfl, (show 142 < 153 by decide)⟩
        | 3, ho => obtain rfl := Option.some.inj ho; exact ⟨by decide, rfl, (show 143 < 153 by decide)⟩
        | 4, ho => obtain rfl := Option.some.inj ho; exact ⟨by decide, rfl, (show 144 < 153 by decide)⟩
        | 5, ho => obtain rfl := Option.some.inj ho; exact ⟨by decide, rfl, (show 145 < 153 by decide)⟩
        | 6, ho => obtain rfl := Option.some.inj ho; exact ⟨by decide, rfl, (show 146 < 153 by decide)⟩
        | 7, ho => obtain rfl := Option.some.inj ho; exact ⟨by decide, rfl, (show 147 < 153 by decide)⟩
        | 8, ho => obtain rfl := Option.some.inj ho; exact ⟨by decide, rfl, (show 148 < 153 by decide)⟩
        | 9, ho => obtain rfl := Option.some.inj ho; exact ⟨by decide, rfl, (show 149 < 153 by decide)⟩
        | 10, ho => obtain rfl := Option.some.inj ho; exact ⟨by decide, rfl, (show 150 < 153 by decide)⟩
        | 11, ho => obtain rfl := Option.some.inj ho; exact ⟨by decide, rfl, (show 151 < 153 by decide)⟩
        | 12, ho => obtain rfl := Option.some.inj ho; exact ⟨by decide, rfl, (show 152 < 153 by decide)⟩
        | 13, ho => obtain rfl := Option.some.inj ho; exact ⟨by decide, rfl, (show 4 < 153 by decide)⟩
        | 14, ho => obtain rfl := Option.some.inj ho; exact ⟨by decide, rfl, (show 5 < 153 by decide)⟩
        | 15, ho => obtain rfl := Option.some.inj ho; exact ⟨by decide, rfl, (show 6 < 153 by decide)⟩
        | nn + 16, ho => cases ho
      · match i, hp with
        | 0, hp => exact hp
        | 1, hp => exact hp
        | 2, hp => exact hp
        | 3, hp => exact hp
        | 4, hp => exact hp
        | 5, hp => exact hp
        | 6, hp => exact hp
        | 8, hp => exact hp
        | 9, hp => exact hp
        | 10, hp => exact hp
        | 11, hp => exact hp
        | 15, hp => exact hp
        | 7, hp => exact ⟨hp.1.below hr, hp.2⟩
        | 12, hp => exact hp.below hr
        | 13, hp => exact ⟨hp.1.below hr, hp.2⟩
        | 14, hp => exact hp.below hr
        | nn + 16, _ => trivial
    case hop =>
      intro i op ho l a1 x hI hsz hcl hls hli hfr hdep K hK
      clear hsz
      have wr1 : IntKind.i64.wrap (V + y) = V + y := by have := HVY.out; rw [IntKind.wrap_i64]; omega
      have wr2 : IntKind.i64.wrap y = y := by rw [IntKind.wrap_i64]; omega
      have HBX := Lib.hid hI
      have HSX := Lib.hid (show w.heap.size ≤ x.heap.size from Nat.le_trans HSZ.out hI.size)
      obtain ⟨_, d1, d2, _, _, _⟩ := HXB.out x hI
      have q0 := Inv4.slot (show a1.tmps.getD 0 undef = .slice (a) n cap from hfr 0 (by decide))
      have q3 := Inv4.slot (show a1.tmps.getD 3 undef = .pointer (some ⟨M, 0, none⟩) from hfr 3 (by decide))
      have q8 := Inv4.slot (show a1.tmps.getD 8 undef = .int .i64 0 from hfr 8 (by decide))
      have stay : ∀ {v : Value}, Below U.heap.size U x := fun {v} => HBX.out
      match i, ho with
      | 0, ho =>
        obtain rfl := Option.some.inj ho
        rw [if_pos (show Region.wanted _ _ = true from rfl)]
        unfold Oper.wp execOp
        go_simp
        exact hK (.slice (a) n cap) x (Below.refl _ _) (rfl) HBX.out (fun h => by cases h)
      | 1, ho =>
        obtain rfl := Option.some.inj ho
        rw [if_pos (show Region.wanted _ _ = true from rfl)]
        unfold Oper.wp execOp
        go_simp
        exact hK (.pointer (some ⟨M, 1, none⟩)) x (Below.refl _ _) (rfl) HBX.out (fun h => by cases h)
      | 2, ho =>
        obtain rfl := Option.some.inj ho
        rw [if_pos (show Region.wanted _ _ = true from rfl)]
        obtain ⟨_, s1⟩ := hdep { on := 1, ground := Ground.data } (by simp) (by kernel_rfl)
        have e1 : a1.tmps[141]?.getD undef = .pointer (some ⟨M, 1, none⟩) := Inv4.slot s1
        unfold Oper.wp execOp
        go_simp
        exact hK (.int .i64 z) x (Below.refl _ _) (rfl) HBX.out (fun h => by cases h)
      | 3, ho =>
        obtain rfl := Option.some.inj ho
        rw [if_pos (show Region.wanted _ _ = true from rfl)]
        unfold Oper.wp execOp
        go_simp
        exact hK (.int .i64 0) x (Below.refl _ _) (rfl) HBX.out (fun h => by cases h)
      | 4, ho =>
        obtain rfl := Option.some.inj ho
        rw [if_pos (show Region.wanted _ _ = true from rfl)]
        unfold Oper.wp execOp
        go_simp
        exact hK (.pointer (some ⟨M, 2, none⟩)) x (Below.refl _ _) (rfl) HBX.out (fun h => by cases h)
      | 5, ho =>
        obtain rfl := Option.some.inj ho
        rw [if_pos (show Region.wanted _ _ = true from rfl)]
        obtain ⟨_, s4⟩ := hdep { on := 4, ground := Ground.data } (by simp) (by kernel_rfl)
        have e4 : a1.tmps[144]?.getD undef = .pointer (some ⟨M, 2, none⟩) := Inv4.slot s4
        unfold Oper.wp execOp
        go_simp
        exact hK (.int .i64 y) x (Below.refl _ _) (rfl) HBX.out (fun h => by cases h)
      | 6, ho =>
        obtain rfl := Option.some.inj ho
        rw [if_pos (show Region.wanted _ _ = true from rfl)]
        obtain ⟨_, s3⟩ := hdep { on := 3, ground := Ground.data } (by simp) (by kernel_rfl)
        have e3 : a1.tmps[143]?.getD undef = .int .i64 0 := Inv4.slot s3
        obtain ⟨_, s5⟩ := hdep { on := 5, ground := Ground.data } (by simp) (by kernel_rfl)
        have e5 : a1.tmps[145]?.getD undef = .int .i64 y := Inv4.slot s5
        unfold Oper.wp execOp
        go_simp
        exact hK (.int .i64 y) x (Below.refl _ _) (congrArg (Value.int .i64) HZ0.out) HBX.out (fun h => by cases h)
      | 7, ho =>
        obtain rfl := Option.some.inj ho
        rw [if_pos (show Region.wanted _ _ = true from rfl)]
        obtain ⟨_, s0⟩ := hdep { on := 0, ground := Ground.data } (by simp) (by kernel_rfl)
        obtain ⟨_, s2⟩ := hdep { on := 2, ground := Ground.data } (by simp) (by kernel_rfl)
        obtain ⟨_, s6⟩ := hdep { on := 6, ground := Ground.data } (by simp) (by kernel_rfl)
        refine Inv4.wp_call 135 _ _ rfl #[.slice (a) n cap, .int .i64 z, .int .i64 (V + y)] (by simp only [List.map_toArray, List.map_cons, List.map_nil, Act.eval]; show #[a1.tmps.getD 140 undef, a1.tmps.getD 142 undef, a1.tmps.getD 146 undef] = _; rw [show a1.tmps.getD 140 undef = _ from s0, show a1.tmps.getD 142 undef = _ from s2, show a1.tmps.getD 146 undef = _ from s6]) (enters_of Try.func135 (by kernel_rfl) rfl _ _) ((HPT.out x (HUB.out x hI)).mono ?_)
        rintro e y2 ⟨r3, rfl, hrow, hb⟩
        exact ⟨_, rfl, hK r3 y2 hb ⟨(es_own hrow).sl, fun q hq => own_low (es_own hrow) q (Nat.lt_of_lt_of_le hq HSX.out)⟩ (HBX.out.trans (hb.mono hI.size)) (fun h => by cases h)⟩
      | 8, ho =>
        obtain rfl := Option.some.inj ho
        rw [if_pos (show Region.wanted _ _ = true from rfl)]
        unfold Oper.wp execOp
        go_simp
        exact hK (.int .i64 0) x (Below.refl _ _) (rfl) HBX.out (fun h => by cases h)
      | 9, ho =>
        obtain rfl := Option.some.inj ho
        rw [if_pos (show Region.wanted _ _ = true from rfl)]
        unfold Oper.wp execOp
        go_simp
        exact hK (.pointer (some ⟨M, 2, none⟩)) x (Below.refl _ _) (rfl) HBX.out (fun h => by cases h)
      | 10, ho =>
        obtain rfl := Option.some.inj ho
        rw [if_pos (show Region.wanted _ _ = true from rfl)]
        obtain ⟨_, s9⟩ := hdep { on := 9, ground := Ground.data } (by simp) (by kernel_rfl)
        have e9 : a1.tmps[149]?.getD undef = .pointer (some ⟨M, 2, none⟩) := Inv4.slot s9
        unfold Oper.wp execOp
        go_simp
        exact hK (.int .i64 y) x (Below.refl _ _) (rfl) HBX.out (fun h => by cases h)
      | 11, ho =>
        obtain rfl := Option.some.inj ho
        rw [if_pos (show Region.wanted _ _ = true from rfl)]
        obtain ⟨_, s8⟩ := hdep { on := 8, ground := Ground.data } (by simp) (by kernel_rfl)
        have e8 : a1.tmps[148]?.getD undef = .int .i64 0 := Inv4.slot s8
        obtain ⟨_, s10⟩ := hdep { on := 10, ground := Ground.data } (by simp) (by kernel_rfl)
        have e10 : a1.tmps[150]?.getD undef = .int .i64 y := Inv4.slot s10
        unfold Oper.wp execOp
        go_simp
        exact hK (.int .i64 y) x (Below.refl _ _) (congrArg (Value.int .i64) HZ0.out) HBX.out (fun h => by cases h)
      | 12, ho =>
        obtain rfl := Option.some.inj ho
        rw [if_pos (show Region.wanted _ _ = true from rfl)]
        obtain ⟨_, s11⟩ := hdep { on := 11, ground := Ground.data } (by simp) (by kernel_rfl)
        have e11 : a1.tmps[151]?.getD undef = .int .i64 (V + y) := Inv4.slot s11
        obtain ⟨U2, e2, hb2, ho2⟩ := lit1 x (V + y)
        unfold Oper.wp execOp
        go_simp
        exact hK _ U2 hb2 (ho2.base HSX.out) (HBX.out.trans (hb2.mono hI.size)) (fun h => by cases h)
      | 13, ho =>
        obtain rfl := Option.some.inj ho
        rw [if_pos (show Region.wanted _ _ = true from rfl)]
        obtain ⟨_, sk⟩ := hdep { on := 7, ground := Ground.data } (by simp) (by kernel_rfl)
        obtain ⟨rk, er⟩ : ∃ r, a1.tmps.getD 147 undef = r := ⟨_, rfl⟩
        have ek := Inv4.slot er
        unfold Oper.wp execOp
        go_simp
        exact hK rk x (Below.refl _ _) (er ▸ sk) HBX.out (fun h => by cases h)
      | 14, ho =>
        obtain rfl := Option.some.inj ho
        rw [if_pos (show Region.wanted _ _ = true from rfl)]
        obtain ⟨_, sk⟩ := hdep { on := 12, ground := Ground.data } (by simp) (by kernel_rfl)
        obtain ⟨rk, er⟩ : ∃ r, a1.tmps.getD 152 undef = r := ⟨_, rfl⟩
        have ek := Inv4.slot er
        unfold Oper.wp execOp
        go_simp
        exact hK rk x (Below.refl _ _) (er ▸ sk) HBX.out (fun h => by cases h)
      | 15, ho =>
        obtain rfl := Option.some.inj ho
        rw [if_pos (show Region.wanted _ _ = true from rfl)]
        unfold Oper.wp execOp
        go_simp
        exact hK (.int .i64 0) x (Below.refl _ _) (rfl) HBX.out (fun h => by cases h)
      | nn + 16, ho => cases ho
    case hend =>
      intro aa x hsz hdf hfr hall hl
      obtain ⟨l, hg, _⟩ := hl
      have s4 : Sl x 2 (aa.tmps.getD 4 undef) P.length (ec P) ∧ ∀ q, q < w.heap.size → Off (aa.tmps.getD 4 undef) q := hall 13 (by decide)
      have s5 : Own x w.heap.size 1 (aa.tmps.getD 5 undef) [V + y].length (nc [V + y]) := hall 14 (by decide)
      have s6 : aa.tmps.getD 6 undef = .int .i64 0 := hall 15 (by decide)
      have HBW := Lib.hid (HB.out.trans (hg.mono HSZ.out))
      obtain ⟨r4, e4⟩ : ∃ r, aa.tmps.getD 4 undef = r := ⟨_, rfl⟩
      obtain ⟨r5, e5⟩ : ∃ r, aa.tmps.getD 5 undef = r := ⟨_, rfl⟩
      rw [e4] at s4
      rw [e5] at s5
      have HS4 := Lib.hid s4
      have HS5 := Lib.hid s5
      obtain ⟨tm, df⟩ := aa
      simp only at hdf e4 e5 s6
      subst hdf
      have e4 := Inv4.slot e4
      have e5 := Inv4.slot e5
      have e6 := Inv4.slot s6
      clear hall hfr hg s4 s5
      go_wp2
      refine bodyPost_ret (v := .tuple #[r4, r5, .int .i64 0]) (by simp [results, Try.results119, go_sem, e4, e5, e6]) rfl ⟨⟨_, _, rfl, Lib.hid ⟨HS4.out.1, HS5.out, fun q hq _ => HS4.out.2 q hq⟩⟩, HBW.out⟩
  · rw [HEN.out] at hj
    obtain ⟨ev, hm2⟩ := HVA.out j hj hy hff
    obtain ⟨b, o, e5, hc⟩ := HVU.out.at (by omega)
    obtain rfl : a = some ⟨b, o, none⟩ := by simpa using e5
    have c1 := hc (j * 2 + 1) (by omega)
    rw [HEC.out, ← Nat.add_assoc, ← ev] at c1
    clear hc e5 ev
    clear hm2 hy hf hff
    have HPT := Lib.hid (HPU.out)
    have HUB := Lib.hid (fun (u : World) (hu : Below U.heap.size U u) => HVU.out.below hu)
    have HXB := Lib.hid (fun (u : World) (hu : Below U.heap.size U u) => HX.out.below hu)
    have HVY := Lib.hid (show V + y ≤ 999999 ∧ 0 ≤ V + y by omega)
    go_wp2_with fail
    refine Inv3.region [140, 141, 142, 143, 144, 145, 146, 147, 148, 149, 150, 151, 152, 4, 5, 6]
      (fun i u x => match i with
        | 0 => u = .slice (some ⟨b, o, none⟩) n cap
        | 1 => u = .pointer (some ⟨M, 1, none⟩)
        | 2 => u = .int .i64 z
        | 3 => u = .int .i64 V
        | 4 => u = .pointer (some ⟨M, 2, none⟩)
        | 5 => u = .int .i64 y
        | 6 => u = .int .i64 (V + y)
        | 7 => Sl x 2 u P.length (ec P) ∧ ∀ q, q < w.heap.size → Off u q
        | 8 => u = .int .i64 V
        | 9 => u = .pointer (some ⟨M, 2, none⟩)
        | 10 => u = .int .i64 y
        | 11 => u = .int .i64 (V + y)
        | 12 => Own x w.heap.size 1 u [V + y].length (nc [V + y])
        | 13 => Sl x 2 u P.length (ec P) ∧ ∀ q, q < w.heap.size → Off u q
        | 14 => Own x w.heap.size 1 u [V + y].length (nc [V + y])
        | 15 => u = .int .i64 0
        | _ => True)
      (fun _ _ x => Below U.heap.size U x) (fun _ x y => Below x.heap.size x y)
      (by kernel_rfl) ?said ?h0 ?hop ?hend
    case h0 => exact ⟨rfl, rfl, rfl, Nat.le_refl _, fun _ _ => rfl⟩
    case said =>
      refine ⟨rfl, fun i o ho => ?_, by decide, fun i j u x y hij hp hr => ?_⟩
      · match i, ho with
        | 0, ho => obtain rfl := Option.some.inj ho; exact ⟨by decide, rfl, (show 140 < 153 by decide)⟩
        | 1, ho => obtain rfl := Option.some.inj ho; exact ⟨by decide, rfl, (show 141 < 153 by decide)⟩
        | 2, ho => obtain rfl := Option.some.inj ho; exact ⟨by decide, rfl, (show 142 < 153 by decide)⟩
        | 3, ho => obtain rfl := Option.some.inj ho; exact ⟨by decide, rfl, (show 143 < 153 by decide)⟩
        | 4, ho => obtain rfl := Option.some.inj ho; exact ⟨by decide, rfl, (show 144 < 153 by decide)⟩
        | 5, ho => obtain rfl := Option.some.inj ho; exact ⟨by decide, rfl, (show 145 < 153 by decide)⟩
        | 6, ho => obtain rfl := Option.some.inj ho; exact ⟨by decide, rfl, (show 146 < 153 by decide)⟩
        | 7, ho => obtain rfl := Option.some.inj ho; exact ⟨by decide, rfl, (show 147 < 153 by decide)⟩
        | 8, ho => obtain rfl := Option.some.inj ho; exact ⟨by decide, rfl, (show 148 < 153 by decide)⟩
        | 9, ho => obtain rfl := Option.some.inj ho; exact ⟨by decide, rfl, (show 149 < 153 by decide)⟩
        | 10, ho => obtain rfl := Option.some.inj ho; exact ⟨by decide, rfl, (show 150 < 153 by decide)⟩
        | 11, ho => obtain rfl := Option.some.inj ho; exact ⟨by decide, rfl, (show 151 < 153 by decide)⟩
        | 12, ho => obtain rfl := Option.some.inj ho; exact ⟨by decide, rfl, (show 152 < 153 by decide)⟩
        | 13, ho => obtain rfl := Option.some.inj ho; exact ⟨by decide, rfl, (show 4 < 153 by decide)⟩
        | 14, ho => obtain rfl := Option.some.inj ho; exact ⟨by decide, rfl, (show 5 < 153 by decide)⟩
        | 15, ho => obtain rfl := Option.some.inj ho; exact ⟨by decide, rfl, (show 6 < 153 by decide)⟩
        | nn + 16, ho => cases ho
      · match i, hp with
        | 0, hp => exact hp
        | 1, hp => exact hp
        | 2, hp => exact hp
        | 3, hp => exact hp
        | 4, hp => exact hp
        | 5, hp => exact hp
        | 6, hp => exact hp
        | 8, hp => exact hp
        | 9, hp => exact hp
        | 10, hp => exact hp
        | 11, hp => exact hp
        | 15, hp => exact hp
        | 7, hp => exact ⟨hp.1.below hr, hp.2⟩
        | 12, hp => exact hp.below hr
        | 13, hp => exact ⟨hp.1.below hr, hp.2⟩
        | 14, hp => exact hp.below hr
        | nn + 16, _ => trivial
    case hop =>
      intro i op ho l a1 x hI hsz hcl hls hli hfr hdep K hK
      clear hsz
      have wr1 : IntKind.i64.wrap (V + y) = V + y := by have := HVY.out; rw [IntKind.wrap_i64]; omega
      have wr2 : IntKind.i64.wrap y = y := by rw [IntKind.wrap_i64]; omega
      have HBX := Lib.hid hI
      have HSX := Lib.hid (show w.heap.size ≤ x.heap.size from Nat.le_trans HSZ.out hI.size)
      obtain ⟨_, d1, d2, _, _, _⟩ := HXB.out x hI
      have q0 := Inv4.slot (show a1.tmps.getD 0 undef = .slice (some ⟨b, o, none⟩) n cap from hfr 0 (by decide))
      have q3 := Inv4.slot (show a1.tmps.getD 3 undef = .pointer (some ⟨M, 0, none⟩) from hfr 3 (by decide))
      have q8 := Inv4.slot (show a1.tmps.getD 8 undef = .int .i64 V from hfr 8 (by decide))
      have stay : ∀ {v : Value}, Below U.heap.size U x := fun {v} => HBX.out
      match i, ho with
      | 0, ho =>
        obtain rfl := Option.some.inj ho
        rw [if_pos (show Region.wanted _ _ = true from rfl)]
        unfold Oper.wp execOp
        go_simp
        exact hK (.slice (some ⟨b, o, none⟩) n cap) x (Below.refl _ _) (rfl) HBX.out (fun h => by cases h)
      | 1, ho =>
        obtain rfl := Option.some.inj ho
        rw [if_pos (show Region.wanted _ _ = true from rfl)]
        unfold Oper.wp execOp
        go_simp
        exact hK (.pointer (some ⟨M, 1, none⟩)) x (Below.refl _ _) (rfl) HBX.out (fun h => by cases h)
      | 2, ho =>
        obtain rfl := Option.some.inj ho
        rw [if_pos (show Region.wanted _ _ = true from rfl)]
        obtain ⟨_, s1⟩ := hdep { on := 1, ground := Ground.data } (by simp) (by kernel_rfl)
        have e1 : a1.tmps[141]?.getD undef = .pointer (some ⟨M, 1, none⟩) := Inv4.slot s1
        unfold Oper.wp execOp
        go_simp
        exact hK (.int .i64 z) x (Below.refl _ _) (rfl) HBX.out (fun h => by cases h)
      | 3, ho =>
        obtain rfl := Option.some.inj ho
        rw [if_pos (show Region.wanted _ _ = true from rfl)]
        unfold Oper.wp execOp
        go_simp
        exact hK (.int .i64 V) x (Below.refl _ _) (rfl) HBX.out (fun h => by cases h)
      | 4, ho =>
        obtain rfl := Option.some.inj ho
        rw [if_pos (show Region.wanted _ _ = true from rfl)]
        unfold Oper.wp execOp
        go_simp
        exact hK (.pointer (some ⟨M, 2, none⟩)) x (Below.refl _ _) (rfl) HBX.out (fun h => by cases h)
      | 5, ho =>
        obtain rfl := Option.some.inj ho
        rw [if_pos (show Region.wanted _ _ = true from rfl)]
        obtain ⟨_, s4⟩ := hdep { on := 4, ground := Ground.data } (by simp) (by kernel_rfl)
        have e4 : a1.tmps[144]?.getD undef = .pointer (some ⟨M, 2, none⟩) := Inv4.slot s4
        unfold Oper.wp execOp
        go_simp
        exact hK (.int .i64 y) x (Below.refl _ _) (rfl) HBX.out (fun h => by cases h)
      | 6, ho =>
        obtain rfl := Option.some.inj ho
        rw [if_pos (show Region.wanted _ _ = true from rfl)]
        obtain ⟨_, s3⟩ := hdep { on := 3, ground := Ground.data } (by simp) (by kernel_rfl)
        have e3 : a1.tmps[143]?.getD undef = .int .i64 V := Inv4.slot s3
        obtain ⟨_, s5⟩ := hdep { on := 5, ground := Ground.data } (by simp) (by kernel_rfl)
        have e5 : a1.tmps[145]?.getD undef = .int .i64 y := Inv4.slot s5
        unfold Oper.wp execOp
        go_simp
        exact hK (.int .i64 (V + y)) x (Below.refl _ _) (rfl) HBX.out (fun h => by cases h)
      | 7, ho =>
        obtain rfl := Option.some.inj ho
        rw [if_pos (show Region.wanted _ _ = true from rfl)]
        obtain ⟨_, s0⟩ := hdep { on := 0, ground := Ground.data } (by simp) (by kernel_rfl)
        obtain ⟨_, s2⟩ := hdep { on := 2, ground := Ground.data } (by simp) (by kernel_rfl)
        obtain ⟨_, s6⟩ := hdep { on := 6, ground := Ground.data } (by simp) (by kernel_rfl)
        refine Inv4.wp_call 135 _ _ rfl #[.slice (some ⟨b, o, none⟩) n cap, .int .i64 z, .int .i64 (V + y)] (by simp only [List.map_toArray, List.map_cons, List.map_nil, Act.eval]; show #[a1.tmps.getD 140 undef, a1.tmps.getD 142 undef, a1.tmps.getD 146 undef] = _; rw [show a1.tmps.getD 140 undef = _ from s0, show a1.tmps.getD 142 undef = _ from s2, show a1.tmps.getD 146 undef = _ from s6]) (enters_of Try.func135 (by kernel_rfl) rfl _ _) ((HPT.out x (HUB.out x hI)).mono ?_)
        rintro e y2 ⟨r3, rfl, hrow, hb⟩
        exact ⟨_, rfl, hK r3 y2 hb ⟨(es_own hrow).sl, fun q hq => own_low (es_own hrow) q (Nat.lt_of_lt_of_le hq HSX.out)⟩ (HBX.out.trans (hb.mono hI.size)) (fun h => by cases h)⟩
      | 8, ho =>
        obtain rfl := Option.some.inj ho
        rw [if_pos (show Region.wanted _ _ = true from rfl)]
        unfold Oper.wp execOp
        go_simp
        exact hK (.int .i64 V) x (Below.refl _ _) (rfl) HBX.out (fun h => by cases h)
      | 9, ho =>
        obtain rfl := Option.some.inj ho
        rw [if_pos (show Region.wanted _ _ = true from rfl)]
        unfold Oper.wp execOp
        go_simp
        exact hK (.pointer (some ⟨M, 2, none⟩)) x (Below.refl _ _) (rfl) HBX.out (fun h => by cases h)
      | 10, ho =>
        obtain rfl := Option.some.inj ho
        rw [if_pos (show Region.wanted _ _ = true from rfl)]
        obtain ⟨_, s9⟩ := hdep { on := 9, ground := Ground.data } (by simp) (by kernel_rfl)
        have e9 : a1.tmps[149]?.getD undef = .pointer (some ⟨M, 2, none⟩) := Inv4.slot s9
        unfold Oper.wp execOp
        go_simp
        exact hK (.int .i64 y) x (Below.refl _ _) (rfl) HBX.out (fun h => by cases h)
      | 11, ho =>
        obtain rfl := Option.some.inj ho
        rw [if_pos (show Region.wanted _ _ = true from rfl)]
        obtain ⟨_, s8⟩ := hdep { on := 8, ground := Ground.data } (by simp) (by kernel_rfl)
        have e8 : a1.tmps[148]?.getD undef = .int .i64 V := Inv4.slot s8
        obtain ⟨_, s10⟩ := hdep { on := 10, ground := Ground.data } (by simp) (by kernel_rfl)
        have e10 : a1.tmps[150]?.getD undef = .int .i64 y := Inv4.slot s10
        unfold Oper.wp execOp
        go_simp
        exact hK (.int .i64 (V + y)) x (Below.refl _ _) (rfl) HBX.out (fun h => by cases h)
      | 12, ho =>
        obtain rfl := Option.some.inj ho
        rw [if_pos (show Region.wanted _ _ = true from rfl)]
        obtain ⟨_, s11⟩ := hdep { on := 11, ground := Ground.data } (by simp) (by kernel_rfl)
        have e11 : a1.tmps[151]?.getD undef = .int .i64 (V + y) := Inv4.slot s11
        obtain ⟨U2, e2, hb2, ho2⟩ := lit1 x (V + y)
        unfold Oper.wp execOp
        go_simp
        exact hK _ U2 hb2 (ho2.base HSX.out) (HBX.out.trans (hb2.mono hI.size)) (fun h => by cases h)
      | 13, ho =>
        obtain rfl := Option.some.inj ho
        rw [if_pos (show Region.wanted _ _ = true from rfl)]
        obtain ⟨_, sk⟩ := hdep { on := 7, ground := Ground.data } (by simp) (by kernel_rfl)
        obtain ⟨rk, er⟩ : ∃ r, a1.tmps.getD 147 undef = r := ⟨_, rfl⟩
        have ek := Inv4.slot er
        unfold Oper.wp execOp
        go_simp
        exact hK rk x (Below.refl _ _) (er ▸ sk) HBX.out (fun h => by cases h)
      | 14, ho =>
        obtain rfl := Option.some.inj ho
        rw [if_pos (show Region.wanted _ _ = true from rfl)]
        obtain ⟨_, sk⟩ := hdep { on := 12, ground := Ground.data } (by simp) (by kernel_rfl)
        obtain ⟨rk, er⟩ : ∃ r, a1.tmps.getD 152 undef = r := ⟨_, rfl⟩
        have ek := Inv4.slot er
        unfold Oper.wp execOp
        go_simp
        exact hK rk x (Below.refl _ _) (er ▸ sk) HBX.out (fun h => by cases h)
      | 15, ho =>
        obtain rfl := Option.some.inj ho
        rw [if_pos (show Region.wanted _ _ = true from rfl)]
        unfold Oper.wp execOp
        go_simp
        exact hK (.int .i64 0) x (Below.refl _ _) (rfl) HBX.out (fun h => by cases h)
      | nn + 16, ho => cases ho
    case hend =>
      intro aa x hsz hdf hfr hall hl
      obtain ⟨l, hg, _⟩ := hl
      have s4 : Sl x 2 (aa.tmps.getD 4 undef) P.length (ec P) ∧ ∀ q, q < w.heap.size → Off (aa.tmps.getD 4 undef) q := hall 13 (by decide)
      have s5 : Own x w.heap.size 1 (aa.tmps.getD 5 undef) [V + y].length (nc [V + y]) := hall 14 (by decide)
      have s6 : aa.tmps.getD 6 undef = .int .i64 0 := hall 15 (by decide)
      have HBW := Lib.hid (HB.out.trans (hg.mono HSZ.out))
      obtain ⟨r4, e4⟩ : ∃ r, aa.tmps.getD 4 undef = r := ⟨_, rfl⟩
      obtain ⟨r5, e5⟩ : ∃ r, aa.tmps.getD 5 undef = r := ⟨_, rfl⟩
      rw [e4] at s4
      rw [e5] at s5
      have HS4 := Lib.hid s4
      have HS5 := Lib.hid s5
      obtain ⟨tm, df⟩ := aa
      simp only at hdf e4 e5 s6
      subst hdf
      have e4 := Inv4.slot e4
      have e5 := Inv4.slot e5
      have e6 := Inv4.slot s6
      clear hall hfr hg s4 s5
      go_wp2
      refine bodyPost_ret (v := .tuple #[r4, r5, .int .i64 0]) (by simp [results, Try.results119, go_sem, e4, e5, e6]) rfl ⟨⟨_, _, rfl, Lib.hid ⟨HS4.out.1, HS5.out, fun q hq _ => HS4.out.2 q hq⟩⟩, HBW.out⟩
end Go.Proofs.Ytealdpkgfmokpaa.DoM2
