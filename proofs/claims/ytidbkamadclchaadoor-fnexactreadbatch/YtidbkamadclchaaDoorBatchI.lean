/-
  What is proved: the program's texts of transactions and batches are the plain ones, where the package's words and the library's table of tens stand in their places (contracts for the walks).
-/
import Derived.Test.YtidbkamadclchaaDoorRows
import Derived.Test.YtidbkamadclchaaDoorTextJ
import Derived.Test.YtidbkamadclchaaDoorOpI
namespace Go.Proofs.YtidbkamadclchaaDoor.BatchI
open Go.ChangeShapes Go.WideShapes Go.ChangeAt Go.RowKit
open Sl (Sl Own Off)
open OpenSl (tc)
open Dev Orm Box3 OpB BatB Txt TxtB Dig TextM TextJ OpI
set_option linter.unusedVariables false

set_option maxRecDepth 100000 in
set_option maxHeartbeats 1600000 in
theorem joinOps (w : World) (hT : Tb w) (v : Value) (xs : List Bk) (h : Sl w 3 v xs.length (bc xs)) (h0 : 0 < xs.length) (hn : xs.length ≤ 4) (hg : ∀ x ∈ xs, Ok x) (sep : ByteArray) (hp : sep.size ≤ 8) :
    Calls Tryd.prog 62 #[v, .string sep, .func (.func 25) #[] #[]] w fun e w' => e = .returned (.string (jn (xs.map opB) sep)) ∧ Below w.heap.size w w' := by
  have HTW := Lib.hid hT
  have HG := Lib.hid (fun k (hk : k < xs.length) => hg _ (getD_mem xs (0, 0, 0) k hk))
  have HC := Lib.hid (show ∀ k, k < xs.length → tc (xs.map opB) k = .string (opB (xs.getD k (0, 0, 0))) from fun k hk => by unfold tc; rw [map_getD opB xs (0, 0, 0) _ k hk])
  have HJ := Lib.hid (fun (bk o : Nat) (u : World) (hcells : ∀ j, j < xs.length → u.cell? ⟨bk, o + j, none⟩ = some (tc (xs.map opB) j)) (hbk : bk < u.heap.size) =>
    show Calls Tryd.prog 53 #[.slice (some ⟨bk, o, none⟩) xs.length xs.length, .string sep] u fun e w' => e = .returned (.string (jn (xs.map opB) sep)) ∧ Below u.heap.size u w' from by
      have hl : (xs.map opB).length = xs.length := List.length_map _
      have := Tryd.strings_Join bk o xs.length (xs.map opB) sep u (fun j x hx => by
        have hj : j < xs.length := by have := (List.getElem?_eq_some_iff.1 hx).1; rwa [hl] at this
        rw [hcells j hj]
        unfold tc
        rw [List.getD_eq_getElem?_getD, hx]
        rfl) hbk (by rw [hl]; omega) (by rw [hl]; exact Nat.le_refl _) (by
          have h1 := J_size (xs.map opB) sep 65536 (fun t ht => by
            obtain ⟨x, hx, rfl⟩ := List.mem_map.1 ht
            have := opB_size (hg x hx)
            omega) hp _ (Nat.le_refl _)
          rw [J_all, hl] at h1
          have h2 : (jn (xs.map opB) sep).size = (Lib.join ((xs.map opB).map (·.data.toList)) sep.data.toList).length := List.size_toArray
          rw [← h2]
          have := Nat.mul_le_mul_right (65536 + 8) hn
          omega)
      rw [hl] at this
      exact this)
  obtain ⟨a, cap, rfl, _, hm, h3⟩ := h
  have H3 := Lib.hid h3
  clear h3
  unfold maxLen at hm
  clear hT hg
  generalize jn (xs.map opB) sep = RES at *
  generalize tc (xs.map opB) = C at *
  generalize en : xs.length = n at *
  clear en
  obtain ⟨g, o, w1, hmk, hown, hbel⟩ := made (P := Tryd.prog) w 66 9 1 (.string ByteArray.empty) 16 Tryd.underlying66 LawS.info9 n (by omega) (by unfold maxLen; omega) (fun _ => .string ByteArray.empty) (LawS.made_one _ rfl n)
  have HO := Lib.hid hown
  have HB := Lib.hid hbel
  clear hown hbel
  go_enter Tryd.func62, Tryd.ntmps62
  go_wp2
  go_loopw [15] (fun i wz => ∃ (k : Nat) (wr : World), wr = wz ∧ k ≤ n ∧ i = .int .i64 k ∧ Hid (Own wr w.heap.size 1 (.slice (some ⟨g, o, none⟩) n n) n (fun j => if j < k then C j else .string ByteArray.empty) ∧ Below w.heap.size w wr)) (fun i _ => n - (intOf i).toNat)
  case atStart => exact ⟨0, _, rfl, by omega, rfl, Lib.hid ⟨HO.out.congr (fun j _ => by rw [if_neg (by omega)]), HB.out⟩⟩
  case round =>
    obtain ⟨k, wr, rfl, hk, rfl, HX⟩ := hrel
    by_cases hlt : k < n
    · have HCK := Lib.hid (HC.out k hlt)
      have HGK := Lib.hid (HG.out k hlt)
      obtain ⟨b, o2, rfl, hc⟩ := H3.out (by omega)
      have d0 := hc (k * 3) (by omega)
      have d1 := hc (k * 3 + 1) (by omega)
      have d2 := hc (k * 3 + 2) (by omega)
      rw [← HX.out.2.cell (World.block_lt_of_cell? w _ d0), bc0] at d0
      rw [← HX.out.2.cell (World.block_lt_of_cell? w _ d1), bc1, ← Nat.add_assoc] at d1
      rw [← HX.out.2.cell (World.block_lt_of_cell? w _ d2), bc2, ← Nat.add_assoc] at d2
      clear hc
      generalize xs.getD k (0, 0, 0) = y at *
      obtain ⟨y0, y1, y2⟩ := y
      simp only at d0 d1 d2
      obtain ⟨U, e1, hb, hz, X⟩ := box3 wr 26 (.int .i64 y0) (.int .i64 y1) (.int .i64 y2)
      have HBU := Lib.hid hb
      obtain ⟨G, eG⟩ : ∃ G, wr.heap.size = G := ⟨_, rfl⟩
      rw [eG] at X
      obtain ⟨c0, c1, c2, _, _, _⟩ := X
      have HTU := Lib.hid (HTW.out.below (HX.out.2.trans (HBU.out.mono HX.out.2.size)))
      clear hb hz
      go_wp2_with fail
      refine (opText U HTU.out y0 y1 y2 HGK.out).mono ?_
      rintro e w2 ⟨rfl, hb2⟩
      have HB2 := Lib.hid (HX.out.2.trans ((HBU.out.trans (hb2.mono HBU.out.size)).mono HX.out.2.size))
      have HO2 := Lib.hid ((HX.out.1.below HBU.out).below hb2)
      clear hb2 e1 eG
      obtain ⟨b', o', e', hb', hc'⟩ := HO2.out.at (by omega)
      obtain ⟨rfl, rfl⟩ : g = b' ∧ o = o' := by simpa using e'
      obtain ⟨c3, f3⟩ := hc' k (by omega)
      have HG2 := Lib.hid hb'
      clear hc' hb' e'
      generalize (if k < k then C k else Value.string ByteArray.empty) = d0 at *
      generalize opB (y0, y1, y2) = tx at *
      go_wp2
      go_roundw
      case rel =>
        refine ⟨k + 1, _, rfl, by omega, by go_num, Lib.hid ⟨(HO2.out.set k (by omega) _).congr (fun j hj => ?_), HB2.out.setCell HG2.out _⟩⟩
        show (if j = k then _ else if j < k then _ else _) = if j < k + 1 then _ else _
        by_cases ej : j = k
        · rw [if_pos ej, if_pos (by omega), ej, HCK.out]
        · rw [if_neg ej]
          by_cases h5 : j < k
          · rw [if_pos h5, if_pos (by omega)]
          · rw [if_neg h5, if_neg (by omega)]
      case measure => simp [intOf]; omega
    · have hk2 := Lib.hid (show k = n by omega)
      have HCS := Lib.hid (show (∀ j, j < n → wr.cell? ⟨g, o + j, none⟩ = some (C j)) ∧ (0 < n → g < wr.heap.size) from ⟨fun j hj => by
        obtain ⟨b', o', e', hb', hc'⟩ := HX.out.1.at (by omega)
        obtain ⟨rfl, rfl⟩ : g = b' ∧ o = o' := by simpa using e'
        rw [(hc' j (by omega)).1, if_pos (by have := hk2.out; omega)], fun h0 => by
        obtain ⟨b', o', e', hb', hc'⟩ := HX.out.1.at (by omega)
        obtain ⟨rfl, rfl⟩ : g = b' ∧ o = o' := by simpa using e'
        exact World.block_lt_of_cell? wr _ (hc' 0 (by omega)).1⟩)
      have hgl : g < wr.heap.size := HCS.out.2 (by omega)
      go_wp2_with fail
      refine (HJ.out g o wr HCS.out.1 hgl).mono ?_
      rintro e w2 ⟨rfl, hb2⟩
      have HB2 := Lib.hid (HX.out.2.trans (hb2.mono HX.out.2.size))
      clear hb2
      go_wp2_with fail
      go_ret
      exact ⟨rfl, HB2.out⟩

set_option maxRecDepth 100000 in
theorem txnText (w : World) (hT : Tb w) (v : Value) (xs : List Bk) (h : Sl w 3 v xs.length (bc xs)) (hok : TOk xs) :
    Calls Tryd.prog 34 #[.agg #[v]] w fun e w' => e = .returned (.string (txB xs)) ∧ Below w.heap.size w w' := by
  obtain ⟨U, e1, hb, hz, c0⟩ := box1 w 55 v
  have HB := Lib.hid hb
  have H := Lib.hid (fun u (hu : Below U.heap.size U u) => (h.below hb).below hu)
  have HJ := Lib.hid (joinOps U (hT.below hb) v xs (h.below hb) (by have := hok.1.1; omega) hok.1.2 hok.2 ⟨#[59, 32]⟩ (by decide))
  have HTB := Lib.hid (show jn (xs.map opB) ⟨#[59, 32]⟩ = txB xs from rfl)
  rw [HTB.out] at HJ
  obtain ⟨a, cap, rfl, _, _⟩ := h.form
  obtain ⟨G, eG⟩ : ∃ G, w.heap.size = G := ⟨_, rfl⟩
  rw [eG] at c0
  clear hb hz h hT hok HTB
  go_enter Tryd.func34, Tryd.ntmps34
  go_wp2_with fail
  clear e1 eG
  refine HJ.out.mono ?_
  rintro e w1 ⟨rfl, hb⟩
  have HB1 := Lib.hid (HB.out.trans (hb.mono HB.out.size))
  clear hb
  go_wp2_with fail
  go_ret
  exact ⟨rfl, HB1.out⟩
theorem txB_size2 {xs : List Bk} (h : TOk xs) : (txB xs).size ≤ 65536 := Nat.le_trans (txB_size h) (by decide)

set_option maxRecDepth 100000 in
set_option maxHeartbeats 1600000 in
theorem joinTxns (w : World) (hT : Tb w) (v : Value) (xs : List (List Bk)) (h : Ns w v xs) (h0 : 0 < xs.length) (hn : xs.length ≤ 4) (hg : ∀ x ∈ xs, TOk x) (sep : ByteArray) (hp : sep.size ≤ 8) :
    Calls Tryd.prog 33 #[v, .string sep, .func (.func 34) #[] #[]] w fun e w' => e = .returned (.string (jn (xs.map txB) sep)) ∧ Below w.heap.size w w' := by
  have HTW := Lib.hid hT
  have HG := Lib.hid (fun k (hk : k < xs.length) => hg _ (getD_mem xs [] k hk))
  have HC := Lib.hid (show ∀ k, k < xs.length → tc (xs.map txB) k = .string (txB (xs.getD k [])) from fun k hk => by unfold tc; rw [map_getD txB xs [] _ k hk])
  have HJ := Lib.hid (fun (bk o : Nat) (u : World) (hcells : ∀ j, j < xs.length → u.cell? ⟨bk, o + j, none⟩ = some (tc (xs.map txB) j)) (hbk : bk < u.heap.size) =>
    show Calls Tryd.prog 53 #[.slice (some ⟨bk, o, none⟩) xs.length xs.length, .string sep] u fun e w' => e = .returned (.string (jn (xs.map txB) sep)) ∧ Below u.heap.size u w' from by
      have hl : (xs.map txB).length = xs.length := List.length_map _
      have := Tryd.strings_Join bk o xs.length (xs.map txB) sep u (fun j x hx => by
        have hj : j < xs.length := by have := (List.getElem?_eq_some_iff.1 hx).1; rwa [hl] at this
        rw [hcells j hj]
        unfold tc
        rw [List.getD_eq_getElem?_getD, hx]
        rfl) hbk (by rw [hl]; omega) (by rw [hl]; exact Nat.le_refl _) (by
          have h1 := J_size (xs.map txB) sep 65536 (fun t ht => by
            obtain ⟨x, hx, rfl⟩ := List.mem_map.1 ht
            have := txB_size2 (hg x hx)
            omega) hp _ (Nat.le_refl _)
          rw [J_all, hl] at h1
          have h2 : (jn (xs.map txB) sep).size = (Lib.join ((xs.map txB).map (·.data.toList)) sep.data.toList).length := List.size_toArray
          rw [← h2]
          have := Nat.mul_le_mul_right (65536 + 8) hn
          omega)
      rw [hl] at this
      exact this)
  obtain ⟨vs, ⟨a, cap, rfl, _, hm, h3⟩, hin⟩ := h
  have H3 := Lib.hid h3
  have HI := Lib.hid hin
  clear h3 hin
  unfold maxLen at hm
  clear hT hg
  generalize jn (xs.map txB) sep = RES at *
  generalize tc (xs.map txB) = C at *
  generalize en : xs.length = n at *
  clear en
  obtain ⟨g, o, w1, hmk, hown, hbel⟩ := made (P := Tryd.prog) w 66 9 1 (.string ByteArray.empty) 16 Tryd.underlying66 LawS.info9 n (by omega) (by unfold maxLen; omega) (fun _ => .string ByteArray.empty) (LawS.made_one _ rfl n)
  have HO := Lib.hid hown
  have HB := Lib.hid hbel
  clear hown hbel
  go_enter Tryd.func33, Tryd.ntmps33
  go_wp2
  go_loopw [15] (fun i wz => ∃ (k : Nat) (wr : World), wr = wz ∧ k ≤ n ∧ i = .int .i64 k ∧ Hid (Own wr w.heap.size 1 (.slice (some ⟨g, o, none⟩) n n) n (fun j => if j < k then C j else .string ByteArray.empty) ∧ Below w.heap.size w wr)) (fun i _ => n - (intOf i).toNat)
  case atStart => exact ⟨0, _, rfl, by omega, rfl, Lib.hid ⟨HO.out.congr (fun j _ => by rw [if_neg (by omega)]), HB.out⟩⟩
  case round =>
    obtain ⟨k, wr, rfl, hk, rfl, HX⟩ := hrel
    by_cases hlt : k < n
    · have HCK := Lib.hid (HC.out k hlt)
      have HGK := Lib.hid (HG.out k hlt)
      obtain ⟨b, o2, rfl, hc⟩ := H3.out (by omega)
      have d0 := hc k (by omega)
      rw [← HX.out.2.cell (World.block_lt_of_cell? w _ d0)] at d0
      have HV := Lib.hid ((HI.out k hlt).below HX.out.2)
      clear hc
      generalize xs.getD k [] = ys at *
      obtain ⟨a5, cap5, e5, _, _⟩ := HV.out.form
      rw [e5] at d0 HV
      clear e5
      obtain ⟨U, e1, hb, hz, X⟩ := box1 wr 55 (.slice a5 ys.length cap5)
      have HBU := Lib.hid hb
      obtain ⟨G, eG⟩ : ∃ G, wr.heap.size = G := ⟨_, rfl⟩
      rw [eG] at X
      have HTU := Lib.hid (HTW.out.below (HX.out.2.trans (HBU.out.mono HX.out.2.size)))
      have HVU := Lib.hid (HV.out.below HBU.out)
      clear hb hz
      go_wp2_with fail
      refine (txnText U HTU.out _ ys HVU.out HGK.out).mono ?_
      rintro e w2 ⟨rfl, hb2⟩
      have HB2 := Lib.hid (HX.out.2.trans ((HBU.out.trans (hb2.mono HBU.out.size)).mono HX.out.2.size))
      have HO2 := Lib.hid ((HX.out.1.below HBU.out).below hb2)
      clear hb2 e1 eG
      obtain ⟨b', o', e', hb', hc'⟩ := HO2.out.at (by omega)
      obtain ⟨rfl, rfl⟩ : g = b' ∧ o = o' := by simpa using e'
      obtain ⟨c3, f3⟩ := hc' k (by omega)
      have HG2 := Lib.hid hb'
      clear hc' hb' e'
      generalize (if k < k then C k else Value.string ByteArray.empty) = d0 at *
      generalize txB ys = tx at *
      go_wp2
      go_roundw
      case rel =>
        refine ⟨k + 1, _, rfl, by omega, by go_num, Lib.hid ⟨(HO2.out.set k (by omega) _).congr (fun j hj => ?_), HB2.out.setCell HG2.out _⟩⟩
        show (if j = k then _ else if j < k then _ else _) = if j < k + 1 then _ else _
        by_cases ej : j = k
        · rw [if_pos ej, if_pos (by omega), ej, HCK.out]
        · rw [if_neg ej]
          by_cases h5 : j < k
          · rw [if_pos h5, if_pos (by omega)]
          · rw [if_neg h5, if_neg (by omega)]
      case measure => simp [intOf]; omega
    · have hk2 := Lib.hid (show k = n by omega)
      have HCS := Lib.hid (show (∀ j, j < n → wr.cell? ⟨g, o + j, none⟩ = some (C j)) ∧ (0 < n → g < wr.heap.size) from ⟨fun j hj => by
        obtain ⟨b', o', e', hb', hc'⟩ := HX.out.1.at (by omega)
        obtain ⟨rfl, rfl⟩ : g = b' ∧ o = o' := by simpa using e'
        rw [(hc' j (by omega)).1, if_pos (by have := hk2.out; omega)], fun h0 => by
        obtain ⟨b', o', e', hb', hc'⟩ := HX.out.1.at (by omega)
        obtain ⟨rfl, rfl⟩ : g = b' ∧ o = o' := by simpa using e'
        exact World.block_lt_of_cell? wr _ (hc' 0 (by omega)).1⟩)
      have hgl : g < wr.heap.size := HCS.out.2 (by omega)
      go_wp2_with fail
      refine (HJ.out g o wr HCS.out.1 hgl).mono ?_
      rintro e w2 ⟨rfl, hb2⟩
      have HB2 := Lib.hid (HX.out.2.trans (hb2.mono HX.out.2.size))
      clear hb2
      go_wp2_with fail
      go_ret
      exact ⟨rfl, HB2.out⟩

/-- What both calls BatchText answer. -/
def bc0_ (n : Nat) (q : Bool) : Int := if 4096 < n then 2 else if q = true then 0 else 1
def bt0 (bss : List (List Bk)) (q : Bool) : ByteArray := if q = true then btB bss else ⟨#[]⟩
set_option maxRecDepth 100000 in
set_option maxHeartbeats 800000 in
theorem implBatchText (w : World) (hT : Tb w) (v : Value) (bss : List (List Bk)) (h : Ns w v bss) (q : Bool) (hq : decide (BOk bss) = q) :
    Calls Tryd.prog 16 #[v] w fun e w' => e = .returned (.tuple #[.string (bt0 bss q), .int .i64 (bc0_ bss.length q)]) ∧ Below w.heap.size w w' := by
  have HV := Lib.hid h
  have HI := Lib.hid (fun u x (hx : Ns u x bss) => hq ▸ BatB.implOk u x bss hx)
  have HTW := Lib.hid hT
  obtain ⟨vs, hh, _⟩ := h
  obtain ⟨a, cap, rfl, hn, hm⟩ := hh.form
  unfold maxLen at hm
  clear hh hT
  by_cases hl : 4096 < bss.length
  · have hq2 : q = false := by rw [← hq]; exact decide_eq_false (fun h => by have := h.1; omega)
    subst hq2
    have e : bc0_ bss.length false = 2 := by unfold bc0_; rw [if_pos hl]
    rw [e]
    clear e hq
    go_enter Tryd.func16, Tryd.ntmps16
    go_wp2_with fail
    go_ret2
    exact ⟨rfl, Below.refl _ _⟩
  cases q with
  | false =>
    have e : bc0_ bss.length false = 1 := by unfold bc0_; rw [if_neg hl]; rfl
    rw [e]
    clear e hq
    go_enter Tryd.func16, Tryd.ntmps16
    go_wp2_with fail
    refine (HI.out _ _ HV.out).mono ?_
    rintro e w1 ⟨rfl, hb⟩
    have HB := Lib.hid hb
    clear hb
    go_wp2_with fail
    go_ret2
    exact ⟨rfl, HB.out⟩
  | true =>
    have e : bc0_ bss.length true = 0 := by unfold bc0_; rw [if_neg hl]; rfl
    have hok := of_decide_eq_true hq
    have HJ := Lib.hid (fun u (hu : Tb u) x (hx : Ns u x bss) => joinTxns u hu x bss hx (by have := hok.1.1; omega) (by have := hok.1.2; omega) hok.2 ⟨#[32, 124, 32]⟩ (by decide))
    have HTB := Lib.hid (show jn (bss.map txB) ⟨#[32, 124, 32]⟩ = bt0 bss true from rfl)
    rw [HTB.out] at HJ
    rw [e]
    generalize bt0 bss true = RES at *
    clear e hq hok HTB
    go_enter Tryd.func16, Tryd.ntmps16
    go_wp2_with fail
    refine (HI.out _ _ HV.out).mono ?_
    rintro e w1 ⟨rfl, hb⟩
    have HB := Lib.hid hb
    clear hb
    go_wp2_with fail
    refine (HJ.out _ (HTW.out.below HB.out) _ (HV.out.below HB.out)).mono ?_
    rintro e w2 ⟨rfl, hb⟩
    have HB2 := Lib.hid (HB.out.trans (hb.mono HB.out.size))
    clear hb
    go_wp2_with fail
    go_ret2
    exact ⟨rfl, HB2.out⟩
set_option maxRecDepth 100000 in
set_option maxHeartbeats 800000 in
theorem specBatchText (w : World) (v : Value) (bss : List (List Bk)) (h : Ns w v bss) (q : Bool) (hq : decide (BOk bss) = q) :
    Calls Tryd.prog 14 #[v] w fun e w' => e = .returned (.tuple #[.string (bt0 bss q), .int .i64 (bc0_ bss.length q)]) ∧ Below w.heap.size w w' := by
  have HV := Lib.hid h
  have HI := Lib.hid (fun u x (hx : Ns u x bss) => hq ▸ BatS.specOk u x bss hx)
  obtain ⟨vs, hh, _⟩ := h
  obtain ⟨a, cap, rfl, hn, hm⟩ := hh.form
  unfold maxLen at hm
  clear hh
  by_cases hl : 4096 < bss.length
  · have hq2 : q = false := by rw [← hq]; exact decide_eq_false (fun h => by have := h.1; omega)
    subst hq2
    have e : bc0_ bss.length false = 2 := by unfold bc0_; rw [if_pos hl]
    rw [e]
    clear e hq
    go_enter Tryd.func14, Tryd.ntmps14
    go_wp2_with fail
    go_ret2
    exact ⟨rfl, Below.refl _ _⟩
  cases q with
  | false =>
    have e : bc0_ bss.length false = 1 := by unfold bc0_; rw [if_neg hl]; rfl
    rw [e]
    clear e hq
    go_enter Tryd.func14, Tryd.ntmps14
    go_wp2_with fail
    refine (HI.out _ _ HV.out).mono ?_
    rintro e w1 ⟨rfl, hb⟩
    have HB := Lib.hid hb
    clear hb
    go_wp2_with fail
    go_ret2
    exact ⟨rfl, HB.out⟩
  | true =>
    have e : bc0_ bss.length true = 0 := by unfold bc0_; rw [if_neg hl]; rfl
    have hok := of_decide_eq_true hq
    have HJ := Lib.hid (fun u x (hx : Ns u x bss) => l09Text u x bss hx hok)
    have HTB := Lib.hid (show btB bss = bt0 bss true from rfl)
    rw [HTB.out] at HJ
    rw [e]
    generalize bt0 bss true = RES at *
    clear e hq hok HTB
    go_enter Tryd.func14, Tryd.ntmps14
    go_wp2_with fail
    refine (HI.out _ _ HV.out).mono ?_
    rintro e w1 ⟨rfl, hb⟩
    have HB := Lib.hid hb
    clear hb
    go_wp2_with fail
    refine (HJ.out _ _ (HV.out.below HB.out)).mono ?_
    rintro e w2 ⟨rfl, hb⟩
    have HB2 := Lib.hid (HB.out.trans (hb.mono HB.out.size))
    clear hb
    go_wp2_with fail
    go_ret2
    exact ⟨rfl, HB2.out⟩
end Go.Proofs.YtidbkamadclchaaDoor.BatchI
