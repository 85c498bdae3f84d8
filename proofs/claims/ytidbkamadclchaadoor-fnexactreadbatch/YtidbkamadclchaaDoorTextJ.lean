/-
  What is proved: the model's joined lists, batch texts and its SameBatch are the plain ones (contracts for the walks).
-/
import Derived.Test.YtidbkamadclchaaDoorRows
import Derived.Test.YtidbkamadclchaaDoorTextM
import Derived.Test.YtidbkamadclchaaDoorBatS
import Derived.Test.YtidbkamadclchaaDoorLawS
namespace Go.Proofs.YtidbkamadclchaaDoor.TextJ
open Go.ChangeShapes Go.WideShapes Go.ChangeAt Go.RowKit
open Sl (Sl Own Off)
open OpenSl (tc)
open Dev Orm Box3 OpB BatB Txt TxtB Dig TextM
set_option linter.unusedVariables false

/-- Texts joined, as they come. -/
def J (ts : List ByteArray) (sep : ByteArray) : Nat → ByteArray
  | 0 => ⟨#[]⟩
  | k + 1 => (if 0 < k then J ts sep k ++ sep else J ts sep k) ++ ts.getD k ByteArray.empty
def jn (ts : List ByteArray) (sep : ByteArray) : ByteArray := ⟨(Lib.join (ts.map (·.data.toList)) sep.data.toList).toArray⟩
theorem join_snoc (sep : B) : ∀ (xs : List B) (y : B), xs ≠ [] → Lib.join (xs ++ [y]) sep = Lib.join xs sep ++ sep ++ y
  | [], _, h => absurd rfl h
  | [x], y, _ => by
    show Lib.join (x :: y :: []) sep = _
    rw [join_cons2, Lib.join_one, Lib.join_one]
  | x :: z :: r, y, _ => by
    show Lib.join (x :: z :: (r ++ [y])) sep = _
    rw [join_cons2, join_cons2]
    have := join_snoc sep (z :: r) y (by simp)
    rw [show z :: (r ++ [y]) = (z :: r) ++ [y] from rfl, this]
    simp
theorem J_take (ts : List ByteArray) (sep : ByteArray) : ∀ k, k ≤ ts.length → J ts sep k = jn (ts.take k) sep
  | 0, _ => rfl
  | k + 1, h => by
    have ih := J_take ts sep k (by omega)
    have e : (ts.take (k + 1)).map (·.data.toList) = (ts.take k).map (·.data.toList) ++ [(ts.getD k ByteArray.empty).data.toList] := by
      rw [List.take_add_one, List.getElem?_eq_getElem (by omega), List.getD_eq_getElem?_getD, List.getElem?_eq_getElem (by omega), List.map_append]
      rfl
    unfold J jn
    rw [e, ih]
    by_cases h0 : 0 < k
    · rw [if_pos h0, join_snoc _ _ _ (by
        intro e0
        have := congrArg List.length e0
        rw [List.length_map, List.length_take, List.length_nil] at this
        omega)]
      apply ByteArray.ext
      rw [ByteArray.data_append, ByteArray.data_append]
      show (Lib.join _ _).toArray ++ sep.data ++ _ = _
      simp
    · obtain rfl : k = 0 := by omega
      rw [if_neg h0]
      show (⟨#[]⟩ : ByteArray) ++ _ = _
      apply ByteArray.ext
      rw [ByteArray.data_append]
      show #[] ++ _ = (Lib.join [_] _).toArray
      rw [Lib.join_one]
      simp
theorem J_all (ts : List ByteArray) (sep : ByteArray) : J ts sep ts.length = jn ts sep := by rw [J_take ts sep _ (Nat.le_refl _), List.take_length]
theorem J_size (ts : List ByteArray) (sep : ByteArray) (M : Nat) (hs : ∀ t ∈ ts, t.size ≤ M) (hp : sep.size ≤ 8) : ∀ k, k ≤ ts.length → (J ts sep k).size ≤ k * (M + 8)
  | 0, _ => by show (0 : Nat) ≤ _; omega
  | k + 1, h => by
    have ih := J_size ts sep M hs hp k (by omega)
    have hm := hs _ (getD_mem ts ByteArray.empty k (by omega))
    unfold J
    rw [ByteArray.size_append, Nat.succ_mul k (M + 8)]
    split
    · rw [ByteArray.size_append]; omega
    · omega
set_option maxRecDepth 100000 in
set_option maxHeartbeats 800000 in
theorem l00Join (w : World) (v : Value) (ts : List ByteArray) (sep : ByteArray) (hn : ts.length ≤ 16) (hs : ∀ t ∈ ts, t.size ≤ 65536) (hp : sep.size ≤ 8) (h : Sl w 1 v ts.length (tc ts)) :
    Calls Tryd.prog 56 #[v, .string sep] w fun e w' => e = .returned (.string (jn ts sep)) ∧ w' = w := by
  have HA := Lib.hid (J_all ts sep)
  have HZ := Lib.hid (fun k (hk : k ≤ ts.length) => show (J ts sep k).size ≤ 16 * 65544 from Nat.le_trans (J_size ts sep 65536 hs hp k hk) (Nat.mul_le_mul_right _ (by omega)))
  have HX := Lib.hid (fun k (hk : k < ts.length) => hs _ (getD_mem ts ByteArray.empty k hk))
  have HJ0 := Lib.hid (show J ts sep 0 = ⟨#[]⟩ from rfl)
  have HJ := Lib.hid (show ∀ k, J ts sep (k + 1) = (if 0 < k then J ts sep k ++ sep else J ts sep k) ++ ts.getD k ByteArray.empty from fun k => rfl)
  rw [← HA.out]
  generalize J ts sep = F at *
  obtain ⟨a, cap, rfl, h1, h2, h3⟩ := h
  have H3 := Lib.hid h3
  unfold maxLen at h2
  clear h3 hs HA
  generalize ts.length = n at *
  go_enter Tryd.func56, Tryd.ntmps56
  go_wp2
  go_loopw [5, 6] (fun o i wz => ∃ (k : Nat) (acc : ByteArray), k ≤ n ∧ w = wz ∧ i = .int .i64 k ∧ o = .string acc ∧ Hid (acc = F k)) (fun _ i _ => n - (intOf i).toNat)
  case atStart => exact ⟨0, _, by omega, rfl, rfl, rfl, Lib.hid HJ0.out.symm⟩
  case round =>
    obtain ⟨k, acc, hk, rfl, rfl, rfl, HE⟩ := hrel
    have hz : acc.size ≤ 1048704 := by rw [HE.out]; exact HZ.out k hk
    by_cases hlt : k < n
    · obtain ⟨b, o, rfl, hc⟩ := H3.out (by omega)
      have c0 := hc k (by omega)
      unfold tc at c0
      have hx := HX.out k hlt
      have HJK := Lib.hid (HJ.out k)
      clear hc
      generalize ts.getD k ByteArray.empty = x at *
      have s1 : ¬ 9223372036854775807 < acc.size + sep.size := by omega
      have s2 : ¬ 9223372036854775807 < acc.size + sep.size + x.size := by omega
      have s3 : ¬ 9223372036854775807 < acc.size + x.size := by omega
      by_cases h0 : 0 < k
      · have HF := Lib.hid (show acc ++ sep ++ x = F (k + 1) by rw [HJK.out, if_pos h0, HE.out])
        go_wp2
        go_roundw
        case rel => exact ⟨k + 1, _, by omega, by trivial, by go_num, rfl, Lib.hid HF.out⟩
        case measure => simp [intOf]; omega
      · have HF := Lib.hid (show acc ++ x = F (k + 1) by rw [HJK.out, if_neg h0, HE.out])
        go_wp2
        go_roundw
        case rel => exact ⟨k + 1, _, by omega, by trivial, by go_num, rfl, Lib.hid HF.out⟩
        case measure => simp [intOf]; omega
    · have HF := Lib.hid (show acc = F n by rw [HE.out]; congr 1; omega)
      go_wp2
      go_ret
      exact ⟨by rw [← HF.out]; rfl, rfl⟩

/-- A transaction's text, a batch's, as texts. -/
def txB (xs : List Bk) : ByteArray := jn (xs.map opB) ⟨#[59, 32]⟩
def btB (bss : List (List Bk)) : ByteArray := jn (bss.map txB) ⟨#[32, 124, 32]⟩
theorem txB_data (xs : List Bk) : (txB xs).data.toList = txnT xs := by
  show (Lib.join ((xs.map opB).map (·.data.toList)) [59, 32]).toArray.toList = _
  rw [List.map_map]
  rfl
theorem btB_data (bss : List (List Bk)) : (btB bss).data.toList = batT bss := by
  show (Lib.join ((bss.map txB).map (·.data.toList)) [32, 124, 32]).toArray.toList = _
  rw [List.map_map, show ((fun x : ByteArray => x.data.toList) ∘ txB) = txnT from funext txB_data]
  rfl
theorem txB_size {xs : List Bk} (h : TOk xs) : (txB xs).size ≤ 4 * 51 := by
  have hl : (xs.map opB).length = xs.length := List.length_map _
  have := J_size (xs.map opB) ⟨#[59, 32]⟩ 43 (fun t ht => by
    obtain ⟨x, hx, rfl⟩ := List.mem_map.1 ht
    exact opB_size (h.2 x hx)) (by decide) _ (Nat.le_refl _)
  rw [J_all, hl] at this
  have := h.1.2
  exact Nat.le_trans ‹_› (Nat.mul_le_mul_right _ this)
theorem map_getD {α β : Type} (f : α → β) (xs : List α) (d : α) (e : β) (k : Nat) (h : k < xs.length) : (xs.map f).getD k e = f (xs.getD k d) := by
  rw [List.getD_eq_getElem?_getD, List.getD_eq_getElem?_getD, List.getElem?_map, List.getElem?_eq_getElem h]
  rfl
theorem cl_succ (c : Nat → Value) (k : Nat) : Cop.cl c (k + 1) = Cop.cl c k ++ [c k] := by simp [Cop.cl, List.range_succ]
set_option maxRecDepth 100000 in
set_option maxHeartbeats 3200000 in
theorem l09Text (w : World) (v : Value) (bss : List (List Bk)) (h : Ns w v bss) (hok : BOk bss) :
    Calls Tryd.prog 30 #[v] w fun e w' => e = .returned (.string (btB bss)) ∧ Below w.heap.size w w' := by
  obtain ⟨i0, hi0, hz0, hz1, hz2⟩ := info_parts LawS.info9
  obtain ⟨vs, ⟨a, cap, rfl, h1, h2, h3⟩, hin⟩ := h
  have H3 := Lib.hid h3
  have HI := Lib.hid hin
  unfold maxLen at h2
  have hn2 : bss.length ≤ 2 := hok.1.2
  have HT := Lib.hid (fun k (hk : k < bss.length) => hok.2 _ (getD_mem bss [] k hk))
  have HC := Lib.hid (show ∀ k, k < bss.length → tc (bss.map txB) k = .string (txB (bss.getD k [])) from fun k hk => by unfold tc; rw [map_getD txB bss [] _ k hk])
  have HJ := Lib.hid (fun (u : World) (x : Value) (hx : Sl u 1 x bss.length (tc (bss.map txB))) => l00Join u x (bss.map txB) ⟨#[32, 124, 32]⟩ (by rw [List.length_map]; omega) (fun t ht => by
    obtain ⟨xs, hm, rfl⟩ := List.mem_map.1 ht
    have := txB_size (hok.2 xs hm); omega) (by decide) (by rw [List.length_map]; exact hx))
  have HBT := Lib.hid (show jn (bss.map txB) ⟨#[32, 124, 32]⟩ = btB bss from rfl)
  rw [HBT.out] at HJ
  clear h3 hin hok HBT
  generalize tc (bss.map txB) = C at *
  generalize btB bss = RES at *
  have HSN := Lib.hid (cl_succ C)
  have HZ := Lib.hid (show Cop.cl C 0 = [] from rfl)
  have HOWN := Lib.hid (fun (u : World) (v : Value) (k : Nat) (h : u.ownsRow w.heap.size 9 1 v k (Cop.cl C k)) => (Cop.row_own (c := C) (by rw [Nat.mul_one]; exact h) : Own u w.heap.size 1 v k C))
  generalize Cop.cl C = CL at *
  generalize bss.length = n at *
  go_enter Tryd.func30, Tryd.ntmps30
  go_wp2
  go_loopw [3, 4] (fun v i wz => ∃ (k : Nat) (wr : World), wr = wz ∧ k ≤ n ∧ i = .int .i64 k ∧ Hid (wr.ownsRow w.heap.size 9 1 v k (CL k)) ∧ Hid (Below w.heap.size w wr)) (fun _ i _ => n - (intOf i).toNat)
  case atStart => exact ⟨0, _, rfl, by omega, rfl, Lib.hid (by rw [HZ.out]; exact World.ownsRow_made w #[] 0 (Nat.le_refl _) (by unfold maxLen; omega) rfl), Lib.hid ((Below.refl _ _).alloc (Nat.le_refl _) _)⟩
  case round =>
    obtain ⟨k, wr, rfl, hk, rfl, R, HB⟩ := hrel
    by_cases hlt : k < n
    · obtain ⟨b, o, rfl, hc⟩ := H3.out (by omega)
      have c0 := hc k (by omega)
      rw [← HB.out.cell (World.block_lt_of_cell? w _ c0)] at c0
      have HC0 := Lib.hid c0
      have HV := Lib.hid ((HI.out k hlt).below HB.out)
      have HTK := Lib.hid (HT.out k hlt)
      have HCK := Lib.hid (HC.out k hlt)
      have HCS := Lib.hid (HSN.out k)
      clear hc
      generalize bss.getD k [] = xs at *
      obtain ⟨a5, cap5, e5, _, hcap5⟩ := HV.out.form
      rw [e5] at c0 HC0 HV
      unfold maxLen at hcap5
      have hm4 : xs.length ≤ 4 := HTK.out.1.2
      have HD := Lib.hid (show ∀ j, j < xs.length → tc (xs.map opB) j = .string (opB (xs.getD j (0, 0, 0))) from fun j hj => by unfold tc; rw [map_getD opB xs (0, 0, 0) _ j hj])
      have HX := Lib.hid (fun j (hj : j < xs.length) => HTK.out.2 _ (getD_mem xs (0, 0, 0) j hj))
      have HJ2 := Lib.hid (fun (u : World) (x : Value) (hx : Sl u 1 x xs.length (tc (xs.map opB))) => l00Join u x (xs.map opB) ⟨#[59, 32]⟩ (by rw [List.length_map]; omega) (fun t ht => by
        obtain ⟨x, hm, rfl⟩ := List.mem_map.1 ht
        have := opB_size (HTK.out.2 x hm); omega) (by decide) (by rw [List.length_map]; exact hx))
      have HTB := Lib.hid (show jn (xs.map opB) ⟨#[59, 32]⟩ = txB xs from rfl)
      rw [HTB.out] at HJ2
      generalize tc (xs.map opB) = D at *
      generalize txB xs = TX at *
      have HSD := Lib.hid (cl_succ D)
      have HZD := Lib.hid (show Cop.cl D 0 = [] from rfl)
      have HOD := Lib.hid (fun (u : World) (v : Value) (k : Nat) (h : u.ownsRow wr.heap.size 9 1 v k (Cop.cl D k)) => (Cop.row_own (c := D) (by rw [Nat.mul_one]; exact h) : Own u wr.heap.size 1 v k D))
      generalize Cop.cl D = DL at *
      generalize xs.length = m at *
      clear e5 HTB
      have hwz := HB.out.size
      go_wp2
      clear c0
      go_loopw [5, 6] (fun v i wz => ∃ (l : Nat) (u : World), u = wz ∧ l ≤ m ∧ i = .int .i64 l ∧ Hid (u.ownsRow wr.heap.size 9 1 v l (DL l)) ∧ Hid (Below wr.heap.size wr u)) (fun _ i _ => m - (intOf i).toNat)
      case atStart => exact ⟨0, _, rfl, by omega, rfl, Lib.hid (by rw [HZD.out]; exact World.ownsRow_made wr #[] 0 (Nat.le_refl _) (by unfold maxLen; omega) rfl), Lib.hid ((Below.refl _ _).alloc (Nat.le_refl _) _)⟩
      case round =>
        obtain ⟨l, u, rfl, hl, rfl, R2, HB2⟩ := hrel
        have c0 := (HB2.out.cell (World.block_lt_of_cell? wr _ HC0.out)).trans HC0.out
        by_cases hlt2 : l < m
        · obtain ⟨b2, o2, rfl, hc⟩ := HV.out.at (by omega)
          have d0 := hc (l * 3) (by omega)
          have d1 := hc (l * 3 + 1) (by omega)
          have d2 := hc (l * 3 + 2) (by omega)
          rw [← HB2.out.cell (World.block_lt_of_cell? wr _ d0), bc0] at d0
          rw [← HB2.out.cell (World.block_lt_of_cell? wr _ d1), bc1, ← Nat.add_assoc] at d1
          rw [← HB2.out.cell (World.block_lt_of_cell? wr _ d2), bc2, ← Nat.add_assoc] at d2
          have HDL := Lib.hid (HD.out l hlt2)
          have HXL := Lib.hid (HX.out l hlt2)
          have HSL := Lib.hid (show DL (l + 1) = DL l ++ [D l] from HSD.out l)
          rw [HDL.out] at HSL
          clear hc
          generalize xs.getD l (0, 0, 0) = y at *
          obtain ⟨y0, y1, y2⟩ := y
          simp only at d0 d1 d2
          generalize DL l = cs at *
          go_wp2_with fail
          refine (l09Op u y0 y1 y2 HXL.out).mono ?_
          rintro e w1 ⟨rfl, hb1⟩
          generalize opB (y0, y1, y2) = x at *
          have HB3 := Lib.hid (HB2.out.trans (hb1.mono HB2.out.size))
          have R3 := Lib.hid (Cop.row_below R2.out hb1)
          have hz1' := Lib.hid HB3.out.size
          clear hb1 HB2 R2 c0 d0 d1 d2
          go_wp2_with (at_builtin; refine wpList_append_lies _ rfl _ _ _ rfl wr.heap.size 9 i0 _ 1 16 Tryd.underlying66 hi0 hz0 hz1 hz2 rfl (by omega) _ l cs (by rfl) (World.ownsRow.alloc R3.out _) ⟨w1.heap.size, 0, none⟩ 1 1 [.string x] (by rfl) (by rfl) (World.news_of_block (cs := #[.string x]) (t := 9) (fr := (0, 0)) (heap_alloc_new w1 _)) (by simp [Value.oneCell']) (by omega) (by unfold maxLen; omega) (by omega) (by have := hz1'.out; simp; omega) (w1.heap.size + 1) (by simp) ?_; intro gg cap w2 hown1 hgrow hat hlt1; have HO := Lib.hid hown1; have HG := Lib.hid hgrow; clear hown1 hgrow hat hlt1)
          go_roundw
          case rel => exact ⟨l + 1, _, rfl, by omega, by go_num, Lib.hid (by rw [HSL.out]; exact HO.out), Lib.hid ((HB3.out.trans ((Below.refl _ _).alloc HB3.out.size _)).grown HG.out (by have := hz1'.out; simp; omega) (fun k hk => (World.ownsRow.lt R3.out k hk).1))⟩
          case measure => simp [intOf]; omega
        · have HO := Lib.hid (show Own u wr.heap.size 1 _ m D from (show l = m by omega) ▸ HOD.out _ _ _ R2.out)
          obtain ⟨a6, cap6, e6, _, _⟩ := HO.out.sl.form
          have HRW := Lib.hid (Cop.row_below R.out HB2.out)
          have HB3 := Lib.hid (HB.out.trans (HB2.out.mono HB.out.size))
          rw [e6] at HO
          subst e6
          have HSK := Lib.hid (show CL (k + 1) = CL k ++ [.string TX] by rw [HCS.out, HCK.out])
          have hz1' := Lib.hid HB3.out.size
          generalize CL k = cs at *
          clear R R2 HB2
          go_wp2_with fail
          refine (HJ2.out _ _ HO.out.sl).mono ?_
          rintro e w1 ⟨rfl, rfl⟩
          go_wp2_with (at_builtin; refine wpList_append_lies _ rfl _ _ _ rfl w.heap.size 9 i0 _ 1 16 Tryd.underlying66 hi0 hz0 hz1 hz2 rfl (by omega) _ k cs (by rfl) (World.ownsRow.alloc HRW.out _) ⟨w1.heap.size, 0, none⟩ 1 1 [.string TX] (by rfl) (by rfl) (World.news_of_block (cs := #[.string TX]) (t := 9) (fr := (0, 0)) (heap_alloc_new w1 _)) (by simp [Value.oneCell']) (by omega) (by unfold maxLen; omega) (by omega) (by have := hz1'.out; simp; omega) (w1.heap.size + 1) (by simp) ?_; intro gg cap w2 hown1 hgrow hat hlt1; have HO9 := Lib.hid hown1; have HG := Lib.hid hgrow; clear hown1 hgrow hat hlt1)
          go_roundw
          case rel => exact ⟨k + 1, _, rfl, by omega, by go_num, Lib.hid (by rw [HSK.out]; exact HO9.out), Lib.hid ((HB3.out.trans ((Below.refl _ _).alloc HB3.out.size _)).grown HG.out (by have := hz1'.out; simp; omega) (fun k hk => (World.ownsRow.lt HRW.out k hk).1))⟩
          case measure => simp [intOf]; omega
    · have HO := Lib.hid (show Own wr w.heap.size 1 _ n C from (show k = n by omega) ▸ HOWN.out _ _ _ R.out)
      obtain ⟨a6, cap6, e6, _, _⟩ := HO.out.sl.form
      rw [e6] at HO
      subst e6
      clear R
      go_wp2_with fail
      refine (HJ.out _ _ HO.out.sl).mono ?_
      rintro e w1 ⟨rfl, rfl⟩
      go_wp2_with fail
      go_ret
      exact ⟨rfl, HB.out⟩
theorem btB_inj {a b : List (List Bk)} (ha : BOk a) (hb : BOk b) : ((btB a).toList == (btB b).toList) = decide (a = b) := by
  rw [ByteArray.toList_eq, ByteArray.toList_eq, btB_data, btB_data]
  by_cases h : a = b
  · rw [h]; simp
  · rw [decide_eq_false h]
    exact beq_eq_false_iff_ne.2 (fun e => h (bat_inj ha hb e))

end Go.Proofs.YtidbkamadclchaaDoor.TextJ
