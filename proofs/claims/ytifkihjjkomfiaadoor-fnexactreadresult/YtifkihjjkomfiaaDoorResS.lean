/-
  What is proved: the model's test of a result, and its text, are the plain ones (contracts for the walks).
-/
import Derived.Test.YtifkihjjkomfiaaDoorRows
import Derived.Test.YtifkihjjkomfiaaDoorResP
import Derived.Test.YtifkihjjkomfiaaDoorLawR
namespace Go.Proofs.YtifkihjjkomfiaaDoor.ResS
open Go.ChangeShapes Go.WideShapes Go.ChangeAt Go.RowKit
open Sl (Sl Own Off)
open OpenSl (nc)
open Dev Box2 LawR ResP Dig
open CodesR (wordOf)
set_option linter.unusedVariables false

theorem l01In (z a b : Int) (w : World) : Calls Tryd.prog 27 #[.int .i64 z, .int .i64 a, .int .i64 b] w fun e w' => e = .returned (.bool (decide (a ≤ z ∧ z ≤ b))) ∧ w' = w := by
  go_enter Tryd.func27, Tryd.ntmps27
  go_wp2
  all_goals (go_ret; exact ⟨by congr 2; simp; try omega, rfl⟩)
set_option maxRecDepth 100000 in
set_option maxHeartbeats 1600000 in
theorem specOk (w : World) (v : Value) (c : Int) (vs : List Int) (h : Rr w v c vs) (q : Bool) (hq : decide (ROk c vs) = q) :
    Calls Tryd.prog 15 #[v] w fun e w' => e = .returned (.bool q) ∧ Below w.heap.size w w' := by
  obtain ⟨s, rfl, h1⟩ := h
  obtain ⟨U, e1, hb, hz, X⟩ := box2 w 28 (.int .i64 c) s
  obtain ⟨G, eG⟩ : ∃ G, w.heap.size = G := ⟨_, rfl⟩
  have HB := Lib.hid hb
  have HS := Lib.hid (h1.below hb)
  obtain ⟨a, cap, rfl, _, hm, h3⟩ := h1
  unfold maxLen at hm
  rw [eG] at X
  obtain ⟨c0, c1, _, _⟩ := X
  have HNO := Lib.hid (show ¬ ROk c vs → q = false from fun hn => by rw [← hq]; exact decide_eq_false hn)
  have HYES := Lib.hid (show ROk c vs → q = true from fun hn => by rw [← hq]; exact decide_eq_true hn)
  have HL := Lib.hid (fun u => l01In c 0 19 u)
  have HI := Lib.hid (rok_iff c vs)
  have HGD := Lib.hid (fun k (hk : k < vs.length) => ResP.getD_in vs k hk)
  have HTN := Lib.hid (fun k (hk : k < vs.length) => ResP.take_next vs k hk)
  have HTL := Lib.hid (List.take_length (l := vs))
  clear hb hz h3 hq
  by_cases g1 : 0 ≤ c ∧ c ≤ 19
  case neg =>
    obtain rfl := HNO.out (fun h => g1 h.1)
    rw [decide_eq_false g1] at HL
    clear g1
    generalize vs.length = n at *
    go_enter Tryd.func15, Tryd.ntmps15
    go_wp2_with (go_at_call 27; refine (HL.out _).mono ?_; rintro e u ⟨rfl, hu⟩; replace hu := hu.symm; subst hu)
    go_ret
    first | exact ⟨rfl, HB.out⟩ | exact ⟨rfl, by rw [← eG]; exact HB.out⟩
  rw [decide_eq_true g1] at HL
  by_cases g2 : 32 < vs.length
  · obtain rfl := HNO.out (fun h => by have := h.2.1; omega)
    clear g1
    generalize vs.length = n at *
    go_enter Tryd.func15, Tryd.ntmps15
    go_wp2_with (go_at_call 27; refine (HL.out _).mono ?_; rintro e u ⟨rfl, hu⟩; replace hu := hu.symm; subst hu)
    go_ret
    first | exact ⟨rfl, HB.out⟩ | exact ⟨rfl, by rw [← eG]; exact HB.out⟩
  by_cases g3 : c ≠ 0 ∧ 0 < vs.length
  · obtain rfl := HNO.out (fun h => by have := (HI.out.1 h).2.2.1; omega)
    obtain ⟨g3, g4⟩ := g3
    have b1 : (c != 0) = true := bne_iff_ne.2 g3
    have b2 : decide (c ≠ 0) = true := decide_eq_true g3
    clear g1 g3
    generalize vs.length = n at *
    go_enter Tryd.func15, Tryd.ntmps15
    go_wp2_with (go_at_call 27; refine (HL.out _).mono ?_; rintro e u ⟨rfl, hu⟩; replace hu := hu.symm; subst hu)
    go_ret
    first | exact ⟨rfl, HB.out⟩ | exact ⟨rfl, by rw [← eG]; exact HB.out⟩
  have HG := Lib.hid (show (0 ≤ c ∧ c ≤ 19) ∧ vs.length ≤ 32 ∧ (c = 0 ∨ vs.length = 0) by omega)
  have HNV := Lib.hid (fun k (hk : k < vs.length) (hn : ¬ Vk (vs.getD k 0)) => HNO.out (fun h => hn (h.2.2.2 _ (HGD.out k hk))))
  have HLV := Lib.hid (fun z u => l01In z 0 999999 u)
  obtain ⟨n, en⟩ : ∃ n, vs.length = n := ⟨_, rfl⟩
  have HEN := Lib.hid en
  rw [en] at HG HS HNV HTN HTL g2 g3 c1 e1 ⊢
  have hcase : (c = 0) ∨ (c ≠ 0 ∧ n = 0) := by omega
  clear en g1
  rcases hcase with rfl | ⟨hc0, rfl⟩
  · clear g3
    go_enter Tryd.func15, Tryd.ntmps15
    go_wp2_with (go_at_call 27; refine (HL.out _).mono ?_; rintro e u ⟨rfl, hu⟩; replace hu := hu.symm; subst hu)
    clear e1 eG
    go_loopw [3] (fun i wz => ∃ k : Nat, U = wz ∧ k ≤ n ∧ i = .int .i64 k ∧ Hid (∀ x ∈ vs.take k, Vk x)) (fun i _ => n - (Go.RowKit.intOf i).toNat)
    case atStart => exact ⟨0, by first | rfl | trivial, by omega, by first | rfl | trivial, Lib.hid (by simp)⟩
    case round =>
      obtain ⟨k, rfl, hk, rfl, HJ⟩ := hrel
      by_cases hlt : k < n
      · obtain ⟨b, o, hsa, hc⟩ := HS.out.at (by omega)
        obtain rfl : a = some ⟨b, o, none⟩ := by simpa using hsa
        have d0 := hc k (by omega)
        unfold nc at d0
        have HN := Lib.hid (HNV.out k hlt)
        have HT := Lib.hid (show Vk (vs.getD k 0) → ∀ x ∈ vs.take (k + 1), Vk x from fun hy x hx => by
          rw [HTN.out k hlt] at hx
          rcases List.mem_append.1 hx with h | h
          · exact HJ.out x h
          · rw [List.mem_singleton.1 h]; exact hy)
        have HLV2 := Lib.hid (HLV.out (vs.getD k 0))
        clear hc hsa
        generalize vs.getD k 0 = y at *
        by_cases hy : 0 ≤ y ∧ y ≤ 999999
        · rw [decide_eq_true hy] at HLV2
          have HE := Lib.hid (HT.out hy)
          clear hy
          go_wp2_with (go_at_call 27; refine (HLV2.out _).mono ?_; rintro e u ⟨rfl, hu⟩; replace hu := hu.symm; subst hu)
          go_roundw
          case rel => exact ⟨k + 1, by first | rfl | trivial, by omega, by go_num, HE⟩
          case measure => simp [Go.RowKit.intOf]; omega
        · rw [decide_eq_false hy] at HLV2
          obtain rfl := HN.out hy
          clear hy
          go_wp2_with (go_at_call 27; refine (HLV2.out _).mono ?_; rintro e u ⟨rfl, hu⟩; replace hu := hu.symm; subst hu)
          go_ret
          first | exact ⟨rfl, HB.out⟩ | exact ⟨rfl, by rw [← eG]; exact HB.out⟩
      · have hk2 := Lib.hid (show k = n by omega)
        obtain rfl := HYES.out ((rok_iff _ _).2 ⟨HG.out.1, by rw [HEN.out]; exact HG.out.2.1, .inl rfl, by have := HJ.out; rwa [hk2.out, HTL.out] at this⟩)
        go_wp2
        go_ret
        first | exact ⟨rfl, HB.out⟩ | exact ⟨rfl, by rw [← eG]; exact HB.out⟩
  · obtain rfl := HYES.out ((rok_iff _ _).2 ⟨HG.out.1, by rw [HEN.out]; exact HG.out.2.1, .inr HEN.out, fun x hx => by
      have : vs = [] := List.length_eq_zero_iff.1 HEN.out
      rw [this] at hx
      cases hx⟩)
    have b1 : (c != 0) = true := bne_iff_ne.2 hc0
    have b2 : decide (c ≠ 0) = true := decide_eq_true hc0
    clear g3 hc0
    go_enter Tryd.func15, Tryd.ntmps15
    go_wp2_with (go_at_call 27; refine (HL.out _).mono ?_; rintro e u ⟨rfl, hu⟩; replace hu := hu.symm; subst hu)
    go_loopw [3] (fun i wz => U = wz ∧ i = .int .i64 0) (fun i _ => 0)
    case atStart => exact ⟨by first | rfl | trivial, by first | rfl | trivial⟩
    case round =>
      obtain ⟨rfl, rfl⟩ := hrel
      go_wp2
      go_ret
      first | exact ⟨rfl, HB.out⟩ | exact ⟨rfl, by rw [← eG]; exact HB.out⟩

set_option maxRecDepth 100000 in
set_option maxHeartbeats 1600000 in
theorem l10Text (w : World) (v : Value) (c : Int) (vs : List Int) (h : Rr w v c vs) (hok : ROk c vs) :
    Calls Tryd.prog 16 #[v] w fun e w' => e = .returned (.string (rB c vs)) ∧ Below w.heap.size w w' := by
  obtain ⟨s, rfl, h1⟩ := h
  obtain ⟨U, e1, hb, hz, X⟩ := box2 w 28 (.int .i64 c) s
  obtain ⟨G, eG⟩ : ∃ G, w.heap.size = G := ⟨_, rfl⟩
  have HB := Lib.hid hb
  have HS := Lib.hid (h1.below hb)
  obtain ⟨a, cap, rfl, _, hm, h3⟩ := h1
  unfold maxLen at hm
  rw [eG] at X
  have HX := Lib.hid X
  obtain ⟨c0, c1, _, _⟩ := X
  have HW := Lib.hid (fun u => CodesR.word_spec c u)
  have h32 := hok.2.1
  have HV := Lib.hid (fun k (hk : k < vs.length) => hok.2.2.2 _ (ResP.getD_in vs k hk))
  have HTN := Lib.hid (fun k (hk : k < vs.length) => show rB c (vs.take (k + 1)) = rB c (vs.take k) ++ (⟨#[32]⟩ ++ ds (vs.getD k 0).toNat) by rw [ResP.take_next vs k hk, rB_snoc])
  have HSZ := Lib.hid (fun k (hk : k ≤ vs.length) => show (rB c (vs.take k)).size ≤ 700 from by
    have := rB_size c k (vs.take k) (by rw [List.length_take]; omega) (fun x hx => hok.2.2.2 x (List.mem_of_mem_take hx))
    omega)
  have HTL := Lib.hid (List.take_length (l := vs))
  have H0 := Lib.hid (show rB c (vs.take 0) = wordOf c by rw [List.take_zero, rB_nil])
  clear hb hz h3 hok
  generalize wordOf c = WD at *
  generalize vs.length = n at *
  go_enter Tryd.func16, Tryd.ntmps16
  go_wp2_with fail
  clear e1 eG
  refine (HW.out _).mono ?_
  rintro e w1 ⟨rfl, hb⟩
  have HB1 := Lib.hid hb
  clear hb c0 c1
  go_wp2
  go_loopw [3, 4] (fun t i wz => ∃ (k : Nat) (wr : World) (T : ByteArray), wr = wz ∧ k ≤ n ∧ t = .string T ∧ i = .int .i64 k ∧ Hid (T = rB c (vs.take k) ∧ Below U.heap.size U wr)) (fun t i _ => n - (Go.RowKit.intOf i).toNat)
  case atStart => exact ⟨0, _, _, rfl, by omega, rfl, rfl, Lib.hid ⟨H0.out.symm, HB1.out⟩⟩
  case round =>
    obtain ⟨k, wr, T, rfl, hk, rfl, rfl, HJ⟩ := hrel
    obtain ⟨c0, c1, _, _⟩ := HX.out.below HJ.out.2
    by_cases hlt : k < n
    · obtain ⟨b, o, hsa, hc⟩ := (HS.out.below HJ.out.2).at (by omega)
      obtain rfl : a = some ⟨b, o, none⟩ := by simpa using hsa
      have d0 := hc k (by omega)
      unfold nc at d0
      have HT := Lib.hid (HTN.out k hlt)
      have HVK := Lib.hid (HV.out k hlt)
      have hs1 : T.size ≤ 700 := by rw [HJ.out.1]; exact HSZ.out k hk
      clear hc hsa
      generalize vs.getD k 0 = y at *
      obtain ⟨m, rfl⟩ : ∃ m : Nat, y = m := ⟨y.toNat, by have := HVK.out.1; omega⟩
      have hm6 : m ≤ 999999 := by have := HVK.out.2; omega
      rw [Int.toNat_natCast] at HT
      have HD := Lib.hid (fun u => Dig.l00Digits m (by omega) u)
      have hs2 := ds_size m (by omega)
      have hs3 : ((⟨#[32]⟩ : ByteArray) ++ ds m).size ≤ 19 := by rw [ByteArray.size_append]; show 1 + _ ≤ _; omega
      have t1 : ¬ 9223372036854775807 < 1 + (ds m).size := by omega
      have t2 : ¬ 9223372036854775807 < T.size + ((⟨#[32]⟩ : ByteArray) ++ ds m).size := by omega
      generalize ds m = D at *
      go_wp2_with fail
      refine (HD.out _).mono ?_
      rintro e w2 ⟨rfl, hb⟩
      have HB2 := Lib.hid (HJ.out.2.trans (hb.mono HJ.out.2.size))
      clear hb c0 c1
      go_wp2_with fail
      go_roundw
      case rel => exact ⟨k + 1, _, _, rfl, by omega, rfl, by go_num, Lib.hid ⟨by rw [HT.out, HJ.out.1], HB2.out⟩⟩
      case measure => simp [Go.RowKit.intOf]; omega
    · have hk2 := Lib.hid (show k = n by omega)
      have HE := Lib.hid HJ.out.1
      rw [hk2.out, HTL.out] at HE
      go_wp2
      go_ret
      exact ⟨by rw [← HE.out]; rfl, HB.out.trans (HJ.out.2.mono HB.out.size)⟩
end Go.Proofs.YtifkihjjkomfiaaDoor.ResS
