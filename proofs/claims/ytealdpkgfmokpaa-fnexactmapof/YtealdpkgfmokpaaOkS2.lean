/-
  What is proved: the program's and the model's word on whether a tree is right are the plain one (contracts for the walks).
-/
import Derived.Test.YtealdpkgfmokpaaRows
import Derived.Test.YtealdpkgfmokpaaOkS
import Derived.Test.YtealdpkgfmokpaaOkV
import Derived.Test.YtealdpkgfmokpaaWyS
import Derived.Test.YtealdpkgfmokpaaExO
import Derived.Lib.LazyBuf
import Derived.OwnWalk
import Derived.Deep.RegionHeld3
import Derived.Deep.RegionWith
namespace Go.Proofs.Ytealdpkgfmokpaa.OkS2
open Go.ChangeShapes Go.WideShapes Go.ChangeAt Go.RowKit Go.Maps
open Sl (Sl Own Off)
open OpenSl (tc nc pc)
open Dev Orm Wy Box3 OkP OkI OkI2 OkV OkS
open SameO (below_drawn drewN_drewN)
open ExO (box_below)
set_option linter.unusedVariables false

set_option maxRecDepth 100000 in
theorem impl (w : World) (v : Value) (o : Om) (h : Rd w v o) (hn : o.st.length ≤ 1048576) (q : Bool) (hq : q = true ↔ Ok o) :
    Calls Try.prog 64 #[v] w fun e w' => e = .returned (.bool q) ∧ Below w.heap.size w w' := by
  have HV := Lib.hid (fun u x (hx : Rd u x o) => values u x o hx hn q hq)
  obtain ⟨p, s, b, rfl, h1, h2, h3⟩ := h
  obtain ⟨U, e1, hb, hz, X⟩ := box3 w 31 p s b
  obtain ⟨G, eG⟩ : ∃ G, w.heap.size = G := ⟨_, rfl⟩
  have HB := Lib.hid hb
  have HR := Lib.hid (show Rd U (.agg #[p, s, b]) o from ⟨p, s, b, rfl, h1.below hb, h2.below hb, h3.below hb⟩)
  rw [eG] at X
  obtain ⟨c0, c1, c2, _, _, _⟩ := X
  clear h1 h2 h3 hb hz hq
  go_enter Try.func64, Try.ntmps64
  go_wp2_with fail
  clear e1 eG
  refine (HV.out _ _ HR.out).mono ?_
  rintro e w1 ⟨hb, hf, ht⟩
  have HB1 := Lib.hid (HB.out.trans (hb.mono HB.out.size))
  clear hb
  cases q with
  | false =>
    obtain rfl := hf rfl
    clear hf ht
    go_wp2
    go_ret
    exact ⟨rfl, HB1.out⟩
  | true =>
    obtain ⟨B, n, rfl, _, _⟩ := ht rfl
    clear hf ht
    go_wp2
    go_ret
    exact ⟨rfl, HB1.out⟩

/-- The numbers of blocks as cells. -/
def iv (L : List Bk) : List Value := (ids L).map (Value.int .i64)
theorem iv_snoc (L : List Bk) (x : Bk) : iv (L ++ [x]) = iv L ++ [.int .i64 x.1] := by simp [iv, ids]
theorem ids_len (L : List Bk) : (ids L).length = L.length := by simp [ids]
theorem row_ids {w : World} {B : Nat} {v : Value} {L : List Bk} (h : w.ownsRow B 3 1 v L.length (iv L)) : Own w B 1 v (ids L).length (nc (ids L)) := by
  rw [ids_len]
  refine own_of_row h _ fun j hj => ?_
  have hj2 : j < (ids L).length := by rw [ids_len]; omega
  unfold iv nc
  rw [List.getElem?_map, List.getElem?_eq_getElem hj2, List.getD_eq_getElem?_getD, List.getElem?_eq_getElem hj2]
  rfl

set_option maxRecDepth 100000 in
set_option maxHeartbeats 3200000 in
theorem spec (w : World) (v : Value) (o : Om) (h : Rd w v o) (q : Bool) (hq : q = true ↔ Ok o) :
    Calls Try.prog 59 #[v] w fun e w' => e = .returned (.bool q) ∧ Below w.heap.size w w' := by
  have HNO := Lib.hid (show ¬ Ok o → q = false from fun hn => by cases q with | false => rfl | true => exact absurd (hq.1 rfl) hn)
  have HYES := Lib.hid hq.2
  obtain ⟨p, s, b, rfl, h1, h2, h3⟩ := h
  obtain ⟨U, e1, hb, hz, X⟩ := box3 w 31 p s b
  obtain ⟨G, eG⟩ : ∃ G, w.heap.size = G := ⟨_, rfl⟩
  have HB := Lib.hid hb
  have HBG := Lib.hid (show Below G w U from eG ▸ hb)
  have H1 := Lib.hid (h1.below hb)
  have HSU := Lib.hid (h2.below hb)
  obtain ⟨vs, hv, hi⟩ := h3
  have HVU := Lib.hid (hv.below hb)
  have HIU := Lib.hid (fun j hj => (hi j hj).below hb)
  rw [eG] at X
  have HX := Lib.hid X
  obtain ⟨c0, c1, c2, _, _, _⟩ := X
  have HGU := Lib.hid (show G < U.heap.size ∧ w.heap.size ≤ U.heap.size by omega)
  obtain ⟨pa, pp, rfl, _, m2⟩ := h1.form
  obtain ⟨sa, sp, rfl, _, es2⟩ := h2.form
  obtain ⟨ba, bp, rfl, _, eb2⟩ := hv.form
  unfold maxLen at m2 es2 eb2
  clear h1 h2 hv hi hb hz hq
  by_cases hl : o.pos.length = 12
  case neg =>
    obtain rfl := HNO.out (fun hs => hl hs.len)
    have d1 : ((o.pos.length : Int) != 12) = true := bne_iff_ne.2 (by omega)
    clear hl
    go_enter Try.func59, Try.ntmps59
    go_wp2_with fail
    go_ret
    exact ⟨rfl, by first | exact HB.out | exact HBG.out⟩
  have HL := Lib.hid hl
  have d1 : ((o.pos.length : Int) != 12) = false := by rw [hl]; rfl
  clear hl
  obtain ⟨q1, hq1⟩ := OkV.ask (∀ z ∈ o.pos, P8 z)
  have HC := Lib.hid (l08Leaves U _ o.pos H1.out q1 hq1)
  cases q1 with
  | false =>
    obtain rfl := HNO.out (fun hs => by have := hq1.2 hs.pos; cases this)
    clear hq1
    go_enter Try.func59, Try.ntmps59
    go_wp2_with fail
    refine HC.out.mono ?_
    rintro e w1 ⟨rfl, rfl⟩
    go_wp2_with fail
    go_ret
    exact ⟨rfl, by first | exact HB.out | exact HBG.out⟩
  | true =>
  have HP := Lib.hid (hq1.1 rfl)
  clear hq1
  by_cases hs : 12 < o.st.length
  · obtain rfl := HNO.out (fun hs' => by have := hs'.few; omega)
    go_enter Try.func59, Try.ntmps59
    go_wp2_with fail
    refine HC.out.mono ?_
    rintro e w1 ⟨rfl, rfl⟩
    go_wp2_with fail
    go_ret
    exact ⟨rfl, by first | exact HB.out | exact HBG.out⟩
  have ds : decide (12 < (o.st.length : Int)) = false := decide_eq_false (by omega)
  have hst : o.st.length ≤ 12 := by omega
  clear hs
  by_cases hl : o.bk.length = 15
  case neg =>
    obtain rfl := HNO.out (fun hs => hl hs.bks)
    have d2 : ((o.bk.length : Int) != 15) = true := bne_iff_ne.2 (by omega)
    clear hl
    go_enter Try.func59, Try.ntmps59
    go_wp2_with fail
    refine HC.out.mono ?_
    rintro e w1 ⟨rfl, rfl⟩
    go_wp2_with fail
    go_ret
    exact ⟨rfl, by first | exact HB.out | exact HBG.out⟩
  have HL2 := Lib.hid hl
  rw [hl] at HVU HIU HX c2 e1 ⊢
  clear hl
  obtain ⟨W, eW⟩ : ∃ W, U.alloc (.cells #[] 3) = W := ⟨_, rfl⟩
  obtain ⟨N, eN⟩ : ∃ N, U.heap.size = N := ⟨_, rfl⟩
  have hbW : Below U.heap.size U W := by rw [← eW]; exact (Below.refl _ _).alloc (Nat.le_refl _) _
  have HBW := Lib.hid hbW
  have HEN := Lib.hid eN
  have HRW := Lib.hid (show W.ownsRow N 3 1 (.slice (some ⟨N, 0, none⟩) 0 0) ([] : List Bk).length (iv []) from by rw [← eW, ← eN]; exact World.ownsRow_made (base := U.heap.size) (e := 3) (size := 1) U #[] 0 (Nat.le_refl _) (by unfold maxLen; omega) rfl)
  clear hbW
  obtain ⟨i0, hi0, hz0, hz1, hz2⟩ := info_parts LawN.info3
  go_enter Try.func59, Try.ntmps59
  go_wp2_with fail
  clear e1 eG
  refine HC.out.mono ?_
  rintro e w1 ⟨rfl, rfl⟩
  go_wp2_with fail
  clear eW eN c0 c1 c2
  generalize en : o.st.length = n at *
  have EN := Lib.hid en
  clear en ds d1
  go_loopw [3, 4] (fun v i wz => ∃ (k : Nat) (wr : World) (vseen : Value), wr = wz ∧ vseen = v ∧ k ≤ n ∧ i = .int .i64 k ∧ Hid (Below w1.heap.size w1 wr ∧ wr.ownsRow N 3 1 vseen k (iv (o.st.take k)) ∧ ∀ j, j < k → gd o.pos (o.st.take j) (o.st.getD j (0, 0, 0)))) (fun v i _ => n - (intOf i).toNat)
  case atStart => exact ⟨0, _, _, rfl, rfl, by omega, rfl, Lib.hid ⟨HBW.out, HRW.out, fun j hj => by omega⟩⟩
  case round =>
    obtain ⟨k, wr, vseen, rfl, rfl, hk, rfl, HJ⟩ := hrel
    by_cases hlt : k < n
    · have HBR := Lib.hid HJ.out.1
      have HR := Lib.hid HJ.out.2.1
      have HXR := Lib.hid (HX.out.below HBR.out)
      obtain ⟨c0, c1, c2, _, _, _⟩ := HXR.out
      obtain ⟨b5, o5, hsa, hc⟩ := (HSU.out.below HBR.out).at (by omega)
      subst hsa
      have d0 := hc (k * 3) (by omega)
      have d1 := hc (k * 3 + 1) (by omega)
      have d2 := hc (k * 3 + 2) (by omega)
      rw [bc0] at d0
      rw [bc1, ← Nat.add_assoc] at d1
      rw [bc2, ← Nat.add_assoc] at d2
      have HNX := Lib.hid (take_next o.st (0, 0, 0) k (by rw [EN.out]; exact hlt))
      obtain ⟨q', hq'⟩ := OkV.ask (gd o.pos (o.st.take k) (o.st.getD k (0, 0, 0)))
      have HQ := Lib.hid hq'
      have HN2 := Lib.hid (show q' = false → q = false from fun e => HNO.out fun hok => by
        have := hq'.2 (hok.stash k (by rw [EN.out]; exact hlt))
        rw [e] at this
        cases this)
      have HAA := Lib.hid (show q' = true → ∀ j, j < k + 1 → gd o.pos (o.st.take j) (o.st.getD j (0, 0, 0)) from fun e j hj => by
        by_cases ej : j = k
        · rw [ej]; exact hq'.1 e
        · exact HJ.out.2.2 j (by omega))
      have HLEN := Lib.hid (show (o.st.take k).length = k by rw [List.length_take, EN.out]; omega)
      clear hc hq' HJ
      generalize o.st.getD k (0, 0, 0) = y at *
      obtain ⟨y0, y1, y2⟩ := y
      simp only at d0 d1 d2
      have HLB := Lib.hid (fun m => l08Block (wr.drewN m) (.slice pa o.pos.length pp) (.slice (some ⟨b5, o5, none⟩) n sp) (.slice ba 15 bp) vseen o.pos ((H1.out.below HBR.out).below (below_drawn _ _)) HL.out (o.st.take k) ((row_ids (by rw [HLEN.out]; exact HR.out)).sl.below (below_drawn _ _)) y0 y1 y2 q' HQ.out)
      have HSIX := Lib.hid (fun u (hb : Below wr.heap.size wr u) => And.intro (box_below hb c0 c1 c2) (And.intro ((hb.cell (World.block_lt_of_cell? wr _ d0)).trans d0) (And.intro ((hb.cell (World.block_lt_of_cell? wr _ d1)).trans d1) ((hb.cell (World.block_lt_of_cell? wr _ d2)).trans d2))))
      go_wp2_with fail
      go_region_held3 (fun w' => w'.cell? ⟨G, 0, none⟩ = some (.slice pa o.pos.length pp) ∧ w'.cell? ⟨G, 1, none⟩ = some (.slice (some ⟨b5, o5, none⟩) n sp) ∧ w'.cell? ⟨G, 2, none⟩ = some (.slice ba 15 bp) ∧ w'.cell? ⟨b5, o5 + k * 3, none⟩ = some (.int .i64 y0) ∧ w'.cell? ⟨b5, o5 + k * 3 + 1, none⟩ = some (.int .i64 y1) ∧ w'.cell? ⟨b5, o5 + k * 3 + 2, none⟩ = some (.int .i64 y2))
        (first | exact ⟨c0, c1, c2, d0, d1, d2⟩ | exact ⟨e0, e1, e2, e3, e4, e5⟩)
        ((go_at_call 104; refine (HLB.out _).mono ?_; rintro e y9 ⟨rfl, hb⟩; have HEY : Hid (Below wr.heap.size wr y9) := Lib.hid ⟨hb.os, hb.tape, hb.output, hb.size, hb.block⟩; obtain ⟨⟨e0, e1, e2⟩, e3, e4, e5⟩ := HSIX.out y9 HEY.out; clear hb))
      have HBY := Lib.hid (HBR.out.trans (HEY.out.mono HBR.out.size))
      have HRY := Lib.hid (Cop.row_below HR.out HEY.out)
      have HF := Lib.hid (HB.out.trans (HBY.out.mono HGU.out.2))
      cases q' with
      | false =>
        obtain rfl := HN2.out rfl
        go_wp2
        go_ret
        exact ⟨rfl, HF.out⟩
      | true =>
        have HSZ := Lib.hid (show N ≤ y9.heap.size by rw [← HEN.out]; exact HBY.out.size)
        clear c0 c1 c2 d0 d1 d2
        go_wp2_with (at_builtin; refine wpList_append_lies _ rfl _ _ _ rfl N 3 i0 _ 1 8 Try.underlying22 hi0 hz0 hz1 hz2 rfl (by omega) _ k (iv (o.st.take k)) (by rfl) (World.ownsRow.alloc HRY.out _) ⟨y9.heap.size, 0, none⟩ 1 1 [.int .i64 y0] (by rfl) (by rfl) (World.news_of_block (cs := #[.int .i64 y0]) (t := 3) (fr := (0, 0)) (heap_alloc_new y9 _)) (by simp [Value.oneCell']) (by omega) (by have := HLEN.out; unfold maxLen; omega) (by have := HLEN.out; omega) (by have := HSZ.out; simp; omega) (y9.heap.size + 1) (by simp) ?_; intro gg cap w8 hown1 hgrow hat hlt1; have HO := Lib.hid hown1; have HG := Lib.hid hgrow; clear hown1 hgrow hat hlt1)
        have HRN := Lib.hid (show w8.ownsRow N 3 1 _ (k + 1) (iv (o.st.take (k + 1))) from by rw [HNX.out, iv_snoc]; exact HO.out)
        have HBN := Lib.hid ((HBY.out.trans ((Below.refl _ _).alloc HBY.out.size _)).grown HG.out (by have := HBY.out.size; simp; omega) (fun k hk => by have := (World.ownsRow.lt HRY.out k hk).1; rw [HEN.out]; exact this))
        have HAN := Lib.hid (HAA.out (by trivial))
        go_wp2
        go_roundw
        case rel => exact ⟨k + 1, _, _, rfl, rfl, by omega, by go_num, Lib.hid ⟨HBN.out, HRN.out, HAN.out⟩⟩
        case measure => simp [intOf]; omega
    · have HST := Lib.hid (show wr.ownsRow N 3 1 vseen (sb o 0 0).length (iv (sb o 0 0)) ∧ ∀ j, j < n → gd o.pos (o.st.take j) (o.st.getD j (0, 0, 0)) from by
        obtain rfl : k = n := by omega
        refine ⟨?_, HJ.out.2.2⟩
        have := HJ.out.2.1
        rw [sb_start, EN.out]
        rwa [← EN.out, List.take_length, EN.out] at this)
      have HB2 := Lib.hid HJ.out.1
      have HL0 := Lib.hid (show (sb o 0 0).length ≤ 12 by rw [sb_start, EN.out]; exact hst)
      obtain ⟨c0, c1, c2, _, _, _⟩ := (HX.out.below HB2.out)
      clear HJ
      go_wp2
      clear c0 c1 c2
      go_loopw [3, 5] (fun v i wz => ∃ (j : Nat) (wr : World) (vs2 : Value), wr = wz ∧ vs2 = v ∧ j ≤ 15 ∧ i = .int .i64 j ∧ Hid (Below w1.heap.size w1 wr ∧ wr.ownsRow N 3 1 vs2 (sb o j 0).length (iv (sb o j 0)) ∧ (sb o j 0).length ≤ 12 + 2 * j ∧ ∀ j', j' < j → (o.bk.getD j' []).length ≤ 2 ∧ ∀ k, k < (o.bk.getD j' []).length → gd o.pos (sb o j' k) ((o.bk.getD j' []).getD k (0, 0, 0)) ∧ On (j' : Int) ((o.bk.getD j' []).getD k (0, 0, 0)).2.1)) (fun v i _ => 15 - (intOf i).toNat)
      case atStart => exact ⟨0, _, _, rfl, rfl, by omega, rfl, Lib.hid ⟨HB2.out, HST.out.1, HL0.out, fun j hj => by omega⟩⟩
      case round =>
        clear hk hlt
        obtain ⟨j, wr2, vs2, rfl, rfl, hj, rfl, HJ⟩ := hrel
        by_cases hlt : j < 15
        · obtain ⟨c0, c1, c2, _, _, _⟩ := (HX.out.below HJ.out.1)
          obtain ⟨b6, o6, hba, hc⟩ := (HVU.out.below HJ.out.1).at (by omega)
          subst hba
          have d0 := hc j (by omega)
          obtain ⟨a2, cap2, ev, _, em⟩ := (HIU.out j hlt).form
          have HEV := Lib.hid ev
          rw [ev] at d0
          unfold maxLen at em
          have HRW := Lib.hid (sb_row o j)
          obtain ⟨Lj, eL⟩ : ∃ Lj, (o.bk.getD j []).length = Lj := ⟨_, rfl⟩
          have EL := Lib.hid eL
          rw [eL] at d0
          have dj : decide ((j : Int) < 15) = true := decide_eq_true (by omega)
          clear hc ev eL
          by_cases hroom : Lj ≤ 2
          case neg =>
            obtain rfl := HNO.out (fun hok => hroom (by rw [← EL.out]; exact hok.room j hlt))
            have HF := Lib.hid (HB.out.trans (HJ.out.1.mono HGU.out.2))
            go_wp2
            go_ret
            exact ⟨rfl, HF.out⟩
          have dr : decide (2 < (Lj : Int)) = false := decide_eq_false (by omega)
          go_wp2
          clear c0 c1 c2 d0
          go_loopw [3, 6] (fun v i wz => ∃ (k : Nat) (wr : World) (vs3 : Value), wr = wz ∧ vs3 = v ∧ k ≤ Lj ∧ i = .int .i64 k ∧ Hid (Below w1.heap.size w1 wr ∧ wr.ownsRow N 3 1 vs3 (sb o j k).length (iv (sb o j k)) ∧ (sb o j k).length ≤ 12 + 2 * j + k ∧ ∀ k', k' < k → gd o.pos (sb o j k') ((o.bk.getD j []).getD k' (0, 0, 0)) ∧ On (j : Int) ((o.bk.getD j []).getD k' (0, 0, 0)).2.1)) (fun v i _ => Lj - (intOf i).toNat)
          case atStart => exact ⟨0, _, _, rfl, rfl, by omega, rfl, Lib.hid ⟨HJ.out.1, HJ.out.2.1, HJ.out.2.2.1, fun k hk => by omega⟩⟩
          case round =>
            obtain ⟨k, wr3, vs3, rfl, rfl, hk, rfl, HK⟩ := hrel
            obtain ⟨c0, c1, c2, _, _, _⟩ := (HX.out.below HK.out.1)
            obtain ⟨b7, o7, hba, hc⟩ := (HVU.out.below HK.out.1).at (by omega)
            obtain ⟨rfl, rfl⟩ : b6 = b7 ∧ o6 = o7 := by simpa using hba
            have d3 := hc j (by omega)
            rw [HEV.out, EL.out] at d3
            clear hc hba
            by_cases hlt3 : k < Lj
            · have HBR := Lib.hid HK.out.1
              have HR := Lib.hid HK.out.2.1
              have hsl := (HIU.out j hlt).below HBR.out
              rw [HEV.out, EL.out] at hsl
              obtain ⟨b8, o8, hba, hc⟩ := hsl.at (by omega)
              subst hba
              have d0 := hc (k * 3) (by omega)
              have d1 := hc (k * 3 + 1) (by omega)
              have d2 := hc (k * 3 + 2) (by omega)
              rw [bc0] at d0
              rw [bc1, ← Nat.add_assoc] at d1
              rw [bc2, ← Nat.add_assoc] at d2
              have HNX := Lib.hid (sb_next o j k (by rw [EL.out]; exact hlt3))
              obtain ⟨q', hq'⟩ := OkV.ask (gd o.pos (sb o j k) ((o.bk.getD j []).getD k (0, 0, 0)))
              have HQ := Lib.hid hq'
              have HN2 := Lib.hid (show q' = false → q = false from fun e => HNO.out fun hok => by
                have := hq'.2 (hok.tree j k hlt (by rw [EL.out]; exact hlt3)).1
                rw [e] at this
                cases this)
              have HN3 := Lib.hid (show ¬ On (j : Int) ((o.bk.getD j []).getD k (0, 0, 0)).2.1 → q = false from fun e => HNO.out fun hok => e (hok.tree j k hlt (by rw [EL.out]; exact hlt3)).2)
              have HLF := Lib.hid (show q' = true → P8 ((o.bk.getD j []).getD k (0, 0, 0)).2.1 from fun e => by
                have hg := (hq'.1 e).1
                rw [hg.2.1]
                have hlt12 : ((o.bk.getD j []).getD k (0, 0, 0)).1.toNat < o.pos.length := by rw [HL.out]; have := hg.1.1; have := hg.1.2; omega
                rw [List.getD_eq_getElem?_getD, List.getElem?_eq_getElem hlt12]
                exact HP.out _ (List.getElem_mem _))
              have HAA := Lib.hid (show q' = true → On (j : Int) ((o.bk.getD j []).getD k (0, 0, 0)).2.1 → ∀ k', k' < k + 1 → gd o.pos (sb o j k') ((o.bk.getD j []).getD k' (0, 0, 0)) ∧ On (j : Int) ((o.bk.getD j []).getD k' (0, 0, 0)).2.1 from fun e e2 j' hj' => by
                by_cases ej : j' = k
                · rw [ej]; exact ⟨hq'.1 e, e2⟩
                · exact HK.out.2.2.2 j' (by omega))
              have HLEN := Lib.hid HK.out.2.2.1
              clear hc hq' HK hsl
              generalize (o.bk.getD j []).getD k (0, 0, 0) = y at *
              obtain ⟨y0, y1, y2⟩ := y
              simp only at d0 d1 d2
              obtain ⟨V, eV, hbV, _, X4⟩ := box3 wr3 110 (.int .i64 y0) (.int .i64 y1) (.int .i64 y2)
              obtain ⟨G4, eG4⟩ : ∃ G4, wr3.heap.size = G4 := ⟨_, rfl⟩
              rw [eG4] at X4
              have HX4 := Lib.hid X4
              have HBV := Lib.hid (HBR.out.trans (hbV.mono HBR.out.size))
              have HRV := Lib.hid (Cop.row_below HR.out hbV)
              have HLB := Lib.hid (l08Block V (.slice pa o.pos.length pp) (.slice sa n sp) (.slice (some ⟨b6, o6, none⟩) 15 bp) vs3 o.pos (H1.out.below HBV.out) HL.out (sb o j k) (row_ids HRV.out).sl y0 y1 y2 q' HQ.out)
              obtain ⟨v0, v1, v2⟩ : V.cell? ⟨G, 0, none⟩ = _ ∧ V.cell? ⟨G, 1, none⟩ = _ ∧ V.cell? ⟨G, 2, none⟩ = _ := ⟨(hbV.cell (World.block_lt_of_cell? _ _ c0)).trans c0, (hbV.cell (World.block_lt_of_cell? _ _ c1)).trans c1, (hbV.cell (World.block_lt_of_cell? _ _ c2)).trans c2⟩
              obtain ⟨f0, f1, f2, _, _, _⟩ := X4
              clear hbV HBR HR
              go_wp2_with fail
              clear eV eG4 f0 f1 f2 v0 v1 v2 c0 c1 c2 d0 d1 d2 d3
              refine (HLB.out).mono ?_
              rintro e w2 ⟨rfl, hb⟩
              have HB2 := Lib.hid (HBV.out.trans (hb.mono HBV.out.size))
              have HR2 := Lib.hid (Cop.row_below HRV.out hb)
              have HX2 := Lib.hid (HX4.out.below hb)
              have HF := Lib.hid (HB.out.trans (HB2.out.mono HGU.out.2))
              clear hb HBV HRV HX4 HLB
              cases q' with
              | false =>
                obtain rfl := HN2.out rfl
                go_wp2
                go_ret
                exact ⟨rfl, HF.out⟩
              | true =>
                have hp8 := HLF.out (by trivial)
                obtain ⟨f0, f1, f2, _, _, _⟩ := HX2.out
                go_wp2_with fail
                refine (WyS.l08On (j : Int) y1 hp8 w2).mono ?_
                rintro e w3 ⟨rfl, hb⟩
                have HB3 := Lib.hid (HB2.out.trans (hb.mono HB2.out.size))
                have HR3 := Lib.hid (Cop.row_below HR2.out hb)
                have HX3 := Lib.hid (HX2.out.below hb)
                have HF3 := Lib.hid (HF.out.trans (hb.mono HF.out.size))
                clear hb f0 f1 f2 HB2 HR2 HX2 HF
                obtain ⟨f0, f1, f2, _, _, _⟩ := HX3.out
                by_cases hon : On (j : Int) y1
                · rw [decide_eq_true hon]
                  have HA2 := Lib.hid (HAA.out (by trivial) hon)
                  have HSZ := Lib.hid (show N ≤ w3.heap.size by rw [← HEN.out]; exact HB3.out.size)
                  clear hon
                  go_wp2_with (at_builtin; refine wpList_append_lies _ rfl _ _ _ rfl N 3 i0 _ 1 8 Try.underlying22 hi0 hz0 hz1 hz2 rfl (by omega) _ (sb o j k).length (iv (sb o j k)) (by rfl) (World.ownsRow.alloc HR3.out _) ⟨w3.heap.size, 0, none⟩ 1 1 [.int .i64 y0] (by rfl) (by rfl) (World.news_of_block (cs := #[.int .i64 y0]) (t := 3) (fr := (0, 0)) (heap_alloc_new w3 _)) (by simp [Value.oneCell']) (by omega) (by have := HLEN.out; unfold maxLen; omega) (by have := HLEN.out; omega) (by have := HSZ.out; simp; omega) (w3.heap.size + 1) (by simp) ?_; intro gg cap w8 hown1 hgrow hat hlt1; have HO := Lib.hid hown1; have HG := Lib.hid hgrow; clear hown1 hgrow hat hlt1)
                  have HRN := Lib.hid (show w8.ownsRow N 3 1 _ (sb o j (k + 1)).length (iv (sb o j (k + 1))) from by rw [HNX.out, iv_snoc, List.length_append]; exact HO.out)
                  have HBN := Lib.hid ((HB3.out.trans ((Below.refl _ _).alloc HB3.out.size _)).grown HG.out (by have := HB3.out.size; simp; omega) (fun k hk => by have := (World.ownsRow.lt HR3.out k hk).1; rw [HEN.out]; exact this))
                  have HLN := Lib.hid (show (sb o j (k + 1)).length ≤ 12 + 2 * j + (k + 1) by rw [HNX.out, List.length_append]; have := HLEN.out; simp; omega)
                  go_wp2
                  go_roundw
                  case rel => exact ⟨k + 1, _, _, rfl, rfl, by omega, by go_num, Lib.hid ⟨HBN.out, HRN.out, HLN.out, HA2.out⟩⟩
                  case measure => simp [intOf]; omega
                · rw [decide_eq_false hon]
                  obtain rfl := HN3.out hon
                  clear hon
                  go_wp2
                  go_ret
                  exact ⟨rfl, HF3.out⟩
            · have HN := Lib.hid (show wr3.ownsRow N 3 1 vs3 (sb o (j + 1) 0).length (iv (sb o (j + 1) 0)) ∧ (sb o (j + 1) 0).length ≤ 12 + 2 * (j + 1) ∧ ∀ j', j' < j + 1 → (o.bk.getD j' []).length ≤ 2 ∧ ∀ k, k < (o.bk.getD j' []).length → gd o.pos (sb o j' k) ((o.bk.getD j' []).getD k (0, 0, 0)) ∧ On (j' : Int) ((o.bk.getD j' []).getD k (0, 0, 0)).2.1 from by
                obtain rfl : k = Lj := by omega
                rw [HRW.out (by rw [HL2.out]; exact hlt), EL.out]
                refine ⟨HK.out.2.1, by have := HK.out.2.2.1; omega, fun j' hj' => ?_⟩
                by_cases ej : j' = j
                · subst ej
                  exact ⟨by rw [EL.out]; exact hroom, fun k' hk' => HK.out.2.2.2 k' (by rw [← EL.out]; exact hk')⟩
                · exact HJ.out.2.2.2 j' (by omega))
              have HGE := Lib.hid HK.out.1
              clear HK
              go_wp2
              go_roundw
              case rel => exact ⟨j + 1, _, _, rfl, rfl, by omega, by go_num, Lib.hid ⟨HGE.out, HN.out⟩⟩
              case measure => simp [intOf]; omega
        · have HEND := Lib.hid (show Ok o from by
            obtain rfl : j = 15 := by omega
            exact ⟨HL.out, HP.out, HL2.out, fun j hj => (HJ.out.2.2.2 j hj).1, fun k hk => HST.out.2 k (by rw [← EN.out]; exact hk), fun j k hj hk => (HJ.out.2.2.2 j hj).2 k hk⟩)
          obtain rfl := HYES.out HEND.out
          have HF := Lib.hid (HB.out.trans (HJ.out.1.mono HGU.out.2))
          clear HJ
          go_wp2
          go_ret
          exact ⟨rfl, HF.out⟩
end Go.Proofs.Ytealdpkgfmokpaa.OkS2
