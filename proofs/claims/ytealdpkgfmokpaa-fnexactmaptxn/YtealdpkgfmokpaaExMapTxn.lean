/-
  What is proved: the exact law on MapTxn returns true (the walk).
-/
import Derived.Test.YtealdpkgfmokpaaRows
import Derived.Test.YtealdpkgfmokpaaTxS
import Derived.Test.YtealdpkgfmokpaaDtS
import Derived.Test.YtealdpkgfmokpaaLawT
import Derived.Test.YtealdpkgfmokpaaLawM
import Derived.Test.YtealdpkgfmokpaaHeldN
import Derived.Test.YtealdpkgfmokpaaOpenB
import Derived.Deep.RegionHeld3
import Derived.Deep.RegionWith
import Derived.Deep.CutRange
namespace Go.Proofs.Ytealdpkgfmokpaa.ExMapTxn
open Go.ChangeShapes Go.WideShapes Go.ChangeAt Go.RowKit
open Sl (Sl Off)
open OpenSl (nc)
open Dev Orm LawE TxP
abbrev Own := @Sl.Own
set_option linter.unusedVariables false

theorem cellB {u u' : World} (hb : Below u.heap.size u u') {p : Addr} {a : Value} (c : u.cell? p = some a) : u'.cell? p = some a := (hb.cell (World.block_lt_of_cell? u _ c)).trans c
theorem cellT {u u' : World} {lo hi : Nat} (ht : Orm.TurnsR lo hi u u') {g o : Nat} {a : Value} (hg : g < lo ∨ hi ≤ g) (c : u.cell? ⟨g, o, none⟩ = some a) : u'.cell? ⟨g, o, none⟩ = some a := (World.cell?_of_block (w := u) (ht.block g (World.block_lt_of_cell? u _ c) hg)).trans c
theorem bcell {W w1 : World} (hb : Below W.heap.size W w1) : (∀ b o, b < W.heap.size → w1.cell? ⟨b, o, none⟩ = W.cell? ⟨b, o, none⟩) ∧ (∀ b o, b < W.heap.size → w1.frozen? ⟨b, o, none⟩ = W.frozen? ⟨b, o, none⟩) :=
  ⟨fun b o h => hb.cell (p := ⟨b, o, none⟩) h, fun b o h => hb.frozen (p := ⟨b, o, none⟩) h⟩
theorem boxN1 (u : World) (t : TypeId) (a : Value) : ∃ U, u.alloc (.cells #[a] t) = U ∧ Below u.heap.size u U ∧ U.heap.size = u.heap.size + 1 ∧ U.cell? ⟨u.heap.size, 0, none⟩ = some a :=
  ⟨_, rfl, (Below.refl _ u).alloc (Nat.le_refl _) _, by simp, by go_simp⟩
theorem boxN2 (u : World) (t : TypeId) (a b : Value) : ∃ U, u.alloc (.cells #[a, b] t) = U ∧ Below u.heap.size u U ∧ U.heap.size = u.heap.size + 1 ∧ U.cell? ⟨u.heap.size, 0, none⟩ = some a ∧ U.cell? ⟨u.heap.size, 1, none⟩ = some b :=
  ⟨_, rfl, (Below.refl _ u).alloc (Nat.le_refl _) _, by simp, by go_simp, by go_simp⟩
/-- Own slices stay where a box behind their base is stored to, or new memory is laid. -/
theorem own_put {w : World} {base sz : Nat} {v : Value} {n : Nat} {c : Nat → Value} (h : Sl.Own w base sz v n c) {b g : Nat} (hb : b ≤ base) (hg : g < base) (x y : Value) : Sl.Own ((w.setCell ⟨g, 0, none⟩ x).setCell ⟨g, 1, none⟩ y) b sz v n c :=
  (own_set_off (own_set_off h (own_low h g hg) 0 x) (own_low h g hg) 1 y).base hb
theorem own_far {w w' : World} {base sz : Nat} {v : Value} {n : Nat} {c : Nat → Value} (h : Sl.Own w base sz v n c) {b : Nat} (hb : b ≤ base) (hw : Below w.heap.size w w') : Sl.Own w' b sz v n c := (h.below hw).base hb
theorem tg_len (xs : List En) (os : List Orm.Bk) : (TxS.tg xs os).1.length ≤ 11 ∧ (TxS.tg xs os).2.1.length ≤ 32 := by
  unfold TxS.tg
  split
  · rename_i h
    have h1 := tx_ok h.1 os xs [] h.2.2 h.1
    have h2 := tx_len xs os xs [] h.2.2
    have h3 := h.2.1.2
    exact ⟨h1.1, by simp at h2; omega⟩
  · exact ⟨by simp, by simp⟩

set_option maxRecDepth 100000 in
set_option maxHeartbeats 6400000 in
theorem walk (w : World) (v : Value) (xs : List En) (h : Sl w 2 v xs.length (ec xs)) (u : Value) (os : List Orm.Bk) (hs : Sl w 3 u os.length (bc os)) :
    Calls Try.prog 5 #[v, .agg #[u]] w fun e w' => e = .returned (.bool true) ∧ Below w.heap.size w w' := by
  have HB0 := Lib.hid (Below.refl w.heap.size w)
  have HV := Lib.hid h
  have HU := Lib.hid hs
  have HS := Lib.hid (fun t x (hx : Sl t 2 x xs.length (ec xs)) y (hy : Sl t 3 y os.length (bc os)) => TxS.specTxn t x xs hx y os hy)
  have HI := Lib.hid (fun t x (hx : Sl t 2 x xs.length (ec xs)) y (hy : Sl t 3 y os.length (bc os)) => DtS.implTxn t x xs hx y os hy)
  have HT11 := Lib.hid (tg_len xs os)
  generalize TxS.tg xs os = TT at *
  generalize TxS.tk xs os = KK at *
  obtain ⟨AX, AV, CC⟩ := TT
  simp only at HT11
  obtain ⟨aV, cV, rfl, _, _⟩ := h.form
  obtain ⟨aU, cU, rfl, _, _⟩ := hs.form
  have b1 : (KK != KK) = false := by simp
  clear h hs
  obtain ⟨U1, eU1, hb, hz, n10⟩ := boxN1 w 44 (.slice aU os.length cU)
  obtain ⟨GT, eGT⟩ : ∃ x, w.heap.size = x := ⟨_, rfl⟩
  have HGT := Lib.hid eGT
  have HY1 := Lib.hid hz
  rw [eGT] at n10
  clear hz
  have HB2 := Lib.hid (HB0.out.trans (hb.mono HB0.out.size))
  have HZ2 := Lib.hid hb.size
  clear hb HB0
  go_enter Try.func5, Try.ntmps5
  go_wp2_with fail
  clear eU1 eGT
  refine (LawE.szEntryS U1 _ xs (HV.out.below HB2.out) 1048576 (by omega)).mono ?_
  rintro e w1 ⟨⟨r, rfl, hr⟩, hu⟩
  have hu2 := hu.symm
  subst hu2
  clear hu
  rcases hr with rfl | ⟨R, rfl, hR⟩
  · go_wp2_with fail
    go_ret
    exact ⟨rfl, HB2.out⟩
  have HLX := Lib.hid (show xs.length ≤ 1048576 by omega)
  have hR1 : R ≤ 1048576 := by omega
  have dR1 : ¬ ((R : Int) < 0) := by omega
  clear hR
  go_wp2_with fail
  refine (LawT.szTxn U1 _ os (HU.out.below HB2.out) R (by omega)).mono ?_
  rintro e u3 ⟨⟨r, rfl, hr⟩, hb⟩
  have c4_GT0 := cellB hb n10
  have HB4 := Lib.hid (HB2.out.trans (hb.mono HB2.out.size))
  have HZ4 := Lib.hid hb.size
  clear hb n10 HB2
  rcases hr with rfl | ⟨R2, rfl, hR⟩
  · go_wp2_with fail
    go_ret
    exact ⟨rfl, HB4.out⟩
  have HLU := Lib.hid (show os.length ≤ 1048576 by omega)
  have hR2 : R2 ≤ 1048576 := by omega
  have dR2 : ¬ ((R2 : Int) < 0) := by omega
  clear hR
  go_upto_region 8 with (fail)
  go_cut [6, 7, 8] from 30 to 38 (fun r6 r7 r8 wx => ∃ (q : Nat) (a1 a2 : Option Addr) (p1 p2 : Nat), r6 = .slice a1 AX.length p1 ∧ r7 = .pointer (some ⟨q, 0, none⟩) ∧ r8 = .int .i64 KK ∧ (wx.cell? ⟨q, 0, none⟩ = some (.int .i64 CC) ∧ wx.cell? ⟨q, 1, none⟩ = some (.slice a2 AV.length p2)) ∧ Hid (u3.heap.size ≤ q ∧ q < wx.heap.size ∧ Own wx u3.heap.size 2 (.slice a1 AX.length p1) AX.length (ec AX) ∧ Own wx u3.heap.size 1 (.slice a2 AV.length p2) AV.length (nc AV) ) ∧ Hid (Below u3.heap.size u3 wx))
  case first =>
    have HVC := Lib.hid (HV.out.below HB4.out)
    have HUC := Lib.hid (HU.out.below HB4.out)
    have HCL := Lib.hid (fun (t : World) (ht : Below u3.heap.size u3 t) => cellB ht c4_GT0)
    have lG := World.block_lt_of_cell? u3 _ c4_GT0
    simp only at lG
    have HLG := Lib.hid lG
    go_region_held3 (fun w' => w'.cell? ⟨GT, 0, none⟩ = some (.slice aU os.length cU))
      (first | exact c4_GT0 | exact f3 | exact f2 | exact f1 | go_simp)
      (first
      | (go_at_call 22; refine (LawE.toEntryS _ _ xs (HVC.out.below (by repeat (with_reducible (first | exact Below.refl _ _ | refine Below.setCell ?_ (by first | exact Nat.le_refl _ | omega | (simp; done) | (simp; omega)) _ | refine Below.alloc ?_ (by first | exact Nat.le_refl _ | omega | (simp; done) | (simp; omega)) _ | refine Below.drew ?_ | refine below_drewN ?_ _ | refine Below.trans ?_ (HE2.out.mono (by first | exact Nat.le_refl _ | omega | (simp; done) | (simp; omega))))))) HLX.out).mono ?_; rintro e y1 ⟨r1, rfl, ho, hb⟩; have HO1 := Lib.hid ho.sl; obtain ⟨hc1, hf1⟩ := bcell hb; have hz1 := hb.size; have HF1 := Lib.hid hb; have HE1 : Hid (Below u3.heap.size u3 y1) := Lib.hid (by repeat (with_reducible (first | exact Below.refl _ _ | refine Below.setCell ?_ (by first | exact Nat.le_refl _ | omega | (simp; done) | (simp; omega)) _ | refine Below.alloc ?_ (by first | exact Nat.le_refl _ | omega | (simp; done) | (simp; omega)) _ | refine Below.drew ?_ | refine below_drewN ?_ _ | refine Below.trans ?_ (HF1.out.mono (by first | exact Nat.le_refl _ | omega | (simp; done) | (simp; omega))) | refine Below.trans ?_ (HE1.out.mono (by first | exact Nat.le_refl _ | omega | (simp; done) | (simp; omega))) | refine Below.trans ?_ (HE2.out.mono (by first | exact Nat.le_refl _ | omega | (simp; done) | (simp; omega)))))); have f1 := HCL.out _ HE1.out; (try simp only [World.heap_drewN] at hc1 hf1 hz1); (try simp only [World.size_drew] at hc1 hf1 hz1); (try simp only [World.size_alloc] at hc1 hf1 hz1); have lY1 : GT < y1.heap.size := (by omega); (try have l01 : u3.heap.size < y1.heap.size := (by omega)); (try have l21 : y2.heap.size < y1.heap.size := (by omega)); clear ho hb)
      | (go_at_call 23; refine (LawT.toTxn _ _ os (HUC.out.below (by repeat (with_reducible (first | exact Below.refl _ _ | refine Below.setCell ?_ (by first | exact Nat.le_refl _ | omega | (simp; done) | (simp; omega)) _ | refine Below.alloc ?_ (by first | exact Nat.le_refl _ | omega | (simp; done) | (simp; omega)) _ | refine Below.drew ?_ | refine below_drewN ?_ _ | refine Below.trans ?_ (HE1.out.mono (by first | exact Nat.le_refl _ | omega | (simp; done) | (simp; omega))))))) HLU.out).mono ?_; rintro e y2 ⟨r2, rfl, ho, hb⟩; have HO2 := Lib.hid ho.sl; obtain ⟨hc2, hf2⟩ := bcell hb; have hz2 := hb.size; have HF2 := Lib.hid hb; have HE2 : Hid (Below u3.heap.size u3 y2) := Lib.hid (by repeat (with_reducible (first | exact Below.refl _ _ | refine Below.setCell ?_ (by first | exact Nat.le_refl _ | omega | (simp; done) | (simp; omega)) _ | refine Below.alloc ?_ (by first | exact Nat.le_refl _ | omega | (simp; done) | (simp; omega)) _ | refine Below.drew ?_ | refine below_drewN ?_ _ | refine Below.trans ?_ (HF2.out.mono (by first | exact Nat.le_refl _ | omega | (simp; done) | (simp; omega))) | refine Below.trans ?_ (HE1.out.mono (by first | exact Nat.le_refl _ | omega | (simp; done) | (simp; omega))) | refine Below.trans ?_ (HE2.out.mono (by first | exact Nat.le_refl _ | omega | (simp; done) | (simp; omega)))))); have f2 := HCL.out _ HE2.out; (try simp only [World.heap_drewN] at hc2 hf2 hz2); (try simp only [World.size_drew] at hc2 hf2 hz2); (try simp only [World.size_alloc] at hc2 hf2 hz2); have lY2 : GT < y2.heap.size := (by omega); (try have l02 : u3.heap.size < y2.heap.size := (by omega)); (try have l12 : y1.heap.size < y2.heap.size := (by omega)); clear ho hb)
      | (go_at_call 21; refine (HS.out _ _ (HO1.out.below (by repeat (with_reducible (first | exact Below.refl _ _ | refine Below.setCell ?_ (by first | exact Nat.le_refl _ | omega | (simp; done) | (simp; omega)) _ | refine Below.alloc ?_ (by first | exact Nat.le_refl _ | omega | (simp; done) | (simp; omega)) _ | refine Below.drew ?_ | refine below_drewN ?_ _ | refine Below.trans ?_ (HF2.out.mono (by first | exact Nat.le_refl _ | omega | (simp; done) | (simp; omega))) | refine Below.trans ?_ (HF1.out.mono (by first | exact Nat.le_refl _ | omega | (simp; done) | (simp; omega))))))) _ (HO2.out.below (by repeat (with_reducible (first | exact Below.refl _ _ | refine Below.setCell ?_ (by first | exact Nat.le_refl _ | omega | (simp; done) | (simp; omega)) _ | refine Below.alloc ?_ (by first | exact Nat.le_refl _ | omega | (simp; done) | (simp; omega)) _ | refine Below.drew ?_ | refine below_drewN ?_ _ | refine Below.trans ?_ (HF2.out.mono (by first | exact Nat.le_refl _ | omega | (simp; done) | (simp; omega))) | refine Below.trans ?_ (HF1.out.mono (by first | exact Nat.le_refl _ | omega | (simp; done) | (simp; omega)))))))).mono ?_; rintro e y3 ⟨⟨x3, r3, rfl, hq⟩, hb⟩; simp only at hq; have HQ := Lib.hid (And.intro hq.out.1 hq.out.2); obtain ⟨a6, c6, rfl, _, _⟩ := hq.out.1.sl.form; obtain ⟨a7, c7, rfl, _, _⟩ := hq.out.2.sl.form; obtain ⟨hc3, hf3⟩ := bcell hb; have hz3 := hb.size; have HF3 := Lib.hid hb; have HE3 : Hid (Below u3.heap.size u3 y3) := Lib.hid (by repeat (with_reducible (first | exact Below.refl _ _ | refine Below.setCell ?_ (by first | exact Nat.le_refl _ | omega | (simp; done) | (simp; omega)) _ | refine Below.alloc ?_ (by first | exact Nat.le_refl _ | omega | (simp; done) | (simp; omega)) _ | refine Below.drew ?_ | refine below_drewN ?_ _ | refine Below.trans ?_ (HF3.out.mono (by first | exact Nat.le_refl _ | omega | (simp; done) | (simp; omega))) | refine Below.trans ?_ (HE1.out.mono (by first | exact Nat.le_refl _ | omega | (simp; done) | (simp; omega))) | refine Below.trans ?_ (HE2.out.mono (by first | exact Nat.le_refl _ | omega | (simp; done) | (simp; omega)))))); have f3 := HCL.out _ HE3.out; (try simp only [World.heap_drewN] at hc3 hf3 hz3); (try simp only [World.size_drew] at hc3 hf3 hz3); (try simp only [World.size_alloc] at hc3 hf3 hz3); have lY3 : GT < y3.heap.size := (by omega); (try have l03 : u3.heap.size < y3.heap.size := (by omega)); (try have l13 : y1.heap.size < y3.heap.size := (by omega)); (try have l23 : y2.heap.size < y3.heap.size := (by omega)); clear hq hb))
    all_goals
      go_wp2_with fail
      go_meet
      refine ⟨_, a6, a7, c6, c7, rfl, rfl, rfl, ⟨?_, ?_⟩, Lib.hid ⟨?_, ?_, ?_, ?_⟩, Lib.hid ?_⟩
      · go_simp
      · go_simp
      · first | exact Nat.le_refl _ | omega | (simp; done) | (simp; omega)
      · first | exact Nat.le_refl _ | omega | (simp; done) | (simp; omega)
      · first
        | (refine own_put HQ.out.1 ?_ ?_ _ _ <;> (first | exact Nat.le_refl _ | omega | (simp; done) | (simp; omega)))
        | (refine own_far HQ.out.1 ?_ ?_ <;> (first | exact Nat.le_refl _ | omega | (simp; done) | (simp; omega) | exact (by repeat (with_reducible (first | exact Below.refl _ _ | refine Below.setCell ?_ (by first | exact Nat.le_refl _ | omega | (simp; done) | (simp; omega)) _ | refine Below.alloc ?_ (by first | exact Nat.le_refl _ | omega | (simp; done) | (simp; omega)) _ | refine Below.drew ?_ | refine below_drewN ?_ _)))))
      · first
        | (refine own_put HQ.out.2 ?_ ?_ _ _ <;> (first | exact Nat.le_refl _ | omega | (simp; done) | (simp; omega)))
        | (refine own_far HQ.out.2 ?_ ?_ <;> (first | exact Nat.le_refl _ | omega | (simp; done) | (simp; omega) | exact (by repeat (with_reducible (first | exact Below.refl _ _ | refine Below.setCell ?_ (by first | exact Nat.le_refl _ | omega | (simp; done) | (simp; omega)) _ | refine Below.alloc ?_ (by first | exact Nat.le_refl _ | omega | (simp; done) | (simp; omega)) _ | refine Below.drew ?_ | refine below_drewN ?_ _)))))
      · exact (by repeat (with_reducible (first | exact Below.refl _ _ | refine Below.setCell ?_ (by first | exact Nat.le_refl _ | omega | (simp; done) | (simp; omega)) _ | refine Below.alloc ?_ (by first | exact Nat.le_refl _ | omega | (simp; done) | (simp; omega)) _ | refine Below.drew ?_ | refine below_drewN ?_ _ | refine Below.trans ?_ (HE3.out.mono (by first | exact Nat.le_refl _ | omega | (simp; done) | (simp; omega))))))
  case rest =>
  obtain ⟨GW1, aW0, aW1, qW0, qW1, rfl, rfl, rfl, ⟨n50, n51⟩, HQ, HBC⟩ := hcut
  have hb := HBC.out
  have ho1 := HQ.out.2.2.1
  have ho2 := HQ.out.2.2.2
  have HGB := Lib.hid (show u3.heap.size ≤ GW1 ∧ GW1 < wc.heap.size from ⟨HQ.out.1, HQ.out.2.1⟩)
  clear HBC HQ
  obtain ⟨W5, eW5⟩ : ∃ x, x = wc := ⟨_, rfl⟩
  subst eW5
  obtain ⟨loW0, elo⟩ : ∃ x, u3.heap.size = x := ⟨_, rfl⟩
  obtain ⟨hiW0, ehi⟩ : ∃ x, W5.heap.size = x := ⟨_, rfl⟩
  have HLW0 := Lib.hid (lies_of ho1 (by decide))
  rw [elo] at ho1
  rw [elo, ehi] at HLW0
  have HLOW0 := Lib.hid elo
  have HHIW0 := Lib.hid ehi
  have HOW0 := Lib.hid ho1
  clear ho1 elo ehi
  obtain ⟨loW1, elo⟩ : ∃ x, u3.heap.size = x := ⟨_, rfl⟩
  obtain ⟨hiW1, ehi⟩ : ∃ x, W5.heap.size = x := ⟨_, rfl⟩
  have HLW1 := Lib.hid (lies_of ho2 (by decide))
  rw [elo] at ho2
  rw [elo, ehi] at HLW1
  have HLOW1 := Lib.hid elo
  have HHIW1 := Lib.hid ehi
  have HOW1 := Lib.hid ho2
  clear ho2 elo ehi
  have HG5 := Lib.hid HGB.out
  clear HGB
  have c6_GT0 := cellB hb c4_GT0
  have HB6 := Lib.hid (HB4.out.trans (hb.mono HB4.out.size))
  have HZ6 := Lib.hid hb.size
  clear hb c4_GT0 HB4
  go_wp2_with fail
  refine (LawE.toEntryS W5 _ xs (HV.out.below HB6.out) HLX.out).mono ?_
  rintro e u7 ⟨r7, rfl, ho, hb⟩
  obtain ⟨aX0, qX0, rfl, _, _⟩ := ho.sl.form
  obtain ⟨loX0, elo⟩ : ∃ x, W5.heap.size = x := ⟨_, rfl⟩
  obtain ⟨hiX0, ehi⟩ : ∃ x, u7.heap.size = x := ⟨_, rfl⟩
  have HLX0 := Lib.hid (lies_of ho (by decide))
  rw [elo] at ho
  rw [elo, ehi] at HLX0
  have HLOX0 := Lib.hid elo
  have HHIX0 := Lib.hid ehi
  have HOX0 := Lib.hid ho
  clear ho elo ehi
  have c8_GT0 := cellB hb c6_GT0
  have c8_GW10 := cellB hb n50
  have c8_GW11 := cellB hb n51
  have HS8_W0 := Lib.hid (HOW0.out.below hb)
  have HS8_W1 := Lib.hid (HOW1.out.below hb)
  have HB8 := Lib.hid (HB6.out.trans (hb.mono HB6.out.size))
  have HZ8 := Lib.hid hb.size
  clear hb c6_GT0 n50 n51 HOW0 HOW1 HB6
  go_wp2_with fail
  refine (LawT.toTxn u7 _ os (HU.out.below HB8.out) HLU.out).mono ?_
  rintro e u9 ⟨r9, rfl, ho, hb⟩
  obtain ⟨aX1, qX1, rfl, _, _⟩ := ho.sl.form
  obtain ⟨loX1, elo⟩ : ∃ x, u7.heap.size = x := ⟨_, rfl⟩
  obtain ⟨hiX1, ehi⟩ : ∃ x, u9.heap.size = x := ⟨_, rfl⟩
  have HLX1 := Lib.hid (lies_of ho (by decide))
  rw [elo] at ho
  rw [elo, ehi] at HLX1
  have HLOX1 := Lib.hid elo
  have HHIX1 := Lib.hid ehi
  have HOX1 := Lib.hid ho
  clear ho elo ehi
  have c10_GT0 := cellB hb c8_GT0
  have c10_GW10 := cellB hb c8_GW10
  have c10_GW11 := cellB hb c8_GW11
  have HS10_W0 := Lib.hid (HS8_W0.out.below hb)
  have HS10_W1 := Lib.hid (HS8_W1.out.below hb)
  have HS10_X0 := Lib.hid (HOX0.out.below hb)
  have HB10 := Lib.hid (HB8.out.trans (hb.mono HB8.out.size))
  have HZ10 := Lib.hid hb.size
  clear hb c8_GT0 c8_GW10 c8_GW11 HS8_W0 HS8_W1 HOX0 HB8
  obtain ⟨U11, eU11, hb, hz, n110⟩ := boxN1 u9 55 (.slice aX1 os.length qX1)
  obtain ⟨GX, eGX⟩ : ∃ x, u9.heap.size = x := ⟨_, rfl⟩
  have HGX := Lib.hid eGX
  have HY11 := Lib.hid hz
  rw [eGX] at n110
  clear hz
  have c12_GT0 := cellB hb c10_GT0
  have c12_GW10 := cellB hb c10_GW10
  have c12_GW11 := cellB hb c10_GW11
  have HS12_W0 := Lib.hid (HS10_W0.out.below hb)
  have HS12_W1 := Lib.hid (HS10_W1.out.below hb)
  have HS12_X0 := Lib.hid (HS10_X0.out.below hb)
  have HS12_X1 := Lib.hid (HOX1.out.below hb)
  have HB12 := Lib.hid (HB10.out.trans (hb.mono HB10.out.size))
  have HZ12 := Lib.hid hb.size
  clear hb c10_GT0 c10_GW10 c10_GW11 HS10_W0 HS10_W1 HS10_X0 HOX1 HB10
  go_wp2_with fail
  clear eU11 eGX
  refine (HI.out _ _ HS12_X0.out.sl _ HS12_X1.out.sl).mono ?_
  rintro e u13 ⟨⟨x9, r9, rfl, hq⟩, hb⟩
  simp only at hq
  have HAG0 := Lib.hid hq.out.2.2
  obtain ⟨aG0, qG0, rfl, _, _⟩ := hq.out.1.sl.form
  obtain ⟨aG1, qG1, rfl, _, _⟩ := hq.out.2.1.sl.form
  have ho1 := hq.out.1
  have ho2 := hq.out.2.1
  clear hq
  obtain ⟨loG0, elo⟩ : ∃ x, U11.heap.size = x := ⟨_, rfl⟩
  obtain ⟨hiG0, ehi⟩ : ∃ x, u13.heap.size = x := ⟨_, rfl⟩
  have HLG0 := Lib.hid (lies_of ho1 (by decide))
  rw [elo] at ho1
  rw [elo, ehi] at HLG0
  have HLOG0 := Lib.hid elo
  have HHIG0 := Lib.hid ehi
  have HOG0 := Lib.hid ho1
  clear ho1 elo ehi
  obtain ⟨loG1, elo⟩ : ∃ x, U11.heap.size = x := ⟨_, rfl⟩
  obtain ⟨hiG1, ehi⟩ : ∃ x, u13.heap.size = x := ⟨_, rfl⟩
  have HLG1 := Lib.hid (lies_of ho2 (by decide))
  rw [elo] at ho2
  rw [elo, ehi] at HLG1
  have HLOG1 := Lib.hid elo
  have HHIG1 := Lib.hid ehi
  have HOG1 := Lib.hid ho2
  clear ho2 elo ehi
  have c14_GT0 := cellB hb c12_GT0
  have c14_GW10 := cellB hb c12_GW10
  have c14_GW11 := cellB hb c12_GW11
  have c14_GX0 := cellB hb n110
  have HS14_W0 := Lib.hid (HS12_W0.out.below hb)
  have HS14_W1 := Lib.hid (HS12_W1.out.below hb)
  have HS14_X0 := Lib.hid (HS12_X0.out.below hb)
  have HS14_X1 := Lib.hid (HS12_X1.out.below hb)
  have HB14 := Lib.hid (HB12.out.trans (hb.mono HB12.out.size))
  have HZ14 := Lib.hid hb.size
  clear hb c12_GT0 c12_GW10 c12_GW11 n110 HS12_W0 HS12_W1 HS12_X0 HS12_X1 HB12
  obtain ⟨U15, eU15, hb, hz, n150, n151⟩ := boxN2 u13 49 (.int .i64 CC) (.slice aG1 AV.length qG1)
  obtain ⟨GR, eGR⟩ : ∃ x, u13.heap.size = x := ⟨_, rfl⟩
  have HGR := Lib.hid eGR
  have HY15 := Lib.hid hz
  rw [eGR] at n150 n151
  clear hz
  have c16_GT0 := cellB hb c14_GT0
  have c16_GW10 := cellB hb c14_GW10
  have c16_GW11 := cellB hb c14_GW11
  have c16_GX0 := cellB hb c14_GX0
  have HS16_W0 := Lib.hid (HS14_W0.out.below hb)
  have HS16_W1 := Lib.hid (HS14_W1.out.below hb)
  have HS16_X0 := Lib.hid (HS14_X0.out.below hb)
  have HS16_X1 := Lib.hid (HS14_X1.out.below hb)
  have HS16_G0 := Lib.hid (HOG0.out.below hb)
  have HS16_G1 := Lib.hid (HOG1.out.below hb)
  have HB16 := Lib.hid (HB14.out.trans (hb.mono HB14.out.size))
  have HZ16 := Lib.hid hb.size
  clear hb c14_GT0 c14_GW10 c14_GW11 c14_GX0 HS14_W0 HS14_W1 HS14_X0 HS14_X1 HOG0 HOG1 HB14
  go_wp2_with fail
  clear eU15 eGR
  refine (LawE.eqEntryS U15 _ _ AX HS16_G0.out.sl HS16_W0.out.sl).mono ?_
  rintro e u17 ⟨rfl, hb⟩
  have c18_GT0 := cellB hb c16_GT0
  have c18_GW10 := cellB hb c16_GW10
  have c18_GW11 := cellB hb c16_GW11
  have c18_GX0 := cellB hb c16_GX0
  have c18_GR0 := cellB hb n150
  have c18_GR1 := cellB hb n151
  have HS18_W0 := Lib.hid (HS16_W0.out.below hb)
  have HS18_W1 := Lib.hid (HS16_W1.out.below hb)
  have HS18_X0 := Lib.hid (HS16_X0.out.below hb)
  have HS18_X1 := Lib.hid (HS16_X1.out.below hb)
  have HS18_G0 := Lib.hid (HS16_G0.out.below hb)
  have HS18_G1 := Lib.hid (HS16_G1.out.below hb)
  have HB18 := Lib.hid (HB16.out.trans (hb.mono HB16.out.size))
  have HZ18 := Lib.hid hb.size
  clear hb c16_GT0 c16_GW10 c16_GW11 c16_GX0 n150 n151 HS16_W0 HS16_W1 HS16_X0 HS16_X1 HS16_G0 HS16_G1 HB16
  go_wp2_with fail
  refine (LawR.eqResult u17 _ _ CC AV ⟨_, rfl, HS18_G1.out.sl⟩ ⟨_, rfl, HS18_W1.out.sl⟩).mono ?_
  rintro e u19 ⟨rfl, hb⟩
  have c20_GT0 := cellB hb c18_GT0
  have c20_GW10 := cellB hb c18_GW10
  have c20_GW11 := cellB hb c18_GW11
  have c20_GX0 := cellB hb c18_GX0
  have c20_GR0 := cellB hb c18_GR0
  have c20_GR1 := cellB hb c18_GR1
  have HS20_W0 := Lib.hid (HS18_W0.out.below hb)
  have HS20_W1 := Lib.hid (HS18_W1.out.below hb)
  have HS20_X0 := Lib.hid (HS18_X0.out.below hb)
  have HS20_X1 := Lib.hid (HS18_X1.out.below hb)
  have HS20_G0 := Lib.hid (HS18_G0.out.below hb)
  have HS20_G1 := Lib.hid (HS18_G1.out.below hb)
  have HB20 := Lib.hid (HB18.out.trans (hb.mono HB18.out.size))
  have HZ20 := Lib.hid hb.size
  clear hb c18_GT0 c18_GW10 c18_GW11 c18_GX0 c18_GR0 c18_GR1 HS18_W0 HS18_W1 HS18_X0 HS18_X1 HS18_G0 HS18_G1 HB18
  go_wp2_with fail
  refine (LawE.toEntryS u19 _ xs (HV.out.below HB20.out) HLX.out).mono ?_
  rintro e u21 ⟨r21, rfl, ho, hb⟩
  obtain ⟨aT0, qT0, rfl, _, _⟩ := ho.sl.form
  obtain ⟨loT0, elo⟩ : ∃ x, u19.heap.size = x := ⟨_, rfl⟩
  obtain ⟨hiT0, ehi⟩ : ∃ x, u21.heap.size = x := ⟨_, rfl⟩
  have HLT0 := Lib.hid (lies_of ho (by decide))
  rw [elo] at ho
  rw [elo, ehi] at HLT0
  have HLOT0 := Lib.hid elo
  have HHIT0 := Lib.hid ehi
  have HOT0 := Lib.hid ho
  clear ho elo ehi
  have c22_GT0 := cellB hb c20_GT0
  have c22_GW10 := cellB hb c20_GW10
  have c22_GW11 := cellB hb c20_GW11
  have c22_GX0 := cellB hb c20_GX0
  have c22_GR0 := cellB hb c20_GR0
  have c22_GR1 := cellB hb c20_GR1
  have HS22_W0 := Lib.hid (HS20_W0.out.below hb)
  have HS22_W1 := Lib.hid (HS20_W1.out.below hb)
  have HS22_X0 := Lib.hid (HS20_X0.out.below hb)
  have HS22_X1 := Lib.hid (HS20_X1.out.below hb)
  have HS22_G0 := Lib.hid (HS20_G0.out.below hb)
  have HS22_G1 := Lib.hid (HS20_G1.out.below hb)
  have HB22 := Lib.hid (HB20.out.trans (hb.mono HB20.out.size))
  have HZ22 := Lib.hid hb.size
  clear hb c20_GT0 c20_GW10 c20_GW11 c20_GX0 c20_GR0 c20_GR1 HS20_W0 HS20_W1 HS20_X0 HS20_X1 HS20_G0 HS20_G1 HB20
  go_wp2_with fail
  refine (LawE.eqEntryS u21 _ _ xs HS22_X0.out.sl HOT0.out.sl).mono ?_
  rintro e u23 ⟨rfl, hb⟩
  have c24_GT0 := cellB hb c22_GT0
  have c24_GW10 := cellB hb c22_GW10
  have c24_GW11 := cellB hb c22_GW11
  have c24_GX0 := cellB hb c22_GX0
  have c24_GR0 := cellB hb c22_GR0
  have c24_GR1 := cellB hb c22_GR1
  have HS24_W0 := Lib.hid (HS22_W0.out.below hb)
  have HS24_W1 := Lib.hid (HS22_W1.out.below hb)
  have HS24_X0 := Lib.hid (HS22_X0.out.below hb)
  have HS24_X1 := Lib.hid (HS22_X1.out.below hb)
  have HS24_G0 := Lib.hid (HS22_G0.out.below hb)
  have HS24_G1 := Lib.hid (HS22_G1.out.below hb)
  have HS24_T0 := Lib.hid (HOT0.out.below hb)
  have HB24 := Lib.hid (HB22.out.trans (hb.mono HB22.out.size))
  have HZ24 := Lib.hid hb.size
  clear hb c22_GT0 c22_GW10 c22_GW11 c22_GX0 c22_GR0 c22_GR1 HS22_W0 HS22_W1 HS22_X0 HS22_X1 HS22_G0 HS22_G1 HOT0 HB22
  go_wp2_with fail
  clear HS24_T0 HLT0
  have HQ1 := Lib.hid (fun t (hb : Below u23.heap.size u23 t) => And.intro (cellB hb c24_GX0) (cellB hb c24_GT0))
  go_region_held3 (fun w' => w'.cell? ⟨GX, 0, none⟩ = some (.slice aX1 os.length qX1) ∧ w'.cell? ⟨GT, 0, none⟩ = some (.slice aU os.length cU))
    (first | exact ⟨c24_GX0, c24_GT0⟩ | exact ⟨e20, e21⟩ | exact ⟨e10, e11⟩)
    (first
    | (go_at_call 23; refine (LawT.toTxn _ _ os (HU.out.below (below_drewN HB24.out _)) HLU.out).mono ?_; rintro e y25 ⟨rr, rfl, ho, hb⟩; have HEY : Hid (Below u23.heap.size u23 y25) := Lib.hid ⟨hb.os, hb.tape, hb.output, hb.size, hb.block⟩; have HOY := Lib.hid ho.sl; obtain ⟨e10, e11⟩ := HQ1.out y25 HEY.out; clear ho hb)
    | (go_at_call 27; refine (LawT.eqTxn _ _ _ os (HS24_X1.out.sl.below (by first | exact HEY.out | exact below_drewN HEY.out _)) HOY.out).mono ?_; rintro e z25 ⟨rfl, hb⟩; have HEZ := Lib.hid (HEY.out.trans (hb.mono HEY.out.size)); obtain ⟨e20, e21⟩ := HQ1.out z25 HEZ.out; clear hb))
  have hb : Below u23.heap.size u23 z25 := HEZ.out
  clear e10 e11 e20 e21 HQ1 HEY HEZ HOY
  have c26_GT0 := cellB hb c24_GT0
  have c26_GW10 := cellB hb c24_GW10
  have c26_GW11 := cellB hb c24_GW11
  have c26_GX0 := cellB hb c24_GX0
  have c26_GR0 := cellB hb c24_GR0
  have c26_GR1 := cellB hb c24_GR1
  have HS26_W0 := Lib.hid (HS24_W0.out.below hb)
  have HS26_W1 := Lib.hid (HS24_W1.out.below hb)
  have HS26_X0 := Lib.hid (HS24_X0.out.below hb)
  have HS26_X1 := Lib.hid (HS24_X1.out.below hb)
  have HS26_G0 := Lib.hid (HS24_G0.out.below hb)
  have HS26_G1 := Lib.hid (HS24_G1.out.below hb)
  have HB26 := Lib.hid (HB24.out.trans (hb.mono HB24.out.size))
  have HZ26 := Lib.hid hb.size
  clear hb c24_GT0 c24_GW10 c24_GW11 c24_GX0 c24_GR0 c24_GR1 HS24_W0 HS24_W1 HS24_X0 HS24_X1 HS24_G0 HS24_G1 HB24
  go_wp2_with fail
  obtain ⟨MA, eMA⟩ : ∃ x, 1 + xs.length * 2 = x := ⟨_, rfl⟩
  have EMA := Lib.hid eMA
  have HMMA := Lib.hid (show MA ≤ 10000000 by have := EMA.out; have := HLX.out; omega)
  have dMA : ¬ ((MA : Int) < 0) := by omega
  have fMA : ((MA : Int) != (MA : Int)) = false := by simp
  clear eMA
  obtain ⟨MB, eMB⟩ : ∃ x, MA + os.length * 3 = x := ⟨_, rfl⟩
  have EMB := Lib.hid eMB
  have HMMB := Lib.hid (show MB ≤ 10000000 by have := EMB.out; have := HMMA.out; have := EMA.out; have := HLX.out; have := HLU.out; omega)
  have dMB : ¬ ((MB : Int) < 0) := by omega
  have fMB : ((MB : Int) != (MB : Int)) = false := by simp
  clear eMB
  obtain ⟨MC, eMC⟩ : ∃ x, 1 + AX.length * 2 = x := ⟨_, rfl⟩
  have EMC := Lib.hid eMC
  have HMMC := Lib.hid (show MC ≤ 10000000 by have := EMC.out; have := HT11.out; omega)
  have dMC : ¬ ((MC : Int) < 0) := by omega
  have fMC : ((MC : Int) != (MC : Int)) = false := by simp
  clear eMC
  obtain ⟨MD, eMD⟩ : ∃ x, MC + AV.length = x := ⟨_, rfl⟩
  have EMD := Lib.hid eMD
  have HMMD := Lib.hid (show MD ≤ 10000000 by have := EMD.out; have := EMC.out; have := HT11.out; omega)
  have dMD : ¬ ((MD : Int) < 0) := by omega
  have fMD : ((MD : Int) != (MD : Int)) = false := by simp
  clear eMD
  refine (LawE.markEntryS z25 loX0 _ xs.length _ HS26_X0.out 1 (by have := EMA.out; have := HMMA.out; omega)).mono ?_
  rw [EMA.out]
  rintro e u27 ⟨rfl, ho, ht1⟩
  have HT28 := Lib.hid ht1
  have ht := TurnsR.of_turns ht1 (fun v hv => by obtain rfl := List.mem_singleton.1 hv; exact HLX0.out)
  clear ht1
  have c28_GT0 := cellT ht (by have := HGT.out; have := HY1.out; have := HZ2.out; have := HZ4.out; have := HG5.out; have := HLOW0.out; have := HHIW0.out; have := HLOW1.out; have := HHIW1.out; have := HZ6.out; have := HLOX0.out; have := HHIX0.out; have := HZ8.out; have := HLOX1.out; have := HHIX1.out; have := HZ10.out; have := HGX.out; have := HY11.out; have := HZ12.out; have := HLOG0.out; have := HHIG0.out; have := HLOG1.out; have := HHIG1.out; have := HZ14.out; have := HGR.out; have := HY15.out; have := HZ16.out; have := HZ18.out; have := HZ20.out; have := HLOT0.out; have := HHIT0.out; have := HZ22.out; have := HZ24.out; have := HZ26.out; omega) c26_GT0
  have c28_GW10 := cellT ht (by have := HGT.out; have := HY1.out; have := HZ2.out; have := HZ4.out; have := HG5.out; have := HLOW0.out; have := HHIW0.out; have := HLOW1.out; have := HHIW1.out; have := HZ6.out; have := HLOX0.out; have := HHIX0.out; have := HZ8.out; have := HLOX1.out; have := HHIX1.out; have := HZ10.out; have := HGX.out; have := HY11.out; have := HZ12.out; have := HLOG0.out; have := HHIG0.out; have := HLOG1.out; have := HHIG1.out; have := HZ14.out; have := HGR.out; have := HY15.out; have := HZ16.out; have := HZ18.out; have := HZ20.out; have := HLOT0.out; have := HHIT0.out; have := HZ22.out; have := HZ24.out; have := HZ26.out; omega) c26_GW10
  have c28_GW11 := cellT ht (by have := HGT.out; have := HY1.out; have := HZ2.out; have := HZ4.out; have := HG5.out; have := HLOW0.out; have := HHIW0.out; have := HLOW1.out; have := HHIW1.out; have := HZ6.out; have := HLOX0.out; have := HHIX0.out; have := HZ8.out; have := HLOX1.out; have := HHIX1.out; have := HZ10.out; have := HGX.out; have := HY11.out; have := HZ12.out; have := HLOG0.out; have := HHIG0.out; have := HLOG1.out; have := HHIG1.out; have := HZ14.out; have := HGR.out; have := HY15.out; have := HZ16.out; have := HZ18.out; have := HZ20.out; have := HLOT0.out; have := HHIT0.out; have := HZ22.out; have := HZ24.out; have := HZ26.out; omega) c26_GW11
  have c28_GX0 := cellT ht (by have := HGT.out; have := HY1.out; have := HZ2.out; have := HZ4.out; have := HG5.out; have := HLOW0.out; have := HHIW0.out; have := HLOW1.out; have := HHIW1.out; have := HZ6.out; have := HLOX0.out; have := HHIX0.out; have := HZ8.out; have := HLOX1.out; have := HHIX1.out; have := HZ10.out; have := HGX.out; have := HY11.out; have := HZ12.out; have := HLOG0.out; have := HHIG0.out; have := HLOG1.out; have := HHIG1.out; have := HZ14.out; have := HGR.out; have := HY15.out; have := HZ16.out; have := HZ18.out; have := HZ20.out; have := HLOT0.out; have := HHIT0.out; have := HZ22.out; have := HZ24.out; have := HZ26.out; omega) c26_GX0
  have c28_GR0 := cellT ht (by have := HGT.out; have := HY1.out; have := HZ2.out; have := HZ4.out; have := HG5.out; have := HLOW0.out; have := HHIW0.out; have := HLOW1.out; have := HHIW1.out; have := HZ6.out; have := HLOX0.out; have := HHIX0.out; have := HZ8.out; have := HLOX1.out; have := HHIX1.out; have := HZ10.out; have := HGX.out; have := HY11.out; have := HZ12.out; have := HLOG0.out; have := HHIG0.out; have := HLOG1.out; have := HHIG1.out; have := HZ14.out; have := HGR.out; have := HY15.out; have := HZ16.out; have := HZ18.out; have := HZ20.out; have := HLOT0.out; have := HHIT0.out; have := HZ22.out; have := HZ24.out; have := HZ26.out; omega) c26_GR0
  have c28_GR1 := cellT ht (by have := HGT.out; have := HY1.out; have := HZ2.out; have := HZ4.out; have := HG5.out; have := HLOW0.out; have := HHIW0.out; have := HLOW1.out; have := HHIW1.out; have := HZ6.out; have := HLOX0.out; have := HHIX0.out; have := HZ8.out; have := HLOX1.out; have := HHIX1.out; have := HZ10.out; have := HGX.out; have := HY11.out; have := HZ12.out; have := HLOG0.out; have := HHIG0.out; have := HLOG1.out; have := HHIG1.out; have := HZ14.out; have := HGR.out; have := HY15.out; have := HZ16.out; have := HZ18.out; have := HZ20.out; have := HLOT0.out; have := HHIT0.out; have := HZ22.out; have := HZ24.out; have := HZ26.out; omega) c26_GR1
  have HS28_W0 := Lib.hid (own_turnsR HS26_W0.out ht HLW0.out (by have := HGT.out; have := HY1.out; have := HZ2.out; have := HZ4.out; have := HG5.out; have := HLOW0.out; have := HHIW0.out; have := HLOW1.out; have := HHIW1.out; have := HZ6.out; have := HLOX0.out; have := HHIX0.out; have := HZ8.out; have := HLOX1.out; have := HHIX1.out; have := HZ10.out; have := HGX.out; have := HY11.out; have := HZ12.out; have := HLOG0.out; have := HHIG0.out; have := HLOG1.out; have := HHIG1.out; have := HZ14.out; have := HGR.out; have := HY15.out; have := HZ16.out; have := HZ18.out; have := HZ20.out; have := HLOT0.out; have := HHIT0.out; have := HZ22.out; have := HZ24.out; have := HZ26.out; omega))
  have HS28_W1 := Lib.hid (own_turnsR HS26_W1.out ht HLW1.out (by have := HGT.out; have := HY1.out; have := HZ2.out; have := HZ4.out; have := HG5.out; have := HLOW0.out; have := HHIW0.out; have := HLOW1.out; have := HHIW1.out; have := HZ6.out; have := HLOX0.out; have := HHIX0.out; have := HZ8.out; have := HLOX1.out; have := HHIX1.out; have := HZ10.out; have := HGX.out; have := HY11.out; have := HZ12.out; have := HLOG0.out; have := HHIG0.out; have := HLOG1.out; have := HHIG1.out; have := HZ14.out; have := HGR.out; have := HY15.out; have := HZ16.out; have := HZ18.out; have := HZ20.out; have := HLOT0.out; have := HHIT0.out; have := HZ22.out; have := HZ24.out; have := HZ26.out; omega))
  have HS28_X1 := Lib.hid (own_turnsR HS26_X1.out ht HLX1.out (by have := HGT.out; have := HY1.out; have := HZ2.out; have := HZ4.out; have := HG5.out; have := HLOW0.out; have := HHIW0.out; have := HLOW1.out; have := HHIW1.out; have := HZ6.out; have := HLOX0.out; have := HHIX0.out; have := HZ8.out; have := HLOX1.out; have := HHIX1.out; have := HZ10.out; have := HGX.out; have := HY11.out; have := HZ12.out; have := HLOG0.out; have := HHIG0.out; have := HLOG1.out; have := HHIG1.out; have := HZ14.out; have := HGR.out; have := HY15.out; have := HZ16.out; have := HZ18.out; have := HZ20.out; have := HLOT0.out; have := HHIT0.out; have := HZ22.out; have := HZ24.out; have := HZ26.out; omega))
  have HS28_G0 := Lib.hid (own_turnsR HS26_G0.out ht HLG0.out (by have := HGT.out; have := HY1.out; have := HZ2.out; have := HZ4.out; have := HG5.out; have := HLOW0.out; have := HHIW0.out; have := HLOW1.out; have := HHIW1.out; have := HZ6.out; have := HLOX0.out; have := HHIX0.out; have := HZ8.out; have := HLOX1.out; have := HHIX1.out; have := HZ10.out; have := HGX.out; have := HY11.out; have := HZ12.out; have := HLOG0.out; have := HHIG0.out; have := HLOG1.out; have := HHIG1.out; have := HZ14.out; have := HGR.out; have := HY15.out; have := HZ16.out; have := HZ18.out; have := HZ20.out; have := HLOT0.out; have := HHIT0.out; have := HZ22.out; have := HZ24.out; have := HZ26.out; omega))
  have HS28_G1 := Lib.hid (own_turnsR HS26_G1.out ht HLG1.out (by have := HGT.out; have := HY1.out; have := HZ2.out; have := HZ4.out; have := HG5.out; have := HLOW0.out; have := HHIW0.out; have := HLOW1.out; have := HHIW1.out; have := HZ6.out; have := HLOX0.out; have := HHIX0.out; have := HZ8.out; have := HLOX1.out; have := HHIX1.out; have := HZ10.out; have := HGX.out; have := HY11.out; have := HZ12.out; have := HLOG0.out; have := HHIG0.out; have := HLOG1.out; have := HHIG1.out; have := HZ14.out; have := HGR.out; have := HY15.out; have := HZ16.out; have := HZ18.out; have := HZ20.out; have := HLOT0.out; have := HHIT0.out; have := HZ22.out; have := HZ24.out; have := HZ26.out; omega))
  have HB28 := Lib.hid (HB26.out.trans (ht.below (by have := HGT.out; have := HY1.out; have := HZ2.out; have := HZ4.out; have := HG5.out; have := HLOW0.out; have := HHIW0.out; have := HLOW1.out; have := HHIW1.out; have := HZ6.out; have := HLOX0.out; have := HHIX0.out; have := HZ8.out; have := HLOX1.out; have := HHIX1.out; have := HZ10.out; have := HGX.out; have := HY11.out; have := HZ12.out; have := HLOG0.out; have := HHIG0.out; have := HLOG1.out; have := HHIG1.out; have := HZ14.out; have := HGR.out; have := HY15.out; have := HZ16.out; have := HZ18.out; have := HZ20.out; have := HLOT0.out; have := HHIT0.out; have := HZ22.out; have := HZ24.out; have := HZ26.out; omega) (by have := HGT.out; have := HY1.out; have := HZ2.out; have := HZ4.out; have := HG5.out; have := HLOW0.out; have := HHIW0.out; have := HLOW1.out; have := HHIW1.out; have := HZ6.out; have := HLOX0.out; have := HHIX0.out; have := HZ8.out; have := HLOX1.out; have := HHIX1.out; have := HZ10.out; have := HGX.out; have := HY11.out; have := HZ12.out; have := HLOG0.out; have := HHIG0.out; have := HLOG1.out; have := HHIG1.out; have := HZ14.out; have := HGR.out; have := HY15.out; have := HZ16.out; have := HZ18.out; have := HZ20.out; have := HLOT0.out; have := HHIT0.out; have := HZ22.out; have := HZ24.out; have := HZ26.out; have := HB26.out.size; omega)))
  have HZ28 := Lib.hid ht.size
  have HS28_X0 := Lib.hid ho
  clear ht HT28 ho c26_GT0 c26_GW10 c26_GW11 c26_GX0 c26_GR0 c26_GR1 HS26_W0 HS26_W1 HS26_X1 HS26_G0 HS26_G1 HB26 HS26_X0
  go_wp2_with fail
  refine (LawT.markTxn u27 loX1 _ os.length _ HS28_X1.out MA (by have := EMB.out; have := HMMB.out; omega)).mono ?_
  rw [EMB.out]
  rintro e u29 ⟨rfl, ho, ht1⟩
  have HT30 := Lib.hid ht1
  have ht := TurnsR.of_turns ht1 (fun v hv => by obtain rfl := List.mem_singleton.1 hv; exact HLX1.out)
  clear ht1
  have c30_GT0 := cellT ht (by have := HGT.out; have := HY1.out; have := HZ2.out; have := HZ4.out; have := HG5.out; have := HLOW0.out; have := HHIW0.out; have := HLOW1.out; have := HHIW1.out; have := HZ6.out; have := HLOX0.out; have := HHIX0.out; have := HZ8.out; have := HLOX1.out; have := HHIX1.out; have := HZ10.out; have := HGX.out; have := HY11.out; have := HZ12.out; have := HLOG0.out; have := HHIG0.out; have := HLOG1.out; have := HHIG1.out; have := HZ14.out; have := HGR.out; have := HY15.out; have := HZ16.out; have := HZ18.out; have := HZ20.out; have := HLOT0.out; have := HHIT0.out; have := HZ22.out; have := HZ24.out; have := HZ26.out; have := HZ28.out; omega) c28_GT0
  have c30_GW10 := cellT ht (by have := HGT.out; have := HY1.out; have := HZ2.out; have := HZ4.out; have := HG5.out; have := HLOW0.out; have := HHIW0.out; have := HLOW1.out; have := HHIW1.out; have := HZ6.out; have := HLOX0.out; have := HHIX0.out; have := HZ8.out; have := HLOX1.out; have := HHIX1.out; have := HZ10.out; have := HGX.out; have := HY11.out; have := HZ12.out; have := HLOG0.out; have := HHIG0.out; have := HLOG1.out; have := HHIG1.out; have := HZ14.out; have := HGR.out; have := HY15.out; have := HZ16.out; have := HZ18.out; have := HZ20.out; have := HLOT0.out; have := HHIT0.out; have := HZ22.out; have := HZ24.out; have := HZ26.out; have := HZ28.out; omega) c28_GW10
  have c30_GW11 := cellT ht (by have := HGT.out; have := HY1.out; have := HZ2.out; have := HZ4.out; have := HG5.out; have := HLOW0.out; have := HHIW0.out; have := HLOW1.out; have := HHIW1.out; have := HZ6.out; have := HLOX0.out; have := HHIX0.out; have := HZ8.out; have := HLOX1.out; have := HHIX1.out; have := HZ10.out; have := HGX.out; have := HY11.out; have := HZ12.out; have := HLOG0.out; have := HHIG0.out; have := HLOG1.out; have := HHIG1.out; have := HZ14.out; have := HGR.out; have := HY15.out; have := HZ16.out; have := HZ18.out; have := HZ20.out; have := HLOT0.out; have := HHIT0.out; have := HZ22.out; have := HZ24.out; have := HZ26.out; have := HZ28.out; omega) c28_GW11
  have c30_GX0 := cellT ht (by have := HGT.out; have := HY1.out; have := HZ2.out; have := HZ4.out; have := HG5.out; have := HLOW0.out; have := HHIW0.out; have := HLOW1.out; have := HHIW1.out; have := HZ6.out; have := HLOX0.out; have := HHIX0.out; have := HZ8.out; have := HLOX1.out; have := HHIX1.out; have := HZ10.out; have := HGX.out; have := HY11.out; have := HZ12.out; have := HLOG0.out; have := HHIG0.out; have := HLOG1.out; have := HHIG1.out; have := HZ14.out; have := HGR.out; have := HY15.out; have := HZ16.out; have := HZ18.out; have := HZ20.out; have := HLOT0.out; have := HHIT0.out; have := HZ22.out; have := HZ24.out; have := HZ26.out; have := HZ28.out; omega) c28_GX0
  have c30_GR0 := cellT ht (by have := HGT.out; have := HY1.out; have := HZ2.out; have := HZ4.out; have := HG5.out; have := HLOW0.out; have := HHIW0.out; have := HLOW1.out; have := HHIW1.out; have := HZ6.out; have := HLOX0.out; have := HHIX0.out; have := HZ8.out; have := HLOX1.out; have := HHIX1.out; have := HZ10.out; have := HGX.out; have := HY11.out; have := HZ12.out; have := HLOG0.out; have := HHIG0.out; have := HLOG1.out; have := HHIG1.out; have := HZ14.out; have := HGR.out; have := HY15.out; have := HZ16.out; have := HZ18.out; have := HZ20.out; have := HLOT0.out; have := HHIT0.out; have := HZ22.out; have := HZ24.out; have := HZ26.out; have := HZ28.out; omega) c28_GR0
  have c30_GR1 := cellT ht (by have := HGT.out; have := HY1.out; have := HZ2.out; have := HZ4.out; have := HG5.out; have := HLOW0.out; have := HHIW0.out; have := HLOW1.out; have := HHIW1.out; have := HZ6.out; have := HLOX0.out; have := HHIX0.out; have := HZ8.out; have := HLOX1.out; have := HHIX1.out; have := HZ10.out; have := HGX.out; have := HY11.out; have := HZ12.out; have := HLOG0.out; have := HHIG0.out; have := HLOG1.out; have := HHIG1.out; have := HZ14.out; have := HGR.out; have := HY15.out; have := HZ16.out; have := HZ18.out; have := HZ20.out; have := HLOT0.out; have := HHIT0.out; have := HZ22.out; have := HZ24.out; have := HZ26.out; have := HZ28.out; omega) c28_GR1
  have HS30_W0 := Lib.hid (own_turnsR HS28_W0.out ht HLW0.out (by have := HGT.out; have := HY1.out; have := HZ2.out; have := HZ4.out; have := HG5.out; have := HLOW0.out; have := HHIW0.out; have := HLOW1.out; have := HHIW1.out; have := HZ6.out; have := HLOX0.out; have := HHIX0.out; have := HZ8.out; have := HLOX1.out; have := HHIX1.out; have := HZ10.out; have := HGX.out; have := HY11.out; have := HZ12.out; have := HLOG0.out; have := HHIG0.out; have := HLOG1.out; have := HHIG1.out; have := HZ14.out; have := HGR.out; have := HY15.out; have := HZ16.out; have := HZ18.out; have := HZ20.out; have := HLOT0.out; have := HHIT0.out; have := HZ22.out; have := HZ24.out; have := HZ26.out; have := HZ28.out; omega))
  have HS30_W1 := Lib.hid (own_turnsR HS28_W1.out ht HLW1.out (by have := HGT.out; have := HY1.out; have := HZ2.out; have := HZ4.out; have := HG5.out; have := HLOW0.out; have := HHIW0.out; have := HLOW1.out; have := HHIW1.out; have := HZ6.out; have := HLOX0.out; have := HHIX0.out; have := HZ8.out; have := HLOX1.out; have := HHIX1.out; have := HZ10.out; have := HGX.out; have := HY11.out; have := HZ12.out; have := HLOG0.out; have := HHIG0.out; have := HLOG1.out; have := HHIG1.out; have := HZ14.out; have := HGR.out; have := HY15.out; have := HZ16.out; have := HZ18.out; have := HZ20.out; have := HLOT0.out; have := HHIT0.out; have := HZ22.out; have := HZ24.out; have := HZ26.out; have := HZ28.out; omega))
  have HS30_X0 := Lib.hid (own_turnsR HS28_X0.out ht HLX0.out (by have := HGT.out; have := HY1.out; have := HZ2.out; have := HZ4.out; have := HG5.out; have := HLOW0.out; have := HHIW0.out; have := HLOW1.out; have := HHIW1.out; have := HZ6.out; have := HLOX0.out; have := HHIX0.out; have := HZ8.out; have := HLOX1.out; have := HHIX1.out; have := HZ10.out; have := HGX.out; have := HY11.out; have := HZ12.out; have := HLOG0.out; have := HHIG0.out; have := HLOG1.out; have := HHIG1.out; have := HZ14.out; have := HGR.out; have := HY15.out; have := HZ16.out; have := HZ18.out; have := HZ20.out; have := HLOT0.out; have := HHIT0.out; have := HZ22.out; have := HZ24.out; have := HZ26.out; have := HZ28.out; omega))
  have HS30_G0 := Lib.hid (own_turnsR HS28_G0.out ht HLG0.out (by have := HGT.out; have := HY1.out; have := HZ2.out; have := HZ4.out; have := HG5.out; have := HLOW0.out; have := HHIW0.out; have := HLOW1.out; have := HHIW1.out; have := HZ6.out; have := HLOX0.out; have := HHIX0.out; have := HZ8.out; have := HLOX1.out; have := HHIX1.out; have := HZ10.out; have := HGX.out; have := HY11.out; have := HZ12.out; have := HLOG0.out; have := HHIG0.out; have := HLOG1.out; have := HHIG1.out; have := HZ14.out; have := HGR.out; have := HY15.out; have := HZ16.out; have := HZ18.out; have := HZ20.out; have := HLOT0.out; have := HHIT0.out; have := HZ22.out; have := HZ24.out; have := HZ26.out; have := HZ28.out; omega))
  have HS30_G1 := Lib.hid (own_turnsR HS28_G1.out ht HLG1.out (by have := HGT.out; have := HY1.out; have := HZ2.out; have := HZ4.out; have := HG5.out; have := HLOW0.out; have := HHIW0.out; have := HLOW1.out; have := HHIW1.out; have := HZ6.out; have := HLOX0.out; have := HHIX0.out; have := HZ8.out; have := HLOX1.out; have := HHIX1.out; have := HZ10.out; have := HGX.out; have := HY11.out; have := HZ12.out; have := HLOG0.out; have := HHIG0.out; have := HLOG1.out; have := HHIG1.out; have := HZ14.out; have := HGR.out; have := HY15.out; have := HZ16.out; have := HZ18.out; have := HZ20.out; have := HLOT0.out; have := HHIT0.out; have := HZ22.out; have := HZ24.out; have := HZ26.out; have := HZ28.out; omega))
  have HB30 := Lib.hid (HB28.out.trans (ht.below (by have := HGT.out; have := HY1.out; have := HZ2.out; have := HZ4.out; have := HG5.out; have := HLOW0.out; have := HHIW0.out; have := HLOW1.out; have := HHIW1.out; have := HZ6.out; have := HLOX0.out; have := HHIX0.out; have := HZ8.out; have := HLOX1.out; have := HHIX1.out; have := HZ10.out; have := HGX.out; have := HY11.out; have := HZ12.out; have := HLOG0.out; have := HHIG0.out; have := HLOG1.out; have := HHIG1.out; have := HZ14.out; have := HGR.out; have := HY15.out; have := HZ16.out; have := HZ18.out; have := HZ20.out; have := HLOT0.out; have := HHIT0.out; have := HZ22.out; have := HZ24.out; have := HZ26.out; have := HZ28.out; omega) (by have := HGT.out; have := HY1.out; have := HZ2.out; have := HZ4.out; have := HG5.out; have := HLOW0.out; have := HHIW0.out; have := HLOW1.out; have := HHIW1.out; have := HZ6.out; have := HLOX0.out; have := HHIX0.out; have := HZ8.out; have := HLOX1.out; have := HHIX1.out; have := HZ10.out; have := HGX.out; have := HY11.out; have := HZ12.out; have := HLOG0.out; have := HHIG0.out; have := HLOG1.out; have := HHIG1.out; have := HZ14.out; have := HGR.out; have := HY15.out; have := HZ16.out; have := HZ18.out; have := HZ20.out; have := HLOT0.out; have := HHIT0.out; have := HZ22.out; have := HZ24.out; have := HZ26.out; have := HZ28.out; have := HB28.out.size; omega)))
  have HZ30 := Lib.hid ht.size
  have HS30_X1 := Lib.hid ho
  clear ht HT30 ho c28_GT0 c28_GW10 c28_GW11 c28_GX0 c28_GR0 c28_GR1 HS28_W0 HS28_W1 HS28_X0 HS28_G0 HS28_G1 HB28 HS28_X1
  go_wp2_with fail
  refine (LawE.eqEntryS u29 _ _ AX HS30_G0.out.sl HS30_W0.out.sl).mono ?_
  rintro e u31 ⟨rfl, hb⟩
  have c32_GT0 := cellB hb c30_GT0
  have c32_GW10 := cellB hb c30_GW10
  have c32_GW11 := cellB hb c30_GW11
  have c32_GX0 := cellB hb c30_GX0
  have c32_GR0 := cellB hb c30_GR0
  have c32_GR1 := cellB hb c30_GR1
  have HS32_W0 := Lib.hid (HS30_W0.out.below hb)
  have HS32_W1 := Lib.hid (HS30_W1.out.below hb)
  have HS32_X0 := Lib.hid (HS30_X0.out.below hb)
  have HS32_X1 := Lib.hid (HS30_X1.out.below hb)
  have HS32_G0 := Lib.hid (HS30_G0.out.below hb)
  have HS32_G1 := Lib.hid (HS30_G1.out.below hb)
  have HB32 := Lib.hid (HB30.out.trans (hb.mono HB30.out.size))
  have HZ32 := Lib.hid hb.size
  clear hb c30_GT0 c30_GW10 c30_GW11 c30_GX0 c30_GR0 c30_GR1 HS30_W0 HS30_W1 HS30_X0 HS30_X1 HS30_G0 HS30_G1 HB30
  go_wp2_with fail
  refine (LawR.eqResult u31 _ _ CC AV ⟨_, rfl, HS32_G1.out.sl⟩ ⟨_, rfl, HS32_W1.out.sl⟩).mono ?_
  rintro e u33 ⟨rfl, hb⟩
  have c34_GT0 := cellB hb c32_GT0
  have c34_GW10 := cellB hb c32_GW10
  have c34_GW11 := cellB hb c32_GW11
  have c34_GX0 := cellB hb c32_GX0
  have c34_GR0 := cellB hb c32_GR0
  have c34_GR1 := cellB hb c32_GR1
  have HS34_W0 := Lib.hid (HS32_W0.out.below hb)
  have HS34_W1 := Lib.hid (HS32_W1.out.below hb)
  have HS34_X0 := Lib.hid (HS32_X0.out.below hb)
  have HS34_X1 := Lib.hid (HS32_X1.out.below hb)
  have HS34_G0 := Lib.hid (HS32_G0.out.below hb)
  have HS34_G1 := Lib.hid (HS32_G1.out.below hb)
  have HB34 := Lib.hid (HB32.out.trans (hb.mono HB32.out.size))
  have HZ34 := Lib.hid hb.size
  clear hb c32_GT0 c32_GW10 c32_GW11 c32_GX0 c32_GR0 c32_GR1 HS32_W0 HS32_W1 HS32_X0 HS32_X1 HS32_G0 HS32_G1 HB32
  go_wp2_with fail
  refine (LawE.markEntryS u33 loG0 _ AX.length _ HS34_G0.out 1 (by have := EMC.out; have := HMMC.out; omega)).mono ?_
  rw [EMC.out]
  rintro e u35 ⟨rfl, ho, ht1⟩
  have HT36 := Lib.hid ht1
  have ht := TurnsR.of_turns ht1 (fun v hv => by obtain rfl := List.mem_singleton.1 hv; exact HLG0.out)
  clear ht1
  have c36_GT0 := cellT ht (by have := HGT.out; have := HY1.out; have := HZ2.out; have := HZ4.out; have := HG5.out; have := HLOW0.out; have := HHIW0.out; have := HLOW1.out; have := HHIW1.out; have := HZ6.out; have := HLOX0.out; have := HHIX0.out; have := HZ8.out; have := HLOX1.out; have := HHIX1.out; have := HZ10.out; have := HGX.out; have := HY11.out; have := HZ12.out; have := HLOG0.out; have := HHIG0.out; have := HLOG1.out; have := HHIG1.out; have := HZ14.out; have := HGR.out; have := HY15.out; have := HZ16.out; have := HZ18.out; have := HZ20.out; have := HLOT0.out; have := HHIT0.out; have := HZ22.out; have := HZ24.out; have := HZ26.out; have := HZ28.out; have := HZ30.out; have := HZ32.out; have := HZ34.out; omega) c34_GT0
  have c36_GW10 := cellT ht (by have := HGT.out; have := HY1.out; have := HZ2.out; have := HZ4.out; have := HG5.out; have := HLOW0.out; have := HHIW0.out; have := HLOW1.out; have := HHIW1.out; have := HZ6.out; have := HLOX0.out; have := HHIX0.out; have := HZ8.out; have := HLOX1.out; have := HHIX1.out; have := HZ10.out; have := HGX.out; have := HY11.out; have := HZ12.out; have := HLOG0.out; have := HHIG0.out; have := HLOG1.out; have := HHIG1.out; have := HZ14.out; have := HGR.out; have := HY15.out; have := HZ16.out; have := HZ18.out; have := HZ20.out; have := HLOT0.out; have := HHIT0.out; have := HZ22.out; have := HZ24.out; have := HZ26.out; have := HZ28.out; have := HZ30.out; have := HZ32.out; have := HZ34.out; omega) c34_GW10
  have c36_GW11 := cellT ht (by have := HGT.out; have := HY1.out; have := HZ2.out; have := HZ4.out; have := HG5.out; have := HLOW0.out; have := HHIW0.out; have := HLOW1.out; have := HHIW1.out; have := HZ6.out; have := HLOX0.out; have := HHIX0.out; have := HZ8.out; have := HLOX1.out; have := HHIX1.out; have := HZ10.out; have := HGX.out; have := HY11.out; have := HZ12.out; have := HLOG0.out; have := HHIG0.out; have := HLOG1.out; have := HHIG1.out; have := HZ14.out; have := HGR.out; have := HY15.out; have := HZ16.out; have := HZ18.out; have := HZ20.out; have := HLOT0.out; have := HHIT0.out; have := HZ22.out; have := HZ24.out; have := HZ26.out; have := HZ28.out; have := HZ30.out; have := HZ32.out; have := HZ34.out; omega) c34_GW11
  have c36_GX0 := cellT ht (by have := HGT.out; have := HY1.out; have := HZ2.out; have := HZ4.out; have := HG5.out; have := HLOW0.out; have := HHIW0.out; have := HLOW1.out; have := HHIW1.out; have := HZ6.out; have := HLOX0.out; have := HHIX0.out; have := HZ8.out; have := HLOX1.out; have := HHIX1.out; have := HZ10.out; have := HGX.out; have := HY11.out; have := HZ12.out; have := HLOG0.out; have := HHIG0.out; have := HLOG1.out; have := HHIG1.out; have := HZ14.out; have := HGR.out; have := HY15.out; have := HZ16.out; have := HZ18.out; have := HZ20.out; have := HLOT0.out; have := HHIT0.out; have := HZ22.out; have := HZ24.out; have := HZ26.out; have := HZ28.out; have := HZ30.out; have := HZ32.out; have := HZ34.out; omega) c34_GX0
  have c36_GR0 := cellT ht (by have := HGT.out; have := HY1.out; have := HZ2.out; have := HZ4.out; have := HG5.out; have := HLOW0.out; have := HHIW0.out; have := HLOW1.out; have := HHIW1.out; have := HZ6.out; have := HLOX0.out; have := HHIX0.out; have := HZ8.out; have := HLOX1.out; have := HHIX1.out; have := HZ10.out; have := HGX.out; have := HY11.out; have := HZ12.out; have := HLOG0.out; have := HHIG0.out; have := HLOG1.out; have := HHIG1.out; have := HZ14.out; have := HGR.out; have := HY15.out; have := HZ16.out; have := HZ18.out; have := HZ20.out; have := HLOT0.out; have := HHIT0.out; have := HZ22.out; have := HZ24.out; have := HZ26.out; have := HZ28.out; have := HZ30.out; have := HZ32.out; have := HZ34.out; omega) c34_GR0
  have c36_GR1 := cellT ht (by have := HGT.out; have := HY1.out; have := HZ2.out; have := HZ4.out; have := HG5.out; have := HLOW0.out; have := HHIW0.out; have := HLOW1.out; have := HHIW1.out; have := HZ6.out; have := HLOX0.out; have := HHIX0.out; have := HZ8.out; have := HLOX1.out; have := HHIX1.out; have := HZ10.out; have := HGX.out; have := HY11.out; have := HZ12.out; have := HLOG0.out; have := HHIG0.out; have := HLOG1.out; have := HHIG1.out; have := HZ14.out; have := HGR.out; have := HY15.out; have := HZ16.out; have := HZ18.out; have := HZ20.out; have := HLOT0.out; have := HHIT0.out; have := HZ22.out; have := HZ24.out; have := HZ26.out; have := HZ28.out; have := HZ30.out; have := HZ32.out; have := HZ34.out; omega) c34_GR1
  have HS36_W0 := Lib.hid (own_turnsR HS34_W0.out ht HLW0.out (by have := HGT.out; have := HY1.out; have := HZ2.out; have := HZ4.out; have := HG5.out; have := HLOW0.out; have := HHIW0.out; have := HLOW1.out; have := HHIW1.out; have := HZ6.out; have := HLOX0.out; have := HHIX0.out; have := HZ8.out; have := HLOX1.out; have := HHIX1.out; have := HZ10.out; have := HGX.out; have := HY11.out; have := HZ12.out; have := HLOG0.out; have := HHIG0.out; have := HLOG1.out; have := HHIG1.out; have := HZ14.out; have := HGR.out; have := HY15.out; have := HZ16.out; have := HZ18.out; have := HZ20.out; have := HLOT0.out; have := HHIT0.out; have := HZ22.out; have := HZ24.out; have := HZ26.out; have := HZ28.out; have := HZ30.out; have := HZ32.out; have := HZ34.out; omega))
  have HS36_W1 := Lib.hid (own_turnsR HS34_W1.out ht HLW1.out (by have := HGT.out; have := HY1.out; have := HZ2.out; have := HZ4.out; have := HG5.out; have := HLOW0.out; have := HHIW0.out; have := HLOW1.out; have := HHIW1.out; have := HZ6.out; have := HLOX0.out; have := HHIX0.out; have := HZ8.out; have := HLOX1.out; have := HHIX1.out; have := HZ10.out; have := HGX.out; have := HY11.out; have := HZ12.out; have := HLOG0.out; have := HHIG0.out; have := HLOG1.out; have := HHIG1.out; have := HZ14.out; have := HGR.out; have := HY15.out; have := HZ16.out; have := HZ18.out; have := HZ20.out; have := HLOT0.out; have := HHIT0.out; have := HZ22.out; have := HZ24.out; have := HZ26.out; have := HZ28.out; have := HZ30.out; have := HZ32.out; have := HZ34.out; omega))
  have HS36_X0 := Lib.hid (own_turnsR HS34_X0.out ht HLX0.out (by have := HGT.out; have := HY1.out; have := HZ2.out; have := HZ4.out; have := HG5.out; have := HLOW0.out; have := HHIW0.out; have := HLOW1.out; have := HHIW1.out; have := HZ6.out; have := HLOX0.out; have := HHIX0.out; have := HZ8.out; have := HLOX1.out; have := HHIX1.out; have := HZ10.out; have := HGX.out; have := HY11.out; have := HZ12.out; have := HLOG0.out; have := HHIG0.out; have := HLOG1.out; have := HHIG1.out; have := HZ14.out; have := HGR.out; have := HY15.out; have := HZ16.out; have := HZ18.out; have := HZ20.out; have := HLOT0.out; have := HHIT0.out; have := HZ22.out; have := HZ24.out; have := HZ26.out; have := HZ28.out; have := HZ30.out; have := HZ32.out; have := HZ34.out; omega))
  have HS36_X1 := Lib.hid (own_turnsR HS34_X1.out ht HLX1.out (by have := HGT.out; have := HY1.out; have := HZ2.out; have := HZ4.out; have := HG5.out; have := HLOW0.out; have := HHIW0.out; have := HLOW1.out; have := HHIW1.out; have := HZ6.out; have := HLOX0.out; have := HHIX0.out; have := HZ8.out; have := HLOX1.out; have := HHIX1.out; have := HZ10.out; have := HGX.out; have := HY11.out; have := HZ12.out; have := HLOG0.out; have := HHIG0.out; have := HLOG1.out; have := HHIG1.out; have := HZ14.out; have := HGR.out; have := HY15.out; have := HZ16.out; have := HZ18.out; have := HZ20.out; have := HLOT0.out; have := HHIT0.out; have := HZ22.out; have := HZ24.out; have := HZ26.out; have := HZ28.out; have := HZ30.out; have := HZ32.out; have := HZ34.out; omega))
  have HS36_G1 := Lib.hid (own_turns HS34_G1.out HT36.out (fun v hv => by obtain rfl := List.mem_singleton.1 hv; exact HAG0.out.symm))
  have HB36 := Lib.hid (HB34.out.trans (ht.below (by have := HGT.out; have := HY1.out; have := HZ2.out; have := HZ4.out; have := HG5.out; have := HLOW0.out; have := HHIW0.out; have := HLOW1.out; have := HHIW1.out; have := HZ6.out; have := HLOX0.out; have := HHIX0.out; have := HZ8.out; have := HLOX1.out; have := HHIX1.out; have := HZ10.out; have := HGX.out; have := HY11.out; have := HZ12.out; have := HLOG0.out; have := HHIG0.out; have := HLOG1.out; have := HHIG1.out; have := HZ14.out; have := HGR.out; have := HY15.out; have := HZ16.out; have := HZ18.out; have := HZ20.out; have := HLOT0.out; have := HHIT0.out; have := HZ22.out; have := HZ24.out; have := HZ26.out; have := HZ28.out; have := HZ30.out; have := HZ32.out; have := HZ34.out; omega) (by have := HGT.out; have := HY1.out; have := HZ2.out; have := HZ4.out; have := HG5.out; have := HLOW0.out; have := HHIW0.out; have := HLOW1.out; have := HHIW1.out; have := HZ6.out; have := HLOX0.out; have := HHIX0.out; have := HZ8.out; have := HLOX1.out; have := HHIX1.out; have := HZ10.out; have := HGX.out; have := HY11.out; have := HZ12.out; have := HLOG0.out; have := HHIG0.out; have := HLOG1.out; have := HHIG1.out; have := HZ14.out; have := HGR.out; have := HY15.out; have := HZ16.out; have := HZ18.out; have := HZ20.out; have := HLOT0.out; have := HHIT0.out; have := HZ22.out; have := HZ24.out; have := HZ26.out; have := HZ28.out; have := HZ30.out; have := HZ32.out; have := HZ34.out; have := HB34.out.size; omega)))
  have HZ36 := Lib.hid ht.size
  have HS36_G0 := Lib.hid ho
  clear ht HT36 ho c34_GT0 c34_GW10 c34_GW11 c34_GX0 c34_GR0 c34_GR1 HS34_W0 HS34_W1 HS34_X0 HS34_X1 HS34_G1 HB34 HS34_G0
  go_wp2_with fail
  refine (LawM.markResult u35 loG1 CC _ AV.length _ HS36_G1.out MC (by have := EMD.out; have := HMMD.out; omega)).mono ?_
  rw [EMD.out]
  rintro e u37 ⟨rfl, ho, ht1⟩
  have HT38 := Lib.hid ht1
  have ht := TurnsR.of_turns ht1 (fun v hv => by obtain rfl := List.mem_singleton.1 hv; exact HLG1.out)
  clear ht1
  have c38_GT0 := cellT ht (by have := HGT.out; have := HY1.out; have := HZ2.out; have := HZ4.out; have := HG5.out; have := HLOW0.out; have := HHIW0.out; have := HLOW1.out; have := HHIW1.out; have := HZ6.out; have := HLOX0.out; have := HHIX0.out; have := HZ8.out; have := HLOX1.out; have := HHIX1.out; have := HZ10.out; have := HGX.out; have := HY11.out; have := HZ12.out; have := HLOG0.out; have := HHIG0.out; have := HLOG1.out; have := HHIG1.out; have := HZ14.out; have := HGR.out; have := HY15.out; have := HZ16.out; have := HZ18.out; have := HZ20.out; have := HLOT0.out; have := HHIT0.out; have := HZ22.out; have := HZ24.out; have := HZ26.out; have := HZ28.out; have := HZ30.out; have := HZ32.out; have := HZ34.out; have := HZ36.out; omega) c36_GT0
  have c38_GW10 := cellT ht (by have := HGT.out; have := HY1.out; have := HZ2.out; have := HZ4.out; have := HG5.out; have := HLOW0.out; have := HHIW0.out; have := HLOW1.out; have := HHIW1.out; have := HZ6.out; have := HLOX0.out; have := HHIX0.out; have := HZ8.out; have := HLOX1.out; have := HHIX1.out; have := HZ10.out; have := HGX.out; have := HY11.out; have := HZ12.out; have := HLOG0.out; have := HHIG0.out; have := HLOG1.out; have := HHIG1.out; have := HZ14.out; have := HGR.out; have := HY15.out; have := HZ16.out; have := HZ18.out; have := HZ20.out; have := HLOT0.out; have := HHIT0.out; have := HZ22.out; have := HZ24.out; have := HZ26.out; have := HZ28.out; have := HZ30.out; have := HZ32.out; have := HZ34.out; have := HZ36.out; omega) c36_GW10
  have c38_GW11 := cellT ht (by have := HGT.out; have := HY1.out; have := HZ2.out; have := HZ4.out; have := HG5.out; have := HLOW0.out; have := HHIW0.out; have := HLOW1.out; have := HHIW1.out; have := HZ6.out; have := HLOX0.out; have := HHIX0.out; have := HZ8.out; have := HLOX1.out; have := HHIX1.out; have := HZ10.out; have := HGX.out; have := HY11.out; have := HZ12.out; have := HLOG0.out; have := HHIG0.out; have := HLOG1.out; have := HHIG1.out; have := HZ14.out; have := HGR.out; have := HY15.out; have := HZ16.out; have := HZ18.out; have := HZ20.out; have := HLOT0.out; have := HHIT0.out; have := HZ22.out; have := HZ24.out; have := HZ26.out; have := HZ28.out; have := HZ30.out; have := HZ32.out; have := HZ34.out; have := HZ36.out; omega) c36_GW11
  have c38_GX0 := cellT ht (by have := HGT.out; have := HY1.out; have := HZ2.out; have := HZ4.out; have := HG5.out; have := HLOW0.out; have := HHIW0.out; have := HLOW1.out; have := HHIW1.out; have := HZ6.out; have := HLOX0.out; have := HHIX0.out; have := HZ8.out; have := HLOX1.out; have := HHIX1.out; have := HZ10.out; have := HGX.out; have := HY11.out; have := HZ12.out; have := HLOG0.out; have := HHIG0.out; have := HLOG1.out; have := HHIG1.out; have := HZ14.out; have := HGR.out; have := HY15.out; have := HZ16.out; have := HZ18.out; have := HZ20.out; have := HLOT0.out; have := HHIT0.out; have := HZ22.out; have := HZ24.out; have := HZ26.out; have := HZ28.out; have := HZ30.out; have := HZ32.out; have := HZ34.out; have := HZ36.out; omega) c36_GX0
  have c38_GR0 := cellT ht (by have := HGT.out; have := HY1.out; have := HZ2.out; have := HZ4.out; have := HG5.out; have := HLOW0.out; have := HHIW0.out; have := HLOW1.out; have := HHIW1.out; have := HZ6.out; have := HLOX0.out; have := HHIX0.out; have := HZ8.out; have := HLOX1.out; have := HHIX1.out; have := HZ10.out; have := HGX.out; have := HY11.out; have := HZ12.out; have := HLOG0.out; have := HHIG0.out; have := HLOG1.out; have := HHIG1.out; have := HZ14.out; have := HGR.out; have := HY15.out; have := HZ16.out; have := HZ18.out; have := HZ20.out; have := HLOT0.out; have := HHIT0.out; have := HZ22.out; have := HZ24.out; have := HZ26.out; have := HZ28.out; have := HZ30.out; have := HZ32.out; have := HZ34.out; have := HZ36.out; omega) c36_GR0
  have c38_GR1 := cellT ht (by have := HGT.out; have := HY1.out; have := HZ2.out; have := HZ4.out; have := HG5.out; have := HLOW0.out; have := HHIW0.out; have := HLOW1.out; have := HHIW1.out; have := HZ6.out; have := HLOX0.out; have := HHIX0.out; have := HZ8.out; have := HLOX1.out; have := HHIX1.out; have := HZ10.out; have := HGX.out; have := HY11.out; have := HZ12.out; have := HLOG0.out; have := HHIG0.out; have := HLOG1.out; have := HHIG1.out; have := HZ14.out; have := HGR.out; have := HY15.out; have := HZ16.out; have := HZ18.out; have := HZ20.out; have := HLOT0.out; have := HHIT0.out; have := HZ22.out; have := HZ24.out; have := HZ26.out; have := HZ28.out; have := HZ30.out; have := HZ32.out; have := HZ34.out; have := HZ36.out; omega) c36_GR1
  have HS38_W0 := Lib.hid (own_turnsR HS36_W0.out ht HLW0.out (by have := HGT.out; have := HY1.out; have := HZ2.out; have := HZ4.out; have := HG5.out; have := HLOW0.out; have := HHIW0.out; have := HLOW1.out; have := HHIW1.out; have := HZ6.out; have := HLOX0.out; have := HHIX0.out; have := HZ8.out; have := HLOX1.out; have := HHIX1.out; have := HZ10.out; have := HGX.out; have := HY11.out; have := HZ12.out; have := HLOG0.out; have := HHIG0.out; have := HLOG1.out; have := HHIG1.out; have := HZ14.out; have := HGR.out; have := HY15.out; have := HZ16.out; have := HZ18.out; have := HZ20.out; have := HLOT0.out; have := HHIT0.out; have := HZ22.out; have := HZ24.out; have := HZ26.out; have := HZ28.out; have := HZ30.out; have := HZ32.out; have := HZ34.out; have := HZ36.out; omega))
  have HS38_W1 := Lib.hid (own_turnsR HS36_W1.out ht HLW1.out (by have := HGT.out; have := HY1.out; have := HZ2.out; have := HZ4.out; have := HG5.out; have := HLOW0.out; have := HHIW0.out; have := HLOW1.out; have := HHIW1.out; have := HZ6.out; have := HLOX0.out; have := HHIX0.out; have := HZ8.out; have := HLOX1.out; have := HHIX1.out; have := HZ10.out; have := HGX.out; have := HY11.out; have := HZ12.out; have := HLOG0.out; have := HHIG0.out; have := HLOG1.out; have := HHIG1.out; have := HZ14.out; have := HGR.out; have := HY15.out; have := HZ16.out; have := HZ18.out; have := HZ20.out; have := HLOT0.out; have := HHIT0.out; have := HZ22.out; have := HZ24.out; have := HZ26.out; have := HZ28.out; have := HZ30.out; have := HZ32.out; have := HZ34.out; have := HZ36.out; omega))
  have HS38_X0 := Lib.hid (own_turnsR HS36_X0.out ht HLX0.out (by have := HGT.out; have := HY1.out; have := HZ2.out; have := HZ4.out; have := HG5.out; have := HLOW0.out; have := HHIW0.out; have := HLOW1.out; have := HHIW1.out; have := HZ6.out; have := HLOX0.out; have := HHIX0.out; have := HZ8.out; have := HLOX1.out; have := HHIX1.out; have := HZ10.out; have := HGX.out; have := HY11.out; have := HZ12.out; have := HLOG0.out; have := HHIG0.out; have := HLOG1.out; have := HHIG1.out; have := HZ14.out; have := HGR.out; have := HY15.out; have := HZ16.out; have := HZ18.out; have := HZ20.out; have := HLOT0.out; have := HHIT0.out; have := HZ22.out; have := HZ24.out; have := HZ26.out; have := HZ28.out; have := HZ30.out; have := HZ32.out; have := HZ34.out; have := HZ36.out; omega))
  have HS38_X1 := Lib.hid (own_turnsR HS36_X1.out ht HLX1.out (by have := HGT.out; have := HY1.out; have := HZ2.out; have := HZ4.out; have := HG5.out; have := HLOW0.out; have := HHIW0.out; have := HLOW1.out; have := HHIW1.out; have := HZ6.out; have := HLOX0.out; have := HHIX0.out; have := HZ8.out; have := HLOX1.out; have := HHIX1.out; have := HZ10.out; have := HGX.out; have := HY11.out; have := HZ12.out; have := HLOG0.out; have := HHIG0.out; have := HLOG1.out; have := HHIG1.out; have := HZ14.out; have := HGR.out; have := HY15.out; have := HZ16.out; have := HZ18.out; have := HZ20.out; have := HLOT0.out; have := HHIT0.out; have := HZ22.out; have := HZ24.out; have := HZ26.out; have := HZ28.out; have := HZ30.out; have := HZ32.out; have := HZ34.out; have := HZ36.out; omega))
  have HS38_G0 := Lib.hid (own_turns HS36_G0.out HT38.out (fun v hv => by obtain rfl := List.mem_singleton.1 hv; exact HAG0.out))
  have HB38 := Lib.hid (HB36.out.trans (ht.below (by have := HGT.out; have := HY1.out; have := HZ2.out; have := HZ4.out; have := HG5.out; have := HLOW0.out; have := HHIW0.out; have := HLOW1.out; have := HHIW1.out; have := HZ6.out; have := HLOX0.out; have := HHIX0.out; have := HZ8.out; have := HLOX1.out; have := HHIX1.out; have := HZ10.out; have := HGX.out; have := HY11.out; have := HZ12.out; have := HLOG0.out; have := HHIG0.out; have := HLOG1.out; have := HHIG1.out; have := HZ14.out; have := HGR.out; have := HY15.out; have := HZ16.out; have := HZ18.out; have := HZ20.out; have := HLOT0.out; have := HHIT0.out; have := HZ22.out; have := HZ24.out; have := HZ26.out; have := HZ28.out; have := HZ30.out; have := HZ32.out; have := HZ34.out; have := HZ36.out; omega) (by have := HGT.out; have := HY1.out; have := HZ2.out; have := HZ4.out; have := HG5.out; have := HLOW0.out; have := HHIW0.out; have := HLOW1.out; have := HHIW1.out; have := HZ6.out; have := HLOX0.out; have := HHIX0.out; have := HZ8.out; have := HLOX1.out; have := HHIX1.out; have := HZ10.out; have := HGX.out; have := HY11.out; have := HZ12.out; have := HLOG0.out; have := HHIG0.out; have := HLOG1.out; have := HHIG1.out; have := HZ14.out; have := HGR.out; have := HY15.out; have := HZ16.out; have := HZ18.out; have := HZ20.out; have := HLOT0.out; have := HHIT0.out; have := HZ22.out; have := HZ24.out; have := HZ26.out; have := HZ28.out; have := HZ30.out; have := HZ32.out; have := HZ34.out; have := HZ36.out; have := HB36.out.size; omega)))
  have HZ38 := Lib.hid ht.size
  have HS38_G1 := Lib.hid ho
  clear ht HT38 ho c36_GT0 c36_GW10 c36_GW11 c36_GX0 c36_GR0 c36_GR1 HS36_W0 HS36_W1 HS36_X0 HS36_X1 HS36_G0 HB36 HS36_G1
  go_wp2_with fail
  refine (LawE.heldEntryS u37 _ AX.length 1 HS38_G0.out.sl (by have := EMC.out; have := HMMC.out; omega)).mono ?_
  rw [EMC.out]
  rintro e u39 ⟨rfl, hu⟩
  have hu2 := hu.symm
  subst hu2
  clear hu
  go_wp2_with fail
  refine (LawM.heldResult u37 CC _ AV.length MC HS38_G1.out.sl (by have := EMD.out; have := HMMD.out; omega)).mono ?_
  rw [EMD.out]
  rintro e u40 ⟨rfl, hb⟩
  have c41_GT0 := cellB hb c38_GT0
  have c41_GW10 := cellB hb c38_GW10
  have c41_GW11 := cellB hb c38_GW11
  have c41_GX0 := cellB hb c38_GX0
  have c41_GR0 := cellB hb c38_GR0
  have c41_GR1 := cellB hb c38_GR1
  have HS41_W0 := Lib.hid (HS38_W0.out.below hb)
  have HS41_W1 := Lib.hid (HS38_W1.out.below hb)
  have HS41_X0 := Lib.hid (HS38_X0.out.below hb)
  have HS41_X1 := Lib.hid (HS38_X1.out.below hb)
  have HS41_G0 := Lib.hid (HS38_G0.out.below hb)
  have HS41_G1 := Lib.hid (HS38_G1.out.below hb)
  have HB41 := Lib.hid (HB38.out.trans (hb.mono HB38.out.size))
  have HZ41 := Lib.hid hb.size
  clear hb c38_GT0 c38_GW10 c38_GW11 c38_GX0 c38_GR0 c38_GR1 HS38_W0 HS38_W1 HS38_X0 HS38_X1 HS38_G0 HS38_G1 HB38
  go_wp2_with fail
  go_upto_region 35 with (fail)
  go_cut [17, 18, 19] from 119 to 127 (fun r6 r7 r8 wx => ∃ (q : Nat) (a1 a2 : Option Addr) (p1 p2 : Nat), r6 = .slice a1 AX.length p1 ∧ r7 = .pointer (some ⟨q, 0, none⟩) ∧ r8 = .int .i64 KK ∧ (wx.cell? ⟨q, 0, none⟩ = some (.int .i64 CC) ∧ wx.cell? ⟨q, 1, none⟩ = some (.slice a2 AV.length p2)) ∧ Hid (u40.heap.size ≤ q ∧ q < wx.heap.size ∧ Own wx u40.heap.size 2 (.slice a1 AX.length p1) AX.length (ec AX) ∧ Own wx u40.heap.size 1 (.slice a2 AV.length p2) AV.length (nc AV) ) ∧ Hid (Below u40.heap.size u40 wx))
  case first =>
    have HVC := Lib.hid (HV.out.below HB41.out)
    have HUC := Lib.hid (HU.out.below HB41.out)
    have HCL := Lib.hid (fun (t : World) (ht : Below u40.heap.size u40 t) => cellB ht c41_GT0)
    have lG := World.block_lt_of_cell? u40 _ c41_GT0
    simp only at lG
    have HLG := Lib.hid lG
    clear c41_GW10 c41_GW11 c41_GX0 c41_GR0 c41_GR1
    go_region_held3 (fun w' => w'.cell? ⟨GT, 0, none⟩ = some (.slice aU os.length cU))
      (first | exact c41_GT0 | exact f3 | exact f2 | exact f1 | go_simp)
      (first
      | (go_at_call 22; refine (LawE.toEntryS _ _ xs (HVC.out.below (by repeat (with_reducible (first | exact Below.refl _ _ | refine Below.setCell ?_ (by first | exact Nat.le_refl _ | omega | (simp; done) | (simp; omega)) _ | refine Below.alloc ?_ (by first | exact Nat.le_refl _ | omega | (simp; done) | (simp; omega)) _ | refine Below.drew ?_ | refine below_drewN ?_ _ | refine Below.trans ?_ (HE2.out.mono (by first | exact Nat.le_refl _ | omega | (simp; done) | (simp; omega))))))) HLX.out).mono ?_; rintro e y1 ⟨r1, rfl, ho, hb⟩; have HO1 := Lib.hid ho.sl; obtain ⟨hc1, hf1⟩ := bcell hb; have hz1 := hb.size; have HF1 := Lib.hid hb; have HE1 : Hid (Below u40.heap.size u40 y1) := Lib.hid (by repeat (with_reducible (first | exact Below.refl _ _ | refine Below.setCell ?_ (by first | exact Nat.le_refl _ | omega | (simp; done) | (simp; omega)) _ | refine Below.alloc ?_ (by first | exact Nat.le_refl _ | omega | (simp; done) | (simp; omega)) _ | refine Below.drew ?_ | refine below_drewN ?_ _ | refine Below.trans ?_ (HF1.out.mono (by first | exact Nat.le_refl _ | omega | (simp; done) | (simp; omega))) | refine Below.trans ?_ (HE1.out.mono (by first | exact Nat.le_refl _ | omega | (simp; done) | (simp; omega))) | refine Below.trans ?_ (HE2.out.mono (by first | exact Nat.le_refl _ | omega | (simp; done) | (simp; omega)))))); have f1 := HCL.out _ HE1.out; (try simp only [World.heap_drewN] at hc1 hf1 hz1); (try simp only [World.size_drew] at hc1 hf1 hz1); (try simp only [World.size_alloc] at hc1 hf1 hz1); have lY1 : GT < y1.heap.size := (by omega); (try have l01 : u40.heap.size < y1.heap.size := (by omega)); (try have l21 : y2.heap.size < y1.heap.size := (by omega)); clear ho hb)
      | (go_at_call 23; refine (LawT.toTxn _ _ os (HUC.out.below (by repeat (with_reducible (first | exact Below.refl _ _ | refine Below.setCell ?_ (by first | exact Nat.le_refl _ | omega | (simp; done) | (simp; omega)) _ | refine Below.alloc ?_ (by first | exact Nat.le_refl _ | omega | (simp; done) | (simp; omega)) _ | refine Below.drew ?_ | refine below_drewN ?_ _ | refine Below.trans ?_ (HE1.out.mono (by first | exact Nat.le_refl _ | omega | (simp; done) | (simp; omega))))))) HLU.out).mono ?_; rintro e y2 ⟨r2, rfl, ho, hb⟩; have HO2 := Lib.hid ho.sl; obtain ⟨hc2, hf2⟩ := bcell hb; have hz2 := hb.size; have HF2 := Lib.hid hb; have HE2 : Hid (Below u40.heap.size u40 y2) := Lib.hid (by repeat (with_reducible (first | exact Below.refl _ _ | refine Below.setCell ?_ (by first | exact Nat.le_refl _ | omega | (simp; done) | (simp; omega)) _ | refine Below.alloc ?_ (by first | exact Nat.le_refl _ | omega | (simp; done) | (simp; omega)) _ | refine Below.drew ?_ | refine below_drewN ?_ _ | refine Below.trans ?_ (HF2.out.mono (by first | exact Nat.le_refl _ | omega | (simp; done) | (simp; omega))) | refine Below.trans ?_ (HE1.out.mono (by first | exact Nat.le_refl _ | omega | (simp; done) | (simp; omega))) | refine Below.trans ?_ (HE2.out.mono (by first | exact Nat.le_refl _ | omega | (simp; done) | (simp; omega)))))); have f2 := HCL.out _ HE2.out; (try simp only [World.heap_drewN] at hc2 hf2 hz2); (try simp only [World.size_drew] at hc2 hf2 hz2); (try simp only [World.size_alloc] at hc2 hf2 hz2); have lY2 : GT < y2.heap.size := (by omega); (try have l02 : u40.heap.size < y2.heap.size := (by omega)); (try have l12 : y1.heap.size < y2.heap.size := (by omega)); clear ho hb)
      | (go_at_call 24; refine (HI.out _ _ (HO1.out.below (by repeat (with_reducible (first | exact Below.refl _ _ | refine Below.setCell ?_ (by first | exact Nat.le_refl _ | omega | (simp; done) | (simp; omega)) _ | refine Below.alloc ?_ (by first | exact Nat.le_refl _ | omega | (simp; done) | (simp; omega)) _ | refine Below.drew ?_ | refine below_drewN ?_ _ | refine Below.trans ?_ (HF2.out.mono (by first | exact Nat.le_refl _ | omega | (simp; done) | (simp; omega))) | refine Below.trans ?_ (HF1.out.mono (by first | exact Nat.le_refl _ | omega | (simp; done) | (simp; omega))))))) _ (HO2.out.below (by repeat (with_reducible (first | exact Below.refl _ _ | refine Below.setCell ?_ (by first | exact Nat.le_refl _ | omega | (simp; done) | (simp; omega)) _ | refine Below.alloc ?_ (by first | exact Nat.le_refl _ | omega | (simp; done) | (simp; omega)) _ | refine Below.drew ?_ | refine below_drewN ?_ _ | refine Below.trans ?_ (HF2.out.mono (by first | exact Nat.le_refl _ | omega | (simp; done) | (simp; omega))) | refine Below.trans ?_ (HF1.out.mono (by first | exact Nat.le_refl _ | omega | (simp; done) | (simp; omega)))))))).mono ?_; rintro e y3 ⟨⟨x3, r3, rfl, hq⟩, hb⟩; simp only at hq; have HQ := Lib.hid (And.intro hq.out.1 hq.out.2.1); obtain ⟨a6, c6, rfl, _, _⟩ := hq.out.1.sl.form; obtain ⟨a7, c7, rfl, _, _⟩ := hq.out.2.1.sl.form; obtain ⟨hc3, hf3⟩ := bcell hb; have hz3 := hb.size; have HF3 := Lib.hid hb; have HE3 : Hid (Below u40.heap.size u40 y3) := Lib.hid (by repeat (with_reducible (first | exact Below.refl _ _ | refine Below.setCell ?_ (by first | exact Nat.le_refl _ | omega | (simp; done) | (simp; omega)) _ | refine Below.alloc ?_ (by first | exact Nat.le_refl _ | omega | (simp; done) | (simp; omega)) _ | refine Below.drew ?_ | refine below_drewN ?_ _ | refine Below.trans ?_ (HF3.out.mono (by first | exact Nat.le_refl _ | omega | (simp; done) | (simp; omega))) | refine Below.trans ?_ (HE1.out.mono (by first | exact Nat.le_refl _ | omega | (simp; done) | (simp; omega))) | refine Below.trans ?_ (HE2.out.mono (by first | exact Nat.le_refl _ | omega | (simp; done) | (simp; omega)))))); have f3 := HCL.out _ HE3.out; (try simp only [World.heap_drewN] at hc3 hf3 hz3); (try simp only [World.size_drew] at hc3 hf3 hz3); (try simp only [World.size_alloc] at hc3 hf3 hz3); have lY3 : GT < y3.heap.size := (by omega); (try have l03 : u40.heap.size < y3.heap.size := (by omega)); (try have l13 : y1.heap.size < y3.heap.size := (by omega)); (try have l23 : y2.heap.size < y3.heap.size := (by omega)); clear hq hb))
    all_goals
      go_wp2_with fail
      go_meet
      refine ⟨_, a6, a7, c6, c7, rfl, rfl, rfl, ⟨?_, ?_⟩, Lib.hid ⟨?_, ?_, ?_, ?_⟩, Lib.hid ?_⟩
      · go_simp
      · go_simp
      · first | exact Nat.le_refl _ | omega | (simp; done) | (simp; omega)
      · first | exact Nat.le_refl _ | omega | (simp; done) | (simp; omega)
      · first
        | (refine own_put HQ.out.1 ?_ ?_ _ _ <;> (first | exact Nat.le_refl _ | omega | (simp; done) | (simp; omega)))
        | (refine own_far HQ.out.1 ?_ ?_ <;> (first | exact Nat.le_refl _ | omega | (simp; done) | (simp; omega) | exact (by repeat (with_reducible (first | exact Below.refl _ _ | refine Below.setCell ?_ (by first | exact Nat.le_refl _ | omega | (simp; done) | (simp; omega)) _ | refine Below.alloc ?_ (by first | exact Nat.le_refl _ | omega | (simp; done) | (simp; omega)) _ | refine Below.drew ?_ | refine below_drewN ?_ _)))))
      · first
        | (refine own_put HQ.out.2 ?_ ?_ _ _ <;> (first | exact Nat.le_refl _ | omega | (simp; done) | (simp; omega)))
        | (refine own_far HQ.out.2 ?_ ?_ <;> (first | exact Nat.le_refl _ | omega | (simp; done) | (simp; omega) | exact (by repeat (with_reducible (first | exact Below.refl _ _ | refine Below.setCell ?_ (by first | exact Nat.le_refl _ | omega | (simp; done) | (simp; omega)) _ | refine Below.alloc ?_ (by first | exact Nat.le_refl _ | omega | (simp; done) | (simp; omega)) _ | refine Below.drew ?_ | refine below_drewN ?_ _)))))
      · exact (by repeat (with_reducible (first | exact Below.refl _ _ | refine Below.setCell ?_ (by first | exact Nat.le_refl _ | omega | (simp; done) | (simp; omega)) _ | refine Below.alloc ?_ (by first | exact Nat.le_refl _ | omega | (simp; done) | (simp; omega)) _ | refine Below.drew ?_ | refine below_drewN ?_ _ | refine Below.trans ?_ (HE3.out.mono (by first | exact Nat.le_refl _ | omega | (simp; done) | (simp; omega))))))
  case rest =>
  obtain ⟨GH1, aH0, aH1, qH0, qH1, rfl, rfl, rfl, ⟨n420, n421⟩, HQ, HBC⟩ := hcut
  have hb := HBC.out
  have ho1 := HQ.out.2.2.1
  have ho2 := HQ.out.2.2.2
  have HGB := Lib.hid (show u40.heap.size ≤ GH1 ∧ GH1 < wc.heap.size from ⟨HQ.out.1, HQ.out.2.1⟩)
  clear HBC HQ
  obtain ⟨W42, eW42⟩ : ∃ x, x = wc := ⟨_, rfl⟩
  subst eW42
  obtain ⟨loH0, elo⟩ : ∃ x, u40.heap.size = x := ⟨_, rfl⟩
  obtain ⟨hiH0, ehi⟩ : ∃ x, W42.heap.size = x := ⟨_, rfl⟩
  have HLH0 := Lib.hid (lies_of ho1 (by decide))
  rw [elo] at ho1
  rw [elo, ehi] at HLH0
  have HLOH0 := Lib.hid elo
  have HHIH0 := Lib.hid ehi
  have HOH0 := Lib.hid ho1
  clear ho1 elo ehi
  obtain ⟨loH1, elo⟩ : ∃ x, u40.heap.size = x := ⟨_, rfl⟩
  obtain ⟨hiH1, ehi⟩ : ∃ x, W42.heap.size = x := ⟨_, rfl⟩
  have HLH1 := Lib.hid (lies_of ho2 (by decide))
  rw [elo] at ho2
  rw [elo, ehi] at HLH1
  have HLOH1 := Lib.hid elo
  have HHIH1 := Lib.hid ehi
  have HOH1 := Lib.hid ho2
  clear ho2 elo ehi
  have HG42 := Lib.hid HGB.out
  clear HGB
  have c43_GT0 := cellB hb c41_GT0
  have c43_GW10 := cellB hb c41_GW10
  have c43_GW11 := cellB hb c41_GW11
  have c43_GX0 := cellB hb c41_GX0
  have c43_GR0 := cellB hb c41_GR0
  have c43_GR1 := cellB hb c41_GR1
  have HS43_W0 := Lib.hid (HS41_W0.out.below hb)
  have HS43_W1 := Lib.hid (HS41_W1.out.below hb)
  have HS43_X0 := Lib.hid (HS41_X0.out.below hb)
  have HS43_X1 := Lib.hid (HS41_X1.out.below hb)
  have HS43_G0 := Lib.hid (HS41_G0.out.below hb)
  have HS43_G1 := Lib.hid (HS41_G1.out.below hb)
  have HB43 := Lib.hid (HB41.out.trans (hb.mono HB41.out.size))
  have HZ43 := Lib.hid hb.size
  clear hb c41_GT0 c41_GW10 c41_GW11 c41_GX0 c41_GR0 c41_GR1 HS41_W0 HS41_W1 HS41_X0 HS41_X1 HS41_G0 HS41_G1 HB41
  go_wp2_with fail
  refine (LawE.eqEntryS W42 _ _ AX HOH0.out.sl HS43_W0.out.sl).mono ?_
  rintro e u44 ⟨rfl, hb⟩
  have c45_GT0 := cellB hb c43_GT0
  have c45_GW10 := cellB hb c43_GW10
  have c45_GW11 := cellB hb c43_GW11
  have c45_GX0 := cellB hb c43_GX0
  have c45_GR0 := cellB hb c43_GR0
  have c45_GR1 := cellB hb c43_GR1
  have c45_GH10 := cellB hb n420
  have c45_GH11 := cellB hb n421
  have HS45_W0 := Lib.hid (HS43_W0.out.below hb)
  have HS45_W1 := Lib.hid (HS43_W1.out.below hb)
  have HS45_X0 := Lib.hid (HS43_X0.out.below hb)
  have HS45_X1 := Lib.hid (HS43_X1.out.below hb)
  have HS45_G0 := Lib.hid (HS43_G0.out.below hb)
  have HS45_G1 := Lib.hid (HS43_G1.out.below hb)
  have HS45_H0 := Lib.hid (HOH0.out.below hb)
  have HS45_H1 := Lib.hid (HOH1.out.below hb)
  have HB45 := Lib.hid (HB43.out.trans (hb.mono HB43.out.size))
  have HZ45 := Lib.hid hb.size
  clear hb c43_GT0 c43_GW10 c43_GW11 c43_GX0 c43_GR0 c43_GR1 n420 n421 HS43_W0 HS43_W1 HS43_X0 HS43_X1 HS43_G0 HS43_G1 HOH0 HOH1 HB43
  go_wp2_with fail
  refine (LawR.eqResult u44 _ _ CC AV ⟨_, rfl, HS45_H1.out.sl⟩ ⟨_, rfl, HS45_W1.out.sl⟩).mono ?_
  rintro e u46 ⟨rfl, hb⟩
  have c47_GT0 := cellB hb c45_GT0
  have c47_GW10 := cellB hb c45_GW10
  have c47_GW11 := cellB hb c45_GW11
  have c47_GX0 := cellB hb c45_GX0
  have c47_GR0 := cellB hb c45_GR0
  have c47_GR1 := cellB hb c45_GR1
  have c47_GH10 := cellB hb c45_GH10
  have c47_GH11 := cellB hb c45_GH11
  have HS47_W0 := Lib.hid (HS45_W0.out.below hb)
  have HS47_W1 := Lib.hid (HS45_W1.out.below hb)
  have HS47_X0 := Lib.hid (HS45_X0.out.below hb)
  have HS47_X1 := Lib.hid (HS45_X1.out.below hb)
  have HS47_G0 := Lib.hid (HS45_G0.out.below hb)
  have HS47_G1 := Lib.hid (HS45_G1.out.below hb)
  have HS47_H0 := Lib.hid (HS45_H0.out.below hb)
  have HS47_H1 := Lib.hid (HS45_H1.out.below hb)
  have HB47 := Lib.hid (HB45.out.trans (hb.mono HB45.out.size))
  have HZ47 := Lib.hid hb.size
  clear hb c45_GT0 c45_GW10 c45_GW11 c45_GX0 c45_GR0 c45_GR1 c45_GH10 c45_GH11 HS45_W0 HS45_W1 HS45_X0 HS45_X1 HS45_G0 HS45_G1 HS45_H0 HS45_H1 HB45
  go_wp2_with fail
  refine (LawE.heldEntryS u46 _ AX.length 1 HS47_G0.out.sl (by have := EMC.out; have := HMMC.out; omega)).mono ?_
  rw [EMC.out]
  rintro e u48 ⟨rfl, hu⟩
  have hu2 := hu.symm
  subst hu2
  clear hu
  go_wp2_with fail
  refine (LawM.heldResult u46 CC _ AV.length MC HS47_G1.out.sl (by have := EMD.out; have := HMMD.out; omega)).mono ?_
  rw [EMD.out]
  rintro e u49 ⟨rfl, hb⟩
  have c50_GT0 := cellB hb c47_GT0
  have c50_GW10 := cellB hb c47_GW10
  have c50_GW11 := cellB hb c47_GW11
  have c50_GX0 := cellB hb c47_GX0
  have c50_GR0 := cellB hb c47_GR0
  have c50_GR1 := cellB hb c47_GR1
  have c50_GH10 := cellB hb c47_GH10
  have c50_GH11 := cellB hb c47_GH11
  have HS50_W0 := Lib.hid (HS47_W0.out.below hb)
  have HS50_W1 := Lib.hid (HS47_W1.out.below hb)
  have HS50_X0 := Lib.hid (HS47_X0.out.below hb)
  have HS50_X1 := Lib.hid (HS47_X1.out.below hb)
  have HS50_G0 := Lib.hid (HS47_G0.out.below hb)
  have HS50_G1 := Lib.hid (HS47_G1.out.below hb)
  have HS50_H0 := Lib.hid (HS47_H0.out.below hb)
  have HS50_H1 := Lib.hid (HS47_H1.out.below hb)
  have HB50 := Lib.hid (HB47.out.trans (hb.mono HB47.out.size))
  have HZ50 := Lib.hid hb.size
  clear hb c47_GT0 c47_GW10 c47_GW11 c47_GX0 c47_GR0 c47_GR1 c47_GH10 c47_GH11 HS47_W0 HS47_W1 HS47_X0 HS47_X1 HS47_G0 HS47_G1 HS47_H0 HS47_H1 HB47
  go_wp2_with fail
  go_ret
  exact ⟨rfl, HB50.out⟩
end Go.Proofs.Ytealdpkgfmokpaa.ExMapTxn
