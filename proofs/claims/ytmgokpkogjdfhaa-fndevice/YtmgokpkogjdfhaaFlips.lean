/-
  What is proved: a byte flipped in what is sure: the program and the model answer the same plain device and code, of the call's own (contracts for the walks).
-/
import Derived.Test.YtmgokpkogjdfhaaRows
import Derived.Test.YtmgokpkogjdfhaaSettle
import Derived.Test.YtmgokpkogjdfhaaWrites
import Derived.Test.YtmgokpkogjdfhaaCrash
namespace Go.Proofs.Ytmgokpkogjdfhaa.Flips
open Go.ChangeShapes Go.WideShapes Go.ChangeAt Go.RowKit
open Sl (Sl Own Off)
open OpenSl (tc nc pc)
open Dev Cop Copied Settle
open Crash (tc_set)
open Right
open Writes (zero_dev)
open Word (bN bN_lt bN_at)
set_option linter.unusedVariables false

/-- A text, its byte p xored with b. -/
def fl (s : ByteArray) (p b : Nat) : ByteArray := ⟨((List.range s.size).map fun j => UInt8.ofNat (if j = p then bN s p ^^^ b else bN s j)).toArray⟩
theorem fl_size (s : ByteArray) (p b : Nat) : (fl s p b).size = s.size := by
  show ((List.range s.size).map _).toArray.size = _
  simp
theorem fl_bN (s : ByteArray) (p b j : Nat) (hj : j < s.size) (hb : b < 256) : bN (fl s p b) j = if j = p then bN s p ^^^ b else bN s j := by
  have hlt : (if j = p then bN s p ^^^ b else bN s j) < 256 := by
    split
    · exact Nat.xor_lt_two_pow (n := 8) (bN_lt s p) hb
    · exact bN_lt s j
  unfold bN fl
  rw [List.toList_toArray, List.getD_eq_getElem?_getD, List.getElem?_map, List.getElem?_range hj]
  show (UInt8.ofNat _).toNat = _
  rw [UInt8.toNat_ofNat', Nat.mod_eq_of_lt hlt]
  rfl
/-- '[]byte(s)'. -/
theorem conv (u : World) (s : ByteArray) (hs : s.size ≤ maxLen) : ∃ g o cap u1, (convert 9 22 (.string s)).run Try.prog u = .ok (.slice (some ⟨g, o, none⟩) s.size cap) u1 ∧ Own u1 u.heap.size 1 (.slice (some ⟨g, o, none⟩) s.size cap) s.size (fun j => .int .u8 (bN s j : Int)) ∧ Below u.heap.size u u1 := by
  have k1 := Lib.run_convert_string_bytes (P := Try.prog) u 9 22 5 s Try.underlying9 Try.underlying22 Try.underlying5
  obtain ⟨fr, xs, h1, h2, h3, h4, h5⟩ := Flat.bytes_row u s
  refine ⟨_, _, _, _, k1, ⟨_, _, rfl, grownCap_ge u s.size 0 _, grownCap_le_maxLen u s.size 0 _ hs, fun hn => ⟨_, _, rfl, Nat.le_refl _, fun j hj => ⟨?_, ?_⟩⟩⟩, h4⟩
  · rw [Nat.zero_add, h1.cell j]; exact h3 j (by omega)
  · rw [Nat.zero_add]; exact h1.frozen j (.inl (by omega))
def fok (ts : List ByteArray) (z pl : Int) : Prop := 0 ≤ pl ∧ pl < ((ts.getD z.toNat ByteArray.empty).size : Int)
instance (ts : List ByteArray) (z pl : Int) : Decidable (fok ts z pl) := by unfold fok; infer_instance
def bok (b : Int) : Prop := 1 ≤ b ∧ b ≤ 255
instance (b : Int) : Decidable (bok b) := by unfold bok; infer_instance
def code (ts : List ByteArray) (xs : List (Int × ByteArray)) (z pl by_ : Int) : Int := if fault ts xs z = 0 then (if bok by_ then (if fok ts z pl then 0 else 5) else 4) else fault ts xs z
def fts (ts : List ByteArray) (xs : List (Int × ByteArray)) (z pl by_ : Int) : List ByteArray := if fault ts xs z = 0 then (if bok by_ then (if fok ts z pl then ts.set z.toNat (fl (ts.getD z.toNat ByteArray.empty) pl.toNat by_.toNat) else ts) else []) else []
def fxs (ts : List ByteArray) (xs : List (Int × ByteArray)) (z pl by_ : Int) : List (Int × ByteArray) := if fault ts xs z = 0 then (if bok by_ then xs else []) else []
theorem case_fault (ts : List ByteArray) (xs : List (Int × ByteArray)) (z pl by_ : Int) {c : Int} (hf : fault ts xs z = c) (hc : c ≠ 0) : code ts xs z pl by_ = c ∧ fts ts xs z pl by_ = [] ∧ fxs ts xs z pl by_ = [] := by
  unfold code fts fxs
  simp only [hf, if_neg hc, and_self]
theorem case_by (ts : List ByteArray) (xs : List (Int × ByteArray)) (z pl by_ : Int) (hf : fault ts xs z = 0) (hc : ¬ bok by_) : code ts xs z pl by_ = 4 ∧ fts ts xs z pl by_ = [] ∧ fxs ts xs z pl by_ = [] := by
  unfold code fts fxs
  simp only [hf, if_neg hc, if_true, and_self]
theorem case_none (ts : List ByteArray) (xs : List (Int × ByteArray)) (z pl by_ : Int) (hf : fault ts xs z = 0) (hb : bok by_) (hc : ¬ fok ts z pl) : code ts xs z pl by_ = 5 ∧ fts ts xs z pl by_ = ts ∧ fxs ts xs z pl by_ = xs := by
  unfold code fts fxs
  simp only [hf, if_pos hb, if_neg hc, if_true, and_self]
theorem case_ok (ts : List ByteArray) (xs : List (Int × ByteArray)) (z pl by_ : Int) (hf : fault ts xs z = 0) (hb : bok by_) (hc : fok ts z pl) : code ts xs z pl by_ = 0 ∧ fts ts xs z pl by_ = ts.set z.toNat (fl (ts.getD z.toNat ByteArray.empty) pl.toNat by_.toNat) ∧ fxs ts xs z pl by_ = xs := by
  unfold code fts fxs
  simp only [hf, if_pos hb, if_pos hc, if_true, and_self]
theorem len_ok {ts : List ByteArray} {xs : List (Int × ByteArray)} (hn : ts.length ≤ 1048576) (hm : xs.length ≤ 1048576) (z pl by_ : Int) : 1 + (fts ts xs z pl by_).length + (fxs ts xs z pl by_).length * 2 ≤ 10000000 := by
  have h1 : (fts ts xs z pl by_).length ≤ 1048576 := by
    unfold fts
    split
    · split
      · split
        · rw [List.length_set]; exact hn
        · exact hn
      · simp
    · simp
  have h2 : (fxs ts xs z pl by_).length ≤ 1048576 := by
    unfold fxs
    split
    · split
      · exact hm
      · simp
    · simp
  omega
/-- What the store of the flipped text leaves of the sure texts. -/
theorem set_own {u : World} {base : Nat} {b1 o1 n q1 : Nat} {ts : List ByteArray} (h : Own u base 1 (.slice (some ⟨b1, o1, none⟩) n q1) n (tc ts)) (hl : ts.length = n) (q : Nat) (hq : q < n) (t : ByteArray) :
    Own (u.setCell ⟨b1, o1 + q, none⟩ (.string t)) base 1 (.slice (some ⟨b1, o1, none⟩) n q1) n (tc (ts.set q t)) :=
  (h.set q (by omega) (.string t)).congr (fun j hj => by rw [tc_set _ _ _ (by omega)])

set_option maxRecDepth 100000 in
set_option maxHeartbeats 1600000 in
theorem l05Flip (w : World) (v : Value) (ts : List ByteArray) (xs : List (Int × ByteArray)) (h : Dev w v ts xs) (hn : ts.length ≤ 1048576) (hm : xs.length ≤ 1048576) (z pl by_ : Int) (hr : Rt ts xs) (hi : In z) (hp : 0 ≤ pl ∧ pl < ((ts.getD z.toNat ByteArray.empty).size : Int)) (hby : 1 ≤ by_ ∧ by_ ≤ 255) :
    Calls Try.prog 56 #[v, .int .i64 z, .int .i64 pl, .int .i64 by_] w fun e w' => ∃ r, e = .returned r ∧ DevO w' w.heap.size r (ts.set z.toNat (fl (ts.getD z.toNat ByteArray.empty) pl.toNat by_.toNat)) xs ∧ Below w.heap.size w w' := by
  have HV := Lib.hid h
  obtain ⟨a, p, a', p', rfl⟩ := Ex.form h
  obtain ⟨W, eW, hB, hlt, c0, c1, r0, r1, f0, f1⟩ := boxed w 26 26 (.slice a ts.length p) (.slice a' xs.length p')
  have HV2 := Lib.hid (HV.out.below hB)
  have HB := Lib.hid hB
  have HLT := Lib.hid hlt
  have HSIX := Lib.hid (fun u (hb : Below W.heap.size W u) => six hb hlt c0 c1 r0 r1 f0 f1)
  have HE0 := Lib.hid (Below.refl W.heap.size W)
  have fz0 : W.frozen? ⟨w.heap.size, 0, none⟩ = false := by rw [← eW]; clear eW; go_simp
  have fz1 : W.frozen? ⟨w.heap.size, 1, none⟩ = false := by rw [← eW]; clear eW; go_simp
  have HFZ := Lib.hid (fun u (hb : Below W.heap.size W u) => (show u.frozen? ⟨w.heap.size, 0, none⟩ = false ∧ u.frozen? ⟨w.heap.size, 1, none⟩ = false from ⟨(hb.frozen (p := ⟨w.heap.size, 0, none⟩) (by show w.heap.size < _; omega)).trans fz0, (hb.frozen (p := ⟨w.heap.size, 1, none⟩) (by show w.heap.size < _; omega)).trans fz1⟩))
  clear h hB
  obtain ⟨hi0, hi1⟩ := hi
  obtain ⟨hp0, hp1⟩ := hp
  obtain ⟨hy0, hy1⟩ := hby
  have h40 : ts.length = 40 := hr.1
  obtain ⟨q, rfl⟩ : ∃ q : Nat, z = q := ⟨z.toNat, by omega⟩
  obtain ⟨P, rfl⟩ : ∃ P : Nat, pl = P := ⟨pl.toNat, by omega⟩
  obtain ⟨Y, rfl⟩ : ∃ Y : Nat, by_ = Y := ⟨by_.toNat, by omega⟩
  simp only [Int.toNat_natCast] at hp1 ⊢
  have hqn : q < ts.length := by omega
  have hs7 : (ts.getD q ByteArray.empty).size ≤ 700 := hr.2.2.1 q hqn
  obtain ⟨s0, hs0⟩ : ∃ s0, ts.getD q ByteArray.empty = s0 := ⟨_, rfl⟩
  rw [hs0] at hp1 hs7 ⊢
  have HS0 := Lib.hid hs0
  have HQN := Lib.hid hqn
  clear hr h40 hs0 hqn
  go_enter Try.func56, Try.ntmps56
  go_wp2_with fail
  clear eW
  refine (l05Own W _ ts xs HV2.out hn (by omega)).mono ?_
  rintro e u1 ⟨r1_, rfl, ho, hb⟩
  have HE1 := Lib.hid hb
  obtain ⟨a2, p2, b2, q2, rfl⟩ := Ex.form ho.dev
  obtain ⟨y0, y1⟩ := HFZ.out u1 hb
  clear c0 c1 r0 r1 f0 f1 fz0 fz1
  obtain ⟨g0, g1, g2, g3, g4, g5⟩ := HSIX.out u1 hb
  obtain ⟨F1, eF1, hd1, R0, R1, hbF1⟩ := put_dev ho (show w.heap.size < W.heap.size by omega) g0 g1
  have t2 : F1.cell? ⟨w.heap.size + 1, 0, none⟩ = some (.slice none 0 0) := by
    rw [← eF1, World.cell?_setCell_other _ _ _ _ (by simp), World.cell?_setCell_other _ _ _ _ (by simp)]; exact g2
  have t3 : F1.cell? ⟨w.heap.size + 1, 1, none⟩ = some (.slice none 0 0) := by
    rw [← eF1, World.cell?_setCell_other _ _ _ _ (by simp), World.cell?_setCell_other _ _ _ _ (by simp)]; exact g3
  have t4 : F1.frozen? ⟨w.heap.size + 1, 0, none⟩ = false := by rw [← eF1, Sl.frozen_set, Sl.frozen_set]; exact g4
  have t5 : F1.frozen? ⟨w.heap.size + 1, 1, none⟩ = false := by rw [← eF1, Sl.frozen_set, Sl.frozen_set]; exact g5
  have HBF1 := Lib.hid (HB.out.trans ((hb.mono HB.out.size).trans (hbF1 _ (Nat.le_refl _))))
  obtain ⟨s9, v9, e9, k1, k2, k3⟩ := hd1
  obtain ⟨rfl, rfl⟩ : Value.slice a2 ts.length p2 = s9 ∧ Value.slice b2 xs.length q2 = v9 := by simpa using e9
  obtain ⟨b1, o1, ea1, hbb1, hcc⟩ := k1.at (by have := HQN.out; omega)
  obtain rfl : a2 = some ⟨b1, o1, none⟩ := ea1
  obtain ⟨cq, fq⟩ := hcc q (by have := HQN.out; omega)
  rw [show tc ts q = .string s0 from congrArg Value.string HS0.out] at cq
  have K1 := Lib.hid k1
  have K2 := Lib.hid k2
  have K3 := Lib.hid k3
  obtain ⟨g, o, cap, u2, hcv, hown, hbel⟩ := conv F1 s0 (by unfold maxLen; omega)
  have hszF : W.heap.size ≤ F1.heap.size := by have := (World.block_lt_of_cell? F1 _ cq); have h2 : W.heap.size ≤ b1 := hbb1; have h3 : b1 < F1.heap.size := this; omega
  obtain ⟨gg, oo, eg, hgb, hgc⟩ := hown.at (by omega)
  obtain ⟨rfl, rfl⟩ : g = gg ∧ o = oo := by simpa using eg
  obtain ⟨cp, fp⟩ := hgc P (by omega)
  have hsub : b1 < F1.heap.size := World.block_lt_of_cell? F1 _ cq
  have hY : Y < 256 := by omega
  have hxr := u8_xor_nat (bN s0 P) Y (bN_lt s0 P) hY
  have e8 : IntKind.u8.wrap (Y : Int) = Y := by rw [IntKind.wrap_u8']; omega
  have e9' : (Y : Int) % 256 = Y := by omega
  have HX8 := Lib.hid (hown.set P (by omega) (.int .u8 ((bN s0 P ^^^ Y : Nat) : Int)))
  obtain ⟨u3, eu3⟩ : ∃ u3, u2.setCell ⟨g, o + P, none⟩ (.int .u8 ((bN s0 P ^^^ Y : Nat) : Int)) = u3 := ⟨_, rfl⟩
  rw [eu3] at HX8
  have hb23 : ∀ B, B ≤ F1.heap.size → Below B u2 u3 := fun B hB => by rw [← eu3]; exact (Below.refl B u2).setCell (p := ⟨g, o + P, none⟩) (Nat.le_trans hB hgb) _
  have hbF3 : Below F1.heap.size F1 u3 := hbel.trans (hb23 _ (Nat.le_refl _))
  obtain ⟨T, eT⟩ : ∃ T, fl s0 P Y = T := ⟨_, rfl⟩
  have hcv2 : (convert 22 9 (.slice (some ⟨g, o, none⟩) s0.size cap)).run Try.prog u3 = .ok (.string T) u3 := back_text u3 g o cap s0.size T (by rw [← eT, fl_size]) (fun j hj => by
    obtain ⟨bb, oo2, e2, _, hcc2⟩ := HX8.out.at (by omega)
    obtain ⟨rfl, rfl⟩ : g = bb ∧ o = oo2 := by simpa using e2
    rw [(hcc2 j (by omega)).1, ← eT, fl_bN s0 P Y j hj hY]
    show some (if j = P then Value.int .u8 ((bN s0 P ^^^ Y : Nat) : Int) else Value.int .u8 (bN s0 j : Int)) = _
    by_cases ej : j = P
    · rw [if_pos ej, if_pos ej]
    · rw [if_neg ej, if_neg ej])
  have HT := Lib.hid eT
  have n1 : (q : Int) < (ts.length : Int) := by have := HQN.out; omega
  have n2 : (0 : Int) ≤ (q : Int) := by omega
  have n3 : (P : Int) < (s0.size : Int) := by omega
  have n4 : (0 : Int) ≤ (P : Int) := by omega
  have cq3 := (hbF3.cell (p := ⟨b1, o1 + q, none⟩) hsub).trans cq
  have fq3 := (hbF3.frozen (p := ⟨b1, o1 + q, none⟩) hsub).trans fq
  have lF : w.heap.size + 1 < F1.heap.size := by omega
  have z0 := (hbF3.cell (p := ⟨w.heap.size, 0, none⟩) (by show w.heap.size < _; omega)).trans R0
  have z1 := (hbF3.cell (p := ⟨w.heap.size, 1, none⟩) (by show w.heap.size < _; omega)).trans R1
  have z2 := (hbF3.cell (p := ⟨w.heap.size + 1, 0, none⟩) lF).trans t2
  have z3 := (hbF3.cell (p := ⟨w.heap.size + 1, 1, none⟩) lF).trans t3
  have z4 := (hbF3.frozen (p := ⟨w.heap.size + 1, 0, none⟩) lF).trans t4
  have z5 := (hbF3.frozen (p := ⟨w.heap.size + 1, 1, none⟩) lF).trans t5
  have x1 : ¬ b1 = w.heap.size := by have h2 : W.heap.size ≤ b1 := hbb1; omega
  have x2 : ¬ w.heap.size = b1 := by omega
  have x3 : ¬ b1 = w.heap.size + 1 := by have h2 : W.heap.size ≤ b1 := hbb1; omega
  have x4 : ¬ w.heap.size + 1 = b1 := by omega
  have HO3 := Lib.hid (set_own (K1.out.below hbF3) rfl q HQN.out T)
  have HO4 := Lib.hid (own_turns (vs := [.slice (some ⟨b1, o1, none⟩) ts.length p2]) (K2.out.below hbF3) ((Turns.refl _ u3).set (g := b1) (o := o1) (n := ts.length) (cap := p2) (by simp) (by have := HQN.out; omega) (o1 + q) (.string T)) (fun u hu => by simp at hu; subst hu; exact K3.out.symm))
  obtain ⟨F2, eF2⟩ : ∃ F2, u3.setCell ⟨b1, o1 + q, none⟩ (.string T) = F2 := ⟨_, rfl⟩
  rw [eF2] at HO3 HO4
  have HBF2 := Lib.hid (show Below w.heap.size w F2 by rw [← eF2]; exact (HBF1.out.trans (hbF3.mono HBF1.out.size)).setCell (p := ⟨b1, o1 + q, none⟩) (by have h2 : W.heap.size ≤ b1 := hbb1; show w.heap.size ≤ b1; omega) _)
  have w0 : F2.cell? ⟨w.heap.size, 0, none⟩ = some (.slice (some ⟨b1, o1, none⟩) ts.length p2) := by rw [← eF2, World.cell?_setCell_other _ _ _ _ (fun e => x1 (congrArg Addr.block e))]; exact z0
  have w1 : F2.cell? ⟨w.heap.size, 1, none⟩ = some (.slice b2 xs.length q2) := by rw [← eF2, World.cell?_setCell_other _ _ _ _ (fun e => x1 (congrArg Addr.block e))]; exact z1
  have w2 : F2.cell? ⟨w.heap.size + 1, 0, none⟩ = some (.slice none 0 0) := by rw [← eF2, World.cell?_setCell_other _ _ _ _ (fun e => x3 (congrArg Addr.block e))]; exact z2
  have w3 : F2.cell? ⟨w.heap.size + 1, 1, none⟩ = some (.slice none 0 0) := by rw [← eF2, World.cell?_setCell_other _ _ _ _ (fun e => x3 (congrArg Addr.block e))]; exact z3
  have w4 : F2.frozen? ⟨w.heap.size + 1, 0, none⟩ = false := by rw [← eF2, Sl.frozen_set]; exact z4
  have w5 : F2.frozen? ⟨w.heap.size + 1, 1, none⟩ = false := by rw [← eF2, Sl.frozen_set]; exact z5
  have HLEN : Hid ((ts.set q T).length = ts.length) := Lib.hid (by rw [List.length_set])
  have HDD : Hid (DevO F2 W.heap.size (.agg #[.slice (some ⟨b1, o1, none⟩) ts.length p2, .slice b2 xs.length q2]) (ts.set q T) xs) := Lib.hid ⟨_, _, rfl, by rw [HLEN.out]; exact HO3.out, HO4.out, K3.out⟩
  obtain ⟨F, eF, hdF, Q0, Q1, hbF⟩ := put_dev HDD.out HLT.out w2 w3
  have HD2 := Lib.hid (hdF.base HB.out.size)
  have HBF := Lib.hid (HBF2.out.trans (hbF _ (by omega)))
  clear hb23 hbF3 hbel hdF hbF hown HX8 hgc hcc ho
  go_wp2_with fail
  refine bodyPost_ret (v := .agg #[.slice (some ⟨b1, o1, none⟩) ts.length p2, .slice b2 xs.length q2]) (by simp [results, Try.results56, go_sem, Q0, Q1]) rfl ⟨_, rfl, by rw [HT.out]; exact HD2.out, HBF.out⟩


set_option maxRecDepth 100000 in
set_option maxHeartbeats 1600000 in
theorem spec (w : World) (v : Value) (ts : List ByteArray) (xs : List (Int × ByteArray)) (h : Dev w v ts xs) (hn : ts.length ≤ 1048576) (hm : xs.length ≤ 1048576) (z pl by_ : Int) :
    Calls Try.prog 26 #[v, .int .i64 z, .int .i64 pl, .int .i64 by_] w fun e w' => ∃ r, e = .returned (.tuple #[r, .int .i64 (code ts xs z pl by_)]) ∧ DevO w' w.heap.size r (fts ts xs z pl by_) (fxs ts xs z pl by_) ∧ Below w.heap.size w w' := by
  have HV := Lib.hid h
  obtain ⟨a, p, a', p', rfl⟩ := Ex.form h
  obtain ⟨W, eW, hB, hlt, c0, c1, r0, r1, f0, f1⟩ := boxed w 26 26 (.slice a ts.length p) (.slice a' xs.length p')
  have HV2 := Lib.hid (HV.out.below hB)
  have HB := Lib.hid hB
  have HLT := Lib.hid hlt
  have HSIX := Lib.hid (fun u (hb : Below W.heap.size W u) => six hb hlt c0 c1 r0 r1 f0 f1)
  have HE0 := Lib.hid (Below.refl W.heap.size W)
  have HR0 := Lib.hid hlt
  clear h hB
  go_enter Try.func26, Try.ntmps26
  go_wp2_with fail
  clear eW
  refine (deviceOK W _ ts xs HV2.out).mono ?_
  rintro e u1 ⟨rfl, hb⟩
  have HE1 := Lib.hid hb
  obtain ⟨g0, g1, g2, g3, g4, g5⟩ := HSIX.out u1 hb
  clear hb c0 c1 r0 r1 f0 f1
  by_cases hr : Rt ts xs
  case neg =>
    rw [decide_eq_false hr]
    have EC := Lib.hid (case_fault ts xs z pl by_ (c := 1) (by unfold fault; rw [if_neg hr]) (by omega))
    clear hr
    obtain ⟨F, eF, hd, R0, R1, hbF⟩ := put_dev (zero_dev u1 W.heap.size) HLT.out g2 g3
    have HD2 := Lib.hid (hd.base HB.out.size)
    have HBF := Lib.hid (HB.out.trans ((HE1.out.mono HB.out.size).trans (hbF w.heap.size (by omega))))
    clear hd hbF
    go_wp2_with fail
    refine bodyPost_ret (v := .tuple #[.agg #[.slice none 0 0, .slice none 0 0], .int .i64 1]) (by simp [results, Try.results26, go_sem, R0, R1]) rfl ⟨.agg #[.slice none 0 0, .slice none 0 0], ?_, ?_, HBF.out⟩
    · rw [EC.out.1]
    · rw [EC.out.2.1, EC.out.2.2]; exact HD2.out
  rw [decide_eq_true hr]
  have HR := Lib.hid hr
  clear hr
  go_wp2_with fail
  refine (l05In z _).mono ?_
  rintro e u ⟨rfl, rfl⟩
  by_cases hi : In z
  case neg =>
    rw [decide_eq_false hi]
    have EC := Lib.hid (case_fault ts xs z pl by_ (c := 4) (by unfold fault; rw [if_pos HR.out, if_neg hi]) (by omega))
    clear hi
    obtain ⟨F, eF, hd, R0, R1, hbF⟩ := put_dev (zero_dev u W.heap.size) HLT.out g2 g3
    have HD2 := Lib.hid (hd.base HB.out.size)
    have HBF := Lib.hid (HB.out.trans ((HE1.out.mono HB.out.size).trans (hbF w.heap.size (by omega))))
    clear hd hbF
    go_wp2_with fail
    refine bodyPost_ret (v := .tuple #[.agg #[.slice none 0 0, .slice none 0 0], .int .i64 4]) (by simp [results, Try.results26, go_sem, R0, R1]) rfl ⟨.agg #[.slice none 0 0, .slice none 0 0], ?_, ?_, HBF.out⟩
    · rw [EC.out.1]
    · rw [EC.out.2.1, EC.out.2.2]; exact HD2.out
  rw [decide_eq_true hi]
  have HI := Lib.hid hi
  have HF := Lib.hid (show fault ts xs z = 0 by unfold fault; rw [if_pos HR.out, if_pos hi])
  clear hi
  go_wp2_with fail
  refine (l01In by_ 1 255 _).mono ?_
  rintro e u ⟨rfl, rfl⟩
  by_cases hby : bok by_
  case neg =>
    rw [show decide (1 ≤ by_ ∧ by_ ≤ 255) = false from decide_eq_false hby]
    have EC := Lib.hid (case_by ts xs z pl by_ HF.out hby)
    clear hby
    obtain ⟨F, eF, hd, R0, R1, hbF⟩ := put_dev (zero_dev u W.heap.size) HLT.out g2 g3
    have HD2 := Lib.hid (hd.base HB.out.size)
    have HBF := Lib.hid (HB.out.trans ((HE1.out.mono HB.out.size).trans (hbF w.heap.size (by omega))))
    clear hd hbF
    go_wp2_with fail
    refine bodyPost_ret (v := .tuple #[.agg #[.slice none 0 0, .slice none 0 0], .int .i64 4]) (by simp [results, Try.results26, go_sem, R0, R1]) rfl ⟨.agg #[.slice none 0 0, .slice none 0 0], ?_, ?_, HBF.out⟩
    · rw [EC.out.1]
    · rw [EC.out.2.1, EC.out.2.2]; exact HD2.out
  rw [show decide (1 ≤ by_ ∧ by_ ≤ 255) = true from decide_eq_true hby]
  have HBY := Lib.hid hby
  clear hby
  obtain ⟨q, rfl⟩ : ∃ q : Nat, z = q := ⟨z.toNat, by have := HI.out.1; omega⟩
  have hqn : q < ts.length := by have h1 := HR.out.1; have h2 := HI.out.2; omega
  obtain ⟨s1, s2, e12, k1, k2⟩ := HV2.out.below HE1.out
  obtain ⟨rfl, rfl⟩ : Value.slice a ts.length p = s1 ∧ Value.slice a' xs.length p' = s2 := by simpa using e12
  obtain ⟨b, o, rfl, hcc⟩ := k1.at (by omega)
  obtain ⟨s0, hs0⟩ : ∃ s0, ts.getD q ByteArray.empty = s0 := ⟨_, rfl⟩
  have cq := hcc q (by omega)
  rw [show tc ts q = .string s0 from congrArg Value.string hs0] at cq
  have hs7 : s0.size ≤ 700 := by rw [← hs0]; exact HR.out.2.2.1 q hqn
  have HS0 := Lib.hid hs0
  have n1 : (q : Int) < (ts.length : Int) := by omega
  have n2 : (0 : Int) ≤ (q : Int) := by omega
  obtain ⟨L1, eL1⟩ : ∃ L1 : Int, (s0.size : Int) - 1 = L1 := ⟨_, rfl⟩
  clear k1 k2 e12 hcc hs0
  go_wp2_with fail
  refine (l01In pl 0 L1 _).mono ?_
  rintro e u ⟨rfl, rfl⟩
  have hfk : (0 ≤ pl ∧ pl ≤ L1) ↔ fok ts (q : Int) pl := by
    unfold fok
    rw [Int.toNat_natCast, HS0.out]
    omega
  clear n1 n2 cq eL1
  by_cases hp : fok ts (q : Int) pl
  case neg =>
    rw [decide_eq_false (fun h => hp (hfk.1 h))]
    have EC := Lib.hid (case_none ts xs q pl by_ HF.out HBY.out hp)
    clear hp hfk
    go_wp2_with fail
    refine (l05Own u _ ts xs (HV2.out.below HE1.out) hn (by omega)).mono ?_
    rintro e u2 ⟨r2, rfl, ho, hb⟩
    have HE2 := Lib.hid (HE1.out.trans (hb.mono HE1.out.size))
    have HO2 := Lib.hid (ho.base HE1.out.size)
    obtain ⟨a2, p2, b2, q2, rfl⟩ := Ex.form ho.dev
    clear ho hb g0 g1 g2 g3 g4 g5
    obtain ⟨g0, g1, g2, g3, g4, g5⟩ := HSIX.out u2 HE2.out
    obtain ⟨F, eF, hd, R0, R1, hbF⟩ := put_dev (HO2.out) HLT.out g2 g3
    have HD2 := Lib.hid (hd.base HB.out.size)
    have HBF := Lib.hid (HB.out.trans ((HE2.out.mono HB.out.size).trans (hbF w.heap.size (by omega))))
    clear hd hbF
    go_wp2_with fail
    refine bodyPost_ret (v := .tuple #[.agg #[.slice a2 ts.length p2, .slice b2 xs.length q2], .int .i64 5]) (by simp [results, Try.results26, go_sem, R0, R1]) rfl ⟨.agg #[.slice a2 ts.length p2, .slice b2 xs.length q2], ?_, ?_, HBF.out⟩
    · rw [EC.out.1]
    · rw [EC.out.2.1, EC.out.2.2]; exact HD2.out
  rw [decide_eq_true (hfk.2 hp)]
  have HP := Lib.hid hp
  have EC := Lib.hid (case_ok ts xs q pl by_ HF.out HBY.out hp)
  clear hp hfk
  go_wp2_with fail
  refine (l05Flip u _ ts xs (HV2.out.below HE1.out) hn hm q pl by_ HR.out HI.out HP.out HBY.out).mono ?_
  obtain ⟨tr, etr⟩ : ∃ tr, ts.set (q : Int).toNat (fl (ts.getD (q : Int).toNat ByteArray.empty) pl.toNat by_.toNat) = tr := ⟨_, rfl⟩
  rw [etr] at EC ⊢
  clear etr
  rintro e u2 ⟨r2, rfl, ho, hb⟩
  have HE2 := Lib.hid (HE1.out.trans (hb.mono HE1.out.size))
  have HO2 := Lib.hid (ho.base HE1.out.size)
  obtain ⟨a2, p2, b2, q2, rfl⟩ := Ex.form ho.dev
  clear ho hb g0 g1 g2 g3 g4 g5
  obtain ⟨g0, g1, g2, g3, g4, g5⟩ := HSIX.out u2 HE2.out
  obtain ⟨F, eF, hd, R0, R1, hbF⟩ := put_dev (HO2.out) HLT.out g2 g3
  have HD2 := Lib.hid (hd.base HB.out.size)
  have HBF := Lib.hid (HB.out.trans ((HE2.out.mono HB.out.size).trans (hbF w.heap.size (by omega))))
  clear hd hbF
  go_wp2_with fail
  refine bodyPost_ret (v := .tuple #[.agg #[.slice a2 tr.length p2, .slice b2 xs.length q2], .int .i64 0]) (by simp [results, Try.results26, go_sem, R0, R1]) rfl ⟨.agg #[.slice a2 tr.length p2, .slice b2 xs.length q2], ?_, ?_, HBF.out⟩
  · rw [EC.out.1]
  · rw [EC.out.2.1, EC.out.2.2]; exact HD2.out

set_option maxRecDepth 100000 in
set_option maxHeartbeats 1600000 in
theorem impl (w : World) (v : Value) (ts : List ByteArray) (xs : List (Int × ByteArray)) (h : Dev w v ts xs) (hn : ts.length ≤ 1048576) (hm : xs.length ≤ 1048576) (z pl by_ : Int) :
    Calls Try.prog 25 #[v, .int .i64 z, .int .i64 pl, .int .i64 by_] w fun e w' => ∃ r, e = .returned (.tuple #[r, .int .i64 (code ts xs z pl by_)]) ∧ DevO w' w.heap.size r (fts ts xs z pl by_) (fxs ts xs z pl by_) ∧ Below w.heap.size w w' := by
  have HV := Lib.hid h
  obtain ⟨a, p, a', p', rfl⟩ := Ex.form h
  obtain ⟨W, eW, hB, hlt, c0, c1, r0, r1, f0, f1⟩ := boxed w 26 26 (.slice a ts.length p) (.slice a' xs.length p')
  have HV2 := Lib.hid (HV.out.below hB)
  have HB := Lib.hid hB
  have HLT := Lib.hid hlt
  have HSIX := Lib.hid (fun u (hb : Below W.heap.size W u) => six hb hlt c0 c1 r0 r1 f0 f1)
  have HE0 := Lib.hid (Below.refl W.heap.size W)
  clear h hB
  go_enter Try.func25, Try.ntmps25
  go_wp2_with fail
  clear eW
  refine (sectorFault W _ ts xs HV2.out z).mono ?_
  rintro e u1 ⟨rfl, hb⟩
  have HE1 := Lib.hid hb
  obtain ⟨g0, g1, g2, g3, g4, g5⟩ := HSIX.out u1 hb
  clear hb c0 c1 r0 r1 f0 f1
  by_cases hf : fault ts xs z = 0
  case neg =>
    obtain ⟨c, eq⟩ : ∃ c, fault ts xs z = c := ⟨_, rfl⟩
    have EC := Lib.hid (case_fault ts xs z pl by_ eq (by rw [← eq]; exact hf))
    rw [eq] at hf ⊢
    clear eq
    have hd : (c != 0) = true := bne_iff_ne.2 hf
    obtain ⟨F, eF, hd, R0, R1, hbF⟩ := put_dev (zero_dev u1 W.heap.size) HLT.out g2 g3
    have HD2 := Lib.hid (hd.base HB.out.size)
    have HBF := Lib.hid (HB.out.trans ((HE1.out.mono HB.out.size).trans (hbF w.heap.size (by omega))))
    clear hd hbF
    go_wp2_with fail
    refine bodyPost_ret (v := .tuple #[.agg #[.slice none 0 0, .slice none 0 0], .int .i64 c]) (by simp [results, Try.results25, go_sem, R0, R1]) rfl ⟨.agg #[.slice none 0 0, .slice none 0 0], ?_, ?_, HBF.out⟩
    · rw [EC.out.1]
    · rw [EC.out.2.1, EC.out.2.2]; exact HD2.out
  have HF := Lib.hid hf
  obtain ⟨hr, hi⟩ := Reads.fault_zero hf
  have HR := Lib.hid hr
  have HI := Lib.hid hi
  rw [hf]
  clear hf hr hi
  by_cases hby : bok by_
  case neg =>
    have EC := Lib.hid (case_by ts xs z pl by_ HF.out hby)
    by_cases hb1 : by_ < 1
    · clear hby
      obtain ⟨F, eF, hd, R0, R1, hbF⟩ := put_dev (zero_dev u1 W.heap.size) HLT.out g2 g3
      have HD2 := Lib.hid (hd.base HB.out.size)
      have HBF := Lib.hid (HB.out.trans ((HE1.out.mono HB.out.size).trans (hbF w.heap.size (by omega))))
      clear hd hbF
      go_wp2_with fail
      refine bodyPost_ret (v := .tuple #[.agg #[.slice none 0 0, .slice none 0 0], .int .i64 4]) (by simp [results, Try.results25, go_sem, R0, R1]) rfl ⟨.agg #[.slice none 0 0, .slice none 0 0], ?_, ?_, HBF.out⟩
      · rw [EC.out.1]
      · rw [EC.out.2.1, EC.out.2.2]; exact HD2.out
    · have hb2 : 255 < by_ := by unfold bok at hby; omega
      have hd1 : decide (by_ < 1) = false := decide_eq_false hb1
      clear hby hb1
      obtain ⟨F, eF, hd, R0, R1, hbF⟩ := put_dev (zero_dev u1 W.heap.size) HLT.out g2 g3
      have HD2 := Lib.hid (hd.base HB.out.size)
      have HBF := Lib.hid (HB.out.trans ((HE1.out.mono HB.out.size).trans (hbF w.heap.size (by omega))))
      clear hd hbF
      go_wp2_with fail
      refine bodyPost_ret (v := .tuple #[.agg #[.slice none 0 0, .slice none 0 0], .int .i64 4]) (by simp [results, Try.results25, go_sem, R0, R1]) rfl ⟨.agg #[.slice none 0 0, .slice none 0 0], ?_, ?_, HBF.out⟩
      · rw [EC.out.1]
      · rw [EC.out.2.1, EC.out.2.2]; exact HD2.out
  have HBY := Lib.hid hby
  have hd1 : decide (by_ < 1) = false := decide_eq_false (by have := hby.1; omega)
  have hd2 : decide (255 < by_) = false := decide_eq_false (by have := hby.2; omega)
  clear hby
  obtain ⟨q, rfl⟩ : ∃ q : Nat, z = q := ⟨z.toNat, by have := HI.out.1; omega⟩
  have hqn : q < ts.length := by have h1 := HR.out.1; have h2 := HI.out.2; omega
  have HQN := Lib.hid hqn
  obtain ⟨s1, s2, e12, k1, k2⟩ := HV2.out
  obtain ⟨rfl, rfl⟩ : Value.slice a ts.length p = s1 ∧ Value.slice a' xs.length p' = s2 := by simpa using e12
  obtain ⟨b, o_, rfl, hcc⟩ := k1.at (by omega)
  obtain ⟨s0, hs0⟩ : ∃ s0, ts.getD q ByteArray.empty = s0 := ⟨_, rfl⟩
  have cW := hcc q (by omega)
  rw [show tc ts q = .string s0 from congrArg Value.string hs0] at cW
  have CW := Lib.hid cW
  have hs7 : s0.size ≤ 700 := by rw [← hs0]; exact HR.out.2.2.1 q hqn
  have HS0 := Lib.hid hs0
  have n1 : (q : Int) < (ts.length : Int) := by omega
  have n2 : (0 : Int) ≤ (q : Int) := by omega
  have hfk : (0 ≤ pl ∧ pl < (s0.size : Int)) ↔ fok ts (q : Int) pl := by
    unfold fok
    rw [Int.toNat_natCast, HS0.out]
  have HFK := Lib.hid hfk
  clear k1 k2 e12 hcc hs0 cW hfk
  go_wp2_with fail
  refine (copied u1 _ ts xs (HV2.out.below HE1.out) hn hm).mono ?_
  rintro e u2 ⟨r2, rfl, ho, hb⟩
  have HE2 := Lib.hid (HE1.out.trans (hb.mono HE1.out.size))
  have HO2 := Lib.hid (ho.base HE1.out.size)
  obtain ⟨a2, p2, b2, q2, rfl⟩ := Ex.form ho.devO.dev
  clear ho hb hd1 hd2
  obtain ⟨U, eU, hb, hzU, x0, x1⟩ := Ex.boxU u2 26 (.slice a2 ts.length p2) (.slice b2 xs.length q2)
  have HE3 := Lib.hid (HE2.out.trans (hb.mono HE2.out.size))
  have HO3 := Lib.hid (HO2.out.below hb)
  have HLI := Lib.hid (Ex.liesD HO2.out.devO)
  have HZU := Lib.hid hzU
  clear hb hzU g0 g1 g2 g3 g4 g5
  obtain ⟨g0, g1, g2, g3, g4, g5⟩ := HSIX.out U HE3.out
  have cd := (HE3.out.cell (World.block_lt_of_cell? W _ CW.out)).trans CW.out
  by_cases hp : fok ts (q : Int) pl
  case neg =>
    have EC := Lib.hid (case_none ts xs q pl by_ HF.out HBY.out hp)
    by_cases hp0 : pl < 0
    · clear hp
      obtain ⟨F, eF, hd, R0, R1, hbF⟩ := put_dev (HO3.out.devO) HLT.out g2 g3
      have HD2 := Lib.hid (hd.base HB.out.size)
      have HBF := Lib.hid (HB.out.trans ((HE3.out.mono HB.out.size).trans (hbF w.heap.size (by omega))))
      clear hd hbF
      go_wp2_with fail
      refine bodyPost_ret (v := .tuple #[.agg #[.slice a2 ts.length p2, .slice b2 xs.length q2], .int .i64 5]) (by simp [results, Try.results25, go_sem, R0, R1]) rfl ⟨.agg #[.slice a2 ts.length p2, .slice b2 xs.length q2], ?_, ?_, HBF.out⟩
      · rw [EC.out.1]
      · rw [EC.out.2.1, EC.out.2.2]; exact HD2.out
    · have hp1 : (s0.size : Int) ≤ pl := by have h1 : ¬ (0 ≤ pl ∧ pl < (s0.size : Int)) := fun h => hp (HFK.out.1 h); omega
      have hd1 : decide (pl < 0) = false := decide_eq_false hp0
      clear hp hp0
      obtain ⟨F, eF, hd, R0, R1, hbF⟩ := put_dev (HO3.out.devO) HLT.out g2 g3
      have HD2 := Lib.hid (hd.base HB.out.size)
      have HBF := Lib.hid (HB.out.trans ((HE3.out.mono HB.out.size).trans (hbF w.heap.size (by omega))))
      clear hd hbF
      go_wp2_with fail
      refine bodyPost_ret (v := .tuple #[.agg #[.slice a2 ts.length p2, .slice b2 xs.length q2], .int .i64 5]) (by simp [results, Try.results25, go_sem, R0, R1]) rfl ⟨.agg #[.slice a2 ts.length p2, .slice b2 xs.length q2], ?_, ?_, HBF.out⟩
      · rw [EC.out.1]
      · rw [EC.out.2.1, EC.out.2.2]; exact HD2.out
  have EC := Lib.hid (case_ok ts xs q pl by_ HF.out HBY.out hp)
  obtain ⟨hp0, hp1⟩ := HFK.out.2 hp
  obtain ⟨hy0, hy1⟩ := HBY.out
  obtain ⟨P, rfl⟩ : ∃ P : Nat, pl = P := ⟨pl.toNat, by omega⟩
  obtain ⟨Y, rfl⟩ : ∃ Y : Nat, by_ = Y := ⟨by_.toNat, by omega⟩
  simp only [Int.toNat_natCast] at EC
  rw [HS0.out] at EC
  have hd1 : decide ((P : Int) < 0) = false := decide_eq_false (by omega)
  have hd2 : decide ((s0.size : Int) ≤ (P : Int)) = false := decide_eq_false (by omega)
  have hd3 : ¬ (s0.size : Int) ≤ (P : Int) := by omega
  obtain ⟨s9, v9, e9, k1, k2, k3⟩ := HO3.out.devO
  obtain ⟨rfl, rfl⟩ : Value.slice a2 ts.length p2 = s9 ∧ Value.slice b2 xs.length q2 = v9 := by simpa using e9
  obtain ⟨b1, o1, ea1, hbb1, hcc⟩ := k1.at (by omega)
  obtain rfl : a2 = some ⟨b1, o1, none⟩ := ea1
  obtain ⟨cq, fq⟩ := hcc q (by omega)
  rw [show tc ts q = .string s0 from congrArg Value.string HS0.out] at cq
  have K1 := Lib.hid k1
  have K2 := Lib.hid k2
  have K3 := Lib.hid k3
  have lb1 : b1 < u2.heap.size := by
    obtain ⟨s', v', e', l1, l2⟩ := HLI.out
    obtain ⟨rfl, rfl⟩ : Value.slice (some ⟨b1, o1, none⟩) ts.length p2 = s' ∧ Value.slice b2 xs.length q2 = v' := by simpa using e'
    exact (l1 _ _ _ rfl (by omega)).2
  obtain ⟨g, o, cap, u3_, hcv, hown, hbel⟩ := conv U s0 (by unfold maxLen; omega)
  clear hp
  have hszF : W.heap.size ≤ U.heap.size := by have := (World.block_lt_of_cell? U _ cq); have h2 : W.heap.size ≤ b1 := hbb1; have h3 : b1 < U.heap.size := this; omega
  obtain ⟨gg, oo, eg, hgb, hgc⟩ := hown.at (by omega)
  obtain ⟨rfl, rfl⟩ : g = gg ∧ o = oo := by simpa using eg
  obtain ⟨cp, fp⟩ := hgc P (by omega)
  have hsub : b1 < U.heap.size := World.block_lt_of_cell? U _ cq
  have hY : Y < 256 := by omega
  have hxr := u8_xor_nat (bN s0 P) Y (bN_lt s0 P) hY
  have e8 : IntKind.u8.wrap (Y : Int) = Y := by rw [IntKind.wrap_u8']; omega
  have e9' : (Y : Int) % 256 = Y := by omega
  have HX8 := Lib.hid (hown.set P (by omega) (.int .u8 ((bN s0 P ^^^ Y : Nat) : Int)))
  obtain ⟨u3, eu3⟩ : ∃ u3, u3_.setCell ⟨g, o + P, none⟩ (.int .u8 ((bN s0 P ^^^ Y : Nat) : Int)) = u3 := ⟨_, rfl⟩
  rw [eu3] at HX8
  have hb23 : ∀ B, B ≤ U.heap.size → Below B u3_ u3 := fun B hB => by rw [← eu3]; exact (Below.refl B u3_).setCell (p := ⟨g, o + P, none⟩) (Nat.le_trans hB hgb) _
  have hbF3 : Below U.heap.size U u3 := hbel.trans (hb23 _ (Nat.le_refl _))
  obtain ⟨T, eT⟩ : ∃ T, fl s0 P Y = T := ⟨_, rfl⟩
  have hcv2 : (convert 22 9 (.slice (some ⟨g, o, none⟩) s0.size cap)).run Try.prog u3 = .ok (.string T) u3 := back_text u3 g o cap s0.size T (by rw [← eT, fl_size]) (fun j hj => by
    obtain ⟨bb, oo2, e2, _, hcc2⟩ := HX8.out.at (by omega)
    obtain ⟨rfl, rfl⟩ : g = bb ∧ o = oo2 := by simpa using e2
    rw [(hcc2 j (by omega)).1, ← eT, fl_bN s0 P Y j hj hY]
    show some (if j = P then Value.int .u8 ((bN s0 P ^^^ Y : Nat) : Int) else Value.int .u8 (bN s0 j : Int)) = _
    by_cases ej : j = P
    · rw [if_pos ej, if_pos ej]
    · rw [if_neg ej, if_neg ej])
  have HT := Lib.hid eT
  have n1 : (q : Int) < (ts.length : Int) := by have := HQN.out; omega
  have n2 : (0 : Int) ≤ (q : Int) := by omega
  have n3 : (P : Int) < (s0.size : Int) := by omega
  have n4 : (0 : Int) ≤ (P : Int) := by omega
  have cq3 := (hbF3.cell (p := ⟨b1, o1 + q, none⟩) hsub).trans cq
  have fq3 := (hbF3.frozen (p := ⟨b1, o1 + q, none⟩) hsub).trans fq
  have lF : w.heap.size + 1 < U.heap.size := by have := HE3.out.size; omega
  have lG : u2.heap.size < U.heap.size := by have := HZU.out; omega
  have lG2 : w.heap.size + 1 < u2.heap.size := by have := HE2.out.size; omega
  have y0 := (hbF3.cell (p := ⟨u2.heap.size, 0, none⟩) lG).trans x0
  have y1 := (hbF3.cell (p := ⟨u2.heap.size, 1, none⟩) lG).trans x1
  have z2 := (hbF3.cell (p := ⟨w.heap.size + 1, 0, none⟩) lF).trans g2
  have z3 := (hbF3.cell (p := ⟨w.heap.size + 1, 1, none⟩) lF).trans g3
  have z4 := (hbF3.frozen (p := ⟨w.heap.size + 1, 0, none⟩) lF).trans g4
  have z5 := (hbF3.frozen (p := ⟨w.heap.size + 1, 1, none⟩) lF).trans g5
  have x3 : ¬ b1 = w.heap.size + 1 := by have h2 : W.heap.size ≤ b1 := hbb1; omega
  have x5 : ¬ b1 = u2.heap.size := by omega
  have HO3' := Lib.hid (set_own (K1.out.below hbF3) rfl q HQN.out T)
  have HO4 := Lib.hid (own_turns (vs := [.slice (some ⟨b1, o1, none⟩) ts.length p2]) (K2.out.below hbF3) ((Turns.refl _ u3).set (g := b1) (o := o1) (n := ts.length) (cap := p2) (by simp) (by have := HQN.out; omega) (o1 + q) (.string T)) (fun u hu => by simp at hu; subst hu; exact K3.out.symm))
  obtain ⟨F2, eF2⟩ : ∃ F2, u3.setCell ⟨b1, o1 + q, none⟩ (.string T) = F2 := ⟨_, rfl⟩
  rw [eF2] at HO3' HO4
  have HBF2 := Lib.hid (show Below W.heap.size W F2 by rw [← eF2]; exact (HE3.out.trans (hbF3.mono HE3.out.size)).setCell (p := ⟨b1, o1 + q, none⟩) hbb1 _)
  have w0 : F2.cell? ⟨u2.heap.size, 0, none⟩ = some (.slice (some ⟨b1, o1, none⟩) ts.length p2) := by rw [← eF2, World.cell?_setCell_other _ _ _ _ (fun e => x5 (congrArg Addr.block e))]; exact y0
  have w1 : F2.cell? ⟨u2.heap.size, 1, none⟩ = some (.slice b2 xs.length q2) := by rw [← eF2, World.cell?_setCell_other _ _ _ _ (fun e => x5 (congrArg Addr.block e))]; exact y1
  have w2 : F2.cell? ⟨w.heap.size + 1, 0, none⟩ = some (.slice none 0 0) := by rw [← eF2, World.cell?_setCell_other _ _ _ _ (fun e => x3 (congrArg Addr.block e))]; exact z2
  have w3 : F2.cell? ⟨w.heap.size + 1, 1, none⟩ = some (.slice none 0 0) := by rw [← eF2, World.cell?_setCell_other _ _ _ _ (fun e => x3 (congrArg Addr.block e))]; exact z3
  have w4 : F2.frozen? ⟨w.heap.size + 1, 0, none⟩ = false := by rw [← eF2, Sl.frozen_set]; exact z4
  have w5 : F2.frozen? ⟨w.heap.size + 1, 1, none⟩ = false := by rw [← eF2, Sl.frozen_set]; exact z5
  have HLEN : Hid ((ts.set q T).length = ts.length) := Lib.hid (by rw [List.length_set])
  have HDD : Hid (DevO F2 W.heap.size (.agg #[.slice (some ⟨b1, o1, none⟩) ts.length p2, .slice b2 xs.length q2]) (ts.set q T) xs) := Lib.hid ⟨_, _, rfl, by rw [HLEN.out]; exact HO3'.out, HO4.out, K3.out⟩
  rw [eT] at EC
  clear hb23 hbF3 hbel hown HX8 hgc hcc g2 g3 eT
  have g2 := w2
  have g3 := w3
  obtain ⟨F, eF, hd, R0, R1, hbF⟩ := put_dev (HDD.out) HLT.out g2 g3
  have HD2 := Lib.hid (hd.base HB.out.size)
  have HBF := Lib.hid (HB.out.trans ((HBF2.out.mono HB.out.size).trans (hbF w.heap.size (by omega))))
  clear hd hbF
  go_wp2_with fail
  refine bodyPost_ret (v := .tuple #[.agg #[.slice (some ⟨b1, o1, none⟩) ts.length p2, .slice b2 xs.length q2], .int .i64 0]) (by simp [results, Try.results25, go_sem, R0, R1]) rfl ⟨.agg #[.slice (some ⟨b1, o1, none⟩) ts.length p2, .slice b2 xs.length q2], ?_, ?_, HBF.out⟩
  · rw [EC.out.1]
  · rw [EC.out.2.1, EC.out.2.2]; exact HD2.out
end Go.Proofs.Ytmgokpkogjdfhaa.Flips
