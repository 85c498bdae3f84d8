/-
  What is proved: the fates that are drawn out of a code are a plain list, of the call's own; a text of so many bytes that is drawn (contracts for the walks).
-/
import Derived.Test.YtmgokpkogjdfhaaRows
import Derived.Test.YtmgokpkogjdfhaaSrcV
import Derived.Test.YtmgokpkogjdfhaaCrashes
namespace Go.Proofs.Ytmgokpkogjdfhaa.SrcF
open Go.ChangeShapes Go.WideShapes Go.ChangeAt Go.RowKit
open Sl (Sl Own Off)
open OpenSl (tc nc pc)
open Dev Cop Copied
open Src SrcV
set_option linter.unusedVariables false

theorem infoI : (Try.prog.info? 3).map (fun i => (i.zero, i.size, i.bytes)) = some (some (.int .i64 0), 1, 8) := by kernel_rfl
def nl (fs : List Int) : List Value := fs.map (Value.int .i64)
theorem nl_get (fs : List Int) (j : Nat) (h : j < fs.length) : (nl fs)[j]? = some (nc fs j) := by
  simp [nl, nc, List.getD_eq_getElem?_getD, List.getElem?_eq_getElem h]
/-- So many fates, drawn from a place and a seed on. -/
def fsq (zs : List Int) (len : Nat) : Nat → Int → Int → List Int
  | 0, _, _ => []
  | r + 1, pl, seed => ((bv zs len pl seed).1 % 3) :: fsq zs len r (pl + 1) (bv zs len pl seed).2
theorem fsq_len (zs : List Int) (len : Nat) : ∀ (r : Nat) (pl seed : Int), (fsq zs len r pl seed).length = r
  | 0, _, _ => rfl
  | r + 1, pl, seed => by rw [fsq, List.length_cons, fsq_len]
theorem fsq_ok (zs : List Int) (len : Nat) : ∀ (r : Nat) (pl seed : Int), ∀ x ∈ fsq zs len r pl seed, 0 ≤ x ∧ x ≤ 2
  | 0, _, _, x, h => by simp [fsq] at h
  | r + 1, pl, seed, x, h => by
    rw [fsq, List.mem_cons] at h
    rcases h with rfl | h
    · omega
    · exact fsq_ok zs len r _ _ x h
def fv (zs : List Int) (len : Nat) (pl seed : Int) : List Int := fsq zs len ((bv zs len pl seed).1 % 4).toNat (pl + 1) (bv zs len pl seed).2
theorem fv_len (zs : List Int) (len : Nat) (pl seed : Int) : (fv zs len pl seed).length ≤ 3 := by
  unfold fv
  rw [fsq_len]
  omega
theorem fv_ok (zs : List Int) (len : Nat) (pl seed : Int) : Crashes.Fk (fv zs len pl seed) := by
  intro j hj
  have := fsq_ok zs len _ _ _ ((fv zs len pl seed).getD j 0) (by
    rw [List.getD_eq_getElem?_getD, List.getElem?_eq_getElem hj]
    exact List.getElem_mem _)
  exact this

set_option maxRecDepth 100000 in
set_option maxHeartbeats 1600000 in
theorem fates (w : World) (b : Nat) (a0 : Option Addr) (len cap : Nat) (pl seed : Int) (zs : List Int) (h : Is w b a0 len cap pl seed) (hcs : Cs w a0 len zs) (hp : pl ≤ 900000) :
    Calls Try.prog 50 #[.pointer (some ⟨b, 0, none⟩)] w fun e w' => ∃ v pl' seed', e = .returned v ∧ Own w' w.heap.size 1 v (fv zs len pl seed).length (nc (fv zs len pl seed)) ∧ Is w' b a0 len cap pl' seed' ∧ w.grownBy w' (some b) := by
  obtain ⟨i0, hi0, hz0, hz1, hz2⟩ := info_parts infoI
  have HI := Lib.hid h
  have HCS := Lib.hid hcs
  have HLT := Lib.hid (show b < w.heap.size from cell_lt h.c1)
  have HCB := Lib.hid (show ∀ bb off, a0 = some ⟨bb, off, none⟩ → 0 < len → bb < w.heap.size from fun bb off e hl => by
    obtain ⟨bb2, off2, z, e2, _, _, _, hz⟩ := h.code 0 hl
    rw [e] at e2
    simp at e2
    have := cell_lt hz
    rw [e2.1]; exact this)
  obtain ⟨FS, eFS⟩ : ∃ FS, fv zs len pl seed = FS := ⟨_, rfl⟩
  rw [eFS]
  have HFS := Lib.hid eFS
  clear h hcs eFS
  go_enter Try.func50, Try.ntmps50
  go_wp2_with fail
  have HI0 := Lib.hid (HI.out.far (World.grownBy_alloc w (Obj.cells #[] 3) none) (fun k hk => by cases hk))
  have HC0 := Lib.hid (HCS.out.far HI.out (World.grownBy_alloc w (Obj.cells #[] 3) none) (fun k hk => by cases hk))
  have HR0 := Lib.hid (World.ownsRow_made (base := w.heap.size) (e := 3) (size := 1) w #[] 0 (Nat.le_refl _) (by unfold maxLen; omega) (by simp))
  refine (nextV 4 (by omega) (by omega) _ _ _ _ _ _ _ zs HI0.out HC0.out (by omega)).mono ?_
  rintro e w1 ⟨rfl, r0, r1, hi, hc, hg⟩
  obtain ⟨n, en⟩ := Int.eq_ofNat_of_zero_le r0
  have n4 : n < 4 := by
    have := Int.emod_lt_of_pos (bv zs len pl seed).1 (show (0 : Int) < 4 by omega)
    omega
  have HS1 := Lib.hid (show [] ++ fsq zs len n (pl + 1) (bv zs len pl seed).2 = FS by rw [← HFS.out]; unfold fv; rw [en]; rfl)
  rw [en]
  have HI1 := Lib.hid hi
  have HC1 := Lib.hid hc
  have HG1 := Lib.hid (grown_then (World.grownBy_alloc w (Obj.cells #[] 3) (some b)) hg (fun j hj => .inr rfl))
  have R1 := Lib.hid (World.ownsRow.kept HR0.out hg (by
    right
    intro e
    have := (World.ownsRow.lt HR0.out b e).1
    have := HLT.out
    omega))
  clear r0 r1 hi hc hg en HR0 HI0 HC0
  generalize (bv zs len pl seed).2 = sd at *
  go_wp2_with fail
  go_loopw [3, 4] (fun v i wr => ∃ (r : Nat) (fs : List Int) (pl' seed' : Int), r ≤ 3 ∧ fs.length + r ≤ 3 ∧ i = .int .i64 r ∧ Hid (fs ++ fsq zs len r pl' seed' = FS) ∧ Hid (wr.ownsRow w.heap.size 3 1 v fs.length (nl fs)) ∧ Hid (Is wr b a0 len cap pl' seed') ∧ Hid (Cs wr a0 len zs) ∧ pl' ≤ pl + 4 - r ∧ Hid (w.grownBy wr (some b))) (fun _ i _ => (intOf i).toNat)
  case atStart => exact ⟨n, [], pl + 1, sd, by omega, by simp; omega, rfl, HS1, R1, HI1, HC1, by omega, HG1⟩
  case round =>
    rename_i wr
    obtain ⟨r, fs, pl', seed', hr, hfr, rfl, HS, R, HI2, HC2, hpl, HG⟩ := hrel
    have hsz := Lib.hid HG.out.size
    cases r with
    | succ r =>
      have dr : decide (((r + 1 : Nat) : Int) > 0) = true := decide_eq_true (by omega)
      go_wp2_with fail
      refine (nextV 3 (by omega) (by omega) _ _ _ _ _ _ _ zs HI2.out HC2.out (by omega)).mono ?_
      rintro e w2 ⟨rfl, r0, r1, hi, hc, hg⟩
      have HS2 := Lib.hid (show (fs ++ [(bv zs len pl' seed').1 % 3]) ++ fsq zs len r (pl' + 1) (bv zs len pl' seed').2 = FS by rw [← HS.out, fsq, List.append_assoc]; rfl)
      generalize (bv zs len pl' seed').1 % 3 = q at *
      generalize (bv zs len pl' seed').2 = sd2 at *
      have HI3 := Lib.hid hi
      have HC3 := Lib.hid hc
      have HG3 := Lib.hid hg
      have R2 := Lib.hid (World.ownsRow.kept R.out hg (by
        right
        intro e
        have := (World.ownsRow.lt R.out b e).1
        have := HLT.out
        omega))
      have hsz2 := Lib.hid hg.size
      clear hi hc hg
      go_wp2_with (at_builtin; refine wpList_append_lies _ rfl _ _ _ rfl w.heap.size 3 i0 _ 1 8 Try.underlying36 hi0 hz0 hz1 hz2 rfl (by omega) _ fs.length (nl fs) (by rfl) (World.ownsRow.alloc R2.out _) ⟨w2.heap.size, 0, none⟩ 1 1 [.int .i64 q] (by rfl) (by rfl) (World.news_of_block (cs := #[.int .i64 q]) (t := 3) (fr := (0, 0)) (heap_alloc_new w2 _)) (by simp [Value.oneCell']) (by omega) (by unfold maxLen; omega) (by omega) (by have := hsz.out; have := hsz2.out; simp; omega) (w2.heap.size + 1) (by simp) ?_; intro gg cap w3 hown1 hgrow hat hlt1; have HO := Lib.hid hown1; have HG4 := Lib.hid hgrow; clear hown1 hgrow hat hlt1)
      go_roundw
      case rel =>
        have hrow : ∀ k, Value.ownBlock _ = some k → w.heap.size ≤ k := fun k hk => (World.ownsRow.lt R.out k hk).1
        have hfar : ∀ j, Value.ownBlock _ = some j → j ≠ b ∧ (0 < len → ∀ bb off, a0 = some ⟨bb, off, none⟩ → j ≠ bb) := fun j hj => by
            have h1 := hrow j hj
            have h2 := HLT.out
            refine ⟨by omega, fun hz bb off e => ?_⟩
            have := HCB.out bb off e hz
            omega
        have HI4 := Is.far HI3.out (World.grownBy_alloc w2 (.cells #[.int .i64 q] 3) none) (fun k hk => by cases hk)
        have HC4 := Cs.far HI3.out HC3.out (World.grownBy_alloc w2 (.cells #[.int .i64 q] 3) none) (fun k hk => by cases hk)
        exact ⟨r, fs ++ [q], pl' + 1, sd2, by omega, by simp; omega, by go_num, HS2, Lib.hid (by
          have := HO.out
          rw [show nl (fs ++ [q]) = nl fs ++ [.int .i64 q] by simp [nl], List.length_append]
          exact this), Lib.hid (Is.far HI4 HG4.out hfar), Lib.hid (Cs.far HI4 HC4 HG4.out (fun j hj => .inr (hfar j hj).2)), by omega, Lib.hid (grown_then (grown_then (grown_then HG.out HG3.out (fun j hj => .inr rfl)) (World.grownBy_alloc w2 _ none) (fun j hj => by cases hj)) HG4.out (fun j hj => .inl (hrow j hj)))⟩
      case measure => simp [intOf]
    | zero =>
      obtain rfl : fs = FS := by have := HS.out; rwa [fsq, List.append_nil] at this
      go_wp2
      go_ret
      exact ⟨_, pl', seed', rfl, own_of_row R.out (nc fs) (fun j hj => nl_get fs j (by omega)), HI2.out, HG.out⟩

theorem cs_of {w : World} {a : Option Addr} {len cap : Nat} {zs : List Int} (h : IsRow .u8 w a len cap zs) : Cs w a len zs := by
  rcases h with ⟨rfl, rfl, rfl, rfl⟩ | ⟨x, rfl, h1, h2, h3, h4, h5⟩
  · intro i hi
    omega
  · intro i hi bb off e
    obtain ⟨b, off2, rfl, hc⟩ := ints_at h4 (by omega)
    simp at e
    rw [← e.1, ← e.2]
    exact hc i (by omega)
/-- The fates of a code. -/
def fo (zs : List Int) (len : Nat) : List Int := fv zs len 0 ((len : Int) % 1000)
set_option maxRecDepth 100000 in
theorem fatesOf (w : World) (a : Option Addr) (len cap : Nat) (zs : List Int) (h : IsRow .u8 w a len cap zs) :
    Calls Try.prog 20 #[.slice a len cap] w fun e w' => ∃ v, e = .returned v ∧ Own w' w.heap.size 1 v (fo zs len).length (nc (fo zs len)) ∧ Below w.heap.size w w' := by
  have H := Lib.hid h
  clear h
  go_enter Try.func20, Try.ntmps20
  go_wp2_with fail
  refine (source w a len cap zs H.out).mono ?_
  rintro e w1 ⟨rfl, HS⟩
  have HC := Lib.hid (show Cs w1 a len zs from fun i hi bb off e => by
    have hz := cs_of H.out i hi bb off e
    exact (HS.out.2.1.cell (cell_lt hz)).trans hz)
  go_wp2_with fail
  refine (fates _ _ _ _ _ _ _ zs HS.out.1 HC.out (by omega)).mono ?_
  rintro e w2 ⟨v, pl2, seed2, rfl, ho, hi, hg⟩
  have HO := Lib.hid (ho.base (base' := w.heap.size) HS.out.2.1.size)
  have HG := Lib.hid hg
  clear ho hi hg
  go_wp2
  go_ret
  exact ⟨_, rfl, HO.out, HS.out.2.1.trans ⟨HG.out.os, HG.out.tape, HG.out.output, HG.out.size, fun k hk => HG.out.block k (by have := HS.out.2.2; omega) (by simp; omega)⟩⟩
theorem bytesOf (n : Nat) (hn : n ≤ 65536) (w : World) (a : Option Addr) (len cap : Nat) (zs : List Int) (h : IsRow .u8 w a len cap zs) :
    Calls Try.prog 15 #[.slice a len cap, .int .i64 n] w fun e w' => ∃ t : ByteArray, e = .returned (.string t) ∧ t.size = n ∧ Below w.heap.size w w' := by
  have H := Lib.hid h
  clear h
  go_enter Try.func15, Try.ntmps15
  go_wp2_with fail
  refine (source w a len cap zs H.out).mono ?_
  rintro e w1 ⟨rfl, HS⟩
  go_wp2_with fail
  refine (Src.bytes n hn _ _ _ _ _ _ _ HS.out.1 (by omega)).mono ?_
  rintro e w2 ⟨bs, pl2, seed2, rfl, hb1, hb2, hi, hpl, hg⟩
  have HG := Lib.hid hg
  have hb : (⟨bs.toArray⟩ : ByteArray).size = n := by show bs.toArray.size = n; simp; omega
  clear hi hg
  go_wp2
  go_ret
  exact ⟨_, rfl, hb, HS.out.2.1.trans ⟨HG.out.os, HG.out.tape, HG.out.output, HG.out.size, fun k hk => HG.out.block k (by have := HS.out.2.2; omega) (by simp; omega)⟩⟩
end Go.Proofs.Ytmgokpkogjdfhaa.SrcF
