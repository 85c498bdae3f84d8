/-
  What is proved: a block of 64 bytes taken in, on words of uint32, is the plain function of the eight words and the block, where the package's table holds its words (contract for the walks).
-/
import Derived.Test.YtemlmffoehclhaaDoorRows
import Derived.Test.YtemlmffoehclhaaDoorMixRound
import Derived.Test.YtemlmffoehclhaaDoorBlockWords
import Derived.Test.YtemlmffoehclhaaDoorHashOKc
import Derived.Lib.LaidTab
namespace Go.Proofs.YtemlmffoehclhaaDoor.MixBlock
open Go.ChangeShapes Go.WideShapes Go.ChangeAt Go.RowKit
open Word
open Arr (Row)
open MixRound (agg32)
set_option linter.unusedVariables false

def KL : List Nat := [1116352408, 1899447441, 3049323471, 3921009573, 961987163, 1508970993, 2453635748, 2870763221, 3624381080, 310598401, 607225278, 1426881987, 1925078388, 2162078206, 2614888103, 3248222580, 3835390401, 4022224774, 264347078, 604807628, 770255983, 1249150122, 1555081692, 1996064986, 2554220882, 2821834349, 2952996808, 3210313671, 3336571891, 3584528711, 113926993, 338241895, 666307205, 773529912, 1294757372, 1396182291, 1695183700, 1986661051, 2177026350, 2456956037, 2730485921, 2820302411, 3259730800, 3345764771, 3516065817, 3600352804, 4094571909, 275423344, 430227734, 506948616, 659060556, 883997877, 958139571, 1322822218, 1537002063, 1747873779, 1955562222, 2024104815, 2227730452, 2361852424, 2428436474, 2756734187, 3204031479, 3329325298]
def kk (i : Nat) : Nat := KL.getD i 0
theorem KL_lt : ∀ x ∈ KL, x < 4294967296 := by decide
theorem kk_lt (i : Nat) : kk i < 4294967296 := by
  unfold kk
  rw [List.getD_eq_getElem?_getD]
  cases h : KL[i]? with
  | none => simp
  | some x => simp; exact KL_lt x (List.mem_of_getElem? h)

/-- The package's table holds its words. -/
def Tab (w : World) : Prop := ∀ k, k < 64 → w.cell? ⟨0, k, none⟩ = some (.int .u32 (kk k : Int))
theorem Tab.lt {w : World} (h : Tab w) : (0 : Nat) < w.heap.size := World.block_lt_of_cell? w _ (h 0 (by omega))
theorem Tab.below {w w' : World} (h : Tab w) {B : Nat} (hb : Below B w w') (hB : (0 : Nat) < B) : Tab w' := fun k hk => (hb.cell (p := ⟨0, k, none⟩) hB).trans (h k hk)

/-- The 64 turns. -/
def run (m : Nat → Nat) (s : St) : Nat → St
  | 0 => s
  | k + 1 => (run m s k).turn (kk k + wd m k)
theorem run_ok (m : Nat → Nat) (s : St) (h : s.ok) : ∀ k, (run m s k).ok
  | 0 => h
  | k + 1 => St.turn_ok (run_ok m s h k) _
def lst (s : St) : List Nat := [s.a, s.b, s.c, s.d, s.e, s.f, s.g, s.h]
/-- A block taken in. -/
def blk (m : Nat → Nat) (s : St) : List Nat := (List.range 8).map fun j => ((lst s).getD j 0 + (lst (run m s 64)).getD j 0) % 4294967296
theorem blk_length (m : Nat → Nat) (s : St) : (blk m s).length = 8 := by simp [blk]
theorem blk_lt (m : Nat → Nat) (s : St) : ∀ x ∈ blk m s, x < 4294967296 := by
  intro x hx
  simp only [blk, List.mem_map] at hx
  obtain ⟨j, _, rfl⟩ := hx
  exact Nat.mod_lt _ (by omega)
theorem lst_length (t : St) : (lst t).length = 8 := rfl
theorem lst_lt (t : St) (h : t.ok) (j : Nat) : (lst t).getD j 0 < 4294967296 := by
  obtain ⟨h0, h1, h2, h3, h4, h5, h6, h7⟩ := h
  match j with
  | 0 => exact h0
  | 1 => exact h1
  | 2 => exact h2
  | 3 => exact h3
  | 4 => exact h4
  | 5 => exact h5
  | 6 => exact h6
  | 7 => exact h7
  | j + 8 => simp [lst]
theorem blk_at (m : Nat → Nat) (s : St) (j : Nat) (h : j < 8) : (blk m s)[j]? = some (((lst s).getD j 0 + (lst (run m s 64)).getD j 0) % 4294967296) := by simp [blk, h]
def c64 (l : List Nat) : List Value := l.map fun (x : Nat) => .int .i64 (x : Int)
def c32 (l : List Nat) : List Value := l.map fun (x : Nat) => .int .u32 (x : Int)
theorem c64_at (l : List Nat) (j : Nat) (h : j < l.length) : (c64 l)[j]? = some (.int .i64 (l.getD j 0 : Int)) := by simp [c64, List.getElem?_eq_getElem h, List.getD_eq_getElem?_getD]
theorem c32_at (l : List Nat) (j : Nat) (h : j < l.length) : (c32 l)[j]? = some (.int .u32 (l.getD j 0 : Int)) := by simp [c32, List.getElem?_eq_getElem h, List.getD_eq_getElem?_getD]

theorem index64 (cs : List Value) (k : Nat) (v : Value) (hk : k < 64) (hv : cs[k]? = some v) (w : World) :
    (Instr.index 89 (.agg cs.toArray) (.int .i64 (k : Int))).run Tryd.prog w = .ok v w := by
  simp [Instr.index, run_underlying Tryd.underlying89, part, go_sem, hv]
  omega
theorem index8 (cs : List Value) (k : Nat) (v : Value) (hk : k < 8) (hv : cs[k]? = some v) (w : World) :
    (Instr.index 27 (.agg cs.toArray) (.int .i64 (k : Int))).run Tryd.prog w = .ok v w := by
  simp [Instr.index, run_underlying Tryd.underlying27, part, go_sem, hv]
  omega
theorem info8 : (Tryd.prog.info? 27).map (·.size) = some 8 := by kernel_rfl

/-- Three blocks that were laid one behind the other. -/
theorem three_new (w : World) (a b c : Array Value) (t u v : TypeId) : Row (((w.alloc (.cells a t)).alloc (.cells b u)).alloc (.cells c v)) w.heap.size t a.toList ∧ Row (((w.alloc (.cells a t)).alloc (.cells b u)).alloc (.cells c v)) (w.heap.size + 1) u b.toList ∧
    Row (((w.alloc (.cells a t)).alloc (.cells b u)).alloc (.cells c v)) (w.heap.size + 2) v c.toList ∧ Below w.heap.size w (((w.alloc (.cells a t)).alloc (.cells b u)).alloc (.cells c v)) ∧ w.heap.size + 3 ≤ (((w.alloc (.cells a t)).alloc (.cells b u)).alloc (.cells c v)).heap.size := by
  obtain ⟨h1, h2, h3, h4⟩ := Arr.two_new w a b t u
  refine ⟨h1.alloc _, h2.alloc _, ?_, h3.alloc (by omega) _, by simp⟩
  have := Arr.row_new ((w.alloc (.cells a t)).alloc (.cells b u)) c v
  rw [show ((w.alloc (.cells a t)).alloc (.cells b u)).heap.size = w.heap.size + 2 by simp] at this
  exact this

set_option maxRecDepth 100000 in
set_option maxHeartbeats 3200000 in
theorem mixBlock (x0 x1 x2 x3 x4 x5 x6 x7 : Nat) (hok : St.ok ⟨x0, x1, x2, x3, x4, x5, x6, x7⟩) (s : ByteArray) (hs : s.size = 64) (w : World) (T : Tab w) :
    Calls Tryd.prog 73 #[.agg #[.int .i64 (x0 : Int), .int .i64 (x1 : Int), .int .i64 (x2 : Int), .int .i64 (x3 : Int), .int .i64 (x4 : Int), .int .i64 (x5 : Int), .int .i64 (x6 : Int), .int .i64 (x7 : Int)], .string s] w fun e' w' => e' = .returned (.agg (c64 (blk (mw s) ⟨x0, x1, x2, x3, x4, x5, x6, x7⟩)).toArray) ∧ Below w.heap.size w w' := by
  have TT := Lib.hid T
  have HOK := Lib.hid hok
  have HS := Lib.hid hs
  have HTL := Lib.hid T.lt
  clear T hok hs
  generalize hst : (⟨x0, x1, x2, x3, x4, x5, x6, x7⟩ : St) = st at *
  have hhl : [x0, x1, x2, x3, x4, x5, x6, x7] = lst st := by rw [← hst]; rfl
  have HHL := Lib.hid hhl
  have hagg : (#[.int .i64 (x0 : Int), .int .i64 (x1 : Int), .int .i64 (x2 : Int), .int .i64 (x3 : Int), .int .i64 (x4 : Int), .int .i64 (x5 : Int), .int .i64 (x6 : Int), .int .i64 (x7 : Int)] : Array Value) = (c64 (lst st)).toArray := by rw [← hhl]; rfl
  have HAGG := Lib.hid hagg
  have hlen := Lib.hid (lst_length st)
  have hlt8 := Lib.hid (lst_lt st HOK.out)
  clear hst hhl hagg
  go_enter Tryd.func73, Tryd.ntmps73
  go_wp2
  generalize hW : ((w.alloc _).alloc _).alloc _ = W
  obtain ⟨z1, z2, hz1, hz2, R0, R1, R2, HB, hsz⟩ : ∃ z1 z2 : List Value, z1.length = 8 ∧ z2.length = 8 ∧ Row W w.heap.size 27 (c64 (lst st)) ∧ Row W (w.heap.size + 1) 27 z1 ∧ Row W (w.heap.size + 2) 88 z2 ∧ Below w.heap.size w W ∧ w.heap.size + 3 ≤ W.heap.size := by
    rw [← hW, HAGG.out]
    refine ⟨_, _, ?_, ?_, (three_new w _ _ _ _ _ _).1, (three_new w _ _ _ _ _ _).2.1, (three_new w _ _ _ _ _ _).2.2.1, (three_new w _ _ _ _ _ _).2.2.2.1, (three_new w _ _ _ _ _ _).2.2.2.2⟩
    · rfl
    · rfl
  clear hW
  have Z1 := Lib.hid hz1
  have Z2 := Lib.hid hz2
  have RR := Lib.hid (And.intro R0 (And.intro R1 (And.intro HB hsz)))
  have RR2 := Lib.hid R2
  clear hz1 hz2 R0 R1 R2 HB hsz
  go_loopw [13] (fun i wr => ∃ (k : Nat) (xs : List Value), k ≤ 8 ∧ i = .int .i64 k ∧ Hid (xs.length = 8 ∧ Row wr (w.heap.size + 2) 88 xs ∧ ∀ j, j < k → xs[j]? = some (.int .u32 ((lst st).getD j 0 : Int))) ∧ Hid (Row wr w.heap.size 27 (c64 (lst st)) ∧ Row wr (w.heap.size + 1) 27 z1 ∧ Below w.heap.size w wr ∧ w.heap.size + 3 ≤ wr.heap.size)) (fun i _ => 8 - (intOf i).toNat)
  case atStart => exact ⟨0, z2, by omega, rfl, Lib.hid ⟨Z2.out, RR2.out, fun j h => by omega⟩, RR⟩
  case round =>
    rename_i wr
    obtain ⟨k, xs, hk, rfl, HX, HR⟩ := hrel
    clear RR RR2
    by_cases hlt : k < 8
    · have hx := HX.out
      have hc := hx.2.1.cell k
      have hf := hx.2.1.frozen k
      rw [List.getElem?_eq_getElem (by omega)] at hc
      generalize xs[k] = v0 at hc
      have hidx : ∀ u : World, (Instr.index 27 (.agg #[.int .i64 (x0 : Int), .int .i64 (x1 : Int), .int .i64 (x2 : Int), .int .i64 (x3 : Int), .int .i64 (x4 : Int), .int .i64 (x5 : Int), .int .i64 (x6 : Int), .int .i64 (x7 : Int)]) (.int .i64 (k : Int))).run Tryd.prog u = .ok (.int .i64 ((lst st).getD k 0 : Int)) u := fun u => by
        rw [HAGG.out]; exact index8 _ k _ hlt (c64_at _ k (by rw [hlen.out]; exact hlt)) u
      obtain ⟨y, ey, ly⟩ : ∃ y, (lst st).getD k 0 = y ∧ y < 4294967296 := ⟨_, rfl, hlt8.out k⟩
      rw [ey] at hidx
      have EY := Lib.hid ey
      have k8 : (k : Int) < 8 := by omega
      have ly2 : (y : Int) < 4294967296 := by omega
      clear hx ey
      go_wp2
      go_roundw
      case rel =>
        have hx := HX.out
        have hr := HR.out
        refine ⟨k + 1, xs.set k (.int .u32 (y : Int)), by omega, by go_num, Lib.hid ⟨by simp [hx.1], hx.2.1.set k _, fun j hj => ?_⟩, Lib.hid ⟨hr.1.set_far _ _ _ (by omega), hr.2.1.set_far _ _ _ (by omega), hr.2.2.1.setCell (by show w.heap.size ≤ w.heap.size + 2; omega) _, by simpa [World.setCell] using hr.2.2.2⟩⟩
        by_cases e : j = k
        · rw [e, List.getElem?_set_self (by omega), EY.out]
        · rw [List.getElem?_set_ne (by omega)]; exact hx.2.2 j (by omega)
      case measure => simp [intOf]; omega
    · have hge : decide ((k : Int) < 8) = false := decide_eq_false (by omega)
      have hxs : xs = c32 (lst st) := by
        apply List.ext_getElem?
        intro i
        by_cases hi : i < 8
        · rw [HX.out.2.2 i (by omega), c32_at _ _ (by rw [hlen.out]; exact hi)]
        · have := HX.out.1
          rw [List.getElem?_eq_none (by omega), List.getElem?_eq_none (by simp [c32]; rw [hlen.out]; omega)]
      have HV0 := Lib.hid (show Row wr (w.heap.size + 2) 88 (c32 (lst st)) by rw [← hxs]; exact HX.out.2.1)
      clear hxs hk hlt HX
      go_wp2_with fail
      refine (BlockWords.blockWords s HS.out _).mono ?_
      rintro e w1 ⟨rfl, hb⟩
      have hlw := HR.out.2.2.2
      have HR1 := Lib.hid (show Row w1 w.heap.size 27 (c64 (lst st)) ∧ Row w1 (w.heap.size + 1) 27 z1 ∧ Below w.heap.size w w1 ∧ w.heap.size + 3 ≤ w1.heap.size from
        ⟨HR.out.1.below hb (by omega), HR.out.2.1.below hb (by omega), HR.out.2.2.1.trans (hb.mono (by omega)), Nat.le_trans hlw hb.size⟩)
      have HV1 := Lib.hid (HV0.out.below hb (by omega))
      clear hb hlw HR HV0
      have HYS := Lib.hid (fun k (h : k < 64) => show (BlockWords.w32 (mw s))[k]? = some (.int .u32 (wd (mw s) k : Int)) by simp [BlockWords.w32, h])
      generalize BlockWords.w32 (mw s) = ys at *
      go_wp2
      clear hge
      go_loopw [24] (fun i wr => ∃ (k : Nat), k ≤ 64 ∧ i = .int .i64 k ∧ Hid (Row wr (w.heap.size + 2) 88 (c32 (lst (run (mw s) st k)))) ∧ Hid (Row wr w.heap.size 27 (c64 (lst st)) ∧ Row wr (w.heap.size + 1) 27 z1 ∧ Below w.heap.size w wr ∧ w.heap.size + 3 ≤ wr.heap.size)) (fun i _ => 64 - (intOf i).toNat)
      case atStart => exact ⟨0, by omega, rfl, HV1, HR1⟩
      case round =>
        rename_i wr
        clear HV1 HR1
        obtain ⟨k, hk, rfl, HV, HR⟩ := hrel
        by_cases hlt : k < 64
        · have ROK := Lib.hid (run_ok (mw s) st HOK.out k)
          generalize hrun : run (mw s) st k = t at *
          obtain ⟨a, b, c, d, e, f, g, z⟩ := t
          have HRUN := Lib.hid hrun
          clear hrun
          have hidx : ∀ u : World, (Instr.index 89 (.agg ys.toArray) (.int .i64 (k : Int))).run Tryd.prog u = .ok (.int .u32 (wd (mw s) k : Int)) u := fun u => index64 _ k _ hlt (HYS.out k hlt) u
          have hK := (TT.out.below HR.out.2.2.1 HTL.out) k hlt
          have HKW := Lib.hid (fun (kw : Nat) (h : (kk k + wd (mw s) k) % 4294967296 = kw) => show run (mw s) st (k + 1) = St.turn ⟨a, b, c, d, e, f, g, z⟩ kw by
            show (run (mw s) st k).turn (kk k + wd (mw s) k) = _
            rw [HRUN.out]
            exact St.turn_mod _ _ _ (by rw [← h]; omega))
          have lK := kk_lt k
          have lW := wd_lt (mw s) (mw_lt s) k hlt
          generalize kk k = K1 at *
          generalize wd (mw s) k = W1 at *
          obtain ⟨kw, ekw, lkw⟩ : ∃ kw, (K1 + W1) % 4294967296 = kw ∧ kw < 4294967296 := ⟨_, rfl, Nat.mod_lt _ (by omega)⟩
          have HKW2 := Lib.hid (HKW.out kw ekw)
          have hkw : IntKind.u32.wrap ((K1 : Int) + (W1 : Int)) = (kw : Int) := by rw [IntKind.wrap_u32', ← ekw]; omega
          have k64 : (k : Int) < 64 := by omega
          have k0 : (0 : Int) ≤ (k : Int) := by omega
          have q0 : ∀ n, (World.mk wr.heap wr.tape n wr.os wr.output).cell? ⟨w.heap.size + 2, 0, none⟩ = some (.int .u32 (a : Int)) := fun _ => HV.out.cell 0
          have q1 : ∀ n, (World.mk wr.heap wr.tape n wr.os wr.output).cell? ⟨w.heap.size + 2, 1, none⟩ = some (.int .u32 (b : Int)) := fun _ => HV.out.cell 1
          have q2 : ∀ n, (World.mk wr.heap wr.tape n wr.os wr.output).cell? ⟨w.heap.size + 2, 2, none⟩ = some (.int .u32 (c : Int)) := fun _ => HV.out.cell 2
          have q3 : ∀ n, (World.mk wr.heap wr.tape n wr.os wr.output).cell? ⟨w.heap.size + 2, 3, none⟩ = some (.int .u32 (d : Int)) := fun _ => HV.out.cell 3
          have q4 : ∀ n, (World.mk wr.heap wr.tape n wr.os wr.output).cell? ⟨w.heap.size + 2, 4, none⟩ = some (.int .u32 (e : Int)) := fun _ => HV.out.cell 4
          have q5 : ∀ n, (World.mk wr.heap wr.tape n wr.os wr.output).cell? ⟨w.heap.size + 2, 5, none⟩ = some (.int .u32 (f : Int)) := fun _ => HV.out.cell 5
          have q6 : ∀ n, (World.mk wr.heap wr.tape n wr.os wr.output).cell? ⟨w.heap.size + 2, 6, none⟩ = some (.int .u32 (g : Int)) := fun _ => HV.out.cell 6
          have q7 : ∀ n, (World.mk wr.heap wr.tape n wr.os wr.output).cell? ⟨w.heap.size + 2, 7, none⟩ = some (.int .u32 (z : Int)) := fun _ => HV.out.cell 7
          have q9 : ∀ n, (World.mk wr.heap wr.tape n wr.os wr.output).cell? ⟨0, k, none⟩ = some (.int .u32 (K1 : Int)) := fun _ => hK
          clear ekw HKW HRUN
          go_wp2
          refine wp_region_still_tail 6 (by kernel_rfl) (by kernel_rfl) ?_
          simp only [List.take_succ_cons, List.take_zero, List.drop_succ_cons, List.drop_zero]
          repeat still_step
          refine wpStill_nil ?_
          clear q0 q1 q2 q3 q4 q5 q6 q7 q9 hidx hK hkw
          change wpList _ _ _ _ _ wr.drew
          go_wp2_with fail
          refine (MixRound.turn a b c d e f g z kw ROK.out.1 ROK.out.2.1 ROK.out.2.2.1 ROK.out.2.2.2.1 ROK.out.2.2.2.2.1 ROK.out.2.2.2.2.2.1 ROK.out.2.2.2.2.2.2.1 ROK.out.2.2.2.2.2.2.2 lkw _).mono ?_
          rintro e' w1 ⟨rfl, hb⟩
          have hlw := HR.out.2.2.2
          have hb' : Below wr.heap.size wr w1 := ⟨hb.os, hb.tape, hb.output, hb.size, hb.block⟩
          have HR1 := Lib.hid (show Row w1 w.heap.size 27 (c64 (lst st)) ∧ Row w1 (w.heap.size + 1) 27 z1 ∧ Below w.heap.size w w1 ∧ w.heap.size + 3 ≤ w1.heap.size from
            ⟨HR.out.1.below hb' (by omega), HR.out.2.1.below hb' (by omega), HR.out.2.2.1.trans (hb'.mono (by omega)), Nat.le_trans hlw hb'.size⟩)
          have HV1 := Lib.hid (HV.out.below hb' (by omega))
          clear hb hb' hlw HR HV
          have d0 : w1.cell? ⟨w.heap.size + 2, 0, none⟩ = some (.int .u32 (a : Int)) := HV1.out.cell 0
          have g0 := HV1.out.frozen 0
          have d1 : w1.cell? ⟨w.heap.size + 2, 1, none⟩ = some (.int .u32 (b : Int)) := HV1.out.cell 1
          have g1 := HV1.out.frozen 1
          have d2 : w1.cell? ⟨w.heap.size + 2, 2, none⟩ = some (.int .u32 (c : Int)) := HV1.out.cell 2
          have g2 := HV1.out.frozen 2
          have d3 : w1.cell? ⟨w.heap.size + 2, 3, none⟩ = some (.int .u32 (d : Int)) := HV1.out.cell 3
          have g3 := HV1.out.frozen 3
          have d4 : w1.cell? ⟨w.heap.size + 2, 4, none⟩ = some (.int .u32 (e : Int)) := HV1.out.cell 4
          have g4 := HV1.out.frozen 4
          have d5 : w1.cell? ⟨w.heap.size + 2, 5, none⟩ = some (.int .u32 (f : Int)) := HV1.out.cell 5
          have g5 := HV1.out.frozen 5
          have d6 : w1.cell? ⟨w.heap.size + 2, 6, none⟩ = some (.int .u32 (g : Int)) := HV1.out.cell 6
          have g6 := HV1.out.frozen 6
          have d7 : w1.cell? ⟨w.heap.size + 2, 7, none⟩ = some (.int .u32 (z : Int)) := HV1.out.cell 7
          have g7 := HV1.out.frozen 7
          unfold agg32 St.turn
          go_wp2
          go_roundw
          case rel =>
            have hr := HR1.out
            refine ⟨k + 1, by omega, by go_num, Lib.hid ?_, Lib.hid ⟨?_, ?_, ?_, by simpa [World.setCell] using hr.2.2.2⟩⟩
            · rw [HKW2.out]
              exact (((((((HV1.out.set 0 _).set 1 _).set 2 _).set 3 _).set 4 _).set 5 _).set 6 _).set 7 _
            · iterate 8 refine Row.set_far ?_ _ _ _ (by omega)
              exact hr.1
            · iterate 8 refine Row.set_far ?_ _ _ _ (by omega)
              exact hr.2.1
            · iterate 8 refine Below.setCell ?_ (by show w.heap.size ≤ w.heap.size + 2; omega) _
              exact hr.2.2.1
          case measure => simp [intOf]; omega
        · have hge : decide ((k : Int) < 64) = false := decide_eq_false (by omega)
          have hk64 : k = 64 := by omega
          have HV3 := Lib.hid (show Row wr (w.heap.size + 2) 88 (c32 (lst (run (mw s) st 64))) by rw [← hk64]; exact HV.out)
          have hx0 : wr.cell? ⟨w.heap.size, 0, none⟩ = some (.int .i64 (x0 : Int)) := by rw [HR.out.1.cell, ← HHL.out]; rfl
          have hx1 : wr.cell? ⟨w.heap.size, 1, none⟩ = some (.int .i64 (x1 : Int)) := by rw [HR.out.1.cell, ← HHL.out]; rfl
          have hx2 : wr.cell? ⟨w.heap.size, 2, none⟩ = some (.int .i64 (x2 : Int)) := by rw [HR.out.1.cell, ← HHL.out]; rfl
          have hx3 : wr.cell? ⟨w.heap.size, 3, none⟩ = some (.int .i64 (x3 : Int)) := by rw [HR.out.1.cell, ← HHL.out]; rfl
          have hx4 : wr.cell? ⟨w.heap.size, 4, none⟩ = some (.int .i64 (x4 : Int)) := by rw [HR.out.1.cell, ← HHL.out]; rfl
          have hx5 : wr.cell? ⟨w.heap.size, 5, none⟩ = some (.int .i64 (x5 : Int)) := by rw [HR.out.1.cell, ← HHL.out]; rfl
          have hx6 : wr.cell? ⟨w.heap.size, 6, none⟩ = some (.int .i64 (x6 : Int)) := by rw [HR.out.1.cell, ← HHL.out]; rfl
          have hx7 : wr.cell? ⟨w.heap.size, 7, none⟩ = some (.int .i64 (x7 : Int)) := by rw [HR.out.1.cell, ← HHL.out]; rfl
          clear HV hk64 hk hlt
          go_wp2
          clear hge hx0 hx1 hx2 hx3 hx4 hx5 hx6 hx7
          have hvlt := Lib.hid (lst_lt _ (run_ok (mw s) st HOK.out 64))
          have HBLK := Lib.hid (blk_at (mw s) st)
          have hbl := Lib.hid (blk_length (mw s) st)
          have hvl := Lib.hid (lst_length (run (mw s) st 64))
          generalize lst (run (mw s) st 64) = vl at *
          go_loopw [37] (fun i wr => ∃ (k : Nat) (xs : List Value), k ≤ 8 ∧ i = .int .i64 k ∧ Hid (xs.length = 8 ∧ Row wr w.heap.size 27 xs ∧ ∀ j, j < k → xs[j]? = some (.int .i64 ((((lst st).getD j 0 + vl.getD j 0) % 4294967296 : Nat) : Int))) ∧ Hid (Row wr (w.heap.size + 2) 88 (c32 vl) ∧ Row wr (w.heap.size + 1) 27 z1 ∧ Below w.heap.size w wr)) (fun i _ => 8 - (intOf i).toNat)
          case atStart => exact ⟨0, c64 (lst st), by omega, rfl, Lib.hid ⟨by simp [c64]; exact hlen.out, HR.out.1, fun j h => by omega⟩, Lib.hid ⟨HV3.out, HR.out.2.1, HR.out.2.2.1⟩⟩
          case round =>
            rename_i wr
            clear HR HV3
            obtain ⟨k, xs, hk, rfl, HX, HR⟩ := hrel
            by_cases hlt : k < 8
            · have hx := HX.out
              have hc := hx.2.1.cell k
              have hf := hx.2.1.frozen k
              rw [List.getElem?_eq_getElem (by omega)] at hc
              generalize xs[k] = v0 at hc
              have hvc := HR.out.1.cell k
              rw [c32_at _ _ (by rw [hvl.out]; exact hlt)] at hvc
              have hidx : ∀ u : World, (Instr.index 27 (.agg #[.int .i64 (x0 : Int), .int .i64 (x1 : Int), .int .i64 (x2 : Int), .int .i64 (x3 : Int), .int .i64 (x4 : Int), .int .i64 (x5 : Int), .int .i64 (x6 : Int), .int .i64 (x7 : Int)]) (.int .i64 (k : Int))).run Tryd.prog u = .ok (.int .i64 ((lst st).getD k 0 : Int)) u := fun u => by
                rw [HAGG.out]; exact index8 _ k _ hlt (c64_at _ k (by rw [hlen.out]; exact hlt)) u
              obtain ⟨y, ey, ly⟩ : ∃ y, (lst st).getD k 0 = y ∧ y < 4294967296 := ⟨_, rfl, hlt8.out k⟩
              obtain ⟨v, ev, lv⟩ : ∃ v, vl.getD k 0 = v ∧ v < 4294967296 := ⟨_, rfl, hvlt.out k⟩
              rw [ey] at hidx
              rw [ev] at hvc
              have EY := Lib.hid ey
              have EV := Lib.hid ev
              have k8 : (k : Int) < 8 := by omega
              have ly2 : (y : Int) < 4294967296 := by omega
              have lv2 : (v : Int) < 4294967296 := by omega
              clear hx ey ev
              go_wp2
              have HSUM := Lib.hid (show ((y : Int) + (v : Int)) % 4294967296 = (((y + v) % 4294967296 : Nat) : Int) by omega)
              rw [HSUM.out]
              go_roundw
              case rel =>
                have hx := HX.out
                have hr := HR.out
                refine ⟨k + 1, xs.set k (.int .i64 (((y + v) % 4294967296 : Nat) : Int)), by omega, by go_num, Lib.hid ⟨by simp [hx.1], hx.2.1.set k _, fun j hj => ?_⟩, Lib.hid ⟨hr.1.set_far _ _ _ (by omega), hr.2.1.set_far _ _ _ (by omega), hr.2.2.setCell (by exact Nat.le_refl _) _⟩⟩
                by_cases e : j = k
                · rw [e, List.getElem?_set_self (by omega), EY.out, EV.out]
                · rw [List.getElem?_set_ne (by omega)]; exact hx.2.2 j (by omega)
              case measure => simp [intOf]; omega
            · have hge : decide ((k : Int) < 8) = false := decide_eq_false (by omega)
              have hxs : xs = c64 (blk (mw s) st) := by
                apply List.ext_getElem?
                intro i
                by_cases hi : i < 8
                · rw [HX.out.2.2 i (by omega)]
                  simp only [c64, List.getElem?_map, HBLK.out i hi, Option.map_some]
                · have := HX.out.1
                  rw [List.getElem?_eq_none (by omega), List.getElem?_eq_none (by simp [c64]; rw [hbl.out]; omega)]
              have HL := Lib.hid (show (c64 (blk (mw s) st)).length = 8 by simp [c64]; exact hbl.out)
              have HI := Lib.hid (show (Tryd.prog.info? 27).map (·.size) = some (c64 (blk (mw s) st)).toArray.size by rw [show (c64 (blk (mw s) st)).toArray.size = 8 from HL.out]; exact info8)
              have H1 := Lib.hid (show (c64 (blk (mw s) st)).toArray.all (·.oneCell') = true from all_oneCell_toArray (fun v hv => by simp only [c64, List.mem_map] at hv; obtain ⟨j, _, rfl⟩ := hv; rfl))
              have HRW := Lib.hid (show Row wr w.heap.size 27 (c64 (blk (mw s) st)) by rw [← hxs]; exact HX.out.2.1)
              have HT := Lib.hid (show wr.there (w.heap.size + 1) 0 (c64 (blk (mw s) st)).toArray.size by have := HR.out.2.1.there; rw [Z1.out] at this; rw [show (c64 (blk (mw s) st)).toArray.size = 8 from HL.out]; exact this)
              have HRES := Lib.hid (HR.out.2.1.sets_all (vs := c64 (blk (mw s) st)) (by rw [HL.out, Z1.out]))
              have HBF := Lib.hid (Arr.below_sets (B := w.heap.size) (a := w) (w.heap.size + 1) (Nat.le_succ _) (c64 (blk (mw s) st)) 0 wr HR.out.2.2)
              clear hxs HX HR hk hlt
              generalize hys : c64 (blk (mw s) st) = zs at *
              have HZS := Lib.hid hys
              clear hys
              go_wp2_with (first
                | (refine wpList_load_row rfl 27 _ rfl w.heap.size rfl 27 _ (0, 0) _ HRW.out Tryd.underlying27 rfl HI.out ?_)
                | (refine wpList_store_mid rfl 27 _ _ rfl (w.heap.size + 1) 0 zs.toArray rfl rfl HT.out HI.out H1.out ?_))
              refine bodyPost_ret (v := .agg zs.toArray) ?_ rfl ⟨?_, ?_⟩
              · exact results_cell_row rfl _ _ (w.heap.size + 1) 27 _ (0, 0) _ rfl HRES.out Tryd.underlying27 rfl HI.out
              · rw [HZS.out]
              · exact HBF.out
end Go.Proofs.YtemlmffoehclhaaDoor.MixBlock
