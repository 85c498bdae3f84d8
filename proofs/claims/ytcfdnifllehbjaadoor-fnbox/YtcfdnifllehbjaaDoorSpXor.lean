/-
  What is proved: the model's xoring with the stream is the plain one (contract for the walks).
-/
import Derived.Test.YtcfdnifllehbjaaDoorRows
import Derived.Test.YtcfdnifllehbjaaDoorSpCha3
import Derived.Test.YtcfdnifllehbjaaDoorXorOf
namespace Go.Proofs.YtcfdnifllehbjaaDoor.SpXor
open Go.ChangeShapes Go.WideShapes Go.ChangeAt Go.RowKit
open Bytes (BV Owns)
open Word (bN bN_lt bN_at)
open ChaBlk (blkT blkT_size)
open XorOf (xb xb_length xb_snoc xb_cell)
set_option linter.unusedVariables false

/-- Byte i of the stream from the block of count on. -/
def ks (key nonce : ByteArray) (count : Nat) (i : Nat) : Nat := bN (blkT key nonce (count + i / 64)) (i % 64)
theorem ks_lt (key nonce : ByteArray) (count i : Nat) : ks key nonce count i < 256 := bN_lt _ _
/-- A text xored with the stream. -/
def xorS (key nonce : ByteArray) (count : Nat) (t : ByteArray) : ByteArray := ⟨(xb (bN t) (ks key nonce count) t.size).toArray⟩
/-- The block that the model holds behind k bytes. -/
def held (key nonce : ByteArray) (count : Nat) (k : Nat) : ByteArray := if k = 0 then ⟨#[]⟩ else blkT key nonce (count + (k - 1) / 64)
theorem held_zero (key nonce : ByteArray) (count : Nat) : held key nonce count 0 = ⟨#[]⟩ := rfl
theorem held_succ (key nonce : ByteArray) (count k : Nat) : held key nonce count (k + 1) = blkT key nonce (count + k / 64) := rfl
theorem held_mid (key nonce : ByteArray) (count k : Nat) (h : k % 64 ≠ 0) : held key nonce count k = blkT key nonce (count + k / 64) := by
  unfold held
  rw [if_neg (by intro e; rw [e] at h; exact h rfl), show (k - 1) / 64 = k / 64 by omega]

/-- A row of the call's own stays where nothing that was there has turned. -/
theorem owns_below {w w' : World} {base : Nat} {v : Value} {bs : List UInt8} (h : Owns w base v bs) (hb : Below w.heap.size w w') : Owns w' base v bs := by
  obtain ⟨hl, h⟩ := h
  refine ⟨hl, ?_⟩
  rcases h with h | ⟨g, cap, cur, rfl, hbg, hg, hnc, hcm, hcs, ht⟩
  · exact .inl h
  · have hlt : g < w.heap.size := (Array.getElem?_eq_some_iff.1 hg).1
    exact .inr ⟨g, cap, cur, rfl, hbg, (hb.block g hlt).trans hg, hnc, hcm, hcs, ht⟩

set_option maxRecDepth 100000 in
set_option maxHeartbeats 3200000 in
theorem xorM (key nonce : ByteArray) (hk : key.size = 32) (hn : nonce.size = 12) (count : Nat) (hc : count ≤ 1000000000) (t : ByteArray) (ht : t.size ≤ 65536) (w : World) :
    Calls Tryd.prog 41 #[.string key, .string nonce, .int .i64 (count : Int), .string t] w fun e w' => e = .returned (.string (xorS key nonce count t)) ∧ Below w.heap.size w w' := by
  obtain ⟨i0, hi0, hz0, hz1, hz2⟩ := info_parts Bytes.info5
  have HBLK := Lib.hid (fun m (h : m ≤ 1100000000) u => SpCha2.block key nonce hk hn m h u)
  have HH0 := Lib.hid (held_zero key nonce count)
  have HHS := Lib.hid (held_succ key nonce count)
  have HHM := Lib.hid (held_mid key nonce count)
  have HKS := Lib.hid (show ∀ i, ks key nonce count i = bN (blkT key nonce (count + i / 64)) (i % 64) from fun _ => rfl)
  have HKL := Lib.hid (ks_lt key nonce count)
  have HSZ := Lib.hid (fun m => blkT_size key nonce m)
  have HRES := Lib.hid (show xorS key nonce count t = ⟨(xb (bN t) (ks key nonce count) t.size).toArray⟩ from rfl)
  generalize xorS key nonce count t = RES at *
  generalize ks key nonce count = K at *
  generalize held key nonce count = H at *
  generalize blkT key nonce = BT at *
  clear hk hn
  go_enter Tryd.func41, Tryd.ntmps41
  go_wp2
  go_loopw [9, 10, 11] (fun v b i wz => ∃ (k : Nat) (wr : World), wr = wz ∧ k ≤ t.size ∧ i = .int .i64 k ∧ b = .string (H k) ∧ Hid (Owns wr w.heap.size v (xb (bN t) K k)) ∧ Hid (Below w.heap.size w wr)) (fun _ _ i _ => t.size - (intOf i).toNat)
  case atStart => exact ⟨0, _, rfl, by omega, rfl, by rw [HH0.out], Lib.hid (Bytes.owns_made w w.heap.size 0 #[] (Nat.le_refl _) (by unfold maxLen; omega) rfl), Lib.hid ((Below.refl _ _).alloc (Nat.le_refl _) _)⟩
  case round =>
  obtain ⟨k, wr, rfl, hk, rfl, rfl, R, HB⟩ := hrel
  by_cases hlt : k < t.size
  · have hlt2 : decide ((k : Int) < (t.size : Int)) = true := decide_eq_true (by omega)
    have HS := Lib.hid (xb_snoc (bN t) K k)
    have HT := Lib.hid (xb_cell (bN t) K k (bN_lt _ _) (HKL.out k))
    have HL := Lib.hid (xb_length (bN t) K k)
    have HX := Lib.hid (HHS.out k)
    have kq : (k : Int) / 64 = ((k / 64 : Nat) : Int) := by omega
    have km : (k : Int) % 64 = ((k % 64 : Nat) : Int) := by omega
    have kt : Int.tmod (k : Int) 64 = ((k % 64 : Nat) : Int) := by rw [Int.tmod_eq_emod_of_nonneg (by omega), km]
    have HK := Lib.hid (HKS.out k)
    have hmid := HHM.out k
    have hq : k / 64 ≤ 1024 := by omega
    have hm : k % 64 < 64 := by omega
    generalize k / 64 = q at *
    generalize hmm : k % 64 = m at *
    have HMM := Lib.hid hmm
    clear hmm
    obtain ⟨cn, ecn⟩ : ∃ c, count + q = c := ⟨_, rfl⟩
    rw [ecn] at HX HK hmid
    have cq : (count : Int) + (q : Int) = (cn : Int) := by omega
    have hcn : cn ≤ 1100000000 := by omega
    have wcn : IntKind.i64.wrap (cn : Int) = cn := by rw [IntKind.wrap_i64]; omega
    clear ecn
    have hbs := HSZ.out cn
    have HBC := Lib.hid (HBLK.out cn hcn)
    generalize BT cn = B at *
    have z0 := bN_lt t k
    have z1 := bN_lt B m
    have y0 : t[k].toNat = bN t k := bN_at t k hlt
    have hmb : m < B.size := by omega
    have y1 : B[m].toNat = bN B m := bN_at B m hmb
    have hxr := XorInto.u8_xor (bN t k) (bN B m) z0 z1
    rw [HK.out] at HT HS
    have hl1 : (xb (bN t) K k).length ≤ 65536 := by rw [HL.out]; omega
    generalize bN t k = ak at *
    generalize bN B m = bk at *
    have hk0 : (0 : Int) ≤ (k : Int) := by omega
    have hk2 : (k : Int) < (t.size : Int) := by omega
    have hm0 : (0 : Int) ≤ (m : Int) := by omega
    have hm2 : (m : Int) < (B.size : Int) := by omega
    have hm3 : (m : Int) < 64 := by omega
    have wm : IntKind.i64.wrap (m : Int) = m := by rw [IntKind.wrap_i64]; omega
    clear hbs
    have hz := Lib.hid HB.out.size
    by_cases h0 : m = 0
    · have e0 : ((m : Int) == 0) = true := by simp; omega
      clear hmid h0
      go_wp2_with fail
      refine (HBC.out _).mono ?_
      rintro e w1 ⟨rfl, hb1⟩
      have HB1 := Lib.hid (HB.out.trans (hb1.mono HB.out.size))
      have hz1' := Lib.hid (HB1.out.size)
      have R1 := Lib.hid (show Owns w1 w.heap.size _ (xb (bN t) K k) from owns_below R.out hb1)
      clear hb1
      go_wp2
      go_region_held3 (fun w' => True) (trivial)
        ((refine step_append_lies _ (by rfl) _ _ _ (by rfl) w.heap.size 5 i0 _ 1 1 Tryd.underlying22 hi0 hz0 hz1 hz2 rfl (by omega) _ (xb (bN t) K k).length (BV (xb (bN t) K k)) (by rfl) ((World.ownsRow.alloc R1.out _).drew) ⟨w1.heap.size, 0, none⟩ 1 1 [.int .u8 ((ak ^^^ bk : Nat) : Int)] (by rfl) (by rfl) (World.news_of_block (cs := #[.int .u8 ((ak ^^^ bk : Nat) : Int)]) (t := 5) (fr := (0, 0)) (heap_alloc_new w1 _)) (by simp [Value.oneCell']) (by omega) (by unfold maxLen; omega) (by omega) (by have := hz1'.out; simp; omega) (w1.heap.size + 1) (by simp) ?_; intro gg cap w1 hown1 hgrow hat hlt1))
      all_goals
        have HO := Lib.hid hown1
        have HG := Lib.hid hgrow
        clear hown1 hgrow hat hlt1 hxr y0 y1
        go_wp2
        go_roundw
        case rel => exact ⟨k + 1, _, rfl, by omega, by go_num, by rw [HX.out], Lib.hid (by
          rw [HS.out]
          have := HO.out
          rw [← HT.out] at this
          exact Bytes.owns_grown this rfl), Lib.hid ((HB1.out.trans (((Below.refl _ _).alloc HB1.out.size _).drew)).grown HG.out (by have := hz1'.out; simp; omega) (Owns.block R1.out))⟩
        case measure => simp [intOf]; omega
    · have e0 : ((m : Int) == 0) = false := by simp; omega
      rw [hmid h0]
      clear hmid h0
      go_wp2
      go_region_held3 (fun w' => True) (trivial)
        ((refine step_append_lies _ (by rfl) _ _ _ (by rfl) w.heap.size 5 i0 _ 1 1 Tryd.underlying22 hi0 hz0 hz1 hz2 rfl (by omega) _ (xb (bN t) K k).length (BV (xb (bN t) K k)) (by rfl) ((World.ownsRow.alloc R.out _).drew) ⟨wr.heap.size, 0, none⟩ 1 1 [.int .u8 ((ak ^^^ bk : Nat) : Int)] (by rfl) (by rfl) (World.news_of_block (cs := #[.int .u8 ((ak ^^^ bk : Nat) : Int)]) (t := 5) (fr := (0, 0)) (heap_alloc_new wr _)) (by simp [Value.oneCell']) (by omega) (by unfold maxLen; omega) (by omega) (by have := hz.out; simp; omega) (wr.heap.size + 1) (by simp) ?_; intro gg cap w1 hown1 hgrow hat hlt1))
      all_goals
        have HO := Lib.hid hown1
        have HG := Lib.hid hgrow
        clear hown1 hgrow hat hlt1 hxr y0 y1
        go_wp2
        go_roundw
        case rel => exact ⟨k + 1, _, rfl, by omega, by go_num, by rw [HX.out], Lib.hid (by
          rw [HS.out]
          have := HO.out
          rw [← HT.out] at this
          exact Bytes.owns_grown this rfl), Lib.hid ((HB.out.trans (((Below.refl _ _).alloc HB.out.size _).drew)).grown HG.out (by have := hz.out; simp; omega) (Owns.block R.out))⟩
        case measure => simp [intOf]; omega
  have hge : decide ((k : Int) < (t.size : Int)) = false := decide_eq_false (by omega)
  have hconv := (show Owns wr w.heap.size _ (xb (bN t) K t.size) by
    obtain rfl : k = t.size := by omega
    exact R.out).string
  go_wp2
  go_ret
  exact ⟨by rw [HRES.out]; rfl, HB.out⟩
end Go.Proofs.YtcfdnifllehbjaaDoor.SpXor
