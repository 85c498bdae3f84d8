/-
  What is proved: the program's block of the stream is the plain one, with its codes (contract for the walks).
-/
import Derived.Test.YtcfdnifllehbjaaRows
import Derived.Test.YtcfdnifllehbjaaChaOut
import Derived.Test.YtcfdnifllehbjaaChaFirst
namespace Go.Proofs.Ytcfdnifllehbjaa.ChaBlk
open Go.ChangeShapes Go.WideShapes Go.ChangeAt Go.RowKit
open Arr (Row)
open Bytes (BV)
open Cha
set_option linter.unusedVariables false

/-- The block of a key, a nonce and a count. -/
def blkT (key nonce : ByteArray) (count : Nat) : ByteArray := ⟨(Cha.blk (first key nonce count)).toArray⟩
theorem blkT_size (key nonce : ByteArray) (count : Nat) : (blkT key nonce count).size = 64 := by
  show (Cha.blk (first key nonce count)).toArray.size = 64
  rw [List.size_toArray, Cha.blk_length]
/-- The code of what is handed in. -/
def ask (key nonce : ByteArray) (count : Int) : Int :=
  if key.size ≠ 32 ∨ nonce.size ≠ 12 then 8 else if count < 0 ∨ 1000000000 < count then 4 else 0
def fault (key nonce : ByteArray) (count : Int) : Int :=
  if 65536 < key.size ∨ 65536 < nonce.size then 2 else ask key nonce count

theorem streamFault (key nonce : ByteArray) (count : Int) (hk : key.size ≤ maxLen) (hn : nonce.size ≤ maxLen) (w : World) :
    Calls Try.prog 19 #[.string key, .string nonce, .int .i64 count] w fun e w' => e = .returned (.int .i64 (fault key nonce count)) ∧ w = w' := by
  unfold maxLen at hk hn
  unfold fault ask
  by_cases h1 : 65536 < key.size
  · rw [if_pos (.inl h1)]
    go_enter Try.func19, Try.ntmps19
    go_wp2
    go_ret
    exact ⟨rfl, rfl⟩
  have d1 : decide (65536 < (key.size : Int)) = false := decide_eq_false (by omega)
  by_cases h2 : 65536 < nonce.size
  · rw [if_pos (.inr h2)]
    go_enter Try.func19, Try.ntmps19
    go_wp2
    go_ret
    exact ⟨rfl, rfl⟩
  have d2 : decide (65536 < (nonce.size : Int)) = false := decide_eq_false (by omega)
  rw [if_neg (by omega)]
  by_cases h3 : key.size = 32
  · have e3 : ((key.size : Int) != 32) = false := by simp; omega
    by_cases h4 : nonce.size = 12
    · have e4 : ((nonce.size : Int) != 12) = false := by simp; omega
      rw [if_neg (by omega)]
      by_cases h5 : count < 0
      · rw [if_pos (.inl h5)]
        clear h3 h4 h1 h2
        go_enter Try.func19, Try.ntmps19
        go_wp2
        go_ret
        exact ⟨rfl, rfl⟩
      · have d5 : decide (count < 0) = false := decide_eq_false h5
        by_cases h6 : 1000000000 < count
        · rw [if_pos (.inr h6)]
          clear h3 h4 h1 h2 h5
          go_enter Try.func19, Try.ntmps19
          go_wp2
          go_ret
          exact ⟨rfl, rfl⟩
        · have d6 : decide (1000000000 < count) = false := decide_eq_false h6
          rw [if_neg (by omega)]
          clear h3 h4 h1 h2 h5 h6
          go_enter Try.func19, Try.ntmps19
          go_wp2
          go_ret
          exact ⟨rfl, rfl⟩
    · have e4 : ((nonce.size : Int) != 12) = true := by simp; omega
      rw [if_pos (.inr h4)]
      clear h3 h4 h1 h2
      go_enter Try.func19, Try.ntmps19
      go_wp2
      go_ret
      exact ⟨rfl, rfl⟩
  · have e3 : ((key.size : Int) != 32) = true := by simp; omega
    rw [if_pos (.inl h3)]
    clear h3 h1 h2
    go_enter Try.func19, Try.ntmps19
    go_wp2
    go_ret
    exact ⟨rfl, rfl⟩
theorem fault_zero {key nonce : ByteArray} {count : Int} (h : fault key nonce count = 0) : key.size = 32 ∧ nonce.size = 12 ∧ 0 ≤ count ∧ count ≤ 1000000000 := by
  unfold fault ask at h
  split at h
  · omega
  · split at h
    · omega
    · split at h
      · omega
      · omega
theorem fault_cases (key nonce : ByteArray) (count : Int) : fault key nonce count = 0 ∨ (fault key nonce count != 0) = true := by
  by_cases h : fault key nonce count = 0
  · exact .inl h
  · exact .inr (by simpa using h)
/-- What the calls of a block answer. -/
def res (key nonce : ByteArray) (count : Int) : Value :=
  if fault key nonce count = 0 then .tuple #[.string (blkT key nonce count.toNat), .int .i64 0] else .tuple #[.string ⟨#[]⟩, .int .i64 (fault key nonce count)]

theorem kept_string (w : World) (us : List UInt8) (g : Nat) (hl : us.length = 64) (hr : Row w g 41 (BV us)) :
    (convert 22 9 (.slice (some ⟨g, 0, none⟩) 64 64)).run Try.prog w = .ok (.string ⟨us.toArray⟩) w := by
  have := run_convert_bytes_back (P := Try.prog) w 22 9 5 ⟨g, 0, none⟩ 64 us Try.underlying22 Try.underlying5 Try.underlying9 (fun j hj => by
    have hadd : (⟨g, 0, none⟩ : Addr).add j = ⟨g, j, none⟩ := by unfold Addr.add; split <;> simp_all
    rw [hadd, hr.cell]
    simp [BV, List.getElem?_eq_getElem hj])
  rw [hl] at this
  exact this

theorem there_new (w : World) (z : Array Value) (t : TypeId) (n : Nat) (h : z.size = n) : (w.alloc (.cells z t)).there w.heap.size 0 n := by
  have := (Arr.row_new w z t).there
  rw [show z.toList.length = n from h] at this
  exact this
theorem store_new (w w2 : World) (z : Array Value) (us : List UInt8) (W3 : World) (h : (w2.alloc (.cells z 41)).setCells w2.heap.size 0 (BV us).toArray.toList = W3) (hz : z.size = 64) (hl : us.length = 64) (hb : Below w.heap.size w w2) :
    Row W3 w2.heap.size 41 (BV us) ∧ Below w.heap.size w W3 := by
  rw [← h]
  exact ⟨(Arr.row_new w2 z _).sets_all (by rw [Bytes.BV_length, hl]; exact hz.symm), Arr.below_sets _ hb.size _ _ _ (hb.alloc hb.size _)⟩

set_option maxRecDepth 100000 in
set_option maxHeartbeats 800000 in
theorem impl (key nonce : ByteArray) (count : Int) (hk : key.size ≤ maxLen) (hn : nonce.size ≤ maxLen) (w : World) :
    Calls Try.prog 11 #[.string key, .string nonce, .int .i64 count] w fun e w' => e = .returned (res key nonce count) ∧ Below w.heap.size w w' := by
  have HS := Lib.hid (streamFault key nonce count hk hn)
  unfold res
  rcases fault_cases key nonce count with h | h
  · rw [if_pos h]
    obtain ⟨h1, h2, h3, h4⟩ := fault_zero h
    obtain ⟨n, rfl⟩ := Int.eq_ofNat_of_zero_le h3
    rw [h] at HS
    have HF := Lib.hid (ChaFirst.firstWords key nonce h1 h2 n (by omega))
    have HOK := Lib.hid (first_ok key nonce n)
    have HRES := Lib.hid (show blkT key nonce ((n : Int)).toNat = ⟨(Cha.blk (first key nonce n)).toArray⟩ from rfl)
    have HL := Lib.hid (Cha.blk_length (first key nonce n))
    have HC := Lib.hid (ChaOut.chaBytes (first key nonce n) (first_ok key nonce n))
    generalize Cha.blk (first key nonce n) = us at *
    generalize first key nonce n = FW at *
    have HI := Lib.hid (show (Try.prog.info? 41).map (·.size) = some (BV us).toArray.size by rw [List.size_toArray, Bytes.BV_length, HL.out]; exact ChaOut.info64)
    have H1 := Lib.hid (show (BV us).toArray.all (·.oneCell') = true from all_oneCell_toArray (Bytes.BV_one us))
    rw [HRES.out]
    clear h h1 h2 h3 h4 hk hn
    go_enter Try.func11, Try.ntmps11
    go_wp2_with fail
    refine (HS.out _).mono ?_
    rintro e w0 ⟨rfl, rfl⟩
    go_wp2_with fail
    refine (HF.out _).mono ?_
    rintro e w1 ⟨rfl, hb1⟩
    have HB1 := Lib.hid hb1
    clear hb1
    go_wp2_with fail
    refine (HC.out _).mono ?_
    rintro e w2 ⟨rfl, hb2⟩
    have HB2 := Lib.hid (HB1.out.trans (hb2.mono HB1.out.size))
    clear hb2 HB1
    have HFACT := Lib.hid (fun (z : Array Value) (W3 : World) (h : (w2.alloc (.cells z 41)).setCells w2.heap.size 0 (BV us).toArray.toList = W3) (hz : z.size = 64) => store_new w w2 z us W3 h hz HL.out HB2.out)
    have HSZ := Lib.hid (show (BV us).toArray.size = 64 by rw [List.size_toArray, Bytes.BV_length, HL.out])
    go_wp2_with (((with_reducible show wpList _ _ _ _ _ _); refine wpList_store_mid rfl 41 _ _ rfl w2.heap.size 0 (BV us).toArray rfl rfl (there_new _ _ _ _ (by rw [HSZ.out]; rfl)) HI.out H1.out ?_; generalize hW3 : World.setCells _ _ _ _ = W3; have HF3 := Lib.hid (HFACT.out _ W3 hW3 (by rfl)); have kc := kept_string W3 us w2.heap.size HL.out HF3.out.1; clear hW3))
    go_ret2
    exact ⟨rfl, HF3.out.2⟩
  · rw [if_neg (by simpa using h)]
    clear hk hn
    go_enter Try.func11, Try.ntmps11
    go_wp2_with fail
    refine (HS.out _).mono ?_
    rintro e w0 ⟨rfl, rfl⟩
    go_wp2
    go_ret2
    exact ⟨rfl, Below.refl _ _⟩
end Go.Proofs.Ytcfdnifllehbjaa.ChaBlk
