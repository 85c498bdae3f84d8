/-
  What is proved: the program's and the model's tag of a box are one plain text (contracts for the walks).
-/
import Derived.Test.YtcfdnifllehbjaaDoorRows
import Derived.Test.YtcfdnifllehbjaaDoorBoxPad
import Derived.Test.YtcfdnifllehbjaaDoorChaBlk
import Derived.Test.YtcfdnifllehbjaaDoorSpCha2
import Derived.Test.YtcfdnifllehbjaaDoorPolyTagI
import Derived.Test.YtcfdnifllehbjaaDoorSpTag
namespace Go.Proofs.YtcfdnifllehbjaaDoor.BoxTagI
open Go.ChangeShapes Go.WideShapes Go.ChangeAt Go.RowKit
open Arr (Row)
open Bytes (BV Owns)
open Cha
open ChaBlk (blkT blkT_size)
open BoxPad (padT padT_size lenT lenT_size miss_lt)
open PolyN (tagT tagT_size)
set_option linter.unusedVariables false

/-- The key of a box's tag. -/
def onceT (key nonce : ByteArray) : ByteArray := (blkT key nonce 0).extract 0 32
theorem onceT_size (key nonce : ByteArray) : (onceT key nonce).size = 32 := by
  unfold onceT
  rw [ByteArray.size_extract, blkT_size]
  rfl
/-- What is tagged. -/
def tagged (ad t : ByteArray) : ByteArray := padT ad ++ padT t ++ lenT ad.size ++ lenT t.size
/-- The tag of a box. -/
def boxT (key nonce ad t : ByteArray) : ByteArray := tagT (onceT key nonce) (tagged ad t)
theorem boxT_size (key nonce ad t : ByteArray) : (boxT key nonce ad t).size = 16 := tagT_size _ _
theorem head32 (us : List UInt8) : (⟨us.toArray⟩ : ByteArray).extract 0 32 = ⟨(us.take 32).toArray⟩ := by
  apply ByteArray.ext
  rw [ByteArray.data_extract]
  simp
theorem kept32 (w : World) (us : List UInt8) (g : Nat) (hl : us.length = 64) (hr : Row w g 54 (BV us)) :
    (convert 22 9 (.slice (some ⟨g, 0, none⟩) 32 64)).run Tryd.prog w = .ok (.string ⟨(us.take 32).toArray⟩) w := by
  refine Flat.back w g 64 32 (us.take 32) (by simp; omega) fun j hj => ?_
  rw [hr.cell]
  simp at hj
  have h2 : j < us.length := by omega
  simp [BV, List.getElem?_eq_getElem h2]

set_option maxRecDepth 100000 in
set_option maxHeartbeats 1600000 in
theorem boxTag (key nonce : ByteArray) (h1 : key.size = 32) (h2 : nonce.size = 12) (ad t : ByteArray) (ha : ad.size ≤ 65536) (ht : t.size ≤ 65536) (w : World) :
    Calls Tryd.prog 26 #[.string key, .string nonce, .string ad, .string t] w fun e w' => e = .returned (.string (boxT key nonce ad t)) ∧ Below w.heap.size w w' := by
  have HF := Lib.hid (ChaFirst.firstWords key nonce h1 h2 0 (by omega))
  have HL := Lib.hid (Cha.blk_length (first key nonce 0))
  have HC := Lib.hid (ChaOut.chaBytes (first key nonce 0) (first_ok key nonce 0))
  have HO := Lib.hid (show onceT key nonce = ⟨((Cha.blk (first key nonce 0)).take 32).toArray⟩ from head32 _)
  have HOS := Lib.hid (onceT_size key nonce)
  have HRES := Lib.hid (show boxT key nonce ad t = tagT (onceT key nonce) (tagged ad t) from rfl)
  have HTG := Lib.hid (show tagged ad t = padT ad ++ padT t ++ lenT ad.size ++ lenT t.size from rfl)
  have P1 := Lib.hid (BoxPad.wholePieces ad ha)
  have P2 := Lib.hid (BoxPad.wholePieces t ht)
  have L1 := Lib.hid (BoxPad.lengthBytes ad ha)
  have L2 := Lib.hid (BoxPad.lengthBytes t ht)
  have z1 : (padT ad).size ≤ 65551 := by rw [padT_size]; have := miss_lt ad.size; omega
  have z2 : (padT t).size ≤ 65551 := by rw [padT_size]; have := miss_lt t.size; omega
  have z3 := lenT_size ad.size
  have z4 := lenT_size t.size
  have HPT := Lib.hid (PolyTagI.polyTag (onceT key nonce) (tagged ad t) HOS.out (by rw [HTG.out, ByteArray.size_append, ByteArray.size_append, ByteArray.size_append]; omega))
  rw [HTG.out] at HPT HRES
  clear HTG HOS
  generalize Cha.blk (first key nonce 0) = us at *
  generalize first key nonce 0 = FW at *
  generalize boxT key nonce ad t = RES at *
  generalize padT ad = PA at *
  generalize padT t = PT at *
  generalize lenT ad.size = LA at *
  generalize lenT t.size = LT at *
  rw [HO.out] at HPT HRES
  generalize onceT key nonce = ON at *
  clear HO
  have HI := Lib.hid (show (Tryd.prog.info? 54).map (·.size) = some (BV us).toArray.size by rw [List.size_toArray, Bytes.BV_length, HL.out]; exact ChaOut.info64)
  have H1 := Lib.hid (show (BV us).toArray.all (·.oneCell') = true from all_oneCell_toArray (Bytes.BV_one us))
  clear h1 h2 ha ht
  go_enter Tryd.func26, Tryd.ntmps26
  go_wp2_with fail
  refine (HF.out _).mono ?_
  rintro e w1 ⟨rfl, hb1⟩
  have HB1 := Lib.hid hb1
  clear hb1
  go_wp2_with fail
  refine (HC.out _).mono ?_
  rintro e w2 ⟨rfl, hb2⟩
  have HB2 := Lib.hid (HB1.out.trans (hb2.mono HB1.out.size))
  clear hb2 HB1 HF HC
  have HFACT := Lib.hid (fun (z : Array Value) (W3 : World) (h : (w2.alloc (.cells z 54)).setCells w2.heap.size 0 (BV us).toArray.toList = W3) (hz : z.size = 64) => ChaBlk.store_new w w2 z us W3 h hz HL.out HB2.out)
  have HSZ := Lib.hid (show (BV us).toArray.size = 64 by rw [List.size_toArray, Bytes.BV_length, HL.out])
  go_upto_region 2 with (((with_reducible show wpList _ _ _ _ _ _); refine wpList_store_mid rfl 54 _ _ rfl w2.heap.size 0 (BV us).toArray rfl rfl (ChaBlk.there_new _ _ _ _ (by rw [HSZ.out]; rfl)) HI.out H1.out ?_; generalize hW3 : World.setCells _ _ _ _ = W3; have HF3 := Lib.hid (HFACT.out _ W3 hW3 (by rfl)); clear hW3))
  clear HFACT HI H1 HSZ
  generalize w2.heap.size = g at *
  clear HB2
  go_wp2_with fail
  refine (P1.out _).mono ?_
  rintro e w4 ⟨rfl, hb⟩
  have HF4 := Lib.hid (And.intro (HF3.out.1.below hb HF3.out.1.lt) (HF3.out.2.trans (hb.mono HF3.out.2.size)))
  clear hb HF3 P1
  go_wp2_with fail
  refine (P2.out _).mono ?_
  rintro e w5 ⟨rfl, hb⟩
  have HF5 := Lib.hid (And.intro (HF4.out.1.below hb HF4.out.1.lt) (HF4.out.2.trans (hb.mono HF4.out.2.size)))
  clear hb HF4 P2
  have s1 : ¬ 9223372036854775807 < PA.size + PT.size := by omega
  go_wp2_with fail
  refine (L1.out _).mono ?_
  rintro e w6 ⟨rfl, hb⟩
  have HF6 := Lib.hid (And.intro (HF5.out.1.below hb HF5.out.1.lt) (HF5.out.2.trans (hb.mono HF5.out.2.size)))
  clear hb HF5 L1
  have s2 : ¬ 9223372036854775807 < PA.size + PT.size + LA.size := by omega
  go_wp2_with fail
  refine (L2.out _).mono ?_
  rintro e w7 ⟨rfl, hb⟩
  have HF7 := Lib.hid (And.intro (HF6.out.1.below hb HF6.out.1.lt) (HF6.out.2.trans (hb.mono HF6.out.2.size)))
  clear hb HF6 L2
  have s3 : ¬ 9223372036854775807 < PA.size + PT.size + LA.size + LT.size := by omega
  have kc := kept32 w7 us g HL.out HF7.out.1
  go_wp2_with fail
  refine (HPT.out _).mono ?_
  rintro e w8 ⟨rfl, hb⟩
  have HB8 := Lib.hid (HF7.out.2.trans (hb.mono HF7.out.2.size))
  clear hb HF7 kc
  rw [← HRES.out]
  go_wp2
  go_ret
  exact ⟨rfl, HB8.out⟩

set_option maxRecDepth 100000 in
set_option maxHeartbeats 1600000 in
theorem l04Tag (key nonce : ByteArray) (h1 : key.size = 32) (h2 : nonce.size = 12) (ad t : ByteArray) (ha : ad.size ≤ 65536) (ht : t.size ≤ 65536) (w : World) :
    Calls Tryd.prog 31 #[.string key, .string nonce, .string ad, .string t] w fun e w' => e = .returned (.string (boxT key nonce ad t)) ∧ Below w.heap.size w w' := by
  have HBK := Lib.hid (SpCha2.block key nonce h1 h2 0 (by omega))
  have hbs := blkT_size key nonce 0
  have HOS := Lib.hid (onceT_size key nonce)
  have HRES := Lib.hid (show boxT key nonce ad t = tagT (onceT key nonce) (tagged ad t) from rfl)
  have HTG := Lib.hid (show tagged ad t = padT ad ++ padT t ++ lenT ad.size ++ lenT t.size from rfl)
  have P1 := Lib.hid (BoxPad.l04Pad ad ha)
  have P2 := Lib.hid (BoxPad.l04Pad t ht)
  have L1 := Lib.hid (BoxPad.l04Eight ad.size ha)
  have L2 := Lib.hid (BoxPad.l04Eight t.size ht)
  have z1 : (padT ad).size ≤ 65551 := by rw [padT_size]; have := miss_lt ad.size; omega
  have z2 : (padT t).size ≤ 65551 := by rw [padT_size]; have := miss_lt t.size; omega
  have z3 := lenT_size ad.size
  have z4 := lenT_size t.size
  have HPT := Lib.hid (SpTag.l03Tag (onceT key nonce) (tagged ad t) HOS.out (by rw [HTG.out, ByteArray.size_append, ByteArray.size_append, ByteArray.size_append]; omega))
  rw [HTG.out] at HPT HRES
  have HON := Lib.hid (show onceT key nonce = (blkT key nonce 0).extract 0 32 from rfl)
  rw [HON.out] at HPT HRES
  clear HTG HOS HON
  generalize boxT key nonce ad t = RES at *
  generalize blkT key nonce 0 = B at *
  generalize padT ad = PA at *
  generalize padT t = PT at *
  generalize lenT ad.size = LA at *
  generalize lenT t.size = LT at *
  have hb32 : (32 : Int) ≤ (B.size : Int) := by omega
  have HBS := Lib.hid hbs
  clear h1 h2 ha ht hbs
  go_enter Tryd.func31, Tryd.ntmps31
  go_wp2_with fail
  refine (HBK.out _).mono ?_
  rintro e w3 ⟨rfl, hb⟩
  have HF3 := Lib.hid hb
  clear hb HBK
  go_wp2_with fail
  refine (P1.out _).mono ?_
  rintro e w4 ⟨rfl, hb⟩
  have HF4 := Lib.hid (HF3.out.trans (hb.mono HF3.out.size))
  clear hb HF3 P1
  go_wp2_with fail
  refine (P2.out _).mono ?_
  rintro e w5 ⟨rfl, hb⟩
  have HF5 := Lib.hid (HF4.out.trans (hb.mono HF4.out.size))
  clear hb HF4 P2
  have s1 : ¬ 9223372036854775807 < PA.size + PT.size := by omega
  go_wp2_with fail
  refine (L1.out _).mono ?_
  rintro e w6 ⟨rfl, hb⟩
  have HF6 := Lib.hid (HF5.out.trans (hb.mono HF5.out.size))
  clear hb HF5 L1
  have s2 : ¬ 9223372036854775807 < PA.size + PT.size + LA.size := by omega
  go_wp2_with fail
  refine (L2.out _).mono ?_
  rintro e w7 ⟨rfl, hb⟩
  have HF7 := Lib.hid (HF6.out.trans (hb.mono HF6.out.size))
  clear hb HF6 L2
  have s3 : ¬ 9223372036854775807 < PA.size + PT.size + LA.size + LT.size := by omega
  go_wp2_with fail
  refine (HPT.out _).mono ?_
  rintro e w8 ⟨rfl, hb⟩
  have HB8 := Lib.hid (HF7.out.trans (hb.mono HF7.out.size))
  clear hb HF7
  rw [← HRES.out]
  go_wp2
  go_ret
  exact ⟨rfl, HB8.out⟩
end Go.Proofs.YtcfdnifllehbjaaDoor.BoxTagI
