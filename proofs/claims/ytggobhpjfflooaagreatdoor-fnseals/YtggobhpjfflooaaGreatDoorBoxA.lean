/-
  What is proved: the contract of the library's strings.Repeat at this program (laid by the kit's tool: the shelf's theorem applied).
  What is proved: a text filled up to pieces of sixteen, and how many bytes it has in eight bytes: the program's and the model's ways to them are plain ones (contracts for the walks).
  What is proved: the program's and the model's tag of a box are one plain text (contracts for the walks).
  What is proved: both ways to a box's tag, to seal a box and to open it answer one plain function each; the laws on them return true (the walks), where the package's errors stand in their variables.
  What is proved: the model's ways to a box's tag, to seal a box and to open it are the plain ones; the exact laws on boxes return true (the walks), where the package's errors stand in their variables.
-/
import Derived.Shelf.Strings.Builder2
import Derived.Shelf.Strings.BuilderF
import Derived.Shelf.Strings.Prefix
import Derived.Shelf.Strings.Repeat
import Derived.Test.YtggobhpjfflooaaGreatDoorProg
import Derived.Test.YtggobhpjfflooaaGreatDoorRows
import Derived.Test.YtggobhpjfflooaaGreatDoorKitA
import Derived.Test.YtggobhpjfflooaaGreatDoorLow
import Derived.Test.YtggobhpjfflooaaGreatDoorStreamA
import Derived.Test.YtggobhpjfflooaaGreatDoorStreamB
import Derived.Test.YtggobhpjfflooaaGreatDoorPolyTagI
import Derived.Test.YtggobhpjfflooaaGreatDoorPolyB
import Derived.Test.YtggobhpjfflooaaGreatDoorBoxErr
namespace Go.Proofs
open Go.Shelf
def Tryz.lays105_ren : Go.Shelf.Ren := ⟨fun | 105 => 71 | 212 => 83 | 99 => 84 | 165 => 85 | 166 => 86 | 170 => 87 | 169 => 88 | 263 => 99 | 264 => 100 | 206 => 101 | 240 => 102 | 241 => 103 | 276 => 106 | 277 => 107 | n => n, fun | 9 => 9 | 3 => 3 | 4 => 4 | 20 => 20 | 0 => 0 | 46 => 73 | 109 => 129 | 5 => 5 | 72 => 133 | 76 => 135 | 51 => 56 | 146 => 148 | 53 => 116 | 148 => 150 | 70 => 131 | 37 => 22 | 75 => 40 | 127 => 152 | 164 => 76 | 80 => 38 | n => n, fun | n => n⟩
theorem Tryz.lays105 : Go.Proofs.Lays.n105 Tryz.prog Tryz.lays105_ren := {
  mixed := by kernel_rfl
  f99 := Tryz.func84.trans (congrArg some (by kernel_rfl))
  f105 := Tryz.func71.trans (congrArg some (by kernel_rfl))
  f165 := Tryz.func85.trans (congrArg some (by kernel_rfl))
  f166 := Tryz.func86.trans (congrArg some (by kernel_rfl))
  f169 := Tryz.func88.trans (congrArg some (by kernel_rfl))
  f170 := Tryz.func87.trans (congrArg some (by kernel_rfl))
  f206 := Tryz.func101.trans (congrArg some (by kernel_rfl))
  f212 := Tryz.func83.trans (congrArg some (by kernel_rfl))
  f240 := Tryz.func102.trans (congrArg some (by kernel_rfl))
  f241 := Tryz.func103.trans (congrArg some (by kernel_rfl))
  f263 := Tryz.func99.trans (congrArg some (by kernel_rfl))
  f264 := Tryz.func100.trans (congrArg some (by kernel_rfl))
  f276 := Tryz.func106.trans (congrArg some (by kernel_rfl))
  f277 := Tryz.func107.trans (congrArg some (by kernel_rfl))
  t0 := Tryz.underlying0
  a0 := Tryz.isAgg0
  z0 := Tryz.sizeOf0
  v0 := Tryz.zeroValue0
  t3 := Tryz.underlying3
  a3 := Tryz.isAgg3
  z3 := Tryz.sizeOf3
  v3 := Tryz.zeroValue3
  t4 := Tryz.underlying4
  a4 := Tryz.isAgg4
  z4 := Tryz.sizeOf4
  v4 := Tryz.zeroValue4
  t5 := Tryz.underlying5
  a5 := Tryz.isAgg5
  z5 := Tryz.sizeOf5
  v5 := Tryz.zeroValue5
  t9 := Tryz.underlying9
  a9 := Tryz.isAgg9
  z9 := Tryz.sizeOf9
  v9 := Tryz.zeroValue9
  t20 := Tryz.underlying20
  a20 := Tryz.isAgg20
  z20 := Tryz.sizeOf20
  v20 := Tryz.zeroValue20
  t37 := Tryz.underlying22
  a37 := Tryz.isAgg22
  z37 := Tryz.sizeOf22
  v37 := Tryz.zeroValue22
  t46 := Tryz.underlying73
  a46 := Tryz.isAgg73
  z46 := Tryz.sizeOf73
  v46 := Tryz.zeroValue73
  t51 := Tryz.underlying56
  a51 := Tryz.isAgg56
  z51 := Tryz.sizeOf56
  v51 := Tryz.zeroValue56
  t53 := Tryz.underlying116
  a53 := Tryz.isAgg116
  z53 := Tryz.sizeOf116
  v53 := Tryz.zeroValue116
  t70 := Tryz.underlying131
  a70 := Tryz.isAgg131
  z70 := Tryz.sizeOf131
  v70 := Tryz.zeroValue131
  t72 := Tryz.underlying133
  a72 := Tryz.isAgg133
  z72 := Tryz.sizeOf133
  v72 := Tryz.zeroValue133
  t75 := Tryz.underlying40
  a75 := Tryz.isAgg40
  z75 := Tryz.sizeOf40
  v75 := Tryz.zeroValue40
  t76 := Tryz.underlying135
  a76 := Tryz.isAgg135
  z76 := Tryz.sizeOf135
  v76 := Tryz.zeroValue135
  t109 := Tryz.underlying129
  a109 := Tryz.isAgg129
  z109 := Tryz.sizeOf129
  v109 := Tryz.zeroValue129
  t127 := Tryz.underlying152
  a127 := Tryz.isAgg152
  z127 := Tryz.sizeOf152
  v127 := Tryz.zeroValue152
  t146 := Tryz.underlying148
  a146 := Tryz.isAgg148
  z146 := Tryz.sizeOf148
  v146 := Tryz.zeroValue148
  t148 := Tryz.underlying150
  a148 := Tryz.isAgg150
  z148 := Tryz.sizeOf150
  v148 := Tryz.zeroValue150
  t164 := Tryz.underlying76
  a164 := Tryz.isAgg76
  z164 := Tryz.sizeOf76
  v164 := Tryz.zeroValue76 }
theorem Tryz.Builder_Extra_105 : Builder.Extra Tryz.prog Tryz.lays105_ren := {
  sizeBuilder := by kernel_rfl
  liesBuilder := by kernel_rfl
  t5 := Tryz.underlying5
  a5 := Tryz.isAgg5
  z5 := Tryz.sizeOf5
  v5 := Tryz.zeroValue5
  infoByte := by kernel_rfl
  cellsByte := by kernel_rfl
  sizeByte := by kernel_rfl
  neB5 := by decide }
open Go.RowKit Go.Lib in
/-- **strings.Repeat: count ≥ 0, the result within one allocation: count copies of s.** (LAID: no walk: one application.) -/
theorem Tryz.strings_Repeat (s : ByteArray) (c : Nat) (w : World) (hc : c ≤ 9223372036854775807) (hlen : s.size * c ≤ 140737488355328) :
    Calls Tryz.prog 71 #[.string s, .int .i64 c] w fun e w' => e = .returned (.string ⟨(Lib.repeatL s.data.toList c).toArray⟩) ∧ Below w.heap.size w w' := Any.strings_Repeat Tryz.lays105 Tryz.Builder_Extra_105 s c w hc hlen
end Go.Proofs
namespace Go.Proofs.YtggobhpjfflooaaGreatDoor.BoxPad
open Go.ChangeShapes Go.WideShapes Go.ChangeAt Go.RowKit
open Arr (Row)
open Bytes (BV Owns)
open Word (bN bN_lt bN_at)
set_option linter.unusedVariables false

/-- n bytes 0. -/
def zeros (n : Nat) : ByteArray := ⟨(Lib.repeatL [0] n).toArray⟩
theorem zeros_size (n : Nat) : (zeros n).size = n := by
  show (Lib.repeatL [0] n).toArray.size = n
  rw [List.size_toArray, Lib.repeatL_length]
  simp
theorem zeros_succ (n : Nat) : zeros (n + 1) = zeros n ++ ⟨#[0]⟩ := by
  apply ByteArray.ext
  unfold zeros
  rw [ByteArray.data_append, Lib.repeatL_add, Lib.repeatL_one]
  simp
/-- How many bytes are missing to pieces of sixteen. -/
def miss (n : Nat) : Nat := (16 - n % 16) % 16
theorem miss_lt (n : Nat) : miss n < 16 := Nat.mod_lt _ (by omega)
/-- A text filled up. -/
def padT (t : ByteArray) : ByteArray := t ++ zeros (miss t.size)
theorem padT_size (t : ByteArray) : (padT t).size = t.size + miss t.size := by
  unfold padT
  rw [ByteArray.size_append, zeros_size]
theorem pad_more (t : ByteArray) (k : Nat) : t ++ zeros k ++ ⟨#[0]⟩ = t ++ zeros (k + 1) := by rw [zeros_succ, ByteArray.append_assoc]

set_option maxHeartbeats 800000 in
theorem wholePieces (t : ByteArray) (ht : t.size ≤ 65536) (w : World) :
    Calls Tryz.prog 56 #[.string t] w fun e w' => e = .returned (.string (padT t)) ∧ Below w.heap.size w w' := by
  have HM := Lib.hid (miss_lt t.size)
  obtain ⟨r, er⟩ : ∃ r, t.size % 16 = r := ⟨_, rfl⟩
  obtain ⟨s, es⟩ : ∃ s, 16 - r = s := ⟨_, rfl⟩
  obtain ⟨m, em⟩ : ∃ m, miss t.size = m := ⟨_, rfl⟩
  have esm : s % 16 = m := by rw [← em, ← es, ← er]; rfl
  have HR := Lib.hid (show padT t = t ++ zeros m by unfold padT; rw [em])
  rw [em] at HM
  have hm : m < 16 := HM.out
  have c1 : (t.size : Int) % 16 = (r : Int) := by omega
  have c2 : (16 : Int) - (r : Int) = (s : Int) := by omega
  have c3 : (s : Int) % 16 = (m : Int) := by omega
  have w1 : IntKind.i64.wrap (r : Int) = r := by rw [IntKind.wrap_i64]; omega
  have w2 : IntKind.i64.wrap (s : Int) = s := by rw [IntKind.wrap_i64]; omega
  have w3 : IntKind.i64.wrap (m : Int) = m := by rw [IntKind.wrap_i64]; omega
  have HREP := Lib.hid (fun u => Tryz.strings_Repeat ⟨#[0]⟩ m u (by omega) (by show 1 * m ≤ _; omega))
  have HZ := Lib.hid (show (⟨(Lib.repeatL (⟨#[0]⟩ : ByteArray).data.toList m).toArray⟩ : ByteArray) = zeros m from rfl)
  rw [HZ.out] at HREP
  have hzs := zeros_size m
  rw [HR.out]
  generalize zeros m = Z at *
  clear em esm er es HZ HR HM
  go_enter Tryz.func56, Tryz.ntmps56
  go_wp2_with fail
  refine (HREP.out _).mono ?_
  rintro e w1 ⟨rfl, hb⟩
  have HB := Lib.hid hb
  clear hb
  have hsum : ¬ 9223372036854775807 < t.size + Z.size := by omega
  go_wp2
  go_ret
  exact ⟨rfl, HB.out⟩

set_option maxHeartbeats 800000 in
theorem l04Pad (t : ByteArray) (ht : t.size ≤ 65536) (w : World) :
    Calls Tryz.prog 81 #[.string t] w fun e w' => e = .returned (.string (padT t)) ∧ Below w.heap.size w w' := by
  have HM := Lib.hid (show miss t.size < 16 ∧ (t.size + miss t.size) % 16 = 0 from ⟨miss_lt _, by unfold miss; omega⟩)
  have HL := Lib.hid (show ∀ k, k < miss t.size → (t.size + k) % 16 ≠ 0 from fun k hk => by unfold miss at hk; omega)
  have HR := Lib.hid (show padT t = t ++ zeros (miss t.size) from rfl)
  rw [HR.out]
  generalize miss t.size = m at *
  have HZ := Lib.hid (fun k => show (t ++ zeros k).size = t.size + k by rw [ByteArray.size_append, zeros_size])
  have HS := Lib.hid (pad_more t)
  have H0 := Lib.hid (show t ++ zeros 0 = t by
    apply ByteArray.ext
    rw [ByteArray.data_append]
    show t.data ++ #[] = t.data
    simp)
  obtain ⟨T, hT⟩ : ∃ T : Nat → ByteArray, ∀ k, t ++ zeros k = T k := ⟨_, fun _ => rfl⟩
  simp only [hT] at HZ HS H0 ⊢
  clear hT HR
  go_enter Tryz.func81, Tryz.ntmps81
  go_wp2
  go_loopw [0] (fun v wr => ∃ k : Nat, k ≤ m ∧ v = .string (T k) ∧ wr = w) (fun v _ => m - ((match v with | .string s => s.size | _ => 0) - t.size))
  case atStart => exact ⟨0, by omega, by rw [H0.out], rfl⟩
  case round =>
    obtain ⟨k, hk, rfl, rfl⟩ := hrel
    have hz := HZ.out k
    have hzn := HZ.out (k + 1)
    have hst := HS.out k
    have hmm := HM.out
    by_cases hlt : k < m
    · have hne := HL.out k hlt
      have d1 : (((T k).size : Int) % 16 != 0) = true := by simp; omega
      have hsum : ¬ 9223372036854775807 < (T k).size + 1 := by omega
      generalize T k = X at *
      generalize hY : T (k + 1) = Y at *
      go_wp2
      go_roundw
      case rel => exact ⟨k + 1, by omega, by rw [hY, ← hst], by first | rfl | trivial⟩
      case measure => (try simp only); omega
    · obtain rfl : k = m := by omega
      have d1 : (((T k).size : Int) % 16 != 0) = false := by simp; omega
      go_wp2
      go_ret
      exact ⟨rfl, Below.refl _ _⟩

end Go.Proofs.YtggobhpjfflooaaGreatDoor.BoxPad
namespace Go.Proofs.YtggobhpjfflooaaGreatDoor.BoxTagI
open Go.ChangeShapes Go.WideShapes Go.ChangeAt Go.RowKit
open Arr (Row)
open Bytes (BV Owns)
open Cha
open ChaBlk (blkT blkT_size)
open BoxPad (padT padT_size miss_lt)
open Low (lenT lenT_size)
open PolyN (tagT tagT_size)
set_option linter.unusedVariables false

/-- The key of a box's tag. -/
def onceT (key nonce : ByteArray) : ByteArray := (blkT key nonce 0).extract 0 32
theorem onceT_size (key nonce : ByteArray) : (onceT key nonce).size = 32 := by
  unfold onceT
  rw [ByteArray.size_extract, blkT_size]
  rfl
/-- What is tagged. -/
def tagged (ad t : ByteArray) : ByteArray := padT ad ++ padT t ++ lenT ad.size ++ lenT t.size
/-- The tag of a box. -/
def boxT (key nonce ad t : ByteArray) : ByteArray := tagT (onceT key nonce) (tagged ad t)
theorem boxT_size (key nonce ad t : ByteArray) : (boxT key nonce ad t).size = 16 := tagT_size _ _
theorem head32 (us : List UInt8) : (⟨us.toArray⟩ : ByteArray).extract 0 32 = ⟨(us.take 32).toArray⟩ := by
  apply ByteArray.ext
  rw [ByteArray.data_extract]
  simp
theorem kept32 (w : World) (us : List UInt8) (g : Nat) (hl : us.length = 64) (hr : Row w g 93 (BV us)) :
    (convert 22 9 (.slice (some ⟨g, 0, none⟩) 32 64)).run Tryz.prog w = .ok (.string ⟨(us.take 32).toArray⟩) w := by
  refine Flat.back w g 64 32 (us.take 32) (by simp; omega) fun j hj => ?_
  rw [hr.cell]
  simp at hj
  have h2 : j < us.length := by omega
  simp [BV, List.getElem?_eq_getElem h2]

set_option maxRecDepth 100000 in
set_option maxHeartbeats 1600000 in
theorem boxTag (key nonce : ByteArray) (h1 : key.size = 32) (h2 : nonce.size = 12) (ad t : ByteArray) (ha : ad.size ≤ 65536) (ht : t.size ≤ 65536) (w : World) :
    Calls Tryz.prog 40 #[.string key, .string nonce, .string ad, .string t] w fun e w' => e = .returned (.string (boxT key nonce ad t)) ∧ Below w.heap.size w w' := by
  have HF := Lib.hid (ChaFirst.firstWords key nonce h1 h2 0 (by omega))
  have HL := Lib.hid (Cha.blk_length (first key nonce 0))
  have HC := Lib.hid (ChaOut.chaBytes (first key nonce 0) (first_ok key nonce 0))
  have HO := Lib.hid (show onceT key nonce = ⟨((Cha.blk (first key nonce 0)).take 32).toArray⟩ from head32 _)
  have HOS := Lib.hid (onceT_size key nonce)
  have HRES := Lib.hid (show boxT key nonce ad t = tagT (onceT key nonce) (tagged ad t) from rfl)
  have HTG := Lib.hid (show tagged ad t = padT ad ++ padT t ++ lenT ad.size ++ lenT t.size from rfl)
  have P1 := Lib.hid (BoxPad.wholePieces ad ha)
  have P2 := Lib.hid (BoxPad.wholePieces t ht)
  have L1 := Lib.hid (Low.lengthBytes ad ha)
  have L2 := Lib.hid (Low.lengthBytes t ht)
  have z1 : (padT ad).size ≤ 65551 := by rw [padT_size]; have := miss_lt ad.size; omega
  have z2 : (padT t).size ≤ 65551 := by rw [padT_size]; have := miss_lt t.size; omega
  have z3 := lenT_size ad.size
  have z4 := lenT_size t.size
  have HPT := Lib.hid (PolyTagI.polyTag (onceT key nonce) (tagged ad t) HOS.out (by rw [HTG.out, ByteArray.size_append, ByteArray.size_append, ByteArray.size_append]; omega))
  rw [HTG.out] at HPT HRES
  clear HTG HOS
  generalize Cha.blk (first key nonce 0) = us at *
  generalize first key nonce 0 = FW at *
  generalize boxT key nonce ad t = RES at *
  generalize padT ad = PA at *
  generalize padT t = PT at *
  generalize lenT ad.size = LA at *
  generalize lenT t.size = LT at *
  rw [HO.out] at HPT HRES
  generalize onceT key nonce = ON at *
  clear HO
  have HI := Lib.hid (show (Tryz.prog.info? 93).map (·.size) = some (BV us).toArray.size by rw [List.size_toArray, Bytes.BV_length, HL.out]; exact ChaOut.info64)
  have H1 := Lib.hid (show (BV us).toArray.all (·.oneCell') = true from all_oneCell_toArray (Bytes.BV_one us))
  clear h1 h2 ha ht
  go_enter Tryz.func40, Tryz.ntmps40
  go_wp2_with fail
  refine (HF.out _).mono ?_
  rintro e w1 ⟨rfl, hb1⟩
  have HB1 := Lib.hid hb1
  clear hb1
  go_wp2_with fail
  refine (HC.out _).mono ?_
  rintro e w2 ⟨rfl, hb2⟩
  have HB2 := Lib.hid (HB1.out.trans (hb2.mono HB1.out.size))
  clear hb2 HB1 HF HC
  have HFACT := Lib.hid (fun (z : Array Value) (W3 : World) (h : (w2.alloc (.cells z 93)).setCells w2.heap.size 0 (BV us).toArray.toList = W3) (hz : z.size = 64) => ChaBlk.store_new w w2 z us W3 h hz HL.out HB2.out)
  have HSZ := Lib.hid (show (BV us).toArray.size = 64 by rw [List.size_toArray, Bytes.BV_length, HL.out])
  go_upto_region 2 with (((with_reducible show wpList _ _ _ _ _ _); refine wpList_store_mid rfl 93 _ _ rfl w2.heap.size 0 (BV us).toArray rfl rfl (ChaBlk.there_new _ _ _ _ (by rw [HSZ.out]; rfl)) HI.out H1.out ?_; generalize hW3 : World.setCells _ _ _ _ = W3; have HF3 := Lib.hid (HFACT.out _ W3 hW3 (by rfl)); clear hW3))
  clear HFACT HI H1 HSZ
  generalize w2.heap.size = g at *
  clear HB2
  go_wp2_with fail
  refine (P1.out _).mono ?_
  rintro e w4 ⟨rfl, hb⟩
  have HF4 := Lib.hid (And.intro (HF3.out.1.below hb HF3.out.1.lt) (HF3.out.2.trans (hb.mono HF3.out.2.size)))
  clear hb HF3 P1
  go_wp2_with fail
  refine (P2.out _).mono ?_
  rintro e w5 ⟨rfl, hb⟩
  have HF5 := Lib.hid (And.intro (HF4.out.1.below hb HF4.out.1.lt) (HF4.out.2.trans (hb.mono HF4.out.2.size)))
  clear hb HF4 P2
  have s1 : ¬ 9223372036854775807 < PA.size + PT.size := by omega
  go_wp2_with fail
  refine (L1.out _).mono ?_
  rintro e w6 ⟨rfl, hb⟩
  have HF6 := Lib.hid (And.intro (HF5.out.1.below hb HF5.out.1.lt) (HF5.out.2.trans (hb.mono HF5.out.2.size)))
  clear hb HF5 L1
  have s2 : ¬ 9223372036854775807 < PA.size + PT.size + LA.size := by omega
  go_wp2_with fail
  refine (L2.out _).mono ?_
  rintro e w7 ⟨rfl, hb⟩
  have HF7 := Lib.hid (And.intro (HF6.out.1.below hb HF6.out.1.lt) (HF6.out.2.trans (hb.mono HF6.out.2.size)))
  clear hb HF6 L2
  have s3 : ¬ 9223372036854775807 < PA.size + PT.size + LA.size + LT.size := by omega
  have kc := kept32 w7 us g HL.out HF7.out.1
  go_wp2_with fail
  refine (HPT.out _).mono ?_
  rintro e w8 ⟨rfl, hb⟩
  have HB8 := Lib.hid (HF7.out.2.trans (hb.mono HF7.out.2.size))
  clear hb HF7 kc
  rw [← HRES.out]
  go_wp2
  go_ret
  exact ⟨rfl, HB8.out⟩

set_option maxRecDepth 100000 in
set_option maxHeartbeats 1600000 in
theorem l04Tag (key nonce : ByteArray) (h1 : key.size = 32) (h2 : nonce.size = 12) (ad t : ByteArray) (ha : ad.size ≤ 65536) (ht : t.size ≤ 65536) (w : World) :
    Calls Tryz.prog 63 #[.string key, .string nonce, .string ad, .string t] w fun e w' => e = .returned (.string (boxT key nonce ad t)) ∧ Below w.heap.size w w' := by
  have HBK := Lib.hid (SpCha2.block key nonce h1 h2 0 (by omega))
  have hbs := blkT_size key nonce 0
  have HOS := Lib.hid (onceT_size key nonce)
  have HRES := Lib.hid (show boxT key nonce ad t = tagT (onceT key nonce) (tagged ad t) from rfl)
  have HTG := Lib.hid (show tagged ad t = padT ad ++ padT t ++ lenT ad.size ++ lenT t.size from rfl)
  have P1 := Lib.hid (BoxPad.l04Pad ad ha)
  have P2 := Lib.hid (BoxPad.l04Pad t ht)
  have L1 := Lib.hid (Low.l04Eight ad.size (by omega))
  have L2 := Lib.hid (Low.l04Eight t.size (by omega))
  have z1 : (padT ad).size ≤ 65551 := by rw [padT_size]; have := miss_lt ad.size; omega
  have z2 : (padT t).size ≤ 65551 := by rw [padT_size]; have := miss_lt t.size; omega
  have z3 := lenT_size ad.size
  have z4 := lenT_size t.size
  have HPT := Lib.hid (SpTag.l03Tag (onceT key nonce) (tagged ad t) HOS.out (by rw [HTG.out, ByteArray.size_append, ByteArray.size_append, ByteArray.size_append]; omega))
  rw [HTG.out] at HPT HRES
  have HON := Lib.hid (show onceT key nonce = (blkT key nonce 0).extract 0 32 from rfl)
  rw [HON.out] at HPT HRES
  clear HTG HOS HON
  generalize boxT key nonce ad t = RES at *
  generalize blkT key nonce 0 = B at *
  generalize padT ad = PA at *
  generalize padT t = PT at *
  generalize lenT ad.size = LA at *
  generalize lenT t.size = LT at *
  have hb32 : (32 : Int) ≤ (B.size : Int) := by omega
  have HBS := Lib.hid hbs
  clear h1 h2 ha ht hbs
  go_enter Tryz.func63, Tryz.ntmps63
  go_wp2_with fail
  refine (HBK.out _).mono ?_
  rintro e w3 ⟨rfl, hb⟩
  have HF3 := Lib.hid hb
  clear hb HBK
  go_wp2_with fail
  refine (P1.out _).mono ?_
  rintro e w4 ⟨rfl, hb⟩
  have HF4 := Lib.hid (HF3.out.trans (hb.mono HF3.out.size))
  clear hb HF3 P1
  go_wp2_with fail
  refine (P2.out _).mono ?_
  rintro e w5 ⟨rfl, hb⟩
  have HF5 := Lib.hid (HF4.out.trans (hb.mono HF4.out.size))
  clear hb HF4 P2
  have s1 : ¬ 9223372036854775807 < PA.size + PT.size := by omega
  go_wp2_with fail
  refine (L1.out _).mono ?_
  rintro e w6 ⟨rfl, hb⟩
  have HF6 := Lib.hid (HF5.out.trans (hb.mono HF5.out.size))
  clear hb HF5 L1
  have s2 : ¬ 9223372036854775807 < PA.size + PT.size + LA.size := by omega
  go_wp2_with fail
  refine (L2.out _).mono ?_
  rintro e w7 ⟨rfl, hb⟩
  have HF7 := Lib.hid (HF6.out.trans (hb.mono HF6.out.size))
  clear hb HF6 L2
  have s3 : ¬ 9223372036854775807 < PA.size + PT.size + LA.size + LT.size := by omega
  go_wp2_with fail
  refine (HPT.out _).mono ?_
  rintro e w8 ⟨rfl, hb⟩
  have HB8 := Lib.hid (HF7.out.trans (hb.mono HF7.out.size))
  clear hb HF7
  rw [← HRES.out]
  go_wp2
  go_ret
  exact ⟨rfl, HB8.out⟩
end Go.Proofs.YtggobhpjfflooaaGreatDoor.BoxTagI
namespace Go.Proofs.YtggobhpjfflooaaGreatDoor.BoxL
open Go.ChangeShapes Go.WideShapes Go.ChangeAt Go.RowKit
open BoxErr (Two Three ev code faultV)
open BoxTagI (boxT boxT_size)
open SpXor (xorS)
open TagEq (teq acc)
open Word (bN)
set_option linter.unusedVariables false

theorem xorS_size (key nonce : ByteArray) (c : Nat) (t : ByteArray) : (xorS key nonce c t).size = t.size := by
  show (XorOf.xb _ _ t.size).toArray.size = t.size
  rw [List.size_toArray, XorOf.xb_length]
/-- What the calls answer. -/
def tagRes (key nonce ad t : ByteArray) : Value := if code key nonce ad t = 0 then .tuple #[.string (boxT key nonce ad t), .int .i64 0] else .tuple #[.string ⟨#[]⟩, .int .i64 (code key nonce ad t)]
def sealT (key nonce ad t : ByteArray) : ByteArray := xorS key nonce 1 t ++ boxT key nonce ad (xorS key nonce 1 t)
theorem sealT_size (key nonce ad t : ByteArray) : (sealT key nonce ad t).size = t.size + 16 := by
  unfold sealT
  rw [ByteArray.size_append, xorS_size, boxT_size]
def sealRes (key nonce ad t : ByteArray) : Value := if code key nonce ad t = 0 then .tuple #[.string (sealT key nonce ad t), .int .i64 0] else .tuple #[.string ⟨#[]⟩, .int .i64 (code key nonce ad t)]
def hid (t : ByteArray) : ByteArray := t.extract 0 (t.size - 16)
def tg (t : ByteArray) : ByteArray := t.extract (t.size - 16) t.size
/-- Whether a sealed text has its tag. -/
def good (key nonce ad t : ByteArray) : Bool := decide (16 ≤ t.size) && teq (tg t) (boxT key nonce ad (hid t))
def openRes (key nonce ad t : ByteArray) : Value :=
  if code key nonce ad t = 0 then (if good key nonce ad t = true then .tuple #[.string (xorS key nonce 1 (hid t)), .int .i64 0] else .tuple #[.string ⟨#[]⟩, .int .i64 9])
  else .tuple #[.string ⟨#[]⟩, .int .i64 (code key nonce ad t)]

theorem acc_comm (a b : ByteArray) : ∀ n, acc a b n = acc b a n
  | 0 => rfl
  | n + 1 => by show acc a b n ||| _ = acc b a n ||| _; rw [acc_comm a b n, Nat.xor_comm]
theorem teq_comm (a b : ByteArray) : teq a b = teq b a := by
  unfold teq
  rw [Bool.eq_iff_iff]
  simp only [decide_eq_true_eq]
  constructor
  · rintro ⟨h1, h2, h3⟩
    exact ⟨by omega, h2.symm, by rw [← h2, acc_comm]; exact h3⟩
  · rintro ⟨h1, h2, h3⟩
    exact ⟨by omega, h2.symm, by rw [← h2, acc_comm]; exact h3⟩

/-- The four ways that a box's arguments can be. -/
theorem cases (key nonce ad t : ByteArray) (a0 a1 : Addr) : (code key nonce ad t = 2 ∧ BoxErr.long key nonce ad t ∧ faultV key nonce ad t a0 a1 = ev a0) ∨ (code key nonce ad t = 8 ∧ ¬ BoxErr.long key nonce ad t ∧ faultV key nonce ad t a0 a1 = ev a1) ∨
    (code key nonce ad t = 0 ∧ key.size = 32 ∧ nonce.size = 12 ∧ ad.size ≤ 65536 ∧ t.size ≤ 65536 ∧ faultV key nonce ad t a0 a1 = .nilIface) := by
  unfold code faultV
  by_cases h : BoxErr.long key nonce ad t
  · rw [if_pos h, if_pos h]
    exact .inl ⟨rfl, h, rfl⟩
  · rw [if_neg h, if_neg h]
    by_cases h2 : key.size = 32 ∧ nonce.size = 12
    · rw [if_pos h2, if_pos h2]
      unfold BoxErr.long at h
      exact .inr (.inr ⟨rfl, h2.1, h2.2, by omega, by omega, rfl⟩)
    · rw [if_neg h2, if_neg h2]
      exact .inr (.inl ⟨rfl, h, rfl⟩)

theorem implSeal (key nonce ad t : ByteArray) (hk : key.size ≤ maxLen) (hn : nonce.size ≤ maxLen) (ha : ad.size ≤ maxLen) (ht : t.size ≤ maxLen) (a0 a1 : Addr) (w : World) (H : Two w a0 a1) :
    Calls Tryz.prog 22 #[.string key, .string nonce, .string ad, .string t] w fun e w' => e = .returned (sealRes key nonce ad t) ∧ Below w.heap.size w w' := by
  have HF := Lib.hid (BoxErr.boxFault key nonce ad t hk hn ha ht a0 a1 w H)
  have HT := Lib.hid H
  clear H hk hn ha ht
  unfold sealRes
  rcases cases key nonce ad t a0 a1 with ⟨hc, _, hv⟩ | ⟨hc, _, hv⟩ | ⟨hc, h1, h2, h3, h4, hv⟩
  · rw [hv] at HF
    rw [hc, if_neg (by omega)]
    clear hv hc
    go_enter Tryz.func22, Tryz.ntmps22
    go_wp2_with fail
    refine (HF.out).mono ?_
    rintro e w1 ⟨rfl, rfl⟩
    go_wp2_with fail
    refine (BoxErr.code_long a0 a1 _ HT.out).mono ?_
    rintro e w1 ⟨rfl, rfl⟩
    go_wp2
    go_ret2
    exact ⟨rfl, Below.refl _ _⟩
  · rw [hv] at HF
    rw [hc, if_neg (by omega)]
    clear hv hc
    go_enter Tryz.func22, Tryz.ntmps22
    go_wp2_with fail
    refine (HF.out).mono ?_
    rintro e w1 ⟨rfl, rfl⟩
    go_wp2_with fail
    refine (BoxErr.code_size a0 a1 _ HT.out).mono ?_
    rintro e w1 ⟨rfl, rfl⟩
    go_wp2
    go_ret2
    exact ⟨rfl, Below.refl _ _⟩
  · rw [hv] at HF
    rw [if_pos hc]
    have HX := Lib.hid (ChaXorI.chaXor key nonce h1 h2 1 (by omega) t h4)
    have hxs := xorS_size key nonce 1 t
    have HB := Lib.hid (BoxTagI.boxTag key nonce h1 h2 ad (xorS key nonce 1 t) h3 (by rw [hxs]; exact h4))
    have hbs := boxT_size key nonce ad (xorS key nonce 1 t)
    have HR := Lib.hid (show sealT key nonce ad t = xorS key nonce 1 t ++ boxT key nonce ad (xorS key nonce 1 t) from rfl)
    rw [HR.out]
    generalize boxT key nonce ad (xorS key nonce 1 t) = X at *
    generalize xorS key nonce 1 t = Y at *
    have hs : ¬ 9223372036854775807 < Y.size + X.size := by omega
    clear hv hc h1 h2 h3 h4 hxs hbs
    go_enter Tryz.func22, Tryz.ntmps22
    go_wp2_with fail
    refine (HF.out).mono ?_
    rintro e w1 ⟨rfl, rfl⟩
    go_wp2_with fail
    refine (HX.out _).mono ?_
    rintro e w1 ⟨rfl, hb⟩
    have HB1 := Lib.hid hb
    clear hb
    go_wp2_with fail
    refine (HB.out _).mono ?_
    rintro e w2 ⟨rfl, hb⟩
    have HB2 := Lib.hid (HB1.out.trans (hb.mono HB1.out.size))
    clear hb
    go_wp2
    go_ret2
    exact ⟨rfl, HB2.out⟩

/-- What the program's openBox answers: a text and an error. -/
def openV (key nonce ad t : ByteArray) (a0 a1 a2 : Addr) : Value :=
  if code key nonce ad t = 0 then (if good key nonce ad t = true then .tuple #[.string (xorS key nonce 1 (hid t)), .nilIface] else .tuple #[.string ⟨#[]⟩, ev a2])
  else .tuple #[.string ⟨#[]⟩, faultV key nonce ad t a0 a1]

set_option maxHeartbeats 1600000 in
theorem openBox (key nonce ad t : ByteArray) (hk : key.size ≤ maxLen) (hn : nonce.size ≤ maxLen) (ha : ad.size ≤ maxLen) (ht : t.size ≤ maxLen) (a0 a1 a2 : Addr) (w : World) (H : Three w a0 a1 a2) :
    Calls Tryz.prog 44 #[.string key, .string nonce, .string ad, .string t] w fun e w' => e = .returned (openV key nonce ad t a0 a1 a2) ∧ Below w.heap.size w w' := by
  have HF := Lib.hid (BoxErr.boxFault key nonce ad t hk hn ha ht a0 a1 w H.two)
  have HT := Lib.hid H
  clear H hk hn ha ht
  unfold openV
  rcases cases key nonce ad t a0 a1 with ⟨hc, _, hv⟩ | ⟨hc, _, hv⟩ | ⟨hc, h1, h2, h3, h4, hv⟩
  · rw [hv] at HF
    rw [hv, hc, if_neg (by omega)]
    clear hv hc
    go_enter Tryz.func44, Tryz.ntmps44
    go_wp2_with fail
    refine (HF.out).mono ?_
    rintro e w1 ⟨rfl, rfl⟩
    go_wp2
    go_ret2
    exact ⟨rfl, Below.refl _ _⟩
  · rw [hv] at HF
    rw [hv, hc, if_neg (by omega)]
    clear hv hc
    go_enter Tryz.func44, Tryz.ntmps44
    go_wp2_with fail
    refine (HF.out).mono ?_
    rintro e w1 ⟨rfl, rfl⟩
    go_wp2
    go_ret2
    exact ⟨rfl, Below.refl _ _⟩
  · rw [hv] at HF
    rw [if_pos hc]
    have c2 := HT.out.h2.cell
    clear hv hc
    by_cases h16 : t.size < 16
    · have hg : good key nonce ad t = false := by unfold good; rw [decide_eq_false (by omega)]; rfl
      rw [hg, if_neg (by decide)]
      have d16 : decide ((t.size : Int) < 16) = true := decide_eq_true (by omega)
      clear hg h1 h2 h3
      go_enter Tryz.func44, Tryz.ntmps44
      go_wp2_with fail
      refine (HF.out).mono ?_
      rintro e w1 ⟨rfl, rfl⟩
      go_wp2
      go_quiet (fail)
      go_wp2
      go_ret2
      exact ⟨rfl, below_drewN (Below.refl _ _) _⟩
    · have d16 : decide ((t.size : Int) < 16) = false := decide_eq_false (by omega)
      obtain ⟨m, em⟩ : ∃ m, t.size - 16 = m := ⟨_, rfl⟩
      have HG := Lib.hid (show good key nonce ad t = teq (tg t) (boxT key nonce ad (hid t)) by unfold good; rw [decide_eq_true (by omega)]; rfl)
      have e1 : (t.size : Int) - 16 = (m : Int) := by omega
      have wm : IntKind.i64.wrap (m : Int) = m := by rw [IntKind.wrap_i64]; omega
      have q1 : (m : Int) ≤ (t.size : Int) := by omega
      have q0 : (0 : Int) ≤ (m : Int) := by omega
      have hhs : (hid t).size ≤ 65536 := by unfold hid; rw [ByteArray.size_extract]; omega
      have hts : (tg t).size ≤ 16 := by unfold tg; rw [ByteArray.size_extract]; omega
      have HH := Lib.hid (show hid t = t.extract 0 m by unfold hid; rw [em])
      have HTG := Lib.hid (show tg t = t.extract m t.size by unfold tg; rw [em])
      have HB := Lib.hid (BoxTagI.boxTag key nonce h1 h2 ad (hid t) h3 hhs)
      have hbs := boxT_size key nonce ad (hid t)
      have HE := Lib.hid (TagEq.impl (tg t) (boxT key nonce ad (hid t)) (by unfold maxLen; omega) (by unfold maxLen; omega))
      have HX := Lib.hid (ChaXorI.chaXor key nonce h1 h2 1 (by omega) (hid t) hhs)
      rw [HG.out]
      clear HG
      generalize teq (tg t) (boxT key nonce ad (hid t)) = G at *
      generalize boxT key nonce ad (hid t) = X at *
      generalize xorS key nonce 1 (hid t) = Y at *
      rw [HH.out] at HB HX
      rw [HTG.out] at HE
      clear h1 h2 h3 h4 hhs hts hbs em h16 HH HTG
      go_enter Tryz.func44, Tryz.ntmps44
      go_wp2_with fail
      refine (HF.out).mono ?_
      rintro e w1 ⟨rfl, rfl⟩
      go_wp2
      go_quiet (fail)
      go_wp2_with fail
      refine (HB.out _).mono ?_
      rintro e w2 ⟨rfl, hb⟩
      have HB2 := Lib.hid (show Below w.heap.size w w2 from (below_drewN (Below.refl _ _) _).trans (hb.mono (Nat.le_refl _)))
      clear hb
      go_wp2_with fail
      refine (HE.out _).mono ?_
      rintro e w3 ⟨rfl, hb⟩
      have HB3 := Lib.hid (HB2.out.trans (hb.mono HB2.out.size))
      clear hb HB2 c2
      cases G
      · have c3 := (HT.out.below HB3.out).h2.cell
        go_wp2
        go_quiet (fail)
        go_wp2
        go_ret2
        exact ⟨rfl, below_drewN HB3.out _⟩
      · go_wp2_with fail
        refine (HX.out _).mono ?_
        rintro e w4 ⟨rfl, hb⟩
        have HB4 := Lib.hid (HB3.out.trans (hb.mono HB3.out.size))
        clear hb HB3
        go_wp2
        go_ret2
        exact ⟨rfl, HB4.out⟩

end Go.Proofs.YtggobhpjfflooaaGreatDoor.BoxL
namespace Go.Proofs.YtggobhpjfflooaaGreatDoor.BoxS
open Go.ChangeShapes Go.WideShapes Go.ChangeAt Go.RowKit
open BoxErr (Two Three ev code long)
open BoxTagI (boxT boxT_size)
open BoxL (tagRes sealRes openRes sealT sealT_size hid tg good xorS_size teq_comm)
open SpXor (xorS)
open TagEq (teq acc)
set_option linter.unusedVariables false

theorem code_ask (key nonce ad t : ByteArray) (h : ¬ long key nonce ad t) : code key nonce ad t = ChaBlk.ask key nonce 0 := by
  unfold code ChaBlk.ask
  rw [if_neg h]
  by_cases h2 : key.size = 32 ∧ nonce.size = 12
  · rw [if_pos h2, if_neg (by omega), if_neg (by omega)]
  · rw [if_neg h2, if_pos (by omega)]
theorem code_long (key nonce ad t : ByteArray) (h : long key nonce ad t) : code key nonce ad t = 2 := by unfold code; rw [if_pos h]

theorem sealM (key nonce ad t : ByteArray) (h1 : key.size = 32) (h2 : nonce.size = 12) (h3 : ad.size ≤ 65536) (h4 : t.size ≤ 65536) (w : World) :
    Calls Tryz.prog 43 #[.string key, .string nonce, .string ad, .string t] w fun e w' => e = .returned (.string (sealT key nonce ad t)) ∧ Below w.heap.size w w' := by
  have HX := Lib.hid (SpXor.xorM key nonce h1 h2 1 (by omega) t h4)
  have hxs := xorS_size key nonce 1 t
  have HB := Lib.hid (BoxTagI.l04Tag key nonce h1 h2 ad (xorS key nonce 1 t) h3 (by rw [hxs]; exact h4))
  have hbs := boxT_size key nonce ad (xorS key nonce 1 t)
  have HR := Lib.hid (show sealT key nonce ad t = xorS key nonce 1 t ++ boxT key nonce ad (xorS key nonce 1 t) from rfl)
  rw [HR.out]
  generalize boxT key nonce ad (xorS key nonce 1 t) = X at *
  generalize xorS key nonce 1 t = Y at *
  have hs : ¬ 9223372036854775807 < Y.size + X.size := by omega
  clear h1 h2 h3 h4 hxs hbs
  go_enter Tryz.func43, Tryz.ntmps43
  go_wp2_with fail
  refine (HX.out _).mono ?_
  rintro e w1 ⟨rfl, hb⟩
  have HB1 := Lib.hid hb
  clear hb
  go_wp2_with fail
  refine (HB.out _).mono ?_
  rintro e w2 ⟨rfl, hb⟩
  have HB2 := Lib.hid (HB1.out.trans (hb.mono HB1.out.size))
  clear hb
  go_wp2
  go_ret
  exact ⟨rfl, HB2.out⟩

theorem chain {w u w2 v w3 : World} (h1 : Below w.heap.size w u) (hb2 : Below u.heap.size u w2) (h2 : Below w2.heap.size w2 v) (hb3 : Below v.heap.size v w3) : Below w.heap.size w w3 := by
  have a := h1.trans (hb2.mono h1.size)
  have b := a.trans (h2.mono a.size)
  exact b.trans (hb3.mono b.size)
/-- What the model's l04Open answers. -/
def openM (key nonce ad t : ByteArray) : Value := if good key nonce ad t = true then .tuple #[.string (xorS key nonce 1 (hid t)), .bool true] else .tuple #[.string ⟨#[]⟩, .bool false]

set_option maxRecDepth 100000 in
set_option maxHeartbeats 1600000 in
theorem opened (key nonce ad t : ByteArray) (h1 : key.size = 32) (h2 : nonce.size = 12) (h3 : ad.size ≤ 65536) (h4 : t.size ≤ 65536) (w : World) :
    Calls Tryz.prog 46 #[.string key, .string nonce, .string ad, .string t] w fun e w' => e = .returned (openM key nonce ad t) ∧ Below w.heap.size w w' := by
  unfold openM
  by_cases h16 : t.size < 16
  · have hg : good key nonce ad t = false := by unfold good; rw [decide_eq_false (by omega)]; rfl
    rw [hg, if_neg (by decide)]
    have d16 : decide ((t.size : Int) < 16) = true := decide_eq_true (by omega)
    clear hg h1 h2 h3
    go_enter Tryz.func46, Tryz.ntmps46
    go_wp2
    go_ret2
    exact ⟨rfl, Below.refl _ _⟩
  have d16 : decide ((t.size : Int) < 16) = false := decide_eq_false (by omega)
  obtain ⟨m, em⟩ : ∃ m, t.size - 16 = m := ⟨_, rfl⟩
  have HG := Lib.hid (show good key nonce ad t = teq (boxT key nonce ad (hid t)) (tg t) by unfold good; rw [decide_eq_true (by omega), teq_comm]; rfl)
  have e1 : (t.size : Int) - 16 = (m : Int) := by omega
  have wm : IntKind.i64.wrap (m : Int) = m := by rw [IntKind.wrap_i64]; omega
  have q1 : (m : Int) ≤ (t.size : Int) := by omega
  have q0 : (0 : Int) ≤ (m : Int) := by omega
  have hm : (t.extract 0 m).size = m := by rw [ByteArray.size_extract]; omega
  have hhs : (hid t).size ≤ 65536 := by unfold hid; rw [ByteArray.size_extract]; omega
  have hts : (tg t).size ≤ 16 := by unfold tg; rw [ByteArray.size_extract]; omega
  have HH := Lib.hid (show hid t = t.extract 0 m by unfold hid; rw [em])
  have HTG := Lib.hid (show tg t = t.extract m t.size by unfold tg; rw [em])
  have HB := Lib.hid (BoxTagI.l04Tag key nonce h1 h2 ad (hid t) h3 hhs)
  have hbs := boxT_size key nonce ad (hid t)
  have HE := Lib.hid (TagEq.spec (boxT key nonce ad (hid t)) (tg t) (by unfold maxLen; omega) (by unfold maxLen; omega))
  have HX := Lib.hid (SpXor.xorM key nonce h1 h2 1 (by omega) (hid t) hhs)
  rw [HG.out]
  clear HG
  generalize teq (boxT key nonce ad (hid t)) (tg t) = G at *
  generalize boxT key nonce ad (hid t) = X at *
  generalize xorS key nonce 1 (hid t) = Y at *
  rw [HH.out] at HB HX
  rw [HTG.out] at HE
  clear h1 h2 h3 h4 hhs hts hbs em h16 HH HTG
  have HM := Lib.hid hm
  clear hm
  go_enter Tryz.func46, Tryz.ntmps46
  go_upto_region 4 with (fail)
  generalize t.extract 0 m = S at *
  have hmi : (S.size : Int) = (m : Int) := by have := HM.out; omega
  go_region_with (first
    | (go_at_call 63; refine (HB.out _).mono ?_; rintro e w2 ⟨rfl, hb2⟩; have HB2 := Lib.hid hb2; clear hb2)
    | (go_at_call 65; refine (HE.out _).mono ?_; rintro e w3 ⟨rfl, hb3⟩; have HB3 := Lib.hid hb3; clear hb3))
  all_goals
    have HW := Lib.hid (show Below w.heap.size w w3 from chain (by repeat (with_reducible (first | exact Below.refl _ _ | exact below_drewN (Below.refl _ _) _ | refine Below.drew ?_))) HB2.out (by repeat (with_reducible (first | exact Below.refl _ _ | exact below_drewN (Below.refl _ _) _ | refine Below.drew ?_))) HB3.out)
    clear HB2 HB3
    cases G
    · go_wp2
      go_ret2
      exact ⟨rfl, by repeat (with_reducible (first | exact HW.out | exact below_drewN HW.out _ | refine Below.drew ?_))⟩
    · go_wp2_with fail
      refine (HX.out _).mono ?_
      rintro e w4 ⟨rfl, hb⟩
      have HW4 := Lib.hid (show Below w.heap.size w w4 from chain (u := w3) HW.out (Below.refl _ _) (by repeat (with_reducible (first | exact Below.refl _ _ | exact below_drewN (Below.refl _ _) _ | refine Below.drew ?_))) hb)
      clear hb HW
      go_wp2
      go_ret2
      exact ⟨rfl, HW4.out⟩


theorem tag_form (key nonce ad t : ByteArray) : ∃ (s : ByteArray) (c : Int), tagRes key nonce ad t = .tuple #[.string s, .int .i64 c] := by
  unfold tagRes
  split
  · exact ⟨_, _, rfl⟩
  · exact ⟨_, _, rfl⟩
theorem seal_form (key nonce ad t : ByteArray) : ∃ (s : ByteArray) (c : Int), sealRes key nonce ad t = .tuple #[.string s, .int .i64 c] := by
  unfold sealRes
  split
  · exact ⟨_, _, rfl⟩
  · exact ⟨_, _, rfl⟩
theorem open_form (key nonce ad t : ByteArray) : ∃ (s : ByteArray) (c : Int), openRes key nonce ad t = .tuple #[.string s, .int .i64 c] := by
  unfold openRes
  split
  · split
    · exact ⟨_, _, rfl⟩
    · exact ⟨_, _, rfl⟩
  · exact ⟨_, _, rfl⟩

end Go.Proofs.YtggobhpjfflooaaGreatDoor.BoxS
