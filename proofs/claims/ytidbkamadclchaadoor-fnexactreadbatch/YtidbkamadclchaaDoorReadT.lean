/-
  What is proved: the program's reading of a transaction answers as its pieces say (a contract for the walks).
-/
import Derived.Test.YtidbkamadclchaaDoorRows
import Derived.Test.YtidbkamadclchaaDoorPiecesO
namespace Go.Proofs.YtidbkamadclchaaDoor.ReadT
open Go.ChangeShapes Go.WideShapes Go.ChangeAt Go.RowKit
open Sl (Sl Own Off)
open OpenSl (tc)
open Dev Orm Box3 OpB BatB Txt TxtB TxtR OtB BtM ReadI PiecesO
set_option linter.unusedVariables false

def TPost (L : List UInt8) (lo : Nat) (w' : World) (e : Ending) : Prop := ∃ (v : Value) (xs : List Bk) (q : Bool), e = .returned (.tuple #[.agg #[v], .bool q]) ∧ Hid (PO (cut 59 L) xs q ∧ Own w' lo 3 v xs.length (bc xs))
set_option maxRecDepth 100000 in
set_option maxHeartbeats 1600000 in
theorem readTxn (w : World) (hT : Tr w) (hM : Mx w) (s : ByteArray) (hs : s.size ≤ 65536) :
    Calls Tryd.prog 38 #[.string s] w fun e w' => TPost s.data.toList w.heap.size w' e ∧ Below w.heap.size w w' := by
  obtain ⟨U, e1, hb, hz, c0, f0⟩ := LawB.box1 w 55 (.slice none 0 0)
  obtain ⟨G, eG⟩ : ∃ G, w.heap.size = G := ⟨_, rfl⟩
  have HB := Lib.hid hb
  have HP := Lib.hid (piecesOp U (hT.below hb) (hM.below hb) s hs)
  have HGU := Lib.hid (show G < U.heap.size by omega)
  have HG := Lib.hid (show w.heap.size ≤ G by omega)
  rw [eG] at c0 f0
  have HC := Lib.hid c0
  have HF := Lib.hid f0
  clear hb hz hT hM c0 f0
  go_enter Tryd.func38, Tryd.ntmps38
  go_wp2_with fail
  clear e1 eG
  refine HP.out.mono ?_
  rintro e w1 ⟨⟨v, xs, q, rfl, H⟩, hb⟩
  have HB1 := Lib.hid (HB.out.trans (hb.mono HB.out.size))
  have c0 := (hb.cell (p := ⟨G, 0, none⟩) HGU.out).trans HC.out
  have f0 := (hb.frozen (p := ⟨G, 0, none⟩) HGU.out).trans HF.out
  obtain ⟨a0, cap, rfl, _, _⟩ := H.out.2.sl.form
  have HOFF := Lib.hid (show Off (.slice a0 xs.length cap) G from own_low H.out.2 G HGU.out)
  have R0 : (w1.setCell ⟨G, 0, none⟩ (.slice a0 xs.length cap)).cell? ⟨G, 0, none⟩ = some (.slice a0 xs.length cap) := by go_simp
  obtain ⟨F, eF⟩ : ∃ F, w1.setCell ⟨G, 0, none⟩ (.slice a0 xs.length cap) = F := ⟨_, rfl⟩
  rw [eF] at R0
  have HO := Lib.hid (show Own F U.heap.size 3 (.slice a0 xs.length cap) xs.length (bc xs) from eF ▸ own_set_off H.out.2 HOFF.out 0 _)
  have HBF := Lib.hid (show Below w.heap.size w F from eF ▸ HB1.out.setCell (p := ⟨G, 0, none⟩) HG.out _)
  have HU := Lib.hid HB.out.size
  have HPO := Lib.hid H.out.1
  clear hb HP
  go_wp2
  refine bodyPost_ret (v := .tuple #[.agg #[.slice a0 xs.length cap], .bool q]) (by simp [results, Tryd.results38, go_sem, R0]) rfl ⟨⟨_, xs, q, rfl, Lib.hid ⟨HPO.out, HO.out.base HU.out⟩⟩, HBF.out⟩
end Go.Proofs.YtidbkamadclchaaDoor.ReadT
