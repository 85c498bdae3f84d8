/-
  What is proved: the law on boxes (what is sealed is opened by the same key, nonce and words beside it; changed it is told, unless its tag is right) returns true (the walk), where the package's errors stand in their variables.
-/
import Derived.Test.YtggobhpjfflooaaGreatDoorRows
import Derived.Test.YtggobhpjfflooaaGreatDoorSrcA
import Derived.Test.YtggobhpjfflooaaGreatDoorStreamW
import Derived.Test.YtggobhpjfflooaaGreatDoorBoxA
namespace Go.Proofs.YtggobhpjfflooaaGreatDoor.FnBox
open Go.ChangeShapes Go.WideShapes Go.ChangeAt Go.RowKit
open BoxErr (Two Three ev code long)
open BoxTagI (boxT boxT_size)
open BoxL (tagRes sealRes openRes sealT sealT_size hid tg good xorS_size)
open SpXor (xorS)
open TagEq (teq acc)
open Word (bN bN_lt bN_at bN_extract)
open PolyN (bN_append)
open StreamW (ext_bN)
open Src (IsRow)
set_option linter.unusedVariables false

theorem isRow_below {k : IntKind} {w w' : World} {a : Option Addr} {len cap : Nat} {zs : List Int} (h : IsRow k w a len cap zs) (hb : Below w.heap.size w w') : IsRow k w' a len cap zs := by
  rcases h with h | ⟨x, h1, h2, h3, h4, h5, h6⟩
  · exact .inl h
  · refine .inr ⟨x, h1, h2, h3, h4, fun i hi => ?_, h6⟩
    have hc := h5 i hi
    exact (hb.cell (World.block_lt_of_cell? w _ hc)).trans hc
theorem ext_head (a b : ByteArray) : (a ++ b).extract 0 a.size = a := by
  apply ext_bN
  · rw [ByteArray.size_extract, ByteArray.size_append]; omega
  · intro j hj
    rw [ByteArray.size_extract, ByteArray.size_append] at hj
    rw [bN_extract _ _ _ _ (by omega), Nat.zero_add, bN_append, if_pos (by omega)]
theorem ext_tail (a b : ByteArray) (n m : Nat) (hn : n = a.size) (hm : m = a.size + b.size) : (a ++ b).extract n m = b := by
  subst hn
  subst hm
  apply ext_bN
  · rw [ByteArray.size_extract, ByteArray.size_append]; omega
  · intro j hj
    rw [ByteArray.size_extract, ByteArray.size_append] at hj
    rw [bN_extract _ _ _ _ (by omega), bN_append, if_neg (by omega), show a.size + j - a.size = j by omega]
theorem acc_self (a : ByteArray) : ∀ n, acc a a n = 0
  | 0 => rfl
  | n + 1 => by
    show acc a a n ||| (bN a n ^^^ bN a n) = 0
    rw [acc_self a n, Nat.xor_self]
    rfl
theorem teq_self (a : ByteArray) (h : a.size = 16) : teq a a = true := decide_eq_true ⟨by omega, rfl, acc_self a _⟩
/-- A text of which byte i is changed. -/
def turned (x : ByteArray) (i y : Nat) : ByteArray := x.extract 0 i ++ ⟨#[UInt8.ofNat y]⟩ ++ x.extract (i + 1) x.size
theorem turned_size (x : ByteArray) (i y : Nat) (hi : i < x.size) : (turned x i y).size = x.size := by
  unfold turned
  rw [ByteArray.size_append, ByteArray.size_append, ByteArray.size_extract, ByteArray.size_extract]
  show _ + 1 + _ = _
  omega
theorem one_back (y : Nat) (hy : y < 256) (u : World) (g : Nat) (h : u.cell? ⟨g, 0, none⟩ = some (.int .u8 (y : Int))) : (convert 22 9 (.slice (some ⟨g, 0, none⟩) 1 1)).run Tryz.prog u = .ok (.string ⟨#[UInt8.ofNat y]⟩) u := by
  refine Flat.back u g 1 1 [UInt8.ofNat y] rfl fun j hj => ?_
  obtain rfl : j = 0 := by simp at hj; omega
  rw [h]
  show _ = some (Value.int .u8 ((UInt8.ofNat y).toNat : Int))
  rw [UInt8.toNat_ofNat', Nat.mod_eq_of_lt hy]

theorem code_ok (key nonce ad t : ByteArray) (h1 : key.size = 32) (h2 : nonce.size = 12) (h3 : ad.size ≤ 65536) (h4 : t.size ≤ 65536) : code key nonce ad t = 0 := by
  unfold code
  rw [if_neg (by unfold long; omega), if_pos ⟨h1, h2⟩]
theorem seal_hid (key nonce ad t : ByteArray) : hid (sealT key nonce ad t) = xorS key nonce 1 t := by
  unfold hid
  rw [sealT_size, show t.size + 16 - 16 = (xorS key nonce 1 t).size by rw [xorS_size]; omega]
  exact ext_head _ _
theorem seal_tail (key nonce ad t : ByteArray) (m : Nat) (hm : m = t.size + 16) : (sealT key nonce ad t).extract t.size m = boxT key nonce ad (xorS key nonce 1 t) :=
  ext_tail _ _ _ _ (xorS_size _ _ _ _).symm (by rw [xorS_size, boxT_size]; exact hm)
/-- What is sealed is opened. -/
theorem open_seal (key nonce ad t : ByteArray) (h1 : key.size = 32) (h2 : nonce.size = 12) (h3 : ad.size ≤ 65536) (h4 : t.size + 16 ≤ 65536) : openRes key nonce ad (sealT key nonce ad t) = .tuple #[.string t, .int .i64 0] := by
  unfold openRes
  have hg : good key nonce ad (sealT key nonce ad t) = true := by
    unfold good
    rw [seal_hid, decide_eq_true (by rw [sealT_size]; omega)]
    have ht : tg (sealT key nonce ad t) = boxT key nonce ad (xorS key nonce 1 t) := by
      unfold tg
      rw [sealT_size, Nat.add_sub_cancel]
      exact seal_tail key nonce ad t _ rfl
    rw [ht, teq_self _ (boxT_size _ _ _ _)]
    rfl
  rw [if_pos (code_ok key nonce ad _ h1 h2 h3 (by rw [sealT_size]; exact h4)), if_pos hg, seal_hid, StreamW.twice]
theorem seal_ok (key nonce ad t : ByteArray) (h1 : key.size = 32) (h2 : nonce.size = 12) (h3 : ad.size ≤ 65536) (h4 : t.size ≤ 65536) : sealRes key nonce ad t = .tuple #[.string (sealT key nonce ad t), .int .i64 0] := by
  unfold sealRes
  rw [if_pos (code_ok key nonce ad t h1 h2 h3 h4)]
theorem tag_ok (key nonce ad t : ByteArray) (h1 : key.size = 32) (h2 : nonce.size = 12) (h3 : ad.size ≤ 65536) (h4 : t.size ≤ 65536) :
    tagRes key nonce ad ((sealT key nonce ad t).extract 0 t.size) = .tuple #[.string ((sealT key nonce ad t).extract t.size (sealT key nonce ad t).size), .int .i64 0] := by
  have e : (sealT key nonce ad t).extract 0 t.size = xorS key nonce 1 t := by
    have := seal_hid key nonce ad t
    unfold hid at this
    rw [sealT_size, Nat.add_sub_cancel] at this
    exact this
  unfold tagRes
  rw [e, if_pos (code_ok key nonce ad _ h1 h2 h3 (by rw [xorS_size]; exact h4)), seal_tail key nonce ad t _ (sealT_size _ _ _ _)]
/-- What is opened is told, or a text of its length. -/
theorem open_any (key nonce ad y : ByteArray) (n : Nat) (h1 : key.size = 32) (h2 : nonce.size = 12) (h3 : ad.size ≤ 65536) (h4 : y.size ≤ 65536) (hn : y.size = n + 16) :
    ∃ (s : ByteArray) (c : Int), openRes key nonce ad y = .tuple #[.string s, .int .i64 c] ∧ (c = 9 ∨ (c = 0 ∧ s.size = n)) := by
  unfold openRes
  rw [if_pos (code_ok key nonce ad _ h1 h2 h3 h4)]
  cases good key nonce ad y
  · exact ⟨_, _, rfl, .inl rfl⟩
  · refine ⟨_, _, rfl, .inr ⟨rfl, ?_⟩⟩
    rw [xorS_size]
    unfold hid
    rw [ByteArray.size_extract]
    omega
theorem open_short (key nonce ad y : ByteArray) (h1 : key.size = 32) (h2 : nonce.size = 12) (h3 : ad.size ≤ 65536) (h4 : y.size < 16) : openRes key nonce ad y = .tuple #[.string ⟨#[]⟩, .int .i64 9] := by
  unfold openRes
  rw [if_pos (code_ok key nonce ad _ h1 h2 h3 (by omega)), if_neg]
  unfold good
  rw [decide_eq_false (by omega)]
  simp

end Go.Proofs.YtggobhpjfflooaaGreatDoor.FnBox
