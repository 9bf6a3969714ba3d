/- The walk of the law's hex, and the fixed examples, plain. -/
import Derived.Test.YtdjdoepnljdlcaaDoorTb
namespace Go.Proofs.YtdjdoepnljdlcaaDoor
open Go.RowKit

def digs : List UInt8 := [48, 49, 50, 51, 52, 53, 54, 55, 56, 57, 97, 98, 99, 100, 101, 102]
def hexL (l : List UInt8) : List UInt8 := l.flatMap fun b => [digs.getD (b.toNat / 16) 0, digs.getD (b.toNat % 16) 0]
theorem hexL_len (l : List UInt8) : (hexL l).length = 2 * l.length := by
  induction l with
  | nil => rfl
  | cons b l ih => rw [hexL, List.flatMap_cons, List.length_append]; rw [hexL] at ih; rw [ih]; simp; omega
theorem hexL_snoc (l : List UInt8) (b : UInt8) : hexL (l ++ [b]) = hexL l ++ [digs.getD (b.toNat / 16) 0, digs.getD (b.toNat % 16) 0] := by simp [hexL]
theorem dig_cut (q : Nat) (h : q < 16) : (⟨#[48, 49, 50, 51, 52, 53, 54, 55, 56, 57, 97, 98, 99, 100, 101, 102]⟩ : ByteArray).extract q (q + 1) = ⟨#[digs.getD q 0]⟩ := by
  have : ∀ q : Fin 16, (⟨#[48, 49, 50, 51, 52, 53, 54, 55, 56, 57, 97, 98, 99, 100, 101, 102]⟩ : ByteArray).extract q.1 (q.1 + 1) = ⟨#[digs.getD q.1 0]⟩ := by decide +kernel
  exact this ⟨q, h⟩
theorem take_byte (s : ByteArray) (k : Nat) (h : k < s.size) : s.data.toList.take (k + 1) = s.data.toList.take k ++ [s[k]] := by
  rw [List.take_succ_eq_append_getElem (by simpa using h)]; rfl

set_option maxRecDepth 100000 in
set_option maxHeartbeats 2000000 in
theorem hex_any (s : ByteArray) (hs : s.size = 32) (w : World) :
    Calls Tryd.prog 39 #[.string s] w fun e w' => e = .returned (.string ⟨(hexL s.data.toList).toArray⟩) ∧ Below w.heap.size w w' := by
  have HS := Lib.hid hs
  go_enter Tryd.func39, Tryd.ntmps39
  go_wp2
  go_loopw [3, 4] (fun x i wr => ∃ k : Nat, k ≤ 32 ∧ i = .int .i64 (k : Int) ∧ x = .string ⟨(hexL (s.data.toList.take k)).toArray⟩ ∧ Below w.heap.size w wr) (fun _ i _ => 32 - (intOf i).toNat)
  case atStart => exact ⟨0, by omega, rfl, rfl, Below.refl _ _⟩
  case round =>
    obtain ⟨k, hk, rfl, rfl, hB⟩ := hrel
    by_cases hlt : k < 32
    · have hks : k < s.size := by omega
      obtain ⟨b, hb⟩ : ∃ b, s[k] = b := ⟨_, rfl⟩
      have htk := take_byte s k hks
      rw [hb] at htk
      have HT := Lib.hid htk
      have hb2 := b.toNat_lt
      have d1 := dig_cut (b.toNat / 16) (by omega)
      have d2 := dig_cut (b.toNat % 16) (by omega)
      obtain ⟨D1, hD1⟩ : ∃ D : ByteArray, ⟨#[digs.getD (b.toNat / 16) 0]⟩ = D := ⟨_, rfl⟩
      obtain ⟨D2, hD2⟩ : ∃ D : ByteArray, ⟨#[digs.getD (b.toNat % 16) 0]⟩ = D := ⟨_, rfl⟩
      have z1 : D1.size = 1 := by rw [← hD1]; rfl
      have z2 : D2.size = 1 := by rw [← hD2]; rfl
      rw [hD1] at d1
      rw [hD2] at d2
      have hacc : (⟨(hexL (s.data.toList.take k)).toArray⟩ : ByteArray).size ≤ 64 := by
        show (hexL (s.data.toList.take k)).toArray.size ≤ 64
        rw [List.size_toArray, hexL_len, List.length_take]; omega
      obtain ⟨acc, ha⟩ : ∃ acc : ByteArray, ⟨(hexL (s.data.toList.take k)).toArray⟩ = acc := ⟨_, rfl⟩
      rw [ha] at hacc ⊢
      have e1 : ∀ W, (Op.stringOp .add acc D1).run Tryd.prog W = .ok (.string (acc ++ D1)) W := fun W => run_string_add_sum (w := W) _ _ (by omega)
      have e2 : ∀ W, (Op.stringOp .add (acc ++ D1) D2).run Tryd.prog W = .ok (.string (acc ++ D1 ++ D2)) W := fun W => run_string_add_sum (w := W) _ _ (by rw [ByteArray.size_append]; omega)
      have HA := Lib.hid ha
      have H1 := Lib.hid hD1
      have H2 := Lib.hid hD2
      have b0 : (0 : Int) ≤ (b.toNat : Int) / 16 := by omega
      have b1 : (b.toNat : Int) / 16 + 1 ≤ 16 := by omega
      have b2 : (b.toNat : Int) / 16 ≤ (b.toNat : Int) / 16 + 1 := by omega
      have b3 : (0 : Int) ≤ (b.toNat : Int) % 16 := by omega
      have b4 : (b.toNat : Int) % 16 + 1 ≤ 16 := by omega
      have b5 : (b.toNat : Int) % 16 ≤ (b.toNat : Int) % 16 + 1 := by omega
      clear htk ha hD1 hD2
      go_wp2
      go_quiet (fail)
      go_wp2
      go_roundw
      case rel =>
        refine ⟨k + 1, by omega, by go_num, congrArg Value.string ?_, hB.trans ⟨rfl, rfl, rfl, Nat.le_refl _, fun _ _ => rfl⟩⟩
        rw [HT.out, hexL_snoc, ← HA.out, ← H1.out, ← H2.out, show (⟨#[digs.getD (b.toNat / 16) 0]⟩ : ByteArray) = ⟨[digs.getD (b.toNat / 16) 0].toArray⟩ from rfl, show (⟨#[digs.getD (b.toNat % 16) 0]⟩ : ByteArray) = ⟨[digs.getD (b.toNat % 16) 0].toArray⟩ from rfl, ByteArray.mk_append_mk, ByteArray.mk_append_mk, List.append_assoc]
        rfl
      case measure => simp [intOf]; omega
    · have ht : s.data.toList.take k = s.data.toList := List.take_of_length_le (by rw [ba_len]; omega)
      rw [ht]
      clear ht
      go_wp2
      go_ret
      exact ⟨rfl, hB⟩

/-! ### the fixed examples, plain -/
def sa : ByteArray := ⟨#[97]⟩
def sb : ByteArray := ⟨#[98]⟩
def sc : ByteArray := ⟨#[99]⟩
def sd : ByteArray := ⟨#[100]⟩
def l3 : List ByteArray := [⟨#[97]⟩, ⟨#[98]⟩, ⟨#[99]⟩]
theorem leaf_l (l : List UInt8) : leafB ⟨l.toArray⟩ = ⟨(Sh.sha (0 :: l)).toArray⟩ := by simp [leafB, sumB]
theorem node_l (a b : List UInt8) : nodeB ⟨a.toArray⟩ ⟨b.toArray⟩ = ⟨(Sh.sha (1 :: (a ++ b))).toArray⟩ := by simp [nodeB, sumB]
theorem la : leafB ⟨#[97]⟩ = ⟨(Sh.sha [0, 97]).toArray⟩ := leaf_l [97]
theorem lb : leafB ⟨#[98]⟩ = ⟨(Sh.sha [0, 98]).toArray⟩ := leaf_l [98]
theorem lc : leafB ⟨#[99]⟩ = ⟨(Sh.sha [0, 99]).toArray⟩ := leaf_l [99]
theorem ld : leafB ⟨#[100]⟩ = ⟨(Sh.sha [0, 100]).toArray⟩ := leaf_l [100]
theorem ne_l {a b : List UInt8} (h : a ≠ b) : (⟨a.toArray⟩ : ByteArray) ≠ ⟨b.toArray⟩ := fun e => h (by have := congrArg (fun x : ByteArray => x.data.toList) e; simpa using this)
/-- the root of the first two -/
def ab : ByteArray := nodeB (leafB ⟨#[97]⟩) (leafB ⟨#[98]⟩)
theorem ab_l : ab = ⟨(Sh.sha (1 :: (Sh.sha [0, 97] ++ Sh.sha [0, 98]))).toArray⟩ := by rw [ab, la, lb, node_l]
theorem ne1 : nodeB ab (leafB ⟨#[100]⟩) ≠ nodeB ab (leafB ⟨#[99]⟩) := by
  rw [ab_l, ld, lc, node_l, node_l]
  exact ne_l (by decide +kernel)
theorem ne2 : nodeB (nodeB ab (leafB ⟨#[98]⟩)) (leafB ⟨#[99]⟩) ≠ nodeB ab (leafB ⟨#[99]⟩) := by
  rw [ab_l, lb, lc, node_l, node_l, node_l]
  exact ne_l (by decide +kernel)
theorem hex1 : hexL (sumB ⟨#[]⟩).data.toList = [101, 51, 98, 48, 99, 52, 52, 50, 57, 56, 102, 99, 49, 99, 49, 52, 57, 97, 102, 98, 102, 52, 99, 56, 57, 57, 54, 102, 98, 57, 50, 52, 50, 55, 97, 101, 52, 49, 101, 52, 54, 52, 57, 98, 57, 51, 52, 99, 97, 52, 57, 53, 57, 57, 49, 98, 55, 56, 53, 50, 98, 56, 53, 53] := by
  show hexL (Sh.sha []) = _
  decide +kernel
theorem hex2 : hexL (sumB ⟨#[97, 98, 99]⟩).data.toList = [98, 97, 55, 56, 49, 54, 98, 102, 56, 102, 48, 49, 99, 102, 101, 97, 52, 49, 52, 49, 52, 48, 100, 101, 53, 100, 97, 101, 50, 50, 50, 51, 98, 48, 48, 51, 54, 49, 97, 51, 57, 54, 49, 55, 55, 97, 57, 99, 98, 52, 49, 48, 102, 102, 54, 49, 102, 50, 48, 48, 49, 53, 97, 100] := by
  show hexL (Sh.sha [97, 98, 99]) = _
  decide +kernel
theorem spl2 : spl 2 = 1 := by decide
theorem spl3 : spl 3 = 2 := by decide
theorem root_ab : root [⟨#[97]⟩, ⟨#[98]⟩] = ab := by
  rw [root_two (by simp)]; simp only [List.length_cons, List.length_nil, Nat.reduceAdd, spl2, List.take, List.drop, root_one]; rfl
theorem root_l3 : root l3 = nodeB ab (leafB ⟨#[99]⟩) := by
  rw [root_two (by simp [l3])]
  simp only [l3, List.length_cons, List.length_nil, Nat.reduceAdd, spl3, List.take, List.drop, root_one, root_ab]
theorem prf_l3 : prf l3 2 = [ab] := by
  rw [prf_hi (by simp [l3]) (by simp [l3, spl3])]
  simp only [l3, List.length_cons, List.length_nil, Nat.reduceAdd, spl3, List.take, List.drop, root_ab]
  rw [prf_one (by simp)]; rfl
end Go.Proofs.YtdjdoepnljdlcaaDoor
