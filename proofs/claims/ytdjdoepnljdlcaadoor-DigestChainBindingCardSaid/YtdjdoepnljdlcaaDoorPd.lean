/- The walk of package digest's padding. -/
import Derived.Test.YtdjdoepnljdlcaaDoorGr
import Derived.Test.YtdjdoepnljdlcaaDoorRp
import Derived.Deep.RegionHeld3
import Derived.Laws.IdiomStrings
namespace Go.Proofs.YtdjdoepnljdlcaaDoor
open Go.RowKit

/-- a byte of the length -/
def lenByte (n i : Nat) : UInt8 := UInt8.ofNat (n * 8 / 2 ^ (8 * (7 - i)))
/-- eight bytes of which the first k are laid -/
def BytesAt (w : World) (A : Nat) (n k : Nat) : Prop := ∀ j, j < 8 → w.cell? ⟨A, j, none⟩ = some (.int .u8 (if j < k then ((lenByte n j).toNat : Int) else 0)) ∧ w.frozen? ⟨A, j, none⟩ = false
theorem bytes_step {w : World} {A n k : Nat} (h : BytesAt w A n k) (hk : k < 8) {v : Int} (hv : v = ((lenByte n k).toNat : Int)) : BytesAt (w.setCell ⟨A, k, none⟩ (.int .u8 v)) A n (k + 1) := by
  subst hv
  intro j hj
  rw [World.frozen?_setCell]
  refine ⟨?_, (h j hj).2⟩
  by_cases e : j = k
  · subst e
    rw [World.cell?_setCell_same' _ _ _ (by rw [(h _ hj).1]; rfl), if_pos (by omega)]
  · have n2 : (⟨A, k, none⟩ : Addr) ≠ ⟨A, j, none⟩ := fun h' => e (congrArg Addr.off h').symm
    rw [World.cell?_setCell_other _ _ _ _ n2, (h j hj).1]
    by_cases hj2 : j < k
    · rw [if_pos hj2, if_pos (by omega)]
    · rw [if_neg hj2, if_neg (by omega)]
theorem bytes_zero (W : World) (n : Nat) : BytesAt (W.alloc (.cells #[.int .u8 0, .int .u8 0, .int .u8 0, .int .u8 0, .int .u8 0, .int .u8 0, .int .u8 0, .int .u8 0] 76)) W.heap.size n 0 := by
  intro j hj
  have h := World.alloc_heap_new W (.cells #[.int .u8 0, .int .u8 0, .int .u8 0, .int .u8 0, .int .u8 0, .int .u8 0, .int .u8 0, .int .u8 0] 76)
  constructor
  · rw [World.cell?, h]
    rcases (show j = 0 ∨ j = 1 ∨ j = 2 ∨ j = 3 ∨ j = 4 ∨ j = 5 ∨ j = 6 ∨ j = 7 by omega) with rfl | rfl | rfl | rfl | rfl | rfl | rfl | rfl <;> rfl
  · rw [World.frozen?, h]; simp
/-- the bytes of the length -/
def lenBytes (n : Nat) : List UInt8 := (List.range 8).map (lenByte n)
theorem bytes_string {W : World} {A n : Nat} (h : BytesAt W A n 8) (cap : Nat) : (convert 43 9 (.slice (some ⟨A, 0, none⟩) 8 cap)).run Tryd.prog W = .ok (.string ⟨(lenBytes n).toArray⟩) W :=
  run_convert_bytes_back (P := Tryd.prog) W 43 9 5 ⟨A, 0, none⟩ cap (lenBytes n) Tryd.underlying43 Tryd.underlying5 Tryd.underlying9 (fun j hj => by
    have hj8 : j < 8 := by simpa [lenBytes] using hj
    rw [Addr.add_mid, Nat.zero_add, (h j hj8).1, if_pos hj8]
    simp [lenBytes])
theorem bytes_later {w w' : World} {A B n k : Nat} (h : BytesAt w A n k) (hb : Below B w w') (hA : A < B) : BytesAt w' A n k := fun j hj =>
  ⟨(hb.cell (p := ⟨A, j, none⟩) hA).trans (h j hj).1, (hb.frozen (p := ⟨A, j, none⟩) hA).trans (h j hj).2⟩
theorem pad_eq (n : Nat) : Sh.pad n = 128 :: (List.replicate (Sh.zeros n) 0 ++ lenBytes n) := rfl

set_option maxRecDepth 100000 in
set_option maxHeartbeats 2000000 in
theorem padding_any (n : Nat) (hn : n ≤ 1099511627776) (w : World) :
    Calls Tryd.prog 56 #[.int .i64 (n : Int)] w fun e w' => e = .returned (.string ⟨(Sh.pad n).toArray⟩) ∧ Below w.heap.size w w' := by
  obtain ⟨z, hz⟩ : ∃ z, Sh.zeros n = z := ⟨_, rfl⟩
  have hz1 : (119 - (n : Int)) % 64 = (z : Int) := by rw [← hz, Sh.zeros]; omega
  have hz2 : z ≤ 63 := by rw [← hz, Sh.zeros]; omega
  have hrep := fun w => repeat_any z (by omega) w
  rw [← hz1] at hrep
  have HZ := Lib.hid hz
  clear hz hz1
  go_enter Tryd.func56, Tryd.ntmps56
  go_wp2
  go_loopw [5, 10] (fun _ i wr => ∃ k : Nat, k ≤ 8 ∧ i = .int .i64 (k : Int) ∧ Hid (BytesAt wr w.heap.size n k) ∧ Below w.heap.size w wr) (fun _ i _ => 8 - (intOf i).toNat)
  case atStart => exact ⟨0, by omega, rfl, Lib.hid (bytes_zero w n), (Below.refl _ w).alloc (Nat.le_refl _) _⟩
  case round =>
    obtain ⟨k, hk, rfl, HC, hB⟩ := hrel
    by_cases hlt : k < 8
    · rcases (show k = 0 ∨ k = 1 ∨ k = 2 ∨ k = 3 ∨ k = 4 ∨ k = 5 ∨ k = 6 ∨ k = 7 by omega) with rfl | rfl | rfl | rfl | rfl | rfl | rfl | rfl
      · have cc := (HC.out 0 (by omega)).1
        have cf := (HC.out 0 (by omega)).2
        go_wp2
        go_roundw
        case rel =>
          refine ⟨0 + 1, by omega, by go_num, Lib.hid fun j hj => ?_, (hB.setCell (p := ⟨w.heap.size, 0, none⟩) (Nat.le_refl _) _)⟩
          exact bytes_step HC.out (by omega) (by first | (simp [lenByte]; done) | (simp [lenByte]; omega)) j hj
        case measure => simp [intOf]
      · have cc := (HC.out 1 (by omega)).1
        have cf := (HC.out 1 (by omega)).2
        go_wp2
        go_roundw
        case rel =>
          refine ⟨1 + 1, by omega, by go_num, Lib.hid fun j hj => ?_, (hB.setCell (p := ⟨w.heap.size, 1, none⟩) (Nat.le_refl _) _)⟩
          exact bytes_step HC.out (by omega) (by first | (simp [lenByte]; done) | (simp [lenByte]; omega)) j hj
        case measure => simp [intOf]
      · have cc := (HC.out 2 (by omega)).1
        have cf := (HC.out 2 (by omega)).2
        go_wp2
        go_roundw
        case rel =>
          refine ⟨2 + 1, by omega, by go_num, Lib.hid fun j hj => ?_, (hB.setCell (p := ⟨w.heap.size, 2, none⟩) (Nat.le_refl _) _)⟩
          exact bytes_step HC.out (by omega) (by first | (simp [lenByte]; done) | (simp [lenByte]; omega)) j hj
        case measure => simp [intOf]
      · have cc := (HC.out 3 (by omega)).1
        have cf := (HC.out 3 (by omega)).2
        go_wp2
        go_roundw
        case rel =>
          refine ⟨3 + 1, by omega, by go_num, Lib.hid fun j hj => ?_, (hB.setCell (p := ⟨w.heap.size, 3, none⟩) (Nat.le_refl _) _)⟩
          exact bytes_step HC.out (by omega) (by first | (simp [lenByte]; done) | (simp [lenByte]; omega)) j hj
        case measure => simp [intOf]
      · have cc := (HC.out 4 (by omega)).1
        have cf := (HC.out 4 (by omega)).2
        go_wp2
        go_roundw
        case rel =>
          refine ⟨4 + 1, by omega, by go_num, Lib.hid fun j hj => ?_, (hB.setCell (p := ⟨w.heap.size, 4, none⟩) (Nat.le_refl _) _)⟩
          exact bytes_step HC.out (by omega) (by first | (simp [lenByte]; done) | (simp [lenByte]; omega)) j hj
        case measure => simp [intOf]
      · have cc := (HC.out 5 (by omega)).1
        have cf := (HC.out 5 (by omega)).2
        go_wp2
        go_roundw
        case rel =>
          refine ⟨5 + 1, by omega, by go_num, Lib.hid fun j hj => ?_, (hB.setCell (p := ⟨w.heap.size, 5, none⟩) (Nat.le_refl _) _)⟩
          exact bytes_step HC.out (by omega) (by first | (simp [lenByte]; done) | (simp [lenByte]; omega)) j hj
        case measure => simp [intOf]
      · have cc := (HC.out 6 (by omega)).1
        have cf := (HC.out 6 (by omega)).2
        go_wp2
        go_roundw
        case rel =>
          refine ⟨6 + 1, by omega, by go_num, Lib.hid fun j hj => ?_, (hB.setCell (p := ⟨w.heap.size, 6, none⟩) (Nat.le_refl _) _)⟩
          exact bytes_step HC.out (by omega) (by first | (simp [lenByte]; done) | (simp [lenByte]; omega)) j hj
        case measure => simp [intOf]
      · have cc := (HC.out 7 (by omega)).1
        have cf := (HC.out 7 (by omega)).2
        go_wp2
        go_roundw
        case rel =>
          refine ⟨7 + 1, by omega, by go_num, Lib.hid fun j hj => ?_, (hB.setCell (p := ⟨w.heap.size, 7, none⟩) (Nat.le_refl _) _)⟩
          exact bytes_step HC.out (by omega) (by first | (simp [lenByte]; done) | (simp [lenByte]; omega)) j hj
        case measure => simp [intOf]
    · obtain rfl : k = 8 := by omega
      have hcv := bytes_string HC.out 8
      have hcd := bytes_string (W := wr.drew) (show BytesAt wr.drew w.heap.size n 8 from HC.out) 8
      have hBS : w.heap.size < wr.heap.size := by have h := (HC.out 0 (by omega)).1; rw [World.cell?] at h; cases hq : wr.heap[w.heap.size]? with | none => rw [hq] at h; cases h | some o => exact (Array.getElem?_eq_some_iff.1 hq).1
      have hs1 : (⟨(List.replicate z (0 : UInt8)).toArray⟩ : ByteArray).size = z := by show (List.replicate z (0 : UInt8)).toArray.size = z; simp
      have hs0 : (⟨#[128]⟩ : ByteArray).size = 1 := rfl
      have hs2 : (⟨(lenBytes n).toArray⟩ : ByteArray).size = 8 := rfl
      go_wp2
      obtain ⟨R, hR⟩ : ∃ R : ByteArray, (⟨(List.replicate z (0 : UInt8)).toArray⟩ : ByteArray) = R := ⟨_, rfl⟩
      obtain ⟨L, hL⟩ : ∃ L : ByteArray, (⟨(lenBytes n).toArray⟩ : ByteArray) = L := ⟨_, rfl⟩
      rw [hR] at hrep hs1
      rw [hL] at hcv hcd hs2
      have HR := Lib.hid hR
      have HL := Lib.hid hL
      clear hR hL
      have e1 : ∀ W, (Op.stringOp .add ⟨#[128]⟩ R).run Tryd.prog W = .ok (.string (⟨#[128]⟩ ++ R)) W := fun W => run_string_add_sum (w := W) _ _ (by rw [hs0, hs1]; omega)
      have e2 : ∀ W, (Op.stringOp .add (⟨#[128]⟩ ++ R) L).run Tryd.prog W = .ok (.string (⟨#[128]⟩ ++ R ++ L)) W := fun W => run_string_add_sum (w := W) _ _ (by rw [ByteArray.size_append, hs0, hs1, hs2]; omega)
      go_region_held3 (fun w1 => (convert 43 9 (.slice (some ⟨w.heap.size, 0, none⟩) 8 8)).run Tryd.prog w1 = .ok (.string L) w1 ∧ Below w.heap.size w w1)
        (first | exact ⟨g5, hB5⟩ | exact ⟨hcd, hB.drew⟩)
        (first | (go_at_call 64; (with_reducible refine (hrep _).mono ?_); rintro e w'' ⟨rfl, hb⟩; have g5 := bytes_string (bytes_later (w := wr.drew) (A := w.heap.size) (n := n) (k := 8) HC.out hb hBS) 8; rw [HL.out] at g5; have hB5 : Below w.heap.size w w'' := hB.drew.trans (hb.mono hB.size)))
      go_wp2
      go_ret
      refine ⟨congrArg (fun b => Ending.returned (.string b)) ?_, hB5⟩
      rw [← HR.out, ← HL.out, pad_eq, HZ.out, show (⟨#[128]⟩ : ByteArray) = ⟨[128].toArray⟩ from rfl, ByteArray.mk_append_mk, ByteArray.mk_append_mk]
      rfl
end Go.Proofs.YtdjdoepnljdlcaaDoor
