/- The walk of the law WireSumAffine. -/
import Derived.Test.YtmhpcbaoicboaaaDoorLa
import Derived.Test.YtmhpcbaoicboaaaDoorMb
import Derived.BigQuiet
import Derived.Deep.QuietTactic
import Derived.Deep.OwnRows
import Derived.Laws.MakeOwn
import Derived.Laws.OwnMore
import Derived.Laws.BitsAllLaws
namespace Go.Proofs.YtmhpcbaoicboaaaDoor
open Go.RowKit

theorem info5 : (Tryd.prog.info? 5).map (fun i => (i.zero, i.size, i.bytes)) = some (some (.int .u8 0), 1, 1) := by kernel_rfl

/-- make([]byte, n) -/
theorem make_bytes (n : Nat) (hn : n ≤ 281474976710656) (W : World) :
    (Instr.makeSlice 38 (.int .i64 n) (.int .i64 n)).run Tryd.prog W = .ok (.slice (some ⟨W.heap.size, 0, none⟩) n n) (W.alloc (.cells (madeCells #[.int .u8 0] n) 5)) := by
  obtain ⟨i0, hi, hz0, hz1, hz2⟩ := info_parts info5
  have h := run_make (P := Tryd.prog) W 38 5 i0 (.int .u8 0) Tryd.underlying38 hi hz0 .i64 .i64 (n : Int) (n : Int) (by omega) (Int.le_refl _) (by rw [hz2]; omega) (by omega)
  simpa [hz1, Value.cells] using h

/-- the XOR of the bytes at j -/
def x3 (a b c : ByteArray) (j : Nat) : Nat := (a.data.toList[j]?.getD 0).toNat ^^^ (b.data.toList[j]?.getD 0).toNat ^^^ (c.data.toList[j]?.getD 0).toNat

theorem byte_at (s : ByteArray) (k : Nat) (h : k < s.size) : s[k] = s.data.toList[k]?.getD 0 := by
  have h' : k < s.data.toList.length := by rw [size_list]; exact h
  rw [List.getElem?_eq_getElem h']; rfl

theorem x3_bits (a b c : ByteArray) (k : Nat) (ha : k < a.size) (hb : k < b.size) (hc : k < c.size) :
    bits .xor .u8 (bits .xor .u8 (a[k].toNat : Int) (b[k].toNat : Int)) (c[k].toNat : Int) = ((x3 a b c k : Nat) : Int) := by
  have h1 := u8_xor_nat a[k].toNat b[k].toNat a[k].toNat_lt b[k].toNat_lt
  have h2 := u8_xor_nat (a[k].toNat ^^^ b[k].toNat) c[k].toNat (Nat.xor_lt_two_pow (n := 8) a[k].toNat_lt b[k].toNat_lt) c[k].toNat_lt
  rw [h1, h2, x3, byte_at a k ha, byte_at b k hb, byte_at c k hc]

theorem Tab.pos {w : World} (h : Tab w) : 0 < w.heap.size := by
  have h0 := h 0 (by omega)
  rcases Nat.lt_or_ge 0 w.heap.size with h' | h'
  · exact h'
  · rw [World.cell?, Array.getElem?_eq_none h'] at h0; cases h0
theorem Tab.low {w w' : World} {B : Nat} (h : Tab w) (hb : Below B w w') (h0 : 0 < B) : Tab w' := fun i hi => (hb.cell (p := ⟨0, i, none⟩) h0).trans (h i hi)

theorem ofInt_i64 (a : Nat) (ha : a < 4294967296) : (BitVec.ofInt 64 (a : Int)).toNat = a := by
  rw [BitVec.ofInt_natCast, BitVec.toNat_ofNat]; exact Nat.mod_eq_of_lt (by omega)
theorem i64_xor32 (a b : Nat) (ha : a < 4294967296) (hb : b < 4294967296) : bits .xor .i64 (a : Int) (b : Int) = ((a ^^^ b : Nat) : Int) := by
  have hx : a ^^^ b < 4294967296 := Nat.xor_lt_two_pow (n := 32) ha hb
  show IntKind.i64.wrap ((BitVec.ofInt 64 (a : Int) ^^^ BitVec.ofInt 64 (b : Int)).toNat : Int) = _
  rw [BitVec.toNat_xor, ofInt_i64 a ha, ofInt_i64 b hb, IntKind.wrap_i64]
  omega

theorem crc_same (r : Nat) (l : List UInt8) : crc r l = crcs.crcN r l := rfl

/-- the bytes of the XOR -/
def xl (a b c : ByteArray) (m : Nat) : List UInt8 := (List.range m).map fun j => UInt8.ofNat (x3 a b c j)
theorem xl_len (a b c : ByteArray) (m : Nat) : (xl a b c m).length = m := by simp [xl]
theorem x3_lt (a b c : ByteArray) (j : Nat) : x3 a b c j < 256 :=
  Nat.xor_lt_two_pow (n := 8) (Nat.xor_lt_two_pow (n := 8) (UInt8.toNat_lt _) (UInt8.toNat_lt _)) (UInt8.toNat_lt _)

theorem ck_xor3 (a b c : ByteArray) (m : Nat) (ha : m ≤ a.size) (hb : m ≤ b.size) (hc : m ≤ c.size) :
    ck (a.data.toList.take m) ^^^ ck (b.data.toList.take m) ^^^ ck (c.data.toList.take m) = ck (xl a b c m) := by
  have la : (a.data.toList.take m).length = m := by rw [List.length_take, size_list]; omega
  have h := crcs.crc_xor3 (a.data.toList.take m) (b.data.toList.take m) (c.data.toList.take m) (xl a b c m) 4294967295 4294967295 4294967295
    (by rw [la, List.length_take, size_list]; omega) (by rw [la, List.length_take, size_list]; omega) (by rw [la, xl_len]) (fun i hi => by
      rw [la] at hi
      have e : (xl a b c m)[i]?.getD 0 = UInt8.ofNat (x3 a b c i) := by simp [xl, hi]
      rw [e, UInt8.toNat_ofNat', List.getElem?_take_of_lt hi, List.getElem?_take_of_lt hi, List.getElem?_take_of_lt hi]
      exact Nat.mod_eq_of_lt (x3_lt a b c i))
  rw [← crc_same, ← crc_same, ← crc_same, ← crc_same] at h
  have e : 4294967295 ^^^ 4294967295 ^^^ 4294967295 = 4294967295 := by decide
  rw [e] at h
  rw [ck, ck, ck, ck, h]
  have k1 := crcs.xor4 4294967295 (crc 4294967295 (a.data.toList.take m)) 4294967295 (crc 4294967295 (b.data.toList.take m))
  rw [k1, crcs.xor4, e]

set_option maxRecDepth 100000 in
set_option maxHeartbeats 1000000 in
theorem affine_walk (a b c : ByteArray) (ha : a.size ≤ maxLen) (hb : b.size ≤ maxLen) (hc : c.size ≤ maxLen) (w : World) (hT : Tab w) :
    Calls Tryd.prog 9 #[.string a, .string b, .string c] w fun e w' => e = .returned (.bool true) ∧ Below w.heap.size w w' := by
  unfold maxLen at ha hb hc
  have HB := Below.refl w.heap.size w
  have HT := Lib.hid hT
  clear hT
  obtain ⟨m, hm, ma, mb, mc, m2⟩ : ∃ m : Nat, (∀ w, (Builtin.min_ #[3, 3, 3, 3] 3 #[.int .i64 a.size, .int .i64 b.size, .int .i64 c.size, .int .i64 200]).run Tryd.prog w = .ok (.int .i64 m) w) ∧ m ≤ a.size ∧ m ≤ b.size ∧ m ≤ c.size ∧ m ≤ 200 := by
    refine ⟨min (min a.size b.size) (min c.size 200), fun w => ?_, by omega, by omega, by omega, by omega⟩
    simp only [Builtin.min_, List.foldlM_cons, List.foldlM_nil, Builtin.min2, pure_bind]
    show Result.ok _ w = _
    congr 2
    repeat split
    all_goals omega
  have hmk := make_bytes m (by omega)
  go_enter Tryd.func9, Tryd.ntmps9
  go_wp2_with (first
    | (go_at_call 10; (with_reducible refine (sane_any _ HT.out).mono ?_); rintro e w' ⟨rfl, hb'⟩; replace HB := HB.trans (hb'.mono HB.size); replace HT := Lib.hid (HT.out.below hb'); clear hb'))
  have hR := World.rowIs_made w' (.int .u8 0) m 5
  have HB2 : Below w.heap.size w (w'.alloc (.cells (madeCells #[.int .u8 0] m) 5)) := HB.alloc HB.size _
  have hle : w.heap.size ≤ w'.heap.size := HB.size
  have hpos : 0 < w'.heap.size := HT.out.pos
  replace HT := Lib.hid (HT.out.below ((Below.refl _ w').alloc (Nat.le_refl _) (.cells (madeCells #[.int .u8 0] m) 5)))
  obtain ⟨B, hB⟩ : ∃ B, w'.heap.size = B := ⟨_, rfl⟩
  obtain ⟨W2, hW2⟩ : ∃ W2, w'.alloc (.cells (madeCells #[.int .u8 0] m) 5) = W2 := ⟨_, rfl⟩
  rw [hB] at hR hle hpos ⊢
  rw [hW2] at hR HB2 HT ⊢
  clear hB hW2 HB hm hmk
  go_loopw [10] (fun i wr => ∃ k : Nat, k ≤ m ∧ i = .int .i64 k ∧ Below w.heap.size w wr ∧ Tab wr ∧ wr.rowIs B 5 m (fun j => .int .u8 ((if j < k then x3 a b c j else 0 : Nat) : Int))) (fun i _ => m - (intOf i).toNat)
  case atStart => exact ⟨0, by omega, rfl, HB2, HT.out, hR.congr (fun i _ => by simp)⟩
  case round =>
    obtain ⟨k, hk, rfl, hBr, hTr, hrow⟩ := hrel
    clear hR HB2 HT
    have TR := Lib.hid hTr
    clear hTr
    by_cases hkm : k < m
    · have ka : k < a.size := by omega
      have kb : k < b.size := by omega
      have kc : k < c.size := by omega
      have hx := x3_bits a b c k ka kb kc
      have hc1 := hrow.cell hkm
      have hf1 := hrow.frozen k
      have RW := Lib.hid hrow
      clear hrow
      go_wp2
      go_region
      have hb2 : Below B wr (wr.setCell ⟨B, k, none⟩ (.int .u8 ((x3 a b c k : Nat) : Int))) := (Below.refl B wr).setCell (p := ⟨B, k, none⟩) (Nat.le_refl _) _
      go_wp2
      go_roundw
      case rel =>
        refine ⟨k + 1, by omega, by go_num, (hBr.trans (hb2.mono hle)).drew, (TR.out.low hb2 hpos).low (Below.refl B _).drew hpos, ((RW.out.set k _).drew).congr (fun j hj => ?_)⟩
        by_cases e : j = k
        · subst e; simp
        · simp only [if_neg e]
          by_cases e2 : j < k
          · rw [if_pos e2, if_pos (by omega)]
          · rw [if_neg e2, if_neg (by omega)]
      case measure => simp [intOf]; omega
    · have hkm' : k = m := by omega
      subst hkm'
      have hconv : ∀ W : World, W.rowIs B 5 k (fun j => .int .u8 ((if j < k then x3 a b c j else 0 : Nat) : Int)) → (convert 38 9 (.slice (some ⟨B, 0, none⟩) k k)).run Tryd.prog W = .ok (.string ⟨(xl a b c k).toArray⟩) W := fun W hW => by
        have h := run_convert_bytes_back (P := Tryd.prog) W 38 9 5 ⟨B, 0, none⟩ k (xl a b c k) Tryd.underlying38 Tryd.underlying5 Tryd.underlying9 (fun j hj => by
          rw [xl_len] at hj
          have ea : (⟨B, 0, none⟩ : Addr).add j = ⟨B, j, none⟩ := by unfold Addr.add; split <;> simp_all
          rw [ea, hW.cell hj, if_pos hj]
          have ev : ((xl a b c k)[j]'(by rw [xl_len]; exact hj)).toNat = x3 a b c j := by
            simp only [xl, List.getElem_map, List.getElem_range]
            rw [UInt8.toNat_ofNat']
            exact Nat.mod_eq_of_lt (x3_lt a b c j)
          rw [ev])
        rw [xl_len] at h
        exact h
      have cx := fun n => hconv (wr.drewN n) hrow
      have cx0 := hconv wr hrow
      have hq : ∀ (s : ByteArray) (v : Nat), s.size ≤ 200 → ck s.data.toList = v → ∀ n, Calls Tryd.prog 21 #[.string s] (wr.drewN n) fun e w'' => e = .returned (.int .i64 v) ∧ w'' = wr.drewN n := fun s v hs hv n => by
        have h := sum_any s (maxLen_ge _ (by omega)) (wr.drewN n) (fun i hi => TR.out i hi)
        rw [hv] at h
        exact h.mono fun e w'' ⟨he, hw⟩ => ⟨he, hw.symm⟩
      have ea : (a.extract 0 k).data.toList = a.data.toList.take k := by rw [extract_list]; simp
      have eb : (b.extract 0 k).data.toList = b.data.toList.take k := by rw [extract_list]; simp
      have ec : (c.extract 0 k).data.toList = c.data.toList.take k := by rw [extract_list]; simp
      have qx := hq ⟨(xl a b c k).toArray⟩ (ck (xl a b c k)) (by show (xl a b c k).toArray.size ≤ 200; rw [List.size_toArray, xl_len]; omega) rfl
      have qa := hq (a.extract 0 k) (ck (a.data.toList.take k)) (by rw [ByteArray.size_extract]; omega) (by rw [ea])
      have qb := hq (b.extract 0 k) (ck (b.data.toList.take k)) (by rw [ByteArray.size_extract]; omega) (by rw [eb])
      have qc := hq (c.extract 0 k) (ck (c.data.toList.take k)) (by rw [ByteArray.size_extract]; omega) (by rw [ec])
      have hxx : bits .xor .i64 (bits .xor .i64 ((ck (a.data.toList.take k) : Nat) : Int) ((ck (b.data.toList.take k) : Nat) : Int)) ((ck (c.data.toList.take k) : Nat) : Int) = ((ck (xl a b c k) : Nat) : Int) := by
        rw [i64_xor32 _ _ (ck_lt _) (ck_lt _), i64_xor32 _ _ (Nat.xor_lt_two_pow (n := 32) (ck_lt _) (ck_lt _)) (ck_lt _), ck_xor3 a b c k ma mb mc]
      clear ea eb ec hq hconv hrow
      generalize ck (a.data.toList.take k) = va at *
      generalize ck (b.data.toList.take k) = vb at *
      generalize ck (c.data.toList.take k) = vc at *
      generalize ck (xl a b c k) = vx at *
      generalize (⟨(xl a b c k).toArray⟩ : ByteArray) = sx at *
      go_wp2
      go_quiet ((first | (go_at_call 21; with_reducible exact Calls.quiet_of_same (qx _)) | (go_at_call 21; with_reducible exact Calls.quiet_of_same (qa _)) | (go_at_call 21; with_reducible exact Calls.quiet_of_same (qb _)) | (go_at_call 21; with_reducible exact Calls.quiet_of_same (qc _))))
      go_wp2
      go_ret
      exact ⟨rfl, hBr.trans ⟨rfl, rfl, rfl, Nat.le_refl _, fun _ _ => rfl⟩⟩
end Go.Proofs.YtmhpcbaoicboaaaDoor
