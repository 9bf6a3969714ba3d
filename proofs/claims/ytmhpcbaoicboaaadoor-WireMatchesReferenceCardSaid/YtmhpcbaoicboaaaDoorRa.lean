/- Walks of the reference implementation's PutInt. -/
import Derived.Test.YtmhpcbaoicboaaaDoorWg
import Derived.RangeFuncBox
import Derived.Maps.AppendAt
import Derived.Laws.OwnMore
import Derived.Laws.IdiomStrings
namespace Go.Proofs.YtmhpcbaoicboaaaDoor
open Go.RowKit

theorem info5' : (Tryd.prog.info? 5).map (fun i => (i.zero, i.size, i.bytes)) = some (some (.int .u8 0), 1, 1) := by kernel_rfl

theorem rzig_any (n : Int) (h0 : -4611686018427387903 ≤ n) (h1 : n ≤ 4611686018427387903) (w : World) :
    Calls Tryd.prog 24 #[.int .i64 n] w fun e w' => e = .returned (.int .u64 (zig n)) ∧ w = w' := by
  by_cases hc : n < 0
  · go_enter Tryd.func24, Tryd.ntmps24
    go_wp2
    go_ret
    exact ⟨ret_int (by rw [zig, if_pos hc]; omega), rfl⟩
  · go_enter Tryd.func24, Tryd.ntmps24
    go_wp2
    go_ret
    exact ⟨ret_int (by rw [zig, if_neg (by omega)]; omega), rfl⟩

theorem rput_bad (m : Int) (h : m < -4611686018427387903 ∨ 4611686018427387903 < m) (w : World) :
    Calls Tryd.prog 13 #[.int .i64 m] w fun e w' => e = .returned (.tuple #[.string ⟨#[]⟩, .int .i64 10]) ∧ w = w' := by
  by_cases h0 : m < -4611686018427387903
  · clear h
    go_enter Tryd.func13, Tryd.ntmps13
    go_wp2
    go_ret2
    exact ⟨rfl, rfl⟩
  · have h1 : 4611686018427387903 < m := by omega
    clear h
    go_enter Tryd.func13, Tryd.ntmps13
    go_wp2
    go_ret2
    exact ⟨rfl, rfl⟩

def bv (l : List Nat) : List Value := l.map fun (x : Nat) => Value.int .u8 (x : Int)
theorem bv_snoc (l : List Nat) (x : Nat) : bv (l ++ [x]) = bv l ++ [.int .u8 (x : Int)] := by simp [bv]

theorem bv_list (l : List UInt8) : bv (l.map (·.toNat)) = l.map fun b => Value.int .u8 (b.toNat : Int) := by simp [bv]

/-- the string of a row of the call's own -/
theorem row_string {W : World} {base g cap : Nat} (l : List UInt8) (h : W.ownsRow base 5 1 (.slice (some ⟨g, 0, none⟩) l.length cap) l.length (bv (l.map (·.toNat)))) :
    (convert 38 9 (.slice (some ⟨g, 0, none⟩) l.length cap)).run Tryd.prog W = .ok (.string ⟨l.toArray⟩) W :=
  run_convert_bytes_back (P := Tryd.prog) W 38 9 5 ⟨g, 0, none⟩ cap l Tryd.underlying38 Tryd.underlying5 Tryd.underlying9 (fun j hj => by
    have ea : (⟨g, 0, none⟩ : Addr).add j = ⟨g, j, none⟩ := by unfold Addr.add; split <;> simp_all
    rw [ea, h.cellAt j (by omega), bv_list]
    simp [hj])

theorem one_new (W : World) (v : Value) : ∀ j u, [v][j]? = some u → (W.alloc (.cells #[v] 5)).cell? ((⟨W.heap.size, 0, none⟩ : Addr).add j) = some u := by
  intro j u hj
  match j, hj with
  | 0, hj => simp at hj; subst hj; simp [Addr.add]

set_option maxRecDepth 100000 in
set_option maxHeartbeats 1000000 in
theorem rput_ok (m : Int) (h0 : -4611686018427387903 ≤ m) (h1 : m ≤ 4611686018427387903) (w : World) :
    Calls Tryd.prog 13 #[.int .i64 m] w fun e w' => e = .returned (.tuple #[.string (encB m), .int .i64 0]) ∧ Below w.heap.size w w' := by
  have g0 : ¬ m < -4611686018427387903 := by omega
  have g1 : ¬ 4611686018427387903 < m := by omega
  have hz := zig_lt m h0 h1
  have hzz := fun w => rzig_any m h0 h1 w
  obtain ⟨z, hzm⟩ : ∃ z, zig m = z := ⟨_, rfl⟩
  have HZ := Lib.hid hzm
  rw [hzm] at hz hzz
  clear hzm
  have hz2 : z < 9223372036854775808 := by simpa using hz
  obtain ⟨i0, hi, hzr, hsz, hby⟩ := info_parts info5'
  go_enter Tryd.func13, Tryd.ntmps13
  go_wp2_with (go_at_call 24; (with_reducible refine (hzz _).mono ?_); rintro e w' ⟨rfl, rfl⟩)
  go_loopw [4, 5] (fun p v wr => ∃ (pre : List Nat) (f r : Nat), p = .int .u64 (r : Int) ∧ gn 9 z = pre ++ gn (f + 1) r ∧ r < 128 ^ (f + 1) ∧ pre.length + f = 8 ∧ wr.ownsRow w.heap.size 5 1 v pre.length (bv pre) ∧ Below w.heap.size w wr)
    (fun p _ _ => (intOf p).toNat)
  case atStart => exact ⟨[], 8, z, rfl, rfl, hz, rfl, (World.ownsRow_nil _ _ _ _ : World.ownsRow _ _ _ _ (.slice none 0 0) 0 []), Below.refl _ _⟩
  case round =>
    obtain ⟨pre, f, r, rfl, hx, hr, hf8, hown, hB⟩ := hrel
    have hr9 : r < 9223372036854775808 := Nat.lt_of_lt_of_le hr (Nat.le_trans (Nat.pow_le_pow_right (by omega) (show f + 1 ≤ 9 by omega)) (by decide))
    have hle := hB.size
    by_cases hlt : r < 128
    · rw [gn_lo f r hlt] at hx
      have HX := Lib.hid hx
      clear hx
      go_wp2_with (first
        | (at_builtin; refine wpList_append_own _ rfl _ _ 38 rfl w.heap.size 5 i0 (.int .u8 0) 1 1 Tryd.underlying38 hi hzr hsz hby rfl (by decide) _ _ _ rfl (hown.alloc _) ⟨wr.heap.size, 0, none⟩ 1 1 [.int .u8 (r : Int)] rfl rfl ?c1 ?c2 ?c3 ?c4 ?c5 ?_))
      case c1 => exact one_new wr _
      case c2 => intro u hu; simp at hu; subst hu; rfl
      case c3 => unfold maxLen; omega
      case c4 => omega
      case c5 => simp; omega
      · intro v' w1 hown' hgrow _
        obtain ⟨g', cap', rfl⟩ := ownsRow_succ hown'
        have hB1 : Below w.heap.size w w1 := (hB.alloc hB.size _).grown hgrow (by simp; omega) (fun k e => by
          rcases hown.2 with ⟨rfl, _⟩ | ⟨g, cap, cur, rfl, hg, _⟩
          · simp [Value.ownBlock] at e
          · simp only [Value.ownBlock, Option.some.injEq] at e; omega)
        have hl : gn 9 z = (enc m).map (·.toNat) := by rw [← HZ.out]; rfl
        have hlen : (enc m).length = pre.length + 1 := by
          have h := congrArg List.length HX.out
          rw [hl] at h
          simpa using h
        have hcv : (convert 38 9 (.slice (some ⟨g', 0, none⟩) (pre.length + 1) cap')).run Tryd.prog w1 = .ok (.string (encB m)) w1 := by
          rw [← hlen]
          rw [← bv_snoc, ← HX.out, hl, ← hlen] at hown'
          exact row_string (enc m) hown'
        clear hown' hgrow hown hl hlen
        go_wp2
        go_ret2
        exact ⟨rfl, hB1⟩
    · rw [gn_hi f r hlt] at hx
      have HX := Lib.hid hx
      clear hx
      go_wp2_with (first
        | (at_builtin; refine wpList_append_own _ rfl _ _ 38 rfl w.heap.size 5 i0 (.int .u8 0) 1 1 Tryd.underlying38 hi hzr hsz hby rfl (by decide) _ _ _ rfl (hown.alloc _) ⟨wr.heap.size, 0, none⟩ 1 1 [.int .u8 ((r : Int) % 128 + 128)] rfl rfl ?d1 ?d2 ?d3 ?d4 ?d5 ?_))
      case d1 => exact one_new wr _
      case d2 => intro u hu; simp at hu; subst hu; rfl
      case d3 => unfold maxLen; omega
      case d4 => omega
      case d5 => simp; omega
      · intro v' w1 hown' hgrow _
        have hf0 : f ≠ 0 := fun e => by subst e; simp at hr; omega
        obtain ⟨f', rfl⟩ : ∃ f', f = f' + 1 := ⟨f - 1, by omega⟩
        have hB1 : Below w.heap.size w w1 := (hB.alloc hB.size _).grown hgrow (by simp; omega) (fun k e => by
          rcases hown.2 with ⟨rfl, _⟩ | ⟨g, cap, cur, rfl, hg, _⟩
          · simp [Value.ownBlock] at e
          · simp only [Value.ownBlock, Option.some.injEq] at e; omega)
        have e1 : (r : Int) % 128 + 128 = ((r % 128 + 128 : Nat) : Int) := by omega
        rw [e1, ← bv_snoc] at hown'
        obtain ⟨g', cap', rfl⟩ := ownsRow_succ hown'
        have HO := Lib.hid hown'
        clear hown' hgrow hown e1
        go_wp2
        go_roundw
        case rel => exact ⟨pre ++ [r % 128 + 128], f', r / 128, by go_num, by rw [HX.out]; simp, by rw [Nat.pow_succ] at hr; omega, by simp; omega, by rw [List.length_append]; exact HO.out, hB1⟩
        case measure => simp [intOf]; omega
end Go.Proofs.YtmhpcbaoicboaaaDoor
