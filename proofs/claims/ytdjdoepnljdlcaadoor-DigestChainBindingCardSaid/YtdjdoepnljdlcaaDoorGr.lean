/- slices.Grow of no strings, and slices.Concat of two lists of strings. -/
import Derived.Test.YtdjdoepnljdlcaaDoorSb
import Derived.Maps.AppendAt
import Derived.Maps.Range
import Derived.Laws.OwnMore
import Derived.RangeFuncBox
import Derived.Deep.MidRow
namespace Go.Proofs.YtdjdoepnljdlcaaDoor
open Go.RowKit

theorem info9' : (Tryd.prog.info? 9).map (fun i => (i.zero, i.size, i.bytes)) = some (some (.string ⟨#[]⟩), 1, 16) := by kernel_rfl

theorem run_append_zeros (n : Nat) (h0 : 0 < n) (hn : n ≤ 1000) (ty : TypeId) (w : World) :
    ∃ zs : Array Value, zs.size = grownCap w n 0 9 ∧ (Builtin.append_ #[26, 3] ty #[.slice none 0 0, .int .i64 (n : Int)]).run Tryd.prog w =
      .ok (.slice (some ⟨w.heap.size, 0, none⟩) n (grownCap w n 0 9)) (w.drew.alloc (.cells zs 9)) := by
  obtain ⟨i0, hi, hzr, hsz, hby⟩ := info_parts info9'
  have hge := grownCap_ge w n 0 9
  have hw : IntKind.i64.wrap (n : Int) = n := by
    have e := Int.emod_eq_of_lt (a := (n : Int)) (b := 18446744073709551616) (by omega) (by omega)
    simp [IntKind.wrap, IntKind.bits, IntKind.signed]; omega
  have h1 : ¬ ((n : Int) < 0) := by omega
  have h2 : ¬ (281474976710656 < (n : Int) * 16) := by omega
  have h3 : ¬ (9223372036854775807 < (n : Int)) := by omega
  have h5 : ¬ (281474976710656 < Builtin.nextslicecap n 0 * 16) := by
    unfold Builtin.nextslicecap
    rw [if_pos (by omega)]; omega
  refine ⟨Builtin.zeroCells #[.string ⟨#[]⟩] n ++ Builtin.zeroCells #[.string ⟨#[]⟩] (grownCap w n 0 9 - n), ?_, ?_⟩
  · simp [Builtin.zeroCells]; omega
  · simp [Builtin.append_, run_underlying Tryd.underlying26, run_underlying Tryd.underlying3, sizeOf, typeInfo, zeroValue, hi, hzr, hsz, hby, asInt, asIntOf, Builtin.firstCells, hw, h1, h2, h3, h5, Question.forced, newRow, grownCap]
    rw [if_neg (by omega), if_neg (by omega)]
    rfl

theorem wpList_append_zeros {w : World} {ops : Array Oper} {rest : List Oper} {o : Oper} {a : Act} {Q : Exit → Act → World → Prop} (hgd : o.guard = none) (s x : Operand)
    (ho : o.op = .call { callee := .builtin .append, args := #[s, x], argTypes := #[26, 3] }) (n : Nat) (h0 : 0 < n) (hn : n ≤ 1000) (hs : a.eval s = .slice none 0 0) (hx : a.eval x = .int .i64 (n : Int))
    (h : ∀ zs : Array Value, zs.size = grownCap w n 0 9 → wpList Tryd.prog ops Q rest (a.put o.dst (.slice (some ⟨w.heap.size, 0, none⟩) n (grownCap w n 0 9))) (w.drew.alloc (.cells zs 9))) :
    wpList Tryd.prog ops Q (o :: rest) a w :=
  wpList_plain hgd fun _ hK => by
    obtain ⟨zs, hz, hr⟩ := run_append_zeros n h0 hn o.type w
    unfold Oper.wp execOp
    simp only [ho, resolve, invoke, builtin, Sem.run_bind, Sem.run_pure, Result.andThen_ok, List.map_toArray, List.map_cons, List.map_nil, hs, hx, hr]
    exact hK _ _ (h zs hz)

theorem grow_any (n : Nat) (h0 : 0 < n) (hn : n ≤ 1000) (w : World) :
    Calls Tryd.prog 63 #[.slice none 0 0, .int .i64 (n : Int)] w fun e w' => ∃ g cap, e = .returned (.slice (some ⟨g, 0, none⟩) 0 cap) ∧ w'.ownsRow w.heap.size 9 1 (.slice (some ⟨g, 0, none⟩) 0 cap) 0 [] ∧ Below w.heap.size w w' := by
  have hge := grownCap_ge w n 0 9
  have hle := grownCap_le_maxLen w n 0 9 (by unfold maxLen; omega)
  generalize hc : grownCap w n 0 9 = cap at *
  have HC := Lib.hid hc
  have HM := Lib.hid hle
  unfold maxLen at hle
  clear hc
  go_enter Tryd.func63, Tryd.ntmps63
  go_wp2_with (at_builtin; refine wpList_append_zeros rfl (.tmp 20) (.tmp 21) rfl n h0 hn rfl rfl ?_; intro zs hzs; rw [HC.out] at hzs ⊢; replace hzs := Lib.hid hzs)
  go_ret
  refine ⟨_, _, rfl, ⟨rfl, .inr ⟨_, cap, zs, rfl, Nat.le_refl _, ?_, Nat.zero_le _, HM.out, by rw [hzs.out, Nat.mul_one], rfl⟩⟩, ?_⟩
  · exact World.alloc_heap_new w.drew (.cells zs 9)
  · exact ((Below.refl _ w).drew).alloc (Nat.le_refl _) _

/-- the strings that lie behind an address -/
def StrRow (w : World) (b o : Nat) (l : List ByteArray) : Prop := ∀ j x, l[j]? = some x → w.cell? ⟨b, o + j, none⟩ = some (.string x)
/-- the cells of strings -/
def scells (l : List ByteArray) : List Value := l.map .string
theorem StrRow.below {w w' : World} {n b o : Nat} {l : List ByteArray} (h : StrRow w b o l) (hb : Below n w w') (hn : b < n) : StrRow w' b o l := fun j x hj => (hb.cell (p := ⟨b, o + j, none⟩) hn).trans (h j x hj)
theorem StrRow.news {w : World} {b : Nat} {l : List ByteArray} (h : StrRow w b 0 l) : ∀ j u, (scells l)[j]? = some u → w.cell? ((⟨b, 0, none⟩ : Addr).add j) = some u := by
  intro j u hj
  rw [scells, List.getElem?_map] at hj
  cases hx : l[j]? with
  | none => rw [hx] at hj; cases hj
  | some x =>
    rw [hx] at hj
    cases hj
    have := h j x hx
    rw [Addr.add_mid]
    exact this
theorem scells_one (l : List ByteArray) : ∀ u ∈ scells l, u.oneCell' = true := by
  intro u hu
  obtain ⟨x, _, rfl⟩ := List.mem_map.1 hu
  rfl

set_option maxRecDepth 100000 in
set_option maxHeartbeats 1000000 in
theorem concat_any (A b1 b2 c0 c1 c2 : Nat) (l : List ByteArray) (x : ByteArray) (w : World) (hl0 : 0 < l.length) (hl : l.length ≤ 800) (hA : A < w.heap.size) (h1 : b1 < w.heap.size) (h2 : b2 < w.heap.size)
    (hr0 : w.cell? ⟨A, 0, none⟩ = some (.slice (some ⟨b1, 0, none⟩) l.length c1)) (hr1 : w.cell? ⟨A, 1, none⟩ = some (.slice (some ⟨b2, 0, none⟩) 1 c2)) (hs1 : StrRow w b1 0 l) (hs2 : StrRow w b2 0 [x]) :
    Calls Tryd.prog 55 #[.slice (some ⟨A, 0, none⟩) 2 c0] w fun e w' => ∃ g cap, e = .returned (.slice (some ⟨g, 0, none⟩) (l.length + 1) cap) ∧ w'.ownsRow w.heap.size 9 1 (.slice (some ⟨g, 0, none⟩) (l.length + 1) cap) (l.length + 1) (scells (l ++ [x])) ∧ Below w.heap.size w w' := by
  have hgr := fun w => grow_any (l.length + 1) (by omega) (by omega) w
  obtain ⟨i0, hi, hzr, hsz, hby⟩ := info_parts info9'
  obtain ⟨n, hn⟩ : ∃ n, l.length = n := ⟨_, rfl⟩
  have hm9 : (900 : Nat) ≤ maxLen := by unfold maxLen; omega
  rw [hn] at hl0 hl hr0 hgr ⊢
  replace hgr : ∀ w, Calls Tryd.prog 63 #[.slice none 0 0, .int .i64 ((n : Int) + 1)] w fun e w' => ∃ g cap, e = .returned (.slice (some ⟨g, 0, none⟩) 0 cap) ∧ w'.ownsRow w.heap.size 9 1 (.slice (some ⟨g, 0, none⟩) 0 cap) 0 [] ∧ Below w.heap.size w w' := hgr
  have HN := Lib.hid hn
  have HM := Lib.hid hm9
  clear hn hm9
  go_enter Tryd.func55, Tryd.ntmps55
  go_wp2
  go_loopw [3, 5, 11] (fun z _ i wr => wr = w ∧ ((i = .int .i64 0 ∧ z = .int .i64 0) ∨ (i = .int .i64 1 ∧ z = .int .i64 (n : Int)) ∨ (i = .int .i64 2 ∧ z = .int .i64 ((n : Int) + 1)))) (fun _ _ i _ => 2 - (intOf i).toNat)
  case atStart => exact ⟨rfl, .inl ⟨rfl, rfl⟩⟩
  case round =>
    obtain ⟨hwr, hrel⟩ := hrel
    subst hwr
    rename World => w
    rcases hrel with ⟨rfl, rfl⟩ | ⟨rfl, rfl⟩ | ⟨rfl, rfl⟩
    · go_wp2
      go_roundw
      case rel => exact ⟨trivial, .inr (.inl ⟨rfl, rfl⟩)⟩
      case measure => simp [intOf]
    · go_wp2
      go_roundw
      case rel => exact ⟨trivial, .inr (.inr ⟨rfl, rfl⟩)⟩
      case measure => simp [intOf]
    · go_wp2_with (go_at_call 63; (with_reducible refine (hgr _).mono ?_); rintro e w1 ⟨g, cap, rfl, hown, hb⟩)
      have q0 := cell_later hb hr0
      have q1 := cell_later hb hr1
      have HS1 := Lib.hid (hs1.below hb h1)
      have HS2 := Lib.hid (hs2.below hb h2)
      have HO := Lib.hid hown
      clear hown hs1 hs2 hr0 hr1 hgr
      go_loopw [6, 8, 27] (fun v _ i wr => Below w.heap.size w wr ∧ wr.cell? ⟨A, 0, none⟩ = some (.slice (some ⟨b1, 0, none⟩) n c1) ∧ wr.cell? ⟨A, 1, none⟩ = some (.slice (some ⟨b2, 0, none⟩) 1 c2) ∧ Hid (StrRow wr b1 0 l) ∧ Hid (StrRow wr b2 0 [x]) ∧
          ((i = .int .i64 0 ∧ Hid (wr.ownsRow w.heap.size 9 1 v 0 [])) ∨ (i = .int .i64 1 ∧ Hid (wr.ownsRow w.heap.size 9 1 v n (scells l))) ∨ (i = .int .i64 2 ∧ Hid (wr.ownsRow w.heap.size 9 1 v (n + 1) (scells (l ++ [x])))))) (fun _ _ i _ => 2 - (intOf i).toNat)
      case atStart => exact ⟨hb, q0, q1, HS1, HS2, .inl ⟨rfl, HO⟩⟩
      case round =>
        obtain ⟨hb, q0, q1, HS1, HS2, hrel⟩ := hrel
        have hle := hb.size
        rcases hrel with ⟨rfl, HO⟩ | ⟨rfl, HO⟩ | ⟨rfl, HO⟩
        · go_wp2_with (at_builtin; refine wpList_append_own _ rfl _ _ 26 rfl w.heap.size 9 i0 (.string ⟨#[]⟩) 1 16 Tryd.underlying26 hi hzr hsz hby rfl (by decide) _ _ _ rfl HO.out ⟨b1, 0, none⟩ n c1 (scells l) rfl ?c1 HS1.out.news (scells_one l) ?c2 ?c3 ?c4 ?_)
          case c1 => simp [scells, HN.out]
          case c2 => exact Nat.le_trans (by omega) HM.out
          case c3 => omega
          case c4 => exact hle
          · intro v' w1 hown' hgrow _
            have hB1 : Below w.heap.size w w1 := hb.grown hgrow hle fun k e => ((HO.out.lt) k e).1
            have q0' : w1.cell? ⟨A, 0, none⟩ = some (.slice (some ⟨b1, 0, none⟩) n c1) := hgrow.cell q0 (fun e => by have := (HO.out.lt A e.symm).1; omega)
            have q1' : w1.cell? ⟨A, 1, none⟩ = some (.slice (some ⟨b2, 0, none⟩) 1 c2) := hgrow.cell q1 (fun e => by have := (HO.out.lt A e.symm).1; omega)
            have HS1' := Lib.hid (show StrRow w1 b1 0 l from fun j y hj => hgrow.cell (HS1.out j y hj) (fun e => by have := (HO.out.lt b1 e.symm).1; omega))
            have HS2' := Lib.hid (show StrRow w1 b2 0 [x] from fun j y hj => hgrow.cell (HS2.out j y hj) (fun e => by have := (HO.out.lt b2 e.symm).1; omega))
            have HO' := Lib.hid hown'
            clear hown' hgrow q0 q1 HS1 HS2 HO hb
            go_wp2
            go_roundw
            case rel => exact ⟨hB1, q0', q1', HS1', HS2', .inr (.inl ⟨rfl, HO'⟩)⟩
            case measure => simp [intOf]
        · go_wp2_with (at_builtin; refine wpList_append_own _ rfl _ _ 26 rfl w.heap.size 9 i0 (.string ⟨#[]⟩) 1 16 Tryd.underlying26 hi hzr hsz hby rfl (by decide) _ _ _ rfl HO.out ⟨b2, 0, none⟩ 1 c2 (scells [x]) rfl ?d1 HS2.out.news (scells_one [x]) ?d2 ?d3 ?d4 ?_)
          case d1 => rfl
          case d2 => exact Nat.le_trans (by omega) HM.out
          case d3 => omega
          case d4 => exact hle
          · intro v' w1 hown' hgrow _
            have hB1 : Below w.heap.size w w1 := hb.grown hgrow hle fun k e => ((HO.out.lt) k e).1
            have q0' : w1.cell? ⟨A, 0, none⟩ = some (.slice (some ⟨b1, 0, none⟩) n c1) := hgrow.cell q0 (fun e => by have := (HO.out.lt A e.symm).1; omega)
            have q1' : w1.cell? ⟨A, 1, none⟩ = some (.slice (some ⟨b2, 0, none⟩) 1 c2) := hgrow.cell q1 (fun e => by have := (HO.out.lt A e.symm).1; omega)
            have HS1' := Lib.hid (show StrRow w1 b1 0 l from fun j y hj => hgrow.cell (HS1.out j y hj) (fun e => by have := (HO.out.lt b1 e.symm).1; omega))
            have HS2' := Lib.hid (show StrRow w1 b2 0 [x] from fun j y hj => hgrow.cell (HS2.out j y hj) (fun e => by have := (HO.out.lt b2 e.symm).1; omega))
            have HO' := Lib.hid hown'
            clear hown' hgrow q0 q1 HS1 HS2 HO hb
            go_wp2
            go_roundw
            case rel => exact ⟨hB1, q0', q1', HS1', HS2', .inr (.inr ⟨rfl, Lib.hid (by have := HO'.out; rwa [show scells l ++ scells [x] = scells (l ++ [x]) by simp [scells]] at this)⟩)⟩
            case measure => simp [intOf]
        · obtain ⟨g', cap', rfl⟩ := ownsRow_succ HO.out
          go_wp2
          go_ret
          exact ⟨_, _, rfl, HO.out, hb⟩
end Go.Proofs.YtdjdoepnljdlcaaDoor
