/- The walk of the iterator that package digest's blocks makes. -/
import Derived.Test.YtdjdoepnljdlcaaDoorRg
import Derived.Test.YtdjdoepnljdlcaaDoorGr
import Derived.OwnWalkIn
import Derived.TacticsInMore
import Derived.LoopNIn
import Derived.LoopIn
import Derived.Maps.OwnIn
import Derived.Scope
import Derived.WalkMore
import Derived.ControlIn
namespace Go.Proofs.YtdjdoepnljdlcaaDoor
open Go.RowKit
attribute [local go_sem] Oper.semAt_some

/-- a block of 64 bytes of which the first ones are filled -/
def Blk (w : World) (B : Nat) (l : List UInt8) : Prop := ∀ j, j < 64 → (w.cell? ⟨B, j, none⟩).isSome = true ∧ w.frozen? ⟨B, j, none⟩ = false ∧ ∀ x, l[j]? = some x → w.cell? ⟨B, j, none⟩ = some (.int .u8 (x.toNat : Int))
/-- bytes laid into a block -/
def putBytes (w : World) (B f : Nat) (l : List UInt8) : World := w.setCells B f (l.map fun x => Value.int .u8 (x.toNat : Int))
theorem putBytes_blk {w : World} {B : Nat} {cur t : List UInt8} (h : Blk w B cur) (ht : cur.length + t.length ≤ 64) : Blk (putBytes w B cur.length t) B (cur ++ t) := by
  have hth : w.there B cur.length t.length := fun j hj => ⟨(h (cur.length + j) (by omega)).1, (h (cur.length + j) (by omega)).2.1⟩
  intro j hj
  refine ⟨World.isSome_setCells _ _ _ _ _ (h j hj).1, by rw [putBytes, World.frozen?_setCells]; exact (h j hj).2.1, fun x hx => ?_⟩
  by_cases hlt : j < cur.length
  · rw [List.getElem?_append_left hlt] at hx
    rw [putBytes, World.cell?_setCells_out _ _ _ _ _ (fun _ _ => .inl hlt)]
    exact (h j hj).2.2 x hx
  · rw [List.getElem?_append_right (by omega)] at hx
    have hl : j - cur.length < t.length := (List.getElem?_eq_some_iff.1 hx).1
    have hv := World.rangeAt_setCells_same w B cur.length (t.map fun x => Value.int .u8 (x.toNat : Int)) (by rw [List.length_map]; exact hth) (j - cur.length) (.int .u8 (x.toNat : Int)) (by rw [List.getElem?_map, hx]; rfl)
    rw [show cur.length + (j - cur.length) = j by omega] at hv
    exact hv
theorem putBytes_grown (w : World) (B f : Nat) (l : List UInt8) : w.grownBy (putBytes w B f l) (some B) := by
  unfold putBytes
  generalize (l.map fun x => Value.int .u8 (x.toNat : Int)) = vs
  induction vs generalizing w f with
  | nil => exact ⟨rfl, rfl, rfl, Nat.le_refl _, fun _ _ _ => rfl⟩
  | cons v vs ih => exact (grown_setCell w ⟨B, f, none⟩ v).trans (ih _ _)
theorem Blk.full {w : World} {B : Nat} {l : List UInt8} {b : Nat → UInt8} (h : Blk w B l) (hl : l.length = 64) (hb : ∀ j, j < 64 → b j = l.getD j 0) : BlockAt w B b := fun j hj => by
  rw [hb j hj, List.getD_eq_getElem?_getD, List.getElem?_eq_getElem (by omega)]
  exact (h j hj).2.2 _ (List.getElem?_eq_getElem (by omega))
theorem Blk.reset {w : World} {B : Nat} {l : List UInt8} (h : Blk w B l) : Blk w B [] := fun j hj => ⟨(h j hj).1, (h j hj).2.1, fun x hx => by cases hx⟩
theorem Blk.stay {w w' : World} {A L B : Nat} {l : List UInt8} (h : Blk w B l) (hs : Stay A L w w') (hB : B < w.heap.size) (hA : B ≠ A) (hL : B ≠ L) : Blk w' B l := fun j hj => by
  have e := hs.block B hB hA hL
  rw [World.cell?_of_block (a := ⟨B, j, none⟩) e, World.frozen?_of_block (a := ⟨B, j, none⟩) e]
  exact h j hj

theorem ba_len (s : ByteArray) : s.data.toList.length = s.size := by simp
theorem info5' : (Tryd.prog.info? 5).map (fun i => (i.zero, i.size, i.bytes)) = some (some (.int .u8 0), 1, 1) := by kernel_rfl
theorem run_copy_part (w : World) (ty B f dl cap m : Nat) (s : ByteArray) (hm : m = min s.size dl) (cur : List UInt8) (h : Blk w B cur) (hf : f = cur.length) (hfit : f + m ≤ 64) :
    (Builtin.copy_ #[43, 9] ty #[.slice (some ⟨B, f, none⟩) dl cap, .string s]).run Tryd.prog w = .ok (.int .i64 (m : Int)) (putBytes w B f (s.data.toList.take m)) := by
  have hz : ∀ w, (Go.sizeOf 5).run Tryd.prog w = .ok 1 w := fun w => by
    obtain ⟨i0, hi, _, hsz, _⟩ := info_parts info5'
    simp [sizeOf, typeInfo, hi, hsz]
  have hl : ((s.data.toList.take m).map fun x => Value.int .u8 (x.toNat : Int)).length = m := by rw [List.length_map, List.length_take, ba_len]; omega
  have hst := run_storeCells_cells (P := Tryd.prog) B f ((s.data.toList.take m).map fun x => Value.int .u8 (x.toNat : Int)) 0 w (fun j hj => by rw [hl] at hj; simpa using (h (f + j) (by omega)).1) (fun j hj => by rw [hl] at hj; simpa using (h (f + j) (by omega)).2.1) (by
    intro v hv
    obtain ⟨x, _, rfl⟩ := List.mem_map.1 hv
    rfl)
  have hmin : Nat.min s.size dl = m := hm.symm
  simp [Builtin.copy_, run_underlying Tryd.underlying43, Builtin.lenOf, Builtin.firstCells, hz, hmin]
  rw [← List.map_take, hst]
  rfl

theorem wpListIn_copy_part {F : Fence} {n : Nat} (w : World) {ops : Array Oper} {rest : List Oper} {o : Oper} {a : Act} {Q : Exit → Act → World → Prop}
    (hg : o.guard = none) (d x : Operand) (hop : o.op = Op.call { callee := Callee.builtin Builtin.copy, args := #[d, x], argTypes := #[43, 9] })
    (B f dl cap m : Nat) (s : ByteArray) (hd : a.eval d = .slice (some ⟨B, f, none⟩) dl cap) (hx : a.eval x = .string s) (hm : m = min s.size dl) (cur : List UInt8) (h : Blk w B cur) (hf : f = cur.length) (hfit : f + m ≤ 64)
    (hK : wpListIn F n Tryd.prog ops Q rest (a.put o.dst (.int .i64 (m : Int))) (putBytes w B f (s.data.toList.take m))) :
    wpListIn F n Tryd.prog ops Q (o :: rest) a w := by
  refine wpListIn_plain hg fun K hK' => ?_
  have hrun := run_copy_part w o.type B f dl cap m s hm cur h hf hfit
  unfold Oper.wpIn
  refine ⟨?_, ?_⟩
  · simp [Oper.about, hop, resolve, Target.leads, Sem.run_pure]
  · rw [Oper.semAt_plain F _ _ (by rw [hop]; intro c hc'; cases hc')]
    simp [execOp, hop, resolve, invoke, builtin, hd, hx, hrun, Result.andThen]
    exact hK' _ _ hK

/-- the bytes of strings, one after the other -/
def flat (l : List ByteArray) : List UInt8 := l.flatMap fun s => s.data.toList
theorem flat_drop (l : List ByteArray) (i : Nat) (h : i < l.length) : flat (l.drop i) = l[i].data.toList ++ flat (l.drop (i + 1)) := by
  rw [List.drop_eq_getElem_cons h, flat, List.flatMap_cons]; rfl
def strSize : Value → Nat | .string s => s.size | _ => 0
theorem ex_take (s : ByteArray) (m : Nat) : (s.extract m s.size).data.toList = s.data.toList.drop m := by
  rw [ByteArray.data_extract, Array.toList_extract]
  simp only [List.extract_eq_take_drop]
  rw [List.take_of_length_le (by rw [List.length_drop, ba_len]; omega)]
theorem StrRow.stay {w w' : World} {A L b : Nat} {l : List ByteArray} (h : StrRow w b 0 l) (hs : Stay A L w w') (hB : b < w.heap.size) (hA : b ≠ A) (hL : b ≠ L) : StrRow w' b 0 l := fun j x hj => by
  have e := hs.block b hB hA hL
  rw [World.cell?_of_block (a := ⟨b, 0 + j, none⟩) e]
  exact h j x hj

theorem zero64b : (#[.int .u8 0, .int .u8 0, .int .u8 0, .int .u8 0, .int .u8 0, .int .u8 0, .int .u8 0, .int .u8 0, .int .u8 0, .int .u8 0, .int .u8 0, .int .u8 0, .int .u8 0, .int .u8 0, .int .u8 0, .int .u8 0, .int .u8 0, .int .u8 0, .int .u8 0, .int .u8 0, .int .u8 0, .int .u8 0, .int .u8 0, .int .u8 0, .int .u8 0, .int .u8 0, .int .u8 0, .int .u8 0, .int .u8 0, .int .u8 0, .int .u8 0, .int .u8 0, .int .u8 0, .int .u8 0, .int .u8 0, .int .u8 0, .int .u8 0, .int .u8 0, .int .u8 0, .int .u8 0, .int .u8 0, .int .u8 0, .int .u8 0, .int .u8 0, .int .u8 0, .int .u8 0, .int .u8 0, .int .u8 0, .int .u8 0, .int .u8 0, .int .u8 0, .int .u8 0, .int .u8 0, .int .u8 0, .int .u8 0, .int .u8 0, .int .u8 0, .int .u8 0, .int .u8 0, .int .u8 0, .int .u8 0, .int .u8 0, .int .u8 0, .int .u8 0] : Array Value) = Array.replicate 64 (.int .u8 0) := by rfl
theorem blk_zero (W : World) : Blk (W.alloc (.cells (Array.replicate 64 (.int .u8 0)) 74)) W.heap.size [] := by
  intro j hj
  have h := World.alloc_heap_new W (.cells (Array.replicate 64 (.int .u8 0)) 74)
  refine ⟨?_, ?_, fun x hx => by cases hx⟩
  · rw [World.cell?, h]; simp [hj]
  · rw [World.frozen?, h]; simp
theorem getD_mid (a c r : List UInt8) (j : Nat) (hj : j < c.length) : (a ++ c ++ r).getD (a.length + j) 0 = c.getD j 0 := by
  rw [List.getD_eq_getElem?_getD, List.getD_eq_getElem?_getD, List.append_assoc, List.getElem?_append_right (by omega), Nat.add_sub_cancel_left, List.getElem?_append_left hj]
theorem putBytes_cell {w : World} {B f b o : Nat} {l : List UInt8} {v : Value} (h : w.cell? ⟨b, o, none⟩ = some v) (hb : b ≠ B) : (putBytes w B f l).cell? ⟨b, o, none⟩ = some v :=
  (putBytes_grown w B f l).cell h (by simpa using hb)
theorem wpIn_scope_wide {n : Nat} {P : Program} {c : Code} {Q : Exit → Act → World → Prop} {a : Act} {w : World} (h : c.wpIn Fence.wide n P (Exit.noGoto Q) a w) : (Code.scope c).wpIn Fence.wide n P Q a w :=
  wpIn_wide.2 (wp_scope_straight (wpIn_wide.1 h))

set_option maxRecDepth 100000 in
set_option maxHeartbeats 2000000 in
theorem blocks_hands (n : Nat) (hn1 : 1 ≤ n) (BX b c A : Nat) (parts : List ByteArray) (w : World) (hlen : parts.length ≤ 900) (hA : A < w.heap.size) (hAb : A ≠ b) (hBX : BX < w.heap.size) (hb : b < w.heap.size)
    (hbx : w.cell? ⟨BX, 0, none⟩ = some (.slice (some ⟨b, 0, none⟩) parts.length c)) (hs : StrRow w b 0 parts) (hsz : ∀ s ∈ parts, s.size ≤ 1099511627776) :
    Hands Fence.wide n Tryd.prog 62 #[.pointer (some ⟨BX, 0, none⟩)] A ((flat parts).length / 64) (fun k j => (flat parts).getD (64 * k + j) 0) w := by
  intro J l W hW hWs hl hJ hY h0
  have hbx' := (hW.cell (p := ⟨BX, 0, none⟩) hBX).trans hbx
  have hs' := hs.below hW hb
  obtain ⟨np, hnp⟩ : ∃ np, parts.length = np := ⟨_, rfl⟩
  rw [hnp] at hbx' hlen
  have HN := Lib.hid hnp
  have HS := Lib.hid hs'
  have HSZ := Lib.hid hsz
  clear hnp hs' hbx hs hsz
  refine callsIn_of_wp Tryd.func62 rfl trivial ?_ rfl
  simp only [Tryd.ntmps62, List.size_toArray, List.length_cons, List.length_nil, Nat.reduceAdd, Nat.reduceSub, Array.replicate_succ, Array.replicate_zero, List.push_toArray, List.append_toArray, List.nil_append, List.cons_append]
  gi_wp2
  refine wpIn_scope_wide ?_
  gi_wp2
  refine wpIn_label ?_
  rw [zero64b]
  have hz := blk_zero W
  have hbx'' := cell_kept hbx' (World.grownBy_alloc W (.cells (Array.replicate 64 (.int .u8 0)) 74) none) (fun r e => by cases e)
  have hJz := hJ 0 W _ none h0 (World.grownBy_alloc W (.cells (Array.replicate 64 (.int .u8 0)) 74) none) (fun r e => by cases e)
  have hSz := (show StrRow (W.alloc (.cells (Array.replicate 64 (.int .u8 0)) 74)) b 0 parts from fun j x hj => cell_kept (HS.out j x hj) (World.grownBy_alloc _ _ none) (fun r e => by cases e))
  have hsz1 : (W.alloc (.cells (Array.replicate 64 (.int .u8 0)) 74)).heap.size = w.heap.size + 3 := by simp; omega
  generalize W.alloc (.cells (Array.replicate 64 (.int .u8 0)) 74) = W1 at *
  rw [hWs] at hz hJ hY
  have HJ := Lib.hid hJ
  have HY := Lib.hid hY
  have HL := Lib.hid hl
  clear hJ hY hW hWs hl h0 hbx' HS
  gi_wp2
  gi_loopw [4, 6, 7, 10] (fun v4 _ _ v10 wr => ∃ (i k : Nat) (full cur : List UInt8), i ≤ np ∧ v10 = .int .i64 (i : Int) ∧ v4 = .int .i64 (cur.length : Int) ∧ cur.length < 64 ∧ full.length = 64 * k ∧ Hid (full ++ cur ++ flat (parts.drop i) = flat parts) ∧
      Hid (Blk wr (w.heap.size + 2) cur) ∧ Hid (J k wr) ∧ Hid (StrRow wr b 0 parts) ∧ w.heap.size + 3 ≤ wr.heap.size) (fun _ _ _ i _ => np - (intOf i).toNat)
  case atStart => exact ⟨0, 0, [], [], by omega, rfl, rfl, by decide, rfl, Lib.hid rfl, Lib.hid hz, Lib.hid hJz, Lib.hid hSz, by omega⟩
  case round =>
    clear hz hJz hSz
    obtain ⟨i, k, full, cur, hi, rfl, rfl, hc64, hfl, HE, HB, HK, HS, hge⟩ := hrel
    by_cases hlt : i < np
    · have hil : i < parts.length := by rw [HN.out]; exact hlt
      have hcell := HS.out i _ (List.getElem?_eq_getElem hil)
      rw [Nat.zero_add] at hcell
      have hss := HSZ.out _ (List.getElem_mem hil)
      replace HE := Lib.hid (show full ++ cur ++ (parts[i].data.toList ++ flat (parts.drop (i + 1))) = flat parts by rw [← flat_drop _ _ hil]; exact HE.out)
      obtain ⟨s, hs⟩ : ∃ s, parts[i] = s := ⟨_, rfl⟩
      rw [hs] at hcell hss HE
      clear hs hil
      gi_wp2
      gi_loopw [4, 6, 7] (fun v4 v6 _ wr => ∃ (k : Nat) (full cur : List UInt8) (s : ByteArray), v6 = .string s ∧ s.size ≤ 1099511627776 ∧ v4 = .int .i64 (cur.length : Int) ∧ cur.length < 64 ∧ full.length = 64 * k ∧ Hid (full ++ cur ++ (s.data.toList ++ flat (parts.drop (i + 1))) = flat parts) ∧
          Hid (Blk wr (w.heap.size + 2) cur) ∧ Hid (J k wr) ∧ Hid (StrRow wr b 0 parts) ∧ w.heap.size + 3 ≤ wr.heap.size) (fun _ v6 _ _ => strSize v6)
      case atStart => exact ⟨k, full, cur, s, rfl, hss, rfl, hc64, hfl, HE, HB, HK, HS, hge⟩
      case round =>
        clear hcell hss hc64 hfl HE HB HK HS hge
        obtain ⟨k, full, cur, s, rfl, hss, rfl, hc64, hfl, HE, HB, HK, HS, hge⟩ := hrel
        obtain ⟨f, hf⟩ : ∃ f, cur.length = f := ⟨_, rfl⟩
        rw [hf] at hc64 ⊢
        have f0 : (0 : Int) ≤ (f : Int) := by omega
        have f1 : (f : Int) ≤ 64 := by omega
        have HF := Lib.hid hf
        clear hf
        have hpb : ∀ m, m ≤ s.size → f + m ≤ 64 → Blk (putBytes wr (w.heap.size + 2) f (s.data.toList.take m)) (w.heap.size + 2) (cur ++ s.data.toList.take m) := fun m hm hm2 => by
          rw [← HF.out]
          exact putBytes_blk HB.out (by rw [HF.out, List.length_take, ba_len]; omega)
        have hpJ : ∀ m, J k (putBytes wr (w.heap.size + 2) f (s.data.toList.take m)) := fun m => HJ.out k wr _ (some (w.heap.size + 2)) HK.out (putBytes_grown _ _ _ _) (fun r e => by cases e; omega)
        have hpS : ∀ m, StrRow (putBytes wr (w.heap.size + 2) f (s.data.toList.take m)) b 0 parts := fun m j x hj => putBytes_cell (HS.out j x hj) (by omega)
        have hpZ : ∀ m, w.heap.size + 3 ≤ (putBytes wr (w.heap.size + 2) f (s.data.toList.take m)).heap.size := fun m => Nat.le_trans hge (putBytes_grown _ _ _ _).size
        by_cases hsm : f + s.size < 64
        · have m0 : (s.size : Int) ≤ (s.size : Int) := by omega
          have p0 := hpb s.size (Nat.le_refl _) (by omega)
          have p1 := hpJ s.size
          have p2 := hpS s.size
          have p3 := hpZ s.size
          have ht : s.data.toList.take s.size = s.data.toList := List.take_of_length_le (by rw [ba_len]; exact Nat.le_refl _)
          clear hpb hpJ hpS hpZ
          have P0 := Lib.hid p0
          have P1 := Lib.hid p1
          have P2 := Lib.hid p2
          have HT := Lib.hid ht
          clear p0 p1 p2 ht
          gi_wp2_with (refine wpListIn_copy_part _ rfl (.tmp 15) (.tmp 16) rfl (w.heap.size + 2) f (64 - f) (64 - f) s.size s rfl rfl ?c1 cur HB.out HF.out.symm ?c2 ?_)
          case c1 => omega
          case c2 => omega
          go_roundw
          case rel =>
            refine ⟨i + 1, k, full, cur ++ s.data.toList.take s.size, by omega, by go_num, ?_, ?_, hfl, Lib.hid ?_, P0, P1, P2, p3⟩
            · rw [List.length_append, HT.out, ba_len, HF.out]; go_num
            · rw [List.length_append, HT.out, ba_len, HF.out]; exact hsm
            · rw [HT.out, ← HE.out]; simp only [List.append_assoc]
          case measure => simp [intOf]; omega
        · have p0 := hpb (64 - f) (by omega) (by omega)
          have p1 := hpJ (64 - f)
          have p2 := hpS (64 - f)
          have p3 := hpZ (64 - f)
          have hlen' : (cur ++ s.data.toList.take (64 - f)).length = 64 := by rw [List.length_append, List.length_take, ba_len, HF.out]; omega
          have hall : full ++ (cur ++ s.data.toList.take (64 - f)) ++ (s.data.toList.drop (64 - f) ++ flat (parts.drop (i + 1))) = flat parts := by
            rw [← HE.out]
            simp only [List.append_assoc]
            rw [← List.append_assoc (s.data.toList.take _), List.take_append_drop]
          have hlt2 : k < (flat parts).length / 64 := by
            rw [← hall]
            simp only [List.length_append] at hlen' ⊢
            omega
          have hblk : BlockAt (putBytes wr (w.heap.size + 2) f (s.data.toList.take (64 - f))) (w.heap.size + 2) (fun j => (flat parts).getD (64 * k + j) 0) := p0.full hlen' fun j hj => by
            rw [← hall, ← hfl]
            exact getD_mid _ _ _ j (by omega)
          obtain ⟨fn, tmps, asg, body, hy, hR⟩ := HY.out k _ (w.heap.size + 2) p1 hlt2 (Nat.le_refl _) (by omega) hblk
          rw [HL.out] at hy hR
          clear hpb hpJ hpS hpZ hblk hlt2
          have P0 := Lib.hid p0
          have P1 := Lib.hid p1
          have P2 := Lib.hid p2
          have HAll := Lib.hid hall
          have HLn := Lib.hid hlen'
          clear p0 p1 p2 hall hlen'
          have d1 : ¬ ((f : Int) + ((64 - f : Nat) : Int) < 64) := by omega
          have hxz : (s.extract (64 - f) s.size).size = s.size - (64 - f) := by rw [ByteArray.size_extract]; omega
          gi_wp2_with (refine wpListIn_copy_part _ rfl (.tmp 15) (.tmp 16) rfl (w.heap.size + 2) f (64 - f) (64 - f) (64 - f) s rfl rfl ?c1 cur HB.out HF.out.symm ?c2 ?_)
          case c1 => omega
          case c2 => omega
          refine hR.mono ?_
          rintro e W3 ⟨rfl, hj3, hst⟩
          have hB3 := P0.out.stay hst (by omega) (by omega) (by omega)
          have hS3 := P2.out.stay hst (by omega) (Ne.symm hAb) (by omega)
          have hZ3 := hst.size
          have Q0 := Lib.hid hB3.reset
          have Q1 := Lib.hid hj3
          have Q2 := Lib.hid hS3
          clear hB3 hj3 hS3 hst
          gi_wp2
          go_roundw
          case rel =>
            refine ⟨k + 1, full ++ (cur ++ s.data.toList.take (64 - f)), [], s.extract (64 - f) s.size, rfl, by omega, rfl, by decide, ?_, Lib.hid ?_, Q0, Q1, Q2, by omega⟩
            · rw [List.length_append, HLn.out, hfl]; omega
            · rw [ex_take, ← HAll.out, List.append_nil]
          case measure => simp only [strSize]; omega
    · obtain rfl : i = np := by omega
      have hk : (flat parts).length / 64 = k := by
        have h := congrArg List.length HE.out
        rw [← HN.out, List.drop_length] at h
        simp only [List.length_append, flat, List.flatMap_nil, List.length_nil] at h
        simp only [flat]
        omega
      have HKK := Lib.hid hk
      clear hk
      gi_wp2
      rw [Exit.noGoto_normal]
      go_end0
      exact ⟨⟨_, rfl⟩, by rw [HKK.out]; exact HK.out⟩
end Go.Proofs.YtdjdoepnljdlcaaDoor
