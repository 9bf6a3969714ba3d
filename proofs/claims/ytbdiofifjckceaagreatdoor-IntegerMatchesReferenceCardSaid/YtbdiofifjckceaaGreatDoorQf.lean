/- The reference's Made: a valid integer out of a string. -/
import Derived.Test.YtbdiofifjckceaaGreatDoorQe
namespace Go.Proofs.YtbdiofifjckceaaGreatDoor
open Go.RowKit

/-- the digits that Made reads -/
def mdg (s : ByteArray) (k : Nat) : List Int := (s.data.toList.take k).map fun c => (c.toNat : Int) % 10
theorem mdg_len (s : ByteArray) (k : Nat) (h : k ≤ s.size) : (mdg s k).length = k := by
  have h2 : s.data.toList.length = s.size := rfl
  rw [mdg, List.length_map, List.length_take, h2]; omega
theorem mdg_dig (s : ByteArray) (k : Nat) : DigX (mdg s k) := by
  intro x hx
  obtain ⟨c, _, rfl⟩ := List.mem_map.1 hx
  omega
theorem mdg_snoc (s : ByteArray) (k : Nat) (h : k < s.size) : mdg s (k + 1) = mdg s k ++ [(s[k].toNat : Int) % 10] := by
  have h2 : k < s.data.toList.length := h
  rw [mdg, List.take_succ_eq_append_getElem h2, List.map_append]
  rfl
theorem DigX.trz {l : List Int} (h : DigX l) : ∃ n : Nat, trz l = grpX n ∧ n < 10 ^ l.length := by
  have h1 := vlX_nonneg h
  have h2 := vlX_lt h
  refine ⟨(vlX l).toNat, trzX_grp h, ?_⟩
  have : ((10 ^ l.length : Nat) : Int) = 10 ^ l.length := by simp
  omega
/-- what Made's text is -/
theorem made_text (neg : Bool) (n : Nat) (h : n ≠ 0) : (if neg then [45] else []) ++ lts (grpX n) = txt (if neg then -(n : Int) else n) := by
  cases neg
  · simp only [Bool.false_eq_true, if_false, List.nil_append]
    rw [txt, if_neg (by omega), Int.natAbs_natCast, txN, if_neg h]
  · simp only [if_true]
    rw [txt, if_pos (by omega), Int.natAbs_neg, Int.natAbs_natCast, txN, if_neg h]
    rfl
def mz (neg : Bool) (n : Nat) : Int := if neg then -(n : Int) else n
theorem one_newJ (W : World) (x : Int) : ∀ j u, [Value.int .i64 x][j]? = some u → (W.alloc (.cells #[.int .i64 x] 3)).cell? ((⟨W.heap.size, 0, none⟩ : Addr).add j) = some u := one_newI W x
theorem own_ints {w : World} {base n : Nat} {v : Value} {l : List Int} (h : w.ownsRow base 3 1 v n (ints l)) (hn : 0 < n) : ∃ g cap, v = .slice (some ⟨g, 0, none⟩) n cap ∧ base ≤ g ∧ ABlk w g l ∧ n ≤ cap ∧ cap ≤ 9223372036854775807 := by
  rcases h.2 with ⟨_, h'⟩ | ⟨g, cap, cur, rfl, hb, _⟩
  · omega
  · have := own_blk h
    exact ⟨g, cap, rfl, hb, this.1, this.2.2.1, this.2.2.2.1⟩

theorem rtrim_zero (a : Option Addr) (c : Nat) (w : World) :
    Calls Tryz.prog 29 #[.slice a 0 c] w fun e w' => e = .returned (.slice a 0 c) ∧ ∃ q, w' = w.drewN q := by
  go_enter Tryz.func29, Tryz.ntmps29
  go_wp2
  go_loopw [0] (fun v wr => v = .slice a 0 c ∧ Hid (∃ q, wr = w.drewN q)) (fun _ _ => 0)
  case atStart => exact ⟨rfl, Lib.hid ⟨0, rfl⟩⟩
  case round =>
    obtain ⟨rfl, HW⟩ := hrel
    go_wp2
    go_ret
    exact ⟨rfl, HW.out⟩

set_option maxRecDepth 100000 in
set_option maxHeartbeats 1000000 in
/-- behind the reading of the digits: the trimmed digits in writing -/
theorem Made_any (s : ByteArray) (most : Nat) (w : World) (h9 : most ≤ 200) (h0 : 0 < most) (hs : s.size ≤ 9223372036854775807) :
    Calls Tryz.prog 7 #[.string s, .int .i64 (most : Int)] w fun e w' => ∃ z : Int, e = .returned (.string ⟨(txt z).toArray⟩) ∧ z.natAbs < 10 ^ most ∧ Below w.heap.size w w' := by
  obtain ⟨i0, hi, hz0, hz1, hz2⟩ := info_parts info_int
  have HZ2 := Lib.hid hz2
  clear hz2
  go_enter Tryz.func7, Tryz.ntmps7
  go_wp2
  go_loopw [5, 6] (fun lv iv wr => ∃ (k : Nat) (ad : Option Addr) (cp : Nat), k ≤ s.size ∧ k ≤ most ∧ lv = .slice ad k cp ∧ iv = .int .i64 (k : Int) ∧ Hid (wr.ownsRow w.heap.size 3 1 lv k (ints (mdg s k))) ∧ Below w.heap.size w wr) (fun _ i _ => most - (intOf i).toNat)
  case atStart => exact ⟨0, _, _, Nat.zero_le _, Nat.zero_le _, rfl, rfl, Lib.hid ⟨rfl, .inl ⟨rfl, rfl⟩⟩, Below.refl _ _⟩
  case round =>
    obtain ⟨k, ad, cp, hks, hkm, rfl, rfl, hO, hB⟩ := hrel
    by_cases hmore : k < s.size ∧ k < most
    · obtain ⟨q1, q2⟩ := hmore
      have hsn := mdg_snoc s k q1
      obtain ⟨c, hc⟩ : ∃ c : Nat, c = s[k].toNat := ⟨_, rfl⟩
      have hc9 : c < 256 := by rw [hc]; exact s[k].toNat_lt
      have hcs : ∀ h : k < s.size, (s[k]'h).toNat = c := fun h => hc.symm
      have hg1 : decide ((k : Int) < (s.size : Int)) = true := by rw [decide_eq_true_eq]; omega
      have hg2 : decide ((k : Int) < (most : Int)) = true := by rw [decide_eq_true_eq]; omega
      rw [← hc] at hsn
      have HO := Lib.hid (hO.out.alloc (.cells #[.int .i64 ((c : Int) % 10)] 3))
      have HO3 := Lib.hid (show ∀ (w3 : World) (v3 : Value), w3.ownsRow w.heap.size 3 1 v3 (k + 1) (ints (mdg s k) ++ [.int .i64 ((c : Int) % 10)]) → w3.ownsRow w.heap.size 3 1 v3 (k + 1) (ints (mdg s (k + 1))) from fun w3 v3 h => by rw [hsn]; simpa [ints] using h)
      have HBA := Lib.hid (hB.alloc hB.size (.cells #[.int .i64 ((c : Int) % 10)] 3))
      have HOB := Lib.hid (show ∀ q, (Value.slice ad k cp).ownBlock = some q → w.heap.size ≤ q from fun q hq => own_block hO.out hq)
      have ew : IntKind.i64.wrap (c : Int) = (c : Int) := by simp [IntKind.wrap, IntKind.bits, IntKind.signed]; omega
      clear hsn hc hO hB
      go_wp2_with (at_builtin; go_loud (refine wpList_append_lies _ rfl (.tmp 20) (.tmp 26) 40 rfl w.heap.size 3 i0 (.int .i64 0) 1 8 Tryz.underlying40 hi hz0 hz1 HZ2.out rfl (by decide) (.slice ad k cp) k _ rfl HO.out ⟨wr.heap.size, 0, none⟩ 1 1 [.int .i64 ((c : Int) % 10)] rfl rfl (one_newJ wr _) (by intro u hu; simp at hu; subst hu; rfl) (by decide) (by unfold maxLen; omega) (by omega) HBA.out.size _ rfl ?_; intro g2 cap2 w3 hown3 hgrow _ _; have HOW := Lib.hid (HO3.out w3 _ hown3); have HB3 := Lib.hid (HBA.out.grown hgrow HBA.out.size (fun q hq => HOB.out q hq)); clear hown3 hgrow))
      exact ⟨⟨k + 1, _, _, by omega, by omega, rfl, by go_num, HOW, HB3.out⟩, by simp [intOf]; omega⟩
    · have HX := Lib.hid (show s.size = 0 ∧ k = 0 ∨ 0 < s.size ∧ 0 < k from by omega)
      have hex : Hid (¬ k < s.size ∧ decide ((k : Int) < (s.size : Int)) = false) ∨ Hid (k < s.size ∧ ¬ k < most ∧ decide ((k : Int) < (s.size : Int)) = true ∧ decide ((k : Int) < (most : Int)) = false) := by
        by_cases h : k < s.size
        · exact .inr (Lib.hid ⟨h, by omega, by rw [decide_eq_true_eq]; omega, by rw [decide_eq_false_iff_not]; omega⟩)
        · exact .inl (Lib.hid ⟨h, by rw [decide_eq_false_iff_not]; omega⟩)
      have hml := mdg_len s k hks
      have hmd := mdg_dig s k
      have HK := Lib.hid hkm
      generalize mdg s k = l at *
      clear hmore
      rcases HX.out with ⟨hz, hk0⟩ | ⟨hz, hk0⟩
      · subst hk0
        have hg0 : decide (0 < (s.size : Int)) = false := by rw [decide_eq_false_iff_not]; omega
        have HP := Lib.hid (Nat.pow_pos (n := most) (show 0 < 10 by decide))
        clear HX hO hml hmd
        rcases hex with hex | hex
        · obtain ⟨hx0, hx1⟩ := hex.out
          clear hex
          go_wp2_with fail
          refine wp_region_noPanic ?_
          refine wp_region_held_drew (S := fun _ => True) (by kernel_rfl) ?_ (fun hHeld => ?_)
          · exact trivial
          refine wpAnyH_take (i := 0) (oi := ({ dst := some 29, op := Go.Op.move (Go.Operand.tmp 0), type := 9, pos := "ref.go:311", after := #[], guard := none } : Oper)) (v := ?v0_1e) rfl (by kernel_rfl) (by kernel_rfl) (by kernel_rfl) (fun _ _ _ h => h) (Or.inl ⟨by rfl, ?hy0_1e⟩) (by assumption) ?re0_1e
          case hy0_1e => ((intro w hSw; go_simp) <;> with_reducible rfl)
          (try simp only [Act.put, List.setIfInBounds_toArray, List.set_cons_zero, List.set_cons_succ])
          refine wpAnyH_take (i := 1) (oi := ({ dst := some 30, op := Go.Op.call { callee := Go.Callee.builtin Go.Builtin.len, args := #[Go.Operand.tmp 29], argTypes := #[9] }, type := 3, pos := "ref.go:311", after := #[{ on := 0, ground := Go.Ground.data }], guard := none } : Oper)) (v := ?v1_2e) rfl (by kernel_rfl) (by kernel_rfl) (by kernel_rfl) (fun _ _ _ h => h) (Or.inl ⟨by rfl, ?hy1_2e⟩) (by assumption) ?re1_2e
          case hy1_2e => ((intro w hSw; go_simp) <;> with_reducible rfl)
          (try simp only [Act.put, List.setIfInBounds_toArray, List.set_cons_zero, List.set_cons_succ])
          refine wpAnyH_take (i := 2) (oi := ({ dst := some 31, op := Go.Op.binOp Go.BinOp.gtr 3 (Go.Operand.tmp 30) (Go.Operand.const (Go.Value.int Go.IntKind.i64 0)) 3, type := 4, pos := "ref.go:311", after := #[{ on := 1, ground := Go.Ground.data }], guard := none } : Oper)) (v := ?v2_3e) rfl (by kernel_rfl) (by kernel_rfl) (by kernel_rfl) (fun _ _ _ h => h) (Or.inl ⟨by rfl, ?hy2_3e⟩) (by assumption) ?re2_3e
          case hy2_3e => ((intro w hSw; go_simp) <;> with_reducible rfl)
          (try simp only [Act.put, List.setIfInBounds_toArray, List.set_cons_zero, List.set_cons_succ])
          refine wpAnyH_take (i := 3) (oi := ({ dst := some 32, op := Go.Op.move (Go.Operand.tmp 31), type := 4, pos := "ref.go:311", after := #[{ on := 2, ground := Go.Ground.data }], guard := none } : Oper)) (v := ?v3_4e) rfl (by kernel_rfl) (by kernel_rfl) (by kernel_rfl) (fun _ _ _ h => h) (Or.inl ⟨by rfl, ?hy3_4e⟩) (by assumption) ?re3_4e
          case hy3_4e => ((intro w hSw; go_simp) <;> with_reducible rfl)
          (try simp only [Act.put, List.setIfInBounds_toArray, List.set_cons_zero, List.set_cons_succ])
          refine wpAnyH_take (i := 4) (oi := ({ dst := some 33, op := Go.Op.move (Go.Operand.tmp 0), type := 9, pos := "ref.go:311", after := #[{ on := 3, ground := Go.Ground.guard }], guard := some (3, true) } : Oper)) (v := undef) rfl (by kernel_rfl) (by kernel_rfl) (by kernel_rfl) (fun _ _ _ h => h) (Or.inr ⟨by rfl, rfl⟩) (by assumption) ?re4e
          (try simp only [Act.put, List.setIfInBounds_toArray, List.set_cons_zero, List.set_cons_succ])
          refine wpAnyH_take (i := 5) (oi := ({ dst := some 34, op := Go.Op.index 9 (Go.Operand.tmp 33) (Go.Operand.const (Go.Value.int Go.IntKind.i64 0)), type := 5, pos := "ref.go:311", after := #[{ on := 4, ground := Go.Ground.data }, { on := 3, ground := Go.Ground.guard }], guard := some (3, true) } : Oper)) (v := undef) rfl (by kernel_rfl) (by kernel_rfl) (by kernel_rfl) (fun _ _ _ h => h) (Or.inr ⟨by rfl, rfl⟩) (by assumption) ?re5e
          (try simp only [Act.put, List.setIfInBounds_toArray, List.set_cons_zero, List.set_cons_succ])
          refine wpAnyH_take (i := 6) (oi := ({ dst := some 35, op := Go.Op.binOp Go.BinOp.geq 5 (Go.Operand.tmp 34) (Go.Operand.const (Go.Value.int Go.IntKind.u8 128)) 5, type := 4, pos := "ref.go:311", after := #[{ on := 5, ground := Go.Ground.data }, { on := 3, ground := Go.Ground.guard }], guard := some (3, true) } : Oper)) (v := undef) rfl (by kernel_rfl) (by kernel_rfl) (by kernel_rfl) (fun _ _ _ h => h) (Or.inr ⟨by rfl, rfl⟩) (by assumption) ?re6e
          (try simp only [Act.put, List.setIfInBounds_toArray, List.set_cons_zero, List.set_cons_succ])
          refine wpAnyH_take (i := 7) (oi := ({ dst := some 36, op := Go.Op.pick (Go.Operand.tmp 32) (Go.Operand.tmp 35) (Go.Operand.const (Go.Value.bool false)), type := 4, pos := "ref.go:311", after := #[{ on := 3, ground := Go.Ground.data }, { on := 6, ground := Go.Ground.data }], guard := none } : Oper)) (v := ?v7_5e) rfl (by kernel_rfl) (by kernel_rfl) (by kernel_rfl) (fun _ _ _ h => h) (Or.inl ⟨by rfl, ?hy7_5e⟩) (by assumption) ?re7_5e
          case hy7_5e => ((intro w hSw; go_simp) <;> with_reducible rfl)
          (try simp only [Act.put, List.setIfInBounds_toArray, List.set_cons_zero, List.set_cons_succ])
          refine wpAnyH_take (i := 8) (oi := ({ dst := some 37, op := Go.Op.move (Go.Operand.tmp 5), type := 40, pos := "ref.go:311", after := #[], guard := none } : Oper)) (v := ?v8_6e) rfl (by kernel_rfl) (by kernel_rfl) (by kernel_rfl) (fun _ _ _ h => h) (Or.inl ⟨by rfl, ?hy8_6e⟩) (by assumption) ?re8_6e
          case hy8_6e => ((intro w hSw; go_simp) <;> with_reducible rfl)
          (try simp only [Act.put, List.setIfInBounds_toArray, List.set_cons_zero, List.set_cons_succ])
          refine wpAnyH_ready (rs := [9]) (by kernel_rfl) (by simp) ?_
          refine AllReadyH.cons (o := ({ dst := some 38, op := Go.Op.call { callee := Go.Callee.value (Go.Operand.func 29), args := #[Go.Operand.tmp 37], argTypes := #[40] }, type := 40, pos := "ref.go:311", after := #[{ on := 8, ground := Go.Ground.data }, { on := 3, ground := Go.Ground.chain }], guard := none } : Oper)) rfl (fun K hK => ?_) ?_
          · go_simp
            go_at_call 29
            refine (rtrim_zero _ _ _).mono ?_
            rintro e w1 ⟨rfl, q, rfl⟩
            (try go_wp2_with fail)
            refine hK.out _ _ ?_ (fun hHeld => ?_)
            · exact trivial
            clear hK K
            (try simp only [Act.put, List.setIfInBounds_toArray, List.set_cons_zero, List.set_cons_succ])
            refine wpAnyH_ready (rs := [10]) (by kernel_rfl) (by simp) ?_
            refine AllReadyH.cons (o := ({ dst := some 39, op := Go.Op.call { callee := Go.Callee.value (Go.Operand.func 28), args := #[Go.Operand.tmp 36, Go.Operand.tmp 38], argTypes := #[4, 40] }, type := 41, pos := "ref.go:311", after := #[{ on := 7, ground := Go.Ground.data }, { on := 9, ground := Go.Ground.data }, { on := 9, ground := Go.Ground.chain }], guard := none } : Oper)) rfl (fun K hK => ?_) ?_
            · go_simp
              go_at_call 28
              refine (rtext_zero _ _ _ _).mono ?_
              rintro e w2 ⟨rfl, rfl⟩
              (try go_wp2_with fail)
              refine hK.out _ _ ?_ (fun hHeld => ?_)
              · exact trivial
              clear hK K
              (try simp only [Act.put, List.setIfInBounds_toArray, List.set_cons_zero, List.set_cons_succ])
              refine wpAnyH_take (i := 11) (oi := ({ dst := some 28, op := Go.Op.move (Go.Operand.tmp 39), type := 41, pos := "ref.go:311", after := #[{ on := 10, ground := Go.Ground.data }], guard := none } : Oper)) (v := ?v11_7e) rfl (by kernel_rfl) (by kernel_rfl) (by kernel_rfl) (fun _ _ _ h => h) (Or.inl ⟨by rfl, ?hy11_7e⟩) (by assumption) ?re11_7e
              case hy11_7e => ((intro w hSw; go_simp) <;> with_reducible rfl)
              (try simp only [Act.put, List.setIfInBounds_toArray, List.set_cons_zero, List.set_cons_succ])
              refine wpAnyH_take (i := 12) (oi := ({ dst := some 40, op := Go.Op.extract (Go.Operand.tmp 28) 0, type := 9, pos := "ref.go:311", after := #[{ on := 11, ground := Go.Ground.data }], guard := none } : Oper)) (v := ?v12_8e) rfl (by kernel_rfl) (by kernel_rfl) (by kernel_rfl) (fun _ _ _ h => h) (Or.inl ⟨by rfl, ?hy12_8e⟩) (by assumption) ?re12_8e
              case hy12_8e => ((intro w hSw; go_simp) <;> with_reducible rfl)
              (try simp only [Act.put, List.setIfInBounds_toArray, List.set_cons_zero, List.set_cons_succ])
              refine wpAnyH_take (i := 13) (oi := ({ dst := some 41, op := Go.Op.extract (Go.Operand.tmp 28) 1, type := 4, pos := "ref.go:311", after := #[{ on := 11, ground := Go.Ground.data }, { on := 14, ground := Go.Ground.gcOnly Go.Departure.lateStores }], guard := none } : Oper)) (v := ?v13_9e) rfl (by kernel_rfl) (by kernel_rfl) (by kernel_rfl) (fun _ _ _ h => h) (Or.inl ⟨by rfl, ?hy13_9e⟩) (by assumption) ?re13_9e
              case hy13_9e => ((intro w hSw; go_simp) <;> with_reducible rfl)
              (try simp only [Act.put, List.setIfInBounds_toArray, List.set_cons_zero, List.set_cons_succ])
              refine wpAnyH_take (i := 14) (oi := ({ dst := some 7, op := Go.Op.assign (Go.Operand.tmp 40), type := 9, pos := "ref.go:311", after := #[{ on := 12, ground := Go.Ground.data }, { on := 10, ground := Go.Ground.chain }, { on := 0, ground := Go.Ground.phase }, { on := 1, ground := Go.Ground.phase }, { on := 2, ground := Go.Ground.phase }, { on := 3, ground := Go.Ground.phase }, { on := 4, ground := Go.Ground.phase }, { on := 5, ground := Go.Ground.phase }, { on := 6, ground := Go.Ground.phase }, { on := 7, ground := Go.Ground.phase }, { on := 8, ground := Go.Ground.phase }, { on := 9, ground := Go.Ground.phase }, { on := 10, ground := Go.Ground.phase }, { on := 11, ground := Go.Ground.phase }, { on := 12, ground := Go.Ground.phase }, { on := 13, ground := Go.Ground.textOnly Go.Departure.lateStores }], guard := none } : Oper)) (v := ?v14_10e) rfl (by kernel_rfl) (by kernel_rfl) (by kernel_rfl) (fun _ _ _ h => h) (Or.inl ⟨by rfl, ?hy14_10e⟩) (by assumption) ?re14_10e
              case hy14_10e => ((intro w hSw; go_simp) <;> with_reducible rfl)
              (try simp only [Act.put, List.setIfInBounds_toArray, List.set_cons_zero, List.set_cons_succ])
              refine wpAnyH_take (i := 15) (oi := ({ dst := some 8, op := Go.Op.assign (Go.Operand.tmp 41), type := 4, pos := "ref.go:311", after := #[{ on := 13, ground := Go.Ground.data }, { on := 14, ground := Go.Ground.chain }, { on := 0, ground := Go.Ground.phase }, { on := 1, ground := Go.Ground.phase }, { on := 2, ground := Go.Ground.phase }, { on := 3, ground := Go.Ground.phase }, { on := 4, ground := Go.Ground.phase }, { on := 5, ground := Go.Ground.phase }, { on := 6, ground := Go.Ground.phase }, { on := 7, ground := Go.Ground.phase }, { on := 8, ground := Go.Ground.phase }, { on := 9, ground := Go.Ground.phase }, { on := 10, ground := Go.Ground.phase }, { on := 11, ground := Go.Ground.phase }, { on := 12, ground := Go.Ground.phase }, { on := 13, ground := Go.Ground.phase }, { on := 14, ground := Go.Ground.phase }], guard := none } : Oper)) (v := ?v15_11e) rfl (by kernel_rfl) (by kernel_rfl) (by kernel_rfl) (fun _ _ _ h => h) (Or.inl ⟨by rfl, ?hy15_11e⟩) (by assumption) ?re15_11e
              case hy15_11e => ((intro w hSw; go_simp) <;> with_reducible rfl)
              (try simp only [Act.put, List.setIfInBounds_toArray, List.set_cons_zero, List.set_cons_succ])
              refine wpAnyH_done (by kernel_rfl) ?_ _
              refine NoPanic.normal ?_
              go_wp2_with fail
              go_ret
              exact ⟨0, rfl, HP.out, below_drewN hB (1 + q)⟩
            exact AllReadyH.nil
          exact AllReadyH.nil
        · exfalso
          have := hex.out.1
          omega
      · obtain ⟨g, cap, hsl, hgb, hA, hc1, hc2⟩ := own_ints hO.out hk0
        simp only [Value.slice.injEq] at hsl
        obtain ⟨rfl, _, rfl⟩ := hsl
        have cT := fun W (hW : Below wr.heap.size wr W) => rtrim_some l g 0 k cp W hml hc1 hc2 (ABlk.row (P := []) (S := []) (by simpa using hA.below hW hA.lt))
        obtain ⟨N, hN1, hN2⟩ := hmd.trz
        have hg0 : decide (0 < (s.size : Int)) = true := by rw [decide_eq_true_eq]; omega
        obtain ⟨c, hc⟩ : ∃ c : Nat, c = s[0].toNat := ⟨_, rfl⟩
        have hcs : ∀ h : 0 < s.size, (s[0]'h).toNat = c := fun h => hc.symm
        have hc9 : c < 256 := by rw [hc]; exact s[0].toNat_lt
        clear hc
        have HA := Lib.hid hA
        have HN2 := Lib.hid (show N < 10 ^ most from Nat.lt_of_lt_of_le hN2 (Nat.pow_le_pow_right (by decide) (by omega)))
        have hlen : (trz l).length ≤ k := by have := trz_len l; omega
        rw [hN1] at cT hlen
        have HSub := Lib.hid (show ∀ j x, (grpX N)[j]? = some x → l[j]? = some x from fun j x h => by
          rw [← hN1, trz_take] at h
          rw [List.getElem?_take] at h
          split at h
          · exact h
          · cases h)
        have CT := Lib.hid cT
        clear HX hO hml hmd cT hN2 hN1 hA
        by_cases hn0 : N = 0
        · subst hn0
          rw [grpX_zero] at CT
          have HP := Lib.hid (Nat.pow_pos (n := most) (show 0 < 10 by decide))
          rcases hex with hex | hex
          · obtain ⟨hx0, hx1⟩ := hex.out
            clear hex
            go_wp2_with fail
            refine wp_region_noPanic ?_
            refine wp_region_held_drew (S := fun _ => True) (by kernel_rfl) ?_ (fun hHeld => ?_)
            · exact trivial
            refine wpAnyH_take (i := 0) (oi := ({ dst := some 29, op := Go.Op.move (Go.Operand.tmp 0), type := 9, pos := "ref.go:311", after := #[], guard := none } : Oper)) (v := ?v0_1z1) rfl (by kernel_rfl) (by kernel_rfl) (by kernel_rfl) (fun _ _ _ h => h) (Or.inl ⟨by rfl, ?hy0_1z1⟩) (by assumption) ?re0_1z1
            case hy0_1z1 => ((intro w hSw; go_simp) <;> with_reducible rfl)
            (try simp only [Act.put, List.setIfInBounds_toArray, List.set_cons_zero, List.set_cons_succ])
            refine wpAnyH_take (i := 1) (oi := ({ dst := some 30, op := Go.Op.call { callee := Go.Callee.builtin Go.Builtin.len, args := #[Go.Operand.tmp 29], argTypes := #[9] }, type := 3, pos := "ref.go:311", after := #[{ on := 0, ground := Go.Ground.data }], guard := none } : Oper)) (v := ?v1_2z1) rfl (by kernel_rfl) (by kernel_rfl) (by kernel_rfl) (fun _ _ _ h => h) (Or.inl ⟨by rfl, ?hy1_2z1⟩) (by assumption) ?re1_2z1
            case hy1_2z1 => ((intro w hSw; go_simp) <;> with_reducible rfl)
            (try simp only [Act.put, List.setIfInBounds_toArray, List.set_cons_zero, List.set_cons_succ])
            refine wpAnyH_take (i := 2) (oi := ({ dst := some 31, op := Go.Op.binOp Go.BinOp.gtr 3 (Go.Operand.tmp 30) (Go.Operand.const (Go.Value.int Go.IntKind.i64 0)) 3, type := 4, pos := "ref.go:311", after := #[{ on := 1, ground := Go.Ground.data }], guard := none } : Oper)) (v := ?v2_3z1) rfl (by kernel_rfl) (by kernel_rfl) (by kernel_rfl) (fun _ _ _ h => h) (Or.inl ⟨by rfl, ?hy2_3z1⟩) (by assumption) ?re2_3z1
            case hy2_3z1 => ((intro w hSw; go_simp) <;> with_reducible rfl)
            (try simp only [Act.put, List.setIfInBounds_toArray, List.set_cons_zero, List.set_cons_succ])
            refine wpAnyH_take (i := 3) (oi := ({ dst := some 32, op := Go.Op.move (Go.Operand.tmp 31), type := 4, pos := "ref.go:311", after := #[{ on := 2, ground := Go.Ground.data }], guard := none } : Oper)) (v := ?v3_4z1) rfl (by kernel_rfl) (by kernel_rfl) (by kernel_rfl) (fun _ _ _ h => h) (Or.inl ⟨by rfl, ?hy3_4z1⟩) (by assumption) ?re3_4z1
            case hy3_4z1 => ((intro w hSw; go_simp) <;> with_reducible rfl)
            (try simp only [Act.put, List.setIfInBounds_toArray, List.set_cons_zero, List.set_cons_succ])
            refine wpAnyH_take (i := 4) (oi := ({ dst := some 33, op := Go.Op.move (Go.Operand.tmp 0), type := 9, pos := "ref.go:311", after := #[{ on := 3, ground := Go.Ground.guard }], guard := some (3, true) } : Oper)) (v := ?v4_5z1) rfl (by kernel_rfl) (by kernel_rfl) (by kernel_rfl) (fun _ _ _ h => h) (Or.inl ⟨by rfl, ?hy4_5z1⟩) (by assumption) ?re4_5z1
            case hy4_5z1 => ((intro w hSw; go_simp) <;> with_reducible rfl)
            (try simp only [Act.put, List.setIfInBounds_toArray, List.set_cons_zero, List.set_cons_succ])
            refine wpAnyH_take (i := 5) (oi := ({ dst := some 34, op := Go.Op.index 9 (Go.Operand.tmp 33) (Go.Operand.const (Go.Value.int Go.IntKind.i64 0)), type := 5, pos := "ref.go:311", after := #[{ on := 4, ground := Go.Ground.data }, { on := 3, ground := Go.Ground.guard }], guard := some (3, true) } : Oper)) (v := ?v5_6z1) rfl (by kernel_rfl) (by kernel_rfl) (by kernel_rfl) (fun _ _ _ h => h) (Or.inl ⟨by rfl, ?hy5_6z1⟩) (by assumption) ?re5_6z1
            case hy5_6z1 => ((intro w hSw; go_simp) <;> with_reducible rfl)
            (try simp only [Act.put, List.setIfInBounds_toArray, List.set_cons_zero, List.set_cons_succ])
            refine wpAnyH_take (i := 6) (oi := ({ dst := some 35, op := Go.Op.binOp Go.BinOp.geq 5 (Go.Operand.tmp 34) (Go.Operand.const (Go.Value.int Go.IntKind.u8 128)) 5, type := 4, pos := "ref.go:311", after := #[{ on := 5, ground := Go.Ground.data }, { on := 3, ground := Go.Ground.guard }], guard := some (3, true) } : Oper)) (v := ?v6_7z1) rfl (by kernel_rfl) (by kernel_rfl) (by kernel_rfl) (fun _ _ _ h => h) (Or.inl ⟨by rfl, ?hy6_7z1⟩) (by assumption) ?re6_7z1
            case hy6_7z1 => ((intro w hSw; go_simp) <;> with_reducible rfl)
            (try simp only [Act.put, List.setIfInBounds_toArray, List.set_cons_zero, List.set_cons_succ])
            refine wpAnyH_take (i := 7) (oi := ({ dst := some 36, op := Go.Op.pick (Go.Operand.tmp 32) (Go.Operand.tmp 35) (Go.Operand.const (Go.Value.bool false)), type := 4, pos := "ref.go:311", after := #[{ on := 3, ground := Go.Ground.data }, { on := 6, ground := Go.Ground.data }], guard := none } : Oper)) (v := ?v7_8z1) rfl (by kernel_rfl) (by kernel_rfl) (by kernel_rfl) (fun _ _ _ h => h) (Or.inl ⟨by rfl, ?hy7_8z1⟩) (by assumption) ?re7_8z1
            case hy7_8z1 => ((intro w hSw; go_simp) <;> with_reducible rfl)
            (try simp only [Act.put, List.setIfInBounds_toArray, List.set_cons_zero, List.set_cons_succ])
            refine wpAnyH_take (i := 8) (oi := ({ dst := some 37, op := Go.Op.move (Go.Operand.tmp 5), type := 40, pos := "ref.go:311", after := #[], guard := none } : Oper)) (v := ?v8_9z1) rfl (by kernel_rfl) (by kernel_rfl) (by kernel_rfl) (fun _ _ _ h => h) (Or.inl ⟨by rfl, ?hy8_9z1⟩) (by assumption) ?re8_9z1
            case hy8_9z1 => ((intro w hSw; go_simp) <;> with_reducible rfl)
            (try simp only [Act.put, List.setIfInBounds_toArray, List.set_cons_zero, List.set_cons_succ])
            refine wpAnyH_ready (rs := [9]) (by kernel_rfl) (by simp) ?_
            refine AllReadyH.cons (o := ({ dst := some 38, op := Go.Op.call { callee := Go.Callee.value (Go.Operand.func 29), args := #[Go.Operand.tmp 37], argTypes := #[40] }, type := 40, pos := "ref.go:311", after := #[{ on := 8, ground := Go.Ground.data }, { on := 3, ground := Go.Ground.chain }], guard := none } : Oper)) rfl (fun K hK => ?_) ?_
            · go_simp
              go_at_call 29
              refine (CT.out _ (Below.refl _ _).drew).mono ?_
              rintro e w1 ⟨rfl, q, rfl⟩
              (try go_wp2_with fail)
              refine hK.out _ _ ?_ (fun hHeld => ?_)
              · exact trivial
              clear hK K
              (try simp only [Act.put, List.setIfInBounds_toArray, List.set_cons_zero, List.set_cons_succ])
              refine wpAnyH_ready (rs := [10]) (by kernel_rfl) (by simp) ?_
              refine AllReadyH.cons (o := ({ dst := some 39, op := Go.Op.call { callee := Go.Callee.value (Go.Operand.func 28), args := #[Go.Operand.tmp 36, Go.Operand.tmp 38], argTypes := #[4, 40] }, type := 41, pos := "ref.go:311", after := #[{ on := 7, ground := Go.Ground.data }, { on := 9, ground := Go.Ground.data }, { on := 9, ground := Go.Ground.chain }], guard := none } : Oper)) rfl (fun K hK => ?_) ?_
              · go_simp
                go_at_call 28
                refine (rtext_zero _ _ _ _).mono ?_
                rintro e w2 ⟨rfl, rfl⟩
                (try go_wp2_with fail)
                refine hK.out _ _ ?_ (fun hHeld => ?_)
                · exact trivial
                clear hK K
                (try simp only [Act.put, List.setIfInBounds_toArray, List.set_cons_zero, List.set_cons_succ])
                refine wpAnyH_take (i := 11) (oi := ({ dst := some 28, op := Go.Op.move (Go.Operand.tmp 39), type := 41, pos := "ref.go:311", after := #[{ on := 10, ground := Go.Ground.data }], guard := none } : Oper)) (v := ?v11_10z1) rfl (by kernel_rfl) (by kernel_rfl) (by kernel_rfl) (fun _ _ _ h => h) (Or.inl ⟨by rfl, ?hy11_10z1⟩) (by assumption) ?re11_10z1
                case hy11_10z1 => ((intro w hSw; go_simp) <;> with_reducible rfl)
                (try simp only [Act.put, List.setIfInBounds_toArray, List.set_cons_zero, List.set_cons_succ])
                refine wpAnyH_take (i := 12) (oi := ({ dst := some 40, op := Go.Op.extract (Go.Operand.tmp 28) 0, type := 9, pos := "ref.go:311", after := #[{ on := 11, ground := Go.Ground.data }], guard := none } : Oper)) (v := ?v12_11z1) rfl (by kernel_rfl) (by kernel_rfl) (by kernel_rfl) (fun _ _ _ h => h) (Or.inl ⟨by rfl, ?hy12_11z1⟩) (by assumption) ?re12_11z1
                case hy12_11z1 => ((intro w hSw; go_simp) <;> with_reducible rfl)
                (try simp only [Act.put, List.setIfInBounds_toArray, List.set_cons_zero, List.set_cons_succ])
                refine wpAnyH_take (i := 13) (oi := ({ dst := some 41, op := Go.Op.extract (Go.Operand.tmp 28) 1, type := 4, pos := "ref.go:311", after := #[{ on := 11, ground := Go.Ground.data }, { on := 14, ground := Go.Ground.gcOnly Go.Departure.lateStores }], guard := none } : Oper)) (v := ?v13_12z1) rfl (by kernel_rfl) (by kernel_rfl) (by kernel_rfl) (fun _ _ _ h => h) (Or.inl ⟨by rfl, ?hy13_12z1⟩) (by assumption) ?re13_12z1
                case hy13_12z1 => ((intro w hSw; go_simp) <;> with_reducible rfl)
                (try simp only [Act.put, List.setIfInBounds_toArray, List.set_cons_zero, List.set_cons_succ])
                refine wpAnyH_take (i := 14) (oi := ({ dst := some 7, op := Go.Op.assign (Go.Operand.tmp 40), type := 9, pos := "ref.go:311", after := #[{ on := 12, ground := Go.Ground.data }, { on := 10, ground := Go.Ground.chain }, { on := 0, ground := Go.Ground.phase }, { on := 1, ground := Go.Ground.phase }, { on := 2, ground := Go.Ground.phase }, { on := 3, ground := Go.Ground.phase }, { on := 4, ground := Go.Ground.phase }, { on := 5, ground := Go.Ground.phase }, { on := 6, ground := Go.Ground.phase }, { on := 7, ground := Go.Ground.phase }, { on := 8, ground := Go.Ground.phase }, { on := 9, ground := Go.Ground.phase }, { on := 10, ground := Go.Ground.phase }, { on := 11, ground := Go.Ground.phase }, { on := 12, ground := Go.Ground.phase }, { on := 13, ground := Go.Ground.textOnly Go.Departure.lateStores }], guard := none } : Oper)) (v := ?v14_13z1) rfl (by kernel_rfl) (by kernel_rfl) (by kernel_rfl) (fun _ _ _ h => h) (Or.inl ⟨by rfl, ?hy14_13z1⟩) (by assumption) ?re14_13z1
                case hy14_13z1 => ((intro w hSw; go_simp) <;> with_reducible rfl)
                (try simp only [Act.put, List.setIfInBounds_toArray, List.set_cons_zero, List.set_cons_succ])
                refine wpAnyH_take (i := 15) (oi := ({ dst := some 8, op := Go.Op.assign (Go.Operand.tmp 41), type := 4, pos := "ref.go:311", after := #[{ on := 13, ground := Go.Ground.data }, { on := 14, ground := Go.Ground.chain }, { on := 0, ground := Go.Ground.phase }, { on := 1, ground := Go.Ground.phase }, { on := 2, ground := Go.Ground.phase }, { on := 3, ground := Go.Ground.phase }, { on := 4, ground := Go.Ground.phase }, { on := 5, ground := Go.Ground.phase }, { on := 6, ground := Go.Ground.phase }, { on := 7, ground := Go.Ground.phase }, { on := 8, ground := Go.Ground.phase }, { on := 9, ground := Go.Ground.phase }, { on := 10, ground := Go.Ground.phase }, { on := 11, ground := Go.Ground.phase }, { on := 12, ground := Go.Ground.phase }, { on := 13, ground := Go.Ground.phase }, { on := 14, ground := Go.Ground.phase }], guard := none } : Oper)) (v := ?v15_14z1) rfl (by kernel_rfl) (by kernel_rfl) (by kernel_rfl) (fun _ _ _ h => h) (Or.inl ⟨by rfl, ?hy15_14z1⟩) (by assumption) ?re15_14z1
                case hy15_14z1 => ((intro w hSw; go_simp) <;> with_reducible rfl)
                (try simp only [Act.put, List.setIfInBounds_toArray, List.set_cons_zero, List.set_cons_succ])
                refine wpAnyH_done (by kernel_rfl) ?_ _
                refine NoPanic.normal ?_
                go_wp2_with fail
                go_ret
                exact ⟨0, rfl, HP.out, below_drewN hB (1 + q)⟩
              exact AllReadyH.nil
            exact AllReadyH.nil
          · obtain ⟨hx0, hx9, hx1, hx2⟩ := hex.out
            clear hex
            go_wp2_with fail
            refine wp_region_noPanic ?_
            refine wp_region_held_drew (S := fun _ => True) (by kernel_rfl) ?_ (fun hHeld => ?_)
            · exact trivial
            refine wpAnyH_take (i := 0) (oi := ({ dst := some 29, op := Go.Op.move (Go.Operand.tmp 0), type := 9, pos := "ref.go:311", after := #[], guard := none } : Oper)) (v := ?v0_1z2) rfl (by kernel_rfl) (by kernel_rfl) (by kernel_rfl) (fun _ _ _ h => h) (Or.inl ⟨by rfl, ?hy0_1z2⟩) (by assumption) ?re0_1z2
            case hy0_1z2 => ((intro w hSw; go_simp) <;> with_reducible rfl)
            (try simp only [Act.put, List.setIfInBounds_toArray, List.set_cons_zero, List.set_cons_succ])
            refine wpAnyH_take (i := 1) (oi := ({ dst := some 30, op := Go.Op.call { callee := Go.Callee.builtin Go.Builtin.len, args := #[Go.Operand.tmp 29], argTypes := #[9] }, type := 3, pos := "ref.go:311", after := #[{ on := 0, ground := Go.Ground.data }], guard := none } : Oper)) (v := ?v1_2z2) rfl (by kernel_rfl) (by kernel_rfl) (by kernel_rfl) (fun _ _ _ h => h) (Or.inl ⟨by rfl, ?hy1_2z2⟩) (by assumption) ?re1_2z2
            case hy1_2z2 => ((intro w hSw; go_simp) <;> with_reducible rfl)
            (try simp only [Act.put, List.setIfInBounds_toArray, List.set_cons_zero, List.set_cons_succ])
            refine wpAnyH_take (i := 2) (oi := ({ dst := some 31, op := Go.Op.binOp Go.BinOp.gtr 3 (Go.Operand.tmp 30) (Go.Operand.const (Go.Value.int Go.IntKind.i64 0)) 3, type := 4, pos := "ref.go:311", after := #[{ on := 1, ground := Go.Ground.data }], guard := none } : Oper)) (v := ?v2_3z2) rfl (by kernel_rfl) (by kernel_rfl) (by kernel_rfl) (fun _ _ _ h => h) (Or.inl ⟨by rfl, ?hy2_3z2⟩) (by assumption) ?re2_3z2
            case hy2_3z2 => ((intro w hSw; go_simp) <;> with_reducible rfl)
            (try simp only [Act.put, List.setIfInBounds_toArray, List.set_cons_zero, List.set_cons_succ])
            refine wpAnyH_take (i := 3) (oi := ({ dst := some 32, op := Go.Op.move (Go.Operand.tmp 31), type := 4, pos := "ref.go:311", after := #[{ on := 2, ground := Go.Ground.data }], guard := none } : Oper)) (v := ?v3_4z2) rfl (by kernel_rfl) (by kernel_rfl) (by kernel_rfl) (fun _ _ _ h => h) (Or.inl ⟨by rfl, ?hy3_4z2⟩) (by assumption) ?re3_4z2
            case hy3_4z2 => ((intro w hSw; go_simp) <;> with_reducible rfl)
            (try simp only [Act.put, List.setIfInBounds_toArray, List.set_cons_zero, List.set_cons_succ])
            refine wpAnyH_take (i := 4) (oi := ({ dst := some 33, op := Go.Op.move (Go.Operand.tmp 0), type := 9, pos := "ref.go:311", after := #[{ on := 3, ground := Go.Ground.guard }], guard := some (3, true) } : Oper)) (v := ?v4_5z2) rfl (by kernel_rfl) (by kernel_rfl) (by kernel_rfl) (fun _ _ _ h => h) (Or.inl ⟨by rfl, ?hy4_5z2⟩) (by assumption) ?re4_5z2
            case hy4_5z2 => ((intro w hSw; go_simp) <;> with_reducible rfl)
            (try simp only [Act.put, List.setIfInBounds_toArray, List.set_cons_zero, List.set_cons_succ])
            refine wpAnyH_take (i := 5) (oi := ({ dst := some 34, op := Go.Op.index 9 (Go.Operand.tmp 33) (Go.Operand.const (Go.Value.int Go.IntKind.i64 0)), type := 5, pos := "ref.go:311", after := #[{ on := 4, ground := Go.Ground.data }, { on := 3, ground := Go.Ground.guard }], guard := some (3, true) } : Oper)) (v := ?v5_6z2) rfl (by kernel_rfl) (by kernel_rfl) (by kernel_rfl) (fun _ _ _ h => h) (Or.inl ⟨by rfl, ?hy5_6z2⟩) (by assumption) ?re5_6z2
            case hy5_6z2 => ((intro w hSw; go_simp) <;> with_reducible rfl)
            (try simp only [Act.put, List.setIfInBounds_toArray, List.set_cons_zero, List.set_cons_succ])
            refine wpAnyH_take (i := 6) (oi := ({ dst := some 35, op := Go.Op.binOp Go.BinOp.geq 5 (Go.Operand.tmp 34) (Go.Operand.const (Go.Value.int Go.IntKind.u8 128)) 5, type := 4, pos := "ref.go:311", after := #[{ on := 5, ground := Go.Ground.data }, { on := 3, ground := Go.Ground.guard }], guard := some (3, true) } : Oper)) (v := ?v6_7z2) rfl (by kernel_rfl) (by kernel_rfl) (by kernel_rfl) (fun _ _ _ h => h) (Or.inl ⟨by rfl, ?hy6_7z2⟩) (by assumption) ?re6_7z2
            case hy6_7z2 => ((intro w hSw; go_simp) <;> with_reducible rfl)
            (try simp only [Act.put, List.setIfInBounds_toArray, List.set_cons_zero, List.set_cons_succ])
            refine wpAnyH_take (i := 7) (oi := ({ dst := some 36, op := Go.Op.pick (Go.Operand.tmp 32) (Go.Operand.tmp 35) (Go.Operand.const (Go.Value.bool false)), type := 4, pos := "ref.go:311", after := #[{ on := 3, ground := Go.Ground.data }, { on := 6, ground := Go.Ground.data }], guard := none } : Oper)) (v := ?v7_8z2) rfl (by kernel_rfl) (by kernel_rfl) (by kernel_rfl) (fun _ _ _ h => h) (Or.inl ⟨by rfl, ?hy7_8z2⟩) (by assumption) ?re7_8z2
            case hy7_8z2 => ((intro w hSw; go_simp) <;> with_reducible rfl)
            (try simp only [Act.put, List.setIfInBounds_toArray, List.set_cons_zero, List.set_cons_succ])
            refine wpAnyH_take (i := 8) (oi := ({ dst := some 37, op := Go.Op.move (Go.Operand.tmp 5), type := 40, pos := "ref.go:311", after := #[], guard := none } : Oper)) (v := ?v8_9z2) rfl (by kernel_rfl) (by kernel_rfl) (by kernel_rfl) (fun _ _ _ h => h) (Or.inl ⟨by rfl, ?hy8_9z2⟩) (by assumption) ?re8_9z2
            case hy8_9z2 => ((intro w hSw; go_simp) <;> with_reducible rfl)
            (try simp only [Act.put, List.setIfInBounds_toArray, List.set_cons_zero, List.set_cons_succ])
            refine wpAnyH_ready (rs := [9]) (by kernel_rfl) (by simp) ?_
            refine AllReadyH.cons (o := ({ dst := some 38, op := Go.Op.call { callee := Go.Callee.value (Go.Operand.func 29), args := #[Go.Operand.tmp 37], argTypes := #[40] }, type := 40, pos := "ref.go:311", after := #[{ on := 8, ground := Go.Ground.data }, { on := 3, ground := Go.Ground.chain }], guard := none } : Oper)) rfl (fun K hK => ?_) ?_
            · go_simp
              go_at_call 29
              refine (CT.out _ (Below.refl _ _).drew).mono ?_
              rintro e w1 ⟨rfl, q, rfl⟩
              (try go_wp2_with fail)
              refine hK.out _ _ ?_ (fun hHeld => ?_)
              · exact trivial
              clear hK K
              (try simp only [Act.put, List.setIfInBounds_toArray, List.set_cons_zero, List.set_cons_succ])
              refine wpAnyH_ready (rs := [10]) (by kernel_rfl) (by simp) ?_
              refine AllReadyH.cons (o := ({ dst := some 39, op := Go.Op.call { callee := Go.Callee.value (Go.Operand.func 28), args := #[Go.Operand.tmp 36, Go.Operand.tmp 38], argTypes := #[4, 40] }, type := 41, pos := "ref.go:311", after := #[{ on := 7, ground := Go.Ground.data }, { on := 9, ground := Go.Ground.data }, { on := 9, ground := Go.Ground.chain }], guard := none } : Oper)) rfl (fun K hK => ?_) ?_
              · go_simp
                go_at_call 28
                refine (rtext_zero _ _ _ _).mono ?_
                rintro e w2 ⟨rfl, rfl⟩
                (try go_wp2_with fail)
                refine hK.out _ _ ?_ (fun hHeld => ?_)
                · exact trivial
                clear hK K
                (try simp only [Act.put, List.setIfInBounds_toArray, List.set_cons_zero, List.set_cons_succ])
                refine wpAnyH_take (i := 11) (oi := ({ dst := some 28, op := Go.Op.move (Go.Operand.tmp 39), type := 41, pos := "ref.go:311", after := #[{ on := 10, ground := Go.Ground.data }], guard := none } : Oper)) (v := ?v11_10z2) rfl (by kernel_rfl) (by kernel_rfl) (by kernel_rfl) (fun _ _ _ h => h) (Or.inl ⟨by rfl, ?hy11_10z2⟩) (by assumption) ?re11_10z2
                case hy11_10z2 => ((intro w hSw; go_simp) <;> with_reducible rfl)
                (try simp only [Act.put, List.setIfInBounds_toArray, List.set_cons_zero, List.set_cons_succ])
                refine wpAnyH_take (i := 12) (oi := ({ dst := some 40, op := Go.Op.extract (Go.Operand.tmp 28) 0, type := 9, pos := "ref.go:311", after := #[{ on := 11, ground := Go.Ground.data }], guard := none } : Oper)) (v := ?v12_11z2) rfl (by kernel_rfl) (by kernel_rfl) (by kernel_rfl) (fun _ _ _ h => h) (Or.inl ⟨by rfl, ?hy12_11z2⟩) (by assumption) ?re12_11z2
                case hy12_11z2 => ((intro w hSw; go_simp) <;> with_reducible rfl)
                (try simp only [Act.put, List.setIfInBounds_toArray, List.set_cons_zero, List.set_cons_succ])
                refine wpAnyH_take (i := 13) (oi := ({ dst := some 41, op := Go.Op.extract (Go.Operand.tmp 28) 1, type := 4, pos := "ref.go:311", after := #[{ on := 11, ground := Go.Ground.data }, { on := 14, ground := Go.Ground.gcOnly Go.Departure.lateStores }], guard := none } : Oper)) (v := ?v13_12z2) rfl (by kernel_rfl) (by kernel_rfl) (by kernel_rfl) (fun _ _ _ h => h) (Or.inl ⟨by rfl, ?hy13_12z2⟩) (by assumption) ?re13_12z2
                case hy13_12z2 => ((intro w hSw; go_simp) <;> with_reducible rfl)
                (try simp only [Act.put, List.setIfInBounds_toArray, List.set_cons_zero, List.set_cons_succ])
                refine wpAnyH_take (i := 14) (oi := ({ dst := some 7, op := Go.Op.assign (Go.Operand.tmp 40), type := 9, pos := "ref.go:311", after := #[{ on := 12, ground := Go.Ground.data }, { on := 10, ground := Go.Ground.chain }, { on := 0, ground := Go.Ground.phase }, { on := 1, ground := Go.Ground.phase }, { on := 2, ground := Go.Ground.phase }, { on := 3, ground := Go.Ground.phase }, { on := 4, ground := Go.Ground.phase }, { on := 5, ground := Go.Ground.phase }, { on := 6, ground := Go.Ground.phase }, { on := 7, ground := Go.Ground.phase }, { on := 8, ground := Go.Ground.phase }, { on := 9, ground := Go.Ground.phase }, { on := 10, ground := Go.Ground.phase }, { on := 11, ground := Go.Ground.phase }, { on := 12, ground := Go.Ground.phase }, { on := 13, ground := Go.Ground.textOnly Go.Departure.lateStores }], guard := none } : Oper)) (v := ?v14_13z2) rfl (by kernel_rfl) (by kernel_rfl) (by kernel_rfl) (fun _ _ _ h => h) (Or.inl ⟨by rfl, ?hy14_13z2⟩) (by assumption) ?re14_13z2
                case hy14_13z2 => ((intro w hSw; go_simp) <;> with_reducible rfl)
                (try simp only [Act.put, List.setIfInBounds_toArray, List.set_cons_zero, List.set_cons_succ])
                refine wpAnyH_take (i := 15) (oi := ({ dst := some 8, op := Go.Op.assign (Go.Operand.tmp 41), type := 4, pos := "ref.go:311", after := #[{ on := 13, ground := Go.Ground.data }, { on := 14, ground := Go.Ground.chain }, { on := 0, ground := Go.Ground.phase }, { on := 1, ground := Go.Ground.phase }, { on := 2, ground := Go.Ground.phase }, { on := 3, ground := Go.Ground.phase }, { on := 4, ground := Go.Ground.phase }, { on := 5, ground := Go.Ground.phase }, { on := 6, ground := Go.Ground.phase }, { on := 7, ground := Go.Ground.phase }, { on := 8, ground := Go.Ground.phase }, { on := 9, ground := Go.Ground.phase }, { on := 10, ground := Go.Ground.phase }, { on := 11, ground := Go.Ground.phase }, { on := 12, ground := Go.Ground.phase }, { on := 13, ground := Go.Ground.phase }, { on := 14, ground := Go.Ground.phase }], guard := none } : Oper)) (v := ?v15_14z2) rfl (by kernel_rfl) (by kernel_rfl) (by kernel_rfl) (fun _ _ _ h => h) (Or.inl ⟨by rfl, ?hy15_14z2⟩) (by assumption) ?re15_14z2
                case hy15_14z2 => ((intro w hSw; go_simp) <;> with_reducible rfl)
                (try simp only [Act.put, List.setIfInBounds_toArray, List.set_cons_zero, List.set_cons_succ])
                refine wpAnyH_done (by kernel_rfl) ?_ _
                refine NoPanic.normal ?_
                go_wp2_with fail
                go_ret
                exact ⟨0, rfl, HP.out, below_drewN hB (1 + q)⟩
              exact AllReadyH.nil
            exact AllReadyH.nil
        · have hlp : 0 < (grpX N).length := List.length_pos_iff.2 fun e => hn0 (grpX_nil.1 e)
          have CX := Lib.hid (fun neg W (hW : Below wr.heap.size wr W) => (rtext_any neg (grpX N) g (grpX N).length cp W rfl hlp (by omega) (by omega) (grpX_dig N) (fun j x hj => by
            have h := ABlk.row (P := []) (S := []) (by simpa using HA.out.below hW HA.out.lt) j x (HSub.out j x hj)
            exact h) (Nat.lt_of_lt_of_le HA.out.lt hW.size)).mono (R' := fun e w' => e = .returned (.tuple #[.string ⟨(txt (mz neg N)).toArray⟩, .bool true]) ∧ Below W.heap.size W w') fun e w' h => by rw [mz, ← made_text neg N hn0]; exact h)
          have HZ := Lib.hid (show ∀ neg, (mz neg N).natAbs < 10 ^ most from fun neg => by have := HN2.out; unfold mz; cases neg <;> simp <;> omega)
          generalize (grpX N).length = m at *
          rcases hex with hex | hex
          · obtain ⟨hx0, hx1⟩ := hex.out
            clear hex
            go_wp2_with fail
            refine wp_region_noPanic ?_
            refine wp_region_held_drew (S := fun _ => True) (by kernel_rfl) ?_ (fun hHeld => ?_)
            · exact trivial
            refine wpAnyH_take (i := 0) (oi := ({ dst := some 29, op := Go.Op.move (Go.Operand.tmp 0), type := 9, pos := "ref.go:311", after := #[], guard := none } : Oper)) (v := ?v0_1s1) rfl (by kernel_rfl) (by kernel_rfl) (by kernel_rfl) (fun _ _ _ h => h) (Or.inl ⟨by rfl, ?hy0_1s1⟩) (by assumption) ?re0_1s1
            case hy0_1s1 => ((intro w hSw; go_simp) <;> with_reducible rfl)
            (try simp only [Act.put, List.setIfInBounds_toArray, List.set_cons_zero, List.set_cons_succ])
            refine wpAnyH_take (i := 1) (oi := ({ dst := some 30, op := Go.Op.call { callee := Go.Callee.builtin Go.Builtin.len, args := #[Go.Operand.tmp 29], argTypes := #[9] }, type := 3, pos := "ref.go:311", after := #[{ on := 0, ground := Go.Ground.data }], guard := none } : Oper)) (v := ?v1_2s1) rfl (by kernel_rfl) (by kernel_rfl) (by kernel_rfl) (fun _ _ _ h => h) (Or.inl ⟨by rfl, ?hy1_2s1⟩) (by assumption) ?re1_2s1
            case hy1_2s1 => ((intro w hSw; go_simp) <;> with_reducible rfl)
            (try simp only [Act.put, List.setIfInBounds_toArray, List.set_cons_zero, List.set_cons_succ])
            refine wpAnyH_take (i := 2) (oi := ({ dst := some 31, op := Go.Op.binOp Go.BinOp.gtr 3 (Go.Operand.tmp 30) (Go.Operand.const (Go.Value.int Go.IntKind.i64 0)) 3, type := 4, pos := "ref.go:311", after := #[{ on := 1, ground := Go.Ground.data }], guard := none } : Oper)) (v := ?v2_3s1) rfl (by kernel_rfl) (by kernel_rfl) (by kernel_rfl) (fun _ _ _ h => h) (Or.inl ⟨by rfl, ?hy2_3s1⟩) (by assumption) ?re2_3s1
            case hy2_3s1 => ((intro w hSw; go_simp) <;> with_reducible rfl)
            (try simp only [Act.put, List.setIfInBounds_toArray, List.set_cons_zero, List.set_cons_succ])
            refine wpAnyH_take (i := 3) (oi := ({ dst := some 32, op := Go.Op.move (Go.Operand.tmp 31), type := 4, pos := "ref.go:311", after := #[{ on := 2, ground := Go.Ground.data }], guard := none } : Oper)) (v := ?v3_4s1) rfl (by kernel_rfl) (by kernel_rfl) (by kernel_rfl) (fun _ _ _ h => h) (Or.inl ⟨by rfl, ?hy3_4s1⟩) (by assumption) ?re3_4s1
            case hy3_4s1 => ((intro w hSw; go_simp) <;> with_reducible rfl)
            (try simp only [Act.put, List.setIfInBounds_toArray, List.set_cons_zero, List.set_cons_succ])
            refine wpAnyH_take (i := 4) (oi := ({ dst := some 33, op := Go.Op.move (Go.Operand.tmp 0), type := 9, pos := "ref.go:311", after := #[{ on := 3, ground := Go.Ground.guard }], guard := some (3, true) } : Oper)) (v := ?v4_5s1) rfl (by kernel_rfl) (by kernel_rfl) (by kernel_rfl) (fun _ _ _ h => h) (Or.inl ⟨by rfl, ?hy4_5s1⟩) (by assumption) ?re4_5s1
            case hy4_5s1 => ((intro w hSw; go_simp) <;> with_reducible rfl)
            (try simp only [Act.put, List.setIfInBounds_toArray, List.set_cons_zero, List.set_cons_succ])
            refine wpAnyH_take (i := 5) (oi := ({ dst := some 34, op := Go.Op.index 9 (Go.Operand.tmp 33) (Go.Operand.const (Go.Value.int Go.IntKind.i64 0)), type := 5, pos := "ref.go:311", after := #[{ on := 4, ground := Go.Ground.data }, { on := 3, ground := Go.Ground.guard }], guard := some (3, true) } : Oper)) (v := ?v5_6s1) rfl (by kernel_rfl) (by kernel_rfl) (by kernel_rfl) (fun _ _ _ h => h) (Or.inl ⟨by rfl, ?hy5_6s1⟩) (by assumption) ?re5_6s1
            case hy5_6s1 => ((intro w hSw; go_simp) <;> with_reducible rfl)
            (try simp only [Act.put, List.setIfInBounds_toArray, List.set_cons_zero, List.set_cons_succ])
            refine wpAnyH_take (i := 6) (oi := ({ dst := some 35, op := Go.Op.binOp Go.BinOp.geq 5 (Go.Operand.tmp 34) (Go.Operand.const (Go.Value.int Go.IntKind.u8 128)) 5, type := 4, pos := "ref.go:311", after := #[{ on := 5, ground := Go.Ground.data }, { on := 3, ground := Go.Ground.guard }], guard := some (3, true) } : Oper)) (v := ?v6_7s1) rfl (by kernel_rfl) (by kernel_rfl) (by kernel_rfl) (fun _ _ _ h => h) (Or.inl ⟨by rfl, ?hy6_7s1⟩) (by assumption) ?re6_7s1
            case hy6_7s1 => ((intro w hSw; go_simp) <;> with_reducible rfl)
            (try simp only [Act.put, List.setIfInBounds_toArray, List.set_cons_zero, List.set_cons_succ])
            refine wpAnyH_take (i := 7) (oi := ({ dst := some 36, op := Go.Op.pick (Go.Operand.tmp 32) (Go.Operand.tmp 35) (Go.Operand.const (Go.Value.bool false)), type := 4, pos := "ref.go:311", after := #[{ on := 3, ground := Go.Ground.data }, { on := 6, ground := Go.Ground.data }], guard := none } : Oper)) (v := ?v7_8s1) rfl (by kernel_rfl) (by kernel_rfl) (by kernel_rfl) (fun _ _ _ h => h) (Or.inl ⟨by rfl, ?hy7_8s1⟩) (by assumption) ?re7_8s1
            case hy7_8s1 => ((intro w hSw; go_simp) <;> with_reducible rfl)
            (try simp only [Act.put, List.setIfInBounds_toArray, List.set_cons_zero, List.set_cons_succ])
            refine wpAnyH_take (i := 8) (oi := ({ dst := some 37, op := Go.Op.move (Go.Operand.tmp 5), type := 40, pos := "ref.go:311", after := #[], guard := none } : Oper)) (v := ?v8_9s1) rfl (by kernel_rfl) (by kernel_rfl) (by kernel_rfl) (fun _ _ _ h => h) (Or.inl ⟨by rfl, ?hy8_9s1⟩) (by assumption) ?re8_9s1
            case hy8_9s1 => ((intro w hSw; go_simp) <;> with_reducible rfl)
            (try simp only [Act.put, List.setIfInBounds_toArray, List.set_cons_zero, List.set_cons_succ])
            refine wpAnyH_ready (rs := [9]) (by kernel_rfl) (by simp) ?_
            refine AllReadyH.cons (o := ({ dst := some 38, op := Go.Op.call { callee := Go.Callee.value (Go.Operand.func 29), args := #[Go.Operand.tmp 37], argTypes := #[40] }, type := 40, pos := "ref.go:311", after := #[{ on := 8, ground := Go.Ground.data }, { on := 3, ground := Go.Ground.chain }], guard := none } : Oper)) rfl (fun K hK => ?_) ?_
            · go_simp
              go_at_call 29
              refine (CT.out _ (Below.refl _ _).drew).mono ?_
              rintro e w1 ⟨rfl, q, rfl⟩
              (try go_wp2_with fail)
              refine hK.out _ _ ?_ (fun hHeld => ?_)
              · exact trivial
              clear hK K
              (try simp only [Act.put, List.setIfInBounds_toArray, List.set_cons_zero, List.set_cons_succ])
              refine wpAnyH_ready (rs := [10]) (by kernel_rfl) (by simp) ?_
              refine AllReadyH.cons (o := ({ dst := some 39, op := Go.Op.call { callee := Go.Callee.value (Go.Operand.func 28), args := #[Go.Operand.tmp 36, Go.Operand.tmp 38], argTypes := #[4, 40] }, type := 41, pos := "ref.go:311", after := #[{ on := 7, ground := Go.Ground.data }, { on := 9, ground := Go.Ground.data }, { on := 9, ground := Go.Ground.chain }], guard := none } : Oper)) rfl (fun K hK => ?_) ?_
              · go_simp
                go_at_call 28
                refine (CX.out _ _ (below_drewN (Below.refl _ _) (1 + q))).mono ?_
                rintro e w2 ⟨rfl, B2⟩
                (try go_wp2_with fail)
                refine hK.out _ _ ?_ (fun hHeld => ?_)
                · exact trivial
                clear hK K
                (try simp only [Act.put, List.setIfInBounds_toArray, List.set_cons_zero, List.set_cons_succ])
                refine wpAnyH_take (i := 11) (oi := ({ dst := some 28, op := Go.Op.move (Go.Operand.tmp 39), type := 41, pos := "ref.go:311", after := #[{ on := 10, ground := Go.Ground.data }], guard := none } : Oper)) (v := ?v11_10s1) rfl (by kernel_rfl) (by kernel_rfl) (by kernel_rfl) (fun _ _ _ h => h) (Or.inl ⟨by rfl, ?hy11_10s1⟩) (by assumption) ?re11_10s1
                case hy11_10s1 => ((intro w hSw; go_simp) <;> with_reducible rfl)
                (try simp only [Act.put, List.setIfInBounds_toArray, List.set_cons_zero, List.set_cons_succ])
                refine wpAnyH_take (i := 12) (oi := ({ dst := some 40, op := Go.Op.extract (Go.Operand.tmp 28) 0, type := 9, pos := "ref.go:311", after := #[{ on := 11, ground := Go.Ground.data }], guard := none } : Oper)) (v := ?v12_11s1) rfl (by kernel_rfl) (by kernel_rfl) (by kernel_rfl) (fun _ _ _ h => h) (Or.inl ⟨by rfl, ?hy12_11s1⟩) (by assumption) ?re12_11s1
                case hy12_11s1 => ((intro w hSw; go_simp) <;> with_reducible rfl)
                (try simp only [Act.put, List.setIfInBounds_toArray, List.set_cons_zero, List.set_cons_succ])
                refine wpAnyH_take (i := 13) (oi := ({ dst := some 41, op := Go.Op.extract (Go.Operand.tmp 28) 1, type := 4, pos := "ref.go:311", after := #[{ on := 11, ground := Go.Ground.data }, { on := 14, ground := Go.Ground.gcOnly Go.Departure.lateStores }], guard := none } : Oper)) (v := ?v13_12s1) rfl (by kernel_rfl) (by kernel_rfl) (by kernel_rfl) (fun _ _ _ h => h) (Or.inl ⟨by rfl, ?hy13_12s1⟩) (by assumption) ?re13_12s1
                case hy13_12s1 => ((intro w hSw; go_simp) <;> with_reducible rfl)
                (try simp only [Act.put, List.setIfInBounds_toArray, List.set_cons_zero, List.set_cons_succ])
                refine wpAnyH_take (i := 14) (oi := ({ dst := some 7, op := Go.Op.assign (Go.Operand.tmp 40), type := 9, pos := "ref.go:311", after := #[{ on := 12, ground := Go.Ground.data }, { on := 10, ground := Go.Ground.chain }, { on := 0, ground := Go.Ground.phase }, { on := 1, ground := Go.Ground.phase }, { on := 2, ground := Go.Ground.phase }, { on := 3, ground := Go.Ground.phase }, { on := 4, ground := Go.Ground.phase }, { on := 5, ground := Go.Ground.phase }, { on := 6, ground := Go.Ground.phase }, { on := 7, ground := Go.Ground.phase }, { on := 8, ground := Go.Ground.phase }, { on := 9, ground := Go.Ground.phase }, { on := 10, ground := Go.Ground.phase }, { on := 11, ground := Go.Ground.phase }, { on := 12, ground := Go.Ground.phase }, { on := 13, ground := Go.Ground.textOnly Go.Departure.lateStores }], guard := none } : Oper)) (v := ?v14_13s1) rfl (by kernel_rfl) (by kernel_rfl) (by kernel_rfl) (fun _ _ _ h => h) (Or.inl ⟨by rfl, ?hy14_13s1⟩) (by assumption) ?re14_13s1
                case hy14_13s1 => ((intro w hSw; go_simp) <;> with_reducible rfl)
                (try simp only [Act.put, List.setIfInBounds_toArray, List.set_cons_zero, List.set_cons_succ])
                refine wpAnyH_take (i := 15) (oi := ({ dst := some 8, op := Go.Op.assign (Go.Operand.tmp 41), type := 4, pos := "ref.go:311", after := #[{ on := 13, ground := Go.Ground.data }, { on := 14, ground := Go.Ground.chain }, { on := 0, ground := Go.Ground.phase }, { on := 1, ground := Go.Ground.phase }, { on := 2, ground := Go.Ground.phase }, { on := 3, ground := Go.Ground.phase }, { on := 4, ground := Go.Ground.phase }, { on := 5, ground := Go.Ground.phase }, { on := 6, ground := Go.Ground.phase }, { on := 7, ground := Go.Ground.phase }, { on := 8, ground := Go.Ground.phase }, { on := 9, ground := Go.Ground.phase }, { on := 10, ground := Go.Ground.phase }, { on := 11, ground := Go.Ground.phase }, { on := 12, ground := Go.Ground.phase }, { on := 13, ground := Go.Ground.phase }, { on := 14, ground := Go.Ground.phase }], guard := none } : Oper)) (v := ?v15_14s1) rfl (by kernel_rfl) (by kernel_rfl) (by kernel_rfl) (fun _ _ _ h => h) (Or.inl ⟨by rfl, ?hy15_14s1⟩) (by assumption) ?re15_14s1
                case hy15_14s1 => ((intro w hSw; go_simp) <;> with_reducible rfl)
                (try simp only [Act.put, List.setIfInBounds_toArray, List.set_cons_zero, List.set_cons_succ])
                refine wpAnyH_done (by kernel_rfl) ?_ _
                refine NoPanic.normal ?_
                go_wp2_with fail
                go_ret
                exact ⟨_, rfl, HZ.out _, (below_drewN hB (1 + q)).trans (B2.mono (below_drewN hB (1 + q)).size)⟩
              exact AllReadyH.nil
            exact AllReadyH.nil
          · obtain ⟨hx0, hx9, hx1, hx2⟩ := hex.out
            clear hex
            go_wp2_with fail
            refine wp_region_noPanic ?_
            refine wp_region_held_drew (S := fun _ => True) (by kernel_rfl) ?_ (fun hHeld => ?_)
            · exact trivial
            refine wpAnyH_take (i := 0) (oi := ({ dst := some 29, op := Go.Op.move (Go.Operand.tmp 0), type := 9, pos := "ref.go:311", after := #[], guard := none } : Oper)) (v := ?v0_1s2) rfl (by kernel_rfl) (by kernel_rfl) (by kernel_rfl) (fun _ _ _ h => h) (Or.inl ⟨by rfl, ?hy0_1s2⟩) (by assumption) ?re0_1s2
            case hy0_1s2 => ((intro w hSw; go_simp) <;> with_reducible rfl)
            (try simp only [Act.put, List.setIfInBounds_toArray, List.set_cons_zero, List.set_cons_succ])
            refine wpAnyH_take (i := 1) (oi := ({ dst := some 30, op := Go.Op.call { callee := Go.Callee.builtin Go.Builtin.len, args := #[Go.Operand.tmp 29], argTypes := #[9] }, type := 3, pos := "ref.go:311", after := #[{ on := 0, ground := Go.Ground.data }], guard := none } : Oper)) (v := ?v1_2s2) rfl (by kernel_rfl) (by kernel_rfl) (by kernel_rfl) (fun _ _ _ h => h) (Or.inl ⟨by rfl, ?hy1_2s2⟩) (by assumption) ?re1_2s2
            case hy1_2s2 => ((intro w hSw; go_simp) <;> with_reducible rfl)
            (try simp only [Act.put, List.setIfInBounds_toArray, List.set_cons_zero, List.set_cons_succ])
            refine wpAnyH_take (i := 2) (oi := ({ dst := some 31, op := Go.Op.binOp Go.BinOp.gtr 3 (Go.Operand.tmp 30) (Go.Operand.const (Go.Value.int Go.IntKind.i64 0)) 3, type := 4, pos := "ref.go:311", after := #[{ on := 1, ground := Go.Ground.data }], guard := none } : Oper)) (v := ?v2_3s2) rfl (by kernel_rfl) (by kernel_rfl) (by kernel_rfl) (fun _ _ _ h => h) (Or.inl ⟨by rfl, ?hy2_3s2⟩) (by assumption) ?re2_3s2
            case hy2_3s2 => ((intro w hSw; go_simp) <;> with_reducible rfl)
            (try simp only [Act.put, List.setIfInBounds_toArray, List.set_cons_zero, List.set_cons_succ])
            refine wpAnyH_take (i := 3) (oi := ({ dst := some 32, op := Go.Op.move (Go.Operand.tmp 31), type := 4, pos := "ref.go:311", after := #[{ on := 2, ground := Go.Ground.data }], guard := none } : Oper)) (v := ?v3_4s2) rfl (by kernel_rfl) (by kernel_rfl) (by kernel_rfl) (fun _ _ _ h => h) (Or.inl ⟨by rfl, ?hy3_4s2⟩) (by assumption) ?re3_4s2
            case hy3_4s2 => ((intro w hSw; go_simp) <;> with_reducible rfl)
            (try simp only [Act.put, List.setIfInBounds_toArray, List.set_cons_zero, List.set_cons_succ])
            refine wpAnyH_take (i := 4) (oi := ({ dst := some 33, op := Go.Op.move (Go.Operand.tmp 0), type := 9, pos := "ref.go:311", after := #[{ on := 3, ground := Go.Ground.guard }], guard := some (3, true) } : Oper)) (v := ?v4_5s2) rfl (by kernel_rfl) (by kernel_rfl) (by kernel_rfl) (fun _ _ _ h => h) (Or.inl ⟨by rfl, ?hy4_5s2⟩) (by assumption) ?re4_5s2
            case hy4_5s2 => ((intro w hSw; go_simp) <;> with_reducible rfl)
            (try simp only [Act.put, List.setIfInBounds_toArray, List.set_cons_zero, List.set_cons_succ])
            refine wpAnyH_take (i := 5) (oi := ({ dst := some 34, op := Go.Op.index 9 (Go.Operand.tmp 33) (Go.Operand.const (Go.Value.int Go.IntKind.i64 0)), type := 5, pos := "ref.go:311", after := #[{ on := 4, ground := Go.Ground.data }, { on := 3, ground := Go.Ground.guard }], guard := some (3, true) } : Oper)) (v := ?v5_6s2) rfl (by kernel_rfl) (by kernel_rfl) (by kernel_rfl) (fun _ _ _ h => h) (Or.inl ⟨by rfl, ?hy5_6s2⟩) (by assumption) ?re5_6s2
            case hy5_6s2 => ((intro w hSw; go_simp) <;> with_reducible rfl)
            (try simp only [Act.put, List.setIfInBounds_toArray, List.set_cons_zero, List.set_cons_succ])
            refine wpAnyH_take (i := 6) (oi := ({ dst := some 35, op := Go.Op.binOp Go.BinOp.geq 5 (Go.Operand.tmp 34) (Go.Operand.const (Go.Value.int Go.IntKind.u8 128)) 5, type := 4, pos := "ref.go:311", after := #[{ on := 5, ground := Go.Ground.data }, { on := 3, ground := Go.Ground.guard }], guard := some (3, true) } : Oper)) (v := ?v6_7s2) rfl (by kernel_rfl) (by kernel_rfl) (by kernel_rfl) (fun _ _ _ h => h) (Or.inl ⟨by rfl, ?hy6_7s2⟩) (by assumption) ?re6_7s2
            case hy6_7s2 => ((intro w hSw; go_simp) <;> with_reducible rfl)
            (try simp only [Act.put, List.setIfInBounds_toArray, List.set_cons_zero, List.set_cons_succ])
            refine wpAnyH_take (i := 7) (oi := ({ dst := some 36, op := Go.Op.pick (Go.Operand.tmp 32) (Go.Operand.tmp 35) (Go.Operand.const (Go.Value.bool false)), type := 4, pos := "ref.go:311", after := #[{ on := 3, ground := Go.Ground.data }, { on := 6, ground := Go.Ground.data }], guard := none } : Oper)) (v := ?v7_8s2) rfl (by kernel_rfl) (by kernel_rfl) (by kernel_rfl) (fun _ _ _ h => h) (Or.inl ⟨by rfl, ?hy7_8s2⟩) (by assumption) ?re7_8s2
            case hy7_8s2 => ((intro w hSw; go_simp) <;> with_reducible rfl)
            (try simp only [Act.put, List.setIfInBounds_toArray, List.set_cons_zero, List.set_cons_succ])
            refine wpAnyH_take (i := 8) (oi := ({ dst := some 37, op := Go.Op.move (Go.Operand.tmp 5), type := 40, pos := "ref.go:311", after := #[], guard := none } : Oper)) (v := ?v8_9s2) rfl (by kernel_rfl) (by kernel_rfl) (by kernel_rfl) (fun _ _ _ h => h) (Or.inl ⟨by rfl, ?hy8_9s2⟩) (by assumption) ?re8_9s2
            case hy8_9s2 => ((intro w hSw; go_simp) <;> with_reducible rfl)
            (try simp only [Act.put, List.setIfInBounds_toArray, List.set_cons_zero, List.set_cons_succ])
            refine wpAnyH_ready (rs := [9]) (by kernel_rfl) (by simp) ?_
            refine AllReadyH.cons (o := ({ dst := some 38, op := Go.Op.call { callee := Go.Callee.value (Go.Operand.func 29), args := #[Go.Operand.tmp 37], argTypes := #[40] }, type := 40, pos := "ref.go:311", after := #[{ on := 8, ground := Go.Ground.data }, { on := 3, ground := Go.Ground.chain }], guard := none } : Oper)) rfl (fun K hK => ?_) ?_
            · go_simp
              go_at_call 29
              refine (CT.out _ (Below.refl _ _).drew).mono ?_
              rintro e w1 ⟨rfl, q, rfl⟩
              (try go_wp2_with fail)
              refine hK.out _ _ ?_ (fun hHeld => ?_)
              · exact trivial
              clear hK K
              (try simp only [Act.put, List.setIfInBounds_toArray, List.set_cons_zero, List.set_cons_succ])
              refine wpAnyH_ready (rs := [10]) (by kernel_rfl) (by simp) ?_
              refine AllReadyH.cons (o := ({ dst := some 39, op := Go.Op.call { callee := Go.Callee.value (Go.Operand.func 28), args := #[Go.Operand.tmp 36, Go.Operand.tmp 38], argTypes := #[4, 40] }, type := 41, pos := "ref.go:311", after := #[{ on := 7, ground := Go.Ground.data }, { on := 9, ground := Go.Ground.data }, { on := 9, ground := Go.Ground.chain }], guard := none } : Oper)) rfl (fun K hK => ?_) ?_
              · go_simp
                go_at_call 28
                refine (CX.out _ _ (below_drewN (Below.refl _ _) (1 + q))).mono ?_
                rintro e w2 ⟨rfl, B2⟩
                (try go_wp2_with fail)
                refine hK.out _ _ ?_ (fun hHeld => ?_)
                · exact trivial
                clear hK K
                (try simp only [Act.put, List.setIfInBounds_toArray, List.set_cons_zero, List.set_cons_succ])
                refine wpAnyH_take (i := 11) (oi := ({ dst := some 28, op := Go.Op.move (Go.Operand.tmp 39), type := 41, pos := "ref.go:311", after := #[{ on := 10, ground := Go.Ground.data }], guard := none } : Oper)) (v := ?v11_10s2) rfl (by kernel_rfl) (by kernel_rfl) (by kernel_rfl) (fun _ _ _ h => h) (Or.inl ⟨by rfl, ?hy11_10s2⟩) (by assumption) ?re11_10s2
                case hy11_10s2 => ((intro w hSw; go_simp) <;> with_reducible rfl)
                (try simp only [Act.put, List.setIfInBounds_toArray, List.set_cons_zero, List.set_cons_succ])
                refine wpAnyH_take (i := 12) (oi := ({ dst := some 40, op := Go.Op.extract (Go.Operand.tmp 28) 0, type := 9, pos := "ref.go:311", after := #[{ on := 11, ground := Go.Ground.data }], guard := none } : Oper)) (v := ?v12_11s2) rfl (by kernel_rfl) (by kernel_rfl) (by kernel_rfl) (fun _ _ _ h => h) (Or.inl ⟨by rfl, ?hy12_11s2⟩) (by assumption) ?re12_11s2
                case hy12_11s2 => ((intro w hSw; go_simp) <;> with_reducible rfl)
                (try simp only [Act.put, List.setIfInBounds_toArray, List.set_cons_zero, List.set_cons_succ])
                refine wpAnyH_take (i := 13) (oi := ({ dst := some 41, op := Go.Op.extract (Go.Operand.tmp 28) 1, type := 4, pos := "ref.go:311", after := #[{ on := 11, ground := Go.Ground.data }, { on := 14, ground := Go.Ground.gcOnly Go.Departure.lateStores }], guard := none } : Oper)) (v := ?v13_12s2) rfl (by kernel_rfl) (by kernel_rfl) (by kernel_rfl) (fun _ _ _ h => h) (Or.inl ⟨by rfl, ?hy13_12s2⟩) (by assumption) ?re13_12s2
                case hy13_12s2 => ((intro w hSw; go_simp) <;> with_reducible rfl)
                (try simp only [Act.put, List.setIfInBounds_toArray, List.set_cons_zero, List.set_cons_succ])
                refine wpAnyH_take (i := 14) (oi := ({ dst := some 7, op := Go.Op.assign (Go.Operand.tmp 40), type := 9, pos := "ref.go:311", after := #[{ on := 12, ground := Go.Ground.data }, { on := 10, ground := Go.Ground.chain }, { on := 0, ground := Go.Ground.phase }, { on := 1, ground := Go.Ground.phase }, { on := 2, ground := Go.Ground.phase }, { on := 3, ground := Go.Ground.phase }, { on := 4, ground := Go.Ground.phase }, { on := 5, ground := Go.Ground.phase }, { on := 6, ground := Go.Ground.phase }, { on := 7, ground := Go.Ground.phase }, { on := 8, ground := Go.Ground.phase }, { on := 9, ground := Go.Ground.phase }, { on := 10, ground := Go.Ground.phase }, { on := 11, ground := Go.Ground.phase }, { on := 12, ground := Go.Ground.phase }, { on := 13, ground := Go.Ground.textOnly Go.Departure.lateStores }], guard := none } : Oper)) (v := ?v14_13s2) rfl (by kernel_rfl) (by kernel_rfl) (by kernel_rfl) (fun _ _ _ h => h) (Or.inl ⟨by rfl, ?hy14_13s2⟩) (by assumption) ?re14_13s2
                case hy14_13s2 => ((intro w hSw; go_simp) <;> with_reducible rfl)
                (try simp only [Act.put, List.setIfInBounds_toArray, List.set_cons_zero, List.set_cons_succ])
                refine wpAnyH_take (i := 15) (oi := ({ dst := some 8, op := Go.Op.assign (Go.Operand.tmp 41), type := 4, pos := "ref.go:311", after := #[{ on := 13, ground := Go.Ground.data }, { on := 14, ground := Go.Ground.chain }, { on := 0, ground := Go.Ground.phase }, { on := 1, ground := Go.Ground.phase }, { on := 2, ground := Go.Ground.phase }, { on := 3, ground := Go.Ground.phase }, { on := 4, ground := Go.Ground.phase }, { on := 5, ground := Go.Ground.phase }, { on := 6, ground := Go.Ground.phase }, { on := 7, ground := Go.Ground.phase }, { on := 8, ground := Go.Ground.phase }, { on := 9, ground := Go.Ground.phase }, { on := 10, ground := Go.Ground.phase }, { on := 11, ground := Go.Ground.phase }, { on := 12, ground := Go.Ground.phase }, { on := 13, ground := Go.Ground.phase }, { on := 14, ground := Go.Ground.phase }], guard := none } : Oper)) (v := ?v15_14s2) rfl (by kernel_rfl) (by kernel_rfl) (by kernel_rfl) (fun _ _ _ h => h) (Or.inl ⟨by rfl, ?hy15_14s2⟩) (by assumption) ?re15_14s2
                case hy15_14s2 => ((intro w hSw; go_simp) <;> with_reducible rfl)
                (try simp only [Act.put, List.setIfInBounds_toArray, List.set_cons_zero, List.set_cons_succ])
                refine wpAnyH_done (by kernel_rfl) ?_ _
                refine NoPanic.normal ?_
                go_wp2_with fail
                go_ret
                exact ⟨_, rfl, HZ.out _, (below_drewN hB (1 + q)).trans (B2.mono (below_drewN hB (1 + q)).size)⟩
              exact AllReadyH.nil
            exact AllReadyH.nil
end Go.Proofs.YtbdiofifjckceaaGreatDoor
