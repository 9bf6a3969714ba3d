/- RationalTextMatchesReference: the walk of the law. -/
import Derived.Test.YtdnbhgkbfbgnaaaGreatDoorKe
namespace Go.Proofs.YtdnbhgkbfbgnaaaGreatDoor
open Go.RowKit

theorem Long_Q (x0 x1 x2 x3 : Int) (w : World) (b0 : -9223372036854775808 ≤ x0 ∧ x0 ≤ 9223372036854775807) (b1 : -9223372036854775808 ≤ x1 ∧ x1 ≤ 9223372036854775807) (b2 : -9223372036854775808 ≤ x2 ∧ x2 ≤ 9223372036854775807) (b3 : -9223372036854775808 ≤ x3 ∧ x3 ≤ 9223372036854775807) :
    Calls Tryz.prog 14 #[.agg #[.int .i64 x0, .int .i64 x1, .int .i64 x2, .int .i64 x3]] w fun e w' => ∃ a b : ByteArray, e = .returned (.agg #[.string a, .string b]) ∧ (Sh a ∧ Sh b ∧ ∃ q, Value.agg #[.string a, .string b] = RV q ∧ fitR 200 q) ∧ Below w.heap.size w w' :=
  (Long_any x0 x1 x2 x3 w b0 b1 b2 b3).mono fun _ _ ⟨q, h, s, b⟩ => ⟨_, _, h, ⟨Sh.S (s.wide (by decide)).1, Sh.S (den_abs q (s.wide (by decide))), q, rfl, s.wide (by decide)⟩, b⟩
set_option maxRecDepth 100000 in
set_option maxHeartbeats 2000000 in
theorem lpick_var (c : Int) (n : Nat) (w : World) (h1 : -9223372036854775808 ≤ c) (h2 : c ≤ 9223372036854775807) (hn : 0 < n) (hn9 : n ≤ 1000) :
    Calls Tryz.prog 23 #[.int .i64 c, .int .i64 (n : Int)] w fun e w' => ∃ p : Nat, e = .returned (.int .i64 (p : Int)) ∧ p < n ∧ Below w.heap.size w w' := by
  have n0 : ¬ ((n : Int) = 0) := by omega
  by_cases h : c < 0
  · have e1 : wrap64 (c + 1) = c + 1 := by simp [wrap64]; omega
    have e2 : wrap64 (-(c + 1)) = -(c + 1) := by simp [wrap64]; omega
    have e3 : (-(c + 1)).tmod (n : Int) = (((-(c + 1)).toNat % n : Nat) : Int) := by
      rw [Int.tmod_eq_emod_of_nonneg (by omega), Int.natCast_emod, Int.toNat_of_nonneg (by omega)]
    obtain ⟨r, hr⟩ : ∃ r : Nat, (-(c + 1)).toNat % n = r := ⟨_, rfl⟩
    have hrn : r < n := by rw [← hr]; exact Nat.mod_lt _ hn
    rw [hr] at e3
    have HE := Lib.hid e3
    have HE2 := Lib.hid (show -((c + 1).tmod (n : Int)) = (r : Int) by rw [← Int.neg_tmod]; exact e3)
    have e4 : wrap64 (r : Int) = (r : Int) := by simp [wrap64]; omega
    have e5 : IntKind.i64.wrap (r : Int) = (r : Int) := by simp [IntKind.wrap, IntKind.bits, IntKind.signed]; omega
    have e6 := HE2.out
    clear hr
    go_enter Tryz.func23, Tryz.ntmps23
    go_wp2
    go_ret
    exact ⟨r, by first | rfl | (rw [← HE2.out]; rfl) | (rw [← HE.out]; rfl), hrn, Below.refl _ _⟩
  · have e3 : c.tmod (n : Int) = ((c.toNat % n : Nat) : Int) := by
      rw [Int.tmod_eq_emod_of_nonneg (by omega), Int.natCast_emod, Int.toNat_of_nonneg (by omega)]
    obtain ⟨r, hr⟩ : ∃ r : Nat, c.toNat % n = r := ⟨_, rfl⟩
    have hrn : r < n := by rw [← hr]; exact Nat.mod_lt _ hn
    rw [hr] at e3
    have HE := Lib.hid e3
    have e6 : c % (n : Int) = (r : Int) := by rw [← Int.tmod_eq_emod_of_nonneg (by omega)]; exact e3
    have HE2 := Lib.hid e6
    have e4 : wrap64 (r : Int) = (r : Int) := by simp [wrap64]; omega
    have e5 : IntKind.i64.wrap (r : Int) = (r : Int) := by simp [IntKind.wrap, IntKind.bits, IntKind.signed]; omega
    clear hr
    go_enter Tryz.func23, Tryz.ntmps23
    go_wp2
    go_ret
    exact ⟨r, by first | rfl | (rw [← HE2.out]; rfl) | (rw [← HE.out]; rfl), hrn, Below.refl _ _⟩
/-- a fraction that is printed and parsed: what the law meets -/
theorem text_facts (a b : ByteArray) (ha : Sh a) (hb : Sh b) : ∃ (s x y : ByteArray) (v : Bool) (e : Int), ((v = true ∧ x = a ∧ y = b ∧ e = 0 ∧ (s.toList == []) = false) ∨ (v = false ∧ s = ⟨#[]⟩ ∧ e = 40)) ∧ s.size ≤ 403 ∧ (∀ q, Value.agg #[.string a, .string b] = RV q → fitR 200 q → v = true) ∧
    (∀ W, Calls Tryz.prog 34 #[.agg #[.string a, .string b]] W fun o w' => o = .returned (.string s) ∧ Below W.heap.size W w') ∧
    (∀ W, Calls Tryz.prog 36 #[.agg #[.string a, .string b]] W fun o w' => o = .returned (.string s) ∧ Below W.heap.size W w') ∧
    (∀ W, Calls Tryz.prog 30 #[.agg #[.string a, .string b]] W fun o w' => o = .returned (.bool v) ∧ Below W.heap.size W w') ∧
    (∀ W, Tz W → Calls Tryz.prog 35 #[.string s] W fun o w' => o = .returned (.tuple #[.agg #[.string x, .string y], .int .i64 e]) ∧ Below W.heap.size W w') := by
  obtain ⟨s, v, h1, h2, h3, h4, c1, c2, c3, _⟩ := agPrint_4 a b ha hb
  obtain ⟨x, y, e, g1, g2, g3, d1, _⟩ := agParse_4 s (by omega)
  have hst : ∀ q, fitR 200 q → s = prt q → (s.toList == []) = false := fun q hq e => by
    rw [beq_eq_false_iff_ne]
    exact fun h => prt_ne hq (e ▸ toList_inj (b := ⟨#[]⟩) (by rw [h, ByteArray.toList_eq]))
  refine ⟨s, x, y, v, e, ?_, h1, fun q hq hf => h4 q hf hq, c1, c2, c3, d1⟩
  cases v
  · have hs : s = ⟨#[]⟩ := by
      have h9 : s.data.toList = [] := List.eq_nil_of_length_eq_zero (h2.2 rfl)
      refine toList_inj ?_
      rw [ByteArray.toList_eq, ByteArray.toList_eq, h9]
    refine .inr ⟨rfl, hs, g1.resolve_left fun h => ?_⟩
    obtain ⟨q, _, hq, e5⟩ := g2 h
    exact prt_ne hq (by rw [← e5, hs])
  · obtain ⟨q, e1, hq, e2⟩ := h3 rfl
    have h0 := g3 q hq e2
    obtain ⟨q', e3, hq', e4⟩ := g2 h0
    have hqq : q = q' := by
      obtain ⟨x', y', _, _, hxy⟩ := v4Parse_any s (by omega)
      have := RV_inj ((hxy.1 q e2.symm).symm.trans (hxy.1 q' e4.symm))
      exact this
    have h5 : Value.agg #[.string x, .string y] = .agg #[.string a, .string b] := by rw [e1, e3, hqq]
    have h6 : x = a ∧ y = b := by simpa using h5
    exact .inl ⟨rfl, h6.1, h6.2, h0, hst q hq e2⟩
theorem two_P (a b c d : ByteArray) (ha : Sh a) (hb : Sh b) (hc : Sh c) (hd : Sh d) :
    ∃ P : Nat → ByteArray × ByteArray, (∀ k, Sh (P k).1 ∧ Sh (P k).2) ∧ ∀ k, k < 2 → (#[Value.string a, .string b, .string c, .string d] : Array Value)[k * 2]? = some (.string (P k).1) ∧ (#[Value.string a, .string b, .string c, .string d] : Array Value)[k * 2 + 1]? = some (.string (P k).2) := by
  refine ⟨fun k => match k with | 0 => (a, b) | _ => (c, d), fun k => ?_, fun k hk => ?_⟩
  · dsimp only
    split <;> exact ⟨by assumption, by assumption⟩
  · rcases (by omega : k = 0 ∨ k = 1) with rfl | rfl <;> exact ⟨rfl, rfl⟩
theorem cut420 (s : ByteArray) : ∃ p : ByteArray, s.extract 0 (min (s.size : Int) 420).toNat = p ∧ p.size ≤ 420 := ⟨_, rfl, by rw [ByteArray.size_extract]; omega⟩
theorem PB.one {t : TypeId} {w : World} {g : Nat} {x y : ByteArray} (h : PB t w g (.string x) (.string y)) (hx : x.size ≤ 50000) (hy : y.size ≤ 50000) (j : Nat) (hj : j < 2) : ∃ u : ByteArray, w.cell? ⟨g, j, none⟩ = some (.string u) ∧ u.size ≤ 50000 := by
  rcases (by omega : j = 0 ∨ j = 1) with rfl | rfl
  · exact ⟨x, h.c0, hx⟩
  · exact ⟨y, h.c1, hy⟩

set_option maxRecDepth 100000 in
set_option maxHeartbeats 16000000 in
theorem rtextlaw_any (x1 x2 raw : ByteArray) (l0 l1 l2 l3 at' : Int) (c : UInt8) (w : World) (hx1 : x1.size ≤ 9223372036854775807) (hx2 : x2.size ≤ 9223372036854775807) (hraw : raw.size ≤ 9223372036854775807) (bl0 : -9223372036854775808 ≤ l0 ∧ l0 ≤ 9223372036854775807) (bl1 : -9223372036854775808 ≤ l1 ∧ l1 ≤ 9223372036854775807) (bl2 : -9223372036854775808 ≤ l2 ∧ l2 ≤ 9223372036854775807) (bl3 : -9223372036854775808 ≤ l3 ∧ l3 ≤ 9223372036854775807) (bat' : -9223372036854775808 ≤ at' ∧ at' ≤ 9223372036854775807) (hT : Tz w) :
    Calls Tryz.prog 4 #[.agg #[.string x1, .string x2], .agg #[.int .i64 l0, .int .i64 l1, .int .i64 l2, .int .i64 l3], .int .i64 at', .int .u8 (c.toNat : Int), .string raw] w fun e w' => e = .returned (.bool true) ∧ Below w.heap.size w w' := by
  have h1 : (w.alloc (.cells #[.string x1, .string x2] 23)).heap.size = w.heap.size + 1 := World.size_alloc _ _
  have X := Lib.hid ((RBlk.new w (.string x1) (.string x2)).alloc (.cells #[.int .i64 l0, .int .i64 l1, .int .i64 l2, .int .i64 l3] 24))
  have LL := Lib.hid (h1 ▸ CBlk.new (w.alloc (.cells #[.string x1, .string x2] 23)) #[.int .i64 l0, .int .i64 l1, .int .i64 l2, .int .i64 l3] 24 : CBlk ((w.alloc (.cells #[.string x1, .string x2] 23)).alloc (.cells #[.int .i64 l0, .int .i64 l1, .int .i64 l2, .int .i64 l3] 24)) (w.heap.size + 1) #[.int .i64 l0, .int .i64 l1, .int .i64 l2, .int .i64 l3] 24)
  have HB := Lib.hid ((below_alloc w (.cells #[.string x1, .string x2] 23)).alloc (by rw [h1]; omega) (.cells #[.int .i64 l0, .int .i64 l1, .int .i64 l2, .int .i64 l3] 24))
  have HT := Lib.hid hT
  clear hT h1
  go_enter Tryz.func4, Tryz.ntmps4
  go_wp2_with fail
  go_at_call 12
  refine (sane4_any _ (HT.out.below HB.out)).mono ?_
  rintro e W1 ⟨rfl, B⟩
  have Xn := Lib.hid ((X.out.keep B X.out.lt))
  have LLn := Lib.hid ((LL.out.keep B LL.out.lt))
  have HBn := Lib.hid (HB.out.trans (B.mono HB.out.size))
  clear X LL HB
  have X := Xn
  have LL := LLn
  have HB := HBn
  clear Xn LLn HBn
  clear B
  have g0 := LL.out.c 0 rfl
  have g1 := LL.out.c 1 rfl
  have g2 := LL.out.c 2 rfl
  have g3 := LL.out.c 3 rfl
  go_wp2_with fail
  clear g0 g1 g2 g3
  go_at_call 14
  refine (Long_Q l0 l1 l2 l3 _ bl0 bl1 bl2 bl3).mono ?_
  rintro e W2 ⟨m1, m2, rfl, ⟨zm1, zm2, hmq⟩, B⟩
  have Xn := Lib.hid ((X.out.keep B X.out.lt).alloc (.cells #[(.string m1), (.string m2)] 23))
  have LLn := Lib.hid ((LL.out.keep B LL.out.lt).alloc (.cells #[(.string m1), (.string m2)] 23))
  have HBn := Lib.hid ((HB.out.trans (B.mono HB.out.size)).alloc (HB.out.trans (B.mono HB.out.size)).size (.cells #[(.string m1), (.string m2)] 23))
  clear X LL HB
  have X := Xn
  have LL := LLn
  have HB := HBn
  clear Xn LLn HBn
  have Mk := Lib.hid (RBlk.new W2 (.string m1) (.string m2))
  clear B
  clear LL
  have HMQ := Lib.hid hmq
  clear hmq
  go_upto_region 3 with fail
  generalize hW03 : (W2.alloc (.cells #[.string m1, .string m2] 23)) = W03 at *
  clear hW03
  refine wp_region_noPanic ?_
  refine wp_region_held_drew (S := fun W => RBlk W (w.heap.size) (.string x1) (.string x2) ∧ RBlk W (W2.heap.size) (.string m1) (.string m2)) (by kernel_rfl) ?_ (fun hHeld => ?_)
  · exact ⟨X.out, Mk.out⟩
  have Xn := Lib.hid X.out.drew
  have Mkn := Lib.hid Mk.out.drew
  have HBn := Lib.hid HB.out.drew
  clear X Mk HB
  have X := Xn
  have Mk := Mkn
  have HB := HBn
  clear Xn Mkn HBn
  refine wpAnyH_take (i := 0) (oi := ({ dst := some 29, op := Go.Op.load 23 (Go.Operand.tmp 5), type := 23, pos := "law.go:105", after := #[], guard := none } : Oper)) (v := ?v0_1_3_1) rfl (by kernel_rfl) (by kernel_rfl) (by kernel_rfl) (fun _ _ _ h => h) (Or.inl ⟨by first | kernel_rfl | rfl, ?hy0_1_3_1⟩) (by assumption) ?re0_1_3_1
  case hy0_1_3_1 => ((intro w hSw; have e0_0 := hSw.1.c0; have e0_1 := hSw.1.c1; have e1_0 := hSw.2.c0; have e1_1 := hSw.2.c1; go_simp) <;> with_reducible rfl)
  (try simp only [Act.put, List.setIfInBounds_toArray, List.set_cons_zero, List.set_cons_succ])
  refine wpAnyH_take (i := 2) (oi := ({ dst := some 31, op := Go.Op.load 23 (Go.Operand.tmp 12), type := 23, pos := "law.go:105", after := #[], guard := none } : Oper)) (v := ?v2_2_3_1) rfl (by kernel_rfl) (by kernel_rfl) (by kernel_rfl) (fun _ _ _ h => h) (Or.inl ⟨by first | kernel_rfl | rfl, ?hy2_2_3_1⟩) (by assumption) ?re2_2_3_1
  case hy2_2_3_1 => ((intro w hSw; have e0_0 := hSw.1.c0; have e0_1 := hSw.1.c1; have e1_0 := hSw.2.c0; have e1_1 := hSw.2.c1; go_simp) <;> with_reducible rfl)
  (try simp only [Act.put, List.setIfInBounds_toArray, List.set_cons_zero, List.set_cons_succ])
  refine wpAnyH_take (i := 5) (oi := ({ dst := some 34, op := Go.Op.move (Go.Operand.const (Go.Value.int Go.IntKind.i64 0)), type := 3, pos := "law.go:105", after := #[], guard := none } : Oper)) (v := ?v5_3_3_1) rfl (by kernel_rfl) (by kernel_rfl) (by kernel_rfl) (fun _ _ _ h => h) (Or.inl ⟨by first | kernel_rfl | rfl, ?hy5_3_3_1⟩) (by assumption) ?re5_3_3_1
  case hy5_3_3_1 => ((intro w hSw; go_simp) <;> with_reducible rfl)
  (try simp only [Act.put, List.setIfInBounds_toArray, List.set_cons_zero, List.set_cons_succ])
  refine wpAnyH_ready (rs := [1]) (by kernel_rfl) (by simp) ?_
  refine AllReadyH.cons (o := ({ dst := some 30, op := Go.Op.call { callee := Go.Callee.value (Go.Operand.func 13), args := #[Go.Operand.tmp 29], argTypes := #[23] }, type := 23, pos := "law.go:105", after := #[{ on := 0, ground := Go.Ground.data }], guard := none } : Oper)) rfl (fun K hK => ?_) ?_
  · go_simp
    go_at_call 13
    refine (cut_T x1 x2 _ hx1 hx2).mono ?_
    rintro e W3_1 ⟨t1, t2, rfl, ⟨zt1, zt2⟩, B⟩
    have Xn := Lib.hid (X.out.keep B X.out.lt)
    have Mkn := Lib.hid (Mk.out.keep B Mk.out.lt)
    have HBn := Lib.hid (HB.out.trans (B.mono HB.out.size))
    clear X Mk HB
    have X := Xn
    have Mk := Mkn
    have HB := HBn
    clear Xn Mkn HBn
    (try go_wp2_with fail)
    refine hK.out _ _ ?_ (fun hHeldN => ?_)
    · exact ⟨hHeld.1.keep B hHeld.1.lt, hHeld.2.keep B hHeld.2.lt⟩
    clear hK K
    clear hHeld
    have hHeld := hHeldN
    clear hHeldN
    (try simp only [Act.put, List.setIfInBounds_toArray, List.set_cons_zero, List.set_cons_succ])
    clear B
    refine wpAnyH_ready (rs := [3]) (by kernel_rfl) (by simp) ?_
    refine AllReadyH.cons (o := ({ dst := some 32, op := Go.Op.buildSlice 30 2 #[(0, Go.Operand.tmp 30), (1, Go.Operand.tmp 31)], type := 30, pos := "law.go:105", after := #[{ on := 1, ground := Go.Ground.data }, { on := 2, ground := Go.Ground.data }], guard := none } : Oper)) rfl (fun K hK => ?_) ?_
    · go_simp
      obtain ⟨WA3_2, hWA3_2⟩ : ∃ W, W = (W3_1.alloc (.cells #[.string t1, .string t2, .string m1, .string m2] 23)) := ⟨_, rfl⟩
      rw [← hWA3_2]
      have Sl : Hid (CBlk WA3_2 W3_1.heap.size #[.string t1, .string t2, .string m1, .string m2] 23) := Lib.hid (by rw [hWA3_2]; exact CBlk.new W3_1 #[.string t1, .string t2, .string m1, .string m2] 23)
      have gSl : w.heap.size ≤ W3_1.heap.size := HB.out.size
      have hk : (fun W => RBlk W (w.heap.size) (.string x1) (.string x2) ∧ RBlk W (W2.heap.size) (.string m1) (.string m2)) WA3_2 := by rw [hWA3_2]; exact ⟨hHeld.1.alloc _, hHeld.2.alloc _⟩
      have Xn : Hid (RBlk WA3_2 (w.heap.size) (.string x1) (.string x2)) := Lib.hid (by rw [hWA3_2]; exact X.out.alloc _)
      have Mkn : Hid (RBlk WA3_2 (W2.heap.size) (.string m1) (.string m2)) := Lib.hid (by rw [hWA3_2]; exact Mk.out.alloc _)
      have HBn : Hid (Below w.heap.size w WA3_2) := Lib.hid (by rw [hWA3_2]; exact HB.out.alloc HB.out.size _)
      clear X Mk HB
      have X := Xn
      have Mk := Mkn
      have HB := HBn
      clear Xn Mkn HBn
      clear hWA3_2
      refine hK.out _ _ ?_ (fun hHeldN => ?_)
      · exact hk
      clear hK K
      clear hHeld
      have hHeld := hHeldN
      clear hHeldN
      (try simp only [Act.put, List.setIfInBounds_toArray, List.set_cons_zero, List.set_cons_succ])
      clear hk
      refine wpAnyH_take (i := 4) (oi := ({ dst := some 33, op := Go.Op.call { callee := Go.Callee.builtin Go.Builtin.len, args := #[Go.Operand.tmp 32], argTypes := #[30] }, type := 3, pos := "law.go:105", after := #[{ on := 3, ground := Go.Ground.data }], guard := none } : Oper)) (v := ?v4_4_3_1) rfl (by kernel_rfl) (by kernel_rfl) (by kernel_rfl) (fun _ _ _ h => h) (Or.inl ⟨by first | kernel_rfl | rfl, ?hy4_4_3_1⟩) (by assumption) ?re4_4_3_1
      case hy4_4_3_1 => ((intro w hSw; have e0_0 := hSw.1.c0; have e0_1 := hSw.1.c1; have e1_0 := hSw.2.c0; have e1_1 := hSw.2.c1; go_simp) <;> with_reducible rfl)
      (try simp only [Act.put, List.setIfInBounds_toArray, List.set_cons_zero, List.set_cons_succ])
      refine wpAnyH_done (by kernel_rfl) ?_ _
      refine NoPanic.normal ?_
      clear X
      obtain ⟨P, hP, hcs⟩ := two_P t1 t2 m1 m2 zt1 zt2 zm1 zm2
      generalize (#[.string t1, .string t2, .string m1, .string m2] : Array Value) = cs at *
      generalize W3_1.heap.size = gA at *
      generalize W2.heap.size = gM at *
      have HP := Lib.hid hP
      have HC := Lib.hid hcs
      have HM2 := Lib.hid (And.intro zm1 zm2)
      clear hP hcs zt1 zt2 zm1 zm2 hx1 hx2
      go_wp2_with fail
      go_loopw [34] (fun jv wr => ∃ j : Nat, j ≤ 2 ∧ jv = .int .i64 (j : Int) ∧ Hid (CBlk wr gA cs 23) ∧ Hid (RBlk wr gM (.string m1) (.string m2)) ∧ Hid (Below w.heap.size w wr)) (fun jv _ => 2 - (intOf jv).toNat)
      case atStart => exact ⟨0, by omega, rfl, Sl, Mk, HB⟩
      case round =>
        clear Sl Mk HB
        obtain ⟨j, hj, rfl, Sl, Mk, HB⟩ := hrel
        by_cases hj2 : j < 2
        · obtain ⟨n1, n2⟩ := HP.out j
          obtain ⟨k1, k2⟩ := HC.out j hj2
          generalize (P j).1 = a1 at *
          generalize (P j).2 = a2 at *
          have hjj : (j : Int) < 2 := by omega
          obtain ⟨s, px, py, v, e, hcase, hs9, _, c1, c2, c3, c4⟩ := text_facts a1 a2 n1 n2
          have C1 := Lib.hid c1
          have C2 := Lib.hid c2
          have C3 := Lib.hid c3
          have C4 := Lib.hid c4
          clear c1 c2 c3 c4 n1 n2
          rcases hcase with ⟨hv, e1, e2, e3, hst⟩ | ⟨hv, e1, e3⟩
          · subst hv e3
            have e1 := e1.symm
            have e2 := e2.symm
            subst e1 e2
            have u1 := Sl.out.c (j * 2) k1
            have u2 := Sl.out.c (j * 2 + 1) k2
            have Sln := Lib.hid (Sl.out.alloc (.cells #[.string a1, .string a2] 23))
            have Mkn := Lib.hid (Mk.out.alloc (.cells #[.string a1, .string a2] 23))
            have A := Lib.hid (RBlk.new wr (.string a1) (.string a2))
            have HBn := Lib.hid (HB.out.alloc HB.out.size (.cells #[.string a1, .string a2] 23))
            clear Sl Mk HB
            have Sl := Sln
            have Mk := Mkn
            have HB := HBn
            clear Sln Mkn HBn
            have v0 := A.out.c0
            have v1 := A.out.c1
            go_wp2_with fail
            clear u1 u2 v0 v1
            go_at_call 34
            refine (C1.out _).mono ?_
            rintro e Wt1 ⟨rfl, B⟩
            have Sln := Lib.hid ((Sl.out.keep B Sl.out.lt))
            have Mkn := Lib.hid ((Mk.out.keep B Mk.out.lt))
            have An := Lib.hid ((A.out.keep B A.out.lt))
            have HBn := Lib.hid (HB.out.trans (B.mono HB.out.size))
            clear Sl Mk A HB
            have Sl := Sln
            have Mk := Mkn
            have A := An
            have HB := HBn
            clear Sln Mkn An HBn
            clear B
            go_wp2_with fail
            go_at_call 35
            refine (C4.out _ (HT.out.below HB.out)).mono ?_
            rintro e Wt2 ⟨rfl, B⟩
            have Sln := Lib.hid ((Sl.out.keep B Sl.out.lt).alloc (.cells #[(.string a1), (.string a2)] 23))
            have Mkn := Lib.hid ((Mk.out.keep B Mk.out.lt).alloc (.cells #[(.string a1), (.string a2)] 23))
            have An := Lib.hid ((A.out.keep B A.out.lt).alloc (.cells #[(.string a1), (.string a2)] 23))
            have HBn := Lib.hid ((HB.out.trans (B.mono HB.out.size)).alloc (HB.out.trans (B.mono HB.out.size)).size (.cells #[(.string a1), (.string a2)] 23))
            clear Sl Mk A HB
            have Sl := Sln
            have Mk := Mkn
            have A := An
            have HB := HBn
            clear Sln Mkn An HBn
            have RA := Lib.hid (RBlk.new Wt2 (.string a1) (.string a2))
            clear B
            have v0 := A.out.c0
            have v1 := A.out.c1
            go_wp2_with fail
            clear v0 v1
            go_at_call 36
            refine (C2.out _).mono ?_
            rintro e Wt3 ⟨rfl, B⟩
            have Sln := Lib.hid ((Sl.out.keep B Sl.out.lt))
            have Mkn := Lib.hid ((Mk.out.keep B Mk.out.lt))
            have An := Lib.hid ((A.out.keep B A.out.lt))
            have RAn := Lib.hid ((RA.out.keep B RA.out.lt))
            have HBn := Lib.hid (HB.out.trans (B.mono HB.out.size))
            clear Sl Mk A RA HB
            have Sl := Sln
            have Mk := Mkn
            have A := An
            have RA := RAn
            have HB := HBn
            clear Sln Mkn An RAn HBn
            clear B
            have v0 := A.out.c0
            have v1 := A.out.c1
            go_wp2_with fail
            clear v0 v1
            go_at_call 30
            refine (C3.out _).mono ?_
            rintro e Wt4 ⟨rfl, B⟩
            have Sln := Lib.hid ((Sl.out.keep B Sl.out.lt))
            have Mkn := Lib.hid ((Mk.out.keep B Mk.out.lt))
            have An := Lib.hid ((A.out.keep B A.out.lt))
            have RAn := Lib.hid ((RA.out.keep B RA.out.lt))
            have HBn := Lib.hid (HB.out.trans (B.mono HB.out.size))
            clear Sl Mk A RA HB
            have Sl := Sln
            have Mk := Mkn
            have A := An
            have RA := RAn
            have HB := HBn
            clear Sln Mkn An RAn HBn
            clear B
            have v2 := RA.out.c0
            have v3 := RA.out.c1
            have v0 := A.out.c0
            have v1 := A.out.c1
            go_wp2_with fail
            clear v0 v1
            clear v2 v3
            go_at_call 30
            refine (C3.out _).mono ?_
            rintro e Wt5 ⟨rfl, B⟩
            have Sln := Lib.hid ((Sl.out.keep B Sl.out.lt))
            have Mkn := Lib.hid ((Mk.out.keep B Mk.out.lt))
            have An := Lib.hid ((A.out.keep B A.out.lt))
            have RAn := Lib.hid ((RA.out.keep B RA.out.lt))
            have HBn := Lib.hid (HB.out.trans (B.mono HB.out.size))
            clear Sl Mk A RA HB
            have Sl := Sln
            have Mk := Mkn
            have A := An
            have RA := RAn
            have HB := HBn
            clear Sln Mkn An RAn HBn
            clear B
            go_wp2_with fail
            go_roundw
            case rel => exact ⟨j + 1, by omega, rfl, Sl, Mk, HB⟩
            case measure => show 2 - (j + 1) < 2 - j; omega
          · subst hv e1 e3
            have u1 := Sl.out.c (j * 2) k1
            have u2 := Sl.out.c (j * 2 + 1) k2
            have Sln := Lib.hid (Sl.out.alloc (.cells #[.string a1, .string a2] 23))
            have Mkn := Lib.hid (Mk.out.alloc (.cells #[.string a1, .string a2] 23))
            have A := Lib.hid (RBlk.new wr (.string a1) (.string a2))
            have HBn := Lib.hid (HB.out.alloc HB.out.size (.cells #[.string a1, .string a2] 23))
            clear Sl Mk HB
            have Sl := Sln
            have Mk := Mkn
            have HB := HBn
            clear Sln Mkn HBn
            have v0 := A.out.c0
            have v1 := A.out.c1
            go_wp2_with fail
            clear u1 u2 v0 v1
            go_at_call 34
            refine (C1.out _).mono ?_
            rintro e Wf1 ⟨rfl, B⟩
            have Sln := Lib.hid ((Sl.out.keep B Sl.out.lt))
            have Mkn := Lib.hid ((Mk.out.keep B Mk.out.lt))
            have An := Lib.hid ((A.out.keep B A.out.lt))
            have HBn := Lib.hid (HB.out.trans (B.mono HB.out.size))
            clear Sl Mk A HB
            have Sl := Sln
            have Mk := Mkn
            have A := An
            have HB := HBn
            clear Sln Mkn An HBn
            clear B
            go_wp2_with fail
            go_at_call 35
            refine (C4.out _ (HT.out.below HB.out)).mono ?_
            rintro e Wf2 ⟨rfl, B⟩
            have Sln := Lib.hid ((Sl.out.keep B Sl.out.lt).alloc (.cells #[(.string px), (.string py)] 23))
            have Mkn := Lib.hid ((Mk.out.keep B Mk.out.lt).alloc (.cells #[(.string px), (.string py)] 23))
            have An := Lib.hid ((A.out.keep B A.out.lt).alloc (.cells #[(.string px), (.string py)] 23))
            have HBn := Lib.hid ((HB.out.trans (B.mono HB.out.size)).alloc (HB.out.trans (B.mono HB.out.size)).size (.cells #[(.string px), (.string py)] 23))
            clear Sl Mk A HB
            have Sl := Sln
            have Mk := Mkn
            have A := An
            have HB := HBn
            clear Sln Mkn An HBn
            have RA := Lib.hid (RBlk.new Wf2 (.string px) (.string py))
            clear B
            have v0 := A.out.c0
            have v1 := A.out.c1
            go_wp2_with fail
            clear v0 v1
            go_at_call 36
            refine (C2.out _).mono ?_
            rintro e Wf3 ⟨rfl, B⟩
            have Sln := Lib.hid ((Sl.out.keep B Sl.out.lt))
            have Mkn := Lib.hid ((Mk.out.keep B Mk.out.lt))
            have An := Lib.hid ((A.out.keep B A.out.lt))
            have RAn := Lib.hid ((RA.out.keep B RA.out.lt))
            have HBn := Lib.hid (HB.out.trans (B.mono HB.out.size))
            clear Sl Mk A RA HB
            have Sl := Sln
            have Mk := Mkn
            have A := An
            have RA := RAn
            have HB := HBn
            clear Sln Mkn An RAn HBn
            clear B
            have v0 := A.out.c0
            have v1 := A.out.c1
            go_wp2_with fail
            clear v0 v1
            go_at_call 30
            refine (C3.out _).mono ?_
            rintro e Wf4 ⟨rfl, B⟩
            have Sln := Lib.hid ((Sl.out.keep B Sl.out.lt))
            have Mkn := Lib.hid ((Mk.out.keep B Mk.out.lt))
            have An := Lib.hid ((A.out.keep B A.out.lt))
            have RAn := Lib.hid ((RA.out.keep B RA.out.lt))
            have HBn := Lib.hid (HB.out.trans (B.mono HB.out.size))
            clear Sl Mk A RA HB
            have Sl := Sln
            have Mk := Mkn
            have A := An
            have RA := RAn
            have HB := HBn
            clear Sln Mkn An RAn HBn
            clear B
            have v2 := RA.out.c0
            have v3 := RA.out.c1
            have v0 := A.out.c0
            have v1 := A.out.c1
            go_wp2_with fail
            clear v0 v1
            clear v2 v3
            go_at_call 30
            refine (C3.out _).mono ?_
            rintro e Wf5 ⟨rfl, B⟩
            have Sln := Lib.hid ((Sl.out.keep B Sl.out.lt))
            have Mkn := Lib.hid ((Mk.out.keep B Mk.out.lt))
            have An := Lib.hid ((A.out.keep B A.out.lt))
            have RAn := Lib.hid ((RA.out.keep B RA.out.lt))
            have HBn := Lib.hid (HB.out.trans (B.mono HB.out.size))
            clear Sl Mk A RA HB
            have Sl := Sln
            have Mk := Mkn
            have A := An
            have RA := RAn
            have HB := HBn
            clear Sln Mkn An RAn HBn
            clear B
            go_wp2_with fail
            go_roundw
            case rel => exact ⟨j + 1, by omega, rfl, Sl, Mk, HB⟩
            case measure => show 2 - (j + 1) < 2 - j; omega
        · have hjj : ¬ ((j : Int) < 2) := by omega
          clear HP HC Sl
          obtain ⟨s, px, py, v, e, hcase, hs9, hq, c1, c2, _, _⟩ := text_facts m1 m2 HM2.out.1 HM2.out.2
          obtain ⟨q0, hq0, hq1⟩ := HMQ.out
          have hv := hq q0 hq0 hq1
          subst hv
          have hst : (s.toList == []) = false := by
            rcases hcase with ⟨_, _, _, _, h⟩ | ⟨h, _⟩
            · exact h
            · cases h
          have hs0 : 0 < s.size := by
            refine Nat.pos_of_ne_zero fun h => ?_
            have h2 : s.toList = [] := by rw [ByteArray.toList_eq]; exact List.eq_nil_of_length_eq_zero h
            rw [h2] at hst; cases hst
          have C2 := Lib.hid c2
          clear hcase hq c1 c2 hq0 hq1
          have v0 := Mk.out.c0
          have v1 := Mk.out.c1
          go_wp2_with fail
          clear v0 v1
          go_at_call 36
          refine (C2.out _).mono ?_
          rintro e Wr1 ⟨rfl, B⟩
          have Mkn := Lib.hid ((Mk.out.keep B Mk.out.lt))
          have HBn := Lib.hid (HB.out.trans (B.mono HB.out.size))
          clear Mk HB
          have Mk := Mkn
          have HB := HBn
          clear Mkn HBn
          clear B
          go_wp2_with fail
          go_at_call 23
          refine (lpick_var at' s.size _ bat'.1 bat'.2 hs0 (by omega)).mono ?_
          rintro e Wr2 ⟨p, rfl, hp, B⟩
          have Mkn := Lib.hid ((Mk.out.keep B Mk.out.lt))
          have HBn := Lib.hid (HB.out.trans (B.mono HB.out.size))
          clear Mk HB
          have Mk := Mkn
          have HB := HBn
          clear Mkn HBn
          clear B
          obtain ⟨rw4, hrw, zrw⟩ := cut420 raw
          obtain ⟨sl, hsl⟩ : ∃ sl : ByteArray, s.extract 0 p = sl := ⟨_, rfl⟩
          obtain ⟨sr, hsr⟩ : ∃ sr : ByteArray, s.extract (p + 1) s.size = sr := ⟨_, rfl⟩
          have zsl : sl.size ≤ 403 := by rw [← hsl, ByteArray.size_extract]; omega
          have zsr : sr.size ≤ 403 := by rw [← hsr, ByteArray.size_extract]; omega
          have mm1 : (0 : Int) ≤ min (raw.size : Int) 420 ∧ min (raw.size : Int) 420 ≤ (raw.size : Int) := by omega
          have u5 : p ≤ s.size := by omega
          have u6 : p + 1 ≤ s.size := by omega
          have u7 : IntKind.i64.wrap ((p : Int) + 1) = (p : Int) + 1 := by simp [IntKind.wrap, IntKind.bits, IntKind.signed]; omega
          have u8 : ((p : Int) + 1).toNat = p + 1 := by omega
          have u9 : (0 : Int) ≤ (p : Int) + 1 := by omega
          have u1 : (p : Int) ≤ (s.size : Int) := by omega
          have u3 : (p : Int) + 1 ≤ (s.size : Int) := by omega
          have wd : IntKind.u8.wrap (c.toNat : Int) = (c.toNat : Int) := by have := c.toNat_lt; simp [IntKind.wrap, IntKind.bits, IntKind.signed]; omega
          obtain ⟨ds, hds⟩ : ∃ ds : ByteArray, (⟨([c] : List UInt8).toArray⟩ : ByteArray) = ds := ⟨_, rfl⟩
          have zds : ds.size = 1 := by rw [← hds]; rfl
          have zz1 : ¬ (9223372036854775807 < sl.size + 1) := by omega
          have zz2 : ¬ (9223372036854775807 < sl.size + 1 + sr.size) := by omega
          have zz3 : ¬ (9223372036854775807 < (sl ++ ds).size + sr.size) := by rw [ByteArray.size_append]; omega
          have z1 : (sl ++ ds).size ≤ 404 := by rw [ByteArray.size_append]; omega
          have z2 : (sl ++ ds ++ sr).size ≤ 807 := by rw [ByteArray.size_append]; omega
          go_upto_region 15 with fail
          refine wp_region_noPanic ?_
          refine wp_region_held_drew (S := fun W => RBlk W (gM) (.string m1) (.string m2)) (by kernel_rfl) ?_ (fun hHeld => ?_)
          · exact Mk.out
          have Mkn := Lib.hid Mk.out.drew
          have HBn := Lib.hid HB.out.drew
          clear Mk HB
          have Mk := Mkn
          have HB := HBn
          clear Mkn HBn
          refine wpAnyH_take (i := 0) (oi := ({ dst := some 77, op := Go.Op.move (Go.Operand.tmp 4), type := 9, pos := "law.go:117", after := #[], guard := none } : Oper)) (v := ?v0_1r_15_2) rfl (by kernel_rfl) (by kernel_rfl) (by kernel_rfl) (fun _ _ _ h => h) (Or.inl ⟨by first | kernel_rfl | rfl, ?hy0_1r_15_2⟩) (by assumption) ?re0_1r_15_2
          case hy0_1r_15_2 => ((intro w hSw; go_simp) <;> with_reducible rfl)
          (try simp only [Act.put, List.setIfInBounds_toArray, List.set_cons_zero, List.set_cons_succ])
          refine wpAnyH_take (i := 1) (oi := ({ dst := some 78, op := Go.Op.move (Go.Operand.tmp 4), type := 9, pos := "law.go:117", after := #[], guard := none } : Oper)) (v := ?v1_2r_15_2) rfl (by kernel_rfl) (by kernel_rfl) (by kernel_rfl) (fun _ _ _ h => h) (Or.inl ⟨by first | kernel_rfl | rfl, ?hy1_2r_15_2⟩) (by assumption) ?re1_2r_15_2
          case hy1_2r_15_2 => ((intro w hSw; go_simp) <;> with_reducible rfl)
          (try simp only [Act.put, List.setIfInBounds_toArray, List.set_cons_zero, List.set_cons_succ])
          refine wpAnyH_take (i := 5) (oi := ({ dst := some 82, op := Go.Op.move (Go.Operand.tmp 18), type := 9, pos := "law.go:117", after := #[], guard := none } : Oper)) (v := ?v5_3r_15_2) rfl (by kernel_rfl) (by kernel_rfl) (by kernel_rfl) (fun _ _ _ h => h) (Or.inl ⟨by first | kernel_rfl | rfl, ?hy5_3r_15_2⟩) (by assumption) ?re5_3r_15_2
          case hy5_3r_15_2 => ((intro w hSw; go_simp) <;> with_reducible rfl)
          (try simp only [Act.put, List.setIfInBounds_toArray, List.set_cons_zero, List.set_cons_succ])
          refine wpAnyH_take (i := 6) (oi := ({ dst := some 83, op := Go.Op.move (Go.Operand.tmp 19), type := 3, pos := "law.go:117", after := #[], guard := none } : Oper)) (v := ?v6_4r_15_2) rfl (by kernel_rfl) (by kernel_rfl) (by kernel_rfl) (fun _ _ _ h => h) (Or.inl ⟨by first | kernel_rfl | rfl, ?hy6_4r_15_2⟩) (by assumption) ?re6_4r_15_2
          case hy6_4r_15_2 => ((intro w hSw; go_simp) <;> with_reducible rfl)
          (try simp only [Act.put, List.setIfInBounds_toArray, List.set_cons_zero, List.set_cons_succ])
          refine wpAnyH_take (i := 8) (oi := ({ dst := some 85, op := Go.Op.move (Go.Operand.tmp 3), type := 5, pos := "law.go:117", after := #[], guard := none } : Oper)) (v := ?v8_5r_15_2) rfl (by kernel_rfl) (by kernel_rfl) (by kernel_rfl) (fun _ _ _ h => h) (Or.inl ⟨by first | kernel_rfl | rfl, ?hy8_5r_15_2⟩) (by assumption) ?re8_5r_15_2
          case hy8_5r_15_2 => ((intro w hSw; go_simp) <;> with_reducible rfl)
          (try simp only [Act.put, List.setIfInBounds_toArray, List.set_cons_zero, List.set_cons_succ])
          refine wpAnyH_take (i := 12) (oi := ({ dst := some 89, op := Go.Op.move (Go.Operand.tmp 18), type := 9, pos := "law.go:117", after := #[], guard := none } : Oper)) (v := ?v12_6r_15_2) rfl (by kernel_rfl) (by kernel_rfl) (by kernel_rfl) (fun _ _ _ h => h) (Or.inl ⟨by first | kernel_rfl | rfl, ?hy12_6r_15_2⟩) (by assumption) ?re12_6r_15_2
          case hy12_6r_15_2 => ((intro w hSw; go_simp) <;> with_reducible rfl)
          (try simp only [Act.put, List.setIfInBounds_toArray, List.set_cons_zero, List.set_cons_succ])
          refine wpAnyH_take (i := 13) (oi := ({ dst := some 90, op := Go.Op.move (Go.Operand.tmp 19), type := 3, pos := "law.go:117", after := #[], guard := none } : Oper)) (v := ?v13_7r_15_2) rfl (by kernel_rfl) (by kernel_rfl) (by kernel_rfl) (fun _ _ _ h => h) (Or.inl ⟨by first | kernel_rfl | rfl, ?hy13_7r_15_2⟩) (by assumption) ?re13_7r_15_2
          case hy13_7r_15_2 => ((intro w hSw; go_simp) <;> with_reducible rfl)
          (try simp only [Act.put, List.setIfInBounds_toArray, List.set_cons_zero, List.set_cons_succ])
          refine wpAnyH_take (i := 19) (oi := ({ dst := some 96, op := Go.Op.move (Go.Operand.const (Go.Value.int Go.IntKind.i64 0)), type := 3, pos := "law.go:117", after := #[], guard := none } : Oper)) (v := ?v19_8r_15_2) rfl (by kernel_rfl) (by kernel_rfl) (by kernel_rfl) (fun _ _ _ h => h) (Or.inl ⟨by first | kernel_rfl | rfl, ?hy19_8r_15_2⟩) (by assumption) ?re19_8r_15_2
          case hy19_8r_15_2 => ((intro w hSw; go_simp) <;> with_reducible rfl)
          (try simp only [Act.put, List.setIfInBounds_toArray, List.set_cons_zero, List.set_cons_succ])
          refine wpAnyH_take (i := 2) (oi := ({ dst := some 79, op := Go.Op.call { callee := Go.Callee.builtin Go.Builtin.len, args := #[Go.Operand.tmp 78], argTypes := #[9] }, type := 3, pos := "law.go:117", after := #[{ on := 1, ground := Go.Ground.data }], guard := none } : Oper)) (v := ?v2_9r_15_2) rfl (by kernel_rfl) (by kernel_rfl) (by kernel_rfl) (fun _ _ _ h => h) (Or.inl ⟨by first | kernel_rfl | rfl, ?hy2_9r_15_2⟩) (by assumption) ?re2_9r_15_2
          case hy2_9r_15_2 => ((intro w hSw; have e0_0 := hSw.c0; have e0_1 := hSw.c1; go_simp) <;> with_reducible rfl)
          (try simp only [Act.put, List.setIfInBounds_toArray, List.set_cons_zero, List.set_cons_succ])
          refine wpAnyH_take (i := 7) (oi := ({ dst := some 84, op := Go.Op.slice 9 (Go.Operand.tmp 82) none (some (Go.Operand.tmp 83)) none, type := 9, pos := "law.go:117", after := #[{ on := 5, ground := Go.Ground.data }, { on := 6, ground := Go.Ground.data }], guard := none } : Oper)) (v := ?v7_10r_15_2) rfl (by kernel_rfl) (by kernel_rfl) (by kernel_rfl) (fun _ _ _ h => h) (Or.inl ⟨by first | kernel_rfl | rfl, ?hy7_10r_15_2⟩) (by assumption) ?re7_10r_15_2
          case hy7_10r_15_2 => ((intro w hSw; go_simp) <;> with_reducible rfl)
          (try simp only [Act.put, List.setIfInBounds_toArray, List.set_cons_zero, List.set_cons_succ])
          refine wpAnyH_take (i := 14) (oi := ({ dst := some 91, op := Go.Op.binOp Go.BinOp.add 3 (Go.Operand.tmp 90) (Go.Operand.const (Go.Value.int Go.IntKind.i64 1)) 3, type := 3, pos := "law.go:117", after := #[{ on := 13, ground := Go.Ground.data }], guard := none } : Oper)) (v := ?v14_11r_15_2) rfl (by kernel_rfl) (by kernel_rfl) (by kernel_rfl) (fun _ _ _ h => h) (Or.inl ⟨by first | kernel_rfl | rfl, ?hy14_11r_15_2⟩) (by assumption) ?re14_11r_15_2
          case hy14_11r_15_2 => ((intro w hSw; go_simp) <;> with_reducible rfl)
          (try simp only [Act.put, List.setIfInBounds_toArray, List.set_cons_zero, List.set_cons_succ])
          refine wpAnyH_take (i := 3) (oi := ({ dst := some 80, op := Go.Op.call { callee := Go.Callee.builtin Go.Builtin.min, args := #[Go.Operand.tmp 79, Go.Operand.const (Go.Value.int Go.IntKind.i64 420)], argTypes := #[3, 3] }, type := 3, pos := "law.go:117", after := #[{ on := 2, ground := Go.Ground.data }], guard := none } : Oper)) (v := ?v3_12r_15_2) rfl (by kernel_rfl) (by kernel_rfl) (by kernel_rfl) (fun _ _ _ h => h) (Or.inl ⟨by first | kernel_rfl | rfl, ?hy3_12r_15_2⟩) (by assumption) ?re3_12r_15_2
          case hy3_12r_15_2 => ((intro w hSw; have e0_0 := hSw.c0; have e0_1 := hSw.c1; go_simp) <;> with_reducible rfl)
          (try simp only [Act.put, List.setIfInBounds_toArray, List.set_cons_zero, List.set_cons_succ])
          refine wpAnyH_take (i := 15) (oi := ({ dst := some 92, op := Go.Op.slice 9 (Go.Operand.tmp 89) (some (Go.Operand.tmp 91)) none none, type := 9, pos := "law.go:117", after := #[{ on := 12, ground := Go.Ground.data }, { on := 14, ground := Go.Ground.data }], guard := none } : Oper)) (v := ?v15_13r_15_2) rfl (by kernel_rfl) (by kernel_rfl) (by kernel_rfl) (fun _ _ _ h => h) (Or.inl ⟨by first | kernel_rfl | rfl, ?hy15_13r_15_2⟩) (by assumption) ?re15_13r_15_2
          case hy15_13r_15_2 => ((intro w hSw; go_simp) <;> with_reducible rfl)
          (try simp only [Act.put, List.setIfInBounds_toArray, List.set_cons_zero, List.set_cons_succ])
          refine wpAnyH_take (i := 4) (oi := ({ dst := some 81, op := Go.Op.slice 9 (Go.Operand.tmp 77) none (some (Go.Operand.tmp 80)) none, type := 9, pos := "law.go:117", after := #[{ on := 0, ground := Go.Ground.data }, { on := 3, ground := Go.Ground.data }], guard := none } : Oper)) (v := ?v4_14r_15_2) rfl (by kernel_rfl) (by kernel_rfl) (by kernel_rfl) (fun _ _ _ h => h) (Or.inl ⟨by first | kernel_rfl | rfl, ?hy4_14r_15_2⟩) (by assumption) ?re4_14r_15_2
          case hy4_14r_15_2 => ((intro w hSw; go_simp) <;> with_reducible rfl)
          (try simp only [Act.put, List.setIfInBounds_toArray, List.set_cons_zero, List.set_cons_succ])
          refine wpAnyH_ready (rs := [9]) (by kernel_rfl) (by simp) ?_
          refine AllReadyH.cons (o := ({ dst := some 86, op := Go.Op.buildSlice 48 1 #[(0, Go.Operand.tmp 85)], type := 48, pos := "law.go:117", after := #[{ on := 8, ground := Go.Ground.data }], guard := none } : Oper)) rfl (fun K hK => ?_) ?_
          · go_simp
            obtain ⟨WAr15_1, hWAr15_1⟩ : ∃ W, W = (Wr2.alloc (.cells #[.int .u8 (c.toNat : Int)] 5)).drew := ⟨_, rfl⟩
            rw [← hWAr15_1]
            have By : Hid (CBlk WAr15_1 Wr2.heap.size #[.int .u8 (c.toNat : Int)] 5) := Lib.hid (by rw [hWAr15_1]; exact CBlk.new Wr2 #[.int .u8 (c.toNat : Int)] 5)
            have gBy : w.heap.size ≤ Wr2.heap.size := HB.out.size
            have hk : (fun W => RBlk W (gM) (.string m1) (.string m2)) WAr15_1 := by rw [hWAr15_1]; exact hHeld.alloc _
            have Mkn : Hid (RBlk WAr15_1 (gM) (.string m1) (.string m2)) := Lib.hid (by rw [hWAr15_1]; exact Mk.out.alloc _)
            have HBn : Hid (Below w.heap.size w WAr15_1) := Lib.hid (by rw [hWAr15_1]; exact HB.out.alloc HB.out.size _)
            clear Mk HB
            have Mk := Mkn
            have HB := HBn
            clear Mkn HBn
            clear hWAr15_1
            refine hK.out _ _ ?_ (fun hHeldN => ?_)
            · exact hk
            clear hK K
            clear hHeld
            have hHeld := hHeldN
            clear hHeldN
            (try simp only [Act.put, List.setIfInBounds_toArray, List.set_cons_zero, List.set_cons_succ])
            clear hk
            refine wpAnyH_ready (rs := [10]) (by kernel_rfl) (by simp) ?_
            refine AllReadyH.cons (o := ({ dst := some 87, op := Go.Op.convert 48 9 (Go.Operand.tmp 86), type := 9, pos := "law.go:117", after := #[{ on := 9, ground := Go.Ground.data }], guard := none } : Oper)) rfl (fun K hK => ?_) ?_
            · have hcv := run_convert_bytes_back (P := Tryz.prog) WAr15_1 48 9 5 ⟨Wr2.heap.size, 0, none⟩ 1 [c] Tryz.underlying48 Tryz.underlying5 Tryz.underlying9 (fun j hj => by
                obtain rfl : j = 0 := by simpa using hj
                exact By.out.c 0 rfl)
              rw [show ([c] : List UInt8).length = 1 from rfl, hds] at hcv
              go_simp
              refine hK.out _ _ ?_ (fun hHeldN => ?_)
              · exact hHeld
              clear hK K
              clear hHeld
              have hHeld := hHeldN
              clear hHeldN
              (try simp only [Act.put, List.setIfInBounds_toArray, List.set_cons_zero, List.set_cons_succ])
              refine wpAnyH_take (i := 11) (oi := ({ dst := some 88, op := Go.Op.binOp Go.BinOp.add 9 (Go.Operand.tmp 84) (Go.Operand.tmp 87) 9, type := 9, pos := "law.go:117", after := #[{ on := 7, ground := Go.Ground.data }, { on := 10, ground := Go.Ground.data }], guard := none } : Oper)) (v := ?v11_15r_15_2) rfl (by kernel_rfl) (by kernel_rfl) (by kernel_rfl) (fun _ _ _ h => h) (Or.inl ⟨by first | kernel_rfl | rfl, ?hy11_15r_15_2⟩) (by assumption) ?re11_15r_15_2
              case hy11_15r_15_2 => ((intro w hSw; go_simp) <;> with_reducible rfl)
              (try simp only [Act.put, List.setIfInBounds_toArray, List.set_cons_zero, List.set_cons_succ])
              refine wpAnyH_take (i := 16) (oi := ({ dst := some 93, op := Go.Op.binOp Go.BinOp.add 9 (Go.Operand.tmp 88) (Go.Operand.tmp 92) 9, type := 9, pos := "law.go:117", after := #[{ on := 11, ground := Go.Ground.data }, { on := 15, ground := Go.Ground.data }], guard := none } : Oper)) (v := ?v16_16r_15_2) rfl (by kernel_rfl) (by kernel_rfl) (by kernel_rfl) (fun _ _ _ h => h) (Or.inl ⟨by first | kernel_rfl | rfl, ?hy16_16r_15_2⟩) (by assumption) ?re16_16r_15_2
              case hy16_16r_15_2 => ((intro w hSw; go_simp) <;> with_reducible rfl)
              (try simp only [Act.put, List.setIfInBounds_toArray, List.set_cons_zero, List.set_cons_succ])
              refine wpAnyH_ready (rs := [17]) (by kernel_rfl) (by simp) ?_
              refine AllReadyH.cons (o := ({ dst := some 94, op := Go.Op.buildSlice 49 2 #[(0, Go.Operand.tmp 81), (1, Go.Operand.tmp 93)], type := 49, pos := "law.go:117", after := #[{ on := 4, ground := Go.Ground.data }, { on := 16, ground := Go.Ground.data }], guard := none } : Oper)) rfl (fun K hK => ?_) ?_
              · go_simp
                obtain ⟨WAr15_3, hWAr15_3⟩ : ∃ W, W = (WAr15_1.alloc (.cells #[.string rw4, .string (sl ++ ds ++ sr)] 9)) := ⟨_, rfl⟩
                rw [← hWAr15_3]
                have Ts : Hid (CBlk WAr15_3 WAr15_1.heap.size #[.string rw4, .string (sl ++ ds ++ sr)] 9) := Lib.hid (by rw [hWAr15_3]; exact CBlk.new WAr15_1 #[.string rw4, .string (sl ++ ds ++ sr)] 9)
                have gTs : w.heap.size ≤ WAr15_1.heap.size := HB.out.size
                have hk : (fun W => RBlk W (gM) (.string m1) (.string m2)) WAr15_3 := by rw [hWAr15_3]; exact hHeld.alloc _
                have Mkn : Hid (RBlk WAr15_3 (gM) (.string m1) (.string m2)) := Lib.hid (by rw [hWAr15_3]; exact Mk.out.alloc _)
                have Byn : Hid (CBlk WAr15_3 (Wr2.heap.size) #[.int .u8 (c.toNat : Int)] 5) := Lib.hid (by rw [hWAr15_3]; exact By.out.alloc _)
                have HBn : Hid (Below w.heap.size w WAr15_3) := Lib.hid (by rw [hWAr15_3]; exact HB.out.alloc HB.out.size _)
                clear Mk By HB
                have Mk := Mkn
                have By := Byn
                have HB := HBn
                clear Mkn Byn HBn
                clear hWAr15_3
                refine hK.out _ _ ?_ (fun hHeldN => ?_)
                · exact hk
                clear hK K
                clear hHeld
                have hHeld := hHeldN
                clear hHeldN
                (try simp only [Act.put, List.setIfInBounds_toArray, List.set_cons_zero, List.set_cons_succ])
                clear hk
                refine wpAnyH_take (i := 18) (oi := ({ dst := some 95, op := Go.Op.call { callee := Go.Callee.builtin Go.Builtin.len, args := #[Go.Operand.tmp 94], argTypes := #[49] }, type := 3, pos := "law.go:117", after := #[{ on := 17, ground := Go.Ground.data }], guard := none } : Oper)) (v := ?v18_17r_15_2) rfl (by kernel_rfl) (by kernel_rfl) (by kernel_rfl) (fun _ _ _ h => h) (Or.inl ⟨by first | kernel_rfl | rfl, ?hy18_17r_15_2⟩) (by assumption) ?re18_17r_15_2
                case hy18_17r_15_2 => ((intro w hSw; have e0_0 := hSw.c0; have e0_1 := hSw.c1; go_simp) <;> with_reducible rfl)
                (try simp only [Act.put, List.setIfInBounds_toArray, List.set_cons_zero, List.set_cons_succ])
                refine wpAnyH_done (by kernel_rfl) ?_ _
                refine NoPanic.normal ?_
                clear By Mk u1 u3 u5 u6 u7 u8 u9 mm1 zz1 zz2 zz3 wd hp hst hs0 hs9 hrw hsl hsr hds
                have Ts := Lib.hid (show PB 9 _ _ _ _ from Ts.out)
                generalize WAr15_1.heap.size = gT at *
                generalize sl ++ ds ++ sr = t9 at *
                go_wp2_with fail
                go_loopw [96] (fun jv wr => ∃ j : Nat, j ≤ 2 ∧ jv = .int .i64 (j : Int) ∧ Hid (PB 9 wr gT (.string rw4) (.string t9)) ∧ Hid (Below w.heap.size w wr)) (fun jv _ => 2 - (intOf jv).toNat)
                case atStart => exact ⟨0, by omega, rfl, Ts, HB⟩
                case round =>
                  clear Ts HB
                  obtain ⟨j, hj, rfl, Ts, HB⟩ := hrel
                  by_cases hj2 : j < 2
                  · obtain ⟨u, hu, zu⟩ := Ts.out.one (by omega) (by omega) j hj2
                    have hjj : (j : Int) < 2 := by omega
                    obtain ⟨x, y, e, he, g2, _, d1, d2⟩ := agParse_4 u zu
                    have D1 := Lib.hid d1
                    have D2 := Lib.hid d2
                    clear d1 d2
                    rcases he with he | he
                    · obtain ⟨q, e1, hq, e2⟩ := g2 he
                      have cp := fun W => qPrint_R q hq W
                      rw [← e1, ← e2] at cp
                      have CP := Lib.hid cp
                      clear g2 cp e1 e2 hq
                      subst he
                      go_wp2_with fail
                      go_at_call 35
                      refine (D1.out _ (HT.out.below HB.out)).mono ?_
                      rintro e Wu1 ⟨rfl, B⟩
                      have Tsn := Lib.hid ((Ts.out.keep B Ts.out.lt).alloc (.cells #[(.string x), (.string y)] 23))
                      have HBn := Lib.hid ((HB.out.trans (B.mono HB.out.size)).alloc (HB.out.trans (B.mono HB.out.size)).size (.cells #[(.string x), (.string y)] 23))
                      clear Ts HB
                      have Ts := Tsn
                      have HB := HBn
                      clear Tsn HBn
                      have RA := Lib.hid (RBlk.new Wu1 (.string x) (.string y))
                      clear B
                      (try go_wp2_with fail)
                      go_at_call 37
                      refine (D2.out _).mono ?_
                      rintro e Wu2 ⟨rfl, B⟩
                      have Tsn := Lib.hid ((Ts.out.keep B Ts.out.lt).alloc (.cells #[(.string x), (.string y)] 23))
                      have RAn := Lib.hid ((RA.out.keep B RA.out.lt).alloc (.cells #[(.string x), (.string y)] 23))
                      have HBn := Lib.hid ((HB.out.trans (B.mono HB.out.size)).alloc (HB.out.trans (B.mono HB.out.size)).size (.cells #[(.string x), (.string y)] 23))
                      clear Ts RA HB
                      have Ts := Tsn
                      have RA := RAn
                      have HB := HBn
                      clear Tsn RAn HBn
                      have RB := Lib.hid (RBlk.new Wu2 (.string x) (.string y))
                      clear B
                      have v0 := RA.out.c0
                      have v1 := RA.out.c1
                      have v2 := RB.out.c0
                      have v3 := RB.out.c1
                      go_wp2_with fail
                      clear v0 v1 v2 v3
                      go_at_call 34
                      refine (CP.out _).mono ?_
                      rintro e Wu3 ⟨rfl, B⟩
                      have Tsn := Lib.hid ((Ts.out.keep B Ts.out.lt))
                      have RAn := Lib.hid ((RA.out.keep B RA.out.lt))
                      have RBn := Lib.hid ((RB.out.keep B RB.out.lt))
                      have HBn := Lib.hid (HB.out.trans (B.mono HB.out.size))
                      clear Ts RA RB HB
                      have Ts := Tsn
                      have RA := RAn
                      have RB := RBn
                      have HB := HBn
                      clear Tsn RAn RBn HBn
                      clear B
                      go_wp2_with fail
                      go_roundw
                      case rel => exact ⟨j + 1, by omega, rfl, Ts, HB⟩
                      case measure => show 2 - (j + 1) < 2 - j; omega
                    · clear g2
                      subst he
                      go_wp2_with fail
                      go_at_call 35
                      refine (D1.out _ (HT.out.below HB.out)).mono ?_
                      rintro e Wn1 ⟨rfl, B⟩
                      have Tsn := Lib.hid ((Ts.out.keep B Ts.out.lt).alloc (.cells #[(.string x), (.string y)] 23))
                      have HBn := Lib.hid ((HB.out.trans (B.mono HB.out.size)).alloc (HB.out.trans (B.mono HB.out.size)).size (.cells #[(.string x), (.string y)] 23))
                      clear Ts HB
                      have Ts := Tsn
                      have HB := HBn
                      clear Tsn HBn
                      have RA := Lib.hid (RBlk.new Wn1 (.string x) (.string y))
                      clear B
                      (try go_wp2_with fail)
                      go_at_call 37
                      refine (D2.out _).mono ?_
                      rintro e Wn2 ⟨rfl, B⟩
                      have Tsn := Lib.hid ((Ts.out.keep B Ts.out.lt).alloc (.cells #[(.string x), (.string y)] 23))
                      have RAn := Lib.hid ((RA.out.keep B RA.out.lt).alloc (.cells #[(.string x), (.string y)] 23))
                      have HBn := Lib.hid ((HB.out.trans (B.mono HB.out.size)).alloc (HB.out.trans (B.mono HB.out.size)).size (.cells #[(.string x), (.string y)] 23))
                      clear Ts RA HB
                      have Ts := Tsn
                      have RA := RAn
                      have HB := HBn
                      clear Tsn RAn HBn
                      have RB := Lib.hid (RBlk.new Wn2 (.string x) (.string y))
                      clear B
                      have v0 := RA.out.c0
                      have v1 := RA.out.c1
                      have v2 := RB.out.c0
                      have v3 := RB.out.c1
                      go_wp2_with fail
                      go_roundw
                      case rel => exact ⟨j + 1, by omega, rfl, Ts, HB⟩
                      case measure => show 2 - (j + 1) < 2 - j; omega
                  · go_wp2_with fail
                    go_ret
                    exact ⟨rfl, HB.out⟩
              exact AllReadyH.nil
            exact AllReadyH.nil
          exact AllReadyH.nil
    exact AllReadyH.nil
  exact AllReadyH.nil
end Go.Proofs.YtdnbhgkbfbgnaaaGreatDoor
