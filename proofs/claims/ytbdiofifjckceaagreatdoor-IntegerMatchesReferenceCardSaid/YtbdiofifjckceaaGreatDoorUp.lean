/- The walk of the law that all functions agree with the reference. -/
import Derived.Test.YtbdiofifjckceaaGreatDoorUo
namespace Go.Proofs.YtbdiofifjckceaaGreatDoor
open Go.RowKit
theorem Made_J (s : ByteArray) (m : Int) (most : Nat) (hm : m = most) (w : World) (h9 : most ≤ 200) (h0 : 0 < most) (hs : s.size ≤ 9223372036854775807) :
    Calls Tryz.prog 7 #[.string s, .int .i64 m] w fun e w' => ∃ t : ByteArray, (e = .returned (.string t) ∧ t.size ≤ 60000) ∧ Below w.heap.size w w' := by
  subst hm
  refine (Made_any s most w h9 h0 hs).mono fun e w' ⟨z, he, hz, hb⟩ => ⟨S z, ⟨he, ?_⟩, hb⟩
  have h := S_len (z := z) (Nat.lt_of_lt_of_le hz (Nat.pow_le_pow_right (by decide) h9))
  have h2 := bytes_size (S_list z)
  omega
theorem Ag.l {f g : FuncId} {args : Array Value} {v : Value} (h : Ag f g args v) (W : World) (hT : Tz W) : Calls Tryz.prog f args W fun e w' => e = .returned v ∧ Below W.heap.size W w' := (h W hT).1
theorem Ag.r {f g : FuncId} {args : Array Value} {v : Value} (h : Ag f g args v) (W : World) (hT : Tz W) : Calls Tryz.prog g args W fun e w' => e = .returned v ∧ Below W.heap.size W w' := (h W hT).2
/-- a block of two strings -/
def SB (W : World) (g : Nat) (x y : ByteArray) : Prop := g < W.heap.size ∧ W.cell? ⟨g, 0, none⟩ = some (.string x) ∧ W.cell? ⟨g, 1, none⟩ = some (.string y)
theorem SB.keep {W W' : World} {g : Nat} {x y : ByteArray} (h : SB W g x y) (hb : Below W.heap.size W W') : SB W' g x y :=
  ⟨Nat.lt_of_lt_of_le h.1 hb.size, (hb.cell (p := ⟨g, 0, none⟩) h.1).trans h.2.1, (hb.cell (p := ⟨g, 1, none⟩) h.1).trans h.2.2⟩
theorem SB.new (W : World) (x y : ByteArray) (t : TypeId) : SB (W.alloc (.cells #[.string x, .string y] t)) W.heap.size x y :=
  ⟨by rw [World.size_alloc]; omega, by rw [World.cell?, Go.heap_alloc_new]; rfl, by rw [World.cell?, Go.heap_alloc_new]; rfl⟩
/-- the three pairs -/
def S6 (W : World) (g : Nat) (P : Nat → ByteArray × ByteArray) : Prop := g < W.heap.size ∧ ∀ k, k < 3 → W.cell? ⟨g, k * 2, none⟩ = some (.string (P k).1) ∧ W.cell? ⟨g, k * 2 + 1, none⟩ = some (.string (P k).2)
theorem S6.keep {W W' : World} {g : Nat} {P : Nat → ByteArray × ByteArray} (h : S6 W g P) (hb : Below W.heap.size W W') : S6 W' g P :=
  ⟨Nat.lt_of_lt_of_le h.1 hb.size, fun k hk => ⟨(hb.cell (p := ⟨g, k * 2, none⟩) h.1).trans (h.2 k hk).1, (hb.cell (p := ⟨g, k * 2 + 1, none⟩) h.1).trans (h.2 k hk).2⟩⟩
def prs (a b c d e f : ByteArray) (k : Nat) : ByteArray × ByteArray := match k with | 0 => (a, b) | 1 => (c, d) | _ => (e, f)
theorem S6.new (W : World) (a b c d e f : ByteArray) (t : TypeId) : S6 (W.alloc (.cells #[.string a, .string b, .string c, .string d, .string e, .string f] t)) W.heap.size (prs a b c d e f) :=
  ⟨by rw [World.size_alloc]; omega, fun k hk => by
    match k, hk with
    | 0, _ => exact ⟨by rw [World.cell?, Go.heap_alloc_new]; rfl, by rw [World.cell?, Go.heap_alloc_new]; rfl⟩
    | 1, _ => exact ⟨by rw [World.cell?, Go.heap_alloc_new]; rfl, by rw [World.cell?, Go.heap_alloc_new]; rfl⟩
    | 2, _ => exact ⟨by rw [World.cell?, Go.heap_alloc_new]; rfl, by rw [World.cell?, Go.heap_alloc_new]; rfl⟩⟩
theorem prs_le {a b c d e f : ByteArray} (ha : a.size ≤ 60000) (hb : b.size ≤ 60000) (hc : c.size ≤ 60000) (hd : d.size ≤ 60000) (he : e.size ≤ 60000) (hf : f.size ≤ 60000) (k : Nat) : (prs a b c d e f k).1.data.toList.length ≤ 60000 ∧ (prs a b c d e f k).2.data.toList.length ≤ 60000 := by
  unfold prs
  split <;> exact ⟨by assumption, by assumption⟩
theorem cut210 (s : ByteArray) : ∃ p : ByteArray, s.extract 0 (min (s.size : Int) 210).toNat = p ∧ p.size ≤ 210 := ⟨_, rfl, by rw [ByteArray.size_extract]; omega⟩

set_option maxRecDepth 100000 in
set_option maxHeartbeats 4000000 in
theorem match_walk (sa sb : ByteArray) (n : Int) (w : World) (h0 : -9223372036854775808 ≤ n ∧ n ≤ 9223372036854775807) (hsa : sa.size ≤ 9223372036854775807) (hsb : sb.size ≤ 9223372036854775807) (hT : Tz w) :
    Calls Tryz.prog 3 #[.string sa, .string sb, .int .i64 n] w fun e w' => e = .returned (.bool true) ∧ Below w.heap.size w w' := by
  have H := Lib.hid (Below.refl w.heap.size w)
  have hT := Lib.hid hT
  obtain ⟨a, ha, ha9⟩ := cut210 sa
  obtain ⟨b, hb, hb9⟩ := cut210 sb
  have cM70 := fun W => Made_J a 70 70 rfl W (by decide) (by decide) (by omega)
  have cM30 := fun W => Made_J b 30 30 rfl W (by decide) (by decide) (by omega)
  have cM12 := fun W => Made_J a 12 12 rfl W (by decide) (by decide) (by omega)
  have cF := fun W => rFromInt_any n W h0.1 h0.2
  go_enter Tryz.func3, Tryz.ntmps3
  go_wp2_with (first | (go_at_call 6; (with_reducible refine (sane_any _).mono ?_); rintro e W ⟨rfl, B1⟩; have B2 := H.out.trans (B1.mono H.out.size); clear H B1; have H := Lib.hid B2; clear B2) | (go_at_call 7; (with_reducible refine (cM70 _).mono ?_); rintro e W ⟨a1, ⟨rfl, z1⟩, B1⟩; have B2 := H.out.trans (B1.mono H.out.size); clear H B1; have H := Lib.hid B2; clear B2) | (go_at_call 7; (with_reducible refine (cM30 _).mono ?_); rintro e W ⟨b1, ⟨rfl, z2⟩, B1⟩; have B2 := H.out.trans (B1.mono H.out.size); clear H B1; have H := Lib.hid B2; clear B2) | (go_at_call 7; (with_reducible refine (cM12 _).mono ?_); rintro e W ⟨a2, ⟨rfl, z3⟩, B1⟩; have B2 := H.out.trans (B1.mono H.out.size); clear H B1; have H := Lib.hid B2; clear B2) | (go_at_call 8; (with_reducible refine (cF _).mono ?_); rintro e W ⟨rfl, B1⟩; have B2 := H.out.trans (B1.mono H.out.size); clear H B1; have H := Lib.hid B2; clear B2))
  have hf9 : (S n).size ≤ 60000 := by
    have h := S_len (z := n) (by omega)
    have h2 := bytes_size (S_list n)
    omega
  have hP := fun k => prs_le (a := a) (b := b) (c := a1) (d := b1) (e := a2) (f := S n) (by omega) (by omega) z1 z2 z3 hf9 k
  have h6 := S6.new W a b a1 b1 a2 (S n) 23
  have HB0 := Lib.hid (H.out.alloc H.out.size (.cells #[.string a, .string b, .string a1, .string b1, .string a2, .string (S n)] 23))
  have cF9 := Lib.hid (fun W hT => And.intro (FromInt_any n W h0.1 h0.2 hT) (rFromInt_any n W h0.1 h0.2))
  generalize S n = sn at *
  generalize prs a b a1 b1 a2 sn = P at *
  have H6 := Lib.hid h6
  have HP := Lib.hid hP
  clear hP h6 hf9 z1 z2 z3 cM70 cM30 cM12 cF hsa hsb ha hb ha9 hb9 h0 H
  generalize hg : W.heap.size = g at *
  generalize W.alloc (.cells #[.string a, .string b, .string a1, .string b1, .string a2, .string sn] 23) = W0 at *
  clear hg
  go_loopw [50] (fun iv wr => ∃ k : Nat, k ≤ 3 ∧ iv = .int .i64 (k : Int) ∧ Hid (S6 wr g P) ∧ Hid (Below w.heap.size w wr)) (fun iv _ => 3 - (intOf iv).toNat)
  case atStart => exact ⟨0, by omega, rfl, H6, HB0⟩
  case round =>
    clear H6 HB0
    obtain ⟨k, hk, rfl, h6, hB⟩ := hrel
    by_cases hk3 : k < 3
    · have HR := Lib.hid (Below.refl wr.heap.size wr)
      have hTr := Lib.hid (hT.out.below hB.out)
      obtain ⟨l1, l2⟩ := h6.out.2 k hk3
      obtain ⟨p1, p2⟩ := HP.out k
      generalize (P k).1 = x at *
      generalize (P k).2 = y at *
      obtain ⟨r1, q1, c1⟩ := agAdd x y _ _ rfl rfl p1 p2
      obtain ⟨r2, q2, c2⟩ := agSub x y _ _ rfl rfl p1 p2
      obtain ⟨r3, q3, c3⟩ := agMul x y _ _ rfl rfl p1 p2
      obtain ⟨r4, r5, q4, c4⟩ := agDiv x y _ _ rfl rfl p1 p2
      obtain ⟨r6, q6, c6⟩ := agGcd x y _ _ rfl rfl p1 p2
      obtain ⟨r7, q7, c7⟩ := agRoot x _ rfl p1
      obtain ⟨r8, q8, c8⟩ := agToInt x _ rfl p1
      obtain ⟨r9, c9⟩ := agValid x _ rfl p1
      obtain ⟨r10, c10⟩ := agCompare x y _ _ rfl rfl p1 p2
      have C1 := Lib.hid c1
      have C2 := Lib.hid c2
      have C3 := Lib.hid c3
      have C4 := Lib.hid c4
      have C6 := Lib.hid c6
      have C7 := Lib.hid c7
      have C8 := Lib.hid c8
      have C9 := Lib.hid c9
      have C10 := Lib.hid c10
      have HN := Lib.hid (SB.new wr x y 23)
      have HNB := Lib.hid (HR.out.alloc (Nat.le_refl _) (.cells #[.string x, .string y] 23))
      clear c1 c2 c3 c4 c6 c7 c8 c9 c10 p1 p2 HR
      go_upto_region 33 with (first | (go_at_call 9; (with_reducible refine (Ag.l C1.out _ (hTr.out.below HNB.out)).mono ?_); rintro e W ⟨rfl, B1⟩; have nb := HNB.out; have sb := HN.out; have B2 := nb.trans (B1.mono nb.size); have sb := sb.keep B1; have e0 := sb.2.1; have e1 := sb.2.2; have SBh := Lib.hid sb; have H := Lib.hid B2; clear HN HNB B1 B2 sb nb) | (go_at_call 10; (with_reducible refine (Ag.r C1.out _ (hTr.out.below H.out)).mono ?_); rintro e W ⟨rfl, B1⟩; have B2 := H.out.trans (B1.mono H.out.size); have sb := SBh.out.keep B1; clear H SBh e0 e1; have H := Lib.hid B2; have SBh := Lib.hid sb; have e0 := sb.2.1; have e1 := sb.2.2; clear B1 B2 sb) | (go_at_call 11; (with_reducible refine (Ag.l C2.out _ (hTr.out.below H.out)).mono ?_); rintro e W ⟨rfl, B1⟩; have B2 := H.out.trans (B1.mono H.out.size); have sb := SBh.out.keep B1; clear H SBh e0 e1; have H := Lib.hid B2; have SBh := Lib.hid sb; have e0 := sb.2.1; have e1 := sb.2.2; clear B1 B2 sb) | (go_at_call 12; (with_reducible refine (Ag.r C2.out _ (hTr.out.below H.out)).mono ?_); rintro e W ⟨rfl, B1⟩; have B2 := H.out.trans (B1.mono H.out.size); have sb := SBh.out.keep B1; clear H SBh e0 e1; have H := Lib.hid B2; have SBh := Lib.hid sb; have e0 := sb.2.1; have e1 := sb.2.2; clear B1 B2 sb) | (go_at_call 13; (with_reducible refine (Ag.l C3.out _ (hTr.out.below H.out)).mono ?_); rintro e W ⟨rfl, B1⟩; have B2 := H.out.trans (B1.mono H.out.size); have sb := SBh.out.keep B1; clear H SBh e0 e1; have H := Lib.hid B2; have SBh := Lib.hid sb; have e0 := sb.2.1; have e1 := sb.2.2; clear B1 B2 sb) | (go_at_call 14; (with_reducible refine (Ag.r C3.out _ (hTr.out.below H.out)).mono ?_); rintro e W ⟨rfl, B1⟩; have B2 := H.out.trans (B1.mono H.out.size); have sb := SBh.out.keep B1; clear H SBh e0 e1; have H := Lib.hid B2; have SBh := Lib.hid sb; have e0 := sb.2.1; have e1 := sb.2.2; clear B1 B2 sb) | (go_at_call 15; (with_reducible refine (Ag.l C4.out _ (hTr.out.below H.out)).mono ?_); rintro e W ⟨rfl, B1⟩; have B2 := H.out.trans (B1.mono H.out.size); have sb := SBh.out.keep B1; clear H SBh e0 e1; have H := Lib.hid B2; have SBh := Lib.hid sb; have e0 := sb.2.1; have e1 := sb.2.2; clear B1 B2 sb) | (go_at_call 16; (with_reducible refine (Ag.r C4.out _ (hTr.out.below H.out)).mono ?_); rintro e W ⟨rfl, B1⟩; have B2 := H.out.trans (B1.mono H.out.size); have sb := SBh.out.keep B1; clear H SBh e0 e1; have H := Lib.hid B2; have SBh := Lib.hid sb; have e0 := sb.2.1; have e1 := sb.2.2; clear B1 B2 sb) | (go_at_call 17; (with_reducible refine (Ag.l C6.out _ (hTr.out.below H.out)).mono ?_); rintro e W ⟨rfl, B1⟩; have B2 := H.out.trans (B1.mono H.out.size); have sb := SBh.out.keep B1; clear H SBh e0 e1; have H := Lib.hid B2; have SBh := Lib.hid sb; have e0 := sb.2.1; have e1 := sb.2.2; clear B1 B2 sb) | (go_at_call 18; (with_reducible refine (Ag.r C6.out _ (hTr.out.below H.out)).mono ?_); rintro e W ⟨rfl, B1⟩; have B2 := H.out.trans (B1.mono H.out.size); have sb := SBh.out.keep B1; clear H SBh e0 e1; have H := Lib.hid B2; have SBh := Lib.hid sb; have e0 := sb.2.1; have e1 := sb.2.2; clear B1 B2 sb) | (go_at_call 19; (with_reducible refine (Ag.l C7.out _ (hTr.out.below H.out)).mono ?_); rintro e W ⟨rfl, B1⟩; have B2 := H.out.trans (B1.mono H.out.size); have sb := SBh.out.keep B1; clear H SBh e0 e1; have H := Lib.hid B2; have SBh := Lib.hid sb; have e0 := sb.2.1; have e1 := sb.2.2; clear B1 B2 sb) | (go_at_call 20; (with_reducible refine (Ag.r C7.out _ (hTr.out.below H.out)).mono ?_); rintro e W ⟨rfl, B1⟩; have B2 := H.out.trans (B1.mono H.out.size); have sb := SBh.out.keep B1; clear H SBh e0 e1; have H := Lib.hid B2; have SBh := Lib.hid sb; have e0 := sb.2.1; have e1 := sb.2.2; clear B1 B2 sb) | (go_at_call 21; (with_reducible refine (Ag.l C8.out _ (hTr.out.below H.out)).mono ?_); rintro e W ⟨rfl, B1⟩; have B2 := H.out.trans (B1.mono H.out.size); have sb := SBh.out.keep B1; clear H SBh e0 e1; have H := Lib.hid B2; have SBh := Lib.hid sb; have e0 := sb.2.1; have e1 := sb.2.2; clear B1 B2 sb) | (go_at_call 22; (with_reducible refine (Ag.r C8.out _ (hTr.out.below H.out)).mono ?_); rintro e W ⟨rfl, B1⟩; have B2 := H.out.trans (B1.mono H.out.size); have sb := SBh.out.keep B1; clear H SBh e0 e1; have H := Lib.hid B2; have SBh := Lib.hid sb; have e0 := sb.2.1; have e1 := sb.2.2; clear B1 B2 sb))
      have SBk := Lib.hid SBh.out
      have HD := Lib.hid H.out.drew
      clear SBh H e0 e1 l1 l2 C1 C2 C3 C4 C6 C7 C8
      refine wp_region_noPanic ?_
      refine wp_region_held_drew (S := fun W => SB W wr.heap.size x y) (by kernel_rfl) ?_ (fun hHeld => ?_)
      · exact SBk.out
      refine wpAnyH_take (i := 0) (oi := ({ dst := some 213, op := Go.Op.move (Go.Operand.tmp 20), type := 3, pos := "law.go:63", after := #[], guard := none } : Oper)) (v := ?v0_1) rfl (by kernel_rfl) (by kernel_rfl) (by kernel_rfl) (fun _ _ _ h => h) (Or.inl ⟨by rfl, ?hy0_1⟩) (by assumption) ?re0_1
      case hy0_1 => ((intro w hSw; have e1 := hSw.2.1; have e2 := hSw.2.2; go_simp) <;> with_reducible rfl)
      (try simp only [Act.put, List.setIfInBounds_toArray, List.set_cons_zero, List.set_cons_succ])
      refine wpAnyH_take (i := 1) (oi := ({ dst := some 214, op := Go.Op.move (Go.Operand.tmp 22), type := 3, pos := "law.go:63", after := #[], guard := none } : Oper)) (v := ?v1_2) rfl (by kernel_rfl) (by kernel_rfl) (by kernel_rfl) (fun _ _ _ h => h) (Or.inl ⟨by rfl, ?hy1_2⟩) (by assumption) ?re1_2
      case hy1_2 => ((intro w hSw; have e1 := hSw.2.1; have e2 := hSw.2.2; go_simp) <;> with_reducible rfl)
      (try simp only [Act.put, List.setIfInBounds_toArray, List.set_cons_zero, List.set_cons_succ])
      refine wpAnyH_take (i := 2) (oi := ({ dst := some 215, op := Go.Op.binOp Go.BinOp.neq 3 (Go.Operand.tmp 213) (Go.Operand.tmp 214) 3, type := 4, pos := "law.go:63", after := #[{ on := 0, ground := Go.Ground.data }, { on := 1, ground := Go.Ground.data }], guard := none } : Oper)) (v := ?v2_3) rfl (by kernel_rfl) (by kernel_rfl) (by kernel_rfl) (fun _ _ _ h => h) (Or.inl ⟨by rfl, ?hy2_3⟩) (by assumption) ?re2_3
      case hy2_3 => ((intro w hSw; have e1 := hSw.2.1; have e2 := hSw.2.2; go_simp) <;> with_reducible rfl)
      (try simp only [Act.put, List.setIfInBounds_toArray, List.set_cons_zero, List.set_cons_succ])
      refine wpAnyH_take (i := 3) (oi := ({ dst := some 216, op := Go.Op.move (Go.Operand.tmp 215), type := 4, pos := "law.go:63", after := #[{ on := 2, ground := Go.Ground.data }], guard := none } : Oper)) (v := ?v3_4) rfl (by kernel_rfl) (by kernel_rfl) (by kernel_rfl) (fun _ _ _ h => h) (Or.inl ⟨by rfl, ?hy3_4⟩) (by assumption) ?re3_4
      case hy3_4 => ((intro w hSw; have e1 := hSw.2.1; have e2 := hSw.2.2; go_simp) <;> with_reducible rfl)
      (try simp only [Act.put, List.setIfInBounds_toArray, List.set_cons_zero, List.set_cons_succ])
      refine wpAnyH_take (i := 4) (oi := ({ dst := some 217, op := Go.Op.move (Go.Operand.tmp 21), type := 27, pos := "law.go:63", after := #[{ on := 3, ground := Go.Ground.guard }], guard := some (3, false) } : Oper)) (v := ?v4_5) rfl (by kernel_rfl) (by kernel_rfl) (by kernel_rfl) (fun _ _ _ h => h) (Or.inl ⟨by rfl, ?hy4_5⟩) (by assumption) ?re4_5
      case hy4_5 => ((intro w hSw; have e1 := hSw.2.1; have e2 := hSw.2.2; go_simp) <;> with_reducible rfl)
      (try simp only [Act.put, List.setIfInBounds_toArray, List.set_cons_zero, List.set_cons_succ])
      refine wpAnyH_take (i := 5) (oi := ({ dst := some 218, op := Go.Op.move (Go.Operand.tmp 23), type := 27, pos := "law.go:63", after := #[{ on := 3, ground := Go.Ground.guard }], guard := some (3, false) } : Oper)) (v := ?v5_6) rfl (by kernel_rfl) (by kernel_rfl) (by kernel_rfl) (fun _ _ _ h => h) (Or.inl ⟨by rfl, ?hy5_6⟩) (by assumption) ?re5_6
      case hy5_6 => ((intro w hSw; have e1 := hSw.2.1; have e2 := hSw.2.2; go_simp) <;> with_reducible rfl)
      (try simp only [Act.put, List.setIfInBounds_toArray, List.set_cons_zero, List.set_cons_succ])
      refine wpAnyH_take (i := 6) (oi := ({ dst := some 219, op := Go.Op.binOp Go.BinOp.neq 27 (Go.Operand.tmp 217) (Go.Operand.tmp 218) 27, type := 4, pos := "law.go:63", after := #[{ on := 4, ground := Go.Ground.data }, { on := 5, ground := Go.Ground.data }, { on := 3, ground := Go.Ground.guard }], guard := some (3, false) } : Oper)) (v := ?v6_7) rfl (by kernel_rfl) (by kernel_rfl) (by kernel_rfl) (fun _ _ _ h => h) (Or.inl ⟨by rfl, ?hy6_7⟩) (by assumption) ?re6_7
      case hy6_7 => ((intro w hSw; have e1 := hSw.2.1; have e2 := hSw.2.2; go_simp) <;> with_reducible rfl)
      (try simp only [Act.put, List.setIfInBounds_toArray, List.set_cons_zero, List.set_cons_succ])
      refine wpAnyH_take (i := 7) (oi := ({ dst := some 220, op := Go.Op.pick (Go.Operand.tmp 216) (Go.Operand.const (Go.Value.bool true)) (Go.Operand.tmp 219), type := 4, pos := "law.go:63", after := #[{ on := 3, ground := Go.Ground.data }, { on := 6, ground := Go.Ground.data }], guard := none } : Oper)) (v := ?v7_8) rfl (by kernel_rfl) (by kernel_rfl) (by kernel_rfl) (fun _ _ _ h => h) (Or.inl ⟨by rfl, ?hy7_8⟩) (by assumption) ?re7_8
      case hy7_8 => ((intro w hSw; have e1 := hSw.2.1; have e2 := hSw.2.2; go_simp) <;> with_reducible rfl)
      (try simp only [Act.put, List.setIfInBounds_toArray, List.set_cons_zero, List.set_cons_succ])
      refine wpAnyH_take (i := 8) (oi := ({ dst := some 221, op := Go.Op.move (Go.Operand.tmp 220), type := 4, pos := "law.go:63", after := #[{ on := 7, ground := Go.Ground.data }, { on := 3, ground := Go.Ground.chain }], guard := none } : Oper)) (v := ?v8_9) rfl (by kernel_rfl) (by kernel_rfl) (by kernel_rfl) (fun _ _ _ h => h) (Or.inl ⟨by rfl, ?hy8_9⟩) (by assumption) ?re8_9
      case hy8_9 => ((intro w hSw; have e1 := hSw.2.1; have e2 := hSw.2.2; go_simp) <;> with_reducible rfl)
      (try simp only [Act.put, List.setIfInBounds_toArray, List.set_cons_zero, List.set_cons_succ])
      refine wpAnyH_take (i := 9) (oi := ({ dst := some 222, op := Go.Op.indexAddr 23 (Go.Operand.tmp 9) (Go.Operand.const (Go.Value.int Go.IntKind.i64 0)), type := 0, pos := "law.go:63", after := #[{ on := 8, ground := Go.Ground.guard }], guard := some (8, false) } : Oper)) (v := ?v9_10) rfl (by kernel_rfl) (by kernel_rfl) (by kernel_rfl) (fun _ _ _ h => h) (Or.inl ⟨by rfl, ?hy9_10⟩) (by assumption) ?re9_10
      case hy9_10 => ((intro w hSw; have e1 := hSw.2.1; have e2 := hSw.2.2; go_simp) <;> with_reducible rfl)
      (try simp only [Act.put, List.setIfInBounds_toArray, List.set_cons_zero, List.set_cons_succ])
      refine wpAnyH_take (i := 10) (oi := ({ dst := some 223, op := Go.Op.load 9 (Go.Operand.tmp 222), type := 9, pos := "law.go:63", after := #[{ on := 9, ground := Go.Ground.data }, { on := 8, ground := Go.Ground.guard }], guard := some (8, false) } : Oper)) (v := ?v10_11) rfl (by kernel_rfl) (by kernel_rfl) (by kernel_rfl) (fun _ _ _ h => h) (Or.inl ⟨by rfl, ?hy10_11⟩) (by assumption) ?re10_11
      case hy10_11 => ((intro w hSw; have e1 := hSw.2.1; have e2 := hSw.2.2; go_simp) <;> with_reducible rfl)
      (try simp only [Act.put, List.setIfInBounds_toArray, List.set_cons_zero, List.set_cons_succ])
      refine wpAnyH_take (i := 12) (oi := ({ dst := some 225, op := Go.Op.indexAddr 23 (Go.Operand.tmp 9) (Go.Operand.const (Go.Value.int Go.IntKind.i64 0)), type := 0, pos := "law.go:63", after := #[{ on := 8, ground := Go.Ground.guard }], guard := some (8, false) } : Oper)) (v := ?v12_12) rfl (by kernel_rfl) (by kernel_rfl) (by kernel_rfl) (fun _ _ _ h => h) (Or.inl ⟨by rfl, ?hy12_12⟩) (by assumption) ?re12_12
      case hy12_12 => ((intro w hSw; have e1 := hSw.2.1; have e2 := hSw.2.2; go_simp) <;> with_reducible rfl)
      (try simp only [Act.put, List.setIfInBounds_toArray, List.set_cons_zero, List.set_cons_succ])
      refine wpAnyH_take (i := 13) (oi := ({ dst := some 226, op := Go.Op.load 9 (Go.Operand.tmp 225), type := 9, pos := "law.go:63", after := #[{ on := 12, ground := Go.Ground.data }, { on := 8, ground := Go.Ground.guard }], guard := some (8, false) } : Oper)) (v := ?v13_13) rfl (by kernel_rfl) (by kernel_rfl) (by kernel_rfl) (fun _ _ _ h => h) (Or.inl ⟨by rfl, ?hy13_13⟩) (by assumption) ?re13_13
      case hy13_13 => ((intro w hSw; have e1 := hSw.2.1; have e2 := hSw.2.2; go_simp) <;> with_reducible rfl)
      (try simp only [Act.put, List.setIfInBounds_toArray, List.set_cons_zero, List.set_cons_succ])
      refine wpAnyH_ready (rs := [11]) (by kernel_rfl) (by simp) ?_
      refine AllReadyH.cons (o := ({ dst := some 224, op := Go.Op.call { callee := Go.Callee.value (Go.Operand.func 23), args := #[Go.Operand.tmp 223], argTypes := #[9] }, type := 4, pos := "law.go:63", after := #[{ on := 10, ground := Go.Ground.data }, { on := 8, ground := Go.Ground.chain }, { on := 8, ground := Go.Ground.guard }], guard := some (8, false) } : Oper)) rfl (fun K hK => ?_) ?_
      · go_simp
        go_at_call 23
        refine (Ag.l C9.out _ (hTr.out.below HD.out)).mono ?_
        rintro e W1 ⟨rfl, B1⟩
        have HD1 := Lib.hid (HD.out.trans (B1.mono HD.out.size))
        (try go_wp2_with fail)
        refine hK.out _ _ ?_ (fun hHeld => ?_)
        · exact hHeld.keep B1
        clear hK K
        (try simp only [Act.put, List.setIfInBounds_toArray, List.set_cons_zero, List.set_cons_succ])
        refine wpAnyH_ready (rs := [14]) (by kernel_rfl) (by simp) ?_
        refine AllReadyH.cons (o := ({ dst := some 227, op := Go.Op.call { callee := Go.Callee.value (Go.Operand.func 24), args := #[Go.Operand.tmp 226], argTypes := #[9] }, type := 4, pos := "law.go:63", after := #[{ on := 13, ground := Go.Ground.data }, { on := 11, ground := Go.Ground.chain }, { on := 8, ground := Go.Ground.guard }], guard := some (8, false) } : Oper)) rfl (fun K hK => ?_) ?_
        · go_simp
          go_at_call 24
          refine (Ag.r C9.out _ (hTr.out.below HD1.out)).mono ?_
          rintro e W2 ⟨rfl, B2⟩
          have HD2 := Lib.hid (HD1.out.trans (B2.mono HD1.out.size))
          (try go_wp2_with fail)
          refine hK.out _ _ ?_ (fun hHeld => ?_)
          · exact hHeld.keep B2
          clear hK K
          (try simp only [Act.put, List.setIfInBounds_toArray, List.set_cons_zero, List.set_cons_succ])
          refine wpAnyH_take (i := 15) (oi := ({ dst := some 228, op := Go.Op.binOp Go.BinOp.neq 4 (Go.Operand.tmp 224) (Go.Operand.tmp 227) 4, type := 4, pos := "law.go:63", after := #[{ on := 11, ground := Go.Ground.data }, { on := 14, ground := Go.Ground.data }, { on := 8, ground := Go.Ground.guard }], guard := some (8, false) } : Oper)) (v := ?v15_16) rfl (by kernel_rfl) (by kernel_rfl) (by kernel_rfl) (fun _ _ _ h => h) (Or.inl ⟨by rfl, ?hy15_16⟩) (by assumption) ?re15_16
          case hy15_16 => ((intro w hSw; have e1 := hSw.2.1; have e2 := hSw.2.2; go_simp) <;> with_reducible rfl)
          (try simp only [Act.put, List.setIfInBounds_toArray, List.set_cons_zero, List.set_cons_succ])
          refine wpAnyH_take (i := 16) (oi := ({ dst := some 229, op := Go.Op.pick (Go.Operand.tmp 221) (Go.Operand.const (Go.Value.bool true)) (Go.Operand.tmp 228), type := 4, pos := "law.go:63", after := #[{ on := 8, ground := Go.Ground.data }, { on := 15, ground := Go.Ground.data }], guard := none } : Oper)) (v := ?v16_17) rfl (by kernel_rfl) (by kernel_rfl) (by kernel_rfl) (fun _ _ _ h => h) (Or.inl ⟨by rfl, ?hy16_17⟩) (by assumption) ?re16_17
          case hy16_17 => ((intro w hSw; have e1 := hSw.2.1; have e2 := hSw.2.2; go_simp) <;> with_reducible rfl)
          (try simp only [Act.put, List.setIfInBounds_toArray, List.set_cons_zero, List.set_cons_succ])
          refine wpAnyH_take (i := 17) (oi := ({ dst := some 230, op := Go.Op.move (Go.Operand.tmp 229), type := 4, pos := "law.go:63", after := #[{ on := 16, ground := Go.Ground.data }, { on := 14, ground := Go.Ground.chain }], guard := none } : Oper)) (v := ?v17_18) rfl (by kernel_rfl) (by kernel_rfl) (by kernel_rfl) (fun _ _ _ h => h) (Or.inl ⟨by rfl, ?hy17_18⟩) (by assumption) ?re17_18
          case hy17_18 => ((intro w hSw; have e1 := hSw.2.1; have e2 := hSw.2.2; go_simp) <;> with_reducible rfl)
          (try simp only [Act.put, List.setIfInBounds_toArray, List.set_cons_zero, List.set_cons_succ])
          refine wpAnyH_take (i := 18) (oi := ({ dst := some 231, op := Go.Op.indexAddr 23 (Go.Operand.tmp 9) (Go.Operand.const (Go.Value.int Go.IntKind.i64 0)), type := 0, pos := "law.go:63", after := #[{ on := 17, ground := Go.Ground.guard }], guard := some (17, false) } : Oper)) (v := ?v18_19) rfl (by kernel_rfl) (by kernel_rfl) (by kernel_rfl) (fun _ _ _ h => h) (Or.inl ⟨by rfl, ?hy18_19⟩) (by assumption) ?re18_19
          case hy18_19 => ((intro w hSw; have e1 := hSw.2.1; have e2 := hSw.2.2; go_simp) <;> with_reducible rfl)
          (try simp only [Act.put, List.setIfInBounds_toArray, List.set_cons_zero, List.set_cons_succ])
          refine wpAnyH_take (i := 19) (oi := ({ dst := some 232, op := Go.Op.load 9 (Go.Operand.tmp 231), type := 9, pos := "law.go:63", after := #[{ on := 18, ground := Go.Ground.data }, { on := 17, ground := Go.Ground.guard }], guard := some (17, false) } : Oper)) (v := ?v19_20) rfl (by kernel_rfl) (by kernel_rfl) (by kernel_rfl) (fun _ _ _ h => h) (Or.inl ⟨by rfl, ?hy19_20⟩) (by assumption) ?re19_20
          case hy19_20 => ((intro w hSw; have e1 := hSw.2.1; have e2 := hSw.2.2; go_simp) <;> with_reducible rfl)
          (try simp only [Act.put, List.setIfInBounds_toArray, List.set_cons_zero, List.set_cons_succ])
          refine wpAnyH_take (i := 20) (oi := ({ dst := some 233, op := Go.Op.indexAddr 23 (Go.Operand.tmp 9) (Go.Operand.const (Go.Value.int Go.IntKind.i64 1)), type := 0, pos := "law.go:63", after := #[{ on := 17, ground := Go.Ground.guard }], guard := some (17, false) } : Oper)) (v := ?v20_21) rfl (by kernel_rfl) (by kernel_rfl) (by kernel_rfl) (fun _ _ _ h => h) (Or.inl ⟨by rfl, ?hy20_21⟩) (by assumption) ?re20_21
          case hy20_21 => ((intro w hSw; have e1 := hSw.2.1; have e2 := hSw.2.2; go_simp) <;> with_reducible rfl)
          (try simp only [Act.put, List.setIfInBounds_toArray, List.set_cons_zero, List.set_cons_succ])
          refine wpAnyH_take (i := 21) (oi := ({ dst := some 234, op := Go.Op.load 9 (Go.Operand.tmp 233), type := 9, pos := "law.go:63", after := #[{ on := 20, ground := Go.Ground.data }, { on := 17, ground := Go.Ground.guard }], guard := some (17, false) } : Oper)) (v := ?v21_22) rfl (by kernel_rfl) (by kernel_rfl) (by kernel_rfl) (fun _ _ _ h => h) (Or.inl ⟨by rfl, ?hy21_22⟩) (by assumption) ?re21_22
          case hy21_22 => ((intro w hSw; have e1 := hSw.2.1; have e2 := hSw.2.2; go_simp) <;> with_reducible rfl)
          (try simp only [Act.put, List.setIfInBounds_toArray, List.set_cons_zero, List.set_cons_succ])
          refine wpAnyH_take (i := 23) (oi := ({ dst := some 236, op := Go.Op.indexAddr 23 (Go.Operand.tmp 9) (Go.Operand.const (Go.Value.int Go.IntKind.i64 0)), type := 0, pos := "law.go:63", after := #[{ on := 17, ground := Go.Ground.guard }], guard := some (17, false) } : Oper)) (v := ?v23_23) rfl (by kernel_rfl) (by kernel_rfl) (by kernel_rfl) (fun _ _ _ h => h) (Or.inl ⟨by rfl, ?hy23_23⟩) (by assumption) ?re23_23
          case hy23_23 => ((intro w hSw; have e1 := hSw.2.1; have e2 := hSw.2.2; go_simp) <;> with_reducible rfl)
          (try simp only [Act.put, List.setIfInBounds_toArray, List.set_cons_zero, List.set_cons_succ])
          refine wpAnyH_take (i := 24) (oi := ({ dst := some 237, op := Go.Op.load 9 (Go.Operand.tmp 236), type := 9, pos := "law.go:63", after := #[{ on := 23, ground := Go.Ground.data }, { on := 17, ground := Go.Ground.guard }], guard := some (17, false) } : Oper)) (v := ?v24_24) rfl (by kernel_rfl) (by kernel_rfl) (by kernel_rfl) (fun _ _ _ h => h) (Or.inl ⟨by rfl, ?hy24_24⟩) (by assumption) ?re24_24
          case hy24_24 => ((intro w hSw; have e1 := hSw.2.1; have e2 := hSw.2.2; go_simp) <;> with_reducible rfl)
          (try simp only [Act.put, List.setIfInBounds_toArray, List.set_cons_zero, List.set_cons_succ])
          refine wpAnyH_take (i := 25) (oi := ({ dst := some 238, op := Go.Op.indexAddr 23 (Go.Operand.tmp 9) (Go.Operand.const (Go.Value.int Go.IntKind.i64 1)), type := 0, pos := "law.go:63", after := #[{ on := 17, ground := Go.Ground.guard }], guard := some (17, false) } : Oper)) (v := ?v25_25) rfl (by kernel_rfl) (by kernel_rfl) (by kernel_rfl) (fun _ _ _ h => h) (Or.inl ⟨by rfl, ?hy25_25⟩) (by assumption) ?re25_25
          case hy25_25 => ((intro w hSw; have e1 := hSw.2.1; have e2 := hSw.2.2; go_simp) <;> with_reducible rfl)
          (try simp only [Act.put, List.setIfInBounds_toArray, List.set_cons_zero, List.set_cons_succ])
          refine wpAnyH_take (i := 26) (oi := ({ dst := some 239, op := Go.Op.load 9 (Go.Operand.tmp 238), type := 9, pos := "law.go:63", after := #[{ on := 25, ground := Go.Ground.data }, { on := 17, ground := Go.Ground.guard }], guard := some (17, false) } : Oper)) (v := ?v26_26) rfl (by kernel_rfl) (by kernel_rfl) (by kernel_rfl) (fun _ _ _ h => h) (Or.inl ⟨by rfl, ?hy26_26⟩) (by assumption) ?re26_26
          case hy26_26 => ((intro w hSw; have e1 := hSw.2.1; have e2 := hSw.2.2; go_simp) <;> with_reducible rfl)
          (try simp only [Act.put, List.setIfInBounds_toArray, List.set_cons_zero, List.set_cons_succ])
          refine wpAnyH_ready (rs := [22]) (by kernel_rfl) (by simp) ?_
          refine AllReadyH.cons (o := ({ dst := some 235, op := Go.Op.call { callee := Go.Callee.value (Go.Operand.func 25), args := #[Go.Operand.tmp 232, Go.Operand.tmp 234], argTypes := #[9, 9] }, type := 3, pos := "law.go:63", after := #[{ on := 19, ground := Go.Ground.data }, { on := 21, ground := Go.Ground.data }, { on := 17, ground := Go.Ground.chain }, { on := 17, ground := Go.Ground.guard }], guard := some (17, false) } : Oper)) rfl (fun K hK => ?_) ?_
          · go_simp
            go_at_call 25
            refine (Ag.l C10.out _ (hTr.out.below HD2.out)).mono ?_
            rintro e W3 ⟨rfl, B3⟩
            have HD3 := Lib.hid (HD2.out.trans (B3.mono HD2.out.size))
            (try go_wp2_with fail)
            refine hK.out _ _ ?_ (fun hHeld => ?_)
            · exact hHeld.keep B3
            clear hK K
            (try simp only [Act.put, List.setIfInBounds_toArray, List.set_cons_zero, List.set_cons_succ])
            refine wpAnyH_ready (rs := [27]) (by kernel_rfl) (by simp) ?_
            refine AllReadyH.cons (o := ({ dst := some 240, op := Go.Op.call { callee := Go.Callee.value (Go.Operand.func 26), args := #[Go.Operand.tmp 237, Go.Operand.tmp 239], argTypes := #[9, 9] }, type := 3, pos := "law.go:63", after := #[{ on := 24, ground := Go.Ground.data }, { on := 26, ground := Go.Ground.data }, { on := 22, ground := Go.Ground.chain }, { on := 17, ground := Go.Ground.guard }], guard := some (17, false) } : Oper)) rfl (fun K hK => ?_) ?_
            · go_simp
              go_at_call 26
              refine (Ag.r C10.out _ (hTr.out.below HD3.out)).mono ?_
              rintro e W4 ⟨rfl, B4⟩
              have HD4 := Lib.hid (HD3.out.trans (B4.mono HD3.out.size))
              (try go_wp2_with fail)
              refine hK.out _ _ ?_ (fun hHeld => ?_)
              · exact hHeld.keep B4
              clear hK K
              (try simp only [Act.put, List.setIfInBounds_toArray, List.set_cons_zero, List.set_cons_succ])
              refine wpAnyH_take (i := 28) (oi := ({ dst := some 241, op := Go.Op.binOp Go.BinOp.neq 3 (Go.Operand.tmp 235) (Go.Operand.tmp 240) 3, type := 4, pos := "law.go:63", after := #[{ on := 22, ground := Go.Ground.data }, { on := 27, ground := Go.Ground.data }, { on := 17, ground := Go.Ground.guard }], guard := some (17, false) } : Oper)) (v := ?v28_14) rfl (by kernel_rfl) (by kernel_rfl) (by kernel_rfl) (fun _ _ _ h => h) (Or.inl ⟨by rfl, ?hy28_14⟩) (by assumption) ?re28_14
              case hy28_14 => ((intro w hSw; have e1 := hSw.2.1; have e2 := hSw.2.2; go_simp) <;> with_reducible rfl)
              (try simp only [Act.put, List.setIfInBounds_toArray, List.set_cons_zero, List.set_cons_succ])
              refine wpAnyH_take (i := 29) (oi := ({ dst := some 242, op := Go.Op.pick (Go.Operand.tmp 230) (Go.Operand.const (Go.Value.bool true)) (Go.Operand.tmp 241), type := 4, pos := "law.go:63", after := #[{ on := 17, ground := Go.Ground.data }, { on := 28, ground := Go.Ground.data }], guard := none } : Oper)) (v := ?v29_15) rfl (by kernel_rfl) (by kernel_rfl) (by kernel_rfl) (fun _ _ _ h => h) (Or.inl ⟨by rfl, ?hy29_15⟩) (by assumption) ?re29_15
              case hy29_15 => ((intro w hSw; have e1 := hSw.2.1; have e2 := hSw.2.2; go_simp) <;> with_reducible rfl)
              (try simp only [Act.put, List.setIfInBounds_toArray, List.set_cons_zero, List.set_cons_succ])
              refine wpAnyH_done (by kernel_rfl) ?_ _
              refine NoPanic.normal ?_
              go_wp2_with fail
              exact ⟨⟨k + 1, by omega, by go_num, Lib.hid (h6.out.keep HD4.out), Lib.hid (hB.out.trans (HD4.out.mono hB.out.size))⟩, by simp [intOf]; omega⟩
            exact AllReadyH.nil
          exact AllReadyH.nil
        exact AllReadyH.nil
      exact AllReadyH.nil
    · obtain rfl : k = 3 := by omega
      have HTT := Lib.hid (cF9.out wr (hT.out.below hB.out))
      have HF2 := Lib.hid (fun W (hw : Below wr.heap.size wr W) => (cF9.out W ((hT.out.below hB.out).below hw)))
      clear h6
      go_wp2_with (first | (go_at_call 27; (with_reducible refine (HTT.out.1).mono ?_); rintro e W ⟨rfl, B1⟩) | (go_at_call 8; (with_reducible refine ((HF2.out _ B1).2).mono ?_); rintro e W ⟨rfl, B2⟩))
      go_ret
      exact ⟨rfl, hB.out.trans ((B1.trans (B2.mono B1.size)).mono hB.out.size)⟩
end Go.Proofs.YtbdiofifjckceaaGreatDoor
