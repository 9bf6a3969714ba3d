/- The reference's divided. -/
import Derived.Test.YtbdiofifjckceaaGreatDoorUf
import Derived.Deep.Cut
namespace Go.Proofs.YtbdiofifjckceaaGreatDoor
open Go.RowKit

theorem wpList_append_zeroX {w : World} {ops : Array Oper} {rest : List Oper} {o : Oper} {a : Act} {Q : Exit → Act → World → Prop} (hgd : o.guard = none) (s x : Operand)
    (ho : o.op = .call { callee := .builtin .append, args := #[s, x], argTypes := #[40, 40] }) (b n cp : Nat) (hs : a.eval s = .slice (some ⟨b, 0, none⟩) n cp) (ad : Option Addr) (c : Nat) (hx : a.eval x = .slice ad 0 c) (hn : n ≤ cp)
    (h : wpList Tryz.prog ops Q rest (a.put o.dst (.slice (some ⟨b, 0, none⟩) n cp)) w) : wpList Tryz.prog ops Q (o :: rest) a w :=
  wpList_plain hgd fun _ hK => by
    obtain ⟨i0, hi, _, hsz, _⟩ := info_parts info_int
    have hsrc : Src Tryz.prog i0.size 40 (.slice ad 0 c) 0 [] w := by
      cases ad with
      | none => exact Src.ofNil w Tryz.underlying40 c
      | some a => exact Src.ofSlice w Tryz.underlying40 a 0 c [] (by simp) (fun j u h => by simp at h) (fun _ h => by cases h)
    have hr := run_append_room_src w 40 40 o.type 3 i0 Tryz.underlying40 hi b 0 n cp (.slice ad 0 c) 0 [] hsrc (by omega) (fun j h => absurd h (by simp)) (fun j h => absurd h (by simp))
    unfold Oper.wp execOp
    simp only [ho, resolve, invoke, builtin, Sem.run_bind, Sem.run_pure, Result.andThen_ok, List.map_toArray, List.map_cons, List.map_nil, hs, hx, hr]
    exact hK _ _ h
theorem own_one {W : World} {base : Nat} (h : base ≤ W.heap.size) (x : Int) : (W.alloc (.cells #[.int .i64 x] 3)).ownsRow base 3 1 (.slice (some ⟨W.heap.size, 0, none⟩) 1 1) 1 (ints [x]) :=
  ⟨rfl, .inr ⟨W.heap.size, 1, #[.int .i64 x], rfl, h, World.alloc_heap_new W _, Nat.le_refl _, by unfold maxLen; omega, rfl, rfl⟩⟩

noncomputable def xvOf (w : World) (v : Value) : Nat := open Classical in if h : ∃ n, XSl w v n then h.choose else 0
theorem xvOf_eq {w : World} {v : Value} {n : Nat} (h : XSl w v n) : xvOf w v = n := by
  have hx : ∃ n, XSl w v n := ⟨n, h⟩
  rw [xvOf, dif_pos hx]
  exact grpX_inj (ISl.inj hx.choose_spec h)
theorem div_step (n d i R' : Nat) (hR : R' = (n / 10 ^ i) % 10 + 10 * ((n / 10 ^ (i + 1)) % d)) : (n / 10 ^ i) / d = 10 * ((n / 10 ^ (i + 1)) / d) + R' / d ∧ (n / 10 ^ i) % d = R' % d := by
  have h1 := gx_step n i
  have h2 := Nat.div_add_mod (n / 10 ^ (i + 1)) d
  have e : n / 10 ^ i = R' + d * (10 * ((n / 10 ^ (i + 1)) / d)) := by
    rw [hR]
    generalize n / 10 ^ (i + 1) = Z at *
    have e1 : d * (10 * (Z / d)) = 10 * (d * (Z / d)) := by rw [Nat.mul_left_comm]
    omega
  rcases Nat.eq_zero_or_pos d with h0 | h0
  · subst h0; simp at e ⊢; rw [e]
  · rw [e, Nat.add_mul_div_left _ _ h0, Nat.add_mul_mod_self_left]
    exact ⟨Nat.add_comm _ _, rfl⟩

set_option maxRecDepth 100000 in
set_option maxHeartbeats 4000000 in
theorem divided_any (n d : Nat) (v1 v2 : Value) (w : World) (hd : 0 < d) (hl1 : (grpX n).length ≤ 5000) (hl2 : (grpX d).length ≤ 5000) (h1 : XSl w v1 n) (h2 : XSl w v2 d) :
    Calls Tryz.prog 42 #[v1, v2] w fun e w' => ∃ u1 u2, e = .returned (.tuple #[u1, u2]) ∧ XSl w' u1 (n / d) ∧ XSl w' u2 (n % d) ∧ Below w.heap.size w w' := by
  obtain ⟨a1, c1, rfl⟩ := h1.form
  obtain ⟨p, hp⟩ : ∃ p, (grpX n).length = p := ⟨_, rfl⟩
  rw [hp] at h1 hl1 ⊢
  have H1 := Lib.hid h1
  have H2 := Lib.hid h2
  have HP := Lib.hid hp
  have HL2 := Lib.hid hl2
  have HD0 := Lib.hid hd
  obtain ⟨i0, hi, hz0', hz1, hz2⟩ := info_parts info_int
  have HBY := Lib.hid (show i0.bytes * p ≤ 281474976710656 by rw [hz2]; omega)
  have hmx : p ≤ maxLen := by unfold maxLen; omega
  have HZ := Lib.hid (show ∀ w', w'.ownsRow w.heap.size 3 1 (.slice (some ⟨w.heap.size, 0, none⟩) p p) p (madeCells (Value.int .i64 0).cells (p * 1)).toList → ABlk w' w.heap.size (List.replicate p 0) from fun w' h => by
    rw [made_zeros] at h
    exact (own_blk h).1)
  have HZ2 := Lib.hid hz2
  clear h1 h2 hp hz2 hl2 hd
  go_enter Tryz.func42, Tryz.ntmps42
  go_wp2_with (first | (refine wpList_make_full _ rfl (.tmp 10) (.tmp 10) 40 rfl w.heap.size 3 i0 (.int .i64 0) 1 Tryz.underlying40 hi hz0' hz1 .i64 .i64 _ _ p rfl rfl (by omega) (by omega) HBY.out hmx (Nat.le_refl _) ?_; intro w1 hown1 hgrow1; have hA1 := HZ.out w1 hown1; have hB1 := (Below.refl w.heap.size w).grown hgrow1 (Nat.le_refl _) (fun k e => by cases e); have HA1 := Lib.hid hA1; clear hown1 hgrow1 hA1))
  all_goals
    go_loopw [7, 8] (fun rv iv wr => ∃ (k : Nat) (ad : Option Addr) (cp : Nat), k ≤ p ∧ iv = .int .i64 ((k : Int) - 1) ∧ rv = .slice ad (grpX ((n / 10 ^ k) % d)).length cp ∧ Hid (XSl wr rv ((n / 10 ^ k) % d)) ∧ Hid (∃ L, ABlk wr w.heap.size L ∧ L.length = p ∧ DigX L ∧ vlX L = ((10 ^ k * ((n / 10 ^ k) / d) : Nat) : Int) ∧ ∀ j, j < k → L[j]? = some 0) ∧ Below w.heap.size w wr) (fun _ iv _ => (intOf iv + 1).toNat)
    case atStart =>
      have g0 : n / 10 ^ p = 0 := gx_end (by rw [HP.out]; exact Nat.le_refl _)
      refine ⟨p, none, 0, Nat.le_refl _, rfl, by rw [g0, Nat.zero_mod, grpX_zero]; rfl, Lib.hid (by rw [g0, Nat.zero_mod]; exact .inl ⟨_, _, rfl, grpX_zero⟩), Lib.hid ⟨_, HA1.out, by simp, (fun x hx => by rw [(List.mem_replicate.1 hx).2]; omega), by rw [vlX_zeros, g0, Nat.zero_div, Nat.mul_zero]; rfl, fun j hj => by rw [List.getElem?_replicate, if_pos hj]⟩, hB1⟩
    case round =>
      clear HA1 hB1
      obtain ⟨k, ad, cp, hk, rfl, rfl, hR, hI, hB⟩ := hrel
      by_cases h0 : k = 0
      · subst h0
        obtain ⟨L, k1, k2, k3, k4, _⟩ := hI.out
        have hR2 := hR.out
        rw [Nat.pow_zero, Nat.div_one] at hR2
        rw [Nat.pow_zero, Nat.div_one, Nat.one_mul] at k4
        have HR := Lib.hid hR2
        have CT := Lib.hid (fun W hW => rtrim_A (W := W) (cp := p) k1 k2 k3 k4 (Nat.le_refl _) (by omega) hW)
        rw [Nat.pow_zero, Nat.div_one]
        generalize (grpX (n % d)).length = z at *
        clear hI hR k1 k2 k3 k4 hR2
        go_wp2_with (go_at_call 29; (with_reducible refine (CT.out _ (Below.refl _ _)).mono ?_); rintro e w2 ⟨v, rfl, nv, B2⟩)
        go_ret2
        exact ⟨_, _, rfl, nv, HR.out.below B2, hB.trans (B2.mono hB.size)⟩
      · obtain ⟨i, rfl⟩ : ∃ i, k = i + 1 := ⟨k - 1, by omega⟩
        have hip : i < p := by omega
        obtain ⟨b1, o1, r1⟩ := (H1.out.below hB).at HP.out
        obtain ⟨rfl, x1, x2⟩ := r1 i hip
        obtain ⟨L, k1, k2, k3, k4, k5⟩ := hI.out
        obtain ⟨x, hx⟩ : ∃ x, (n / 10 ^ i) % 10 = x := ⟨_, rfl⟩
        obtain ⟨R, hRe⟩ : ∃ R, (n / 10 ^ (i + 1)) % d = R := ⟨_, rfl⟩
        have hRd : R < d := by rw [← hRe]; exact Nat.mod_lt _ HD0.out
        obtain ⟨R', hR'⟩ : ∃ R', R' = x + 10 * R := ⟨_, rfl⟩
        have hds := div_step n d i R' (by rw [hR', hx, hRe])
        have hx9 : x < 10 := by rw [← hx]; exact Nat.mod_lt _ (by decide)
        rw [hx] at x1
        rw [hRe] at hR ⊢
        have hR'd : R' < 10 * d := by omega
        have hRl : (grpX R).length ≤ 5000 := Nat.le_trans (grpX_mono (Nat.le_of_lt hRd)) HL2.out
        have hR'l : (grpX R').length ≤ 5001 := by
          have h9 : (grpX R').length ≤ (grpX d).length + 1 := by
            refine grpX_len ?_
            rw [Nat.pow_succ]
            have := grpX_lt d; omega
          have := HL2.out; omega
        have hvr : vlX ((x : Int) :: grpX R) = ((R' : Nat) : Int) := by rw [vlX, vlX_grp, hR']; omega
        have hdr : DigX ((x : Int) :: grpX R) := fun y hy => by
          rcases List.mem_cons.1 hy with g | g
          · rw [g]; omega
          · exact grpX_dig R y g
        have HQ := Lib.hid (show ∃ L, ABlk wr w.heap.size L ∧ L.length = p ∧ DigX L ∧ vlX L = ((10 ^ (i + 1) * ((n / 10 ^ (i + 1)) / d) : Nat) : Int) ∧ (∀ j, j < i → L[j]? = some 0) ∧ L[i]? = some 0 from ⟨L, k1, k2, k3, k4, fun j hj => k5 j (by omega), k5 i (by omega)⟩)
        have HDS := Lib.hid hds
        have HR := Lib.hid hR.out
        have HVR := Lib.hid (And.intro hvr hdr)
        have HBB := Lib.hid hB
        have hBA := hB.alloc hB.size (.cells #[.int .i64 (x : Int)] 3)
        have HBA := Lib.hid hBA
        -- the digit put ahead of the rest, trimmed
        have HXR := Lib.hid (show ∃ W9 : World → Prop, W9 = fun _ => True from ⟨_, rfl⟩)
        clear HXR hI hR k1 k2 k3 k4 k5 r1 hx hvr hdr hds hBA hRe
        obtain ⟨z, hz⟩ : ∃ z, (grpX R).length = z := ⟨_, rfl⟩
        have HZL := Lib.hid hz
        rw [hz] at hRl HR ⊢
        have CE := Lib.hid (show z = 0 → ∀ W, Below (wr.alloc (.cells #[.int .i64 (x : Int)] 3)).heap.size (wr.alloc (.cells #[.int .i64 (x : Int)] 3)) W → Calls Tryz.prog 29 #[.slice (some ⟨wr.heap.size, 0, none⟩) 1 1] W fun e w' => ∃ v, e = .returned v ∧ XSl w' v R' ∧ Below W.heap.size W w' from fun h0 W hW => by
          have hr0 : grpX R = [] := List.length_eq_zero_iff.1 (hz.trans h0)
          have h9 := HVR.out
          rw [hr0] at h9
          exact rtrim_A (g := wr.heap.size) ⟨[], World.alloc_heap_new wr _⟩ rfl h9.2 h9.1 (Nat.le_refl _) (by omega) hW)
        have CS := Lib.hid (show ∀ (W W2 : World) (g cap : Nat), W.ownsRow w.heap.size 3 1 (.slice (some ⟨g, 0, none⟩) (1 + z) cap) (1 + z) (ints [(x : Int)] ++ ints (grpX R)) → Below W.heap.size W W2 → Calls Tryz.prog 29 #[.slice (some ⟨g, 0, none⟩) (1 + z) cap] W2 fun e w' => ∃ v, e = .returned v ∧ XSl w' v R' ∧ Below W2.heap.size W2 w' from fun W W2 g cap ho hW => by
          rw [show ints [(x : Int)] ++ ints (grpX R) = ints ((x : Int) :: grpX R) by simp [ints]] at ho
          have hb := own_blk ho
          exact rtrim_A hb.1 hb.2.1 HVR.out.2 HVR.out.1 hb.2.2.1 hb.2.2.2.1 hW)
        clear hz
        by_cases hz0 : z = 0
        · subst hz0
          have HGO := Lib.hid (CE.out rfl _ (Below.refl _ _))
          clear CE CS HVR HR HZL
          go_upto_region 7 with (first | (at_builtin; go_loud (refine wpList_append_zeroX rfl (.tmp 23) (.tmp 24) rfl wr.heap.size 1 1 rfl ad cp rfl (by omega) ?_)) | (go_at_call 29; go_loud ((with_reducible refine HGO.out.mono ?_); rintro e w2 ⟨v, rfl, nv, B2⟩; have NV := Lib.hid nv; have BW := Lib.hid (HBA.out.trans (B2.mono HBA.out.size)); have BQ := Lib.hid ((below_alloc wr (.cells #[.int .i64 (x : Int)] 3)).trans (B2.mono (by simp))); clear nv B2)))
          have HQ2 := Lib.hid (show ∃ L, ABlk w2 w.heap.size L ∧ L.length = p ∧ DigX L ∧ vlX L = ((10 ^ (i + 1) * ((n / 10 ^ (i + 1)) / d) + 10 ^ i * 0 : Nat) : Int) ∧ (∀ j, j < i → L[j]? = some 0) ∧ L[i]? = some ((0 : Nat) : Int) from by
            obtain ⟨L, q1, q2, q3, q4, q5, q6⟩ := HQ.out
            exact ⟨L, q1.below BQ.out q1.lt, q2, q3, by rw [q4]; simp, q5, q6⟩)
          have hR'd2 := hR'd
          have hR'l2 := hR'l
          have HRR := Lib.hid (And.intro hR'd hR'l)
          clear x1 x2 hx9 hR'd hR'l hR'd2 hR'l2 hR'
          go_loopw [7] (fun rv wi => ∃ t : Nat, Hid (t * d ≤ R' ∧ XSl wi rv (R' - t * d)) ∧ Hid (∃ L, ABlk wi w.heap.size L ∧ L.length = p ∧ DigX L ∧ vlX L = ((10 ^ (i + 1) * ((n / 10 ^ (i + 1)) / d) + 10 ^ i * t : Nat) : Int) ∧ (∀ j, j < i → L[j]? = some 0) ∧ L[i]? = some ((t : Nat) : Int)) ∧ Below w.heap.size w wi) (fun rv wi => xvOf wi rv)
          case atStart => exact ⟨0, Lib.hid ⟨by omega, by rw [Nat.zero_mul, Nat.sub_zero]; exact NV.out⟩, HQ2, BW.out⟩
          case round =>
            clear HQ2
            obtain ⟨t, hX, hQ, hBi⟩ := hrel
            obtain ⟨r, hr⟩ : ∃ r, R' - t * d = r := ⟨_, rfl⟩
            have hle := hX.out.1
            have hXr := hX.out.2
            rw [hr] at hXr
            have hrR : r ≤ R' := by omega
            have hrl := Nat.le_trans (grpX_mono hrR) HRR.out.2
            have HV := Lib.hid (xvOf_eq hXr)
            by_cases hlt : r < d
            · have CO := Lib.hid (fun (W : World) (g1 : XSl W u7 r) (g2 : XSl W v2 d) => order_any r d u7 v2 W (by omega) (by have := HL2.out; omega) g1 g2)
              have hc : cmpN (r : Int) (d : Int) = -1 := by rw [cmpN, if_pos (by omega)]
              rw [hc] at CO
              have HXR := Lib.hid hXr
              have HX2 := Lib.hid (H2.out.below hBi)
              have hq1 : R' / d = t ∧ R' % d = r := by
                have e : R' = r + d * t := by rw [Nat.mul_comm d t]; omega
                rw [e, Nat.add_mul_div_left _ _ HD0.out, Nat.add_mul_mod_self_left, Nat.div_eq_of_lt hlt, Nat.mod_eq_of_lt hlt, Nat.zero_add]
                exact ⟨rfl, rfl⟩
              have HF := Lib.hid (show (n / 10 ^ i) % d = r ∧ ∃ L, ABlk wr w.heap.size L ∧ L.length = p ∧ DigX L ∧ vlX L = ((10 ^ i * ((n / 10 ^ i) / d) : Nat) : Int) ∧ ∀ j, j < i → L[j]? = some 0 from by
                obtain ⟨L, q1, q2, q3, q4, q5, q6⟩ := hQ.out
                refine ⟨by rw [HDS.out.2, hq1.2], L, q1, q2, q3, ?_, q5⟩
                rw [q4, HDS.out.1, hq1.1, Nat.mul_add, Nat.pow_succ, Nat.mul_assoc])
              clear hX hQ hle hXr hc hq1 hr hrR hrl HV
              go_wp2_with (go_at_call 49; go_loud ((with_reducible refine (CO.out _ HXR.out HX2.out).mono ?_); rintro e w5 ⟨rfl, B5⟩; have NX := Lib.hid (HXR.out.below B5); have BX := Lib.hid (hBi.trans (B5.mono hBi.size)); have B55 := Lib.hid B5; clear B5))
              obtain ⟨hF1, L, q1, q2, q3, q4, q5⟩ := HF.out
              obtain ⟨a9, c9, e9⟩ := NX.out.form
              refine ⟨⟨i, a9, c9, by omega, by go_num, by rw [hF1]; exact e9, Lib.hid (by rw [hF1]; exact NX.out), Lib.hid ⟨L, q1.below B55.out q1.lt, q2, q3, q4, q5⟩, BX.out⟩, by simp [intOf]⟩
            · have hge : d ≤ r := by omega
              have CO := Lib.hid (fun (W : World) (g1 : XSl W u7 r) (g2 : XSl W v2 d) => order_any r d u7 v2 W (by omega) (by have := HL2.out; omega) g1 g2)
              obtain ⟨z9, hz9⟩ : ∃ z, cmpN (r : Int) (d : Int) = z := ⟨_, rfl⟩
              have hz90 : 0 ≤ z9 := by rw [← hz9, cmpN, if_neg (by omega)]; split <;> omega
              rw [hz9] at CO
              have CM := Lib.hid (fun (W : World) (g1 : XSl W u7 r) (g2 : XSl W v2 d) => rminus_any r d u7 v2 W hge (by omega) g1 g2)
              have HXR := Lib.hid hXr
              have HX2 := Lib.hid (H2.out.below hBi)
              have ht1 : (t + 1) * d ≤ R' ∧ R' - (t + 1) * d = r - d := by rw [Nat.add_mul, Nat.one_mul]; omega
              have ht9 : t + 1 < 10 := by
                rcases Nat.lt_or_ge (t + 1) 10 with g | g
                · exact g
                · have := Nat.mul_le_mul_right d g; have := HRR.out.1; omega
              have HT := Lib.hid ht1
              have HQW := Lib.hid (show ∀ W, Below wr.heap.size wr W → ∃ L, ABlk W w.heap.size L ∧ L.length = p ∧ DigX L ∧ vlX L = ((10 ^ (i + 1) * ((n / 10 ^ (i + 1)) / d) + 10 ^ i * t : Nat) : Int) ∧ (∀ j, j < i → L[j]? = some 0) ∧ L[i]? = some ((t : Nat) : Int) from fun W hW => by
                obtain ⟨L, q1, q2, q3, q4, q5, q6⟩ := hQ.out
                exact ⟨L, q1.below hW q1.lt, q2, q3, q4, q5, q6⟩)
              have HGW := Lib.hid (show w.heap.size < wr.heap.size from by obtain ⟨L, q1, _⟩ := hQ.out; exact q1.lt)
              have hdec : r - d < r := by have := HD0.out; omega
              clear hX hQ hle hXr hr hrR hz9 ht1
              go_wp2_with (first | (go_at_call 49; go_loud ((with_reducible refine (CO.out _ HXR.out HX2.out).mono ?_); rintro e w5 ⟨rfl, B5⟩; have NX := Lib.hid (HXR.out.below B5); have NX2 := Lib.hid (HX2.out.below B5); have BX := Lib.hid (hBi.trans (B5.mono hBi.size)); have B55 := Lib.hid B5; clear B5)) | (go_at_call 44; go_loud ((with_reducible refine (CM.out _ NX.out NX2.out).mono ?_); rintro e w6 ⟨v6, rfl, n6, B6, fr⟩; have hgw := Nat.lt_of_lt_of_le (show w.heap.size < wr.heap.size from HGW.out) B55.out.size; have N6 := Lib.hid (n6.store (g := w.heap.size) (i := i) (x := .int .i64 ((t : Int) + 1)) (fun b o k c e h => by have := fr b o k c e h; omega)); clear fr hgw; have BX6 := Lib.hid (BX.out.trans (B6.mono BX.out.size)); obtain ⟨L, q1, q2, q3, q4, q5, q6⟩ := HQW.out _ (B55.out.trans (B6.mono B55.out.size)); have hcell := q1.cell q6; have hfree := q1.free i; have HQL := Lib.hid (And.intro q1 (And.intro q2 (And.intro q3 (And.intro q4 (And.intro q5 q6))))); clear n6 B6 q1 q2 q3 q4 q5 q6)))
              obtain ⟨q1, q2, q3, q4, q5, q6⟩ := HQL.out
              refine ⟨⟨t + 1, Lib.hid ⟨HT.out.1, ?_⟩, Lib.hid ⟨L.set i (((t + 1 : Nat)) : Int), q1.set i _, by rw [List.length_set]; exact q2, q3.set i (by omega), ?_, fun j hj => by rw [List.getElem?_set_ne (by omega)]; exact q5 j hj, by rw [List.getElem?_set_self (by omega)]⟩, BX6.out.setCell (p := ⟨w.heap.size, i, none⟩) (Nat.le_refl _) _⟩, ?_⟩
              · rw [HT.out.2]; exact N6.out
              · rw [vlX_set L i _ _ q6, q4, show (((t + 1 : Nat)) : Int) - (t : Int) = 1 by omega, Int.mul_one]
                have e : 10 ^ (i + 1) * ((n / 10 ^ (i + 1)) / d) + 10 ^ i * (t + 1) = (10 ^ (i + 1) * ((n / 10 ^ (i + 1)) / d) + 10 ^ i * t) + 10 ^ i := by rw [Nat.mul_add, Nat.mul_one, Nat.add_assoc]
                rw [e, Int.natCast_add (10 ^ (i + 1) * ((n / 10 ^ (i + 1)) / d) + 10 ^ i * t) (10 ^ i), Int.natCast_pow]; rfl
              · rw [xvOf_eq N6.out, HV.out]; exact hdec
        · have HROW := Lib.hid (show ∃ b o, ad = some ⟨b, o, none⟩ ∧ b < wr.heap.size ∧ IRow wr b o (grpX R) ∧ z ≤ cp from by
            rcases HR.out with ⟨_, _, e, e2⟩ | ⟨b, o, c', e, e1, _, e3, e4⟩
            · simp at e; omega
            · simp only [Value.slice.injEq] at e
              obtain ⟨rfl, e5, rfl⟩ := e
              exact ⟨b, o, rfl, e3, e4, by omega⟩)
          obtain ⟨b3, o3, rfl, hb3, hrow, hzc⟩ := HROW.out
          have HN := Lib.hid (show ∀ j u, (ints (grpX R))[j]? = some u → (wr.alloc (.cells #[.int .i64 (x : Int)] 3)).cell? ((⟨b3, o3, none⟩ : Addr).add j) = some u from IRow.news (hrow.below (below_alloc wr _) hb3))
          have HOO := Lib.hid (own_one (W := wr) HBB.out.size (x : Int))
          have HLL := Lib.hid (show (ints (grpX R)).length = z * 1 by rw [ints_len, HZL.out])
          clear CE HROW hrow HVR
          go_upto_region 7 with (first | (at_builtin; go_loud (refine wpList_append_lies _ rfl (.tmp 23) (.tmp 24) 40 rfl w.heap.size 3 i0 (.int .i64 0) 1 8 Tryz.underlying40 hi hz0' hz1 HZ2.out rfl (by decide) (.slice (some ⟨wr.heap.size, 0, none⟩) 1 1) 1 _ rfl HOO.out ⟨b3, o3, none⟩ z cp (ints (grpX R)) rfl HLL.out HN.out (ints_one _) (by omega) (by unfold maxLen; omega) (by omega) HBA.out.size _ rfl ?_; intro g4 cap4 w4 hown4 hgrow4 _ _; have HGO := Lib.hid (CS.out w4 w4 g4 cap4 hown4 (Below.refl _ _)); have BW4 := Lib.hid (HBA.out.grown hgrow4 HBA.out.size (fun q hq => by cases hq; exact HBB.out.size)); have BQ4 := Lib.hid ((below_alloc wr (.cells #[.int .i64 (x : Int)] 3)).grown hgrow4 (by simp) (fun q hq => by cases hq; exact Nat.le_refl _)); clear hown4 hgrow4)) | (go_at_call 29; go_loud ((with_reducible refine HGO.out.mono ?_); rintro e w2 ⟨v, rfl, nv, B2⟩; have NV := Lib.hid nv; have BW := Lib.hid (BW4.out.trans (B2.mono BW4.out.size)); have BQ := Lib.hid (BQ4.out.trans (B2.mono BQ4.out.size)); clear nv B2)))
          have HQ2 := Lib.hid (show ∃ L, ABlk w2 w.heap.size L ∧ L.length = p ∧ DigX L ∧ vlX L = ((10 ^ (i + 1) * ((n / 10 ^ (i + 1)) / d) + 10 ^ i * 0 : Nat) : Int) ∧ (∀ j, j < i → L[j]? = some 0) ∧ L[i]? = some ((0 : Nat) : Int) from by
            obtain ⟨L, q1, q2, q3, q4, q5, q6⟩ := HQ.out
            exact ⟨L, q1.below BQ.out q1.lt, q2, q3, by rw [q4]; simp, q5, q6⟩)
          have hR'd2 := hR'd
          have hR'l2 := hR'l
          have HRR := Lib.hid (And.intro hR'd hR'l)
          clear x1 x2 hx9 hR'd hR'l hR'd2 hR'l2 hR'
          go_loopw [7] (fun rv wi => ∃ t : Nat, Hid (t * d ≤ R' ∧ XSl wi rv (R' - t * d)) ∧ Hid (∃ L, ABlk wi w.heap.size L ∧ L.length = p ∧ DigX L ∧ vlX L = ((10 ^ (i + 1) * ((n / 10 ^ (i + 1)) / d) + 10 ^ i * t : Nat) : Int) ∧ (∀ j, j < i → L[j]? = some 0) ∧ L[i]? = some ((t : Nat) : Int)) ∧ Below w.heap.size w wi) (fun rv wi => xvOf wi rv)
          case atStart => exact ⟨0, Lib.hid ⟨by omega, by rw [Nat.zero_mul, Nat.sub_zero]; exact NV.out⟩, HQ2, BW.out⟩
          case round =>
            clear HQ2
            obtain ⟨t, hX, hQ, hBi⟩ := hrel
            obtain ⟨r, hr⟩ : ∃ r, R' - t * d = r := ⟨_, rfl⟩
            have hle := hX.out.1
            have hXr := hX.out.2
            rw [hr] at hXr
            have hrR : r ≤ R' := by omega
            have hrl := Nat.le_trans (grpX_mono hrR) HRR.out.2
            have HV := Lib.hid (xvOf_eq hXr)
            by_cases hlt : r < d
            · have CO := Lib.hid (fun (W : World) (g1 : XSl W u7 r) (g2 : XSl W v2 d) => order_any r d u7 v2 W (by omega) (by have := HL2.out; omega) g1 g2)
              have hc : cmpN (r : Int) (d : Int) = -1 := by rw [cmpN, if_pos (by omega)]
              rw [hc] at CO
              have HXR := Lib.hid hXr
              have HX2 := Lib.hid (H2.out.below hBi)
              have hq1 : R' / d = t ∧ R' % d = r := by
                have e : R' = r + d * t := by rw [Nat.mul_comm d t]; omega
                rw [e, Nat.add_mul_div_left _ _ HD0.out, Nat.add_mul_mod_self_left, Nat.div_eq_of_lt hlt, Nat.mod_eq_of_lt hlt, Nat.zero_add]
                exact ⟨rfl, rfl⟩
              have HF := Lib.hid (show (n / 10 ^ i) % d = r ∧ ∃ L, ABlk wr w.heap.size L ∧ L.length = p ∧ DigX L ∧ vlX L = ((10 ^ i * ((n / 10 ^ i) / d) : Nat) : Int) ∧ ∀ j, j < i → L[j]? = some 0 from by
                obtain ⟨L, q1, q2, q3, q4, q5, q6⟩ := hQ.out
                refine ⟨by rw [HDS.out.2, hq1.2], L, q1, q2, q3, ?_, q5⟩
                rw [q4, HDS.out.1, hq1.1, Nat.mul_add, Nat.pow_succ, Nat.mul_assoc])
              clear hX hQ hle hXr hc hq1 hr hrR hrl HV
              go_wp2_with (go_at_call 49; go_loud ((with_reducible refine (CO.out _ HXR.out HX2.out).mono ?_); rintro e w5 ⟨rfl, B5⟩; have NX := Lib.hid (HXR.out.below B5); have BX := Lib.hid (hBi.trans (B5.mono hBi.size)); have B55 := Lib.hid B5; clear B5))
              obtain ⟨hF1, L, q1, q2, q3, q4, q5⟩ := HF.out
              obtain ⟨a9, c9, e9⟩ := NX.out.form
              refine ⟨⟨i, a9, c9, by omega, by go_num, by rw [hF1]; exact e9, Lib.hid (by rw [hF1]; exact NX.out), Lib.hid ⟨L, q1.below B55.out q1.lt, q2, q3, q4, q5⟩, BX.out⟩, by simp [intOf]⟩
            · have hge : d ≤ r := by omega
              have CO := Lib.hid (fun (W : World) (g1 : XSl W u7 r) (g2 : XSl W v2 d) => order_any r d u7 v2 W (by omega) (by have := HL2.out; omega) g1 g2)
              obtain ⟨z9, hz9⟩ : ∃ z, cmpN (r : Int) (d : Int) = z := ⟨_, rfl⟩
              have hz90 : 0 ≤ z9 := by rw [← hz9, cmpN, if_neg (by omega)]; split <;> omega
              rw [hz9] at CO
              have CM := Lib.hid (fun (W : World) (g1 : XSl W u7 r) (g2 : XSl W v2 d) => rminus_any r d u7 v2 W hge (by omega) g1 g2)
              have HXR := Lib.hid hXr
              have HX2 := Lib.hid (H2.out.below hBi)
              have ht1 : (t + 1) * d ≤ R' ∧ R' - (t + 1) * d = r - d := by rw [Nat.add_mul, Nat.one_mul]; omega
              have ht9 : t + 1 < 10 := by
                rcases Nat.lt_or_ge (t + 1) 10 with g | g
                · exact g
                · have := Nat.mul_le_mul_right d g; have := HRR.out.1; omega
              have HT := Lib.hid ht1
              have HQW := Lib.hid (show ∀ W, Below wr.heap.size wr W → ∃ L, ABlk W w.heap.size L ∧ L.length = p ∧ DigX L ∧ vlX L = ((10 ^ (i + 1) * ((n / 10 ^ (i + 1)) / d) + 10 ^ i * t : Nat) : Int) ∧ (∀ j, j < i → L[j]? = some 0) ∧ L[i]? = some ((t : Nat) : Int) from fun W hW => by
                obtain ⟨L, q1, q2, q3, q4, q5, q6⟩ := hQ.out
                exact ⟨L, q1.below hW q1.lt, q2, q3, q4, q5, q6⟩)
              have HGW := Lib.hid (show w.heap.size < wr.heap.size from by obtain ⟨L, q1, _⟩ := hQ.out; exact q1.lt)
              have hdec : r - d < r := by have := HD0.out; omega
              clear hX hQ hle hXr hr hrR hz9 ht1
              go_wp2_with (first | (go_at_call 49; go_loud ((with_reducible refine (CO.out _ HXR.out HX2.out).mono ?_); rintro e w5 ⟨rfl, B5⟩; have NX := Lib.hid (HXR.out.below B5); have NX2 := Lib.hid (HX2.out.below B5); have BX := Lib.hid (hBi.trans (B5.mono hBi.size)); have B55 := Lib.hid B5; clear B5)) | (go_at_call 44; go_loud ((with_reducible refine (CM.out _ NX.out NX2.out).mono ?_); rintro e w6 ⟨v6, rfl, n6, B6, fr⟩; have hgw := Nat.lt_of_lt_of_le (show w.heap.size < wr.heap.size from HGW.out) B55.out.size; have N6 := Lib.hid (n6.store (g := w.heap.size) (i := i) (x := .int .i64 ((t : Int) + 1)) (fun b o k c e h => by have := fr b o k c e h; omega)); clear fr hgw; have BX6 := Lib.hid (BX.out.trans (B6.mono BX.out.size)); obtain ⟨L, q1, q2, q3, q4, q5, q6⟩ := HQW.out _ (B55.out.trans (B6.mono B55.out.size)); have hcell := q1.cell q6; have hfree := q1.free i; have HQL := Lib.hid (And.intro q1 (And.intro q2 (And.intro q3 (And.intro q4 (And.intro q5 q6))))); clear n6 B6 q1 q2 q3 q4 q5 q6)))
              obtain ⟨q1, q2, q3, q4, q5, q6⟩ := HQL.out
              refine ⟨⟨t + 1, Lib.hid ⟨HT.out.1, ?_⟩, Lib.hid ⟨L.set i (((t + 1 : Nat)) : Int), q1.set i _, by rw [List.length_set]; exact q2, q3.set i (by omega), ?_, fun j hj => by rw [List.getElem?_set_ne (by omega)]; exact q5 j hj, by rw [List.getElem?_set_self (by omega)]⟩, BX6.out.setCell (p := ⟨w.heap.size, i, none⟩) (Nat.le_refl _) _⟩, ?_⟩
              · rw [HT.out.2]; exact N6.out
              · rw [vlX_set L i _ _ q6, q4, show (((t + 1 : Nat)) : Int) - (t : Int) = 1 by omega, Int.mul_one]
                have e : 10 ^ (i + 1) * ((n / 10 ^ (i + 1)) / d) + 10 ^ i * (t + 1) = (10 ^ (i + 1) * ((n / 10 ^ (i + 1)) / d) + 10 ^ i * t) + 10 ^ i := by rw [Nat.mul_add, Nat.mul_one, Nat.add_assoc]
                rw [e, Int.natCast_add (10 ^ (i + 1) * ((n / 10 ^ (i + 1)) / d) + 10 ^ i * t) (10 ^ i), Int.natCast_pow]; rfl
              · rw [xvOf_eq N6.out, HV.out]; exact hdec
end Go.Proofs.YtbdiofifjckceaaGreatDoor
