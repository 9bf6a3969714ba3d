/- The reference's times. -/
import Derived.Test.YtbdiofifjckceaaGreatDoorUe
namespace Go.Proofs.YtbdiofifjckceaaGreatDoor
open Go.RowKit

theorem rtrim_A {w W : World} {g i cp n : Nat} {l : List Int} (hA : ABlk w g l) (hl : l.length = i) (hd : DigX l) (hv : vlX l = n) (hc1 : i ≤ cp) (hc2 : cp ≤ 9223372036854775807) (hW : Below w.heap.size w W) :
    Calls Tryz.prog 29 #[.slice (some ⟨g, 0, none⟩) i cp] W fun e w' => ∃ v, e = .returned v ∧ XSl w' v n ∧ Below W.heap.size W w' := by
  have ht := trzX_grp hd
  rw [hv, Int.toNat_natCast] at ht
  have hA2 := hA.below hW hA.lt
  refine (rtrim_some l g 0 i cp W hl hc1 hc2 (ABlk.row (P := []) (S := []) (by simpa using hA2))).mono fun e w' ⟨he, q, hq⟩ => ⟨_, he, ?_, hq ▸ below_drewN (Below.refl _ _) q⟩
  rw [hq, ht]
  refine ISl.below (w := W) ?_ (below_drewN (Below.refl _ _) q)
  have hle := trz_len l
  rw [ht] at hle
  rw [show l = grpX n ++ l.drop (grpX n).length from by
    have h3 := trz_take l
    rw [ht] at h3
    rw [← List.take_append_drop (grpX n).length l, ← h3]; simp] at hA2
  exact ABlk.sl hA2 rfl (by omega) hc2
theorem step_times {m i k c a x M N : Nat} {T : Nat} {L : List Int} (h : vlX L + 10 ^ (i + k) * ((c + a * (m / 10 ^ k) : Nat) : Int) = (T : Int)) (hx : L[i + k]? = some (x : Int)) (hM : M = a * ((m / 10 ^ k) % 10)) (hN : N = x + c + M) :
    vlX (L.set (i + k) ((N : Int) % 10)) + 10 ^ (i + (k + 1)) * ((N / 10 + a * (m / 10 ^ (k + 1)) : Nat) : Int) = (T : Int) := by
  have s2 := gx_step m k
  rw [vlX_set L _ _ _ hx, ← h, Int.add_assoc, ← Nat.add_assoc, Int.pow_succ, Int.mul_assoc, ← Int.mul_add]
  congr 2
  have e : a * (m / 10 ^ k) = M + 10 * (a * (m / 10 ^ (k + 1))) := by
    rw [s2, Nat.mul_add, hM, Nat.mul_left_comm a 10]
  rw [e]
  generalize a * (m / 10 ^ (k + 1)) = Z at *
  omega
theorem mod_step (n i : Nat) : n % 10 ^ (i + 1) = n % 10 ^ i + 10 ^ i * ((n / 10 ^ i) % 10) := by
  rw [Nat.pow_succ, Nat.mod_mul]

set_option maxRecDepth 100000 in
set_option maxHeartbeats 4000000 in
theorem rtimes_any (n m : Nat) (v1 v2 : Value) (w : World) (hl1 : (grpX n).length ≤ 5000) (hl2 : (grpX m).length ≤ 5000) (h1 : XSl w v1 n) (h2 : XSl w v2 m) :
    Calls Tryz.prog 37 #[v1, v2] w fun e w' => ∃ v, e = .returned v ∧ XSl w' v (n * m) ∧ Below w.heap.size w w' := by
  obtain ⟨a1, c1, rfl⟩ := h1.form
  obtain ⟨a2, c2, rfl⟩ := h2.form
  obtain ⟨p, hp⟩ : ∃ p, (grpX n).length = p := ⟨_, rfl⟩
  obtain ⟨q, hq⟩ : ∃ q, (grpX m).length = q := ⟨_, rfl⟩
  have hnp := grpX_lt n
  have hmq := grpX_lt m
  rw [hp] at h1 hl1 hnp ⊢
  rw [hq] at h2 hl2 hmq ⊢
  have H1 := Lib.hid h1
  have H2 := Lib.hid h2
  have HP := Lib.hid hp
  have HQ := Lib.hid hq
  have HNP := Lib.hid hnp
  have HMQ := Lib.hid hmq
  obtain ⟨i0, hi, hz0, hz1, hz2⟩ := info_parts info_int
  obtain ⟨H, hH⟩ : ∃ H, p + q = H := ⟨_, rfl⟩
  have eW : (p : Int) + (q : Int) = (H : Int) := by omega
  have HBY := Lib.hid (show i0.bytes * H ≤ 281474976710656 by rw [hz2]; omega)
  have hmx : H ≤ maxLen := by unfold maxLen; omega
  have HZ := Lib.hid (show ∀ w', w'.ownsRow w.heap.size 3 1 (.slice (some ⟨w.heap.size, 0, none⟩) H H) H (madeCells (Value.int .i64 0).cells (H * 1)).toList → ABlk w' w.heap.size (List.replicate H 0) from fun w' h => by
    rw [made_zeros] at h
    exact (own_blk h).1)
  have HH := Lib.hid hH
  clear h1 h2 hp hq hz2 hnp hmq hH
  go_enter Tryz.func37, Tryz.ntmps37
  go_wp2_with (first | (refine wpList_make_full _ rfl (.tmp 14) (.tmp 14) 40 rfl w.heap.size 3 i0 (.int .i64 0) 1 Tryz.underlying40 hi hz0 hz1 .i64 .i64 _ _ H rfl rfl (by omega) (by omega) HBY.out hmx (Nat.le_refl _) ?_; intro w1 hown1 hgrow1; have hA1 := HZ.out w1 hown1; have hB1 := (Below.refl w.heap.size w).grown hgrow1 (Nat.le_refl _) (fun k e => by cases e); have HA1 := Lib.hid hA1; clear hown1 hgrow1 hA1))
  all_goals
    go_loopw [6] (fun iv wr => ∃ i : Nat, i ≤ p ∧ iv = .int .i64 (i : Int) ∧ Hid (∃ L, ABlk wr w.heap.size L ∧ L.length = H ∧ DigX L ∧ vlX L = (((n % 10 ^ i) * m : Nat) : Int)) ∧ Below w.heap.size w wr) (fun iv _ => p - (intOf iv).toNat)
    case atStart => exact ⟨0, Nat.zero_le _, rfl, Lib.hid ⟨_, HA1.out, by simp, (fun x hx => by rw [(List.mem_replicate.1 hx).2]; omega), by rw [vlX_zeros, Nat.pow_zero, Nat.mod_one, Nat.zero_mul]; rfl⟩, hB1⟩
    case round =>
      clear HA1 hB1
      obtain ⟨i, hi9, rfl, hI, hB⟩ := hrel
      by_cases hip : i < p
      · have hW1 := H1.out.below hB
        obtain ⟨b1, o1, r1⟩ := hW1.at HP.out
        obtain ⟨rfl, x1, x2⟩ := r1 i hip
        have hms := mod_step n i
        obtain ⟨a, ha⟩ : ∃ a, (n / 10 ^ i) % 10 = a := ⟨_, rfl⟩
        have ha9 : a < 10 := by rw [← ha]; exact Nat.mod_lt _ (by decide)
        rw [ha] at x1 hms
        obtain ⟨T, hT⟩ : ∃ T, T = (n % 10 ^ (i + 1)) * m := ⟨_, rfl⟩
        have hT9 : T < 10 ^ (i + 1 + q) := by
          rw [hT, Nat.pow_add 10 (i + 1) q]
          exact Nat.mul_lt_mul'' (Nat.mod_lt _ (Nat.pow_pos (n := i + 1) (show 0 < 10 by decide))) HMQ.out
        obtain ⟨L0, k1, k2, k3, k4⟩ := hI.out
        have hst : vlX L0 + 10 ^ (i + 0) * ((0 + a * (m / 10 ^ 0) : Nat) : Int) = (T : Int) := by
          rw [k4, hT, hms, Nat.add_zero, Nat.pow_zero, Nat.div_one, Nat.zero_add, Nat.add_mul, Nat.mul_assoc]
          simp
        have HST := Lib.hid (show ∃ L, ABlk wr w.heap.size L ∧ L.length = H ∧ DigX L ∧ vlX L + 10 ^ (i + 0) * ((0 + a * (m / 10 ^ 0) : Nat) : Int) = (T : Int) from ⟨L0, k1, k2, k3, hst⟩)
        have HTT := Lib.hid (And.intro hT hT9)
        have X1 := Lib.hid (show ∀ W, Below w.heap.size w W → IRow W b1 o1 (grpX n) from fun W hW => by
          rcases H1.out.below hW with ⟨_, _, e, _⟩ | ⟨b, o, c', e, _, _, _, h4⟩
          · simp at e; omega
          · simp only [Value.slice.injEq, Option.some.injEq, Addr.mk.injEq] at e
            obtain ⟨⟨rfl, rfl, _⟩, _⟩ := e
            exact h4)
        have hgi : (grpX n)[i]? = some ((a : Nat) : Int) := by rw [gx_get, if_pos ((gx_len n i).1 (by rw [HP.out]; exact hip)), ha]
        have HGI := Lib.hid hgi
        clear hI k1 k2 k3 k4 hst hW1 r1 hms ha hT hT9 hgi
        go_wp2
        go_loopw [7, 8] (fun cv kv wi => ∃ (k c : Nat), k ≤ q + 1 ∧ c ≤ 9 ∧ cv = .int .i64 (c : Int) ∧ kv = .int .i64 (k : Int) ∧ Hid (∃ L, ABlk wi w.heap.size L ∧ L.length = H ∧ DigX L ∧ vlX L + 10 ^ (i + k) * ((c + a * (m / 10 ^ k) : Nat) : Int) = (T : Int)) ∧ Below w.heap.size w wi) (fun _ kv _ => q + 1 - (intOf kv).toNat)
        case atStart => exact ⟨0, 0, by omega, by omega, rfl, rfl, HST, hB⟩
        case round =>
          clear x1 HST
          obtain ⟨k, c, hk9, hc9, rfl, rfl, hI, hBi⟩ := hrel
          obtain ⟨L, k1, k2, k3, k4⟩ := hI.out
          clear hI
          have hx1 : wr.cell? ⟨b1, o1 + i, none⟩ = some (.int .i64 (a : Int)) := (X1.out _ hBi) i _ HGI.out
          by_cases hcont : k < q ∨ 0 < c
          · have hkq : k ≤ q := by
              rcases hcont with h | h
              · omega
              · have g3 := low_of k4 k3 (Nat.le_trans (show 1 ≤ c from h) (Nat.le_add_right _ _))
                have g4 : 10 ^ (i + k) < 10 ^ (i + 1 + q) := by have := HTT.out.2; omega
                have := (Nat.pow_lt_pow_iff_right (by decide : 1 < 10)).1 g4
                omega
            obtain ⟨j, hj⟩ : ∃ j, i + k = j := ⟨_, rfl⟩
            have hjH : j < H := by have := HH.out; omega
            have hjL : j < L.length := by omega
            obtain ⟨x, hx⟩ : ∃ x : Nat, L[j] = (x : Int) := ⟨(L[j]).toNat, by have := k3 _ (List.getElem_mem hjL); omega⟩
            have hx9 : x < 10 := by have := k3 _ (List.getElem_mem hjL); omega
            have hxL : L[j]? = some (x : Int) := by rw [List.getElem?_eq_getElem hjL, hx]
            have hcell : wr.cell? ⟨w.heap.size, j, none⟩ = some (.int .i64 (x : Int)) := k1.cell hxL
            have hfree : wr.frozen? ⟨w.heap.size, j, none⟩ = false := k1.free j
            have eij : (i : Int) + (k : Int) = (j : Int) := by omega
            have hW2 := H2.out.below hBi
            obtain ⟨b2, o2, r2⟩ := hW2.at HQ.out
            have R2 := Lib.hid r2
            have e2 : ¬ k < q → m / 10 ^ k = 0 := fun h => gx_end (by rw [HQ.out]; omega)
            obtain ⟨M, hM⟩ : ∃ M, M = a * ((m / 10 ^ k) % 10) := ⟨_, rfl⟩
            obtain ⟨N, hN⟩ : ∃ N, N = x + c + M := ⟨_, rfl⟩
            have hM9 : M ≤ 81 := by
              have h5 : (m / 10 ^ k) % 10 ≤ 9 := by have := Nat.mod_lt (m / 10 ^ k) (show 0 < 10 by decide); omega
              rw [hM]; exact Nat.mul_le_mul (show a ≤ 9 by omega) h5
            rw [← hj] at hxL
            have k5 := step_times k4 hxL hM hN
            rw [hj] at hxL k5
            have HK := Lib.hid (show ∃ L2, ABlk (wr.setCell ⟨w.heap.size, j, none⟩ (.int .i64 ((N : Int) % 10))) w.heap.size L2 ∧ L2.length = H ∧ DigX L2 ∧ vlX L2 + 10 ^ (i + (k + 1)) * ((N / 10 + a * (m / 10 ^ (k + 1)) : Nat) : Int) = (T : Int) from ⟨_, k1.set j ((N : Int) % 10), by rw [List.length_set]; exact k2, k3.set j (by omega), k5⟩)
            have hB2 := Lib.hid (hBi.setCell (p := ⟨w.heap.size, j, none⟩) (Nat.le_refl _) (.int .i64 ((N : Int) % 10)))
            have HKd := Lib.hid (show ∃ L2, ABlk (wr.drew.setCell ⟨w.heap.size, j, none⟩ (.int .i64 ((N : Int) % 10))) w.heap.size L2 ∧ L2.length = H ∧ DigX L2 ∧ vlX L2 + 10 ^ (i + (k + 1)) * ((N / 10 + a * (m / 10 ^ (k + 1)) : Nat) : Int) = (T : Int) from ⟨_, ABlk.set (w := wr.drew) k1 j ((N : Int) % 10), by rw [List.length_set]; exact k2, k3.set j (by omega), k5⟩)
            have hBd := Lib.hid (hBi.drew.setCell (p := ⟨w.heap.size, j, none⟩) (Nat.le_refl _) (.int .i64 ((N : Int) % 10)))
            have hcelld : wr.drew.cell? ⟨w.heap.size, j, none⟩ = some (.int .i64 (x : Int)) := hcell
            have hfreed : wr.drew.frozen? ⟨w.heap.size, j, none⟩ = false := hfree
            have hN9 : N ≤ 99 := by omega
            have hN0 : 0 ≤ (N : Int) := by omega
            clear k1 k2 k3 k4 k5 hxL hx hW2 r2 hj hBi
            by_cases hkq2 : k < q
            · obtain ⟨rfl, y1, y2⟩ := R2.out k hkq2
              obtain ⟨y, hy⟩ : ∃ y, (m / 10 ^ k) % 10 = y := ⟨_, rfl⟩
              have hy9 : y < 10 := by rw [← hy]; exact Nat.mod_lt _ (by decide)
              rw [hy] at y1 hM
              have em : (a : Int) * (y : Int) = (M : Int) := by rw [hM, Int.natCast_mul]
              have es : (x : Int) + (c : Int) + (M : Int) = (N : Int) := by omega
              clear hM hN hy e2 R2 hcont
              go_wp2_with fail
              refine wp_region_noPanic ?_
              refine wp_region_held_drew (S := fun W => W.cell? ⟨b1, o1 + i, none⟩ = some (.int .i64 (a : Int)) ∧ W.cell? ⟨b2, o2 + k, none⟩ = some (.int .i64 (y : Int))) (by kernel_rfl) ?_ (fun hHeld => ?_)
              · exact ⟨hx1, y1⟩
              refine wpAnyH_take (i := 0) (oi := ({ dst := some 44, op := Go.Op.move (Go.Operand.tmp 9), type := 3, pos := "ref.go:122", after := #[], guard := none } : Oper)) (v := ?v0_1) rfl (by kernel_rfl) (by kernel_rfl) (by kernel_rfl) (fun _ _ _ h => h) (Or.inl ⟨by rfl, ?hy0_1⟩) (by assumption) ?re0_1
              case hy0_1 => ((intro w hSw; obtain ⟨e1, e2⟩ := hSw; go_simp) <;> with_reducible rfl)
              (try simp only [Act.put, List.setIfInBounds_toArray, List.set_cons_zero, List.set_cons_succ])
              refine wpAnyH_take (i := 1) (oi := ({ dst := some 45, op := Go.Op.move (Go.Operand.tmp 0), type := 40, pos := "ref.go:122", after := #[], guard := none } : Oper)) (v := ?v1_2) rfl (by kernel_rfl) (by kernel_rfl) (by kernel_rfl) (fun _ _ _ h => h) (Or.inl ⟨by rfl, ?hy1_2⟩) (by assumption) ?re1_2
              case hy1_2 => ((intro w hSw; obtain ⟨e1, e2⟩ := hSw; go_simp) <;> with_reducible rfl)
              (try simp only [Act.put, List.setIfInBounds_toArray, List.set_cons_zero, List.set_cons_succ])
              refine wpAnyH_take (i := 2) (oi := ({ dst := some 46, op := Go.Op.move (Go.Operand.tmp 6), type := 3, pos := "ref.go:122", after := #[], guard := none } : Oper)) (v := ?v2_3) rfl (by kernel_rfl) (by kernel_rfl) (by kernel_rfl) (fun _ _ _ h => h) (Or.inl ⟨by rfl, ?hy2_3⟩) (by assumption) ?re2_3
              case hy2_3 => ((intro w hSw; obtain ⟨e1, e2⟩ := hSw; go_simp) <;> with_reducible rfl)
              (try simp only [Act.put, List.setIfInBounds_toArray, List.set_cons_zero, List.set_cons_succ])
              refine wpAnyH_take (i := 3) (oi := ({ dst := some 47, op := Go.Op.indexAddr 40 (Go.Operand.tmp 45) (Go.Operand.tmp 46), type := 0, pos := "ref.go:122", after := #[{ on := 1, ground := Go.Ground.data }, { on := 2, ground := Go.Ground.data }], guard := none } : Oper)) (v := ?v3_4) rfl (by kernel_rfl) (by kernel_rfl) (by kernel_rfl) (fun _ _ _ h => h) (Or.inl ⟨by rfl, ?hy3_4⟩) (by assumption) ?re3_4
              case hy3_4 => ((intro w hSw; obtain ⟨e1, e2⟩ := hSw; go_simp) <;> with_reducible rfl)
              (try simp only [Act.put, List.setIfInBounds_toArray, List.set_cons_zero, List.set_cons_succ])
              refine wpAnyH_take (i := 4) (oi := ({ dst := some 48, op := Go.Op.load 3 (Go.Operand.tmp 47), type := 3, pos := "ref.go:122", after := #[{ on := 3, ground := Go.Ground.data }], guard := none } : Oper)) (v := ?v4_5) rfl (by kernel_rfl) (by kernel_rfl) (by kernel_rfl) (fun _ _ _ h => h) (Or.inl ⟨by rfl, ?hy4_5⟩) (by assumption) ?re4_5
              case hy4_5 => ((intro w hSw; obtain ⟨e1, e2⟩ := hSw; go_simp) <;> with_reducible rfl)
              (try simp only [Act.put, List.setIfInBounds_toArray, List.set_cons_zero, List.set_cons_succ])
              refine wpAnyH_take (i := 5) (oi := ({ dst := some 49, op := Go.Op.move (Go.Operand.tmp 1), type := 40, pos := "ref.go:122", after := #[], guard := none } : Oper)) (v := ?v5_6) rfl (by kernel_rfl) (by kernel_rfl) (by kernel_rfl) (fun _ _ _ h => h) (Or.inl ⟨by rfl, ?hy5_6⟩) (by assumption) ?re5_6
              case hy5_6 => ((intro w hSw; obtain ⟨e1, e2⟩ := hSw; go_simp) <;> with_reducible rfl)
              (try simp only [Act.put, List.setIfInBounds_toArray, List.set_cons_zero, List.set_cons_succ])
              refine wpAnyH_take (i := 6) (oi := ({ dst := some 50, op := Go.Op.move (Go.Operand.tmp 8), type := 3, pos := "ref.go:122", after := #[], guard := none } : Oper)) (v := ?v6_7) rfl (by kernel_rfl) (by kernel_rfl) (by kernel_rfl) (fun _ _ _ h => h) (Or.inl ⟨by rfl, ?hy6_7⟩) (by assumption) ?re6_7
              case hy6_7 => ((intro w hSw; obtain ⟨e1, e2⟩ := hSw; go_simp) <;> with_reducible rfl)
              (try simp only [Act.put, List.setIfInBounds_toArray, List.set_cons_zero, List.set_cons_succ])
              refine wpAnyH_take (i := 7) (oi := ({ dst := some 51, op := Go.Op.indexAddr 40 (Go.Operand.tmp 49) (Go.Operand.tmp 50), type := 0, pos := "ref.go:122", after := #[{ on := 5, ground := Go.Ground.data }, { on := 6, ground := Go.Ground.data }], guard := none } : Oper)) (v := ?v7_8) rfl (by kernel_rfl) (by kernel_rfl) (by kernel_rfl) (fun _ _ _ h => h) (Or.inl ⟨by rfl, ?hy7_8⟩) (by assumption) ?re7_8
              case hy7_8 => ((intro w hSw; obtain ⟨e1, e2⟩ := hSw; go_simp) <;> with_reducible rfl)
              (try simp only [Act.put, List.setIfInBounds_toArray, List.set_cons_zero, List.set_cons_succ])
              refine wpAnyH_take (i := 8) (oi := ({ dst := some 52, op := Go.Op.load 3 (Go.Operand.tmp 51), type := 3, pos := "ref.go:122", after := #[{ on := 7, ground := Go.Ground.data }], guard := none } : Oper)) (v := ?v8_9) rfl (by kernel_rfl) (by kernel_rfl) (by kernel_rfl) (fun _ _ _ h => h) (Or.inl ⟨by rfl, ?hy8_9⟩) (by assumption) ?re8_9
              case hy8_9 => ((intro w hSw; obtain ⟨e1, e2⟩ := hSw; go_simp) <;> with_reducible rfl)
              (try simp only [Act.put, List.setIfInBounds_toArray, List.set_cons_zero, List.set_cons_succ])
              refine wpAnyH_take (i := 9) (oi := ({ dst := some 53, op := Go.Op.binOp Go.BinOp.mul 3 (Go.Operand.tmp 48) (Go.Operand.tmp 52) 3, type := 3, pos := "ref.go:122", after := #[{ on := 4, ground := Go.Ground.data }, { on := 8, ground := Go.Ground.data }], guard := none } : Oper)) (v := ?v9_10) rfl (by kernel_rfl) (by kernel_rfl) (by kernel_rfl) (fun _ _ _ h => h) (Or.inl ⟨by rfl, ?hy9_10⟩) (by assumption) ?re9_10
              case hy9_10 => ((intro w hSw; obtain ⟨e1, e2⟩ := hSw; go_simp) <;> with_reducible rfl)
              (try simp only [Act.put, List.setIfInBounds_toArray, List.set_cons_zero, List.set_cons_succ])
              refine wpAnyH_take (i := 10) (oi := ({ dst := some 54, op := Go.Op.binOp Go.BinOp.add 3 (Go.Operand.tmp 44) (Go.Operand.tmp 53) 3, type := 3, pos := "ref.go:122", after := #[{ on := 0, ground := Go.Ground.data }, { on := 9, ground := Go.Ground.data }], guard := none } : Oper)) (v := ?v10_11) rfl (by kernel_rfl) (by kernel_rfl) (by kernel_rfl) (fun _ _ _ h => h) (Or.inl ⟨by rfl, ?hy10_11⟩) (by assumption) ?re10_11
              case hy10_11 => ((intro w hSw; obtain ⟨e1, e2⟩ := hSw; go_simp) <;> with_reducible rfl)
              (try simp only [Act.put, List.setIfInBounds_toArray, List.set_cons_zero, List.set_cons_succ])
              refine wpAnyH_take (i := 11) (oi := ({ dst := some 9, op := Go.Op.assign (Go.Operand.tmp 54), type := 3, pos := "ref.go:122", after := #[{ on := 10, ground := Go.Ground.data }, { on := 0, ground := Go.Ground.phase }, { on := 1, ground := Go.Ground.phase }, { on := 2, ground := Go.Ground.phase }, { on := 3, ground := Go.Ground.phase }, { on := 4, ground := Go.Ground.phase }, { on := 5, ground := Go.Ground.phase }, { on := 6, ground := Go.Ground.phase }, { on := 7, ground := Go.Ground.phase }, { on := 8, ground := Go.Ground.phase }, { on := 9, ground := Go.Ground.phase }, { on := 10, ground := Go.Ground.phase }], guard := none } : Oper)) (v := ?v11_12) rfl (by kernel_rfl) (by kernel_rfl) (by kernel_rfl) (fun _ _ _ h => h) (Or.inl ⟨by rfl, ?hy11_12⟩) (by assumption) ?re11_12
              case hy11_12 => ((intro w hSw; obtain ⟨e1, e2⟩ := hSw; go_simp) <;> with_reducible rfl)
              (try simp only [Act.put, List.setIfInBounds_toArray, List.set_cons_zero, List.set_cons_succ])
              refine wpAnyH_done (by kernel_rfl) ?_ _
              refine NoPanic.normal ?_
              go_wp2_with fail
              exact ⟨⟨k + 1, N / 10, by omega, by omega, by go_num, by go_num, HKd, hBd.out⟩, by simp [intOf]; omega⟩
            · rw [e2 hkq2, Nat.zero_mod, Nat.mul_zero] at hM
              subst hM
              have es : (x : Int) + (c : Int) = (N : Int) := by omega
              have hc0 : 0 < c := by omega
              clear hN e2 R2 hcont
              go_wp2
              exact ⟨⟨k + 1, N / 10, by omega, by omega, by go_num, by go_num, HK, hB2.out⟩, by simp [intOf]; omega⟩
          · obtain rfl : c = 0 := by omega
            have hkq : ¬ k < q := by omega
            have hm0 : m / 10 ^ k = 0 := gx_end (by rw [HQ.out]; omega)
            rw [hm0] at k4
            have HK := Lib.hid (show ∃ L, ABlk wr w.heap.size L ∧ L.length = H ∧ DigX L ∧ vlX L = (((n % 10 ^ (i + 1)) * m : Nat) : Int) from ⟨L, k1, k2, k3, by rw [← HTT.out.1, ← k4]; simp⟩)
            clear k1 k2 k3 k4 hm0 hcont
            go_wp2
            exact ⟨⟨i + 1, by omega, by go_num, HK, hBi⟩, by simp [intOf]; omega⟩
      · obtain rfl : i = p := by omega
        obtain ⟨L, k1, k2, k3, k4⟩ := hI.out
        rw [Nat.mod_eq_of_lt HNP.out] at k4
        have CT := Lib.hid (fun W hW => rtrim_A (W := W) (cp := H) k1 k2 k3 k4 (Nat.le_refl _) (by omega) hW)
        clear hI k1 k2 k3 k4
        go_wp2_with (go_at_call 29; (with_reducible refine (CT.out _ (Below.refl _ _)).mono ?_); rintro e w2 ⟨v, rfl, nv, B2⟩)
        go_ret
        exact ⟨_, rfl, nv, hB.trans (B2.mono hB.size)⟩
end Go.Proofs.YtbdiofifjckceaaGreatDoor
