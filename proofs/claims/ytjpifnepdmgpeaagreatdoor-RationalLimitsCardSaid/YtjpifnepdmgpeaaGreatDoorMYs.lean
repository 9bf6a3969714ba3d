/- RationalLimits: the walk of the law. -/
import Derived.Test.YtjpifnepdmgpeaaGreatDoorMe
namespace Go.Proofs.YtjpifnepdmgpeaaGreatDoor
open Go.RowKit

set_option maxRecDepth 100000 in
set_option maxHeartbeats 16000000 in
theorem limits_any (x y : Int) (w : World) (x1 : -9223372036854775808 ≤ x) (x2 : x ≤ 9223372036854775807) (y1 : -9223372036854775808 ≤ y) (y2 : y ≤ 9223372036854775807) (hT : Tz w) :
    Calls Tryz.prog 10 #[.int .i64 x, .int .i64 y] w fun e w' => e = .returned (.bool true) ∧ Below w.heap.size w w' := by
  have HB := Lib.hid (Below.refl w.heap.size w)
  have HT := Lib.hid hT
  clear hT
  go_enter Tryz.func10, Tryz.ntmps10
  (try go_wp2_with fail)
  go_at_call 11
  refine (sane4_any _ (HT.out.below HB.out)).mono ?_
  rintro e W1 ⟨rfl, B⟩
  have HBn := Lib.hid (HB.out.trans (B.mono HB.out.size))
  clear HB
  have HB := HBn
  clear HBn
  clear B
  (try go_wp2_with fail)
  go_at_call 22
  refine (l4pick_200 x _ x1 x2).mono ?_
  rintro e WP ⟨n, rfl, hn, hw⟩
  subst hw
  (try go_wp2_with fail)
  go_at_call 22
  refine (l4pick_200 y _ y1 y2).mono ?_
  rintro e WP ⟨m, rfl, hm, hw⟩
  subst hw
  (try go_wp2_with fail)
  go_loopw [6, 7] (fun s i wr => ∃ j : Nat, j ≤ n ∧ i = .int .i64 (j : Int) ∧ s = .string (S ((10 ^ j : Nat) : Int)) ∧ W1 = wr) (fun _ i _ => n - (intOf i).toNat)
  case atStart => exact ⟨0, by omega, rfl, by rw [S_ten0], rfl⟩
  case round =>
    obtain ⟨j, hj, rfl, rfl, hw⟩ := hrel
    subst hw
    by_cases hlt : j < n
    · have hz := S_size2 (z := ((10 ^ j : Nat) : Int)) (ten_lt (by omega))
      have hss := S_ten_succ j
      have z0 : (⟨#[48]⟩ : ByteArray).size = 1 := rfl
      generalize S ((10 ^ j : Nat) : Int) = sj at *
      go_wp2_with fail
      go_roundw
      case rel => exact ⟨j + 1, by omega, by go_num, by rw [hss], by first | rfl | trivial⟩
      case measure => simp [intOf]; omega
    · obtain rfl : n = j := by omega
      go_wp2_with fail
      go_loopw [8, 9] (fun s i wr => ∃ j : Nat, j ≤ m ∧ i = .int .i64 (j : Int) ∧ s = .string (S ((10 ^ j : Nat) : Int)) ∧ W1 = wr) (fun _ i _ => m - (intOf i).toNat)
      case atStart => exact ⟨0, by omega, rfl, by rw [S_ten0], rfl⟩
      case round =>
        obtain ⟨j, hj, rfl, rfl, hw⟩ := hrel
        subst hw
        by_cases hlt : j < m
        · have hz := S_size2 (z := ((10 ^ j : Nat) : Int)) (ten_lt (by omega))
          have hss := S_ten_succ j
          have z0 : (⟨#[48]⟩ : ByteArray).size = 1 := rfl
          generalize S ((10 ^ j : Nat) : Int) = sj at *
          go_wp2_with fail
          go_roundw
          case rel => exact ⟨j + 1, by omega, by go_num, by rw [hss], by first | rfl | trivial⟩
          case measure => simp [intOf]; omega
        · obtain rfl : m = j := by omega
          have cm := fun W => qMul_R (tenQ n) (tenQ m) (tenQ_fit hn) (tenQ_fit hm) W
          have cv := fun W => qDiv_R 1 (tenQ m) ⟨by decide, by decide⟩ (tenQ_fit hm) W
          have ca := fun W => qAdd_R (tenQ n) (1 / tenQ m) (tenQ_fit hn) (inv_fit hm) W
          have cc := fun W => qCompare_R (tenQ n) (tenQ m) (tenQ_fit hn) (tenQ_fit hm) W
          have cd := fun W => qCompare_R (tenQ n) (1 / tenQ m) (tenQ_fit hn) (inv_fit hm) W
          have r1 : RV 1 = .agg #[.string ⟨#[49]⟩, .string ⟨#[49]⟩] := by
            show Value.agg #[.string (S 1), .string (S 1)] = _
            rw [S_one]
          rw [okM_ten] at cm
          rw [okD_ten hm, opQ, if_pos rfl, r1] at cv
          rw [okA_ten hm] at ca
          rw [ten_inj] at cc
          rw [ten_above] at cd
          rw [RV_ten] at cm ca cc cd
          rw [RV_ten] at cm cc
          rw [RV_ten] at cv
          generalize tenQ n * tenQ m = qm at *
          generalize tenQ n + 1 / tenQ m = qa at *
          generalize 1 / tenQ m = qi at *
          unfold RV at cv ca cd
          generalize S qi.num = v1 at *
          generalize S (qi.den : Int) = v2 at *
          clear r1
          by_cases hf : n + m < 200
          · rw [decide_eq_true hf, opQ, if_pos rfl] at cm ca
            unfold RV at cm ca
            generalize S qm.num = p1 at *
            generalize S (qm.den : Int) = p2 at *
            generalize S qa.num = q1 at *
            generalize S (qa.den : Int) = q2 at *
            generalize S ((10 ^ n : Nat) : Int) = an at *
            generalize S ((10 ^ m : Nat) : Int) = bm at *
            have CM := Lib.hid cm
            have CV := Lib.hid cv
            have CA := Lib.hid ca
            have CC := Lib.hid cc
            have CD := Lib.hid cd
            clear cm cv ca cc cd
            go_wp2_with fail
            go_at_call 41
            refine (is_any _ _ _).mono ?_
            rintro e Wkf1 ⟨rfl, B⟩
            have HBn := Lib.hid ((HB.out.trans (B.mono HB.out.size)).alloc (HB.out.trans (B.mono HB.out.size)).size (.cells #[(.string an), (.string ⟨#[49]⟩)] 23))
            clear HB
            have HB := HBn
            clear HBn
            have X := Lib.hid (RBlk.new Wkf1 (.string an) (.string ⟨#[49]⟩))
            clear B
            (try go_wp2_with fail)
            go_at_call 41
            refine (is_any _ _ _).mono ?_
            rintro e Wkf2 ⟨rfl, B⟩
            have Xn := Lib.hid ((X.out.keep B X.out.lt).alloc (.cells #[(.string bm), (.string ⟨#[49]⟩)] 23))
            have HBn := Lib.hid ((HB.out.trans (B.mono HB.out.size)).alloc (HB.out.trans (B.mono HB.out.size)).size (.cells #[(.string bm), (.string ⟨#[49]⟩)] 23))
            clear X HB
            have X := Xn
            have HB := HBn
            clear Xn HBn
            have Y := Lib.hid (RBlk.new Wkf2 (.string bm) (.string ⟨#[49]⟩))
            clear B
            have Xc0 := X.out.c0
            have Xc1 := X.out.c1
            have Yc0 := Y.out.c0
            have Yc1 := Y.out.c1
            (try go_wp2_with fail)
            clear Xc0 Xc1 Yc0 Yc1
            go_at_call 39
            refine (CM.out _).mono ?_
            rintro e Wkf3 ⟨rfl, B⟩
            have Xn := Lib.hid ((X.out.keep B X.out.lt).alloc (.cells #[(.string p1), (.string p2)] 23))
            have Yn := Lib.hid ((Y.out.keep B Y.out.lt).alloc (.cells #[(.string p1), (.string p2)] 23))
            have HBn := Lib.hid ((HB.out.trans (B.mono HB.out.size)).alloc (HB.out.trans (B.mono HB.out.size)).size (.cells #[(.string p1), (.string p2)] 23))
            clear X Y HB
            have X := Xn
            have Y := Yn
            have HB := HBn
            clear Xn Yn HBn
            have P := Lib.hid (RBlk.new Wkf3 (.string p1) (.string p2))
            clear B
            go_upto_region 17 with fail
            generalize hW0kf17 : (Wkf3.alloc (.cells #[(.string p1), (.string p2)] 23)) = W0kf17 at *
            clear hW0kf17
            apply join_two (fun gJ WJ => Hid (RBlk WJ (Wkf1.heap.size) (.string an) (.string ⟨#[49]⟩) ∧ RBlk WJ (Wkf2.heap.size) (.string bm) (.string ⟨#[49]⟩) ∧ RBlk WJ (Wkf3.heap.size) (.string p1) (.string p2) ∧ RBlk WJ gJ (.string v1) (.string v2) ∧ Below w.heap.size w WJ))
            case m =>
              intro HJ
              refine wp_region_noPanic ?_
              refine wp_region_held_drew (S := fun W => RBlk W (Wkf2.heap.size) (.string bm) (.string ⟨#[49]⟩)) (by kernel_rfl) ?_ (fun hHeld => ?_)
              · exact Y.out
              have X := Lib.hid X.out.drew
              have Y := Lib.hid Y.out.drew
              have P := Lib.hid P.out.drew
              have HB := Lib.hid HB.out.drew
              refine wpAnyH_take (i := 1) (oi := ({ dst := some 52, op := Go.Op.load 23 (Go.Operand.tmp 11), type := 23, pos := "law.go:287", after := #[], guard := none } : Oper)) (v := ?v1_1kf_17_1) rfl (by kernel_rfl) (by kernel_rfl) (by kernel_rfl) (fun _ _ _ h => h) (Or.inl ⟨by rfl, ?hy1_1kf_17_1⟩) (by assumption) ?re1_1kf_17_1
              case hy1_1kf_17_1 => ((intro w hSw; have e00 := hSw.c0; have e01 := hSw.c1; go_simp) <;> with_reducible rfl)
              (try simp only [Act.put, List.setIfInBounds_toArray, List.set_cons_zero, List.set_cons_succ])
              refine wpAnyH_ready (rs := [0, 6]) (by kernel_rfl) (by simp) ?_
              refine AllReadyH.cons (o := ({ dst := some 51, op := Go.Op.call { callee := Go.Callee.value (Go.Operand.func 41), args := #[Go.Operand.const (Go.Value.string { data := #[49] }), Go.Operand.const (Go.Value.string { data := #[49] })], argTypes := #[9, 9] }, type := 23, pos := "law.go:287", after := #[], guard := none } : Oper)) rfl (fun K hK => ?_) ?_
              · go_simp
                go_at_call 41
                refine (is_any _ _ _).mono ?_
                rintro e Wkf17_1 ⟨rfl, B⟩
                have X := Lib.hid (X.out.keep B X.out.lt)
                have Y := Lib.hid (Y.out.keep B Y.out.lt)
                have P := Lib.hid (P.out.keep B P.out.lt)
                have HB := Lib.hid (HB.out.trans (B.mono HB.out.size))
                (try go_wp2_with fail)
                refine hK.out _ _ ?_ (fun hHeld => ?_)
                · exact hHeld.keep B hHeld.lt
                clear hK K
                (try simp only [Act.put, List.setIfInBounds_toArray, List.set_cons_zero, List.set_cons_succ])
                clear B
                refine wpAnyH_ready (rs := [2, 6]) (by kernel_rfl) (by simp) ?_
                refine AllReadyH.cons (o := ({ dst := some 53, op := Go.Op.call { callee := Go.Callee.value (Go.Operand.func 45), args := #[Go.Operand.tmp 51, Go.Operand.tmp 52], argTypes := #[23, 23] }, type := 36, pos := "law.go:287", after := #[{ on := 0, ground := Go.Ground.data }, { on := 1, ground := Go.Ground.data }, { on := 0, ground := Go.Ground.chain }], guard := none } : Oper)) rfl (fun K hK => ?_) ?_
                · go_simp
                  go_at_call 45
                  refine (CV.out _).mono ?_
                  rintro e Wkf17_2 ⟨rfl, B⟩
                  have X := Lib.hid (X.out.keep B X.out.lt)
                  have Y := Lib.hid (Y.out.keep B Y.out.lt)
                  have P := Lib.hid (P.out.keep B P.out.lt)
                  have HB := Lib.hid (HB.out.trans (B.mono HB.out.size))
                  (try go_wp2_with fail)
                  refine hK.out _ _ ?_ (fun hHeld => ?_)
                  · exact hHeld.keep B hHeld.lt
                  clear hK K
                  (try simp only [Act.put, List.setIfInBounds_toArray, List.set_cons_zero, List.set_cons_succ])
                  clear B
                  refine wpAnyH_take (i := 3) (oi := ({ dst := some 50, op := Go.Op.move (Go.Operand.tmp 53), type := 36, pos := "law.go:287", after := #[{ on := 2, ground := Go.Ground.data }], guard := none } : Oper)) (v := ?v3_2kf_17_1) rfl (by kernel_rfl) (by kernel_rfl) (by kernel_rfl) (fun _ _ _ h => h) (Or.inl ⟨by rfl, ?hy3_2kf_17_1⟩) (by assumption) ?re3_2kf_17_1
                  case hy3_2kf_17_1 => ((intro w hSw; have e00 := hSw.c0; have e01 := hSw.c1; go_simp) <;> with_reducible rfl)
                  (try simp only [Act.put, List.setIfInBounds_toArray, List.set_cons_zero, List.set_cons_succ])
                  refine wpAnyH_take (i := 4) (oi := ({ dst := some 54, op := Go.Op.extract (Go.Operand.tmp 50) 0, type := 23, pos := "law.go:287", after := #[{ on := 3, ground := Go.Ground.data }], guard := none } : Oper)) (v := ?v4_3kf_17_1) rfl (by kernel_rfl) (by kernel_rfl) (by kernel_rfl) (fun _ _ _ h => h) (Or.inl ⟨by rfl, ?hy4_3kf_17_1⟩) (by assumption) ?re4_3kf_17_1
                  case hy4_3kf_17_1 => ((intro w hSw; have e00 := hSw.c0; have e01 := hSw.c1; go_simp) <;> with_reducible rfl)
                  (try simp only [Act.put, List.setIfInBounds_toArray, List.set_cons_zero, List.set_cons_succ])
                  refine wpAnyH_take (i := 5) (oi := ({ dst := some 55, op := Go.Op.extract (Go.Operand.tmp 50) 1, type := 32, pos := "law.go:287", after := #[{ on := 3, ground := Go.Ground.data }, { on := 7, ground := Go.Ground.gcOnly Go.Departure.lateStores }], guard := none } : Oper)) (v := ?v5_4kf_17_1) rfl (by kernel_rfl) (by kernel_rfl) (by kernel_rfl) (fun _ _ _ h => h) (Or.inl ⟨by rfl, ?hy5_4kf_17_1⟩) (by assumption) ?re5_4kf_17_1
                  case hy5_4kf_17_1 => ((intro w hSw; have e00 := hSw.c0; have e01 := hSw.c1; go_simp) <;> with_reducible rfl)
                  (try simp only [Act.put, List.setIfInBounds_toArray, List.set_cons_zero, List.set_cons_succ])
                  refine wpAnyH_ready (rs := [6]) (by kernel_rfl) (by simp) ?_
                  refine AllReadyH.cons (o := ({ dst := some 14, op := Go.Op.alloc 23, type := 0, pos := "law.go:287", after := #[], guard := none } : Oper)) rfl (fun K hK => ?_) ?_
                  · go_simp
                    obtain ⟨WAkf17_3, hWAkf17_3⟩ : ∃ W, W = (Wkf17_2.alloc (.cells #[.string ⟨#[]⟩, .string ⟨#[]⟩] 23)) := ⟨_, rfl⟩
                    rw [← hWAkf17_3]
                    have V : Hid (RBlk WAkf17_3 Wkf17_2.heap.size (.string ⟨#[]⟩) (.string ⟨#[]⟩)) := Lib.hid (by rw [hWAkf17_3]; exact RBlk.new Wkf17_2 (.string ⟨#[]⟩) (.string ⟨#[]⟩))
                    have gV : w.heap.size ≤ Wkf17_2.heap.size := HB.out.size
                    have neVX : (Wkf1.heap.size) ≠ Wkf17_2.heap.size := Nat.ne_of_lt X.out.lt
                    have neVY : (Wkf2.heap.size) ≠ Wkf17_2.heap.size := Nat.ne_of_lt Y.out.lt
                    have neVP : (Wkf3.heap.size) ≠ Wkf17_2.heap.size := Nat.ne_of_lt P.out.lt
                    have hk : (fun W => RBlk W (Wkf2.heap.size) (.string bm) (.string ⟨#[49]⟩)) WAkf17_3 := by rw [hWAkf17_3]; exact hHeld.alloc _
                    have X : Hid (RBlk WAkf17_3 (Wkf1.heap.size) (.string an) (.string ⟨#[49]⟩)) := Lib.hid (by rw [hWAkf17_3]; exact X.out.alloc _)
                    have Y : Hid (RBlk WAkf17_3 (Wkf2.heap.size) (.string bm) (.string ⟨#[49]⟩)) := Lib.hid (by rw [hWAkf17_3]; exact Y.out.alloc _)
                    have P : Hid (RBlk WAkf17_3 (Wkf3.heap.size) (.string p1) (.string p2)) := Lib.hid (by rw [hWAkf17_3]; exact P.out.alloc _)
                    have HB : Hid (Below w.heap.size w WAkf17_3) := Lib.hid (by rw [hWAkf17_3]; exact HB.out.alloc HB.out.size _)
                    clear hWAkf17_3
                    refine hK.out _ _ ?_ (fun hHeld => ?_)
                    · exact hk
                    clear hK K
                    (try simp only [Act.put, List.setIfInBounds_toArray, List.set_cons_zero, List.set_cons_succ])
                    clear hk
                    refine wpAnyH_ready (rs := [7]) (by kernel_rfl) (by simp) ?_
                    refine AllReadyH.cons (o := ({ dst := none, op := Go.Op.store 23 (Go.Operand.tmp 14) (Go.Operand.tmp 54), type := 0, pos := "law.go:287", after := #[{ on := 6, ground := Go.Ground.data }, { on := 4, ground := Go.Ground.data }, { on := 2, ground := Go.Ground.chain }, { on := 0, ground := Go.Ground.phase }, { on := 1, ground := Go.Ground.phase }, { on := 2, ground := Go.Ground.phase }, { on := 3, ground := Go.Ground.phase }, { on := 4, ground := Go.Ground.phase }, { on := 5, ground := Go.Ground.textOnly Go.Departure.lateStores }, { on := 6, ground := Go.Ground.phase }], guard := none } : Oper)) rfl (fun K hK => ?_) ?_
                    · have c0 := V.out.c0
                      have c1 := V.out.c1
                      have f0 := V.out.f 0
                      have f1 := V.out.f 1
                      have hs := V.out.s0 (.string v1)
                      have d1 := hs.c1
                      have g1 := hs.f 1
                      go_simp
                      have Vn := Lib.hid (hs.s1 (.string v2))
                      have Xn := Lib.hid ((X.out.other ⟨Wkf17_2.heap.size, 0, none⟩ (.string v1) neVX).other ⟨Wkf17_2.heap.size, 1, none⟩ (.string v2) neVX)
                      have Yn := Lib.hid ((Y.out.other ⟨Wkf17_2.heap.size, 0, none⟩ (.string v1) neVY).other ⟨Wkf17_2.heap.size, 1, none⟩ (.string v2) neVY)
                      have Pn := Lib.hid ((P.out.other ⟨Wkf17_2.heap.size, 0, none⟩ (.string v1) neVP).other ⟨Wkf17_2.heap.size, 1, none⟩ (.string v2) neVP)
                      have HBn := Lib.hid ((HB.out.setCell (p := ⟨Wkf17_2.heap.size, 0, none⟩) gV (.string v1)).setCell (p := ⟨Wkf17_2.heap.size, 1, none⟩) gV (.string v2))
                      clear hs c0 c1 f0 f1 d1 g1
                      have V := Vn
                      have X := Xn
                      have Y := Yn
                      have P := Pn
                      have HB := HBn
                      clear Vn Xn Yn Pn HBn
                      refine hK.out _ _ ?_ (fun hHeld => ?_)
                      · exact (hHeld.other ⟨Wkf17_2.heap.size, 0, none⟩ (.string v1) neVY).other ⟨Wkf17_2.heap.size, 1, none⟩ (.string v2) neVY
                      clear hK K
                      (try simp only [Act.put, List.setIfInBounds_toArray, List.set_cons_zero, List.set_cons_succ])
                      refine wpAnyH_take (i := 8) (oi := ({ dst := some 15, op := Go.Op.assign (Go.Operand.tmp 55), type := 32, pos := "law.go:287", after := #[{ on := 5, ground := Go.Ground.data }, { on := 7, ground := Go.Ground.chain }, { on := 0, ground := Go.Ground.phase }, { on := 1, ground := Go.Ground.phase }, { on := 2, ground := Go.Ground.phase }, { on := 3, ground := Go.Ground.phase }, { on := 4, ground := Go.Ground.phase }, { on := 5, ground := Go.Ground.phase }, { on := 6, ground := Go.Ground.phase }, { on := 7, ground := Go.Ground.phase }], guard := none } : Oper)) (v := ?v8_5kf_17_1) rfl (by kernel_rfl) (by kernel_rfl) (by kernel_rfl) (fun _ _ _ h => h) (Or.inl ⟨by rfl, ?hy8_5kf_17_1⟩) (by assumption) ?re8_5kf_17_1
                      case hy8_5kf_17_1 => ((intro w hSw; have e00 := hSw.c0; have e01 := hSw.c1; go_simp) <;> with_reducible rfl)
                      (try simp only [Act.put, List.setIfInBounds_toArray, List.set_cons_zero, List.set_cons_succ])
                      refine wpAnyH_done (by kernel_rfl) ?_ _
                      refine NoPanic.normal ?_
                      generalize hWJ : ((WAkf17_3.setCell ⟨Wkf17_2.heap.size, 0, none⟩ (.string v1)).setCell ⟨Wkf17_2.heap.size, 1, none⟩ (.string v2)) = WJ at *
                      clear hWJ
                      generalize hgJ : Wkf17_2.heap.size = gJ at *
                      clear hgJ
                      exact HJ gJ WJ (Lib.hid ⟨X.out, Y.out, P.out, V.out, HB.out⟩)
                    exact AllReadyH.nil
                  exact AllReadyH.nil
                refine AllReadyH.cons (o := ({ dst := some 14, op := Go.Op.alloc 23, type := 0, pos := "law.go:287", after := #[], guard := none } : Oper)) rfl (fun K hK => ?_) ?_
                · go_simp
                  obtain ⟨WAkf17_5, hWAkf17_5⟩ : ∃ W, W = (Wkf17_1.alloc (.cells #[.string ⟨#[]⟩, .string ⟨#[]⟩] 23)) := ⟨_, rfl⟩
                  rw [← hWAkf17_5]
                  have V : Hid (RBlk WAkf17_5 Wkf17_1.heap.size (.string ⟨#[]⟩) (.string ⟨#[]⟩)) := Lib.hid (by rw [hWAkf17_5]; exact RBlk.new Wkf17_1 (.string ⟨#[]⟩) (.string ⟨#[]⟩))
                  have gV : w.heap.size ≤ Wkf17_1.heap.size := HB.out.size
                  have neVX : (Wkf1.heap.size) ≠ Wkf17_1.heap.size := Nat.ne_of_lt X.out.lt
                  have neVY : (Wkf2.heap.size) ≠ Wkf17_1.heap.size := Nat.ne_of_lt Y.out.lt
                  have neVP : (Wkf3.heap.size) ≠ Wkf17_1.heap.size := Nat.ne_of_lt P.out.lt
                  have hk : (fun W => RBlk W (Wkf2.heap.size) (.string bm) (.string ⟨#[49]⟩)) WAkf17_5 := by rw [hWAkf17_5]; exact hHeld.alloc _
                  have X : Hid (RBlk WAkf17_5 (Wkf1.heap.size) (.string an) (.string ⟨#[49]⟩)) := Lib.hid (by rw [hWAkf17_5]; exact X.out.alloc _)
                  have Y : Hid (RBlk WAkf17_5 (Wkf2.heap.size) (.string bm) (.string ⟨#[49]⟩)) := Lib.hid (by rw [hWAkf17_5]; exact Y.out.alloc _)
                  have P : Hid (RBlk WAkf17_5 (Wkf3.heap.size) (.string p1) (.string p2)) := Lib.hid (by rw [hWAkf17_5]; exact P.out.alloc _)
                  have HB : Hid (Below w.heap.size w WAkf17_5) := Lib.hid (by rw [hWAkf17_5]; exact HB.out.alloc HB.out.size _)
                  clear hWAkf17_5
                  refine hK.out _ _ ?_ (fun hHeld => ?_)
                  · exact hk
                  clear hK K
                  (try simp only [Act.put, List.setIfInBounds_toArray, List.set_cons_zero, List.set_cons_succ])
                  clear hk
                  refine wpAnyH_ready (rs := [2]) (by kernel_rfl) (by simp) ?_
                  refine AllReadyH.cons (o := ({ dst := some 53, op := Go.Op.call { callee := Go.Callee.value (Go.Operand.func 45), args := #[Go.Operand.tmp 51, Go.Operand.tmp 52], argTypes := #[23, 23] }, type := 36, pos := "law.go:287", after := #[{ on := 0, ground := Go.Ground.data }, { on := 1, ground := Go.Ground.data }, { on := 0, ground := Go.Ground.chain }], guard := none } : Oper)) rfl (fun K hK => ?_) ?_
                  · go_simp
                    go_at_call 45
                    refine (CV.out _).mono ?_
                    rintro e Wkf17_6 ⟨rfl, B⟩
                    have X := Lib.hid (X.out.keep B X.out.lt)
                    have Y := Lib.hid (Y.out.keep B Y.out.lt)
                    have P := Lib.hid (P.out.keep B P.out.lt)
                    have V := Lib.hid (V.out.keep B V.out.lt)
                    have HB := Lib.hid (HB.out.trans (B.mono HB.out.size))
                    (try go_wp2_with fail)
                    refine hK.out _ _ ?_ (fun hHeld => ?_)
                    · exact hHeld.keep B hHeld.lt
                    clear hK K
                    (try simp only [Act.put, List.setIfInBounds_toArray, List.set_cons_zero, List.set_cons_succ])
                    clear B
                    refine wpAnyH_take (i := 3) (oi := ({ dst := some 50, op := Go.Op.move (Go.Operand.tmp 53), type := 36, pos := "law.go:287", after := #[{ on := 2, ground := Go.Ground.data }], guard := none } : Oper)) (v := ?v3_6kf_17_1) rfl (by kernel_rfl) (by kernel_rfl) (by kernel_rfl) (fun _ _ _ h => h) (Or.inl ⟨by rfl, ?hy3_6kf_17_1⟩) (by assumption) ?re3_6kf_17_1
                    case hy3_6kf_17_1 => ((intro w hSw; have e00 := hSw.c0; have e01 := hSw.c1; go_simp) <;> with_reducible rfl)
                    (try simp only [Act.put, List.setIfInBounds_toArray, List.set_cons_zero, List.set_cons_succ])
                    refine wpAnyH_take (i := 4) (oi := ({ dst := some 54, op := Go.Op.extract (Go.Operand.tmp 50) 0, type := 23, pos := "law.go:287", after := #[{ on := 3, ground := Go.Ground.data }], guard := none } : Oper)) (v := ?v4_7kf_17_1) rfl (by kernel_rfl) (by kernel_rfl) (by kernel_rfl) (fun _ _ _ h => h) (Or.inl ⟨by rfl, ?hy4_7kf_17_1⟩) (by assumption) ?re4_7kf_17_1
                    case hy4_7kf_17_1 => ((intro w hSw; have e00 := hSw.c0; have e01 := hSw.c1; go_simp) <;> with_reducible rfl)
                    (try simp only [Act.put, List.setIfInBounds_toArray, List.set_cons_zero, List.set_cons_succ])
                    refine wpAnyH_take (i := 5) (oi := ({ dst := some 55, op := Go.Op.extract (Go.Operand.tmp 50) 1, type := 32, pos := "law.go:287", after := #[{ on := 3, ground := Go.Ground.data }, { on := 7, ground := Go.Ground.gcOnly Go.Departure.lateStores }], guard := none } : Oper)) (v := ?v5_8kf_17_1) rfl (by kernel_rfl) (by kernel_rfl) (by kernel_rfl) (fun _ _ _ h => h) (Or.inl ⟨by rfl, ?hy5_8kf_17_1⟩) (by assumption) ?re5_8kf_17_1
                    case hy5_8kf_17_1 => ((intro w hSw; have e00 := hSw.c0; have e01 := hSw.c1; go_simp) <;> with_reducible rfl)
                    (try simp only [Act.put, List.setIfInBounds_toArray, List.set_cons_zero, List.set_cons_succ])
                    refine wpAnyH_ready (rs := [7]) (by kernel_rfl) (by simp) ?_
                    refine AllReadyH.cons (o := ({ dst := none, op := Go.Op.store 23 (Go.Operand.tmp 14) (Go.Operand.tmp 54), type := 0, pos := "law.go:287", after := #[{ on := 6, ground := Go.Ground.data }, { on := 4, ground := Go.Ground.data }, { on := 2, ground := Go.Ground.chain }, { on := 0, ground := Go.Ground.phase }, { on := 1, ground := Go.Ground.phase }, { on := 2, ground := Go.Ground.phase }, { on := 3, ground := Go.Ground.phase }, { on := 4, ground := Go.Ground.phase }, { on := 5, ground := Go.Ground.textOnly Go.Departure.lateStores }, { on := 6, ground := Go.Ground.phase }], guard := none } : Oper)) rfl (fun K hK => ?_) ?_
                    · have c0 := V.out.c0
                      have c1 := V.out.c1
                      have f0 := V.out.f 0
                      have f1 := V.out.f 1
                      have hs := V.out.s0 (.string v1)
                      have d1 := hs.c1
                      have g1 := hs.f 1
                      go_simp
                      have Vn := Lib.hid (hs.s1 (.string v2))
                      have Xn := Lib.hid ((X.out.other ⟨Wkf17_1.heap.size, 0, none⟩ (.string v1) neVX).other ⟨Wkf17_1.heap.size, 1, none⟩ (.string v2) neVX)
                      have Yn := Lib.hid ((Y.out.other ⟨Wkf17_1.heap.size, 0, none⟩ (.string v1) neVY).other ⟨Wkf17_1.heap.size, 1, none⟩ (.string v2) neVY)
                      have Pn := Lib.hid ((P.out.other ⟨Wkf17_1.heap.size, 0, none⟩ (.string v1) neVP).other ⟨Wkf17_1.heap.size, 1, none⟩ (.string v2) neVP)
                      have HBn := Lib.hid ((HB.out.setCell (p := ⟨Wkf17_1.heap.size, 0, none⟩) gV (.string v1)).setCell (p := ⟨Wkf17_1.heap.size, 1, none⟩) gV (.string v2))
                      clear hs c0 c1 f0 f1 d1 g1
                      have V := Vn
                      have X := Xn
                      have Y := Yn
                      have P := Pn
                      have HB := HBn
                      clear Vn Xn Yn Pn HBn
                      refine hK.out _ _ ?_ (fun hHeld => ?_)
                      · exact (hHeld.other ⟨Wkf17_1.heap.size, 0, none⟩ (.string v1) neVY).other ⟨Wkf17_1.heap.size, 1, none⟩ (.string v2) neVY
                      clear hK K
                      (try simp only [Act.put, List.setIfInBounds_toArray, List.set_cons_zero, List.set_cons_succ])
                      refine wpAnyH_take (i := 8) (oi := ({ dst := some 15, op := Go.Op.assign (Go.Operand.tmp 55), type := 32, pos := "law.go:287", after := #[{ on := 5, ground := Go.Ground.data }, { on := 7, ground := Go.Ground.chain }, { on := 0, ground := Go.Ground.phase }, { on := 1, ground := Go.Ground.phase }, { on := 2, ground := Go.Ground.phase }, { on := 3, ground := Go.Ground.phase }, { on := 4, ground := Go.Ground.phase }, { on := 5, ground := Go.Ground.phase }, { on := 6, ground := Go.Ground.phase }, { on := 7, ground := Go.Ground.phase }], guard := none } : Oper)) (v := ?v8_9kf_17_1) rfl (by kernel_rfl) (by kernel_rfl) (by kernel_rfl) (fun _ _ _ h => h) (Or.inl ⟨by rfl, ?hy8_9kf_17_1⟩) (by assumption) ?re8_9kf_17_1
                      case hy8_9kf_17_1 => ((intro w hSw; have e00 := hSw.c0; have e01 := hSw.c1; go_simp) <;> with_reducible rfl)
                      (try simp only [Act.put, List.setIfInBounds_toArray, List.set_cons_zero, List.set_cons_succ])
                      refine wpAnyH_done (by kernel_rfl) ?_ _
                      refine NoPanic.normal ?_
                      generalize hWJ : ((Wkf17_6.setCell ⟨Wkf17_1.heap.size, 0, none⟩ (.string v1)).setCell ⟨Wkf17_1.heap.size, 1, none⟩ (.string v2)) = WJ at *
                      clear hWJ
                      generalize hgJ : Wkf17_1.heap.size = gJ at *
                      clear hgJ
                      exact HJ gJ WJ (Lib.hid ⟨X.out, Y.out, P.out, V.out, HB.out⟩)
                    exact AllReadyH.nil
                  exact AllReadyH.nil
                exact AllReadyH.nil
              refine AllReadyH.cons (o := ({ dst := some 14, op := Go.Op.alloc 23, type := 0, pos := "law.go:287", after := #[], guard := none } : Oper)) rfl (fun K hK => ?_) ?_
              · go_simp
                obtain ⟨WAkf17_8, hWAkf17_8⟩ : ∃ W, W = (W0kf17.alloc (.cells #[.string ⟨#[]⟩, .string ⟨#[]⟩] 23)).drew := ⟨_, rfl⟩
                rw [← hWAkf17_8]
                have V : Hid (RBlk WAkf17_8 W0kf17.heap.size (.string ⟨#[]⟩) (.string ⟨#[]⟩)) := Lib.hid (by rw [hWAkf17_8]; exact RBlk.new W0kf17 (.string ⟨#[]⟩) (.string ⟨#[]⟩))
                have gV : w.heap.size ≤ W0kf17.heap.size := HB.out.size
                have neVX : (Wkf1.heap.size) ≠ W0kf17.heap.size := Nat.ne_of_lt X.out.lt
                have neVY : (Wkf2.heap.size) ≠ W0kf17.heap.size := Nat.ne_of_lt Y.out.lt
                have neVP : (Wkf3.heap.size) ≠ W0kf17.heap.size := Nat.ne_of_lt P.out.lt
                have hk : (fun W => RBlk W (Wkf2.heap.size) (.string bm) (.string ⟨#[49]⟩)) WAkf17_8 := by rw [hWAkf17_8]; exact hHeld.alloc _
                have X : Hid (RBlk WAkf17_8 (Wkf1.heap.size) (.string an) (.string ⟨#[49]⟩)) := Lib.hid (by rw [hWAkf17_8]; exact X.out.alloc _)
                have Y : Hid (RBlk WAkf17_8 (Wkf2.heap.size) (.string bm) (.string ⟨#[49]⟩)) := Lib.hid (by rw [hWAkf17_8]; exact Y.out.alloc _)
                have P : Hid (RBlk WAkf17_8 (Wkf3.heap.size) (.string p1) (.string p2)) := Lib.hid (by rw [hWAkf17_8]; exact P.out.alloc _)
                have HB : Hid (Below w.heap.size w WAkf17_8) := Lib.hid (by rw [hWAkf17_8]; exact HB.out.alloc HB.out.size _)
                clear hWAkf17_8
                refine hK.out _ _ ?_ (fun hHeld => ?_)
                · exact hk
                clear hK K
                (try simp only [Act.put, List.setIfInBounds_toArray, List.set_cons_zero, List.set_cons_succ])
                clear hk
                refine wpAnyH_ready (rs := [0]) (by kernel_rfl) (by simp) ?_
                refine AllReadyH.cons (o := ({ dst := some 51, op := Go.Op.call { callee := Go.Callee.value (Go.Operand.func 41), args := #[Go.Operand.const (Go.Value.string { data := #[49] }), Go.Operand.const (Go.Value.string { data := #[49] })], argTypes := #[9, 9] }, type := 23, pos := "law.go:287", after := #[], guard := none } : Oper)) rfl (fun K hK => ?_) ?_
                · go_simp
                  go_at_call 41
                  refine (is_any _ _ _).mono ?_
                  rintro e Wkf17_9 ⟨rfl, B⟩
                  have X := Lib.hid (X.out.keep B X.out.lt)
                  have Y := Lib.hid (Y.out.keep B Y.out.lt)
                  have P := Lib.hid (P.out.keep B P.out.lt)
                  have V := Lib.hid (V.out.keep B V.out.lt)
                  have HB := Lib.hid (HB.out.trans (B.mono HB.out.size))
                  (try go_wp2_with fail)
                  refine hK.out _ _ ?_ (fun hHeld => ?_)
                  · exact hHeld.keep B hHeld.lt
                  clear hK K
                  (try simp only [Act.put, List.setIfInBounds_toArray, List.set_cons_zero, List.set_cons_succ])
                  clear B
                  refine wpAnyH_ready (rs := [2]) (by kernel_rfl) (by simp) ?_
                  refine AllReadyH.cons (o := ({ dst := some 53, op := Go.Op.call { callee := Go.Callee.value (Go.Operand.func 45), args := #[Go.Operand.tmp 51, Go.Operand.tmp 52], argTypes := #[23, 23] }, type := 36, pos := "law.go:287", after := #[{ on := 0, ground := Go.Ground.data }, { on := 1, ground := Go.Ground.data }, { on := 0, ground := Go.Ground.chain }], guard := none } : Oper)) rfl (fun K hK => ?_) ?_
                  · go_simp
                    go_at_call 45
                    refine (CV.out _).mono ?_
                    rintro e Wkf17_10 ⟨rfl, B⟩
                    have X := Lib.hid (X.out.keep B X.out.lt)
                    have Y := Lib.hid (Y.out.keep B Y.out.lt)
                    have P := Lib.hid (P.out.keep B P.out.lt)
                    have V := Lib.hid (V.out.keep B V.out.lt)
                    have HB := Lib.hid (HB.out.trans (B.mono HB.out.size))
                    (try go_wp2_with fail)
                    refine hK.out _ _ ?_ (fun hHeld => ?_)
                    · exact hHeld.keep B hHeld.lt
                    clear hK K
                    (try simp only [Act.put, List.setIfInBounds_toArray, List.set_cons_zero, List.set_cons_succ])
                    clear B
                    refine wpAnyH_take (i := 3) (oi := ({ dst := some 50, op := Go.Op.move (Go.Operand.tmp 53), type := 36, pos := "law.go:287", after := #[{ on := 2, ground := Go.Ground.data }], guard := none } : Oper)) (v := ?v3_10kf_17_1) rfl (by kernel_rfl) (by kernel_rfl) (by kernel_rfl) (fun _ _ _ h => h) (Or.inl ⟨by rfl, ?hy3_10kf_17_1⟩) (by assumption) ?re3_10kf_17_1
                    case hy3_10kf_17_1 => ((intro w hSw; have e00 := hSw.c0; have e01 := hSw.c1; go_simp) <;> with_reducible rfl)
                    (try simp only [Act.put, List.setIfInBounds_toArray, List.set_cons_zero, List.set_cons_succ])
                    refine wpAnyH_take (i := 4) (oi := ({ dst := some 54, op := Go.Op.extract (Go.Operand.tmp 50) 0, type := 23, pos := "law.go:287", after := #[{ on := 3, ground := Go.Ground.data }], guard := none } : Oper)) (v := ?v4_11kf_17_1) rfl (by kernel_rfl) (by kernel_rfl) (by kernel_rfl) (fun _ _ _ h => h) (Or.inl ⟨by rfl, ?hy4_11kf_17_1⟩) (by assumption) ?re4_11kf_17_1
                    case hy4_11kf_17_1 => ((intro w hSw; have e00 := hSw.c0; have e01 := hSw.c1; go_simp) <;> with_reducible rfl)
                    (try simp only [Act.put, List.setIfInBounds_toArray, List.set_cons_zero, List.set_cons_succ])
                    refine wpAnyH_take (i := 5) (oi := ({ dst := some 55, op := Go.Op.extract (Go.Operand.tmp 50) 1, type := 32, pos := "law.go:287", after := #[{ on := 3, ground := Go.Ground.data }, { on := 7, ground := Go.Ground.gcOnly Go.Departure.lateStores }], guard := none } : Oper)) (v := ?v5_12kf_17_1) rfl (by kernel_rfl) (by kernel_rfl) (by kernel_rfl) (fun _ _ _ h => h) (Or.inl ⟨by rfl, ?hy5_12kf_17_1⟩) (by assumption) ?re5_12kf_17_1
                    case hy5_12kf_17_1 => ((intro w hSw; have e00 := hSw.c0; have e01 := hSw.c1; go_simp) <;> with_reducible rfl)
                    (try simp only [Act.put, List.setIfInBounds_toArray, List.set_cons_zero, List.set_cons_succ])
                    refine wpAnyH_ready (rs := [7]) (by kernel_rfl) (by simp) ?_
                    refine AllReadyH.cons (o := ({ dst := none, op := Go.Op.store 23 (Go.Operand.tmp 14) (Go.Operand.tmp 54), type := 0, pos := "law.go:287", after := #[{ on := 6, ground := Go.Ground.data }, { on := 4, ground := Go.Ground.data }, { on := 2, ground := Go.Ground.chain }, { on := 0, ground := Go.Ground.phase }, { on := 1, ground := Go.Ground.phase }, { on := 2, ground := Go.Ground.phase }, { on := 3, ground := Go.Ground.phase }, { on := 4, ground := Go.Ground.phase }, { on := 5, ground := Go.Ground.textOnly Go.Departure.lateStores }, { on := 6, ground := Go.Ground.phase }], guard := none } : Oper)) rfl (fun K hK => ?_) ?_
                    · have c0 := V.out.c0
                      have c1 := V.out.c1
                      have f0 := V.out.f 0
                      have f1 := V.out.f 1
                      have hs := V.out.s0 (.string v1)
                      have d1 := hs.c1
                      have g1 := hs.f 1
                      go_simp
                      have Vn := Lib.hid (hs.s1 (.string v2))
                      have Xn := Lib.hid ((X.out.other ⟨W0kf17.heap.size, 0, none⟩ (.string v1) neVX).other ⟨W0kf17.heap.size, 1, none⟩ (.string v2) neVX)
                      have Yn := Lib.hid ((Y.out.other ⟨W0kf17.heap.size, 0, none⟩ (.string v1) neVY).other ⟨W0kf17.heap.size, 1, none⟩ (.string v2) neVY)
                      have Pn := Lib.hid ((P.out.other ⟨W0kf17.heap.size, 0, none⟩ (.string v1) neVP).other ⟨W0kf17.heap.size, 1, none⟩ (.string v2) neVP)
                      have HBn := Lib.hid ((HB.out.setCell (p := ⟨W0kf17.heap.size, 0, none⟩) gV (.string v1)).setCell (p := ⟨W0kf17.heap.size, 1, none⟩) gV (.string v2))
                      clear hs c0 c1 f0 f1 d1 g1
                      have V := Vn
                      have X := Xn
                      have Y := Yn
                      have P := Pn
                      have HB := HBn
                      clear Vn Xn Yn Pn HBn
                      refine hK.out _ _ ?_ (fun hHeld => ?_)
                      · exact (hHeld.other ⟨W0kf17.heap.size, 0, none⟩ (.string v1) neVY).other ⟨W0kf17.heap.size, 1, none⟩ (.string v2) neVY
                      clear hK K
                      (try simp only [Act.put, List.setIfInBounds_toArray, List.set_cons_zero, List.set_cons_succ])
                      refine wpAnyH_take (i := 8) (oi := ({ dst := some 15, op := Go.Op.assign (Go.Operand.tmp 55), type := 32, pos := "law.go:287", after := #[{ on := 5, ground := Go.Ground.data }, { on := 7, ground := Go.Ground.chain }, { on := 0, ground := Go.Ground.phase }, { on := 1, ground := Go.Ground.phase }, { on := 2, ground := Go.Ground.phase }, { on := 3, ground := Go.Ground.phase }, { on := 4, ground := Go.Ground.phase }, { on := 5, ground := Go.Ground.phase }, { on := 6, ground := Go.Ground.phase }, { on := 7, ground := Go.Ground.phase }], guard := none } : Oper)) (v := ?v8_13kf_17_1) rfl (by kernel_rfl) (by kernel_rfl) (by kernel_rfl) (fun _ _ _ h => h) (Or.inl ⟨by rfl, ?hy8_13kf_17_1⟩) (by assumption) ?re8_13kf_17_1
                      case hy8_13kf_17_1 => ((intro w hSw; have e00 := hSw.c0; have e01 := hSw.c1; go_simp) <;> with_reducible rfl)
                      (try simp only [Act.put, List.setIfInBounds_toArray, List.set_cons_zero, List.set_cons_succ])
                      refine wpAnyH_done (by kernel_rfl) ?_ _
                      refine NoPanic.normal ?_
                      generalize hWJ : ((Wkf17_10.setCell ⟨W0kf17.heap.size, 0, none⟩ (.string v1)).setCell ⟨W0kf17.heap.size, 1, none⟩ (.string v2)) = WJ at *
                      clear hWJ
                      generalize hgJ : W0kf17.heap.size = gJ at *
                      clear hgJ
                      exact HJ gJ WJ (Lib.hid ⟨X.out, Y.out, P.out, V.out, HB.out⟩)
                    exact AllReadyH.nil
                  exact AllReadyH.nil
                exact AllReadyH.nil
              exact AllReadyH.nil
            case r =>
              clear X Y P HB
              intro gJkf17 WJkf17 hF
              obtain ⟨X', Y', P', V', HB'⟩ := hF.out
              have X := Lib.hid X'
              have Y := Lib.hid Y'
              have P := Lib.hid P'
              have V := Lib.hid V'
              have HB := Lib.hid HB'
              clear hF X' Y' P' V' HB'
              have cc := CC.out
              have cd := CD.out
              clear CC CD
              rcases (by omega : (n = 0 ∧ m = 0) ∨ (0 < n ∧ n < m) ∨ (m < n) ∨ (n = m ∧ 0 < m) ∨ (n = 0 ∧ 0 < m)) with hc | hc | hc | hc | hc
              · rw [if_neg (by omega), if_neg (by omega)] at cc
                rw [if_pos hc] at cd
                obtain ⟨rfl, rfl⟩ := hc
                have CC := Lib.hid cc
                have CD := Lib.hid cd
                clear cc cd
                have Xc0 := X.out.c0
                have Xc1 := X.out.c1
                have Vc0 := V.out.c0
                have Vc1 := V.out.c1
                (try go_wp2_with fail)
                clear Xc0 Xc1 Vc0 Vc1
                go_at_call 38
                refine (CA.out _).mono ?_
                rintro e Wkfjz01 ⟨rfl, B⟩
                have Xn := Lib.hid ((X.out.keep B X.out.lt).alloc (.cells #[.string q1, .string q2] 23))
                have Yn := Lib.hid ((Y.out.keep B Y.out.lt).alloc (.cells #[.string q1, .string q2] 23))
                have Pn := Lib.hid ((P.out.keep B P.out.lt).alloc (.cells #[.string q1, .string q2] 23))
                have Vn := Lib.hid ((V.out.keep B V.out.lt).alloc (.cells #[.string q1, .string q2] 23))
                have HBn := Lib.hid ((HB.out.trans (B.mono HB.out.size)).alloc (HB.out.trans (B.mono HB.out.size)).size (.cells #[.string q1, .string q2] 23))
                clear X Y P V HB
                have X := Xn
                have Y := Yn
                have P := Pn
                have V := Vn
                have HB := HBn
                clear Xn Yn Pn Vn HBn
                clear B
                have Pc0 := P.out.c0
                have Pc1 := P.out.c1
                have Xc0 := X.out.c0
                have Xc1 := X.out.c1
                have Yc0 := Y.out.c0
                have Yc1 := Y.out.c1
                (try go_wp2_with fail)
                clear Pc0 Pc1 Xc0 Xc1 Yc0 Yc1
                go_at_call 20
                refine (CC.out _).mono ?_
                rintro e Wkfjz02 ⟨rfl, B⟩
                have Xn := Lib.hid ((X.out.keep B X.out.lt))
                have Yn := Lib.hid ((Y.out.keep B Y.out.lt))
                have Pn := Lib.hid ((P.out.keep B P.out.lt))
                have Vn := Lib.hid ((V.out.keep B V.out.lt))
                have HBn := Lib.hid (HB.out.trans (B.mono HB.out.size))
                clear X Y P V HB
                have X := Xn
                have Y := Yn
                have P := Pn
                have V := Vn
                have HB := HBn
                clear Xn Yn Pn Vn HBn
                clear B
                have Xc0 := X.out.c0
                have Xc1 := X.out.c1
                have Vc0 := V.out.c0
                have Vc1 := V.out.c1
                (try go_wp2_with fail)
                clear Xc0 Xc1 Vc0 Vc1
                go_at_call 20
                refine (CD.out _).mono ?_
                rintro e Wkfjz03 ⟨rfl, B⟩
                have Xn := Lib.hid ((X.out.keep B X.out.lt))
                have Yn := Lib.hid ((Y.out.keep B Y.out.lt))
                have Pn := Lib.hid ((P.out.keep B P.out.lt))
                have Vn := Lib.hid ((V.out.keep B V.out.lt))
                have HBn := Lib.hid (HB.out.trans (B.mono HB.out.size))
                clear X Y P V HB
                have X := Xn
                have Y := Yn
                have P := Pn
                have V := Vn
                have HB := HBn
                clear Xn Yn Pn Vn HBn
                clear B
                (try go_wp2_with fail)
                go_ret
                exact ⟨rfl, HB.out⟩
              · rw [if_pos hc.2] at cc
                rw [if_neg (by omega)] at cd
                have hn0 : ¬ ((n : Int) = 0) := by omega
                have hlt2 := hc.2
                clear hc
                have CC := Lib.hid cc
                have CD := Lib.hid cd
                clear cc cd
                have Xc0 := X.out.c0
                have Xc1 := X.out.c1
                have Vc0 := V.out.c0
                have Vc1 := V.out.c1
                (try go_wp2_with fail)
                clear Xc0 Xc1 Vc0 Vc1
                go_at_call 38
                refine (CA.out _).mono ?_
                rintro e Wkfjz11 ⟨rfl, B⟩
                have Xn := Lib.hid ((X.out.keep B X.out.lt).alloc (.cells #[.string q1, .string q2] 23))
                have Yn := Lib.hid ((Y.out.keep B Y.out.lt).alloc (.cells #[.string q1, .string q2] 23))
                have Pn := Lib.hid ((P.out.keep B P.out.lt).alloc (.cells #[.string q1, .string q2] 23))
                have Vn := Lib.hid ((V.out.keep B V.out.lt).alloc (.cells #[.string q1, .string q2] 23))
                have HBn := Lib.hid ((HB.out.trans (B.mono HB.out.size)).alloc (HB.out.trans (B.mono HB.out.size)).size (.cells #[.string q1, .string q2] 23))
                clear X Y P V HB
                have X := Xn
                have Y := Yn
                have P := Pn
                have V := Vn
                have HB := HBn
                clear Xn Yn Pn Vn HBn
                clear B
                have Pc0 := P.out.c0
                have Pc1 := P.out.c1
                have Xc0 := X.out.c0
                have Xc1 := X.out.c1
                have Yc0 := Y.out.c0
                have Yc1 := Y.out.c1
                (try go_wp2_with fail)
                clear Pc0 Pc1 Xc0 Xc1 Yc0 Yc1
                go_at_call 20
                refine (CC.out _).mono ?_
                rintro e Wkfjz12 ⟨rfl, B⟩
                have Xn := Lib.hid ((X.out.keep B X.out.lt))
                have Yn := Lib.hid ((Y.out.keep B Y.out.lt))
                have Pn := Lib.hid ((P.out.keep B P.out.lt))
                have Vn := Lib.hid ((V.out.keep B V.out.lt))
                have HBn := Lib.hid (HB.out.trans (B.mono HB.out.size))
                clear X Y P V HB
                have X := Xn
                have Y := Yn
                have P := Pn
                have V := Vn
                have HB := HBn
                clear Xn Yn Pn Vn HBn
                clear B
                have Xc0 := X.out.c0
                have Xc1 := X.out.c1
                have Vc0 := V.out.c0
                have Vc1 := V.out.c1
                (try go_wp2_with fail)
                clear Xc0 Xc1 Vc0 Vc1
                go_at_call 20
                refine (CD.out _).mono ?_
                rintro e Wkfjz13 ⟨rfl, B⟩
                have Xn := Lib.hid ((X.out.keep B X.out.lt))
                have Yn := Lib.hid ((Y.out.keep B Y.out.lt))
                have Pn := Lib.hid ((P.out.keep B P.out.lt))
                have Vn := Lib.hid ((V.out.keep B V.out.lt))
                have HBn := Lib.hid (HB.out.trans (B.mono HB.out.size))
                clear X Y P V HB
                have X := Xn
                have Y := Yn
                have P := Pn
                have V := Vn
                have HB := HBn
                clear Xn Yn Pn Vn HBn
                clear B
                (try go_wp2_with fail)
                go_ret
                exact ⟨rfl, HB.out⟩
              · rw [if_neg (by omega), if_pos hc] at cc
                rw [if_neg (by omega)] at cd
                have hn0 : ¬ ((n : Int) = 0) := by omega
                have CC := Lib.hid cc
                have CD := Lib.hid cd
                clear cc cd
                have Xc0 := X.out.c0
                have Xc1 := X.out.c1
                have Vc0 := V.out.c0
                have Vc1 := V.out.c1
                (try go_wp2_with fail)
                clear Xc0 Xc1 Vc0 Vc1
                go_at_call 38
                refine (CA.out _).mono ?_
                rintro e Wkfjz21 ⟨rfl, B⟩
                have Xn := Lib.hid ((X.out.keep B X.out.lt).alloc (.cells #[.string q1, .string q2] 23))
                have Yn := Lib.hid ((Y.out.keep B Y.out.lt).alloc (.cells #[.string q1, .string q2] 23))
                have Pn := Lib.hid ((P.out.keep B P.out.lt).alloc (.cells #[.string q1, .string q2] 23))
                have Vn := Lib.hid ((V.out.keep B V.out.lt).alloc (.cells #[.string q1, .string q2] 23))
                have HBn := Lib.hid ((HB.out.trans (B.mono HB.out.size)).alloc (HB.out.trans (B.mono HB.out.size)).size (.cells #[.string q1, .string q2] 23))
                clear X Y P V HB
                have X := Xn
                have Y := Yn
                have P := Pn
                have V := Vn
                have HB := HBn
                clear Xn Yn Pn Vn HBn
                clear B
                have Pc0 := P.out.c0
                have Pc1 := P.out.c1
                have Xc0 := X.out.c0
                have Xc1 := X.out.c1
                have Yc0 := Y.out.c0
                have Yc1 := Y.out.c1
                (try go_wp2_with fail)
                clear Pc0 Pc1 Xc0 Xc1 Yc0 Yc1
                go_at_call 20
                refine (CC.out _).mono ?_
                rintro e Wkfjz22 ⟨rfl, B⟩
                have Xn := Lib.hid ((X.out.keep B X.out.lt))
                have Yn := Lib.hid ((Y.out.keep B Y.out.lt))
                have Pn := Lib.hid ((P.out.keep B P.out.lt))
                have Vn := Lib.hid ((V.out.keep B V.out.lt))
                have HBn := Lib.hid (HB.out.trans (B.mono HB.out.size))
                clear X Y P V HB
                have X := Xn
                have Y := Yn
                have P := Pn
                have V := Vn
                have HB := HBn
                clear Xn Yn Pn Vn HBn
                clear B
                have Xc0 := X.out.c0
                have Xc1 := X.out.c1
                have Vc0 := V.out.c0
                have Vc1 := V.out.c1
                (try go_wp2_with fail)
                clear Xc0 Xc1 Vc0 Vc1
                go_at_call 20
                refine (CD.out _).mono ?_
                rintro e Wkfjz23 ⟨rfl, B⟩
                have Xn := Lib.hid ((X.out.keep B X.out.lt))
                have Yn := Lib.hid ((Y.out.keep B Y.out.lt))
                have Pn := Lib.hid ((P.out.keep B P.out.lt))
                have Vn := Lib.hid ((V.out.keep B V.out.lt))
                have HBn := Lib.hid (HB.out.trans (B.mono HB.out.size))
                clear X Y P V HB
                have X := Xn
                have Y := Yn
                have P := Pn
                have V := Vn
                have HB := HBn
                clear Xn Yn Pn Vn HBn
                clear B
                (try go_wp2_with fail)
                go_ret
                exact ⟨rfl, HB.out⟩
              · rw [if_neg (by omega), if_neg (by omega)] at cc
                rw [if_neg (by omega)] at cd
                obtain ⟨rfl, hc0⟩ := hc
                have hn0 : ¬ ((n : Int) = 0) := by omega
                have CC := Lib.hid cc
                have CD := Lib.hid cd
                clear cc cd
                have Xc0 := X.out.c0
                have Xc1 := X.out.c1
                have Vc0 := V.out.c0
                have Vc1 := V.out.c1
                (try go_wp2_with fail)
                clear Xc0 Xc1 Vc0 Vc1
                go_at_call 38
                refine (CA.out _).mono ?_
                rintro e Wkfjz31 ⟨rfl, B⟩
                have Xn := Lib.hid ((X.out.keep B X.out.lt).alloc (.cells #[.string q1, .string q2] 23))
                have Yn := Lib.hid ((Y.out.keep B Y.out.lt).alloc (.cells #[.string q1, .string q2] 23))
                have Pn := Lib.hid ((P.out.keep B P.out.lt).alloc (.cells #[.string q1, .string q2] 23))
                have Vn := Lib.hid ((V.out.keep B V.out.lt).alloc (.cells #[.string q1, .string q2] 23))
                have HBn := Lib.hid ((HB.out.trans (B.mono HB.out.size)).alloc (HB.out.trans (B.mono HB.out.size)).size (.cells #[.string q1, .string q2] 23))
                clear X Y P V HB
                have X := Xn
                have Y := Yn
                have P := Pn
                have V := Vn
                have HB := HBn
                clear Xn Yn Pn Vn HBn
                clear B
                have Pc0 := P.out.c0
                have Pc1 := P.out.c1
                have Xc0 := X.out.c0
                have Xc1 := X.out.c1
                have Yc0 := Y.out.c0
                have Yc1 := Y.out.c1
                (try go_wp2_with fail)
                clear Pc0 Pc1 Xc0 Xc1 Yc0 Yc1
                go_at_call 20
                refine (CC.out _).mono ?_
                rintro e Wkfjz32 ⟨rfl, B⟩
                have Xn := Lib.hid ((X.out.keep B X.out.lt))
                have Yn := Lib.hid ((Y.out.keep B Y.out.lt))
                have Pn := Lib.hid ((P.out.keep B P.out.lt))
                have Vn := Lib.hid ((V.out.keep B V.out.lt))
                have HBn := Lib.hid (HB.out.trans (B.mono HB.out.size))
                clear X Y P V HB
                have X := Xn
                have Y := Yn
                have P := Pn
                have V := Vn
                have HB := HBn
                clear Xn Yn Pn Vn HBn
                clear B
                have Xc0 := X.out.c0
                have Xc1 := X.out.c1
                have Vc0 := V.out.c0
                have Vc1 := V.out.c1
                (try go_wp2_with fail)
                clear Xc0 Xc1 Vc0 Vc1
                go_at_call 20
                refine (CD.out _).mono ?_
                rintro e Wkfjz33 ⟨rfl, B⟩
                have Xn := Lib.hid ((X.out.keep B X.out.lt))
                have Yn := Lib.hid ((Y.out.keep B Y.out.lt))
                have Pn := Lib.hid ((P.out.keep B P.out.lt))
                have Vn := Lib.hid ((V.out.keep B V.out.lt))
                have HBn := Lib.hid (HB.out.trans (B.mono HB.out.size))
                clear X Y P V HB
                have X := Xn
                have Y := Yn
                have P := Pn
                have V := Vn
                have HB := HBn
                clear Xn Yn Pn Vn HBn
                clear B
                (try go_wp2_with fail)
                go_ret
                exact ⟨rfl, HB.out⟩
              · rw [if_pos (by omega)] at cc
                rw [if_neg (by omega)] at cd
                obtain ⟨rfl, hc0⟩ := hc
                have hm0 : ¬ ((m : Int) = 0) := by omega
                have CC := Lib.hid cc
                have CD := Lib.hid cd
                clear cc cd
                have Xc0 := X.out.c0
                have Xc1 := X.out.c1
                have Vc0 := V.out.c0
                have Vc1 := V.out.c1
                (try go_wp2_with fail)
                clear Xc0 Xc1 Vc0 Vc1
                go_at_call 38
                refine (CA.out _).mono ?_
                rintro e Wkfjz41 ⟨rfl, B⟩
                have Xn := Lib.hid ((X.out.keep B X.out.lt).alloc (.cells #[.string q1, .string q2] 23))
                have Yn := Lib.hid ((Y.out.keep B Y.out.lt).alloc (.cells #[.string q1, .string q2] 23))
                have Pn := Lib.hid ((P.out.keep B P.out.lt).alloc (.cells #[.string q1, .string q2] 23))
                have Vn := Lib.hid ((V.out.keep B V.out.lt).alloc (.cells #[.string q1, .string q2] 23))
                have HBn := Lib.hid ((HB.out.trans (B.mono HB.out.size)).alloc (HB.out.trans (B.mono HB.out.size)).size (.cells #[.string q1, .string q2] 23))
                clear X Y P V HB
                have X := Xn
                have Y := Yn
                have P := Pn
                have V := Vn
                have HB := HBn
                clear Xn Yn Pn Vn HBn
                clear B
                have Pc0 := P.out.c0
                have Pc1 := P.out.c1
                have Xc0 := X.out.c0
                have Xc1 := X.out.c1
                have Yc0 := Y.out.c0
                have Yc1 := Y.out.c1
                (try go_wp2_with fail)
                clear Pc0 Pc1 Xc0 Xc1 Yc0 Yc1
                go_at_call 20
                refine (CC.out _).mono ?_
                rintro e Wkfjz42 ⟨rfl, B⟩
                have Xn := Lib.hid ((X.out.keep B X.out.lt))
                have Yn := Lib.hid ((Y.out.keep B Y.out.lt))
                have Pn := Lib.hid ((P.out.keep B P.out.lt))
                have Vn := Lib.hid ((V.out.keep B V.out.lt))
                have HBn := Lib.hid (HB.out.trans (B.mono HB.out.size))
                clear X Y P V HB
                have X := Xn
                have Y := Yn
                have P := Pn
                have V := Vn
                have HB := HBn
                clear Xn Yn Pn Vn HBn
                clear B
                have Xc0 := X.out.c0
                have Xc1 := X.out.c1
                have Vc0 := V.out.c0
                have Vc1 := V.out.c1
                (try go_wp2_with fail)
                clear Xc0 Xc1 Vc0 Vc1
                go_at_call 20
                refine (CD.out _).mono ?_
                rintro e Wkfjz43 ⟨rfl, B⟩
                have Xn := Lib.hid ((X.out.keep B X.out.lt))
                have Yn := Lib.hid ((Y.out.keep B Y.out.lt))
                have Pn := Lib.hid ((P.out.keep B P.out.lt))
                have Vn := Lib.hid ((V.out.keep B V.out.lt))
                have HBn := Lib.hid (HB.out.trans (B.mono HB.out.size))
                clear X Y P V HB
                have X := Xn
                have Y := Yn
                have P := Pn
                have V := Vn
                have HB := HBn
                clear Xn Yn Pn Vn HBn
                clear B
                (try go_wp2_with fail)
                go_ret
                exact ⟨rfl, HB.out⟩
          · rw [decide_eq_false hf, opQ, if_neg (by decide)] at cm ca
            unfold RZ at cm ca
            generalize S ((10 ^ n : Nat) : Int) = an at *
            generalize S ((10 ^ m : Nat) : Int) = bm at *
            have CM := Lib.hid cm
            have CV := Lib.hid cv
            have CA := Lib.hid ca
            have CC := Lib.hid cc
            have CD := Lib.hid cd
            clear cm cv ca cc cd
            go_wp2_with fail
            go_at_call 41
            refine (is_any _ _ _).mono ?_
            rintro e Wkg1 ⟨rfl, B⟩
            have HBn := Lib.hid ((HB.out.trans (B.mono HB.out.size)).alloc (HB.out.trans (B.mono HB.out.size)).size (.cells #[(.string an), (.string ⟨#[49]⟩)] 23))
            clear HB
            have HB := HBn
            clear HBn
            have X := Lib.hid (RBlk.new Wkg1 (.string an) (.string ⟨#[49]⟩))
            clear B
            (try go_wp2_with fail)
            go_at_call 41
            refine (is_any _ _ _).mono ?_
            rintro e Wkg2 ⟨rfl, B⟩
            have Xn := Lib.hid ((X.out.keep B X.out.lt).alloc (.cells #[(.string bm), (.string ⟨#[49]⟩)] 23))
            have HBn := Lib.hid ((HB.out.trans (B.mono HB.out.size)).alloc (HB.out.trans (B.mono HB.out.size)).size (.cells #[(.string bm), (.string ⟨#[49]⟩)] 23))
            clear X HB
            have X := Xn
            have HB := HBn
            clear Xn HBn
            have Y := Lib.hid (RBlk.new Wkg2 (.string bm) (.string ⟨#[49]⟩))
            clear B
            have Xc0 := X.out.c0
            have Xc1 := X.out.c1
            have Yc0 := Y.out.c0
            have Yc1 := Y.out.c1
            (try go_wp2_with fail)
            clear Xc0 Xc1 Yc0 Yc1
            go_at_call 39
            refine (CM.out _).mono ?_
            rintro e Wkg3 ⟨rfl, B⟩
            have Xn := Lib.hid ((X.out.keep B X.out.lt).alloc (.cells #[(.string ⟨#[]⟩), (.string ⟨#[]⟩)] 23))
            have Yn := Lib.hid ((Y.out.keep B Y.out.lt).alloc (.cells #[(.string ⟨#[]⟩), (.string ⟨#[]⟩)] 23))
            have HBn := Lib.hid ((HB.out.trans (B.mono HB.out.size)).alloc (HB.out.trans (B.mono HB.out.size)).size (.cells #[(.string ⟨#[]⟩), (.string ⟨#[]⟩)] 23))
            clear X Y HB
            have X := Xn
            have Y := Yn
            have HB := HBn
            clear Xn Yn HBn
            have P := Lib.hid (RBlk.new Wkg3 (.string ⟨#[]⟩) (.string ⟨#[]⟩))
            clear B
            go_upto_region 17 with fail
            generalize hW0kg17 : (Wkg3.alloc (.cells #[(.string ⟨#[]⟩), (.string ⟨#[]⟩)] 23)) = W0kg17 at *
            clear hW0kg17
            apply join_two (fun gJ WJ => Hid (RBlk WJ (Wkg1.heap.size) (.string an) (.string ⟨#[49]⟩) ∧ RBlk WJ (Wkg2.heap.size) (.string bm) (.string ⟨#[49]⟩) ∧ RBlk WJ (Wkg3.heap.size) (.string ⟨#[]⟩) (.string ⟨#[]⟩) ∧ RBlk WJ gJ (.string v1) (.string v2) ∧ Below w.heap.size w WJ))
            case m =>
              intro HJ
              refine wp_region_noPanic ?_
              refine wp_region_held_drew (S := fun W => RBlk W (Wkg2.heap.size) (.string bm) (.string ⟨#[49]⟩)) (by kernel_rfl) ?_ (fun hHeld => ?_)
              · exact Y.out
              have X := Lib.hid X.out.drew
              have Y := Lib.hid Y.out.drew
              have P := Lib.hid P.out.drew
              have HB := Lib.hid HB.out.drew
              refine wpAnyH_take (i := 1) (oi := ({ dst := some 52, op := Go.Op.load 23 (Go.Operand.tmp 11), type := 23, pos := "law.go:287", after := #[], guard := none } : Oper)) (v := ?v1_1kg_17_2) rfl (by kernel_rfl) (by kernel_rfl) (by kernel_rfl) (fun _ _ _ h => h) (Or.inl ⟨by rfl, ?hy1_1kg_17_2⟩) (by assumption) ?re1_1kg_17_2
              case hy1_1kg_17_2 => ((intro w hSw; have e00 := hSw.c0; have e01 := hSw.c1; go_simp) <;> with_reducible rfl)
              (try simp only [Act.put, List.setIfInBounds_toArray, List.set_cons_zero, List.set_cons_succ])
              refine wpAnyH_ready (rs := [0, 6]) (by kernel_rfl) (by simp) ?_
              refine AllReadyH.cons (o := ({ dst := some 51, op := Go.Op.call { callee := Go.Callee.value (Go.Operand.func 41), args := #[Go.Operand.const (Go.Value.string { data := #[49] }), Go.Operand.const (Go.Value.string { data := #[49] })], argTypes := #[9, 9] }, type := 23, pos := "law.go:287", after := #[], guard := none } : Oper)) rfl (fun K hK => ?_) ?_
              · go_simp
                go_at_call 41
                refine (is_any _ _ _).mono ?_
                rintro e Wkg17_1 ⟨rfl, B⟩
                have X := Lib.hid (X.out.keep B X.out.lt)
                have Y := Lib.hid (Y.out.keep B Y.out.lt)
                have P := Lib.hid (P.out.keep B P.out.lt)
                have HB := Lib.hid (HB.out.trans (B.mono HB.out.size))
                (try go_wp2_with fail)
                refine hK.out _ _ ?_ (fun hHeld => ?_)
                · exact hHeld.keep B hHeld.lt
                clear hK K
                (try simp only [Act.put, List.setIfInBounds_toArray, List.set_cons_zero, List.set_cons_succ])
                clear B
                refine wpAnyH_ready (rs := [2, 6]) (by kernel_rfl) (by simp) ?_
                refine AllReadyH.cons (o := ({ dst := some 53, op := Go.Op.call { callee := Go.Callee.value (Go.Operand.func 45), args := #[Go.Operand.tmp 51, Go.Operand.tmp 52], argTypes := #[23, 23] }, type := 36, pos := "law.go:287", after := #[{ on := 0, ground := Go.Ground.data }, { on := 1, ground := Go.Ground.data }, { on := 0, ground := Go.Ground.chain }], guard := none } : Oper)) rfl (fun K hK => ?_) ?_
                · go_simp
                  go_at_call 45
                  refine (CV.out _).mono ?_
                  rintro e Wkg17_2 ⟨rfl, B⟩
                  have X := Lib.hid (X.out.keep B X.out.lt)
                  have Y := Lib.hid (Y.out.keep B Y.out.lt)
                  have P := Lib.hid (P.out.keep B P.out.lt)
                  have HB := Lib.hid (HB.out.trans (B.mono HB.out.size))
                  (try go_wp2_with fail)
                  refine hK.out _ _ ?_ (fun hHeld => ?_)
                  · exact hHeld.keep B hHeld.lt
                  clear hK K
                  (try simp only [Act.put, List.setIfInBounds_toArray, List.set_cons_zero, List.set_cons_succ])
                  clear B
                  refine wpAnyH_take (i := 3) (oi := ({ dst := some 50, op := Go.Op.move (Go.Operand.tmp 53), type := 36, pos := "law.go:287", after := #[{ on := 2, ground := Go.Ground.data }], guard := none } : Oper)) (v := ?v3_2kg_17_2) rfl (by kernel_rfl) (by kernel_rfl) (by kernel_rfl) (fun _ _ _ h => h) (Or.inl ⟨by rfl, ?hy3_2kg_17_2⟩) (by assumption) ?re3_2kg_17_2
                  case hy3_2kg_17_2 => ((intro w hSw; have e00 := hSw.c0; have e01 := hSw.c1; go_simp) <;> with_reducible rfl)
                  (try simp only [Act.put, List.setIfInBounds_toArray, List.set_cons_zero, List.set_cons_succ])
                  refine wpAnyH_take (i := 4) (oi := ({ dst := some 54, op := Go.Op.extract (Go.Operand.tmp 50) 0, type := 23, pos := "law.go:287", after := #[{ on := 3, ground := Go.Ground.data }], guard := none } : Oper)) (v := ?v4_3kg_17_2) rfl (by kernel_rfl) (by kernel_rfl) (by kernel_rfl) (fun _ _ _ h => h) (Or.inl ⟨by rfl, ?hy4_3kg_17_2⟩) (by assumption) ?re4_3kg_17_2
                  case hy4_3kg_17_2 => ((intro w hSw; have e00 := hSw.c0; have e01 := hSw.c1; go_simp) <;> with_reducible rfl)
                  (try simp only [Act.put, List.setIfInBounds_toArray, List.set_cons_zero, List.set_cons_succ])
                  refine wpAnyH_take (i := 5) (oi := ({ dst := some 55, op := Go.Op.extract (Go.Operand.tmp 50) 1, type := 32, pos := "law.go:287", after := #[{ on := 3, ground := Go.Ground.data }, { on := 7, ground := Go.Ground.gcOnly Go.Departure.lateStores }], guard := none } : Oper)) (v := ?v5_4kg_17_2) rfl (by kernel_rfl) (by kernel_rfl) (by kernel_rfl) (fun _ _ _ h => h) (Or.inl ⟨by rfl, ?hy5_4kg_17_2⟩) (by assumption) ?re5_4kg_17_2
                  case hy5_4kg_17_2 => ((intro w hSw; have e00 := hSw.c0; have e01 := hSw.c1; go_simp) <;> with_reducible rfl)
                  (try simp only [Act.put, List.setIfInBounds_toArray, List.set_cons_zero, List.set_cons_succ])
                  refine wpAnyH_ready (rs := [6]) (by kernel_rfl) (by simp) ?_
                  refine AllReadyH.cons (o := ({ dst := some 14, op := Go.Op.alloc 23, type := 0, pos := "law.go:287", after := #[], guard := none } : Oper)) rfl (fun K hK => ?_) ?_
                  · go_simp
                    obtain ⟨WAkg17_3, hWAkg17_3⟩ : ∃ W, W = (Wkg17_2.alloc (.cells #[.string ⟨#[]⟩, .string ⟨#[]⟩] 23)) := ⟨_, rfl⟩
                    rw [← hWAkg17_3]
                    have V : Hid (RBlk WAkg17_3 Wkg17_2.heap.size (.string ⟨#[]⟩) (.string ⟨#[]⟩)) := Lib.hid (by rw [hWAkg17_3]; exact RBlk.new Wkg17_2 (.string ⟨#[]⟩) (.string ⟨#[]⟩))
                    have gV : w.heap.size ≤ Wkg17_2.heap.size := HB.out.size
                    have neVX : (Wkg1.heap.size) ≠ Wkg17_2.heap.size := Nat.ne_of_lt X.out.lt
                    have neVY : (Wkg2.heap.size) ≠ Wkg17_2.heap.size := Nat.ne_of_lt Y.out.lt
                    have neVP : (Wkg3.heap.size) ≠ Wkg17_2.heap.size := Nat.ne_of_lt P.out.lt
                    have hk : (fun W => RBlk W (Wkg2.heap.size) (.string bm) (.string ⟨#[49]⟩)) WAkg17_3 := by rw [hWAkg17_3]; exact hHeld.alloc _
                    have X : Hid (RBlk WAkg17_3 (Wkg1.heap.size) (.string an) (.string ⟨#[49]⟩)) := Lib.hid (by rw [hWAkg17_3]; exact X.out.alloc _)
                    have Y : Hid (RBlk WAkg17_3 (Wkg2.heap.size) (.string bm) (.string ⟨#[49]⟩)) := Lib.hid (by rw [hWAkg17_3]; exact Y.out.alloc _)
                    have P : Hid (RBlk WAkg17_3 (Wkg3.heap.size) (.string ⟨#[]⟩) (.string ⟨#[]⟩)) := Lib.hid (by rw [hWAkg17_3]; exact P.out.alloc _)
                    have HB : Hid (Below w.heap.size w WAkg17_3) := Lib.hid (by rw [hWAkg17_3]; exact HB.out.alloc HB.out.size _)
                    clear hWAkg17_3
                    refine hK.out _ _ ?_ (fun hHeld => ?_)
                    · exact hk
                    clear hK K
                    (try simp only [Act.put, List.setIfInBounds_toArray, List.set_cons_zero, List.set_cons_succ])
                    clear hk
                    refine wpAnyH_ready (rs := [7]) (by kernel_rfl) (by simp) ?_
                    refine AllReadyH.cons (o := ({ dst := none, op := Go.Op.store 23 (Go.Operand.tmp 14) (Go.Operand.tmp 54), type := 0, pos := "law.go:287", after := #[{ on := 6, ground := Go.Ground.data }, { on := 4, ground := Go.Ground.data }, { on := 2, ground := Go.Ground.chain }, { on := 0, ground := Go.Ground.phase }, { on := 1, ground := Go.Ground.phase }, { on := 2, ground := Go.Ground.phase }, { on := 3, ground := Go.Ground.phase }, { on := 4, ground := Go.Ground.phase }, { on := 5, ground := Go.Ground.textOnly Go.Departure.lateStores }, { on := 6, ground := Go.Ground.phase }], guard := none } : Oper)) rfl (fun K hK => ?_) ?_
                    · have c0 := V.out.c0
                      have c1 := V.out.c1
                      have f0 := V.out.f 0
                      have f1 := V.out.f 1
                      have hs := V.out.s0 (.string v1)
                      have d1 := hs.c1
                      have g1 := hs.f 1
                      go_simp
                      have Vn := Lib.hid (hs.s1 (.string v2))
                      have Xn := Lib.hid ((X.out.other ⟨Wkg17_2.heap.size, 0, none⟩ (.string v1) neVX).other ⟨Wkg17_2.heap.size, 1, none⟩ (.string v2) neVX)
                      have Yn := Lib.hid ((Y.out.other ⟨Wkg17_2.heap.size, 0, none⟩ (.string v1) neVY).other ⟨Wkg17_2.heap.size, 1, none⟩ (.string v2) neVY)
                      have Pn := Lib.hid ((P.out.other ⟨Wkg17_2.heap.size, 0, none⟩ (.string v1) neVP).other ⟨Wkg17_2.heap.size, 1, none⟩ (.string v2) neVP)
                      have HBn := Lib.hid ((HB.out.setCell (p := ⟨Wkg17_2.heap.size, 0, none⟩) gV (.string v1)).setCell (p := ⟨Wkg17_2.heap.size, 1, none⟩) gV (.string v2))
                      clear hs c0 c1 f0 f1 d1 g1
                      have V := Vn
                      have X := Xn
                      have Y := Yn
                      have P := Pn
                      have HB := HBn
                      clear Vn Xn Yn Pn HBn
                      refine hK.out _ _ ?_ (fun hHeld => ?_)
                      · exact (hHeld.other ⟨Wkg17_2.heap.size, 0, none⟩ (.string v1) neVY).other ⟨Wkg17_2.heap.size, 1, none⟩ (.string v2) neVY
                      clear hK K
                      (try simp only [Act.put, List.setIfInBounds_toArray, List.set_cons_zero, List.set_cons_succ])
                      refine wpAnyH_take (i := 8) (oi := ({ dst := some 15, op := Go.Op.assign (Go.Operand.tmp 55), type := 32, pos := "law.go:287", after := #[{ on := 5, ground := Go.Ground.data }, { on := 7, ground := Go.Ground.chain }, { on := 0, ground := Go.Ground.phase }, { on := 1, ground := Go.Ground.phase }, { on := 2, ground := Go.Ground.phase }, { on := 3, ground := Go.Ground.phase }, { on := 4, ground := Go.Ground.phase }, { on := 5, ground := Go.Ground.phase }, { on := 6, ground := Go.Ground.phase }, { on := 7, ground := Go.Ground.phase }], guard := none } : Oper)) (v := ?v8_5kg_17_2) rfl (by kernel_rfl) (by kernel_rfl) (by kernel_rfl) (fun _ _ _ h => h) (Or.inl ⟨by rfl, ?hy8_5kg_17_2⟩) (by assumption) ?re8_5kg_17_2
                      case hy8_5kg_17_2 => ((intro w hSw; have e00 := hSw.c0; have e01 := hSw.c1; go_simp) <;> with_reducible rfl)
                      (try simp only [Act.put, List.setIfInBounds_toArray, List.set_cons_zero, List.set_cons_succ])
                      refine wpAnyH_done (by kernel_rfl) ?_ _
                      refine NoPanic.normal ?_
                      generalize hWJ : ((WAkg17_3.setCell ⟨Wkg17_2.heap.size, 0, none⟩ (.string v1)).setCell ⟨Wkg17_2.heap.size, 1, none⟩ (.string v2)) = WJ at *
                      clear hWJ
                      generalize hgJ : Wkg17_2.heap.size = gJ at *
                      clear hgJ
                      exact HJ gJ WJ (Lib.hid ⟨X.out, Y.out, P.out, V.out, HB.out⟩)
                    exact AllReadyH.nil
                  exact AllReadyH.nil
                refine AllReadyH.cons (o := ({ dst := some 14, op := Go.Op.alloc 23, type := 0, pos := "law.go:287", after := #[], guard := none } : Oper)) rfl (fun K hK => ?_) ?_
                · go_simp
                  obtain ⟨WAkg17_5, hWAkg17_5⟩ : ∃ W, W = (Wkg17_1.alloc (.cells #[.string ⟨#[]⟩, .string ⟨#[]⟩] 23)) := ⟨_, rfl⟩
                  rw [← hWAkg17_5]
                  have V : Hid (RBlk WAkg17_5 Wkg17_1.heap.size (.string ⟨#[]⟩) (.string ⟨#[]⟩)) := Lib.hid (by rw [hWAkg17_5]; exact RBlk.new Wkg17_1 (.string ⟨#[]⟩) (.string ⟨#[]⟩))
                  have gV : w.heap.size ≤ Wkg17_1.heap.size := HB.out.size
                  have neVX : (Wkg1.heap.size) ≠ Wkg17_1.heap.size := Nat.ne_of_lt X.out.lt
                  have neVY : (Wkg2.heap.size) ≠ Wkg17_1.heap.size := Nat.ne_of_lt Y.out.lt
                  have neVP : (Wkg3.heap.size) ≠ Wkg17_1.heap.size := Nat.ne_of_lt P.out.lt
                  have hk : (fun W => RBlk W (Wkg2.heap.size) (.string bm) (.string ⟨#[49]⟩)) WAkg17_5 := by rw [hWAkg17_5]; exact hHeld.alloc _
                  have X : Hid (RBlk WAkg17_5 (Wkg1.heap.size) (.string an) (.string ⟨#[49]⟩)) := Lib.hid (by rw [hWAkg17_5]; exact X.out.alloc _)
                  have Y : Hid (RBlk WAkg17_5 (Wkg2.heap.size) (.string bm) (.string ⟨#[49]⟩)) := Lib.hid (by rw [hWAkg17_5]; exact Y.out.alloc _)
                  have P : Hid (RBlk WAkg17_5 (Wkg3.heap.size) (.string ⟨#[]⟩) (.string ⟨#[]⟩)) := Lib.hid (by rw [hWAkg17_5]; exact P.out.alloc _)
                  have HB : Hid (Below w.heap.size w WAkg17_5) := Lib.hid (by rw [hWAkg17_5]; exact HB.out.alloc HB.out.size _)
                  clear hWAkg17_5
                  refine hK.out _ _ ?_ (fun hHeld => ?_)
                  · exact hk
                  clear hK K
                  (try simp only [Act.put, List.setIfInBounds_toArray, List.set_cons_zero, List.set_cons_succ])
                  clear hk
                  refine wpAnyH_ready (rs := [2]) (by kernel_rfl) (by simp) ?_
                  refine AllReadyH.cons (o := ({ dst := some 53, op := Go.Op.call { callee := Go.Callee.value (Go.Operand.func 45), args := #[Go.Operand.tmp 51, Go.Operand.tmp 52], argTypes := #[23, 23] }, type := 36, pos := "law.go:287", after := #[{ on := 0, ground := Go.Ground.data }, { on := 1, ground := Go.Ground.data }, { on := 0, ground := Go.Ground.chain }], guard := none } : Oper)) rfl (fun K hK => ?_) ?_
                  · go_simp
                    go_at_call 45
                    refine (CV.out _).mono ?_
                    rintro e Wkg17_6 ⟨rfl, B⟩
                    have X := Lib.hid (X.out.keep B X.out.lt)
                    have Y := Lib.hid (Y.out.keep B Y.out.lt)
                    have P := Lib.hid (P.out.keep B P.out.lt)
                    have V := Lib.hid (V.out.keep B V.out.lt)
                    have HB := Lib.hid (HB.out.trans (B.mono HB.out.size))
                    (try go_wp2_with fail)
                    refine hK.out _ _ ?_ (fun hHeld => ?_)
                    · exact hHeld.keep B hHeld.lt
                    clear hK K
                    (try simp only [Act.put, List.setIfInBounds_toArray, List.set_cons_zero, List.set_cons_succ])
                    clear B
                    refine wpAnyH_take (i := 3) (oi := ({ dst := some 50, op := Go.Op.move (Go.Operand.tmp 53), type := 36, pos := "law.go:287", after := #[{ on := 2, ground := Go.Ground.data }], guard := none } : Oper)) (v := ?v3_6kg_17_2) rfl (by kernel_rfl) (by kernel_rfl) (by kernel_rfl) (fun _ _ _ h => h) (Or.inl ⟨by rfl, ?hy3_6kg_17_2⟩) (by assumption) ?re3_6kg_17_2
                    case hy3_6kg_17_2 => ((intro w hSw; have e00 := hSw.c0; have e01 := hSw.c1; go_simp) <;> with_reducible rfl)
                    (try simp only [Act.put, List.setIfInBounds_toArray, List.set_cons_zero, List.set_cons_succ])
                    refine wpAnyH_take (i := 4) (oi := ({ dst := some 54, op := Go.Op.extract (Go.Operand.tmp 50) 0, type := 23, pos := "law.go:287", after := #[{ on := 3, ground := Go.Ground.data }], guard := none } : Oper)) (v := ?v4_7kg_17_2) rfl (by kernel_rfl) (by kernel_rfl) (by kernel_rfl) (fun _ _ _ h => h) (Or.inl ⟨by rfl, ?hy4_7kg_17_2⟩) (by assumption) ?re4_7kg_17_2
                    case hy4_7kg_17_2 => ((intro w hSw; have e00 := hSw.c0; have e01 := hSw.c1; go_simp) <;> with_reducible rfl)
                    (try simp only [Act.put, List.setIfInBounds_toArray, List.set_cons_zero, List.set_cons_succ])
                    refine wpAnyH_take (i := 5) (oi := ({ dst := some 55, op := Go.Op.extract (Go.Operand.tmp 50) 1, type := 32, pos := "law.go:287", after := #[{ on := 3, ground := Go.Ground.data }, { on := 7, ground := Go.Ground.gcOnly Go.Departure.lateStores }], guard := none } : Oper)) (v := ?v5_8kg_17_2) rfl (by kernel_rfl) (by kernel_rfl) (by kernel_rfl) (fun _ _ _ h => h) (Or.inl ⟨by rfl, ?hy5_8kg_17_2⟩) (by assumption) ?re5_8kg_17_2
                    case hy5_8kg_17_2 => ((intro w hSw; have e00 := hSw.c0; have e01 := hSw.c1; go_simp) <;> with_reducible rfl)
                    (try simp only [Act.put, List.setIfInBounds_toArray, List.set_cons_zero, List.set_cons_succ])
                    refine wpAnyH_ready (rs := [7]) (by kernel_rfl) (by simp) ?_
                    refine AllReadyH.cons (o := ({ dst := none, op := Go.Op.store 23 (Go.Operand.tmp 14) (Go.Operand.tmp 54), type := 0, pos := "law.go:287", after := #[{ on := 6, ground := Go.Ground.data }, { on := 4, ground := Go.Ground.data }, { on := 2, ground := Go.Ground.chain }, { on := 0, ground := Go.Ground.phase }, { on := 1, ground := Go.Ground.phase }, { on := 2, ground := Go.Ground.phase }, { on := 3, ground := Go.Ground.phase }, { on := 4, ground := Go.Ground.phase }, { on := 5, ground := Go.Ground.textOnly Go.Departure.lateStores }, { on := 6, ground := Go.Ground.phase }], guard := none } : Oper)) rfl (fun K hK => ?_) ?_
                    · have c0 := V.out.c0
                      have c1 := V.out.c1
                      have f0 := V.out.f 0
                      have f1 := V.out.f 1
                      have hs := V.out.s0 (.string v1)
                      have d1 := hs.c1
                      have g1 := hs.f 1
                      go_simp
                      have Vn := Lib.hid (hs.s1 (.string v2))
                      have Xn := Lib.hid ((X.out.other ⟨Wkg17_1.heap.size, 0, none⟩ (.string v1) neVX).other ⟨Wkg17_1.heap.size, 1, none⟩ (.string v2) neVX)
                      have Yn := Lib.hid ((Y.out.other ⟨Wkg17_1.heap.size, 0, none⟩ (.string v1) neVY).other ⟨Wkg17_1.heap.size, 1, none⟩ (.string v2) neVY)
                      have Pn := Lib.hid ((P.out.other ⟨Wkg17_1.heap.size, 0, none⟩ (.string v1) neVP).other ⟨Wkg17_1.heap.size, 1, none⟩ (.string v2) neVP)
                      have HBn := Lib.hid ((HB.out.setCell (p := ⟨Wkg17_1.heap.size, 0, none⟩) gV (.string v1)).setCell (p := ⟨Wkg17_1.heap.size, 1, none⟩) gV (.string v2))
                      clear hs c0 c1 f0 f1 d1 g1
                      have V := Vn
                      have X := Xn
                      have Y := Yn
                      have P := Pn
                      have HB := HBn
                      clear Vn Xn Yn Pn HBn
                      refine hK.out _ _ ?_ (fun hHeld => ?_)
                      · exact (hHeld.other ⟨Wkg17_1.heap.size, 0, none⟩ (.string v1) neVY).other ⟨Wkg17_1.heap.size, 1, none⟩ (.string v2) neVY
                      clear hK K
                      (try simp only [Act.put, List.setIfInBounds_toArray, List.set_cons_zero, List.set_cons_succ])
                      refine wpAnyH_take (i := 8) (oi := ({ dst := some 15, op := Go.Op.assign (Go.Operand.tmp 55), type := 32, pos := "law.go:287", after := #[{ on := 5, ground := Go.Ground.data }, { on := 7, ground := Go.Ground.chain }, { on := 0, ground := Go.Ground.phase }, { on := 1, ground := Go.Ground.phase }, { on := 2, ground := Go.Ground.phase }, { on := 3, ground := Go.Ground.phase }, { on := 4, ground := Go.Ground.phase }, { on := 5, ground := Go.Ground.phase }, { on := 6, ground := Go.Ground.phase }, { on := 7, ground := Go.Ground.phase }], guard := none } : Oper)) (v := ?v8_9kg_17_2) rfl (by kernel_rfl) (by kernel_rfl) (by kernel_rfl) (fun _ _ _ h => h) (Or.inl ⟨by rfl, ?hy8_9kg_17_2⟩) (by assumption) ?re8_9kg_17_2
                      case hy8_9kg_17_2 => ((intro w hSw; have e00 := hSw.c0; have e01 := hSw.c1; go_simp) <;> with_reducible rfl)
                      (try simp only [Act.put, List.setIfInBounds_toArray, List.set_cons_zero, List.set_cons_succ])
                      refine wpAnyH_done (by kernel_rfl) ?_ _
                      refine NoPanic.normal ?_
                      generalize hWJ : ((Wkg17_6.setCell ⟨Wkg17_1.heap.size, 0, none⟩ (.string v1)).setCell ⟨Wkg17_1.heap.size, 1, none⟩ (.string v2)) = WJ at *
                      clear hWJ
                      generalize hgJ : Wkg17_1.heap.size = gJ at *
                      clear hgJ
                      exact HJ gJ WJ (Lib.hid ⟨X.out, Y.out, P.out, V.out, HB.out⟩)
                    exact AllReadyH.nil
                  exact AllReadyH.nil
                exact AllReadyH.nil
              refine AllReadyH.cons (o := ({ dst := some 14, op := Go.Op.alloc 23, type := 0, pos := "law.go:287", after := #[], guard := none } : Oper)) rfl (fun K hK => ?_) ?_
              · go_simp
                obtain ⟨WAkg17_8, hWAkg17_8⟩ : ∃ W, W = (W0kg17.alloc (.cells #[.string ⟨#[]⟩, .string ⟨#[]⟩] 23)).drew := ⟨_, rfl⟩
                rw [← hWAkg17_8]
                have V : Hid (RBlk WAkg17_8 W0kg17.heap.size (.string ⟨#[]⟩) (.string ⟨#[]⟩)) := Lib.hid (by rw [hWAkg17_8]; exact RBlk.new W0kg17 (.string ⟨#[]⟩) (.string ⟨#[]⟩))
                have gV : w.heap.size ≤ W0kg17.heap.size := HB.out.size
                have neVX : (Wkg1.heap.size) ≠ W0kg17.heap.size := Nat.ne_of_lt X.out.lt
                have neVY : (Wkg2.heap.size) ≠ W0kg17.heap.size := Nat.ne_of_lt Y.out.lt
                have neVP : (Wkg3.heap.size) ≠ W0kg17.heap.size := Nat.ne_of_lt P.out.lt
                have hk : (fun W => RBlk W (Wkg2.heap.size) (.string bm) (.string ⟨#[49]⟩)) WAkg17_8 := by rw [hWAkg17_8]; exact hHeld.alloc _
                have X : Hid (RBlk WAkg17_8 (Wkg1.heap.size) (.string an) (.string ⟨#[49]⟩)) := Lib.hid (by rw [hWAkg17_8]; exact X.out.alloc _)
                have Y : Hid (RBlk WAkg17_8 (Wkg2.heap.size) (.string bm) (.string ⟨#[49]⟩)) := Lib.hid (by rw [hWAkg17_8]; exact Y.out.alloc _)
                have P : Hid (RBlk WAkg17_8 (Wkg3.heap.size) (.string ⟨#[]⟩) (.string ⟨#[]⟩)) := Lib.hid (by rw [hWAkg17_8]; exact P.out.alloc _)
                have HB : Hid (Below w.heap.size w WAkg17_8) := Lib.hid (by rw [hWAkg17_8]; exact HB.out.alloc HB.out.size _)
                clear hWAkg17_8
                refine hK.out _ _ ?_ (fun hHeld => ?_)
                · exact hk
                clear hK K
                (try simp only [Act.put, List.setIfInBounds_toArray, List.set_cons_zero, List.set_cons_succ])
                clear hk
                refine wpAnyH_ready (rs := [0]) (by kernel_rfl) (by simp) ?_
                refine AllReadyH.cons (o := ({ dst := some 51, op := Go.Op.call { callee := Go.Callee.value (Go.Operand.func 41), args := #[Go.Operand.const (Go.Value.string { data := #[49] }), Go.Operand.const (Go.Value.string { data := #[49] })], argTypes := #[9, 9] }, type := 23, pos := "law.go:287", after := #[], guard := none } : Oper)) rfl (fun K hK => ?_) ?_
                · go_simp
                  go_at_call 41
                  refine (is_any _ _ _).mono ?_
                  rintro e Wkg17_9 ⟨rfl, B⟩
                  have X := Lib.hid (X.out.keep B X.out.lt)
                  have Y := Lib.hid (Y.out.keep B Y.out.lt)
                  have P := Lib.hid (P.out.keep B P.out.lt)
                  have V := Lib.hid (V.out.keep B V.out.lt)
                  have HB := Lib.hid (HB.out.trans (B.mono HB.out.size))
                  (try go_wp2_with fail)
                  refine hK.out _ _ ?_ (fun hHeld => ?_)
                  · exact hHeld.keep B hHeld.lt
                  clear hK K
                  (try simp only [Act.put, List.setIfInBounds_toArray, List.set_cons_zero, List.set_cons_succ])
                  clear B
                  refine wpAnyH_ready (rs := [2]) (by kernel_rfl) (by simp) ?_
                  refine AllReadyH.cons (o := ({ dst := some 53, op := Go.Op.call { callee := Go.Callee.value (Go.Operand.func 45), args := #[Go.Operand.tmp 51, Go.Operand.tmp 52], argTypes := #[23, 23] }, type := 36, pos := "law.go:287", after := #[{ on := 0, ground := Go.Ground.data }, { on := 1, ground := Go.Ground.data }, { on := 0, ground := Go.Ground.chain }], guard := none } : Oper)) rfl (fun K hK => ?_) ?_
                  · go_simp
                    go_at_call 45
                    refine (CV.out _).mono ?_
                    rintro e Wkg17_10 ⟨rfl, B⟩
                    have X := Lib.hid (X.out.keep B X.out.lt)
                    have Y := Lib.hid (Y.out.keep B Y.out.lt)
                    have P := Lib.hid (P.out.keep B P.out.lt)
                    have V := Lib.hid (V.out.keep B V.out.lt)
                    have HB := Lib.hid (HB.out.trans (B.mono HB.out.size))
                    (try go_wp2_with fail)
                    refine hK.out _ _ ?_ (fun hHeld => ?_)
                    · exact hHeld.keep B hHeld.lt
                    clear hK K
                    (try simp only [Act.put, List.setIfInBounds_toArray, List.set_cons_zero, List.set_cons_succ])
                    clear B
                    refine wpAnyH_take (i := 3) (oi := ({ dst := some 50, op := Go.Op.move (Go.Operand.tmp 53), type := 36, pos := "law.go:287", after := #[{ on := 2, ground := Go.Ground.data }], guard := none } : Oper)) (v := ?v3_10kg_17_2) rfl (by kernel_rfl) (by kernel_rfl) (by kernel_rfl) (fun _ _ _ h => h) (Or.inl ⟨by rfl, ?hy3_10kg_17_2⟩) (by assumption) ?re3_10kg_17_2
                    case hy3_10kg_17_2 => ((intro w hSw; have e00 := hSw.c0; have e01 := hSw.c1; go_simp) <;> with_reducible rfl)
                    (try simp only [Act.put, List.setIfInBounds_toArray, List.set_cons_zero, List.set_cons_succ])
                    refine wpAnyH_take (i := 4) (oi := ({ dst := some 54, op := Go.Op.extract (Go.Operand.tmp 50) 0, type := 23, pos := "law.go:287", after := #[{ on := 3, ground := Go.Ground.data }], guard := none } : Oper)) (v := ?v4_11kg_17_2) rfl (by kernel_rfl) (by kernel_rfl) (by kernel_rfl) (fun _ _ _ h => h) (Or.inl ⟨by rfl, ?hy4_11kg_17_2⟩) (by assumption) ?re4_11kg_17_2
                    case hy4_11kg_17_2 => ((intro w hSw; have e00 := hSw.c0; have e01 := hSw.c1; go_simp) <;> with_reducible rfl)
                    (try simp only [Act.put, List.setIfInBounds_toArray, List.set_cons_zero, List.set_cons_succ])
                    refine wpAnyH_take (i := 5) (oi := ({ dst := some 55, op := Go.Op.extract (Go.Operand.tmp 50) 1, type := 32, pos := "law.go:287", after := #[{ on := 3, ground := Go.Ground.data }, { on := 7, ground := Go.Ground.gcOnly Go.Departure.lateStores }], guard := none } : Oper)) (v := ?v5_12kg_17_2) rfl (by kernel_rfl) (by kernel_rfl) (by kernel_rfl) (fun _ _ _ h => h) (Or.inl ⟨by rfl, ?hy5_12kg_17_2⟩) (by assumption) ?re5_12kg_17_2
                    case hy5_12kg_17_2 => ((intro w hSw; have e00 := hSw.c0; have e01 := hSw.c1; go_simp) <;> with_reducible rfl)
                    (try simp only [Act.put, List.setIfInBounds_toArray, List.set_cons_zero, List.set_cons_succ])
                    refine wpAnyH_ready (rs := [7]) (by kernel_rfl) (by simp) ?_
                    refine AllReadyH.cons (o := ({ dst := none, op := Go.Op.store 23 (Go.Operand.tmp 14) (Go.Operand.tmp 54), type := 0, pos := "law.go:287", after := #[{ on := 6, ground := Go.Ground.data }, { on := 4, ground := Go.Ground.data }, { on := 2, ground := Go.Ground.chain }, { on := 0, ground := Go.Ground.phase }, { on := 1, ground := Go.Ground.phase }, { on := 2, ground := Go.Ground.phase }, { on := 3, ground := Go.Ground.phase }, { on := 4, ground := Go.Ground.phase }, { on := 5, ground := Go.Ground.textOnly Go.Departure.lateStores }, { on := 6, ground := Go.Ground.phase }], guard := none } : Oper)) rfl (fun K hK => ?_) ?_
                    · have c0 := V.out.c0
                      have c1 := V.out.c1
                      have f0 := V.out.f 0
                      have f1 := V.out.f 1
                      have hs := V.out.s0 (.string v1)
                      have d1 := hs.c1
                      have g1 := hs.f 1
                      go_simp
                      have Vn := Lib.hid (hs.s1 (.string v2))
                      have Xn := Lib.hid ((X.out.other ⟨W0kg17.heap.size, 0, none⟩ (.string v1) neVX).other ⟨W0kg17.heap.size, 1, none⟩ (.string v2) neVX)
                      have Yn := Lib.hid ((Y.out.other ⟨W0kg17.heap.size, 0, none⟩ (.string v1) neVY).other ⟨W0kg17.heap.size, 1, none⟩ (.string v2) neVY)
                      have Pn := Lib.hid ((P.out.other ⟨W0kg17.heap.size, 0, none⟩ (.string v1) neVP).other ⟨W0kg17.heap.size, 1, none⟩ (.string v2) neVP)
                      have HBn := Lib.hid ((HB.out.setCell (p := ⟨W0kg17.heap.size, 0, none⟩) gV (.string v1)).setCell (p := ⟨W0kg17.heap.size, 1, none⟩) gV (.string v2))
                      clear hs c0 c1 f0 f1 d1 g1
                      have V := Vn
                      have X := Xn
                      have Y := Yn
                      have P := Pn
                      have HB := HBn
                      clear Vn Xn Yn Pn HBn
                      refine hK.out _ _ ?_ (fun hHeld => ?_)
                      · exact (hHeld.other ⟨W0kg17.heap.size, 0, none⟩ (.string v1) neVY).other ⟨W0kg17.heap.size, 1, none⟩ (.string v2) neVY
                      clear hK K
                      (try simp only [Act.put, List.setIfInBounds_toArray, List.set_cons_zero, List.set_cons_succ])
                      refine wpAnyH_take (i := 8) (oi := ({ dst := some 15, op := Go.Op.assign (Go.Operand.tmp 55), type := 32, pos := "law.go:287", after := #[{ on := 5, ground := Go.Ground.data }, { on := 7, ground := Go.Ground.chain }, { on := 0, ground := Go.Ground.phase }, { on := 1, ground := Go.Ground.phase }, { on := 2, ground := Go.Ground.phase }, { on := 3, ground := Go.Ground.phase }, { on := 4, ground := Go.Ground.phase }, { on := 5, ground := Go.Ground.phase }, { on := 6, ground := Go.Ground.phase }, { on := 7, ground := Go.Ground.phase }], guard := none } : Oper)) (v := ?v8_13kg_17_2) rfl (by kernel_rfl) (by kernel_rfl) (by kernel_rfl) (fun _ _ _ h => h) (Or.inl ⟨by rfl, ?hy8_13kg_17_2⟩) (by assumption) ?re8_13kg_17_2
                      case hy8_13kg_17_2 => ((intro w hSw; have e00 := hSw.c0; have e01 := hSw.c1; go_simp) <;> with_reducible rfl)
                      (try simp only [Act.put, List.setIfInBounds_toArray, List.set_cons_zero, List.set_cons_succ])
                      refine wpAnyH_done (by kernel_rfl) ?_ _
                      refine NoPanic.normal ?_
                      generalize hWJ : ((Wkg17_10.setCell ⟨W0kg17.heap.size, 0, none⟩ (.string v1)).setCell ⟨W0kg17.heap.size, 1, none⟩ (.string v2)) = WJ at *
                      clear hWJ
                      generalize hgJ : W0kg17.heap.size = gJ at *
                      clear hgJ
                      exact HJ gJ WJ (Lib.hid ⟨X.out, Y.out, P.out, V.out, HB.out⟩)
                    exact AllReadyH.nil
                  exact AllReadyH.nil
                exact AllReadyH.nil
              exact AllReadyH.nil
            case r =>
              clear X Y P HB
              intro gJkg17 WJkg17 hF
              obtain ⟨X', Y', P', V', HB'⟩ := hF.out
              have X := Lib.hid X'
              have Y := Lib.hid Y'
              have P := Lib.hid P'
              have V := Lib.hid V'
              have HB := Lib.hid HB'
              clear hF X' Y' P' V' HB'
              have cc := CC.out
              have cd := CD.out
              clear CC CD
              rcases (by omega : (n = 0 ∧ m = 0) ∨ (0 < n ∧ n < m) ∨ (m < n) ∨ (n = m ∧ 0 < m) ∨ (n = 0 ∧ 0 < m)) with hc | hc | hc | hc | hc
              · omega
              · rw [if_pos hc.2] at cc
                rw [if_neg (by omega)] at cd
                have hn0 : ¬ ((n : Int) = 0) := by omega
                have hlt2 := hc.2
                clear hc
                have CC := Lib.hid cc
                have CD := Lib.hid cd
                clear cc cd
                have Xc0 := X.out.c0
                have Xc1 := X.out.c1
                have Vc0 := V.out.c0
                have Vc1 := V.out.c1
                (try go_wp2_with fail)
                clear Xc0 Xc1 Vc0 Vc1
                go_at_call 38
                refine (CA.out _).mono ?_
                rintro e Wkgjz11 ⟨rfl, B⟩
                have Xn := Lib.hid ((X.out.keep B X.out.lt).alloc (.cells #[.string ⟨#[]⟩, .string ⟨#[]⟩] 23))
                have Yn := Lib.hid ((Y.out.keep B Y.out.lt).alloc (.cells #[.string ⟨#[]⟩, .string ⟨#[]⟩] 23))
                have Pn := Lib.hid ((P.out.keep B P.out.lt).alloc (.cells #[.string ⟨#[]⟩, .string ⟨#[]⟩] 23))
                have Vn := Lib.hid ((V.out.keep B V.out.lt).alloc (.cells #[.string ⟨#[]⟩, .string ⟨#[]⟩] 23))
                have HBn := Lib.hid ((HB.out.trans (B.mono HB.out.size)).alloc (HB.out.trans (B.mono HB.out.size)).size (.cells #[.string ⟨#[]⟩, .string ⟨#[]⟩] 23))
                clear X Y P V HB
                have X := Xn
                have Y := Yn
                have P := Pn
                have V := Vn
                have HB := HBn
                clear Xn Yn Pn Vn HBn
                clear B
                have Pc0 := P.out.c0
                have Pc1 := P.out.c1
                have Xc0 := X.out.c0
                have Xc1 := X.out.c1
                have Yc0 := Y.out.c0
                have Yc1 := Y.out.c1
                (try go_wp2_with fail)
                clear Pc0 Pc1 Xc0 Xc1 Yc0 Yc1
                go_at_call 20
                refine (CC.out _).mono ?_
                rintro e Wkgjz12 ⟨rfl, B⟩
                have Xn := Lib.hid ((X.out.keep B X.out.lt))
                have Yn := Lib.hid ((Y.out.keep B Y.out.lt))
                have Pn := Lib.hid ((P.out.keep B P.out.lt))
                have Vn := Lib.hid ((V.out.keep B V.out.lt))
                have HBn := Lib.hid (HB.out.trans (B.mono HB.out.size))
                clear X Y P V HB
                have X := Xn
                have Y := Yn
                have P := Pn
                have V := Vn
                have HB := HBn
                clear Xn Yn Pn Vn HBn
                clear B
                have Xc0 := X.out.c0
                have Xc1 := X.out.c1
                have Vc0 := V.out.c0
                have Vc1 := V.out.c1
                (try go_wp2_with fail)
                clear Xc0 Xc1 Vc0 Vc1
                go_at_call 20
                refine (CD.out _).mono ?_
                rintro e Wkgjz13 ⟨rfl, B⟩
                have Xn := Lib.hid ((X.out.keep B X.out.lt))
                have Yn := Lib.hid ((Y.out.keep B Y.out.lt))
                have Pn := Lib.hid ((P.out.keep B P.out.lt))
                have Vn := Lib.hid ((V.out.keep B V.out.lt))
                have HBn := Lib.hid (HB.out.trans (B.mono HB.out.size))
                clear X Y P V HB
                have X := Xn
                have Y := Yn
                have P := Pn
                have V := Vn
                have HB := HBn
                clear Xn Yn Pn Vn HBn
                clear B
                (try go_wp2_with fail)
                go_ret
                exact ⟨rfl, HB.out⟩
              · rw [if_neg (by omega), if_pos hc] at cc
                rw [if_neg (by omega)] at cd
                have hn0 : ¬ ((n : Int) = 0) := by omega
                have CC := Lib.hid cc
                have CD := Lib.hid cd
                clear cc cd
                have Xc0 := X.out.c0
                have Xc1 := X.out.c1
                have Vc0 := V.out.c0
                have Vc1 := V.out.c1
                (try go_wp2_with fail)
                clear Xc0 Xc1 Vc0 Vc1
                go_at_call 38
                refine (CA.out _).mono ?_
                rintro e Wkgjz21 ⟨rfl, B⟩
                have Xn := Lib.hid ((X.out.keep B X.out.lt).alloc (.cells #[.string ⟨#[]⟩, .string ⟨#[]⟩] 23))
                have Yn := Lib.hid ((Y.out.keep B Y.out.lt).alloc (.cells #[.string ⟨#[]⟩, .string ⟨#[]⟩] 23))
                have Pn := Lib.hid ((P.out.keep B P.out.lt).alloc (.cells #[.string ⟨#[]⟩, .string ⟨#[]⟩] 23))
                have Vn := Lib.hid ((V.out.keep B V.out.lt).alloc (.cells #[.string ⟨#[]⟩, .string ⟨#[]⟩] 23))
                have HBn := Lib.hid ((HB.out.trans (B.mono HB.out.size)).alloc (HB.out.trans (B.mono HB.out.size)).size (.cells #[.string ⟨#[]⟩, .string ⟨#[]⟩] 23))
                clear X Y P V HB
                have X := Xn
                have Y := Yn
                have P := Pn
                have V := Vn
                have HB := HBn
                clear Xn Yn Pn Vn HBn
                clear B
                have Pc0 := P.out.c0
                have Pc1 := P.out.c1
                have Xc0 := X.out.c0
                have Xc1 := X.out.c1
                have Yc0 := Y.out.c0
                have Yc1 := Y.out.c1
                (try go_wp2_with fail)
                clear Pc0 Pc1 Xc0 Xc1 Yc0 Yc1
                go_at_call 20
                refine (CC.out _).mono ?_
                rintro e Wkgjz22 ⟨rfl, B⟩
                have Xn := Lib.hid ((X.out.keep B X.out.lt))
                have Yn := Lib.hid ((Y.out.keep B Y.out.lt))
                have Pn := Lib.hid ((P.out.keep B P.out.lt))
                have Vn := Lib.hid ((V.out.keep B V.out.lt))
                have HBn := Lib.hid (HB.out.trans (B.mono HB.out.size))
                clear X Y P V HB
                have X := Xn
                have Y := Yn
                have P := Pn
                have V := Vn
                have HB := HBn
                clear Xn Yn Pn Vn HBn
                clear B
                have Xc0 := X.out.c0
                have Xc1 := X.out.c1
                have Vc0 := V.out.c0
                have Vc1 := V.out.c1
                (try go_wp2_with fail)
                clear Xc0 Xc1 Vc0 Vc1
                go_at_call 20
                refine (CD.out _).mono ?_
                rintro e Wkgjz23 ⟨rfl, B⟩
                have Xn := Lib.hid ((X.out.keep B X.out.lt))
                have Yn := Lib.hid ((Y.out.keep B Y.out.lt))
                have Pn := Lib.hid ((P.out.keep B P.out.lt))
                have Vn := Lib.hid ((V.out.keep B V.out.lt))
                have HBn := Lib.hid (HB.out.trans (B.mono HB.out.size))
                clear X Y P V HB
                have X := Xn
                have Y := Yn
                have P := Pn
                have V := Vn
                have HB := HBn
                clear Xn Yn Pn Vn HBn
                clear B
                (try go_wp2_with fail)
                go_ret
                exact ⟨rfl, HB.out⟩
              · rw [if_neg (by omega), if_neg (by omega)] at cc
                rw [if_neg (by omega)] at cd
                obtain ⟨rfl, hc0⟩ := hc
                have hn0 : ¬ ((n : Int) = 0) := by omega
                have CC := Lib.hid cc
                have CD := Lib.hid cd
                clear cc cd
                have Xc0 := X.out.c0
                have Xc1 := X.out.c1
                have Vc0 := V.out.c0
                have Vc1 := V.out.c1
                (try go_wp2_with fail)
                clear Xc0 Xc1 Vc0 Vc1
                go_at_call 38
                refine (CA.out _).mono ?_
                rintro e Wkgjz31 ⟨rfl, B⟩
                have Xn := Lib.hid ((X.out.keep B X.out.lt).alloc (.cells #[.string ⟨#[]⟩, .string ⟨#[]⟩] 23))
                have Yn := Lib.hid ((Y.out.keep B Y.out.lt).alloc (.cells #[.string ⟨#[]⟩, .string ⟨#[]⟩] 23))
                have Pn := Lib.hid ((P.out.keep B P.out.lt).alloc (.cells #[.string ⟨#[]⟩, .string ⟨#[]⟩] 23))
                have Vn := Lib.hid ((V.out.keep B V.out.lt).alloc (.cells #[.string ⟨#[]⟩, .string ⟨#[]⟩] 23))
                have HBn := Lib.hid ((HB.out.trans (B.mono HB.out.size)).alloc (HB.out.trans (B.mono HB.out.size)).size (.cells #[.string ⟨#[]⟩, .string ⟨#[]⟩] 23))
                clear X Y P V HB
                have X := Xn
                have Y := Yn
                have P := Pn
                have V := Vn
                have HB := HBn
                clear Xn Yn Pn Vn HBn
                clear B
                have Pc0 := P.out.c0
                have Pc1 := P.out.c1
                have Xc0 := X.out.c0
                have Xc1 := X.out.c1
                have Yc0 := Y.out.c0
                have Yc1 := Y.out.c1
                (try go_wp2_with fail)
                clear Pc0 Pc1 Xc0 Xc1 Yc0 Yc1
                go_at_call 20
                refine (CC.out _).mono ?_
                rintro e Wkgjz32 ⟨rfl, B⟩
                have Xn := Lib.hid ((X.out.keep B X.out.lt))
                have Yn := Lib.hid ((Y.out.keep B Y.out.lt))
                have Pn := Lib.hid ((P.out.keep B P.out.lt))
                have Vn := Lib.hid ((V.out.keep B V.out.lt))
                have HBn := Lib.hid (HB.out.trans (B.mono HB.out.size))
                clear X Y P V HB
                have X := Xn
                have Y := Yn
                have P := Pn
                have V := Vn
                have HB := HBn
                clear Xn Yn Pn Vn HBn
                clear B
                have Xc0 := X.out.c0
                have Xc1 := X.out.c1
                have Vc0 := V.out.c0
                have Vc1 := V.out.c1
                (try go_wp2_with fail)
                clear Xc0 Xc1 Vc0 Vc1
                go_at_call 20
                refine (CD.out _).mono ?_
                rintro e Wkgjz33 ⟨rfl, B⟩
                have Xn := Lib.hid ((X.out.keep B X.out.lt))
                have Yn := Lib.hid ((Y.out.keep B Y.out.lt))
                have Pn := Lib.hid ((P.out.keep B P.out.lt))
                have Vn := Lib.hid ((V.out.keep B V.out.lt))
                have HBn := Lib.hid (HB.out.trans (B.mono HB.out.size))
                clear X Y P V HB
                have X := Xn
                have Y := Yn
                have P := Pn
                have V := Vn
                have HB := HBn
                clear Xn Yn Pn Vn HBn
                clear B
                (try go_wp2_with fail)
                go_ret
                exact ⟨rfl, HB.out⟩
              · omega
end Go.Proofs.YtjpifnepdmgpeaaGreatDoor
