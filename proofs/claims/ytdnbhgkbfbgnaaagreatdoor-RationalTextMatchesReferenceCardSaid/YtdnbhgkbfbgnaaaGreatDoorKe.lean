/- The functions of the packages and of the references, by contract: part 5. -/
import Derived.DeepKeys
import Derived.Test.YtdnbhgkbfbgnaaaGreatDoorKd



namespace Go.Proofs.YtdnbhgkbfbgnaaaGreatDoor
open Go.RowKit

theorem CBlk.drew {w : World} {g : Nat} {cs : Array Value} {t : TypeId} (h : CBlk w g cs t) : CBlk w.drew g cs t := h
def Sh (s : ByteArray) : Prop := s.data.toList.length ≤ 60000
theorem Sh.S {z : Int} (h : z.natAbs < 10 ^ 200) : Sh (S z) := by
  show (Go.Proofs.YtdnbhgkbfbgnaaaGreatDoor.S z).data.toList.length ≤ 60000
  rw [S_list]; exact S_len h
theorem cut210r (s : ByteArray) : ∃ p : ByteArray, s.extract 0 (min (s.size : Int) 210).toNat = p ∧ Sh p := ⟨_, rfl, by show (s.extract 0 _).size ≤ 60000; rw [ByteArray.size_extract]; omega⟩
set_option maxRecDepth 100000 in
set_option maxHeartbeats 2000000 in
theorem cut_T (s1 s2 : ByteArray) (w : World) (h1 : s1.size ≤ 9223372036854775807) (h2 : s2.size ≤ 9223372036854775807) :
    Calls Tryz.prog 13 #[.agg #[.string s1, .string s2]] w fun e w' => ∃ a b : ByteArray, e = .returned (.agg #[.string a, .string b]) ∧ (Sh a ∧ Sh b) ∧ Below w.heap.size w w' := by
  obtain ⟨t1, ht1, z1⟩ := cut210r s1
  obtain ⟨t2, ht2, z2⟩ := cut210r s2
  obtain ⟨r1, r2⟩ := two_ratios w (.string s1) (.string s2) (.string ⟨#[]⟩) (.string ⟨#[]⟩)
  have P := Lib.hid r1
  have Z := Lib.hid r2
  have HB := Lib.hid ((below_alloc w (.cells #[.string s1, .string s2] 23)).alloc (by rw [World.size_alloc]; omega) (.cells #[.string ⟨#[]⟩, .string ⟨#[]⟩] 23))
  have Z1 := Lib.hid z1
  have Z2 := Lib.hid z2
  have neZP : w.heap.size ≠ w.heap.size + 1 := by omega
  have gZ : w.heap.size ≤ w.heap.size + 1 := by omega
  have m1 : (0 : Int) ≤ min (s1.size : Int) 210 ∧ min (s1.size : Int) 210 ≤ (s1.size : Int) := by omega
  have m2 : (0 : Int) ≤ min (s2.size : Int) 210 ∧ min (s2.size : Int) 210 ≤ (s2.size : Int) := by omega
  clear r1 r2 z1 z2
  go_enter Tryz.func13, Tryz.ntmps13
  go_upto_region 1 with fail
  generalize hW0c1 : ((w.alloc (.cells #[.string s1, .string s2] 23)).alloc (.cells #[.string ⟨#[]⟩, .string ⟨#[]⟩] 23)) = W0c1 at *
  clear hW0c1
  refine wp_region_noPanic ?_
  refine wp_region_held_drew (S := fun W => RBlk W (w.heap.size) (.string s1) (.string s2)) (by kernel_rfl) ?_ (fun hHeld => ?_)
  · exact P.out
  have Pn := Lib.hid P.out.drew
  have Zn := Lib.hid Z.out.drew
  have HBn := Lib.hid HB.out.drew
  clear P Z HB
  have P := Pn
  have Z := Zn
  have HB := HBn
  clear Pn Zn HBn
  refine wpAnyH_take (i := 0) (v := ?v0_1c_1_1) rfl (by kernel_rfl) (by kernel_rfl) (by kernel_rfl) (fun _ _ _ h => h) (Or.inl ⟨by first | kernel_rfl | rfl, ?hy0_1c_1_1⟩) (by assumption) ?re0_1c_1_1
  case hy0_1c_1_1 => ((intro w hSw; go_simp) <;> with_reducible rfl)
  (try simp only [Act.put, List.setIfInBounds_toArray, List.set_cons_zero, List.set_cons_succ])
  refine wpAnyH_take (i := 2) (v := ?v2_2c_1_1) rfl (by kernel_rfl) (by kernel_rfl) (by kernel_rfl) (fun _ _ _ h => h) (Or.inl ⟨by first | kernel_rfl | rfl, ?hy2_2c_1_1⟩) (by assumption) ?re2_2c_1_1
  case hy2_2c_1_1 => ((intro w hSw; go_simp) <;> with_reducible rfl)
  (try simp only [Act.put, List.setIfInBounds_toArray, List.set_cons_zero, List.set_cons_succ])
  refine wpAnyH_take (i := 7) (v := ?v7_3c_1_1) rfl (by kernel_rfl) (by kernel_rfl) (by kernel_rfl) (fun _ _ _ h => h) (Or.inl ⟨by first | kernel_rfl | rfl, ?hy7_3c_1_1⟩) (by assumption) ?re7_3c_1_1
  case hy7_3c_1_1 => ((intro w hSw; go_simp) <;> with_reducible rfl)
  (try simp only [Act.put, List.setIfInBounds_toArray, List.set_cons_zero, List.set_cons_succ])
  refine wpAnyH_take (i := 9) (v := ?v9_4c_1_1) rfl (by kernel_rfl) (by kernel_rfl) (by kernel_rfl) (fun _ _ _ h => h) (Or.inl ⟨by first | kernel_rfl | rfl, ?hy9_4c_1_1⟩) (by assumption) ?re9_4c_1_1
  case hy9_4c_1_1 => ((intro w hSw; go_simp) <;> with_reducible rfl)
  (try simp only [Act.put, List.setIfInBounds_toArray, List.set_cons_zero, List.set_cons_succ])
  refine wpAnyH_take (i := 1) (v := ?v1_5c_1_1) rfl (by kernel_rfl) (by kernel_rfl) (by kernel_rfl) (fun _ _ _ h => h) (Or.inl ⟨by first | kernel_rfl | rfl, ?hy1_5c_1_1⟩) (by assumption) ?re1_5c_1_1
  case hy1_5c_1_1 => ((intro w hSw; have e0_0 := hSw.c0; have e0_1 := hSw.c1; go_simp) <;> with_reducible rfl)
  (try simp only [Act.put, List.setIfInBounds_toArray, List.set_cons_zero, List.set_cons_succ])
  refine wpAnyH_take (i := 3) (v := ?v3_6c_1_1) rfl (by kernel_rfl) (by kernel_rfl) (by kernel_rfl) (fun _ _ _ h => h) (Or.inl ⟨by first | kernel_rfl | rfl, ?hy3_6c_1_1⟩) (by assumption) ?re3_6c_1_1
  case hy3_6c_1_1 => ((intro w hSw; have e0_0 := hSw.c0; have e0_1 := hSw.c1; go_simp) <;> with_reducible rfl)
  (try simp only [Act.put, List.setIfInBounds_toArray, List.set_cons_zero, List.set_cons_succ])
  refine wpAnyH_take (i := 8) (v := ?v8_7c_1_1) rfl (by kernel_rfl) (by kernel_rfl) (by kernel_rfl) (fun _ _ _ h => h) (Or.inl ⟨by first | kernel_rfl | rfl, ?hy8_7c_1_1⟩) (by assumption) ?re8_7c_1_1
  case hy8_7c_1_1 => ((intro w hSw; have e0_0 := hSw.c0; have e0_1 := hSw.c1; go_simp) <;> with_reducible rfl)
  (try simp only [Act.put, List.setIfInBounds_toArray, List.set_cons_zero, List.set_cons_succ])
  refine wpAnyH_take (i := 10) (v := ?v10_8c_1_1) rfl (by kernel_rfl) (by kernel_rfl) (by kernel_rfl) (fun _ _ _ h => h) (Or.inl ⟨by first | kernel_rfl | rfl, ?hy10_8c_1_1⟩) (by assumption) ?re10_8c_1_1
  case hy10_8c_1_1 => ((intro w hSw; have e0_0 := hSw.c0; have e0_1 := hSw.c1; go_simp) <;> with_reducible rfl)
  (try simp only [Act.put, List.setIfInBounds_toArray, List.set_cons_zero, List.set_cons_succ])
  refine wpAnyH_take (i := 4) (v := ?v4_9c_1_1) rfl (by kernel_rfl) (by kernel_rfl) (by kernel_rfl) (fun _ _ _ h => h) (Or.inl ⟨by first | kernel_rfl | rfl, ?hy4_9c_1_1⟩) (by assumption) ?re4_9c_1_1
  case hy4_9c_1_1 => ((intro w hSw; have e0_0 := hSw.c0; have e0_1 := hSw.c1; go_simp) <;> with_reducible rfl)
  (try simp only [Act.put, List.setIfInBounds_toArray, List.set_cons_zero, List.set_cons_succ])
  refine wpAnyH_take (i := 11) (v := ?v11_10c_1_1) rfl (by kernel_rfl) (by kernel_rfl) (by kernel_rfl) (fun _ _ _ h => h) (Or.inl ⟨by first | kernel_rfl | rfl, ?hy11_10c_1_1⟩) (by assumption) ?re11_10c_1_1
  case hy11_10c_1_1 => ((intro w hSw; have e0_0 := hSw.c0; have e0_1 := hSw.c1; go_simp) <;> with_reducible rfl)
  (try simp only [Act.put, List.setIfInBounds_toArray, List.set_cons_zero, List.set_cons_succ])
  refine wpAnyH_take (i := 5) (v := ?v5_11c_1_1) rfl (by kernel_rfl) (by kernel_rfl) (by kernel_rfl) (fun _ _ _ h => h) (Or.inl ⟨by first | kernel_rfl | rfl, ?hy5_11c_1_1⟩) (by assumption) ?re5_11c_1_1
  case hy5_11c_1_1 => ((intro w hSw; have e0_0 := hSw.c0; have e0_1 := hSw.c1; go_simp) <;> with_reducible rfl)
  (try simp only [Act.put, List.setIfInBounds_toArray, List.set_cons_zero, List.set_cons_succ])
  refine wpAnyH_take (i := 12) (v := ?v12_12c_1_1) rfl (by kernel_rfl) (by kernel_rfl) (by kernel_rfl) (fun _ _ _ h => h) (Or.inl ⟨by first | kernel_rfl | rfl, ?hy12_12c_1_1⟩) (by assumption) ?re12_12c_1_1
  case hy12_12c_1_1 => ((intro w hSw; have e0_0 := hSw.c0; have e0_1 := hSw.c1; go_simp) <;> with_reducible rfl)
  (try simp only [Act.put, List.setIfInBounds_toArray, List.set_cons_zero, List.set_cons_succ])
  refine wpAnyH_take (i := 6) (v := ?v6_13c_1_1) rfl (by kernel_rfl) (by kernel_rfl) (by kernel_rfl) (fun _ _ _ h => h) (Or.inl ⟨by first | kernel_rfl | rfl, ?hy6_13c_1_1⟩) (by assumption) ?re6_13c_1_1
  case hy6_13c_1_1 => ((intro w hSw; go_simp) <;> with_reducible rfl)
  (try simp only [Act.put, List.setIfInBounds_toArray, List.set_cons_zero, List.set_cons_succ])
  refine wpAnyH_take (i := 13) (v := ?v13_14c_1_1) rfl (by kernel_rfl) (by kernel_rfl) (by kernel_rfl) (fun _ _ _ h => h) (Or.inl ⟨by first | kernel_rfl | rfl, ?hy13_14c_1_1⟩) (by assumption) ?re13_14c_1_1
  case hy13_14c_1_1 => ((intro w hSw; go_simp) <;> with_reducible rfl)
  (try simp only [Act.put, List.setIfInBounds_toArray, List.set_cons_zero, List.set_cons_succ])
  refine wpAnyH_take (i := 14) (v := ?v14_15c_1_1) rfl (by kernel_rfl) (by kernel_rfl) (by kernel_rfl) (fun _ _ _ h => h) (Or.inl ⟨by first | kernel_rfl | rfl, ?hy14_15c_1_1⟩) (by assumption) ?re14_15c_1_1
  case hy14_15c_1_1 => ((intro w hSw; go_simp) <;> with_reducible rfl)
  (try simp only [Act.put, List.setIfInBounds_toArray, List.set_cons_zero, List.set_cons_succ])
  refine wpAnyH_ready (rs := [15]) (by kernel_rfl) (by simp) ?_
  refine AllReadyH.cons (o := ({ dst := none, op := Go.Op.store 23 (Go.Operand.tmp 2) (Go.Operand.tmp 17), type := 0, pos := "law.go:24", after := #[{ on := 14, ground := Go.Ground.data }, { on := 0, ground := Go.Ground.phase }, { on := 1, ground := Go.Ground.phase }, { on := 2, ground := Go.Ground.phase }, { on := 3, ground := Go.Ground.phase }, { on := 4, ground := Go.Ground.phase }, { on := 5, ground := Go.Ground.phase }, { on := 6, ground := Go.Ground.phase }, { on := 7, ground := Go.Ground.phase }, { on := 8, ground := Go.Ground.phase }, { on := 9, ground := Go.Ground.phase }, { on := 10, ground := Go.Ground.phase }, { on := 11, ground := Go.Ground.phase }, { on := 12, ground := Go.Ground.phase }, { on := 13, ground := Go.Ground.phase }, { on := 14, ground := Go.Ground.phase }], guard := none } : Oper)) rfl (fun K hK => ?_) ?_
  · have c0 := (show RBlk W0c1 (w.heap.size + 1) (.string ⟨#[]⟩) (.string ⟨#[]⟩) from Z.out).c0
    have c1 := (show RBlk W0c1 (w.heap.size + 1) (.string ⟨#[]⟩) (.string ⟨#[]⟩) from Z.out).c1
    have f0 := (show RBlk W0c1 (w.heap.size + 1) (.string ⟨#[]⟩) (.string ⟨#[]⟩) from Z.out).f 0
    have f1 := (show RBlk W0c1 (w.heap.size + 1) (.string ⟨#[]⟩) (.string ⟨#[]⟩) from Z.out).f 1
    have hs := (show RBlk W0c1 (w.heap.size + 1) (.string ⟨#[]⟩) (.string ⟨#[]⟩) from Z.out).s0 (.string t1)
    have d1 := hs.c1
    have g1 := hs.f 1
    have Pn : Hid (RBlk W0c1 (w.heap.size) (.string s1) (.string s2)) := Lib.hid P.out
    clear P
    have P := Pn
    clear Pn
    have HBn : Hid (Below w.heap.size w W0c1) := Lib.hid (below_undrew HB.out)
    clear HB
    have HB := HBn
    clear HBn
    go_simp
    have Zn := Lib.hid ((hs.s1 (.string t2)).drew)
    have Pn := Lib.hid (((P.out.other ⟨w.heap.size + 1, 0, none⟩ (.string t1) neZP).other ⟨w.heap.size + 1, 1, none⟩ (.string t2) neZP).drew)
    have HBn := Lib.hid (((HB.out.setCell (p := ⟨w.heap.size + 1, 0, none⟩) gZ (.string t1)).setCell (p := ⟨w.heap.size + 1, 1, none⟩) gZ (.string t2)).drew)
    clear hs c0 c1 f0 f1 d1 g1
    clear Z P HB
    have Z := Zn
    have P := Pn
    have HB := HBn
    clear Zn Pn HBn
    refine hK.out _ _ ?_ (fun hHeldN => ?_)
    · exact (hHeld.other ⟨w.heap.size + 1, 0, none⟩ (.string t1) neZP).other ⟨w.heap.size + 1, 1, none⟩ (.string t2) neZP
    clear hK K
    clear hHeld
    have hHeld := hHeldN
    clear hHeldN
    (try simp only [Act.put, List.setIfInBounds_toArray, List.set_cons_zero, List.set_cons_succ])
    refine wpAnyH_done (by kernel_rfl) ?_ _
    refine NoPanic.normal ?_
    go_wp2_with fail
    refine bodyPost_ret (results_ratio1 rfl _ _ (w.heap.size + 1) _ _ rfl Z.out) rfl ?_
    exact ⟨_, _, rfl, ⟨Z1.out, Z2.out⟩, HB.out⟩
  exact AllReadyH.nil
end Go.Proofs.YtdnbhgkbfbgnaaaGreatDoor

