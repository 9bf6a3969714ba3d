/- The functions of the packages and of the references, by contract: part 4. -/
import Derived.Ground.NamesProg
import Derived.Lib.Agree
import Derived.Lib.AppendIntMem
import Derived.ScopeJumps
import Derived.Shelf.Pu.Clone
import Derived.Shelf.Strconv.Itoa3
import Derived.Shelf.Strings.Cut
import Derived.Shelf.Strings.Repeat
import Derived.Test.YtdnbhgkbfbgnaaaGreatDoorChecked
import Derived.WalkMore
import Derived.Test.YtdnbhgkbfbgnaaaGreatDoorHc
namespace Go.Proofs.YtdnbhgkbfbgnaaaGreatDoor
open Go.RowKit
def StepOK (F : Nat) (caps : Array Value) (m m' : ByteArray × ByteArray) (e' : Int) (W : World) : Prop :=
 Calls Tryz.prog F (#[.agg #[.string m.1, .string m.2]] ++ caps) W fun e w' => e = .returned (.tuple #[.agg #[.string m'.1, .string m'.2], .int .i64 e']) ∧ Below W.heap.size W w'
theorem RBlk.drew {w : World} {g : Nat} {x y : Value} (h : RBlk w g x y) : RBlk w.drew g x y := h
def four_cells (W : World) (g : Nat) (s1 s2 s3 s4 : ByteArray) : Prop := g < W.heap.size ∧ W.cell? ⟨g, 0, none⟩ = some (.string s1) ∧ W.cell? ⟨g, 1, none⟩ = some (.string s2) ∧ W.cell? ⟨g, 2, none⟩ = some (.string s3) ∧ W.cell? ⟨g, 3, none⟩ = some (.string s4)
theorem four_cells.keep {W W' : World} {g : Nat} {s1 s2 s3 s4 : ByteArray} (h : four_cells W g s1 s2 s3 s4) (hb : Below W.heap.size W W') : four_cells W' g s1 s2 s3 s4 :=
 ⟨Nat.lt_of_lt_of_le h.1 hb.size, (hb.cell (p := ⟨g, 0, none⟩) h.1).trans h.2.1, (hb.cell (p := ⟨g, 1, none⟩) h.1).trans h.2.2.1, (hb.cell (p := ⟨g, 2, none⟩) h.1).trans h.2.2.2.1, (hb.cell (p := ⟨g, 3, none⟩) h.1).trans h.2.2.2.2⟩
theorem four_cells.new (W : World) (s1 s2 s3 s4 : ByteArray) (t : TypeId) : four_cells (W.alloc (.cells #[.string s1, .string s2, .string s3, .string s4] t)) W.heap.size s1 s2 s3 s4 :=
 ⟨by rw [World.size_alloc]; omega, by rw [World.cell?, Go.heap_alloc_new]; rfl, by rw [World.cell?, Go.heap_alloc_new]; rfl, by rw [World.cell?, Go.heap_alloc_new]; rfl, by rw [World.cell?, Go.heap_alloc_new]; rfl⟩
set_option maxRecDepth 100000 in
set_option maxHeartbeats 8000000 in
theorem qAdd_walk (s1 s2 s3 s4 : ByteArray) (M : Nat → ByteArray × ByteArray) (E : Nat → Int) (w : World) (hM : M 0 = (⟨#[]⟩, ⟨#[]⟩)) (hE : E 0 = 0) (hsk : ∀ i, i < 4 → E i ≠ 0 → M (i + 1) = M i ∧ E (i + 1) = E i)
  (h1 : ∀ W p g cap, 2 ≤ cap → CS W p (.slice (some ⟨g, 0, none⟩) 2 cap) → four_cells W g s1 s2 s3 s4 → StepOK 122 #[.pointer (some ⟨p, 0, none⟩)] (M 0) (M 1) (E 1) W)
  (h2 : E 1 = 0 → ∀ W p q, CS W p (.string s4) → CS W q (.string s4) → StepOK 123 #[.pointer (some ⟨p, 0, none⟩), .pointer (some ⟨q, 0, none⟩)] (M 1) (M 2) (E 2) W)
  (h3 : E 2 = 0 → ∀ W p q r, CS W p (.string s3) → CS W q (.string s2) → CS W r (.func (.func 81) #[] #[]) → StepOK 131 #[.pointer (some ⟨p, 0, none⟩), .pointer (some ⟨q, 0, none⟩), .pointer (some ⟨r, 0, none⟩)] (M 2) (M 3) (E 3) W)
  (h4 : E 3 = 0 → ∀ W, StepOK 70 #[] (M 3) (M 4) (E 4) W) :
  Calls Tryz.prog 38 #[.agg #[.string s1, .string s2], .agg #[.string s3, .string s4]] w fun e w' => e = .returned (.tuple #[.agg #[.string (M 4).1, .string (M 4).2], .int .i64 (E 4)]) ∧ Below w.heap.size w w' := by
 obtain ⟨r1, r2, r3⟩ := three_ratios w (.string s1) (.string s2) (.string s3) (.string s4) (.string ⟨#[]⟩) (.string ⟨#[]⟩)
 have hb0 := (((below_alloc w (.cells #[.string s1, .string s2] 23)).alloc (by rw [World.size_alloc]; omega) (.cells #[.string s3, .string s4] 23)).alloc (by rw [World.size_alloc, World.size_alloc]; omega) (.cells #[.string ⟨#[]⟩, .string ⟨#[]⟩] 23))
 have HR := Lib.hid (And.intro r1 r2)
 have HX := Lib.hid r3
 have HB := Lib.hid hb0
 have H1 := Lib.hid h1
 have H2 := Lib.hid h2
 have H3 := Lib.hid h3
 have H4 := Lib.hid h4
 have HS0 := Lib.hid (And.intro hM (And.intro hE hsk))
 clear r1 r2 r3 hb0 h1 h2 h3 h4 hM hE hsk
 go_enter Tryz.func38, Tryz.ntmps38
 go_upto_region 1 with fail
 refine wp_region_noPanic ?_
 refine wp_region_held_drew (S := fun W => RBlk W w.heap.size (.string s1) (.string s2) ∧ RBlk W (w.heap.size + 1) (.string s3) (.string s4)) (by kernel_rfl) ?_ (fun hHeld => ?_)
 ·
  exact HR.out
 refine tk 0 (oi := ({ dst := some 6, op := .load 23 (.tmp 2), type := 23, pos := "rational.go:30", after := #[], guard := none } : Oper)) (v := ?v0_1) ?hy0_1 ?re0_1
 case hy0_1 => ((intro w hSw; have e1 := hSw.1.c0; have e2 := hSw.1.c1; have e3 := hSw.2.c0; have e4 := hSw.2.c1; go_simp) <;> with_reducible rfl)
 (try simp only [Act.put, List.setIfInBounds_toArray, List.set_cons_zero, List.set_cons_succ])
 refine tk 1 (oi := ({ dst := some 7, op := .load 23 (.tmp 3), type := 23, pos := "rational.go:30", after := #[], guard := none } : Oper)) (v := ?v1_2) ?hy1_2 ?re1_2
 case hy1_2 => ((intro w hSw; have e1 := hSw.1.c0; have e2 := hSw.1.c1; have e3 := hSw.2.c0; have e4 := hSw.2.c1; go_simp) <;> with_reducible rfl)
 (try simp only [Act.put, List.setIfInBounds_toArray, List.set_cons_zero, List.set_cons_succ])
 refine tk 4 (oi := ({ dst := some 10, op := .fieldAddr 23 (.tmp 3) 1, type := 0, pos := "rational.go:30", after := #[], guard := none } : Oper)) (v := ?v4_3) ?hy4_3 ?re4_3
 case hy4_3 => ((intro w hSw; have e1 := hSw.1.c0; have e2 := hSw.1.c1; have e3 := hSw.2.c0; have e4 := hSw.2.c1; go_simp) <;> with_reducible rfl)
 (try simp only [Act.put, List.setIfInBounds_toArray, List.set_cons_zero, List.set_cons_succ])
 refine tk 5 (oi := ({ dst := some 11, op := .load 9 (.tmp 10), type := 9, pos := "rational.go:30", after := #[⟨4, .data⟩], guard := none } : Oper)) (v := ?v5_4) ?hy5_4 ?re5_4
 case hy5_4 => ((intro w hSw; have e1 := hSw.1.c0; have e2 := hSw.1.c1; have e3 := hSw.2.c0; have e4 := hSw.2.c1; go_simp) <;> with_reducible rfl)
 (try simp only [Act.put, List.setIfInBounds_toArray, List.set_cons_zero, List.set_cons_succ])
 refine tk 6 (oi := ({ dst := some 12, op := .fieldAddr 23 (.tmp 3) 1, type := 0, pos := "rational.go:30", after := #[], guard := none } : Oper)) (v := ?v6_5) ?hy6_5 ?re6_5
 case hy6_5 => ((intro w hSw; have e1 := hSw.1.c0; have e2 := hSw.1.c1; have e3 := hSw.2.c0; have e4 := hSw.2.c1; go_simp) <;> with_reducible rfl)
 (try simp only [Act.put, List.setIfInBounds_toArray, List.set_cons_zero, List.set_cons_succ])
 refine tk 7 (oi := ({ dst := some 13, op := .load 9 (.tmp 12), type := 9, pos := "rational.go:30", after := #[⟨6, .data⟩], guard := none } : Oper)) (v := ?v7_6) ?hy7_6 ?re7_6
 case hy7_6 => ((intro w hSw; have e1 := hSw.1.c0; have e2 := hSw.1.c1; have e3 := hSw.2.c0; have e4 := hSw.2.c1; go_simp) <;> with_reducible rfl)
 (try simp only [Act.put, List.setIfInBounds_toArray, List.set_cons_zero, List.set_cons_succ])
 refine tk 9 (oi := ({ dst := some 15, op := .fieldAddr 23 (.tmp 3) 0, type := 0, pos := "rational.go:30", after := #[], guard := none } : Oper)) (v := ?v9_7) ?hy9_7 ?re9_7
 case hy9_7 => ((intro w hSw; have e1 := hSw.1.c0; have e2 := hSw.1.c1; have e3 := hSw.2.c0; have e4 := hSw.2.c1; go_simp) <;> with_reducible rfl)
 (try simp only [Act.put, List.setIfInBounds_toArray, List.set_cons_zero, List.set_cons_succ])
 refine tk 10 (oi := ({ dst := some 16, op := .load 9 (.tmp 15), type := 9, pos := "rational.go:30", after := #[⟨9, .data⟩], guard := none } : Oper)) (v := ?v10_8) ?hy10_8 ?re10_8
 case hy10_8 => ((intro w hSw; have e1 := hSw.1.c0; have e2 := hSw.1.c1; have e3 := hSw.2.c0; have e4 := hSw.2.c1; go_simp) <;> with_reducible rfl)
 (try simp only [Act.put, List.setIfInBounds_toArray, List.set_cons_zero, List.set_cons_succ])
 refine tk 11 (oi := ({ dst := some 17, op := .fieldAddr 23 (.tmp 2) 1, type := 0, pos := "rational.go:30", after := #[], guard := none } : Oper)) (v := ?v11_9) ?hy11_9 ?re11_9
 case hy11_9 => ((intro w hSw; have e1 := hSw.1.c0; have e2 := hSw.1.c1; have e3 := hSw.2.c0; have e4 := hSw.2.c1; go_simp) <;> with_reducible rfl)
 (try simp only [Act.put, List.setIfInBounds_toArray, List.set_cons_zero, List.set_cons_succ])
 refine tk 12 (oi := ({ dst := some 18, op := .load 9 (.tmp 17), type := 9, pos := "rational.go:30", after := #[⟨11, .data⟩], guard := none } : Oper)) (v := ?v12_10) ?hy12_10 ?re12_10
 case hy12_10 => ((intro w hSw; have e1 := hSw.1.c0; have e2 := hSw.1.c1; have e3 := hSw.2.c0; have e4 := hSw.2.c1; go_simp) <;> with_reducible rfl)
 (try simp only [Act.put, List.setIfInBounds_toArray, List.set_cons_zero, List.set_cons_succ])
 refine wpAnyH_ready (rs := [2]) (by kernel_rfl) (by simp) ?_
 refine AllReadyH.cons (o := ({ dst := some 8, op := .buildSlice 30 2 #[(0, .tmp 6), (1, .tmp 7)], type := 30, pos := "rational.go:30", after := #[⟨0, .data⟩, ⟨1, .data⟩], guard := none } : Oper)) rfl (fun K hK => ?_) ?_
 ·
  go_simp
  obtain ⟨W1, hW1⟩ : ∃ W, W = ((((w.alloc (.cells #[.string s1, .string s2] 23)).alloc (.cells #[.string s3, .string s4] 23)).alloc (.cells #[.string ⟨#[]⟩, .string ⟨#[]⟩] 23)).alloc (.cells #[.string s1, .string s2, .string s3, .string s4] 23)).drew := ⟨_, rfl⟩
  rw [← hW1]
  have hsz : (((w.alloc (.cells #[.string s1, .string s2] 23)).alloc (.cells #[.string s3, .string s4] 23)).alloc (.cells #[.string ⟨#[]⟩, .string ⟨#[]⟩] 23)).heap.size = w.heap.size + 1 + 1 + 1 := by rw [World.size_alloc, World.size_alloc, World.size_alloc]
  have F4 : Hid (four_cells W1 (w.heap.size + 1 + 1 + 1) s1 s2 s3 s4) := Lib.hid (by rw [hW1, ← hsz]; exact four_cells.new (((w.alloc (.cells #[.string s1, .string s2] 23)).alloc (.cells #[.string s3, .string s4] 23)).alloc (.cells #[.string ⟨#[]⟩, .string ⟨#[]⟩] 23)) s1 s2 s3 s4 23)
  have HXn : Hid (RBlk W1 (w.heap.size + 1 + 1) (.string ⟨#[]⟩) (.string ⟨#[]⟩)) := Lib.hid (by rw [hW1]; exact HX.out.alloc _)
  have HD : Hid (Below w.heap.size w W1) := Lib.hid (by rw [hW1]; exact (HB.out.alloc HB.out.size _).drew)
  have hk1 : RBlk W1 w.heap.size (.string s1) (.string s2) ∧ RBlk W1 (w.heap.size + 1) (.string s3) (.string s4) := by rw [hW1]; exact ⟨HR.out.1.alloc _, HR.out.2.alloc _⟩
  clear HX HB HR hsz hW1
  have HX := HXn
  clear HXn
  refine hK.out _ _ ?_ (fun hHeld => ?_)
  ·
   exact hk1
  clear hK K
  (try simp only [Act.put, List.setIfInBounds_toArray, List.set_cons_zero, List.set_cons_succ])
  clear hk1
  refine wpAnyH_ready (rs := [3]) (by kernel_rfl) (by simp) ?_
  refine AllReadyH.cons (o := ({ dst := some 9, op := .call { callee := .value (.func 67), args := #[.tmp 8], argTypes := #[30] }, type := 85, pos := "rational.go:30", after := #[⟨2, .data⟩], guard := none } : Oper)) rfl (fun K hK => ?_) ?_
  ·
   go_simp
   go_at_call 67
   refine (start_any _ _ _ _).mono ?_
   rintro e W2 ⟨rfl, c2, B⟩
   have HXn := Lib.hid (HX.out.keep B HX.out.lt)
   have HDn := Lib.hid (HD.out.trans (B.mono HD.out.size))
   clear HX HD
   have HX := HXn
   have HD := HDn
   clear HXn HDn
   have F4n := Lib.hid (F4.out.keep B)
   clear F4
   have F4 := F4n
   clear F4n
   have C2 := Lib.hid c2
   clear c2
   (try go_wp2_with fail)
   refine hK.out _ _ ?_ (fun hHeld => ?_)
   ·
    exact ⟨hHeld.1.keep B hHeld.1.lt, hHeld.2.keep B hHeld.2.lt⟩
   clear hK K
   (try simp only [Act.put, List.setIfInBounds_toArray, List.set_cons_zero, List.set_cons_succ])
   clear B
   refine wpAnyH_ready (rs := [8]) (by kernel_rfl) (by simp) ?_
   refine AllReadyH.cons (o := ({ dst := some 14, op := .call { callee := .value (.func 68), args := #[.tmp 11, .tmp 13], argTypes := #[9, 9] }, type := 85, pos := "rational.go:30", after := #[⟨5, .data⟩, ⟨7, .data⟩, ⟨3, .chain⟩], guard := none } : Oper)) rfl (fun K hK => ?_) ?_
   ·
    go_simp
    go_at_call 68
    refine (qtimes_any _ _ _).mono ?_
    rintro e W3 ⟨rfl, c3, B⟩
    have HXn := Lib.hid (HX.out.keep B HX.out.lt)
    have HDn := Lib.hid (HD.out.trans (B.mono HD.out.size))
    clear HX HD
    have HX := HXn
    have HD := HDn
    clear HXn HDn
    have F4n := Lib.hid (F4.out.keep B)
    have C2n := Lib.hid (C2.out.keep B)
    clear F4 C2
    have F4 := F4n
    have C2 := C2n
    clear F4n C2n
    have C3a := Lib.hid c3.1
    have C3b := Lib.hid c3.2
    clear c3
    (try go_wp2_with fail)
    refine hK.out _ _ ?_ (fun hHeld => ?_)
    ·
     exact ⟨hHeld.1.keep B hHeld.1.lt, hHeld.2.keep B hHeld.2.lt⟩
    clear hK K
    (try simp only [Act.put, List.setIfInBounds_toArray, List.set_cons_zero, List.set_cons_succ])
    clear B
    refine wpAnyH_ready (rs := [13]) (by kernel_rfl) (by simp) ?_
    refine AllReadyH.cons (o := ({ dst := some 19, op := .call { callee := .value (.func 80), args := #[.func 81, .tmp 16, .tmp 18], argTypes := #[77, 9, 9] }, type := 85, pos := "rational.go:30", after := #[⟨10, .data⟩, ⟨12, .data⟩, ⟨8, .chain⟩], guard := none } : Oper)) rfl (fun K hK => ?_) ?_
    ·
     go_simp
     go_at_call 80
     refine (combine1_any _ _ _ _).mono ?_
     rintro e W4 ⟨rfl, c4, B⟩
     have HXn := Lib.hid (HX.out.keep B HX.out.lt)
     have HDn := Lib.hid (HD.out.trans (B.mono HD.out.size))
     clear HX HD
     have HX := HXn
     have HD := HDn
     clear HXn HDn
     have F4n := Lib.hid (F4.out.keep B)
     have C2n := Lib.hid (C2.out.keep B)
     have C3an := Lib.hid (C3a.out.keep B)
     have C3bn := Lib.hid (C3b.out.keep B)
     clear F4 C2 C3a C3b
     have F4 := F4n
     have C2 := C2n
     have C3a := C3an
     have C3b := C3bn
     clear F4n C2n C3an C3bn
     have C4a := Lib.hid c4.1
     have C4b := Lib.hid c4.2.1
     have C4c := Lib.hid c4.2.2
     clear c4
     (try go_wp2_with fail)
     refine hK.out _ _ ?_ (fun hHeld => ?_)
     ·
      exact ⟨hHeld.1.keep B hHeld.1.lt, hHeld.2.keep B hHeld.2.lt⟩
     clear hK K
     (try simp only [Act.put, List.setIfInBounds_toArray, List.set_cons_zero, List.set_cons_succ])
     clear B
     refine wpAnyH_ready (rs := [14]) (by kernel_rfl) (by simp) ?_
     refine AllReadyH.cons (o := ({ dst := some 20, op := .buildSlice 127 4 #[(0, .tmp 9), (1, .tmp 14), (2, .tmp 19), (3, .func 70)], type := 127, pos := "rational.go:30", after := #[⟨3, .data⟩, ⟨8, .data⟩, ⟨13, .data⟩], guard := none } : Oper)) rfl (fun K hK => ?_) ?_
     ·
      go_simp
      obtain ⟨WB, hWB⟩ : ∃ W, W = (W4.alloc (.cells #[.func (.func 122) #[] #[.pointer (some ⟨W1.heap.size, 0, none⟩)], .func (.func 123) #[] #[.pointer (some ⟨W2.heap.size, 0, none⟩), .pointer (some ⟨W2.heap.size + 1, 0, none⟩)], .func (.func 131) #[] #[.pointer (some ⟨W3.heap.size + 1, 0, none⟩), .pointer (some ⟨W3.heap.size + 1 + 1, 0, none⟩), .pointer (some ⟨W3.heap.size, 0, none⟩)], .func (.func 70) #[] #[]] 85)) := ⟨_, rfl⟩
      rw [← hWB]
      have BA : Below W4.heap.size W4 WB := by rw [hWB]; exact below_alloc W4 _
      have hgB : W4.heap.size < WB.heap.size := by rw [hWB, World.size_alloc]; omega
      have hr0 : WB.cell? ⟨W4.heap.size, 0, none⟩ = some (.func (.func 122) #[] #[.pointer (some ⟨W1.heap.size, 0, none⟩)]) := by rw [hWB, World.cell?, Go.heap_alloc_new]; rfl
      have hr1 : WB.cell? ⟨W4.heap.size, 1, none⟩ = some (.func (.func 123) #[] #[.pointer (some ⟨W2.heap.size, 0, none⟩), .pointer (some ⟨W2.heap.size + 1, 0, none⟩)]) := by rw [hWB, World.cell?, Go.heap_alloc_new]; rfl
      have hr2 : WB.cell? ⟨W4.heap.size, 2, none⟩ = some (.func (.func 131) #[] #[.pointer (some ⟨W3.heap.size + 1, 0, none⟩), .pointer (some ⟨W3.heap.size + 1 + 1, 0, none⟩), .pointer (some ⟨W3.heap.size, 0, none⟩)]) := by rw [hWB, World.cell?, Go.heap_alloc_new]; rfl
      have hr3 : WB.cell? ⟨W4.heap.size, 3, none⟩ = some (.func (.func 70) #[] #[]) := by rw [hWB, World.cell?, Go.heap_alloc_new]; rfl
      clear hWB
      have HXn := Lib.hid (HX.out.keep BA HX.out.lt)
      have HDn := Lib.hid (HD.out.trans (BA.mono HD.out.size))
      clear HX HD
      have HX := HXn
      have HD := HDn
      clear HXn HDn
      have F4n := Lib.hid (F4.out.keep BA)
      have C2n := Lib.hid (C2.out.keep BA)
      have C3an := Lib.hid (C3a.out.keep BA)
      have C3bn := Lib.hid (C3b.out.keep BA)
      have C4an := Lib.hid (C4a.out.keep BA)
      have C4bn := Lib.hid (C4b.out.keep BA)
      have C4cn := Lib.hid (C4c.out.keep BA)
      clear F4 C2 C3a C3b C4a C4b C4c
      have F4 := F4n
      have C2 := C2n
      have C3a := C3an
      have C3b := C3bn
      have C4a := C4an
      have C4b := C4bn
      have C4c := C4cn
      clear F4n C2n C3an C3bn C4an C4bn C4cn
      refine hK.out _ _ ?_ (fun hHeld => ?_)
      ·
       exact ⟨hHeld.1.keep BA hHeld.1.lt, hHeld.2.keep BA hHeld.2.lt⟩
      clear hK K
      (try simp only [Act.put, List.setIfInBounds_toArray, List.set_cons_zero, List.set_cons_succ])
      clear BA
      refine wpAnyH_ready (rs := [15]) (by kernel_rfl) (by simp) ?_
      refine AllReadyH.cons (o := ({ dst := some 21, op := .call { callee := .value (.func 66), args := #[.tmp 20], argTypes := #[127] }, type := 36, pos := "rational.go:30", after := #[⟨14, .data⟩, ⟨13, .chain⟩], guard := none } : Oper)) rfl (fun K hK => ?_) ?_
      ·
       go_simp
       go_at_call 66
       have hbc := build_any 4 W4.heap.size 4 (fun i => if i = 0 then .func (.func 122) #[] #[.pointer (some ⟨W1.heap.size, 0, none⟩)] else if i = 1 then .func (.func 123) #[] #[.pointer (some ⟨W2.heap.size, 0, none⟩), .pointer (some ⟨W2.heap.size + 1, 0, none⟩)] else if i = 2 then .func (.func 131) #[] #[.pointer (some ⟨W3.heap.size + 1, 0, none⟩), .pointer (some ⟨W3.heap.size + 1 + 1, 0, none⟩), .pointer (some ⟨W3.heap.size, 0, none⟩)] else .func (.func 70) #[] #[]) M E WB (by decide) (by decide) hgB (fun i hi => by
         rcases (by omega : i = 0 ∨ i = 1 ∨ i = 2 ∨ i = 3) with rfl | rfl | rfl | rfl
         ·
          exact hr0
         ·
          exact hr1
         ·
          exact hr2
         ·
          exact hr3) HS0.out.1 HS0.out.2.1 (fun i hi hE => by
         rcases (by omega : i = 0 ∨ i = 1 ∨ i = 2 ∨ i = 3) with rfl | rfl | rfl | rfl
         ·
          exact ⟨122, _, rfl, enters_of Tryz.func122 (by kernel_rfl) rfl, fun W hW => H1.out W _ _ 2 (by omega) (C2.out.keep hW) (F4.out.keep hW)⟩
         ·
          exact ⟨123, _, rfl, enters_of Tryz.func123 (by kernel_rfl) rfl, fun W hW => H2.out hE W _ _ (C3a.out.keep hW) (C3b.out.keep hW)⟩
         ·
          exact ⟨131, _, rfl, enters_of Tryz.func131 (by kernel_rfl) rfl, fun W hW => H3.out hE W _ _ _ (C4b.out.keep hW) (C4c.out.keep hW) (C4a.out.keep hW)⟩
         ·
          exact ⟨70, _, rfl, enters_of Tryz.func70 (by kernel_rfl) rfl, fun W hW => H4.out hE W⟩) HS0.out.2.2
       refine hbc.mono ?_
       rintro e W9 ⟨rfl, B⟩
       have HXn := Lib.hid (HX.out.keep B HX.out.lt)
       have HDn := Lib.hid (HD.out.trans (B.mono HD.out.size))
       clear HX HD hbc
       have HX := HXn
       have HD := HDn
       clear HXn HDn
       (try go_wp2_with fail)
       refine hK.out _ _ ?_ (fun hHeld => ?_)
       ·
        exact ⟨hHeld.1.keep B hHeld.1.lt, hHeld.2.keep B hHeld.2.lt⟩
       clear hK K
       (try simp only [Act.put, List.setIfInBounds_toArray, List.set_cons_zero, List.set_cons_succ])
       clear B
       refine tk 16 (oi := ({ dst := some 22, op := .extract (.tmp 21) 0, type := 23, pos := "rational.go:30", after := #[⟨15, .data⟩], guard := none } : Oper)) (v := ?v16_11) ?hy16_11 ?re16_11
       case hy16_11 => ((intro w hSw; have e1 := hSw.1.c0; have e2 := hSw.1.c1; have e3 := hSw.2.c0; have e4 := hSw.2.c1; go_simp) <;> with_reducible rfl)
       (try simp only [Act.put, List.setIfInBounds_toArray, List.set_cons_zero, List.set_cons_succ])
       refine tk 17 (oi := ({ dst := some 23, op := .extract (.tmp 21) 1, type := 32, pos := "rational.go:30", after := #[⟨15, .data⟩], guard := none } : Oper)) (v := ?v17_12) ?hy17_12 ?re17_12
       case hy17_12 => ((intro w hSw; have e1 := hSw.1.c0; have e2 := hSw.1.c1; have e3 := hSw.2.c0; have e4 := hSw.2.c1; go_simp) <;> with_reducible rfl)
       (try simp only [Act.put, List.setIfInBounds_toArray, List.set_cons_zero, List.set_cons_succ])
       refine wpAnyH_ready (rs := [18]) (by kernel_rfl) (by simp) ?_
       refine AllReadyH.cons (o := ({ dst := none, op := .store 23 (.tmp 4) (.tmp 22), type := 0, pos := "rational.go:30", after := #[⟨16, .data⟩, ⟨15, .chain⟩, ⟨0, .phase⟩, ⟨1, .phase⟩, ⟨2, .phase⟩, ⟨3, .phase⟩, ⟨4, .phase⟩, ⟨5, .phase⟩, ⟨6, .phase⟩, ⟨7, .phase⟩, ⟨8, .phase⟩, ⟨9, .phase⟩, ⟨10, .phase⟩, ⟨11, .phase⟩, ⟨12, .phase⟩, ⟨13, .phase⟩, ⟨14, .phase⟩, ⟨15, .phase⟩, ⟨16, .phase⟩, ⟨17, .phase⟩], guard := none } : Oper)) rfl (fun K hK => ?_) ?_
       ·
        have c0 := HX.out.c0
        have c1 := HX.out.c1
        have f0 := HX.out.f 0
        have f1 := HX.out.f 1
        have hs := HX.out.s0 (.string (M 4).1)
        have d1 := hs.c1
        have g1 := hs.f 1
        have HS := Lib.hid (hs.s1 (.string (M 4).2))
        have HBS := Lib.hid ((HD.out.setCell (p := ⟨w.heap.size + 1 + 1, 0, none⟩) (by show w.heap.size ≤ w.heap.size + 1 + 1; omega) (.string (M 4).1)).setCell (p := ⟨w.heap.size + 1 + 1, 1, none⟩) (by show w.heap.size ≤ w.heap.size + 1 + 1; omega) (.string (M 4).2))
        clear hs
        go_simp
        refine hK.out _ _ ?_ (fun hHeld => ?_)
        ·
         exact ⟨(hHeld.1.keep ((Below.refl (w.heap.size + 1 + 1) _).setCell (p := ⟨w.heap.size + 1 + 1, 0, none⟩) (Nat.le_refl _) (.string (M 4).1)) (by omega)).keep ((Below.refl (w.heap.size + 1 + 1) _).setCell (p := ⟨w.heap.size + 1 + 1, 1, none⟩) (Nat.le_refl _) (.string (M 4).2)) (by omega), (hHeld.2.keep ((Below.refl (w.heap.size + 1 + 1) _).setCell (p := ⟨w.heap.size + 1 + 1, 0, none⟩) (Nat.le_refl _) (.string (M 4).1)) (by omega)).keep ((Below.refl (w.heap.size + 1 + 1) _).setCell (p := ⟨w.heap.size + 1 + 1, 1, none⟩) (Nat.le_refl _) (.string (M 4).2)) (by omega)⟩
        clear hK K
        (try simp only [Act.put, List.setIfInBounds_toArray, List.set_cons_zero, List.set_cons_succ])
        refine tk 19 (oi := ({ dst := some 5, op := .assign (.tmp 23), type := 32, pos := "rational.go:30", after := #[⟨17, .data⟩, ⟨18, .chain⟩, ⟨0, .phase⟩, ⟨1, .phase⟩, ⟨2, .phase⟩, ⟨3, .phase⟩, ⟨4, .phase⟩, ⟨5, .phase⟩, ⟨6, .phase⟩, ⟨7, .phase⟩, ⟨8, .phase⟩, ⟨9, .phase⟩, ⟨10, .phase⟩, ⟨11, .phase⟩, ⟨12, .phase⟩, ⟨13, .phase⟩, ⟨14, .phase⟩, ⟨15, .phase⟩, ⟨16, .phase⟩, ⟨17, .phase⟩, ⟨18, .phase⟩], guard := none } : Oper)) (v := ?v19_13) ?hy19_13 ?re19_13
        case hy19_13 => ((intro w hSw; have e1 := hSw.1.c0; have e2 := hSw.1.c1; have e3 := hSw.2.c0; have e4 := hSw.2.c1; go_simp) <;> with_reducible rfl)
        (try simp only [Act.put, List.setIfInBounds_toArray, List.set_cons_zero, List.set_cons_succ])
        refine wpAnyH_done (by kernel_rfl) ?_ _
        refine NoPanic.normal ?_
        go_wp2_with fail
        refine bodyPost_ret (results_ratio rfl _ _ (w.heap.size + 1 + 1) _ _ rfl HS.out) rfl ?_
        exact ⟨rfl, HBS.out⟩
       exact AllReadyH.nil
      exact AllReadyH.nil
     exact AllReadyH.nil
    exact AllReadyH.nil
   exact AllReadyH.nil
  exact AllReadyH.nil
 exact AllReadyH.nil
set_option maxRecDepth 100000 in
set_option maxHeartbeats 8000000 in
theorem qSub_walk (s1 s2 s3 s4 : ByteArray) (M : Nat → ByteArray × ByteArray) (E : Nat → Int) (w : World) (hM : M 0 = (⟨#[]⟩, ⟨#[]⟩)) (hE : E 0 = 0) (hsk : ∀ i, i < 4 → E i ≠ 0 → M (i + 1) = M i ∧ E (i + 1) = E i)
  (h1 : ∀ W p g cap, 2 ≤ cap → CS W p (.slice (some ⟨g, 0, none⟩) 2 cap) → four_cells W g s1 s2 s3 s4 → StepOK 122 #[.pointer (some ⟨p, 0, none⟩)] (M 0) (M 1) (E 1) W)
  (h2 : E 1 = 0 → ∀ W p q, CS W p (.string s4) → CS W q (.string s4) → StepOK 123 #[.pointer (some ⟨p, 0, none⟩), .pointer (some ⟨q, 0, none⟩)] (M 1) (M 2) (E 2) W)
  (h3 : E 2 = 0 → ∀ W p q r, CS W p (.string s3) → CS W q (.string s2) → CS W r (.func (.func 82) #[] #[]) → StepOK 131 #[.pointer (some ⟨p, 0, none⟩), .pointer (some ⟨q, 0, none⟩), .pointer (some ⟨r, 0, none⟩)] (M 2) (M 3) (E 3) W)
  (h4 : E 3 = 0 → ∀ W, StepOK 70 #[] (M 3) (M 4) (E 4) W) :
  Calls Tryz.prog 40 #[.agg #[.string s1, .string s2], .agg #[.string s3, .string s4]] w fun e w' => e = .returned (.tuple #[.agg #[.string (M 4).1, .string (M 4).2], .int .i64 (E 4)]) ∧ Below w.heap.size w w' := by
 obtain ⟨r1, r2, r3⟩ := three_ratios w (.string s1) (.string s2) (.string s3) (.string s4) (.string ⟨#[]⟩) (.string ⟨#[]⟩)
 have hb0 := (((below_alloc w (.cells #[.string s1, .string s2] 23)).alloc (by rw [World.size_alloc]; omega) (.cells #[.string s3, .string s4] 23)).alloc (by rw [World.size_alloc, World.size_alloc]; omega) (.cells #[.string ⟨#[]⟩, .string ⟨#[]⟩] 23))
 have HR := Lib.hid (And.intro r1 r2)
 have HX := Lib.hid r3
 have HB := Lib.hid hb0
 have H1 := Lib.hid h1
 have H2 := Lib.hid h2
 have H3 := Lib.hid h3
 have H4 := Lib.hid h4
 have HS0 := Lib.hid (And.intro hM (And.intro hE hsk))
 clear r1 r2 r3 hb0 h1 h2 h3 h4 hM hE hsk
 go_enter Tryz.func40, Tryz.ntmps40
 go_upto_region 1 with fail
 refine wp_region_noPanic ?_
 refine wp_region_held_drew (S := fun W => RBlk W w.heap.size (.string s1) (.string s2) ∧ RBlk W (w.heap.size + 1) (.string s3) (.string s4)) (by kernel_rfl) ?_ (fun hHeld => ?_)
 ·
  exact HR.out
 refine tk 0 (oi := ({ dst := some 6, op := .load 23 (.tmp 2), type := 23, pos := "rational.go:35", after := #[], guard := none } : Oper)) (v := ?v0_1) ?hy0_1 ?re0_1
 case hy0_1 => ((intro w hSw; have e1 := hSw.1.c0; have e2 := hSw.1.c1; have e3 := hSw.2.c0; have e4 := hSw.2.c1; go_simp) <;> with_reducible rfl)
 (try simp only [Act.put, List.setIfInBounds_toArray, List.set_cons_zero, List.set_cons_succ])
 refine tk 1 (oi := ({ dst := some 7, op := .load 23 (.tmp 3), type := 23, pos := "rational.go:35", after := #[], guard := none } : Oper)) (v := ?v1_2) ?hy1_2 ?re1_2
 case hy1_2 => ((intro w hSw; have e1 := hSw.1.c0; have e2 := hSw.1.c1; have e3 := hSw.2.c0; have e4 := hSw.2.c1; go_simp) <;> with_reducible rfl)
 (try simp only [Act.put, List.setIfInBounds_toArray, List.set_cons_zero, List.set_cons_succ])
 refine tk 4 (oi := ({ dst := some 10, op := .fieldAddr 23 (.tmp 3) 1, type := 0, pos := "rational.go:35", after := #[], guard := none } : Oper)) (v := ?v4_3) ?hy4_3 ?re4_3
 case hy4_3 => ((intro w hSw; have e1 := hSw.1.c0; have e2 := hSw.1.c1; have e3 := hSw.2.c0; have e4 := hSw.2.c1; go_simp) <;> with_reducible rfl)
 (try simp only [Act.put, List.setIfInBounds_toArray, List.set_cons_zero, List.set_cons_succ])
 refine tk 5 (oi := ({ dst := some 11, op := .load 9 (.tmp 10), type := 9, pos := "rational.go:35", after := #[⟨4, .data⟩], guard := none } : Oper)) (v := ?v5_4) ?hy5_4 ?re5_4
 case hy5_4 => ((intro w hSw; have e1 := hSw.1.c0; have e2 := hSw.1.c1; have e3 := hSw.2.c0; have e4 := hSw.2.c1; go_simp) <;> with_reducible rfl)
 (try simp only [Act.put, List.setIfInBounds_toArray, List.set_cons_zero, List.set_cons_succ])
 refine tk 6 (oi := ({ dst := some 12, op := .fieldAddr 23 (.tmp 3) 1, type := 0, pos := "rational.go:35", after := #[], guard := none } : Oper)) (v := ?v6_5) ?hy6_5 ?re6_5
 case hy6_5 => ((intro w hSw; have e1 := hSw.1.c0; have e2 := hSw.1.c1; have e3 := hSw.2.c0; have e4 := hSw.2.c1; go_simp) <;> with_reducible rfl)
 (try simp only [Act.put, List.setIfInBounds_toArray, List.set_cons_zero, List.set_cons_succ])
 refine tk 7 (oi := ({ dst := some 13, op := .load 9 (.tmp 12), type := 9, pos := "rational.go:35", after := #[⟨6, .data⟩], guard := none } : Oper)) (v := ?v7_6) ?hy7_6 ?re7_6
 case hy7_6 => ((intro w hSw; have e1 := hSw.1.c0; have e2 := hSw.1.c1; have e3 := hSw.2.c0; have e4 := hSw.2.c1; go_simp) <;> with_reducible rfl)
 (try simp only [Act.put, List.setIfInBounds_toArray, List.set_cons_zero, List.set_cons_succ])
 refine tk 9 (oi := ({ dst := some 15, op := .fieldAddr 23 (.tmp 3) 0, type := 0, pos := "rational.go:35", after := #[], guard := none } : Oper)) (v := ?v9_7) ?hy9_7 ?re9_7
 case hy9_7 => ((intro w hSw; have e1 := hSw.1.c0; have e2 := hSw.1.c1; have e3 := hSw.2.c0; have e4 := hSw.2.c1; go_simp) <;> with_reducible rfl)
 (try simp only [Act.put, List.setIfInBounds_toArray, List.set_cons_zero, List.set_cons_succ])
 refine tk 10 (oi := ({ dst := some 16, op := .load 9 (.tmp 15), type := 9, pos := "rational.go:35", after := #[⟨9, .data⟩], guard := none } : Oper)) (v := ?v10_8) ?hy10_8 ?re10_8
 case hy10_8 => ((intro w hSw; have e1 := hSw.1.c0; have e2 := hSw.1.c1; have e3 := hSw.2.c0; have e4 := hSw.2.c1; go_simp) <;> with_reducible rfl)
 (try simp only [Act.put, List.setIfInBounds_toArray, List.set_cons_zero, List.set_cons_succ])
 refine tk 11 (oi := ({ dst := some 17, op := .fieldAddr 23 (.tmp 2) 1, type := 0, pos := "rational.go:35", after := #[], guard := none } : Oper)) (v := ?v11_9) ?hy11_9 ?re11_9
 case hy11_9 => ((intro w hSw; have e1 := hSw.1.c0; have e2 := hSw.1.c1; have e3 := hSw.2.c0; have e4 := hSw.2.c1; go_simp) <;> with_reducible rfl)
 (try simp only [Act.put, List.setIfInBounds_toArray, List.set_cons_zero, List.set_cons_succ])
 refine tk 12 (oi := ({ dst := some 18, op := .load 9 (.tmp 17), type := 9, pos := "rational.go:35", after := #[⟨11, .data⟩], guard := none } : Oper)) (v := ?v12_10) ?hy12_10 ?re12_10
 case hy12_10 => ((intro w hSw; have e1 := hSw.1.c0; have e2 := hSw.1.c1; have e3 := hSw.2.c0; have e4 := hSw.2.c1; go_simp) <;> with_reducible rfl)
 (try simp only [Act.put, List.setIfInBounds_toArray, List.set_cons_zero, List.set_cons_succ])
 refine wpAnyH_ready (rs := [2]) (by kernel_rfl) (by simp) ?_
 refine AllReadyH.cons (o := ({ dst := some 8, op := .buildSlice 30 2 #[(0, .tmp 6), (1, .tmp 7)], type := 30, pos := "rational.go:35", after := #[⟨0, .data⟩, ⟨1, .data⟩], guard := none } : Oper)) rfl (fun K hK => ?_) ?_
 ·
  go_simp
  obtain ⟨W1, hW1⟩ : ∃ W, W = ((((w.alloc (.cells #[.string s1, .string s2] 23)).alloc (.cells #[.string s3, .string s4] 23)).alloc (.cells #[.string ⟨#[]⟩, .string ⟨#[]⟩] 23)).alloc (.cells #[.string s1, .string s2, .string s3, .string s4] 23)).drew := ⟨_, rfl⟩
  rw [← hW1]
  have hsz : (((w.alloc (.cells #[.string s1, .string s2] 23)).alloc (.cells #[.string s3, .string s4] 23)).alloc (.cells #[.string ⟨#[]⟩, .string ⟨#[]⟩] 23)).heap.size = w.heap.size + 1 + 1 + 1 := by rw [World.size_alloc, World.size_alloc, World.size_alloc]
  have F4 : Hid (four_cells W1 (w.heap.size + 1 + 1 + 1) s1 s2 s3 s4) := Lib.hid (by rw [hW1, ← hsz]; exact four_cells.new (((w.alloc (.cells #[.string s1, .string s2] 23)).alloc (.cells #[.string s3, .string s4] 23)).alloc (.cells #[.string ⟨#[]⟩, .string ⟨#[]⟩] 23)) s1 s2 s3 s4 23)
  have HXn : Hid (RBlk W1 (w.heap.size + 1 + 1) (.string ⟨#[]⟩) (.string ⟨#[]⟩)) := Lib.hid (by rw [hW1]; exact HX.out.alloc _)
  have HD : Hid (Below w.heap.size w W1) := Lib.hid (by rw [hW1]; exact (HB.out.alloc HB.out.size _).drew)
  have hk1 : RBlk W1 w.heap.size (.string s1) (.string s2) ∧ RBlk W1 (w.heap.size + 1) (.string s3) (.string s4) := by rw [hW1]; exact ⟨HR.out.1.alloc _, HR.out.2.alloc _⟩
  clear HX HB HR hsz hW1
  have HX := HXn
  clear HXn
  refine hK.out _ _ ?_ (fun hHeld => ?_)
  ·
   exact hk1
  clear hK K
  (try simp only [Act.put, List.setIfInBounds_toArray, List.set_cons_zero, List.set_cons_succ])
  clear hk1
  refine wpAnyH_ready (rs := [3]) (by kernel_rfl) (by simp) ?_
  refine AllReadyH.cons (o := ({ dst := some 9, op := .call { callee := .value (.func 67), args := #[.tmp 8], argTypes := #[30] }, type := 85, pos := "rational.go:35", after := #[⟨2, .data⟩], guard := none } : Oper)) rfl (fun K hK => ?_) ?_
  ·
   go_simp
   go_at_call 67
   refine (start_any _ _ _ _).mono ?_
   rintro e W2 ⟨rfl, c2, B⟩
   have HXn := Lib.hid (HX.out.keep B HX.out.lt)
   have HDn := Lib.hid (HD.out.trans (B.mono HD.out.size))
   clear HX HD
   have HX := HXn
   have HD := HDn
   clear HXn HDn
   have F4n := Lib.hid (F4.out.keep B)
   clear F4
   have F4 := F4n
   clear F4n
   have C2 := Lib.hid c2
   clear c2
   (try go_wp2_with fail)
   refine hK.out _ _ ?_ (fun hHeld => ?_)
   ·
    exact ⟨hHeld.1.keep B hHeld.1.lt, hHeld.2.keep B hHeld.2.lt⟩
   clear hK K
   (try simp only [Act.put, List.setIfInBounds_toArray, List.set_cons_zero, List.set_cons_succ])
   clear B
   refine wpAnyH_ready (rs := [8]) (by kernel_rfl) (by simp) ?_
   refine AllReadyH.cons (o := ({ dst := some 14, op := .call { callee := .value (.func 68), args := #[.tmp 11, .tmp 13], argTypes := #[9, 9] }, type := 85, pos := "rational.go:35", after := #[⟨5, .data⟩, ⟨7, .data⟩, ⟨3, .chain⟩], guard := none } : Oper)) rfl (fun K hK => ?_) ?_
   ·
    go_simp
    go_at_call 68
    refine (qtimes_any _ _ _).mono ?_
    rintro e W3 ⟨rfl, c3, B⟩
    have HXn := Lib.hid (HX.out.keep B HX.out.lt)
    have HDn := Lib.hid (HD.out.trans (B.mono HD.out.size))
    clear HX HD
    have HX := HXn
    have HD := HDn
    clear HXn HDn
    have F4n := Lib.hid (F4.out.keep B)
    have C2n := Lib.hid (C2.out.keep B)
    clear F4 C2
    have F4 := F4n
    have C2 := C2n
    clear F4n C2n
    have C3a := Lib.hid c3.1
    have C3b := Lib.hid c3.2
    clear c3
    (try go_wp2_with fail)
    refine hK.out _ _ ?_ (fun hHeld => ?_)
    ·
     exact ⟨hHeld.1.keep B hHeld.1.lt, hHeld.2.keep B hHeld.2.lt⟩
    clear hK K
    (try simp only [Act.put, List.setIfInBounds_toArray, List.set_cons_zero, List.set_cons_succ])
    clear B
    refine wpAnyH_ready (rs := [13]) (by kernel_rfl) (by simp) ?_
    refine AllReadyH.cons (o := ({ dst := some 19, op := .call { callee := .value (.func 80), args := #[.func 82, .tmp 16, .tmp 18], argTypes := #[77, 9, 9] }, type := 85, pos := "rational.go:35", after := #[⟨10, .data⟩, ⟨12, .data⟩, ⟨8, .chain⟩], guard := none } : Oper)) rfl (fun K hK => ?_) ?_
    ·
     go_simp
     go_at_call 80
     refine (combine1_any _ _ _ _).mono ?_
     rintro e W4 ⟨rfl, c4, B⟩
     have HXn := Lib.hid (HX.out.keep B HX.out.lt)
     have HDn := Lib.hid (HD.out.trans (B.mono HD.out.size))
     clear HX HD
     have HX := HXn
     have HD := HDn
     clear HXn HDn
     have F4n := Lib.hid (F4.out.keep B)
     have C2n := Lib.hid (C2.out.keep B)
     have C3an := Lib.hid (C3a.out.keep B)
     have C3bn := Lib.hid (C3b.out.keep B)
     clear F4 C2 C3a C3b
     have F4 := F4n
     have C2 := C2n
     have C3a := C3an
     have C3b := C3bn
     clear F4n C2n C3an C3bn
     have C4a := Lib.hid c4.1
     have C4b := Lib.hid c4.2.1
     have C4c := Lib.hid c4.2.2
     clear c4
     (try go_wp2_with fail)
     refine hK.out _ _ ?_ (fun hHeld => ?_)
     ·
      exact ⟨hHeld.1.keep B hHeld.1.lt, hHeld.2.keep B hHeld.2.lt⟩
     clear hK K
     (try simp only [Act.put, List.setIfInBounds_toArray, List.set_cons_zero, List.set_cons_succ])
     clear B
     refine wpAnyH_ready (rs := [14]) (by kernel_rfl) (by simp) ?_
     refine AllReadyH.cons (o := ({ dst := some 20, op := .buildSlice 127 4 #[(0, .tmp 9), (1, .tmp 14), (2, .tmp 19), (3, .func 70)], type := 127, pos := "rational.go:35", after := #[⟨3, .data⟩, ⟨8, .data⟩, ⟨13, .data⟩], guard := none } : Oper)) rfl (fun K hK => ?_) ?_
     ·
      go_simp
      obtain ⟨WB, hWB⟩ : ∃ W, W = (W4.alloc (.cells #[.func (.func 122) #[] #[.pointer (some ⟨W1.heap.size, 0, none⟩)], .func (.func 123) #[] #[.pointer (some ⟨W2.heap.size, 0, none⟩), .pointer (some ⟨W2.heap.size + 1, 0, none⟩)], .func (.func 131) #[] #[.pointer (some ⟨W3.heap.size + 1, 0, none⟩), .pointer (some ⟨W3.heap.size + 1 + 1, 0, none⟩), .pointer (some ⟨W3.heap.size, 0, none⟩)], .func (.func 70) #[] #[]] 85)) := ⟨_, rfl⟩
      rw [← hWB]
      have BA : Below W4.heap.size W4 WB := by rw [hWB]; exact below_alloc W4 _
      have hgB : W4.heap.size < WB.heap.size := by rw [hWB, World.size_alloc]; omega
      have hr0 : WB.cell? ⟨W4.heap.size, 0, none⟩ = some (.func (.func 122) #[] #[.pointer (some ⟨W1.heap.size, 0, none⟩)]) := by rw [hWB, World.cell?, Go.heap_alloc_new]; rfl
      have hr1 : WB.cell? ⟨W4.heap.size, 1, none⟩ = some (.func (.func 123) #[] #[.pointer (some ⟨W2.heap.size, 0, none⟩), .pointer (some ⟨W2.heap.size + 1, 0, none⟩)]) := by rw [hWB, World.cell?, Go.heap_alloc_new]; rfl
      have hr2 : WB.cell? ⟨W4.heap.size, 2, none⟩ = some (.func (.func 131) #[] #[.pointer (some ⟨W3.heap.size + 1, 0, none⟩), .pointer (some ⟨W3.heap.size + 1 + 1, 0, none⟩), .pointer (some ⟨W3.heap.size, 0, none⟩)]) := by rw [hWB, World.cell?, Go.heap_alloc_new]; rfl
      have hr3 : WB.cell? ⟨W4.heap.size, 3, none⟩ = some (.func (.func 70) #[] #[]) := by rw [hWB, World.cell?, Go.heap_alloc_new]; rfl
      clear hWB
      have HXn := Lib.hid (HX.out.keep BA HX.out.lt)
      have HDn := Lib.hid (HD.out.trans (BA.mono HD.out.size))
      clear HX HD
      have HX := HXn
      have HD := HDn
      clear HXn HDn
      have F4n := Lib.hid (F4.out.keep BA)
      have C2n := Lib.hid (C2.out.keep BA)
      have C3an := Lib.hid (C3a.out.keep BA)
      have C3bn := Lib.hid (C3b.out.keep BA)
      have C4an := Lib.hid (C4a.out.keep BA)
      have C4bn := Lib.hid (C4b.out.keep BA)
      have C4cn := Lib.hid (C4c.out.keep BA)
      clear F4 C2 C3a C3b C4a C4b C4c
      have F4 := F4n
      have C2 := C2n
      have C3a := C3an
      have C3b := C3bn
      have C4a := C4an
      have C4b := C4bn
      have C4c := C4cn
      clear F4n C2n C3an C3bn C4an C4bn C4cn
      refine hK.out _ _ ?_ (fun hHeld => ?_)
      ·
       exact ⟨hHeld.1.keep BA hHeld.1.lt, hHeld.2.keep BA hHeld.2.lt⟩
      clear hK K
      (try simp only [Act.put, List.setIfInBounds_toArray, List.set_cons_zero, List.set_cons_succ])
      clear BA
      refine wpAnyH_ready (rs := [15]) (by kernel_rfl) (by simp) ?_
      refine AllReadyH.cons (o := ({ dst := some 21, op := .call { callee := .value (.func 66), args := #[.tmp 20], argTypes := #[127] }, type := 36, pos := "rational.go:35", after := #[⟨14, .data⟩, ⟨13, .chain⟩], guard := none } : Oper)) rfl (fun K hK => ?_) ?_
      ·
       go_simp
       go_at_call 66
       have hbc := build_any 4 W4.heap.size 4 (fun i => if i = 0 then .func (.func 122) #[] #[.pointer (some ⟨W1.heap.size, 0, none⟩)] else if i = 1 then .func (.func 123) #[] #[.pointer (some ⟨W2.heap.size, 0, none⟩), .pointer (some ⟨W2.heap.size + 1, 0, none⟩)] else if i = 2 then .func (.func 131) #[] #[.pointer (some ⟨W3.heap.size + 1, 0, none⟩), .pointer (some ⟨W3.heap.size + 1 + 1, 0, none⟩), .pointer (some ⟨W3.heap.size, 0, none⟩)] else .func (.func 70) #[] #[]) M E WB (by decide) (by decide) hgB (fun i hi => by
         rcases (by omega : i = 0 ∨ i = 1 ∨ i = 2 ∨ i = 3) with rfl | rfl | rfl | rfl
         ·
          exact hr0
         ·
          exact hr1
         ·
          exact hr2
         ·
          exact hr3) HS0.out.1 HS0.out.2.1 (fun i hi hE => by
         rcases (by omega : i = 0 ∨ i = 1 ∨ i = 2 ∨ i = 3) with rfl | rfl | rfl | rfl
         ·
          exact ⟨122, _, rfl, enters_of Tryz.func122 (by kernel_rfl) rfl, fun W hW => H1.out W _ _ 2 (by omega) (C2.out.keep hW) (F4.out.keep hW)⟩
         ·
          exact ⟨123, _, rfl, enters_of Tryz.func123 (by kernel_rfl) rfl, fun W hW => H2.out hE W _ _ (C3a.out.keep hW) (C3b.out.keep hW)⟩
         ·
          exact ⟨131, _, rfl, enters_of Tryz.func131 (by kernel_rfl) rfl, fun W hW => H3.out hE W _ _ _ (C4b.out.keep hW) (C4c.out.keep hW) (C4a.out.keep hW)⟩
         ·
          exact ⟨70, _, rfl, enters_of Tryz.func70 (by kernel_rfl) rfl, fun W hW => H4.out hE W⟩) HS0.out.2.2
       refine hbc.mono ?_
       rintro e W9 ⟨rfl, B⟩
       have HXn := Lib.hid (HX.out.keep B HX.out.lt)
       have HDn := Lib.hid (HD.out.trans (B.mono HD.out.size))
       clear HX HD hbc
       have HX := HXn
       have HD := HDn
       clear HXn HDn
       (try go_wp2_with fail)
       refine hK.out _ _ ?_ (fun hHeld => ?_)
       ·
        exact ⟨hHeld.1.keep B hHeld.1.lt, hHeld.2.keep B hHeld.2.lt⟩
       clear hK K
       (try simp only [Act.put, List.setIfInBounds_toArray, List.set_cons_zero, List.set_cons_succ])
       clear B
       refine tk 16 (oi := ({ dst := some 22, op := .extract (.tmp 21) 0, type := 23, pos := "rational.go:35", after := #[⟨15, .data⟩], guard := none } : Oper)) (v := ?v16_11) ?hy16_11 ?re16_11
       case hy16_11 => ((intro w hSw; have e1 := hSw.1.c0; have e2 := hSw.1.c1; have e3 := hSw.2.c0; have e4 := hSw.2.c1; go_simp) <;> with_reducible rfl)
       (try simp only [Act.put, List.setIfInBounds_toArray, List.set_cons_zero, List.set_cons_succ])
       refine tk 17 (oi := ({ dst := some 23, op := .extract (.tmp 21) 1, type := 32, pos := "rational.go:35", after := #[⟨15, .data⟩], guard := none } : Oper)) (v := ?v17_12) ?hy17_12 ?re17_12
       case hy17_12 => ((intro w hSw; have e1 := hSw.1.c0; have e2 := hSw.1.c1; have e3 := hSw.2.c0; have e4 := hSw.2.c1; go_simp) <;> with_reducible rfl)
       (try simp only [Act.put, List.setIfInBounds_toArray, List.set_cons_zero, List.set_cons_succ])
       refine wpAnyH_ready (rs := [18]) (by kernel_rfl) (by simp) ?_
       refine AllReadyH.cons (o := ({ dst := none, op := .store 23 (.tmp 4) (.tmp 22), type := 0, pos := "rational.go:35", after := #[⟨16, .data⟩, ⟨15, .chain⟩, ⟨0, .phase⟩, ⟨1, .phase⟩, ⟨2, .phase⟩, ⟨3, .phase⟩, ⟨4, .phase⟩, ⟨5, .phase⟩, ⟨6, .phase⟩, ⟨7, .phase⟩, ⟨8, .phase⟩, ⟨9, .phase⟩, ⟨10, .phase⟩, ⟨11, .phase⟩, ⟨12, .phase⟩, ⟨13, .phase⟩, ⟨14, .phase⟩, ⟨15, .phase⟩, ⟨16, .phase⟩, ⟨17, .phase⟩], guard := none } : Oper)) rfl (fun K hK => ?_) ?_
       ·
        have c0 := HX.out.c0
        have c1 := HX.out.c1
        have f0 := HX.out.f 0
        have f1 := HX.out.f 1
        have hs := HX.out.s0 (.string (M 4).1)
        have d1 := hs.c1
        have g1 := hs.f 1
        have HS := Lib.hid (hs.s1 (.string (M 4).2))
        have HBS := Lib.hid ((HD.out.setCell (p := ⟨w.heap.size + 1 + 1, 0, none⟩) (by show w.heap.size ≤ w.heap.size + 1 + 1; omega) (.string (M 4).1)).setCell (p := ⟨w.heap.size + 1 + 1, 1, none⟩) (by show w.heap.size ≤ w.heap.size + 1 + 1; omega) (.string (M 4).2))
        clear hs
        go_simp
        refine hK.out _ _ ?_ (fun hHeld => ?_)
        ·
         exact ⟨(hHeld.1.keep ((Below.refl (w.heap.size + 1 + 1) _).setCell (p := ⟨w.heap.size + 1 + 1, 0, none⟩) (Nat.le_refl _) (.string (M 4).1)) (by omega)).keep ((Below.refl (w.heap.size + 1 + 1) _).setCell (p := ⟨w.heap.size + 1 + 1, 1, none⟩) (Nat.le_refl _) (.string (M 4).2)) (by omega), (hHeld.2.keep ((Below.refl (w.heap.size + 1 + 1) _).setCell (p := ⟨w.heap.size + 1 + 1, 0, none⟩) (Nat.le_refl _) (.string (M 4).1)) (by omega)).keep ((Below.refl (w.heap.size + 1 + 1) _).setCell (p := ⟨w.heap.size + 1 + 1, 1, none⟩) (Nat.le_refl _) (.string (M 4).2)) (by omega)⟩
        clear hK K
        (try simp only [Act.put, List.setIfInBounds_toArray, List.set_cons_zero, List.set_cons_succ])
        refine tk 19 (oi := ({ dst := some 5, op := .assign (.tmp 23), type := 32, pos := "rational.go:35", after := #[⟨17, .data⟩, ⟨18, .chain⟩, ⟨0, .phase⟩, ⟨1, .phase⟩, ⟨2, .phase⟩, ⟨3, .phase⟩, ⟨4, .phase⟩, ⟨5, .phase⟩, ⟨6, .phase⟩, ⟨7, .phase⟩, ⟨8, .phase⟩, ⟨9, .phase⟩, ⟨10, .phase⟩, ⟨11, .phase⟩, ⟨12, .phase⟩, ⟨13, .phase⟩, ⟨14, .phase⟩, ⟨15, .phase⟩, ⟨16, .phase⟩, ⟨17, .phase⟩, ⟨18, .phase⟩], guard := none } : Oper)) (v := ?v19_13) ?hy19_13 ?re19_13
        case hy19_13 => ((intro w hSw; have e1 := hSw.1.c0; have e2 := hSw.1.c1; have e3 := hSw.2.c0; have e4 := hSw.2.c1; go_simp) <;> with_reducible rfl)
        (try simp only [Act.put, List.setIfInBounds_toArray, List.set_cons_zero, List.set_cons_succ])
        refine wpAnyH_done (by kernel_rfl) ?_ _
        refine NoPanic.normal ?_
        go_wp2_with fail
        refine bodyPost_ret (results_ratio rfl _ _ (w.heap.size + 1 + 1) _ _ rfl HS.out) rfl ?_
        exact ⟨rfl, HBS.out⟩
       exact AllReadyH.nil
      exact AllReadyH.nil
     exact AllReadyH.nil
    exact AllReadyH.nil
   exact AllReadyH.nil
  exact AllReadyH.nil
 exact AllReadyH.nil
set_option maxRecDepth 100000 in
set_option maxHeartbeats 8000000 in
theorem qMul_walk (s1 s2 s3 s4 : ByteArray) (M : Nat → ByteArray × ByteArray) (E : Nat → Int) (w : World) (hM : M 0 = (⟨#[]⟩, ⟨#[]⟩)) (hE : E 0 = 0) (hsk : ∀ i, i < 3 → E i ≠ 0 → M (i + 1) = M i ∧ E (i + 1) = E i)
  (h1 : ∀ W p g cap, 2 ≤ cap → CS W p (.slice (some ⟨g, 0, none⟩) 2 cap) → four_cells W g s1 s2 s3 s4 → StepOK 122 #[.pointer (some ⟨p, 0, none⟩)] (M 0) (M 1) (E 1) W)
  (h2 : E 1 = 0 → ∀ W p q, CS W p (.string s3) → CS W q (.string s4) → StepOK 123 #[.pointer (some ⟨p, 0, none⟩), .pointer (some ⟨q, 0, none⟩)] (M 1) (M 2) (E 2) W)
  (h4 : E 2 = 0 → ∀ W, StepOK 70 #[] (M 2) (M 3) (E 3) W) :
  Calls Tryz.prog 39 #[.agg #[.string s1, .string s2], .agg #[.string s3, .string s4]] w fun e w' => e = .returned (.tuple #[.agg #[.string (M 3).1, .string (M 3).2], .int .i64 (E 3)]) ∧ Below w.heap.size w w' := by
 obtain ⟨r1, r2, r3⟩ := three_ratios w (.string s1) (.string s2) (.string s3) (.string s4) (.string ⟨#[]⟩) (.string ⟨#[]⟩)
 have hb0 := (((below_alloc w (.cells #[.string s1, .string s2] 23)).alloc (by rw [World.size_alloc]; omega) (.cells #[.string s3, .string s4] 23)).alloc (by rw [World.size_alloc, World.size_alloc]; omega) (.cells #[.string ⟨#[]⟩, .string ⟨#[]⟩] 23))
 have HR := Lib.hid (And.intro r1 r2)
 have HX := Lib.hid r3
 have HB := Lib.hid hb0
 have H1 := Lib.hid h1
 have H2 := Lib.hid h2
 have H4 := Lib.hid h4
 have HS0 := Lib.hid (And.intro hM (And.intro hE hsk))
 clear r1 r2 r3 hb0 h1 h2 h4 hM hE hsk
 go_enter Tryz.func39, Tryz.ntmps39
 go_upto_region 1 with fail
 refine wp_region_noPanic ?_
 refine wp_region_held_drew (S := fun W => RBlk W w.heap.size (.string s1) (.string s2) ∧ RBlk W (w.heap.size + 1) (.string s3) (.string s4)) (by kernel_rfl) ?_ (fun hHeld => ?_)
 ·
  exact HR.out
 refine tk 0 (oi := ({ dst := some 6, op := .load 23 (.tmp 2), type := 23, pos := "rational.go:40", after := #[], guard := none } : Oper)) (v := ?v0_1) ?hy0_1 ?re0_1
 case hy0_1 => ((intro w hSw; have e1 := hSw.1.c0; have e2 := hSw.1.c1; have e3 := hSw.2.c0; have e4 := hSw.2.c1; go_simp) <;> with_reducible rfl)
 (try simp only [Act.put, List.setIfInBounds_toArray, List.set_cons_zero, List.set_cons_succ])
 refine tk 1 (oi := ({ dst := some 7, op := .load 23 (.tmp 3), type := 23, pos := "rational.go:40", after := #[], guard := none } : Oper)) (v := ?v1_2) ?hy1_2 ?re1_2
 case hy1_2 => ((intro w hSw; have e1 := hSw.1.c0; have e2 := hSw.1.c1; have e3 := hSw.2.c0; have e4 := hSw.2.c1; go_simp) <;> with_reducible rfl)
 (try simp only [Act.put, List.setIfInBounds_toArray, List.set_cons_zero, List.set_cons_succ])
 refine tk 4 (oi := ({ dst := some 10, op := .fieldAddr 23 (.tmp 3) 0, type := 0, pos := "rational.go:40", after := #[], guard := none } : Oper)) (v := ?v4_3) ?hy4_3 ?re4_3
 case hy4_3 => ((intro w hSw; have e1 := hSw.1.c0; have e2 := hSw.1.c1; have e3 := hSw.2.c0; have e4 := hSw.2.c1; go_simp) <;> with_reducible rfl)
 (try simp only [Act.put, List.setIfInBounds_toArray, List.set_cons_zero, List.set_cons_succ])
 refine tk 5 (oi := ({ dst := some 11, op := .load 9 (.tmp 10), type := 9, pos := "rational.go:40", after := #[⟨4, .data⟩], guard := none } : Oper)) (v := ?v5_4) ?hy5_4 ?re5_4
 case hy5_4 => ((intro w hSw; have e1 := hSw.1.c0; have e2 := hSw.1.c1; have e3 := hSw.2.c0; have e4 := hSw.2.c1; go_simp) <;> with_reducible rfl)
 (try simp only [Act.put, List.setIfInBounds_toArray, List.set_cons_zero, List.set_cons_succ])
 refine tk 6 (oi := ({ dst := some 12, op := .fieldAddr 23 (.tmp 3) 1, type := 0, pos := "rational.go:40", after := #[], guard := none } : Oper)) (v := ?v6_5) ?hy6_5 ?re6_5
 case hy6_5 => ((intro w hSw; have e1 := hSw.1.c0; have e2 := hSw.1.c1; have e3 := hSw.2.c0; have e4 := hSw.2.c1; go_simp) <;> with_reducible rfl)
 (try simp only [Act.put, List.setIfInBounds_toArray, List.set_cons_zero, List.set_cons_succ])
 refine tk 7 (oi := ({ dst := some 13, op := .load 9 (.tmp 12), type := 9, pos := "rational.go:40", after := #[⟨6, .data⟩], guard := none } : Oper)) (v := ?v7_6) ?hy7_6 ?re7_6
 case hy7_6 => ((intro w hSw; have e1 := hSw.1.c0; have e2 := hSw.1.c1; have e3 := hSw.2.c0; have e4 := hSw.2.c1; go_simp) <;> with_reducible rfl)
 (try simp only [Act.put, List.setIfInBounds_toArray, List.set_cons_zero, List.set_cons_succ])
 refine wpAnyH_ready (rs := [2]) (by kernel_rfl) (by simp) ?_
 refine AllReadyH.cons (o := ({ dst := some 8, op := .buildSlice 30 2 #[(0, .tmp 6), (1, .tmp 7)], type := 30, pos := "rational.go:40", after := #[⟨0, .data⟩, ⟨1, .data⟩], guard := none } : Oper)) rfl (fun K hK => ?_) ?_
 ·
  go_simp
  obtain ⟨W1, hW1⟩ : ∃ W, W = ((((w.alloc (.cells #[.string s1, .string s2] 23)).alloc (.cells #[.string s3, .string s4] 23)).alloc (.cells #[.string ⟨#[]⟩, .string ⟨#[]⟩] 23)).alloc (.cells #[.string s1, .string s2, .string s3, .string s4] 23)).drew := ⟨_, rfl⟩
  rw [← hW1]
  have hsz : (((w.alloc (.cells #[.string s1, .string s2] 23)).alloc (.cells #[.string s3, .string s4] 23)).alloc (.cells #[.string ⟨#[]⟩, .string ⟨#[]⟩] 23)).heap.size = w.heap.size + 1 + 1 + 1 := by rw [World.size_alloc, World.size_alloc, World.size_alloc]
  have F4 : Hid (four_cells W1 (w.heap.size + 1 + 1 + 1) s1 s2 s3 s4) := Lib.hid (by rw [hW1, ← hsz]; exact four_cells.new (((w.alloc (.cells #[.string s1, .string s2] 23)).alloc (.cells #[.string s3, .string s4] 23)).alloc (.cells #[.string ⟨#[]⟩, .string ⟨#[]⟩] 23)) s1 s2 s3 s4 23)
  have HXn : Hid (RBlk W1 (w.heap.size + 1 + 1) (.string ⟨#[]⟩) (.string ⟨#[]⟩)) := Lib.hid (by rw [hW1]; exact HX.out.alloc _)
  have HD : Hid (Below w.heap.size w W1) := Lib.hid (by rw [hW1]; exact (HB.out.alloc HB.out.size _).drew)
  have hk1 : RBlk W1 w.heap.size (.string s1) (.string s2) ∧ RBlk W1 (w.heap.size + 1) (.string s3) (.string s4) := by rw [hW1]; exact ⟨HR.out.1.alloc _, HR.out.2.alloc _⟩
  clear HX HB HR hsz hW1
  have HX := HXn
  clear HXn
  refine hK.out _ _ ?_ (fun hHeld => ?_)
  ·
   exact hk1
  clear hK K
  (try simp only [Act.put, List.setIfInBounds_toArray, List.set_cons_zero, List.set_cons_succ])
  clear hk1
  refine wpAnyH_ready (rs := [3]) (by kernel_rfl) (by simp) ?_
  refine AllReadyH.cons (o := ({ dst := some 9, op := .call { callee := .value (.func 67), args := #[.tmp 8], argTypes := #[30] }, type := 85, pos := "rational.go:40", after := #[⟨2, .data⟩], guard := none } : Oper)) rfl (fun K hK => ?_) ?_
  ·
   go_simp
   go_at_call 67
   refine (start_any _ _ _ _).mono ?_
   rintro e W2 ⟨rfl, c2, B⟩
   have HXn := Lib.hid (HX.out.keep B HX.out.lt)
   have HDn := Lib.hid (HD.out.trans (B.mono HD.out.size))
   clear HX HD
   have HX := HXn
   have HD := HDn
   clear HXn HDn
   have F4n := Lib.hid (F4.out.keep B)
   clear F4
   have F4 := F4n
   clear F4n
   have C2 := Lib.hid c2
   clear c2
   (try go_wp2_with fail)
   refine hK.out _ _ ?_ (fun hHeld => ?_)
   ·
    exact ⟨hHeld.1.keep B hHeld.1.lt, hHeld.2.keep B hHeld.2.lt⟩
   clear hK K
   (try simp only [Act.put, List.setIfInBounds_toArray, List.set_cons_zero, List.set_cons_succ])
   clear B
   refine wpAnyH_ready (rs := [8]) (by kernel_rfl) (by simp) ?_
   refine AllReadyH.cons (o := ({ dst := some 14, op := .call { callee := .value (.func 68), args := #[.tmp 11, .tmp 13], argTypes := #[9, 9] }, type := 85, pos := "rational.go:40", after := #[⟨5, .data⟩, ⟨7, .data⟩, ⟨3, .chain⟩], guard := none } : Oper)) rfl (fun K hK => ?_) ?_
   ·
    go_simp
    go_at_call 68
    refine (qtimes_any _ _ _).mono ?_
    rintro e W3 ⟨rfl, c3, B⟩
    have HXn := Lib.hid (HX.out.keep B HX.out.lt)
    have HDn := Lib.hid (HD.out.trans (B.mono HD.out.size))
    clear HX HD
    have HX := HXn
    have HD := HDn
    clear HXn HDn
    have F4n := Lib.hid (F4.out.keep B)
    have C2n := Lib.hid (C2.out.keep B)
    clear F4 C2
    have F4 := F4n
    have C2 := C2n
    clear F4n C2n
    have C3a := Lib.hid c3.1
    have C3b := Lib.hid c3.2
    clear c3
    (try go_wp2_with fail)
    refine hK.out _ _ ?_ (fun hHeld => ?_)
    ·
     exact ⟨hHeld.1.keep B hHeld.1.lt, hHeld.2.keep B hHeld.2.lt⟩
    clear hK K
    (try simp only [Act.put, List.setIfInBounds_toArray, List.set_cons_zero, List.set_cons_succ])
    clear B
    refine wpAnyH_ready (rs := [9]) (by kernel_rfl) (by simp) ?_
    refine AllReadyH.cons (o := ({ dst := some 15, op := .buildSlice 127 3 #[(0, .tmp 9), (1, .tmp 14), (2, .func 70)], type := 127, pos := "rational.go:40", after := #[⟨3, .data⟩, ⟨8, .data⟩], guard := none } : Oper)) rfl (fun K hK => ?_) ?_
    ·
     go_simp
     obtain ⟨WB, hWB⟩ : ∃ W, W = (W3.alloc (.cells #[.func (.func 122) #[] #[.pointer (some ⟨W1.heap.size, 0, none⟩)], .func (.func 123) #[] #[.pointer (some ⟨W2.heap.size, 0, none⟩), .pointer (some ⟨W2.heap.size + 1, 0, none⟩)], .func (.func 70) #[] #[]] 85)) := ⟨_, rfl⟩
     rw [← hWB]
     have BA : Below W3.heap.size W3 WB := by rw [hWB]; exact below_alloc W3 _
     have hgB : W3.heap.size < WB.heap.size := by rw [hWB, World.size_alloc]; omega
     have hr0 : WB.cell? ⟨W3.heap.size, 0, none⟩ = some (.func (.func 122) #[] #[.pointer (some ⟨W1.heap.size, 0, none⟩)]) := by rw [hWB, World.cell?, Go.heap_alloc_new]; rfl
     have hr1 : WB.cell? ⟨W3.heap.size, 1, none⟩ = some (.func (.func 123) #[] #[.pointer (some ⟨W2.heap.size, 0, none⟩), .pointer (some ⟨W2.heap.size + 1, 0, none⟩)]) := by rw [hWB, World.cell?, Go.heap_alloc_new]; rfl
     have hr2 : WB.cell? ⟨W3.heap.size, 2, none⟩ = some (.func (.func 70) #[] #[]) := by rw [hWB, World.cell?, Go.heap_alloc_new]; rfl
     clear hWB
     have HXn := Lib.hid (HX.out.keep BA HX.out.lt)
     have HDn := Lib.hid (HD.out.trans (BA.mono HD.out.size))
     clear HX HD
     have HX := HXn
     have HD := HDn
     clear HXn HDn
     have F4n := Lib.hid (F4.out.keep BA)
     have C2n := Lib.hid (C2.out.keep BA)
     have C3an := Lib.hid (C3a.out.keep BA)
     have C3bn := Lib.hid (C3b.out.keep BA)
     clear F4 C2 C3a C3b
     have F4 := F4n
     have C2 := C2n
     have C3a := C3an
     have C3b := C3bn
     clear F4n C2n C3an C3bn
     refine hK.out _ _ ?_ (fun hHeld => ?_)
     ·
      exact ⟨hHeld.1.keep BA hHeld.1.lt, hHeld.2.keep BA hHeld.2.lt⟩
     clear hK K
     (try simp only [Act.put, List.setIfInBounds_toArray, List.set_cons_zero, List.set_cons_succ])
     clear BA
     refine wpAnyH_ready (rs := [10]) (by kernel_rfl) (by simp) ?_
     refine AllReadyH.cons (o := ({ dst := some 16, op := .call { callee := .value (.func 66), args := #[.tmp 15], argTypes := #[127] }, type := 36, pos := "rational.go:40", after := #[⟨9, .data⟩, ⟨8, .chain⟩], guard := none } : Oper)) rfl (fun K hK => ?_) ?_
     ·
      go_simp
      go_at_call 66
      have hbc := build_any 3 W3.heap.size 3 (fun i => if i = 0 then .func (.func 122) #[] #[.pointer (some ⟨W1.heap.size, 0, none⟩)] else if i = 1 then .func (.func 123) #[] #[.pointer (some ⟨W2.heap.size, 0, none⟩), .pointer (some ⟨W2.heap.size + 1, 0, none⟩)] else .func (.func 70) #[] #[]) M E WB (by decide) (by decide) hgB (fun i hi => by
        rcases (by omega : i = 0 ∨ i = 1 ∨ i = 2) with rfl | rfl | rfl
        ·
         exact hr0
        ·
         exact hr1
        ·
         exact hr2) HS0.out.1 HS0.out.2.1 (fun i hi hE => by
        rcases (by omega : i = 0 ∨ i = 1 ∨ i = 2) with rfl | rfl | rfl
        ·
         exact ⟨122, _, rfl, enters_of Tryz.func122 (by kernel_rfl) rfl, fun W hW => H1.out W _ _ 2 (by omega) (C2.out.keep hW) (F4.out.keep hW)⟩
        ·
         exact ⟨123, _, rfl, enters_of Tryz.func123 (by kernel_rfl) rfl, fun W hW => H2.out hE W _ _ (C3a.out.keep hW) (C3b.out.keep hW)⟩
        ·
         exact ⟨70, _, rfl, enters_of Tryz.func70 (by kernel_rfl) rfl, fun W hW => H4.out hE W⟩) HS0.out.2.2
      refine hbc.mono ?_
      rintro e W9 ⟨rfl, B⟩
      have HXn := Lib.hid (HX.out.keep B HX.out.lt)
      have HDn := Lib.hid (HD.out.trans (B.mono HD.out.size))
      clear HX HD hbc
      have HX := HXn
      have HD := HDn
      clear HXn HDn
      (try go_wp2_with fail)
      refine hK.out _ _ ?_ (fun hHeld => ?_)
      ·
       exact ⟨hHeld.1.keep B hHeld.1.lt, hHeld.2.keep B hHeld.2.lt⟩
      clear hK K
      (try simp only [Act.put, List.setIfInBounds_toArray, List.set_cons_zero, List.set_cons_succ])
      clear B
      refine tk 11 (oi := ({ dst := some 17, op := .extract (.tmp 16) 0, type := 23, pos := "rational.go:40", after := #[⟨10, .data⟩], guard := none } : Oper)) (v := ?v11_7) ?hy11_7 ?re11_7
      case hy11_7 => ((intro w hSw; have e1 := hSw.1.c0; have e2 := hSw.1.c1; have e3 := hSw.2.c0; have e4 := hSw.2.c1; go_simp) <;> with_reducible rfl)
      (try simp only [Act.put, List.setIfInBounds_toArray, List.set_cons_zero, List.set_cons_succ])
      refine tk 12 (oi := ({ dst := some 18, op := .extract (.tmp 16) 1, type := 32, pos := "rational.go:40", after := #[⟨10, .data⟩], guard := none } : Oper)) (v := ?v12_8) ?hy12_8 ?re12_8
      case hy12_8 => ((intro w hSw; have e1 := hSw.1.c0; have e2 := hSw.1.c1; have e3 := hSw.2.c0; have e4 := hSw.2.c1; go_simp) <;> with_reducible rfl)
      (try simp only [Act.put, List.setIfInBounds_toArray, List.set_cons_zero, List.set_cons_succ])
      refine wpAnyH_ready (rs := [13]) (by kernel_rfl) (by simp) ?_
      refine AllReadyH.cons (o := ({ dst := none, op := .store 23 (.tmp 4) (.tmp 17), type := 0, pos := "rational.go:40", after := #[⟨11, .data⟩, ⟨10, .chain⟩, ⟨0, .phase⟩, ⟨1, .phase⟩, ⟨2, .phase⟩, ⟨3, .phase⟩, ⟨4, .phase⟩, ⟨5, .phase⟩, ⟨6, .phase⟩, ⟨7, .phase⟩, ⟨8, .phase⟩, ⟨9, .phase⟩, ⟨10, .phase⟩, ⟨11, .phase⟩, ⟨12, .phase⟩], guard := none } : Oper)) rfl (fun K hK => ?_) ?_
      ·
       have c0 := HX.out.c0
       have c1 := HX.out.c1
       have f0 := HX.out.f 0
       have f1 := HX.out.f 1
       have hs := HX.out.s0 (.string (M 3).1)
       have d1 := hs.c1
       have g1 := hs.f 1
       have HS := Lib.hid (hs.s1 (.string (M 3).2))
       have HBS := Lib.hid ((HD.out.setCell (p := ⟨w.heap.size + 1 + 1, 0, none⟩) (by show w.heap.size ≤ w.heap.size + 1 + 1; omega) (.string (M 3).1)).setCell (p := ⟨w.heap.size + 1 + 1, 1, none⟩) (by show w.heap.size ≤ w.heap.size + 1 + 1; omega) (.string (M 3).2))
       clear hs
       go_simp
       refine hK.out _ _ ?_ (fun hHeld => ?_)
       ·
        exact ⟨(hHeld.1.keep ((Below.refl (w.heap.size + 1 + 1) _).setCell (p := ⟨w.heap.size + 1 + 1, 0, none⟩) (Nat.le_refl _) (.string (M 3).1)) (by omega)).keep ((Below.refl (w.heap.size + 1 + 1) _).setCell (p := ⟨w.heap.size + 1 + 1, 1, none⟩) (Nat.le_refl _) (.string (M 3).2)) (by omega), (hHeld.2.keep ((Below.refl (w.heap.size + 1 + 1) _).setCell (p := ⟨w.heap.size + 1 + 1, 0, none⟩) (Nat.le_refl _) (.string (M 3).1)) (by omega)).keep ((Below.refl (w.heap.size + 1 + 1) _).setCell (p := ⟨w.heap.size + 1 + 1, 1, none⟩) (Nat.le_refl _) (.string (M 3).2)) (by omega)⟩
       clear hK K
       (try simp only [Act.put, List.setIfInBounds_toArray, List.set_cons_zero, List.set_cons_succ])
       refine tk 14 (oi := ({ dst := some 5, op := .assign (.tmp 18), type := 32, pos := "rational.go:40", after := #[⟨12, .data⟩, ⟨13, .chain⟩, ⟨0, .phase⟩, ⟨1, .phase⟩, ⟨2, .phase⟩, ⟨3, .phase⟩, ⟨4, .phase⟩, ⟨5, .phase⟩, ⟨6, .phase⟩, ⟨7, .phase⟩, ⟨8, .phase⟩, ⟨9, .phase⟩, ⟨10, .phase⟩, ⟨11, .phase⟩, ⟨12, .phase⟩, ⟨13, .phase⟩], guard := none } : Oper)) (v := ?v14_9) ?hy14_9 ?re14_9
       case hy14_9 => ((intro w hSw; have e1 := hSw.1.c0; have e2 := hSw.1.c1; have e3 := hSw.2.c0; have e4 := hSw.2.c1; go_simp) <;> with_reducible rfl)
       (try simp only [Act.put, List.setIfInBounds_toArray, List.set_cons_zero, List.set_cons_succ])
       refine wpAnyH_done (by kernel_rfl) ?_ _
       refine NoPanic.normal ?_
       go_wp2_with fail
       refine bodyPost_ret (results_ratio rfl _ _ (w.heap.size + 1 + 1) _ _ rfl HS.out) rfl ?_
       exact ⟨rfl, HBS.out⟩
      exact AllReadyH.nil
     exact AllReadyH.nil
    exact AllReadyH.nil
   exact AllReadyH.nil
  exact AllReadyH.nil
 exact AllReadyH.nil
set_option maxRecDepth 100000 in
set_option maxHeartbeats 8000000 in
theorem qDiv_walk (s1 s2 s3 s4 : ByteArray) (M : Nat → ByteArray × ByteArray) (E : Nat → Int) (w : World) (hM : M 0 = (⟨#[]⟩, ⟨#[]⟩)) (hE : E 0 = 0) (hsk : ∀ i, i < 3 → E i ≠ 0 → M (i + 1) = M i ∧ E (i + 1) = E i)
  (h1 : ∀ W p g cap, 2 ≤ cap → CS W p (.slice (some ⟨g, 0, none⟩) 2 cap) → four_cells W g s1 s2 s3 s4 → StepOK 122 #[.pointer (some ⟨p, 0, none⟩)] (M 0) (M 1) (E 1) W)
  (h2 : E 1 = 0 → ∀ W p q, CS W p (.string s4) → CS W q (.string s3) → StepOK 123 #[.pointer (some ⟨p, 0, none⟩), .pointer (some ⟨q, 0, none⟩)] (M 1) (M 2) (E 2) W)
  (h4 : E 2 = 0 → ∀ W, StepOK 70 #[] (M 2) (M 3) (E 3) W) :
  Calls Tryz.prog 47 #[.agg #[.string s1, .string s2], .agg #[.string s3, .string s4]] w fun e w' => e = .returned (.tuple #[.agg #[.string (M 3).1, .string (M 3).2], .int .i64 (E 3)]) ∧ Below w.heap.size w w' := by
 obtain ⟨r1, r2, r3⟩ := three_ratios w (.string s1) (.string s2) (.string s3) (.string s4) (.string ⟨#[]⟩) (.string ⟨#[]⟩)
 have hb0 := (((below_alloc w (.cells #[.string s1, .string s2] 23)).alloc (by rw [World.size_alloc]; omega) (.cells #[.string s3, .string s4] 23)).alloc (by rw [World.size_alloc, World.size_alloc]; omega) (.cells #[.string ⟨#[]⟩, .string ⟨#[]⟩] 23))
 have HR := Lib.hid (And.intro r1 r2)
 have HX := Lib.hid r3
 have HB := Lib.hid hb0
 have H1 := Lib.hid h1
 have H2 := Lib.hid h2
 have H4 := Lib.hid h4
 have HS0 := Lib.hid (And.intro hM (And.intro hE hsk))
 clear r1 r2 r3 hb0 h1 h2 h4 hM hE hsk
 go_enter Tryz.func47, Tryz.ntmps47
 go_upto_region 1 with fail
 refine wp_region_noPanic ?_
 refine wp_region_held_drew (S := fun W => RBlk W w.heap.size (.string s1) (.string s2) ∧ RBlk W (w.heap.size + 1) (.string s3) (.string s4)) (by kernel_rfl) ?_ (fun hHeld => ?_)
 ·
  exact HR.out
 refine tk 0 (oi := ({ dst := some 6, op := .load 23 (.tmp 2), type := 23, pos := "rational.go:45", after := #[], guard := none } : Oper)) (v := ?v0_1) ?hy0_1 ?re0_1
 case hy0_1 => ((intro w hSw; have e1 := hSw.1.c0; have e2 := hSw.1.c1; have e3 := hSw.2.c0; have e4 := hSw.2.c1; go_simp) <;> with_reducible rfl)
 (try simp only [Act.put, List.setIfInBounds_toArray, List.set_cons_zero, List.set_cons_succ])
 refine tk 1 (oi := ({ dst := some 7, op := .load 23 (.tmp 3), type := 23, pos := "rational.go:45", after := #[], guard := none } : Oper)) (v := ?v1_2) ?hy1_2 ?re1_2
 case hy1_2 => ((intro w hSw; have e1 := hSw.1.c0; have e2 := hSw.1.c1; have e3 := hSw.2.c0; have e4 := hSw.2.c1; go_simp) <;> with_reducible rfl)
 (try simp only [Act.put, List.setIfInBounds_toArray, List.set_cons_zero, List.set_cons_succ])
 refine tk 4 (oi := ({ dst := some 10, op := .fieldAddr 23 (.tmp 3) 1, type := 0, pos := "rational.go:45", after := #[], guard := none } : Oper)) (v := ?v4_3) ?hy4_3 ?re4_3
 case hy4_3 => ((intro w hSw; have e1 := hSw.1.c0; have e2 := hSw.1.c1; have e3 := hSw.2.c0; have e4 := hSw.2.c1; go_simp) <;> with_reducible rfl)
 (try simp only [Act.put, List.setIfInBounds_toArray, List.set_cons_zero, List.set_cons_succ])
 refine tk 5 (oi := ({ dst := some 11, op := .load 9 (.tmp 10), type := 9, pos := "rational.go:45", after := #[⟨4, .data⟩], guard := none } : Oper)) (v := ?v5_4) ?hy5_4 ?re5_4
 case hy5_4 => ((intro w hSw; have e1 := hSw.1.c0; have e2 := hSw.1.c1; have e3 := hSw.2.c0; have e4 := hSw.2.c1; go_simp) <;> with_reducible rfl)
 (try simp only [Act.put, List.setIfInBounds_toArray, List.set_cons_zero, List.set_cons_succ])
 refine tk 6 (oi := ({ dst := some 12, op := .fieldAddr 23 (.tmp 3) 0, type := 0, pos := "rational.go:45", after := #[], guard := none } : Oper)) (v := ?v6_5) ?hy6_5 ?re6_5
 case hy6_5 => ((intro w hSw; have e1 := hSw.1.c0; have e2 := hSw.1.c1; have e3 := hSw.2.c0; have e4 := hSw.2.c1; go_simp) <;> with_reducible rfl)
 (try simp only [Act.put, List.setIfInBounds_toArray, List.set_cons_zero, List.set_cons_succ])
 refine tk 7 (oi := ({ dst := some 13, op := .load 9 (.tmp 12), type := 9, pos := "rational.go:45", after := #[⟨6, .data⟩], guard := none } : Oper)) (v := ?v7_6) ?hy7_6 ?re7_6
 case hy7_6 => ((intro w hSw; have e1 := hSw.1.c0; have e2 := hSw.1.c1; have e3 := hSw.2.c0; have e4 := hSw.2.c1; go_simp) <;> with_reducible rfl)
 (try simp only [Act.put, List.setIfInBounds_toArray, List.set_cons_zero, List.set_cons_succ])
 refine wpAnyH_ready (rs := [2]) (by kernel_rfl) (by simp) ?_
 refine AllReadyH.cons (o := ({ dst := some 8, op := .buildSlice 30 2 #[(0, .tmp 6), (1, .tmp 7)], type := 30, pos := "rational.go:45", after := #[⟨0, .data⟩, ⟨1, .data⟩], guard := none } : Oper)) rfl (fun K hK => ?_) ?_
 ·
  go_simp
  obtain ⟨W1, hW1⟩ : ∃ W, W = ((((w.alloc (.cells #[.string s1, .string s2] 23)).alloc (.cells #[.string s3, .string s4] 23)).alloc (.cells #[.string ⟨#[]⟩, .string ⟨#[]⟩] 23)).alloc (.cells #[.string s1, .string s2, .string s3, .string s4] 23)).drew := ⟨_, rfl⟩
  rw [← hW1]
  have hsz : (((w.alloc (.cells #[.string s1, .string s2] 23)).alloc (.cells #[.string s3, .string s4] 23)).alloc (.cells #[.string ⟨#[]⟩, .string ⟨#[]⟩] 23)).heap.size = w.heap.size + 1 + 1 + 1 := by rw [World.size_alloc, World.size_alloc, World.size_alloc]
  have F4 : Hid (four_cells W1 (w.heap.size + 1 + 1 + 1) s1 s2 s3 s4) := Lib.hid (by rw [hW1, ← hsz]; exact four_cells.new (((w.alloc (.cells #[.string s1, .string s2] 23)).alloc (.cells #[.string s3, .string s4] 23)).alloc (.cells #[.string ⟨#[]⟩, .string ⟨#[]⟩] 23)) s1 s2 s3 s4 23)
  have HXn : Hid (RBlk W1 (w.heap.size + 1 + 1) (.string ⟨#[]⟩) (.string ⟨#[]⟩)) := Lib.hid (by rw [hW1]; exact HX.out.alloc _)
  have HD : Hid (Below w.heap.size w W1) := Lib.hid (by rw [hW1]; exact (HB.out.alloc HB.out.size _).drew)
  have hk1 : RBlk W1 w.heap.size (.string s1) (.string s2) ∧ RBlk W1 (w.heap.size + 1) (.string s3) (.string s4) := by rw [hW1]; exact ⟨HR.out.1.alloc _, HR.out.2.alloc _⟩
  clear HX HB HR hsz hW1
  have HX := HXn
  clear HXn
  refine hK.out _ _ ?_ (fun hHeld => ?_)
  ·
   exact hk1
  clear hK K
  (try simp only [Act.put, List.setIfInBounds_toArray, List.set_cons_zero, List.set_cons_succ])
  clear hk1
  refine wpAnyH_ready (rs := [3]) (by kernel_rfl) (by simp) ?_
  refine AllReadyH.cons (o := ({ dst := some 9, op := .call { callee := .value (.func 67), args := #[.tmp 8], argTypes := #[30] }, type := 85, pos := "rational.go:45", after := #[⟨2, .data⟩], guard := none } : Oper)) rfl (fun K hK => ?_) ?_
  ·
   go_simp
   go_at_call 67
   refine (start_any _ _ _ _).mono ?_
   rintro e W2 ⟨rfl, c2, B⟩
   have HXn := Lib.hid (HX.out.keep B HX.out.lt)
   have HDn := Lib.hid (HD.out.trans (B.mono HD.out.size))
   clear HX HD
   have HX := HXn
   have HD := HDn
   clear HXn HDn
   have F4n := Lib.hid (F4.out.keep B)
   clear F4
   have F4 := F4n
   clear F4n
   have C2 := Lib.hid c2
   clear c2
   (try go_wp2_with fail)
   refine hK.out _ _ ?_ (fun hHeld => ?_)
   ·
    exact ⟨hHeld.1.keep B hHeld.1.lt, hHeld.2.keep B hHeld.2.lt⟩
   clear hK K
   (try simp only [Act.put, List.setIfInBounds_toArray, List.set_cons_zero, List.set_cons_succ])
   clear B
   refine wpAnyH_ready (rs := [8]) (by kernel_rfl) (by simp) ?_
   refine AllReadyH.cons (o := ({ dst := some 14, op := .call { callee := .value (.func 68), args := #[.tmp 11, .tmp 13], argTypes := #[9, 9] }, type := 85, pos := "rational.go:45", after := #[⟨5, .data⟩, ⟨7, .data⟩, ⟨3, .chain⟩], guard := none } : Oper)) rfl (fun K hK => ?_) ?_
   ·
    go_simp
    go_at_call 68
    refine (qtimes_any _ _ _).mono ?_
    rintro e W3 ⟨rfl, c3, B⟩
    have HXn := Lib.hid (HX.out.keep B HX.out.lt)
    have HDn := Lib.hid (HD.out.trans (B.mono HD.out.size))
    clear HX HD
    have HX := HXn
    have HD := HDn
    clear HXn HDn
    have F4n := Lib.hid (F4.out.keep B)
    have C2n := Lib.hid (C2.out.keep B)
    clear F4 C2
    have F4 := F4n
    have C2 := C2n
    clear F4n C2n
    have C3a := Lib.hid c3.1
    have C3b := Lib.hid c3.2
    clear c3
    (try go_wp2_with fail)
    refine hK.out _ _ ?_ (fun hHeld => ?_)
    ·
     exact ⟨hHeld.1.keep B hHeld.1.lt, hHeld.2.keep B hHeld.2.lt⟩
    clear hK K
    (try simp only [Act.put, List.setIfInBounds_toArray, List.set_cons_zero, List.set_cons_succ])
    clear B
    refine wpAnyH_ready (rs := [9]) (by kernel_rfl) (by simp) ?_
    refine AllReadyH.cons (o := ({ dst := some 15, op := .buildSlice 127 3 #[(0, .tmp 9), (1, .tmp 14), (2, .func 70)], type := 127, pos := "rational.go:45", after := #[⟨3, .data⟩, ⟨8, .data⟩], guard := none } : Oper)) rfl (fun K hK => ?_) ?_
    ·
     go_simp
     obtain ⟨WB, hWB⟩ : ∃ W, W = (W3.alloc (.cells #[.func (.func 122) #[] #[.pointer (some ⟨W1.heap.size, 0, none⟩)], .func (.func 123) #[] #[.pointer (some ⟨W2.heap.size, 0, none⟩), .pointer (some ⟨W2.heap.size + 1, 0, none⟩)], .func (.func 70) #[] #[]] 85)) := ⟨_, rfl⟩
     rw [← hWB]
     have BA : Below W3.heap.size W3 WB := by rw [hWB]; exact below_alloc W3 _
     have hgB : W3.heap.size < WB.heap.size := by rw [hWB, World.size_alloc]; omega
     have hr0 : WB.cell? ⟨W3.heap.size, 0, none⟩ = some (.func (.func 122) #[] #[.pointer (some ⟨W1.heap.size, 0, none⟩)]) := by rw [hWB, World.cell?, Go.heap_alloc_new]; rfl
     have hr1 : WB.cell? ⟨W3.heap.size, 1, none⟩ = some (.func (.func 123) #[] #[.pointer (some ⟨W2.heap.size, 0, none⟩), .pointer (some ⟨W2.heap.size + 1, 0, none⟩)]) := by rw [hWB, World.cell?, Go.heap_alloc_new]; rfl
     have hr2 : WB.cell? ⟨W3.heap.size, 2, none⟩ = some (.func (.func 70) #[] #[]) := by rw [hWB, World.cell?, Go.heap_alloc_new]; rfl
     clear hWB
     have HXn := Lib.hid (HX.out.keep BA HX.out.lt)
     have HDn := Lib.hid (HD.out.trans (BA.mono HD.out.size))
     clear HX HD
     have HX := HXn
     have HD := HDn
     clear HXn HDn
     have F4n := Lib.hid (F4.out.keep BA)
     have C2n := Lib.hid (C2.out.keep BA)
     have C3an := Lib.hid (C3a.out.keep BA)
     have C3bn := Lib.hid (C3b.out.keep BA)
     clear F4 C2 C3a C3b
     have F4 := F4n
     have C2 := C2n
     have C3a := C3an
     have C3b := C3bn
     clear F4n C2n C3an C3bn
     refine hK.out _ _ ?_ (fun hHeld => ?_)
     ·
      exact ⟨hHeld.1.keep BA hHeld.1.lt, hHeld.2.keep BA hHeld.2.lt⟩
     clear hK K
     (try simp only [Act.put, List.setIfInBounds_toArray, List.set_cons_zero, List.set_cons_succ])
     clear BA
     refine wpAnyH_ready (rs := [10]) (by kernel_rfl) (by simp) ?_
     refine AllReadyH.cons (o := ({ dst := some 16, op := .call { callee := .value (.func 66), args := #[.tmp 15], argTypes := #[127] }, type := 36, pos := "rational.go:45", after := #[⟨9, .data⟩, ⟨8, .chain⟩], guard := none } : Oper)) rfl (fun K hK => ?_) ?_
     ·
      go_simp
      go_at_call 66
      have hbc := build_any 3 W3.heap.size 3 (fun i => if i = 0 then .func (.func 122) #[] #[.pointer (some ⟨W1.heap.size, 0, none⟩)] else if i = 1 then .func (.func 123) #[] #[.pointer (some ⟨W2.heap.size, 0, none⟩), .pointer (some ⟨W2.heap.size + 1, 0, none⟩)] else .func (.func 70) #[] #[]) M E WB (by decide) (by decide) hgB (fun i hi => by
        rcases (by omega : i = 0 ∨ i = 1 ∨ i = 2) with rfl | rfl | rfl
        ·
         exact hr0
        ·
         exact hr1
        ·
         exact hr2) HS0.out.1 HS0.out.2.1 (fun i hi hE => by
        rcases (by omega : i = 0 ∨ i = 1 ∨ i = 2) with rfl | rfl | rfl
        ·
         exact ⟨122, _, rfl, enters_of Tryz.func122 (by kernel_rfl) rfl, fun W hW => H1.out W _ _ 2 (by omega) (C2.out.keep hW) (F4.out.keep hW)⟩
        ·
         exact ⟨123, _, rfl, enters_of Tryz.func123 (by kernel_rfl) rfl, fun W hW => H2.out hE W _ _ (C3a.out.keep hW) (C3b.out.keep hW)⟩
        ·
         exact ⟨70, _, rfl, enters_of Tryz.func70 (by kernel_rfl) rfl, fun W hW => H4.out hE W⟩) HS0.out.2.2
      refine hbc.mono ?_
      rintro e W9 ⟨rfl, B⟩
      have HXn := Lib.hid (HX.out.keep B HX.out.lt)
      have HDn := Lib.hid (HD.out.trans (B.mono HD.out.size))
      clear HX HD hbc
      have HX := HXn
      have HD := HDn
      clear HXn HDn
      (try go_wp2_with fail)
      refine hK.out _ _ ?_ (fun hHeld => ?_)
      ·
       exact ⟨hHeld.1.keep B hHeld.1.lt, hHeld.2.keep B hHeld.2.lt⟩
      clear hK K
      (try simp only [Act.put, List.setIfInBounds_toArray, List.set_cons_zero, List.set_cons_succ])
      clear B
      refine tk 11 (oi := ({ dst := some 17, op := .extract (.tmp 16) 0, type := 23, pos := "rational.go:45", after := #[⟨10, .data⟩], guard := none } : Oper)) (v := ?v11_7) ?hy11_7 ?re11_7
      case hy11_7 => ((intro w hSw; have e1 := hSw.1.c0; have e2 := hSw.1.c1; have e3 := hSw.2.c0; have e4 := hSw.2.c1; go_simp) <;> with_reducible rfl)
      (try simp only [Act.put, List.setIfInBounds_toArray, List.set_cons_zero, List.set_cons_succ])
      refine tk 12 (oi := ({ dst := some 18, op := .extract (.tmp 16) 1, type := 32, pos := "rational.go:45", after := #[⟨10, .data⟩], guard := none } : Oper)) (v := ?v12_8) ?hy12_8 ?re12_8
      case hy12_8 => ((intro w hSw; have e1 := hSw.1.c0; have e2 := hSw.1.c1; have e3 := hSw.2.c0; have e4 := hSw.2.c1; go_simp) <;> with_reducible rfl)
      (try simp only [Act.put, List.setIfInBounds_toArray, List.set_cons_zero, List.set_cons_succ])
      refine wpAnyH_ready (rs := [13]) (by kernel_rfl) (by simp) ?_
      refine AllReadyH.cons (o := ({ dst := none, op := .store 23 (.tmp 4) (.tmp 17), type := 0, pos := "rational.go:45", after := #[⟨11, .data⟩, ⟨10, .chain⟩, ⟨0, .phase⟩, ⟨1, .phase⟩, ⟨2, .phase⟩, ⟨3, .phase⟩, ⟨4, .phase⟩, ⟨5, .phase⟩, ⟨6, .phase⟩, ⟨7, .phase⟩, ⟨8, .phase⟩, ⟨9, .phase⟩, ⟨10, .phase⟩, ⟨11, .phase⟩, ⟨12, .phase⟩], guard := none } : Oper)) rfl (fun K hK => ?_) ?_
      ·
       have c0 := HX.out.c0
       have c1 := HX.out.c1
       have f0 := HX.out.f 0
       have f1 := HX.out.f 1
       have hs := HX.out.s0 (.string (M 3).1)
       have d1 := hs.c1
       have g1 := hs.f 1
       have HS := Lib.hid (hs.s1 (.string (M 3).2))
       have HBS := Lib.hid ((HD.out.setCell (p := ⟨w.heap.size + 1 + 1, 0, none⟩) (by show w.heap.size ≤ w.heap.size + 1 + 1; omega) (.string (M 3).1)).setCell (p := ⟨w.heap.size + 1 + 1, 1, none⟩) (by show w.heap.size ≤ w.heap.size + 1 + 1; omega) (.string (M 3).2))
       clear hs
       go_simp
       refine hK.out _ _ ?_ (fun hHeld => ?_)
       ·
        exact ⟨(hHeld.1.keep ((Below.refl (w.heap.size + 1 + 1) _).setCell (p := ⟨w.heap.size + 1 + 1, 0, none⟩) (Nat.le_refl _) (.string (M 3).1)) (by omega)).keep ((Below.refl (w.heap.size + 1 + 1) _).setCell (p := ⟨w.heap.size + 1 + 1, 1, none⟩) (Nat.le_refl _) (.string (M 3).2)) (by omega), (hHeld.2.keep ((Below.refl (w.heap.size + 1 + 1) _).setCell (p := ⟨w.heap.size + 1 + 1, 0, none⟩) (Nat.le_refl _) (.string (M 3).1)) (by omega)).keep ((Below.refl (w.heap.size + 1 + 1) _).setCell (p := ⟨w.heap.size + 1 + 1, 1, none⟩) (Nat.le_refl _) (.string (M 3).2)) (by omega)⟩
       clear hK K
       (try simp only [Act.put, List.setIfInBounds_toArray, List.set_cons_zero, List.set_cons_succ])
       refine tk 14 (oi := ({ dst := some 5, op := .assign (.tmp 18), type := 32, pos := "rational.go:45", after := #[⟨12, .data⟩, ⟨13, .chain⟩, ⟨0, .phase⟩, ⟨1, .phase⟩, ⟨2, .phase⟩, ⟨3, .phase⟩, ⟨4, .phase⟩, ⟨5, .phase⟩, ⟨6, .phase⟩, ⟨7, .phase⟩, ⟨8, .phase⟩, ⟨9, .phase⟩, ⟨10, .phase⟩, ⟨11, .phase⟩, ⟨12, .phase⟩, ⟨13, .phase⟩], guard := none } : Oper)) (v := ?v14_9) ?hy14_9 ?re14_9
       case hy14_9 => ((intro w hSw; have e1 := hSw.1.c0; have e2 := hSw.1.c1; have e3 := hSw.2.c0; have e4 := hSw.2.c1; go_simp) <;> with_reducible rfl)
       (try simp only [Act.put, List.setIfInBounds_toArray, List.set_cons_zero, List.set_cons_succ])
       refine wpAnyH_done (by kernel_rfl) ?_ _
       refine NoPanic.normal ?_
       go_wp2_with fail
       refine bodyPost_ret (results_ratio rfl _ _ (w.heap.size + 1 + 1) _ _ rfl HS.out) rfl ?_
       exact ⟨rfl, HBS.out⟩
      exact AllReadyH.nil
     exact AllReadyH.nil
    exact AllReadyH.nil
   exact AllReadyH.nil
  exact AllReadyH.nil
 exact AllReadyH.nil
theorem mul_rs (x y : Int) (hx : x.natAbs < 10 ^ 200) (hy : y.natAbs < 10 ^ 200) (W : World) :
  Calls Tryz.prog 124 #[.string (S x), .string (S y)] W fun e w' => e = .returned (.tuple #[.string ⟨(rs (x * y)).toArray⟩, .int .i64 (er (x * y))]) ∧ Below W.heap.size W w' := by
 have h := Mul_any (S x) (S y) (txt x) (txt y) W (S_list x) (S_list y) (S_len hx) (S_len hy)
 rw [txt_vld hx, txt_vld hy, Bool.and_true, txt_num, txt_num, res, ree, if_pos rfl, if_pos rfl] at h
 exact h
theorem add_rs (x y : Int) (hx : x.natAbs < 10 ^ 200) (hy : y.natAbs < 10 ^ 200) (W : World) :
  Calls Tryz.prog 81 #[.string (S x), .string (S y)] W fun e w' => e = .returned (.tuple #[.string ⟨(rs (x + y)).toArray⟩, .int .i64 (er (x + y))]) ∧ Below W.heap.size W w' := by
 have h := Add_any (S x) (S y) (txt x) (txt y) W (S_list x) (S_list y) (S_len hx) (S_len hy)
 rw [txt_vld hx, txt_vld hy, Bool.and_true, txt_num, txt_num, res, ree, if_pos rfl, if_pos rfl] at h
 exact h
theorem sub_rs (x y : Int) (hx : x.natAbs < 10 ^ 200) (hy : y.natAbs < 10 ^ 200) (W : World) :
  Calls Tryz.prog 82 #[.string (S x), .string (S y)] W fun e w' => e = .returned (.tuple #[.string ⟨(rs (x - y)).toArray⟩, .int .i64 (er (x - y))]) ∧ Below W.heap.size W w' := by
 have h := Sub_any (S x) (S y) (txt x) (txt y) W (S_list x) (S_list y) (S_len hx) (S_len hy)
 rw [txt_vld hx, txt_vld hy, Bool.and_true, txt_num, txt_num, res, ree, if_pos rfl, if_pos rfl] at h
 exact h
theorem add_no (x : Int) (hx : x.natAbs < 10 ^ 200) (W : World) :
  Calls Tryz.prog 81 #[.string (S x), .string ⟨#[]⟩] W fun e w' => e = .returned (.tuple #[.string ⟨#[]⟩, .int .i64 30]) ∧ Below W.heap.size W w' := by
 have h := Add_any (S x) ⟨#[]⟩ (txt x) [] W (S_list x) rfl (S_len hx) (by decide)
 rw [show vld [] = false by decide, Bool.and_false, res_f, ree_f] at h
 exact h
theorem sub_no (x : Int) (hx : x.natAbs < 10 ^ 200) (W : World) :
  Calls Tryz.prog 82 #[.string (S x), .string ⟨#[]⟩] W fun e w' => e = .returned (.tuple #[.string ⟨#[]⟩, .int .i64 30]) ∧ Below W.heap.size W w' := by
 have h := Sub_any (S x) ⟨#[]⟩ (txt x) [] W (S_list x) rfl (S_len hx) (by decide)
 rw [show vld [] = false by decide, Bool.and_false, res_f, ree_f] at h
 exact h
theorem er_f {z : Int} (h : fits z = true) : er z = 0 := by rw [er, if_pos (of_decide_eq_true h)]
theorem er_n {z : Int} (h : fits z = false) : er z = 30 := by rw [er, if_neg (of_decide_eq_false h)]
theorem rs_f {z : Int} (h : fits z = true) : (⟨(rs z).toArray⟩ : ByteArray) = S z := rs_S (of_decide_eq_true h)
theorem rs_n {z : Int} (h : fits z = false) : (⟨(rs z).toArray⟩ : ByteArray) = ⟨#[]⟩ := by rw [rs, if_neg (of_decide_eq_false h)]
theorem er_two (z : Int) : er z = 0 ∨ er z = 30 := (er_or z).imp And.left And.left
theorem den_abs (q : Rat) {k : Nat} (h : fitR k q) : ((q.den : Int)).natAbs < 10 ^ k := by rw [Int.natAbs_natCast]; exact h.2
theorem start2 (s1 s2 s3 s4 : ByteArray) (L1 L2 L3 L4 : List UInt8) (hL1 : s1.data.toList = L1) (hL2 : s2.data.toList = L2) (hL3 : s3.data.toList = L3) (hL4 : s4.data.toList = L4) (hl1 : L1.length ≤ 60000) (hl2 : L2.length ≤ 60000) (hl3 : L3.length ≤ 60000) (hl4 : L4.length ≤ 60000)
  (W : World) (p g cap : Nat) (m : ByteArray × ByteArray) (hc : 2 ≤ cap) (hp : CS W p (.slice (some ⟨g, 0, none⟩) 2 cap)) (hf : four_cells W g s1 s2 s3 s4) :
  StepOK 122 #[.pointer (some ⟨p, 0, none⟩)] m (if (vR L1 L2 && vR L3 L4) = true then s1 else ⟨#[]⟩, if (vR L1 L2 && vR L3 L4) = true then s2 else ⟨#[]⟩) (if (vR L1 L2 && vR L3 L4) = true then 0 else 40) W := by
 have h := start1_any m.1 m.2 p g 2 cap (fun i => if i = 0 then s1 else s3) (fun i => if i = 0 then s2 else s4) (fun i => if i = 0 then L1 else L3) (fun i => if i = 0 then L2 else L4) W (by decide) (by decide) hc hp hf.1
  (fun i hi => by
   rcases (by omega : i = 0 ∨ i = 1) with rfl | rfl
   ·
    exact ⟨hf.2.1, hf.2.2.1⟩
   ·
    exact ⟨hf.2.2.2.1, hf.2.2.2.2⟩)
  (fun i hi => by
   rcases (by omega : i = 0 ∨ i = 1) with rfl | rfl
   ·
    exact ⟨hL1, hL2, hl1, hl2⟩
   ·
    exact ⟨hL3, hL4, hl3, hl4⟩)
  (vR L1 L2 && vR L3 L4) (by
   rw [Bool.and_eq_true]
   constructor
   ·
    intro h i hi
    rcases (by omega : i = 0 ∨ i = 1) with rfl | rfl
    ·
     exact h.1
    ·
     exact h.2
   ·
    intro h; exact ⟨h 0 (by decide), h 1 (by decide)⟩)
 exact h
theorem start_R (a b : Rat) (ha : fitR 200 a) (hb : fitR 200 b) (W : World) (p g cap : Nat) (m : ByteArray × ByteArray) (hc : 2 ≤ cap) (hp : CS W p (.slice (some ⟨g, 0, none⟩) 2 cap)) (hf : four_cells W g (S a.num) (S a.den) (S b.num) (S b.den)) :
  StepOK 122 #[.pointer (some ⟨p, 0, none⟩)] m (S a.num, S a.den) 0 W := by
 have h := start2 _ _ _ _ _ _ _ _ (S_list a.num) (S_list a.den) (S_list b.num) (S_list b.den) (S_len ha.1) (S_len (den_abs a ha)) (S_len hb.1) (S_len (den_abs b hb)) W p g cap m hc hp hf
 rw [vR_q a ha, vR_q b hb, Bool.and_true, if_pos rfl, if_pos rfl, if_pos rfl] at h
 exact h
theorem reduced_R (n d : Int) (hn : n.natAbs < 10 ^ 200) (hd : d.natAbs < 10 ^ 200) (h0 : d ≠ 0) (W : World) : StepOK 70 #[] (S n, S d) (S (Rat.divInt n d).num, S ((Rat.divInt n d).den : Int)) 0 W := by
 have h := reduced_S n d W hn hd h0
 rw [fr_R _ _ (sg_pos h0), sg_R] at h
 exact h
theorem reduced_Z (n : Int) (hn : n.natAbs < 10 ^ 200) (W : World) : StepOK 70 #[] (S n, S 0) (⟨#[]⟩, ⟨#[]⟩) 40 W :=
 reduced_no (S n) (S 0) (txt n) (txt 0) W (S_list n) (S_list 0) (S_len hn) (S_len (by decide)) (fun _ => txt_num 0)
theorem qAdd_no (s1 s2 s3 s4 : ByteArray) (L1 L2 L3 L4 : List UInt8) (w : World) (hL1 : s1.data.toList = L1) (hL2 : s2.data.toList = L2) (hL3 : s3.data.toList = L3) (hL4 : s4.data.toList = L4) (hl1 : L1.length ≤ 60000) (hl2 : L2.length ≤ 60000) (hl3 : L3.length ≤ 60000) (hl4 : L4.length ≤ 60000) (hv : (vR L1 L2 && vR L3 L4) = false) :
  Calls Tryz.prog 38 #[.agg #[.string s1, .string s2], .agg #[.string s3, .string s4]] w fun e w' => e = .returned (.tuple #[RZ, .int .i64 40]) ∧ Below w.heap.size w w' :=
 qAdd_walk s1 s2 s3 s4 (fun i => match i with | 0 => (⟨#[]⟩, ⟨#[]⟩) | _ => (⟨#[]⟩, ⟨#[]⟩)) (fun i => match i with | 0 => 0 | _ => 40) w rfl rfl (fun i hi h => by
   rcases (by omega : i = 0 ∨ i = 1 ∨ i = 2 ∨ i = 3) with rfl | rfl | rfl | rfl <;> first | exact absurd rfl h | exact ⟨rfl, rfl⟩)
  (fun W p g cap hc hp hf => by
   have h := start2 s1 s2 s3 s4 L1 L2 L3 L4 hL1 hL2 hL3 hL4 hl1 hl2 hl3 hl4 W p g cap (⟨#[]⟩, ⟨#[]⟩) hc hp hf
   rw [hv, if_neg (by decide), if_neg (by decide), if_neg (by decide)] at h
   exact h) (fun h => absurd (show (40 : Int) = 0 from h) (by decide)) (fun h => absurd (show (40 : Int) = 0 from h) (by decide)) (fun h => absurd (show (40 : Int) = 0 from h) (by decide))
set_option maxHeartbeats 1000000 in
theorem qAdd_R (a b : Rat) (ha : fitR 200 a) (hb : fitR 200 b) (w : World) :
  Calls Tryz.prog 38 #[RV a, RV b] w fun e w' => e = .returned (opQ (okA a b) (a + b)) ∧ Below w.heap.size w w' := by
 have hA := den_abs a ha
 have hB := den_abs b hb
 have ht : ∀ W p q, CS W p (.string (S (b.den : Int))) → CS W q (.string (S (b.den : Int))) → _ := fun W p q cp cq => times1_any (S a.num) (S (a.den : Int)) (S (b.den : Int)) (S (b.den : Int)) _ _ _ _ (er_two (a.num * b.den)) (er_two (a.den * b.den)) p q W cp cq (mul_rs a.num b.den ha.1 hB) (mul_rs a.den b.den hA hB)
 rw [okA]
 cases hx : fits (a.num * b.den)
 ·
  have h := qAdd_walk (S a.num) (S (a.den : Int)) (S b.num) (S (b.den : Int)) (fun i => match i with | 0 => (⟨#[]⟩, ⟨#[]⟩) | 1 => (S a.num, S (a.den : Int)) | _ => (⟨#[]⟩, ⟨#[]⟩)) (fun i => match i with | 0 => 0 | 1 => 0 | _ => 40) w rfl rfl (fun i hi h => by
   rcases (by omega : i = 0 ∨ i = 1 ∨ i = 2 ∨ i = 3) with rfl | rfl | rfl | rfl <;> first | exact absurd rfl h | exact ⟨rfl, rfl⟩)
   (fun W p g cap hc hp hf => start_R a b ha hb W p g cap _ hc hp hf)
   (fun _ W p q cp cq => by
    have h := ht W p q cp cq
    rw [er_n hx, if_neg (by omega), if_neg (by omega), if_neg (by omega)] at h
    exact h) (fun h => absurd (show (40 : Int) = 0 from h) (by decide)) (fun h => absurd (show (40 : Int) = 0 from h) (by decide))
  rw [Bool.false_and, Bool.false_and, Bool.false_and]; exact h
 ·
  cases hd : fits (a.den * b.den)
  ·
   have h := qAdd_walk (S a.num) (S (a.den : Int)) (S b.num) (S (b.den : Int)) (fun i => match i with | 0 => (⟨#[]⟩, ⟨#[]⟩) | 1 => (S a.num, S (a.den : Int)) | _ => (⟨#[]⟩, ⟨#[]⟩)) (fun i => match i with | 0 => 0 | 1 => 0 | _ => 40) w rfl rfl (fun i hi h => by
   rcases (by omega : i = 0 ∨ i = 1 ∨ i = 2 ∨ i = 3) with rfl | rfl | rfl | rfl <;> first | exact absurd rfl h | exact ⟨rfl, rfl⟩)
    (fun W p g cap hc hp hf => start_R a b ha hb W p g cap _ hc hp hf)
    (fun _ W p q cp cq => by
     have h := ht W p q cp cq
     rw [er_n hd, if_neg (by omega), if_neg (by omega), if_neg (by omega)] at h
     exact h) (fun h => absurd (show (40 : Int) = 0 from h) (by decide)) (fun h => absurd (show (40 : Int) = 0 from h) (by decide))
   rw [Bool.and_false, Bool.false_and]; exact h
  ·
   have h2 : ∀ W p q, CS W p (.string (S (b.den : Int))) → CS W q (.string (S (b.den : Int))) → StepOK 123 #[.pointer (some ⟨p, 0, none⟩), .pointer (some ⟨q, 0, none⟩)] (S a.num, S (a.den : Int)) (S (a.num * b.den), S ((a.den * b.den) : Int)) 0 W := fun W p q cp cq => by
    have h := ht W p q cp cq
    rw [er_f hx, er_f hd, if_pos ⟨rfl, rfl⟩, if_pos ⟨rfl, rfl⟩, if_pos ⟨rfl, rfl⟩, rs_f hx, rs_f hd] at h
    exact h
   have px := of_decide_eq_true hx
   have pd := of_decide_eq_true hd
   have hen : ∀ args W, (callFunc 81 args).run Tryz.prog W = .ok (.enter 81 args) W := enters_of Tryz.func81 (by kernel_rfl) rfl
   cases hz : fits (b.num * a.den)
   ·
    have h3 : ∀ W p q r, CS W p (.string (S b.num)) → CS W q (.string (S (a.den : Int))) → CS W r (.func (.func 81) #[] #[]) → StepOK 131 #[.pointer (some ⟨p, 0, none⟩), .pointer (some ⟨q, 0, none⟩), .pointer (some ⟨r, 0, none⟩)] (S (a.num * b.den), S ((a.den * b.den) : Int)) (⟨#[]⟩, ⟨#[]⟩) 40 W := fun W p q r cp cq cr => by
     have h := combine2_any (S (a.num * b.den)) (S ((a.den * b.den) : Int)) (S b.num) (S (a.den : Int)) _ ⟨#[]⟩ 81 _ 30 (er_two (b.num * a.den)) (.inr rfl) p q r W cp cq cr hen (mul_rs b.num a.den hb.1 hA) (by rw [rs_n hz]; exact add_no _ px)
     rw [er_n hz, if_neg (by omega), if_neg (by omega), if_neg (by omega)] at h
     exact h
    have h := qAdd_walk (S a.num) (S (a.den : Int)) (S b.num) (S (b.den : Int)) (fun i => match i with | 0 => (⟨#[]⟩, ⟨#[]⟩) | 1 => (S a.num, S (a.den : Int)) | 2 => (S (a.num * b.den), S ((a.den * b.den) : Int)) | _ => (⟨#[]⟩, ⟨#[]⟩)) (fun i => match i with | 0 => 0 | 1 => 0 | 2 => 0 | _ => 40) w rfl rfl (fun i hi h => by
   rcases (by omega : i = 0 ∨ i = 1 ∨ i = 2 ∨ i = 3) with rfl | rfl | rfl | rfl <;> first | exact absurd rfl h | exact ⟨rfl, rfl⟩)
     (fun W p g cap hc hp hf => start_R a b ha hb W p g cap _ hc hp hf) (fun _ => h2) (fun _ => h3) (fun h => absurd (show (40 : Int) = 0 from h) (by decide))
    rw [Bool.and_false, Bool.false_and, Bool.false_and]; exact h
   ·
    have pz := of_decide_eq_true hz
    have hc : ∀ W p q r, CS W p (.string (S b.num)) → CS W q (.string (S (a.den : Int))) → CS W r (.func (.func 81) #[] #[]) → _ := fun W p q r cp cq cr =>
     combine2_any (S (a.num * b.den)) (S ((a.den * b.den) : Int)) (S b.num) (S (a.den : Int)) _ _ 81 _ _ (er_two (b.num * a.den)) (er_two ((a.num * b.den) + (b.num * a.den))) p q r W cp cq cr hen (mul_rs b.num a.den hb.1 hA) (by rw [rs_f hz]; exact add_rs _ _ px pz)
    cases hs : fits ((a.num * b.den) + (b.num * a.den))
    ·
     have h := qAdd_walk (S a.num) (S (a.den : Int)) (S b.num) (S (b.den : Int)) (fun i => match i with | 0 => (⟨#[]⟩, ⟨#[]⟩) | 1 => (S a.num, S (a.den : Int)) | 2 => (S (a.num * b.den), S ((a.den * b.den) : Int)) | _ => (⟨#[]⟩, ⟨#[]⟩)) (fun i => match i with | 0 => 0 | 1 => 0 | 2 => 0 | _ => 40) w rfl rfl (fun i hi h => by
   rcases (by omega : i = 0 ∨ i = 1 ∨ i = 2 ∨ i = 3) with rfl | rfl | rfl | rfl <;> first | exact absurd rfl h | exact ⟨rfl, rfl⟩)
      (fun W p g cap hc hp hf => start_R a b ha hb W p g cap _ hc hp hf) (fun _ => h2) (fun _ W p q r cp cq cr => by
       have h := hc W p q r cp cq cr
       rw [er_n hs, if_neg (by omega), if_neg (by omega), if_neg (by omega)] at h
       exact h) (fun h => absurd (show (40 : Int) = 0 from h) (by decide))
     rw [Bool.and_false]; exact h
    ·
     have ps := of_decide_eq_true hs
     have d0 : ((a.den * b.den) : Int) ≠ 0 := by have := Int.mul_pos (den_pos a) (den_pos b); omega
     have h := qAdd_walk (S a.num) (S (a.den : Int)) (S b.num) (S (b.den : Int)) (fun i => match i with | 0 => (⟨#[]⟩, ⟨#[]⟩) | 1 => (S a.num, S (a.den : Int)) | 2 => (S (a.num * b.den), S ((a.den * b.den) : Int)) | 3 => (S ((a.num * b.den) + (b.num * a.den)), S ((a.den * b.den) : Int)) | _ => (S (Rat.divInt ((a.num * b.den) + (b.num * a.den)) (a.den * b.den)).num, S ((Rat.divInt ((a.num * b.den) + (b.num * a.den)) (a.den * b.den)).den : Int))) (fun i => match i with | 0 => 0 | _ => 0) w rfl rfl (fun i hi h => by
   rcases (by omega : i = 0 ∨ i = 1 ∨ i = 2 ∨ i = 3) with rfl | rfl | rfl | rfl <;> first | exact absurd rfl h | exact ⟨rfl, rfl⟩)
      (fun W p g cap hc hp hf => start_R a b ha hb W p g cap _ hc hp hf) (fun _ => h2) (fun _ W p q r cp cq cr => by
       have h := hc W p q r cp cq cr
       rw [er_f hs, er_f hz, if_pos ⟨rfl, rfl⟩, if_pos ⟨rfl, rfl⟩, if_pos ⟨rfl, rfl⟩, rs_f hs] at h
       exact h) (fun _ W => reduced_R _ _ ps pd d0 W)
     have e : a + b = Rat.divInt ((a.num * b.den) + (b.num * a.den)) (a.den * b.den) := by rw [Rat.add_def', ← Rat.divInt_ofNat, Int.natCast_mul]
     rw [e]; exact h
theorem qSub_no (s1 s2 s3 s4 : ByteArray) (L1 L2 L3 L4 : List UInt8) (w : World) (hL1 : s1.data.toList = L1) (hL2 : s2.data.toList = L2) (hL3 : s3.data.toList = L3) (hL4 : s4.data.toList = L4) (hl1 : L1.length ≤ 60000) (hl2 : L2.length ≤ 60000) (hl3 : L3.length ≤ 60000) (hl4 : L4.length ≤ 60000) (hv : (vR L1 L2 && vR L3 L4) = false) :
  Calls Tryz.prog 40 #[.agg #[.string s1, .string s2], .agg #[.string s3, .string s4]] w fun e w' => e = .returned (.tuple #[RZ, .int .i64 40]) ∧ Below w.heap.size w w' :=
 qSub_walk s1 s2 s3 s4 (fun i => match i with | 0 => (⟨#[]⟩, ⟨#[]⟩) | _ => (⟨#[]⟩, ⟨#[]⟩)) (fun i => match i with | 0 => 0 | _ => 40) w rfl rfl (fun i hi h => by
   rcases (by omega : i = 0 ∨ i = 1 ∨ i = 2 ∨ i = 3) with rfl | rfl | rfl | rfl <;> first | exact absurd rfl h | exact ⟨rfl, rfl⟩)
  (fun W p g cap hc hp hf => by
   have h := start2 s1 s2 s3 s4 L1 L2 L3 L4 hL1 hL2 hL3 hL4 hl1 hl2 hl3 hl4 W p g cap (⟨#[]⟩, ⟨#[]⟩) hc hp hf
   rw [hv, if_neg (by decide), if_neg (by decide), if_neg (by decide)] at h
   exact h) (fun h => absurd (show (40 : Int) = 0 from h) (by decide)) (fun h => absurd (show (40 : Int) = 0 from h) (by decide)) (fun h => absurd (show (40 : Int) = 0 from h) (by decide))
set_option maxHeartbeats 1000000 in
theorem qSub_R (a b : Rat) (ha : fitR 200 a) (hb : fitR 200 b) (w : World) :
  Calls Tryz.prog 40 #[RV a, RV b] w fun e w' => e = .returned (opQ (okS a b) (a - b)) ∧ Below w.heap.size w w' := by
 have hA := den_abs a ha
 have hB := den_abs b hb
 have ht : ∀ W p q, CS W p (.string (S (b.den : Int))) → CS W q (.string (S (b.den : Int))) → _ := fun W p q cp cq => times1_any (S a.num) (S (a.den : Int)) (S (b.den : Int)) (S (b.den : Int)) _ _ _ _ (er_two (a.num * b.den)) (er_two (a.den * b.den)) p q W cp cq (mul_rs a.num b.den ha.1 hB) (mul_rs a.den b.den hA hB)
 rw [okS]
 cases hx : fits (a.num * b.den)
 ·
  have h := qSub_walk (S a.num) (S (a.den : Int)) (S b.num) (S (b.den : Int)) (fun i => match i with | 0 => (⟨#[]⟩, ⟨#[]⟩) | 1 => (S a.num, S (a.den : Int)) | _ => (⟨#[]⟩, ⟨#[]⟩)) (fun i => match i with | 0 => 0 | 1 => 0 | _ => 40) w rfl rfl (fun i hi h => by
   rcases (by omega : i = 0 ∨ i = 1 ∨ i = 2 ∨ i = 3) with rfl | rfl | rfl | rfl <;> first | exact absurd rfl h | exact ⟨rfl, rfl⟩)
   (fun W p g cap hc hp hf => start_R a b ha hb W p g cap _ hc hp hf)
   (fun _ W p q cp cq => by
    have h := ht W p q cp cq
    rw [er_n hx, if_neg (by omega), if_neg (by omega), if_neg (by omega)] at h
    exact h) (fun h => absurd (show (40 : Int) = 0 from h) (by decide)) (fun h => absurd (show (40 : Int) = 0 from h) (by decide))
  rw [Bool.false_and, Bool.false_and, Bool.false_and]; exact h
 ·
  cases hd : fits (a.den * b.den)
  ·
   have h := qSub_walk (S a.num) (S (a.den : Int)) (S b.num) (S (b.den : Int)) (fun i => match i with | 0 => (⟨#[]⟩, ⟨#[]⟩) | 1 => (S a.num, S (a.den : Int)) | _ => (⟨#[]⟩, ⟨#[]⟩)) (fun i => match i with | 0 => 0 | 1 => 0 | _ => 40) w rfl rfl (fun i hi h => by
   rcases (by omega : i = 0 ∨ i = 1 ∨ i = 2 ∨ i = 3) with rfl | rfl | rfl | rfl <;> first | exact absurd rfl h | exact ⟨rfl, rfl⟩)
    (fun W p g cap hc hp hf => start_R a b ha hb W p g cap _ hc hp hf)
    (fun _ W p q cp cq => by
     have h := ht W p q cp cq
     rw [er_n hd, if_neg (by omega), if_neg (by omega), if_neg (by omega)] at h
     exact h) (fun h => absurd (show (40 : Int) = 0 from h) (by decide)) (fun h => absurd (show (40 : Int) = 0 from h) (by decide))
   rw [Bool.and_false, Bool.false_and]; exact h
  ·
   have h2 : ∀ W p q, CS W p (.string (S (b.den : Int))) → CS W q (.string (S (b.den : Int))) → StepOK 123 #[.pointer (some ⟨p, 0, none⟩), .pointer (some ⟨q, 0, none⟩)] (S a.num, S (a.den : Int)) (S (a.num * b.den), S ((a.den * b.den) : Int)) 0 W := fun W p q cp cq => by
    have h := ht W p q cp cq
    rw [er_f hx, er_f hd, if_pos ⟨rfl, rfl⟩, if_pos ⟨rfl, rfl⟩, if_pos ⟨rfl, rfl⟩, rs_f hx, rs_f hd] at h
    exact h
   have px := of_decide_eq_true hx
   have pd := of_decide_eq_true hd
   have hen : ∀ args W, (callFunc 82 args).run Tryz.prog W = .ok (.enter 82 args) W := enters_of Tryz.func82 (by kernel_rfl) rfl
   cases hz : fits (b.num * a.den)
   ·
    have h3 : ∀ W p q r, CS W p (.string (S b.num)) → CS W q (.string (S (a.den : Int))) → CS W r (.func (.func 82) #[] #[]) → StepOK 131 #[.pointer (some ⟨p, 0, none⟩), .pointer (some ⟨q, 0, none⟩), .pointer (some ⟨r, 0, none⟩)] (S (a.num * b.den), S ((a.den * b.den) : Int)) (⟨#[]⟩, ⟨#[]⟩) 40 W := fun W p q r cp cq cr => by
     have h := combine2_any (S (a.num * b.den)) (S ((a.den * b.den) : Int)) (S b.num) (S (a.den : Int)) _ ⟨#[]⟩ 82 _ 30 (er_two (b.num * a.den)) (.inr rfl) p q r W cp cq cr hen (mul_rs b.num a.den hb.1 hA) (by rw [rs_n hz]; exact sub_no _ px)
     rw [er_n hz, if_neg (by omega), if_neg (by omega), if_neg (by omega)] at h
     exact h
    have h := qSub_walk (S a.num) (S (a.den : Int)) (S b.num) (S (b.den : Int)) (fun i => match i with | 0 => (⟨#[]⟩, ⟨#[]⟩) | 1 => (S a.num, S (a.den : Int)) | 2 => (S (a.num * b.den), S ((a.den * b.den) : Int)) | _ => (⟨#[]⟩, ⟨#[]⟩)) (fun i => match i with | 0 => 0 | 1 => 0 | 2 => 0 | _ => 40) w rfl rfl (fun i hi h => by
   rcases (by omega : i = 0 ∨ i = 1 ∨ i = 2 ∨ i = 3) with rfl | rfl | rfl | rfl <;> first | exact absurd rfl h | exact ⟨rfl, rfl⟩)
     (fun W p g cap hc hp hf => start_R a b ha hb W p g cap _ hc hp hf) (fun _ => h2) (fun _ => h3) (fun h => absurd (show (40 : Int) = 0 from h) (by decide))
    rw [Bool.and_false, Bool.false_and, Bool.false_and]; exact h
   ·
    have pz := of_decide_eq_true hz
    have hc : ∀ W p q r, CS W p (.string (S b.num)) → CS W q (.string (S (a.den : Int))) → CS W r (.func (.func 82) #[] #[]) → _ := fun W p q r cp cq cr =>
     combine2_any (S (a.num * b.den)) (S ((a.den * b.den) : Int)) (S b.num) (S (a.den : Int)) _ _ 82 _ _ (er_two (b.num * a.den)) (er_two ((a.num * b.den) - (b.num * a.den))) p q r W cp cq cr hen (mul_rs b.num a.den hb.1 hA) (by rw [rs_f hz]; exact sub_rs _ _ px pz)
    cases hs : fits ((a.num * b.den) - (b.num * a.den))
    ·
     have h := qSub_walk (S a.num) (S (a.den : Int)) (S b.num) (S (b.den : Int)) (fun i => match i with | 0 => (⟨#[]⟩, ⟨#[]⟩) | 1 => (S a.num, S (a.den : Int)) | 2 => (S (a.num * b.den), S ((a.den * b.den) : Int)) | _ => (⟨#[]⟩, ⟨#[]⟩)) (fun i => match i with | 0 => 0 | 1 => 0 | 2 => 0 | _ => 40) w rfl rfl (fun i hi h => by
   rcases (by omega : i = 0 ∨ i = 1 ∨ i = 2 ∨ i = 3) with rfl | rfl | rfl | rfl <;> first | exact absurd rfl h | exact ⟨rfl, rfl⟩)
      (fun W p g cap hc hp hf => start_R a b ha hb W p g cap _ hc hp hf) (fun _ => h2) (fun _ W p q r cp cq cr => by
       have h := hc W p q r cp cq cr
       rw [er_n hs, if_neg (by omega), if_neg (by omega), if_neg (by omega)] at h
       exact h) (fun h => absurd (show (40 : Int) = 0 from h) (by decide))
     rw [Bool.and_false]; exact h
    ·
     have ps := of_decide_eq_true hs
     have d0 : ((a.den * b.den) : Int) ≠ 0 := by have := Int.mul_pos (den_pos a) (den_pos b); omega
     have h := qSub_walk (S a.num) (S (a.den : Int)) (S b.num) (S (b.den : Int)) (fun i => match i with | 0 => (⟨#[]⟩, ⟨#[]⟩) | 1 => (S a.num, S (a.den : Int)) | 2 => (S (a.num * b.den), S ((a.den * b.den) : Int)) | 3 => (S ((a.num * b.den) - (b.num * a.den)), S ((a.den * b.den) : Int)) | _ => (S (Rat.divInt ((a.num * b.den) - (b.num * a.den)) (a.den * b.den)).num, S ((Rat.divInt ((a.num * b.den) - (b.num * a.den)) (a.den * b.den)).den : Int))) (fun i => match i with | 0 => 0 | _ => 0) w rfl rfl (fun i hi h => by
   rcases (by omega : i = 0 ∨ i = 1 ∨ i = 2 ∨ i = 3) with rfl | rfl | rfl | rfl <;> first | exact absurd rfl h | exact ⟨rfl, rfl⟩)
      (fun W p g cap hc hp hf => start_R a b ha hb W p g cap _ hc hp hf) (fun _ => h2) (fun _ W p q r cp cq cr => by
       have h := hc W p q r cp cq cr
       rw [er_f hs, er_f hz, if_pos ⟨rfl, rfl⟩, if_pos ⟨rfl, rfl⟩, if_pos ⟨rfl, rfl⟩, rs_f hs] at h
       exact h) (fun _ W => reduced_R _ _ ps pd d0 W)
     have e : a - b = Rat.divInt ((a.num * b.den) - (b.num * a.den)) (a.den * b.den) := by rw [Rat.sub_def', ← Rat.divInt_ofNat, Int.natCast_mul]
     rw [e]; exact h
theorem qMul_no (s1 s2 s3 s4 : ByteArray) (L1 L2 L3 L4 : List UInt8) (w : World) (hL1 : s1.data.toList = L1) (hL2 : s2.data.toList = L2) (hL3 : s3.data.toList = L3) (hL4 : s4.data.toList = L4) (hl1 : L1.length ≤ 60000) (hl2 : L2.length ≤ 60000) (hl3 : L3.length ≤ 60000) (hl4 : L4.length ≤ 60000) (hv : (vR L1 L2 && vR L3 L4) = false) :
  Calls Tryz.prog 39 #[.agg #[.string s1, .string s2], .agg #[.string s3, .string s4]] w fun e w' => e = .returned (.tuple #[RZ, .int .i64 40]) ∧ Below w.heap.size w w' :=
 qMul_walk s1 s2 s3 s4 (fun i => match i with | 0 => (⟨#[]⟩, ⟨#[]⟩) | _ => (⟨#[]⟩, ⟨#[]⟩)) (fun i => match i with | 0 => 0 | _ => 40) w rfl rfl (fun i hi h => by
   rcases (by omega : i = 0 ∨ i = 1 ∨ i = 2) with rfl | rfl | rfl <;> first | exact absurd rfl h | exact ⟨rfl, rfl⟩)
  (fun W p g cap hc hp hf => by
   have h := start2 s1 s2 s3 s4 L1 L2 L3 L4 hL1 hL2 hL3 hL4 hl1 hl2 hl3 hl4 W p g cap (⟨#[]⟩, ⟨#[]⟩) hc hp hf
   rw [hv, if_neg (by decide), if_neg (by decide), if_neg (by decide)] at h
   exact h) (fun h => absurd (show (40 : Int) = 0 from h) (by decide)) (fun h => absurd (show (40 : Int) = 0 from h) (by decide))
set_option maxHeartbeats 1000000 in
theorem qMul_R (a b : Rat) (ha : fitR 200 a) (hb : fitR 200 b) (w : World) :
  Calls Tryz.prog 39 #[RV a, RV b] w fun e w' => e = .returned (opQ (okM a b) (a * b)) ∧ Below w.heap.size w w' := by
 have hA := den_abs a ha
 have hB := den_abs b hb
 have ht : ∀ W p q, CS W p (.string (S b.num)) → CS W q (.string (S (b.den : Int))) → _ := fun W p q cp cq => times1_any (S a.num) (S (a.den : Int)) (S b.num) (S (b.den : Int)) _ _ _ _ (er_two (a.num * b.num)) (er_two (a.den * b.den)) p q W cp cq (mul_rs a.num b.num ha.1 hb.1) (mul_rs a.den (b.den : Int) hA hB)
 rw [okM]
 cases hx : fits (a.num * b.num)
 ·
  have h := qMul_walk (S a.num) (S (a.den : Int)) (S b.num) (S (b.den : Int)) (fun i => match i with | 0 => (⟨#[]⟩, ⟨#[]⟩) | 1 => (S a.num, S (a.den : Int)) | _ => (⟨#[]⟩, ⟨#[]⟩)) (fun i => match i with | 0 => 0 | 1 => 0 | _ => 40) w rfl rfl (fun i hi h => by
   rcases (by omega : i = 0 ∨ i = 1 ∨ i = 2) with rfl | rfl | rfl <;> first | exact absurd rfl h | exact ⟨rfl, rfl⟩)
   (fun W p g cap hc hp hf => start_R a b ha hb W p g cap _ hc hp hf)
   (fun _ W p q cp cq => by
    have h := ht W p q cp cq
    rw [er_n hx, if_neg (by omega), if_neg (by omega), if_neg (by omega)] at h
    exact h) (fun h => absurd (show (40 : Int) = 0 from h) (by decide))
  rw [Bool.false_and]; exact h
 ·
  cases hd : fits (a.den * b.den)
  ·
   have h := qMul_walk (S a.num) (S (a.den : Int)) (S b.num) (S (b.den : Int)) (fun i => match i with | 0 => (⟨#[]⟩, ⟨#[]⟩) | 1 => (S a.num, S (a.den : Int)) | _ => (⟨#[]⟩, ⟨#[]⟩)) (fun i => match i with | 0 => 0 | 1 => 0 | _ => 40) w rfl rfl (fun i hi h => by
   rcases (by omega : i = 0 ∨ i = 1 ∨ i = 2) with rfl | rfl | rfl <;> first | exact absurd rfl h | exact ⟨rfl, rfl⟩)
    (fun W p g cap hc hp hf => start_R a b ha hb W p g cap _ hc hp hf)
    (fun _ W p q cp cq => by
     have h := ht W p q cp cq
     rw [er_n hd, if_neg (by omega), if_neg (by omega), if_neg (by omega)] at h
     exact h) (fun h => absurd (show (40 : Int) = 0 from h) (by decide))
   rw [Bool.and_false]; exact h
  ·
   have h2 : ∀ W p q, CS W p (.string (S b.num)) → CS W q (.string (S (b.den : Int))) → StepOK 123 #[.pointer (some ⟨p, 0, none⟩), .pointer (some ⟨q, 0, none⟩)] (S a.num, S (a.den : Int)) (S (a.num * b.num), S ((a.den * b.den) : Int)) 0 W := fun W p q cp cq => by
    have h := ht W p q cp cq
    rw [er_f hx, er_f hd, if_pos ⟨rfl, rfl⟩, if_pos ⟨rfl, rfl⟩, if_pos ⟨rfl, rfl⟩, rs_f hx, rs_f hd] at h
    exact h
   have px := of_decide_eq_true hx
   have pd := of_decide_eq_true hd
   have d0 : ((a.den * b.den) : Int) ≠ 0 := by have := Int.mul_pos (den_pos a) (den_pos b); omega
   have h := qMul_walk (S a.num) (S (a.den : Int)) (S b.num) (S (b.den : Int)) (fun i => match i with | 0 => (⟨#[]⟩, ⟨#[]⟩) | 1 => (S a.num, S (a.den : Int)) | 2 => (S (a.num * b.num), S ((a.den * b.den) : Int)) | _ => (S (Rat.divInt (a.num * b.num) (a.den * b.den)).num, S ((Rat.divInt (a.num * b.num) (a.den * b.den)).den : Int))) (fun i => match i with | 0 => 0 | _ => 0) w rfl rfl (fun i hi h => by
   rcases (by omega : i = 0 ∨ i = 1 ∨ i = 2) with rfl | rfl | rfl <;> first | exact absurd rfl h | exact ⟨rfl, rfl⟩)
     (fun W p g cap hc hp hf => start_R a b ha hb W p g cap _ hc hp hf) (fun _ => h2) (fun _ W => reduced_R _ _ px pd d0 W)
   have e : a * b = Rat.divInt (a.num * b.num) (a.den * b.den) := by rw [Rat.mul_def', ← Rat.divInt_ofNat, Int.natCast_mul]
   rw [e]; exact h
theorem qDiv_no (s1 s2 s3 s4 : ByteArray) (L1 L2 L3 L4 : List UInt8) (w : World) (hL1 : s1.data.toList = L1) (hL2 : s2.data.toList = L2) (hL3 : s3.data.toList = L3) (hL4 : s4.data.toList = L4) (hl1 : L1.length ≤ 60000) (hl2 : L2.length ≤ 60000) (hl3 : L3.length ≤ 60000) (hl4 : L4.length ≤ 60000) (hv : (vR L1 L2 && vR L3 L4) = false) :
  Calls Tryz.prog 47 #[.agg #[.string s1, .string s2], .agg #[.string s3, .string s4]] w fun e w' => e = .returned (.tuple #[RZ, .int .i64 40]) ∧ Below w.heap.size w w' :=
 qDiv_walk s1 s2 s3 s4 (fun i => match i with | 0 => (⟨#[]⟩, ⟨#[]⟩) | _ => (⟨#[]⟩, ⟨#[]⟩)) (fun i => match i with | 0 => 0 | _ => 40) w rfl rfl (fun i hi h => by
   rcases (by omega : i = 0 ∨ i = 1 ∨ i = 2) with rfl | rfl | rfl <;> first | exact absurd rfl h | exact ⟨rfl, rfl⟩)
  (fun W p g cap hc hp hf => by
   have h := start2 s1 s2 s3 s4 L1 L2 L3 L4 hL1 hL2 hL3 hL4 hl1 hl2 hl3 hl4 W p g cap (⟨#[]⟩, ⟨#[]⟩) hc hp hf
   rw [hv, if_neg (by decide), if_neg (by decide), if_neg (by decide)] at h
   exact h) (fun h => absurd (show (40 : Int) = 0 from h) (by decide)) (fun h => absurd (show (40 : Int) = 0 from h) (by decide))
set_option maxHeartbeats 1000000 in
theorem qDiv_R (a b : Rat) (ha : fitR 200 a) (hb : fitR 200 b) (w : World) :
  Calls Tryz.prog 47 #[RV a, RV b] w fun e w' => e = .returned (opQ (okD a b) (a / b)) ∧ Below w.heap.size w w' := by
 have hA := den_abs a ha
 have hB := den_abs b hb
 have ht : ∀ W p q, CS W p (.string (S (b.den : Int))) → CS W q (.string (S b.num)) → _ := fun W p q cp cq => times1_any (S a.num) (S (a.den : Int)) (S (b.den : Int)) (S b.num) _ _ _ _ (er_two (a.num * b.den)) (er_two (a.den * b.num)) p q W cp cq (mul_rs a.num (b.den : Int) ha.1 hB) (mul_rs a.den b.num hA hb.1)
 rw [okD]
 cases hx : fits (a.num * b.den)
 ·
  have h := qDiv_walk (S a.num) (S (a.den : Int)) (S b.num) (S (b.den : Int)) (fun i => match i with | 0 => (⟨#[]⟩, ⟨#[]⟩) | 1 => (S a.num, S (a.den : Int)) | _ => (⟨#[]⟩, ⟨#[]⟩)) (fun i => match i with | 0 => 0 | 1 => 0 | _ => 40) w rfl rfl (fun i hi h => by
   rcases (by omega : i = 0 ∨ i = 1 ∨ i = 2) with rfl | rfl | rfl <;> first | exact absurd rfl h | exact ⟨rfl, rfl⟩)
   (fun W p g cap hc hp hf => start_R a b ha hb W p g cap _ hc hp hf)
   (fun _ W p q cp cq => by
    have h := ht W p q cp cq
    rw [er_n hx, if_neg (by omega), if_neg (by omega), if_neg (by omega)] at h
    exact h) (fun h => absurd (show (40 : Int) = 0 from h) (by decide))
  rw [Bool.false_and, Bool.false_and]; exact h
 ·
  cases hd : fits (a.den * b.num)
  ·
   have h := qDiv_walk (S a.num) (S (a.den : Int)) (S b.num) (S (b.den : Int)) (fun i => match i with | 0 => (⟨#[]⟩, ⟨#[]⟩) | 1 => (S a.num, S (a.den : Int)) | _ => (⟨#[]⟩, ⟨#[]⟩)) (fun i => match i with | 0 => 0 | 1 => 0 | _ => 40) w rfl rfl (fun i hi h => by
   rcases (by omega : i = 0 ∨ i = 1 ∨ i = 2) with rfl | rfl | rfl <;> first | exact absurd rfl h | exact ⟨rfl, rfl⟩)
    (fun W p g cap hc hp hf => start_R a b ha hb W p g cap _ hc hp hf)
    (fun _ W p q cp cq => by
     have h := ht W p q cp cq
     rw [er_n hd, if_neg (by omega), if_neg (by omega), if_neg (by omega)] at h
     exact h) (fun h => absurd (show (40 : Int) = 0 from h) (by decide))
   rw [Bool.and_false, Bool.false_and]; exact h
  ·
   have h2 : ∀ W p q, CS W p (.string (S (b.den : Int))) → CS W q (.string (S b.num)) → StepOK 123 #[.pointer (some ⟨p, 0, none⟩), .pointer (some ⟨q, 0, none⟩)] (S a.num, S (a.den : Int)) (S (a.num * b.den), S ((a.den * b.num) : Int)) 0 W := fun W p q cp cq => by
    have h := ht W p q cp cq
    rw [er_f hx, er_f hd, if_pos ⟨rfl, rfl⟩, if_pos ⟨rfl, rfl⟩, if_pos ⟨rfl, rfl⟩, rs_f hx, rs_f hd] at h
    exact h
   have px := of_decide_eq_true hx
   have pd := of_decide_eq_true hd
   by_cases h0 : b.num = 0
   ·
    have h := qDiv_walk (S a.num) (S (a.den : Int)) (S b.num) (S (b.den : Int)) (fun i => match i with | 0 => (⟨#[]⟩, ⟨#[]⟩) | 1 => (S a.num, S (a.den : Int)) | 2 => (S (a.num * b.den), S ((a.den * b.num) : Int)) | _ => (⟨#[]⟩, ⟨#[]⟩)) (fun i => match i with | 0 => 0 | 1 => 0 | 2 => 0 | _ => 40) w rfl rfl (fun i hi h => by
   rcases (by omega : i = 0 ∨ i = 1 ∨ i = 2) with rfl | rfl | rfl <;> first | exact absurd rfl h | exact ⟨rfl, rfl⟩)
     (fun W p g cap hc hp hf => start_R a b ha hb W p g cap _ hc hp hf) (fun _ => h2) (fun _ W => by
      have h := reduced_Z _ px W
      rw [show (0 : Int) = (a.den * b.num) by rw [h0, Int.mul_zero]] at h
      exact h)
    rw [decide_eq_false (fun e => e h0), Bool.and_false]; exact h
   ·
    have d0 : ((a.den * b.num) : Int) ≠ 0 := Int.mul_ne_zero (by have := den_pos a; omega) h0
    have h := qDiv_walk (S a.num) (S (a.den : Int)) (S b.num) (S (b.den : Int)) (fun i => match i with | 0 => (⟨#[]⟩, ⟨#[]⟩) | 1 => (S a.num, S (a.den : Int)) | 2 => (S (a.num * b.den), S ((a.den * b.num) : Int)) | _ => (S (Rat.divInt (a.num * b.den) (a.den * b.num)).num, S ((Rat.divInt (a.num * b.den) (a.den * b.num)).den : Int))) (fun i => match i with | 0 => 0 | _ => 0) w rfl rfl (fun i hi h => by
   rcases (by omega : i = 0 ∨ i = 1 ∨ i = 2) with rfl | rfl | rfl <;> first | exact absurd rfl h | exact ⟨rfl, rfl⟩)
     (fun W p g cap hc hp hf => start_R a b ha hb W p g cap _ hc hp hf) (fun _ => h2) (fun _ W => reduced_R _ _ px pd d0 W)
    rw [decide_eq_true h0, div_R a b]; exact h
end Go.Proofs.YtdnbhgkbfbgnaaaGreatDoor
namespace Go.Proofs.YtdnbhgkbfbgnaaaGreatDoor
open Go.Shelf
def Tryz.laysRepeat_ren : Go.Shelf.Ren := ⟨fun | 105 => 121 | 212 => 157 | 99 => 158 | 165 => 159 | 166 => 160 | 170 => 161 | 169 => 162 | 263 => 181 | 264 => 182 | 206 => 183 | 240 => 184 | 241 => 185 | 276 => 207 | 277 => 208 | n => n, fun | 9 => 9 | 3 => 3 | 4 => 4 | 20 => 20 | 0 => 0 | 46 => 147 | 109 => 148 | 5 => 5 | 72 => 153 | 76 => 155 | 51 => 169 | 146 => 170 | 53 => 172 | 148 => 173 | 70 => 151 | 37 => 48 | 75 => 139 | 127 => 158 | 164 => 195 | 80 => 119 | n => n, fun | n => n⟩
theorem Tryz.laysRepeat : Go.Proofs.Lays.n105 Tryz.prog Tryz.laysRepeat_ren := {
 mixed := by kernel_rfl
 f99 := Tryz.func158.trans (congrArg some (by kernel_rfl))
 f105 := Tryz.func121.trans (congrArg some (by kernel_rfl))
 f165 := Tryz.func159.trans (congrArg some (by kernel_rfl))
 f166 := Tryz.func160.trans (congrArg some (by kernel_rfl))
 f169 := Tryz.func162.trans (congrArg some (by kernel_rfl))
 f170 := Tryz.func161.trans (congrArg some (by kernel_rfl))
 f206 := Tryz.func183.trans (congrArg some (by kernel_rfl))
 f212 := Tryz.func157.trans (congrArg some (by kernel_rfl))
 f240 := Tryz.func184.trans (congrArg some (by kernel_rfl))
 f241 := Tryz.func185.trans (congrArg some (by kernel_rfl))
 f263 := Tryz.func181.trans (congrArg some (by kernel_rfl))
 f264 := Tryz.func182.trans (congrArg some (by kernel_rfl))
 f276 := Tryz.func207.trans (congrArg some (by kernel_rfl))
 f277 := Tryz.func208.trans (congrArg some (by kernel_rfl))
 t0 := Tryz.underlying0
 a0 := Tryz.isAgg0
 z0 := Tryz.sizeOf0
 v0 := Tryz.zeroValue0
 t3 := Tryz.underlying3
 a3 := Tryz.isAgg3
 z3 := Tryz.sizeOf3
 v3 := Tryz.zeroValue3
 t4 := Tryz.underlying4
 a4 := Tryz.isAgg4
 z4 := Tryz.sizeOf4
 v4 := Tryz.zeroValue4
 t5 := Tryz.underlying5
 a5 := Tryz.isAgg5
 z5 := Tryz.sizeOf5
 v5 := Tryz.zeroValue5
 t9 := Tryz.underlying9
 a9 := Tryz.isAgg9
 z9 := Tryz.sizeOf9
 v9 := Tryz.zeroValue9
 t20 := Tryz.underlying20
 a20 := Tryz.isAgg20
 z20 := Tryz.sizeOf20
 v20 := Tryz.zeroValue20
 t37 := Tryz.underlying48
 a37 := Tryz.isAgg48
 z37 := Tryz.sizeOf48
 v37 := Tryz.zeroValue48
 t46 := Tryz.underlying147
 a46 := Tryz.isAgg147
 z46 := Tryz.sizeOf147
 v46 := Tryz.zeroValue147
 t51 := Tryz.underlying169
 a51 := Tryz.isAgg169
 z51 := Tryz.sizeOf169
 v51 := Tryz.zeroValue169
 t53 := Tryz.underlying172
 a53 := Tryz.isAgg172
 z53 := Tryz.sizeOf172
 v53 := Tryz.zeroValue172
 t70 := Tryz.underlying151
 a70 := Tryz.isAgg151
 z70 := Tryz.sizeOf151
 v70 := Tryz.zeroValue151
 t72 := Tryz.underlying153
 a72 := Tryz.isAgg153
 z72 := Tryz.sizeOf153
 v72 := Tryz.zeroValue153
 t75 := Tryz.underlying139
 a75 := Tryz.isAgg139
 z75 := Tryz.sizeOf139
 v75 := Tryz.zeroValue139
 t76 := Tryz.underlying155
 a76 := Tryz.isAgg155
 z76 := Tryz.sizeOf155
 v76 := Tryz.zeroValue155
 t109 := Tryz.underlying148
 a109 := Tryz.isAgg148
 z109 := Tryz.sizeOf148
 v109 := Tryz.zeroValue148
 t127 := Tryz.underlying158
 a127 := Tryz.isAgg158
 z127 := Tryz.sizeOf158
 v127 := Tryz.zeroValue158
 t146 := Tryz.underlying170
 a146 := Tryz.isAgg170
 z146 := Tryz.sizeOf170
 v146 := Tryz.zeroValue170
 t148 := Tryz.underlying173
 a148 := Tryz.isAgg173
 z148 := Tryz.sizeOf173
 v148 := Tryz.zeroValue173
 t164 := Tryz.underlying195
 a164 := Tryz.isAgg195
 z164 := Tryz.sizeOf195
 v164 := Tryz.zeroValue195 }
def Tryz.laysCut_ren : Go.Shelf.Ren := ⟨fun | 145 => 79 | 220 => 130 | 219 => 166 | 217 => 188 | 225 => 189 | 224 => 190 | 267 => 191 | 266 => 215 | 314 => 216 | n => n, fun | 9 => 9 | 4 => 4 | 59 => 90 | 3 => 3 | 5 => 5 | 46 => 147 | 146 => 170 | 51 => 169 | n => n, fun | 1 => 1 | n => n⟩
theorem Tryz.laysCut : Go.Proofs.Lays.n145 Tryz.prog Tryz.laysCut_ren := {
 mixed := by kernel_rfl
 f145 := Tryz.func79.trans (congrArg some (by kernel_rfl))
 f217 := Tryz.func188.trans (congrArg some (by kernel_rfl))
 f219 := Tryz.func166.trans (congrArg some (by kernel_rfl))
 f220 := Tryz.func130.trans (congrArg some (by kernel_rfl))
 f224 := Tryz.func190.trans (congrArg some (by kernel_rfl))
 f225 := Tryz.func189.trans (congrArg some (by kernel_rfl))
 f266 := Tryz.func215.trans (congrArg some (by kernel_rfl))
 f267 := Tryz.func191.trans (congrArg some (by kernel_rfl))
 f314 := Tryz.func216.trans (congrArg some (by kernel_rfl))
 t3 := Tryz.underlying3
 a3 := Tryz.isAgg3
 z3 := Tryz.sizeOf3
 v3 := Tryz.zeroValue3
 t4 := Tryz.underlying4
 a4 := Tryz.isAgg4
 z4 := Tryz.sizeOf4
 v4 := Tryz.zeroValue4
 t5 := Tryz.underlying5
 a5 := Tryz.isAgg5
 z5 := Tryz.sizeOf5
 v5 := Tryz.zeroValue5
 t9 := Tryz.underlying9
 a9 := Tryz.isAgg9
 z9 := Tryz.sizeOf9
 v9 := Tryz.zeroValue9
 t46 := Tryz.underlying147
 a46 := Tryz.isAgg147
 z46 := Tryz.sizeOf147
 v46 := Tryz.zeroValue147
 t51 := Tryz.underlying169
 a51 := Tryz.isAgg169
 z51 := Tryz.sizeOf169
 v51 := Tryz.zeroValue169
 t59 := Tryz.underlying90
 a59 := Tryz.isAgg90
 z59 := Tryz.sizeOf90
 v59 := Tryz.zeroValue90
 t146 := Tryz.underlying170
 a146 := Tryz.isAgg170
 z146 := Tryz.sizeOf170
 v146 := Tryz.zeroValue170
 g1 := by kernel_rfl }
def Tryz.laysItoa_ren : Go.Shelf.Ren := ⟨fun | 171 => 128 | 243 => 165 | 246 => 187 | 283 => 211 | 284 => 212 | 285 => 213 | 286 => 214 | 129 => 223 | 317 => 222 | 318 => 224 | 319 => 225 | 320 => 226 | 337 => 229 | 338 => 230 | n => n, fun | 3 => 3 | 9 => 9 | 2 => 2 | 4 => 4 | 171 => 200 | 0 => 0 | 53 => 172 | 37 => 48 | 5 => 5 | 173 => 203 | 212 => 223 | 51 => 169 | 20 => 20 | 213 => 224 | 46 => 147 | 232 => 233 | 233 => 234 | n => n, fun | 17 => 2 | 18 => 5 | 19 => 6 | n => n⟩
theorem Tryz.laysItoa : Go.Proofs.LaysM.n171 Tryz.prog Tryz.laysItoa_ren := {
 mixed := by kernel_rfl
 f129 := Tryz.func223.trans (congrArg some (by kernel_rfl))
 f171 := Tryz.func128.trans (congrArg some (by kernel_rfl))
 f243 := Tryz.func165.trans (congrArg some (by kernel_rfl))
 f246 := Tryz.func187.trans (congrArg some (by kernel_rfl))
 f283 := Tryz.func211.trans (congrArg some (by kernel_rfl))
 f284 := Tryz.func212.trans (congrArg some (by kernel_rfl))
 f285 := Tryz.func213.trans (congrArg some (by kernel_rfl))
 f286 := Tryz.func214.trans (congrArg some (by kernel_rfl))
 f317 := Tryz.func222.trans (congrArg some (by kernel_rfl))
 f318 := Tryz.func224.trans (congrArg some (by kernel_rfl))
 f319 := Tryz.func225.trans (congrArg some (by kernel_rfl))
 f320 := Tryz.func226.trans (congrArg some (by kernel_rfl))
 f337 := Tryz.func229.trans (congrArg some (by kernel_rfl))
 f338 := Tryz.func230.trans (congrArg some (by kernel_rfl))
 t0 := Tryz.underlying0
 a0 := Tryz.isAgg0
 z0 := Tryz.sizeOf0
 v0 := Tryz.zeroValue0
 t2 := Tryz.underlying2
 a2 := Tryz.isAgg2
 z2 := Tryz.sizeOf2
 v2 := Tryz.zeroValue2
 t3 := Tryz.underlying3
 a3 := Tryz.isAgg3
 z3 := Tryz.sizeOf3
 v3 := Tryz.zeroValue3
 t4 := Tryz.underlying4
 a4 := Tryz.isAgg4
 z4 := Tryz.sizeOf4
 v4 := Tryz.zeroValue4
 t5 := Tryz.underlying5
 a5 := Tryz.isAgg5
 z5 := Tryz.sizeOf5
 v5 := Tryz.zeroValue5
 t9 := Tryz.underlying9
 a9 := Tryz.isAgg9
 z9 := Tryz.sizeOf9
 v9 := Tryz.zeroValue9
 t20 := Tryz.underlying20
 a20 := Tryz.isAgg20
 z20 := Tryz.sizeOf20
 v20 := Tryz.zeroValue20
 t37 := Tryz.underlying48
 a37 := Tryz.isAgg48
 z37 := Tryz.sizeOf48
 v37 := Tryz.zeroValue48
 t46 := Tryz.underlying147
 a46 := Tryz.isAgg147
 z46 := Tryz.sizeOf147
 v46 := Tryz.zeroValue147
 t51 := Tryz.underlying169
 a51 := Tryz.isAgg169
 z51 := Tryz.sizeOf169
 v51 := Tryz.zeroValue169
 t53 := Tryz.underlying172
 a53 := Tryz.isAgg172
 z53 := Tryz.sizeOf172
 v53 := Tryz.zeroValue172
 t171 := Tryz.underlying200
 a171 := Tryz.isAgg200
 z171 := Tryz.sizeOf200
 v171 := Tryz.zeroValue200
 t173 := Tryz.underlying203
 a173 := Tryz.isAgg203
 z173 := Tryz.sizeOf203
 v173 := Tryz.zeroValue203
 t212 := Tryz.underlying223
 a212 := Tryz.isAgg223
 z212 := Tryz.sizeOf223
 v212 := Tryz.zeroValue223
 t213 := Tryz.underlying224
 a213 := Tryz.isAgg224
 z213 := Tryz.sizeOf224
 t232 := Tryz.underlying233
 a232 := Tryz.isAgg233
 z232 := Tryz.sizeOf233
 v232 := Tryz.zeroValue233
 t233 := Tryz.underlying234
 a233 := Tryz.isAgg234
 z233 := Tryz.sizeOf234
 v233 := Tryz.zeroValue234
 g17 := by kernel_rfl
 g18 := by kernel_rfl
 g19 := by kernel_rfl
 i0 := by kernel_rfl
 i2 := by kernel_rfl
 i3 := by kernel_rfl
 i4 := by kernel_rfl
 i5 := by kernel_rfl
 i9 := by kernel_rfl
 i20 := by kernel_rfl
 i37 := by kernel_rfl
 i46 := by kernel_rfl
 i51 := by kernel_rfl
 i53 := by kernel_rfl
 i171 := by kernel_rfl
 i173 := by kernel_rfl
 i212 := by kernel_rfl
 i232 := by kernel_rfl
 i233 := by kernel_rfl
 m17 := by kernel_rfl
 m18 := by kernel_rfl
 m19 := by kernel_rfl }
theorem Tryz.repeatExtra : Builder.Extra Tryz.prog Tryz.laysRepeat_ren := {
 sizeBuilder := by kernel_rfl
 liesBuilder := by kernel_rfl
 t5 := Tryz.laysRepeat.t5
 a5 := Tryz.laysRepeat.a5
 z5 := Tryz.laysRepeat.z5
 v5 := Tryz.laysRepeat.v5
 infoByte := by kernel_rfl
 cellsByte := by kernel_rfl
 sizeByte := by kernel_rfl
 neB5 := by decide }
theorem fRepeat : Tryz.laysRepeat_ren.f 105 = 121 := by kernel_rfl
end Go.Proofs.YtdnbhgkbfbgnaaaGreatDoor
namespace Go.Proofs.YtdnbhgkbfbgnaaaGreatDoor
open Go.RowKit Go.Shelf
theorem dec_txN (u : Nat) : Lib.decDigits u = txN u := by
 induction u using Nat.strongRecOn with
 | ind u ih =>
  rw [Lib.decDigits]
  by_cases h : u < 10
  ·
   rw [dif_pos h, txN]
   split
   ·
    rename_i h0; subst h0; rfl
   ·
    rename_i h0
    rw [grpX_pos (by omega), show u / 10 = 0 by omega, grpX_zero, lts_cons]
    simp only [lts, ltr, List.map_nil, List.reverse_nil, List.nil_append, Int.toNat_natCast]
    rw [show u % 10 = u by omega]
  ·
   rw [dif_neg h, ih _ (by omega), txN, txN, if_neg (by omega), if_neg (by omega), grpX_pos (n := u) (by omega), lts_cons]
   simp only [ltr, Int.toNat_natCast]
theorem itoa_txt (n : Int) : Lib.itoa n = txt n := by
 rw [Lib.itoa, txt]
 split
 ·
  rw [dec_txN]
 ·
  rw [dec_txN, show n.toNat = n.natAbs by omega]
theorem var_below {w w' : World} {name : String} {cs : Array Value} (h : w.var? Tryz.prog name = some cs) (hb : Below w.heap.size w w') : w'.var? Tryz.prog name = some cs := by
 unfold World.var? at h ⊢
 cases hg : Tryz.prog.globalNamed name with
 | none => rw [hg] at h; cases h
 | some g =>
  rw [hg] at h
  simp only [Option.bind_some] at h ⊢
  by_cases hlt : g < w.heap.size
  ·
   rw [hb.block g hlt]; exact h
  ·
   rw [Array.getElem?_eq_none (by omega)] at h; cases h
def Tz (w : World) : Prop := Lib.TabIs Tryz.prog w "internal/strconv.uint64pow10" .u64 Lib.pow10Tab ∧ 1 < w.heap.size ∧ ∃ m, w.cell? ⟨1, 0, none⟩ = some (.int .i64 m)
theorem Tz.below {w w' : World} (h : Tz w) (hb : Below w.heap.size w w') : Tz w' := by
 obtain ⟨h1, h0, m, h2⟩ := h
 exact ⟨var_below h1 hb, Nat.lt_of_lt_of_le h0 hb.size, m, (hb.cell (p := ⟨1, 0, none⟩) h0).trans h2⟩
set_option maxRecDepth 100000 in
theorem FromInt_any (n : Int) (w : World) (h0 : -9223372036854775808 ≤ n) (h1 : n ≤ 9223372036854775807) (hT : Tz w) :
  Calls Tryz.prog 76 #[.int .i64 n] w fun e w' => e = .returned (.string (S n)) ∧ Below w.heap.size w w' := by
 have c : Calls Tryz.prog 128 #[.int .i64 n] w fun e w' => e = .returned (.string (S n)) ∧ Below w.heap.size w w' := by
  have h := Any.strconv_Itoa Tryz.laysItoa n h0 h1 w hT.1
  refine h.mono fun e w' ⟨he, k, os, hw⟩ => ⟨?_, hw ▸ Lib.below_grow w.heap.size w (Nat.le_refl _) k os⟩
  rw [he, itoa_txt]; rfl
 generalize S n = T at *
 clear h0 h1 hT
 go_enter Tryz.func76, Tryz.ntmps76
 go_wp2_with (go_at_call 128; (with_reducible refine c.mono ?_); rintro e w1 ⟨rfl, B1⟩)
 go_ret
 exact ⟨rfl, B1⟩
def cloneRen : Ren := ⟨fun _ => 129, fun k => if k = 37 then 48 else if k = 47 then 158 else k, fun k => k⟩
theorem cloneLays : LaysPu.n25 Tryz.prog cloneRen := {
 mixed := by kernel_rfl
 f25 := by kernel_rfl
 t0 := by kernel_rfl
 a0 := fun _ => by kernel_rfl
 z0 := fun _ => by kernel_rfl
 v0 := fun _ => by kernel_rfl
 i0 := by kernel_rfl
 t3 := by kernel_rfl
 a3 := fun _ => by kernel_rfl
 z3 := fun _ => by kernel_rfl
 v3 := fun _ => by kernel_rfl
 i3 := by kernel_rfl
 t4 := by kernel_rfl
 a4 := fun _ => by kernel_rfl
 z4 := fun _ => by kernel_rfl
 v4 := fun _ => by kernel_rfl
 i4 := by kernel_rfl
 t5 := by kernel_rfl
 a5 := fun _ => by kernel_rfl
 z5 := fun _ => by kernel_rfl
 v5 := fun _ => by kernel_rfl
 i5 := by kernel_rfl
 t9 := by kernel_rfl
 a9 := fun _ => by kernel_rfl
 z9 := fun _ => by kernel_rfl
 v9 := fun _ => by kernel_rfl
 i9 := by kernel_rfl
 t37 := by kernel_rfl
 a37 := fun _ => by kernel_rfl
 z37 := fun _ => by kernel_rfl
 v37 := fun _ => by kernel_rfl
 i37 := by kernel_rfl
 t47 := by kernel_rfl
 a47 := fun _ => by kernel_rfl
 z47 := fun _ => by kernel_rfl
 v47 := fun _ => by kernel_rfl
 i47 := by kernel_rfl }
set_option maxRecDepth 100000 in
theorem clone_str (s : ByteArray) (w : World) (hlim : s.size ≤ 281474976710656) :
  Calls Tryz.prog 78 #[.string s] w fun e w' => e = .returned (.string s) ∧ Below w.heap.size w w' := by
 have c : ∀ W, Calls Tryz.prog 129 #[.string s] W fun e w' => e = .returned (.string s) ∧ Below W.heap.size W w' := fun W => AnyPu.stringslite_Clone cloneLays s W hlim
 go_enter Tryz.func78, Tryz.ntmps78
 go_wp2_with (go_at_call 129; (with_reducible refine (c _).mono ?_); rintro e w' ⟨rfl, hb⟩)
 go_ret
 exact ⟨rfl, hb⟩
theorem repeat0 (c : Nat) (hc : c ≤ 1000) (w : World) :
  Calls Tryz.prog 121 #[.string ⟨#[48]⟩, .int .i64 (c : Int)] w fun e w' => e = .returned (.string ⟨(List.replicate c (48 : UInt8)).toArray⟩) ∧ Below w.heap.size w w' := by
 have h := Any.strings_Repeat Tryz.laysRepeat Tryz.repeatExtra ⟨#[48]⟩ c w (by omega) (by show 1 * c ≤ _; omega)
 rw [fRepeat] at h
 have e : Lib.repeatL (ByteArray.mk #[48]).data.toList c = List.replicate c 48 := by
  have := Lib.repeatL_replicate 48 1 c
  simpa using this
 rw [e] at h
 exact h
theorem fCut : Tryz.laysCut_ren.f 145 = 79 := by kernel_rfl
theorem gCut : Tryz.laysCut_ren.g 1 = 1 := by kernel_rfl
theorem cut_s (s sep : ByteArray) (w : World) (hs : s.size < 4294967281) (hT : Tz w) :
  Calls Tryz.prog 79 #[.string s, .string sep] w fun e w' => e = .returned (.tuple #[.string ⟨(Lib.cut s.data.toList sep.data.toList).1.toArray⟩, .string ⟨(Lib.cut s.data.toList sep.data.toList).2.1.toArray⟩, .bool (Lib.cut s.data.toList sep.data.toList).2.2]) ∧ Below w.heap.size w w' := by
 obtain ⟨_, _, m, hm⟩ := hT
 have h := Any.strings_Cut Tryz.laysCut s sep m w hs (by rw [gCut]; exact hm)
 rw [fCut] at h
 refine h.mono fun e w' ⟨he, n, hw⟩ => ⟨he, ?_⟩
 rw [hw]
 exact ⟨rfl, rfl, rfl, Nat.le_refl _, fun _ _ => rfl⟩
end Go.Proofs.YtdnbhgkbfbgnaaaGreatDoor
namespace Go.Proofs.YtdnbhgkbfbgnaaaGreatDoor
open Go.RowKit
theorem txN_ten (n : Nat) : txN (10 ^ n) = 49 :: List.replicate n 48 := by
 induction n with
 | zero => rw [← dec_txN, Lib.decDigits, dif_pos (by decide)]; rfl
 | succ n ih =>
  have hp : 0 < 10 ^ n := Nat.pow_pos (by decide)
  rw [← dec_txN, Lib.decDigits, dif_neg (by rw [Nat.pow_succ]; omega), show 10 ^ (n + 1) / 10 = 10 ^ n by rw [Nat.pow_succ]; omega, show 10 ^ (n + 1) % 10 = 0 by rw [Nat.pow_succ]; omega, dec_txN, ih, List.replicate_succ', List.cons_append]
  rfl
theorem S_ten (n : Nat) : S ((10 ^ n : Nat) : Int) = ⟨#[49]⟩ ++ ⟨(List.replicate n (48 : UInt8)).toArray⟩ := by
 have h : (S ((10 ^ n : Nat) : Int)).data.toList = (⟨#[49]⟩ ++ ⟨(List.replicate n (48 : UInt8)).toArray⟩ : ByteArray).data.toList := by
  rw [S_list, txt, if_neg (by have := Int.natCast_nonneg (10 ^ n); omega), Int.natAbs_natCast, txN_ten, ByteArray.data_append]
  simp
 generalize S ((10 ^ n : Nat) : Int) = a at *
 cases a with | mk d =>
 generalize (⟨#[49]⟩ ++ ⟨(List.replicate n (48 : UInt8)).toArray⟩ : ByteArray) = b at *
 cases b with | mk e =>
 congr 1
 exact Array.toList_inj.1 h
theorem ten_lt {n k : Nat} (h : n < k) : (((10 ^ n : Nat)) : Int).natAbs < 10 ^ k := by
 rw [Int.natAbs_natCast]; exact Nat.pow_lt_pow_right (by decide) h
theorem ten_pos (n : Nat) : 0 < 10 ^ n := Nat.pow_pos (by decide)
set_option maxRecDepth 100000 in
theorem power_no (p : Int) (w : World) (h : ¬ (0 ≤ p ∧ p ≤ 30)) : Calls Tryz.prog 65 #[.int .i64 p] w fun e w' => e = .returned (.string ⟨#[]⟩) ∧ w' = w := by
 have hd : p < 0 ∨ (¬ p < 0 ∧ p > 30) := by omega
 rcases hd with hd | ⟨h1, h2⟩
 ·
  go_enter Tryz.func65, Tryz.ntmps65
  go_wp2
  go_ret
  exact ⟨rfl, rfl⟩
 ·
  go_enter Tryz.func65, Tryz.ntmps65
  go_wp2
  go_ret
  exact ⟨rfl, rfl⟩
set_option maxRecDepth 100000 in
theorem power_ok (n : Nat) (w : World) (h : n ≤ 30) : Calls Tryz.prog 65 #[.int .i64 (n : Int)] w fun e w' => e = .returned (.string (S ((10 ^ n : Nat) : Int))) ∧ Below w.heap.size w w' := by
 have c := repeat0 n (by omega) w
 rw [S_ten]
 have hsz : (⟨(List.replicate n (48 : UInt8)).toArray⟩ : ByteArray).size = n := by simp [ByteArray.size]
 have h1 : ¬ ((n : Int) < 0) := by omega
 have h2 : ¬ ((n : Int) > 30) := by omega
 generalize (⟨(List.replicate n (48 : UInt8)).toArray⟩ : ByteArray) = y at *
 have hs1 : (⟨#[49]⟩ : ByteArray).size = 1 := rfl
 go_enter Tryz.func65, Tryz.ntmps65
 go_wp2_with (go_at_call 121; (with_reducible refine c.mono ?_); rintro e w1 ⟨rfl, B1⟩)
 go_ret
 exact ⟨rfl, B1⟩
set_option maxRecDepth 100000 in
set_option maxHeartbeats 2000000 in
theorem floor_S (n d : Int) (w : World) (hn : n.natAbs < 10 ^ 200) (hd : d.natAbs < 10 ^ 200) (h0 : d ≠ 0) : StepOK 69 #[] (S n, S d) (S (n / d), ⟨#[49]⟩) 0 w := by
 have ca := fun W => Div_S n d hn hd h0 W
 show Calls _ _ #[.agg #[.string (S n), .string (S d)]] w fun e w' => e = .returned (.tuple #[.agg #[.string (S (n / d)), .string ⟨#[49]⟩], .int .i64 0]) ∧ _
 generalize S (n / d) = x1 at *
 generalize S (n % d) = y1 at *
 generalize S n = s1 at *
 generalize S d = s2 at *
 have CA := Lib.hid ca
 clear ca hn hd h0
 obtain ⟨r1, r2⟩ := two_ratios w (.string s1) (.string s2) (.string ⟨#[]⟩) (.string ⟨#[]⟩)
 have HB := Lib.hid ((below_alloc w (.cells #[.string s1, .string s2] 23)).alloc (by rw [World.size_alloc]; omega) (.cells #[.string ⟨#[]⟩, .string ⟨#[]⟩] 23))
 have a0 := r1.c0
 have a1 := r1.c1
 have HR := Lib.hid (And.intro r1 r2)
 clear r1 r2
 go_enter Tryz.func69, Tryz.ntmps69
 go_wp2_with (go_at_call 60; (with_reducible refine (CA.out _).mono ?_); rintro e W ⟨rfl, B⟩; have hr := (And.intro (HR.out.1.keep B HR.out.1.lt) (HR.out.2.keep B HR.out.2.lt)); have hb := HB.out.trans (B.mono HB.out.size); clear HR HB B a0 a1; have HR := Lib.hid hr; have HB := Lib.hid hb; have a0 := hr.1.c0; have a1 := hr.1.c1; have c0 := hr.2.c0; have c1 := hr.2.c1; have f0 := hr.2.f 0; have f1 := hr.2.f 1; have hs := hr.2.s0 (.string x1); have d1 := hs.c1; have g1 := hs.f 1; have HS := Lib.hid (hs.s1 (.string ⟨#[49]⟩)); have HBS := Lib.hid ((hb.setCell (p := ⟨w.heap.size + 1, 0, none⟩) (by show w.heap.size ≤ w.heap.size + 1; omega) (.string x1)).setCell (p := ⟨w.heap.size + 1, 1, none⟩) (by show w.heap.size ≤ w.heap.size + 1; omega) (.string ⟨#[49]⟩)); clear hr hb hs)
 refine bodyPost_ret (results_ratio rfl _ _ (w.heap.size + 1) _ _ rfl HS.out) rfl ?_
 exact ⟨rfl, HBS.out⟩
def upD (n d : Int) : Int := if n % d = 0 then n / d else n / d + 1
theorem up_fit {n d : Int} (hn : n.natAbs < 10 ^ 200) (h0 : 0 < d) (hr : n % d ≠ 0) : (n / d + 1).natAbs < 10 ^ 200 ∧ (n / d).natAbs < 10 ^ 200 := by
 have h1 := Int.mul_ediv_add_emod n d
 have h2 := Int.emod_lt_of_pos n h0
 have h3 := Int.emod_nonneg n (show d ≠ 0 by omega)
 have h4 := Int.natAbs_ediv_le_natAbs n d
 have d2 : 2 ≤ d := by omega
 generalize n / d = q at *
 generalize n % d = r at *
 by_cases hq : 0 ≤ q
 ·
  have h5 : 2 * q ≤ d * q := Int.mul_le_mul_of_nonneg_right d2 hq
  have : (10 : Nat) ^ 200 = 2 * (5 * 10 ^ 199) := by rw [show 200 = 199 + 1 from rfl, Nat.pow_succ]
  omega
 ·
  omega
set_option maxRecDepth 100000 in
set_option maxHeartbeats 2000000 in
theorem ceiling_S (n d : Int) (w : World) (hn : n.natAbs < 10 ^ 200) (hd : d.natAbs < 10 ^ 200) (h0 : 0 < d) : StepOK 72 #[] (S n, S d) (S (upD n d), ⟨#[49]⟩) 0 w := by
 have ca := fun W => Div_S n d hn hd (by omega) W
 show Calls _ _ #[.agg #[.string (S n), .string (S d)]] w fun e w' => e = .returned (.tuple #[.agg #[.string (S (upD n d)), .string ⟨#[49]⟩], .int .i64 0]) ∧ _
 by_cases hr : n % d = 0
 ·
  rw [upD, if_pos hr]
  rw [hr, S_zero] at ca
  generalize S (n / d) = x1 at *
  generalize S n = s1 at *
  generalize S d = s2 at *
  have CA := Lib.hid ca
  clear ca hn hd h0 hr
  obtain ⟨r1, r2⟩ := two_ratios w (.string s1) (.string s2) (.string ⟨#[]⟩) (.string ⟨#[]⟩)
  have HB := Lib.hid ((below_alloc w (.cells #[.string s1, .string s2] 23)).alloc (by rw [World.size_alloc]; omega) (.cells #[.string ⟨#[]⟩, .string ⟨#[]⟩] 23))
  have a0 := r1.c0
  have a1 := r1.c1
  have HR := Lib.hid (And.intro r1 r2)
  clear r1 r2
  go_enter Tryz.func72, Tryz.ntmps72
  go_wp2_with (go_at_call 60; (with_reducible refine (CA.out _).mono ?_); rintro e W ⟨rfl, B⟩; have hr := (And.intro (HR.out.1.keep B HR.out.1.lt) (HR.out.2.keep B HR.out.2.lt)); have hb := HB.out.trans (B.mono HB.out.size); clear HR HB B a0 a1; have HR := Lib.hid hr; have HB := Lib.hid hb; have a0 := hr.1.c0; have a1 := hr.1.c1; have c0 := hr.2.c0; have c1 := hr.2.c1; have f0 := hr.2.f 0; have f1 := hr.2.f 1; have hs := hr.2.s0 (.string x1); have d1 := hs.c1; have g1 := hs.f 1; have HS := Lib.hid (hs.s1 (.string ⟨#[49]⟩)); have HBS := Lib.hid ((hb.setCell (p := ⟨w.heap.size + 1, 0, none⟩) (by show w.heap.size ≤ w.heap.size + 1; omega) (.string x1)).setCell (p := ⟨w.heap.size + 1, 1, none⟩) (by show w.heap.size ≤ w.heap.size + 1; omega) (.string ⟨#[49]⟩)); clear hr hb hs)
  refine bodyPost_ret (results_ratio rfl _ _ (w.heap.size + 1) _ _ rfl HS.out) rfl ?_
  exact ⟨rfl, HBS.out⟩
 ·
  rw [upD, if_neg hr]
  have hb := up_fit hn h0 hr
  have cs := fun W => Add_S (n / d) 1 hb.2 (by decide) hb.1 W
  rw [S_one] at cs
  have ht : ((S (n % d)).toList == [48]) = false := by
   rw [ByteArray.toList_eq, S_list, show ([48] : List UInt8) = txt 0 by rw [← S_list, S_zero], beq_eq_false_iff_ne]
   exact fun e => hr (txt_inj e)
  generalize S (n / d + 1) = x2 at *
  generalize S (n / d) = x1 at *
  generalize S (n % d) = y1 at *
  generalize S n = s1 at *
  generalize S d = s2 at *
  have CA := Lib.hid ca
  have CS' := Lib.hid cs
  clear ca cs hn hd h0 hr hb
  obtain ⟨r1, r2⟩ := two_ratios w (.string s1) (.string s2) (.string ⟨#[]⟩) (.string ⟨#[]⟩)
  have HB := Lib.hid ((below_alloc w (.cells #[.string s1, .string s2] 23)).alloc (by rw [World.size_alloc]; omega) (.cells #[.string ⟨#[]⟩, .string ⟨#[]⟩] 23))
  have a0 := r1.c0
  have a1 := r1.c1
  have HR := Lib.hid (And.intro r1 r2)
  clear r1 r2
  go_enter Tryz.func72, Tryz.ntmps72
  go_wp2_with (first | (go_at_call 60; (with_reducible refine (CA.out _).mono ?_); rintro e W ⟨rfl, B⟩; have hr := (And.intro (HR.out.1.keep B HR.out.1.lt) (HR.out.2.keep B HR.out.2.lt)); have hb := HB.out.trans (B.mono HB.out.size); clear HR HB B a0 a1; have HR := Lib.hid hr; have HB := Lib.hid hb; have a0 := hr.1.c0; have a1 := hr.1.c1; clear hr hb) | (go_at_call 81; (with_reducible refine (CS'.out _).mono ?_); rintro e W ⟨rfl, B⟩; have hr := (And.intro (HR.out.1.keep B HR.out.1.lt) (HR.out.2.keep B HR.out.2.lt)); have hb := HB.out.trans (B.mono HB.out.size); clear HR HB B a0 a1; have HR := Lib.hid hr; have HB := Lib.hid hb; have a0 := hr.1.c0; have a1 := hr.1.c1; have c0 := hr.2.c0; have c1 := hr.2.c1; have f0 := hr.2.f 0; have f1 := hr.2.f 1; have hs := hr.2.s0 (.string x2); have d1 := hs.c1; have g1 := hs.f 1; have HS := Lib.hid (hs.s1 (.string ⟨#[49]⟩)); have HBS := Lib.hid ((hb.setCell (p := ⟨w.heap.size + 1, 0, none⟩) (by show w.heap.size ≤ w.heap.size + 1; omega) (.string x2)).setCell (p := ⟨w.heap.size + 1, 1, none⟩) (by show w.heap.size ≤ w.heap.size + 1; omega) (.string ⟨#[49]⟩)); clear hr hb hs))
  refine bodyPost_ret (results_ratio rfl _ _ (w.heap.size + 1) _ _ rfl HS.out) rfl ?_
  exact ⟨rfl, HBS.out⟩
def TC (W : World) (g : Nat) (x y : ByteArray) : Prop := g < W.heap.size ∧ W.cell? ⟨g, 0, none⟩ = some (.string x) ∧ W.cell? ⟨g, 1, none⟩ = some (.string y)
theorem TC.keep {W W' : World} {g : Nat} {x y : ByteArray} (h : TC W g x y) (hb : Below W.heap.size W W') : TC W' g x y :=
 ⟨Nat.lt_of_lt_of_le h.1 hb.size, (hb.cell (p := ⟨g, 0, none⟩) h.1).trans h.2.1, (hb.cell (p := ⟨g, 1, none⟩) h.1).trans h.2.2⟩
theorem TC.new (W : World) (x y : ByteArray) : TC (W.alloc (.cells #[.string x, .string y] 23)) W.heap.size x y :=
 ⟨by rw [World.size_alloc]; omega, by rw [World.cell?, Go.heap_alloc_new]; rfl, by rw [World.cell?, Go.heap_alloc_new]; rfl⟩
set_option maxRecDepth 100000 in
set_option maxHeartbeats 8000000 in
theorem qDown_walk (s1 s2 T : ByteArray) (p : Int) (M : Nat → ByteArray × ByteArray) (E : Nat → Int) (w : World) (hM : M 0 = (⟨#[]⟩, ⟨#[]⟩)) (hE : E 0 = 0) (hsk : ∀ i, i < 5 → E i ≠ 0 → M (i + 1) = M i ∧ E (i + 1) = E i)
  (hp : ∀ W, Calls Tryz.prog 65 #[.int .i64 p] W fun e w' => e = .returned (.string T) ∧ Below W.heap.size W w')
  (h1 : ∀ W p g cap, 1 ≤ cap → CS W p (.slice (some ⟨g, 0, none⟩) 1 cap) → TC W g s1 s2 → StepOK 122 #[.pointer (some ⟨p, 0, none⟩)] (M 0) (M 1) (E 1) W)
  (h2 : E 1 = 0 → ∀ W p q, CS W p (.string T) → CS W q (.string ⟨#[49]⟩) → StepOK 123 #[.pointer (some ⟨p, 0, none⟩), .pointer (some ⟨q, 0, none⟩)] (M 1) (M 2) (E 2) W)
  (h3 : E 2 = 0 → ∀ W, StepOK 69 #[] (M 2) (M 3) (E 3) W)
  (h4 : E 3 = 0 → ∀ W p q, CS W p (.string ⟨#[49]⟩) → CS W q (.string T) → StepOK 123 #[.pointer (some ⟨p, 0, none⟩), .pointer (some ⟨q, 0, none⟩)] (M 3) (M 4) (E 4) W)
  (h5 : E 4 = 0 → ∀ W, StepOK 70 #[] (M 4) (M 5) (E 5) W) :
  Calls Tryz.prog 24 #[.agg #[.string s1, .string s2], .int .i64 p] w fun e w' => e = .returned (.tuple #[.agg #[.string (M 5).1, .string (M 5).2], .int .i64 (E 5)]) ∧ Below w.heap.size w w' := by
 have HBC : Hid (∀ W1 W2 W3 W4 : World, TC W4 W1.heap.size s1 s2 → CS W4 (W1.heap.size + 1) (.slice (some ⟨W1.heap.size, 0, none⟩) 1 1) → CS W4 W2.heap.size (.string T) → CS W4 (W2.heap.size + 1) (.string ⟨#[49]⟩) → CS W4 W3.heap.size (.string ⟨#[49]⟩) → CS W4 (W3.heap.size + 1) (.string T) →
   Calls Tryz.prog 66 #[.slice (some ⟨W4.heap.size, 0, none⟩) 5 5] (W4.alloc (.cells #[.func (.func 122) #[] #[.pointer (some ⟨W1.heap.size + 1, 0, none⟩)], .func (.func 123) #[] #[.pointer (some ⟨W2.heap.size, 0, none⟩), .pointer (some ⟨W2.heap.size + 1, 0, none⟩)], .func (.func 69) #[] #[], .func (.func 123) #[] #[.pointer (some ⟨W3.heap.size, 0, none⟩), .pointer (some ⟨W3.heap.size + 1, 0, none⟩)], .func (.func 70) #[] #[]] 85)) fun e w' => e = .returned (.tuple #[.agg #[.string (M 5).1, .string (M 5).2], .int .i64 (E 5)]) ∧ Below (W4.alloc (.cells #[.func (.func 122) #[] #[.pointer (some ⟨W1.heap.size + 1, 0, none⟩)], .func (.func 123) #[] #[.pointer (some ⟨W2.heap.size, 0, none⟩), .pointer (some ⟨W2.heap.size + 1, 0, none⟩)], .func (.func 69) #[] #[], .func (.func 123) #[] #[.pointer (some ⟨W3.heap.size, 0, none⟩), .pointer (some ⟨W3.heap.size + 1, 0, none⟩)], .func (.func 70) #[] #[]] 85)).heap.size (W4.alloc (.cells #[.func (.func 122) #[] #[.pointer (some ⟨W1.heap.size + 1, 0, none⟩)], .func (.func 123) #[] #[.pointer (some ⟨W2.heap.size, 0, none⟩), .pointer (some ⟨W2.heap.size + 1, 0, none⟩)], .func (.func 69) #[] #[], .func (.func 123) #[] #[.pointer (some ⟨W3.heap.size, 0, none⟩), .pointer (some ⟨W3.heap.size + 1, 0, none⟩)], .func (.func 70) #[] #[]] 85)) w') := Lib.hid (by
  intro W1 W2 W3 W4 f2 c2 c3a c3b c4a c4b
  have H1 := Lib.hid h1
  have H2 := Lib.hid h2
  have H3 := Lib.hid h3
  have H4 := Lib.hid h4
  have H5 := Lib.hid h5
  have F2 := Lib.hid f2
  have C2 := Lib.hid c2
  have C3a := Lib.hid c3a
  have C3b := Lib.hid c3b
  have C4a := Lib.hid c4a
  have C4b := Lib.hid c4b
  refine build_any 5 W4.heap.size 5 (fun i => if i = 0 then .func (.func 122) #[] #[.pointer (some ⟨W1.heap.size + 1, 0, none⟩)] else if i = 1 then .func (.func 123) #[] #[.pointer (some ⟨W2.heap.size, 0, none⟩), .pointer (some ⟨W2.heap.size + 1, 0, none⟩)] else if i = 2 then .func (.func 69) #[] #[] else if i = 3 then .func (.func 123) #[] #[.pointer (some ⟨W3.heap.size, 0, none⟩), .pointer (some ⟨W3.heap.size + 1, 0, none⟩)] else .func (.func 70) #[] #[]) M E _ (by decide) (by decide) (by rw [World.size_alloc]; omega) (fun i hi => ?_) hM hE (fun i hi hE => ?_) hsk
  ·
   rcases (by omega : i = 0 ∨ i = 1 ∨ i = 2 ∨ i = 3 ∨ i = 4) with rfl | rfl | rfl | rfl | rfl
   ·
    rw [World.cell?, Go.heap_alloc_new]; rfl
   ·
    rw [World.cell?, Go.heap_alloc_new]; rfl
   ·
    rw [World.cell?, Go.heap_alloc_new]; rfl
   ·
    rw [World.cell?, Go.heap_alloc_new]; rfl
   ·
    rw [World.cell?, Go.heap_alloc_new]; rfl
  ·
   rcases (by omega : i = 0 ∨ i = 1 ∨ i = 2 ∨ i = 3 ∨ i = 4) with rfl | rfl | rfl | rfl | rfl
   ·
    exact ⟨122, _, rfl, enters_of Tryz.func122 (by kernel_rfl) rfl, fun W hW => H1.out W _ _ 1 (by omega) ((C2.out.alloc _).keep hW) ((F2.out.keep (below_alloc W4 _)).keep hW)⟩
   ·
    exact ⟨123, _, rfl, enters_of Tryz.func123 (by kernel_rfl) rfl, fun W hW => H2.out hE W _ _ ((C3a.out.alloc _).keep hW) ((C3b.out.alloc _).keep hW)⟩
   ·
    exact ⟨69, _, rfl, enters_of Tryz.func69 (by kernel_rfl) rfl, fun W hW => H3.out hE W⟩
   ·
    exact ⟨123, _, rfl, enters_of Tryz.func123 (by kernel_rfl) rfl, fun W hW => H4.out hE W _ _ ((C4a.out.alloc _).keep hW) ((C4b.out.alloc _).keep hW)⟩
   ·
    exact ⟨70, _, rfl, enters_of Tryz.func70 (by kernel_rfl) rfl, fun W hW => H5.out hE W⟩)
 have HP := Lib.hid hp
 clear hp h1 h2 h3 h4 h5 hM hE hsk
 obtain ⟨r1, r2⟩ := two_ratios w (.string s1) (.string s2) (.string ⟨#[]⟩) (.string ⟨#[]⟩)
 have HB := Lib.hid ((below_alloc w (.cells #[.string s1, .string s2] 23)).alloc (by rw [World.size_alloc]; omega) (.cells #[.string ⟨#[]⟩, .string ⟨#[]⟩] 23))
 have a0 := r1.c0
 have a1 := r1.c1
 have HR := Lib.hid (And.intro r1 r2)
 clear r1 r2
 go_enter Tryz.func24, Tryz.ntmps24
 go_wp2_with (first | (go_at_call 65; (with_reducible refine (HP.out _).mono ?_); rintro e W1 ⟨rfl, B⟩; have hr := (And.intro (HR.out.1.keep B HR.out.1.lt) (HR.out.2.keep B HR.out.2.lt)); have hb := HB.out.trans (B.mono HB.out.size); clear HR HB B a0 a1; have HR := Lib.hid hr; have HB := Lib.hid hb; have a0 := hr.1.c0; have a1 := hr.1.c1; clear hr hb) | (go_at_call 67; (with_reducible refine (start_any _ _ _ _).mono ?_); rintro e W2 ⟨rfl, c2, B0⟩; have B := (below_alloc W1 (.cells #[.string s1, .string s2] 23)).trans (B0.mono (by rw [World.size_alloc]; omega)); have F2 := Lib.hid (show TC W2 W1.heap.size s1 s2 from (TC.new W1 s1 s2).keep B0); rw [World.size_alloc] at c2; have C2 := Lib.hid c2; clear B0 c2; have hr := (And.intro (HR.out.1.keep B HR.out.1.lt) (HR.out.2.keep B HR.out.2.lt)); have hb := HB.out.trans (B.mono HB.out.size); clear HR HB B a0 a1; have HR := Lib.hid hr; have HB := Lib.hid hb; have a0 := hr.1.c0; have a1 := hr.1.c1; clear hr hb) | (go_at_call 68; (with_reducible refine (qtimes_any T ⟨#[49]⟩ _).mono ?_); rintro e W3 ⟨rfl, c3, B⟩; have F2n := Lib.hid (F2.out.keep B); have C2n := Lib.hid (C2.out.keep B); clear F2 C2; have F2 := F2n; have C2 := C2n; clear F2n C2n; have C3a := Lib.hid c3.1; have C3b := Lib.hid c3.2; clear c3; have hr := (And.intro (HR.out.1.keep B HR.out.1.lt) (HR.out.2.keep B HR.out.2.lt)); have hb := HB.out.trans (B.mono HB.out.size); clear HR HB B a0 a1; have HR := Lib.hid hr; have HB := Lib.hid hb; have a0 := hr.1.c0; have a1 := hr.1.c1; clear hr hb) | (go_at_call 68; (with_reducible refine (qtimes_any ⟨#[49]⟩ T _).mono ?_); rintro e W4 ⟨rfl, c4, B⟩; have F2n := Lib.hid (F2.out.keep B); have C2n := Lib.hid (C2.out.keep B); have C3an := Lib.hid (C3a.out.keep B); have C3bn := Lib.hid (C3b.out.keep B); clear F2 C2 C3a C3b; have F2 := F2n; have C2 := C2n; have C3a := C3an; have C3b := C3bn; clear F2n C2n C3an C3bn; have C4a := Lib.hid c4.1; have C4b := Lib.hid c4.2; clear c4; have hr := (And.intro (HR.out.1.keep B HR.out.1.lt) (HR.out.2.keep B HR.out.2.lt)); have hb := HB.out.trans (B.mono HB.out.size); clear HR HB B a0 a1; have HR := Lib.hid hr; have HB := Lib.hid hb; have a0 := hr.1.c0; have a1 := hr.1.c1; clear hr hb) | (go_at_call 66; (with_reducible refine (HBC.out W1 W2 W3 W4 F2.out C2.out C3a.out C3b.out C4a.out C4b.out).mono ?_); rintro e W9 ⟨rfl, B0⟩; have B := (below_alloc W4 (.cells #[.func (.func 122) #[] #[.pointer (some ⟨W1.heap.size + 1, 0, none⟩)], .func (.func 123) #[] #[.pointer (some ⟨W2.heap.size, 0, none⟩), .pointer (some ⟨W2.heap.size + 1, 0, none⟩)], .func (.func 69) #[] #[], .func (.func 123) #[] #[.pointer (some ⟨W3.heap.size, 0, none⟩), .pointer (some ⟨W3.heap.size + 1, 0, none⟩)], .func (.func 70) #[] #[]] 85)).trans (B0.mono (by rw [World.size_alloc]; omega)); clear B0; have hr := (And.intro (HR.out.1.keep B HR.out.1.lt) (HR.out.2.keep B HR.out.2.lt)); have hb := HB.out.trans (B.mono HB.out.size); clear HR HB B a0 a1; have HR := Lib.hid hr; have HB := Lib.hid hb; have a0 := hr.1.c0; have a1 := hr.1.c1; have c0 := hr.2.c0; have c1 := hr.2.c1; have f0 := hr.2.f 0; have f1 := hr.2.f 1; have hs := hr.2.s0 (.string (M 5).1); have d1 := hs.c1; have g1 := hs.f 1; have HS := Lib.hid (hs.s1 (.string (M 5).2)); have HBS := Lib.hid ((hb.setCell (p := ⟨w.heap.size + 1, 0, none⟩) (by show w.heap.size ≤ w.heap.size + 1; omega) (.string (M 5).1)).setCell (p := ⟨w.heap.size + 1, 1, none⟩) (by show w.heap.size ≤ w.heap.size + 1; omega) (.string (M 5).2)); clear hr hb hs))
 refine bodyPost_ret (results_ratio rfl _ _ (w.heap.size + 1) _ _ rfl HS.out) rfl ?_
 exact ⟨rfl, HBS.out⟩
set_option maxRecDepth 100000 in
set_option maxHeartbeats 8000000 in
theorem qUp_walk (s1 s2 T : ByteArray) (p : Int) (M : Nat → ByteArray × ByteArray) (E : Nat → Int) (w : World) (hM : M 0 = (⟨#[]⟩, ⟨#[]⟩)) (hE : E 0 = 0) (hsk : ∀ i, i < 5 → E i ≠ 0 → M (i + 1) = M i ∧ E (i + 1) = E i)
  (hp : ∀ W, Calls Tryz.prog 65 #[.int .i64 p] W fun e w' => e = .returned (.string T) ∧ Below W.heap.size W w')
  (h1 : ∀ W p g cap, 1 ≤ cap → CS W p (.slice (some ⟨g, 0, none⟩) 1 cap) → TC W g s1 s2 → StepOK 122 #[.pointer (some ⟨p, 0, none⟩)] (M 0) (M 1) (E 1) W)
  (h2 : E 1 = 0 → ∀ W p q, CS W p (.string T) → CS W q (.string ⟨#[49]⟩) → StepOK 123 #[.pointer (some ⟨p, 0, none⟩), .pointer (some ⟨q, 0, none⟩)] (M 1) (M 2) (E 2) W)
  (h3 : E 2 = 0 → ∀ W, StepOK 72 #[] (M 2) (M 3) (E 3) W)
  (h4 : E 3 = 0 → ∀ W p q, CS W p (.string ⟨#[49]⟩) → CS W q (.string T) → StepOK 123 #[.pointer (some ⟨p, 0, none⟩), .pointer (some ⟨q, 0, none⟩)] (M 3) (M 4) (E 4) W)
  (h5 : E 4 = 0 → ∀ W, StepOK 70 #[] (M 4) (M 5) (E 5) W) :
  Calls Tryz.prog 26 #[.agg #[.string s1, .string s2], .int .i64 p] w fun e w' => e = .returned (.tuple #[.agg #[.string (M 5).1, .string (M 5).2], .int .i64 (E 5)]) ∧ Below w.heap.size w w' := by
 have HBC : Hid (∀ W1 W2 W3 W4 : World, TC W4 W1.heap.size s1 s2 → CS W4 (W1.heap.size + 1) (.slice (some ⟨W1.heap.size, 0, none⟩) 1 1) → CS W4 W2.heap.size (.string T) → CS W4 (W2.heap.size + 1) (.string ⟨#[49]⟩) → CS W4 W3.heap.size (.string ⟨#[49]⟩) → CS W4 (W3.heap.size + 1) (.string T) →
   Calls Tryz.prog 66 #[.slice (some ⟨W4.heap.size, 0, none⟩) 5 5] (W4.alloc (.cells #[.func (.func 122) #[] #[.pointer (some ⟨W1.heap.size + 1, 0, none⟩)], .func (.func 123) #[] #[.pointer (some ⟨W2.heap.size, 0, none⟩), .pointer (some ⟨W2.heap.size + 1, 0, none⟩)], .func (.func 72) #[] #[], .func (.func 123) #[] #[.pointer (some ⟨W3.heap.size, 0, none⟩), .pointer (some ⟨W3.heap.size + 1, 0, none⟩)], .func (.func 70) #[] #[]] 85)) fun e w' => e = .returned (.tuple #[.agg #[.string (M 5).1, .string (M 5).2], .int .i64 (E 5)]) ∧ Below (W4.alloc (.cells #[.func (.func 122) #[] #[.pointer (some ⟨W1.heap.size + 1, 0, none⟩)], .func (.func 123) #[] #[.pointer (some ⟨W2.heap.size, 0, none⟩), .pointer (some ⟨W2.heap.size + 1, 0, none⟩)], .func (.func 72) #[] #[], .func (.func 123) #[] #[.pointer (some ⟨W3.heap.size, 0, none⟩), .pointer (some ⟨W3.heap.size + 1, 0, none⟩)], .func (.func 70) #[] #[]] 85)).heap.size (W4.alloc (.cells #[.func (.func 122) #[] #[.pointer (some ⟨W1.heap.size + 1, 0, none⟩)], .func (.func 123) #[] #[.pointer (some ⟨W2.heap.size, 0, none⟩), .pointer (some ⟨W2.heap.size + 1, 0, none⟩)], .func (.func 72) #[] #[], .func (.func 123) #[] #[.pointer (some ⟨W3.heap.size, 0, none⟩), .pointer (some ⟨W3.heap.size + 1, 0, none⟩)], .func (.func 70) #[] #[]] 85)) w') := Lib.hid (by
  intro W1 W2 W3 W4 f2 c2 c3a c3b c4a c4b
  have H1 := Lib.hid h1
  have H2 := Lib.hid h2
  have H3 := Lib.hid h3
  have H4 := Lib.hid h4
  have H5 := Lib.hid h5
  have F2 := Lib.hid f2
  have C2 := Lib.hid c2
  have C3a := Lib.hid c3a
  have C3b := Lib.hid c3b
  have C4a := Lib.hid c4a
  have C4b := Lib.hid c4b
  refine build_any 5 W4.heap.size 5 (fun i => if i = 0 then .func (.func 122) #[] #[.pointer (some ⟨W1.heap.size + 1, 0, none⟩)] else if i = 1 then .func (.func 123) #[] #[.pointer (some ⟨W2.heap.size, 0, none⟩), .pointer (some ⟨W2.heap.size + 1, 0, none⟩)] else if i = 2 then .func (.func 72) #[] #[] else if i = 3 then .func (.func 123) #[] #[.pointer (some ⟨W3.heap.size, 0, none⟩), .pointer (some ⟨W3.heap.size + 1, 0, none⟩)] else .func (.func 70) #[] #[]) M E _ (by decide) (by decide) (by rw [World.size_alloc]; omega) (fun i hi => ?_) hM hE (fun i hi hE => ?_) hsk
  ·
   rcases (by omega : i = 0 ∨ i = 1 ∨ i = 2 ∨ i = 3 ∨ i = 4) with rfl | rfl | rfl | rfl | rfl
   ·
    rw [World.cell?, Go.heap_alloc_new]; rfl
   ·
    rw [World.cell?, Go.heap_alloc_new]; rfl
   ·
    rw [World.cell?, Go.heap_alloc_new]; rfl
   ·
    rw [World.cell?, Go.heap_alloc_new]; rfl
   ·
    rw [World.cell?, Go.heap_alloc_new]; rfl
  ·
   rcases (by omega : i = 0 ∨ i = 1 ∨ i = 2 ∨ i = 3 ∨ i = 4) with rfl | rfl | rfl | rfl | rfl
   ·
    exact ⟨122, _, rfl, enters_of Tryz.func122 (by kernel_rfl) rfl, fun W hW => H1.out W _ _ 1 (by omega) ((C2.out.alloc _).keep hW) ((F2.out.keep (below_alloc W4 _)).keep hW)⟩
   ·
    exact ⟨123, _, rfl, enters_of Tryz.func123 (by kernel_rfl) rfl, fun W hW => H2.out hE W _ _ ((C3a.out.alloc _).keep hW) ((C3b.out.alloc _).keep hW)⟩
   ·
    exact ⟨72, _, rfl, enters_of Tryz.func72 (by kernel_rfl) rfl, fun W hW => H3.out hE W⟩
   ·
    exact ⟨123, _, rfl, enters_of Tryz.func123 (by kernel_rfl) rfl, fun W hW => H4.out hE W _ _ ((C4a.out.alloc _).keep hW) ((C4b.out.alloc _).keep hW)⟩
   ·
    exact ⟨70, _, rfl, enters_of Tryz.func70 (by kernel_rfl) rfl, fun W hW => H5.out hE W⟩)
 have HP := Lib.hid hp
 clear hp h1 h2 h3 h4 h5 hM hE hsk
 obtain ⟨r1, r2⟩ := two_ratios w (.string s1) (.string s2) (.string ⟨#[]⟩) (.string ⟨#[]⟩)
 have HB := Lib.hid ((below_alloc w (.cells #[.string s1, .string s2] 23)).alloc (by rw [World.size_alloc]; omega) (.cells #[.string ⟨#[]⟩, .string ⟨#[]⟩] 23))
 have a0 := r1.c0
 have a1 := r1.c1
 have HR := Lib.hid (And.intro r1 r2)
 clear r1 r2
 go_enter Tryz.func26, Tryz.ntmps26
 go_wp2_with (first | (go_at_call 65; (with_reducible refine (HP.out _).mono ?_); rintro e W1 ⟨rfl, B⟩; have hr := (And.intro (HR.out.1.keep B HR.out.1.lt) (HR.out.2.keep B HR.out.2.lt)); have hb := HB.out.trans (B.mono HB.out.size); clear HR HB B a0 a1; have HR := Lib.hid hr; have HB := Lib.hid hb; have a0 := hr.1.c0; have a1 := hr.1.c1; clear hr hb) | (go_at_call 67; (with_reducible refine (start_any _ _ _ _).mono ?_); rintro e W2 ⟨rfl, c2, B0⟩; have B := (below_alloc W1 (.cells #[.string s1, .string s2] 23)).trans (B0.mono (by rw [World.size_alloc]; omega)); have F2 := Lib.hid (show TC W2 W1.heap.size s1 s2 from (TC.new W1 s1 s2).keep B0); rw [World.size_alloc] at c2; have C2 := Lib.hid c2; clear B0 c2; have hr := (And.intro (HR.out.1.keep B HR.out.1.lt) (HR.out.2.keep B HR.out.2.lt)); have hb := HB.out.trans (B.mono HB.out.size); clear HR HB B a0 a1; have HR := Lib.hid hr; have HB := Lib.hid hb; have a0 := hr.1.c0; have a1 := hr.1.c1; clear hr hb) | (go_at_call 68; (with_reducible refine (qtimes_any T ⟨#[49]⟩ _).mono ?_); rintro e W3 ⟨rfl, c3, B⟩; have F2n := Lib.hid (F2.out.keep B); have C2n := Lib.hid (C2.out.keep B); clear F2 C2; have F2 := F2n; have C2 := C2n; clear F2n C2n; have C3a := Lib.hid c3.1; have C3b := Lib.hid c3.2; clear c3; have hr := (And.intro (HR.out.1.keep B HR.out.1.lt) (HR.out.2.keep B HR.out.2.lt)); have hb := HB.out.trans (B.mono HB.out.size); clear HR HB B a0 a1; have HR := Lib.hid hr; have HB := Lib.hid hb; have a0 := hr.1.c0; have a1 := hr.1.c1; clear hr hb) | (go_at_call 68; (with_reducible refine (qtimes_any ⟨#[49]⟩ T _).mono ?_); rintro e W4 ⟨rfl, c4, B⟩; have F2n := Lib.hid (F2.out.keep B); have C2n := Lib.hid (C2.out.keep B); have C3an := Lib.hid (C3a.out.keep B); have C3bn := Lib.hid (C3b.out.keep B); clear F2 C2 C3a C3b; have F2 := F2n; have C2 := C2n; have C3a := C3an; have C3b := C3bn; clear F2n C2n C3an C3bn; have C4a := Lib.hid c4.1; have C4b := Lib.hid c4.2; clear c4; have hr := (And.intro (HR.out.1.keep B HR.out.1.lt) (HR.out.2.keep B HR.out.2.lt)); have hb := HB.out.trans (B.mono HB.out.size); clear HR HB B a0 a1; have HR := Lib.hid hr; have HB := Lib.hid hb; have a0 := hr.1.c0; have a1 := hr.1.c1; clear hr hb) | (go_at_call 66; (with_reducible refine (HBC.out W1 W2 W3 W4 F2.out C2.out C3a.out C3b.out C4a.out C4b.out).mono ?_); rintro e W9 ⟨rfl, B0⟩; have B := (below_alloc W4 (.cells #[.func (.func 122) #[] #[.pointer (some ⟨W1.heap.size + 1, 0, none⟩)], .func (.func 123) #[] #[.pointer (some ⟨W2.heap.size, 0, none⟩), .pointer (some ⟨W2.heap.size + 1, 0, none⟩)], .func (.func 72) #[] #[], .func (.func 123) #[] #[.pointer (some ⟨W3.heap.size, 0, none⟩), .pointer (some ⟨W3.heap.size + 1, 0, none⟩)], .func (.func 70) #[] #[]] 85)).trans (B0.mono (by rw [World.size_alloc]; omega)); clear B0; have hr := (And.intro (HR.out.1.keep B HR.out.1.lt) (HR.out.2.keep B HR.out.2.lt)); have hb := HB.out.trans (B.mono HB.out.size); clear HR HB B a0 a1; have HR := Lib.hid hr; have HB := Lib.hid hb; have a0 := hr.1.c0; have a1 := hr.1.c1; have c0 := hr.2.c0; have c1 := hr.2.c1; have f0 := hr.2.f 0; have f1 := hr.2.f 1; have hs := hr.2.s0 (.string (M 5).1); have d1 := hs.c1; have g1 := hs.f 1; have HS := Lib.hid (hs.s1 (.string (M 5).2)); have HBS := Lib.hid ((hb.setCell (p := ⟨w.heap.size + 1, 0, none⟩) (by show w.heap.size ≤ w.heap.size + 1; omega) (.string (M 5).1)).setCell (p := ⟨w.heap.size + 1, 1, none⟩) (by show w.heap.size ≤ w.heap.size + 1; omega) (.string (M 5).2)); clear hr hb hs))
 refine bodyPost_ret (results_ratio rfl _ _ (w.heap.size + 1) _ _ rfl HS.out) rfl ?_
 exact ⟨rfl, HBS.out⟩
theorem start1k (s1 s2 : ByteArray) (L1 L2 : List UInt8) (hL1 : s1.data.toList = L1) (hL2 : s2.data.toList = L2) (hl1 : L1.length ≤ 60000) (hl2 : L2.length ≤ 60000)
  (W : World) (p g cap : Nat) (m : ByteArray × ByteArray) (hc : 1 ≤ cap) (hp : CS W p (.slice (some ⟨g, 0, none⟩) 1 cap)) (hf : TC W g s1 s2) :
  StepOK 122 #[.pointer (some ⟨p, 0, none⟩)] m (if vR L1 L2 = true then s1 else ⟨#[]⟩, if vR L1 L2 = true then s2 else ⟨#[]⟩) (if vR L1 L2 = true then 0 else 40) W :=
 start1_any m.1 m.2 p g 1 cap (fun _ => s1) (fun _ => s2) (fun _ => L1) (fun _ => L2) W (by decide) (by decide) hc hp hf.1
  (fun i hi => by
   obtain rfl : i = 0 := by omega
   exact ⟨hf.2.1, hf.2.2⟩)
  (fun i hi => ⟨hL1, hL2, hl1, hl2⟩) (vR L1 L2) ⟨fun h i hi => h, fun h => h 0 (by decide)⟩
theorem start_Rk (a : Rat) (ha : fitR 200 a) (W : World) (p g cap : Nat) (m : ByteArray × ByteArray) (hc : 1 ≤ cap) (hp : CS W p (.slice (some ⟨g, 0, none⟩) 1 cap)) (hf : TC W g (S a.num) (S a.den)) :
  StepOK 122 #[.pointer (some ⟨p, 0, none⟩)] m (S a.num, S a.den) 0 W := by
 have h := start1k _ _ _ _ (S_list a.num) (S_list a.den) (S_len ha.1) (S_len (den_abs a ha)) W p g cap m hc hp hf
 rw [vR_q a ha, if_pos rfl, if_pos rfl, if_pos rfl] at h
 exact h
theorem mul_no (x : Int) (hx : x.natAbs < 10 ^ 200) (W : World) :
  Calls Tryz.prog 124 #[.string (S x), .string ⟨#[]⟩] W fun e w' => e = .returned (.tuple #[.string ⟨#[]⟩, .int .i64 30]) ∧ Below W.heap.size W w' := by
 have h := Mul_any (S x) ⟨#[]⟩ (txt x) [] W (S_list x) rfl (S_len hx) (by decide)
 rw [show vld [] = false by decide, Bool.and_false, res_f, ree_f] at h
 exact h
theorem power_zero (p : Int) (h : ¬ (0 ≤ p ∧ p ≤ 30)) (W : World) : Calls Tryz.prog 65 #[.int .i64 p] W fun e w' => e = .returned (.string ⟨#[]⟩) ∧ Below W.heap.size W w' :=
 (power_no p W h).mono fun _ _ ⟨h1, h2⟩ => ⟨h1, h2 ▸ Below.refl _ _⟩
def okP (a : Rat) (p : Int) : Bool := decide (0 ≤ p ∧ p ≤ 30) && fits (a.num * ((10 ^ p.toNat : Nat) : Int))
theorem qDown_no (s1 s2 : ByteArray) (L1 L2 : List UInt8) (p : Int) (w : World) (hL1 : s1.data.toList = L1) (hL2 : s2.data.toList = L2) (hl1 : L1.length ≤ 60000) (hl2 : L2.length ≤ 60000) (hv : vR L1 L2 = false) :
  Calls Tryz.prog 24 #[.agg #[.string s1, .string s2], .int .i64 p] w fun e w' => e = .returned (.tuple #[RZ, .int .i64 40]) ∧ Below w.heap.size w w' := by
 have hT : ∃ T, ∀ W, Calls Tryz.prog 65 #[.int .i64 p] W fun e w' => e = .returned (.string T) ∧ Below W.heap.size W w' := by
  by_cases hp : 0 ≤ p ∧ p ≤ 30
  ·
   obtain ⟨n, rfl⟩ : ∃ n : Nat, p = n := ⟨p.toNat, by omega⟩
   exact ⟨_, fun W => power_ok n W (by omega)⟩
  ·
   exact ⟨_, power_zero p hp⟩
 obtain ⟨T, hT⟩ := hT
 exact qDown_walk s1 s2 T p (fun i => match i with | 0 => (⟨#[]⟩, ⟨#[]⟩) | _ => (⟨#[]⟩, ⟨#[]⟩)) (fun i => match i with | 0 => 0 | _ => 40) w rfl rfl (fun i hi h => by
   rcases (by omega : i = 0 ∨ i = 1 ∨ i = 2 ∨ i = 3 ∨ i = 4) with rfl | rfl | rfl | rfl | rfl <;> first | exact absurd rfl h | exact ⟨rfl, rfl⟩) hT
  (fun W p g cap hc hp hf => by
   have h := start1k s1 s2 L1 L2 hL1 hL2 hl1 hl2 W p g cap (⟨#[]⟩, ⟨#[]⟩) hc hp hf
   rw [hv, if_neg (by decide), if_neg (by decide), if_neg (by decide)] at h
   exact h) (fun h => absurd (show (40 : Int) = 0 from h) (by decide)) (fun h => absurd (show (40 : Int) = 0 from h) (by decide)) (fun h => absurd (show (40 : Int) = 0 from h) (by decide)) (fun h => absurd (show (40 : Int) = 0 from h) (by decide))
set_option maxHeartbeats 1000000 in
theorem qDown_R (a : Rat) (ha : fitR 200 a) (p : Int) (w : World) :
  Calls Tryz.prog 24 #[RV a, .int .i64 p] w fun e w' => e = .returned (opQ (okP a p) (mkRat (dnN a (10 ^ p.toNat)) (10 ^ p.toNat))) ∧ Below w.heap.size w w' := by
 have hA := den_abs a ha
 rw [okP]
 by_cases hp : 0 ≤ p ∧ p ≤ 30
 ·
  obtain ⟨n, rfl⟩ : ∃ n : Nat, p = n := ⟨p.toNat, by omega⟩
  rw [decide_eq_true hp, Bool.true_and, Int.toNat_natCast]
  have ht9 : (((10 ^ n : Nat)) : Int).natAbs < 10 ^ 200 := ten_lt (by omega)
  have hP := fun W => power_ok n W (by omega)
  have ht : ∀ W p q, CS W p (.string (S ((10 ^ n : Nat) : Int))) → CS W q (.string ⟨#[49]⟩) → _ := fun W p q cp cq => times1_any (S a.num) (S (a.den : Int)) (S ((10 ^ n : Nat) : Int)) (S 1) _ _ _ _ (er_two (a.num * ((10 ^ n : Nat) : Int))) (er_two ((a.den : Int) * 1)) p q W cp (by rw [S_one]; exact cq) (mul_rs a.num _ ha.1 ht9) (mul_rs a.den 1 hA (by decide))
  cases hx : fits (a.num * ((10 ^ n : Nat) : Int))
  ·
   have h := qDown_walk (S a.num) (S (a.den : Int)) (S ((10 ^ n : Nat) : Int)) n (fun i => match i with | 0 => (⟨#[]⟩, ⟨#[]⟩) | 1 => (S a.num, S (a.den : Int)) | _ => (⟨#[]⟩, ⟨#[]⟩)) (fun i => match i with | 0 => 0 | 1 => 0 | _ => 40) w rfl rfl (fun i hi h => by
   rcases (by omega : i = 0 ∨ i = 1 ∨ i = 2 ∨ i = 3 ∨ i = 4) with rfl | rfl | rfl | rfl | rfl <;> first | exact absurd rfl h | exact ⟨rfl, rfl⟩) hP
    (fun W p g cap hc hp hf => start_Rk a ha W p g cap _ hc hp hf)
    (fun _ W p q cp cq => by
     have h := ht W p q cp cq
     rw [er_n hx, if_neg (by omega), if_neg (by omega), if_neg (by omega)] at h
     exact h) (fun h => absurd (show (40 : Int) = 0 from h) (by decide)) (fun h => absurd (show (40 : Int) = 0 from h) (by decide)) (fun h => absurd (show (40 : Int) = 0 from h) (by decide))
   exact h
  ·
   have px := of_decide_eq_true hx
   have hd : fits ((a.den : Int) * 1) = true := by rw [Int.mul_one]; exact decide_eq_true hA
   have hq : ((dnN a (10 ^ n))).natAbs < 10 ^ 200 := by
    rw [dnN]; exact Nat.lt_of_le_of_lt (Int.natAbs_ediv_le_natAbs _ _) px
   have hq1 : fits ((dnN a (10 ^ n)) * 1) = true := by rw [Int.mul_one]; exact decide_eq_true hq
   have ht1 : fits (1 * ((10 ^ n : Nat) : Int)) = true := by rw [Int.one_mul]; exact decide_eq_true ht9
   have t0 : ((10 ^ n : Nat) : Int) ≠ 0 := by have := ten_pos n; omega
   have h := qDown_walk (S a.num) (S (a.den : Int)) (S ((10 ^ n : Nat) : Int)) n (fun i => match i with | 0 => (⟨#[]⟩, ⟨#[]⟩) | 1 => (S a.num, S (a.den : Int)) | 2 => (S (a.num * ((10 ^ n : Nat) : Int)), S (a.den : Int)) | 3 => (S (dnN a (10 ^ n)), ⟨#[49]⟩) | 4 => (S (dnN a (10 ^ n)), S ((10 ^ n : Nat) : Int)) | _ => (S (Rat.divInt (dnN a (10 ^ n)) ((10 ^ n : Nat) : Int)).num, S ((Rat.divInt (dnN a (10 ^ n)) ((10 ^ n : Nat) : Int)).den : Int))) (fun i => match i with | 0 => 0 | _ => 0) w rfl rfl (fun i hi h => by
   rcases (by omega : i = 0 ∨ i = 1 ∨ i = 2 ∨ i = 3 ∨ i = 4) with rfl | rfl | rfl | rfl | rfl <;> first | exact absurd rfl h | exact ⟨rfl, rfl⟩) hP
    (fun W p g cap hc hp hf => start_Rk a ha W p g cap _ hc hp hf)
    (fun _ W p q cp cq => by
     have h := ht W p q cp cq
     rw [er_f hx, er_f hd, if_pos ⟨rfl, rfl⟩, if_pos ⟨rfl, rfl⟩, if_pos ⟨rfl, rfl⟩, rs_f hx, rs_f hd, Int.mul_one] at h
     exact h)
    (fun _ W => floor_S (a.num * ((10 ^ n : Nat) : Int)) a.den W px hA (by have := den_pos a; omega))
    (fun _ W p q cp cq => by
     have h := times1_any (S (dnN a (10 ^ n))) (S 1) (S 1) (S ((10 ^ n : Nat) : Int)) _ _ _ _ (er_two ((dnN a (10 ^ n)) * 1)) (er_two (1 * ((10 ^ n : Nat) : Int))) p q W (by rw [S_one]; exact cp) cq (mul_rs _ 1 hq (by decide)) (mul_rs 1 _ (by decide) ht9)
     rw [er_f hq1, er_f ht1, if_pos ⟨rfl, rfl⟩, if_pos ⟨rfl, rfl⟩, if_pos ⟨rfl, rfl⟩, rs_f hq1, rs_f ht1, Int.mul_one, Int.one_mul, S_one] at h
     exact h)
    (fun _ W => reduced_R _ _ hq ht9 t0 W)
   rw [← Rat.divInt_ofNat]; exact h
 ·
  rw [decide_eq_false hp, Bool.false_and]
  exact qDown_walk (S a.num) (S (a.den : Int)) ⟨#[]⟩ p (fun i => match i with | 0 => (⟨#[]⟩, ⟨#[]⟩) | 1 => (S a.num, S (a.den : Int)) | _ => (⟨#[]⟩, ⟨#[]⟩)) (fun i => match i with | 0 => 0 | 1 => 0 | _ => 40) w rfl rfl (fun i hi h => by
   rcases (by omega : i = 0 ∨ i = 1 ∨ i = 2 ∨ i = 3 ∨ i = 4) with rfl | rfl | rfl | rfl | rfl <;> first | exact absurd rfl h | exact ⟨rfl, rfl⟩) (power_zero p hp)
   (fun W p g cap hc hp hf => start_Rk a ha W p g cap _ hc hp hf)
   (fun _ W p q cp cq => by
    have h := times1_any (S a.num) (S (a.den : Int)) ⟨#[]⟩ (S 1) ⟨#[]⟩ _ 30 _ (.inr rfl) (er_two ((a.den : Int) * 1)) p q W cp (by rw [S_one]; exact cq) (mul_no a.num ha.1) (mul_rs a.den 1 hA (by decide))
    rw [if_neg (by omega), if_neg (by omega), if_neg (by omega)] at h
    exact h) (fun h => absurd (show (40 : Int) = 0 from h) (by decide)) (fun h => absurd (show (40 : Int) = 0 from h) (by decide)) (fun h => absurd (show (40 : Int) = 0 from h) (by decide))
theorem qUp_no (s1 s2 : ByteArray) (L1 L2 : List UInt8) (p : Int) (w : World) (hL1 : s1.data.toList = L1) (hL2 : s2.data.toList = L2) (hl1 : L1.length ≤ 60000) (hl2 : L2.length ≤ 60000) (hv : vR L1 L2 = false) :
  Calls Tryz.prog 26 #[.agg #[.string s1, .string s2], .int .i64 p] w fun e w' => e = .returned (.tuple #[RZ, .int .i64 40]) ∧ Below w.heap.size w w' := by
 have hT : ∃ T, ∀ W, Calls Tryz.prog 65 #[.int .i64 p] W fun e w' => e = .returned (.string T) ∧ Below W.heap.size W w' := by
  by_cases hp : 0 ≤ p ∧ p ≤ 30
  ·
   obtain ⟨n, rfl⟩ : ∃ n : Nat, p = n := ⟨p.toNat, by omega⟩
   exact ⟨_, fun W => power_ok n W (by omega)⟩
  ·
   exact ⟨_, power_zero p hp⟩
 obtain ⟨T, hT⟩ := hT
 exact qUp_walk s1 s2 T p (fun i => match i with | 0 => (⟨#[]⟩, ⟨#[]⟩) | _ => (⟨#[]⟩, ⟨#[]⟩)) (fun i => match i with | 0 => 0 | _ => 40) w rfl rfl (fun i hi h => by
   rcases (by omega : i = 0 ∨ i = 1 ∨ i = 2 ∨ i = 3 ∨ i = 4) with rfl | rfl | rfl | rfl | rfl <;> first | exact absurd rfl h | exact ⟨rfl, rfl⟩) hT
  (fun W p g cap hc hp hf => by
   have h := start1k s1 s2 L1 L2 hL1 hL2 hl1 hl2 W p g cap (⟨#[]⟩, ⟨#[]⟩) hc hp hf
   rw [hv, if_neg (by decide), if_neg (by decide), if_neg (by decide)] at h
   exact h) (fun h => absurd (show (40 : Int) = 0 from h) (by decide)) (fun h => absurd (show (40 : Int) = 0 from h) (by decide)) (fun h => absurd (show (40 : Int) = 0 from h) (by decide)) (fun h => absurd (show (40 : Int) = 0 from h) (by decide))
set_option maxHeartbeats 1000000 in
theorem qUp_R (a : Rat) (ha : fitR 200 a) (p : Int) (w : World) :
  Calls Tryz.prog 26 #[RV a, .int .i64 p] w fun e w' => e = .returned (opQ (okP a p) (mkRat (upN a (10 ^ p.toNat)) (10 ^ p.toNat))) ∧ Below w.heap.size w w' := by
 have hA := den_abs a ha
 rw [okP]
 by_cases hp : 0 ≤ p ∧ p ≤ 30
 ·
  obtain ⟨n, rfl⟩ : ∃ n : Nat, p = n := ⟨p.toNat, by omega⟩
  rw [decide_eq_true hp, Bool.true_and, Int.toNat_natCast]
  have ht9 : (((10 ^ n : Nat)) : Int).natAbs < 10 ^ 200 := ten_lt (by omega)
  have hP := fun W => power_ok n W (by omega)
  have ht : ∀ W p q, CS W p (.string (S ((10 ^ n : Nat) : Int))) → CS W q (.string ⟨#[49]⟩) → _ := fun W p q cp cq => times1_any (S a.num) (S (a.den : Int)) (S ((10 ^ n : Nat) : Int)) (S 1) _ _ _ _ (er_two (a.num * ((10 ^ n : Nat) : Int))) (er_two ((a.den : Int) * 1)) p q W cp (by rw [S_one]; exact cq) (mul_rs a.num _ ha.1 ht9) (mul_rs a.den 1 hA (by decide))
  cases hx : fits (a.num * ((10 ^ n : Nat) : Int))
  ·
   have h := qUp_walk (S a.num) (S (a.den : Int)) (S ((10 ^ n : Nat) : Int)) n (fun i => match i with | 0 => (⟨#[]⟩, ⟨#[]⟩) | 1 => (S a.num, S (a.den : Int)) | _ => (⟨#[]⟩, ⟨#[]⟩)) (fun i => match i with | 0 => 0 | 1 => 0 | _ => 40) w rfl rfl (fun i hi h => by
   rcases (by omega : i = 0 ∨ i = 1 ∨ i = 2 ∨ i = 3 ∨ i = 4) with rfl | rfl | rfl | rfl | rfl <;> first | exact absurd rfl h | exact ⟨rfl, rfl⟩) hP
    (fun W p g cap hc hp hf => start_Rk a ha W p g cap _ hc hp hf)
    (fun _ W p q cp cq => by
     have h := ht W p q cp cq
     rw [er_n hx, if_neg (by omega), if_neg (by omega), if_neg (by omega)] at h
     exact h) (fun h => absurd (show (40 : Int) = 0 from h) (by decide)) (fun h => absurd (show (40 : Int) = 0 from h) (by decide)) (fun h => absurd (show (40 : Int) = 0 from h) (by decide))
   exact h
  ·
   have px := of_decide_eq_true hx
   have hd : fits ((a.den : Int) * 1) = true := by rw [Int.mul_one]; exact decide_eq_true hA
   have hq : ((upN a (10 ^ n))).natAbs < 10 ^ 200 := by
    rw [upN]
    by_cases h : (a.num * ((10 ^ n : Nat) : Int)) % (a.den : Int) = 0
    ·
     rw [if_pos h]; exact Nat.lt_of_le_of_lt (Int.natAbs_ediv_le_natAbs _ _) px
    ·
     rw [if_neg h]; exact (up_fit px (den_pos a) h).1
   have hq1 : fits ((upN a (10 ^ n)) * 1) = true := by rw [Int.mul_one]; exact decide_eq_true hq
   have ht1 : fits (1 * ((10 ^ n : Nat) : Int)) = true := by rw [Int.one_mul]; exact decide_eq_true ht9
   have t0 : ((10 ^ n : Nat) : Int) ≠ 0 := by have := ten_pos n; omega
   have h := qUp_walk (S a.num) (S (a.den : Int)) (S ((10 ^ n : Nat) : Int)) n (fun i => match i with | 0 => (⟨#[]⟩, ⟨#[]⟩) | 1 => (S a.num, S (a.den : Int)) | 2 => (S (a.num * ((10 ^ n : Nat) : Int)), S (a.den : Int)) | 3 => (S (upN a (10 ^ n)), ⟨#[49]⟩) | 4 => (S (upN a (10 ^ n)), S ((10 ^ n : Nat) : Int)) | _ => (S (Rat.divInt (upN a (10 ^ n)) ((10 ^ n : Nat) : Int)).num, S ((Rat.divInt (upN a (10 ^ n)) ((10 ^ n : Nat) : Int)).den : Int))) (fun i => match i with | 0 => 0 | _ => 0) w rfl rfl (fun i hi h => by
   rcases (by omega : i = 0 ∨ i = 1 ∨ i = 2 ∨ i = 3 ∨ i = 4) with rfl | rfl | rfl | rfl | rfl <;> first | exact absurd rfl h | exact ⟨rfl, rfl⟩) hP
    (fun W p g cap hc hp hf => start_Rk a ha W p g cap _ hc hp hf)
    (fun _ W p q cp cq => by
     have h := ht W p q cp cq
     rw [er_f hx, er_f hd, if_pos ⟨rfl, rfl⟩, if_pos ⟨rfl, rfl⟩, if_pos ⟨rfl, rfl⟩, rs_f hx, rs_f hd, Int.mul_one] at h
     exact h)
    (fun _ W => ceiling_S (a.num * ((10 ^ n : Nat) : Int)) a.den W px hA (den_pos a))
    (fun _ W p q cp cq => by
     have h := times1_any (S (upN a (10 ^ n))) (S 1) (S 1) (S ((10 ^ n : Nat) : Int)) _ _ _ _ (er_two ((upN a (10 ^ n)) * 1)) (er_two (1 * ((10 ^ n : Nat) : Int))) p q W (by rw [S_one]; exact cp) cq (mul_rs _ 1 hq (by decide)) (mul_rs 1 _ (by decide) ht9)
     rw [er_f hq1, er_f ht1, if_pos ⟨rfl, rfl⟩, if_pos ⟨rfl, rfl⟩, if_pos ⟨rfl, rfl⟩, rs_f hq1, rs_f ht1, Int.mul_one, Int.one_mul, S_one] at h
     exact h)
    (fun _ W => reduced_R _ _ hq ht9 t0 W)
   rw [← Rat.divInt_ofNat]; exact h
 ·
  rw [decide_eq_false hp, Bool.false_and]
  exact qUp_walk (S a.num) (S (a.den : Int)) ⟨#[]⟩ p (fun i => match i with | 0 => (⟨#[]⟩, ⟨#[]⟩) | 1 => (S a.num, S (a.den : Int)) | _ => (⟨#[]⟩, ⟨#[]⟩)) (fun i => match i with | 0 => 0 | 1 => 0 | _ => 40) w rfl rfl (fun i hi h => by
   rcases (by omega : i = 0 ∨ i = 1 ∨ i = 2 ∨ i = 3 ∨ i = 4) with rfl | rfl | rfl | rfl | rfl <;> first | exact absurd rfl h | exact ⟨rfl, rfl⟩) (power_zero p hp)
   (fun W p g cap hc hp hf => start_Rk a ha W p g cap _ hc hp hf)
   (fun _ W p q cp cq => by
    have h := times1_any (S a.num) (S (a.den : Int)) ⟨#[]⟩ (S 1) ⟨#[]⟩ _ 30 _ (.inr rfl) (er_two ((a.den : Int) * 1)) p q W cp (by rw [S_one]; exact cq) (mul_no a.num ha.1) (mul_rs a.den 1 hA (by decide))
    rw [if_neg (by omega), if_neg (by omega), if_neg (by omega)] at h
    exact h) (fun h => absurd (show (40 : Int) = 0 from h) (by decide)) (fun h => absurd (show (40 : Int) = 0 from h) (by decide)) (fun h => absurd (show (40 : Int) = 0 from h) (by decide))
theorem cmpN_sub (x y : Int) : cmpN x y = cmpN (x - y) 0 := by
 unfold cmpN
 repeat' split
 all_goals omega
theorem cmp_diff (n1 d1 n2 d2 : Int) : n1 * d2 - n2 * d1 = (n1 / d1 - n2 / d2) * (d1 * d2) + ((n1 % d1) * d2 - (n2 % d2) * d1) := by
 have h1 := Int.mul_ediv_add_emod n1 d1
 have h2 := Int.mul_ediv_add_emod n2 d2
 generalize n1 / d1 = q1 at *
 generalize n2 / d2 = q2 at *
 generalize n1 % d1 = r1 at *
 generalize n2 % d2 = r2 at *
 subst h1 h2
 rw [Int.add_mul, Int.add_mul, Int.sub_mul]
 have e1 : d1 * q1 * d2 = q1 * (d1 * d2) := by rw [Int.mul_comm d1 q1, Int.mul_assoc]
 have e2 : d2 * q2 * d1 = q2 * (d1 * d2) := by rw [Int.mul_comm d2 q2, Int.mul_assoc, Int.mul_comm d2 d1]
 rw [e1, e2]; omega
theorem cmp_step1 (n1 d1 n2 d2 : Int) (h1 : 0 < d1) (h2 : 0 < d2) (h : n1 / d1 ≠ n2 / d2) : cmpN (n1 / d1) (n2 / d2) = cmpN (n1 * d2) (n2 * d1) ∧ cmpN (n1 * d2) (n2 * d1) ≠ 0 := by
 have hd := cmp_diff n1 d1 n2 d2
 have a1 := Int.emod_nonneg n1 (show d1 ≠ 0 by omega)
 have a2 := Int.emod_lt_of_pos n1 h1
 have b1 := Int.emod_nonneg n2 (show d2 ≠ 0 by omega)
 have b2 := Int.emod_lt_of_pos n2 h2
 generalize n1 / d1 = q1 at *
 generalize n2 / d2 = q2 at *
 generalize n1 % d1 = r1 at *
 generalize n2 % d2 = r2 at *
 have hP : 0 < d1 * d2 := Int.mul_pos h1 h2
 have m1 : r1 * d2 < d1 * d2 := Int.mul_lt_mul_of_pos_right a2 h2
 have m2 : 0 ≤ r1 * d2 := Int.mul_nonneg a1 (by omega)
 have m3 : r2 * d1 < d1 * d2 := by rw [Int.mul_comm d1 d2]; exact Int.mul_lt_mul_of_pos_right b2 h1
 have m4 : 0 ≤ r2 * d1 := Int.mul_nonneg b1 (by omega)
 rw [cmpN_sub (n1 * d2), hd]
 rcases Int.lt_or_gt_of_ne h with hl | hl
 ·
  have m5 : (q1 - q2) * (d1 * d2) ≤ (-1) * (d1 * d2) := Int.mul_le_mul_of_nonneg_right (by omega) (by omega)
  have k : (q1 - q2) * (d1 * d2) + (r1 * d2 - r2 * d1) < 0 := by omega
  rw [cmpN, if_pos hl, cmpN, if_pos k]; decide
 ·
  have m5 : 1 * (d1 * d2) ≤ (q1 - q2) * (d1 * d2) := Int.mul_le_mul_of_nonneg_right (by omega) (by omega)
  have k : 0 < (q1 - q2) * (d1 * d2) + (r1 * d2 - r2 * d1) := by omega
  rw [cmpN, if_neg (by omega), if_pos hl, cmpN, if_neg (by omega), if_pos k]; decide
theorem cmp_step2 (n1 d1 n2 d2 : Int) (_ : 0 < d1) (_ : 0 < d2) (h : n1 / d1 = n2 / d2) : cmpN (d2 * (n1 % d1)) (d1 * (n2 % d2)) = cmpN (n1 * d2) (n2 * d1) := by
 rw [cmpN_sub (n1 * d2), cmp_diff, h, Int.sub_self, Int.zero_mul, Int.zero_add, ← cmpN_sub, Int.mul_comm d2, Int.mul_comm d1]
theorem cmp_step3 (n1 d1 n2 d2 : Int) (h1 : 0 < d1) (h2 : 0 < d2) (h : n1 / d1 = n2 / d2) (h0 : n1 % d1 = 0 ∨ n2 % d2 = 0) : cmpN (n1 % d1) (n2 % d2) = cmpN (n1 * d2) (n2 * d1) := by
 rw [← cmp_step2 n1 d1 n2 d2 h1 h2 h]
 have a1 := Int.emod_nonneg n1 (show d1 ≠ 0 by omega)
 have b1 := Int.emod_nonneg n2 (show d2 ≠ 0 by omega)
 generalize n1 % d1 = r1 at *
 generalize n2 % d2 = r2 at *
 rcases h0 with rfl | rfl
 ·
  rw [Int.mul_zero]
  by_cases hr : r2 = 0
  ·
   rw [hr, Int.mul_zero]
  ·
   have := Int.mul_pos h1 (show 0 < r2 by omega)
   rw [cmpN, if_pos (by omega), cmpN, if_pos this]
 ·
  rw [Int.mul_zero]
  by_cases hr : r1 = 0
  ·
   rw [hr, Int.mul_zero]
  ·
   have := Int.mul_pos h2 (show 0 < r1 by omega)
   rw [cmpN, if_neg (by omega), if_pos (by omega), cmpN, if_neg (by omega), if_pos this]
theorem RBlk.other {w : World} {g : Nat} {x y : Value} (h : RBlk w g x y) (p : Addr) (v : Value) (hp : g ≠ p.block) : RBlk (w.setCell p v) g x y := (heap_setCell_other w p g v hp).trans h
def cellD (w : World) (g : Nat) : Nat := match w.cell? ⟨g, 1, none⟩ with | some (.string s) => (num s.data.toList).toNat | _ => 0
theorem cellD_of {w : World} {g : Nat} {x : Value} {d : Int} (h : RBlk w g x (.string (S d))) : cellD w g = d.toNat := by
 rw [cellD, h.c1]
 show (num (S d).data.toList).toNat = _
 rw [S_list, txt_num]
theorem S_eq0 (z : Int) : ((S z).toList == [48]) = decide (z = 0) := by
 rw [ByteArray.toList_eq, S_list, show ([48] : List UInt8) = txt 0 by rw [← S_list, S_zero]]
 by_cases h : z = 0
 ·
  subst h; simp
 ·
  rw [decide_eq_false h, beq_eq_false_iff_ne]
  exact fun e => h (txt_inj e)
set_option maxRecDepth 100000 in
set_option maxHeartbeats 2000000 in
theorem qCompare_no (s1 s2 s3 s4 : ByteArray) (L1 L2 L3 L4 : List UInt8) (w : World) (hL1 : s1.data.toList = L1) (hL2 : s2.data.toList = L2) (hL3 : s3.data.toList = L3) (hL4 : s4.data.toList = L4) (hl1 : L1.length ≤ 60000) (hl2 : L2.length ≤ 60000) (hl3 : L3.length ≤ 60000) (hl4 : L4.length ≤ 60000) (hv : (vR L1 L2 && vR L3 L4) = false) :
  Calls Tryz.prog 21 #[.agg #[.string s1, .string s2], .agg #[.string s3, .string s4]] w fun e w' => e = .returned (.int .i64 0) ∧ Below w.heap.size w w' := by
 have c1 := fun W => qValid_any s1 s2 L1 L2 W hL1 hL2 hl1 hl2
 have c2 := fun W => qValid_any s3 s4 L3 L4 W hL3 hL4 hl3 hl4
 obtain ⟨r1, r2⟩ := two_ratios w (.string s1) (.string s2) (.string s3) (.string s4)
 have HB := Lib.hid ((below_alloc w (.cells #[.string s1, .string s2] 23)).alloc (by rw [World.size_alloc]; omega) (.cells #[.string s3, .string s4] 23))
 have a0 := r1.c0
 have a1 := r1.c1
 have b0 := r2.c0
 have b1 := r2.c1
 have HR := Lib.hid (And.intro r1 r2)
 clear r1 r2 hL1 hL2 hL3 hL4 hl1 hl2 hl3 hl4
 generalize vR L1 L2 = v1 at *
 generalize vR L3 L4 = v2 at *
 have C1 := Lib.hid c1
 have C2 := Lib.hid c2
 clear c1 c2
 cases v1 <;> cases v2 <;> first | (exact absurd hv (by decide)) | skip
 all_goals
  clear hv
  go_enter Tryz.func21, Tryz.ntmps21
  go_wp2
  refine wp_scope_jumps 0 (fun _ _ => False) (fun _ _ => 0) rfl ?_ (fun _ _ h => h.elim)
  go_wp2_with (first | (go_at_call 30; (with_reducible refine (C1.out _).mono ?_); rintro e W ⟨rfl, B⟩; have hr := (And.intro (HR.out.1.keep B HR.out.1.lt) (HR.out.2.keep B HR.out.2.lt)); have hb := HB.out.trans (B.mono HB.out.size); clear HR HB B a0 a1 b0 b1; have HR := Lib.hid hr; have HB := Lib.hid hb; have a0 := hr.1.c0; have a1 := hr.1.c1; have b0 := hr.2.c0; have b1 := hr.2.c1; clear hr hb) | (go_at_call 30; (with_reducible refine (C2.out _).mono ?_); rintro e W ⟨rfl, B⟩; have hr := (And.intro (HR.out.1.keep B HR.out.1.lt) (HR.out.2.keep B HR.out.2.lt)); have hb := HB.out.trans (B.mono HB.out.size); clear HR HB B a0 a1 b0 b1; have HR := Lib.hid hr; have HB := Lib.hid hb; have a0 := hr.1.c0; have a1 := hr.1.c1; have b0 := hr.2.c0; have b1 := hr.2.c1; clear hr hb))
  simp only [Exit.jump]
  go_ret
  exact ⟨rfl, HB.out⟩
set_option maxRecDepth 100000 in
set_option maxHeartbeats 8000000 in
theorem qCompare_S (n1 d1 n2 d2 R : Int) (w : World) (v1' : vR (txt n1) (txt d1) = true) (v2' : vR (txt n2) (txt d2) = true) (p1 : 0 < d1) (p2 : 0 < d2) (b1' : n1.natAbs < 10 ^ 200) (b2' : d1.natAbs < 10 ^ 200) (b3' : n2.natAbs < 10 ^ 200) (b4' : d2.natAbs < 10 ^ 200) (hR : cmpN (n1 * d2) (n2 * d1) = R) :
  Calls Tryz.prog 21 #[.agg #[.string (S n1), .string (S d1)], .agg #[.string (S n2), .string (S d2)]] w fun e w' => e = .returned (.int .i64 R) ∧ Below w.heap.size w w' := by
 have cv1 := fun W => qValid_any (S n1) (S d1) (txt n1) (txt d1) W (S_list _) (S_list _) (S_len b1') (S_len b2')
 have cv2 := fun W => qValid_any (S n2) (S d2) (txt n2) (txt d2) W (S_list _) (S_list _) (S_len b3') (S_len b4')
 rw [v1'] at cv1
 rw [v2'] at cv2
 clear v1' v2'
 obtain ⟨r1, r2⟩ := two_ratios w (.string (S n1)) (.string (S d1)) (.string (S n2)) (.string (S d2))
 have HB := Lib.hid ((below_alloc w (.cells #[.string (S n1), .string (S d1)] 23)).alloc (by rw [World.size_alloc]; omega) (.cells #[.string (S n2), .string (S d2)] 23))
 have a0 := r1.c0
 have a1 := r1.c1
 have b0 := r2.c0
 have b1 := r2.c1
 have HR := Lib.hid (And.intro r1 r2)
 have CV1 := Lib.hid cv1
 have CV2 := Lib.hid cv2
 clear r1 r2 cv1 cv2
 go_enter Tryz.func21, Tryz.ntmps21
 go_wp2
 refine wp_scope_jumps 0 (fun a' w' => (∃ (v0 v1 u5 u6 u7 u8 u9 u10 u11 u12 u13 u14 u15 u16 u17 u18 u19 u20 u21 u22 u23 u24 u25 u26 u27 u28 u29 u30 u31 u32 u33 u34 u35 u36 u37 u38 u39 u40 u41 u42 u43 u44 u45 u46 u47 u48 u49 u50 u51 u52 u53 u54 u55 u56 u57 u58 u59 u60 : Value), a' = { tmps := #[v0, v1, .pointer (some ⟨w.heap.size, 0, none⟩), .pointer (some ⟨w.heap.size + 1, 0, none⟩), .int .i64 0, u5, u6, u7, u8, u9, u10, u11, u12, u13, u14, u15, u16, u17, u18, u19, u20, u21, u22, u23, u24, u25, u26, u27, u28, u29, u30, u31, u32, u33, u34, u35, u36, u37, u38, u39, u40, u41, u42, u43, u44, u45, u46, u47, u48, u49, u50, u51, u52, u53, u54, u55, u56, u57, u58, u59, u60], defers := [] }) ∧ Hid (∃ n1 d1 n2 d2 : Int, RBlk w' w.heap.size (.string (S n1)) (.string (S d1)) ∧ RBlk w' (w.heap.size + 1) (.string (S n2)) (.string (S d2)) ∧ 0 < d1 ∧ 0 < d2 ∧ n1.natAbs < 10 ^ 200 ∧ d1.natAbs < 10 ^ 200 ∧ n2.natAbs < 10 ^ 200 ∧ d2.natAbs < 10 ^ 200 ∧ cmpN (n1 * d2) (n2 * d1) = R) ∧ Hid (Below w.heap.size w w')) (fun _ w' => cellD w' w.heap.size + cellD w' (w.heap.size + 1)) rfl ?_ ?_
 ·
  skip
  have q1b : (n1 / d1).natAbs < 10 ^ 200 := Nat.lt_of_le_of_lt (Int.natAbs_ediv_le_natAbs _ _) b1'
  have q2b : (n2 / d2).natAbs < 10 ^ 200 := Nat.lt_of_le_of_lt (Int.natAbs_ediv_le_natAbs _ _) b3'
  have r1b : (n1 % d1).natAbs < 10 ^ 200 := by have := Int.emod_nonneg n1 (show d1 ≠ 0 by omega); have := Int.emod_lt_of_pos n1 p1; omega
  have r2b : (n2 % d2).natAbs < 10 ^ 200 := by have := Int.emod_nonneg n2 (show d2 ≠ 0 by omega); have := Int.emod_lt_of_pos n2 p2; omega
  have cA := fun W => Div_S n1 d1 b1' b2' (by omega) W
  have cB := fun W => Div_S n2 d2 b3' b4' (by omega) W
  by_cases hq : n1 / d1 = n2 / d2
  ·
   have cq := fun W => Compare_S (n1 / d1) (n2 / d2) q1b q2b W
   rw [show cmpN (n1 / d1) (n2 / d2) = 0 by rw [hq, cmpN, if_neg (by omega), if_neg (by omega)]] at cq
   have hs2 := cmp_step2 n1 d1 n2 d2 p1 p2 hq
   have hs3 := cmp_step3 n1 d1 n2 d2 p1 p2 hq
   by_cases h0 : n1 % d1 = 0 ∨ n2 % d2 = 0
   ·
    have cr := fun W => Compare_S (n1 % d1) (n2 % d2) r1b r2b W
    rw [hs3 h0, hR] at cr
    have ht : ((S (n1 % d1)).toList == [48]) = true ∨ (((S (n1 % d1)).toList == [48]) = false ∧ ((S (n2 % d2)).toList == [48]) = true) := by
     rw [S_eq0, S_eq0]
     by_cases h : n1 % d1 = 0
     ·
      exact .inl (decide_eq_true h)
     ·
      exact .inr ⟨decide_eq_false h, decide_eq_true (h0.resolve_left h)⟩
    clear hs2 hs3 h0 hq hR
    generalize S (n1 / d1) = sq1 at *
    generalize S (n2 / d2) = sq2 at *
    generalize S (n1 % d1) = srA at *
    generalize S (n2 % d2) = srB at *
    generalize S n1 = sn1 at *
    generalize S d1 = sd1 at *
    generalize S n2 = sn2 at *
    generalize S d2 = sd2 at *
    have CA := Lib.hid cA
    have CB := Lib.hid cB
    have CQ := Lib.hid cq
    have CR := Lib.hid cr
    clear cA cB cq cr q1b q2b r1b r2b p1 p2 b1' b2' b3' b4'
    rcases ht with ht | ⟨ht, ht2⟩
    all_goals
     go_wp2_with (first | (go_at_call 30; (with_reducible refine (CV1.out _).mono ?_); rintro e W ⟨rfl, B⟩; have hr := (And.intro (HR.out.1.keep B HR.out.1.lt) (HR.out.2.keep B HR.out.2.lt)); have hb := HB.out.trans (B.mono HB.out.size); clear HR HB B a0 a1 b0 b1; have HR := Lib.hid hr; have HB := Lib.hid hb; have a0 := hr.1.c0; have a1 := hr.1.c1; have b0 := hr.2.c0; have b1 := hr.2.c1; clear hr hb) | (go_at_call 30; (with_reducible refine (CV2.out _).mono ?_); rintro e W ⟨rfl, B⟩; have hr := (And.intro (HR.out.1.keep B HR.out.1.lt) (HR.out.2.keep B HR.out.2.lt)); have hb := HB.out.trans (B.mono HB.out.size); clear HR HB B a0 a1 b0 b1; have HR := Lib.hid hr; have HB := Lib.hid hb; have a0 := hr.1.c0; have a1 := hr.1.c1; have b0 := hr.2.c0; have b1 := hr.2.c1; clear hr hb))
     go_step3
     go_wp2_with (first | (go_at_call 60; (with_reducible refine (CA.out _).mono ?_); rintro e W ⟨rfl, B⟩; have hr := (And.intro (HR.out.1.keep B HR.out.1.lt) (HR.out.2.keep B HR.out.2.lt)); have hb := HB.out.trans (B.mono HB.out.size); clear HR HB B a0 a1 b0 b1; have HR := Lib.hid hr; have HB := Lib.hid hb; have a0 := hr.1.c0; have a1 := hr.1.c1; have b0 := hr.2.c0; have b1 := hr.2.c1; clear hr hb) | (go_at_call 60; (with_reducible refine (CB.out _).mono ?_); rintro e W ⟨rfl, B⟩; have hr := (And.intro (HR.out.1.keep B HR.out.1.lt) (HR.out.2.keep B HR.out.2.lt)); have hb := HB.out.trans (B.mono HB.out.size); clear HR HB B a0 a1 b0 b1; have HR := Lib.hid hr; have HB := Lib.hid hb; have a0 := hr.1.c0; have a1 := hr.1.c1; have b0 := hr.2.c0; have b1 := hr.2.c1; clear hr hb) | (go_at_call 61; (with_reducible refine (CQ.out _).mono ?_); rintro e W ⟨rfl, B⟩; have hr := (And.intro (HR.out.1.keep B HR.out.1.lt) (HR.out.2.keep B HR.out.2.lt)); have hb := HB.out.trans (B.mono HB.out.size); clear HR HB B a0 a1 b0 b1; have HR := Lib.hid hr; have HB := Lib.hid hb; have a0 := hr.1.c0; have a1 := hr.1.c1; have b0 := hr.2.c0; have b1 := hr.2.c1; clear hr hb) | (go_at_call 61; (with_reducible refine (CR.out _).mono ?_); rintro e W ⟨rfl, B⟩; have hr := (And.intro (HR.out.1.keep B HR.out.1.lt) (HR.out.2.keep B HR.out.2.lt)); have hb := HB.out.trans (B.mono HB.out.size); clear HR HB B a0 a1 b0 b1; have HR := Lib.hid hr; have HB := Lib.hid hb; have a0 := hr.1.c0; have a1 := hr.1.c1; have b0 := hr.2.c0; have b1 := hr.2.c1; clear hr hb))
     simp only [Exit.jump]
     go_ret
     exact ⟨rfl, HB.out⟩
   ·
    have hA : n1 % d1 ≠ 0 := fun h => h0 (.inl h)
    have hB' : n2 % d2 ≠ 0 := fun h => h0 (.inr h)
    have ht : ((S (n1 % d1)).toList == [48]) = false := by rw [S_eq0]; exact decide_eq_false hA
    have ht2 : ((S (n2 % d2)).toList == [48]) = false := by rw [S_eq0]; exact decide_eq_false hB'
    have a1 := Int.emod_nonneg n1 (show d1 ≠ 0 by omega)
    have a2 := Int.emod_lt_of_pos n1 p1
    have e1 := Int.emod_nonneg n2 (show d2 ≠ 0 by omega)
    have e2 := Int.emod_lt_of_pos n2 p2
    have hJ : Hid (0 < n2 % d2 ∧ 0 < n1 % d1 ∧ d2.natAbs < 10 ^ 200 ∧ (n2 % d2).natAbs < 10 ^ 200 ∧ d1.natAbs < 10 ^ 200 ∧ (n1 % d1).natAbs < 10 ^ 200 ∧ cmpN (d2 * (n1 % d1)) (d1 * (n2 % d2)) = R) := Lib.hid ⟨by omega, by omega, b4', r2b, b2', r1b, by rw [hs2, hR]⟩
    have hM : Hid ((n2 % d2).toNat + (n1 % d1).toNat < d1.toNat + d2.toNat) := Lib.hid (by omega)
    clear a1 a2 e1 e2 hs2 hs3 h0 hq hR hA hB'
    generalize hsq1 : S (n1 / d1) = sq1 at *
    generalize hsq2 : S (n2 / d2) = sq2 at *
    generalize hrA : S (n1 % d1) = srA at *
    generalize hrB : S (n2 % d2) = srB at *
    generalize hn1 : S n1 = sn1 at *
    generalize hd1 : S d1 = sd1 at *
    generalize hn2 : S n2 = sn2 at *
    generalize hd2 : S d2 = sd2 at *
    have HE := Lib.hid (And.intro hrA (And.intro hrB (And.intro hd1 hd2)))
    have CA := Lib.hid cA
    have CB := Lib.hid cB
    have CQ := Lib.hid cq
    clear cA cB cq q1b q2b r1b r2b p1 p2 b1' b2' b3' b4' hsq1 hsq2 hrA hrB hn1 hd1 hn2 hd2
    go_wp2_with (first | (go_at_call 30; (with_reducible refine (CV1.out _).mono ?_); rintro e W ⟨rfl, B⟩; have hr := (And.intro (HR.out.1.keep B HR.out.1.lt) (HR.out.2.keep B HR.out.2.lt)); have hb := HB.out.trans (B.mono HB.out.size); clear HR HB B a0 a1 b0 b1; have HR := Lib.hid hr; have HB := Lib.hid hb; have a0 := hr.1.c0; have a1 := hr.1.c1; have b0 := hr.2.c0; have b1 := hr.2.c1; clear hr hb) | (go_at_call 30; (with_reducible refine (CV2.out _).mono ?_); rintro e W ⟨rfl, B⟩; have hr := (And.intro (HR.out.1.keep B HR.out.1.lt) (HR.out.2.keep B HR.out.2.lt)); have hb := HB.out.trans (B.mono HB.out.size); clear HR HB B a0 a1 b0 b1; have HR := Lib.hid hr; have HB := Lib.hid hb; have a0 := hr.1.c0; have a1 := hr.1.c1; have b0 := hr.2.c0; have b1 := hr.2.c1; clear hr hb))
    go_step3
    go_wp2_with (first | (go_at_call 60; (with_reducible refine (CA.out _).mono ?_); rintro e W ⟨rfl, B⟩; have hr := (And.intro (HR.out.1.keep B HR.out.1.lt) (HR.out.2.keep B HR.out.2.lt)); have hb := HB.out.trans (B.mono HB.out.size); clear HR HB B a0 a1 b0 b1; have HR := Lib.hid hr; have HB := Lib.hid hb; have a0 := hr.1.c0; have a1 := hr.1.c1; have b0 := hr.2.c0; have b1 := hr.2.c1; clear hr hb) | (go_at_call 60; (with_reducible refine (CB.out _).mono ?_); rintro e W ⟨rfl, B⟩; have hr := (And.intro (HR.out.1.keep B HR.out.1.lt) (HR.out.2.keep B HR.out.2.lt)); have hb := HB.out.trans (B.mono HB.out.size); clear HR HB B a0 a1 b0 b1; have HR := Lib.hid hr; have HB := Lib.hid hb; have a0 := hr.1.c0; have a1 := hr.1.c1; have b0 := hr.2.c0; have b1 := hr.2.c1; clear hr hb) | (go_at_call 61; (with_reducible refine (CQ.out _).mono ?_); rintro e W ⟨rfl, B⟩; have hr := (And.intro (HR.out.1.keep B HR.out.1.lt) (HR.out.2.keep B HR.out.2.lt)); have hb := HB.out.trans (B.mono HB.out.size); clear HR HB B a0 a1 b0 b1; have HR := Lib.hid hr; have HB := Lib.hid hb; have a0 := hr.1.c0; have a1 := hr.1.c1; have b0 := hr.2.c0; have b1 := hr.2.c1; have fa0 := hr.1.f 0; have fa1 := hr.1.f 1; have s1 := hr.1.s0 (.string sd2); have da := s1.c1; have ga := s1.f 1; have s2 := s1.s1 (.string srB); have t0 := (hr.2.other ⟨w.heap.size, 0, none⟩ (.string sd2) (by show w.heap.size + 1 ≠ w.heap.size; omega)).other ⟨w.heap.size, 1, none⟩ (.string srB) (by show w.heap.size + 1 ≠ w.heap.size; omega); have e0 := t0.c0; have ef0 := t0.f 0; have t1 := t0.s0 (.string sd1); have e1 := t1.c1; have ef1 := t1.f 1; have HS := Lib.hid (And.intro ((s2.other ⟨w.heap.size + 1, 0, none⟩ (.string sd1) (by show w.heap.size ≠ w.heap.size + 1; omega)).other ⟨w.heap.size + 1, 1, none⟩ (.string srA) (by show w.heap.size ≠ w.heap.size + 1; omega)) (t1.s1 (.string srA))); have HBS := Lib.hid ((((hb.setCell (p := ⟨w.heap.size, 0, none⟩) (Nat.le_refl _) (.string sd2)).setCell (p := ⟨w.heap.size, 1, none⟩) (Nat.le_refl _) (.string srB)).setCell (p := ⟨w.heap.size + 1, 0, none⟩) (by show w.heap.size ≤ w.heap.size + 1; omega) (.string sd1)).setCell (p := ⟨w.heap.size + 1, 1, none⟩) (by show w.heap.size ≤ w.heap.size + 1; omega) (.string srA)); clear s1 s2 t0 t1 hr hb))
    go_step3
    obtain ⟨g1, g2, g3, g4⟩ := HE.out
    have HS2 := HS.out
    rw [← g1, ← g2, ← g3, ← g4] at HS2
    refine ⟨rfl, ⟨_, _, _, _, _, _, _, _, _, _, _, _, _, _, _, _, _, _, _, _, _, _, _, _, _, _, _, _, _, _, _, _, _, _, _, _, _, _, _, _, _, _, _, _, _, _, _, _, _, _, _, _, _, _, _, _, _, _, rfl⟩, ?_, ?_⟩
    ·
     rw [← g1, ← g2, ← g3, ← g4]; exact Lib.hid ⟨d2, n2 % d2, d1, n1 % d1, HS2.1, HS2.2, hJ.out.1, hJ.out.2.1, hJ.out.2.2.1, hJ.out.2.2.2.1, hJ.out.2.2.2.2.1, hJ.out.2.2.2.2.2.1, hJ.out.2.2.2.2.2.2⟩
    ·
     exact HBS
  ·
   have cq := fun W => Compare_S (n1 / d1) (n2 / d2) q1b q2b W
   have hs1 := cmp_step1 n1 d1 n2 d2 p1 p2 hq
   rw [hR] at hs1
   rw [hs1.1] at cq
   have hne := hs1.2
   generalize S (n1 / d1) = sq1 at *
   generalize S (n2 / d2) = sq2 at *
   generalize S (n1 % d1) = srA at *
   generalize S (n2 % d2) = srB at *
   generalize S n1 = sn1 at *
   generalize S d1 = sd1 at *
   generalize S n2 = sn2 at *
   generalize S d2 = sd2 at *
   have CA := Lib.hid cA
   have CB := Lib.hid cB
   have CQ := Lib.hid cq
   clear cA cB cq q1b q2b r1b r2b p1 p2 b1' b2' b3' b4' hs1 hq hR
   go_wp2_with (first | (go_at_call 30; (with_reducible refine (CV1.out _).mono ?_); rintro e W ⟨rfl, B⟩; have hr := (And.intro (HR.out.1.keep B HR.out.1.lt) (HR.out.2.keep B HR.out.2.lt)); have hb := HB.out.trans (B.mono HB.out.size); clear HR HB B a0 a1 b0 b1; have HR := Lib.hid hr; have HB := Lib.hid hb; have a0 := hr.1.c0; have a1 := hr.1.c1; have b0 := hr.2.c0; have b1 := hr.2.c1; clear hr hb) | (go_at_call 30; (with_reducible refine (CV2.out _).mono ?_); rintro e W ⟨rfl, B⟩; have hr := (And.intro (HR.out.1.keep B HR.out.1.lt) (HR.out.2.keep B HR.out.2.lt)); have hb := HB.out.trans (B.mono HB.out.size); clear HR HB B a0 a1 b0 b1; have HR := Lib.hid hr; have HB := Lib.hid hb; have a0 := hr.1.c0; have a1 := hr.1.c1; have b0 := hr.2.c0; have b1 := hr.2.c1; clear hr hb))
   go_step3
   go_wp2_with (first | (go_at_call 60; (with_reducible refine (CA.out _).mono ?_); rintro e W ⟨rfl, B⟩; have hr := (And.intro (HR.out.1.keep B HR.out.1.lt) (HR.out.2.keep B HR.out.2.lt)); have hb := HB.out.trans (B.mono HB.out.size); clear HR HB B a0 a1 b0 b1; have HR := Lib.hid hr; have HB := Lib.hid hb; have a0 := hr.1.c0; have a1 := hr.1.c1; have b0 := hr.2.c0; have b1 := hr.2.c1; clear hr hb) | (go_at_call 60; (with_reducible refine (CB.out _).mono ?_); rintro e W ⟨rfl, B⟩; have hr := (And.intro (HR.out.1.keep B HR.out.1.lt) (HR.out.2.keep B HR.out.2.lt)); have hb := HB.out.trans (B.mono HB.out.size); clear HR HB B a0 a1 b0 b1; have HR := Lib.hid hr; have HB := Lib.hid hb; have a0 := hr.1.c0; have a1 := hr.1.c1; have b0 := hr.2.c0; have b1 := hr.2.c1; clear hr hb) | (go_at_call 61; (with_reducible refine (CQ.out _).mono ?_); rintro e W ⟨rfl, B⟩; have hr := (And.intro (HR.out.1.keep B HR.out.1.lt) (HR.out.2.keep B HR.out.2.lt)); have hb := HB.out.trans (B.mono HB.out.size); clear HR HB B a0 a1 b0 b1; have HR := Lib.hid hr; have HB := Lib.hid hb; have a0 := hr.1.c0; have a1 := hr.1.c1; have b0 := hr.2.c0; have b1 := hr.2.c1; clear hr hb))
   simp only [Exit.jump]
   go_ret
   exact ⟨rfl, HB.out⟩
 ·
  clear HB HR a0 a1 b0 b1 CV1 CV2 hR p1 p2 b1' b2' b3' b4' n1 d1 n2 d2
  rintro a' w' ⟨⟨v0, v1, u5, u6, u7, u8, u9, u10, u11, u12, u13, u14, u15, u16, u17, u18, u19, u20, u21, u22, u23, u24, u25, u26, u27, u28, u29, u30, u31, u32, u33, u34, u35, u36, u37, u38, u39, u40, u41, u42, u43, u44, u45, u46, u47, u48, u49, u50, u51, u52, u53, u54, u55, u56, u57, u58, u59, u60, rfl⟩, hst, HB⟩
  obtain ⟨n1, d1, n2, d2, r1, r2, p1, p2, b1', b2', b3', b4', hR⟩ := hst.out
  have a0 := r1.c0
  have a1 := r1.c1
  have b0 := r2.c0
  have b1 := r2.c1
  have HR := Lib.hid (And.intro r1 r2)
  have HMU := Lib.hid (show cellD w' w.heap.size + cellD w' (w.heap.size + 1) = d1.toNat + d2.toNat by rw [cellD_of r1, cellD_of r2])
  clear r1 r2 hst
  have q1b : (n1 / d1).natAbs < 10 ^ 200 := Nat.lt_of_le_of_lt (Int.natAbs_ediv_le_natAbs _ _) b1'
  have q2b : (n2 / d2).natAbs < 10 ^ 200 := Nat.lt_of_le_of_lt (Int.natAbs_ediv_le_natAbs _ _) b3'
  have r1b : (n1 % d1).natAbs < 10 ^ 200 := by have := Int.emod_nonneg n1 (show d1 ≠ 0 by omega); have := Int.emod_lt_of_pos n1 p1; omega
  have r2b : (n2 % d2).natAbs < 10 ^ 200 := by have := Int.emod_nonneg n2 (show d2 ≠ 0 by omega); have := Int.emod_lt_of_pos n2 p2; omega
  have cA := fun W => Div_S n1 d1 b1' b2' (by omega) W
  have cB := fun W => Div_S n2 d2 b3' b4' (by omega) W
  by_cases hq : n1 / d1 = n2 / d2
  ·
   have cq := fun W => Compare_S (n1 / d1) (n2 / d2) q1b q2b W
   rw [show cmpN (n1 / d1) (n2 / d2) = 0 by rw [hq, cmpN, if_neg (by omega), if_neg (by omega)]] at cq
   have hs2 := cmp_step2 n1 d1 n2 d2 p1 p2 hq
   have hs3 := cmp_step3 n1 d1 n2 d2 p1 p2 hq
   by_cases h0 : n1 % d1 = 0 ∨ n2 % d2 = 0
   ·
    have cr := fun W => Compare_S (n1 % d1) (n2 % d2) r1b r2b W
    rw [hs3 h0, hR] at cr
    have ht : ((S (n1 % d1)).toList == [48]) = true ∨ (((S (n1 % d1)).toList == [48]) = false ∧ ((S (n2 % d2)).toList == [48]) = true) := by
     rw [S_eq0, S_eq0]
     by_cases h : n1 % d1 = 0
     ·
      exact .inl (decide_eq_true h)
     ·
      exact .inr ⟨decide_eq_false h, decide_eq_true (h0.resolve_left h)⟩
    clear hs2 hs3 h0 hq hR
    generalize S (n1 / d1) = sq1 at *
    generalize S (n2 / d2) = sq2 at *
    generalize S (n1 % d1) = srA at *
    generalize S (n2 % d2) = srB at *
    generalize S n1 = sn1 at *
    generalize S d1 = sd1 at *
    generalize S n2 = sn2 at *
    generalize S d2 = sd2 at *
    have CA := Lib.hid cA
    have CB := Lib.hid cB
    have CQ := Lib.hid cq
    have CR := Lib.hid cr
    clear cA cB cq cr q1b q2b r1b r2b p1 p2 b1' b2' b3' b4'
    rcases ht with ht | ⟨ht, ht2⟩
    all_goals
     go_wp2_with (first | (go_at_call 60; (with_reducible refine (CA.out _).mono ?_); rintro e W ⟨rfl, B⟩; have hr := (And.intro (HR.out.1.keep B HR.out.1.lt) (HR.out.2.keep B HR.out.2.lt)); have hb := HB.out.trans (B.mono HB.out.size); clear HR HB B a0 a1 b0 b1; have HR := Lib.hid hr; have HB := Lib.hid hb; have a0 := hr.1.c0; have a1 := hr.1.c1; have b0 := hr.2.c0; have b1 := hr.2.c1; clear hr hb) | (go_at_call 60; (with_reducible refine (CB.out _).mono ?_); rintro e W ⟨rfl, B⟩; have hr := (And.intro (HR.out.1.keep B HR.out.1.lt) (HR.out.2.keep B HR.out.2.lt)); have hb := HB.out.trans (B.mono HB.out.size); clear HR HB B a0 a1 b0 b1; have HR := Lib.hid hr; have HB := Lib.hid hb; have a0 := hr.1.c0; have a1 := hr.1.c1; have b0 := hr.2.c0; have b1 := hr.2.c1; clear hr hb) | (go_at_call 61; (with_reducible refine (CQ.out _).mono ?_); rintro e W ⟨rfl, B⟩; have hr := (And.intro (HR.out.1.keep B HR.out.1.lt) (HR.out.2.keep B HR.out.2.lt)); have hb := HB.out.trans (B.mono HB.out.size); clear HR HB B a0 a1 b0 b1; have HR := Lib.hid hr; have HB := Lib.hid hb; have a0 := hr.1.c0; have a1 := hr.1.c1; have b0 := hr.2.c0; have b1 := hr.2.c1; clear hr hb) | (go_at_call 61; (with_reducible refine (CR.out _).mono ?_); rintro e W ⟨rfl, B⟩; have hr := (And.intro (HR.out.1.keep B HR.out.1.lt) (HR.out.2.keep B HR.out.2.lt)); have hb := HB.out.trans (B.mono HB.out.size); clear HR HB B a0 a1 b0 b1; have HR := Lib.hid hr; have HB := Lib.hid hb; have a0 := hr.1.c0; have a1 := hr.1.c1; have b0 := hr.2.c0; have b1 := hr.2.c1; clear hr hb))
     simp only [Exit.jump]
     go_ret
     exact ⟨rfl, HB.out⟩
   ·
    have hA : n1 % d1 ≠ 0 := fun h => h0 (.inl h)
    have hB' : n2 % d2 ≠ 0 := fun h => h0 (.inr h)
    have ht : ((S (n1 % d1)).toList == [48]) = false := by rw [S_eq0]; exact decide_eq_false hA
    have ht2 : ((S (n2 % d2)).toList == [48]) = false := by rw [S_eq0]; exact decide_eq_false hB'
    have a1 := Int.emod_nonneg n1 (show d1 ≠ 0 by omega)
    have a2 := Int.emod_lt_of_pos n1 p1
    have e1 := Int.emod_nonneg n2 (show d2 ≠ 0 by omega)
    have e2 := Int.emod_lt_of_pos n2 p2
    have hJ : Hid (0 < n2 % d2 ∧ 0 < n1 % d1 ∧ d2.natAbs < 10 ^ 200 ∧ (n2 % d2).natAbs < 10 ^ 200 ∧ d1.natAbs < 10 ^ 200 ∧ (n1 % d1).natAbs < 10 ^ 200 ∧ cmpN (d2 * (n1 % d1)) (d1 * (n2 % d2)) = R) := Lib.hid ⟨by omega, by omega, b4', r2b, b2', r1b, by rw [hs2, hR]⟩
    have hM : Hid ((n2 % d2).toNat + (n1 % d1).toNat < d1.toNat + d2.toNat) := Lib.hid (by omega)
    clear a1 a2 e1 e2 hs2 hs3 h0 hq hR hA hB'
    generalize hsq1 : S (n1 / d1) = sq1 at *
    generalize hsq2 : S (n2 / d2) = sq2 at *
    generalize hrA : S (n1 % d1) = srA at *
    generalize hrB : S (n2 % d2) = srB at *
    generalize hn1 : S n1 = sn1 at *
    generalize hd1 : S d1 = sd1 at *
    generalize hn2 : S n2 = sn2 at *
    generalize hd2 : S d2 = sd2 at *
    have HE := Lib.hid (And.intro hrA (And.intro hrB (And.intro hd1 hd2)))
    have CA := Lib.hid cA
    have CB := Lib.hid cB
    have CQ := Lib.hid cq
    clear cA cB cq q1b q2b r1b r2b p1 p2 b1' b2' b3' b4' hsq1 hsq2 hrA hrB hn1 hd1 hn2 hd2
    go_wp2_with (first | (go_at_call 60; (with_reducible refine (CA.out _).mono ?_); rintro e W ⟨rfl, B⟩; have hr := (And.intro (HR.out.1.keep B HR.out.1.lt) (HR.out.2.keep B HR.out.2.lt)); have hb := HB.out.trans (B.mono HB.out.size); clear HR HB B a0 a1 b0 b1; have HR := Lib.hid hr; have HB := Lib.hid hb; have a0 := hr.1.c0; have a1 := hr.1.c1; have b0 := hr.2.c0; have b1 := hr.2.c1; clear hr hb) | (go_at_call 60; (with_reducible refine (CB.out _).mono ?_); rintro e W ⟨rfl, B⟩; have hr := (And.intro (HR.out.1.keep B HR.out.1.lt) (HR.out.2.keep B HR.out.2.lt)); have hb := HB.out.trans (B.mono HB.out.size); clear HR HB B a0 a1 b0 b1; have HR := Lib.hid hr; have HB := Lib.hid hb; have a0 := hr.1.c0; have a1 := hr.1.c1; have b0 := hr.2.c0; have b1 := hr.2.c1; clear hr hb) | (go_at_call 61; (with_reducible refine (CQ.out _).mono ?_); rintro e W ⟨rfl, B⟩; have hr := (And.intro (HR.out.1.keep B HR.out.1.lt) (HR.out.2.keep B HR.out.2.lt)); have hb := HB.out.trans (B.mono HB.out.size); clear HR HB B a0 a1 b0 b1; have HR := Lib.hid hr; have HB := Lib.hid hb; have a0 := hr.1.c0; have a1 := hr.1.c1; have b0 := hr.2.c0; have b1 := hr.2.c1; have fa0 := hr.1.f 0; have fa1 := hr.1.f 1; have s1 := hr.1.s0 (.string sd2); have da := s1.c1; have ga := s1.f 1; have s2 := s1.s1 (.string srB); have t0 := (hr.2.other ⟨w.heap.size, 0, none⟩ (.string sd2) (by show w.heap.size + 1 ≠ w.heap.size; omega)).other ⟨w.heap.size, 1, none⟩ (.string srB) (by show w.heap.size + 1 ≠ w.heap.size; omega); have e0 := t0.c0; have ef0 := t0.f 0; have t1 := t0.s0 (.string sd1); have e1 := t1.c1; have ef1 := t1.f 1; have HS := Lib.hid (And.intro ((s2.other ⟨w.heap.size + 1, 0, none⟩ (.string sd1) (by show w.heap.size ≠ w.heap.size + 1; omega)).other ⟨w.heap.size + 1, 1, none⟩ (.string srA) (by show w.heap.size ≠ w.heap.size + 1; omega)) (t1.s1 (.string srA))); have HBS := Lib.hid ((((hb.setCell (p := ⟨w.heap.size, 0, none⟩) (Nat.le_refl _) (.string sd2)).setCell (p := ⟨w.heap.size, 1, none⟩) (Nat.le_refl _) (.string srB)).setCell (p := ⟨w.heap.size + 1, 0, none⟩) (by show w.heap.size ≤ w.heap.size + 1; omega) (.string sd1)).setCell (p := ⟨w.heap.size + 1, 1, none⟩) (by show w.heap.size ≤ w.heap.size + 1; omega) (.string srA)); clear s1 s2 t0 t1 hr hb))
    go_step3
    obtain ⟨g1, g2, g3, g4⟩ := HE.out
    have HS2 := HS.out
    rw [← g1, ← g2, ← g3, ← g4] at HS2
    refine ⟨rfl, ⟨⟨_, _, _, _, _, _, _, _, _, _, _, _, _, _, _, _, _, _, _, _, _, _, _, _, _, _, _, _, _, _, _, _, _, _, _, _, _, _, _, _, _, _, _, _, _, _, _, _, _, _, _, _, _, _, _, _, _, _, rfl⟩, ?_, ?_⟩, ?_⟩
    ·
     rw [← g1, ← g2, ← g3, ← g4]; exact Lib.hid ⟨d2, n2 % d2, d1, n1 % d1, HS2.1, HS2.2, hJ.out.1, hJ.out.2.1, hJ.out.2.2.1, hJ.out.2.2.2.1, hJ.out.2.2.2.2.1, hJ.out.2.2.2.2.2.1, hJ.out.2.2.2.2.2.2⟩
    ·
     exact HBS
    ·
     rw [← g1, ← g2, ← g3, ← g4, cellD_of HS2.1, cellD_of HS2.2, HMU.out]
     exact hM.out
  ·
   have cq := fun W => Compare_S (n1 / d1) (n2 / d2) q1b q2b W
   have hs1 := cmp_step1 n1 d1 n2 d2 p1 p2 hq
   rw [hR] at hs1
   rw [hs1.1] at cq
   have hne := hs1.2
   generalize S (n1 / d1) = sq1 at *
   generalize S (n2 / d2) = sq2 at *
   generalize S (n1 % d1) = srA at *
   generalize S (n2 % d2) = srB at *
   generalize S n1 = sn1 at *
   generalize S d1 = sd1 at *
   generalize S n2 = sn2 at *
   generalize S d2 = sd2 at *
   have CA := Lib.hid cA
   have CB := Lib.hid cB
   have CQ := Lib.hid cq
   clear cA cB cq q1b q2b r1b r2b p1 p2 b1' b2' b3' b4' hs1 hq hR
   go_wp2_with (first | (go_at_call 60; (with_reducible refine (CA.out _).mono ?_); rintro e W ⟨rfl, B⟩; have hr := (And.intro (HR.out.1.keep B HR.out.1.lt) (HR.out.2.keep B HR.out.2.lt)); have hb := HB.out.trans (B.mono HB.out.size); clear HR HB B a0 a1 b0 b1; have HR := Lib.hid hr; have HB := Lib.hid hb; have a0 := hr.1.c0; have a1 := hr.1.c1; have b0 := hr.2.c0; have b1 := hr.2.c1; clear hr hb) | (go_at_call 60; (with_reducible refine (CB.out _).mono ?_); rintro e W ⟨rfl, B⟩; have hr := (And.intro (HR.out.1.keep B HR.out.1.lt) (HR.out.2.keep B HR.out.2.lt)); have hb := HB.out.trans (B.mono HB.out.size); clear HR HB B a0 a1 b0 b1; have HR := Lib.hid hr; have HB := Lib.hid hb; have a0 := hr.1.c0; have a1 := hr.1.c1; have b0 := hr.2.c0; have b1 := hr.2.c1; clear hr hb) | (go_at_call 61; (with_reducible refine (CQ.out _).mono ?_); rintro e W ⟨rfl, B⟩; have hr := (And.intro (HR.out.1.keep B HR.out.1.lt) (HR.out.2.keep B HR.out.2.lt)); have hb := HB.out.trans (B.mono HB.out.size); clear HR HB B a0 a1 b0 b1; have HR := Lib.hid hr; have HB := Lib.hid hb; have a0 := hr.1.c0; have a1 := hr.1.c1; have b0 := hr.2.c0; have b1 := hr.2.c1; clear hr hb))
   simp only [Exit.jump]
   go_ret
   exact ⟨rfl, HB.out⟩
set_option maxRecDepth 100000 in
set_option maxHeartbeats 2000000 in
theorem qMake_via (s1 s2 x y : ByteArray) (ev : Int) (w : World) (h : ∀ W, Calls Tryz.prog 70 #[.agg #[.string s1, .string s2]] W fun e w' => e = .returned (.tuple #[.agg #[.string x, .string y], .int .i64 ev]) ∧ Below W.heap.size W w') :
  Calls Tryz.prog 28 #[.string s1, .string s2] w fun e w' => e = .returned (.tuple #[.agg #[.string x, .string y], .int .i64 ev]) ∧ Below w.heap.size w w' := by
 have HR := Lib.hid (RBlk.new w (.string ⟨#[]⟩) (.string ⟨#[]⟩))
 have HB := Lib.hid (below_alloc w (.cells #[.string ⟨#[]⟩, .string ⟨#[]⟩] 23))
 have H := Lib.hid h
 clear h
 go_enter Tryz.func28, Tryz.ntmps28
 go_wp2_with (go_at_call 70; (with_reducible refine (H.out _).mono ?_); rintro e W ⟨rfl, B⟩; have hr := (HR.out.keep B HR.out.lt); have hb := HB.out.trans (B.mono HB.out.size); clear HR HB B ; have HR := Lib.hid hr; have HB := Lib.hid hb; have c0 := hr.c0; have c1 := hr.c1; have f0 := hr.f 0; have f1 := hr.f 1; have hs := hr.s0 (.string x); have d1 := hs.c1; have g1 := hs.f 1; have HS := Lib.hid (hs.s1 (.string y)); have HBS := Lib.hid ((hb.setCell (p := ⟨w.heap.size, 0, none⟩) (by show w.heap.size ≤ w.heap.size; omega) (.string x)).setCell (p := ⟨w.heap.size, 1, none⟩) (by show w.heap.size ≤ w.heap.size; omega) (.string y)); clear hr hb hs)
 refine bodyPost_ret (results_ratio rfl _ _ w.heap.size _ _ rfl HS.out) rfl ?_
 exact ⟨rfl, HBS.out⟩
theorem qMake_no (s1 s2 : ByteArray) (L1 L2 : List UInt8) (w : World) (hL1 : s1.data.toList = L1) (hL2 : s2.data.toList = L2) (hl1 : L1.length ≤ 60000) (hl2 : L2.length ≤ 60000) (hv : (vld L1 && vld L2) = true → num L2 = 0) :
  Calls Tryz.prog 28 #[.string s1, .string s2] w fun e w' => e = .returned (.tuple #[RZ, .int .i64 40]) ∧ Below w.heap.size w w' :=
 qMake_via s1 s2 ⟨#[]⟩ ⟨#[]⟩ 40 w fun W => reduced_no s1 s2 L1 L2 W hL1 hL2 hl1 hl2 hv
theorem qMake_R (n d : Int) (w : World) (hn : n.natAbs < 10 ^ 200) (hd : d.natAbs < 10 ^ 200) (h0 : d ≠ 0) :
  Calls Tryz.prog 28 #[.string (S n), .string (S d)] w fun e w' => e = .returned (.tuple #[RV (Rat.divInt n d), .int .i64 0]) ∧ Below w.heap.size w w' :=
 qMake_via (S n) (S d) _ _ 0 w fun W => reduced_R n d hn hd h0 W
set_option maxRecDepth 100000 in
set_option maxHeartbeats 2000000 in
theorem qOf_via (n d ev : Int) (x y : ByteArray) (w : World) (hn : -9223372036854775808 ≤ n ∧ n ≤ 9223372036854775807) (hd : -9223372036854775808 ≤ d ∧ d ≤ 9223372036854775807) (hT : Tz w)
  (h : ∀ W, Calls Tryz.prog 28 #[.string (S n), .string (S d)] W fun e w' => e = .returned (.tuple #[.agg #[.string x, .string y], .int .i64 ev]) ∧ Below W.heap.size W w') :
  Calls Tryz.prog 32 #[.int .i64 n, .int .i64 d] w fun e w' => e = .returned (.tuple #[.agg #[.string x, .string y], .int .i64 ev]) ∧ Below w.heap.size w w' := by
 have HR := Lib.hid (RBlk.new w (.string ⟨#[]⟩) (.string ⟨#[]⟩))
 have hb := below_alloc w (.cells #[.string ⟨#[]⟩, .string ⟨#[]⟩] 23)
 have HT := Lib.hid (hT.below hb)
 have HB := Lib.hid hb
 have H := Lib.hid h
 have F1 := Lib.hid (fun W (hW : Tz W) => FromInt_any n W hn.1 hn.2 hW)
 have F2 := Lib.hid (fun W (hW : Tz W) => FromInt_any d W hd.1 hd.2 hW)
 clear h hT hb hn hd
 generalize S n = sn at *
 generalize S d = sd at *
 go_enter Tryz.func32, Tryz.ntmps32
 go_wp2_with (first | (go_at_call 76; (with_reducible refine (F1.out _ HT.out).mono ?_); rintro e W ⟨rfl, B⟩; have HTn := Lib.hid (HT.out.below B); clear HT; have HT := HTn; clear HTn; have hr := (HR.out.keep B HR.out.lt); have hb := HB.out.trans (B.mono HB.out.size); clear HR HB B ; have HR := Lib.hid hr; have HB := Lib.hid hb; clear hr hb) | (go_at_call 76; (with_reducible refine (F2.out _ HT.out).mono ?_); rintro e W ⟨rfl, B⟩; have HTn := Lib.hid (HT.out.below B); clear HT; have HT := HTn; clear HTn; have hr := (HR.out.keep B HR.out.lt); have hb := HB.out.trans (B.mono HB.out.size); clear HR HB B ; have HR := Lib.hid hr; have HB := Lib.hid hb; clear hr hb) | (go_at_call 28; (with_reducible refine (H.out _).mono ?_); rintro e W ⟨rfl, B⟩; have hr := (HR.out.keep B HR.out.lt); have hb := HB.out.trans (B.mono HB.out.size); clear HR HB B ; have HR := Lib.hid hr; have HB := Lib.hid hb; have c0 := hr.c0; have c1 := hr.c1; have f0 := hr.f 0; have f1 := hr.f 1; have hs := hr.s0 (.string x); have d1 := hs.c1; have g1 := hs.f 1; have HS := Lib.hid (hs.s1 (.string y)); have HBS := Lib.hid ((hb.setCell (p := ⟨w.heap.size, 0, none⟩) (by show w.heap.size ≤ w.heap.size; omega) (.string x)).setCell (p := ⟨w.heap.size, 1, none⟩) (by show w.heap.size ≤ w.heap.size; omega) (.string y)); clear hr hb hs))
 refine bodyPost_ret (results_ratio rfl _ _ w.heap.size _ _ rfl HS.out) rfl ?_
 exact ⟨rfl, HBS.out⟩
theorem qOf_R (n d : Int) (w : World) (hn : -9223372036854775808 ≤ n ∧ n ≤ 9223372036854775807) (hd : -9223372036854775808 ≤ d ∧ d ≤ 9223372036854775807) (hT : Tz w) (h0 : d ≠ 0) :
  Calls Tryz.prog 32 #[.int .i64 n, .int .i64 d] w fun e w' => e = .returned (.tuple #[RV (Rat.divInt n d), .int .i64 0]) ∧ Below w.heap.size w w' :=
 qOf_via n d 0 _ _ w hn hd hT fun W => qMake_R n d W (by omega) (by omega) h0
theorem qOf_Z (n : Int) (w : World) (hn : -9223372036854775808 ≤ n ∧ n ≤ 9223372036854775807) (hT : Tz w) :
  Calls Tryz.prog 32 #[.int .i64 n, .int .i64 0] w fun e w' => e = .returned (.tuple #[RZ, .int .i64 40]) ∧ Below w.heap.size w w' :=
 qOf_via n 0 40 _ _ w hn (by omega) hT fun W => qMake_no (S n) (S 0) (txt n) (txt 0) W (S_list n) (S_list 0) (S_len (by omega)) (S_len (by decide)) (fun _ => txt_num 0)
def prt (a : Rat) : ByteArray := if a.den = 1 then S a.num else S a.num ++ ⟨#[47]⟩ ++ S (a.den : Int)
theorem S_size2 {z : Int} (h : z.natAbs < 10 ^ 200) : (S z).size ≤ 201 := by
 have := (vld_digits (txt_vld h)).2.2
 rw [show (S z).size = (txt z).length by simp [S, ByteArray.size]]
 exact this
set_option maxRecDepth 100000 in
set_option maxHeartbeats 2000000 in
theorem qPrint_no (s1 s2 : ByteArray) (L1 L2 : List UInt8) (w : World) (hL1 : s1.data.toList = L1) (hL2 : s2.data.toList = L2) (hl1 : L1.length ≤ 60000) (hl2 : L2.length ≤ 60000) (hv : vR L1 L2 = false) :
  Calls Tryz.prog 34 #[.agg #[.string s1, .string s2]] w fun e w' => e = .returned (.string ⟨#[]⟩) ∧ Below w.heap.size w w' := by
 have cv := fun W => qValid_any s1 s2 L1 L2 W hL1 hL2 hl1 hl2
 rw [hv] at cv
 have CV := Lib.hid cv
 have r := RBlk.new w (.string s1) (.string s2)
 have HB := Lib.hid (below_alloc w (.cells #[.string s1, .string s2] 23))
 have a0 := r.c0
 have a1 := r.c1
 have HR := Lib.hid r
 clear r cv hL1 hL2 hl1 hl2 hv
 go_enter Tryz.func34, Tryz.ntmps34
 go_wp2_with (go_at_call 30; (with_reducible refine (CV.out _).mono ?_); rintro e W ⟨rfl, B⟩; have hr := (HR.out.keep B HR.out.lt); have hb := HB.out.trans (B.mono HB.out.size); clear HR HB B a0 a1; have HR := Lib.hid hr; have HB := Lib.hid hb; have a0 := hr.c0; have a1 := hr.c1; clear hr hb)
 go_ret
 exact ⟨rfl, HB.out⟩
set_option maxRecDepth 100000 in
set_option maxHeartbeats 2000000 in
theorem qPrint_R (a : Rat) (ha : fitR 200 a) (w : World) :
  Calls Tryz.prog 34 #[RV a] w fun e w' => e = .returned (.string (prt a)) ∧ Below w.heap.size w w' := by
 have hA := den_abs a ha
 have cv := fun W => qValid_any (S a.num) (S (a.den : Int)) (txt a.num) (txt (a.den : Int)) W (S_list _) (S_list _) (S_len ha.1) (S_len hA)
 rw [vR_q a ha] at cv
 have CV := Lib.hid cv
 have ht : ((S (a.den : Int)).toList == [49]) = decide (a.den = 1) := by
  rw [S1_tl, decide_eq_decide]; omega
 have z1 := S_size2 ha.1
 have z2 := S_size2 hA
 have CC := Lib.hid (fun W => clone_str (S a.num) W (by omega))
 have z3 : (⟨#[47]⟩ : ByteArray).size = 1 := rfl
 unfold RV prt
 generalize S a.num = s1 at *
 generalize S (a.den : Int) = s2 at *
 have r := RBlk.new w (.string s1) (.string s2)
 have HB := Lib.hid (below_alloc w (.cells #[.string s1, .string s2] 23))
 have a0 := r.c0
 have a1 := r.c1
 have HR := Lib.hid r
 clear r cv ha hA
 by_cases h : a.den = 1
 ·
  rw [if_pos h]
  rw [decide_eq_true h] at ht
  clear h
  go_enter Tryz.func34, Tryz.ntmps34
  go_wp2_with (first | (go_at_call 30; (with_reducible refine (CV.out _).mono ?_); rintro e W ⟨rfl, B⟩; have hr := (HR.out.keep B HR.out.lt); have hb := HB.out.trans (B.mono HB.out.size); clear HR HB B a0 a1; have HR := Lib.hid hr; have HB := Lib.hid hb; have a0 := hr.c0; have a1 := hr.c1; clear hr hb) | (go_at_call 78; (with_reducible refine (CC.out _).mono ?_); rintro e W ⟨rfl, B⟩; have hr := (HR.out.keep B HR.out.lt); have hb := HB.out.trans (B.mono HB.out.size); clear HR HB B a0 a1; have HR := Lib.hid hr; have HB := Lib.hid hb; have a0 := hr.c0; have a1 := hr.c1; clear hr hb))
  go_ret
  exact ⟨rfl, HB.out⟩
 ·
  rw [if_neg h]
  rw [decide_eq_false h] at ht
  clear h
  have z4 : (s1 ++ ⟨#[47]⟩).size = s1.size + 1 := by rw [ByteArray.size_append]; rfl
  go_enter Tryz.func34, Tryz.ntmps34
  go_wp2_with (go_at_call 30; (with_reducible refine (CV.out _).mono ?_); rintro e W ⟨rfl, B⟩; have hr := (HR.out.keep B HR.out.lt); have hb := HB.out.trans (B.mono HB.out.size); clear HR HB B a0 a1; have HR := Lib.hid hr; have HB := Lib.hid hb; have a0 := hr.c0; have a1 := hr.c1; clear hr hb)
  go_ret
  exact ⟨rfl, HB.out⟩
theorem index_no {L : List UInt8} (h : (47 : UInt8) ∉ L) : Lib.index L [47] = -1 := by
 induction L with
 | nil => rfl
 | cons b l ih =>
  rw [List.mem_cons, not_or] at h
  rw [Lib.index, ih h.2]
  have hb : ([47] : List UInt8).isPrefixOf (b :: l) = false := by
   simp only [List.isPrefixOf, Bool.and_true]
   exact beq_eq_false_iff_ne.2 h.1
  rw [hb]; rfl
theorem index_at {A : List UInt8} (B : List UInt8) (h : (47 : UInt8) ∉ A) : Lib.index (A ++ 47 :: B) [47] = A.length := by
 induction A with
 | nil => simp [Lib.index, List.isPrefixOf]
 | cons b l ih =>
  rw [List.mem_cons, not_or] at h
  rw [List.cons_append, Lib.index, ih h.2]
  have hb : ([47] : List UInt8).isPrefixOf (b :: (l ++ 47 :: B)) = false := by
   simp only [List.isPrefixOf, Bool.and_true]
   exact beq_eq_false_iff_ne.2 h.1
  have hn : ((l.length : Int) == -1) = false := by
   rw [beq_eq_false_iff_ne]; omega
  rw [hb, hn]
  simp
theorem cut_no {L : List UInt8} (h : (47 : UInt8) ∉ L) : Lib.cut L [47] = (L, [], false) := by
 rw [Lib.cut, index_no h]; rfl
theorem cut_at {A : List UInt8} (B : List UInt8) (h : (47 : UInt8) ∉ A) : Lib.cut (A ++ 47 :: B) [47] = (A, B, true) := by
 rw [Lib.cut, index_at B h, if_pos (by omega)]
 simp
theorem split_at (L : List UInt8) (h : (47 : UInt8) ∈ L) : ∃ A B, L = A ++ 47 :: B ∧ (47 : UInt8) ∉ A := by
 induction L with
 | nil => cases h
 | cons b l ih =>
  by_cases hb : b = 47
  ·
   exact ⟨[], l, by rw [hb]; rfl, by simp⟩
  ·
   obtain ⟨A, B, e, hA⟩ := ih ((List.mem_cons.1 h).resolve_left (fun e => hb e.symm))
   exact ⟨b :: A, B, by rw [e]; rfl, by rw [List.mem_cons, not_or]; exact ⟨fun e => hb e.symm, hA⟩⟩
theorem txN_no (n : Nat) : (47 : UInt8) ∉ txN n := by
 induction n using Nat.strongRecOn with
 | ind n ih =>
  rw [← dec_txN, Lib.decDigits]
  have hd : ∀ k, k < 10 → (47 : UInt8) ≠ UInt8.ofNat (48 + k) := fun k hk => by
   intro e
   have := congrArg UInt8.toNat e
   rw [UInt8.toNat_ofNat_of_lt' (by show 48 + k < 256; omega)] at this
   have h47 : (47 : UInt8).toNat = 47 := rfl
   omega
  split
  ·
   rename_i h
   rw [List.mem_singleton]; exact hd n h
  ·
   rename_i h
   rw [dec_txN, List.mem_append, not_or, List.mem_singleton]
   exact ⟨ih _ (by omega), hd _ (by omega)⟩
theorem txt_no (z : Int) : (47 : UInt8) ∉ txt z := by
 rw [txt]; split
 ·
  rw [List.mem_cons, not_or]; exact ⟨by decide, txN_no _⟩
 ·
  exact txN_no _
theorem prt_list (a : Rat) : (prt a).data.toList = if a.den = 1 then txt a.num else txt a.num ++ 47 :: txt (a.den : Int) := by
 rw [prt]; split
 ·
  exact S_list _
 ·
  rw [ByteArray.data_append, ByteArray.data_append, Array.toList_append, Array.toList_append, S_list, S_list]
  simp
theorem prt_size {a : Rat} (h : fitR 200 a) : (prt a).size ≤ 403 := by
 have z1 := S_size2 h.1
 have z2 := S_size2 (den_abs a h)
 have z3 : (⟨#[47]⟩ : ByteArray).size = 1 := rfl
 rw [prt]; split
 ·
  omega
 ·
  rw [ByteArray.size_append, ByteArray.size_append]; omega
theorem toList_inj {a b : ByteArray} (h : a.toList = b.toList) : a = b := by
 rw [ByteArray.toList_eq, ByteArray.toList_eq] at h
 cases a with | mk x =>
 cases b with | mk y =>
 congr 1
 exact Array.toList_inj.1 h
set_option maxRecDepth 100000 in
set_option maxHeartbeats 4000000 in
theorem qParse_walk (s A B sd x y z : ByteArray) (found : Bool) (ev : Int) (w : World) (hT : Tz w) (hs : s.size ≤ 100000)
  (cc : ∀ W, Tz W → Calls Tryz.prog 79 #[.string s, .string ⟨#[47]⟩] W fun e w' => e = .returned (.tuple #[.string A, .string B, .bool found]) ∧ Below W.heap.size W w')
  (hsd : sd = if found then B else ⟨#[49]⟩)
  (cm : ∀ W, Calls Tryz.prog 28 #[.string A, .string sd] W fun e w' => e = .returned (.tuple #[.agg #[.string x, .string y], .int .i64 ev]) ∧ Below W.heap.size W w')
  (cp : ∀ W, Calls Tryz.prog 34 #[.agg #[.string x, .string y]] W fun e w' => e = .returned (.string z) ∧ Below W.heap.size W w') (h : ev = 40 ∨ (ev = 0 ∧ z ≠ s) ∨ (ev = 0 ∧ z = s)) :
  Calls Tryz.prog 35 #[.string s] w fun e w' => e = .returned (if ev = 0 ∧ z = s then .tuple #[.agg #[.string x, .string y], .int .i64 0] else .tuple #[RZ, .int .i64 40]) ∧ Below w.heap.size w w' := by
 have HR := Lib.hid (RBlk.new w (.string ⟨#[]⟩) (.string ⟨#[]⟩))
 have hb := below_alloc w (.cells #[.string ⟨#[]⟩, .string ⟨#[]⟩] 23)
 have HC := Lib.hid (fun W (hW : Tz W) => cc W hW)
 have HT := Lib.hid (hT.below hb)
 have HB := Lib.hid hb
 have HM := Lib.hid cm
 have HP := Lib.hid cp
 clear cc hT hb cm cp
 rcases h with h1 | ⟨h1, h2⟩ | ⟨h1, h2⟩
 ·
  rw [if_neg (by omega)]
  unfold RZ
  subst h1
  cases found
  all_goals
   simp only [Bool.false_eq_true, if_false, if_true] at hsd
   subst hsd
   go_enter Tryz.func35, Tryz.ntmps35
   go_wp2_with (first | (go_at_call 79; (with_reducible refine (HC.out _ HT.out).mono ?_); rintro e W ⟨rfl, B⟩; have hr := (HR.out.keep B HR.out.lt); have hb := HB.out.trans (B.mono HB.out.size); clear HR HB B ; have HR := Lib.hid hr; have HB := Lib.hid hb; clear hr hb) | (go_at_call 28; (with_reducible refine (HM.out _).mono ?_); rintro e WM ⟨rfl, B0⟩; have B := B0.trans ((below_alloc WM (.cells #[.string x, .string y] 23)).mono B0.size); clear B0; have hr := (HR.out.keep B HR.out.lt); have hb := HB.out.trans (B.mono HB.out.size); clear HR HB B ; have HR := Lib.hid hr; have HB := Lib.hid hb; have c0 := hr.c0; have c1 := hr.c1; have f0 := hr.f 0; have f1 := hr.f 1; have hs := hr.s0 (.string ⟨#[]⟩); have d1 := hs.c1; have g1 := hs.f 1; have HS := Lib.hid (hs.s1 (.string ⟨#[]⟩)); have HBS := Lib.hid ((hb.setCell (p := ⟨w.heap.size, 0, none⟩) (by show w.heap.size ≤ w.heap.size; omega) (.string ⟨#[]⟩)).setCell (p := ⟨w.heap.size, 1, none⟩) (by show w.heap.size ≤ w.heap.size; omega) (.string ⟨#[]⟩)); clear hr hb hs))
   refine bodyPost_ret (results_ratio rfl _ _ w.heap.size _ _ rfl HS.out) rfl ?_
   exact ⟨rfl, HBS.out⟩
 ·
  rw [if_neg (fun e => h2 e.2)]
  unfold RZ
  subst h1
  have hne : (z.toList == s.toList) = false := beq_eq_false_iff_ne.2 (fun e => h2 (toList_inj e))
  cases found
  all_goals
   simp only [Bool.false_eq_true, if_false, if_true] at hsd
   subst hsd
   go_enter Tryz.func35, Tryz.ntmps35
   go_wp2_with (first | (go_at_call 79; (with_reducible refine (HC.out _ HT.out).mono ?_); rintro e W ⟨rfl, B⟩; have hr := (HR.out.keep B HR.out.lt); have hb := HB.out.trans (B.mono HB.out.size); clear HR HB B ; have HR := Lib.hid hr; have HB := Lib.hid hb; clear hr hb) | (go_at_call 28; (with_reducible refine (HM.out _).mono ?_); rintro e WM ⟨rfl, B0⟩; have hq := RBlk.new WM (.string x) (.string y); have q0 := hq.c0; have q1 := hq.c1; have HQ := Lib.hid hq; have B := B0.trans ((below_alloc WM (.cells #[.string x, .string y] 23)).mono B0.size); clear B0 hq; have hr := (HR.out.keep B HR.out.lt); have hb := HB.out.trans (B.mono HB.out.size); clear HR HB B ; have HR := Lib.hid hr; have HB := Lib.hid hb; clear hr hb) | (go_at_call 34; (with_reducible refine (HP.out _).mono ?_); rintro e WP ⟨rfl, B⟩; have hr := (HR.out.keep B HR.out.lt); have hb := HB.out.trans (B.mono HB.out.size); clear HR HB B ; have HR := Lib.hid hr; have HB := Lib.hid hb; have c0 := hr.c0; have c1 := hr.c1; have f0 := hr.f 0; have f1 := hr.f 1; have hs := hr.s0 (.string ⟨#[]⟩); have d1 := hs.c1; have g1 := hs.f 1; have HS := Lib.hid (hs.s1 (.string ⟨#[]⟩)); have HBS := Lib.hid ((hb.setCell (p := ⟨w.heap.size, 0, none⟩) (by show w.heap.size ≤ w.heap.size; omega) (.string ⟨#[]⟩)).setCell (p := ⟨w.heap.size, 1, none⟩) (by show w.heap.size ≤ w.heap.size; omega) (.string ⟨#[]⟩)); clear hr hb hs))
   refine bodyPost_ret (results_ratio rfl _ _ w.heap.size _ _ rfl HS.out) rfl ?_
   exact ⟨rfl, HBS.out⟩
 ·
  rw [if_pos ⟨h1, h2⟩]
  subst h1 h2
  cases found
  all_goals
   simp only [Bool.false_eq_true, if_false, if_true] at hsd
   subst hsd
   go_enter Tryz.func35, Tryz.ntmps35
   go_wp2_with (first | (go_at_call 79; (with_reducible refine (HC.out _ HT.out).mono ?_); rintro e W ⟨rfl, B⟩; have hr := (HR.out.keep B HR.out.lt); have hb := HB.out.trans (B.mono HB.out.size); clear HR HB B ; have HR := Lib.hid hr; have HB := Lib.hid hb; clear hr hb) | (go_at_call 28; (with_reducible refine (HM.out _).mono ?_); rintro e WM ⟨rfl, B0⟩; have hq := RBlk.new WM (.string x) (.string y); have q0 := hq.c0; have q1 := hq.c1; have HQ := Lib.hid hq; have B := B0.trans ((below_alloc WM (.cells #[.string x, .string y] 23)).mono B0.size); clear B0 hq; have hr := (HR.out.keep B HR.out.lt); have hb := HB.out.trans (B.mono HB.out.size); clear HR HB B ; have HR := Lib.hid hr; have HB := Lib.hid hb; clear hr hb) | (go_at_call 34; (with_reducible refine (HP.out _).mono ?_); rintro e WP ⟨rfl, B⟩; have hq := HQ.out.keep B HQ.out.lt; clear q0 q1; have q0 := hq.c0; have q1 := hq.c1; clear hq; have hr := (HR.out.keep B HR.out.lt); have hb := HB.out.trans (B.mono HB.out.size); clear HR HB B ; have HR := Lib.hid hr; have HB := Lib.hid hb; have c0 := hr.c0; have c1 := hr.c1; have f0 := hr.f 0; have f1 := hr.f 1; have hs := hr.s0 (.string x); have d1 := hs.c1; have g1 := hs.f 1; have HS := Lib.hid (hs.s1 (.string y)); have HBS := Lib.hid ((hb.setCell (p := ⟨w.heap.size, 0, none⟩) (by show w.heap.size ≤ w.heap.size; omega) (.string x)).setCell (p := ⟨w.heap.size, 1, none⟩) (by show w.heap.size ≤ w.heap.size; omega) (.string y)); clear hr hb hs))
   refine bodyPost_ret (results_ratio rfl _ _ w.heap.size _ _ rfl HS.out) rfl ?_
   exact ⟨rfl, HBS.out⟩
theorem qParse_no (s : ByteArray) (w : World) (hT : Tz w) (hs : s.size ≤ 50000) (h : ∀ a, fitR 200 a → prt a ≠ s) :
  Calls Tryz.prog 35 #[.string s] w fun e w' => e = .returned (.tuple #[RZ, .int .i64 40]) ∧ Below w.heap.size w w' := by
 have hsl : s.data.toList.length ≤ 50000 := hs
 have cc := fun W (hW : Tz W) => cut_s s ⟨#[47]⟩ W (by omega) hW
 have hcut : ∃ A B found, Lib.cut s.data.toList [47] = (A, B, found) ∧ A.length ≤ 50000 ∧ B.length ≤ 50000 := by
  by_cases hm : (47 : UInt8) ∈ s.data.toList
  ·
   obtain ⟨A, B, e, hA⟩ := split_at _ hm
   refine ⟨A, B, true, by rw [e, cut_at B hA], ?_, ?_⟩ <;> (rw [e, List.length_append, List.length_cons] at hsl; omega)
  ·
   exact ⟨_, [], false, cut_no hm, hsl, by decide⟩
 obtain ⟨A, B, found, e, hA, hB⟩ := hcut
 change ∀ W, Tz W → Calls _ _ _ W (fun e w' => e = .returned (.tuple #[.string ⟨(Lib.cut s.data.toList [47]).1.toArray⟩, .string ⟨(Lib.cut s.data.toList [47]).2.1.toArray⟩, .bool (Lib.cut s.data.toList [47]).2.2]) ∧ _) at cc
 rw [e] at cc
 obtain ⟨D, hD, hDl⟩ : ∃ D : List UInt8, (⟨D.toArray⟩ : ByteArray) = (if found then (⟨B.toArray⟩ : ByteArray) else ⟨#[49]⟩) ∧ D.length ≤ 50000 := by
  cases found
  ·
   exact ⟨[49], rfl, by decide⟩
  ·
   exact ⟨B, rfl, hB⟩
 have hAl : (⟨A.toArray⟩ : ByteArray).data.toList = A := by simp
 have hDl2 : (⟨D.toArray⟩ : ByteArray).data.toList = D := by simp
 by_cases hm : (vld A && vld D) = true ∧ num D ≠ 0
 ·
  have hb := (Bool.and_eq_true _ _).mp hm.1
  have k1 := (vld_txt hb.1).2
  have k2 := (vld_txt hb.2).2
  have eA : (⟨A.toArray⟩ : ByteArray) = S (num A) := S_of hAl (txt_lit hb.1).symm
  have eD : (⟨D.toArray⟩ : ByteArray) = S (num D) := S_of hDl2 (txt_lit hb.2).symm
  have hq : fitR 200 (Rat.divInt (num A) (num D)) := by
   rw [← sg_R]
   exact mk_fit (by unfold sg; split <;> omega) (by unfold sg; split <;> omega) (by have := sg_pos hm.2; omega)
  have h2 := qParse_walk s ⟨A.toArray⟩ ⟨B.toArray⟩ ⟨D.toArray⟩ _ _ _ found 0 w hT (by omega) cc hD (fun W => by rw [eA, eD]; exact qMake_R _ _ W k1 k2 hm.2) (fun W => qPrint_R _ hq W) (.inr (.inl ⟨rfl, h _ hq⟩))
  rw [if_neg (fun e => h _ hq e.2)] at h2
  exact h2
 ·
  have h2 := qParse_walk s ⟨A.toArray⟩ ⟨B.toArray⟩ ⟨D.toArray⟩ ⟨#[]⟩ ⟨#[]⟩ ⟨#[]⟩ found 40 w hT (by omega) cc hD (fun W => qMake_no _ _ A D W hAl hDl2 (by omega) (by omega) (fun hv => Classical.byContradiction fun h0 => hm ⟨hv, h0⟩)) (fun W => qPrint_no ⟨#[]⟩ ⟨#[]⟩ [] [] W rfl rfl (by decide) (by decide) (by decide)) (.inl rfl)
  rw [if_neg (fun e => absurd e.1 (by decide))] at h2
  exact h2
theorem mk_self (a : Rat) : Rat.divInt a.num a.den = a := Rat.num_divInt_den a
theorem qParse_R (a : Rat) (ha : fitR 200 a) (w : World) (hT : Tz w) :
  Calls Tryz.prog 35 #[.string (prt a)] w fun e w' => e = .returned (.tuple #[RV a, .int .i64 0]) ∧ Below w.heap.size w w' := by
 have hA := den_abs a ha
 have hsz := prt_size ha
 have cc := fun W (hW : Tz W) => cut_s (prt a) ⟨#[47]⟩ W (by omega) hW
 change ∀ W, Tz W → Calls _ _ _ W (fun e w' => e = .returned (.tuple #[.string ⟨(Lib.cut (prt a).data.toList [47]).1.toArray⟩, .string ⟨(Lib.cut (prt a).data.toList [47]).2.1.toArray⟩, .bool (Lib.cut (prt a).data.toList [47]).2.2]) ∧ _) at cc
 rw [prt_list] at cc
 by_cases h1 : a.den = 1
 ·
  rw [if_pos h1, cut_no (txt_no _)] at cc
  have h2 := qParse_walk (prt a) (S a.num) ⟨#[]⟩ (S 1) _ _ _ false 0 w hT (by omega) cc (by rw [S_one]; rfl) (fun W => qMake_R a.num 1 W ha.1 (by decide) (by decide)) (fun W => by
   have e : Rat.divInt a.num 1 = a := by have := mk_self a; rwa [h1] at this
   rw [e]; exact qPrint_R a ha W) (.inr (.inr ⟨rfl, rfl⟩))
  rw [if_pos ⟨rfl, rfl⟩] at h2
  have e : Rat.divInt a.num 1 = a := by have := mk_self a; rwa [h1] at this
  rw [e] at h2
  exact h2
 ·
  rw [if_neg h1, cut_at _ (txt_no _)] at cc
  have h2 := qParse_walk (prt a) (S a.num) (S (a.den : Int)) (S (a.den : Int)) _ _ _ true 0 w hT (by omega) cc rfl (fun W => qMake_R a.num a.den W ha.1 hA (by have := den_pos a; omega)) (fun W => by
   rw [mk_self a]; exact qPrint_R a ha W) (.inr (.inr ⟨rfl, rfl⟩))
  rw [if_pos ⟨rfl, rfl⟩, mk_self a] at h2
  exact h2
theorem results_ratio1 {fn : Func} {p : Tmp} (h : fn.results = #[.cell p 23]) (tmps : Array Value) (w : World) (g : Nat) (x y : Value)
  (hp : tmps.getD p undef = .pointer (some ⟨g, 0, none⟩)) (hg : RBlk w g x y) :
  (results fn tmps).run Tryz.prog w = .ok (.agg #[x, y]) w := by
 have hp' : tmps[p]?.getD undef = .pointer (some ⟨g, 0, none⟩) := by simpa using hp
 simp [results, h, hp', asAddr, ratio_yields hg]
theorem join_two {T : Prop} (F G : Nat → World → Prop) (m : (∀ g W, F g W → G g W) → T) (r : ∀ g W, F g W → G g W) : T := m r
set_option maxRecDepth 100000 in
theorem is_any (s1 s2 : ByteArray) (w : World) :
  Calls Tryz.prog 54 #[.string s1, .string s2] w fun e w' => e = .returned (.agg #[.string s1, .string s2]) ∧ Below w.heap.size w w' := by
 have HS := Lib.hid (RBlk.new w (.string s1) (.string s2))
 have HB := Lib.hid (below_alloc w (.cells #[.string s1, .string s2] 23))
 go_enter Tryz.func54, Tryz.ntmps54
 go_wp2_with fail
 refine bodyPost_ret (results_ratio1 rfl _ _ w.heap.size _ _ rfl HS.out) rfl ?_
 exact ⟨rfl, HB.out⟩
end Go.Proofs.YtdnbhgkbfbgnaaaGreatDoor
