/- RationalField: the walk of the law. -/
import Derived.Test.YtdnbhgkbfbgnaaaGreatDoorMYj
import Derived.Deep.Cut
import Derived.Deep.CutRange
namespace Go.Proofs.YtdnbhgkbfbgnaaaGreatDoor
open Go.RowKit

def smO (o : Option Rat) : Prop := ∃ q, o = some q ∧ smallR q
def lgO (o : Option Rat) : Prop := ∃ q, o = some q ∧ fitR 100 q
theorem smO.ok {o : Option Rat} (h : smO o) : okO 200 o := by
  obtain ⟨q, rfl, h⟩ := h
  intro p e; cases e; exact h.fit
theorem lgO.ok {o : Option Rat} (h : lgO o) : okO 200 o := by
  obtain ⟨q, rfl, h⟩ := h
  intro p e; cases e; exact h.wide (by decide)
theorem sm3 {q : Rat} (h : smallR q) : fitR 3 q := ⟨Nat.lt_of_le_of_lt h.1 (by decide), Nat.lt_of_le_of_lt h.2 (by decide)⟩
theorem okM_ok5 {a b : Rat} {i j : Nat} (ha : fitR i a) (hb : fitR j b) (h : i + j ≤ 200) : okM a b = true := by
  rw [okM, show fits (a.num * b.num) = true from decide_eq_true (mulb ha.1 hb.1 h), show fits ((a.den : Int) * b.den) = true from decide_eq_true (mulb (den_abs a ha) (den_abs b hb) h)]; rfl
theorem okA_ok5 {a b : Rat} {i j : Nat} (ha : fitR i a) (hb : fitR j b) (h : i + j ≤ 199) : okA a b = true := by
  have h1 := mulb ha.1 (den_abs b hb) h
  have h2 := mulb hb.1 (den_abs a ha) (show j + i ≤ 199 by omega)
  rw [okA, show fits (a.num * b.den) = true from decide_eq_true (wide h1 (by decide)), show fits (b.num * a.den) = true from decide_eq_true (wide h2 (by decide)), show fits ((a.den : Int) * b.den) = true from decide_eq_true (mulb (den_abs a ha) (den_abs b hb) (by omega)), show fits (a.num * b.den + b.num * a.den) = true from decide_eq_true (addb h1 h2)]; rfl
theorem sm_add {a b : Option Rat} (ha : smO a) (hb : smO b) : ec (addO a b) = 0 := by
  obtain ⟨p, rfl, hp⟩ := ha
  obtain ⟨q, rfl, hq⟩ := hb
  rw [show addO (some p) (some q) = if okA p q then some (p + q) else none from rfl, okA_ok5 (sm3 hp) (sm3 hq) (by decide)]; rfl
theorem sm_mul {a b : Option Rat} (ha : smO a) (hb : smO b) : ec (mulO a b) = 0 := by
  obtain ⟨p, rfl, hp⟩ := ha
  obtain ⟨q, rfl, hq⟩ := hb
  rw [show mulO (some p) (some q) = if okM p q then some (p * q) else none from rfl, okM_ok5 (sm3 hp) (sm3 hq) (by decide)]; rfl
theorem Small_O (x0 x1 : Int) (w : World) (b0 : -9223372036854775808 ≤ x0 ∧ x0 ≤ 9223372036854775807) (b1 : -9223372036854775808 ≤ x1 ∧ x1 ≤ 9223372036854775807) :
    Calls Tryz.prog 15 #[.agg #[.int .i64 x0, .int .i64 x1]] w fun e w' => ∃ o, e = .returned (.agg #[.string (n1 o), .string (n2 o)]) ∧ smO o ∧ Below w.heap.size w w' :=
  (Small_any x0 x1 w b0 b1).mono fun _ _ ⟨q, h, s, b⟩ => ⟨some q, h, ⟨q, rfl, s⟩, b⟩
theorem Long_O (x0 x1 x2 x3 : Int) (w : World) (b0 : -9223372036854775808 ≤ x0 ∧ x0 ≤ 9223372036854775807) (b1 : -9223372036854775808 ≤ x1 ∧ x1 ≤ 9223372036854775807) (b2 : -9223372036854775808 ≤ x2 ∧ x2 ≤ 9223372036854775807) (b3 : -9223372036854775808 ≤ x3 ∧ x3 ≤ 9223372036854775807) :
    Calls Tryz.prog 14 #[.agg #[.int .i64 x0, .int .i64 x1, .int .i64 x2, .int .i64 x3]] w fun e w' => ∃ o, e = .returned (.agg #[.string (n1 o), .string (n2 o)]) ∧ lgO o ∧ Below w.heap.size w w' :=
  (Long_any x0 x1 x2 x3 w b0 b1 b2 b3).mono fun _ _ ⟨q, h, s, b⟩ => ⟨some q, h, ⟨q, rfl, s⟩, b⟩
/-- what the law meets, over letters -/
structure Pk (oa1 oa2 ob1 ob2 oc1 oc2 r01 r02 r11 r12 r21 r22 r31 r32 s11 s12 s31 s32 g01 g02 g11 g12 g21 g22 g31 g32 h01 h02 h11 h12 h21 h22 h31 h32 on1 on2 tw1 tw2 lf1 lf2 ac1 ac2 su1 su2 ba1 ba2 ag1 ag2 : ByteArray) (r0e r1e r2e r3e s1e s3e g0e g1e g2e g3e h0e h1e h2e h3e one twe lfe ace sue bae age : Int) : Prop where
  f1 : ∀ W, Calls Tryz.prog 16 #[.agg #[.string oa1, .string oa2], .agg #[.string ob1, .string ob2]] W fun e w' => e = .returned (.tuple #[.agg #[.string r01, .string r02, .string r11, .string r12, .string r21, .string r22, .string r31, .string r32], .agg #[.int .i64 r0e, .int .i64 r1e, .int .i64 r2e, .int .i64 r3e]]) ∧ Below W.heap.size W w'
  f2 : ∀ W, Calls Tryz.prog 16 #[.agg #[.string ob1, .string ob2], .agg #[.string oa1, .string oa2]] W fun e w' => e = .returned (.tuple #[.agg #[.string r01, .string r02, .string s11, .string s12, .string r21, .string r22, .string s31, .string s32], .agg #[.int .i64 r0e, .int .i64 s1e, .int .i64 r2e, .int .i64 s3e]]) ∧ Below W.heap.size W w'
  f3 : ∀ W, Calls Tryz.prog 16 #[.agg #[.string ob1, .string ob2], .agg #[.string oc1, .string oc2]] W fun e w' => e = .returned (.tuple #[.agg #[.string g01, .string g02, .string g11, .string g12, .string g21, .string g22, .string g31, .string g32], .agg #[.int .i64 g0e, .int .i64 g1e, .int .i64 g2e, .int .i64 g3e]]) ∧ Below W.heap.size W w'
  f4 : ∀ W, Calls Tryz.prog 16 #[.agg #[.string r01, .string r02], .agg #[.string oc1, .string oc2]] W fun e w' => e = .returned (.tuple #[.agg #[.string h01, .string h02, .string h11, .string h12, .string h21, .string h22, .string h31, .string h32], .agg #[.int .i64 h0e, .int .i64 h1e, .int .i64 h2e, .int .i64 h3e]]) ∧ Below W.heap.size W w'
  c1 : ∀ W, Calls Tryz.prog 38 #[.agg #[.string oa1, .string oa2], .agg #[.string g01, .string g02]] W fun e w' => e = .returned (.tuple #[.agg #[.string on1, .string on2], .int .i64 one]) ∧ Below W.heap.size W w'
  c2 : ∀ W, Calls Tryz.prog 39 #[.agg #[.string oa1, .string oa2], .agg #[.string g21, .string g22]] W fun e w' => e = .returned (.tuple #[.agg #[.string tw1, .string tw2], .int .i64 twe]) ∧ Below W.heap.size W w'
  c3 : ∀ W, Calls Tryz.prog 39 #[.agg #[.string r21, .string r22], .agg #[.string oc1, .string oc2]] W fun e w' => e = .returned (.tuple #[.agg #[.string lf1, .string lf2], .int .i64 lfe]) ∧ Below W.heap.size W w'
  c4 : ∀ W, Calls Tryz.prog 39 #[.agg #[.string oa1, .string oa2], .agg #[.string oc1, .string oc2]] W fun e w' => e = .returned (.tuple #[.agg #[.string ac1, .string ac2], .int .i64 ace]) ∧ Below W.heap.size W w'
  c5 : ∀ W, Calls Tryz.prog 38 #[.agg #[.string ac1, .string ac2], .agg #[.string g21, .string g22]] W fun e w' => e = .returned (.tuple #[.agg #[.string su1, .string su2], .int .i64 sue]) ∧ Below W.heap.size W w'
  c6 : ∀ W, Calls Tryz.prog 39 #[.agg #[.string r01, .string r02], .agg #[.string oc1, .string oc2]] W fun e w' => e = .returned (.tuple #[.agg #[.string h21, .string h22], .int .i64 h2e]) ∧ Below W.heap.size W w'
  c7 : ∀ W, Calls Tryz.prog 40 #[.agg #[.string r01, .string r02], .agg #[.string ob1, .string ob2]] W fun e w' => e = .returned (.tuple #[.agg #[.string ba1, .string ba2], .int .i64 bae]) ∧ Below W.heap.size W w'
  c8 : ∀ W, Calls Tryz.prog 39 #[.agg #[.string r31, .string r32], .agg #[.string ob1, .string ob2]] W fun e w' => e = .returned (.tuple #[.agg #[.string ag1, .string ag2], .int .i64 age]) ∧ Below W.heap.size W w'
  k1 : h0e = 0 → one = 0 → h01 = on1 ∧ h02 = on2
  k2 : twe = 0 → lfe = 0 → tw1 = lf1 ∧ tw2 = lf2
  k3 : sue = 0 → h2e = 0 → su1 = h21 ∧ su2 = h22
  k4 : bae = 0 → ba1 = oa1 ∧ ba2 = oa2
  k5 : age = 0 → ag1 = oa1 ∧ ag2 = oa2
  e_r0 : r0e = 0 ∨ r0e = 40
  e_r2 : r2e = 0 ∨ r2e = 40
  e_r3 : r3e = 0 ∨ r3e = 40
  e_g0 : g0e = 0 ∨ g0e = 40
  e_g2 : g2e = 0 ∨ g2e = 40
  e_h0 : h0e = 0 ∨ h0e = 40
  e_h2 : h2e = 0 ∨ h2e = 40
  e_on : one = 0 ∨ one = 40
  e_tw : twe = 0 ∨ twe = 40
  e_lf : lfe = 0 ∨ lfe = 40
  e_ac : ace = 0 ∨ ace = 40
  e_su : sue = 0 ∨ sue = 40
  e_ba : bae = 0 ∨ bae = 40
  e_ag : age = 0 ∨ age = 40
theorem pk (oa ob oc : Option Rat) (hoa : okO 200 oa) (hob : okO 200 ob) (hoc : okO 200 oc) : Pk (n1 oa) (n2 oa) (n1 ob) (n2 ob) (n1 oc) (n2 oc) (n1 (addO oa ob)) (n2 (addO oa ob)) (n1 (subO oa ob)) (n2 (subO oa ob)) (n1 (mulO oa ob)) (n2 (mulO oa ob)) (n1 (divO oa ob)) (n2 (divO oa ob)) (n1 (subO ob oa)) (n2 (subO ob oa)) (n1 (divO ob oa)) (n2 (divO ob oa)) (n1 (addO ob oc)) (n2 (addO ob oc)) (n1 (subO ob oc)) (n2 (subO ob oc)) (n1 (mulO ob oc)) (n2 (mulO ob oc)) (n1 (divO ob oc)) (n2 (divO ob oc)) (n1 (addO (addO oa ob) oc)) (n2 (addO (addO oa ob) oc)) (n1 (subO (addO oa ob) oc)) (n2 (subO (addO oa ob) oc)) (n1 (mulO (addO oa ob) oc)) (n2 (mulO (addO oa ob) oc)) (n1 (divO (addO oa ob) oc)) (n2 (divO (addO oa ob) oc)) (n1 (addO oa (addO ob oc))) (n2 (addO oa (addO ob oc))) (n1 (mulO oa (mulO ob oc))) (n2 (mulO oa (mulO ob oc))) (n1 (mulO (mulO oa ob) oc)) (n2 (mulO (mulO oa ob) oc)) (n1 (mulO oa oc)) (n2 (mulO oa oc)) (n1 (addO (mulO oa oc) (mulO ob oc))) (n2 (addO (mulO oa oc) (mulO ob oc))) (n1 (subO (addO oa ob) ob)) (n2 (subO (addO oa ob) ob)) (n1 (mulO (divO oa ob) ob)) (n2 (mulO (divO oa ob) ob)) (ec (addO oa ob)) (ec (subO oa ob)) (ec (mulO oa ob)) (ec (divO oa ob)) (ec (subO ob oa)) (ec (divO ob oa)) (ec (addO ob oc)) (ec (subO ob oc)) (ec (mulO ob oc)) (ec (divO ob oc)) (ec (addO (addO oa ob) oc)) (ec (subO (addO oa ob) oc)) (ec (mulO (addO oa ob) oc)) (ec (divO (addO oa ob) oc)) (ec (addO oa (addO ob oc))) (ec (mulO oa (mulO ob oc))) (ec (mulO (mulO oa ob) oc)) (ec (mulO oa oc)) (ec (addO (mulO oa oc) (mulO ob oc))) (ec (subO (addO oa ob) ob)) (ec (mulO (divO oa ob) ob)) :=
  ⟨fun W => four_walk (n1 oa) (n2 oa) (n1 ob) (n2 ob) (n1 (addO oa ob)) (n2 (addO oa ob)) (n1 (subO oa ob)) (n2 (subO oa ob)) (n1 (mulO oa ob)) (n2 (mulO oa ob)) (n1 (divO oa ob)) (n2 (divO oa ob)) (ec (addO oa ob)) (ec (subO oa ob)) (ec (mulO oa ob)) (ec (divO oa ob)) W (fun W => qAdd_O oa ob hoa hob W) (fun W => qSub_O oa ob hoa hob W) (fun W => qMul_O oa ob hoa hob W) (fun W => qDiv_O oa ob hoa hob W),
   fun W => four_walk (n1 ob) (n2 ob) (n1 oa) (n2 oa) (n1 (addO oa ob)) (n2 (addO oa ob)) (n1 (subO ob oa)) (n2 (subO ob oa)) (n1 (mulO oa ob)) (n2 (mulO oa ob)) (n1 (divO ob oa)) (n2 (divO ob oa)) (ec (addO oa ob)) (ec (subO ob oa)) (ec (mulO oa ob)) (ec (divO ob oa)) W (fun W => by rw [addO_comm oa ob]; exact qAdd_O ob oa hob hoa W) (fun W => qSub_O ob oa hob hoa W) (fun W => by rw [mulO_comm oa ob]; exact qMul_O ob oa hob hoa W) (fun W => qDiv_O ob oa hob hoa W),
   fun W => four_walk (n1 ob) (n2 ob) (n1 oc) (n2 oc) (n1 (addO ob oc)) (n2 (addO ob oc)) (n1 (subO ob oc)) (n2 (subO ob oc)) (n1 (mulO ob oc)) (n2 (mulO ob oc)) (n1 (divO ob oc)) (n2 (divO ob oc)) (ec (addO ob oc)) (ec (subO ob oc)) (ec (mulO ob oc)) (ec (divO ob oc)) W (fun W => qAdd_O ob oc hob hoc W) (fun W => qSub_O ob oc hob hoc W) (fun W => qMul_O ob oc hob hoc W) (fun W => qDiv_O ob oc hob hoc W),
   fun W => four_walk (n1 (addO oa ob)) (n2 (addO oa ob)) (n1 oc) (n2 oc) (n1 (addO (addO oa ob) oc)) (n2 (addO (addO oa ob) oc)) (n1 (subO (addO oa ob) oc)) (n2 (subO (addO oa ob) oc)) (n1 (mulO (addO oa ob) oc)) (n2 (mulO (addO oa ob) oc)) (n1 (divO (addO oa ob) oc)) (n2 (divO (addO oa ob) oc)) (ec (addO (addO oa ob) oc)) (ec (subO (addO oa ob) oc)) (ec (mulO (addO oa ob) oc)) (ec (divO (addO oa ob) oc)) W (fun W => qAdd_O (addO oa ob) oc (addO_fit _ _) hoc W) (fun W => qSub_O (addO oa ob) oc (addO_fit _ _) hoc W) (fun W => qMul_O (addO oa ob) oc (addO_fit _ _) hoc W) (fun W => qDiv_O (addO oa ob) oc (addO_fit _ _) hoc W),
   fun W => qAdd_O oa (addO ob oc) hoa (addO_fit _ _) W,
   fun W => qMul_O oa (mulO ob oc) hoa (mulO_fit _ _) W,
   fun W => qMul_O (mulO oa ob) oc (mulO_fit _ _) hoc W,
   fun W => qMul_O oa oc hoa hoc W,
   fun W => qAdd_O (mulO oa oc) (mulO ob oc) (mulO_fit _ _) (mulO_fit _ _) W,
   fun W => qMul_O (addO oa ob) oc (addO_fit _ _) hoc W,
   fun W => qSub_O (addO oa ob) ob (addO_fit _ _) hob W,
   fun W => qMul_O (divO oa ob) ob (divO_fit _ _) hob W,
   fun h h' => by rw [field1 oa ob oc h h']; exact ⟨rfl, rfl⟩,
   fun h h' => by rw [field2 oa ob oc h' h]; exact ⟨rfl, rfl⟩,
   fun h h' => by rw [field3 oa ob oc h h']; exact ⟨rfl, rfl⟩,
   fun h => by rw [field4 oa ob h]; exact ⟨rfl, rfl⟩,
   fun h => by rw [field5 oa ob h]; exact ⟨rfl, rfl⟩,
   ec_cases (addO oa ob),
   ec_cases (mulO oa ob),
   ec_cases (divO oa ob),
   ec_cases (addO ob oc),
   ec_cases (mulO ob oc),
   ec_cases (addO (addO oa ob) oc),
   ec_cases (mulO (addO oa ob) oc),
   ec_cases (addO oa (addO ob oc)),
   ec_cases (mulO oa (mulO ob oc)),
   ec_cases (mulO (mulO oa ob) oc),
   ec_cases (mulO oa oc),
   ec_cases (addO (mulO oa oc) (mulO ob oc)),
   ec_cases (subO (addO oa ob) ob),
   ec_cases (mulO (divO oa ob) ob)⟩

set_option maxRecDepth 100000 in
set_option maxHeartbeats 16000000 in
theorem rfield_any (x0 x1 x2 x3 y0 y1 y2 y3 z0 z1 : Int) (long : Bool) (w : World) (bx0 : -9223372036854775808 ≤ x0 ∧ x0 ≤ 9223372036854775807) (bx1 : -9223372036854775808 ≤ x1 ∧ x1 ≤ 9223372036854775807) (bx2 : -9223372036854775808 ≤ x2 ∧ x2 ≤ 9223372036854775807) (bx3 : -9223372036854775808 ≤ x3 ∧ x3 ≤ 9223372036854775807) (by0 : -9223372036854775808 ≤ y0 ∧ y0 ≤ 9223372036854775807) (by1 : -9223372036854775808 ≤ y1 ∧ y1 ≤ 9223372036854775807) (by2 : -9223372036854775808 ≤ y2 ∧ y2 ≤ 9223372036854775807) (by3 : -9223372036854775808 ≤ y3 ∧ y3 ≤ 9223372036854775807) (bz0 : -9223372036854775808 ≤ z0 ∧ z0 ≤ 9223372036854775807) (bz1 : -9223372036854775808 ≤ z1 ∧ z1 ≤ 9223372036854775807) (hT : Tz w) :
    Calls Tryz.prog 5 #[.agg #[.int .i64 x0, .int .i64 x1, .int .i64 x2, .int .i64 x3], .agg #[.int .i64 y0, .int .i64 y1, .int .i64 y2, .int .i64 y3], .agg #[.int .i64 z0, .int .i64 z1], .bool long] w fun e w' => e = .returned (.bool true) ∧ Below w.heap.size w w' := by
  have h1 : (w.alloc (.cells #[.int .i64 x0, .int .i64 x1, .int .i64 x2, .int .i64 x3] 24)).heap.size = w.heap.size + 1 := World.size_alloc _ _
  have h2 : ((w.alloc (.cells #[.int .i64 x0, .int .i64 x1, .int .i64 x2, .int .i64 x3] 24)).alloc (.cells #[.int .i64 y0, .int .i64 y1, .int .i64 y2, .int .i64 y3] 24)).heap.size = w.heap.size + 1 + 1 := by rw [World.size_alloc, h1]
  have X := Lib.hid (((CBlk.new w #[.int .i64 x0, .int .i64 x1, .int .i64 x2, .int .i64 x3] 24).alloc (.cells #[.int .i64 y0, .int .i64 y1, .int .i64 y2, .int .i64 y3] 24)).alloc (.cells #[.int .i64 z0, .int .i64 z1] 25))
  have Y := Lib.hid ((h1 ▸ CBlk.new (w.alloc (.cells #[.int .i64 x0, .int .i64 x1, .int .i64 x2, .int .i64 x3] 24)) #[.int .i64 y0, .int .i64 y1, .int .i64 y2, .int .i64 y3] 24 : CBlk ((w.alloc (.cells #[.int .i64 x0, .int .i64 x1, .int .i64 x2, .int .i64 x3] 24)).alloc (.cells #[.int .i64 y0, .int .i64 y1, .int .i64 y2, .int .i64 y3] 24)) (w.heap.size + 1) #[.int .i64 y0, .int .i64 y1, .int .i64 y2, .int .i64 y3] 24).alloc (.cells #[.int .i64 z0, .int .i64 z1] 25))
  have Sm := Lib.hid (h2 ▸ PB.new 25 ((w.alloc (.cells #[.int .i64 x0, .int .i64 x1, .int .i64 x2, .int .i64 x3] 24)).alloc (.cells #[.int .i64 y0, .int .i64 y1, .int .i64 y2, .int .i64 y3] 24)) (.int .i64 z0) (.int .i64 z1) : PB 25 (((w.alloc (.cells #[.int .i64 x0, .int .i64 x1, .int .i64 x2, .int .i64 x3] 24)).alloc (.cells #[.int .i64 y0, .int .i64 y1, .int .i64 y2, .int .i64 y3] 24)).alloc (.cells #[.int .i64 z0, .int .i64 z1] 25)) (w.heap.size + 1 + 1) (.int .i64 z0) (.int .i64 z1))
  have HB := Lib.hid (((below_alloc w (.cells #[.int .i64 x0, .int .i64 x1, .int .i64 x2, .int .i64 x3] 24)).alloc (by rw [h1]; omega) (.cells #[.int .i64 y0, .int .i64 y1, .int .i64 y2, .int .i64 y3] 24)).alloc (by rw [h2]; omega) (.cells #[.int .i64 z0, .int .i64 z1] 25))
  have HT := Lib.hid hT
  clear hT h1 h2
  go_enter Tryz.func5, Tryz.ntmps5
  go_wp2_with fail
  go_at_call 12
  refine (sane4_any _ (HT.out.below HB.out)).mono ?_
  rintro e W1 ⟨rfl, B⟩
  have Xn := Lib.hid ((X.out.keep B X.out.lt))
  have Yn := Lib.hid ((Y.out.keep B Y.out.lt))
  have Smn := Lib.hid ((Sm.out.keep B Sm.out.lt))
  have HBn := Lib.hid (HB.out.trans (B.mono HB.out.size))
  clear X Y Sm HB
  have X := Xn
  have Y := Yn
  have Sm := Smn
  have HB := HBn
  clear Xn Yn Smn HBn
  clear B
  have Xc0 := X.out.c 0 rfl
  have Xc1 := X.out.c 1 rfl
  go_wp2_with fail
  clear Xc0 Xc1
  go_at_call 15
  refine (Small_O x0 x1 _ bx0 bx1).mono ?_
  rintro e W2 ⟨oa, rfl, soa, B⟩
  have lAY := (Y.out.keep B Y.out.lt).lt
  have gA := (HB.out.trans (B.mono HB.out.size)).size
  have Xn := Lib.hid ((X.out.keep B X.out.lt).alloc (.cells #[(.string (n1 oa)), (.string (n2 oa))] 23))
  have Yn := Lib.hid ((Y.out.keep B Y.out.lt).alloc (.cells #[(.string (n1 oa)), (.string (n2 oa))] 23))
  have Smn := Lib.hid ((Sm.out.keep B Sm.out.lt).alloc (.cells #[(.string (n1 oa)), (.string (n2 oa))] 23))
  have HBn := Lib.hid ((HB.out.trans (B.mono HB.out.size)).alloc (HB.out.trans (B.mono HB.out.size)).size (.cells #[(.string (n1 oa)), (.string (n2 oa))] 23))
  clear X Y Sm HB
  have X := Xn
  have Y := Yn
  have Sm := Smn
  have HB := HBn
  clear Xn Yn Smn HBn
  have A := Lib.hid (RBlk.new W2 (.string (n1 oa)) (.string (n2 oa)))
  clear B
  have Xc0 := Y.out.c 0 rfl
  have Xc1 := Y.out.c 1 rfl
  go_wp2_with fail
  clear Xc0 Xc1
  go_at_call 15
  refine (Small_O y0 y1 _ by0 by1).mono ?_
  rintro e W3 ⟨ob, rfl, sob, B⟩
  have lDA := (A.out.keep B A.out.lt).lt
  have gD := (HB.out.trans (B.mono HB.out.size)).size
  have Xn := Lib.hid ((X.out.keep B X.out.lt).alloc (.cells #[(.string (n1 ob)), (.string (n2 ob))] 23))
  have Yn := Lib.hid ((Y.out.keep B Y.out.lt).alloc (.cells #[(.string (n1 ob)), (.string (n2 ob))] 23))
  have Smn := Lib.hid ((Sm.out.keep B Sm.out.lt).alloc (.cells #[(.string (n1 ob)), (.string (n2 ob))] 23))
  have An := Lib.hid ((A.out.keep B A.out.lt).alloc (.cells #[(.string (n1 ob)), (.string (n2 ob))] 23))
  have HBn := Lib.hid ((HB.out.trans (B.mono HB.out.size)).alloc (HB.out.trans (B.mono HB.out.size)).size (.cells #[(.string (n1 ob)), (.string (n2 ob))] 23))
  clear X Y Sm A HB
  have X := Xn
  have Y := Yn
  have Sm := Smn
  have A := An
  have HB := HBn
  clear Xn Yn Smn An HBn
  have D := Lib.hid (RBlk.new W3 (.string (n1 ob)) (.string (n2 ob)))
  clear B
  have Xc0 := Sm.out.c0
  have Xc1 := Sm.out.c1
  go_wp2_with fail
  clear Xc0 Xc1
  go_at_call 15
  refine (Small_O z0 z1 _ bz0 bz1).mono ?_
  rintro e W4 ⟨oc, rfl, soc, B⟩
  have lCA := (A.out.keep B A.out.lt).lt
  have lCD := (D.out.keep B D.out.lt).lt
  have Xn := Lib.hid ((X.out.keep B X.out.lt).alloc (.cells #[(.string (n1 oc)), (.string (n2 oc))] 23))
  have Yn := Lib.hid ((Y.out.keep B Y.out.lt).alloc (.cells #[(.string (n1 oc)), (.string (n2 oc))] 23))
  have Smn := Lib.hid ((Sm.out.keep B Sm.out.lt).alloc (.cells #[(.string (n1 oc)), (.string (n2 oc))] 23))
  have An := Lib.hid ((A.out.keep B A.out.lt).alloc (.cells #[(.string (n1 oc)), (.string (n2 oc))] 23))
  have Dn := Lib.hid ((D.out.keep B D.out.lt).alloc (.cells #[(.string (n1 oc)), (.string (n2 oc))] 23))
  have HBn := Lib.hid ((HB.out.trans (B.mono HB.out.size)).alloc (HB.out.trans (B.mono HB.out.size)).size (.cells #[(.string (n1 oc)), (.string (n2 oc))] 23))
  clear X Y Sm A D HB
  have X := Xn
  have Y := Yn
  have Sm := Smn
  have A := An
  have D := Dn
  have HB := HBn
  clear Xn Yn Smn An Dn HBn
  have C := Lib.hid (RBlk.new W4 (.string (n1 oc)) (.string (n2 oc)))
  clear B
  clear Sm HT
  go_upto_if 52 with fail
  go_cut [] from 37 (fun wc => ∃ oa ob, okO 200 oa ∧ okO 200 ob ∧ (long = false → ec (addO oa ob) = 0 ∧ ec (mulO oa ob) = 0) ∧ Hid (RBlk wc (W2.heap.size) (.string (n1 oa)) (.string (n2 oa))) ∧ Hid (RBlk wc (W3.heap.size) (.string (n1 ob)) (.string (n2 ob))) ∧ Hid (RBlk wc (W4.heap.size) (.string (n1 oc)) (.string (n2 oc))) ∧ Hid (Below w.heap.size w wc))
  case first =>
    as_aux_lemma =>
      cases long
      · go_wp2_with fail
        go_meet
        case rel => exact ⟨oa, ob, soa.ok, sob.ok, fun _ => ⟨sm_add soa sob, sm_mul soa sob⟩, A, D, C, HB⟩
      · have Xc0 := X.out.c 0 rfl
        have Xc1 := X.out.c 1 rfl
        have Xc2 := X.out.c 2 rfl
        have Xc3 := X.out.c 3 rfl
        go_wp2_with fail
        clear Xc0 Xc1 Xc2 Xc3 X
        go_at_call 14
        refine (Long_O x0 x1 x2 x3 _ bx0 bx1 bx2 bx3).mono ?_
        rintro e Wm1 ⟨op, rfl, sop, B⟩
        have Yn := Lib.hid ((Y.out.keep B Y.out.lt))
        have An := Lib.hid ((A.out.keep B A.out.lt))
        have Dn := Lib.hid ((D.out.keep B D.out.lt))
        have Cn := Lib.hid ((C.out.keep B C.out.lt))
        have HBn := Lib.hid (HB.out.trans (B.mono HB.out.size))
        clear Y A D C HB
        have Y := Yn
        have A := An
        have D := Dn
        have C := Cn
        have HB := HBn
        clear Yn An Dn Cn HBn
        clear B
        have c0 := A.out.c0
        have c1 := A.out.c1
        have f0 := A.out.f 0
        have f1 := A.out.f 1
        have hs := A.out.s0 (.string (n1 op))
        have d1 := hs.c1
        have g1 := hs.f 1
        have An := Lib.hid (hs.s1 (.string (n2 op)))
        have Yn := Lib.hid ((Y.out.other ⟨W2.heap.size, 0, none⟩ (.string (n1 op)) (Nat.ne_of_lt lAY)).other ⟨W2.heap.size, 1, none⟩ (.string (n2 op)) (Nat.ne_of_lt lAY))
        have Dn := Lib.hid ((D.out.other ⟨W2.heap.size, 0, none⟩ (.string (n1 op)) (Nat.ne_of_gt lDA)).other ⟨W2.heap.size, 1, none⟩ (.string (n2 op)) (Nat.ne_of_gt lDA))
        have Cn := Lib.hid ((C.out.other ⟨W2.heap.size, 0, none⟩ (.string (n1 op)) (Nat.ne_of_gt lCA)).other ⟨W2.heap.size, 1, none⟩ (.string (n2 op)) (Nat.ne_of_gt lCA))
        have HBn := Lib.hid ((HB.out.setCell (p := ⟨W2.heap.size, 0, none⟩) gA (.string (n1 op))).setCell (p := ⟨W2.heap.size, 1, none⟩) gA (.string (n2 op)))
        clear hs
        have Xc0 := Yn.out.c 0 rfl
        have Xc1 := Yn.out.c 1 rfl
        have Xc2 := Yn.out.c 2 rfl
        have Xc3 := Yn.out.c 3 rfl
        go_wp2_with fail
        clear c0 c1 f0 f1 d1 g1 Xc0 Xc1 Xc2 Xc3 Y D C A HB
        have Y := Yn
        have D := Dn
        have C := Cn
        have A := An
        have HB := HBn
        clear Yn Dn Cn An HBn
        clear Y
        go_at_call 14
        refine (Long_O y0 y1 y2 y3 _ by0 by1 by2 by3).mono ?_
        rintro e Wm2 ⟨oq, rfl, soq, B⟩
        have An := Lib.hid ((A.out.keep B A.out.lt))
        have Dn := Lib.hid ((D.out.keep B D.out.lt))
        have Cn := Lib.hid ((C.out.keep B C.out.lt))
        have HBn := Lib.hid (HB.out.trans (B.mono HB.out.size))
        clear A D C HB
        have A := An
        have D := Dn
        have C := Cn
        have HB := HBn
        clear An Dn Cn HBn
        clear B
        have c0 := D.out.c0
        have c1 := D.out.c1
        have f0 := D.out.f 0
        have f1 := D.out.f 1
        have hs := D.out.s0 (.string (n1 oq))
        have d1 := hs.c1
        have g1 := hs.f 1
        have Dn := Lib.hid (hs.s1 (.string (n2 oq)))
        have An := Lib.hid ((A.out.other ⟨W3.heap.size, 0, none⟩ (.string (n1 oq)) (Nat.ne_of_lt lDA)).other ⟨W3.heap.size, 1, none⟩ (.string (n2 oq)) (Nat.ne_of_lt lDA))
        have Cn := Lib.hid ((C.out.other ⟨W3.heap.size, 0, none⟩ (.string (n1 oq)) (Nat.ne_of_gt lCD)).other ⟨W3.heap.size, 1, none⟩ (.string (n2 oq)) (Nat.ne_of_gt lCD))
        have HBn := Lib.hid ((HB.out.setCell (p := ⟨W3.heap.size, 0, none⟩) gD (.string (n1 oq))).setCell (p := ⟨W3.heap.size, 1, none⟩) gD (.string (n2 oq)))
        clear hs
        go_wp2_with fail
        clear c0 c1 f0 f1 d1 g1 A C D HB
        have A := An
        have C := Cn
        have D := Dn
        have HB := HBn
        clear An Cn Dn HBn
        go_meet
        case rel => exact ⟨op, oq, sop.ok, soq.ok, (fun h => by cases h), A, D, C, HB⟩
  case rest =>
    as_aux_lemma =>
      clear A D C HB X Y soa sob
      clear oa ob
      obtain ⟨oa, ob, hoa, hob, hlf, A, D, C, HB⟩ := hcut
      have hoc := soc.ok
      clear soc
      have Q : ∃ (oa1 oa2 ob1 ob2 oc1 oc2 r01 r02 r11 r12 r21 r22 r31 r32 s11 s12 s31 s32 g01 g02 g11 g12 g21 g22 g31 g32 h01 h02 h11 h12 h21 h22 h31 h32 on1 on2 tw1 tw2 lf1 lf2 ac1 ac2 su1 su2 ba1 ba2 ag1 ag2 : ByteArray) (r0e r1e r2e r3e s1e s3e g0e g1e g2e g3e h0e h1e h2e h3e one twe lfe ace sue bae age : Int), Hid (Pk oa1 oa2 ob1 ob2 oc1 oc2 r01 r02 r11 r12 r21 r22 r31 r32 s11 s12 s31 s32 g01 g02 g11 g12 g21 g22 g31 g32 h01 h02 h11 h12 h21 h22 h31 h32 on1 on2 tw1 tw2 lf1 lf2 ac1 ac2 su1 su2 ba1 ba2 ag1 ag2 r0e r1e r2e r3e s1e s3e g0e g1e g2e g3e h0e h1e h2e h3e one twe lfe ace sue bae age) ∧ Hid (long = false → r0e = 0 ∧ r2e = 0) ∧ Hid (RBlk wc (W2.heap.size) (.string oa1) (.string oa2)) ∧ Hid (RBlk wc (W3.heap.size) (.string ob1) (.string ob2)) ∧ Hid (RBlk wc (W4.heap.size) (.string oc1) (.string oc2)) :=
        ⟨_, _, _, _, _, _, _, _, _, _, _, _, _, _, _, _, _, _, _, _, _, _, _, _, _, _, _, _, _, _, _, _, _, _, _, _, _, _, _, _, _, _, _, _, _, _, _, _, _, _, _, _, _, _, _, _, _, _, _, _, _, _, _, _, _, _, _, _, _, Lib.hid (pk oa ob oc hoa hob hoc), Lib.hid hlf, A, D, C⟩
      clear hoa hob hoc hlf A D C
      obtain ⟨oa1, oa2, ob1, ob2, oc1, oc2, r01, r02, r11, r12, r21, r22, r31, r32, s11, s12, s31, s32, g01, g02, g11, g12, g21, g22, g31, g32, h01, h02, h11, h12, h21, h22, h31, h32, on1, on2, tw1, tw2, lf1, lf2, ac1, ac2, su1, su2, ba1, ba2, ag1, ag2, r0e, r1e, r2e, r3e, s1e, s3e, g0e, g1e, g2e, g3e, h0e, h1e, h2e, h3e, one, twe, lfe, ace, sue, bae, age, PK, Hhlf, A, D, C⟩ := Q
      clear oa ob oc
      have Ac0 := A.out.c0
      have Ac1 := A.out.c1
      have Dc0 := D.out.c0
      have Dc1 := D.out.c1
      go_wp2_with fail
      clear Ac0 Ac1 Dc0 Dc1
      go_at_call 16
      refine (PK.out.f1 _).mono ?_
      rintro e Wf1 ⟨rfl, B⟩
      have q1 : (Wf1.alloc (.cells #[.string r01, .string r02, .string r11, .string r12, .string r21, .string r22, .string r31, .string r32] 31)).heap.size = Wf1.heap.size + 1 := World.size_alloc _ _
      have An := Lib.hid (((A.out.keep B A.out.lt).alloc (.cells #[.string r01, .string r02, .string r11, .string r12, .string r21, .string r22, .string r31, .string r32] 31)).alloc (.cells #[.int .i64 r0e, .int .i64 r1e, .int .i64 r2e, .int .i64 r3e] 33))
      have Dn := Lib.hid (((D.out.keep B D.out.lt).alloc (.cells #[.string r01, .string r02, .string r11, .string r12, .string r21, .string r22, .string r31, .string r32] 31)).alloc (.cells #[.int .i64 r0e, .int .i64 r1e, .int .i64 r2e, .int .i64 r3e] 33))
      have Cn := Lib.hid (((C.out.keep B C.out.lt).alloc (.cells #[.string r01, .string r02, .string r11, .string r12, .string r21, .string r22, .string r31, .string r32] 31)).alloc (.cells #[.int .i64 r0e, .int .i64 r1e, .int .i64 r2e, .int .i64 r3e] 33))
      have Rn := Lib.hid ((CBlk.new Wf1 #[.string r01, .string r02, .string r11, .string r12, .string r21, .string r22, .string r31, .string r32] 31).alloc (.cells #[.int .i64 r0e, .int .i64 r1e, .int .i64 r2e, .int .i64 r3e] 33))
      have En := Lib.hid (q1 ▸ CBlk.new (Wf1.alloc (.cells #[.string r01, .string r02, .string r11, .string r12, .string r21, .string r22, .string r31, .string r32] 31)) #[.int .i64 r0e, .int .i64 r1e, .int .i64 r2e, .int .i64 r3e] 33 : CBlk ((Wf1.alloc (.cells #[.string r01, .string r02, .string r11, .string r12, .string r21, .string r22, .string r31, .string r32] 31)).alloc (.cells #[.int .i64 r0e, .int .i64 r1e, .int .i64 r2e, .int .i64 r3e] 33)) (Wf1.heap.size + 1) #[.int .i64 r0e, .int .i64 r1e, .int .i64 r2e, .int .i64 r3e] 33)
      have HBn := Lib.hid (((HB.out.trans (B.mono HB.out.size)).alloc (HB.out.trans (B.mono HB.out.size)).size (.cells #[.string r01, .string r02, .string r11, .string r12, .string r21, .string r22, .string r31, .string r32] 31)).alloc (by rw [q1]; have := (HB.out.trans (B.mono HB.out.size)).size; omega) (.cells #[.int .i64 r0e, .int .i64 r1e, .int .i64 r2e, .int .i64 r3e] 33))
      clear q1 B A D C HB
      have A := An
      have D := Dn
      have C := Cn
      have R := Rn
      have E := En
      have HB := HBn
      clear An Dn Cn Rn En HBn
      have Dc0 := D.out.c0
      have Dc1 := D.out.c1
      have Ac0 := A.out.c0
      have Ac1 := A.out.c1
      go_wp2_with fail
      clear Dc0 Dc1 Ac0 Ac1
      go_at_call 16
      refine (PK.out.f2 _).mono ?_
      rintro e Wf2 ⟨rfl, B⟩
      have q1 : (Wf2.alloc (.cells #[.string r01, .string r02, .string s11, .string s12, .string r21, .string r22, .string s31, .string s32] 31)).heap.size = Wf2.heap.size + 1 := World.size_alloc _ _
      have An := Lib.hid (((A.out.keep B A.out.lt).alloc (.cells #[.string r01, .string r02, .string s11, .string s12, .string r21, .string r22, .string s31, .string s32] 31)).alloc (.cells #[.int .i64 r0e, .int .i64 s1e, .int .i64 r2e, .int .i64 s3e] 33))
      have Dn := Lib.hid (((D.out.keep B D.out.lt).alloc (.cells #[.string r01, .string r02, .string s11, .string s12, .string r21, .string r22, .string s31, .string s32] 31)).alloc (.cells #[.int .i64 r0e, .int .i64 s1e, .int .i64 r2e, .int .i64 s3e] 33))
      have Cn := Lib.hid (((C.out.keep B C.out.lt).alloc (.cells #[.string r01, .string r02, .string s11, .string s12, .string r21, .string r22, .string s31, .string s32] 31)).alloc (.cells #[.int .i64 r0e, .int .i64 s1e, .int .i64 r2e, .int .i64 s3e] 33))
      have Rn := Lib.hid (((R.out.keep B R.out.lt).alloc (.cells #[.string r01, .string r02, .string s11, .string s12, .string r21, .string r22, .string s31, .string s32] 31)).alloc (.cells #[.int .i64 r0e, .int .i64 s1e, .int .i64 r2e, .int .i64 s3e] 33))
      have En := Lib.hid (((E.out.keep B E.out.lt).alloc (.cells #[.string r01, .string r02, .string s11, .string s12, .string r21, .string r22, .string s31, .string s32] 31)).alloc (.cells #[.int .i64 r0e, .int .i64 s1e, .int .i64 r2e, .int .i64 s3e] 33))
      have Sn := Lib.hid ((CBlk.new Wf2 #[.string r01, .string r02, .string s11, .string s12, .string r21, .string r22, .string s31, .string s32] 31).alloc (.cells #[.int .i64 r0e, .int .i64 s1e, .int .i64 r2e, .int .i64 s3e] 33))
      have Fn := Lib.hid (q1 ▸ CBlk.new (Wf2.alloc (.cells #[.string r01, .string r02, .string s11, .string s12, .string r21, .string r22, .string s31, .string s32] 31)) #[.int .i64 r0e, .int .i64 s1e, .int .i64 r2e, .int .i64 s3e] 33 : CBlk ((Wf2.alloc (.cells #[.string r01, .string r02, .string s11, .string s12, .string r21, .string r22, .string s31, .string s32] 31)).alloc (.cells #[.int .i64 r0e, .int .i64 s1e, .int .i64 r2e, .int .i64 s3e] 33)) (Wf2.heap.size + 1) #[.int .i64 r0e, .int .i64 s1e, .int .i64 r2e, .int .i64 s3e] 33)
      have HBn := Lib.hid (((HB.out.trans (B.mono HB.out.size)).alloc (HB.out.trans (B.mono HB.out.size)).size (.cells #[.string r01, .string r02, .string s11, .string s12, .string r21, .string r22, .string s31, .string s32] 31)).alloc (by rw [q1]; have := (HB.out.trans (B.mono HB.out.size)).size; omega) (.cells #[.int .i64 r0e, .int .i64 s1e, .int .i64 r2e, .int .i64 s3e] 33))
      clear q1 B A D C R E HB
      have A := An
      have D := Dn
      have C := Cn
      have R := Rn
      have E := En
      have S := Sn
      have F := Fn
      have HB := HBn
      clear An Dn Cn Rn En Sn Fn HBn
      go_upto_region 10 with fail
      go_cut [108] from 37 (fun sv wc => sv = .bool false ∧ Hid (RBlk wc (W2.heap.size) (.string oa1) (.string oa2)) ∧ Hid (RBlk wc (W3.heap.size) (.string ob1) (.string ob2)) ∧ Hid (RBlk wc (W4.heap.size) (.string oc1) (.string oc2)) ∧ Hid (CBlk wc (Wf1.heap.size) #[.string r01, .string r02, .string r11, .string r12, .string r21, .string r22, .string r31, .string r32] 31) ∧ Hid (CBlk wc (Wf1.heap.size + 1) #[.int .i64 r0e, .int .i64 r1e, .int .i64 r2e, .int .i64 r3e] 33) ∧ Hid (Below w.heap.size w wc))
      case first =>
        as_aux_lemma =>
          cases long
          · obtain ⟨rfl, rfl⟩ := Hhlf.out rfl
            have R0a := R.out.c 0 rfl
            have R0b := R.out.c 1 rfl
            have S0a := S.out.c 0 rfl
            have S0b := S.out.c 1 rfl
            have R2a := R.out.c 4 rfl
            have R2b := R.out.c 5 rfl
            have S2a := S.out.c 4 rfl
            have S2b := S.out.c 5 rfl
            have E0a := E.out.c 0 rfl
            have F0a := F.out.c 0 rfl
            have E2a := E.out.c 2 rfl
            have F2a := F.out.c 2 rfl
            go_wp2_with fail
            go_meet
            case rel => exact ⟨by first | rfl | simp, A, D, C, R, E, HB⟩
          · have R0a := R.out.c 0 rfl
            have R0b := R.out.c 1 rfl
            have S0a := S.out.c 0 rfl
            have S0b := S.out.c 1 rfl
            have R2a := R.out.c 4 rfl
            have R2b := R.out.c 5 rfl
            have S2a := S.out.c 4 rfl
            have S2b := S.out.c 5 rfl
            have E0a := E.out.c 0 rfl
            have F0a := F.out.c 0 rfl
            have E2a := E.out.c 2 rfl
            have F2a := F.out.c 2 rfl
            go_wp2_with fail
            go_meet
            case rel => exact ⟨by first | rfl | simp, A, D, C, R, E, HB⟩
      case rest =>
        clear A D C R E S F HB
        obtain ⟨rfl, A, D, C, R, E, HB⟩ := hcut
        as_aux_lemma =>
          have Dc0 := D.out.c0
          have Dc1 := D.out.c1
          have Cc0 := C.out.c0
          have Cc1 := C.out.c1
          go_wp2_with fail
          clear Dc0 Dc1 Cc0 Cc1
          go_at_call 16
          refine (PK.out.f3 _).mono ?_
          rintro e Wf3 ⟨rfl, B⟩
          have q1 : (Wf3.alloc (.cells #[.string g01, .string g02, .string g11, .string g12, .string g21, .string g22, .string g31, .string g32] 31)).heap.size = Wf3.heap.size + 1 := World.size_alloc _ _
          have An := Lib.hid (((A.out.keep B A.out.lt).alloc (.cells #[.string g01, .string g02, .string g11, .string g12, .string g21, .string g22, .string g31, .string g32] 31)).alloc (.cells #[.int .i64 g0e, .int .i64 g1e, .int .i64 g2e, .int .i64 g3e] 33))
          have Dn := Lib.hid (((D.out.keep B D.out.lt).alloc (.cells #[.string g01, .string g02, .string g11, .string g12, .string g21, .string g22, .string g31, .string g32] 31)).alloc (.cells #[.int .i64 g0e, .int .i64 g1e, .int .i64 g2e, .int .i64 g3e] 33))
          have Cn := Lib.hid (((C.out.keep B C.out.lt).alloc (.cells #[.string g01, .string g02, .string g11, .string g12, .string g21, .string g22, .string g31, .string g32] 31)).alloc (.cells #[.int .i64 g0e, .int .i64 g1e, .int .i64 g2e, .int .i64 g3e] 33))
          have Rn := Lib.hid (((R.out.keep B R.out.lt).alloc (.cells #[.string g01, .string g02, .string g11, .string g12, .string g21, .string g22, .string g31, .string g32] 31)).alloc (.cells #[.int .i64 g0e, .int .i64 g1e, .int .i64 g2e, .int .i64 g3e] 33))
          have En := Lib.hid (((E.out.keep B E.out.lt).alloc (.cells #[.string g01, .string g02, .string g11, .string g12, .string g21, .string g22, .string g31, .string g32] 31)).alloc (.cells #[.int .i64 g0e, .int .i64 g1e, .int .i64 g2e, .int .i64 g3e] 33))
          have BCn := Lib.hid ((CBlk.new Wf3 #[.string g01, .string g02, .string g11, .string g12, .string g21, .string g22, .string g31, .string g32] 31).alloc (.cells #[.int .i64 g0e, .int .i64 g1e, .int .i64 g2e, .int .i64 g3e] 33))
          have Gn := Lib.hid (q1 ▸ CBlk.new (Wf3.alloc (.cells #[.string g01, .string g02, .string g11, .string g12, .string g21, .string g22, .string g31, .string g32] 31)) #[.int .i64 g0e, .int .i64 g1e, .int .i64 g2e, .int .i64 g3e] 33 : CBlk ((Wf3.alloc (.cells #[.string g01, .string g02, .string g11, .string g12, .string g21, .string g22, .string g31, .string g32] 31)).alloc (.cells #[.int .i64 g0e, .int .i64 g1e, .int .i64 g2e, .int .i64 g3e] 33)) (Wf3.heap.size + 1) #[.int .i64 g0e, .int .i64 g1e, .int .i64 g2e, .int .i64 g3e] 33)
          have HBn := Lib.hid (((HB.out.trans (B.mono HB.out.size)).alloc (HB.out.trans (B.mono HB.out.size)).size (.cells #[.string g01, .string g02, .string g11, .string g12, .string g21, .string g22, .string g31, .string g32] 31)).alloc (by rw [q1]; have := (HB.out.trans (B.mono HB.out.size)).size; omega) (.cells #[.int .i64 g0e, .int .i64 g1e, .int .i64 g2e, .int .i64 g3e] 33))
          clear q1 B A D C R E HB
          have A := An
          have D := Dn
          have C := Cn
          have R := Rn
          have E := En
          have BC := BCn
          have G := Gn
          have HB := HBn
          clear An Dn Cn Rn En BCn Gn HBn
          have R0a := R.out.c 0 rfl
          have R0b := R.out.c 1 rfl
          have Cc0 := C.out.c0
          have Cc1 := C.out.c1
          go_wp2_with fail
          clear R0a R0b Cc0 Cc1
          go_at_call 16
          refine (PK.out.f4 _).mono ?_
          rintro e Wf4 ⟨rfl, B⟩
          have q1 : (Wf4.alloc (.cells #[.string h01, .string h02, .string h11, .string h12, .string h21, .string h22, .string h31, .string h32] 31)).heap.size = Wf4.heap.size + 1 := World.size_alloc _ _
          have An := Lib.hid (((A.out.keep B A.out.lt).alloc (.cells #[.string h01, .string h02, .string h11, .string h12, .string h21, .string h22, .string h31, .string h32] 31)).alloc (.cells #[.int .i64 h0e, .int .i64 h1e, .int .i64 h2e, .int .i64 h3e] 33))
          have Dn := Lib.hid (((D.out.keep B D.out.lt).alloc (.cells #[.string h01, .string h02, .string h11, .string h12, .string h21, .string h22, .string h31, .string h32] 31)).alloc (.cells #[.int .i64 h0e, .int .i64 h1e, .int .i64 h2e, .int .i64 h3e] 33))
          have Cn := Lib.hid (((C.out.keep B C.out.lt).alloc (.cells #[.string h01, .string h02, .string h11, .string h12, .string h21, .string h22, .string h31, .string h32] 31)).alloc (.cells #[.int .i64 h0e, .int .i64 h1e, .int .i64 h2e, .int .i64 h3e] 33))
          have Rn := Lib.hid (((R.out.keep B R.out.lt).alloc (.cells #[.string h01, .string h02, .string h11, .string h12, .string h21, .string h22, .string h31, .string h32] 31)).alloc (.cells #[.int .i64 h0e, .int .i64 h1e, .int .i64 h2e, .int .i64 h3e] 33))
          have En := Lib.hid (((E.out.keep B E.out.lt).alloc (.cells #[.string h01, .string h02, .string h11, .string h12, .string h21, .string h22, .string h31, .string h32] 31)).alloc (.cells #[.int .i64 h0e, .int .i64 h1e, .int .i64 h2e, .int .i64 h3e] 33))
          have BCn := Lib.hid (((BC.out.keep B BC.out.lt).alloc (.cells #[.string h01, .string h02, .string h11, .string h12, .string h21, .string h22, .string h31, .string h32] 31)).alloc (.cells #[.int .i64 h0e, .int .i64 h1e, .int .i64 h2e, .int .i64 h3e] 33))
          have Gn := Lib.hid (((G.out.keep B G.out.lt).alloc (.cells #[.string h01, .string h02, .string h11, .string h12, .string h21, .string h22, .string h31, .string h32] 31)).alloc (.cells #[.int .i64 h0e, .int .i64 h1e, .int .i64 h2e, .int .i64 h3e] 33))
          have ABn := Lib.hid ((CBlk.new Wf4 #[.string h01, .string h02, .string h11, .string h12, .string h21, .string h22, .string h31, .string h32] 31).alloc (.cells #[.int .i64 h0e, .int .i64 h1e, .int .i64 h2e, .int .i64 h3e] 33))
          have Hn := Lib.hid (q1 ▸ CBlk.new (Wf4.alloc (.cells #[.string h01, .string h02, .string h11, .string h12, .string h21, .string h22, .string h31, .string h32] 31)) #[.int .i64 h0e, .int .i64 h1e, .int .i64 h2e, .int .i64 h3e] 33 : CBlk ((Wf4.alloc (.cells #[.string h01, .string h02, .string h11, .string h12, .string h21, .string h22, .string h31, .string h32] 31)).alloc (.cells #[.int .i64 h0e, .int .i64 h1e, .int .i64 h2e, .int .i64 h3e] 33)) (Wf4.heap.size + 1) #[.int .i64 h0e, .int .i64 h1e, .int .i64 h2e, .int .i64 h3e] 33)
          have HBn := Lib.hid (((HB.out.trans (B.mono HB.out.size)).alloc (HB.out.trans (B.mono HB.out.size)).size (.cells #[.string h01, .string h02, .string h11, .string h12, .string h21, .string h22, .string h31, .string h32] 31)).alloc (by rw [q1]; have := (HB.out.trans (B.mono HB.out.size)).size; omega) (.cells #[.int .i64 h0e, .int .i64 h1e, .int .i64 h2e, .int .i64 h3e] 33))
          clear q1 B A D C R E BC G HB
          have A := An
          have D := Dn
          have C := Cn
          have R := Rn
          have E := En
          have BC := BCn
          have G := Gn
          have AB := ABn
          have H := Hn
          have HB := HBn
          clear An Dn Cn Rn En BCn Gn ABn Hn HBn
          have Ac0 := A.out.c0
          have Ac1 := A.out.c1
          have BC0a := BC.out.c 0 rfl
          have BC0b := BC.out.c 1 rfl
          go_wp2_with fail
          clear Ac0 Ac1 BC0a BC0b
          go_at_call 38
          refine (PK.out.c1 _).mono ?_
          rintro e Wz5 ⟨rfl, B⟩
          have An := Lib.hid ((A.out.keep B A.out.lt).alloc (.cells #[(.string on1), (.string on2)] 23))
          have Dn := Lib.hid ((D.out.keep B D.out.lt).alloc (.cells #[(.string on1), (.string on2)] 23))
          have Cn := Lib.hid ((C.out.keep B C.out.lt).alloc (.cells #[(.string on1), (.string on2)] 23))
          have Rn := Lib.hid ((R.out.keep B R.out.lt).alloc (.cells #[(.string on1), (.string on2)] 23))
          have En := Lib.hid ((E.out.keep B E.out.lt).alloc (.cells #[(.string on1), (.string on2)] 23))
          have BCn := Lib.hid ((BC.out.keep B BC.out.lt).alloc (.cells #[(.string on1), (.string on2)] 23))
          have Gn := Lib.hid ((G.out.keep B G.out.lt).alloc (.cells #[(.string on1), (.string on2)] 23))
          have ABn := Lib.hid ((AB.out.keep B AB.out.lt).alloc (.cells #[(.string on1), (.string on2)] 23))
          have Hn := Lib.hid ((H.out.keep B H.out.lt).alloc (.cells #[(.string on1), (.string on2)] 23))
          have HBn := Lib.hid ((HB.out.trans (B.mono HB.out.size)).alloc (HB.out.trans (B.mono HB.out.size)).size (.cells #[(.string on1), (.string on2)] 23))
          clear A D C R E BC G AB H HB
          have A := An
          have D := Dn
          have C := Cn
          have R := Rn
          have E := En
          have BC := BCn
          have G := Gn
          have AB := ABn
          have H := Hn
          have HB := HBn
          clear An Dn Cn Rn En BCn Gn ABn Hn HBn
          have One := Lib.hid (RBlk.new Wz5 (.string on1) (.string on2))
          clear B
          go_upto_region 15 with fail
          go_cut [151] from 37 (fun sv wc => sv = .bool false ∧ Hid (RBlk wc (W2.heap.size) (.string oa1) (.string oa2)) ∧ Hid (RBlk wc (W3.heap.size) (.string ob1) (.string ob2)) ∧ Hid (RBlk wc (W4.heap.size) (.string oc1) (.string oc2)) ∧ Hid (CBlk wc (Wf1.heap.size) #[.string r01, .string r02, .string r11, .string r12, .string r21, .string r22, .string r31, .string r32] 31) ∧ Hid (CBlk wc (Wf1.heap.size + 1) #[.int .i64 r0e, .int .i64 r1e, .int .i64 r2e, .int .i64 r3e] 33) ∧ Hid (CBlk wc (Wf3.heap.size) #[.string g01, .string g02, .string g11, .string g12, .string g21, .string g22, .string g31, .string g32] 31) ∧ Hid (CBlk wc (Wf3.heap.size + 1) #[.int .i64 g0e, .int .i64 g1e, .int .i64 g2e, .int .i64 g3e] 33) ∧ Hid (Below w.heap.size w wc))
          case first =>
            as_aux_lemma =>
              rcases PK.out.e_r0 with rfl | rfl
              · rcases PK.out.e_g0 with rfl | rfl
                · rcases PK.out.e_h0 with rfl | rfl
                  · rcases PK.out.e_on with rfl | rfl
                    · obtain ⟨ka, kb⟩ := PK.out.k1 rfl rfl
                      subst ka kb
                      have E0a := E.out.c 0 rfl
                      have G0a := G.out.c 0 rfl
                      have H0a := H.out.c 0 rfl
                      have AB0a := AB.out.c 0 rfl
                      have AB0b := AB.out.c 1 rfl
                      have Onec0 := One.out.c0
                      have Onec1 := One.out.c1
                      go_wp2_with fail
                      go_meet
                      case rel => exact ⟨by first | rfl | simp, A, D, C, R, E, BC, G, HB⟩
                    · have E0a := E.out.c 0 rfl
                      have G0a := G.out.c 0 rfl
                      have H0a := H.out.c 0 rfl
                      have AB0a := AB.out.c 0 rfl
                      have AB0b := AB.out.c 1 rfl
                      have Onec0 := One.out.c0
                      have Onec1 := One.out.c1
                      go_wp2_with fail
                      go_meet
                      case rel => exact ⟨by first | rfl | simp, A, D, C, R, E, BC, G, HB⟩
                  · have E0a := E.out.c 0 rfl
                    have G0a := G.out.c 0 rfl
                    have H0a := H.out.c 0 rfl
                    have AB0a := AB.out.c 0 rfl
                    have AB0b := AB.out.c 1 rfl
                    have Onec0 := One.out.c0
                    have Onec1 := One.out.c1
                    go_wp2_with fail
                    go_meet
                    case rel => exact ⟨by first | rfl | simp, A, D, C, R, E, BC, G, HB⟩
                · have E0a := E.out.c 0 rfl
                  have G0a := G.out.c 0 rfl
                  have H0a := H.out.c 0 rfl
                  have AB0a := AB.out.c 0 rfl
                  have AB0b := AB.out.c 1 rfl
                  have Onec0 := One.out.c0
                  have Onec1 := One.out.c1
                  go_wp2_with fail
                  go_meet
                  case rel => exact ⟨by first | rfl | simp, A, D, C, R, E, BC, G, HB⟩
              · have E0a := E.out.c 0 rfl
                have G0a := G.out.c 0 rfl
                have H0a := H.out.c 0 rfl
                have AB0a := AB.out.c 0 rfl
                have AB0b := AB.out.c 1 rfl
                have Onec0 := One.out.c0
                have Onec1 := One.out.c1
                go_wp2_with fail
                go_meet
                case rel => exact ⟨by first | rfl | simp, A, D, C, R, E, BC, G, HB⟩
          case rest =>
            clear A D C R E BC G AB H One HB
            obtain ⟨rfl, A, D, C, R, E, BC, G, HB⟩ := hcut
            as_aux_lemma =>
              have Ac0 := A.out.c0
              have Ac1 := A.out.c1
              have BC2a := BC.out.c 4 rfl
              have BC2b := BC.out.c 5 rfl
              go_wp2_with fail
              clear Ac0 Ac1 BC2a BC2b
              go_at_call 39
              refine (PK.out.c2 _).mono ?_
              rintro e Wz6 ⟨rfl, B⟩
              have An := Lib.hid ((A.out.keep B A.out.lt).alloc (.cells #[(.string tw1), (.string tw2)] 23))
              have Dn := Lib.hid ((D.out.keep B D.out.lt).alloc (.cells #[(.string tw1), (.string tw2)] 23))
              have Cn := Lib.hid ((C.out.keep B C.out.lt).alloc (.cells #[(.string tw1), (.string tw2)] 23))
              have Rn := Lib.hid ((R.out.keep B R.out.lt).alloc (.cells #[(.string tw1), (.string tw2)] 23))
              have En := Lib.hid ((E.out.keep B E.out.lt).alloc (.cells #[(.string tw1), (.string tw2)] 23))
              have BCn := Lib.hid ((BC.out.keep B BC.out.lt).alloc (.cells #[(.string tw1), (.string tw2)] 23))
              have Gn := Lib.hid ((G.out.keep B G.out.lt).alloc (.cells #[(.string tw1), (.string tw2)] 23))
              have HBn := Lib.hid ((HB.out.trans (B.mono HB.out.size)).alloc (HB.out.trans (B.mono HB.out.size)).size (.cells #[(.string tw1), (.string tw2)] 23))
              clear A D C R E BC G HB
              have A := An
              have D := Dn
              have C := Cn
              have R := Rn
              have E := En
              have BC := BCn
              have G := Gn
              have HB := HBn
              clear An Dn Cn Rn En BCn Gn HBn
              have Two := Lib.hid (RBlk.new Wz6 (.string tw1) (.string tw2))
              clear B
              have R2a := R.out.c 4 rfl
              have R2b := R.out.c 5 rfl
              have Cc0 := C.out.c0
              have Cc1 := C.out.c1
              go_wp2_with fail
              clear R2a R2b Cc0 Cc1
              go_at_call 39
              refine (PK.out.c3 _).mono ?_
              rintro e Wz7 ⟨rfl, B⟩
              have An := Lib.hid ((A.out.keep B A.out.lt).alloc (.cells #[(.string lf1), (.string lf2)] 23))
              have Dn := Lib.hid ((D.out.keep B D.out.lt).alloc (.cells #[(.string lf1), (.string lf2)] 23))
              have Cn := Lib.hid ((C.out.keep B C.out.lt).alloc (.cells #[(.string lf1), (.string lf2)] 23))
              have Rn := Lib.hid ((R.out.keep B R.out.lt).alloc (.cells #[(.string lf1), (.string lf2)] 23))
              have En := Lib.hid ((E.out.keep B E.out.lt).alloc (.cells #[(.string lf1), (.string lf2)] 23))
              have BCn := Lib.hid ((BC.out.keep B BC.out.lt).alloc (.cells #[(.string lf1), (.string lf2)] 23))
              have Gn := Lib.hid ((G.out.keep B G.out.lt).alloc (.cells #[(.string lf1), (.string lf2)] 23))
              have Twon := Lib.hid ((Two.out.keep B Two.out.lt).alloc (.cells #[(.string lf1), (.string lf2)] 23))
              have HBn := Lib.hid ((HB.out.trans (B.mono HB.out.size)).alloc (HB.out.trans (B.mono HB.out.size)).size (.cells #[(.string lf1), (.string lf2)] 23))
              clear A D C R E BC G Two HB
              have A := An
              have D := Dn
              have C := Cn
              have R := Rn
              have E := En
              have BC := BCn
              have G := Gn
              have Two := Twon
              have HB := HBn
              clear An Dn Cn Rn En BCn Gn Twon HBn
              have Lf := Lib.hid (RBlk.new Wz7 (.string lf1) (.string lf2))
              clear B
              go_upto_region 19 with fail
              go_cut [186] from 37 (fun sv wc => sv = .bool false ∧ Hid (RBlk wc (W2.heap.size) (.string oa1) (.string oa2)) ∧ Hid (RBlk wc (W3.heap.size) (.string ob1) (.string ob2)) ∧ Hid (RBlk wc (W4.heap.size) (.string oc1) (.string oc2)) ∧ Hid (CBlk wc (Wf1.heap.size) #[.string r01, .string r02, .string r11, .string r12, .string r21, .string r22, .string r31, .string r32] 31) ∧ Hid (CBlk wc (Wf1.heap.size + 1) #[.int .i64 r0e, .int .i64 r1e, .int .i64 r2e, .int .i64 r3e] 33) ∧ Hid (CBlk wc (Wf3.heap.size) #[.string g01, .string g02, .string g11, .string g12, .string g21, .string g22, .string g31, .string g32] 31) ∧ Hid (CBlk wc (Wf3.heap.size + 1) #[.int .i64 g0e, .int .i64 g1e, .int .i64 g2e, .int .i64 g3e] 33) ∧ Hid (Below w.heap.size w wc))
              case first =>
                as_aux_lemma =>
                  rcases PK.out.e_r2 with rfl | rfl
                  · rcases PK.out.e_g2 with rfl | rfl
                    · rcases PK.out.e_tw with rfl | rfl
                      · rcases PK.out.e_lf with rfl | rfl
                        · obtain ⟨ka, kb⟩ := PK.out.k2 rfl rfl
                          subst ka kb
                          have E2a := E.out.c 2 rfl
                          have G2a := G.out.c 2 rfl
                          have Twoc0 := Two.out.c0
                          have Twoc1 := Two.out.c1
                          have Lfc0 := Lf.out.c0
                          have Lfc1 := Lf.out.c1
                          go_wp2_with fail
                          go_meet
                          case rel => exact ⟨by first | rfl | simp, A, D, C, R, E, BC, G, HB⟩
                        · have E2a := E.out.c 2 rfl
                          have G2a := G.out.c 2 rfl
                          have Twoc0 := Two.out.c0
                          have Twoc1 := Two.out.c1
                          have Lfc0 := Lf.out.c0
                          have Lfc1 := Lf.out.c1
                          go_wp2_with fail
                          go_meet
                          case rel => exact ⟨by first | rfl | simp, A, D, C, R, E, BC, G, HB⟩
                      · have E2a := E.out.c 2 rfl
                        have G2a := G.out.c 2 rfl
                        have Twoc0 := Two.out.c0
                        have Twoc1 := Two.out.c1
                        have Lfc0 := Lf.out.c0
                        have Lfc1 := Lf.out.c1
                        go_wp2_with fail
                        go_meet
                        case rel => exact ⟨by first | rfl | simp, A, D, C, R, E, BC, G, HB⟩
                    · have E2a := E.out.c 2 rfl
                      have G2a := G.out.c 2 rfl
                      have Twoc0 := Two.out.c0
                      have Twoc1 := Two.out.c1
                      have Lfc0 := Lf.out.c0
                      have Lfc1 := Lf.out.c1
                      go_wp2_with fail
                      go_meet
                      case rel => exact ⟨by first | rfl | simp, A, D, C, R, E, BC, G, HB⟩
                  · have E2a := E.out.c 2 rfl
                    have G2a := G.out.c 2 rfl
                    have Twoc0 := Two.out.c0
                    have Twoc1 := Two.out.c1
                    have Lfc0 := Lf.out.c0
                    have Lfc1 := Lf.out.c1
                    go_wp2_with fail
                    go_meet
                    case rel => exact ⟨by first | rfl | simp, A, D, C, R, E, BC, G, HB⟩
              case rest =>
                clear A D C R E BC G Two Lf HB
                obtain ⟨rfl, A, D, C, R, E, BC, G, HB⟩ := hcut
                as_aux_lemma =>
                  have Ac0 := A.out.c0
                  have Ac1 := A.out.c1
                  have Cc0 := C.out.c0
                  have Cc1 := C.out.c1
                  go_wp2_with fail
                  clear Ac0 Ac1 Cc0 Cc1
                  go_at_call 39
                  refine (PK.out.c4 _).mono ?_
                  rintro e Wz8 ⟨rfl, B⟩
                  have An := Lib.hid ((A.out.keep B A.out.lt).alloc (.cells #[(.string ac1), (.string ac2)] 23))
                  have Dn := Lib.hid ((D.out.keep B D.out.lt).alloc (.cells #[(.string ac1), (.string ac2)] 23))
                  have Cn := Lib.hid ((C.out.keep B C.out.lt).alloc (.cells #[(.string ac1), (.string ac2)] 23))
                  have Rn := Lib.hid ((R.out.keep B R.out.lt).alloc (.cells #[(.string ac1), (.string ac2)] 23))
                  have En := Lib.hid ((E.out.keep B E.out.lt).alloc (.cells #[(.string ac1), (.string ac2)] 23))
                  have BCn := Lib.hid ((BC.out.keep B BC.out.lt).alloc (.cells #[(.string ac1), (.string ac2)] 23))
                  have Gn := Lib.hid ((G.out.keep B G.out.lt).alloc (.cells #[(.string ac1), (.string ac2)] 23))
                  have HBn := Lib.hid ((HB.out.trans (B.mono HB.out.size)).alloc (HB.out.trans (B.mono HB.out.size)).size (.cells #[(.string ac1), (.string ac2)] 23))
                  clear A D C R E BC G HB
                  have A := An
                  have D := Dn
                  have C := Cn
                  have R := Rn
                  have E := En
                  have BC := BCn
                  have G := Gn
                  have HB := HBn
                  clear An Dn Cn Rn En BCn Gn HBn
                  have Ac := Lib.hid (RBlk.new Wz8 (.string ac1) (.string ac2))
                  clear B
                  have Acc0 := Ac.out.c0
                  have Acc1 := Ac.out.c1
                  have BC2a := BC.out.c 4 rfl
                  have BC2b := BC.out.c 5 rfl
                  go_wp2_with fail
                  clear Acc0 Acc1 BC2a BC2b
                  go_at_call 38
                  refine (PK.out.c5 _).mono ?_
                  rintro e Wz9 ⟨rfl, B⟩
                  have An := Lib.hid ((A.out.keep B A.out.lt).alloc (.cells #[(.string su1), (.string su2)] 23))
                  have Dn := Lib.hid ((D.out.keep B D.out.lt).alloc (.cells #[(.string su1), (.string su2)] 23))
                  have Cn := Lib.hid ((C.out.keep B C.out.lt).alloc (.cells #[(.string su1), (.string su2)] 23))
                  have Rn := Lib.hid ((R.out.keep B R.out.lt).alloc (.cells #[(.string su1), (.string su2)] 23))
                  have En := Lib.hid ((E.out.keep B E.out.lt).alloc (.cells #[(.string su1), (.string su2)] 23))
                  have BCn := Lib.hid ((BC.out.keep B BC.out.lt).alloc (.cells #[(.string su1), (.string su2)] 23))
                  have Gn := Lib.hid ((G.out.keep B G.out.lt).alloc (.cells #[(.string su1), (.string su2)] 23))
                  have Acn := Lib.hid ((Ac.out.keep B Ac.out.lt).alloc (.cells #[(.string su1), (.string su2)] 23))
                  have HBn := Lib.hid ((HB.out.trans (B.mono HB.out.size)).alloc (HB.out.trans (B.mono HB.out.size)).size (.cells #[(.string su1), (.string su2)] 23))
                  clear A D C R E BC G Ac HB
                  have A := An
                  have D := Dn
                  have C := Cn
                  have R := Rn
                  have E := En
                  have BC := BCn
                  have G := Gn
                  have Ac := Acn
                  have HB := HBn
                  clear An Dn Cn Rn En BCn Gn Acn HBn
                  have Su := Lib.hid (RBlk.new Wz9 (.string su1) (.string su2))
                  clear B
                  clear Ac BC
                  have R0a := R.out.c 0 rfl
                  have R0b := R.out.c 1 rfl
                  have Cc0 := C.out.c0
                  have Cc1 := C.out.c1
                  go_wp2_with fail
                  clear R0a R0b Cc0 Cc1
                  go_at_call 39
                  refine (PK.out.c6 _).mono ?_
                  rintro e Wz10 ⟨rfl, B⟩
                  have An := Lib.hid ((A.out.keep B A.out.lt).alloc (.cells #[(.string h21), (.string h22)] 23))
                  have Dn := Lib.hid ((D.out.keep B D.out.lt).alloc (.cells #[(.string h21), (.string h22)] 23))
                  have Cn := Lib.hid ((C.out.keep B C.out.lt).alloc (.cells #[(.string h21), (.string h22)] 23))
                  have Rn := Lib.hid ((R.out.keep B R.out.lt).alloc (.cells #[(.string h21), (.string h22)] 23))
                  have En := Lib.hid ((E.out.keep B E.out.lt).alloc (.cells #[(.string h21), (.string h22)] 23))
                  have Gn := Lib.hid ((G.out.keep B G.out.lt).alloc (.cells #[(.string h21), (.string h22)] 23))
                  have Sun := Lib.hid ((Su.out.keep B Su.out.lt).alloc (.cells #[(.string h21), (.string h22)] 23))
                  have HBn := Lib.hid ((HB.out.trans (B.mono HB.out.size)).alloc (HB.out.trans (B.mono HB.out.size)).size (.cells #[(.string h21), (.string h22)] 23))
                  clear A D C R E G Su HB
                  have A := An
                  have D := Dn
                  have C := Cn
                  have R := Rn
                  have E := En
                  have G := Gn
                  have Su := Sun
                  have HB := HBn
                  clear An Dn Cn Rn En Gn Sun HBn
                  have Wh := Lib.hid (RBlk.new Wz10 (.string h21) (.string h22))
                  clear B
                  go_upto_region 24 with fail
                  go_cut [231] from 37 (fun sv wc => sv = .bool false ∧ Hid (RBlk wc (W2.heap.size) (.string oa1) (.string oa2)) ∧ Hid (RBlk wc (W3.heap.size) (.string ob1) (.string ob2)) ∧ Hid (CBlk wc (Wf1.heap.size) #[.string r01, .string r02, .string r11, .string r12, .string r21, .string r22, .string r31, .string r32] 31) ∧ Hid (CBlk wc (Wf1.heap.size + 1) #[.int .i64 r0e, .int .i64 r1e, .int .i64 r2e, .int .i64 r3e] 33) ∧ Hid (Below w.heap.size w wc))
                  case first =>
                    as_aux_lemma =>
                      rcases PK.out.e_r0 with rfl | rfl
                      · rcases PK.out.e_ac with rfl | rfl
                        · rcases PK.out.e_g2 with rfl | rfl
                          · rcases PK.out.e_su with rfl | rfl
                            · rcases PK.out.e_h2 with rfl | rfl
                              · obtain ⟨ka, kb⟩ := PK.out.k3 rfl rfl
                                subst ka kb
                                have E0a := E.out.c 0 rfl
                                have G2a := G.out.c 2 rfl
                                have Suc0 := Su.out.c0
                                have Suc1 := Su.out.c1
                                have Whc0 := Wh.out.c0
                                have Whc1 := Wh.out.c1
                                go_wp2_with fail
                                go_meet
                                case rel => exact ⟨by first | rfl | simp, A, D, R, E, HB⟩
                              · have E0a := E.out.c 0 rfl
                                have G2a := G.out.c 2 rfl
                                have Suc0 := Su.out.c0
                                have Suc1 := Su.out.c1
                                have Whc0 := Wh.out.c0
                                have Whc1 := Wh.out.c1
                                go_wp2_with fail
                                go_meet
                                case rel => exact ⟨by first | rfl | simp, A, D, R, E, HB⟩
                            · have E0a := E.out.c 0 rfl
                              have G2a := G.out.c 2 rfl
                              have Suc0 := Su.out.c0
                              have Suc1 := Su.out.c1
                              have Whc0 := Wh.out.c0
                              have Whc1 := Wh.out.c1
                              go_wp2_with fail
                              go_meet
                              case rel => exact ⟨by first | rfl | simp, A, D, R, E, HB⟩
                          · have E0a := E.out.c 0 rfl
                            have G2a := G.out.c 2 rfl
                            have Suc0 := Su.out.c0
                            have Suc1 := Su.out.c1
                            have Whc0 := Wh.out.c0
                            have Whc1 := Wh.out.c1
                            go_wp2_with fail
                            go_meet
                            case rel => exact ⟨by first | rfl | simp, A, D, R, E, HB⟩
                        · have E0a := E.out.c 0 rfl
                          have G2a := G.out.c 2 rfl
                          have Suc0 := Su.out.c0
                          have Suc1 := Su.out.c1
                          have Whc0 := Wh.out.c0
                          have Whc1 := Wh.out.c1
                          go_wp2_with fail
                          go_meet
                          case rel => exact ⟨by first | rfl | simp, A, D, R, E, HB⟩
                      · have E0a := E.out.c 0 rfl
                        have G2a := G.out.c 2 rfl
                        have Suc0 := Su.out.c0
                        have Suc1 := Su.out.c1
                        have Whc0 := Wh.out.c0
                        have Whc1 := Wh.out.c1
                        go_wp2_with fail
                        go_meet
                        case rel => exact ⟨by first | rfl | simp, A, D, R, E, HB⟩
                  case rest =>
                    clear A D C R E G Su Wh HB
                    obtain ⟨rfl, A, D, R, E, HB⟩ := hcut
                    as_aux_lemma =>
                      have R0a := R.out.c 0 rfl
                      have R0b := R.out.c 1 rfl
                      have Dc0 := D.out.c0
                      have Dc1 := D.out.c1
                      go_wp2_with fail
                      clear R0a R0b Dc0 Dc1
                      go_at_call 40
                      refine (PK.out.c7 _).mono ?_
                      rintro e Wz11 ⟨rfl, B⟩
                      have An := Lib.hid ((A.out.keep B A.out.lt).alloc (.cells #[(.string ba1), (.string ba2)] 23))
                      have Dn := Lib.hid ((D.out.keep B D.out.lt).alloc (.cells #[(.string ba1), (.string ba2)] 23))
                      have Rn := Lib.hid ((R.out.keep B R.out.lt).alloc (.cells #[(.string ba1), (.string ba2)] 23))
                      have En := Lib.hid ((E.out.keep B E.out.lt).alloc (.cells #[(.string ba1), (.string ba2)] 23))
                      have HBn := Lib.hid ((HB.out.trans (B.mono HB.out.size)).alloc (HB.out.trans (B.mono HB.out.size)).size (.cells #[(.string ba1), (.string ba2)] 23))
                      clear A D R E HB
                      have A := An
                      have D := Dn
                      have R := Rn
                      have E := En
                      have HB := HBn
                      clear An Dn Rn En HBn
                      have Ba := Lib.hid (RBlk.new Wz11 (.string ba1) (.string ba2))
                      clear B
                      have R3a := R.out.c 6 rfl
                      have R3b := R.out.c 7 rfl
                      have Dc0 := D.out.c0
                      have Dc1 := D.out.c1
                      go_wp2_with fail
                      clear R3a R3b Dc0 Dc1
                      go_at_call 39
                      refine (PK.out.c8 _).mono ?_
                      rintro e Wz12 ⟨rfl, B⟩
                      have An := Lib.hid ((A.out.keep B A.out.lt).alloc (.cells #[(.string ag1), (.string ag2)] 23))
                      have Dn := Lib.hid ((D.out.keep B D.out.lt).alloc (.cells #[(.string ag1), (.string ag2)] 23))
                      have Rn := Lib.hid ((R.out.keep B R.out.lt).alloc (.cells #[(.string ag1), (.string ag2)] 23))
                      have En := Lib.hid ((E.out.keep B E.out.lt).alloc (.cells #[(.string ag1), (.string ag2)] 23))
                      have Ban := Lib.hid ((Ba.out.keep B Ba.out.lt).alloc (.cells #[(.string ag1), (.string ag2)] 23))
                      have HBn := Lib.hid ((HB.out.trans (B.mono HB.out.size)).alloc (HB.out.trans (B.mono HB.out.size)).size (.cells #[(.string ag1), (.string ag2)] 23))
                      clear A D R E Ba HB
                      have A := An
                      have D := Dn
                      have R := Rn
                      have E := En
                      have Ba := Ban
                      have HB := HBn
                      clear An Dn Rn En Ban HBn
                      have Ag := Lib.hid (RBlk.new Wz12 (.string ag1) (.string ag2))
                      clear B
                      rcases PK.out.e_r0 with rfl | rfl
                      · rcases PK.out.e_ba with rfl | rfl
                        · obtain ⟨ka, kb⟩ := PK.out.k4 rfl
                          subst ka kb
                          rcases PK.out.e_r3 with rfl | rfl
                          · rcases PK.out.e_ag with rfl | rfl
                            · obtain ⟨kc, kd⟩ := PK.out.k5 rfl
                              subst kc kd
                              have E0a := E.out.c 0 rfl
                              have E3a := E.out.c 3 rfl
                              have Bac0 := Ba.out.c0
                              have Bac1 := Ba.out.c1
                              have Agc0 := Ag.out.c0
                              have Agc1 := Ag.out.c1
                              have Ac0 := A.out.c0
                              have Ac1 := A.out.c1
                              go_wp2_with fail
                              go_ret
                              exact ⟨rfl, HB.out⟩
                            · have E0a := E.out.c 0 rfl
                              have E3a := E.out.c 3 rfl
                              have Bac0 := Ba.out.c0
                              have Bac1 := Ba.out.c1
                              have Agc0 := Ag.out.c0
                              have Agc1 := Ag.out.c1
                              have Ac0 := A.out.c0
                              have Ac1 := A.out.c1
                              go_wp2_with fail
                              go_ret
                              exact ⟨rfl, HB.out⟩
                          · have E0a := E.out.c 0 rfl
                            have E3a := E.out.c 3 rfl
                            have Bac0 := Ba.out.c0
                            have Bac1 := Ba.out.c1
                            have Agc0 := Ag.out.c0
                            have Agc1 := Ag.out.c1
                            have Ac0 := A.out.c0
                            have Ac1 := A.out.c1
                            go_wp2_with fail
                            go_ret
                            exact ⟨rfl, HB.out⟩
                        · rcases PK.out.e_r3 with rfl | rfl
                          · rcases PK.out.e_ag with rfl | rfl
                            · obtain ⟨kc, kd⟩ := PK.out.k5 rfl
                              subst kc kd
                              have E0a := E.out.c 0 rfl
                              have E3a := E.out.c 3 rfl
                              have Bac0 := Ba.out.c0
                              have Bac1 := Ba.out.c1
                              have Agc0 := Ag.out.c0
                              have Agc1 := Ag.out.c1
                              have Ac0 := A.out.c0
                              have Ac1 := A.out.c1
                              go_wp2_with fail
                              go_ret
                              exact ⟨rfl, HB.out⟩
                            · have E0a := E.out.c 0 rfl
                              have E3a := E.out.c 3 rfl
                              have Bac0 := Ba.out.c0
                              have Bac1 := Ba.out.c1
                              have Agc0 := Ag.out.c0
                              have Agc1 := Ag.out.c1
                              have Ac0 := A.out.c0
                              have Ac1 := A.out.c1
                              go_wp2_with fail
                              go_ret
                              exact ⟨rfl, HB.out⟩
                          · have E0a := E.out.c 0 rfl
                            have E3a := E.out.c 3 rfl
                            have Bac0 := Ba.out.c0
                            have Bac1 := Ba.out.c1
                            have Agc0 := Ag.out.c0
                            have Agc1 := Ag.out.c1
                            have Ac0 := A.out.c0
                            have Ac1 := A.out.c1
                            go_wp2_with fail
                            go_ret
                            exact ⟨rfl, HB.out⟩
                      · rcases PK.out.e_r3 with rfl | rfl
                        · rcases PK.out.e_ag with rfl | rfl
                          · obtain ⟨kc, kd⟩ := PK.out.k5 rfl
                            subst kc kd
                            have E0a := E.out.c 0 rfl
                            have E3a := E.out.c 3 rfl
                            have Bac0 := Ba.out.c0
                            have Bac1 := Ba.out.c1
                            have Agc0 := Ag.out.c0
                            have Agc1 := Ag.out.c1
                            have Ac0 := A.out.c0
                            have Ac1 := A.out.c1
                            go_wp2_with fail
                            go_ret
                            exact ⟨rfl, HB.out⟩
                          · have E0a := E.out.c 0 rfl
                            have E3a := E.out.c 3 rfl
                            have Bac0 := Ba.out.c0
                            have Bac1 := Ba.out.c1
                            have Agc0 := Ag.out.c0
                            have Agc1 := Ag.out.c1
                            have Ac0 := A.out.c0
                            have Ac1 := A.out.c1
                            go_wp2_with fail
                            go_ret
                            exact ⟨rfl, HB.out⟩
                        · have E0a := E.out.c 0 rfl
                          have E3a := E.out.c 3 rfl
                          have Bac0 := Ba.out.c0
                          have Bac1 := Ba.out.c1
                          have Agc0 := Ag.out.c0
                          have Agc1 := Ag.out.c1
                          have Ac0 := A.out.c0
                          have Ac1 := A.out.c1
                          go_wp2_with fail
                          go_ret
                          exact ⟨rfl, HB.out⟩
end Go.Proofs.YtdnbhgkbfbgnaaaGreatDoor
