/- Walks of strings.Clone and package wire's String. -/
import Derived.Shelf.Pu.Clone
import Derived.Test.YtmhpcbaoicboaaaDoorChecked
import Derived.Test.YtmhpcbaoicboaaaDoorWb
import Derived.WalkKit
import Derived.Lib.LaidTab
import Derived.WalkLawsBesides
import Derived.WalkSpells
import Derived.Lib.IndexBytes
import Derived.Lib.Hide
namespace Go.Proofs.YtmhpcbaoicboaaaDoor
open Go.RowKit
open Go.Shelf

/-- where the library's contract of stringslite.Clone finds its types here -/
def cloneRen : Ren := ⟨fun _ => 31, fun k => if k = 37 then 38 else if k = 47 then 60 else k, fun k => k⟩

theorem cloneLays : LaysPu.n25 Tryd.prog cloneRen := {
  mixed := by kernel_rfl
  f25 := by kernel_rfl
  t0 := by kernel_rfl
  a0 := fun _ => by kernel_rfl
  z0 := fun _ => by kernel_rfl
  v0 := fun _ => by kernel_rfl
  i0 := by kernel_rfl
  t3 := by kernel_rfl
  a3 := fun _ => by kernel_rfl
  z3 := fun _ => by kernel_rfl
  v3 := fun _ => by kernel_rfl
  i3 := by kernel_rfl
  t4 := by kernel_rfl
  a4 := fun _ => by kernel_rfl
  z4 := fun _ => by kernel_rfl
  v4 := fun _ => by kernel_rfl
  i4 := by kernel_rfl
  t5 := by kernel_rfl
  a5 := fun _ => by kernel_rfl
  z5 := fun _ => by kernel_rfl
  v5 := fun _ => by kernel_rfl
  i5 := by kernel_rfl
  t9 := by kernel_rfl
  a9 := fun _ => by kernel_rfl
  z9 := fun _ => by kernel_rfl
  v9 := fun _ => by kernel_rfl
  i9 := by kernel_rfl
  t37 := by kernel_rfl
  a37 := fun _ => by kernel_rfl
  z37 := fun _ => by kernel_rfl
  v37 := fun _ => by kernel_rfl
  i37 := by kernel_rfl
  t47 := by kernel_rfl
  a47 := fun _ => by kernel_rfl
  z47 := fun _ => by kernel_rfl
  v47 := fun _ => by kernel_rfl
  i47 := by kernel_rfl }

theorem clone1 (s : ByteArray) (w : World) (hlim : s.size ≤ 281474976710656) :
    Calls Tryd.prog 31 #[.string s] w fun e w' => e = .returned (.string s) ∧ Below w.heap.size w w' :=
  AnyPu.stringslite_Clone cloneLays s w hlim

theorem clone_any (s : ByteArray) (w : World) (hlim : s.size ≤ 281474976710656) :
    Calls Tryd.prog 27 #[.string s] w fun e w' => e = .returned (.string s) ∧ Below w.heap.size w w' := by
  go_enter Tryd.func27, Tryd.ntmps27
  go_wp2_with (go_at_call 31; refine (clone1 s _ hlim).mono ?_; rintro e w' ⟨rfl, hb⟩)
  go_ret
  exact ⟨rfl, hb⟩

/-- String, where Int reads nothing -/
theorem string_err (s : ByteArray) (a r : Int) (w : World) (hr : r = 2 ∨ r = 10)
    (hi : ∀ w, Calls Tryd.prog 15 #[.string s, .int .i64 a] w fun e w' => e = .returned (.tuple #[.int .i64 0, .int .i64 0, .int .i64 r]) ∧ w = w') :
    Calls Tryd.prog 17 #[.string s, .int .i64 a] w fun e w' => e = .returned (.tuple #[.string ⟨#[]⟩, .int .i64 0, .int .i64 r]) ∧ w = w' := by
  rcases hr with rfl | rfl
  · go_enter Tryd.func17, Tryd.ntmps17
    go_wp2_with (go_at_call 15; refine (hi _).mono ?_; rintro e w' ⟨rfl, rfl⟩)
    go_ret3
    exact ⟨rfl, rfl⟩
  · go_enter Tryd.func17, Tryd.ntmps17
    go_wp2_with (go_at_call 15; refine (hi _).mono ?_; rintro e w' ⟨rfl, rfl⟩)
    go_ret3
    exact ⟨rfl, rfl⟩

/-- String, where the length is none -/
theorem string_bad (s : ByteArray) (_hs : s.size ≤ maxLen) (a n : Int) (b : Nat) (w : World) (hb : b ≤ s.size) (hn : n < 0 ∨ 65536 < n ∨ (s.size : Int) - b < n)
    (hi : ∀ w, Calls Tryd.prog 15 #[.string s, .int .i64 a] w fun e w' => e = .returned (.tuple #[.int .i64 n, .int .i64 b, .int .i64 0]) ∧ w = w') :
    Calls Tryd.prog 17 #[.string s, .int .i64 a] w fun e w' => e = .returned (.tuple #[.string ⟨#[]⟩, .int .i64 0, .int .i64 10]) ∧ w = w' := by
  unfold maxLen at _hs
  by_cases h0 : n < 0
  · go_enter Tryd.func17, Tryd.ntmps17
    go_wp2_with (go_at_call 15; refine (hi _).mono ?_; rintro e w' ⟨rfl, rfl⟩)
    go_ret3
    exact ⟨rfl, rfl⟩
  · by_cases h1 : 65536 < n
    · clear hn
      go_enter Tryd.func17, Tryd.ntmps17
      go_wp2_with (go_at_call 15; refine (hi _).mono ?_; rintro e w' ⟨rfl, rfl⟩)
      go_ret3
      exact ⟨rfl, rfl⟩
    · have h2 : (s.size : Int) - b < n := by omega
      clear hn
      go_enter Tryd.func17, Tryd.ntmps17
      go_wp2_with (go_at_call 15; refine (hi _).mono ?_; rintro e w' ⟨rfl, rfl⟩)
      go_ret3
      exact ⟨rfl, rfl⟩

/-- String, where a string is read -/
theorem string_ok (s : ByteArray) (_hs : s.size ≤ maxLen) (a : Int) (n b : Nat) (w : World) (h1 : n ≤ 65536) (h2 : b + n ≤ s.size)
    (hi : ∀ w, Calls Tryd.prog 15 #[.string s, .int .i64 a] w fun e w' => e = .returned (.tuple #[.int .i64 n, .int .i64 b, .int .i64 0]) ∧ w = w') :
    Calls Tryd.prog 17 #[.string s, .int .i64 a] w fun e w' => e = .returned (.tuple #[.string (s.extract b (b + n)), .int .i64 ((b + n : Nat) : Int), .int .i64 0]) ∧ Below w.heap.size w w' := by
  unfold maxLen at _hs
  have hc := fun w => clone_any (s.extract b (b + n)) w (by simp; omega)
  have h3 : ¬ (s.size : Int) - b < n := by omega
  have h4 : (b : Int) + n ≤ s.size := by omega
  go_enter Tryd.func17, Tryd.ntmps17
  go_wp2_with (first | (go_at_call 15; refine (hi _).mono ?_; rintro e w' ⟨rfl, rfl⟩) | (go_at_call 27; refine (hc _).mono ?_; rintro e w' ⟨rfl, hb⟩))
  go_ret3
  exact ⟨rfl, hb⟩
end Go.Proofs.YtmhpcbaoicboaaaDoor
