/- Prefixes; signs. -/
import Derived.Test.YtbdiofifjckceaaGreatDoorPm
namespace Go.Proofs.YtbdiofifjckceaaGreatDoor
open Go.RowKit

theorem bytes_take1 {s : ByteArray} {x : UInt8} {l : List UInt8} (e : s.data.toList = x :: l) : s.extract 0 1 = ⟨#[x]⟩ := by
  apply ByteArray.ext
  rw [ByteArray.data_extract, ← Array.toList_inj, Array.toList_extract, e]
  simp
set_option maxRecDepth 100000 in
theorem hasPrefix_any (s : ByteArray) (L : List UInt8) (w : World) (hL : s.data.toList = L) (hz : L.length ≤ 60000) :
    Calls Tryz.prog 88 #[.string s, .string ⟨#[45]⟩] w fun e w' => e = .returned (.bool (L.head? == some 45)) ∧ w = w' := by
  have hs := bytes_size hL
  have hp : (⟨#[45]⟩ : ByteArray).size = 1 := rfl
  cases L with
  | nil =>
    rw [List.length_nil] at hs
    clear hL
    go_enter Tryz.func88, Tryz.ntmps88
    go_wp2
    go_ret
    exact ⟨rfl, rfl⟩
  | cons x l =>
    rw [List.length_cons] at hs hz
    have h1 := bytes_take1 hL
    have h3 := Lib.hid (show ((x :: l).head? == some 45) = (x == 45) by simp)
    have h4 : (1 : Int) ≤ (s.size : Int) := by omega
    clear hL
    go_enter Tryz.func88, Tryz.ntmps88
    go_wp2
    go_ret
    exact ⟨by rw [h3.out]; rfl, rfl⟩

theorem bytes_tail' {t : ByteArray} {x : UInt8} {l : List UInt8} (e : t.data.toList = x :: l) : t.extract 1 t.size = ⟨l.toArray⟩ := by
  apply ByteArray.ext
  rw [← Array.toList_inj, bytes_tail e]

set_option maxRecDepth 100000 in
theorem cutS_any (s : ByteArray) (L : List UInt8) (w : World) (hL : s.data.toList = L) (hz : L.length ≤ 60000) :
    Calls Tryz.prog 78 #[.string s, .string ⟨#[45]⟩] w fun e w' => e = .returned (.tuple #[.string ⟨(bare L).toArray⟩, .bool (L.head? == some 45)]) ∧ w = w' := by
  have hs := bytes_size hL
  have hp : (⟨#[45]⟩ : ByteArray).size = 1 := rfl
  have cH := fun W => hasPrefix_any s L W hL hz
  by_cases h : L.head? = some 45
  · obtain ⟨l, rfl⟩ : ∃ l, L = 45 :: l := by
      cases L with
      | nil => simp at h
      | cons x l => simp at h; exact ⟨l, by rw [h]⟩
    have ht := bytes_tail' hL
    rw [List.length_cons] at hs hz
    have hb : bare (45 :: l) = l := by simp [bare]
    have he : ((45 :: l : List UInt8).head? == some 45) = true := by simp
    rw [hb, he]
    simp only [he] at cH
    rw [hs] at ht
    have h4 : (1 : Int) ≤ (s.size : Int) := by omega
    clear hL hb he h
    go_enter Tryz.func78, Tryz.ntmps78
    go_wp2_with (go_at_call 88; (with_reducible refine (cH _).mono ?_); rintro e w' ⟨rfl, rfl⟩)
    go_ret2
    exact ⟨rfl, rfl⟩
  · have hb : bare L = L := by rw [bare, if_neg h]
    have he : (L.head? == some 45) = false := by simpa using h
    have hS : s = ⟨L.toArray⟩ := ByteArray.ext (by rw [← Array.toList_inj, hL])
    rw [hb, he]
    simp only [he] at cH
    have HS := Lib.hid hS
    clear hL hb he h hS
    go_enter Tryz.func78, Tryz.ntmps78
    go_wp2_with (go_at_call 88; (with_reducible refine (cH _).mono ?_); rintro e w' ⟨rfl, rfl⟩)
    go_ret2
    exact ⟨by rw [← HS.out]; rfl, rfl⟩
set_option maxRecDepth 100000 in
theorem trimS_any (s : ByteArray) (L : List UInt8) (w : World) (hL : s.data.toList = L) (hz : L.length ≤ 60000) :
    Calls Tryz.prog 67 #[.string s, .string ⟨#[45]⟩] w fun e w' => e = .returned (.string ⟨(bare L).toArray⟩) ∧ w = w' := by
  have hs := bytes_size hL
  have hp : (⟨#[45]⟩ : ByteArray).size = 1 := rfl
  have cH := fun W => hasPrefix_any s L W hL hz
  by_cases h : L.head? = some 45
  · obtain ⟨l, rfl⟩ : ∃ l, L = 45 :: l := by
      cases L with
      | nil => simp at h
      | cons x l => simp at h; exact ⟨l, by rw [h]⟩
    have ht := bytes_tail' hL
    rw [List.length_cons] at hs hz
    have hb : bare (45 :: l) = l := by simp [bare]
    have he : ((45 :: l : List UInt8).head? == some 45) = true := by simp
    rw [hb]
    simp only [he] at cH
    rw [hs] at ht
    have h4 : (1 : Int) ≤ (s.size : Int) := by omega
    clear hL hb he h
    go_enter Tryz.func67, Tryz.ntmps67
    go_wp2_with (go_at_call 88; (with_reducible refine (cH _).mono ?_); rintro e w' ⟨rfl, rfl⟩)
    go_ret
    exact ⟨rfl, rfl⟩
  · have hb : bare L = L := by rw [bare, if_neg h]
    have he : (L.head? == some 45) = false := by simpa using h
    have hS : s = ⟨L.toArray⟩ := ByteArray.ext (by rw [← Array.toList_inj, hL])
    rw [hb]
    simp only [he] at cH
    have HS := Lib.hid hS
    clear hL hb he h hS
    go_enter Tryz.func67, Tryz.ntmps67
    go_wp2_with (go_at_call 88; (with_reducible refine (cH _).mono ?_); rintro e w' ⟨rfl, rfl⟩)
    go_ret
    exact ⟨by rw [← HS.out]; rfl, rfl⟩
set_option maxRecDepth 100000 in
theorem cut_any (s : ByteArray) (L : List UInt8) (w : World) (hL : s.data.toList = L) (hz : L.length ≤ 60000) :
    Calls Tryz.prog 62 #[.string s, .string ⟨#[45]⟩] w fun e w' => e = .returned (.tuple #[.string ⟨(bare L).toArray⟩, .bool (L.head? == some 45)]) ∧ w = w' := by
  have cS := fun W => cutS_any s L W hL hz
  generalize (bare L).toArray = r at *
  generalize (L.head? == some 45) = b at *
  clear hL hz
  go_enter Tryz.func62, Tryz.ntmps62
  go_wp2_with (go_at_call 78; (with_reducible refine (cS _).mono ?_); rintro e w' ⟨rfl, rfl⟩)
  go_ret2
  exact ⟨rfl, rfl⟩
set_option maxRecDepth 100000 in
theorem trimP_any (s : ByteArray) (L : List UInt8) (w : World) (hL : s.data.toList = L) (hz : L.length ≤ 60000) :
    Calls Tryz.prog 52 #[.string s, .string ⟨#[45]⟩] w fun e w' => e = .returned (.string ⟨(bare L).toArray⟩) ∧ w = w' := by
  have cS := fun W => trimS_any s L W hL hz
  generalize (bare L).toArray = r at *
  clear hL hz
  go_enter Tryz.func52, Tryz.ntmps52
  go_wp2_with (go_at_call 67; (with_reducible refine (cS _).mono ?_); rintro e w' ⟨rfl, rfl⟩)
  go_ret
  exact ⟨rfl, rfl⟩
end Go.Proofs.YtbdiofifjckceaaGreatDoor
