/- What package wire's Int and String read where an encoding is embedded. -/
import Derived.Test.YtmhpcbaoicboaaaDoorWh
namespace Go.Proofs.YtmhpcbaoicboaaaDoor
open Go.RowKit

theorem list_append (a b : ByteArray) : (a ++ b).data.toList = a.data.toList ++ b.data.toList := by rw [ByteArray.data_append, Array.toList_append]
theorem size_list (a : ByteArray) : a.data.toList.length = a.size := Array.length_toList
theorem drop_left (a b : ByteArray) : (a ++ b).data.toList.drop a.size = b.data.toList := by
  rw [list_append, ← size_list a, List.drop_left]
theorem ext_list {a b : ByteArray} (h : a.data.toList = b.data.toList) : a = b := by
  cases a with | mk d => cases b with | mk e => exact congrArg ByteArray.mk (Array.ext' h)

theorem int_in (p q : ByteArray) (n : Int) (h0 : -4611686018427387903 ≤ n) (h1 : n ≤ 4611686018427387903) (hs : (p ++ encB n ++ q).size ≤ maxLen) (w : World) :
    Calls Tryd.prog 15 #[.string (p ++ encB n ++ q), .int .i64 p.size] w fun e w' => e = .returned (.tuple #[.int .i64 n, .int .i64 ((p.size : Int) + (encB n).size), .int .i64 0]) ∧ w = w' := by
  have hd : (p ++ encB n ++ q).data.toList.drop p.size = enc n ++ q.data.toList := by
    rw [ByteArray.append_assoc, drop_left, list_append, encB_list]
  rw [encB_size]
  exact int_some _ hs p.size (by simp only [ByteArray.size_append]; omega) w n _ (by rw [hd]; exact dI_enc n _ h0 h1)

theorem string_in (p q t : ByteArray) (ht : t.size ≤ 65536) (hs : (p ++ (encB t.size ++ t) ++ q).size ≤ maxLen) (w : World) :
    Calls Tryd.prog 17 #[.string (p ++ (encB t.size ++ t) ++ q), .int .i64 p.size] w fun e w' => e = .returned (.tuple #[.string t, .int .i64 ((p.size : Int) + (encB t.size ++ t).size), .int .i64 0]) ∧ Below w.heap.size w w' := by
  have e : p ++ (encB t.size ++ t) ++ q = p ++ encB t.size ++ (t ++ q) := by simp only [ByteArray.append_assoc]
  rw [e] at hs ⊢
  have hi := fun w => int_in p (t ++ q) t.size (by omega) (by omega) hs w
  have h := string_ok (p ++ encB t.size ++ (t ++ q)) hs p.size t.size (p.size + (encB t.size).size) w ht (by simp only [ByteArray.size_append]; omega) (fun w => by
    have h := hi w
    rw [← Int.natCast_add] at h
    exact h)
  have ex : (p ++ encB t.size ++ (t ++ q)).extract (p.size + (encB t.size).size) (p.size + (encB t.size).size + t.size) = t := by
    apply ext_list
    rw [extract_list, ← ByteArray.size_append, drop_left, list_append, Nat.add_sub_cancel_left, ← size_list t, List.take_left]
  rw [ex] at h
  refine h.mono ?_
  rintro e w' ⟨rfl, hb⟩
  have en : ((p.size + (encB t.size).size + t.size : Nat) : Int) = (p.size : Int) + ((encB t.size ++ t).size : Nat) := by rw [ByteArray.size_append]; omega
  rw [en]
  exact ⟨rfl, hb⟩
end Go.Proofs.YtmhpcbaoicboaaaDoor
