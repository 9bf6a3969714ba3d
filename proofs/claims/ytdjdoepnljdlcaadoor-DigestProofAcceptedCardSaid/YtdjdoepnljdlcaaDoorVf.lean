/- The walk of the law DigestProofAccepted, its three cases together. -/
import Derived.Test.YtdjdoepnljdlcaaDoorVc
import Derived.Test.YtdjdoepnljdlcaaDoorVd
import Derived.Test.YtdjdoepnljdlcaaDoorVe
namespace Go.Proofs.YtdjdoepnljdlcaaDoor
open Go.RowKit
theorem prfAcc_walk (l : List ByteArray) (i : Int) (v : Value) (w : World) (hi0 : -9223372036854775808 ≤ i) (hi1 : i ≤ 9223372036854775807) (hin : In w v l) (hz : ∀ s ∈ l, s.size ≤ 9223372036854775807) (ht : Tab w) :
    Calls Tryd.prog 6 #[v, .int .i64 i] w fun e w' => e = .returned (.bool true) ∧ Below w.heap.size w w' := by
  by_cases h : 0 ≤ i ∧ i < ((fw l 40).length : Int)
  · by_cases h0 : (prf (fw l 40) i.toNat).length = 0
    · exact prfAcc_zero l i v w hi0 hi1 hin hz ht ⟨fun n hn => by rw [← hn]; exact h, fun j hj => by subst hj; exact h0⟩
    · exact prfAcc_more l i v w hi0 hi1 hin hz ht ⟨fun n hn => by rw [← hn]; exact h, fun j hj => by subst hj; exact h0⟩
  · exact prfAcc_out l i v w hi0 hi1 hin hz ht fun n hn => by rw [← hn]; exact h
end Go.Proofs.YtdjdoepnljdlcaaDoor
