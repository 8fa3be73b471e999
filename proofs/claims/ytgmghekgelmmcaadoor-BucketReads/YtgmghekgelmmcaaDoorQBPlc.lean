/-
  The places of a hash, and two filters together, of the program; whether keys are short.
-/
import Derived.Test.YtgmghekgelmmcaaDoorQBNums
namespace Go.Proofs.YtgmghekgelmmcaaDoor.Blo
open Go.RowKit

set_option maxHeartbeats 1000000 in
theorem places_any (w : World) (n : Nat) (hn : n < 18446744073709551616) :
    Calls Tryd.prog 46 #[.int .u64 (n : Int)] w fun e w' => e = .returned (.agg #[.int .u64 ((n % 128 : Nat) : Int), .int .u64 ((n / 2097152 % 128 : Nat) : Int), .int .u64 ((n / 4398046511104 % 128 : Nat) : Int)]) ∧ Below w.heap.size w w' := by
  go_enter Tryd.func46, Tryd.ntmps46
  go_wp2
  refine bodyPost_ret (v := .agg #[.int .u64 ((n % 128 : Nat) : Int), .int .u64 ((n / 2097152 % 128 : Nat) : Int), .int .u64 ((n / 4398046511104 % 128 : Nat) : Int)]) (by simp [results, Tryd.results46, go_sem]) rfl ⟨rfl, ?_⟩
  go_grown

/-- Keys that are no more than are waited for. -/
def shortB (l : List ByteArray) : Bool := decide (l.length ≤ 60) && l.all fun k => decide (k.size ≤ 200)
theorem short_len {l : List ByteArray} (h : shortB l = true) : l.length ≤ 60 := by simp [shortB] at h; exact h.1
theorem short_key {l : List ByteArray} (h : shortB l = true) {k : Nat} {x : ByteArray} (hx : l[k]? = some x) : x.size ≤ 200 := by
  simp [shortB] at h
  exact h.2 x (List.mem_of_getElem? hx)

end Go.Proofs.YtgmghekgelmmcaaDoor.Blo
