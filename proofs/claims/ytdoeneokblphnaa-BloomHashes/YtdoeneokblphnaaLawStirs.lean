/-
  The walks of the laws BloomStirs and BloomHashes.
-/
import Derived.Test.YtdoeneokblphnaaWorks
namespace Go.Proofs.Ytdoeneokblphnaa
open Go.RowKit

set_option maxHeartbeats 2000000 in
set_option maxRecDepth 10000 in
theorem stirs_any (w : World) (a b : Nat) (ha : a < 18446744073709551616) (hb : b < 18446744073709551616) :
    Calls Try.prog 7 #[.int .u64 (a : Int), .int .u64 (b : Int)] w fun e w' => e = .returned (.bool true) ∧ Below w.heap.size w w' := by
  have K10 := fun W => mix_any W a ha
  have K20 := fun W => mix_any W b hb
  have KW := hid2 (works_any w)
  have hmm := mix_eq ha hb
  generalize mix a = m1 at *
  generalize mix b = m2 at *
  have K1 := hid2 K10
  have K2 := hid2 K20
  have hq : ((m1 : Int) == (m2 : Int)) = ((a : Int) == (b : Int)) := by
    rw [Bool.eq_iff_iff, beq_iff_eq, beq_iff_eq]
    omega
  have hq2 : ((((a : Int) == (b : Int))) == ((a : Int) == (b : Int))) = true := by simp
  clear K10 K20 hmm
  go_enter Try.func7, Try.ntmps7
  go_wp2_with fail
  refine (show Calls _ _ _ _ _ from K1.out _).mono ?_
  rintro e w1 ⟨rfl, hw⟩
  cases hw
  go_wp2_with fail
  refine (show Calls _ _ _ _ _ from K2.out _).mono ?_
  rintro e w1 ⟨rfl, hw⟩
  cases hw
  go_wp2_with fail
  refine (show Calls _ _ _ _ _ from KW.out).mono ?_
  rintro e w1 ⟨rfl, hw⟩
  go_wp2
  go_ret
  exact ⟨rfl, hw⟩

set_option maxHeartbeats 2000000 in
set_option maxRecDepth 10000 in
theorem hashes_any (w : World) (s : ByteArray) (h : Nat) (n : Int) (hs : s.size ≤ maxLen) (hh : h < 18446744073709551616) (hn0 : -9223372036854775808 ≤ n) (hn : n ≤ 9223372036854775807) :
    Calls Try.prog 3 #[.string s, .int .u64 (h : Int), .int .i64 n] w fun e w' => e = .returned (.bool true) ∧ Below w.heap.size w w' := by
  have KW := hid2 (works_any w)
  unfold maxLen at hs
  by_cases h1 : 1000 < s.size
  · have d1 : 1000 < (s.size : Int) := by omega
    clear h1
    go_enter Try.func3, Try.ntmps3
    go_wp2_with fail
    refine (show Calls _ _ _ _ _ from KW.out).mono ?_
    rintro e w1 ⟨rfl, hw⟩
    go_wp2
    go_ret
    exact ⟨rfl, hw⟩
  · have d1 : ¬ 1000 < (s.size : Int) := by omega
    have A1 := hid2 (hash_any w s (by omega))
    have A2 := hid2 (rhash_any w s (by omega))
    have A3 := hid2 (mix_any w h hh)
    have A4 := hid2 (rmix_any w h hh)
    have A5 := hid2 (slot_any w h n hh hn0 hn)
    have A6 := hid2 (rslot_any w h n hh hn0 hn)
    generalize hash (bl s) = x1 at *
    generalize mix h = x2 at *
    generalize slotN h n = x3 at *
    clear h1
    go_enter Try.func3, Try.ntmps3
    go_wp2_with fail
    refine (show Calls _ _ _ _ _ from A1.out).mono ?_
    rintro e w1 ⟨rfl, hw⟩
    cases hw
    go_wp2_with fail
    refine (show Calls _ _ _ _ _ from A2.out).mono ?_
    rintro e w1 ⟨rfl, hw⟩
    cases hw
    go_wp2_with fail
    refine (show Calls _ _ _ _ _ from A3.out).mono ?_
    rintro e w1 ⟨rfl, hw⟩
    cases hw
    go_wp2_with fail
    refine (show Calls _ _ _ _ _ from A4.out).mono ?_
    rintro e w1 ⟨rfl, hw⟩
    cases hw
    go_wp2_with fail
    refine (show Calls _ _ _ _ _ from A5.out).mono ?_
    rintro e w1 ⟨rfl, hw⟩
    cases hw
    go_wp2_with fail
    refine (show Calls _ _ _ _ _ from A6.out).mono ?_
    rintro e w1 ⟨rfl, hw⟩
    cases hw
    go_wp2_with fail
    refine (show Calls _ _ _ _ _ from KW.out).mono ?_
    rintro e w1 ⟨rfl, hw⟩
    go_wp2
    go_ret
    exact ⟨rfl, hw⟩
end Go.Proofs.Ytdoeneokblphnaa
