/-
  The document's side: New, check, burns, Fuse.
-/
import Derived.Test.YtfogocappakbdaaDoorBlk
namespace Go.Proofs.YtfogocappakbdaaDoor
open Go.RowKit

set_option maxHeartbeats 1000000 in
theorem check_any (pages fuse done : Int) (down : Bool) (cp lp : Option Addr) (cn cc ln lc : Nat) (at_ : Int) (w : World) :
    Calls Tryd.prog 44 #[.agg #[.int .i64 pages, .slice cp cn cc, .slice lp ln lc, .int .i64 fuse, .bool down, .int .i64 done], .int .i64 at_] w fun e w' => e = .returned (.int .i64 (if down = true then 11 else if at_ < 0 ∨ pages ≤ at_ then 2 else 0)) ∧ Below w.heap.size w w' := by
  cases down
  · by_cases h0 : at_ < 0
    · have e0 : decide (at_ < 0) = true := by simpa using h0
      go_enter Tryd.func44, Tryd.ntmps44
      go_wp2
      go_ret
      exact ⟨by simp, by go_grown⟩
    · have e0 : decide (at_ < 0) = false := by simpa using h0
      by_cases h1 : pages ≤ at_
      · go_enter Tryd.func44, Tryd.ntmps44
        go_wp2
        go_ret
        exact ⟨by simp, by go_grown⟩
      · have e1 : decide (pages ≤ at_) = false := by simpa using h1
        go_enter Tryd.func44, Tryd.ntmps44
        go_wp2
        go_ret
        exact ⟨by simp, by go_grown⟩
  · go_enter Tryd.func44, Tryd.ntmps44
    go_wp2
    go_ret
    exact ⟨rfl, by go_grown⟩

set_option maxHeartbeats 1000000 in
theorem rburns_neg (pages fuse done : Int) (down : Bool) (cp lp : Option Addr) (cn cc ln lc : Nat) (w : World) (hd0 : 0 ≤ done) (hd1 : done ≤ 1000) (hf : fuse < 0) :
    Calls Tryd.prog 47 #[.agg #[.int .i64 pages, .slice cp cn cc, .slice lp ln lc, .int .i64 fuse, .bool down, .int .i64 done]] w fun e w' => e = .returned (.tuple #[.agg #[.int .i64 pages, .slice cp cn cc, .slice lp ln lc, .int .i64 fuse, .bool down, .int .i64 (done + 1)], .bool false]) ∧ Below w.heap.size w w' := by
  have e0 : decide (fuse < 0) = true := by simpa using hf
  go_enter Tryd.func47, Tryd.ntmps47
  go_wp2
  refine bodyPost_ret (v := .tuple #[.agg #[.int .i64 pages, .slice cp cn cc, .slice lp ln lc, .int .i64 fuse, .bool down, .int .i64 (done + 1)], .bool false]) (by simp [results, Tryd.results47, go_sem]) rfl ⟨rfl, ?_⟩
  go_grown
set_option maxHeartbeats 1000000 in
theorem rburns_zero (pages done : Int) (down : Bool) (cp lp : Option Addr) (cn cc ln lc : Nat) (w : World) (hd0 : 0 ≤ done) (hd1 : done ≤ 1000) :
    Calls Tryd.prog 47 #[.agg #[.int .i64 pages, .slice cp cn cc, .slice lp ln lc, .int .i64 0, .bool down, .int .i64 done]] w fun e w' => e = .returned (.tuple #[.agg #[.int .i64 pages, .slice cp cn cc, .slice lp ln lc, .int .i64 (-1), .bool true, .int .i64 (done + 1)], .bool true]) ∧ Below w.heap.size w w' := by
  go_enter Tryd.func47, Tryd.ntmps47
  go_wp2
  refine bodyPost_ret (v := .tuple #[.agg #[.int .i64 pages, .slice cp cn cc, .slice lp ln lc, .int .i64 (-1), .bool true, .int .i64 (done + 1)], .bool true]) (by simp [results, Tryd.results47, go_sem]) rfl ⟨rfl, ?_⟩
  go_grown
set_option maxHeartbeats 1000000 in
theorem rburns_pos (pages fuse done : Int) (down : Bool) (cp lp : Option Addr) (cn cc ln lc : Nat) (w : World) (hd0 : 0 ≤ done) (hd1 : done ≤ 1000) (hf : 0 < fuse) (hf1 : fuse ≤ 9223372036854775807) :
    Calls Tryd.prog 47 #[.agg #[.int .i64 pages, .slice cp cn cc, .slice lp ln lc, .int .i64 fuse, .bool down, .int .i64 done]] w fun e w' => e = .returned (.tuple #[.agg #[.int .i64 pages, .slice cp cn cc, .slice lp ln lc, .int .i64 (fuse - 1), .bool down, .int .i64 (done + 1)], .bool false]) ∧ Below w.heap.size w w' := by
  have e0 : decide (fuse < 0) = false := by simp; omega
  have e1 : (fuse == 0) = false := by simp; omega
  go_enter Tryd.func47, Tryd.ntmps47
  go_wp2
  refine bodyPost_ret (v := .tuple #[.agg #[.int .i64 pages, .slice cp cn cc, .slice lp ln lc, .int .i64 (fuse - 1), .bool down, .int .i64 (done + 1)], .bool false]) (by simp [results, Tryd.results47, go_sem]) rfl ⟨rfl, ?_⟩
  go_grown
set_option maxHeartbeats 1000000 in
theorem rfuse_any (pages fuse done : Int) (down : Bool) (cp lp : Option Addr) (cn cc ln lc : Nat) (n : Int) (w : World) :
    Calls Tryd.prog 33 #[.agg #[.int .i64 pages, .slice cp cn cc, .slice lp ln lc, .int .i64 fuse, .bool down, .int .i64 done], .int .i64 n] w fun e w' => e = .returned (.agg #[.int .i64 pages, .slice cp cn cc, .slice lp ln lc, .int .i64 (if n < 0 then -1 else n), .bool down, .int .i64 done]) ∧ Below w.heap.size w w' := by
  by_cases h : n < 0
  · rw [if_pos h]
    have e0 : decide (n < 0) = true := by simpa using h
    go_enter Tryd.func33, Tryd.ntmps33
    go_wp2
    refine bodyPost_ret (v := .agg #[.int .i64 pages, .slice cp cn cc, .slice lp ln lc, .int .i64 (-1), .bool down, .int .i64 done]) (by simp [results, Tryd.results33, go_sem]) rfl ⟨rfl, ?_⟩
    go_grown
  · rw [if_neg h]
    have e0 : decide (n < 0) = false := by simpa using h
    go_enter Tryd.func33, Tryd.ntmps33
    go_wp2
    refine bodyPost_ret (v := .agg #[.int .i64 pages, .slice cp cn cc, .slice lp ln lc, .int .i64 n, .bool down, .int .i64 done]) (by simp [results, Tryd.results33, go_sem]) rfl ⟨rfl, ?_⟩
    go_grown
set_option maxHeartbeats 1000000 in
theorem rnew_bad (pages : Int) (w : World) (h : pages < 1 ∨ 4096 < pages) :
    Calls Tryd.prog 10 #[.int .i64 pages] w fun e w' => e = .returned (.tuple #[.agg #[.int .i64 0, .slice none 0 0, .slice none 0 0, .int .i64 0, .bool false, .int .i64 0], .int .i64 2]) ∧ Below w.heap.size w w' := by
  by_cases h0 : pages < 1
  · have e0 : decide (pages < 1) = true := by simpa using h0
    go_enter Tryd.func10, Tryd.ntmps10
    go_wp2
    refine bodyPost_ret (v := .tuple #[.agg #[.int .i64 0, .slice none 0 0, .slice none 0 0, .int .i64 0, .bool false, .int .i64 0], .int .i64 2]) (by simp [results, Tryd.results10, go_sem]) rfl ⟨rfl, ?_⟩
    go_grown
  · have e0 : decide (pages < 1) = false := by simpa using h0
    have h1 : 4096 < pages := by omega
    have e1 : decide (4096 < pages) = true := by simpa using h1
    go_enter Tryd.func10, Tryd.ntmps10
    go_wp2
    refine bodyPost_ret (v := .tuple #[.agg #[.int .i64 0, .slice none 0 0, .slice none 0 0, .int .i64 0, .bool false, .int .i64 0], .int .i64 2]) (by simp [results, Tryd.results10, go_sem]) rfl ⟨rfl, ?_⟩
    go_grown
set_option maxHeartbeats 1000000 in
theorem rnew_good (pages : Int) (w : World) (h0 : 1 ≤ pages) (h1 : pages ≤ 4096) :
    Calls Tryd.prog 10 #[.int .i64 pages] w fun e w' => e = .returned (.tuple #[.agg #[.int .i64 pages, .slice none 0 0, .slice none 0 0, .int .i64 (-1), .bool false, .int .i64 0], .int .i64 0]) ∧ Below w.heap.size w w' := by
  have e0 : decide (pages < 1) = false := by simp; omega
  have e1 : decide (4096 < pages) = false := by simp; omega
  go_enter Tryd.func10, Tryd.ntmps10
  go_wp2
  refine bodyPost_ret (v := .tuple #[.agg #[.int .i64 pages, .slice none 0 0, .slice none 0 0, .int .i64 (-1), .bool false, .int .i64 0], .int .i64 0]) (by simp [results, Tryd.results10, go_sem]) rfl ⟨rfl, ?_⟩
  go_grown
end Go.Proofs.YtfogocappakbdaaDoor
