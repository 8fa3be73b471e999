/-
  Two errors together at this seat: what Both makes of two faults, and errors.is, errors.Is and Has of it. Conditions: the variable errors.errorType holds the handle of the type error.
-/
import Derived.Test.YthjklbgkhpchhaaDoorHas
import Derived.Test.YthjklbgkhpchhaaDoorAsCalls
namespace Go.Proofs.YthjklbgkhpchhaaDoor
open Go.RowKit Go.Extern.Stop Go.Stop Go.Extern

theorem both_left (y : Value) (w : World) : Calls Tryd.prog 22 #[.nilIface, y] w fun e w' => e = .returned y ∧ w' = w := by
  go_enter Tryd.func22, Tryd.ntmps22
  go_wp2
  go_ret
  exact ⟨rfl, rfl⟩
theorem both_right (x : Addr) (w : World) : Calls Tryd.prog 22 #[.iface 50 (.pointer (some x)), .nilIface] w fun e w' => e = .returned (.iface 50 (.pointer (some x))) ∧ w' = w := by
  go_enter Tryd.func22, Tryd.ntmps22
  go_wp2
  go_ret
  exact ⟨rfl, rfl⟩
theorem both_two (x y : Addr) (w : World) : Calls Tryd.prog 22 #[.iface 50 (.pointer (some x)), .iface 50 (.pointer (some y))] w fun e w' =>
    e = .returned (.iface 61 (.pointer (some ⟨w.heap.size, 0, none⟩))) ∧ w' = w.alloc (.cells #[.iface 50 (.pointer (some x)), .iface 50 (.pointer (some y))] 63) := by
  go_enter Tryd.func22, Tryd.ntmps22
  go_wp2
  go_ret
  exact ⟨rfl, rfl⟩

theorem Tryd.noIsPair (v : Value) (xT : TypeId) (w : World) : (Instr.typeAssert (.iface 61 v) xT 93 true).run Tryd.prog w = .ok (.tuple #[.nilIface, .bool false]) w := run_typeAssert_lacksB Tryd.underlying93 (by kernel_rfl) (by kernel_rfl) v xT w

set_option maxHeartbeats 4000000 in
set_option maxRecDepth 10000 in
/-- errors.is of two faults together. -/
theorem is_pair {w0 w : World} {x y : Addr} {ls ms : List Lnk} (b tb : Nat) (tc : Int) (hg : ErrT w) (hx : Lk w0 (.iface 50 (.pointer (some x))) ls) (hy : Lk w0 (.iface 50 (.pointer (some y))) ms) (hls : ls ≠ []) (hms : ms ≠ [])
    (h0 : w.cell? ⟨b, 0, none⟩ = some (.iface 50 (.pointer (some x)))) (h1 : w.cell? ⟨b, 1, none⟩ = some (.iface 50 (.pointer (some y))))
    (hb0 : Below w0.heap.size w0 w) (htb : w0.heap.size ≤ tb) (ht : Tgt w tb tc) :
    Calls Tryd.prog 36 #[.iface 61 (.pointer (some ⟨b, 0, none⟩)), .iface 50 (.pointer (some ⟨tb, 0, none⟩)), .bool true] w fun e w' => e = .returned (.bool (hits tc ls || hits tc ms)) ∧ Below w.heap.size w w' := by
  have nI := Tryd.noIsPair
  have nU := Tryd.noUnwrapPair
  have hU := Tryd.hasUnwrapsPair
  have mU := Tryd.methodUnwrapPair
  have hne := fun W => run_eql_iface_types (P := Tryd.prog) 61 50 (.pointer (some ⟨b, 0, none⟩)) (.pointer (some ⟨tb, 0, none⟩)) Tryd.underlying25 (by decide) W
  go_enter Tryd.func36, Tryd.ntmps36
  go_wp2
  refine wp_loop_rounds 1 ?_
  rw [rounds_succ]
  go_wp2_with (go_at_call 81; refine (unwraps_pair b x y _ h0 h1).mono ?_; rintro ev w3 ⟨rfl, c3, d3, hb3⟩)
  have hB3 := hb0.trans (hb3.mono hb0.size)
  have C1 := is_chain tb tc (hg.below hb3) hx hls hB3 htb (ht.stays hb3)
  clear hne mU hU nU nI
  refine wp_loop_rounds 3 ?_
  rw [rounds_succ]
  go_wp2_with fail
  refine C1.mono ?_
  rintro e w4 ⟨rfl, hb4⟩
  have hb34 := hb3.trans (hb4.mono hb3.size)
  have d4 := (hb4.cell (lt_of_cell d3)).trans d3
  have C2 := is_chain tb tc (hg.below hb34) hy hms (hb0.trans (hb34.mono hb0.size)) htb (ht.stays hb34)
  clear C1
  cases hq1 : hits tc ls with
  | true =>
    go_wp2
    go_ret
    exact ⟨by rw [hq1]; rfl, hb34⟩
  | false =>
    go_wp2_with fail
    rw [rounds_succ]
    go_wp2_with fail
    refine C2.mono ?_
    rintro e w5 ⟨rfl, hb5⟩
    have hb35 := hb34.trans (hb5.mono hb34.size)
    clear C2
    cases hq2 : hits tc ms with
    | true =>
      go_wp2
      go_ret
      exact ⟨by rw [hq1, hq2]; rfl, hb35⟩
    | false =>
      go_wp2_with fail
      rw [rounds_succ]
      go_wp2
      go_ret
      exact ⟨by rw [hq1, hq2]; rfl, hb35⟩

set_option maxHeartbeats 1000000 in
/-- errors.Is of two faults together. -/
theorem Is_pair {w0 w : World} {x y : Addr} {ls ms : List Lnk} (b tb : Nat) (tc : Int) (hg : ErrT w) (hx : Lk w0 (.iface 50 (.pointer (some x))) ls) (hy : Lk w0 (.iface 50 (.pointer (some y))) ms) (hls : ls ≠ []) (hms : ms ≠ [])
    (h0 : w.cell? ⟨b, 0, none⟩ = some (.iface 50 (.pointer (some x)))) (h1 : w.cell? ⟨b, 1, none⟩ = some (.iface 50 (.pointer (some y))))
    (hb0 : Below w0.heap.size w0 w) (htb : w0.heap.size ≤ tb) (ht : Tgt w tb tc) :
    Calls Tryd.prog 28 #[.iface 61 (.pointer (some ⟨b, 0, none⟩)), .iface 50 (.pointer (some ⟨tb, 0, none⟩))] w fun e w' => e = .returned (.bool (hits tc ls || hits tc ms)) ∧ Below w.heap.size w w' := by
  have h35 := Tryd.typeOfF
  have h88 := Tryd.comparable88
  have mR := Tryd.methodComparable
  have C := is_pair b tb tc hg hx hy hls hms h0 h1 hb0 htb ht
  go_enter Tryd.func28, Tryd.ntmps28
  go_wp2_with (first | (go_at_call 35; go_in) | (go_at_call 88; go_in) | (go_at_call 36; refine C.mono ?_; rintro e w2 ⟨rfl, hb2⟩))
  go_ret
  exact ⟨rfl, hb2⟩

set_option maxHeartbeats 1000000 in
/-- Has of two faults together. -/
theorem has_pair {w : World} {x y : Addr} {ls ms : List Lnk} (b : Nat) (tc : Int) (hg : ErrT w) (hx : Lk w (.iface 50 (.pointer (some x))) ls) (hy : Lk w (.iface 50 (.pointer (some y))) ms) (hls : ls ≠ []) (hms : ms ≠ [])
    (h0 : w.cell? ⟨b, 0, none⟩ = some (.iface 50 (.pointer (some x)))) (h1 : w.cell? ⟨b, 1, none⟩ = some (.iface 50 (.pointer (some y)))) :
    Calls Tryd.prog 20 #[.iface 61 (.pointer (some ⟨b, 0, none⟩)), .int .i64 tc] w fun e w' => e = .returned (.bool (hits tc ls || hits tc ms)) ∧ Below w.heap.size w w' := by
  by_cases hz : tc = 0
  · subst hz
    refine (has_zero _ w).mono fun e w' ⟨e1, e2⟩ => ⟨?_, e2⟩
    rw [e1, hits_zero, hits_zero]; rfl
  · have hz1 : (tc == 0) = false := by simpa using hz
    have hz2 : (tc != 0) = true := by simpa using hz
    have hbA : Below w.heap.size w (w.alloc (.cells #[.string ⟨#[104, 97, 115]⟩, .int .i64 (-1), .int .i64 tc, .nilIface] 52)) := by go_grown
    have htg : Tgt (w.alloc (.cells #[.string ⟨#[104, 97, 115]⟩, .int .i64 (-1), .int .i64 tc, .nilIface] 52)) w.heap.size tc := ⟨_, _, heap_alloc_new _ _⟩
    have C := Is_pair b w.heap.size tc (hg.below hbA) hx hy hls hms ((hbA.cell (lt_of_cell h0)).trans h0) ((hbA.cell (lt_of_cell h1)).trans h1) hbA (Nat.le_refl _) htg
    clear hz h0 h1 htg
    go_enter Tryd.func20, Tryd.ntmps20
    go_wp2_with (first
      | (go_at_call 7; refine (new_some _ _ tc _ hz1).mono ?_; rintro e w1 ⟨rfl, rfl⟩)
      | (go_at_call 28; refine C.mono ?_; rintro e w2 ⟨rfl, hb2⟩))
    go_ret
    exact ⟨rfl, hbA.trans (hb2.mono (by simp))⟩
end Go.Proofs.YthjklbgkhpchhaaDoor
