/-
  errors.Is and Has at this seat, for faults that are no two together.
-/
import Derived.Test.YthjklbgkhpchhaaDoorErrIs
namespace Go.Proofs.YthjklbgkhpchhaaDoor
open Go.RowKit Go.Extern.Stop Go.Stop Go.Extern

theorem Tryd.comparable88 (w : World) : (callFunc 88 #[.agg #[.pointer (some ⟨5, 50, none⟩)]]).run Tryd.prog w = .ok (.value (.bool true)) w := by kernel_rfl

theorem Is_nil (t : Value) (w : World) :
    Calls Tryd.prog 28 #[.nilIface, .iface 50 t] w fun e w' => e = .returned (.bool false) ∧ Below w.heap.size w w' := by
  have hn := run_eql_iface_nil_left (P := Tryd.prog) w 50 t Tryd.underlying25
  go_enter Tryd.func28, Tryd.ntmps28
  go_wp2
  go_ret
  exact ⟨rfl, Below.refl _ _⟩

set_option maxHeartbeats 1000000 in
theorem Is_chain {w0 w : World} {v : Value} {ls : List Lnk} (tb : Nat) (tc : Int) (hg : ErrT w) (h : Lk w0 v ls) (hb0 : Below w0.heap.size w0 w) (htb : w0.heap.size ≤ tb) (ht : Tgt w tb tc) :
    Calls Tryd.prog 28 #[v, .iface 50 (.pointer (some ⟨tb, 0, none⟩))] w fun e w' => e = .returned (.bool (hits tc ls)) ∧ Below w.heap.size w w' := by
  rcases h.inv with ⟨rfl, rfl⟩ | ⟨b, op, a, c, u, rest, rfl, rfl, hh, hu⟩
  · exact Is_nil _ w
  · have h35 := Tryd.typeOfF
    have h88 := Tryd.comparable88
    have mR := Tryd.methodComparable
    go_enter Tryd.func28, Tryd.ntmps28
    go_wp2_with (first | (go_at_call 35; go_in) | (go_at_call 88; go_in) | (go_at_call 36; refine (is_chain tb tc hg h (by simp) hb0 htb ht).mono ?_; rintro e w2 ⟨rfl, hb2⟩))
    go_ret
    exact ⟨rfl, hb2⟩

theorem hits_zero (ls : List Lnk) : hits 0 ls = false := List.any_eq_false.2 fun l _ => by by_cases e : l.2.2 = 0 <;> simp [e]

theorem has_zero (v : Value) (w : World) :
    Calls Tryd.prog 20 #[v, .int .i64 0] w fun e w' => e = .returned (.bool false) ∧ Below w.heap.size w w' := by
  go_enter Tryd.func20, Tryd.ntmps20
  go_wp2
  go_ret
  exact ⟨rfl, Below.refl _ _⟩

set_option maxHeartbeats 1000000 in
theorem has_chain {w : World} {v : Value} {ls : List Lnk} (tc : Int) (hg : ErrT w) (h : Lk w v ls) :
    Calls Tryd.prog 20 #[v, .int .i64 tc] w fun e w' => e = .returned (.bool (hits tc ls)) ∧ Below w.heap.size w w' := by
  by_cases hz : tc = 0
  · subst hz
    refine (has_zero v w).mono fun e w' ⟨h1, h2⟩ => ⟨?_, h2⟩
    rw [h1, hits_zero]
  · have hz1 : (tc == 0) = false := by simpa using hz
    have hz2 : (tc != 0) = true := by simpa using hz
    have hbA : Below w.heap.size w (w.alloc (.cells #[.string ⟨#[104, 97, 115]⟩, .int .i64 (-1), .int .i64 tc, .nilIface] 52)) := by go_grown
    have hgA := hg.below hbA
    have htg : Tgt (w.alloc (.cells #[.string ⟨#[104, 97, 115]⟩, .int .i64 (-1), .int .i64 tc, .nilIface] 52)) w.heap.size tc := ⟨_, _, heap_alloc_new _ _⟩
    clear hz
    go_enter Tryd.func20, Tryd.ntmps20
    go_wp2_with (first
      | (go_at_call 7; refine (new_some _ _ tc _ hz1).mono ?_; rintro e w1 ⟨rfl, rfl⟩)
      | (go_at_call 28; refine (Is_chain w.heap.size tc hgA h hbA (Nat.le_refl _) htg).mono ?_; rintro e w2 ⟨rfl, hb2⟩))
    go_ret
    exact ⟨rfl, hbA.trans (hb2.mono (by simp))⟩
end Go.Proofs.YthjklbgkhpchhaaDoor
