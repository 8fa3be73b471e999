/-
  Whether entries are the same, by the document; an entry in new memory; how many bytes an entry takes; its bytes.
-/
import Derived.Test.YtgmghekgelmmcaaDoorQIResE
namespace Go.Proofs.YtgmghekgelmmcaaDoor.Ite
open Go.RowKit

set_option maxHeartbeats 2000000 in
set_option maxRecDepth 10000 in
theorem rsame6_any {w : World} {p p' : Option Addr} {n cap n' cap' : Nat} {l l' : List Int} (k k' : ByteArray) (v a e v' a' e' : Int) (h : Bs w (.slice p n cap) l) (g : Bs w (.slice p' n' cap') l') :
    Calls Tryd.prog 28 #[.agg #[.string k, .int .i64 v, .int .i64 a, .int .i64 e, .slice p n cap], .agg #[.string k', .int .i64 v', .int .i64 a', .int .i64 e', .slice p' n' cap']] w fun en w' => en = .returned (.bool (sameB k k' v a e v' a' e' l l')) ∧ Below w.heap.size w w' := by
  have HB0 : Hid (Below w.heap.size w ((w.alloc (.cells #[.string k, .int .i64 v, .int .i64 a, .int .i64 e, .slice p n cap] 39)).alloc (.cells #[.string k', .int .i64 v', .int .i64 a', .int .i64 e', .slice p' n' cap'] 39))) := by show Below _ _ _; go_grown
  obtain ⟨b, h⟩ := h
  obtain ⟨c, g⟩ := g
  have HE := hid2 (same_any (h.stays HB0.out) (g.stays HB0.out))
  clear h g
  by_cases h0 : k = k'
  · subst h0
    have d0 : (k.toList == k.toList) = true := by simp
    by_cases h1 : v = v'
    · subst h1
      by_cases h2 : a = a'
      · subst h2
        by_cases h3 : e = e'
        · subst h3
          have HC : Hid (sameB k k v a e v a e l l' = decide (l = l')) := by show _ = _; simp [sameB]
          go_enter Tryd.func28, Tryd.ntmps28
          go_wp2_with (go_at_call 50; refine (show Calls _ _ _ _ _ from HE).mono ?_; rintro en w1 ⟨rfl, m, rfl⟩)
          go_ret
          rw [HC.out]
          exact ⟨rfl, HB0.out.trans (below_drewN _ _ _)⟩
        · have HC : Hid (sameB k k v a e v a e' l l' = false) := by show _ = _; simp [sameB, h3]
          have d3 : (e == e') = false := by simpa using h3
          clear h3
          go_enter Tryd.func28, Tryd.ntmps28
          go_wp2
          go_ret
          rw [HC.out]
          exact ⟨rfl, HB0.out⟩
      · have HC : Hid (sameB k k v a e v a' e' l l' = false) := by show _ = _; simp [sameB, h2]
        have d3 : (a == a') = false := by simpa using h2
        clear h2
        go_enter Tryd.func28, Tryd.ntmps28
        go_wp2
        go_ret
        rw [HC.out]
        exact ⟨rfl, HB0.out⟩
    · have HC : Hid (sameB k k v a e v' a' e' l l' = false) := by show _ = _; simp [sameB, h1]
      have d3 : (v == v') = false := by simpa using h1
      clear h1
      go_enter Tryd.func28, Tryd.ntmps28
      go_wp2
      go_ret
      rw [HC.out]
      exact ⟨rfl, HB0.out⟩
  · have HC : Hid (sameB k k' v a e v' a' e' l l' = false) := by show _ = _; simp [sameB, h0]
    have d3 : (k.toList == k'.toList) = false := by
      have : k.toList ≠ k'.toList := fun h => h0 (Go.WideShapes.bytes_inj (by rw [← ByteArray.toList_eq, ← ByteArray.toList_eq]; exact h))
      simpa using this
    clear h0
    go_enter Tryd.func28, Tryd.ntmps28
    go_wp2
    go_ret
    rw [HC.out]
    exact ⟨rfl, HB0.out⟩

set_option maxHeartbeats 1000000 in
set_option maxRecDepth 10000 in
theorem size_any (k : ByteArray) (v a e : Int) (p : Option Addr) (n cap : Nat) (w : World) (hk : k.size ≤ 1000) (hn : n ≤ 5000) (hv : 0 ≤ v) (ha : 0 ≤ a) (he : 0 ≤ e) :
    Calls Tryd.prog 34 #[.agg #[.string k, .int .i64 v, .int .i64 a, .int .i64 e, .slice p n cap]] w fun en w' => en = .returned (.int .i64 ((sizeP k.size v a e n : Nat) : Int)) ∧ Below w.heap.size w w' := by
  have l1 := lenN_bd v
  have l2 := lenN_bd a
  have l3 := lenN_bd e
  have l4 := lenN_bd k.size
  have l5 := lenN_bd n
  go_enter Tryd.func34, Tryd.ntmps34
  go_wp2_with fail
  obtain ⟨w0, hw0⟩ : ∃ w0, w0 = w.alloc (.cells #[.string k, .int .i64 v, .int .i64 a, .int .i64 e, .slice p n cap] 39) := ⟨_, rfl⟩
  rw [← hw0]
  have hx0 : w0.heap[w.heap.size]? = some (.cells #[.string k, .int .i64 v, .int .i64 a, .int .i64 e, .slice p n cap] 39 (0, 0)) := by rw [hw0]; exact heap_alloc_new w _
  have B0 : Below w.heap.size w w0 := by rw [hw0]; go_grown
  clear hw0
  obtain ⟨⟨q0, q1, q2, q3, q4⟩, _⟩ := five24 hx0
  have hlt0 := lt_of_block hx0
  go_quiet (first
    | (go_at_call 60; exact Calls.quiet_of_same (len_any _ _ (by assumption))))
  go_wp2_with fail
  obtain ⟨w1, hw1⟩ : ∃ w1, w1 = w0.drewN nq := ⟨_, rfl⟩
  rw [← hw1]
  have B1 : Below w0.heap.size w0 w1 := by rw [hw1]; exact below_drewN _ _ _
  have hx1 := heap_stays hx0 B1
  clear hw1 q0 q1 q2 q3 q4 hlt0
  obtain ⟨⟨q0, q1, q2, q3, q4⟩, _⟩ := five24 hx1
  have hlt1 := lt_of_block hx1
  have T1 := hid2 (fun W => tsize_any k.size W (by omega))
  have T2 := hid2 (fun W => tsize_any n W (by omega))
  go_quiet (first
    | (go_at_call 61; exact Calls.quiet_of_same (T1.out _))
    | (go_at_call 61; exact Calls.quiet_of_same (T2.out _)))
  go_wp2
  go_ret
  refine ⟨ret_int ?_, (B0.trans (B1.mono B0.size)).trans (below_drewN _ _ _)⟩
  unfold sizeP
  omega
end Go.Proofs.YtgmghekgelmmcaaDoor.Ite
