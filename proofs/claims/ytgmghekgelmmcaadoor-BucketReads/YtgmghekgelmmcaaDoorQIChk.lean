/-
  Check of the program and of the document: what is wrong with an entry.
-/
import Derived.Test.YtgmghekgelmmcaaDoorQIFlt
namespace Go.Proofs.YtgmghekgelmmcaaDoor.Ite
open Go.RowKit

theorem Fault1.form {w : World} {v : Value} {code : Int} (h : Fault1 w v code) : (code = 0 ∧ v = .nilIface) ∨ (code ≠ 0 ∧ ∃ p, v = .iface 94 (.pointer (some p))) := by
  rcases h with h | ⟨h, op, a, p, _, h2⟩
  · exact .inl h
  · exact .inr ⟨h, p, h2⟩
theorem Fault1.zero {w : World} {v : Value} (h : Fault1 w v 0) : v = .nilIface := by
  rcases h.form with ⟨_, h⟩ | ⟨h, _⟩
  · exact h
  · exact absurd rfl h
theorem Fault1.one {w : World} {v : Value} {code : Int} (h : Fault1 w v code) (hc : code ≠ 0) : ∃ p, v = .iface 94 (.pointer (some p)) := by
  rcases h.form with ⟨h, _⟩ | ⟨_, h⟩
  · exact absurd h hc
  · exact h
/-- A fault stays where a variable that holds an error is written. -/
theorem Fault1.set {w : World} {g : Nat} {v x y : Value} {code : Int} (h : Fault1 w v code) (hg : w.heap[g]? = some (.cells #[x] 27 (0, 0))) : Fault1 (w.setCell ⟨g, 0, none⟩ y) v code := by
  rcases h with h | ⟨h1, op, a, p, h2, h4⟩
  · exact .inl h
  · refine .inr ⟨h1, op, a, p, ?_, h4⟩
    obtain ⟨b, u, e, hh, hu⟩ := h2
    refine ⟨b, u, e, ?_, hu⟩
    rw [Below.heap_setCell w ⟨g, 0, none⟩ y b ?_]
    · exact hh
    · intro e
      simp at e
      subst e
      rw [hh] at hg
      simp at hg

/-- What is wrong first. -/
def nextC (c n lo : Int) : Int := if c = 0 ∧ (n < lo ∨ 1099511627776 < n) then 2 else c

set_option maxHeartbeats 1000000 in
theorem first_any {w : World} {g : Nat} {u : Value} {c : Int} (op : ByteArray) (n lo : Int) (hg : w.heap[g]? = some (.cells #[u] 27 (0, 0))) (hf : Fault1 w u c) :
    Calls Tryd.prog 85 #[.string op, .int .i64 n, .int .i64 lo, .pointer (some ⟨g, 0, none⟩)] w fun e w' => ∃ v, e = .returned v ∧ w'.heap[g]? = some (.cells #[v] 27 (0, 0)) ∧ Fault1 w' v (nextC c n lo) ∧ w.grownBy w' (some g) := by
  have hc := cell_of_one hg
  have hlt := lt_of_block hg
  rcases hf.form with ⟨rfl, rfl⟩ | ⟨hne, p, rfl⟩
  · by_cases h1 : n < lo
    · have HN : Hid (nextC 0 n lo = 2) := by show _ = _; unfold nextC; rw [if_pos ⟨rfl, .inl h1⟩]
      go_enter Tryd.func85, Tryd.ntmps85
      go_wp2_with fail
      refine (new_code1 _ _ _ _).mono ?_
      rintro e w1 ⟨v, rfl, hv, hb⟩
      have hg1 := heap_stays hg hb
      have hc1 := cell_of_one hg1
      have hf1 := free_of_one hg1
      have hs1 := hid2 (show (w1.setCell ⟨g, 0, none⟩ v).heap[g]? = some (.cells #[v] 27 (0, 0)) from one_setCell hg1)
      rcases hv.form with ⟨hx, _⟩ | ⟨_, p, rfl⟩
      · cases hx
      go_wp2
      go_ret
      rw [HN.out]
      exact ⟨_, rfl, hs1.out, hv.set hg1, grownBy_trans (below_grownBy hb _) (setCell_grownBy _ _ _ _)⟩
    · by_cases h2 : 1099511627776 < n
      · have HN : Hid (nextC 0 n lo = 2) := by show _ = _; unfold nextC; rw [if_pos ⟨rfl, .inr h2⟩]
        go_enter Tryd.func85, Tryd.ntmps85
        go_wp2_with fail
        refine (new_code1 _ _ _ _).mono ?_
        rintro e w1 ⟨v, rfl, hv, hb⟩
        have hg1 := heap_stays hg hb
        have hc1 := cell_of_one hg1
        have hf1 := free_of_one hg1
        have hs1 := hid2 (show (w1.setCell ⟨g, 0, none⟩ v).heap[g]? = some (.cells #[v] 27 (0, 0)) from one_setCell hg1)
        rcases hv.form with ⟨hx, _⟩ | ⟨_, p, rfl⟩
        · cases hx
        go_wp2
        go_ret
        rw [HN.out]
        exact ⟨_, rfl, hs1.out, hv.set hg1, grownBy_trans (below_grownBy hb _) (setCell_grownBy _ _ _ _)⟩
      · have HN : Hid (nextC 0 n lo = 0) := by show _ = _; unfold nextC; rw [if_neg (by omega)]
        go_enter Tryd.func85, Tryd.ntmps85
        go_wp2
        go_ret
        rw [HN.out]
        exact ⟨_, rfl, hg, hf, ⟨rfl, rfl, rfl, Nat.le_refl _, fun _ _ _ => rfl⟩⟩
  · have HN : Hid (nextC c n lo = c) := by show _ = _; unfold nextC; rw [if_neg (by omega)]
    go_enter Tryd.func85, Tryd.ntmps85
    go_wp2
    go_ret
    rw [HN.out]
    exact ⟨_, rfl, hg, hf, ⟨rfl, rfl, rfl, Nat.le_refl _, fun _ _ _ => rfl⟩⟩

theorem nextC3 (v a e : Int) : nextC (nextC (nextC 0 v 1) a v) e 0 = numsC v a e := by
  unfold nextC numsC
  repeat' split
  all_goals first | rfl | omega

/-- The five cells of an entry in a block. -/
theorem five24 {w : World} {g : Nat} {x0 x1 x2 x3 x4 : Value} (h : w.heap[g]? = some (.cells #[x0, x1, x2, x3, x4] 39 (0, 0))) :
    (w.cell? ⟨g, 0, none⟩ = some x0 ∧ w.cell? ⟨g, 1, none⟩ = some x1 ∧ w.cell? ⟨g, 2, none⟩ = some x2 ∧ w.cell? ⟨g, 3, none⟩ = some x3 ∧ w.cell? ⟨g, 4, none⟩ = some x4) ∧ ∀ o, w.frozen? ⟨g, o, none⟩ = false := by
  refine ⟨⟨?_, ?_, ?_, ?_, ?_⟩, ?_⟩ <;> simp [World.cell?, World.frozen?, h]

theorem grown_size {w w' : World} {r : Option Nat} (h : w.grownBy w' r) : w.heap.size ≤ w'.heap.size := h.size

set_option maxHeartbeats 1000000 in
theorem outside_any (w : World) : Calls Tryd.prog 79 #[] w fun en w' => en = .returned (.func (.func 85) #[] #[.pointer (some ⟨w.heap.size, 0, none⟩)]) ∧ w' = w.alloc (.cells #[.nilIface] 27) := by
  have hmf : ∀ (fn : Fn) (first cap : Array Value) (w : World), (Instr.makeFunc fn first cap).run Tryd.prog w = .ok (.func fn first cap) w := fun _ _ _ _ => rfl
  go_enter Tryd.func79, Tryd.ntmps79
  go_wp2
  go_ret
  exact ⟨rfl, rfl⟩

set_option maxHeartbeats 1000000 in
set_option maxRecDepth 10000 in
theorem nums_any (k : ByteArray) (v a e : Int) (p : Option Addr) (n cap : Nat) (w : World) :
    Calls Tryd.prog 65 #[.agg #[.string k, .int .i64 v, .int .i64 a, .int .i64 e, .slice p n cap]] w fun en w' => ∃ u, en = .returned u ∧ Fault1 w' u (numsC v a e) ∧ Below w.heap.size w w' := by
  have hb0 : Below w.heap.size w (w.alloc (.cells #[.string k, .int .i64 v, .int .i64 a, .int .i64 e, .slice p n cap] 39)) := by go_grown
  have hx0 := heap_alloc_new w (.cells #[.string k, .int .i64 v, .int .i64 a, .int .i64 e, .slice p n cap] 39)
  have hs0 : (w.alloc (.cells #[.string k, .int .i64 v, .int .i64 a, .int .i64 e, .slice p n cap] 39)).heap.size = w.heap.size + 1 := by simp
  go_enter Tryd.func65, Tryd.ntmps65
  go_wp2_with fail
  generalize w.alloc (.cells #[.string k, .int .i64 v, .int .i64 a, .int .i64 e, .slice p n cap] 39) = w0 at *
  have X0 := hid2 hx0
  have B0 := hid2 hb0
  have S0 := hid2 hs0
  clear hx0 hb0 hs0
  refine (outside_any _).mono ?_
  rintro en w1 ⟨rfl, hw1⟩
  have hg1 : w1.heap[w0.heap.size]? = some (.cells #[.nilIface] 27 (0, 0)) := by rw [hw1]; exact heap_alloc_new w0 _
  have hb1 : Below w0.heap.size w0 w1 := by rw [hw1]; go_grown
  clear hw1
  have hx1 := heap_stays X0.out hb1
  obtain ⟨⟨q0, q1, q2, q3, q4⟩, _⟩ := five24 hx1
  have hne : w.heap.size ≠ w0.heap.size := by have := S0.out; omega
  go_wp2_with fail
  refine (first_any _ _ _ hg1 (.inl ⟨rfl, rfl⟩)).mono ?_
  rintro en w2 ⟨u2, rfl, hg2, hf2, hr2⟩
  have hx2 : w2.heap[w.heap.size]? = _ := (hr2.block w.heap.size (lt_of_block hx1) (by simpa using hne)).trans hx1
  clear q0 q1 q2 q3 q4
  obtain ⟨⟨q0, q1, q2, q3, q4⟩, _⟩ := five24 hx2
  go_wp2_with fail
  refine (first_any _ _ _ hg2 hf2).mono ?_
  rintro en w3 ⟨u3, rfl, hg3, hf3, hr3⟩
  have hx3 : w3.heap[w.heap.size]? = _ := (hr3.block w.heap.size (lt_of_block hx2) (by simpa using hne)).trans hx2
  clear q0 q1 q2 q3 q4
  obtain ⟨⟨q0, q1, q2, q3, q4⟩, _⟩ := five24 hx3
  go_wp2_with fail
  refine (first_any _ _ _ hg3 hf3).mono ?_
  rintro en w4 ⟨u4, rfl, hg4, hf4, hr4⟩
  go_wp2
  go_ret
  rw [nextC3] at hf4
  have hr : w1.grownBy w4 (some w0.heap.size) := grownBy_trans (grownBy_trans hr2 hr3) hr4
  exact ⟨_, rfl, hf4, B0.out.trans ((hb1.grown hr hb1.size (by simp)).mono B0.out.size)⟩

set_option maxHeartbeats 1000000 in
set_option maxRecDepth 10000 in
theorem check_any (k : ByteArray) (v a e : Int) (p : Option Addr) (n cap : Nat) (w : World) (hk : k.size ≤ maxLen) (hn : n ≤ maxLen) :
    Calls Tryd.prog 36 #[.agg #[.string k, .int .i64 v, .int .i64 a, .int .i64 e, .slice p n cap]] w fun en w' => ∃ u, en = .returned u ∧ Fault1 w' u (chk k v a e n) ∧ Below w.heap.size w w' := by
  have hb0 : Below w.heap.size w (w.alloc (.cells #[.string k, .int .i64 v, .int .i64 a, .int .i64 e, .slice p n cap] 39)) := by go_grown
  have hx0 := heap_alloc_new w (.cells #[.string k, .int .i64 v, .int .i64 a, .int .i64 e, .slice p n cap] 39)
  have X0 := hid2 hx0
  have B0 := hid2 hb0
  clear hx0 hb0
  have hk' := hk
  unfold maxLen at hk' hn
  by_cases h1 : keyC k = 0
  · by_cases h2 : numsC v a e = 0
    · by_cases h3 : 4096 < n
      · have HC : Hid (chk k v a e n = 3) := by show _ = _; unfold chk; rw [if_neg (by simpa using h1), if_neg (by simpa using h2), if_pos h3]
        have h3' : 4096 < (n : Int) := by omega
        go_enter Tryd.func36, Tryd.ntmps36
        go_wp2_with (first
          | (go_at_call 64; refine (key_any k _ hk).mono ?_; rintro en w1 ⟨rfl, hw⟩; cases hw; rw [h1])
          | (go_at_call 65; refine (nums_any k v a e p n cap _).mono ?_; rintro en w2 ⟨u, rfl, hu, hb⟩; rw [h2] at hu; obtain rfl := hu.zero; obtain ⟨⟨q0, q1, q2, q3, q4⟩, _⟩ := five24 (heap_stays X0.out hb))
          | (go_at_call 30; refine (new_code1 _ _ _ _).mono ?_; rintro en w3 ⟨u3, rfl, hu3, hb3⟩))
        go_ret
        rw [HC.out]
        exact ⟨_, rfl, hu3, B0.out.trans ((hb.trans (hb3.mono hb.size)).mono B0.out.size)⟩
      · have HC : Hid (chk k v a e n = 0) := by show _ = _; unfold chk; rw [if_neg (by simpa using h1), if_neg (by simpa using h2), if_neg h3]
        have h3' : ¬ 4096 < (n : Int) := by omega
        go_enter Tryd.func36, Tryd.ntmps36
        go_wp2_with (first
          | (go_at_call 64; refine (key_any k _ hk).mono ?_; rintro en w1 ⟨rfl, hw⟩; cases hw; rw [h1])
          | (go_at_call 65; refine (nums_any k v a e p n cap _).mono ?_; rintro en w2 ⟨u, rfl, hu, hb⟩; rw [h2] at hu; obtain rfl := hu.zero; obtain ⟨⟨q0, q1, q2, q3, q4⟩, _⟩ := five24 (heap_stays X0.out hb)))
        go_ret
        rw [HC.out]
        exact ⟨_, rfl, .inl ⟨rfl, rfl⟩, B0.out.trans (hb.mono B0.out.size)⟩
    · have HC : Hid (chk k v a e n = numsC v a e) := by show _ = _; unfold chk; rw [if_neg (by simpa using h1), if_pos (by simpa using h2)]
      have H2 := hid2 h2
      clear h2
      go_enter Tryd.func36, Tryd.ntmps36
      go_wp2_with (first
        | (go_at_call 64; refine (key_any k _ hk).mono ?_; rintro en w1 ⟨rfl, hw⟩; cases hw; rw [h1])
        | (go_at_call 65; refine (nums_any k v a e p n cap _).mono ?_; rintro en w2 ⟨u, rfl, hu, hb⟩; obtain ⟨p2, rfl⟩ := hu.one H2.out))
      go_ret
      rw [HC.out]
      exact ⟨_, rfl, hu, B0.out.trans (hb.mono B0.out.size)⟩
  · have HC : Hid (chk k v a e n = keyC k) := by show _ = _; unfold chk; rw [if_pos (by simpa using h1)]
    have hK : Hid (∀ w, Calls Tryd.prog 64 #[.string k] w fun e w' => e = .returned (.int .i64 (keyC k)) ∧ w' = w) := fun w => key_any k w hk
    generalize keyC k = c at *
    have hc : (c != 0) = true := by simpa using h1
    go_enter Tryd.func36, Tryd.ntmps36
    go_wp2_with (first
      | (go_at_call 64; refine (hK.out _).mono ?_; rintro en w1 ⟨rfl, hw⟩; cases hw)
      | (go_at_call 30; refine (new_code1 _ _ _ _).mono ?_; rintro en w3 ⟨u3, rfl, hu3, hb3⟩))
    go_ret
    rw [HC.out]
    exact ⟨_, rfl, hu3, B0.out.trans (hb3.mono B0.out.size)⟩
end Go.Proofs.YtgmghekgelmmcaaDoor.Ite
