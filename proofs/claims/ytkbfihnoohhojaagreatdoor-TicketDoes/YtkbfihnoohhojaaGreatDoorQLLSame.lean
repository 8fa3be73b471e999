/-
  Whether leaves are the same; bytes in new memory.
-/
import Derived.Test.YtkbfihnoohhojaaGreatDoorQLEqs
import Derived.Laws.StructEq
namespace Go.Proofs.YtkbfihnoohhojaaGreatDoor.Lea
open Go.RowKit

theorem two_of {fs : List Field} (h : fs.map (fun f => (f.type, f.offset, decide (f.name = "_"))) = [(3, 0, false), (3, 1, false)]) : ∃ f0 f1, fs = [f0, f1] ∧ f0.type = 3 ∧ f0.offset = 0 ∧ f0.name ≠ "_" ∧ f1.type = 3 ∧ f1.offset = 1 ∧ f1.name ≠ "_" := by
  rcases fs with _ | ⟨f0, _ | ⟨f1, _ | ⟨f2, r⟩⟩⟩
  · simp at h
  · simp at h
  · simp at h
    exact ⟨f0, f1, rfl, h.1.1, h.1.2.1, h.1.2.2, h.2.1, h.2.2.1, h.2.2.2⟩
  · simp at h
theorem three24 {w : World} {g : Nat} {x0 x1 x2 : Value} (h : w.heap[g]? = some (.cells #[x0, x1, x2] 50 (0, 0))) :
    (w.cell? ⟨g, 0, none⟩ = some x0 ∧ w.cell? ⟨g, 1, none⟩ = some x1 ∧ w.cell? ⟨g, 2, none⟩ = some x2) ∧ ∀ o, w.frozen? ⟨g, o, none⟩ = false := by
  refine ⟨⟨?_, ?_, ?_⟩, ?_⟩ <;> simp [World.cell?, World.frozen?, h]

set_option maxHeartbeats 2000000 in
set_option maxRecDepth 10000 in
theorem rsame_any {w : World} {b c : Nat} {p p' : Option Addr} {n cap n' cap' : Nat} {l l' : List Nat} (s k s' k' : Int) (h : SlAt w b (.slice p n cap) (U l)) (g : SlAt w c (.slice p' n' cap') (U l')) :
    Calls Tryz.prog 16 #[.agg #[.int .i64 s, .int .i64 k, .slice p n cap], .agg #[.int .i64 s', .int .i64 k', .slice p' n' cap']] w fun e w' => e = .returned (.bool (s == s' && k == k' && decide (l = l'))) ∧ Below w.heap.size w w' := by
  have hb0 : Below w.heap.size w ((w.alloc (.cells #[.int .i64 s, .int .i64 k, .slice p n cap] 50)).alloc (.cells #[.int .i64 s', .int .i64 k', .slice p' n' cap'] 50)) := by go_grown
  have HC : Hid (Calls Tryz.prog 43 #[.slice p n cap, .slice p' n' cap'] ((w.alloc (.cells #[.int .i64 s, .int .i64 k, .slice p n cap] 50)).alloc (.cells #[.int .i64 s', .int .i64 k', .slice p' n' cap'] 50)) fun e w' => e = .returned (.bool (decide (l = l'))) ∧ ∃ m, w' = ((w.alloc (.cells #[.int .i64 s, .int .i64 k, .slice p n cap] 50)).alloc (.cells #[.int .i64 s', .int .i64 k', .slice p' n' cap'] 50)).drewN m) := same_any (h.stays hb0) (g.stays hb0)
  have HB0 := hid2 hb0
  clear h g hb0
  generalize decide (l = l') = D at *
  by_cases h1 : s = s'
  · subst h1
    by_cases h2 : k = k'
    · subst h2
      go_enter Tryz.func16, Tryz.ntmps16
      go_wp2_with (go_at_call 43; refine (show Calls _ _ _ _ _ from HC).mono ?_; rintro e w2 ⟨rfl, m, rfl⟩)
      go_ret
      exact ⟨by simp, HB0.out.trans (below_drewN _ _ _)⟩
    · have e2 : (k == k') = false := by simpa using h2
      go_enter Tryz.func16, Tryz.ntmps16
      go_wp2
      go_ret
      exact ⟨by simp [e2], HB0.out⟩
  · have e1 : (s == s') = false := by simpa using h1
    go_enter Tryz.func16, Tryz.ntmps16
    go_wp2
    go_ret
    exact ⟨by simp [e1], HB0.out⟩

theorem eqlIn_nil (d : Nat) (a : Option Addr) (l c : Nat) (w : World) : (Op.equalIn (d + 1) 42 (.slice a l c) (.slice none 0 0)).run Tryz.prog w = .ok a.isNone w := by
  cases a <;> simp [Op.equalIn, run_underlying Tryz.underlying42]
theorem equal_nil (a : Option Addr) (l c : Nat) (w : World) : (Op.equal 42 (.slice a l c) (.slice none 0 0)).run Tryz.prog w = .ok a.isNone w := eqlIn_nil 9999 a l c w
theorem eql_nil (a : Option Addr) (l c : Nat) (w : World) : (binOp .eql 42 (.slice a l c) (.slice none 0 0)).run Tryz.prog w = .ok (.bool a.isNone) w := by
  simp [binOp, equal_nil]

set_option maxHeartbeats 1000000 in
set_option maxRecDepth 10000 in
theorem clone_any {w : World} {b : Nat} {v : Value} {l : List Nat} (h : SlAt w b v (U l)) (hl : l.length ≤ 3000) : Calls Tryz.prog 68 #[v] w fun e w' => ∃ b' p cap, e = .returned (.slice p l.length cap) ∧ w.heap.size ≤ b' ∧ SlAt w' b' (.slice p l.length cap) (U l) ∧ Below w.heap.size w w' := by
  have hnil := eql_nil
  have hsl := h
  obtain ⟨p, cap, hv, h1, h2⟩ := h.form
  rw [U_length] at hv h1
  unfold maxLen at h2
  subst hv
  cases p with
  | none =>
    have hl0 : l = [] ∧ cap = 0 := by
      rcases h with ⟨e, e2⟩ | ⟨a, c, e, _⟩
      · simp at e
        exact ⟨by simpa [U] using e2, e.2⟩
      · cases e
    obtain ⟨rfl, rfl⟩ := hl0
    go_enter Tryz.func68, Tryz.ntmps68
    go_wp2
    go_ret
    exact ⟨w.heap.size, none, 0, rfl, Nat.le_refl _, SlAt.nil _ _, Below.refl _ _⟩
  | some a =>
    have hown0 : (w.alloc (.cells #[] 5)).ownsRow w.heap.size 5 1 (.slice (some ⟨w.heap.size, 0, none⟩) 0 0) 0 [] := World.ownsRow_made w #[] 0 (Nat.le_refl _) (Nat.zero_le _) rfl
    have hs0 : SlAt (w.alloc (.cells #[] 5)) b (.slice (some a) l.length cap) (U l) := hsl.stays (by go_grown)
    have HO := hid2 hown0
    have HS := hid2 hs0
    clear h hsl hown0 hs0
    go_enter Tryz.func68, Tryz.ntmps68
    go_wp2_with (at_builtin; refine wpList_append_sl _ rfl _ _ rfl w.heap.size _ 0 [] rfl HO.out b _ l rfl HS.out (by omega) (by simp) ?_; intro v1 w1 hown1 hgrow1)
    go_ret
    rw [Nat.zero_add, List.nil_append] at hown1
    obtain ⟨b1, hb1, hs1⟩ := own_sl hown1
    obtain ⟨p1, c1, e1, _, _⟩ := hs1.form
    rw [U_length] at e1
    subst e1
    exact ⟨b1, p1, c1, rfl, hb1, hs1, ((Below.refl _ _).alloc (Nat.le_refl _) _).grown hgrow1 (by simp) (fun k hk => by cases hk; exact Nat.le_refl _)⟩
end Go.Proofs.YtkbfihnoohhojaaGreatDoor.Lea
