/-
  Faults in memory.
-/
import Derived.Test.YtkgecpplgjfhiaaGreatDoorQChain
import Derived.Deep.RegionHeld3
import Derived.Deep.MidRow
namespace Go.Proofs.YtkgecpplgjfhiaaGreatDoor
open Go.RowKit Go.Extern.Stop Go.Stop Go.Extern

theorem own_len {w : World} {B : Nat} {e : TypeId} {size : Nat} {v : Value} {n : Nat} {xs : List Value} (h : w.ownsRow B e size v n xs) : ∃ p cap, v = .slice p n cap := by
  rcases h.2 with ⟨rfl, rfl⟩ | ⟨g, cap, cur, rfl, _⟩
  · exact ⟨_, _, rfl⟩
  · exact ⟨_, _, rfl⟩

theorem own_at {w : World} {B : Nat} {e : TypeId} {size : Nat} {v : Value} {n : Nat} {xs : List Value} (h : w.ownsRow B e size v (n + 1) xs) : ∃ g cap, v = .slice (some ⟨g, 0, none⟩) (n + 1) cap ∧ B ≤ g ∧ g < w.heap.size ∧ n + 1 ≤ cap ∧ cap ≤ maxLen ∧ ∀ j u, xs[j]? = some u → w.cell? ⟨g, j, none⟩ = some u := by
  rcases h.2 with ⟨_, hn⟩ | ⟨g, cap, cur, rfl, hb, hg, h1, h2, _⟩
  · omega
  · refine ⟨g, cap, rfl, hb, (Array.getElem?_eq_some_iff.1 hg).1, h1, h2, fun j u hj => ?_⟩
    have := h.cells (g := g) rfl j u hj
    rwa [show (⟨g, 0, none⟩ : Addr).add j = ⟨g, j, none⟩ by unfold Addr.add; split <;> simp_all] at this

theorem bcell {W w1 : World} (hb : Below W.heap.size W w1) : (∀ b o, b < W.heap.size → w1.cell? ⟨b, o, none⟩ = W.cell? ⟨b, o, none⟩) ∧ (∀ b o, b < W.heap.size → w1.frozen? ⟨b, o, none⟩ = W.frozen? ⟨b, o, none⟩) :=
  ⟨fun b o h => hb.cell (p := ⟨b, o, none⟩) h, fun b o h => hb.frozen (p := ⟨b, o, none⟩) h⟩

set_option maxHeartbeats 1000000 in
set_option maxRecDepth 10000 in
theorem last_nil (w : World) (hg : ErrT w) :
    Calls Tryz.prog 38 #[.nilIface] w fun e w' => e = .returned (.tuple #[.agg #[.string ByteArray.empty, .int .i64 0, .int .i64 0], .bool false]) ∧ Below w.heap.size w w' := by
  have hgA : ErrT (w.alloc (.cells #[.string ByteArray.empty, .int .i64 0, .int .i64 0] 83)) := hg.below (by go_grown)
  go_enter Tryz.func38, Tryz.ntmps38
  go_wp2_with (go_at_call 68; refine (chain_any hgA (Lk.nil _) (Nat.zero_le _)).mono ?_; rintro e w1 ⟨sv, rfl, hown, hb⟩; obtain ⟨p, cap, rfl⟩ := own_len hown; obtain ⟨hc, hf⟩ := bcell hb; clear hown)
  refine bodyPost_ret (v := .tuple #[.agg #[.string ByteArray.empty, .int .i64 0, .int .i64 0], .bool false]) (by simp [results, Tryz.results38, go_sem, hc]; try rfl) rfl ⟨rfl, ?_⟩
  refine ((((?_ : Below w.heap.size w w1)).setCell (by simp) _).setCell (by simp) _).setCell (by simp) _
  exact Below.trans (by go_grown) (hb.mono (by simp))

set_option maxHeartbeats 1000000 in
set_option maxRecDepth 10000 in
theorem last_some (w : World) (hg : ErrT w) {v : Value} {dn : List Lnk} {op : ByteArray} {a c : Int} (h : Lk w v (dn ++ [(op, a, c)])) (hlen : dn.length < 1000) :
    Calls Tryz.prog 38 #[v] w fun e w' => e = .returned (.tuple #[.agg #[.string op, .int .i64 a, .int .i64 c], .bool true]) ∧ Below w.heap.size w w' := by
  have hbA : Below w.heap.size w (w.alloc (.cells #[.string ByteArray.empty, .int .i64 0, .int .i64 0] 83)) := by go_grown
  have hgA := hg.below hbA
  have hA := h.stays hbA
  have hl : (dn ++ [(op, a, c)]).length ≤ 1000 := by simp; omega
  go_enter Tryz.func38, Tryz.ntmps38
  go_wp2_with (go_at_call 68; refine (chain_any hgA hA hl).mono ?_; rintro e w1 ⟨sv, rfl, hown, hb⟩; rw [List.length_append] at hown; obtain ⟨g, cap, rfl, g1, g2, g3, g4, g5⟩ := own_at hown; obtain ⟨hc, hf⟩ := bcell hb; have q0 := g5 (dn.length * 3) (.string op) (by rw [cellsOf_append, List.getElem?_append_right (by rw [cellsOf_length]; omega)]; simp [cellsOf_length, cellsOf]); have q1 := g5 (dn.length * 3 + 1) (.int .i64 a) (by rw [cellsOf_append, List.getElem?_append_right (by rw [cellsOf_length]; omega)]; simp [cellsOf_length, cellsOf]); have q2 := g5 (dn.length * 3 + 2) (.int .i64 c) (by rw [cellsOf_append, List.getElem?_append_right (by rw [cellsOf_length]; omega)]; simp [cellsOf_length, cellsOf]); clear g5 hown)
  refine bodyPost_ret (v := .tuple #[.agg #[.string op, .int .i64 a, .int .i64 c], .bool true]) (by simp [results, Tryz.results38, go_sem, hc]; try rfl) rfl ⟨rfl, ?_⟩
  refine ((((?_ : Below w.heap.size w w1)).setCell (by simp) _).setCell (by simp) _).setCell (by simp) _
  exact Below.trans (by go_grown) (hb.mono (by simp))

set_option maxHeartbeats 1000000 in
theorem of_nil (w : World) (hg : ErrT w) :
    Calls Tryz.prog 12 #[.nilIface] w fun e w' => e = .returned (.int .i64 0) ∧ Below w.heap.size w w' := by
  go_enter Tryz.func12, Tryz.ntmps12
  go_wp2_with (go_at_call 38; refine (last_nil _ hg).mono ?_; rintro e w1 ⟨rfl, hb⟩)
  go_ret
  exact ⟨rfl, hb.alloc hb.size _⟩

set_option maxHeartbeats 1000000 in
theorem of_some (w : World) (hg : ErrT w) {v : Value} {dn : List Lnk} {op : ByteArray} {a c : Int} (h : Lk w v (dn ++ [(op, a, c)])) (hlen : dn.length < 1000) :
    Calls Tryz.prog 12 #[v] w fun e w' => e = .returned (.int .i64 c) ∧ Below w.heap.size w w' := by
  go_enter Tryz.func12, Tryz.ntmps12
  go_wp2_with (go_at_call 38; refine (last_some _ hg h hlen).mono ?_; rintro e w1 ⟨rfl, hb⟩)
  go_ret
  exact ⟨rfl, hb.alloc hb.size _⟩

end Go.Proofs.YtkgecpplgjfhiaaGreatDoor

namespace Go.Proofs.YtkgecpplgjfhiaaGreatDoor
open Go.RowKit Go.Extern.Stop Go.Stop Go.Extern

theorem hid2 {p : Prop} (h : p) : Hid p := h

/-- A value is, in w's memory, an error of this code; of 0: none. -/
def Fault (w : World) (v : Value) (code : Int) : Prop := (code = 0 ∧ v = .nilIface) ∨ (code ≠ 0 ∧ ∃ dn op a p, Lk w v (dn ++ [(op, a, code)]) ∧ dn.length ≤ 10 ∧ v = .iface 107 (.pointer (some p)))
theorem Fault.nil (w : World) : Fault w .nilIface 0 := .inl ⟨rfl, rfl⟩
theorem Fault.none {w : World} {v : Value} (h : Fault w v 0) : v = .nilIface := by
  rcases h with ⟨_, h⟩ | ⟨h, _⟩
  · exact h
  · exact absurd rfl h
theorem Fault.some {w : World} {v : Value} {code : Int} (h : Fault w v code) (hc : code ≠ 0) : ∃ p, v = .iface 107 (.pointer (some p)) := by
  rcases h with ⟨h, _⟩ | ⟨_, _, _, _, p, _, _, h⟩
  · exact absurd h hc
  · exact ⟨p, h⟩
theorem Fault.below {w w' : World} {v : Value} {code : Int} (h : Fault w v code) (hb : Below w.heap.size w w') : Fault w' v code := by
  rcases h with h | ⟨h1, dn, op, a, p, h2, h3, h4⟩
  · exact .inl h
  · exact .inr ⟨h1, dn, op, a, p, h2.stays hb, h3, h4⟩
theorem of_code {w : World} {v : Value} {code : Int} (hg : ErrT w) (h : Fault w v code) : Calls Tryz.prog 12 #[v] w fun e w' => e = .returned (.int .i64 code) ∧ Below w.heap.size w w' := by
  rcases h with ⟨rfl, rfl⟩ | ⟨_, dn, op, a, p, h2, h3, _⟩
  · exact of_nil w hg
  · exact of_some w hg h2 (by omega)
theorem new_code (op : ByteArray) (at_ code : Int) (w : World) : Calls Tryz.prog 33 #[.string op, .int .i64 at_, .int .i64 code] w fun e w' => ∃ v, e = .returned v ∧ Fault w' v code ∧ Below w.heap.size w w' := by
  by_cases hc : code = 0
  · subst hc
    exact (new_zero op at_ w).mono fun e w' ⟨h1, h2⟩ => by subst h2; exact ⟨_, h1, Fault.nil _, Below.refl _ _⟩
  · refine (new_some op at_ code w (by simpa using hc)).mono fun e w' ⟨h1, h2⟩ => ?_
    subst h2
    refine ⟨_, h1, .inr ⟨hc, [], op, at_, ⟨w.heap.size, 0, none⟩, ?_, by simp, rfl⟩, by go_grown⟩
    exact Lk.cons w.heap.size op at_ code .nilIface [] (heap_alloc_new w _) (Lk.nil _)
/-- An error of one link. -/
def Fault1 (w : World) (v : Value) (code : Int) : Prop := (code = 0 ∧ v = .nilIface) ∨ (code ≠ 0 ∧ ∃ op a p, Lk w v [(op, a, code)] ∧ v = .iface 107 (.pointer (some p)))
theorem Fault1.fault {w : World} {v : Value} {code : Int} (h : Fault1 w v code) : Fault w v code := by
  rcases h with h | ⟨h, op, a, p, h1, h2⟩
  · exact .inl h
  · exact .inr ⟨h, [], op, a, p, h1, by simp, h2⟩
theorem Fault1.below {w w' : World} {v : Value} {code : Int} (h : Fault1 w v code) (hb : Below w.heap.size w w') : Fault1 w' v code := by
  rcases h with h | ⟨h1, op, a, p, h2, h4⟩
  · exact .inl h
  · exact .inr ⟨h1, op, a, p, h2.stays hb, h4⟩
theorem new_code1 (op : ByteArray) (at_ code : Int) (w : World) : Calls Tryz.prog 33 #[.string op, .int .i64 at_, .int .i64 code] w fun e w' => ∃ v, e = .returned v ∧ Fault1 w' v code ∧ Below w.heap.size w w' := by
  by_cases hc : code = 0
  · subst hc
    exact (new_zero op at_ w).mono fun e w' ⟨h1, h2⟩ => by subst h2; exact ⟨_, h1, .inl ⟨rfl, rfl⟩, Below.refl _ _⟩
  · refine (new_some op at_ code w (by simpa using hc)).mono fun e w' ⟨h1, h2⟩ => ?_
    subst h2
    refine ⟨_, h1, .inr ⟨hc, op, at_, ⟨w.heap.size, 0, none⟩, ?_, rfl⟩, by go_grown⟩
    exact Lk.cons w.heap.size op at_ code .nilIface [] (heap_alloc_new w _) (Lk.nil _)
end Go.Proofs.YtkgecpplgjfhiaaGreatDoor
