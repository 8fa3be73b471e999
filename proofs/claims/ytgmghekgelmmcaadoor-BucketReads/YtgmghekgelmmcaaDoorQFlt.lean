/-
  Faults in memory.
-/
import Derived.Test.YtgmghekgelmmcaaDoorQLast
import Derived.Deep.RegionHeld3
import Derived.Deep.MidRow
namespace Go.Proofs.YtgmghekgelmmcaaDoor
open Go.RowKit Go.Extern.Stop Go.Stop Go.Extern

theorem hid2 {p : Prop} (h : p) : Hid p := h

/-- A value is, in w's memory, an error of this code; of 0: none. -/
def Fault (w : World) (v : Value) (code : Int) : Prop := (code = 0 ∧ v = .nilIface) ∨ (code ≠ 0 ∧ ∃ dn op a p, Lk w v (dn ++ [(op, a, code)]) ∧ dn.length ≤ 10 ∧ v = .iface 94 (.pointer (some p)))
theorem Fault.nil (w : World) : Fault w .nilIface 0 := .inl ⟨rfl, rfl⟩
theorem Fault.none {w : World} {v : Value} (h : Fault w v 0) : v = .nilIface := by
  rcases h with ⟨_, h⟩ | ⟨h, _⟩
  · exact h
  · exact absurd rfl h
theorem Fault.some {w : World} {v : Value} {code : Int} (h : Fault w v code) (hc : code ≠ 0) : ∃ p, v = .iface 94 (.pointer (some p)) := by
  rcases h with ⟨h, _⟩ | ⟨_, _, _, _, p, _, _, h⟩
  · exact absurd h hc
  · exact ⟨p, h⟩
theorem Fault.below {w w' : World} {v : Value} {code : Int} (h : Fault w v code) (hb : Below w.heap.size w w') : Fault w' v code := by
  rcases h with h | ⟨h1, dn, op, a, p, h2, h3, h4⟩
  · exact .inl h
  · exact .inr ⟨h1, dn, op, a, p, h2.stays hb, h3, h4⟩
theorem of_code {w : World} {v : Value} {code : Int} (hg : ErrT w) (h : Fault w v code) : Calls Tryd.prog 11 #[v] w fun e w' => e = .returned (.int .i64 code) ∧ Below w.heap.size w w' := by
  rcases h with ⟨rfl, rfl⟩ | ⟨_, dn, op, a, p, h2, h3, _⟩
  · exact of_nil w hg
  · exact of_some w hg h2 (by omega)
theorem new_code (op : ByteArray) (at_ code : Int) (w : World) : Calls Tryd.prog 30 #[.string op, .int .i64 at_, .int .i64 code] w fun e w' => ∃ v, e = .returned v ∧ Fault w' v code ∧ Below w.heap.size w w' := by
  by_cases hc : code = 0
  · subst hc
    exact (new_zero op at_ w).mono fun e w' ⟨h1, h2⟩ => by subst h2; exact ⟨_, h1, Fault.nil _, Below.refl _ _⟩
  · refine (new_some op at_ code w (by simpa using hc)).mono fun e w' ⟨h1, h2⟩ => ?_
    subst h2
    refine ⟨_, h1, .inr ⟨hc, [], op, at_, ⟨w.heap.size, 0, none⟩, ?_, by simp, rfl⟩, by go_grown⟩
    exact Lk.cons w.heap.size op at_ code .nilIface [] (heap_alloc_new w _) (Lk.nil _)
/-- An error of one link. -/
def Fault1 (w : World) (v : Value) (code : Int) : Prop := (code = 0 ∧ v = .nilIface) ∨ (code ≠ 0 ∧ ∃ op a p, Lk w v [(op, a, code)] ∧ v = .iface 94 (.pointer (some p)))
theorem Fault1.fault {w : World} {v : Value} {code : Int} (h : Fault1 w v code) : Fault w v code := by
  rcases h with h | ⟨h, op, a, p, h1, h2⟩
  · exact .inl h
  · exact .inr ⟨h, [], op, a, p, h1, by simp, h2⟩
theorem Fault1.below {w w' : World} {v : Value} {code : Int} (h : Fault1 w v code) (hb : Below w.heap.size w w') : Fault1 w' v code := by
  rcases h with h | ⟨h1, op, a, p, h2, h4⟩
  · exact .inl h
  · exact .inr ⟨h1, op, a, p, h2.stays hb, h4⟩
theorem new_code1 (op : ByteArray) (at_ code : Int) (w : World) : Calls Tryd.prog 30 #[.string op, .int .i64 at_, .int .i64 code] w fun e w' => ∃ v, e = .returned v ∧ Fault1 w' v code ∧ Below w.heap.size w w' := by
  by_cases hc : code = 0
  · subst hc
    exact (new_zero op at_ w).mono fun e w' ⟨h1, h2⟩ => by subst h2; exact ⟨_, h1, .inl ⟨rfl, rfl⟩, Below.refl _ _⟩
  · refine (new_some op at_ code w (by simpa using hc)).mono fun e w' ⟨h1, h2⟩ => ?_
    subst h2
    refine ⟨_, h1, .inr ⟨hc, op, at_, ⟨w.heap.size, 0, none⟩, ?_, rfl⟩, by go_grown⟩
    exact Lk.cons w.heap.size op at_ code .nilIface [] (heap_alloc_new w _) (Lk.nil _)
end Go.Proofs.YtgmghekgelmmcaaDoor
