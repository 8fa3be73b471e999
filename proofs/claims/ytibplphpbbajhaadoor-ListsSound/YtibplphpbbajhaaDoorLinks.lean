/-
  Faults in memory at this seat: what New, Wrap and Both make, and which fault find finds. Conditions: for find, the variable errors.errorType holds the handle of the type error.
-/
import Derived.Test.YtibplphpbbajhaaDoorAsCalls
import Derived.WalkSpells
import Derived.WalkLawsBesides
import Derived.Deep.DeepFit
import Derived.Handy
import Derived.Deep.LoopGhost
namespace Go.Proofs.YtibplphpbbajhaaDoor
open Go.RowKit Go.Extern.Stop Go.Stop Go.Extern

theorem new_zero (op : ByteArray) (at_ : Int) (w : World) :
    Calls Tryd.prog 23 #[.string op, .int .i64 at_, .int .i64 0] w fun e w' => e = .returned .nilIface ∧ w' = w := by
  go_enter Tryd.func23, Tryd.ntmps23
  go_wp2
  go_ret
  exact ⟨rfl, rfl⟩

theorem new_some (op : ByteArray) (at_ code : Int) (w : World) (hc : (code == 0) = false) :
    Calls Tryd.prog 23 #[.string op, .int .i64 at_, .int .i64 code] w fun e w' => e = .returned (.iface 72 (.pointer (some ⟨w.heap.size, 0, none⟩))) ∧ w' = w.alloc (.cells #[.string op, .int .i64 at_, .int .i64 code, .nilIface] 74) := by
  go_enter Tryd.func23, Tryd.ntmps23
  go_wp2
  go_ret
  exact ⟨rfl, rfl⟩

/-- A link: what was done, at what, and the code. -/
abbrev Lnk := ByteArray × Int × Int

/-- A value is, in w's memory, the fault that has these links, the outermost first. -/
def LkL (w : World) : List Lnk → Value → Prop
  | [], v => v = .nilIface
  | (op, a, c) :: rest, v => ∃ b u, v = .iface 72 (.pointer (some ⟨b, 0, none⟩)) ∧ w.heap[b]? = some (.cells #[.string op, .int .i64 a, .int .i64 c, u] 74 (0, 0)) ∧ LkL w rest u
/-- The same, the value first. -/
def Lk (w : World) (v : Value) (ls : List Lnk) : Prop := LkL w ls v

theorem Lk.nil (w : World) : Lk w .nilIface [] := rfl
theorem Lk.cons {w : World} (b : Nat) (op : ByteArray) (a c : Int) (u : Value) (rest : List Lnk)
    (hh : w.heap[b]? = some (.cells #[.string op, .int .i64 a, .int .i64 c, u] 74 (0, 0))) (hu : Lk w u rest) : Lk w (.iface 72 (.pointer (some ⟨b, 0, none⟩))) ((op, a, c) :: rest) := ⟨b, u, rfl, hh, hu⟩
theorem Lk.inv {w : World} {v : Value} {ls : List Lnk} (h : Lk w v ls) : (v = .nilIface ∧ ls = []) ∨ ∃ b op a c u rest, v = .iface 72 (.pointer (some ⟨b, 0, none⟩)) ∧ ls = (op, a, c) :: rest ∧
    w.heap[b]? = some (.cells #[.string op, .int .i64 a, .int .i64 c, u] 74 (0, 0)) ∧ Lk w u rest := by
  cases ls with
  | nil => exact .inl ⟨h, rfl⟩
  | cons l r =>
    obtain ⟨op, a, c⟩ := l
    obtain ⟨b, u, h1, h2, h3⟩ := h
    exact .inr ⟨b, op, a, c, u, r, h1, rfl, h2, h3⟩

theorem heap_stays {w w' : World} {b : Nat} {o : Obj} (h : w.heap[b]? = some o) (hb : Below w.heap.size w w') : w'.heap[b]? = some o := by
  rw [hb.block b (Array.getElem?_eq_some_iff.1 h).1]; exact h

theorem Lk.stays {w w' : World} {v : Value} {ls : List Lnk} (h : Lk w v ls) (hb : Below w.heap.size w w') : Lk w' v ls := by
  induction ls generalizing v with
  | nil => exact h
  | cons l r ih =>
    obtain ⟨op, a, c⟩ := l
    obtain ⟨b, u, h1, h2, h3⟩ := h
    exact ⟨b, u, h1, heap_stays h2 hb, ih h3⟩

/-- A fault's pointer, with its links. -/
def Fp (w : World) (f : Value) (ls : List Lnk) : Prop :=
  (f = .pointer none ∧ ls = []) ∨ ∃ b op a c u r, f = .pointer (some ⟨b, 0, none⟩) ∧ ls = (op, a, c) :: r ∧ w.heap[b]? = some (.cells #[.string op, .int .i64 a, .int .i64 c, u] 74 (0, 0)) ∧ Lk w u r

/-- The pointer in an error. -/
def fptr : Value → Value
  | .iface _ p => p
  | _ => .pointer none
theorem Lk.fp {w : World} {v : Value} {ls : List Lnk} (h : Lk w v ls) : Fp w (fptr v) ls := by
  rcases h.inv with ⟨rfl, rfl⟩ | ⟨b, op, a, c, u, rest, rfl, rfl, hh, hu⟩
  · exact .inl ⟨rfl, rfl⟩
  · exact .inr ⟨b, op, a, c, u, rest, rfl, rfl, hh, hu⟩

/-- The cells of links, one behind the other. -/
def cellsOf : List Lnk → List Value
  | [] => []
  | (op, a, c) :: r => .string op :: .int .i64 a :: .int .i64 c :: cellsOf r

theorem cellsOf_append (x y : List Lnk) : cellsOf (x ++ y) = cellsOf x ++ cellsOf y := by
  induction x with
  | nil => rfl
  | cons l r ih => obtain ⟨op, a, c⟩ := l; simp [cellsOf, ih]

theorem cellsOf_length (x : List Lnk) : (cellsOf x).length = x.length * 3 := by
  induction x with
  | nil => rfl
  | cons l r ih => obtain ⟨op, a, c⟩ := l; simp [cellsOf, ih]; omega

theorem ErrT.below {w w' : World} (hg : ErrT w) (hb : Below w.heap.size w w') : ErrT w' := by
  unfold ErrT; rw [hb.cell (p := ⟨0, 0, none⟩) (lt_of_cell hg)]; exact hg

theorem find_nil (w : World) :
    Calls Tryd.prog 43 #[.nilIface] w fun e w' => e = .returned (.pointer none) ∧ Below w.heap.size w w' := by
  go_enter Tryd.func43, Tryd.ntmps43
  go_wp2_with (go_at_call 44; refine (As_nil _ _).mono ?_; rintro e w' ⟨rfl, rfl⟩)
  go_ret
  exact ⟨rfl, by go_grown⟩

theorem find_of (v : Value) (p : Addr) (w : World)
    (has : Calls Tryd.prog 44 #[v, .iface 82 (.pointer (some ⟨w.heap.size, 0, none⟩))] (w.alloc (.cells #[.pointer none] 72)) fun ev w' => ev = .returned (.bool true) ∧ ∃ w2, Below (w.alloc (.cells #[.pointer none] 72)).heap.size (w.alloc (.cells #[.pointer none] 72)) w2 ∧ w' = w2.setCell ⟨w.heap.size, 0, none⟩ (.pointer (some p))) :
    Calls Tryd.prog 43 #[v] w fun e w' => e = .returned (.pointer (some p)) ∧ Below w.heap.size w w' := by
  go_enter Tryd.func43, Tryd.ntmps43
  go_wp2_with (go_at_call 44; refine has.mono ?_; rintro e w' ⟨rfl, w2, hb2, rfl⟩; have hc2 := hb2.cell (p := ⟨w.heap.size, 0, none⟩) (by simp))
  go_ret
  have h1 : Below w.heap.size w w2 := Below.trans (by go_grown) (hb2.mono (by simp))
  exact ⟨rfl, h1.setCell (Nat.le_refl _) _⟩

theorem find_lk {w : World} {v : Value} {ls : List Lnk} (hg : ErrT w) (h : Lk w v ls) :
    Calls Tryd.prog 43 #[v] w fun e w' => e = .returned (fptr v) ∧ Below w.heap.size w w' := by
  have hb : Below w.heap.size w (w.alloc (.cells #[.pointer none] 72)) := by go_grown
  rcases h.inv with ⟨rfl, rfl⟩ | ⟨b, op, a, c, u, rest, rfl, rfl, hh, hu⟩
  · exact find_nil w
  · exact find_of _ ⟨b, 0, none⟩ w (As_fault _ _ (.pointer none) _ (hg.below hb) (by simp) (by simp))

end Go.Proofs.YtibplphpbbajhaaDoor
