/-
  Faults in memory at this seat: what New, Wrap and Both make, and which fault find finds. Conditions: for find, the variable errors.errorType holds the handle of the type error.
-/
import Derived.Test.YtgmghekgelmmcaaDoorQAs
import Derived.WalkSpells
import Derived.WalkLawsBesides
import Derived.Deep.DeepFit
import Derived.Handy
import Derived.Deep.LoopGhost
namespace Go.Proofs.YtgmghekgelmmcaaDoor
open Go.RowKit Go.Extern.Stop Go.Stop Go.Extern

/-- errors.As of no error. -/
theorem As_nil (t : Value) (w : World) : Calls Tryd.prog 84 #[.nilIface, t] w fun e w' => e = .returned (.bool false) ∧ w' = w := by
  go_enter Tryd.func84, Tryd.ntmps84
  go_wp2
  go_ret
  exact ⟨rfl, rfl⟩

/-- The variable errors.errorType holds the handle of the type error. -/
abbrev ErrT (w : World) : Prop := w.cell? ⟨0, 0, none⟩ = some (.iface 140 (.agg #[.pointer (some ⟨1, 27, none⟩)]))

set_option maxHeartbeats 2000000 in
/-- errors.As, if errors.as sets the target. -/
theorem As_of (x e t : Addr) (T : TypeId) (old : Value) (w : World) (hg : ErrT w) (ht0 : w.cell? t = some old) (hf0 : w.frozen? t = false)
    (has : ∀ (va : Addr) (W : World), Below w.heap.size w W → W.cell? va = some (.pointer (some t)) → W.cell? t = some old → W.frozen? t = false →
      Calls Tryd.prog 89 #[.iface T (.pointer (some x)), .iface 126 (.pointer (some t)), valP va, typF] W fun ev w' => ev = .returned (.bool true) ∧ ∃ w2, Below W.heap.size W w2 ∧ w' = w2.setCell t (.pointer (some e))) :
    Calls Tryd.prog 84 #[.iface T (.pointer (some x)), .iface 126 (.pointer (some t))] w fun ev w' => ev = .returned (.bool true) ∧ ∃ w2, Below w.heap.size w w2 ∧ w' = w2.setCell t (.pointer (some e)) := by
  have hlt : 0 < w.heap.size := lt_of_cell hg
  have hb1 : Below w.heap.size w ((w.alloc (.cells #[.pointer (some t)] 126)).alloc (.cells #[.pointer (some ⟨1, 126, none⟩), .pointer (some ⟨w.heap.size, 0, none⟩), .int .u64 150] 130)) := by go_grown
  have fP := Tryd.valueOfP
  have tP := Tryd.typeP
  have kP := Tryd.kindP
  have kF := Tryd.kindF
  have eP := Tryd.elemP
  have iF := Tryd.implementsF
  have mK := Tryd.methodKind
  have mE := Tryd.methodElem
  have mI := Tryd.methodImplements
  have hc0 : ((w.alloc (.cells #[.pointer (some t)] 126)).alloc (.cells #[.pointer (some ⟨1, 126, none⟩), .pointer (some ⟨w.heap.size, 0, none⟩), .int .u64 150] 130)).cell? ⟨w.heap.size, 0, none⟩ = some (.pointer (some t)) := by simp
  have nP := Tryd.isNilP ⟨w.heap.size, 0, none⟩ t _ hc0
  have hg1 : ((w.alloc (.cells #[.pointer (some t)] 126)).alloc (.cells #[.pointer (some ⟨1, 126, none⟩), .pointer (some ⟨w.heap.size, 0, none⟩), .int .u64 150] 130)).cell? ⟨0, 0, none⟩ = some (.iface 140 (.agg #[.pointer (some ⟨1, 27, none⟩)])) := (hb1.cell (p := ⟨0, 0, none⟩) hlt).trans hg
  have HA := has ⟨w.heap.size, 0, none⟩ _ hb1 hc0 ((hb1.cell (lt_of_cell ht0)).trans ht0) ((hb1.frozen (lt_of_cell ht0)).trans hf0)
  clear has
  go_enter Tryd.func84, Tryd.ntmps84
  go_wp2_with (first
    | (go_at_call 89; refine HA.mono ?_; rintro ev w' ⟨rfl, w2, hb2, rfl⟩)
    | (go_at_call 86; go_in) | (go_at_call 87; go_in) | (go_at_call 88; go_in) | (go_at_call 107; go_in) | (go_at_call 119; go_in) | (go_at_call 120; go_in))
  go_ret
  exact ⟨rfl, w2, hb1.trans (hb2.mono hb1.size), rfl⟩

/-- errors.As of a fault. -/
theorem As_fault (e t : Addr) (old : Value) (w : World) (hg : ErrT w) (ht0 : w.cell? t = some old) (hf0 : w.frozen? t = false) :
    Calls Tryd.prog 84 #[.iface 94 (.pointer (some e)), .iface 126 (.pointer (some t))] w fun ev w' => ev = .returned (.bool true) ∧ ∃ w2, Below w.heap.size w w2 ∧ w' = w2.setCell t (.pointer (some e)) :=
  As_of e e t 94 old w hg ht0 hf0 fun va W _ h1 h2 h3 => as_fault e t va old W h1 h2 h3

end Go.Proofs.YtgmghekgelmmcaaDoor

namespace Go.Proofs.YtgmghekgelmmcaaDoor
open Go.RowKit Go.Extern.Stop Go.Stop Go.Extern

theorem new_zero (op : ByteArray) (at_ : Int) (w : World) :
    Calls Tryd.prog 30 #[.string op, .int .i64 at_, .int .i64 0] w fun e w' => e = .returned .nilIface ∧ w' = w := by
  go_enter Tryd.func30, Tryd.ntmps30
  go_wp2
  go_ret
  exact ⟨rfl, rfl⟩

theorem new_some (op : ByteArray) (at_ code : Int) (w : World) (hc : (code == 0) = false) :
    Calls Tryd.prog 30 #[.string op, .int .i64 at_, .int .i64 code] w fun e w' => e = .returned (.iface 94 (.pointer (some ⟨w.heap.size, 0, none⟩))) ∧ w' = w.alloc (.cells #[.string op, .int .i64 at_, .int .i64 code, .nilIface] 96) := by
  go_enter Tryd.func30, Tryd.ntmps30
  go_wp2
  go_ret
  exact ⟨rfl, rfl⟩

/-- A link: what was done, at what, and the code. -/
abbrev Lnk := ByteArray × Int × Int

/-- A value is, in w's memory, the fault that has these links, the outermost first. -/
def LkL (w : World) : List Lnk → Value → Prop
  | [], v => v = .nilIface
  | (op, a, c) :: rest, v => ∃ b u, v = .iface 94 (.pointer (some ⟨b, 0, none⟩)) ∧ w.heap[b]? = some (.cells #[.string op, .int .i64 a, .int .i64 c, u] 96 (0, 0)) ∧ LkL w rest u
/-- The same, the value first. -/
def Lk (w : World) (v : Value) (ls : List Lnk) : Prop := LkL w ls v

theorem Lk.nil (w : World) : Lk w .nilIface [] := rfl
theorem Lk.cons {w : World} (b : Nat) (op : ByteArray) (a c : Int) (u : Value) (rest : List Lnk)
    (hh : w.heap[b]? = some (.cells #[.string op, .int .i64 a, .int .i64 c, u] 96 (0, 0))) (hu : Lk w u rest) : Lk w (.iface 94 (.pointer (some ⟨b, 0, none⟩))) ((op, a, c) :: rest) := ⟨b, u, rfl, hh, hu⟩
theorem Lk.inv {w : World} {v : Value} {ls : List Lnk} (h : Lk w v ls) : (v = .nilIface ∧ ls = []) ∨ ∃ b op a c u rest, v = .iface 94 (.pointer (some ⟨b, 0, none⟩)) ∧ ls = (op, a, c) :: rest ∧
    w.heap[b]? = some (.cells #[.string op, .int .i64 a, .int .i64 c, u] 96 (0, 0)) ∧ Lk w u rest := by
  cases ls with
  | nil => exact .inl ⟨h, rfl⟩
  | cons l r =>
    obtain ⟨op, a, c⟩ := l
    obtain ⟨b, u, h1, h2, h3⟩ := h
    exact .inr ⟨b, op, a, c, u, r, h1, rfl, h2, h3⟩

theorem heap_stays {w w' : World} {b : Nat} {o : Obj} (h : w.heap[b]? = some o) (hb : Below w.heap.size w w') : w'.heap[b]? = some o := by
  rw [hb.block b (Array.getElem?_eq_some_iff.1 h).1]; exact h

theorem Lk.stays {w w' : World} {v : Value} {ls : List Lnk} (h : Lk w v ls) (hb : Below w.heap.size w w') : Lk w' v ls := by
  induction ls generalizing v with
  | nil => exact h
  | cons l r ih =>
    obtain ⟨op, a, c⟩ := l
    obtain ⟨b, u, h1, h2, h3⟩ := h
    exact ⟨b, u, h1, heap_stays h2 hb, ih h3⟩

/-- A fault's pointer, with its links. -/
def Fp (w : World) (f : Value) (ls : List Lnk) : Prop :=
  (f = .pointer none ∧ ls = []) ∨ ∃ b op a c u r, f = .pointer (some ⟨b, 0, none⟩) ∧ ls = (op, a, c) :: r ∧ w.heap[b]? = some (.cells #[.string op, .int .i64 a, .int .i64 c, u] 96 (0, 0)) ∧ Lk w u r

/-- The pointer in an error. -/
def fptr : Value → Value
  | .iface _ p => p
  | _ => .pointer none
theorem Lk.fp {w : World} {v : Value} {ls : List Lnk} (h : Lk w v ls) : Fp w (fptr v) ls := by
  rcases h.inv with ⟨rfl, rfl⟩ | ⟨b, op, a, c, u, rest, rfl, rfl, hh, hu⟩
  · exact .inl ⟨rfl, rfl⟩
  · exact .inr ⟨b, op, a, c, u, rest, rfl, rfl, hh, hu⟩

/-- The cells of links, one behind the other. -/
def cellsOf : List Lnk → List Value
  | [] => []
  | (op, a, c) :: r => .string op :: .int .i64 a :: .int .i64 c :: cellsOf r

theorem cellsOf_append (x y : List Lnk) : cellsOf (x ++ y) = cellsOf x ++ cellsOf y := by
  induction x with
  | nil => rfl
  | cons l r ih => obtain ⟨op, a, c⟩ := l; simp [cellsOf, ih]

theorem cellsOf_length (x : List Lnk) : (cellsOf x).length = x.length * 3 := by
  induction x with
  | nil => rfl
  | cons l r ih => obtain ⟨op, a, c⟩ := l; simp [cellsOf, ih]; omega

theorem ErrT.below {w w' : World} (hg : ErrT w) (hb : Below w.heap.size w w') : ErrT w' := by
  unfold ErrT; rw [hb.cell (p := ⟨0, 0, none⟩) (lt_of_cell hg)]; exact hg

theorem find_nil (w : World) :
    Calls Tryd.prog 77 #[.nilIface] w fun e w' => e = .returned (.pointer none) ∧ Below w.heap.size w w' := by
  go_enter Tryd.func77, Tryd.ntmps77
  go_wp2_with (go_at_call 84; refine (As_nil _ _).mono ?_; rintro e w' ⟨rfl, rfl⟩)
  go_ret
  exact ⟨rfl, by go_grown⟩

theorem find_of (v : Value) (p : Addr) (w : World)
    (has : Calls Tryd.prog 84 #[v, .iface 126 (.pointer (some ⟨w.heap.size, 0, none⟩))] (w.alloc (.cells #[.pointer none] 94)) fun ev w' => ev = .returned (.bool true) ∧ ∃ w2, Below (w.alloc (.cells #[.pointer none] 94)).heap.size (w.alloc (.cells #[.pointer none] 94)) w2 ∧ w' = w2.setCell ⟨w.heap.size, 0, none⟩ (.pointer (some p))) :
    Calls Tryd.prog 77 #[v] w fun e w' => e = .returned (.pointer (some p)) ∧ Below w.heap.size w w' := by
  go_enter Tryd.func77, Tryd.ntmps77
  go_wp2_with (go_at_call 84; refine has.mono ?_; rintro e w' ⟨rfl, w2, hb2, rfl⟩; have hc2 := hb2.cell (p := ⟨w.heap.size, 0, none⟩) (by simp))
  go_ret
  have h1 : Below w.heap.size w w2 := Below.trans (by go_grown) (hb2.mono (by simp))
  exact ⟨rfl, h1.setCell (Nat.le_refl _) _⟩

theorem find_lk {w : World} {v : Value} {ls : List Lnk} (hg : ErrT w) (h : Lk w v ls) :
    Calls Tryd.prog 77 #[v] w fun e w' => e = .returned (fptr v) ∧ Below w.heap.size w w' := by
  have hb : Below w.heap.size w (w.alloc (.cells #[.pointer none] 94)) := by go_grown
  rcases h.inv with ⟨rfl, rfl⟩ | ⟨b, op, a, c, u, rest, rfl, rfl, hh, hu⟩
  · exact find_nil w
  · exact find_of _ ⟨b, 0, none⟩ w (As_fault _ _ (.pointer none) _ (hg.below hb) (by simp) (by simp))

end Go.Proofs.YtgmghekgelmmcaaDoor
