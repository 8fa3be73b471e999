/-
  errors.As at this seat, its target a pointer to a pointer to a fault: of no error it answers false; of a fault it sets the target to that fault and answers true; of two errors together whose first one is a fault likewise. Conditions: the variable errors.errorType holds the handle of the type error; the target's cell is there and may be written.
-/
import Derived.Test.YtgmghekgelmmcaaDoorProg
import Derived.WalkKit
import Derived.LaidEql
import Derived.Stop.Asserts
import Derived.RowKitTokens
import Derived.WalkSpells
import Derived.WalkLawsBesides
import Derived.Handy
import Derived.RegionTactic
namespace Go.Proofs.YtgmghekgelmmcaaDoor
open Go.RowKit Go.Extern.Stop Go.Stop Go.Extern

/-- The Value of a pointer to a pointer to a fault that lies at 'a'. -/
abbrev valP (a : Addr) : Value := .agg #[.pointer (some ⟨1, 126, none⟩), .pointer (some a), .int .u64 150]
/-- The Value of a pointer to a fault that lies at 'a', and may be set. -/
abbrev valF (a : Addr) : Value := .agg #[.pointer (some ⟨1, 94, none⟩), .pointer (some a), .int .u64 406]
/-- The Value of a pointer to a fault that lies at 'a'. -/
abbrev valG (a : Addr) : Value := .agg #[.pointer (some ⟨1, 94, none⟩), .pointer (some a), .int .u64 150]
/-- The type of a pointer to a fault. -/
abbrev typF : Value := .iface 140 (.agg #[.pointer (some ⟨1, 94, none⟩)])

theorem Tryd.valueOfP (t : Addr) (w : World) : (callFunc 86 #[.iface 126 (.pointer (some t))]).run Tryd.prog w = .ok (.value (valP ⟨w.heap.size, 0, none⟩)) (w.alloc (.cells #[.pointer (some t)] 126)) := by kernel_rfl
theorem Tryd.valueOfF (e : Addr) (w : World) : (callFunc 86 #[.iface 94 (.pointer (some e))]).run Tryd.prog w = .ok (.value (valG ⟨w.heap.size, 0, none⟩)) (w.alloc (.cells #[.pointer (some e)] 94)) := by kernel_rfl
theorem Tryd.typeP (a : Addr) (w : World) : (callFunc 87 #[valP a]).run Tryd.prog w = .ok (.value (.iface 140 (.agg #[.pointer (some ⟨1, 126, none⟩)]))) w := by kernel_rfl
theorem Tryd.kindP (w : World) : (callFunc 107 #[.pointer (some ⟨1, 126, none⟩)]).run Tryd.prog w = .ok (.value (.int .u8 22)) w := by kernel_rfl
theorem Tryd.kindF (w : World) : (callFunc 107 #[.pointer (some ⟨1, 94, none⟩)]).run Tryd.prog w = .ok (.value (.int .u8 22)) w := by kernel_rfl
theorem Tryd.elemP (w : World) : (callFunc 119 #[.agg #[.pointer (some ⟨1, 126, none⟩)]]).run Tryd.prog w = .ok (.value typF) w := by kernel_rfl
theorem Tryd.implementsF (w : World) : (callFunc 120 #[.agg #[.pointer (some ⟨1, 94, none⟩)], .iface 140 (.agg #[.pointer (some ⟨1, 27, none⟩)])]).run Tryd.prog w = .ok (.value (.bool true)) w := by kernel_rfl
theorem Tryd.typeOfF (v : Value) (w : World) : (callFunc 90 #[.iface 94 v]).run Tryd.prog w = .ok (.value typF) w := by kernel_rfl
theorem Tryd.assignableF (w : World) : (callFunc 117 #[.agg #[.pointer (some ⟨1, 94, none⟩)], typF]).run Tryd.prog w = .ok (.value (.bool true)) w := by kernel_rfl
theorem Tryd.methodKind (h : Value) (w : World) : (Go.method 282 140 (.agg #[h]) "Kind").run Tryd.prog w = .ok (107, h) w := by kernel_rfl
theorem Tryd.methodElem (h : Value) (w : World) : (Go.method 282 140 (.agg #[h]) "Elem").run Tryd.prog w = .ok (119, .agg #[h]) w := by kernel_rfl
theorem Tryd.methodImplements (h : Value) (w : World) : (Go.method 282 140 (.agg #[h]) "Implements").run Tryd.prog w = .ok (120, .agg #[h]) w := by kernel_rfl
theorem Tryd.methodAssignableTo (h : Value) (w : World) : (Go.method 282 140 (.agg #[h]) "AssignableTo").run Tryd.prog w = .ok (117, .agg #[h]) w := by kernel_rfl

/-- What a method of a Value does first: it takes the Value apart. -/
theorem method_form (z : Sem Value) (f : TypeId → Addr → Nat → Nat → Sem Value) (v : Value) : ∃ K : Option (TypeId × Addr × Nat) → Sem Value,
    ReflectliteValue.method z f #[v] = (ReflectliteValue.parts v >>= fun x => K x) ∧ ∀ t a fl, K (some (t, a, fl)) = f t a fl (fl % 32) := ⟨_, rfl, fun _ _ _ => rfl⟩
/-- What setting a Value does where the types are one. -/
theorem set_form (v x : Value) : ∃ K : Option (TypeId × Addr × Nat) → Option (TypeId × Addr × Nat) → Sem Value,
    ReflectliteValue.set #[v, x] = (ReflectliteValue.parts v >>= fun a => ReflectliteValue.parts x >>= fun b => K a b) ∧
    ∀ ta b, ∃ L : Value → Sem Value, K (some (94, ta, 406)) (some (94, b, 150)) = (loadVar 94 b >>= fun val => Rtype.directlyAssignable 94 94 >>= fun d => if d = true then (storeVar 94 ta val >>= fun _ => pure (.tuple #[])) else L val) :=
  ⟨_, rfl, fun _ _ => ⟨_, rfl⟩⟩

theorem Tryd.partsP (a : Addr) (w : World) : (ReflectliteValue.parts (valP a)).run Tryd.prog w = .ok (some (126, a, 150)) w := by kernel_rfl
theorem Tryd.partsF (a : Addr) (w : World) : (ReflectliteValue.parts (valF a)).run Tryd.prog w = .ok (some (94, a, 406)) w := by kernel_rfl
theorem Tryd.partsG (a : Addr) (w : World) : (ReflectliteValue.parts (valG a)).run Tryd.prog w = .ok (some (94, a, 150)) w := by kernel_rfl
theorem Tryd.elemOfP (w : World) : (Rtype.elem? 126).run Tryd.prog w = .ok (some 94) w := by kernel_rfl
theorem Tryd.mkF (p : Addr) (w : World) : (ReflectliteValue.mk 94 p ReflectliteValue.flagAddr).run Tryd.prog w = .ok (valF p) w := by kernel_rfl
theorem Tryd.directF (w : World) : (Rtype.directlyAssignable 94 94).run Tryd.prog w = .ok true w := by kernel_rfl

/-- (Value).IsNil of a pointer that is not nil. -/
theorem Tryd.isNilP (a p : Addr) (W : World) (ha : W.cell? a = some (.pointer (some p))) : (callFunc 88 #[valP a]).run Tryd.prog W = .ok (.value (.bool false)) W := by
  have h := @run_callFunc_extern Tryd.prog 88 _ (ReflectliteValue.method (ReflectliteValue.valueError "reflectlite.Value.IsNil" 0) ReflectliteValue.isNil) Tryd.func88 (by kernel_rfl) (by kernel_rfl) (by kernel_rfl) (by kernel_rfl)
  obtain ⟨K, h1, h2⟩ := method_form (ReflectliteValue.valueError "reflectlite.Value.IsNil" 0) ReflectliteValue.isNil (valP a)
  rw [h, h1]
  simp only [Sem.run_bind, Tryd.partsP, Result.andThen, h2]
  simp [ReflectliteValue.isNil, loadVar, isAgg, underlying, Tryd.underlying126, ha, Result.andThen]
/-- (Value).Elem of a pointer that is not nil: what it points to, and it may be set. -/
theorem Tryd.elemVP (a p : Addr) (W : World) (ha : W.cell? a = some (.pointer (some p))) : (callFunc 91 #[valP a]).run Tryd.prog W = .ok (.value (valF p)) W := by
  have h := @run_callFunc_extern Tryd.prog 91 _ (ReflectliteValue.method (ReflectliteValue.valueError "reflectlite.Value.Elem" 0) ReflectliteValue.elem) Tryd.func91 (by kernel_rfl) (by kernel_rfl) (by kernel_rfl) (by kernel_rfl)
  obtain ⟨K, h1, h2⟩ := method_form (ReflectliteValue.valueError "reflectlite.Value.Elem" 0) ReflectliteValue.elem (valP a)
  rw [h, h1]
  simp only [Sem.run_bind, Tryd.partsP, Result.andThen, h2]
  simp [ReflectliteValue.elem, loadVar, isAgg, underlying, Tryd.underlying126, ha, Result.andThen, Tryd.elemOfP, Tryd.mkF]
/-- (Value).Set: the variable at 'ta' gets what the Value's own variable holds. -/
theorem Tryd.setF (ta b e : Addr) (old : Value) (W : World) (hb : W.cell? b = some (.pointer (some e))) (ht : W.cell? ta = some old) (hf : W.frozen? ta = false) :
    (callFunc 92 #[valF ta, valG b]).run Tryd.prog W = .ok (.value (.tuple #[])) (W.setCell ta (.pointer (some e))) := by
  have h := @run_callFunc_extern Tryd.prog 92 _ ReflectliteValue.set Tryd.func92 (by kernel_rfl) (by kernel_rfl) (by kernel_rfl) (by kernel_rfl)
  obtain ⟨K, h1, h2⟩ := set_form (valF ta) (valG b)
  obtain ⟨L, h3⟩ := h2 ta b
  rw [h, h1]
  simp only [Sem.run_bind, Tryd.partsF, Tryd.partsG, Result.andThen, h3]
  simp [loadVar, isAgg, underlying, Tryd.underlying94, hb, Result.andThen, Tryd.directF, storeVar, Value.cells, storeCells, Addr.add]
  rw [run_store Tryd.prog W ta _ _ (by rfl)]
  simp [ht, hf]

theorem lt_of_cell {w : World} {a : Addr} {v : Value} (h : w.cell? a = some v) : a.block < w.heap.size := World.block_lt_of_cell? w a h

/-- errors.as at a fault. -/
theorem as_fault (e t va : Addr) (old : Value) (w : World) (hv : w.cell? va = some (.pointer (some t))) (ht0 : w.cell? t = some old) (hf0 : w.frozen? t = false) :
    Calls Tryd.prog 89 #[.iface 94 (.pointer (some e)), .iface 126 (.pointer (some t)), valP va, typF] w fun ev w' => ev = .returned (.bool true) ∧ ∃ w2, Below w.heap.size w w2 ∧ w' = w2.setCell t (.pointer (some e)) := by
  have hbA : Below w.heap.size w (w.alloc (.cells #[.pointer (some ⟨1, 126, none⟩), .pointer (some va), .int .u64 150] 130)) := by go_grown
  have hbB : Below w.heap.size w ((w.alloc (.cells #[.pointer (some ⟨1, 126, none⟩), .pointer (some va), .int .u64 150] 130)).alloc (.cells #[.pointer (some e)] 94)) := by go_grown
  have tO := Tryd.typeOfF
  have mA := Tryd.methodAssignableTo
  have aF := Tryd.assignableF
  have vF := Tryd.valueOfF
  have el := Tryd.elemVP va t (w.alloc (.cells #[.pointer (some ⟨1, 126, none⟩), .pointer (some va), .int .u64 150] 130)) ((hbA.cell (lt_of_cell hv)).trans hv)
  have st := Tryd.setF t ⟨w.heap.size + 1, 0, none⟩ e old ((w.alloc (.cells #[.pointer (some ⟨1, 126, none⟩), .pointer (some va), .int .u64 150] 130)).alloc (.cells #[.pointer (some e)] 94))
    (by rw [World.cell?_alloc_at _ _ _ _ (by simp)]; rfl) ((hbB.cell (lt_of_cell ht0)).trans ht0) ((hbB.frozen (lt_of_cell ht0)).trans hf0)
  go_enter Tryd.func89, Tryd.ntmps89
  go_wp2
  refine wp_loop_rounds 1 ?_
  rw [rounds_succ]
  go_wp2
  go_ret
  exact ⟨rfl, _, hbB, rfl⟩
end Go.Proofs.YtgmghekgelmmcaaDoor
