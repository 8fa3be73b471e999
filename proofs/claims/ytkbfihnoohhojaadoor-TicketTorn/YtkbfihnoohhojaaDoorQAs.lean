/-
  errors.As at this seat, its target a pointer to a pointer to a fault: of no error it answers false; of a fault it sets the target to that fault and answers true; of two errors together whose first one is a fault likewise. Conditions: the variable errors.errorType holds the handle of the type error; the target's cell is there and may be written.
-/
import Derived.Test.YtkbfihnoohhojaaDoorProg
import Derived.WalkKit
import Derived.LaidEql
import Derived.Stop.Asserts
import Derived.RowKitTokens
import Derived.WalkSpells
import Derived.WalkLawsBesides
import Derived.Handy
import Derived.RegionTactic
namespace Go.Proofs.YtkbfihnoohhojaaDoor
open Go.RowKit Go.Extern.Stop Go.Stop Go.Extern

/-- The Value of a pointer to a pointer to a fault that lies at 'a'. -/
abbrev valP (a : Addr) : Value := .agg #[.pointer (some ⟨1, 141, none⟩), .pointer (some a), .int .u64 150]
/-- The Value of a pointer to a fault that lies at 'a', and may be set. -/
abbrev valF (a : Addr) : Value := .agg #[.pointer (some ⟨1, 108, none⟩), .pointer (some a), .int .u64 406]
/-- The Value of a pointer to a fault that lies at 'a'. -/
abbrev valG (a : Addr) : Value := .agg #[.pointer (some ⟨1, 108, none⟩), .pointer (some a), .int .u64 150]
/-- The type of a pointer to a fault. -/
abbrev typF : Value := .iface 155 (.agg #[.pointer (some ⟨1, 108, none⟩)])

theorem Tryd.valueOfP (t : Addr) (w : World) : (callFunc 75 #[.iface 141 (.pointer (some t))]).run Tryd.prog w = .ok (.value (valP ⟨w.heap.size, 0, none⟩)) (w.alloc (.cells #[.pointer (some t)] 141)) := by kernel_rfl
theorem Tryd.valueOfF (e : Addr) (w : World) : (callFunc 75 #[.iface 108 (.pointer (some e))]).run Tryd.prog w = .ok (.value (valG ⟨w.heap.size, 0, none⟩)) (w.alloc (.cells #[.pointer (some e)] 108)) := by kernel_rfl
theorem Tryd.typeP (a : Addr) (w : World) : (callFunc 76 #[valP a]).run Tryd.prog w = .ok (.value (.iface 155 (.agg #[.pointer (some ⟨1, 141, none⟩)]))) w := by kernel_rfl
theorem Tryd.kindP (w : World) : (callFunc 96 #[.pointer (some ⟨1, 141, none⟩)]).run Tryd.prog w = .ok (.value (.int .u8 22)) w := by kernel_rfl
theorem Tryd.kindF (w : World) : (callFunc 96 #[.pointer (some ⟨1, 108, none⟩)]).run Tryd.prog w = .ok (.value (.int .u8 22)) w := by kernel_rfl
theorem Tryd.elemP (w : World) : (callFunc 109 #[.agg #[.pointer (some ⟨1, 141, none⟩)]]).run Tryd.prog w = .ok (.value typF) w := by kernel_rfl
theorem Tryd.implementsF (w : World) : (callFunc 110 #[.agg #[.pointer (some ⟨1, 108, none⟩)], .iface 155 (.agg #[.pointer (some ⟨1, 32, none⟩)])]).run Tryd.prog w = .ok (.value (.bool true)) w := by kernel_rfl
theorem Tryd.typeOfF (v : Value) (w : World) : (callFunc 79 #[.iface 108 v]).run Tryd.prog w = .ok (.value typF) w := by kernel_rfl
theorem Tryd.assignableF (w : World) : (callFunc 107 #[.agg #[.pointer (some ⟨1, 108, none⟩)], typF]).run Tryd.prog w = .ok (.value (.bool true)) w := by kernel_rfl
theorem Tryd.methodKind (h : Value) (w : World) : (Go.method 295 155 (.agg #[h]) "Kind").run Tryd.prog w = .ok (96, h) w := by kernel_rfl
theorem Tryd.methodElem (h : Value) (w : World) : (Go.method 295 155 (.agg #[h]) "Elem").run Tryd.prog w = .ok (109, .agg #[h]) w := by kernel_rfl
theorem Tryd.methodImplements (h : Value) (w : World) : (Go.method 295 155 (.agg #[h]) "Implements").run Tryd.prog w = .ok (110, .agg #[h]) w := by kernel_rfl
theorem Tryd.methodAssignableTo (h : Value) (w : World) : (Go.method 295 155 (.agg #[h]) "AssignableTo").run Tryd.prog w = .ok (107, .agg #[h]) w := by kernel_rfl

/-- What a method of a Value does first: it takes the Value apart. -/
theorem method_form (z : Sem Value) (f : TypeId → Addr → Nat → Nat → Sem Value) (v : Value) : ∃ K : Option (TypeId × Addr × Nat) → Sem Value,
    ReflectliteValue.method z f #[v] = (ReflectliteValue.parts v >>= fun x => K x) ∧ ∀ t a fl, K (some (t, a, fl)) = f t a fl (fl % 32) := ⟨_, rfl, fun _ _ _ => rfl⟩
/-- What setting a Value does where the types are one. -/
theorem set_form (v x : Value) : ∃ K : Option (TypeId × Addr × Nat) → Option (TypeId × Addr × Nat) → Sem Value,
    ReflectliteValue.set #[v, x] = (ReflectliteValue.parts v >>= fun a => ReflectliteValue.parts x >>= fun b => K a b) ∧
    ∀ ta b, ∃ L : Value → Sem Value, K (some (108, ta, 406)) (some (108, b, 150)) = (loadVar 108 b >>= fun val => Rtype.directlyAssignable 108 108 >>= fun d => if d = true then (storeVar 108 ta val >>= fun _ => pure (.tuple #[])) else L val) :=
  ⟨_, rfl, fun _ _ => ⟨_, rfl⟩⟩

theorem Tryd.partsP (a : Addr) (w : World) : (ReflectliteValue.parts (valP a)).run Tryd.prog w = .ok (some (141, a, 150)) w := by kernel_rfl
theorem Tryd.partsF (a : Addr) (w : World) : (ReflectliteValue.parts (valF a)).run Tryd.prog w = .ok (some (108, a, 406)) w := by kernel_rfl
theorem Tryd.partsG (a : Addr) (w : World) : (ReflectliteValue.parts (valG a)).run Tryd.prog w = .ok (some (108, a, 150)) w := by kernel_rfl
theorem Tryd.elemOfP (w : World) : (Rtype.elem? 141).run Tryd.prog w = .ok (some 108) w := by kernel_rfl
theorem Tryd.mkF (p : Addr) (w : World) : (ReflectliteValue.mk 108 p ReflectliteValue.flagAddr).run Tryd.prog w = .ok (valF p) w := by kernel_rfl
theorem Tryd.directF (w : World) : (Rtype.directlyAssignable 108 108).run Tryd.prog w = .ok true w := by kernel_rfl

/-- (Value).IsNil of a pointer that is not nil. -/
theorem Tryd.isNilP (a p : Addr) (W : World) (ha : W.cell? a = some (.pointer (some p))) : (callFunc 77 #[valP a]).run Tryd.prog W = .ok (.value (.bool false)) W := by
  have h := @run_callFunc_extern Tryd.prog 77 _ (ReflectliteValue.method (ReflectliteValue.valueError "reflectlite.Value.IsNil" 0) ReflectliteValue.isNil) Tryd.func77 (by kernel_rfl) (by kernel_rfl) (by kernel_rfl) (by kernel_rfl)
  obtain ⟨K, h1, h2⟩ := method_form (ReflectliteValue.valueError "reflectlite.Value.IsNil" 0) ReflectliteValue.isNil (valP a)
  rw [h, h1]
  simp only [Sem.run_bind, Tryd.partsP, Result.andThen, h2]
  simp [ReflectliteValue.isNil, loadVar, isAgg, underlying, Tryd.underlying141, ha, Result.andThen]
/-- (Value).Elem of a pointer that is not nil: what it points to, and it may be set. -/
theorem Tryd.elemVP (a p : Addr) (W : World) (ha : W.cell? a = some (.pointer (some p))) : (callFunc 80 #[valP a]).run Tryd.prog W = .ok (.value (valF p)) W := by
  have h := @run_callFunc_extern Tryd.prog 80 _ (ReflectliteValue.method (ReflectliteValue.valueError "reflectlite.Value.Elem" 0) ReflectliteValue.elem) Tryd.func80 (by kernel_rfl) (by kernel_rfl) (by kernel_rfl) (by kernel_rfl)
  obtain ⟨K, h1, h2⟩ := method_form (ReflectliteValue.valueError "reflectlite.Value.Elem" 0) ReflectliteValue.elem (valP a)
  rw [h, h1]
  simp only [Sem.run_bind, Tryd.partsP, Result.andThen, h2]
  simp [ReflectliteValue.elem, loadVar, isAgg, underlying, Tryd.underlying141, ha, Result.andThen, Tryd.elemOfP, Tryd.mkF]
/-- (Value).Set: the variable at 'ta' gets what the Value's own variable holds. -/
theorem Tryd.setF (ta b e : Addr) (old : Value) (W : World) (hb : W.cell? b = some (.pointer (some e))) (ht : W.cell? ta = some old) (hf : W.frozen? ta = false) :
    (callFunc 81 #[valF ta, valG b]).run Tryd.prog W = .ok (.value (.tuple #[])) (W.setCell ta (.pointer (some e))) := by
  have h := @run_callFunc_extern Tryd.prog 81 _ ReflectliteValue.set Tryd.func81 (by kernel_rfl) (by kernel_rfl) (by kernel_rfl) (by kernel_rfl)
  obtain ⟨K, h1, h2⟩ := set_form (valF ta) (valG b)
  obtain ⟨L, h3⟩ := h2 ta b
  rw [h, h1]
  simp only [Sem.run_bind, Tryd.partsF, Tryd.partsG, Result.andThen, h3]
  simp [loadVar, isAgg, underlying, Tryd.underlying108, hb, Result.andThen, Tryd.directF, storeVar, Value.cells, storeCells, Addr.add]
  rw [run_store Tryd.prog W ta _ _ (by rfl)]
  simp [ht, hf]

theorem lt_of_cell {w : World} {a : Addr} {v : Value} (h : w.cell? a = some v) : a.block < w.heap.size := World.block_lt_of_cell? w a h

/-- errors.as at a fault. -/
theorem as_fault (e t va : Addr) (old : Value) (w : World) (hv : w.cell? va = some (.pointer (some t))) (ht0 : w.cell? t = some old) (hf0 : w.frozen? t = false) :
    Calls Tryd.prog 78 #[.iface 108 (.pointer (some e)), .iface 141 (.pointer (some t)), valP va, typF] w fun ev w' => ev = .returned (.bool true) ∧ ∃ w2, Below w.heap.size w w2 ∧ w' = w2.setCell t (.pointer (some e)) := by
  have hbA : Below w.heap.size w (w.alloc (.cells #[.pointer (some ⟨1, 141, none⟩), .pointer (some va), .int .u64 150] 145)) := by go_grown
  have hbB : Below w.heap.size w ((w.alloc (.cells #[.pointer (some ⟨1, 141, none⟩), .pointer (some va), .int .u64 150] 145)).alloc (.cells #[.pointer (some e)] 108)) := by go_grown
  have tO := Tryd.typeOfF
  have mA := Tryd.methodAssignableTo
  have aF := Tryd.assignableF
  have vF := Tryd.valueOfF
  have el := Tryd.elemVP va t (w.alloc (.cells #[.pointer (some ⟨1, 141, none⟩), .pointer (some va), .int .u64 150] 145)) ((hbA.cell (lt_of_cell hv)).trans hv)
  have st := Tryd.setF t ⟨w.heap.size + 1, 0, none⟩ e old ((w.alloc (.cells #[.pointer (some ⟨1, 141, none⟩), .pointer (some va), .int .u64 150] 145)).alloc (.cells #[.pointer (some e)] 108))
    (by rw [World.cell?_alloc_at _ _ _ _ (by simp)]; rfl) ((hbB.cell (lt_of_cell ht0)).trans ht0) ((hbB.frozen (lt_of_cell ht0)).trans hf0)
  go_enter Tryd.func78, Tryd.ntmps78
  go_wp2
  refine wp_loop_rounds 1 ?_
  rw [rounds_succ]
  go_wp2
  go_ret
  exact ⟨rfl, _, hbB, rfl⟩
end Go.Proofs.YtkbfihnoohhojaaDoor
