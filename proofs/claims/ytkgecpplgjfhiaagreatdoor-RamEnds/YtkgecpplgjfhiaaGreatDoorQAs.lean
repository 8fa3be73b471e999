/-
  errors.As at this seat, its target a pointer to a pointer to a fault: of no error it answers false; of a fault it sets the target to that fault and answers true; of two errors together whose first one is a fault likewise. Conditions: the variable errors.errorType holds the handle of the type error; the target's cell is there and may be written.
-/
import Derived.Test.YtkgecpplgjfhiaaGreatDoorProg
import Derived.WalkKit
import Derived.LaidEql
import Derived.Stop.Asserts
import Derived.RowKitTokens
import Derived.WalkSpells
import Derived.WalkLawsBesides
import Derived.Handy
import Derived.RegionTactic
namespace Go.Proofs.YtkgecpplgjfhiaaGreatDoor
open Go.RowKit Go.Extern.Stop Go.Stop Go.Extern

/-- The Value of a pointer to a pointer to a fault that lies at 'a'. -/
abbrev valP (a : Addr) : Value := .agg #[.pointer (some ⟨1, 144, none⟩), .pointer (some a), .int .u64 150]
/-- The Value of a pointer to a fault that lies at 'a', and may be set. -/
abbrev valF (a : Addr) : Value := .agg #[.pointer (some ⟨1, 107, none⟩), .pointer (some a), .int .u64 406]
/-- The Value of a pointer to a fault that lies at 'a'. -/
abbrev valG (a : Addr) : Value := .agg #[.pointer (some ⟨1, 107, none⟩), .pointer (some a), .int .u64 150]
/-- The type of a pointer to a fault. -/
abbrev typF : Value := .iface 160 (.agg #[.pointer (some ⟨1, 107, none⟩)])

theorem Tryz.valueOfP (t : Addr) (w : World) : (callFunc 103 #[.iface 144 (.pointer (some t))]).run Tryz.prog w = .ok (.value (valP ⟨w.heap.size, 0, none⟩)) (w.alloc (.cells #[.pointer (some t)] 144)) := by kernel_rfl
theorem Tryz.valueOfF (e : Addr) (w : World) : (callFunc 103 #[.iface 107 (.pointer (some e))]).run Tryz.prog w = .ok (.value (valG ⟨w.heap.size, 0, none⟩)) (w.alloc (.cells #[.pointer (some e)] 107)) := by kernel_rfl
theorem Tryz.typeP (a : Addr) (w : World) : (callFunc 104 #[valP a]).run Tryz.prog w = .ok (.value (.iface 160 (.agg #[.pointer (some ⟨1, 144, none⟩)]))) w := by kernel_rfl
theorem Tryz.kindP (w : World) : (callFunc 125 #[.pointer (some ⟨1, 144, none⟩)]).run Tryz.prog w = .ok (.value (.int .u8 22)) w := by kernel_rfl
theorem Tryz.kindF (w : World) : (callFunc 125 #[.pointer (some ⟨1, 107, none⟩)]).run Tryz.prog w = .ok (.value (.int .u8 22)) w := by kernel_rfl
theorem Tryz.elemP (w : World) : (callFunc 138 #[.agg #[.pointer (some ⟨1, 144, none⟩)]]).run Tryz.prog w = .ok (.value typF) w := by kernel_rfl
theorem Tryz.implementsF (w : World) : (callFunc 139 #[.agg #[.pointer (some ⟨1, 107, none⟩)], .iface 160 (.agg #[.pointer (some ⟨1, 32, none⟩)])]).run Tryz.prog w = .ok (.value (.bool true)) w := by kernel_rfl
theorem Tryz.typeOfF (v : Value) (w : World) : (callFunc 108 #[.iface 107 v]).run Tryz.prog w = .ok (.value typF) w := by kernel_rfl
theorem Tryz.assignableF (w : World) : (callFunc 136 #[.agg #[.pointer (some ⟨1, 107, none⟩)], typF]).run Tryz.prog w = .ok (.value (.bool true)) w := by kernel_rfl
theorem Tryz.methodKind (h : Value) (w : World) : (Go.method 302 160 (.agg #[h]) "Kind").run Tryz.prog w = .ok (125, h) w := by kernel_rfl
theorem Tryz.methodElem (h : Value) (w : World) : (Go.method 302 160 (.agg #[h]) "Elem").run Tryz.prog w = .ok (138, .agg #[h]) w := by kernel_rfl
theorem Tryz.methodImplements (h : Value) (w : World) : (Go.method 302 160 (.agg #[h]) "Implements").run Tryz.prog w = .ok (139, .agg #[h]) w := by kernel_rfl
theorem Tryz.methodAssignableTo (h : Value) (w : World) : (Go.method 302 160 (.agg #[h]) "AssignableTo").run Tryz.prog w = .ok (136, .agg #[h]) w := by kernel_rfl

/-- What a method of a Value does first: it takes the Value apart. -/
theorem method_form (z : Sem Value) (f : TypeId → Addr → Nat → Nat → Sem Value) (v : Value) : ∃ K : Option (TypeId × Addr × Nat) → Sem Value,
    ReflectliteValue.method z f #[v] = (ReflectliteValue.parts v >>= fun x => K x) ∧ ∀ t a fl, K (some (t, a, fl)) = f t a fl (fl % 32) := ⟨_, rfl, fun _ _ _ => rfl⟩
/-- What setting a Value does where the types are one. -/
theorem set_form (v x : Value) : ∃ K : Option (TypeId × Addr × Nat) → Option (TypeId × Addr × Nat) → Sem Value,
    ReflectliteValue.set #[v, x] = (ReflectliteValue.parts v >>= fun a => ReflectliteValue.parts x >>= fun b => K a b) ∧
    ∀ ta b, ∃ L : Value → Sem Value, K (some (107, ta, 406)) (some (107, b, 150)) = (loadVar 107 b >>= fun val => Rtype.directlyAssignable 107 107 >>= fun d => if d = true then (storeVar 107 ta val >>= fun _ => pure (.tuple #[])) else L val) :=
  ⟨_, rfl, fun _ _ => ⟨_, rfl⟩⟩

theorem Tryz.partsP (a : Addr) (w : World) : (ReflectliteValue.parts (valP a)).run Tryz.prog w = .ok (some (144, a, 150)) w := by kernel_rfl
theorem Tryz.partsF (a : Addr) (w : World) : (ReflectliteValue.parts (valF a)).run Tryz.prog w = .ok (some (107, a, 406)) w := by kernel_rfl
theorem Tryz.partsG (a : Addr) (w : World) : (ReflectliteValue.parts (valG a)).run Tryz.prog w = .ok (some (107, a, 150)) w := by kernel_rfl
theorem Tryz.elemOfP (w : World) : (Rtype.elem? 144).run Tryz.prog w = .ok (some 107) w := by kernel_rfl
theorem Tryz.mkF (p : Addr) (w : World) : (ReflectliteValue.mk 107 p ReflectliteValue.flagAddr).run Tryz.prog w = .ok (valF p) w := by kernel_rfl
theorem Tryz.directF (w : World) : (Rtype.directlyAssignable 107 107).run Tryz.prog w = .ok true w := by kernel_rfl

/-- (Value).IsNil of a pointer that is not nil. -/
theorem Tryz.isNilP (a p : Addr) (W : World) (ha : W.cell? a = some (.pointer (some p))) : (callFunc 105 #[valP a]).run Tryz.prog W = .ok (.value (.bool false)) W := by
  have h := @run_callFunc_extern Tryz.prog 105 _ (ReflectliteValue.method (ReflectliteValue.valueError "reflectlite.Value.IsNil" 0) ReflectliteValue.isNil) Tryz.func105 (by kernel_rfl) (by kernel_rfl) (by kernel_rfl) (by kernel_rfl)
  obtain ⟨K, h1, h2⟩ := method_form (ReflectliteValue.valueError "reflectlite.Value.IsNil" 0) ReflectliteValue.isNil (valP a)
  rw [h, h1]
  simp only [Sem.run_bind, Tryz.partsP, Result.andThen, h2]
  simp [ReflectliteValue.isNil, loadVar, isAgg, underlying, Tryz.underlying144, ha, Result.andThen]
/-- (Value).Elem of a pointer that is not nil: what it points to, and it may be set. -/
theorem Tryz.elemVP (a p : Addr) (W : World) (ha : W.cell? a = some (.pointer (some p))) : (callFunc 109 #[valP a]).run Tryz.prog W = .ok (.value (valF p)) W := by
  have h := @run_callFunc_extern Tryz.prog 109 _ (ReflectliteValue.method (ReflectliteValue.valueError "reflectlite.Value.Elem" 0) ReflectliteValue.elem) Tryz.func109 (by kernel_rfl) (by kernel_rfl) (by kernel_rfl) (by kernel_rfl)
  obtain ⟨K, h1, h2⟩ := method_form (ReflectliteValue.valueError "reflectlite.Value.Elem" 0) ReflectliteValue.elem (valP a)
  rw [h, h1]
  simp only [Sem.run_bind, Tryz.partsP, Result.andThen, h2]
  simp [ReflectliteValue.elem, loadVar, isAgg, underlying, Tryz.underlying144, ha, Result.andThen, Tryz.elemOfP, Tryz.mkF]
/-- (Value).Set: the variable at 'ta' gets what the Value's own variable holds. -/
theorem Tryz.setF (ta b e : Addr) (old : Value) (W : World) (hb : W.cell? b = some (.pointer (some e))) (ht : W.cell? ta = some old) (hf : W.frozen? ta = false) :
    (callFunc 110 #[valF ta, valG b]).run Tryz.prog W = .ok (.value (.tuple #[])) (W.setCell ta (.pointer (some e))) := by
  have h := @run_callFunc_extern Tryz.prog 110 _ ReflectliteValue.set Tryz.func110 (by kernel_rfl) (by kernel_rfl) (by kernel_rfl) (by kernel_rfl)
  obtain ⟨K, h1, h2⟩ := set_form (valF ta) (valG b)
  obtain ⟨L, h3⟩ := h2 ta b
  rw [h, h1]
  simp only [Sem.run_bind, Tryz.partsF, Tryz.partsG, Result.andThen, h3]
  simp [loadVar, isAgg, underlying, Tryz.underlying107, hb, Result.andThen, Tryz.directF, storeVar, Value.cells, storeCells, Addr.add]
  rw [run_store Tryz.prog W ta _ _ (by rfl)]
  simp [ht, hf]

theorem lt_of_cell {w : World} {a : Addr} {v : Value} (h : w.cell? a = some v) : a.block < w.heap.size := World.block_lt_of_cell? w a h

/-- errors.as at a fault. -/
theorem as_fault (e t va : Addr) (old : Value) (w : World) (hv : w.cell? va = some (.pointer (some t))) (ht0 : w.cell? t = some old) (hf0 : w.frozen? t = false) :
    Calls Tryz.prog 106 #[.iface 107 (.pointer (some e)), .iface 144 (.pointer (some t)), valP va, typF] w fun ev w' => ev = .returned (.bool true) ∧ ∃ w2, Below w.heap.size w w2 ∧ w' = w2.setCell t (.pointer (some e)) := by
  have hbA : Below w.heap.size w (w.alloc (.cells #[.pointer (some ⟨1, 144, none⟩), .pointer (some va), .int .u64 150] 150)) := by go_grown
  have hbB : Below w.heap.size w ((w.alloc (.cells #[.pointer (some ⟨1, 144, none⟩), .pointer (some va), .int .u64 150] 150)).alloc (.cells #[.pointer (some e)] 107)) := by go_grown
  have tO := Tryz.typeOfF
  have mA := Tryz.methodAssignableTo
  have aF := Tryz.assignableF
  have vF := Tryz.valueOfF
  have el := Tryz.elemVP va t (w.alloc (.cells #[.pointer (some ⟨1, 144, none⟩), .pointer (some va), .int .u64 150] 150)) ((hbA.cell (lt_of_cell hv)).trans hv)
  have st := Tryz.setF t ⟨w.heap.size + 1, 0, none⟩ e old ((w.alloc (.cells #[.pointer (some ⟨1, 144, none⟩), .pointer (some va), .int .u64 150] 150)).alloc (.cells #[.pointer (some e)] 107))
    (by rw [World.cell?_alloc_at _ _ _ _ (by simp)]; rfl) ((hbB.cell (lt_of_cell ht0)).trans ht0) ((hbB.frozen (lt_of_cell ht0)).trans hf0)
  go_enter Tryz.func106, Tryz.ntmps106
  go_wp2
  refine wp_loop_rounds 1 ?_
  rw [rounds_succ]
  go_wp2
  go_ret
  exact ⟨rfl, _, hbB, rfl⟩
end Go.Proofs.YtkgecpplgjfhiaaGreatDoor
