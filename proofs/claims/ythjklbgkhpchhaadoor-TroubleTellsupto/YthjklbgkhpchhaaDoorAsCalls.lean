/-
  errors.As called, at this seat: of no error, of a fault, of two errors together.
-/
import Derived.Test.YthjklbgkhpchhaaDoorAs
namespace Go.Proofs.YthjklbgkhpchhaaDoor
open Go.RowKit Go.Extern.Stop Go.Stop Go.Extern

theorem Tryd.noAsPair (v : Value) (xT : TypeId) (w : World) : (Instr.typeAssert (.iface 61 v) xT 103 true).run Tryd.prog w = .ok (.tuple #[.nilIface, .bool false]) w := run_typeAssert_lacksB Tryd.underlying103 (by kernel_rfl) (by kernel_rfl) v xT w
theorem Tryd.noUnwrapPair (v : Value) (xT : TypeId) (w : World) : (Instr.typeAssert (.iface 61 v) xT 96 true).run Tryd.prog w = .ok (.tuple #[.nilIface, .bool false]) w := run_typeAssert_lacksB Tryd.underlying96 (by kernel_rfl) (by kernel_rfl) v xT w
theorem Tryd.hasUnwrapsPair (v : Value) (xT : TypeId) (w : World) : (Instr.typeAssert (.iface 61 v) xT 98 true).run Tryd.prog w = .ok (.tuple #[.iface 61 v, .bool true]) w := run_typeAssert_hasB Tryd.underlying98 (by kernel_rfl) v xT w
theorem Tryd.methodUnwrapPair (v : Value) (w : World) : (Go.method 253 61 v "Unwrap").run Tryd.prog w = .ok (81, v) w := by kernel_rfl

/-- errors.As of no error. -/
theorem As_nil (t : Value) (w : World) : Calls Tryd.prog 29 #[.nilIface, t] w fun e w' => e = .returned (.bool false) ∧ w' = w := by
  go_enter Tryd.func29, Tryd.ntmps29
  go_wp2
  go_ret
  exact ⟨rfl, rfl⟩

/-- The variable errors.errorType holds the handle of the type error. -/
abbrev ErrT (w : World) : Prop := w.cell? ⟨0, 0, none⟩ = some (.iface 91 (.agg #[.pointer (some ⟨5, 25, none⟩)]))

/-- errors.As, if errors.as sets the target. -/
theorem As_of (x e t : Addr) (T : TypeId) (old : Value) (w : World) (hg : ErrT w) (ht0 : w.cell? t = some old) (hf0 : w.frozen? t = false)
    (has : ∀ (va : Addr) (W : World), Below w.heap.size w W → W.cell? va = some (.pointer (some t)) → W.cell? t = some old → W.frozen? t = false →
      Calls Tryd.prog 40 #[.iface T (.pointer (some x)), .iface 65 (.pointer (some t)), valP va, typF] W fun ev w' => ev = .returned (.bool true) ∧ ∃ w2, Below W.heap.size W w2 ∧ w' = w2.setCell t (.pointer (some e))) :
    Calls Tryd.prog 29 #[.iface T (.pointer (some x)), .iface 65 (.pointer (some t))] w fun ev w' => ev = .returned (.bool true) ∧ ∃ w2, Below w.heap.size w w2 ∧ w' = w2.setCell t (.pointer (some e)) := by
  have hlt : 0 < w.heap.size := lt_of_cell hg
  have hb1 : Below w.heap.size w ((w.alloc (.cells #[.pointer (some t)] 65)).alloc (.cells #[.pointer (some ⟨5, 65, none⟩), .pointer (some ⟨w.heap.size, 0, none⟩), .int .u64 150] 82)) := by go_grown
  have fP := Tryd.valueOfP
  have tP := Tryd.typeP
  have kP := Tryd.kindP
  have kF := Tryd.kindF
  have eP := Tryd.elemP
  have iF := Tryd.implementsF
  have mK := Tryd.methodKind
  have mE := Tryd.methodElem
  have mI := Tryd.methodImplements
  have hc0 : ((w.alloc (.cells #[.pointer (some t)] 65)).alloc (.cells #[.pointer (some ⟨5, 65, none⟩), .pointer (some ⟨w.heap.size, 0, none⟩), .int .u64 150] 82)).cell? ⟨w.heap.size, 0, none⟩ = some (.pointer (some t)) := by simp
  have nP := Tryd.isNilP ⟨w.heap.size, 0, none⟩ t _ hc0
  have hg1 : ((w.alloc (.cells #[.pointer (some t)] 65)).alloc (.cells #[.pointer (some ⟨5, 65, none⟩), .pointer (some ⟨w.heap.size, 0, none⟩), .int .u64 150] 82)).cell? ⟨0, 0, none⟩ = some (.iface 91 (.agg #[.pointer (some ⟨5, 25, none⟩)])) := (hb1.cell (p := ⟨0, 0, none⟩) hlt).trans hg
  have HA := has ⟨w.heap.size, 0, none⟩ _ hb1 hc0 ((hb1.cell (lt_of_cell ht0)).trans ht0) ((hb1.frozen (lt_of_cell ht0)).trans hf0)
  clear has
  go_enter Tryd.func29, Tryd.ntmps29
  go_wp2_with (first
    | (go_at_call 40; refine HA.mono ?_; rintro ev w' ⟨rfl, w2, hb2, rfl⟩)
    | (go_at_call 37; go_in) | (go_at_call 38; go_in) | (go_at_call 39; go_in) | (go_at_call 74; go_in) | (go_at_call 89; go_in) | (go_at_call 90; go_in))
  go_ret
  exact ⟨rfl, w2, hb1.trans (hb2.mono hb1.size), rfl⟩

/-- errors.As of a fault. -/
theorem As_fault (e t : Addr) (old : Value) (w : World) (hg : ErrT w) (ht0 : w.cell? t = some old) (hf0 : w.frozen? t = false) :
    Calls Tryd.prog 29 #[.iface 50 (.pointer (some e)), .iface 65 (.pointer (some t))] w fun ev w' => ev = .returned (.bool true) ∧ ∃ w2, Below w.heap.size w w2 ∧ w' = w2.setCell t (.pointer (some e)) :=
  As_of e e t 50 old w hg ht0 hf0 fun va W _ h1 h2 h3 => as_fault e t va old W h1 h2 h3

set_option maxHeartbeats 1000000 in
/-- Unwrap of two errors together: the two, in a new slice. -/
theorem unwraps_pair (b : Nat) (x y : Addr) (w : World) (h0 : w.cell? ⟨b, 0, none⟩ = some (.iface 50 (.pointer (some x)))) (h1 : w.cell? ⟨b, 1, none⟩ = some (.iface 50 (.pointer (some y)))) :
    Calls Tryd.prog 81 #[.pointer (some ⟨b, 0, none⟩)] w fun e w' => e = .returned (.slice (some ⟨w.heap.size, 0, none⟩) 2 2) ∧ w'.cell? ⟨w.heap.size, 0, none⟩ = some (.iface 50 (.pointer (some x))) ∧ w'.cell? ⟨w.heap.size, 1, none⟩ = some (.iface 50 (.pointer (some y))) ∧ Below w.heap.size w w' := by
  go_enter Tryd.func81, Tryd.ntmps81
  go_wp2
  go_region
  all_goals go_wp2
  all_goals (go_ret; exact ⟨rfl, by simp, by simp, by go_grown⟩)

set_option maxHeartbeats 1000000 in
/-- errors.as at two errors together, the first one a fault. -/
theorem as_pair (b : Nat) (x y t va : Addr) (old : Value) (w : World) (h0 : w.cell? ⟨b, 0, none⟩ = some (.iface 50 (.pointer (some x)))) (h1 : w.cell? ⟨b, 1, none⟩ = some (.iface 50 (.pointer (some y))))
    (hv : w.cell? va = some (.pointer (some t))) (ht0 : w.cell? t = some old) (hf0 : w.frozen? t = false) :
    Calls Tryd.prog 40 #[.iface 61 (.pointer (some ⟨b, 0, none⟩)), .iface 65 (.pointer (some t)), valP va, typF] w fun ev w' => ev = .returned (.bool true) ∧ ∃ w2, Below w.heap.size w w2 ∧ w' = w2.setCell t (.pointer (some x)) := by
  have hbA : Below w.heap.size w (w.alloc (.cells #[.pointer (some ⟨5, 65, none⟩), .pointer (some va), .int .u64 150] 82)) := by go_grown
  have k0 := (hbA.cell (lt_of_cell h0)).trans h0
  have k1 := (hbA.cell (lt_of_cell h1)).trans h1
  have tO := Tryd.typeOfPair
  have mA := Tryd.methodAssignableTo
  have aF := Tryd.assignablePair
  have nA := Tryd.noAsPair
  have nU := Tryd.noUnwrapPair
  have hU := Tryd.hasUnwrapsPair
  have mU := Tryd.methodUnwrapPair
  go_enter Tryd.func40, Tryd.ntmps40
  go_wp2
  refine wp_loop_rounds 1 ?_
  rw [rounds_succ]
  go_wp2_with (first | (go_at_call 81; refine (unwraps_pair b x y _ k0 k1).mono ?_; rintro ev w3 ⟨rfl, c3, d3, hb3⟩) | (go_at_call 35; go_in) | (go_at_call 87; go_in))
  have hB3 := hbA.trans (hb3.mono hbA.size)
  have g0 := hb3.cell (p := ⟨w.heap.size, 0, none⟩) (by simp)
  have g1 := hb3.cell (p := ⟨w.heap.size, 1, none⟩) (by simp)
  have g2 := hb3.cell (p := ⟨w.heap.size, 2, none⟩) (by simp)
  have hc3 : w3.cell? ⟨w.heap.size + 1, 0, none⟩ = some (.iface 50 (.pointer (some x))) := by simpa using c3
  clear c3 d3 k0 k1 mU hU nU nA aF mA tO
  refine wp_loop_rounds 1 ?_
  rw [rounds_succ]
  go_wp2_with (go_at_call 40; refine (as_fault x t va old _ ((hB3.cell (lt_of_cell hv)).trans hv) ((hB3.cell (lt_of_cell ht0)).trans ht0) ((hB3.frozen (lt_of_cell ht0)).trans hf0)).mono ?_; rintro ev w4 ⟨rfl, w5, hb5, rfl⟩)
  go_ret
  exact ⟨rfl, w5, hB3.trans (hb5.mono hB3.size), rfl⟩

/-- errors.As of two errors together, the first one a fault. -/
theorem As_pair (b : Nat) (x y t : Addr) (old : Value) (w : World) (h0 : w.cell? ⟨b, 0, none⟩ = some (.iface 50 (.pointer (some x)))) (h1 : w.cell? ⟨b, 1, none⟩ = some (.iface 50 (.pointer (some y))))
    (hg : ErrT w) (ht0 : w.cell? t = some old) (hf0 : w.frozen? t = false) :
    Calls Tryd.prog 29 #[.iface 61 (.pointer (some ⟨b, 0, none⟩)), .iface 65 (.pointer (some t))] w fun ev w' => ev = .returned (.bool true) ∧ ∃ w2, Below w.heap.size w w2 ∧ w' = w2.setCell t (.pointer (some x)) :=
  As_of ⟨b, 0, none⟩ x t 61 old w hg ht0 hf0 fun va W hb c1 c2 c3 => as_pair b x y t va old W ((hb.cell (lt_of_cell h0)).trans h0) ((hb.cell (lt_of_cell h1)).trans h1) c1 c2 c3
end Go.Proofs.YthjklbgkhpchhaaDoor
