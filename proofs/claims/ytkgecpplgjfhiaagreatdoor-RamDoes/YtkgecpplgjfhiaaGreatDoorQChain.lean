/-
  Chain, last, Of, Where at this seat.
-/
import Derived.Test.YtkgecpplgjfhiaaGreatDoorQAs
import Derived.WalkSpells
import Derived.WalkLawsBesides
import Derived.Deep.DeepFit
import Derived.Handy
import Derived.Deep.LoopGhost
namespace Go.Proofs.YtkgecpplgjfhiaaGreatDoor
open Go.RowKit Go.Extern.Stop Go.Stop Go.Extern

/-- errors.As of no error. -/
theorem As_nil (t : Value) (w : World) : Calls Tryz.prog 99 #[.nilIface, t] w fun e w' => e = .returned (.bool false) ∧ w' = w := by
  go_enter Tryz.func99, Tryz.ntmps99
  go_wp2
  go_ret
  exact ⟨rfl, rfl⟩

/-- The variable errors.errorType holds the handle of the type error. -/
abbrev ErrT (w : World) : Prop := w.cell? ⟨0, 0, none⟩ = some (.iface 160 (.agg #[.pointer (some ⟨1, 32, none⟩)]))

set_option maxHeartbeats 2000000 in
/-- errors.As, if errors.as sets the target. -/
theorem As_of (x e t : Addr) (T : TypeId) (old : Value) (w : World) (hg : ErrT w) (ht0 : w.cell? t = some old) (hf0 : w.frozen? t = false)
    (has : ∀ (va : Addr) (W : World), Below w.heap.size w W → W.cell? va = some (.pointer (some t)) → W.cell? t = some old → W.frozen? t = false →
      Calls Tryz.prog 106 #[.iface T (.pointer (some x)), .iface 144 (.pointer (some t)), valP va, typF] W fun ev w' => ev = .returned (.bool true) ∧ ∃ w2, Below W.heap.size W w2 ∧ w' = w2.setCell t (.pointer (some e))) :
    Calls Tryz.prog 99 #[.iface T (.pointer (some x)), .iface 144 (.pointer (some t))] w fun ev w' => ev = .returned (.bool true) ∧ ∃ w2, Below w.heap.size w w2 ∧ w' = w2.setCell t (.pointer (some e)) := by
  have hlt : 0 < w.heap.size := lt_of_cell hg
  have hb1 : Below w.heap.size w ((w.alloc (.cells #[.pointer (some t)] 144)).alloc (.cells #[.pointer (some ⟨1, 144, none⟩), .pointer (some ⟨w.heap.size, 0, none⟩), .int .u64 150] 150)) := by go_grown
  have fP := Tryz.valueOfP
  have tP := Tryz.typeP
  have kP := Tryz.kindP
  have kF := Tryz.kindF
  have eP := Tryz.elemP
  have iF := Tryz.implementsF
  have mK := Tryz.methodKind
  have mE := Tryz.methodElem
  have mI := Tryz.methodImplements
  have hc0 : ((w.alloc (.cells #[.pointer (some t)] 144)).alloc (.cells #[.pointer (some ⟨1, 144, none⟩), .pointer (some ⟨w.heap.size, 0, none⟩), .int .u64 150] 150)).cell? ⟨w.heap.size, 0, none⟩ = some (.pointer (some t)) := by simp
  have nP := Tryz.isNilP ⟨w.heap.size, 0, none⟩ t _ hc0
  have hg1 : ((w.alloc (.cells #[.pointer (some t)] 144)).alloc (.cells #[.pointer (some ⟨1, 144, none⟩), .pointer (some ⟨w.heap.size, 0, none⟩), .int .u64 150] 150)).cell? ⟨0, 0, none⟩ = some (.iface 160 (.agg #[.pointer (some ⟨1, 32, none⟩)])) := (hb1.cell (p := ⟨0, 0, none⟩) hlt).trans hg
  have HA := has ⟨w.heap.size, 0, none⟩ _ hb1 hc0 ((hb1.cell (lt_of_cell ht0)).trans ht0) ((hb1.frozen (lt_of_cell ht0)).trans hf0)
  clear has
  go_enter Tryz.func99, Tryz.ntmps99
  go_wp2_with (first
    | (go_at_call 106; refine HA.mono ?_; rintro ev w' ⟨rfl, w2, hb2, rfl⟩)
    | (go_at_call 103; go_in) | (go_at_call 104; go_in) | (go_at_call 105; go_in) | (go_at_call 125; go_in) | (go_at_call 138; go_in) | (go_at_call 139; go_in))
  go_ret
  exact ⟨rfl, w2, hb1.trans (hb2.mono hb1.size), rfl⟩

/-- errors.As of a fault. -/
theorem As_fault (e t : Addr) (old : Value) (w : World) (hg : ErrT w) (ht0 : w.cell? t = some old) (hf0 : w.frozen? t = false) :
    Calls Tryz.prog 99 #[.iface 107 (.pointer (some e)), .iface 144 (.pointer (some t))] w fun ev w' => ev = .returned (.bool true) ∧ ∃ w2, Below w.heap.size w w2 ∧ w' = w2.setCell t (.pointer (some e)) :=
  As_of e e t 107 old w hg ht0 hf0 fun va W _ h1 h2 h3 => as_fault e t va old W h1 h2 h3

end Go.Proofs.YtkgecpplgjfhiaaGreatDoor

namespace Go.Proofs.YtkgecpplgjfhiaaGreatDoor
open Go.RowKit Go.Extern.Stop Go.Stop Go.Extern

theorem new_zero (op : ByteArray) (at_ : Int) (w : World) :
    Calls Tryz.prog 33 #[.string op, .int .i64 at_, .int .i64 0] w fun e w' => e = .returned .nilIface ∧ w' = w := by
  go_enter Tryz.func33, Tryz.ntmps33
  go_wp2
  go_ret
  exact ⟨rfl, rfl⟩

theorem new_some (op : ByteArray) (at_ code : Int) (w : World) (hc : (code == 0) = false) :
    Calls Tryz.prog 33 #[.string op, .int .i64 at_, .int .i64 code] w fun e w' => e = .returned (.iface 107 (.pointer (some ⟨w.heap.size, 0, none⟩))) ∧ w' = w.alloc (.cells #[.string op, .int .i64 at_, .int .i64 code, .nilIface] 109) := by
  go_enter Tryz.func33, Tryz.ntmps33
  go_wp2
  go_ret
  exact ⟨rfl, rfl⟩

/-- A link: what was done, at what, and the code. -/
abbrev Lnk := ByteArray × Int × Int

/-- A value is, in w's memory, the fault that has these links, the outermost first. -/
def LkL (w : World) : List Lnk → Value → Prop
  | [], v => v = .nilIface
  | (op, a, c) :: rest, v => ∃ b u, v = .iface 107 (.pointer (some ⟨b, 0, none⟩)) ∧ w.heap[b]? = some (.cells #[.string op, .int .i64 a, .int .i64 c, u] 109 (0, 0)) ∧ LkL w rest u
/-- The same, the value first. -/
def Lk (w : World) (v : Value) (ls : List Lnk) : Prop := LkL w ls v

theorem Lk.nil (w : World) : Lk w .nilIface [] := rfl
theorem Lk.cons {w : World} (b : Nat) (op : ByteArray) (a c : Int) (u : Value) (rest : List Lnk)
    (hh : w.heap[b]? = some (.cells #[.string op, .int .i64 a, .int .i64 c, u] 109 (0, 0))) (hu : Lk w u rest) : Lk w (.iface 107 (.pointer (some ⟨b, 0, none⟩))) ((op, a, c) :: rest) := ⟨b, u, rfl, hh, hu⟩
theorem Lk.inv {w : World} {v : Value} {ls : List Lnk} (h : Lk w v ls) : (v = .nilIface ∧ ls = []) ∨ ∃ b op a c u rest, v = .iface 107 (.pointer (some ⟨b, 0, none⟩)) ∧ ls = (op, a, c) :: rest ∧
    w.heap[b]? = some (.cells #[.string op, .int .i64 a, .int .i64 c, u] 109 (0, 0)) ∧ Lk w u rest := by
  cases ls with
  | nil => exact .inl ⟨h, rfl⟩
  | cons l r =>
    obtain ⟨op, a, c⟩ := l
    obtain ⟨b, u, h1, h2, h3⟩ := h
    exact .inr ⟨b, op, a, c, u, r, h1, rfl, h2, h3⟩

theorem heap_stays {w w' : World} {b : Nat} {o : Obj} (h : w.heap[b]? = some o) (hb : Below w.heap.size w w') : w'.heap[b]? = some o := by
  rw [hb.block b (Array.getElem?_eq_some_iff.1 h).1]; exact h

theorem Lk.stays {w w' : World} {v : Value} {ls : List Lnk} (h : Lk w v ls) (hb : Below w.heap.size w w') : Lk w' v ls := by
  induction ls generalizing v with
  | nil => exact h
  | cons l r ih =>
    obtain ⟨op, a, c⟩ := l
    obtain ⟨b, u, h1, h2, h3⟩ := h
    exact ⟨b, u, h1, heap_stays h2 hb, ih h3⟩

/-- A fault's pointer, with its links. -/
def Fp (w : World) (f : Value) (ls : List Lnk) : Prop :=
  (f = .pointer none ∧ ls = []) ∨ ∃ b op a c u r, f = .pointer (some ⟨b, 0, none⟩) ∧ ls = (op, a, c) :: r ∧ w.heap[b]? = some (.cells #[.string op, .int .i64 a, .int .i64 c, u] 109 (0, 0)) ∧ Lk w u r

/-- The pointer in an error. -/
def fptr : Value → Value
  | .iface _ p => p
  | _ => .pointer none
theorem Lk.fp {w : World} {v : Value} {ls : List Lnk} (h : Lk w v ls) : Fp w (fptr v) ls := by
  rcases h.inv with ⟨rfl, rfl⟩ | ⟨b, op, a, c, u, rest, rfl, rfl, hh, hu⟩
  · exact .inl ⟨rfl, rfl⟩
  · exact .inr ⟨b, op, a, c, u, rest, rfl, rfl, hh, hu⟩

/-- The cells of links, one behind the other. -/
def cellsOf : List Lnk → List Value
  | [] => []
  | (op, a, c) :: r => .string op :: .int .i64 a :: .int .i64 c :: cellsOf r

theorem cellsOf_append (x y : List Lnk) : cellsOf (x ++ y) = cellsOf x ++ cellsOf y := by
  induction x with
  | nil => rfl
  | cons l r ih => obtain ⟨op, a, c⟩ := l; simp [cellsOf, ih]

theorem cellsOf_length (x : List Lnk) : (cellsOf x).length = x.length * 3 := by
  induction x with
  | nil => rfl
  | cons l r ih => obtain ⟨op, a, c⟩ := l; simp [cellsOf, ih]; omega

theorem ErrT.below {w w' : World} (hg : ErrT w) (hb : Below w.heap.size w w') : ErrT w' := by
  unfold ErrT; rw [hb.cell (p := ⟨0, 0, none⟩) (lt_of_cell hg)]; exact hg

theorem find_nil (w : World) :
    Calls Tryz.prog 89 #[.nilIface] w fun e w' => e = .returned (.pointer none) ∧ Below w.heap.size w w' := by
  go_enter Tryz.func89, Tryz.ntmps89
  go_wp2_with (go_at_call 99; refine (As_nil _ _).mono ?_; rintro e w' ⟨rfl, rfl⟩)
  go_ret
  exact ⟨rfl, by go_grown⟩

theorem find_of (v : Value) (p : Addr) (w : World)
    (has : Calls Tryz.prog 99 #[v, .iface 144 (.pointer (some ⟨w.heap.size, 0, none⟩))] (w.alloc (.cells #[.pointer none] 107)) fun ev w' => ev = .returned (.bool true) ∧ ∃ w2, Below (w.alloc (.cells #[.pointer none] 107)).heap.size (w.alloc (.cells #[.pointer none] 107)) w2 ∧ w' = w2.setCell ⟨w.heap.size, 0, none⟩ (.pointer (some p))) :
    Calls Tryz.prog 89 #[v] w fun e w' => e = .returned (.pointer (some p)) ∧ Below w.heap.size w w' := by
  go_enter Tryz.func89, Tryz.ntmps89
  go_wp2_with (go_at_call 99; refine has.mono ?_; rintro e w' ⟨rfl, w2, hb2, rfl⟩; have hc2 := hb2.cell (p := ⟨w.heap.size, 0, none⟩) (by simp))
  go_ret
  have h1 : Below w.heap.size w w2 := Below.trans (by go_grown) (hb2.mono (by simp))
  exact ⟨rfl, h1.setCell (Nat.le_refl _) _⟩

theorem find_lk {w : World} {v : Value} {ls : List Lnk} (hg : ErrT w) (h : Lk w v ls) :
    Calls Tryz.prog 89 #[v] w fun e w' => e = .returned (fptr v) ∧ Below w.heap.size w w' := by
  have hb : Below w.heap.size w (w.alloc (.cells #[.pointer none] 107)) := by go_grown
  rcases h.inv with ⟨rfl, rfl⟩ | ⟨b, op, a, c, u, rest, rfl, rfl, hh, hu⟩
  · exact find_nil w
  · exact find_of _ ⟨b, 0, none⟩ w (As_fault _ _ (.pointer none) _ (hg.below hb) (by simp) (by simp))

end Go.Proofs.YtkgecpplgjfhiaaGreatDoor

namespace Go.Proofs.YtkgecpplgjfhiaaGreatDoor
open Go.RowKit Go.Extern.Stop Go.Stop Go.Extern

theorem Tryz.info67m : (Tryz.prog.info? 83).map (fun i => (i.zero, i.size, i.bytes)) = some (some (.agg #[.string ByteArray.empty, .int .i64 0, .int .i64 0]), 3, 32) := by kernel_rfl
theorem Tryz.info83 : ∃ i, Tryz.prog.info? 83 = some i ∧ i.zero = some (.agg #[.string ByteArray.empty, .int .i64 0, .int .i64 0]) ∧ i.size = 3 ∧ i.bytes = 32 := by
  obtain ⟨i, h1, h2⟩ := Option.map_eq_some_iff.1 Tryz.info67m
  simp only [Prod.mk.injEq] at h2
  exact ⟨i, h1, h2.1, h2.2.1, h2.2.2⟩

/-- The cells of a fault's block. -/
theorem cells92 {w w' : World} {b : Nat} {x0 x1 x2 x3 : Value} (hh : w.heap[b]? = some (.cells #[x0, x1, x2, x3] 109 (0, 0))) (hb : Below w.heap.size w w') :
    w'.cell? ⟨b, 0, none⟩ = some x0 ∧ w'.cell? ⟨b, 1, none⟩ = some x1 ∧ w'.cell? ⟨b, 2, none⟩ = some x2 ∧ w'.cell? ⟨b, 3, none⟩ = some x3 := by
  have h' : w'.heap[b]? = some (.cells #[x0, x1, x2, x3] 109 (0, 0)) := by rw [hb.block b (Array.getElem?_eq_some_iff.1 hh).1]; exact hh
  refine ⟨?_, ?_, ?_, ?_⟩ <;> simp [World.cell?, h']

theorem cell_three_new (w : World) (x y z : Value) (e : TypeId) : ∀ j u, [x, y, z][j]? = some u → (w.alloc (.cells #[x, y, z] e)).cell? ((⟨w.heap.size, 0, none⟩ : Addr).add j) = some u := by
  intro j u hu
  rcases j with _ | _ | _ | j <;> simp_all [Addr.add]

theorem own_below {w w' : World} {B : Nat} {e : TypeId} {size : Nat} {v : Value} {n : Nat} {xs : List Value} (h : w.ownsRow B e size v n xs) (hb : Below w.heap.size w w') : w'.ownsRow B e size v n xs :=
  h.kept (row := none) ⟨hb.os, hb.tape, hb.output, hb.size, fun k hk _ => hb.block k hk⟩ (by cases v.ownBlock <;> simp)

set_option maxHeartbeats 1000000 in
set_option maxRecDepth 10000 in
theorem chain_any {w : World} {v : Value} {ls : List Lnk} (hg : ErrT w) (h : Lk w v ls) (hlen : ls.length ≤ 1000) :
    Calls Tryz.prog 68 #[v] w fun e w' => ∃ sv, e = .returned sv ∧ w'.ownsRow w.heap.size 83 3 sv ls.length (cellsOf ls) ∧ Below w.heap.size w w' := by
  obtain ⟨i0, hi, hz0, hz1, hz2⟩ := Tryz.info83
  go_enter Tryz.func68, Tryz.ntmps68
  go_wp2_with (go_at_call 89; refine (find_lk hg h).mono ?_; rintro e w1 ⟨rfl, hb1⟩; have hfp := h.fp)
  go_loopg [3, 4] ls.length (fun k s f wr => ∃ dn rest, ls = dn ++ rest ∧ k = rest.length ∧ Fp w f rest ∧ wr.ownsRow w.heap.size 83 3 s dn.length (cellsOf dn) ∧ Below w.heap.size w wr)
  case atStart => exact ⟨[], ls, rfl, rfl, hfp, World.ownsRow_nil _ _ _ _, hb1⟩
  case round =>
    clear hfp hb1
    obtain ⟨dn, rest, hls, hk, hf, hown, hbr⟩ := hrel
    rcases hf with ⟨rfl, rfl⟩ | ⟨b, op, a, c, u, rest, rfl, rfl, hh, hu⟩
    · have A : Hid (ls = dn ++ []) := hls
      clear hls hk h hlen
      go_wp2
      go_ret
      have e := A.out
      simp only [List.append_nil] at e
      subst e
      exact ⟨_, rfl, hown, hbr⟩
    · obtain ⟨c0, c1, c2, c3⟩ := cells92 hh hbr
      have hl2 : dn.length + rest.length + 1 ≤ 1000 := by rw [hls] at hlen; simp at hlen; omega
      have hsz := hbr.size
      have A : Hid (ls = dn ++ (op, a, c) :: rest ∧ gk = ((op, a, c) :: rest).length) := ⟨hls, hk⟩
      clear hls hk h hlen
      have hO : (wr.alloc (.cells #[.string op, .int .i64 a, .int .i64 c] 83)).ownsRow w.heap.size 83 3 u3 dn.length (cellsOf dn) := hown.alloc _
      have hB1 : Below w.heap.size w (wr.alloc (.cells #[.string op, .int .i64 a, .int .i64 c] 83)) := hbr.alloc hsz _
      clear hbr hown
      go_wp2_with (first
        | (at_builtin; refine wpList_append_own _ rfl (.tmp 14) (.tmp 19) 122 rfl w.heap.size 83 i0 (.agg #[.string ByteArray.empty, .int .i64 0, .int .i64 0]) 3 32 Tryz.underlying122 hi hz0 hz1 hz2 rfl (by decide) _ _ _ rfl hO ⟨wr.heap.size, 0, none⟩ 1 1 [.string op, .int .i64 a, .int .i64 c] rfl rfl (cell_three_new _ _ _ _ _) (by intro x hx; simp at hx; rcases hx with rfl | rfl | rfl <;> rfl) (by unfold maxLen; omega) (by omega) hB1.size ?_; intro v3 w3 hown3 hgrow3 hnil3; have hB3 := hB1.grown hgrow3 hB1.size (fun k hk => (hO.lt k hk).1); have hcc := (cells92 hh hB3).2.2.2)
        | (go_at_call 89; refine (find_lk (hg.below hB3) (hu.stays hB3)).mono ?_; rintro e w4 ⟨rfl, hb4⟩))
      go_roundg rest.length
      case measure => rw [A.out.2]; simp
      case rel => 
        refine ⟨dn ++ [(op, a, c)], rest, ?_, rfl, hu.fp, ?_, hB3.trans (hb4.mono hB3.size)⟩
        · rw [A.out.1]; simp
        · have h5 := own_below hown3 hb4
          rw [cellsOf_append, List.length_append]
          exact h5

end Go.Proofs.YtkgecpplgjfhiaaGreatDoor
