/-
  An entry in new memory; what is wrong with a reader is kept.
-/
import Derived.Test.YtibjhjojohjokaaDoorPutE
namespace Go.Proofs.YtibjhjojohjokaaDoor
open Go.RowKit

theorem results_cell {fn : Func} {p : Tmp} {ty : TypeId} (h : fn.results = #[.cell p ty]) (tmps : Array Value) (P : Program) (w : World) :
    (results fn tmps).run P w = ((asAddr (tmps.getD p undef)).run P w).andThen fun a w₁ => (loadVar ty a).run P w₁ := by
  simp only [results, h]
  simp [Sem.run_bind, Result.andThen]
theorem results24 {fn : Func} {p : Tmp} (h : fn.results = #[.cell p 24]) (tmps : Array Value) (w : World) (b : Nat) (ht : tmps.getD p undef = .pointer (some ⟨b, 0, none⟩)) (x0 x1 x2 x3 x4 : Value) (t : TypeId) (fr : Nat × Nat)
    (hc : w.heap[b]? = some (.cells #[x0, x1, x2, x3, x4] t fr)) : (results fn tmps).run Tryd.prog w = .ok (.agg #[x0, x1, x2, x3, x4]) w := by
  rw [results_cell h, ht]
  simp only [asAddr, Sem.run_pure, Result.andThen_ok, load24 w b x0 x1 x2 x3 x4 t fr hc]

theorem heap_grownBy {w w' : World} {b g : Nat} {o : Obj} (h : w.heap[b]? = some o) (hg : w.grownBy w' (some g)) (hne : b ≠ g) : w'.heap[b]? = some o := by
  rw [hg.block b (lt_of_block h) (by simpa using hne)]; exact h
/-- Blocks of entries hold no bytes. -/
theorem nob24 {w : World} {g : Nat} {k : ByteArray} {v a e : Int} {p : Option Addr} {n cap : Nat} (h : w.heap[g]? = some (.cells #[.string k, .int .i64 v, .int .i64 a, .int .i64 e, .slice p n cap] 24 (0, 0))) : NoB w g := by
  intro off u e
  simp only [World.cell?, h] at e
  rcases off with _ | _ | _ | _ | _ | off <;> simp at e

set_option maxHeartbeats 1000000 in
set_option maxRecDepth 10000 in
theorem copy_any {w : World} {p : Option Addr} {n cap : Nat} {l : List Int} (k : ByteArray) (v a e : Int) (h : Bs w (.slice p n cap) l) (hl : l.length ≤ 20000) :
    Calls Tryd.prog 16 #[.agg #[.string k, .int .i64 v, .int .i64 a, .int .i64 e, .slice p n cap]] w fun en w' => ∃ p' c', en = .returned (.agg #[.string k, .int .i64 v, .int .i64 a, .int .i64 e, .slice p' l.length c']) ∧ Bs w' (.slice p' l.length c') l ∧ Below w.heap.size w w' := by
  go_enter Tryd.func16, Tryd.ntmps16
  go_wp2_with fail
  obtain ⟨w0, hw0⟩ : ∃ w0, w0 = (w.alloc (.cells #[.string k, .int .i64 v, .int .i64 a, .int .i64 e, .slice p n cap] 24)).alloc (.cells #[.string ⟨#[]⟩, .int .i64 0, .int .i64 0, .int .i64 0, .slice none 0 0] 24) := ⟨_, rfl⟩
  rw [← hw0]
  have hx0 : w0.heap[w.heap.size]? = some (.cells #[.string k, .int .i64 v, .int .i64 a, .int .i64 e, .slice p n cap] 24 (0, 0)) := by rw [hw0, Below.heap_alloc _ _ _ (by simp)]; exact heap_alloc_new w _
  have hy0 : w0.heap[w.heap.size + 1]? = some (.cells #[.string ⟨#[]⟩, .int .i64 0, .int .i64 0, .int .i64 0, .slice none 0 0] 24 (0, 0)) := by
    have := heap_alloc_new (w.alloc (.cells #[.string k, .int .i64 v, .int .i64 a, .int .i64 e, .slice p n cap] 24)) (.cells #[.string ⟨#[]⟩, .int .i64 0, .int .i64 0, .int .i64 0, .slice none 0 0] 24)
    rw [show (w.alloc (.cells #[.string k, .int .i64 v, .int .i64 a, .int .i64 e, .slice p n cap] 24)).heap.size = w.heap.size + 1 by simp] at this
    rw [hw0]
    exact this
  have B0 : Below w.heap.size w w0 := by rw [hw0]; go_grown
  clear hw0
  obtain ⟨b, hs⟩ := h.stays B0
  refine (clone_any hs hl).mono ?_
  rintro en w1 ⟨b1, p1, c1, rfl, hb1, hs1, B1⟩
  have hx1 := heap_stays hx0 B1
  have hy1 := heap_stays hy0 B1
  obtain ⟨⟨q0, q1, q2, q3, q4⟩, qf⟩ := five24 hx1
  have hlt1 := lt_of_block hx1
  have HS := hid2 (show Bs w1 _ _ from ⟨b1, hs1⟩)
  clear hs1 hs h
  have hst := heap_setCell_same w1 w.heap.size 4 _ 24 (.slice p1 l.length c1) hx1
  have hgst := setCell_grownBy w1 w.heap.size 4 (.slice p1 l.length c1)
  have HS2 := hid2 ((BK.grown hgst (nob24 hx1)) _ _ HS.out)
  have hy2 := heap_grownBy hy1 hgst (by omega)
  have B2 := hid2 ((B0.trans (B1.mono B0.size)).grown hgst (Nat.le_trans B0.size B1.size) (fun k hk => by cases hk; exact Nat.le_refl _))
  have hx2 : (w1.setCell ⟨w.heap.size, 4, none⟩ (.slice p1 l.length c1)).heap[w.heap.size]? = some (.cells #[.string k, .int .i64 v, .int .i64 a, .int .i64 e, .slice p1 l.length c1] 24 (0, 0)) := by rw [hst]; rfl
  obtain ⟨⟨r0, r1, r2, r3, r4⟩, rf⟩ := five24 hx2
  clear hst hgst
  go_wp2_with (refine st24 rfl (.tmp 2) (.tmp 7) rfl (w.heap.size + 1) rfl _ _ _ _ _ _ hy2 rfl rfl ⟨rfl, rfl, rfl, rfl, rfl⟩ ?_; intro wz hwz hgz)
  refine bodyPost_ret (v := .agg #[.string k, .int .i64 v, .int .i64 a, .int .i64 e, .slice p1 l.length c1]) ?_ rfl ⟨_, _, rfl, ?_, ?_⟩
  · exact results24 Tryd.results16 _ _ (w.heap.size + 1) rfl _ _ _ _ _ 24 (0, 0) hwz
  · exact (BK.grown hgz (nob24 hy2)) _ _ HS2.out
  · exact B2.out.grown hgz B2.out.size (fun k hk => by cases hk; omega)

set_option maxHeartbeats 1000000 in
theorem fail_any {w : World} {g : Nat} {bs : List Int} {a : Nat} {code : Int} (c : Int) (h : Rd w g bs a code) :
    Calls Tryd.prog 51 #[.pointer (some ⟨g, 0, none⟩), .int .i64 c] w fun e w' => e = .returned (.tuple #[]) ∧ Rd w' g bs a (if code = 0 then c else code) ∧ w.grownBy w' (some g) := by
  have h' := h
  obtain ⟨sv, b, h1, h2, h3, h4⟩ := h
  obtain ⟨c0, c1, c2, f1, f2⟩ := cells60 h1
  by_cases hz : code = 0
  · subst hz
    rw [if_pos rfl]
    clear h1 h2
    go_enter Tryd.func51, Tryd.ntmps51
    go_wp2
    go_end0
    exact ⟨rfl, h'.setCode c, setCell_grownBy _ _ _ _⟩
  · rw [if_neg hz]
    have hd : (code == 0) = false := by simpa using hz
    clear h1 h2 hz
    go_enter Tryd.func51, Tryd.ntmps51
    go_wp2
    go_end0
    exact ⟨rfl, h', ⟨rfl, rfl, rfl, Nat.le_refl _, fun _ _ _ => rfl⟩⟩
end Go.Proofs.YtibjhjojohjokaaDoor
