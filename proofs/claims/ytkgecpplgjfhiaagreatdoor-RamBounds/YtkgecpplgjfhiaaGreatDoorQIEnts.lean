/-
  Rows of entries in memory.
-/
import Derived.Test.YtkgecpplgjfhiaaGreatDoorQIRowP
namespace Go.Proofs.YtkgecpplgjfhiaaGreatDoor.Ite
open Go.RowKit

/-- What a slice is, by letters alone. -/
theorem SlAt.some3 {w : World} {b : Nat} {v : Value} {xs : List Value} (h : SlAt w b v xs) : ∃ p n cap, v = .slice p n cap := by
  obtain ⟨p, cap, e, _⟩ := h.form
  exact ⟨p, _, cap, e⟩

set_option maxHeartbeats 1000000 in
set_option maxRecDepth 10000 in
theorem rputE_any {w : World} {bb : Nat} {pb p : Option Addr} {nb cb n cap : Nat} {bs l : List Int} (k : ByteArray) (v a e : Int) (hk : k.size ≤ 1000) (hl : l.length ≤ 5000) (hv : 0 ≤ v ∧ v ≤ 1099511627776) (ha : 0 ≤ a ∧ a ≤ 1099511627776) (he : 0 ≤ e ∧ e ≤ 1099511627776) (hbs : bs.length ≤ 18000) (g : SlAt w bb (.slice pb nb cb) (U bs)) (h : Bs w (.slice p n cap) l) :
    Calls Tryz.prog 83 #[.slice pb nb cb, .agg #[.string k, .int .i64 v, .int .i64 a, .int .i64 e, .slice p n cap]] w fun en w' => ∃ sv, en = .returned sv ∧ w'.ownsRow w.heap.size 5 1 sv (bs ++ rowP k v a e l).length (U (bs ++ rowP k v a e l)) ∧ Below w.heap.size w w' := by
  have hN := hid2 (nat63_3 hv ha he)
  have hkl : (kb k).length ≤ 1000 := by rw [kb_length]; omega
  have hT := textB_le (kb k)
  have hP := puts3_le v a e
  go_enter Tryz.func83, Tryz.ntmps83
  go_wp2_with fail
  obtain ⟨w0, hw0⟩ : ∃ w0, w0 = w.alloc (.cells #[.string k, .int .i64 v, .int .i64 a, .int .i64 e, .slice p n cap] 25) := ⟨_, rfl⟩
  rw [← hw0]
  have hx0 : w0.heap[w.heap.size]? = some (.cells #[.string k, .int .i64 v, .int .i64 a, .int .i64 e, .slice p n cap] 25 (0, 0)) := by rw [hw0]; exact heap_alloc_new w _
  have B0 : Below w.heap.size w w0 := by rw [hw0]; go_grown
  clear hw0
  obtain ⟨pk, ck, w1, hrun, hbs1, B1⟩ := conv_bytes w0 k (by unfold maxLen; omega)
  rw [hrun]
  clear hrun
  have hx1 := heap_stays hx0 B1
  obtain ⟨⟨q0, q1, q2, q3, q4⟩, _⟩ := five24 hx1
  obtain ⟨b1, hs1⟩ := hbs1
  have g1 := (g.stays B0).stays B1
  go_wp2_with fail
  refine (rbytes_any g1 hs1 (by omega) (by omega)).mono ?_
  rintro en w2 ⟨sv2, rfl, hown2, B2⟩
  have hx2 := heap_stays hx1 B2
  clear q0 q1 q2 q3 q4
  obtain ⟨⟨q0, q1, q2, q3, q4⟩, _⟩ := five24 hx2
  have e2 : bs ++ dg (kb k).length (lenN (kb k).length) ++ kb k = bs ++ textB (kb k) := by simp [textB]
  rw [e2] at hown2
  obtain ⟨b2, hb2, hs2⟩ := own_sl hown2
  clear hown2 e2
  obtain ⟨p2, n2, c2, hf2⟩ := hs2.some3
  subst hf2
  have hlt2 := lt_of_block hx2
  go_wp2_with fail
  have B2a : Below w2.heap.size w2 (w2.alloc (.cells #[.int .i64 v, .int .i64 a, .int .i64 e] 3)) := by go_grown
  refine (rput_any (hs2.stays B2a) (sl_int3 w2 v a e) hN.out (by simp) (by rw [List.length_append]; omega)).mono ?_
  rintro en w3 ⟨sv3, rfl, hown3, B3⟩
  have B3' : Below w2.heap.size w2 w3 := B2a.trans (B3.mono B2a.size)
  have hx3 := heap_stays hx2 B3'
  clear q0 q1 q2 q3 q4
  obtain ⟨⟨q0, q1, q2, q3, q4⟩, _⟩ := five24 hx3
  obtain ⟨b3, hb3, hs3⟩ := own_sl hown3
  clear hown3
  obtain ⟨p3, n3, c3, hf3⟩ := hs3.some3
  subst hf3
  have B03 : Below w.heap.size w w3 := ((B0.trans (B1.mono B0.size)).trans (B2.mono (Nat.le_trans B0.size B1.size))).trans (B3'.mono (Nat.le_trans B0.size (Nat.le_trans B1.size B2.size)))
  obtain ⟨bl, hsl⟩ := h.stays (B03.mono (Nat.le_refl _))
  go_wp2_with fail
  refine (rbytes_any hs3 hsl (by omega) (by rw [List.length_append, List.length_append]; omega)).mono ?_
  rintro en w4 ⟨sv4, rfl, hown4, B4⟩
  go_wp2
  go_ret
  have e4 : bs ++ textB (kb k) ++ puts [v, a, e] ++ dg l.length (lenN l.length) ++ l = bs ++ rowP k v a e l := by simp [rowP, textB]
  rw [e4] at hown4
  have e5 : (bs ++ textB (kb k) ++ puts [v, a, e]).length + lenN l.length + l.length = (bs ++ rowP k v a e l).length := by simp [rowP, textB_length]; omega
  rw [e5] at hown4
  exact ⟨_, rfl, own_lower hown4 B03.size, B03.trans (B4.mono B03.size)⟩

set_option maxHeartbeats 1000000 in
set_option maxRecDepth 10000 in
theorem rsizeE_any {w : World} {p : Option Addr} {n cap : Nat} {l : List Int} (k : ByteArray) (v a e : Int) (hk : k.size ≤ 1000) (hl : l.length ≤ 5000) (hv : 0 ≤ v ∧ v ≤ 1099511627776) (ha : 0 ≤ a ∧ a ≤ 1099511627776) (he : 0 ≤ e ∧ e ≤ 1099511627776) (h : Bs w (.slice p n cap) l) :
    Calls Tryz.prog 61 #[.agg #[.string k, .int .i64 v, .int .i64 a, .int .i64 e, .slice p n cap]] w fun en w' => en = .returned (.int .i64 ((sizeP k.size v a e l.length : Nat) : Int)) ∧ Below w.heap.size w w' := by
  have B0 : Below w.heap.size w (w.alloc (.cells #[.string k, .int .i64 v, .int .i64 a, .int .i64 e, .slice p n cap] 25)) := by go_grown
  have HP := hid2 (rputE_any (bs := []) k v a e hk hl hv ha he (by simp) (SlAt.nil _ 0) (h.stays B0))
  have H0 := hid2 B0
  clear B0 h
  go_enter Tryz.func61, Tryz.ntmps61
  go_wp2_with fail
  refine (show Calls _ _ _ _ _ from HP).mono ?_
  rintro en w1 ⟨sv, rfl, hown, hb⟩
  obtain ⟨p1, c1, rfl⟩ := own_len hown
  go_wp2
  go_ret
  refine ⟨ret_int ?_, H0.out.trans (hb.mono H0.out.size)⟩
  rw [rowP_len]

end Go.Proofs.YtkgecpplgjfhiaaGreatDoor.Ite

namespace Go.Proofs.YtkgecpplgjfhiaaGreatDoor.Ite
open Go.RowKit

theorem results_cell {fn : Func} {p : Tmp} {ty : TypeId} (h : fn.results = #[.cell p ty]) (tmps : Array Value) (P : Program) (w : World) :
    (results fn tmps).run P w = ((asAddr (tmps.getD p undef)).run P w).andThen fun a w₁ => (loadVar ty a).run P w₁ := by
  simp only [results, h]
  simp [Sem.run_bind, Result.andThen]
theorem results24 {fn : Func} {p : Tmp} (h : fn.results = #[.cell p 25]) (tmps : Array Value) (w : World) (b : Nat) (ht : tmps.getD p undef = .pointer (some ⟨b, 0, none⟩)) (x0 x1 x2 x3 x4 : Value) (t : TypeId) (fr : Nat × Nat)
    (hc : w.heap[b]? = some (.cells #[x0, x1, x2, x3, x4] t fr)) : (results fn tmps).run Tryz.prog w = .ok (.agg #[x0, x1, x2, x3, x4]) w := by
  rw [results_cell h, ht]
  simp only [asAddr, Sem.run_pure, Result.andThen_ok, load24 w b x0 x1 x2 x3 x4 t fr hc]

theorem heap_grownBy {w w' : World} {b g : Nat} {o : Obj} (h : w.heap[b]? = some o) (hg : w.grownBy w' (some g)) (hne : b ≠ g) : w'.heap[b]? = some o := by
  rw [hg.block b (lt_of_block h) (by simpa using hne)]; exact h
/-- Blocks of entries hold no bytes. -/
theorem nob24 {w : World} {g : Nat} {k : ByteArray} {v a e : Int} {p : Option Addr} {n cap : Nat} (h : w.heap[g]? = some (.cells #[.string k, .int .i64 v, .int .i64 a, .int .i64 e, .slice p n cap] 25 (0, 0))) : NoB w g := by
  intro off u e
  simp only [World.cell?, h] at e
  rcases off with _ | _ | _ | _ | _ | off <;> simp at e

set_option maxHeartbeats 1000000 in
set_option maxRecDepth 10000 in
theorem copy_any {w : World} {p : Option Addr} {n cap : Nat} {l : List Int} (k : ByteArray) (v a e : Int) (h : Bs w (.slice p n cap) l) (hl : l.length ≤ 20000) :
    Calls Tryz.prog 50 #[.agg #[.string k, .int .i64 v, .int .i64 a, .int .i64 e, .slice p n cap]] w fun en w' => ∃ p' c', en = .returned (.agg #[.string k, .int .i64 v, .int .i64 a, .int .i64 e, .slice p' l.length c']) ∧ Bs5 w' (.slice p' l.length c') l ∧ Below w.heap.size w w' := by
  go_enter Tryz.func50, Tryz.ntmps50
  go_wp2_with fail
  obtain ⟨w0, hw0⟩ : ∃ w0, w0 = (w.alloc (.cells #[.string k, .int .i64 v, .int .i64 a, .int .i64 e, .slice p n cap] 25)).alloc (.cells #[.string ⟨#[]⟩, .int .i64 0, .int .i64 0, .int .i64 0, .slice none 0 0] 25) := ⟨_, rfl⟩
  rw [← hw0]
  have hx0 : w0.heap[w.heap.size]? = some (.cells #[.string k, .int .i64 v, .int .i64 a, .int .i64 e, .slice p n cap] 25 (0, 0)) := by rw [hw0, Below.heap_alloc _ _ _ (by simp)]; exact heap_alloc_new w _
  have hy0 : w0.heap[w.heap.size + 1]? = some (.cells #[.string ⟨#[]⟩, .int .i64 0, .int .i64 0, .int .i64 0, .slice none 0 0] 25 (0, 0)) := by
    have := heap_alloc_new (w.alloc (.cells #[.string k, .int .i64 v, .int .i64 a, .int .i64 e, .slice p n cap] 25)) (.cells #[.string ⟨#[]⟩, .int .i64 0, .int .i64 0, .int .i64 0, .slice none 0 0] 25)
    rw [show (w.alloc (.cells #[.string k, .int .i64 v, .int .i64 a, .int .i64 e, .slice p n cap] 25)).heap.size = w.heap.size + 1 by simp] at this
    rw [hw0]
    exact this
  have B0 : Below w.heap.size w w0 := by rw [hw0]; go_grown
  clear hw0
  obtain ⟨b, hs⟩ := h.stays B0
  refine (clone_any hs hl).mono ?_
  rintro en w1 ⟨b1, p1, c1, rfl, hb1, hs1, ht1, B1⟩
  have hx1 := heap_stays hx0 B1
  have hy1 := heap_stays hy0 B1
  obtain ⟨⟨q0, q1, q2, q3, q4⟩, qf⟩ := five24 hx1
  have hlt1 := lt_of_block hx1
  have HS := hid2 (show Bs5 w1 _ _ from ⟨b1, hs1, ht1⟩)
  clear hs1 ht1 hs h
  have hst := heap_setCell_same w1 w.heap.size 4 _ 25 (.slice p1 l.length c1) hx1
  have hgst := setCell_grownBy w1 w.heap.size 4 (.slice p1 l.length c1)
  have HS2 := hid2 (Bs5.grown HS.out hgst hx1 (by decide))
  have hy2 := heap_grownBy hy1 hgst (by omega)
  have B2 := hid2 ((B0.trans (B1.mono B0.size)).grown hgst (Nat.le_trans B0.size B1.size) (fun k hk => by cases hk; exact Nat.le_refl _))
  have hx2 : (w1.setCell ⟨w.heap.size, 4, none⟩ (.slice p1 l.length c1)).heap[w.heap.size]? = some (.cells #[.string k, .int .i64 v, .int .i64 a, .int .i64 e, .slice p1 l.length c1] 25 (0, 0)) := by rw [hst]; rfl
  obtain ⟨⟨r0, r1, r2, r3, r4⟩, rf⟩ := five24 hx2
  clear hst hgst
  go_wp2_with (refine st24 rfl (.tmp 2) (.tmp 7) rfl (w.heap.size + 1) rfl _ _ _ _ _ _ hy2 rfl rfl ⟨rfl, rfl, rfl, rfl, rfl⟩ ?_; intro wz hwz hgz)
  refine bodyPost_ret (v := .agg #[.string k, .int .i64 v, .int .i64 a, .int .i64 e, .slice p1 l.length c1]) ?_ rfl ⟨_, _, rfl, ?_, ?_⟩
  · exact results24 Tryz.results50 _ _ (w.heap.size + 1) rfl _ _ _ _ _ 25 (0, 0) hwz
  · exact Bs5.grown HS2.out hgz hy2 (by decide)
  · exact B2.out.grown hgz B2.out.size (fun k hk => by cases hk; omega)

end Go.Proofs.YtkgecpplgjfhiaaGreatDoor.Ite

namespace Go.Proofs.YtkgecpplgjfhiaaGreatDoor.Ite
open Go.RowKit

/-- Cells that are these entries. -/
def EC (w : World) : List Ent → List Value → Prop
  | [], cs => cs = []
  | x :: r, cs => ∃ p c cs', cs = .string x.key :: .int .i64 x.ver :: .int .i64 x.asof :: .int .i64 x.ends :: .slice p x.val.length c :: cs' ∧ Bs5 w (.slice p x.val.length c) x.val ∧ EC w r cs'
theorem EC.keep {w w' : World} (hk : ∀ v l, Bs5 w v l → Bs5 w' v l) {xs : List Ent} {cs : List Value} (h : EC w xs cs) : EC w' xs cs := by
  induction xs generalizing cs with
  | nil => exact h
  | cons x r ih =>
    obtain ⟨p, c, cs', h1, h2, h3⟩ := h
    exact ⟨p, c, cs', h1, hk _ _ h2, ih h3⟩
theorem EC.stays {w w' : World} {xs : List Ent} {cs : List Value} (h : EC w xs cs) (hb : Below w.heap.size w w') : EC w' xs cs := h.keep (fun _ _ k => k.stays hb)
theorem EC.snoc {w : World} {xs : List Ent} {cs : List Value} {x : Ent} {p : Option Addr} {c : Nat} (h : EC w xs cs) (hx : Bs5 w (.slice p x.val.length c) x.val) :
    EC w (xs ++ [x]) (cs ++ [.string x.key, .int .i64 x.ver, .int .i64 x.asof, .int .i64 x.ends, .slice p x.val.length c]) := by
  induction xs generalizing cs with
  | nil =>
    have e : cs = [] := h
    subst e
    exact ⟨p, c, [], rfl, hx, rfl⟩
  | cons y r ih =>
    obtain ⟨q, d, cs', rfl, h2, h3⟩ := h
    exact ⟨q, d, _, rfl, h2, ih h3⟩
theorem EC.at {w : World} {xs : List Ent} {cs : List Value} (h : EC w xs cs) : ∀ {k : Nat} {x : Ent}, xs[k]? = some x → ∃ p c, cs[k * 5]? = some (.string x.key) ∧ cs[k * 5 + 1]? = some (.int .i64 x.ver) ∧ cs[k * 5 + 2]? = some (.int .i64 x.asof) ∧ cs[k * 5 + 3]? = some (.int .i64 x.ends) ∧ cs[k * 5 + 4]? = some (.slice p x.val.length c) ∧ Bs5 w (.slice p x.val.length c) x.val := by
  induction xs generalizing cs with
  | nil => intro k x hk; simp at hk
  | cons y r ih =>
    intro k x hk
    obtain ⟨q, d, cs', rfl, h2, h3⟩ := h
    cases k with
    | zero =>
      simp at hk
      subst hk
      exact ⟨q, d, rfl, rfl, rfl, rfl, rfl, h2⟩
    | succ k =>
      simp at hk
      obtain ⟨p, c, a0, a1, a2, a3, a4, a5⟩ := ih h3 hk
      refine ⟨p, c, ?_, ?_, ?_, ?_, ?_, a5⟩
      · rw [show (k + 1) * 5 = k * 5 + 5 by omega]; exact a0
      · rw [show (k + 1) * 5 + 1 = k * 5 + 1 + 5 by omega]; exact a1
      · rw [show (k + 1) * 5 + 2 = k * 5 + 2 + 5 by omega]; exact a2
      · rw [show (k + 1) * 5 + 3 = k * 5 + 3 + 5 by omega]; exact a3
      · rw [show (k + 1) * 5 + 4 = k * 5 + 4 + 5 by omega]; exact a4

/-- A value is, in memory, a slice of entries. -/
def EsAt (w : World) (v : Value) (xs : List Ent) : Prop := ∃ p cap, v = .slice p xs.length cap ∧ xs.length ≤ cap ∧ cap ≤ maxLen ∧
  ∀ k x, xs[k]? = some x → ∃ b off q c, p = some ⟨b, off, none⟩ ∧ b < w.heap.size ∧ w.cell? ⟨b, off + k * 5, none⟩ = some (.string x.key) ∧ w.cell? ⟨b, off + k * 5 + 1, none⟩ = some (.int .i64 x.ver) ∧ w.cell? ⟨b, off + k * 5 + 2, none⟩ = some (.int .i64 x.asof) ∧
    w.cell? ⟨b, off + k * 5 + 3, none⟩ = some (.int .i64 x.ends) ∧ w.cell? ⟨b, off + k * 5 + 4, none⟩ = some (.slice q x.val.length c) ∧ Bs w (.slice q x.val.length c) x.val
theorem EsAt.stays {w w' : World} {v : Value} {xs : List Ent} (h : EsAt w v xs) (hb : Below w.heap.size w w') : EsAt w' v xs := by
  obtain ⟨p, cap, h1, h2, h3, h4⟩ := h
  refine ⟨p, cap, h1, h2, h3, fun k x hk => ?_⟩
  obtain ⟨b, off, q, c, e1, e2, a0, a1, a2, a3, a4, a5⟩ := h4 k x hk
  have cc : ∀ o, w'.cell? ⟨b, o, none⟩ = w.cell? ⟨b, o, none⟩ := fun o => hb.cell (p := ⟨b, o, none⟩) e2
  exact ⟨b, off, q, c, e1, Nat.lt_of_lt_of_le e2 hb.size, (cc _).trans a0, (cc _).trans a1, (cc _).trans a2, (cc _).trans a3, (cc _).trans a4, a5.stays hb⟩
theorem EsAt.nil (w : World) : EsAt w (.slice none 0 0) [] := ⟨none, 0, rfl, Nat.le_refl _, by unfold maxLen; omega, fun k x hk => by simp at hk⟩
theorem EsAt.form {w : World} {v : Value} {xs : List Ent} (h : EsAt w v xs) : ∃ p cap, v = .slice p xs.length cap ∧ xs.length ≤ cap ∧ cap ≤ maxLen := by
  obtain ⟨p, cap, h1, h2, h3, _⟩ := h
  exact ⟨p, cap, h1, h2, h3⟩
/-- A row of the call's own is such a slice. -/
theorem EsAt.own {w : World} {B n : Nat} {v : Value} {xs : List Ent} {cs : List Value} (h : w.ownsRow B 25 5 v n cs) (hn : n = xs.length) (hc : EC w xs cs) : EsAt w v xs := by
  subst hn
  rcases h.2 with ⟨rfl, h0⟩ | ⟨g, cap, cur, rfl, hb, hg, h1, h2, _⟩
  · obtain rfl := List.eq_nil_of_length_eq_zero h0
    exact EsAt.nil w
  · refine ⟨some ⟨g, 0, none⟩, cap, rfl, h1, h2, fun k x hk => ?_⟩
    obtain ⟨q, c, a0, a1, a2, a3, a4, a5⟩ := hc.at hk
    have hcell := h.cells (g := g) rfl
    have cc : ∀ j u, cs[j]? = some u → w.cell? ⟨g, 0 + j, none⟩ = some u := fun j u hj => by have := hcell j u hj; rwa [add_off] at this
    exact ⟨g, 0, q, c, rfl, lt_of_block hg, cc _ _ a0, cc _ _ a1, cc _ _ a2, cc _ _ a3, cc _ _ a4, a5.bs⟩

/-- A row of one entry, made anew. -/
theorem ents_one {w : World} {x : Ent} {q : Option Addr} {c : Nat} (hx : Bs w (.slice q x.val.length c) x.val) :
    EsAt (w.alloc (.cells #[.string x.key, .int .i64 x.ver, .int .i64 x.asof, .int .i64 x.ends, .slice q x.val.length c] 25)) (.slice (some ⟨w.heap.size, 0, none⟩) 1 1) [x] := by
  refine ⟨some ⟨w.heap.size, 0, none⟩, 1, rfl, Nat.le_refl _, by unfold maxLen; omega, fun k y hk => ?_⟩
  cases k with
  | zero =>
    simp at hk
    subst hk
    obtain ⟨⟨q0, q1, q2, q3, q4⟩, _⟩ := five24 (heap_alloc_new w (.cells #[.string x.key, .int .i64 x.ver, .int .i64 x.asof, .int .i64 x.ends, .slice q x.val.length c] 25))
    exact ⟨w.heap.size, 0, q, c, rfl, by simp, q0, q1, q2, q3, q4, hx.stays (by go_grown)⟩
  | succ k => simp at hk
theorem ten_cells {w : World} {x0 x1 x2 x3 x4 y0 y1 y2 y3 y4 : Value} :
    ∀ j, (w.alloc (.cells #[x0, x1, x2, x3, x4, y0, y1, y2, y3, y4] 25)).cell? ⟨w.heap.size, j, none⟩ = #[x0, x1, x2, x3, x4, y0, y1, y2, y3, y4][j]? := fun j => by
  rw [World.cell?_alloc_at _ _ _ _ rfl]
theorem ents_two {w : World} {x y : Ent} {q r : Option Addr} {c d : Nat} (hx : Bs w (.slice q x.val.length c) x.val) (hy : Bs w (.slice r y.val.length d) y.val) :
    EsAt (w.alloc (.cells #[.string x.key, .int .i64 x.ver, .int .i64 x.asof, .int .i64 x.ends, .slice q x.val.length c, .string y.key, .int .i64 y.ver, .int .i64 y.asof, .int .i64 y.ends, .slice r y.val.length d] 25)) (.slice (some ⟨w.heap.size, 0, none⟩) 2 2) [x, y] := by
  refine ⟨some ⟨w.heap.size, 0, none⟩, 2, rfl, Nat.le_refl _, by unfold maxLen; omega, fun k z hk => ?_⟩
  rcases k with _ | _ | k
  · simp at hk
    subst hk
    exact ⟨w.heap.size, 0, q, c, rfl, by simp, ten_cells 0, ten_cells 1, ten_cells 2, ten_cells 3, ten_cells 4, hx.stays (by go_grown)⟩
  · simp at hk
    subst hk
    exact ⟨w.heap.size, 0, r, d, rfl, by simp, ten_cells 5, ten_cells 6, ten_cells 7, ten_cells 8, ten_cells 9, hy.stays (by go_grown)⟩
  · simp at hk

/-- Entries that are no more than are waited for. -/
def lightG : Nat → List Ent → Bool
  | _, [] => true
  | n, x :: r => !(decide (200 < x.key.size) || decide (5000 < x.val.length)) && !decide (12000 < n + x.val.length) && lightG (n + x.val.length) r
def lightB (xs : List Ent) : Bool := decide (xs.length ≤ 40) && lightG 0 xs
def lightI (xs : List Ent) : Int := if lightB xs = true then 0 else 1
/-- How many bytes the values of entries have. -/
def sumV : List Ent → Nat
  | [] => 0
  | x :: r => x.val.length + sumV r
theorem sumV_append (a b : List Ent) : sumV (a ++ b) = sumV a + sumV b := by
  induction a with
  | nil => simp [sumV]
  | cons x r ih => simp [sumV, ih]; omega
theorem lightG_sum {xs : List Ent} : ∀ {n : Nat}, lightG n xs = true → n ≤ 12000 → n + sumV xs ≤ 12000 ∧ ∀ x ∈ xs, x.key.size ≤ 200 ∧ x.val.length ≤ 5000 := by
  induction xs with
  | nil => intro n _ h; exact ⟨by simpa [sumV] using h, by simp⟩
  | cons x r ih =>
    intro n h hn
    simp [lightG] at h
    obtain ⟨⟨⟨h1, h2⟩, h3⟩, h4⟩ := h
    obtain ⟨g1, g2⟩ := ih h4 h3
    refine ⟨by simp [sumV]; omega, ?_⟩
    intro y hy
    rcases List.mem_cons.1 hy with rfl | hy
    · exact ⟨h1, h2⟩
    · exact g2 y hy
theorem lightB_ok {xs : List Ent} (h : lightB xs = true) : xs.length ≤ 40 ∧ sumV xs ≤ 12000 ∧ ∀ x ∈ xs, x.key.size ≤ 200 ∧ x.val.length ≤ 5000 := by
  unfold lightB at h
  rw [Bool.and_eq_true] at h
  obtain ⟨g1, g2⟩ := lightG_sum h.2 (by omega)
  exact ⟨by simpa using h.1, by omega, g2⟩

set_option maxHeartbeats 1000000 in
set_option maxRecDepth 10000 in
theorem light_any {w : World} {v : Value} {xs : List Ent} (h : EsAt w v xs) (hks : ∀ x ∈ xs, x.key.size ≤ maxLen) : Calls Tryz.prog 28 #[v] w fun e w' => e = .returned (.int .i64 (lightI xs)) ∧ w' = w := by
  obtain ⟨p, cap, rfl, h2, h3, h5⟩ := h
  unfold maxLen at h3
  have HE := hid2 h5
  have HK := hid2 hks
  clear h5 hks
  by_cases h40 : xs.length ≤ 40
  · have hgt : ¬ (40 < (xs.length : Int)) := by omega
    have HB : Hid (lightB xs = lightG 0 xs) := by show _ = _; unfold lightB; rw [decide_eq_true h40, Bool.true_and]
    go_enter Tryz.func28, Tryz.ntmps28
    go_wp2_with fail
    go_loop [3, 4] (fun n i => ∃ k m : Nat, i = .int .i64 (k : Int) ∧ n = .int .i64 (m : Int) ∧ k ≤ xs.length ∧ m ≤ 12000 ∧ Hid (lightG 0 xs = lightG m (xs.drop k))) (fun _ i => xs.length - (intOf i).toNat)
    case atStart => exact ⟨0, 0, rfl, rfl, Nat.zero_le _, by omega, rfl⟩
    case round =>
      obtain ⟨k, m, rfl, rfl, hk, hm, HZ⟩ := hrel
      by_cases hlt : k < xs.length
      · obtain ⟨x, hx⟩ : ∃ x, xs[k]? = some x := ⟨_, List.getElem?_eq_getElem hlt⟩
        obtain ⟨bb, off, q, c, rfl, hbb, a0, a1, a2, a3, a4, hbs⟩ := HE.out k _ hx
        have hki : (k : Int) < (xs.length : Int) := by omega
        have hkm := HK.out x (List.mem_of_getElem? hx)
        unfold maxLen at hkm
        obtain ⟨_, _, hf, hvl, hvc⟩ := hbs.form
        unfold maxLen at hvc
        have hvm : x.val.length ≤ 9223372036854775807 := by omega
        have HX : Hid (lightG m (xs.drop k) = (!(decide (200 < x.key.size) || decide (5000 < x.val.length)) && !decide (12000 < m + x.val.length) && lightG (m + x.val.length) (xs.drop (k + 1)))) := by
          show _ = _
          obtain ⟨hl, e⟩ := List.getElem?_eq_some_iff.1 hx
          rw [List.drop_eq_getElem_cons hl, e]
          rfl
        clear hx hbs hf hvl hvc a1 a2 a3
        by_cases c1 : 200 < x.key.size
        · have d1 : 200 < (x.key.size : Int) := by omega
          have HR : Hid (lightB xs = false) := by show _ = _; rw [HB.out, HZ.out, HX.out]; simp [c1]
          clear c1
          go_wp2
          go_ret
          exact ⟨by unfold lightI; rw [HR.out]; rfl, rfl⟩
        · have d1 : ¬ 200 < (x.key.size : Int) := by omega
          by_cases c2 : 5000 < x.val.length
          · have d2 : 5000 < (x.val.length : Int) := by omega
            have HR : Hid (lightB xs = false) := by show _ = _; rw [HB.out, HZ.out, HX.out]; simp [c2]
            clear c1 c2
            go_wp2
            go_ret
            exact ⟨by unfold lightI; rw [HR.out]; rfl, rfl⟩
          · have d2 : ¬ 5000 < (x.val.length : Int) := by omega
            by_cases c3 : 12000 < m + x.val.length
            · have d3 : 12000 < (m : Int) + (x.val.length : Int) := by omega
              have HR : Hid (lightB xs = false) := by show _ = _; rw [HB.out, HZ.out, HX.out]; simp [c3]
              clear c1 c2 c3
              go_wp2
              go_ret
              exact ⟨by unfold lightI; rw [HR.out]; rfl, rfl⟩
            · have d3 : ¬ 12000 < (m : Int) + (x.val.length : Int) := by omega
              have HR : Hid (lightG 0 xs = lightG (m + x.val.length) (xs.drop (k + 1))) := by show _ = _; rw [HZ.out, HX.out]; simp [c1, c2, c3]
              have HM : Hid (m + x.val.length ≤ 12000) := by show _ ≤ _; omega
              clear c1 c2 c3
              go_wp2_with fail
              go_round
              case rel => exact ⟨k + 1, m + x.val.length, by go_num, by go_num, by omega, HM.out, HR⟩
              case measure => simp [intOf]; omega
      · have hki : ¬ ((k : Int) < (xs.length : Int)) := by omega
        have HR : Hid (lightB xs = true) := by
          show _ = _
          rw [HB.out, HZ.out, List.drop_of_length_le (by omega)]
          rfl
        go_wp2
        go_ret
        exact ⟨by unfold lightI; rw [HR.out]; rfl, rfl⟩
  · have hgt : 40 < (xs.length : Int) := by omega
    have HR : Hid (lightB xs = false) := by
      show _ = _
      unfold lightB
      rw [decide_eq_false h40, Bool.false_and]
    go_enter Tryz.func28, Tryz.ntmps28
    go_wp2
    go_ret
    exact ⟨by unfold lightI; rw [HR.out]; rfl, rfl⟩
end Go.Proofs.YtkgecpplgjfhiaaGreatDoor.Ite
