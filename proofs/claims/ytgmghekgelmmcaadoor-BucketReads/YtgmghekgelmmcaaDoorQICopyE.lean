/-
  An entry in new memory; what is wrong with a reader is kept.
-/
import Derived.Test.YtgmghekgelmmcaaDoorQIRowP
import Derived.Test.YtgmghekgelmmcaaDoorQIFlt
namespace Go.Proofs.YtgmghekgelmmcaaDoor.Ite
open Go.RowKit

/-- What a slice is, by letters alone. -/
theorem SlAt.some3 {w : World} {b : Nat} {v : Value} {xs : List Value} (h : SlAt w b v xs) : ∃ p n cap, v = .slice p n cap := by
  obtain ⟨p, cap, e, _⟩ := h.form
  exact ⟨p, _, cap, e⟩

set_option maxHeartbeats 1000000 in
set_option maxRecDepth 10000 in
theorem rputE_any {w : World} {bb : Nat} {pb p : Option Addr} {nb cb n cap : Nat} {bs l : List Int} (k : ByteArray) (v a e : Int) (hk : k.size ≤ 1000) (hl : l.length ≤ 5000) (hv : 0 ≤ v ∧ v ≤ 1099511627776) (ha : 0 ≤ a ∧ a ≤ 1099511627776) (he : 0 ≤ e ∧ e ≤ 1099511627776) (hbs : bs.length ≤ 18000) (g : SlAt w bb (.slice pb nb cb) (U bs)) (h : Bs w (.slice p n cap) l) :
    Calls Tryd.prog 44 #[.slice pb nb cb, .agg #[.string k, .int .i64 v, .int .i64 a, .int .i64 e, .slice p n cap]] w fun en w' => ∃ sv, en = .returned sv ∧ w'.ownsRow w.heap.size 5 1 sv (bs ++ rowP k v a e l).length (U (bs ++ rowP k v a e l)) ∧ Below w.heap.size w w' := by
  have hN := hid2 (nat63_3 hv ha he)
  have hkl : (kb k).length ≤ 1000 := by rw [kb_length]; omega
  have hT := textB_le (kb k)
  have hP := puts3_le v a e
  go_enter Tryd.func44, Tryd.ntmps44
  go_wp2_with fail
  obtain ⟨w0, hw0⟩ : ∃ w0, w0 = w.alloc (.cells #[.string k, .int .i64 v, .int .i64 a, .int .i64 e, .slice p n cap] 39) := ⟨_, rfl⟩
  rw [← hw0]
  have hx0 : w0.heap[w.heap.size]? = some (.cells #[.string k, .int .i64 v, .int .i64 a, .int .i64 e, .slice p n cap] 39 (0, 0)) := by rw [hw0]; exact heap_alloc_new w _
  have B0 : Below w.heap.size w w0 := by rw [hw0]; go_grown
  clear hw0
  obtain ⟨pk, ck, w1, hrun, hbs1, B1⟩ := conv_bytes w0 k (by unfold maxLen; omega)
  rw [hrun]
  clear hrun
  have hx1 := heap_stays hx0 B1
  obtain ⟨⟨q0, q1, q2, q3, q4⟩, _⟩ := five24 hx1
  obtain ⟨b1, hs1⟩ := hbs1
  have g1 := (g.stays B0).stays B1
  go_wp2_with fail
  refine (rbytes_any g1 hs1 (by omega) (by omega)).mono ?_
  rintro en w2 ⟨sv2, rfl, hown2, B2⟩
  have hx2 := heap_stays hx1 B2
  clear q0 q1 q2 q3 q4
  obtain ⟨⟨q0, q1, q2, q3, q4⟩, _⟩ := five24 hx2
  have e2 : bs ++ dg (kb k).length (lenN (kb k).length) ++ kb k = bs ++ textB (kb k) := by simp [textB]
  rw [e2] at hown2
  obtain ⟨b2, hb2, hs2⟩ := own_sl hown2
  clear hown2 e2
  obtain ⟨p2, n2, c2, hf2⟩ := hs2.some3
  subst hf2
  have hlt2 := lt_of_block hx2
  go_wp2_with fail
  have B2a : Below w2.heap.size w2 (w2.alloc (.cells #[.int .i64 v, .int .i64 a, .int .i64 e] 3)) := by go_grown
  refine (rput_any (hs2.stays B2a) (sl_int3 w2 v a e) hN.out (by simp) (by rw [List.length_append]; omega)).mono ?_
  rintro en w3 ⟨sv3, rfl, hown3, B3⟩
  have B3' : Below w2.heap.size w2 w3 := B2a.trans (B3.mono B2a.size)
  have hx3 := heap_stays hx2 B3'
  clear q0 q1 q2 q3 q4
  obtain ⟨⟨q0, q1, q2, q3, q4⟩, _⟩ := five24 hx3
  obtain ⟨b3, hb3, hs3⟩ := own_sl hown3
  clear hown3
  obtain ⟨p3, n3, c3, hf3⟩ := hs3.some3
  subst hf3
  have B03 : Below w.heap.size w w3 := ((B0.trans (B1.mono B0.size)).trans (B2.mono (Nat.le_trans B0.size B1.size))).trans (B3'.mono (Nat.le_trans B0.size (Nat.le_trans B1.size B2.size)))
  obtain ⟨bl, hsl⟩ := h.stays (B03.mono (Nat.le_refl _))
  go_wp2_with fail
  refine (rbytes_any hs3 hsl (by omega) (by rw [List.length_append, List.length_append]; omega)).mono ?_
  rintro en w4 ⟨sv4, rfl, hown4, B4⟩
  go_wp2
  go_ret
  have e4 : bs ++ textB (kb k) ++ puts [v, a, e] ++ dg l.length (lenN l.length) ++ l = bs ++ rowP k v a e l := by simp [rowP, textB]
  rw [e4] at hown4
  have e5 : (bs ++ textB (kb k) ++ puts [v, a, e]).length + lenN l.length + l.length = (bs ++ rowP k v a e l).length := by simp [rowP, textB_length]; omega
  rw [e5] at hown4
  exact ⟨_, rfl, own_lower hown4 B03.size, B03.trans (B4.mono B03.size)⟩

set_option maxHeartbeats 1000000 in
set_option maxRecDepth 10000 in
theorem rsizeE_any {w : World} {p : Option Addr} {n cap : Nat} {l : List Int} (k : ByteArray) (v a e : Int) (hk : k.size ≤ 1000) (hl : l.length ≤ 5000) (hv : 0 ≤ v ∧ v ≤ 1099511627776) (ha : 0 ≤ a ∧ a ≤ 1099511627776) (he : 0 ≤ e ∧ e ≤ 1099511627776) (h : Bs w (.slice p n cap) l) :
    Calls Tryd.prog 40 #[.agg #[.string k, .int .i64 v, .int .i64 a, .int .i64 e, .slice p n cap]] w fun en w' => en = .returned (.int .i64 ((sizeP k.size v a e l.length : Nat) : Int)) ∧ Below w.heap.size w w' := by
  have B0 : Below w.heap.size w (w.alloc (.cells #[.string k, .int .i64 v, .int .i64 a, .int .i64 e, .slice p n cap] 39)) := by go_grown
  have HP := hid2 (rputE_any (bs := []) k v a e hk hl hv ha he (by simp) (SlAt.nil _ 0) (h.stays B0))
  have H0 := hid2 B0
  clear B0 h
  go_enter Tryd.func40, Tryd.ntmps40
  go_wp2_with fail
  refine (show Calls _ _ _ _ _ from HP).mono ?_
  rintro en w1 ⟨sv, rfl, hown, hb⟩
  obtain ⟨p1, c1, rfl⟩ := own_len hown
  go_wp2
  go_ret
  refine ⟨ret_int ?_, H0.out.trans (hb.mono H0.out.size)⟩
  rw [rowP_len]

end Go.Proofs.YtgmghekgelmmcaaDoor.Ite

namespace Go.Proofs.YtgmghekgelmmcaaDoor.Ite
open Go.RowKit

theorem results_cell {fn : Func} {p : Tmp} {ty : TypeId} (h : fn.results = #[.cell p ty]) (tmps : Array Value) (P : Program) (w : World) :
    (results fn tmps).run P w = ((asAddr (tmps.getD p undef)).run P w).andThen fun a w₁ => (loadVar ty a).run P w₁ := by
  simp only [results, h]
  simp [Sem.run_bind, Result.andThen]
theorem results24 {fn : Func} {p : Tmp} (h : fn.results = #[.cell p 39]) (tmps : Array Value) (w : World) (b : Nat) (ht : tmps.getD p undef = .pointer (some ⟨b, 0, none⟩)) (x0 x1 x2 x3 x4 : Value) (t : TypeId) (fr : Nat × Nat)
    (hc : w.heap[b]? = some (.cells #[x0, x1, x2, x3, x4] t fr)) : (results fn tmps).run Tryd.prog w = .ok (.agg #[x0, x1, x2, x3, x4]) w := by
  rw [results_cell h, ht]
  simp only [asAddr, Sem.run_pure, Result.andThen_ok, load24 w b x0 x1 x2 x3 x4 t fr hc]

theorem heap_grownBy {w w' : World} {b g : Nat} {o : Obj} (h : w.heap[b]? = some o) (hg : w.grownBy w' (some g)) (hne : b ≠ g) : w'.heap[b]? = some o := by
  rw [hg.block b (lt_of_block h) (by simpa using hne)]; exact h
/-- Blocks of entries hold no bytes. -/
theorem nob24 {w : World} {g : Nat} {k : ByteArray} {v a e : Int} {p : Option Addr} {n cap : Nat} (h : w.heap[g]? = some (.cells #[.string k, .int .i64 v, .int .i64 a, .int .i64 e, .slice p n cap] 39 (0, 0))) : NoB w g := by
  intro off u e
  simp only [World.cell?, h] at e
  rcases off with _ | _ | _ | _ | _ | off <;> simp at e

set_option maxHeartbeats 1000000 in
set_option maxRecDepth 10000 in
theorem copy_any {w : World} {p : Option Addr} {n cap : Nat} {l : List Int} (k : ByteArray) (v a e : Int) (h : Bs w (.slice p n cap) l) (hl : l.length ≤ 20000) :
    Calls Tryd.prog 37 #[.agg #[.string k, .int .i64 v, .int .i64 a, .int .i64 e, .slice p n cap]] w fun en w' => ∃ p' c', en = .returned (.agg #[.string k, .int .i64 v, .int .i64 a, .int .i64 e, .slice p' l.length c']) ∧ Bs5 w' (.slice p' l.length c') l ∧ Below w.heap.size w w' := by
  go_enter Tryd.func37, Tryd.ntmps37
  go_wp2_with fail
  obtain ⟨w0, hw0⟩ : ∃ w0, w0 = (w.alloc (.cells #[.string k, .int .i64 v, .int .i64 a, .int .i64 e, .slice p n cap] 39)).alloc (.cells #[.string ⟨#[]⟩, .int .i64 0, .int .i64 0, .int .i64 0, .slice none 0 0] 39) := ⟨_, rfl⟩
  rw [← hw0]
  have hx0 : w0.heap[w.heap.size]? = some (.cells #[.string k, .int .i64 v, .int .i64 a, .int .i64 e, .slice p n cap] 39 (0, 0)) := by rw [hw0, Below.heap_alloc _ _ _ (by simp)]; exact heap_alloc_new w _
  have hy0 : w0.heap[w.heap.size + 1]? = some (.cells #[.string ⟨#[]⟩, .int .i64 0, .int .i64 0, .int .i64 0, .slice none 0 0] 39 (0, 0)) := by
    have := heap_alloc_new (w.alloc (.cells #[.string k, .int .i64 v, .int .i64 a, .int .i64 e, .slice p n cap] 39)) (.cells #[.string ⟨#[]⟩, .int .i64 0, .int .i64 0, .int .i64 0, .slice none 0 0] 39)
    rw [show (w.alloc (.cells #[.string k, .int .i64 v, .int .i64 a, .int .i64 e, .slice p n cap] 39)).heap.size = w.heap.size + 1 by simp] at this
    rw [hw0]
    exact this
  have B0 : Below w.heap.size w w0 := by rw [hw0]; go_grown
  clear hw0
  obtain ⟨b, hs⟩ := h.stays B0
  refine (clone_any hs hl).mono ?_
  rintro en w1 ⟨b1, p1, c1, rfl, hb1, hs1, ht1, B1⟩
  have hx1 := heap_stays hx0 B1
  have hy1 := heap_stays hy0 B1
  obtain ⟨⟨q0, q1, q2, q3, q4⟩, qf⟩ := five24 hx1
  have hlt1 := lt_of_block hx1
  have HS := hid2 (show Bs5 w1 _ _ from ⟨b1, hs1, ht1⟩)
  clear hs1 ht1 hs h
  have hst := heap_setCell_same w1 w.heap.size 4 _ 39 (.slice p1 l.length c1) hx1
  have hgst := setCell_grownBy w1 w.heap.size 4 (.slice p1 l.length c1)
  have HS2 := hid2 (Bs5.grown HS.out hgst hx1 (by decide))
  have hy2 := heap_grownBy hy1 hgst (by omega)
  have B2 := hid2 ((B0.trans (B1.mono B0.size)).grown hgst (Nat.le_trans B0.size B1.size) (fun k hk => by cases hk; exact Nat.le_refl _))
  have hx2 : (w1.setCell ⟨w.heap.size, 4, none⟩ (.slice p1 l.length c1)).heap[w.heap.size]? = some (.cells #[.string k, .int .i64 v, .int .i64 a, .int .i64 e, .slice p1 l.length c1] 39 (0, 0)) := by rw [hst]; rfl
  obtain ⟨⟨r0, r1, r2, r3, r4⟩, rf⟩ := five24 hx2
  clear hst hgst
  go_wp2_with (refine st24 rfl (.tmp 2) (.tmp 7) rfl (w.heap.size + 1) rfl _ _ _ _ _ _ hy2 rfl rfl ⟨rfl, rfl, rfl, rfl, rfl⟩ ?_; intro wz hwz hgz)
  refine bodyPost_ret (v := .agg #[.string k, .int .i64 v, .int .i64 a, .int .i64 e, .slice p1 l.length c1]) ?_ rfl ⟨_, _, rfl, ?_, ?_⟩
  · exact results24 Tryd.results37 _ _ (w.heap.size + 1) rfl _ _ _ _ _ 39 (0, 0) hwz
  · exact Bs5.grown HS2.out hgz hy2 (by decide)
  · exact B2.out.grown hgz B2.out.size (fun k hk => by cases hk; omega)

set_option maxHeartbeats 1000000 in
theorem fail_any {w : World} {g : Nat} {bs : List Int} {a : Nat} {code : Int} (c : Int) (h : Rd w g bs a code) :
    Calls Tryd.prog 74 #[.pointer (some ⟨g, 0, none⟩), .int .i64 c] w fun e w' => e = .returned (.tuple #[]) ∧ Rd w' g bs a (if code = 0 then c else code) ∧ w.grownBy w' (some g) := by
  have h' := h
  obtain ⟨sv, b, h1, h2, h3, h4⟩ := h
  obtain ⟨c0, c1, c2, f1, f2⟩ := cells60 h1
  by_cases hz : code = 0
  · subst hz
    rw [if_pos rfl]
    clear h1 h2
    go_enter Tryd.func74, Tryd.ntmps74
    go_wp2
    go_end0
    exact ⟨rfl, h'.setCode c, setCell_grownBy _ _ _ _⟩
  · rw [if_neg hz]
    have hd : (code == 0) = false := by simpa using hz
    clear h1 h2 hz
    go_enter Tryd.func74, Tryd.ntmps74
    go_wp2
    go_end0
    exact ⟨rfl, h', ⟨rfl, rfl, rfl, Nat.le_refl _, fun _ _ _ => rfl⟩⟩
end Go.Proofs.YtgmghekgelmmcaaDoor.Ite
