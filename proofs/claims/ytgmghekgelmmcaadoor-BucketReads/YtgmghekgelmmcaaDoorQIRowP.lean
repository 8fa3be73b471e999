/-
  An entry's bytes, of the program and of the document.
-/
import Derived.Test.YtgmghekgelmmcaaDoorQIOps6
namespace Go.Proofs.YtgmghekgelmmcaaDoor.Ite
open Go.RowKit

theorem sl_int3 (w : World) (x y z : Int) : SlAt (w.alloc (.cells #[.int .i64 x, .int .i64 y, .int .i64 z] 3)) w.heap.size (.slice (some ⟨w.heap.size, 0, none⟩) 3 3) (I [x, y, z]) := by
  refine .inr ⟨_, 3, rfl, by simp [I], by unfold maxLen; omega, .inr ⟨0, rfl, by simp, fun k u hk => ?_⟩⟩
  rcases k with _ | _ | _ | k
  · simp [I] at hk; subst hk; simp
  · simp [I] at hk; subst hk; simp
  · simp [I] at hk; subst hk; simp
  · simp [I] at hk
theorem nat63_3 {x y z : Int} (hx : 0 ≤ x ∧ x ≤ 1099511627776) (hy : 0 ≤ y ∧ y ≤ 1099511627776) (hz : 0 ≤ z ∧ z ≤ 1099511627776) : Nat63 [x, y, z] := by
  intro u hu
  simp at hu
  rcases hu with rfl | rfl | rfl <;> omega

/-- The bytes of an entry, by its parts. -/
def rowP (k : ByteArray) (v a e : Int) (l : List Int) : List Int := textB (kb k) ++ puts [v, a, e] ++ textB l
theorem rowP_len (k : ByteArray) (v a e : Int) (l : List Int) : (rowP k v a e l).length = sizeP k.size v a e l.length := rowB_length ⟨k, v, a, e, l⟩
theorem textB_le (t : List Int) : (textB t).length ≤ 9 + t.length := by rw [textB_length]; have := lenN_bd t.length; omega
theorem puts3_le (x y z : Int) : (puts [x, y, z]).length ≤ 27 := puts_length [x, y, z]

set_option maxHeartbeats 1000000 in
set_option maxRecDepth 10000 in
theorem row_any {w : World} {p : Option Addr} {n cap : Nat} {l : List Int} (k : ByteArray) (v a e : Int) (hk : k.size ≤ 1000) (hl : l.length ≤ 5000) (hv : 0 ≤ v ∧ v ≤ 1099511627776) (ha : 0 ≤ a ∧ a ≤ 1099511627776) (he : 0 ≤ e ∧ e ≤ 1099511627776) (h : Bs w (.slice p n cap) l) :
    Calls Tryd.prog 35 #[.agg #[.string k, .int .i64 v, .int .i64 a, .int .i64 e, .slice p n cap]] w fun en w' => ∃ sv, en = .returned sv ∧ w'.ownsRow w.heap.size 5 1 sv (rowP k v a e l).length (U (rowP k v a e l)) ∧ Below w.heap.size w w' := by
  have hN := hid2 (nat63_3 hv ha he)
  have hkl : (kb k).length ≤ 5000 := by rw [kb_length]; omega
  have hT := textB_le (kb k)
  have hP := puts3_le v a e
  go_enter Tryd.func35, Tryd.ntmps35
  go_wp2_with fail
  obtain ⟨w0, hw0⟩ : ∃ w0, w0 = w.alloc (.cells #[.string k, .int .i64 v, .int .i64 a, .int .i64 e, .slice p n cap] 39) := ⟨_, rfl⟩
  rw [← hw0]
  have hx0 : w0.heap[w.heap.size]? = some (.cells #[.string k, .int .i64 v, .int .i64 a, .int .i64 e, .slice p n cap] 39 (0, 0)) := by rw [hw0]; exact heap_alloc_new w _
  have B0 : Below w.heap.size w w0 := by rw [hw0]; go_grown
  clear hw0
  obtain ⟨pk, ck, w1, hrun, hbs1, B1⟩ := conv_bytes w0 k (by unfold maxLen; omega)
  rw [hrun]
  clear hrun
  have hx1 := heap_stays hx0 B1
  obtain ⟨⟨q0, q1, q2, q3, q4⟩, _⟩ := five24 hx1
  obtain ⟨b1, hs1⟩ := hbs1
  go_wp2_with fail
  refine (bytes_any (bs := []) (SlAt.nil _ 0) hs1 hkl (by simp)).mono ?_
  rintro en w2 ⟨sv2, rfl, hown2, B2⟩
  have hx2 := heap_stays hx1 B2
  clear q0 q1 q2 q3 q4
  obtain ⟨⟨q0, q1, q2, q3, q4⟩, _⟩ := five24 hx2
  have e2 : ([] : List Int) ++ dg (kb k).length (lenN (kb k).length) ++ kb k = textB (kb k) := rfl
  rw [e2] at hown2
  obtain ⟨b2, hb2, hs2⟩ := own_sl hown2
  clear hown2 e2
  obtain ⟨p2, c2, hf2, _⟩ := hs2.form
  subst hf2
  have hlt2 := lt_of_block hx2
  go_wp2_with fail
  have B2a : Below w2.heap.size w2 (w2.alloc (.cells #[.int .i64 v, .int .i64 a, .int .i64 e] 3)) := by go_grown
  refine (put_any (hs2.stays B2a) (sl_int3 w2 v a e) hN.out (by simp) (by omega)).mono ?_
  rintro en w3 ⟨sv3, rfl, hown3, B3⟩
  have B3' : Below w2.heap.size w2 w3 := B2a.trans (B3.mono B2a.size)
  have hx3 := heap_stays hx2 B3'
  clear q0 q1 q2 q3 q4
  obtain ⟨⟨q0, q1, q2, q3, q4⟩, _⟩ := five24 hx3
  obtain ⟨b3, hb3, hs3⟩ := own_sl hown3
  clear hown3
  obtain ⟨p3, c3, hf3, _⟩ := hs3.form
  subst hf3
  have B03 : Below w.heap.size w w3 := ((B0.trans (B1.mono B0.size)).trans (B2.mono (Nat.le_trans B0.size B1.size))).trans (B3'.mono (Nat.le_trans B0.size (Nat.le_trans B1.size B2.size)))
  obtain ⟨bl, hsl⟩ := h.stays (B03.mono (Nat.le_refl _))
  go_wp2_with fail
  refine (bytes_any hs3 hsl (by omega) (by rw [List.length_append]; omega)).mono ?_
  rintro en w4 ⟨sv4, rfl, hown4, B4⟩
  go_wp2
  go_ret
  have e4 : textB (kb k) ++ puts [v, a, e] ++ dg l.length (lenN l.length) ++ l = rowP k v a e l := by simp [rowP, textB]
  rw [e4] at hown4
  have e5 : (textB (kb k) ++ puts [v, a, e]).length + lenN l.length + l.length = (rowP k v a e l).length := by simp [rowP, textB_length]; omega
  rw [e5] at hown4
  exact ⟨_, rfl, own_lower hown4 B03.size, B03.trans (B4.mono B03.size)⟩
end Go.Proofs.YtgmghekgelmmcaaDoor.Ite
