/-
  Put and Size of entries: the document's; the program's.
-/
import Derived.Test.YtibjhjojohjokaaDoorRowP
namespace Go.Proofs.YtibjhjojohjokaaDoor
open Go.RowKit

/-- What a slice is, by letters alone. -/
theorem SlAt.some3 {w : World} {b : Nat} {v : Value} {xs : List Value} (h : SlAt w b v xs) : ∃ p n cap, v = .slice p n cap := by
  obtain ⟨p, cap, e, _⟩ := h.form
  exact ⟨p, _, cap, e⟩

set_option maxHeartbeats 1000000 in
set_option maxRecDepth 10000 in
theorem rputE_any {w : World} {bb : Nat} {pb p : Option Addr} {nb cb n cap : Nat} {bs l : List Int} (k : ByteArray) (v a e : Int) (hk : k.size ≤ 1000) (hl : l.length ≤ 5000) (hv : 0 ≤ v ∧ v ≤ 1099511627776) (ha : 0 ≤ a ∧ a ≤ 1099511627776) (he : 0 ≤ e ∧ e ≤ 1099511627776) (hbs : bs.length ≤ 18000) (g : SlAt w bb (.slice pb nb cb) (U bs)) (h : Bs w (.slice p n cap) l) :
    Calls Tryd.prog 24 #[.slice pb nb cb, .agg #[.string k, .int .i64 v, .int .i64 a, .int .i64 e, .slice p n cap]] w fun en w' => ∃ sv, en = .returned sv ∧ w'.ownsRow w.heap.size 5 1 sv (bs ++ rowP k v a e l).length (U (bs ++ rowP k v a e l)) ∧ Below w.heap.size w w' := by
  have hN := hid2 (nat63_3 hv ha he)
  have hkl : (kb k).length ≤ 1000 := by rw [kb_length]; omega
  have hT := textB_le (kb k)
  have hP := puts3_le v a e
  go_enter Tryd.func24, Tryd.ntmps24
  go_wp2_with fail
  obtain ⟨w0, hw0⟩ : ∃ w0, w0 = w.alloc (.cells #[.string k, .int .i64 v, .int .i64 a, .int .i64 e, .slice p n cap] 24) := ⟨_, rfl⟩
  rw [← hw0]
  have hx0 : w0.heap[w.heap.size]? = some (.cells #[.string k, .int .i64 v, .int .i64 a, .int .i64 e, .slice p n cap] 24 (0, 0)) := by rw [hw0]; exact heap_alloc_new w _
  have B0 : Below w.heap.size w w0 := by rw [hw0]; go_grown
  clear hw0
  obtain ⟨pk, ck, w1, hrun, hbs1, B1⟩ := conv_bytes w0 k (by unfold maxLen; omega)
  rw [hrun]
  clear hrun
  have hx1 := heap_stays hx0 B1
  obtain ⟨⟨q0, q1, q2, q3, q4⟩, _⟩ := five24 hx1
  obtain ⟨b1, hs1⟩ := hbs1
  have g1 := (g.stays B0).stays B1
  go_wp2_with fail
  refine (rbytes_any g1 hs1 (by omega) (by omega)).mono ?_
  rintro en w2 ⟨sv2, rfl, hown2, B2⟩
  have hx2 := heap_stays hx1 B2
  clear q0 q1 q2 q3 q4
  obtain ⟨⟨q0, q1, q2, q3, q4⟩, _⟩ := five24 hx2
  have e2 : bs ++ dg (kb k).length (lenN (kb k).length) ++ kb k = bs ++ textB (kb k) := by simp [textB]
  rw [e2] at hown2
  obtain ⟨b2, hb2, hs2⟩ := own_sl hown2
  clear hown2 e2
  obtain ⟨p2, n2, c2, hf2⟩ := hs2.some3
  subst hf2
  have hlt2 := lt_of_block hx2
  go_wp2_with fail
  have B2a : Below w2.heap.size w2 (w2.alloc (.cells #[.int .i64 v, .int .i64 a, .int .i64 e] 3)) := by go_grown
  refine (rput_any (hs2.stays B2a) (sl_int3 w2 v a e) hN.out (by simp) (by rw [List.length_append]; omega)).mono ?_
  rintro en w3 ⟨sv3, rfl, hown3, B3⟩
  have B3' : Below w2.heap.size w2 w3 := B2a.trans (B3.mono B2a.size)
  have hx3 := heap_stays hx2 B3'
  clear q0 q1 q2 q3 q4
  obtain ⟨⟨q0, q1, q2, q3, q4⟩, _⟩ := five24 hx3
  obtain ⟨b3, hb3, hs3⟩ := own_sl hown3
  clear hown3
  obtain ⟨p3, n3, c3, hf3⟩ := hs3.some3
  subst hf3
  have B03 : Below w.heap.size w w3 := ((B0.trans (B1.mono B0.size)).trans (B2.mono (Nat.le_trans B0.size B1.size))).trans (B3'.mono (Nat.le_trans B0.size (Nat.le_trans B1.size B2.size)))
  obtain ⟨bl, hsl⟩ := h.stays (B03.mono (Nat.le_refl _))
  go_wp2_with fail
  refine (rbytes_any hs3 hsl (by omega) (by rw [List.length_append, List.length_append]; omega)).mono ?_
  rintro en w4 ⟨sv4, rfl, hown4, B4⟩
  go_wp2
  go_ret
  have e4 : bs ++ textB (kb k) ++ puts [v, a, e] ++ dg l.length (lenN l.length) ++ l = bs ++ rowP k v a e l := by simp [rowP, textB]
  rw [e4] at hown4
  have e5 : (bs ++ textB (kb k) ++ puts [v, a, e]).length + lenN l.length + l.length = (bs ++ rowP k v a e l).length := by simp [rowP, textB_length]; omega
  rw [e5] at hown4
  exact ⟨_, rfl, own_lower hown4 B03.size, B03.trans (B4.mono B03.size)⟩

set_option maxHeartbeats 1000000 in
set_option maxRecDepth 10000 in
theorem rsizeE_any {w : World} {p : Option Addr} {n cap : Nat} {l : List Int} (k : ByteArray) (v a e : Int) (hk : k.size ≤ 1000) (hl : l.length ≤ 5000) (hv : 0 ≤ v ∧ v ≤ 1099511627776) (ha : 0 ≤ a ∧ a ≤ 1099511627776) (he : 0 ≤ e ∧ e ≤ 1099511627776) (h : Bs w (.slice p n cap) l) :
    Calls Tryd.prog 21 #[.agg #[.string k, .int .i64 v, .int .i64 a, .int .i64 e, .slice p n cap]] w fun en w' => en = .returned (.int .i64 ((sizeP k.size v a e l.length : Nat) : Int)) ∧ Below w.heap.size w w' := by
  have B0 : Below w.heap.size w (w.alloc (.cells #[.string k, .int .i64 v, .int .i64 a, .int .i64 e, .slice p n cap] 24)) := by go_grown
  have HP := hid2 (rputE_any (bs := []) k v a e hk hl hv ha he (by simp) (SlAt.nil _ 0) (h.stays B0))
  have H0 := hid2 B0
  clear B0 h
  go_enter Tryd.func21, Tryd.ntmps21
  go_wp2_with fail
  refine (show Calls _ _ _ _ _ from HP).mono ?_
  rintro en w1 ⟨sv, rfl, hown, hb⟩
  obtain ⟨p1, c1, rfl⟩ := own_len hown
  go_wp2
  go_ret
  refine ⟨ret_int ?_, H0.out.trans (hb.mono H0.out.size)⟩
  rw [rowP_len]

set_option maxHeartbeats 1000000 in
set_option maxRecDepth 10000 in
theorem putE_any {w : World} {bb : Nat} {pb p : Option Addr} {cb n cap : Nat} {bs l : List Int} (k : ByteArray) (v a e : Int) (hk : k.size ≤ 1000) (hl : l.length ≤ 5000) (hv : 0 ≤ v ∧ v ≤ 1099511627776) (ha : 0 ≤ a ∧ a ≤ 1099511627776) (he : 0 ≤ e ∧ e ≤ 1099511627776) (hbs : bs.length ≤ 18000) (g : SlAt w bb (.slice pb bs.length cb) (U bs)) (h : Bs w (.slice p n cap) l) :
    Calls Tryd.prog 23 #[.slice pb bs.length cb, .agg #[.string k, .int .i64 v, .int .i64 a, .int .i64 e, .slice p n cap]] w fun en w' => ∃ sv, en = .returned sv ∧ w'.ownsRow w.heap.size 5 1 sv (bs ++ rowP k v a e l).length (U (bs ++ rowP k v a e l)) ∧ Below w.heap.size w w' := by
  obtain ⟨i0, hi, hz0, hz1, hz2⟩ := Tryd.info5
  have hn : n = l.length := by
    obtain ⟨_, _, e, _⟩ := h.form
    simp at e
    exact e.2.1
  subst hn
  have hsz : sizeP k.size v a e l.length ≤ 7000 := by
    have l1 := lenN_bd v
    have l2 := lenN_bd a
    have l3 := lenN_bd e
    have l4 := lenN_bd k.size
    have l5 := lenN_bd l.length
    unfold sizeP
    omega
  have hrl := rowP_len k v a e l
  have B0 : Below w.heap.size w (w.alloc (.cells #[.string k, .int .i64 v, .int .i64 a, .int .i64 e, .slice p l.length cap] 24)) := by go_grown
  have hx0 := heap_alloc_new w (.cells #[.string k, .int .i64 v, .int .i64 a, .int .i64 e, .slice p l.length cap] 24)
  go_enter Tryd.func23, Tryd.ntmps23
  go_wp2_with fail
  refine (size_any k v a e p l.length cap _ hk hl hv.1 ha.1 he.1).mono ?_
  rintro en w1 ⟨rfl, B1⟩
  have hx1 := heap_stays hx0 B1
  have B01 : Below w.heap.size w w1 := B0.trans (B1.mono B0.size)
  clear hx0
  generalize sizeP k.size v a e l.length = m at *
  go_wp2_with (first
    | (at_make; refine wpList_make_own _ rfl _ _ 22 rfl w1.heap.size 5 i0 (.int .u8 0) 1 Tryd.underlying22 hi hz0 hz1 .i64 .i64 _ (bs.length + m) rfl rfl (by omega) (by rw [hz2]; omega) (by unfold maxLen; omega) (Nat.le_refl _) ?_; intro w2 hown2 hgrow2; have g2 := (g.stays B01).keeps hgrow2.size (fun hlt => hgrow2.block bb hlt (by simp)))
    | (at_builtin; refine wpList_append_sl _ rfl _ _ rfl w1.heap.size _ 0 [] rfl hown2 bb _ bs rfl g2 (by omega) hgrow2.size ?_; intro v3 w3 hown3 hgrow3; have B13 := ((Below.refl w1.heap.size w1).grown hgrow2 (Nat.le_refl _) (by simp)).grown hgrow3 hgrow2.size (fun k hk => (hown2.lt k hk).1); have hx3 := heap_stays hx1 B13; obtain ⟨⟨q0, q1, q2, q3, q4⟩, _⟩ := five24 hx3; have hlt3 := lt_of_block hx3))
  rw [Nat.zero_add, List.nil_append] at hown3
  have B03 : Below w.heap.size w w3 := B01.trans (B13.mono B01.size)
  refine (row_any k v a e hk hl hv ha he (h.stays B03)).mono ?_
  rintro en w4 ⟨sv4, rfl, hown4, B4⟩
  obtain ⟨b4, hb4, hs4⟩ := own_sl hown4
  have hown3' := own_below hown3 B4
  have hsz4 : w1.heap.size ≤ w4.heap.size := Nat.le_trans B13.size B4.size
  clear hown2 hgrow2 hown4 hgrow3 g2 hx3 q0 q1 q2 q3 q4
  go_wp2_with (at_builtin; refine wpList_append_sl _ rfl _ _ rfl w1.heap.size _ _ _ rfl hown3' b4 _ (rowP k v a e l) rfl hs4 (by omega) hsz4 ?_; intro v5 w5 hown5 hgrow5)
  go_ret
  rw [← U_append] at hown5
  rw [List.length_append]
  exact ⟨_, rfl, own_lower hown5 B01.size, B03.trans ((B4.mono B03.size).grown hgrow5 (Nat.le_trans B03.size B4.size) (fun k hk => Nat.le_trans B01.size (hown3'.lt k hk).1))⟩
end Go.Proofs.YtibjhjojohjokaaDoor
