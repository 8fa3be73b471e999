/-
  Take of the document.
-/
import Derived.Test.YtjlpkjgdpbjpcaaDoorRef
namespace Go.Proofs.YtjlpkjgdpbjpcaaDoor
open Go.RowKit

/-- A block of two cells. -/
def Two (w : World) (b : Nat) (x y : Value) : Prop := w.heap[b]? = some (.cells #[x, y] 33 (0, 0))
theorem Two.cells {w : World} {b : Nat} {x y : Value} (h : Two w b x y) : b < w.heap.size ∧ w.cell? ⟨b, 0, none⟩ = some x ∧ w.cell? ⟨b, 1, none⟩ = some y ∧ ∀ o, w.frozen? ⟨b, o, none⟩ = false := by
  unfold Two at h
  refine ⟨lt_of_block h, ?_, ?_, fun o => ?_⟩
  · simp [World.cell?, h]
  · simp [World.cell?, h]
  · simp [World.frozen?, h]
theorem Two.set1 {w : World} {b : Nat} {x y : Value} (h : Two w b x y) (v : Value) : Two (w.setCell ⟨b, 1, none⟩ v) b x v := by
  unfold Two at h ⊢
  simp [World.setCell, Array.getElem?_modify, h]
theorem Two.set2 {w : World} {b : Nat} {x y : Value} (h : Two w b x y) (u v : Value) : Two ((w.setCell ⟨b, 0, none⟩ u).setCell ⟨b, 1, none⟩ v) b u v := by
  unfold Two at h ⊢
  simp [World.setCell, Array.getElem?_modify, h]
theorem Two.stays {w w' : World} {b : Nat} {x y : Value} (h : Two w b x y) (hb : Below w.heap.size w w') : Two w' b x y := heap_stays h hb
theorem Two.grown {w w' : World} {b : Nat} {row : Option Nat} {x y : Value} (h : Two w b x y) (hg : w.grownBy w' row) (hr : some b ≠ row) : Two w' b x y := by
  unfold Two at h ⊢
  rw [hg.block b (lt_of_block h) hr]
  exact h

theorem below_grown {w w' : World} (h : w.grownBy w' none) : Below w.heap.size w w' := ⟨h.os, h.tape, h.output, h.size, fun k hk => h.block k hk (by simp)⟩
theorem own_ne {w : World} {B n b : Nat} {e : TypeId} {v : Value} {xs : List Value} (h : w.ownsRow B e 1 v n xs) (hb : b < B) : v.ownBlock ≠ some b := by
  rcases h.2 with ⟨rfl, _⟩ | ⟨g, cap, cur, rfl, hg, _⟩
  · simp [Value.ownBlock]
  · simp [Value.ownBlock]; omega
theorem own_lies {w : World} {B n : Nat} {e : TypeId} {v : Value} {xs : List Value} (h : w.ownsRow B e 1 v n xs) : ∀ k, v.ownBlock = some k → B ≤ k := by
  intro k hk
  rcases h.2 with ⟨rfl, _⟩ | ⟨g, cap, cur, rfl, hg, _⟩
  · simp [Value.ownBlock] at hk
  · simp [Value.ownBlock] at hk; omega

set_option maxHeartbeats 1000000 in
theorem rtake_any {w : World} {sv : Value} {l : List Int} {lim : Int} (h : Ls w sv l) (hl : l.length ≤ 4000) (ho : BudOk lim l) (c : Int) :
    Calls Tryd.prog 15 #[.agg #[.int .i64 lim, sv], .int .i64 c] w fun e w' => ∃ sv', e = .returned (.tuple #[.agg #[.int .i64 lim, sv'], .int .i64 (takeP lim l c).2]) ∧ Ls w' sv' (takeP lim l c).1 ∧ Below w.heap.size w w' := by
  obtain ⟨p, cap, hv, h2, h3, hel⟩ := h.each
  unfold maxLen at h3
  subst hv
  have HL := hid2 h
  clear h hel
  obtain ⟨g, hg⟩ : ∃ g, g = w.heap.size := ⟨_, rfl⟩
  obtain ⟨w1, hw1⟩ : ∃ w1, w1 = (w.alloc (.cells #[.int .i64 lim, .slice p l.length cap] 33)).alloc (.cells #[.int .i64 0, .slice none 0 0] 33) := ⟨_, rfl⟩
  have s1 : (w.alloc (.cells #[.int .i64 lim, .slice p l.length cap] 33)).heap.size = w.heap.size + 1 := by simp
  have A1 : Below w.heap.size w w1 := by rw [hw1]; go_grown
  have Z0 : Two w1 g (.int .i64 lim) (.slice p l.length cap) := by
    unfold Two
    rw [hw1, hg, Below.heap_alloc _ _ _ (by rw [s1]; omega)]
    exact heap_alloc_new w _
  have Z1 : Two w1 (g + 1) (.int .i64 0) (.slice none 0 0) := by
    have := heap_alloc_new (w.alloc (.cells #[.int .i64 lim, .slice p l.length cap] 33)) (.cells #[.int .i64 0, .slice none 0 0] 33)
    rw [s1, ← hw1, ← hg] at this
    exact this
  have HA := hid2 A1
  have HZ0 := hid2 Z0
  have HZ1 := hid2 Z1
  have KS := hid2 (fun W => rsize_any W c)
  have HG := hid2 hg
  have HW1 := hid2 hw1
  clear A1 s1 hg hw1
  unfold takeP
  by_cases hc : c < 0 ∨ 8 < c
  · rw [if_pos hc]
    rw [sz_out hc] at KS
    obtain ⟨a0, a1, a2, a3⟩ := Z0.cells
    obtain ⟨b0, b1, b2, b3⟩ := Z1.cells
    clear hc Z0 Z1 ho
    go_enter Tryd.func15, Tryd.ntmps15
    go_wp2_with fail
    rw [← HW1.out, ← HG.out]
    refine (show Calls _ _ _ _ _ from KS.out _).mono ?_
    rintro e wx ⟨rfl, hw⟩
    cases hw
    go_wp2
    obtain ⟨w9, hw9⟩ : ∃ w9, w9 = (w1.setCell ⟨g + 1, 0, none⟩ (.int .i64 lim)).setCell ⟨g + 1, 1, none⟩ (.slice p l.length cap) := ⟨_, rfl⟩
    have Z9 : Two w9 (g + 1) (.int .i64 lim) (.slice p l.length cap) := by rw [hw9]; exact HZ1.out.set2 _ _
    have R9 : w1.grownBy w9 (some (g + 1)) := by rw [hw9]; exact grown_set (grown_set (World.grownBy.refl _ _) _ _) _ _
    rw [← hw9]
    obtain ⟨d0, d1, d2, d3⟩ := Z9.cells
    refine bodyPost_ret (v := .tuple #[.agg #[.int .i64 lim, .slice p l.length cap], .int .i64 2]) (by simp [results, Tryd.results15, go_sem, d1, d2]) rfl ⟨_, rfl, ?_, ?_⟩
    · exact (HL.out.stays HA.out).grown R9 HZ1.out (by decide)
    · exact Below.grown (HA.out) R9 (HA.out).size (fun k hk => by cases hk; have := HG.out; omega)
  · rw [if_neg hc]
    have hs := sz_in (c := c) (by omega) (by omega)
    obtain ⟨o1, o2, o3, o4⟩ := ho
    have hun := used_nonneg l
    have KU : Hid (∀ W, Ls W (.slice p l.length cap) l → Calls Tryd.prog 23 #[.agg #[.int .i64 lim, .slice p l.length cap]] W fun e w' => e = .returned (.int .i64 (used l)) ∧ Below W.heap.size W w') := fun W k => rused_any lim k (by omega)
    generalize sz c = s at *
    generalize used l = u at *
    have hs0 : ¬ s = 0 := by omega
    have hwr : IntKind.i64.wrap (lim - u) = lim - u := by rw [IntKind.wrap_i64]; omega
    have HS1 : Hid (Two w1.drew g (.int .i64 lim) (.slice p l.length cap)) := HZ0.out
    clear Z0 Z1 o3
    by_cases hr : s > lim - u
    · rw [if_pos hr]
      have hr2 : lim - u < s := hr
      go_enter Tryd.func15, Tryd.ntmps15
      go_wp2_with fail
      rw [← HW1.out, ← HG.out]
      refine (show Calls _ _ _ _ _ from KS.out _).mono ?_
      rintro e wx ⟨rfl, hw⟩
      cases hw
      go_wp2_with fail
      refine wp_region_held_drew (S := fun W => Two W g (.int .i64 lim) (.slice p l.length cap)) (by kernel_rfl) (HS1.out) (fun hS => ?_)
      change wpAnyH _ _ _ _ _ _ _ _ (World.drew _)
      have D1 : Below w1.heap.size w1 (World.drew w1) := (Below.refl _ _).drew
      refine wpAnyH_take (i := 0) (v := .int .i64 c) rfl (by kernel_rfl) (by kernel_rfl) (by kernel_rfl) (fun _ _ _ h => h) (Or.inl ⟨by kernel_rfl, ?_⟩) hS ?_
      · intro w hw; clear hw; go_simp
      change wpAnyH _ _ _ _ _ _ _ (Act.put _ (some 11) _) _
      simp only [Act.put, List.setIfInBounds_toArray, List.set_cons_succ, List.set_cons_zero]
      refine wpAnyH_take (i := 2) (v := .pointer (some ⟨g, 0, none⟩)) rfl (by kernel_rfl) (by kernel_rfl) (by kernel_rfl) (fun _ _ _ h => h) (Or.inl ⟨by kernel_rfl, ?_⟩) hS ?_
      · intro w hw; clear hw; go_simp
      change wpAnyH _ _ _ _ _ _ _ (Act.put _ (some 13) _) _
      simp only [Act.put, List.setIfInBounds_toArray, List.set_cons_succ, List.set_cons_zero]
      refine wpAnyH_take (i := 3) (v := .int .i64 lim) rfl (by kernel_rfl) (by kernel_rfl) (by kernel_rfl) (fun _ _ _ h => h) (Or.inl ⟨by kernel_rfl, ?_⟩) hS ?_
      · intro w hw
        obtain ⟨e0, e1, e2, e3⟩ := Two.cells hw
        go_simp
      change wpAnyH _ _ _ _ _ _ _ (Act.put _ (some 14) _) _
      simp only [Act.put, List.setIfInBounds_toArray, List.set_cons_succ, List.set_cons_zero]
      refine wpAnyH_take (i := 4) (v := .agg #[.int .i64 lim, .slice p l.length cap]) rfl (by kernel_rfl) (by kernel_rfl) (by kernel_rfl) (fun _ _ _ h => h) (Or.inl ⟨by kernel_rfl, ?_⟩) hS ?_
      · intro w hw
        obtain ⟨e0, e1, e2, e3⟩ := Two.cells hw
        go_simp
      change wpAnyH _ _ _ _ _ _ _ (Act.put _ (some 15) _) _
      simp only [Act.put, List.setIfInBounds_toArray, List.set_cons_succ, List.set_cons_zero]
      refine wpAnyH_ready (rs := [1]) (by kernel_rfl) (by simp) ?_
      refine AllReadyH.cons rfl (fun K hK => ?_) AllReadyH.nil
      go_simp
      go_wp2_with (go_at_call 8; refine (show Calls _ _ _ _ _ from KS.out _).mono ?_; rintro en wx ⟨rfl, hwx⟩; cases hwx)
      refine hK.out _ _ (hS) (fun hS => ?_)
      clear hK K
      skip
      refine wpAnyH_ready (rs := [5]) (by kernel_rfl) (by simp) ?_
      refine AllReadyH.cons rfl (fun K hK => ?_) AllReadyH.nil
      go_simp
      go_wp2_with (go_at_call 23; refine (show Calls _ _ _ _ _ from KU.out _ (HL.out.stays (HA.out.trans (D1.mono HA.out.size)))).mono ?_; rintro en w3 ⟨rfl, B3⟩)
      have D3 := D1.trans (B3.mono D1.size)
      refine hK.out _ _ (Two.stays hS B3) (fun hS => ?_)
      clear hK K
      skip
      refine wpAnyH_take (i := 6) (v := .int .i64 (lim - u)) rfl (by kernel_rfl) (by kernel_rfl) (by kernel_rfl) (fun _ _ _ h => h) (Or.inl ⟨by kernel_rfl, ?_⟩) hS ?_
      · intro w hw; clear hw; go_simp
      change wpAnyH _ _ _ _ _ _ _ (Act.put _ (some 17) _) _
      simp only [Act.put, List.setIfInBounds_toArray, List.set_cons_succ, List.set_cons_zero]
      refine wpAnyH_take (i := 7) (v := .bool true) rfl (by kernel_rfl) (by kernel_rfl) (by kernel_rfl) (fun _ _ _ h => h) (Or.inl ⟨by kernel_rfl, ?_⟩) hS ?_
      · intro w hw; clear hw; go_simp
      change wpAnyH _ _ _ _ _ _ _ (Act.put _ (some 18) _) _
      simp only [Act.put, List.setIfInBounds_toArray, List.set_cons_succ, List.set_cons_zero]
      refine wpAnyH_done (by kernel_rfl) ?_ _
      have HZ3 := hid2 (HZ1.out.stays D3)
      have HA3 := hid2 (HA.out.trans (D3.mono HA.out.size))
      obtain ⟨a0, a1, a2, a3⟩ := Two.cells hS
      obtain ⟨b0, b1, b2, b3⟩ := HZ3.out.cells
      clear hS B3 D3 D1
      go_wp2
      obtain ⟨w9, hw9⟩ : ∃ w9, w9 = (w3.setCell ⟨g + 1, 0, none⟩ (.int .i64 lim)).setCell ⟨g + 1, 1, none⟩ (.slice p l.length cap) := ⟨_, rfl⟩
      have Z9 : Two w9 (g + 1) (.int .i64 lim) (.slice p l.length cap) := by rw [hw9]; exact HZ3.out.set2 _ _
      have R9 : w3.grownBy w9 (some (g + 1)) := by rw [hw9]; exact grown_set (grown_set (World.grownBy.refl _ _) _ _) _ _
      rw [← hw9]
      obtain ⟨d0, d1, d2, d3⟩ := Z9.cells
      refine bodyPost_ret (v := .tuple #[.agg #[.int .i64 lim, .slice p l.length cap], .int .i64 4]) (by simp [results, Tryd.results15, go_sem, d1, d2]) rfl ⟨_, rfl, ?_, ?_⟩
      · exact (HL.out.stays HA3.out).grown R9 HZ3.out (by decide)
      · exact Below.grown (HA3.out) R9 (HA3.out).size (fun k hk => by cases hk; have := HG.out; omega)
    · rw [if_neg hr]
      have hr2 : ¬ lim - u < s := by omega
      go_enter Tryd.func15, Tryd.ntmps15
      go_wp2_with fail
      rw [← HW1.out, ← HG.out]
      refine (show Calls _ _ _ _ _ from KS.out _).mono ?_
      rintro e wx ⟨rfl, hw⟩
      cases hw
      go_wp2_with fail
      refine wp_region_held_drew (S := fun W => Two W g (.int .i64 lim) (.slice p l.length cap)) (by kernel_rfl) (HS1.out) (fun hS => ?_)
      change wpAnyH _ _ _ _ _ _ _ _ (World.drew _)
      have D1 : Below w1.heap.size w1 (World.drew w1) := (Below.refl _ _).drew
      refine wpAnyH_take (i := 0) (v := .int .i64 c) rfl (by kernel_rfl) (by kernel_rfl) (by kernel_rfl) (fun _ _ _ h => h) (Or.inl ⟨by kernel_rfl, ?_⟩) hS ?_
      · intro w hw; clear hw; go_simp
      change wpAnyH _ _ _ _ _ _ _ (Act.put _ (some 11) _) _
      simp only [Act.put, List.setIfInBounds_toArray, List.set_cons_succ, List.set_cons_zero]
      refine wpAnyH_take (i := 2) (v := .pointer (some ⟨g, 0, none⟩)) rfl (by kernel_rfl) (by kernel_rfl) (by kernel_rfl) (fun _ _ _ h => h) (Or.inl ⟨by kernel_rfl, ?_⟩) hS ?_
      · intro w hw; clear hw; go_simp
      change wpAnyH _ _ _ _ _ _ _ (Act.put _ (some 13) _) _
      simp only [Act.put, List.setIfInBounds_toArray, List.set_cons_succ, List.set_cons_zero]
      refine wpAnyH_take (i := 3) (v := .int .i64 lim) rfl (by kernel_rfl) (by kernel_rfl) (by kernel_rfl) (fun _ _ _ h => h) (Or.inl ⟨by kernel_rfl, ?_⟩) hS ?_
      · intro w hw
        obtain ⟨e0, e1, e2, e3⟩ := Two.cells hw
        go_simp
      change wpAnyH _ _ _ _ _ _ _ (Act.put _ (some 14) _) _
      simp only [Act.put, List.setIfInBounds_toArray, List.set_cons_succ, List.set_cons_zero]
      refine wpAnyH_take (i := 4) (v := .agg #[.int .i64 lim, .slice p l.length cap]) rfl (by kernel_rfl) (by kernel_rfl) (by kernel_rfl) (fun _ _ _ h => h) (Or.inl ⟨by kernel_rfl, ?_⟩) hS ?_
      · intro w hw
        obtain ⟨e0, e1, e2, e3⟩ := Two.cells hw
        go_simp
      change wpAnyH _ _ _ _ _ _ _ (Act.put _ (some 15) _) _
      simp only [Act.put, List.setIfInBounds_toArray, List.set_cons_succ, List.set_cons_zero]
      refine wpAnyH_ready (rs := [1]) (by kernel_rfl) (by simp) ?_
      refine AllReadyH.cons rfl (fun K hK => ?_) AllReadyH.nil
      go_simp
      go_wp2_with (go_at_call 8; refine (show Calls _ _ _ _ _ from KS.out _).mono ?_; rintro en wx ⟨rfl, hwx⟩; cases hwx)
      refine hK.out _ _ (hS) (fun hS => ?_)
      clear hK K
      skip
      refine wpAnyH_ready (rs := [5]) (by kernel_rfl) (by simp) ?_
      refine AllReadyH.cons rfl (fun K hK => ?_) AllReadyH.nil
      go_simp
      go_wp2_with (go_at_call 23; refine (show Calls _ _ _ _ _ from KU.out _ (HL.out.stays (HA.out.trans (D1.mono HA.out.size)))).mono ?_; rintro en w3 ⟨rfl, B3⟩)
      have D3 := D1.trans (B3.mono D1.size)
      refine hK.out _ _ (Two.stays hS B3) (fun hS => ?_)
      clear hK K
      skip
      refine wpAnyH_take (i := 6) (v := .int .i64 (lim - u)) rfl (by kernel_rfl) (by kernel_rfl) (by kernel_rfl) (fun _ _ _ h => h) (Or.inl ⟨by kernel_rfl, ?_⟩) hS ?_
      · intro w hw; clear hw; go_simp
      change wpAnyH _ _ _ _ _ _ _ (Act.put _ (some 17) _) _
      simp only [Act.put, List.setIfInBounds_toArray, List.set_cons_succ, List.set_cons_zero]
      refine wpAnyH_take (i := 7) (v := .bool false) rfl (by kernel_rfl) (by kernel_rfl) (by kernel_rfl) (fun _ _ _ h => h) (Or.inl ⟨by kernel_rfl, ?_⟩) hS ?_
      · intro w hw; clear hw; go_simp
      change wpAnyH _ _ _ _ _ _ _ (Act.put _ (some 18) _) _
      simp only [Act.put, List.setIfInBounds_toArray, List.set_cons_succ, List.set_cons_zero]
      refine wpAnyH_done (by kernel_rfl) ?_ _
      have HA3 := hid2 (HA.out.trans (D3.mono HA.out.size))
      obtain ⟨q, hq⟩ : ∃ q, q = w3.heap.size := ⟨_, rfl⟩
      obtain ⟨w4, hw4⟩ : ∃ w4, w4 = w3.alloc (.cells #[.int .i64 lim, .slice none 0 0] 33) := ⟨_, rfl⟩
      have A4 : Below w3.heap.size w3 w4 := by rw [hw4]; go_grown
      have HZ4 := hid2 ((HZ1.out.stays D3).stays A4)
      have HQ4 := hid2 (Two.stays hS A4)
      have HB4 := hid2 (HA3.out.trans (A4.mono HA3.out.size))
      have HT4 : Hid (Two w4 q (.int .i64 lim) (.slice none 0 0)) := by
        show Two _ _ _ _
        rw [hw4, hq]
        exact heap_alloc_new w3 _
      have HL4 := hid2 (HL.out.stays HB4.out)
      have hgq : g + 1 < q := by rw [hq]; exact lt_of_block (HZ1.out.stays D3)
      have hq4 : q < w4.heap.size := lt_of_block HT4.out
      have HQ := hid2 hq
      have HW4 := hid2 hw4
      obtain ⟨a0, a1, a2, a3⟩ := Two.cells hS
      obtain ⟨bl, HSL, _⟩ := HL4.out
      have HSL := hid2 HSL
      clear hS B3 D3 D1 A4 hq hw4
      go_wp2_with (first
        | (at_builtin; rw [← HW4.out, ← HQ.out]; clear HW4 HQ; refine wpList_append_gen Tryd.underlying31 elem3 rfl (by decide) _ rfl _ _ rfl w4.heap.size (.slice none 0 0) 0 [] rfl (World.ownsRow_nil _ _ _ _) bl _ (I l) (I_one _) rfl HSL.out (by rw [I_length]; omega) (Nat.le_refl _) ?_; intro v5 w5 hown5 hgrow5
           rw [Nat.zero_add, I_length, List.nil_append] at hown5
           obtain ⟨p5, cap5, rfl⟩ := own_len hown5
           have B5 := below_grown hgrow5
           have HB5 := hid2 (HB4.out.trans (B5.mono HB4.out.size))
           have HZ5 := hid2 (HZ4.out.stays B5)
           have HT5 := HT4.out.stays B5
           obtain ⟨w6, hw6⟩ : ∃ w6, w6 = w5.setCell ⟨q, 1, none⟩ (.slice p5 l.length cap5) := ⟨_, rfl⟩
           have HT6 := hid2 (HT5.set1 (.slice p5 l.length cap5))
           have R6 := grown_set (World.grownBy.refl w5 (some q)) 1 (.slice p5 l.length cap5)
           rw [← hw6] at HT6 R6
           have HO6 := hid2 (hown5.kept R6 (.inr (own_ne hown5 hq4)))
           have HZ6 := hid2 (HZ5.out.grown R6 (by simp; omega))
           have HB6 : Hid (Below w.heap.size w w6) := HB5.out.grown R6 HB5.out.size (fun k hk => by cases hk; have := HG.out; omega)
           have HN6 := hid2 (own_ne HO6.out hq4)
           have HN7 := hid2 (own_ne HO6.out (show g + 1 < w4.heap.size by omega))
           have HM6 := hid2 (own_lies HO6.out)
           have HS6 : Hid (w6.heap.size = w5.heap.size) := by show _ = _; rw [hw6]; simp
           have H46 : Hid (w4.heap.size ≤ w6.heap.size) := Nat.le_trans B5.size R6.size
           obtain ⟨t0, t1, t2, t3⟩ := HT5.cells
           have HW6 := hid2 hw6
           have HS7 : Hid (SlAt (w6.alloc (.cells #[.int .i64 c] 3)) w5.heap.size (.slice (some ⟨w5.heap.size, 0, none⟩) 1 1) (I [c])) := by
             show SlAt _ _ _ _
             have := sl_one_new w6 3 (.int .i64 c)
             rw [HS6.out] at this
             exact this
           clear hown5 hgrow5 B5 HT5 hw6 R6)
        | (at_builtin; rw [← HW6.out]; clear HW6; refine wpList_append_gen Tryd.underlying31 elem3 rfl (by decide) _ rfl _ _ rfl w4.heap.size (.slice p5 l.length cap5) l.length (I l) rfl (HO6.out.alloc _) w5.heap.size _ (I [c]) (I_one _) rfl HS7.out (by simp [I]; omega) (by simp; have := H46.out; omega) ?_; intro v7 w7 hown7 hgrow7
           have e7 : (I [c]).length = 1 := rfl
           rw [e7, ← I_append] at hown7
           obtain ⟨p7, cap7, rfl⟩ := own_len hown7
           have R7 := (World.grownBy_alloc w6 (.cells #[.int .i64 c] 3) _).trans hgrow7
           have HT7 := HT6.out.grown R7 (fun e => HN6.out e.symm)
           have HZ7 := HZ6.out.grown R7 (fun e => HN7.out e.symm)
           have B7 : Below w.heap.size w w7 := HB6.out.grown R7 HB6.out.size (fun k hk => Nat.le_trans HB4.out.size (HM6.out k hk))
           obtain ⟨w8, hw8⟩ : ∃ w8, w8 = w7.setCell ⟨q, 1, none⟩ (.slice p7 (l.length + 1) cap7) := ⟨_, rfl⟩
           have R8 := grown_set (World.grownBy.refl w7 (some q)) 1 (.slice p7 (l.length + 1) cap7)
           have HT8 := HT7.set1 (.slice p7 (l.length + 1) cap7)
           rw [← hw8] at R8 HT8
           have HZ8 := hid2 (HZ7.grown R8 (by simp; omega))
           have HB8 : Hid (Below w.heap.size w w8) := B7.grown R8 B7.size (fun k hk => by cases hk; have := HG.out; omega)
           have HL8 := hid2 ((Ls.own hown7).grown R8 HT7 (by decide))
           obtain ⟨t0, t1, t2, t3⟩ := HT7.cells
           obtain ⟨z0, z1, z2, z3⟩ := HZ7.cells
           have HW8 := hid2 hw8
           clear hown7 hgrow7 R7 HT7 HZ7 B7 R8 HT8 hw8 e7))
      rw [← HW8.out]
      obtain ⟨w9, hw9⟩ : ∃ w9, w9 = (w8.setCell ⟨g + 1, 0, none⟩ (.int .i64 lim)).setCell ⟨g + 1, 1, none⟩ (.slice p7 (l.length + 1) cap7) := ⟨_, rfl⟩
      have Z9 : Two w9 (g + 1) (.int .i64 lim) (.slice p7 (l.length + 1) cap7) := by rw [hw9]; exact HZ8.out.set2 _ _
      have R9 : w8.grownBy w9 (some (g + 1)) := by rw [hw9]; exact grown_set (grown_set (World.grownBy.refl _ _) _ _) _ _
      rw [← hw9]
      obtain ⟨d0, d1, d2, d3⟩ := Z9.cells
      refine bodyPost_ret (v := .tuple #[.agg #[.int .i64 lim, .slice p7 (l.length + 1) cap7], .int .i64 0]) (by simp [results, Tryd.results15, go_sem, d1, d2]) rfl ⟨_, rfl, ?_, ?_⟩
      · exact (HL8.out).grown R9 HZ8.out (by decide)
      · exact Below.grown (HB8.out) R9 (HB8.out).size (fun k hk => by cases hk; have := HG.out; omega)

end Go.Proofs.YtjlpkjgdpbjpcaaDoor
