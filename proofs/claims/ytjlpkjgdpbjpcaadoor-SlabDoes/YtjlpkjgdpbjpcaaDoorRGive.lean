/-
  Give of the document.
-/
import Derived.Test.YtjlpkjgdpbjpcaaDoorRTake
namespace Go.Proofs.YtjlpkjgdpbjpcaaDoor
open Go.RowKit

/-- An append of numbers that lie somewhere to a row of the call's own, in a region that draws its order. -/
theorem step_append_i {ops : Array Oper} {o : Oper} {a : Act} {w : World} {K : Act → World → Prop} {Q : Exit → Act → World → Prop} {E : Prop} (hgd : o.guard = none) (s x : Operand)
    (ho : o.op = .call { callee := .builtin .append, args := #[s, x], argTypes := #[31, 31] }) (B : Nat) (v : Value) (n : Nat) (xs : List Value) (hs : a.eval s = v) (hown : w.ownsRow B 3 1 v n xs)
    (b off m c : Nat) (ys : List Int) (hx : a.eval x = .slice (some ⟨b, off, none⟩) m c) (hym : ys.length = m) (hel : ∀ (j : Nat) (y : Int), ys[j]? = some y → w.cell? ⟨b, off + j, none⟩ = some (.int .i64 y)) (hbd : n + m ≤ 5000) (hB : B ≤ w.heap.size)
    (h : ∀ v' w', w'.ownsRow B 3 1 v' (n + m) (xs ++ I ys) → w.grownBy w' v.ownBlock → K (a.put o.dst v') w') : if Region.wanted o (yielded ops a.tmps) = true then Oper.wp Tryd.prog o a w K Q else E := by
  have hwt : Region.wanted o (yielded ops a.tmps) = true := by simp [Region.wanted, hgd]
  rw [if_pos hwt]
  obtain ⟨i, hi, hz0, hz1, hz2⟩ := elem3
  refine wp_append_own w s x 31 ho B 3 i (.int .i64 0) 1 8 Tryd.underlying31 hi hz0 hz1 hz2 rfl (by decide) v n xs hs hown ⟨b, off, none⟩ m c (I ys) hx (by rw [I_length, Nat.mul_one, hym]) ?_ (I_one ys) (by unfold maxLen; omega) (by omega) hB ?_
  · intro j u hj
    have hjl : j < ys.length := by
      have := (List.getElem?_eq_some_iff.1 hj).1
      rwa [I_length] at this
    have e := I_at (List.getElem?_eq_getElem hjl)
    rw [e] at hj
    cases hj
    rw [add_off]
    exact hel j _ (List.getElem?_eq_getElem hjl)
  · intro v' w' k1 k2 _
    exact h v' w' k1 k2

theorem give_none {l : List Int} {c : Int} (hc : ¬ (c < 0 ∨ 8 < c)) (h : ¬ c ∈ l) : giveP l c = (l, 9) := by
  unfold giveP
  rw [if_neg hc, if_pos]
  have := cnt_pos (l := l) (c := c)
  by_cases hz : 0 < cnt l c
  · exact absurd (this.1 hz) h
  · omega
theorem give_some {l : List Int} {c : Int} {k : Nat} (hc : ¬ (c < 0 ∨ 8 < c)) (hk : l[k]? = some c) (h : ¬ c ∈ l.take k) : giveP l c = (l.take k ++ l.drop (k + 1), 0) := by
  unfold giveP
  have hm : c ∈ l := List.mem_of_getElem? hk
  rw [if_neg hc, if_neg (Nat.pos_iff_ne_zero.1 (cnt_pos.2 hm))]
  obtain ⟨hl, rfl⟩ := List.getElem?_eq_some_iff.1 hk
  rw [erase_split (a := l.take k) (b := l.drop (k + 1)) ?_ h]
  rw [List.getElem_cons_drop]
  exact (List.take_append_drop k l).symm

set_option maxHeartbeats 2000000 in
theorem rgive_any {w : World} {sv : Value} {l : List Int} {lim : Int} (h : Ls w sv l) (hl : l.length ≤ 4000) (c : Int) :
    Calls Tryd.prog 17 #[.agg #[.int .i64 lim, sv], .int .i64 c] w fun e w' => ∃ sv', e = .returned (.tuple #[.agg #[.int .i64 lim, sv'], .int .i64 (giveP l c).2]) ∧ Ls w' sv' (giveP l c).1 ∧ Below w.heap.size w w' := by
  obtain ⟨p, cap, hv, h2, h3, hel⟩ := h.each
  unfold maxLen at h3
  subst hv
  have HL := hid2 h
  have HEL := hid2 hel
  clear h hel
  obtain ⟨g, hg⟩ : ∃ g, g = w.heap.size := ⟨_, rfl⟩
  obtain ⟨w1, hw1⟩ : ∃ w1, w1 = (w.alloc (.cells #[.int .i64 lim, .slice p l.length cap] 33)).alloc (.cells #[.int .i64 0, .slice none 0 0] 33) := ⟨_, rfl⟩
  have s1 : (w.alloc (.cells #[.int .i64 lim, .slice p l.length cap] 33)).heap.size = w.heap.size + 1 := by simp
  have A1 : Below w.heap.size w w1 := by rw [hw1]; go_grown
  have Z0 : Two w1 g (.int .i64 lim) (.slice p l.length cap) := by
    unfold Two
    rw [hw1, hg, Below.heap_alloc _ _ _ (by rw [s1]; omega)]
    exact heap_alloc_new w _
  have Z1 : Two w1 (g + 1) (.int .i64 0) (.slice none 0 0) := by
    have := heap_alloc_new (w.alloc (.cells #[.int .i64 lim, .slice p l.length cap] 33)) (.cells #[.int .i64 0, .slice none 0 0] 33)
    rw [s1, ← hw1, ← hg] at this
    exact this
  have HA := hid2 A1
  have HZ0 := hid2 Z0
  have HZ1 := hid2 Z1
  have KS := hid2 (fun W => rsize_any W c)
  have HG := hid2 hg
  have HW1 := hid2 hw1
  clear A1 s1 hg hw1
  obtain ⟨a0, a1, a2, a3⟩ := Z0.cells
  obtain ⟨b0, b1, b2, b3⟩ := Z1.cells
  clear Z0 Z1
  by_cases hc : c < 0 ∨ 8 < c
  · have HP : Hid (giveP l c = (l, 2)) := by show _ = _; unfold giveP; rw [if_pos hc]
    rw [sz_out hc] at KS
    clear hc
    go_enter Tryd.func17, Tryd.ntmps17
    go_wp2_with fail
    rw [← HW1.out, ← HG.out]
    refine (show Calls _ _ _ _ _ from KS.out _).mono ?_
    rintro e wx ⟨rfl, hw⟩
    cases hw
    go_wp2
    obtain ⟨w9, hw9⟩ : ∃ w9, w9 = (w1.setCell ⟨g + 1, 0, none⟩ (.int .i64 lim)).setCell ⟨g + 1, 1, none⟩ (.slice p l.length cap) := ⟨_, rfl⟩
    have Z9 : Two w9 (g + 1) (.int .i64 lim) (.slice p l.length cap) := by rw [hw9]; exact HZ1.out.set2 _ _
    have R9 : w1.grownBy w9 (some (g + 1)) := by rw [hw9]; exact grown_set (grown_set (World.grownBy.refl _ _) _ _) _ _
    rw [← hw9]
    obtain ⟨d0, d1, d2, d3⟩ := Z9.cells
    rw [HP.out]
    refine bodyPost_ret (v := .tuple #[.agg #[.int .i64 lim, .slice p l.length cap], .int .i64 2]) (by simp [results, Tryd.results17, go_sem, d1, d2]) rfl ⟨_, rfl, ?_, ?_⟩
    · exact (HL.out.stays HA.out).grown R9 HZ1.out (by decide)
    · exact Below.grown (HA.out) R9 (HA.out).size (fun k hk => by cases hk; have := HG.out; omega)
  · have hs := sz_in (c := c) (by omega) (by omega)
    have HP0 : Hid (¬ c ∈ l → giveP l c = (l, 9)) := give_none hc
    have HP1 : Hid (∀ k : Nat, l[k]? = some c → ¬ c ∈ l.take k → giveP l c = (l.take k ++ l.drop (k + 1), 0)) := fun k h1 h2 => give_some hc h1 h2
    generalize sz c = s at *
    have hs0 : ¬ s = 0 := by omega
    clear hc hs
    go_enter Tryd.func17, Tryd.ntmps17
    go_wp2_with fail
    rw [← HW1.out, ← HG.out]
    refine (show Calls _ _ _ _ _ from KS.out _).mono ?_
    rintro e wx ⟨rfl, hw⟩
    cases hw
    go_wp2_with fail
    go_loop [6] (fun i => ∃ k : Nat, k ≤ l.length ∧ i = .int .i64 (k : Int) ∧ ¬ c ∈ l.take k) (fun i => l.length - (intOf i).toNat)
    case atStart => exact ⟨0, Nat.zero_le _, rfl, by simp⟩
    case round =>
      obtain ⟨k, hk, rfl, hnm⟩ := hrel
      have HN := hid2 hnm
      clear hnm
      by_cases hlt : k < l.length
      · obtain ⟨x, hx⟩ : ∃ x, l[k]? = some x := ⟨l[k], List.getElem?_eq_getElem hlt⟩
        obtain ⟨bl, off, rfl, hbl, hce⟩ := HEL.out k x hx
        have c3 := (HA.out.cell (p := ⟨bl, off + k, none⟩) hbl).trans hce
        have c4 : bl < w1.heap.size := Nat.lt_of_lt_of_le hbl HA.out.size
        have HX := hid2 hx
        clear hx hce
        by_cases hcx : x = c
        · subst hcx
          have HA1 := HA
          obtain ⟨q, hq⟩ : ∃ q, q = w1.heap.size := ⟨_, rfl⟩
          obtain ⟨w4, hw4⟩ : ∃ w4, w4 = w1.alloc (.cells #[.int .i64 lim, .slice none 0 0] 33) := ⟨_, rfl⟩
          have A4 : Below w1.heap.size w1 w4 := by rw [hw4]; go_grown
          have HZ4 := hid2 (HZ1.out.stays A4)
          have HQ4 : Hid (Two w4.drew g (.int .i64 lim) (.slice (some ⟨bl, off, none⟩) l.length cap)) := HZ0.out.stays (w' := w4) A4
          have HB4 := hid2 (HA.out.trans (A4.mono HA.out.size))
          have HT4 : Hid (Two w4 q (.int .i64 lim) (.slice none 0 0)) := by
            show Two _ _ _ _
            rw [hw4, hq]
            exact heap_alloc_new w1 _
          have HE4 : Hid (∀ (k : Nat) (x : Int), l[k]? = some x → w4.cell? ⟨bl, off + k, none⟩ = some (.int .i64 x)) := fun k x hk => by
            obtain ⟨b', off', e1, e2, e3⟩ := HEL.out k x hk
            simp only [Option.some.injEq, Addr.mk.injEq, and_true] at e1
            obtain ⟨rfl, rfl⟩ := e1
            exact (HB4.out.cell (p := ⟨_, _, none⟩) e2).trans e3
          have hb4 : bl < w4.heap.size := Nat.lt_of_lt_of_le hbl HB4.out.size
          have hgq : g + 1 < q := by rw [hq]; exact lt_of_block HZ1.out
          have hq4 : q < w4.heap.size := lt_of_block HT4.out
          have hblq : bl ≠ q := by have := lt_of_block HZ1.out; omega
          have HC1 : Hid (∀ (j : Nat) (y : Int), (l.take k)[j]? = some y → (World.drew w4).cell? ⟨bl, off + j, none⟩ = some (.int .i64 y)) := fun j y hj => by
            rw [List.getElem?_take] at hj
            split at hj
            · exact HE4.out j y hj
            · cases hj
          obtain ⟨f0, f1, f2, f3⟩ := (show Two (World.drew w4) q (.int .i64 lim) (.slice none 0 0) from HT4.out).cells
          have HQ := hid2 hq
          have HW4 := hid2 hw4
          clear A4 hq hw4
          go_wp2_with fail
          rw [← HW4.out, ← HQ.out]
          refine wp_region_held_drew (S := fun W => Two W g (.int .i64 lim) (.slice (some ⟨bl, off, none⟩) l.length cap)) (by kernel_rfl) (HQ4.out) (fun hS => ?_)
          change wpAnyH _ _ _ _ _ _ _ _ (World.drew _)
          refine wpAnyH_take (i := 0) (v := .pointer (some ⟨q, 1, none⟩)) rfl (by kernel_rfl) (by kernel_rfl) (by kernel_rfl) (fun _ _ _ h => h) (Or.inl ⟨by kernel_rfl, ?_⟩) hS ?_
          · intro w hw; clear hw; go_simp
          change wpAnyH _ _ _ _ _ _ _ (Act.put _ (some 29) _) _
          simp only [Act.put, List.setIfInBounds_toArray, List.set_cons_succ, List.set_cons_zero]
          refine wpAnyH_take (i := 2) (v := .pointer (some ⟨g, 1, none⟩)) rfl (by kernel_rfl) (by kernel_rfl) (by kernel_rfl) (fun _ _ _ h => h) (Or.inl ⟨by kernel_rfl, ?_⟩) hS ?_
          · intro w hw; clear hw; go_simp
          change wpAnyH _ _ _ _ _ _ _ (Act.put _ (some 31) _) _
          simp only [Act.put, List.setIfInBounds_toArray, List.set_cons_succ, List.set_cons_zero]
          refine wpAnyH_take (i := 3) (v := .slice (some ⟨bl, off, none⟩) l.length cap) rfl (by kernel_rfl) (by kernel_rfl) (by kernel_rfl) (fun _ _ _ h => h) (Or.inl ⟨by kernel_rfl, ?_⟩) hS ?_
          · intro w hw
            obtain ⟨e0, e1, e2, e3⟩ := Two.cells hw
            go_simp
          change wpAnyH _ _ _ _ _ _ _ (Act.put _ (some 32) _) _
          simp only [Act.put, List.setIfInBounds_toArray, List.set_cons_succ, List.set_cons_zero]
          refine wpAnyH_take (i := 4) (v := .int .i64 (k : Int)) rfl (by kernel_rfl) (by kernel_rfl) (by kernel_rfl) (fun _ _ _ h => h) (Or.inl ⟨by kernel_rfl, ?_⟩) hS ?_
          · intro w hw; clear hw; go_simp
          change wpAnyH _ _ _ _ _ _ _ (Act.put _ (some 33) _) _
          simp only [Act.put, List.setIfInBounds_toArray, List.set_cons_succ, List.set_cons_zero]
          refine wpAnyH_take (i := 5) (v := .slice (some ⟨bl, off, none⟩) k cap) rfl (by kernel_rfl) (by kernel_rfl) (by kernel_rfl) (fun _ _ _ h => h) (Or.inl ⟨by kernel_rfl, ?_⟩) hS ?_
          · intro w hw
            clear hw
            go_simp
            intro hh
            exfalso
            omega
          change wpAnyH _ _ _ _ _ _ _ (Act.put _ (some 34) _) _
          simp only [Act.put, List.setIfInBounds_toArray, List.set_cons_succ, List.set_cons_zero]
          refine wpAnyH_ready (rs := [1]) (by kernel_rfl) (by simp) ?_
          refine AllReadyH.cons rfl (fun K hK => ?_) AllReadyH.nil
          go_simp
          go_wp2_with fail
          refine hK.out _ _ hS (fun hS => ?_)
          clear hK K
          refine wpAnyH_ready (rs := [6]) (by kernel_rfl) (by simp) ?_
          refine AllReadyH.cons rfl (fun K hK => ?_) AllReadyH.nil
          refine step_append_i rfl (.tmp 30) (.tmp 34) rfl w4.heap.size (.slice none 0 0) 0 [] rfl (World.ownsRow_nil _ _ _ _) bl off k cap (l.take k) rfl (by simp; omega) HC1.out (by omega) (Nat.le_refl _) ?_
          intro v5 w5 hown5 hgrow5
          rw [Nat.zero_add, List.nil_append] at hown5
          obtain ⟨p5, cap5, rfl⟩ := own_len hown5
          have B5 : Below w4.heap.size w4 w5 := below_grown (w := w4) ⟨hgrow5.os, hgrow5.tape, hgrow5.output, hgrow5.size, hgrow5.block⟩
          refine hK.out _ _ (Two.stays (w := w4) hS B5) (fun hS => ?_)
          clear hK K
          simp only [Act.put, List.setIfInBounds_toArray]
          refine wpAnyH_take (i := 7) (v := .pointer (some ⟨q, 1, none⟩)) rfl (by kernel_rfl) (by kernel_rfl) (by kernel_rfl) (fun _ _ _ h => h) (Or.inl ⟨by kernel_rfl, ?_⟩) hS ?_
          · intro w hw; clear hw; go_simp
          change wpAnyH _ _ _ _ _ _ _ (Act.put _ (some 36) _) _
          simp only [Act.put]
          have HB5 := hid2 (HB4.out.trans (B5.mono HB4.out.size))
          have HZ5 := hid2 (HZ4.out.stays B5)
          have HT5 := HT4.out.stays B5
          obtain ⟨w6, hw6⟩ : ∃ w6, w6 = w5.setCell ⟨q, 1, none⟩ (.slice p5 k cap5) := ⟨_, rfl⟩
          have HT6 := hid2 (HT5.set1 (.slice p5 k cap5))
          have R6 := grown_set (World.grownBy.refl w5 (some q)) 1 (.slice p5 k cap5)
          rw [← hw6] at HT6 R6
          have HO6 := hid2 (hown5.kept R6 (.inr (own_ne hown5 hq4)))
          have HZ6 := hid2 (HZ5.out.grown R6 (by simp; omega))
          have HG6 := hid2 (Two.grown hS R6 (by simp; omega))
          have HB6 : Hid (Below w.heap.size w w6) := HB5.out.grown R6 HB5.out.size (fun k hk => by cases hk; have := HG.out; omega)
          have HN6 := hid2 (own_ne HO6.out hq4)
          have HN7 := hid2 (own_ne HO6.out (show g + 1 < w4.heap.size by omega))
          have HM6 := hid2 (own_lies HO6.out)
          have H46 : Hid (w4.heap.size ≤ w6.heap.size) := Nat.le_trans B5.size R6.size
          have HC6 : Hid (∀ (j : Nat) (y : Int), l[j]? = some y → w6.cell? ⟨bl, off + j, none⟩ = some (.int .i64 y)) := fun j y hj => by
            rw [World.cell?_of_block (R6.block bl (Nat.lt_of_lt_of_le hb4 B5.size) (by simpa using hblq)), B5.cell (p := ⟨bl, off + j, none⟩) hb4]
            exact HE4.out j y hj
          obtain ⟨t0, t1, t2, t3⟩ := HT5.cells
          have HW6 := hid2 hw6
          clear hown5 hgrow5 B5 HT5 hw6 R6
          refine wpAnyH_ready (rs := [8]) (by kernel_rfl) (by simp) ?_
          refine AllReadyH.cons rfl (fun K hK => ?_) AllReadyH.nil
          go_simp
          go_wp2_with fail
          rw [← HW6.out]
          refine hK.out _ _ HG6.out (fun hS => ?_)
          clear hK K
          refine wpAnyH_done (by kernel_rfl) ?_ _
          clear hS t0 t1 t2 t3
          obtain ⟨o2, ho2⟩ : ∃ o2, o2 = if cap = k + 1 then off else off + (k + 1) := ⟨_, rfl⟩
          have HC2 : Hid (∀ (j : Nat) (y : Int), (l.drop (k + 1))[j]? = some y → (World.drew w6).cell? ⟨bl, o2 + j, none⟩ = some (.int .i64 y)) := fun j y hj => by
            rw [List.getElem?_drop] at hj
            have hjl := (List.getElem?_eq_some_iff.1 hj).1
            rw [ho2, if_neg (by omega)]
            have := HC6.out _ y hj
            rwa [← Nat.add_assoc] at this
          have ho3 : (if cap = k + 1 then some (⟨bl, off, none⟩ : Addr) else some ⟨bl, off + (k + 1), none⟩) = some ⟨bl, o2, none⟩ := by rw [ho2]; split <;> rfl
          have HO3 := hid2 ho3
          have HO6d : Hid ((World.drew w6).ownsRow w4.heap.size 3 1 (.slice p5 k cap5) k (I (l.take k))) := HO6.out.kept (row := none) ⟨rfl, rfl, rfl, Nat.le_refl _, fun _ _ _ => rfl⟩ (by cases (Value.slice p5 k cap5).ownBlock <;> simp)
          have HG6d : Hid (Two (World.drew w6) g (.int .i64 lim) (.slice (some ⟨bl, off, none⟩) l.length cap)) := HG6.out
          have HN8 := hid2 (own_ne HO6.out (show g < w4.heap.size by omega))
          have HPK := hid2 (HP1.out k HX.out HN.out)
          obtain ⟨f0, f1, f2, f3⟩ := (show Two (World.drew w6) q (.int .i64 lim) (.slice p5 k cap5) from HT6.out).cells
          have hk1 : IntKind.i64.wrap ((k : Int) + 1) = (k : Int) + 1 := by rw [IntKind.wrap_i64]; omega
          clear ho2 ho3
          go_wp2_with fail
          refine wp_region_held_drew (S := fun W => Two W g (.int .i64 lim) (.slice (some ⟨bl, off, none⟩) l.length cap)) (by kernel_rfl) (HG6d.out) (fun hS => ?_)
          change wpAnyH _ _ _ _ _ _ _ _ (World.drew _)
          refine wpAnyH_take (i := 0) (v := .pointer (some ⟨q, 1, none⟩)) rfl (by kernel_rfl) (by kernel_rfl) (by kernel_rfl) (fun _ _ _ h => h) (Or.inl ⟨by kernel_rfl, ?_⟩) hS ?_
          · intro w hw; clear hw; go_simp
          change wpAnyH _ _ _ _ _ _ _ (Act.put _ (some 37) _) _
          simp only [Act.put, List.setIfInBounds_toArray, List.set_cons_succ, List.set_cons_zero]
          refine wpAnyH_take (i := 2) (v := .pointer (some ⟨g, 1, none⟩)) rfl (by kernel_rfl) (by kernel_rfl) (by kernel_rfl) (fun _ _ _ h => h) (Or.inl ⟨by kernel_rfl, ?_⟩) hS ?_
          · intro w hw; clear hw; go_simp
          change wpAnyH _ _ _ _ _ _ _ (Act.put _ (some 39) _) _
          simp only [Act.put, List.setIfInBounds_toArray, List.set_cons_succ, List.set_cons_zero]
          refine wpAnyH_take (i := 3) (v := .slice (some ⟨bl, off, none⟩) l.length cap) rfl (by kernel_rfl) (by kernel_rfl) (by kernel_rfl) (fun _ _ _ h => h) (Or.inl ⟨by kernel_rfl, ?_⟩) hS ?_
          · intro w hw
            obtain ⟨e0, e1, e2, e3⟩ := Two.cells hw
            go_simp
          change wpAnyH _ _ _ _ _ _ _ (Act.put _ (some 40) _) _
          simp only [Act.put, List.setIfInBounds_toArray, List.set_cons_succ, List.set_cons_zero]
          refine wpAnyH_take (i := 4) (v := .int .i64 (k : Int)) rfl (by kernel_rfl) (by kernel_rfl) (by kernel_rfl) (fun _ _ _ h => h) (Or.inl ⟨by kernel_rfl, ?_⟩) hS ?_
          · intro w hw; clear hw; go_simp
          change wpAnyH _ _ _ _ _ _ _ (Act.put _ (some 41) _) _
          simp only [Act.put, List.setIfInBounds_toArray, List.set_cons_succ, List.set_cons_zero]
          refine wpAnyH_take (i := 5) (v := .int .i64 ((k : Int) + 1)) rfl (by kernel_rfl) (by kernel_rfl) (by kernel_rfl) (fun _ _ _ h => h) (Or.inl ⟨by kernel_rfl, ?_⟩) hS ?_
          · intro w hw; clear hw; go_simp
          change wpAnyH _ _ _ _ _ _ _ (Act.put _ (some 42) _) _
          simp only [Act.put, List.setIfInBounds_toArray, List.set_cons_succ, List.set_cons_zero]
          refine wpAnyH_take (i := 6) (v := .slice (some ⟨bl, o2, none⟩) (l.length - (k + 1)) (cap - (k + 1))) rfl (by kernel_rfl) (by kernel_rfl) (by kernel_rfl) (fun _ _ _ h => h) (Or.inl ⟨by kernel_rfl, ?_⟩) hS ?_
          · intro w hw
            clear hw
            go_simp
            rw [if_pos ⟨by omega, by omega⟩, HO3.out]
          change wpAnyH _ _ _ _ _ _ _ (Act.put _ (some 43) _) _
          simp only [Act.put, List.setIfInBounds_toArray, List.set_cons_succ, List.set_cons_zero]
          refine wpAnyH_ready (rs := [1]) (by kernel_rfl) (by simp) ?_
          refine AllReadyH.cons rfl (fun K hK => ?_) AllReadyH.nil
          go_simp
          go_wp2_with fail
          refine hK.out _ _ hS (fun hS => ?_)
          clear hK K
          refine wpAnyH_ready (rs := [7]) (by kernel_rfl) (by simp) ?_
          refine AllReadyH.cons rfl (fun K hK => ?_) AllReadyH.nil
          refine step_append_i rfl (.tmp 38) (.tmp 43) rfl w4.heap.size (.slice p5 k cap5) k (I (l.take k)) rfl HO6d.out bl o2 (l.length - (k + 1)) (cap - (k + 1)) (l.drop (k + 1)) rfl (by simp) HC2.out (by omega) H46.out ?_
          intro v7 w7 hown7 hgrow7
          rw [← I_append] at hown7
          obtain ⟨p7, cap7, rfl⟩ := own_len hown7
          have R7 : w6.grownBy w7 (Value.slice p5 k cap5).ownBlock := ⟨hgrow7.os, hgrow7.tape, hgrow7.output, hgrow7.size, hgrow7.block⟩
          have HT7 := HT6.out.grown R7 (fun e => HN6.out e.symm)
          have HZ7 := HZ6.out.grown R7 (fun e => HN7.out e.symm)
          have HG7 := HG6.out.grown R7 (fun e => HN8.out e.symm)
          refine hK.out _ _ HG7 (fun hS => ?_)
          clear hK K
          simp only [Act.put, List.setIfInBounds_toArray]
          refine wpAnyH_take (i := 8) (v := .pointer (some ⟨q, 1, none⟩)) rfl (by kernel_rfl) (by kernel_rfl) (by kernel_rfl) (fun _ _ _ h => h) (Or.inl ⟨by kernel_rfl, ?_⟩) hS ?_
          · intro w hw; clear hw; go_simp
          change wpAnyH _ _ _ _ _ _ _ (Act.put _ (some 45) _) _
          simp only [Act.put]
          have B7 : Below w.heap.size w w7 := HB6.out.grown R7 HB6.out.size (fun k hk => Nat.le_trans HB4.out.size (HM6.out k hk))
          obtain ⟨w8, hw8⟩ : ∃ w8, w8 = w7.setCell ⟨q, 1, none⟩ (.slice p7 (k + (l.length - (k + 1))) cap7) := ⟨_, rfl⟩
          have R8 := grown_set (World.grownBy.refl w7 (some q)) 1 (.slice p7 (k + (l.length - (k + 1))) cap7)
          have HT8 := HT7.set1 (.slice p7 (k + (l.length - (k + 1))) cap7)
          rw [← hw8] at R8 HT8
          have HG8 := hid2 (HG7.grown R8 (by simp; omega))
          have HZ8 := hid2 (HZ7.grown R8 (by simp; omega))
          have HT8 := hid2 HT8
          have HB8 : Hid (Below w.heap.size w w8) := B7.grown R8 B7.size (fun k hk => by cases hk; have := HG.out; omega)
          have HL8 := hid2 ((Ls.own hown7).grown R8 HT7 (by decide))
          obtain ⟨t0, t1, t2, t3⟩ := HT7.cells
          have HW8 := hid2 hw8
          clear hown7 hgrow7 R7 HT7 HZ7 HG7 B7 R8 hw8
          refine wpAnyH_ready (rs := [9]) (by kernel_rfl) (by simp) ?_
          refine AllReadyH.cons rfl (fun K hK => ?_) AllReadyH.nil
          go_simp
          go_wp2_with fail
          rw [← HW8.out]
          refine hK.out _ _ HG8.out (fun hS => ?_)
          clear hK K
          refine wpAnyH_done (by kernel_rfl) ?_ _
          clear hS t0 t1 t2 t3
          obtain ⟨t0, t1, t2, t3⟩ := HT8.out.cells
          obtain ⟨z0, z1, z2, z3⟩ := HZ8.out.cells
          go_wp2
          obtain ⟨w9, hw9⟩ : ∃ w9, w9 = (w8.setCell ⟨g + 1, 0, none⟩ (.int .i64 lim)).setCell ⟨g + 1, 1, none⟩ (.slice p7 (k + (l.length - (k + 1))) cap7) := ⟨_, rfl⟩
          have Z9 : Two w9 (g + 1) (.int .i64 lim) (.slice p7 (k + (l.length - (k + 1))) cap7) := by rw [hw9]; exact HZ8.out.set2 _ _
          have R9 : w8.grownBy w9 (some (g + 1)) := by rw [hw9]; exact grown_set (grown_set (World.grownBy.refl _ _) _ _) _ _
          rw [← hw9]
          obtain ⟨d0, d1, d2, d3⟩ := Z9.cells
          rw [HPK.out]
          refine bodyPost_ret (v := .tuple #[.agg #[.int .i64 lim, .slice p7 (k + (l.length - (k + 1))) cap7], .int .i64 0]) (by simp [results, Tryd.results17, go_sem, d1, d2]) rfl ⟨_, rfl, ?_, ?_⟩
          · exact (HL8.out).grown R9 HZ8.out (by decide)
          · exact Below.grown (HB8.out) R9 (HB8.out).size (fun k hk => by cases hk; have := HG.out; omega)
        · have HC := hid2 hcx
          go_wp2
          go_round
          case rel =>
            refine ⟨k + 1, by omega, by go_num, ?_⟩
            rw [take_snoc HX.out]
            intro hm
            rcases List.mem_append.1 hm with hm | hm
            · exact HN.out hm
            · exact HC.out (List.mem_singleton.1 hm).symm
          case measure => simp [intOf]; omega
      · have HP : Hid (giveP l c = (l, 9)) := HP0.out (by have := HN.out; rwa [List.take_of_length_le (by omega : l.length ≤ k)] at this)
        go_wp2
        obtain ⟨w9, hw9⟩ : ∃ w9, w9 = (w1.setCell ⟨g + 1, 0, none⟩ (.int .i64 lim)).setCell ⟨g + 1, 1, none⟩ (.slice p l.length cap) := ⟨_, rfl⟩
        have Z9 : Two w9 (g + 1) (.int .i64 lim) (.slice p l.length cap) := by rw [hw9]; exact HZ1.out.set2 _ _
        have R9 : w1.grownBy w9 (some (g + 1)) := by rw [hw9]; exact grown_set (grown_set (World.grownBy.refl _ _) _ _) _ _
        rw [← hw9]
        obtain ⟨d0, d1, d2, d3⟩ := Z9.cells
        rw [HP.out]
        refine bodyPost_ret (v := .tuple #[.agg #[.int .i64 lim, .slice p l.length cap], .int .i64 9]) (by simp [results, Tryd.results17, go_sem, d1, d2]) rfl ⟨_, rfl, ?_, ?_⟩
        · exact (HL.out.stays HA.out).grown R9 HZ1.out (by decide)
        · exact Below.grown (HA.out) R9 (HA.out).size (fun k hk => by cases hk; have := HG.out; omega)
end Go.Proofs.YtjlpkjgdpbjpcaaDoor
