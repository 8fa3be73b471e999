/-
  The document's tier: without an entry, with one ahead.
-/
import Derived.Test.YtkgecpplgjfhiaaGreatDoorQRefA
namespace Go.Proofs.YtkgecpplgjfhiaaGreatDoor
open Go.RowKit
open Ite (Ent zeroE checkE sizeE)
open Lis (Lst but Tag)

theorem EQ.take {w : World} {B : Nat} : ∀ {L : List Ent} {cs : List Value} (k : Nat), EQ w B L cs → EQ w B (L.take k) (cs.take (k * 5))
  | [], cs, k, h => by have e : cs = [] := h; subst e; simp; exact rfl
  | x :: r, cs, 0, h => by simp; exact rfl
  | x :: r, cs, k + 1, h => by
    obtain ⟨p, c, cs', rfl, h1, h2⟩ := h
    rw [show (k + 1) * 5 = k * 5 + 5 by omega]
    exact ⟨p, c, cs'.take (k * 5), by simp, h1, h2.take k⟩
theorem EQ.drop {w : World} {B : Nat} : ∀ {L : List Ent} {cs : List Value} (k : Nat), EQ w B L cs → EQ w B (L.drop k) (cs.drop (k * 5))
  | [], cs, k, h => by have e : cs = [] := h; subst e; simp; exact rfl
  | x :: r, cs, 0, h => by simpa using h
  | x :: r, cs, k + 1, h => by
    obtain ⟨p, c, cs', rfl, h1, h2⟩ := h
    rw [show (k + 1) * 5 = k * 5 + 5 by omega]
    simpa using h2.drop k
theorem EQ.stays {w w' : World} {B : Nat} {L : List Ent} {cs : List Value} (h : EQ w B L cs) (b : Below w.heap.size w w') : EQ w' B L cs := h.fr (.of b)
/-- The cells of a row as a list. -/
theorem Es.list {w : World} {B : Nat} : ∀ {L : List Ent} {bl off _cap _m : Nat}, (∀ k x, L[k]? = some x → ∃ q c, w.cell? ⟨bl, off + k * 5, none⟩ = some (.string x.key) ∧ w.cell? ⟨bl, off + k * 5 + 1, none⟩ = some (.int .i64 x.ver) ∧ w.cell? ⟨bl, off + k * 5 + 2, none⟩ = some (.int .i64 x.asof) ∧ w.cell? ⟨bl, off + k * 5 + 3, none⟩ = some (.int .i64 x.ends) ∧ w.cell? ⟨bl, off + k * 5 + 4, none⟩ = some (.slice q x.val.length c) ∧ Bq w B (.slice q x.val.length c) x.val) →
    ∃ cs, EQ w B L cs ∧ ∀ j u, cs[j]? = some u → w.cell? ⟨bl, off + j, none⟩ = some u
  | [], _, _, _, _, _ => ⟨[], rfl, fun j u hj => by simp at hj⟩
  | x :: r, bl, off, cap, m, h => by
    obtain ⟨q, c, a0, a1, a2, a3, a4, a5⟩ := h 0 x rfl
    obtain ⟨cs, h1, h2⟩ := Es.list (L := r) (bl := bl) (off := off + 5) (_cap := cap) (_m := m) (fun k y hy => by
      obtain ⟨q, c, b⟩ := h (k + 1) y hy
      rw [show off + (k + 1) * 5 = off + 5 + k * 5 by omega] at b
      exact ⟨q, c, b⟩)
    refine ⟨_, ⟨q, c, cs, rfl, a5, h1⟩, fun j u hj => ?_⟩
    rw [Nat.zero_mul, Nat.add_zero] at a0 a1 a2 a3 a4
    rcases j with _ | _ | _ | _ | _ | j
    · cases hj; exact a0
    · cases hj; exact a1
    · cases hj; exact a2
    · cases hj; exact a3
    · cases hj; exact a4
    · have := h2 j u (by simpa using hj)
      rwa [show off + 5 + j = off + (j + 5) by omega] at this
theorem Es.row {w : World} {B : Nat} {p : Option Addr} {m cap : Nat} {L : List Ent} (h : Es w B (.slice p m cap) L) (hL : L ≠ []) : ∃ bl off cs, p = some ⟨bl, off, none⟩ ∧ bl < w.heap.size ∧ EQ w B L cs ∧ ∀ j u, cs[j]? = some u → w.cell? ⟨bl, off + j, none⟩ = some u := by
  obtain ⟨p', cap', e, h2, h3, h4⟩ := h
  cases e
  obtain ⟨x, hx⟩ : ∃ x, L[0]? = some x := by
    cases L with
    | nil => exact absurd rfl hL
    | cons x r => exact ⟨x, rfl⟩
  obtain ⟨bl, off, q, c, e1, e2, _⟩ := h4 0 x hx
  obtain ⟨cs, c1, c2⟩ := Es.list (w := w) (B := B) (L := L) (bl := bl) (off := off) (_cap := 0) (_m := 0) (fun k y hy => by
    obtain ⟨b, o, q, c, e, _, _, a⟩ := h4 k y hy
    rw [e1] at e
    cases e
    exact ⟨q, c, a⟩)
  exact ⟨bl, off, cs, e1, e2, c1, c2⟩

section
variable {ops : Array Oper} {rest : List Oper} {op : Oper} {a : Act}
/-- Entries appended in a region that draws. -/
theorem step_append_e {w : World} {K : Act → World → Prop} {Q : Exit → Act → World → Prop} {E : Prop} (hgd : op.guard = none) (s x : Operand) (ho : op.op = .call { callee := .builtin .append, args := #[s, x], argTypes := #[35, 35] }) (B0 : Nat) (v : Value) (n : Nat) (cs : List Value) (hs : a.eval s = v) (hown : w.ownsRow B0 25 5 v n cs)
    (bl off m c : Nat) (news : List Value) (hx : a.eval x = .slice (some ⟨bl, off, none⟩) m c) (hl : news.length = m * 5) (hnews : ∀ j u, news[j]? = some u → w.cell? ⟨bl, off + j, none⟩ = some u) (h1 : ∀ u ∈ news, u.oneCell' = true) (hb : n + m ≤ 100000) (hbase : B0 ≤ w.heap.size)
    (h : ∀ v' w', w'.ownsRow B0 25 5 v' (n + m) (cs ++ news) → w.grownBy w' v.ownBlock → K (a.put op.dst v') w') : if Region.wanted op (yielded ops a.tmps) = true then Oper.wp Tryz.prog op a w K Q else E := by
  have hwt : Region.wanted op (yielded ops a.tmps) = true := by simp [Region.wanted, hgd]
  rw [if_pos hwt]
  obtain ⟨i0, hi, hz0, hz1, hz2⟩ := info_parts info_en
  exact wp_append_own w s x 35 ho B0 25 i0 _ 5 64 Tryz.underlying35 hi hz0 hz1 hz2 rfl (by decide) v n cs hs hown ⟨bl, off, none⟩ m c news hx hl (fun j u hj => by rw [Ite.add_off]; exact hnews j u hj) h1 (by unfold maxLen; omega) (by omega) hbase (fun v' w' a b _ => h v' w' a b)
end
theorem own_form5 {w : World} {B0 n : Nat} {v : Value} {cs : List Value} (h : w.ownsRow B0 25 5 v n cs) : ∃ p cap, v = .slice p n cap := by
  rcases h.2 with ⟨rfl, rfl⟩ | ⟨b, cap, cur, h1, _⟩
  · exact ⟨none, 0, rfl⟩
  · exact ⟨_, cap, h1⟩
theorem own_no {w : World} {B0 n : Nat} {v : Value} {cs : List Value} (h : w.ownsRow B0 25 5 v n cs) {b : Nat} (hb : b < B0) : some b ≠ v.ownBlock := by
  rcases h.2 with ⟨rfl, _⟩ | ⟨g, cap, cur, rfl, hg, _⟩
  · simp [Value.ownBlock]
  · simp [Value.ownBlock]; omega
theorem own_low {w : World} {B0 n : Nat} {v : Value} {cs : List Value} (h : w.ownsRow B0 25 5 v n cs) : ∀ k, v.ownBlock = some k → B0 ≤ k := by
  intro k hk
  rcases h.2 with ⟨rfl, _⟩ | ⟨g, cap, cur, rfl, hg, _⟩
  · simp [Value.ownBlock] at hk
  · simp [Value.ownBlock] at hk; omega
theorem own_kept5 {w w' : World} {B0 n : Nat} {v : Value} {cs : List Value} (h : w.ownsRow B0 25 5 v n cs) (e : ∀ b, B0 ≤ b → Tag w b 25 → w'.heap[b]? = w.heap[b]?) : w'.ownsRow B0 25 5 v n cs := by
  refine ⟨h.1, ?_⟩
  rcases h.2 with h0 | ⟨g, cap, cur, h1, hb, hg, h2⟩
  · exact .inl h0
  · refine .inr ⟨g, cap, cur, h1, hb, ?_, h2⟩
    rw [e g hb ⟨_, _, hg⟩]; exact hg

set_option maxHeartbeats 2000000 in
set_option maxRecDepth 8000 in
theorem rbut_t {w : World} {B : Nat} {lim : Int} {p : Option Addr} {cap : Nat} {L : List Ent} (h : Es w B (.slice p L.length cap) L) {k : Nat} (hk : k < L.length) (hl : L.length ≤ 1000) :
    Calls Tryz.prog 42 #[.agg #[.int .i64 lim, .slice p L.length cap], .int .i64 (k : Int)] w fun e w' => ∃ p' cap', e = .returned (.agg #[.int .i64 lim, .slice p' (butE L k).length cap']) ∧ Es w' B (.slice p' (butE L k).length cap') (butE L k) ∧ (p' = none → cap' = 0) ∧ (∀ a, p' = some a → w.heap.size ≤ a.block) ∧ Below w.heap.size w w' := by
  have hcap : L.length ≤ cap ∧ cap ≤ maxLen := by obtain ⟨_, _, e, h1, h2, _⟩ := h; cases e; exact ⟨h1, h2⟩
  obtain ⟨hc1, hc2⟩ := hcap
  unfold maxLen at hc2
  obtain ⟨bl, off, cs, rfl, hbl, heq, hcs⟩ := h.row (fun e => by rw [e] at hk; simp at hk)
  have hlc := heq.length
  have hln : k + (L.length - (k + 1)) = (butE L k).length := by unfold butE; rw [List.length_append, List.length_take, List.length_drop]; omega
  obtain ⟨g, hg⟩ : ∃ g, g = w.heap.size := ⟨_, rfl⟩
  obtain ⟨wa, hwa⟩ : ∃ wa, wa = w.alloc (.cells #[.int .i64 lim, .slice (some ⟨bl, off, none⟩) L.length cap] 37) := ⟨_, rfl⟩
  obtain ⟨wb, hwb⟩ : ∃ wb, wb = wa.alloc (.cells #[.int .i64 0, .slice none 0 0] 37) := ⟨_, rfl⟩
  obtain ⟨wc, hwc⟩ : ∃ wc, wc = wb.alloc (.cells #[.int .i64 0, .slice none 0 0] 37) := ⟨_, rfl⟩
  have sa : wa.heap.size = g + 1 := by rw [hwa, hg]; simp
  have sb : wb.heap.size = g + 2 := by rw [hwb]; simp [sa]
  have A1 : Below w.heap.size w wa := by rw [hwa]; go_grown
  have A2 : Below wa.heap.size wa wb := by rw [hwb]; go_grown
  have A3 : Below wb.heap.size wb wc := by rw [hwc]; go_grown
  have Za : Two wa g (.int .i64 lim) (.slice (some ⟨bl, off, none⟩) L.length cap) := by rw [hwa, hg]; exact heap_alloc_new w _
  have Zb : Two wb (g + 1) (.int .i64 0) (.slice none 0 0) := by rw [hwb, ← sa]; exact heap_alloc_new wa _
  have Zc : Two wc (g + 2) (.int .i64 0) (.slice none 0 0) := by rw [hwc, ← sb]; exact heap_alloc_new wb _
  have Z0b := Za.stays A2
  have hblg : bl < g := by omega
  have HG := hid2 hg
  have HWA := hid2 hwa
  have HWB := hid2 hwb
  have HWC := hid2 hwc
  have Z0 := hid2 (Z0b.stays A3)
  have Z1 := hid2 (Zb.stays A3)
  have Z2 := hid2 Zc
  have HB := hid2 ((A1.trans (A2.mono A1.size)).trans (A3.mono (Nat.le_trans A1.size A2.size)))
  have HEQ := hid2 heq
  have HLN := hid2 hln
  have HLC := hid2 hlc
  have HCS := hid2 hcs
  have HZB := hid2 Zb
  obtain ⟨a0, a1, a2, a3⟩ := Z0b.cells
  clear h heq hcs hln A1 A2 A3 Za Zb Zc Z0b hwa hwb hwc hg
  go_enter Tryz.func42, Tryz.ntmps42
  go_wp2_with (first
    | (rw [← HWA.out, ← HWB.out, ← HWC.out, ← HG.out]; refine st37 rfl (.tmp 5) (.tmp 8) rfl (g + 2) rfl _ _ _ Z2.out rfl rfl ⟨rfl, rfl⟩ ?_; intro w4 hz4 hg4))
  have Z04 := hid2 (Z0.out.grown hg4 (by simp))
  have Z14 := hid2 (Z1.out.grown hg4 (by simp))
  have Z24 := hid2 hz4
  have HB4 : Hid (Below w.heap.size w w4) := HB.out.grown hg4 HB.out.size (fun j hj => by cases hj; have := HG.out; omega)
  have hb4 : bl < w4.heap.size := Nat.lt_of_lt_of_le hbl HB4.out.size
  have hgw : g + 2 < w4.heap.size := lt_of_block hz4
  have HC4 : Hid (∀ (j : Nat) (u : Value), cs[j]? = some u → w4.cell? ⟨bl, off + j, none⟩ = some u) := fun j u hj => (HB4.out.cell (p := ⟨bl, off + j, none⟩) hbl).trans (HCS.out j u hj)
  have HC1 : Hid (∀ (j : Nat) (u : Value), (cs.take (k * 5))[j]? = some u → w4.drew.cell? ⟨bl, off + j, none⟩ = some u) := fun j u hj => by
    have := (List.getElem?_eq_some_iff.1 hj).1
    rw [List.length_take] at this
    rw [List.getElem?_take_of_lt (by omega)] at hj
    exact HC4.out j u hj
  have HL1 : Hid ((cs.take (k * 5)).length = k * 5) := by show _ = _; rw [List.length_take, HLC.out]; omega
  have HL2 : Hid ((cs.drop ((k + 1) * 5)).length = (L.length - (k + 1)) * 5) := by show _ = _; rw [List.length_drop, HLC.out]; omega
  have HO1 : Hid (∀ u ∈ cs.take (k * 5), u.oneCell' = true) := fun u hu => HEQ.out.one u (List.mem_of_mem_take hu)
  have HO2 : Hid (∀ u ∈ cs.drop ((k + 1) * 5), u.oneCell' = true) := fun u hu => HEQ.out.one u (List.mem_of_mem_drop hu)
  have HQ4 : Hid (Two w4.drew g (.int .i64 lim) (.slice (some ⟨bl, off, none⟩) L.length cap)) := Z04.out
  obtain ⟨b0, b1, b2, b3⟩ := (show Two w4.drew (g + 2) (.int .i64 lim) (.slice none 0 0) from Z24.out).cells
  have hkI : (0 : Int) ≤ (k : Int) ∧ (k : Int) ≤ (cap : Int) := by omega
  have htn : ((k : Int)).toNat = k := by omega
  clear hz4 hg4 a0 a1 a2 a3 Z0 Z1 Z2 HWA HWB HWC HZB
  rw [show g + 1 + 1 = g + 2 from rfl]
  simp only [Act.put]
  refine wp_region_held_drew (S := fun W => Two W g (.int .i64 lim) (.slice (some ⟨bl, off, none⟩) L.length cap)) (by kernel_rfl) (HQ4.out) (fun hS => ?_)
  change wpAnyH _ _ _ _ _ _ _ _ (World.drew _)
  refine wpAnyH_take (i := 0) (v := .pointer (some ⟨g + 2, 1, none⟩)) rfl (by kernel_rfl) (by kernel_rfl) (by kernel_rfl) (fun _ _ _ h => h) (Or.inl ⟨by kernel_rfl, ?_⟩) hS ?_
  · intro w hw; clear hw; go_simp
  change wpAnyH _ _ _ _ _ _ _ (Act.put _ (some 9) _) _
  simp only [Act.put, List.setIfInBounds_toArray, List.set_cons_succ, List.set_cons_zero]
  refine wpAnyH_take (i := 2) (v := .pointer (some ⟨g, 1, none⟩)) rfl (by kernel_rfl) (by kernel_rfl) (by kernel_rfl) (fun _ _ _ h => h) (Or.inl ⟨by kernel_rfl, ?_⟩) hS ?_
  · intro w hw; clear hw; go_simp
  change wpAnyH _ _ _ _ _ _ _ (Act.put _ (some 11) _) _
  simp only [Act.put, List.setIfInBounds_toArray, List.set_cons_succ, List.set_cons_zero]
  refine wpAnyH_take (i := 3) (v := .slice (some ⟨bl, off, none⟩) L.length cap) rfl (by kernel_rfl) (by kernel_rfl) (by kernel_rfl) (fun _ _ _ h => h) (Or.inl ⟨by kernel_rfl, ?_⟩) hS ?_
  · intro w hw
    obtain ⟨e0, e1, e2, e3⟩ := Two.cells hw
    go_simp
  change wpAnyH _ _ _ _ _ _ _ (Act.put _ (some 12) _) _
  simp only [Act.put, List.setIfInBounds_toArray, List.set_cons_succ, List.set_cons_zero]
  refine wpAnyH_take (i := 4) (v := .int .i64 (k : Int)) rfl (by kernel_rfl) (by kernel_rfl) (by kernel_rfl) (fun _ _ _ h => h) (Or.inl ⟨by kernel_rfl, ?_⟩) hS ?_
  · intro w hw; clear hw; go_simp
  change wpAnyH _ _ _ _ _ _ _ (Act.put _ (some 13) _) _
  simp only [Act.put, List.setIfInBounds_toArray, List.set_cons_succ, List.set_cons_zero]
  refine wpAnyH_take (i := 5) (v := .slice (some ⟨bl, off, none⟩) k cap) rfl (by kernel_rfl) (by kernel_rfl) (by kernel_rfl) (fun _ _ _ h => h) (Or.inl ⟨by kernel_rfl, ?_⟩) hS ?_
  · intro w hw
    clear hw
    go_simp
    try (intro hh; exfalso; omega)
  change wpAnyH _ _ _ _ _ _ _ (Act.put _ (some 14) _) _
  simp only [Act.put, List.setIfInBounds_toArray, List.set_cons_succ, List.set_cons_zero]
  refine wpAnyH_ready (rs := [1]) (by kernel_rfl) (by simp) ?_
  refine AllReadyH.cons rfl (fun K hK => ?_) AllReadyH.nil
  go_simp
  go_wp2_with fail
  refine hK.out _ _ hS (fun hS => ?_)
  clear hK K
  refine wpAnyH_ready (rs := [6]) (by kernel_rfl) (by simp) ?_
  refine AllReadyH.cons rfl (fun K hK => ?_) AllReadyH.nil
  refine step_append_e rfl (.tmp 10) (.tmp 14) rfl w4.heap.size (.slice none 0 0) 0 [] rfl (World.ownsRow_nil _ _ _ _) bl off k cap (cs.take (k * 5)) rfl HL1.out HC1.out HO1.out (by omega) (Nat.le_refl _) ?_
  intro v5 w5 hown5 hgrow5
  rw [Nat.zero_add, List.nil_append] at hown5
  obtain ⟨p5, cap5, rfl⟩ := own_form5 hown5
  have B5 : Below w4.heap.size w4 w5 := Lis.below_grown (w := w4) ⟨hgrow5.os, hgrow5.tape, hgrow5.output, hgrow5.size, hgrow5.block⟩
  refine hK.out _ _ (Two.stays (w := w4) hS B5) (fun hS => ?_)
  clear hK K
  simp only [Act.put, List.setIfInBounds_toArray]
  refine wpAnyH_take (i := 7) (v := .pointer (some ⟨g + 2, 1, none⟩)) rfl (by kernel_rfl) (by kernel_rfl) (by kernel_rfl) (fun _ _ _ h => h) (Or.inl ⟨by kernel_rfl, ?_⟩) hS ?_
  · intro w hw; clear hw; go_simp
  change wpAnyH _ _ _ _ _ _ _ (Act.put _ (some 16) _) _
  simp only [Act.put]
  have HB5 := hid2 (HB4.out.trans (B5.mono HB4.out.size))
  have Z15 := hid2 (Z14.out.stays B5)
  have Z25 := Z24.out.stays B5
  obtain ⟨w6, hw6⟩ : ∃ w6, w6 = w5.setCell ⟨g + 2, 1, none⟩ (.slice p5 k cap5) := ⟨_, rfl⟩
  have Z26 := hid2 (Z25.set1 (.slice p5 k cap5))
  have R6 := Ite.setCell_grownBy w5 (g + 2) 1 (.slice p5 k cap5)
  rw [← hw6] at Z26 R6
  have HO6 := hid2 (own_kept5 hown5 (fun b hb _ => R6.block b (by rename_i ht; exact ht.lt) (by simp; omega)))
  have Z16 := hid2 (Z15.out.grown R6 (by simp))
  have HG6 := hid2 (Two.grown hS R6 (by simp))
  have HB6 : Hid (Below w.heap.size w w6) := HB5.out.grown R6 HB5.out.size (fun k hk => by cases hk; have := HG.out; omega)
  have H46 : Hid (w4.heap.size ≤ w6.heap.size) := Nat.le_trans B5.size R6.size
  have HC6 : Hid (∀ (j : Nat) (u : Value), cs[j]? = some u → w6.cell? ⟨bl, off + j, none⟩ = some u) := fun j u hj => by
    rw [World.cell?_of_block (R6.block bl (Nat.lt_of_lt_of_le hb4 B5.size) (by simp; omega)), B5.cell (p := ⟨bl, off + j, none⟩) hb4]
    exact HC4.out j u hj
  obtain ⟨t0, t1, t2, t3⟩ := Z25.cells
  have HW6 := hid2 hw6
  clear hown5 hgrow5 B5 Z25 hw6 R6
  refine wpAnyH_ready (rs := [8]) (by kernel_rfl) (by simp) ?_
  refine AllReadyH.cons rfl (fun K hK => ?_) AllReadyH.nil
  go_simp
  go_wp2_with fail
  rw [← HW6.out]
  refine hK.out _ _ HG6.out (fun hS => ?_)
  clear hK K
  refine wpAnyH_done (by kernel_rfl) ?_ _
  clear hS t0 t1 t2 t3
  obtain ⟨o2, ho2⟩ : ∃ o2, o2 = if cap = k + 1 then off else off + (k + 1) * 5 := ⟨_, rfl⟩
  have HC2 : Hid (∀ (j : Nat) (u : Value), (cs.drop ((k + 1) * 5))[j]? = some u → (World.drew w6).cell? ⟨bl, o2 + j, none⟩ = some u) := fun j u hj => by
    rw [List.getElem?_drop] at hj
    have hjl := (List.getElem?_eq_some_iff.1 hj).1
    rw [ho2, if_neg (by have := HLC.out; omega)]
    have := HC6.out _ u hj
    rwa [← Nat.add_assoc] at this
  have ho3 : (if cap = k + 1 then some (⟨bl, off, none⟩ : Addr) else some ⟨bl, off + (k + 1) * 5, none⟩) = some ⟨bl, o2, none⟩ := by rw [ho2]; split <;> rfl
  have HO3 := hid2 ho3
  have HO6d : Hid ((World.drew w6).ownsRow w4.heap.size 25 5 (.slice p5 k cap5) k (cs.take (k * 5))) := own_kept5 HO6.out (fun _ _ _ => rfl)
  have HG6d : Hid (Two (World.drew w6) g (.int .i64 lim) (.slice (some ⟨bl, off, none⟩) L.length cap)) := HG6.out
  obtain ⟨f0, f1, f2, f3⟩ := (show Two (World.drew w6) (g + 2) (.int .i64 lim) (.slice p5 k cap5) from Z26.out).cells
  have hk1 : IntKind.i64.wrap ((k : Int) + 1) = (k : Int) + 1 := by rw [IntKind.wrap_i64]; omega
  clear ho2 ho3
  go_wp2_with fail
  refine wp_region_held_drew (S := fun W => Two W g (.int .i64 lim) (.slice (some ⟨bl, off, none⟩) L.length cap)) (by kernel_rfl) (HG6d.out) (fun hS => ?_)
  change wpAnyH _ _ _ _ _ _ _ _ (World.drew _)
  refine wpAnyH_take (i := 0) (v := .pointer (some ⟨g + 2, 1, none⟩)) rfl (by kernel_rfl) (by kernel_rfl) (by kernel_rfl) (fun _ _ _ h => h) (Or.inl ⟨by kernel_rfl, ?_⟩) hS ?_
  · intro w hw; clear hw; go_simp
  change wpAnyH _ _ _ _ _ _ _ (Act.put _ (some 17) _) _
  simp only [Act.put, List.setIfInBounds_toArray, List.set_cons_succ, List.set_cons_zero]
  refine wpAnyH_take (i := 2) (v := .pointer (some ⟨g, 1, none⟩)) rfl (by kernel_rfl) (by kernel_rfl) (by kernel_rfl) (fun _ _ _ h => h) (Or.inl ⟨by kernel_rfl, ?_⟩) hS ?_
  · intro w hw; clear hw; go_simp
  change wpAnyH _ _ _ _ _ _ _ (Act.put _ (some 19) _) _
  simp only [Act.put, List.setIfInBounds_toArray, List.set_cons_succ, List.set_cons_zero]
  refine wpAnyH_take (i := 3) (v := .slice (some ⟨bl, off, none⟩) L.length cap) rfl (by kernel_rfl) (by kernel_rfl) (by kernel_rfl) (fun _ _ _ h => h) (Or.inl ⟨by kernel_rfl, ?_⟩) hS ?_
  · intro w hw
    obtain ⟨e0, e1, e2, e3⟩ := Two.cells hw
    go_simp
  change wpAnyH _ _ _ _ _ _ _ (Act.put _ (some 20) _) _
  simp only [Act.put, List.setIfInBounds_toArray, List.set_cons_succ, List.set_cons_zero]
  refine wpAnyH_take (i := 4) (v := .int .i64 (k : Int)) rfl (by kernel_rfl) (by kernel_rfl) (by kernel_rfl) (fun _ _ _ h => h) (Or.inl ⟨by kernel_rfl, ?_⟩) hS ?_
  · intro w hw; clear hw; go_simp
  change wpAnyH _ _ _ _ _ _ _ (Act.put _ (some 21) _) _
  simp only [Act.put, List.setIfInBounds_toArray, List.set_cons_succ, List.set_cons_zero]
  refine wpAnyH_take (i := 5) (v := .int .i64 ((k : Int) + 1)) rfl (by kernel_rfl) (by kernel_rfl) (by kernel_rfl) (fun _ _ _ h => h) (Or.inl ⟨by kernel_rfl, ?_⟩) hS ?_
  · intro w hw; clear hw; go_simp
  change wpAnyH _ _ _ _ _ _ _ (Act.put _ (some 22) _) _
  simp only [Act.put, List.setIfInBounds_toArray, List.set_cons_succ, List.set_cons_zero]
  refine wpAnyH_take (i := 6) (v := .slice (some ⟨bl, o2, none⟩) (L.length - (k + 1)) (cap - (k + 1))) rfl (by kernel_rfl) (by kernel_rfl) (by kernel_rfl) (fun _ _ _ h => h) (Or.inl ⟨by kernel_rfl, ?_⟩) hS ?_
  · intro w hw
    clear hw
    go_simp
    rw [if_pos ⟨by omega, by omega⟩, HO3.out]
  change wpAnyH _ _ _ _ _ _ _ (Act.put _ (some 23) _) _
  simp only [Act.put, List.setIfInBounds_toArray, List.set_cons_succ, List.set_cons_zero]
  refine wpAnyH_ready (rs := [1]) (by kernel_rfl) (by simp) ?_
  refine AllReadyH.cons rfl (fun K hK => ?_) AllReadyH.nil
  go_simp
  go_wp2_with fail
  refine hK.out _ _ hS (fun hS => ?_)
  clear hK K
  refine wpAnyH_ready (rs := [7]) (by kernel_rfl) (by simp) ?_
  refine AllReadyH.cons rfl (fun K hK => ?_) AllReadyH.nil
  refine step_append_e rfl (.tmp 18) (.tmp 23) rfl w4.heap.size (.slice p5 k cap5) k (cs.take (k * 5)) rfl HO6d.out bl o2 (L.length - (k + 1)) (cap - (k + 1)) (cs.drop ((k + 1) * 5)) rfl HL2.out HC2.out HO2.out (by omega) H46.out ?_
  intro v7 w7 hown7 hgrow7
  obtain ⟨p7, cap7, rfl⟩ := own_form5 hown7
  have R7 : w6.grownBy w7 (Value.slice p5 k cap5).ownBlock := ⟨hgrow7.os, hgrow7.tape, hgrow7.output, hgrow7.size, hgrow7.block⟩
  have Z27 := Z26.out.grown R7 (own_no HO6.out (by omega))
  have Z17 := Z16.out.grown R7 (own_no HO6.out (by omega))
  have HG7 := HG6.out.grown R7 (own_no HO6.out (by omega))
  refine hK.out _ _ HG7 (fun hS => ?_)
  clear hK K
  simp only [Act.put, List.setIfInBounds_toArray]
  refine wpAnyH_take (i := 8) (v := .pointer (some ⟨g + 2, 1, none⟩)) rfl (by kernel_rfl) (by kernel_rfl) (by kernel_rfl) (fun _ _ _ h => h) (Or.inl ⟨by kernel_rfl, ?_⟩) hS ?_
  · intro w hw; clear hw; go_simp
  change wpAnyH _ _ _ _ _ _ _ (Act.put _ (some 25) _) _
  simp only [Act.put]
  have B7 : Below w.heap.size w w7 := HB6.out.grown R7 HB6.out.size (fun k hk => Nat.le_trans HB4.out.size (own_low HO6.out k hk))
  obtain ⟨w8, hw8⟩ : ∃ w8, w8 = w7.setCell ⟨g + 2, 1, none⟩ (.slice p7 (k + (L.length - (k + 1))) cap7) := ⟨_, rfl⟩
  have R8 := Ite.setCell_grownBy w7 (g + 2) 1 (.slice p7 (k + (L.length - (k + 1))) cap7)
  have Z28 := Z27.set1 (.slice p7 (k + (L.length - (k + 1))) cap7)
  rw [← hw8] at R8 Z28
  have HG8 := hid2 (HG7.grown R8 (by simp))
  have Z18 := hid2 (Z17.grown R8 (by simp))
  have HB8 : Hid (Below w.heap.size w w8) := B7.grown R8 B7.size (fun k hk => by cases hk; have := HG.out; omega)
  have HO8 := hid2 (own_kept5 hown7 (fun b hb ht => R8.block b ht.lt (by simp; omega)))
  have Z28 := hid2 Z28
  obtain ⟨t0, t1, t2, t3⟩ := Z27.cells
  have HW8 := hid2 hw8
  clear hown7 hgrow7 R7 Z27 Z17 HG7 B7 R8 hw8
  refine wpAnyH_ready (rs := [9]) (by kernel_rfl) (by simp) ?_
  refine AllReadyH.cons rfl (fun K hK => ?_) AllReadyH.nil
  go_simp
  go_wp2_with fail
  rw [← HW8.out]
  refine hK.out _ _ HG8.out (fun hS => ?_)
  clear hK K
  refine wpAnyH_done (by kernel_rfl) ?_ _
  clear hS t0 t1 t2 t3
  obtain ⟨t0, t1, t2, t3⟩ := Z28.out.cells
  go_wp2_with (refine st37 rfl (.tmp 4) (.tmp 26) rfl (g + 1) rfl _ _ _ Z18.out rfl rfl ⟨rfl, rfl⟩ ?_; intro w9 hz9 hg9)
  have B9 : Below w.heap.size w w9 := HB8.out.grown hg9 HB8.out.size (fun k hk => by cases hk; have := HG.out; omega)
  have HO9 := own_kept5 HO8.out (fun b hb ht => hg9.block b ht.lt (by simp; omega))
  refine bodyPost_ret (v := .agg #[.int .i64 lim, .slice p7 (k + (L.length - (k + 1))) cap7]) ?_ rfl ⟨_, _, by rw [HLN.out], ?_, fun e => ?_, fun a e => ?_, B9⟩
  · exact results37 Tryz.results42 _ _ (g + 1) rfl _ _ _ _ hz9
  · have q := (HEQ.out.stays B9)
    have := Es.own (xs := butE L k) (n := k + (L.length - (k + 1))) HO9 HLN.out ((q.take k).append (q.drop (k + 1)))
    rwa [HLN.out] at this
  · subst e
    rcases HO9.2 with ⟨e, _⟩ | ⟨_, _, _, e, _⟩
    · exact (Value.slice.inj e).2.2
    · cases e
  · subst e
    rcases HO9.2 with ⟨e, _⟩ | ⟨_, _, _, e, hb, _⟩
    · cases e
    · cases e; exact Nat.le_trans HB4.out.size hb

theorem add_block (a : Addr) (j : Nat) : (a.add j).block = a.block := by unfold Addr.add; split <;> rfl
set_option maxHeartbeats 2000000 in
set_option maxRecDepth 8000 in
theorem rahead_nil {w : World} {B : Nat} {lim : Int} (x : Ent) {q : Option Addr} {c : Nat} (hx : Bq w B (.slice q x.val.length c) x.val) :
    Calls Tryz.prog 69 #[.agg #[.int .i64 lim, .slice none 0 0], .agg #[.string x.key, .int .i64 x.ver, .int .i64 x.asof, .int .i64 x.ends, .slice q x.val.length c]] w fun e w' => ∃ p' cap', e = .returned (.agg #[.int .i64 lim, .slice p' 1 cap']) ∧ Es w' B (.slice p' 1 cap') [x] ∧ (p' = none → cap' = 0) ∧ (∀ a, p' = some a → w.heap.size ≤ a.block) ∧ Below w.heap.size w w' := by
  obtain ⟨g, hg⟩ : ∃ g, g = w.heap.size := ⟨_, rfl⟩
  obtain ⟨wa, hwa⟩ : ∃ wa, wa = w.alloc (.cells #[.int .i64 lim, .slice none 0 0] 37) := ⟨_, rfl⟩
  obtain ⟨wb, hwb⟩ : ∃ wb, wb = wa.alloc (.cells #[.string x.key, .int .i64 x.ver, .int .i64 x.asof, .int .i64 x.ends, .slice q x.val.length c] 25) := ⟨_, rfl⟩
  obtain ⟨wc, hwc⟩ : ∃ wc, wc = wb.alloc (.cells #[.int .i64 0, .slice none 0 0] 37) := ⟨_, rfl⟩
  obtain ⟨wd, hwd⟩ : ∃ wd, wd = wc.alloc (.cells #[.string x.key, .int .i64 x.ver, .int .i64 x.asof, .int .i64 x.ends, .slice q x.val.length c] 25) := ⟨_, rfl⟩
  obtain ⟨we, hwe⟩ : ∃ we, we = wd.alloc (.cells #[.int .i64 0, .slice none 0 0] 37) := ⟨_, rfl⟩
  have sa : wa.heap.size = g + 1 := by rw [hwa, hg]; simp
  have sb : wb.heap.size = g + 2 := by rw [hwb]; simp [sa]
  have sc : wc.heap.size = g + 3 := by rw [hwc]; simp [sb]
  have sd : wd.heap.size = g + 4 := by rw [hwd]; simp [sc]
  have A1 : Below w.heap.size w wa := by rw [hwa]; go_grown
  have A2 : Below wa.heap.size wa wb := by rw [hwb]; go_grown
  have A3 : Below wb.heap.size wb wc := by rw [hwc]; go_grown
  have A4 : Below wc.heap.size wc wd := by rw [hwd]; go_grown
  have A5 : Below wd.heap.size wd we := by rw [hwe]; go_grown
  have Za : Two wa g (.int .i64 lim) (.slice none 0 0) := by rw [hwa, hg]; exact heap_alloc_new w _
  have Zb : wb.heap[g + 1]? = some (.cells #[.string x.key, .int .i64 x.ver, .int .i64 x.asof, .int .i64 x.ends, .slice q x.val.length c] 25 (0, 0)) := by rw [hwb, ← sa]; exact heap_alloc_new wa _
  have Zc : Two wc (g + 2) (.int .i64 0) (.slice none 0 0) := by rw [hwc, ← sb]; exact heap_alloc_new wb _
  have Od : wd.ownsRow (g + 3) 25 5 (.slice (some ⟨g + 3, 0, none⟩) 1 1) 1 [.string x.key, .int .i64 x.ver, .int .i64 x.asof, .int .i64 x.ends, .slice q x.val.length c] := by
    have := World.ownsRow_lit (base := g + 3) (e := 25) (size := 5) wc #[.string x.key, .int .i64 x.ver, .int .i64 x.asof, .int .i64 x.ends, .slice q x.val.length c] 1 (by omega) (by unfold maxLen; omega) rfl
    rw [← hwd, sc] at this
    exact this
  have Ze : Two we (g + 4) (.int .i64 0) (.slice none 0 0) := by rw [hwe, ← sd]; exact heap_alloc_new wd _
  have Bc := (A1.trans (A2.mono A1.size)).trans (A3.mono (Nat.le_trans A1.size A2.size))
  have Bd := Bc.trans (A4.mono Bc.size)
  have Be := Bd.trans (A5.mono Bd.size)
  have T0b := Za.stays A2
  have T0c := hid2 (T0b.stays A3)
  have E1c := hid2 (heap_stays Zb A3)
  have T0e := hid2 ((T0c.out.stays A4).stays A5)
  have T2e := hid2 ((Zc.stays A4).stays A5)
  have T4e := hid2 Ze
  have O5 := hid2 (own_kept5 Od (fun b hb ht => A5.block b ht.lt))
  have HBe := hid2 Be
  have HX := hid2 (hx.stays Be)
  have hx0 := hid2 hx
  have HG := hid2 hg
  have HWA := hid2 hwa
  have HWB := hid2 hwb
  have HWC := hid2 hwc
  have HWD := hid2 hwd
  have HWE := hid2 hwe
  obtain ⟨a0, a1, a2, a3⟩ := T0c.out.cells
  obtain ⟨⟨q0, q1, q2, q3, q4⟩, qf⟩ := Ite.five24 E1c.out
  have hsc := lt_of_block E1c.out
  clear hx A1 A2 A3 A4 A5 Za Zb Zc Od Ze Bc Bd Be T0b hwa hwb hwc hwd hwe hg
  go_enter Tryz.func69, Tryz.ntmps69
  obtain ⟨i0, hi, hz0, hz1, hz2⟩ := info_parts info_en
  go_wp2_with (first
    | (rw [← HWA.out, ← HWB.out, ← HWC.out, ← HWD.out, ← HWE.out, ← HG.out]; refine st37 rfl (.tmp 5) (.tmp 10) rfl (g + 4) rfl _ _ _ T4e.out rfl rfl ⟨rfl, rfl⟩ ?_; intro w5 hz5 hg5; have HT45 := hid2 hz5; have T05 := hid2 (T0e.out.grown hg5 (by simp)); have T25 := hid2 (T2e.out.grown hg5 (by simp)); have HO5 := hid2 (own_kept5 O5.out (fun b hb ht => hg5.block b ht.lt (by intro e; have := Option.some.inj e; subst this; exact ht.ne T4e.out.tag (by decide) rfl))); have HB5 : Hid (Below w.heap.size w w5) := HBe.out.grown hg5 HBe.out.size (fun j hj => by (cases hj; have := HG.out; omega)); obtain ⟨t0, t1, t2, t3⟩ := hz5.cells; obtain ⟨s0, s1, s2, s3⟩ := T05.out.cells; clear hz5 hg5 a0 a1 a2 a3 q0 q1 q2 q3 q4 qf hsc)
    | (at_builtin; refine wpList_append_own_none rfl (.tmp 12) (.tmp 14) 35 rfl (g + 3) 25 i0 5 Tryz.underlying35 hi (.slice (some ⟨g + 3, 0, none⟩) 1 1) 1 _ rfl HO5.out rfl ?_)
    | (refine st37 rfl (.tmp 4) (.tmp 17) rfl (g + 2) rfl _ _ _ (T25.out.grown (Ite.setCell_grownBy w5 (g + 4) 1 _) (by simp)) rfl rfl ⟨rfl, rfl⟩ ?_; intro w9 hz9 hg9))
  have R6 := Ite.setCell_grownBy w5 (g + 4) 1 (.slice (some ⟨g + 3, 0, none⟩) 1 1)
  have B6 : Below w.heap.size w (w5.setCell ⟨g + 4, 1, none⟩ (.slice (some ⟨g + 3, 0, none⟩) 1 1)) := HB5.out.grown R6 HB5.out.size (fun k hk => by cases hk; have := HG.out; omega)
  have B9 : Below w.heap.size w w9 := B6.grown hg9 B6.size (fun k hk => by cases hk; have := HG.out; omega)
  have O6 := own_kept5 HO5.out (fun b hb ht => R6.block b ht.lt (by intro e; have := Option.some.inj e; subst this; exact ht.ne HT45.out.tag (by decide) rfl))
  have T26 := T25.out.grown R6 (by simp)
  have HO9 := own_kept5 O6 (fun b hb ht => hg9.block b ht.lt (by intro e; have := Option.some.inj e; subst this; exact ht.ne T26.tag (by decide) rfl))
  refine bodyPost_ret (v := .agg #[.int .i64 lim, .slice (some ⟨g + 3, 0, none⟩) 1 1]) ?_ rfl ⟨_, _, rfl, ?_, fun e => (nomatch e), fun a e => by cases e; have := HG.out; show _ ≤ g + 3; omega, B9⟩
  · exact results37 Tryz.results69 _ _ (g + 2) rfl _ _ _ _ hz9
  · exact Es.own (xs := [x]) HO9 rfl ⟨q, c, [], rfl, (hx0.out.stays B9), rfl⟩
set_option maxHeartbeats 2000000 in
set_option maxRecDepth 8000 in
theorem rahead_some {w : World} {B : Nat} {lim : Int} {ad : Addr} {cap : Nat} {L : List Ent} {cs : List Value} (heq : EQ w B L cs) (hcs : ∀ j u, cs[j]? = some u → ad.block < w.heap.size ∧ w.cell? (ad.add j) = some u) (hlen : L.length ≤ 1000) (x : Ent) {q : Option Addr} {c : Nat} (hx : Bq w B (.slice q x.val.length c) x.val) :
    Calls Tryz.prog 69 #[.agg #[.int .i64 lim, .slice (some ad) L.length cap], .agg #[.string x.key, .int .i64 x.ver, .int .i64 x.asof, .int .i64 x.ends, .slice q x.val.length c]] w fun e w' => ∃ p' cap', e = .returned (.agg #[.int .i64 lim, .slice p' (x :: L).length cap']) ∧ Es w' B (.slice p' (x :: L).length cap') (x :: L) ∧ (p' = none → cap' = 0) ∧ (∀ a, p' = some a → w.heap.size ≤ a.block) ∧ Below w.heap.size w w' := by
  have hlc := heq.length
  have heq0 := hid2 heq
  obtain ⟨g, hg⟩ : ∃ g, g = w.heap.size := ⟨_, rfl⟩
  obtain ⟨wa, hwa⟩ : ∃ wa, wa = w.alloc (.cells #[.int .i64 lim, .slice (some ad) L.length cap] 37) := ⟨_, rfl⟩
  obtain ⟨wb, hwb⟩ : ∃ wb, wb = wa.alloc (.cells #[.string x.key, .int .i64 x.ver, .int .i64 x.asof, .int .i64 x.ends, .slice q x.val.length c] 25) := ⟨_, rfl⟩
  obtain ⟨wc, hwc⟩ : ∃ wc, wc = wb.alloc (.cells #[.int .i64 0, .slice none 0 0] 37) := ⟨_, rfl⟩
  obtain ⟨wd, hwd⟩ : ∃ wd, wd = wc.alloc (.cells #[.string x.key, .int .i64 x.ver, .int .i64 x.asof, .int .i64 x.ends, .slice q x.val.length c] 25) := ⟨_, rfl⟩
  obtain ⟨we, hwe⟩ : ∃ we, we = wd.alloc (.cells #[.int .i64 0, .slice none 0 0] 37) := ⟨_, rfl⟩
  have sa : wa.heap.size = g + 1 := by rw [hwa, hg]; simp
  have sb : wb.heap.size = g + 2 := by rw [hwb]; simp [sa]
  have sc : wc.heap.size = g + 3 := by rw [hwc]; simp [sb]
  have sd : wd.heap.size = g + 4 := by rw [hwd]; simp [sc]
  have A1 : Below w.heap.size w wa := by rw [hwa]; go_grown
  have A2 : Below wa.heap.size wa wb := by rw [hwb]; go_grown
  have A3 : Below wb.heap.size wb wc := by rw [hwc]; go_grown
  have A4 : Below wc.heap.size wc wd := by rw [hwd]; go_grown
  have A5 : Below wd.heap.size wd we := by rw [hwe]; go_grown
  have Za : Two wa g (.int .i64 lim) (.slice (some ad) L.length cap) := by rw [hwa, hg]; exact heap_alloc_new w _
  have Zb : wb.heap[g + 1]? = some (.cells #[.string x.key, .int .i64 x.ver, .int .i64 x.asof, .int .i64 x.ends, .slice q x.val.length c] 25 (0, 0)) := by rw [hwb, ← sa]; exact heap_alloc_new wa _
  have Zc : Two wc (g + 2) (.int .i64 0) (.slice none 0 0) := by rw [hwc, ← sb]; exact heap_alloc_new wb _
  have Od : wd.ownsRow (g + 3) 25 5 (.slice (some ⟨g + 3, 0, none⟩) 1 1) 1 [.string x.key, .int .i64 x.ver, .int .i64 x.asof, .int .i64 x.ends, .slice q x.val.length c] := by
    have := World.ownsRow_lit (base := g + 3) (e := 25) (size := 5) wc #[.string x.key, .int .i64 x.ver, .int .i64 x.asof, .int .i64 x.ends, .slice q x.val.length c] 1 (by omega) (by unfold maxLen; omega) rfl
    rw [← hwd, sc] at this
    exact this
  have Ze : Two we (g + 4) (.int .i64 0) (.slice none 0 0) := by rw [hwe, ← sd]; exact heap_alloc_new wd _
  have Bc := (A1.trans (A2.mono A1.size)).trans (A3.mono (Nat.le_trans A1.size A2.size))
  have Bd := Bc.trans (A4.mono Bc.size)
  have Be := Bd.trans (A5.mono Bd.size)
  have T0b := Za.stays A2
  have T0c := hid2 (T0b.stays A3)
  have E1c := hid2 (heap_stays Zb A3)
  have T0e := hid2 ((T0c.out.stays A4).stays A5)
  have T2e := hid2 ((Zc.stays A4).stays A5)
  have T4e := hid2 Ze
  have O5 := hid2 (own_kept5 Od (fun b hb ht => A5.block b ht.lt))
  have HBe := hid2 Be
  have HEQ := hid2 (heq.stays Be)
  have HCS : Hid (∀ j u, cs[j]? = some u → we.cell? (ad.add j) = some u) := fun j u hj => (Be.cell (p := ad.add j) (by rw [add_block]; exact (hcs j u hj).1)).trans (hcs j u hj).2
  have HAB : Hid (∀ j u, cs[j]? = some u → ad.block < w.heap.size) := fun j u hj => (hcs j u hj).1
  have HX := hid2 (hx.stays Be)
  have hx0 := hid2 hx
  have HG := hid2 hg
  have HWA := hid2 hwa
  have HWB := hid2 hwb
  have HWC := hid2 hwc
  have HWD := hid2 hwd
  have HWE := hid2 hwe
  obtain ⟨a0, a1, a2, a3⟩ := T0c.out.cells
  obtain ⟨⟨q0, q1, q2, q3, q4⟩, qf⟩ := Ite.five24 E1c.out
  have hsc := lt_of_block E1c.out
  clear heq hcs hx A1 A2 A3 A4 A5 Za Zb Zc Od Ze Bc Bd Be T0b hwa hwb hwc hwd hwe hg
  go_enter Tryz.func69, Tryz.ntmps69
  obtain ⟨i0, hi, hz0, hz1, hz2⟩ := info_parts info_en
  go_wp2_with (first
    | (rw [← HWA.out, ← HWB.out, ← HWC.out, ← HWD.out, ← HWE.out, ← HG.out]; refine st37 rfl (.tmp 5) (.tmp 10) rfl (g + 4) rfl _ _ _ T4e.out rfl rfl ⟨rfl, rfl⟩ ?_; intro w5 hz5 hg5; have HCS5 : Hid (∀ j u, cs[j]? = some u → w5.cell? (ad.add j) = some u) := (fun j u hj => (World.cell?_of_block (by rw [add_block]; exact hg5.block ad.block (Nat.lt_of_lt_of_le (HAB.out j u hj) HBe.out.size) (by have := HAB.out j u hj; have := HG.out; simp; omega))).trans (HCS.out j u hj)); have HT45 := hid2 hz5; have T05 := hid2 (T0e.out.grown hg5 (by simp)); have T25 := hid2 (T2e.out.grown hg5 (by simp)); have HO5 := hid2 (own_kept5 O5.out (fun b hb ht => hg5.block b ht.lt (by intro e; have := Option.some.inj e; subst this; exact ht.ne T4e.out.tag (by decide) rfl))); have HB5 : Hid (Below w.heap.size w w5) := HBe.out.grown hg5 HBe.out.size (fun j hj => by (cases hj; have := HG.out; omega)); obtain ⟨t0, t1, t2, t3⟩ := hz5.cells; obtain ⟨s0, s1, s2, s3⟩ := T05.out.cells; clear hz5 hg5 a0 a1 a2 a3 q0 q1 q2 q3 q4 qf hsc; have hs5 : g + 3 ≤ w5.heap.size := (by have := HT45.out.tag.lt; omega))
    | (at_builtin; refine wpList_append_own _ rfl (.tmp 12) (.tmp 14) 35 rfl (g + 3) 25 i0 _ 5 64 Tryz.underlying35 hi hz0 hz1 hz2 rfl (by decide) (.slice (some ⟨g + 3, 0, none⟩) 1 1) 1 _ rfl HO5.out ad L.length cap cs rfl hlc HCS5.out HEQ.out.one (by unfold maxLen; omega) (by omega) hs5 ?_; intro v6 w6 hown6 hgrow6 hnil6; obtain ⟨p6, cap6, rfl⟩ := own_form5 hown6; have hgr6 : w5.grownBy w6 (some (g + 3)) := hgrow6; have T46 := hid2 (HT45.out.grown hgr6 (by simp)); have T26 := hid2 (T25.out.grown hgr6 (by simp)); have HO6 := hid2 hown6; have HB6 : Hid (Below w.heap.size w w6) := HB5.out.grown hgr6 HB5.out.size (fun j hj => by (cases hj; have := HG.out; omega)); have HN6 := hid2 hnil6; obtain ⟨r0, r1, r2, r3⟩ := T46.out.cells; clear hown6 hgrow6 hnil6 hgr6 t0 t1 t2 t3 s0 s1 s2 s3)
    | (refine st37 rfl (.tmp 4) (.tmp 17) rfl (g + 2) rfl _ _ _ (T26.out.grown (Ite.setCell_grownBy w6 (g + 4) 1 _) (by simp)) rfl rfl ⟨rfl, rfl⟩ ?_; intro w9 hz9 hg9))
  have R6 := Ite.setCell_grownBy w6 (g + 4) 1 (.slice p6 (1 + L.length) cap6)
  have B7 : Below w.heap.size w (w6.setCell ⟨g + 4, 1, none⟩ (.slice p6 (1 + L.length) cap6)) := HB6.out.grown R6 HB6.out.size (fun k hk => by cases hk; have := HG.out; omega)
  have B9 : Below w.heap.size w w9 := B7.grown hg9 B7.size (fun k hk => by cases hk; have := HG.out; omega)
  have O7 := own_kept5 HO6.out (fun b hb ht => R6.block b ht.lt (by intro e; have := Option.some.inj e; subst this; exact ht.ne T46.out.tag (by decide) rfl))
  have T27 := T26.out.grown R6 (by simp)
  have HO9 := own_kept5 O7 (fun b hb ht => hg9.block b ht.lt (by intro e; have := Option.some.inj e; subst this; exact ht.ne T27.tag (by decide) rfl))
  have hln : 1 + L.length = (x :: L).length := by rw [List.length_cons]; omega
  refine bodyPost_ret (v := .agg #[.int .i64 lim, .slice p6 (1 + L.length) cap6]) ?_ rfl ⟨p6, cap6, by rw [hln]; rfl, ?_, fun e => ?_, fun a e => ?_, B9⟩
  · exact results37 Tryz.results69 _ _ (g + 2) rfl _ _ _ _ hz9
  · have := Es.own (B := B) (xs := x :: L) HO9 hln (EQ.append (xs := [x]) ⟨q, c, [], rfl, (hx0.out.stays B9), rfl⟩ (heq0.out.stays B9))
    rwa [hln] at this
  · subst e
    rcases HO9.2 with ⟨e, _⟩ | ⟨_, _, _, e, _⟩
    · exact (Value.slice.inj e).2.2
    · cases e
  · subst e
    rcases HO9.2 with ⟨e, _⟩ | ⟨_, _, _, e, hb, _⟩
    · cases e
    · cases e; exact Nat.le_trans (show w.heap.size ≤ g + 3 by have := HG.out; omega) hb
theorem rahead_t {w : World} {B : Nat} {lim : Int} {p : Option Addr} {cap : Nat} {L : List Ent} (h : Es w B (.slice p L.length cap) L) (hz : p = none → cap = 0) (hl : L.length ≤ 1000) (x : Ent) {q : Option Addr} {c : Nat} (hx : Bq w B (.slice q x.val.length c) x.val) :
    Calls Tryz.prog 69 #[.agg #[.int .i64 lim, .slice p L.length cap], .agg #[.string x.key, .int .i64 x.ver, .int .i64 x.asof, .int .i64 x.ends, .slice q x.val.length c]] w fun e w' => ∃ p' cap', e = .returned (.agg #[.int .i64 lim, .slice p' (x :: L).length cap']) ∧ Es w' B (.slice p' (x :: L).length cap') (x :: L) ∧ (p' = none → cap' = 0) ∧ (∀ a, p' = some a → w.heap.size ≤ a.block) ∧ Below w.heap.size w w' := by
  cases p with
  | none =>
    obtain rfl := hz rfl
    have hL0 : L = [] := by
      obtain ⟨_, _, e, _, _, h4⟩ := h
      cases e
      cases L with
      | nil => rfl
      | cons y r => obtain ⟨b, off, q, c, e1, _⟩ := h4 0 y rfl; cases e1
    subst hL0
    exact rahead_nil x hx
  | some ad =>
    by_cases hL : L = []
    · subst hL
      exact rahead_some (cs := []) (show EQ w B [] [] from rfl) (fun j u hj => by simp at hj) hl x hx
    · obtain ⟨bl, off, cs, e, hbl, heq, hcs⟩ := h.row hL
      cases e
      exact rahead_some heq (fun j u hj => ⟨hbl, by rw [Ite.add_off]; exact hcs j u hj⟩) hl x hx

end Go.Proofs.YtkgecpplgjfhiaaGreatDoor
