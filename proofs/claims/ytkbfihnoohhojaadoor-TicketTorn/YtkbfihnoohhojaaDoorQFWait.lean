/-
  A change waits.
-/
import Derived.Test.YtkbfihnoohhojaaDoorQFSmall
import Derived.Test.YtkbfihnoohhojaaDoorQFBld
import Derived.Deep.RegionHeld3
import Derived.Deep.AppendLies
namespace Go.Proofs.YtkbfihnoohhojaaDoor.Fla
open Go.RowKit

theorem own_ne {w : World} {B : Nat} {e : TypeId} {size : Nat} {v : Value} {n : Nat} {xs : List Value} (h : w.ownsRow B e size v n xs) {g : Nat} {cs : Array Value} {t : TypeId} {fr : Nat × Nat} (hg : w.heap[g]? = some (.cells cs t fr)) (ht : t ≠ e) : some g ≠ v.ownBlock := by
  rcases h.2 with ⟨rfl, _⟩ | ⟨g', cap, cur, rfl, _, hh, _⟩
  · simp [Value.ownBlock]
  · intro e
    simp only [Value.ownBlock, Option.some.injEq] at e
    subst e
    rw [hh] at hg
    cases hg
    exact ht rfl
theorem heap_alloc_old {w : World} {b : Nat} {o : Obj} (h : w.heap[b]? = some o) (x : Obj) : (w.alloc x).heap[b]? = some o := heap_grown h (below_grown (by go_grown) none) (by simp)
theorem heap_setCell_other {w : World} {g o b : Nat} {v : Value} (h : b ≠ g) : (w.setCell ⟨g, o, none⟩ v).heap[b]? = w.heap[b]? := RowKit.Below.heap_setCell _ _ _ _ h
set_option maxHeartbeats 2000000 in
set_option maxRecDepth 10000 in
theorem wait_any {w : World} {B g m : Nat} {wv : Value} (d : Dev) (c : Chg) (hc : c.p.length = 256) (h : w.heap[g]? = some (.cells #[.int .i64 d.pages, .map (some m), wv, .int .i64 d.fuse, .bool d.down, .int .i64 d.done] 68 (0, 0)))
    (hown : w.ownsRow B 85 258 wv d.waits.length (chgsL d.waits)) (hB : B ≤ w.heap.size) (hl : d.waits.length ≤ 1000) (h0 : 0 ≤ d.done) (h1 : d.done ≤ 1000) (f0 : -9223372036854775808 ≤ d.fuse) (f1 : d.fuse ≤ 9223372036854775807) :
    Calls Tryd.prog 39 #[.pointer (some ⟨g, 0, none⟩), .agg (chgV c)] w fun e w' => e = .returned (.int .i64 (codeP (waitP d c))) ∧ ∃ wv' w1, w'.heap[g]? = some (.cells #[.int .i64 (waitP d c).pages, .map (some m), wv', .int .i64 (waitP d c).fuse, .bool (waitP d c).down, .int .i64 (waitP d c).done] 68 (0, 0)) ∧
      w'.ownsRow B 85 258 wv' (waitP d c).waits.length (chgsL (waitP d c).waits) ∧ w.grownBy w1 wv.ownBlock ∧ w1.grownBy w' (some g) := by
  obtain ⟨⟨c0, c1, c2, c3, c4, c5⟩, hf⟩ := six h
  obtain ⟨i0, hi, hz0, hz1, hz2⟩ := info_of Tryd.info81m
  have hg1 : g < w.heap.size := (Array.getElem?_eq_some_iff.1 h).1
  have hne := own_ne hown h (by decide)
  have HSd : Hid ((w.alloc (.cells (chgV c) 85)).drew.heap[w.heap.size]? = some (.cells (chgV c) 85 (0, 0))) := heap_alloc_last w _
  have HS2 : Hid (((w.alloc (.cells (chgV c) 85)).drew.alloc (.cells (chgV c) 85)).heap[w.heap.size]? = some (.cells (chgV c) 85 (0, 0))) := heap_alloc_old HSd.out _
  have HD2 : Hid (((w.alloc (.cells (chgV c) 85)).drew.alloc (.cells (chgV c) 85)).heap[g]? = some (.cells #[.int .i64 d.pages, .map (some m), wv, .int .i64 d.fuse, .bool d.down, .int .i64 d.done] 68 (0, 0))) := heap_alloc_old (heap_alloc_old h _) _
  have HO2 : Hid (((w.alloc (.cells (chgV c) 85)).drew.alloc (.cells (chgV c) 85)).ownsRow B 85 258 wv d.waits.length (chgsL d.waits)) := ((hown.alloc _).drew).alloc _
  have NW : Hid (∀ j u, (chgL c)[j]? = some u → ((w.alloc (.cells (chgV c) 85)).drew.alloc (.cells (chgV c) 85)).cell? ((⟨w.heap.size + 1, 0, none⟩ : Addr).add j) = some u) := by
    have := World.news_of_block (cs := chgV c) (t := 85) (fr := (0, 0)) (heap_alloc_last (w.alloc (.cells (chgV c) 85)).drew (.cells (chgV c) 85))
    show ∀ j u, _ → _
    simpa [chgV] using this
  have CL : Hid ((chgL c).length = 1 * 258) := by show _ = _; rw [chgL_length, hc]
  have ZS : Hid ((Value.agg (chgV ⟨0, false, zeros⟩)).cells.size = 258) := by show (chgV _).size = _; rw [chgV_size]; simp [zeros_length]
  have NB : Hid (some w.heap.size ≠ wv.ownBlock) := fun e => by have := (hown.lt _ e.symm).2; omega
  have HN : Hid (some g ≠ wv.ownBlock) := hne
  have HOWN : Hid (w.ownsRow B 85 258 wv d.waits.length (chgsL d.waits)) := hown
  have ng : w.heap.size ≠ g := by omega
  have H : Hid (w.heap[g]? = some (.cells #[.int .i64 d.pages, .map (some m), wv, .int .i64 d.fuse, .bool d.down, .int .i64 d.done] 68 (0, 0))) := h
  clear h hown
  go_enter Tryd.func39, Tryd.ntmps39
  go_wp2_with fail
  refine wp_region_held_drew (S := fun w' => w'.heap[w.heap.size]? = some (.cells (chgV c) 85 (0, 0))) (by kernel_rfl) (HSd.out) (fun hS => ?_)
  change wpAnyH _ _ _ _ _ _ _ _ (World.drew _)
  refine wpAnyH_take (i := 0) (v := .pointer (some ⟨g, 0, none⟩)) rfl (by kernel_rfl) (by kernel_rfl) (by kernel_rfl) (fun _ _ _ h => h) (Or.inl ⟨by kernel_rfl, ?_⟩) hS ?_
  · intro w hw; clear hw; go_simp
  change wpAnyH _ _ _ _ _ _ _ (Act.put _ (some 5) _) _
  simp only [Act.put, List.setIfInBounds_toArray, List.set_cons_succ, List.set_cons_zero]
  refine wpAnyH_take (i := 1) (v := .pointer (some ⟨g, 0, none⟩)) rfl (by kernel_rfl) (by kernel_rfl) (by kernel_rfl) (fun _ _ _ h => h) (Or.inl ⟨by kernel_rfl, ?_⟩) hS ?_
  · intro w hw; clear hw; go_simp
  change wpAnyH _ _ _ _ _ _ _ (Act.put _ (some 6) _) _
  simp only [Act.put, List.setIfInBounds_toArray, List.set_cons_succ, List.set_cons_zero]
  refine wpAnyH_take (i := 2) (v := .pointer (some ⟨g, 0, none⟩)) rfl (by kernel_rfl) (by kernel_rfl) (by kernel_rfl) (fun _ _ _ h => h) (Or.inl ⟨by kernel_rfl, ?_⟩) hS ?_
  · intro w hw; clear hw; go_simp
  change wpAnyH _ _ _ _ _ _ _ (Act.put _ (some 7) _) _
  simp only [Act.put, List.setIfInBounds_toArray, List.set_cons_succ, List.set_cons_zero]
  refine wpAnyH_take (i := 3) (v := .pointer (some ⟨g, 2, none⟩)) rfl (by kernel_rfl) (by kernel_rfl) (by kernel_rfl) (fun _ _ _ h => h) (Or.inl ⟨by kernel_rfl, ?_⟩) hS ?_
  · intro w hw; clear hw; go_simp
  change wpAnyH _ _ _ _ _ _ _ (Act.put _ (some 8) _) _
  simp only [Act.put, List.setIfInBounds_toArray, List.set_cons_succ, List.set_cons_zero]
  refine wpAnyH_take (i := 5) (v := .agg (chgV c)) rfl (by kernel_rfl) (by kernel_rfl) (by kernel_rfl) (fun _ _ _ h => h) (yieldsIf_load_mid (by kernel_rfl) 85 (.tmp 3) rfl w.heap.size 0 rfl (chgL c) _ (fun w hw => by simpa [chgV] using range_block hw) Tryd.underlying85 rfl (by rw [chgL_length, hc]; exact Tryd.size81)) hS ?_
  change wpAnyH _ _ _ _ _ _ _ (Act.put _ (some 10) _) _
  simp only [Act.put, List.setIfInBounds_toArray, List.set_cons_succ, List.set_cons_zero]
  refine wpAnyH_ready (rs := [4, 6]) (by kernel_rfl) (by simp) ?_
  refine AllReadyH.cons rfl (fun K hK => ?_) (AllReadyH.cons rfl (fun K hK => ?_) AllReadyH.nil)
  · go_simp
    refine hK.out _ _ (HSd.out) (fun hS => ?_)
    clear hK K
    skip
    refine wpAnyH_ready (rs := [6]) (by kernel_rfl) (by simp) ?_
    refine AllReadyH.cons rfl (fun K hK => ?_) AllReadyH.nil
    refine step_bs63 rfl (.tmp 10) rfl c hc rfl (w.heap.size + 1) (by simp) ?_
    refine hK.out _ _ (HS2.out) (fun hS => ?_)
    clear hK K
    change wpAnyH _ _ _ _ _ _ _ (Act.put _ (some 11) _) _
    simp only [Act.put, List.setIfInBounds_toArray, List.set_cons_succ, List.set_cons_zero]
    refine wpAnyH_ready (rs := [7]) (by kernel_rfl) (by simp) ?_
    refine AllReadyH.cons rfl (fun K hK => ?_) AllReadyH.nil
    refine step_append_lies _ (by rfl) (.tmp 9) (.tmp 11) 66 (by rfl) B 85 i0 _ 258 272 Tryd.underlying66 hi hz0 hz1 hz2 ZS.out (by omega) wv d.waits.length (chgsL d.waits) (by rfl) HO2.out ⟨w.heap.size + 1, 0, none⟩ 1 1 (chgL c) (by rfl) CL.out NW.out (chgL_one c) (by omega) (by unfold maxLen; omega) (by omega) (by simp; omega) (w.heap.size + 2) (by simp) ?_
    intro gg cap w1 hown1 hgrow hat hlt1
    refine hK.out _ _ (heap_grown HS2.out hgrow NB.out) (fun hS => ?_)
    clear hK K
    change wpAnyH _ _ _ _ _ _ _ (Act.put _ (some 12) _) _
    simp only [Act.put, List.setIfInBounds_toArray, List.set_cons_succ, List.set_cons_zero]
    have hd1 := heap_grown HD2.out hgrow hne
    obtain ⟨⟨e0, e1, e2, e3, e4, e5⟩, ef⟩ := six hd1
    refine wpAnyH_take (i := 8) (v := .pointer (some ⟨g, 0, none⟩)) rfl (by kernel_rfl) (by kernel_rfl) (by kernel_rfl) (fun _ _ _ h => h) (Or.inl ⟨by kernel_rfl, ?_⟩) hS ?_
    · intro w hw; clear hw; go_simp
    change wpAnyH _ _ _ _ _ _ _ (Act.put _ (some 13) _) _
    simp only [Act.put, List.setIfInBounds_toArray, List.set_cons_succ, List.set_cons_zero]
    refine wpAnyH_take (i := 9) (v := .pointer (some ⟨g, 2, none⟩)) rfl (by kernel_rfl) (by kernel_rfl) (by kernel_rfl) (fun _ _ _ h => h) (Or.inl ⟨by kernel_rfl, ?_⟩) hS ?_
    · intro w hw; clear hw; go_simp
    change wpAnyH _ _ _ _ _ _ _ (Act.put _ (some 14) _) _
    simp only [Act.put, List.setIfInBounds_toArray, List.set_cons_succ, List.set_cons_zero]
    refine wpAnyH_ready (rs := [10]) (by kernel_rfl) (by simp) ?_
    refine AllReadyH.cons rfl (fun K hK => ?_) AllReadyH.nil
    go_simp
    refine hK.out _ _ (by rw [heap_setCell_other ng]; exact hS) (fun hS => ?_)
    clear hK K
    skip
    refine wpAnyH_done (by kernel_rfl) ?_ _
    have k2 : (w1.setCell ⟨g, 2, none⟩ (.slice (some ⟨gg, 0, none⟩) (d.waits.length + 1) cap)).heap[g]? = some (.cells #[.int .i64 d.pages, .map (some m), .slice (some ⟨gg, 0, none⟩) (d.waits.length + 1) cap, .int .i64 d.fuse, .bool d.down, .int .i64 d.done] 68 (0, 0)) := by simpa using setCell_heap (o := 2) hd1 (.slice (some ⟨gg, 0, none⟩) (d.waits.length + 1) cap)
    have hgr : w.grownBy w1 wv.ownBlock := grown_trans (below_grown (by go_grown) _) hgrow
    have hg2 := setCell_grown (o := 2) hd1 (.slice (some ⟨gg, 0, none⟩) (d.waits.length + 1) cap)
    have hne1 := own_ne hown1 hd1 (by decide)
    have ho2 := hown1.kept hg2 (.inr (Ne.symm hne1))
    clear hd1 hown1 hgrow hat hlt1 e0 e1 e2 e3 e4 e5 ef hS
    generalize w1.setCell ⟨g, 2, none⟩ (.slice (some ⟨gg, 0, none⟩) (d.waits.length + 1) cap) = w2 at *
    have KB : Calls Tryd.prog 54 #[.pointer (some ⟨g, 0, none⟩)] w2 fun e w' => e = .returned (.bool (waitP d c).down) ∧ w2.grownBy w' (some g) ∧ w'.heap[g]? = some (.cells #[.int .i64 (waitP d c).pages, .map (some m), .slice (some ⟨gg, 0, none⟩) (d.waits.length + 1) cap, .int .i64 (waitP d c).fuse, .bool (waitP d c).down, .int .i64 (waitP d c).done] 68 (0, 0)) := burns_any { d with waits := d.waits ++ [c] } k2 h0 h1 f0 f1
    have HR : Hid (w.grownBy w1 wv.ownBlock ∧ w1.grownBy w2 (some g) ∧ w2.ownsRow B 85 258 (.slice (some ⟨gg, 0, none⟩) (d.waits.length + 1) cap) (d.waits.length + 1) (chgsL d.waits ++ chgL c)) := ⟨hgr, hg2, ho2⟩
    have HNE : Hid (some g ≠ (Value.slice (some ⟨gg, 0, none⟩) (d.waits.length + 1) cap).ownBlock) := hne1
    clear hgr hg2 ho2 hne1 k2
    cases hdn : (waitP d c).down
    all_goals
      rw [hdn] at KB
      have HKB : Hid (Calls Tryd.prog 54 #[.pointer (some ⟨g, 0, none⟩)] w2 _) := KB
      have HD : Hid ((waitP d c).down = _) := hdn
      clear KB hdn
      go_wp2_with (go_at_call 54; refine (show Calls _ _ _ _ _ from HKB).mono ?_; rintro e w3 ⟨rfl, hg3, hh3⟩)
      go_ret
      refine ⟨by unfold codeP; rw [HD.out]; rfl, _, w1, by rw [HD.out]; exact hh3, ?_, HR.out.1, grown_trans HR.out.2.1 hg3⟩
      have h5 := HR.out.2.2.kept hg3 (.inr (Ne.symm HNE.out))
      show w3.ownsRow B 85 258 _ (d.waits ++ [c]).length (chgsL (d.waits ++ [c]))
      rw [chgsL_append, List.length_append, show chgsL [c] = chgL c by simp [chgsL]]
      exact h5
  · refine step_bs63 rfl (.tmp 10) rfl c hc rfl (w.heap.size + 1) (by simp) ?_
    refine hK.out _ _ (HS2.out) (fun hS => ?_)
    clear hK K
    change wpAnyH _ _ _ _ _ _ _ (Act.put _ (some 11) _) _
    simp only [Act.put, List.setIfInBounds_toArray, List.set_cons_succ, List.set_cons_zero]
    refine wpAnyH_ready (rs := [4]) (by kernel_rfl) (by simp) ?_
    refine AllReadyH.cons rfl (fun K hK => ?_) AllReadyH.nil
    go_simp
    refine hK.out _ _ (HS2.out) (fun hS => ?_)
    clear hK K
    skip
    refine wpAnyH_ready (rs := [7]) (by kernel_rfl) (by simp) ?_
    refine AllReadyH.cons rfl (fun K hK => ?_) AllReadyH.nil
    refine step_append_lies _ (by rfl) (.tmp 9) (.tmp 11) 66 (by rfl) B 85 i0 _ 258 272 Tryd.underlying66 hi hz0 hz1 hz2 ZS.out (by omega) wv d.waits.length (chgsL d.waits) (by rfl) HO2.out ⟨w.heap.size + 1, 0, none⟩ 1 1 (chgL c) (by rfl) CL.out NW.out (chgL_one c) (by omega) (by unfold maxLen; omega) (by omega) (by simp; omega) (w.heap.size + 2) (by simp) ?_
    intro gg cap w1 hown1 hgrow hat hlt1
    refine hK.out _ _ (heap_grown HS2.out hgrow NB.out) (fun hS => ?_)
    clear hK K
    change wpAnyH _ _ _ _ _ _ _ (Act.put _ (some 12) _) _
    simp only [Act.put, List.setIfInBounds_toArray, List.set_cons_succ, List.set_cons_zero]
    have hd1 := heap_grown HD2.out hgrow hne
    obtain ⟨⟨e0, e1, e2, e3, e4, e5⟩, ef⟩ := six hd1
    refine wpAnyH_take (i := 8) (v := .pointer (some ⟨g, 0, none⟩)) rfl (by kernel_rfl) (by kernel_rfl) (by kernel_rfl) (fun _ _ _ h => h) (Or.inl ⟨by kernel_rfl, ?_⟩) hS ?_
    · intro w hw; clear hw; go_simp
    change wpAnyH _ _ _ _ _ _ _ (Act.put _ (some 13) _) _
    simp only [Act.put, List.setIfInBounds_toArray, List.set_cons_succ, List.set_cons_zero]
    refine wpAnyH_take (i := 9) (v := .pointer (some ⟨g, 2, none⟩)) rfl (by kernel_rfl) (by kernel_rfl) (by kernel_rfl) (fun _ _ _ h => h) (Or.inl ⟨by kernel_rfl, ?_⟩) hS ?_
    · intro w hw; clear hw; go_simp
    change wpAnyH _ _ _ _ _ _ _ (Act.put _ (some 14) _) _
    simp only [Act.put, List.setIfInBounds_toArray, List.set_cons_succ, List.set_cons_zero]
    refine wpAnyH_ready (rs := [10]) (by kernel_rfl) (by simp) ?_
    refine AllReadyH.cons rfl (fun K hK => ?_) AllReadyH.nil
    go_simp
    refine hK.out _ _ (by rw [heap_setCell_other ng]; exact hS) (fun hS => ?_)
    clear hK K
    skip
    refine wpAnyH_done (by kernel_rfl) ?_ _
    have k2 : (w1.setCell ⟨g, 2, none⟩ (.slice (some ⟨gg, 0, none⟩) (d.waits.length + 1) cap)).heap[g]? = some (.cells #[.int .i64 d.pages, .map (some m), .slice (some ⟨gg, 0, none⟩) (d.waits.length + 1) cap, .int .i64 d.fuse, .bool d.down, .int .i64 d.done] 68 (0, 0)) := by simpa using setCell_heap (o := 2) hd1 (.slice (some ⟨gg, 0, none⟩) (d.waits.length + 1) cap)
    have hgr : w.grownBy w1 wv.ownBlock := grown_trans (below_grown (by go_grown) _) hgrow
    have hg2 := setCell_grown (o := 2) hd1 (.slice (some ⟨gg, 0, none⟩) (d.waits.length + 1) cap)
    have hne1 := own_ne hown1 hd1 (by decide)
    have ho2 := hown1.kept hg2 (.inr (Ne.symm hne1))
    clear hd1 hown1 hgrow hat hlt1 e0 e1 e2 e3 e4 e5 ef hS
    generalize w1.setCell ⟨g, 2, none⟩ (.slice (some ⟨gg, 0, none⟩) (d.waits.length + 1) cap) = w2 at *
    have KB : Calls Tryd.prog 54 #[.pointer (some ⟨g, 0, none⟩)] w2 fun e w' => e = .returned (.bool (waitP d c).down) ∧ w2.grownBy w' (some g) ∧ w'.heap[g]? = some (.cells #[.int .i64 (waitP d c).pages, .map (some m), .slice (some ⟨gg, 0, none⟩) (d.waits.length + 1) cap, .int .i64 (waitP d c).fuse, .bool (waitP d c).down, .int .i64 (waitP d c).done] 68 (0, 0)) := burns_any { d with waits := d.waits ++ [c] } k2 h0 h1 f0 f1
    have HR : Hid (w.grownBy w1 wv.ownBlock ∧ w1.grownBy w2 (some g) ∧ w2.ownsRow B 85 258 (.slice (some ⟨gg, 0, none⟩) (d.waits.length + 1) cap) (d.waits.length + 1) (chgsL d.waits ++ chgL c)) := ⟨hgr, hg2, ho2⟩
    have HNE : Hid (some g ≠ (Value.slice (some ⟨gg, 0, none⟩) (d.waits.length + 1) cap).ownBlock) := hne1
    clear hgr hg2 ho2 hne1 k2
    cases hdn : (waitP d c).down
    all_goals
      rw [hdn] at KB
      have HKB : Hid (Calls Tryd.prog 54 #[.pointer (some ⟨g, 0, none⟩)] w2 _) := KB
      have HD : Hid ((waitP d c).down = _) := hdn
      clear KB hdn
      go_wp2_with (go_at_call 54; refine (show Calls _ _ _ _ _ from HKB).mono ?_; rintro e w3 ⟨rfl, hg3, hh3⟩)
      go_ret
      refine ⟨by unfold codeP; rw [HD.out]; rfl, _, w1, by rw [HD.out]; exact hh3, ?_, HR.out.1, grown_trans HR.out.2.1 hg3⟩
      have h5 := HR.out.2.2.kept hg3 (.inr (Ne.symm HNE.out))
      show w3.ownsRow B 85 258 _ (d.waits ++ [c]).length (chgsL (d.waits ++ [c]))
      rw [chgsL_append, List.length_append, show chgsL [c] = chgL c by simp [chgsL]]
      exact h5
end Go.Proofs.YtkbfihnoohhojaaDoor.Fla
