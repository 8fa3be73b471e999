/-
  The document's side: Flush, Crash.
-/
import Derived.Test.YtkbfihnoohhojaaGreatDoorQFRefG
import Derived.Test.YtkbfihnoohhojaaGreatDoorQFCrash
namespace Go.Proofs.YtkbfihnoohhojaaGreatDoor.Fla
open Go.RowKit
theorem cell_set_far {w : World} {g o b q : Nat} {v : Value} (h : b ≠ g) : (w.setCell ⟨g, o, none⟩ v).cell? ⟨b, q, none⟩ = w.cell? ⟨b, q, none⟩ :=
  World.cell?_of_block (a := ⟨b, q, none⟩) (heap_setCell_other h)

set_option maxHeartbeats 4000000 in
set_option maxRecDepth 10000 in
theorem rflush_down {w : World} {rv : Value} {pages fuse done : Int} {cells : List (Int × List Nat)} {loose : List Chg} {N : Nat} (hR : RfAt w rv ⟨pages, cells, loose, fuse, true, done⟩ N) (_hN : N < 900) (_hLL : ∀ c ∈ loose, c.trim = false → c.p.length = 256) (_hSS : ∀ f k at_, (rsafe (settleN cells loose f k) at_).length = 256) :
    Calls Tryz.prog 44 #[rv] w fun e w' => ∃ rv', e = .returned (.tuple #[rv', .int .i64 (rflush ⟨pages, cells, loose, fuse, true, done⟩).2]) ∧ RfAt w' rv' (rflush ⟨pages, cells, loose, fuse, true, done⟩).1 (N + 1) ∧ Below w.heap.size w w' := by
  obtain ⟨cp, cc, lp, lc, cs, lo, rfl, h2, h3, h4, h5, h6, h7, h8, h9, h10, h11, h12⟩ := hR
  dsimp only at h4 h7 h9 h10 h11 h12 ⊢
  have X0 : Hid (((w.alloc (.cells #[.int .i64 pages, .slice cp cs.length cc, .slice lp lo.length lc, .int .i64 fuse, .bool true, .int .i64 done] 36)).alloc (.cells #[.int .i64 0, .slice none 0 0, .slice none 0 0, .int .i64 0, .bool false, .int .i64 0] 36)).heap[w.heap.size]? = some (.cells #[.int .i64 pages, .slice cp cs.length cc, .slice lp lo.length lc, .int .i64 fuse, .bool true, .int .i64 done] 36 (0, 0))) := heap_alloc_old (heap_alloc_last _ _) _
  have X1 : Hid (((w.alloc (.cells #[.int .i64 pages, .slice cp cs.length cc, .slice lp lo.length lc, .int .i64 fuse, .bool true, .int .i64 done] 36)).alloc (.cells #[.int .i64 0, .slice none 0 0, .slice none 0 0, .int .i64 0, .bool false, .int .i64 0] 36)).heap[w.heap.size + 1]? = some (.cells #[.int .i64 0, .slice none 0 0, .slice none 0 0, .int .i64 0, .bool false, .int .i64 0] 36 (0, 0))) := by
    have := heap_alloc_last (w.alloc (.cells #[.int .i64 pages, .slice cp cs.length cc, .slice lp lo.length lc, .int .i64 fuse, .bool true, .int .i64 done] 36)) (.cells #[.int .i64 0, .slice none 0 0, .slice none 0 0, .int .i64 0, .bool false, .int .i64 0] 36)
    show _ = _
    simpa using this
  have HBW : Hid (Below w.heap.size w ((w.alloc (.cells #[.int .i64 pages, .slice cp cs.length cc, .slice lp lo.length lc, .int .i64 fuse, .bool true, .int .i64 done] 36)).alloc (.cells #[.int .i64 0, .slice none 0 0, .slice none 0 0, .int .i64 0, .bool false, .int .i64 0] 36))) := by show Below _ _ _; go_grown
  unfold rflush
  simp only [if_true]
  go_enter Tryz.func44, Tryz.ntmps44
  go_wp2_with (refine st33 rfl (.tmp 2) (.tmp 9) rfl (w.heap.size + 1) rfl _ _ _ _ _ _ _ X1.out rfl rfl ⟨rfl, rfl, rfl, rfl, rfl, rfl⟩ ?_; intro w6 hw6 hg6)
  have HB6 : Hid (Below w.heap.size w w6) := HBW.out.trans (grown_below hg6 (by omega) HBW.out.size)
  refine bodyPost_ret (v := .tuple #[.agg #[.int .i64 pages, .slice cp cs.length cc, .slice lp lo.length lc, .int .i64 fuse, .bool true, .int .i64 done], .int .i64 11]) ?_ rfl ⟨_, rfl, RfAt.more (RfAt.below ⟨cp, cc, lp, lc, cs, lo, rfl, h2, h3, h4, h5, h6, h7, h8, h9, h10, h11, h12⟩ HB6.out) (by omega), HB6.out⟩
  exact results33 Tryz.results44 _ _ (w.heap.size + 1) rfl _ _ _ _ _ _ 36 (0, 0) hw6 _ rfl

set_option maxHeartbeats 4000000 in
set_option maxRecDepth 10000 in
theorem rflush_up {w : World} {rv : Value} {pages fuse done : Int} {cells : List (Int × List Nat)} {loose : List Chg} {N : Nat} (hR : RfAt w rv ⟨pages, cells, loose, fuse, false, done⟩ N) (hN : N < 900) (hLL : ∀ c ∈ loose, c.trim = false → c.p.length = 256) (hSS : ∀ f k at_, (rsafe (settleN cells loose f k) at_).length = 256) :
    Calls Tryz.prog 44 #[rv] w fun e w' => ∃ rv', e = .returned (.tuple #[rv', .int .i64 (rflush ⟨pages, cells, loose, fuse, false, done⟩).2]) ∧ RfAt w' rv' (rflush ⟨pages, cells, loose, fuse, false, done⟩).1 (N + 1) ∧ Below w.heap.size w w' := by
  obtain ⟨cp, cc, lp, lc, cs, lo, rfl, h2, h3, h4, h5, h6, h7, h8, h9, h10, h11, h12⟩ := hR
  dsimp only at h4 h7 h9 h10 h11 h12 ⊢
  have X0 : Hid (((w.alloc (.cells #[.int .i64 pages, .slice cp cs.length cc, .slice lp lo.length lc, .int .i64 fuse, .bool false, .int .i64 done] 36)).alloc (.cells #[.int .i64 0, .slice none 0 0, .slice none 0 0, .int .i64 0, .bool false, .int .i64 0] 36)).heap[w.heap.size]? = some (.cells #[.int .i64 pages, .slice cp cs.length cc, .slice lp lo.length lc, .int .i64 fuse, .bool false, .int .i64 done] 36 (0, 0))) := heap_alloc_old (heap_alloc_last _ _) _
  have X1 : Hid (((w.alloc (.cells #[.int .i64 pages, .slice cp cs.length cc, .slice lp lo.length lc, .int .i64 fuse, .bool false, .int .i64 done] 36)).alloc (.cells #[.int .i64 0, .slice none 0 0, .slice none 0 0, .int .i64 0, .bool false, .int .i64 0] 36)).heap[w.heap.size + 1]? = some (.cells #[.int .i64 0, .slice none 0 0, .slice none 0 0, .int .i64 0, .bool false, .int .i64 0] 36 (0, 0))) := by
    have := heap_alloc_last (w.alloc (.cells #[.int .i64 pages, .slice cp cs.length cc, .slice lp lo.length lc, .int .i64 fuse, .bool false, .int .i64 done] 36)) (.cells #[.int .i64 0, .slice none 0 0, .slice none 0 0, .int .i64 0, .bool false, .int .i64 0] 36)
    show _ = _
    simpa using this
  have HBW : Hid (Below w.heap.size w ((w.alloc (.cells #[.int .i64 pages, .slice cp cs.length cc, .slice lp lo.length lc, .int .i64 fuse, .bool false, .int .i64 done] 36)).alloc (.cells #[.int .i64 0, .slice none 0 0, .slice none 0 0, .int .i64 0, .bool false, .int .i64 0] 36))) := by show Below _ _ _; go_grown
  have KB := rburns_all pages fuse done false h9 (by omega) h12 cp lp cs.length cc lo.length lc ((w.alloc (.cells #[.int .i64 pages, .slice cp cs.length cc, .slice lp lo.length lc, .int .i64 fuse, .bool false, .int .i64 done] 36)).alloc (.cells #[.int .i64 0, .slice none 0 0, .slice none 0 0, .int .i64 0, .bool false, .int .i64 0] 36))
  unfold rflush
  rw [rburns_eq]
  simp only [Bool.false_eq_true, if_false]
  cases hg : bG fuse
  · simp only [Bool.false_eq_true, if_false]
    rw [hg] at KB
    have HKB : Hid (Calls Tryz.prog 70 #[.agg #[.int .i64 pages, .slice cp cs.length cc, .slice lp lo.length lc, .int .i64 fuse, .bool false, .int .i64 done]] ((w.alloc (.cells #[.int .i64 pages, .slice cp cs.length cc, .slice lp lo.length lc, .int .i64 fuse, .bool false, .int .i64 done] 36)).alloc (.cells #[.int .i64 0, .slice none 0 0, .slice none 0 0, .int .i64 0, .bool false, .int .i64 0] 36)) _) := KB
    clear KB hg
    go_enter Tryz.func44, Tryz.ntmps44
    go_wp2_with (go_at_call 70; refine (show Calls _ _ _ _ _ from HKB).mono ?_; rintro e w2 ⟨rfl, hb2⟩; have y0 := heap_stays X0.out hb2; have y1 := heap_stays X1.out hb2; have hs2 : w.heap.size + 1 < w2.heap.size := (Array.getElem?_eq_some_iff.1 y1).1; have Y0 := hid2 y0; have Y1 := hid2 y1; have HB2 : Hid (Below w.heap.size w w2) := HBW.out.trans (hb2.mono HBW.out.size); clear y0 y1 hb2)
    have HG0 : Hid ((w2.alloc (.cells #[.int .i64 pages, .slice cp cs.length cc, .slice lp lo.length lc, .int .i64 (bF fuse), .bool (bD false fuse), .int .i64 (done + 1)] 36)).heap[w2.heap.size]? = some (.cells #[.int .i64 pages, .slice cp cs.length cc, .slice lp lo.length lc, .int .i64 (bF fuse), .bool (bD false fuse), .int .i64 (done + 1)] 36 (0, 0))) := heap_alloc_last _ _
    have HC0 : Hid (CellsAt (w2.alloc (.cells #[.int .i64 pages, .slice cp cs.length cc, .slice lp lo.length lc, .int .i64 (bF fuse), .bool (bD false fuse), .int .i64 (done + 1)] 36)) (.slice cp cs.length cc) cs) := (h2.below HB2.out).below (by go_grown)
    have HF0 : Hid ((w2.alloc (.cells #[.int .i64 pages, .slice cp cs.length cc, .slice lp lo.length lc, .int .i64 (bF fuse), .bool (bD false fuse), .int .i64 (done + 1)] 36)).heap[w.heap.size]? = some (.cells #[.int .i64 pages, .slice cp cs.length cc, .slice lp lo.length lc, .int .i64 fuse, .bool false, .int .i64 done] 36 (0, 0))) := heap_alloc_old Y0.out _
    have HZ0 : Hid ((w2.alloc (.cells #[.int .i64 pages, .slice cp cs.length cc, .slice lp lo.length lc, .int .i64 (bF fuse), .bool (bD false fuse), .int .i64 (done + 1)] 36)).heap[w.heap.size + 1]? = some (.cells #[.int .i64 0, .slice none 0 0, .slice none 0 0, .int .i64 0, .bool false, .int .i64 0] 36 (0, 0))) := heap_alloc_old Y1.out _
    have HB0 : Hid (Below w.heap.size w (w2.alloc (.cells #[.int .i64 pages, .slice cp cs.length cc, .slice lp lo.length lc, .int .i64 (bF fuse), .bool (bD false fuse), .int .i64 (done + 1)] 36))) := HB2.out.alloc HB2.out.size _
    go_loopw [6] (fun i wr => ∃ (k : Nat) (gp : Option Addr) (gc : Nat) (gcs : List Cl), i = .int .i64 (k : Int) ∧ k ≤ lo.length ∧ wr.heap[w2.heap.size]? = some (.cells #[.int .i64 pages, .slice gp gcs.length gc, .slice lp lo.length lc, .int .i64 (bF fuse), .bool (bD false fuse), .int .i64 (done + 1)] 36 (0, 0)) ∧ CellsAt wr (.slice gp gcs.length gc) gcs ∧ (gp = none → gc = 0) ∧ plainC gcs = settleN cells loose (fun _ => 256) k ∧ gcs.length ≤ cs.length + k ∧ wr.heap[w.heap.size]? = some (.cells #[.int .i64 pages, .slice cp cs.length cc, .slice lp lo.length lc, .int .i64 fuse, .bool false, .int .i64 done] 36 (0, 0)) ∧ wr.heap[w.heap.size + 1]? = some (.cells #[.int .i64 0, .slice none 0 0, .slice none 0 0, .int .i64 0, .bool false, .int .i64 0] 36 (0, 0)) ∧ Below w.heap.size w wr) (fun i _ => lo.length - (intOf i).toNat)
    case atStart => exact ⟨0, cp, cc, cs, rfl, Nat.zero_le _, HG0.out, HC0.out, h3, h4, by omega, HF0.out, HZ0.out, HB0.out⟩
    case round =>
      obtain ⟨k, gp, gc, gcs, rfl, hk, hG, hCg, hNg, hPg, hlg, hFg, hZg, hBg⟩ := hrel
      have hsF : w.heap.size < wr.heap.size := (Array.getElem?_eq_some_iff.1 hFg).1
      have hsZ : w.heap.size + 1 < wr.heap.size := (Array.getElem?_eq_some_iff.1 hZg).1
      have hsG : w2.heap.size < wr.heap.size := (Array.getElem?_eq_some_iff.1 hG).1
      obtain ⟨⟨f0, f1, f2, f3, f4, f5⟩, _⟩ := six' hFg
      obtain ⟨⟨g0, g1, g2, g3, g4, g5⟩, gf⟩ := six' hG
      have HZR := hid2 hZg
      have HBR := hid2 hBg
      have HPG := hid2 hPg
      by_cases hlt : k < lo.length
      · obtain ⟨x, hxk⟩ : ∃ x, lo[k]? = some x := ⟨_, List.getElem?_eq_getElem (by omega)⟩
        obtain ⟨p9, c9, e9, hc9, hc8, hel9⟩ := (h5.below hBg).each
        cases e9
        obtain ⟨bb, off, rfl, hbb, a0, a1, a2, hba⟩ := hel9 k x hxk
        have HXK := hid2 hxk
        have HXL : Hid (loose[k]? = some x.1) := by show _ = _; rw [← h7]; simp [plainL, hxk]
        have hxm : x.1 ∈ loose := List.mem_of_getElem? HXL.out
        have HXT : Hid (x.1.trim = false → x.1.p.length = 256) := hLL x.1 hxm
        have HSL : Hid ((rsafe (plainC gcs) x.1.at_).length = 256) := by show _ = _; rw [hPg]; exact hSS _ _ _
        have HCR : Hid (CellsAt wr.drew (.slice gp gcs.length gc) gcs) := hCg.below (Below.refl _ _).drew
        have HNR : Hid (NilOk (.slice gp gcs.length gc)) := fun n c e => by cases e; exact hNg rfl
        have HXB : Hid (BAt wr.drew x.2 x.1.p) := hba.below (Below.refl _ _).drew
        have HFR : Hid (wr.drew.heap[w.heap.size]? = some (.cells #[.int .i64 pages, .slice cp cs.length cc, .slice (some ⟨bb, off, none⟩) lo.length lc, .int .i64 fuse, .bool false, .int .i64 done] 36 (0, 0))) := hFg
        have HGR : Hid (wr.drew.heap[w2.heap.size]? = some (.cells #[.int .i64 pages, .slice gp gcs.length gc, .slice (some ⟨bb, off, none⟩) lo.length lc, .int .i64 (bF fuse), .bool (bD false fuse), .int .i64 (done + 1)] 36 (0, 0))) := hG
        have HLR : Hid (LooseAt wr.drew (.slice (some ⟨bb, off, none⟩) lo.length lc) lo) := (h5.below hBg).below (Below.refl _ _).drew
        have hki : (k : Int) < (lo.length : Int) := by omega
        unfold maxLen at hc8
        clear hel9 hxk hba hxm hCg hNg hPg hFg hZg hBg hG
        go_wp2_with fail
        refine wp_region_held_drew (S := fun w' => w'.heap[w.heap.size]? = some (.cells #[.int .i64 pages, .slice cp cs.length cc, .slice (some ⟨bb, off, none⟩) lo.length lc, .int .i64 fuse, .bool false, .int .i64 done] 36 (0, 0)) ∧ LooseAt w' (.slice (some ⟨bb, off, none⟩) lo.length lc) lo) (by kernel_rfl) (⟨HFR.out, HLR.out⟩) (fun hS => ?_)
        change wpAnyH _ _ _ _ _ _ _ _ (World.drew _)
        refine wpAnyH_take (i := 0) (v := .pointer (some ⟨w2.heap.size, 1, none⟩)) rfl (by kernel_rfl) (by kernel_rfl) (by kernel_rfl) (fun _ _ _ h => h) (Or.inl ⟨by kernel_rfl, ?_⟩) hS ?_
        · intro w hw; clear hw; go_simp
        change wpAnyH _ _ _ _ _ _ _ (Act.put _ (some 24) _) _
        simp only [Act.put, List.setIfInBounds_toArray, List.set_cons_succ, List.set_cons_zero]
        refine wpAnyH_take (i := 2) (v := .pointer (some ⟨w.heap.size, 2, none⟩)) rfl (by kernel_rfl) (by kernel_rfl) (by kernel_rfl) (fun _ _ _ h => h) (Or.inl ⟨by kernel_rfl, ?_⟩) hS ?_
        · intro w hw; clear hw; go_simp
        change wpAnyH _ _ _ _ _ _ _ (Act.put _ (some 26) _) _
        simp only [Act.put, List.setIfInBounds_toArray, List.set_cons_succ, List.set_cons_zero]
        refine wpAnyH_take (i := 3) (v := .slice (some ⟨bb, off, none⟩) lo.length lc) rfl (by kernel_rfl) (by kernel_rfl) (by kernel_rfl) (fun _ _ _ h => h) (Or.inl ⟨by kernel_rfl, ?_⟩) hS ?_
        · intro W hw
          obtain ⟨⟨q0, q1, q2, q3, q4, q5⟩, _⟩ := six' hw.1
          clear hw
          go_simp
        change wpAnyH _ _ _ _ _ _ _ (Act.put _ (some 27) _) _
        simp only [Act.put, List.setIfInBounds_toArray, List.set_cons_succ, List.set_cons_zero]
        refine wpAnyH_take (i := 4) (v := .int .i64 (k : Int)) rfl (by kernel_rfl) (by kernel_rfl) (by kernel_rfl) (fun _ _ _ h => h) (Or.inl ⟨by kernel_rfl, ?_⟩) hS ?_
        · intro w hw; clear hw; go_simp
        change wpAnyH _ _ _ _ _ _ _ (Act.put _ (some 28) _) _
        simp only [Act.put, List.setIfInBounds_toArray, List.set_cons_succ, List.set_cons_zero]
        refine wpAnyH_take (i := 5) (v := .pointer (some ⟨bb, off + k * 3, none⟩)) rfl (by kernel_rfl) (by kernel_rfl) (by kernel_rfl) (fun _ _ _ h => h) (Or.inl ⟨by kernel_rfl, ?_⟩) hS ?_
        · intro w hw; clear hw; go_simp
        change wpAnyH _ _ _ _ _ _ _ (Act.put _ (some 29) _) _
        simp only [Act.put, List.setIfInBounds_toArray, List.set_cons_succ, List.set_cons_zero]
        refine wpAnyH_take (i := 6) (v := .agg #[.int .i64 x.1.at_, x.2, .bool x.1.trim]) rfl (by kernel_rfl) (by kernel_rfl) (by kernel_rfl) (fun _ _ _ h => h) (Or.inl ⟨by kernel_rfl, ?_⟩) hS ?_
        · intro W hw
          obtain ⟨p9, c9, e9, _, _, hel9⟩ := hw.2.each
          cases e9
          obtain ⟨b9, o9, e9, _, q0, q1, q2, _⟩ := hel9 k x HXK.out
          cases e9
          clear hw hel9
          go_simp
        change wpAnyH _ _ _ _ _ _ _ (Act.put _ (some 30) _) _
        simp only [Act.put, List.setIfInBounds_toArray, List.set_cons_succ, List.set_cons_zero]
        refine wpAnyH_ready (rs := [1]) (by kernel_rfl) (by simp) ?_
        refine AllReadyH.cons rfl (fun K hK => ?_) AllReadyH.nil
        go_simp
        refine hK.out _ _ (hS) (fun hS => ?_)
        clear hK K
        skip
        refine wpAnyH_ready (rs := [7]) (by kernel_rfl) (by simp) ?_
        refine AllReadyH.cons rfl (fun K hK => ?_) AllReadyH.nil
        go_simp
        go_wp2_with (go_at_call 47; refine (settle_any HCR.out HNR.out HXB.out (by omega) 256 HXT.out HSL.out).mono ?_; rintro e w3 ⟨v, cs3, rfl, k1, k2, k3, k4, k5⟩; obtain ⟨vp, vcap, hve, _⟩ := k1.each; subst hve)
        refine hK.out _ _ (⟨heap_stays HFR.out k5, HLR.out.below k5⟩) (fun hS => ?_)
        clear hK K
        skip
        have y3 := heap_stays HGR.out k5
        obtain ⟨⟨e0, e1, e2, e3, e4, e5⟩, ef⟩ := six' y3
        have hs3 : w2.heap.size < w3.heap.size := (Array.getElem?_eq_some_iff.1 y3).1
        refine wpAnyH_take (i := 8) (v := .pointer (some ⟨w2.heap.size, 1, none⟩)) rfl (by kernel_rfl) (by kernel_rfl) (by kernel_rfl) (fun _ _ _ h => h) (Or.inl ⟨by kernel_rfl, ?_⟩) hS ?_
        · intro w hw; clear hw; go_simp
        change wpAnyH _ _ _ _ _ _ _ (Act.put _ (some 32) _) _
        simp only [Act.put, List.setIfInBounds_toArray, List.set_cons_succ, List.set_cons_zero]
        refine wpAnyH_ready (rs := [9]) (by kernel_rfl) (by simp) ?_
        refine AllReadyH.cons rfl (fun K hK => ?_) AllReadyH.nil
        go_simp
        refine hK.out _ _ (⟨heap_set_old hS.1 (by omega) _, hS.2.box y3 (setCell_grown (o := 1) y3 _)⟩) (fun hS => ?_)
        clear hK K
        skip
        refine wpAnyH_done (by kernel_rfl) ?_ _
        have HG4 : Hid ((w3.setCell ⟨w2.heap.size, 1, none⟩ (.slice vp cs3.length vcap)).heap[w2.heap.size]? = some (.cells #[.int .i64 pages, .slice vp cs3.length vcap, .slice (some ⟨bb, off, none⟩) lo.length lc, .int .i64 (bF fuse), .bool (bD false fuse), .int .i64 (done + 1)] 36 (0, 0))) := by show _ = _; simpa using setCell_heap (o := 1) y3 (.slice vp cs3.length vcap)
        have HC4 : Hid (CellsAt (w3.setCell ⟨w2.heap.size, 1, none⟩ (.slice vp cs3.length vcap)) (.slice vp cs3.length vcap) cs3) := k1.box y3 (setCell_grown (o := 1) y3 _)
        have HF4 : Hid ((w3.setCell ⟨w2.heap.size, 1, none⟩ (.slice vp cs3.length vcap)).heap[w.heap.size]? = some (.cells #[.int .i64 pages, .slice cp cs.length cc, .slice (some ⟨bb, off, none⟩) lo.length lc, .int .i64 fuse, .bool false, .int .i64 done] 36 (0, 0))) := heap_set_old (heap_stays HFR.out k5) (by omega) _
        have HZ4 : Hid ((w3.setCell ⟨w2.heap.size, 1, none⟩ (.slice vp cs3.length vcap)).heap[w.heap.size + 1]? = some (.cells #[.int .i64 0, .slice none 0 0, .slice none 0 0, .int .i64 0, .bool false, .int .i64 0] 36 (0, 0))) := heap_set_old (heap_stays (w := wr.drew) HZR.out k5) (by omega) _
        have HB4 : Hid (Below w.heap.size w (w3.setCell ⟨w2.heap.size, 1, none⟩ (.slice vp cs3.length vcap))) := (HBR.out.drew.trans (k5.mono HBR.out.size)).trans (grown_below (setCell_grown (o := 1) y3 _) (by omega) (by omega))
        have HN4 : Hid (vp = none → vcap = 0) := fun e => k2 _ _ (by rw [e])
        have HP4 : Hid (plainC cs3 = settleN cells loose (fun _ => 256) (k + 1)) := by show _ = _; rw [k3, settleN_succ _ _ _ HXL.out, HPG.out]
        have hl4 : cs3.length ≤ cs.length + (k + 1) := by omega
        clear k1 k2 k3 k5 y3 e0 e1 e2 e3 e4 e5 ef hS
        go_wp2
        go_roundw
        case rel => exact ⟨k + 1, vp, vcap, cs3, by go_num, by omega, HG4.out, HC4.out, HN4.out, HP4.out, hl4, HF4.out, HZ4.out, HB4.out⟩
        case measure => simp [intOf]; omega
      · obtain rfl : k = lo.length := by omega
        have hnl : ¬ ((lo.length : Int) < (lo.length : Int)) := by omega
        have HGE := hid2 hG
        have HCE := hid2 hCg
        have HNE := hid2 hNg
        clear hCg hNg hPg hFg hZg hBg hG
        go_wp2_with (refine st33 rfl (.tmp 2) (.tmp 34) rfl (w.heap.size + 1) rfl _ _ _ _ _ _ _ (heap_set_old HZR.out (by omega) _) rfl rfl ⟨rfl, rfl, rfl, rfl, rfl, rfl⟩ ?_; intro w6 hw6 hg6)
        have hgs := setCell_grown (o := 2) HGE.out (.slice none 0 0)
        have hbz := heap_set_old (g := w2.heap.size) (o := 2) HZR.out (by omega) (.slice none 0 0)
        refine bodyPost_ret (v := .tuple #[.agg #[.int .i64 pages, .slice gp gcs.length gc, .slice none 0 0, .int .i64 (bF fuse), .bool (bD false fuse), .int .i64 (done + 1)], .int .i64 0]) ?_ rfl ⟨_, rfl, ⟨gp, gc, none, 0, gcs, [], rfl, (HCE.out.box HGE.out hgs).box hbz hg6, HNE.out, ?_, ⟨⟨none, 0, rfl, Nat.le_refl _, Nat.zero_le _, rfl, .inl rfl⟩, by simp⟩, fun _ => rfl, rfl, ?_, ?_, ?_, ?_, ?_⟩, ?_⟩
        · exact results33 Tryz.results44 _ _ (w.heap.size + 1) rfl _ _ _ _ _ _ 36 (0, 0) hw6 _ rfl
        · show plainC gcs = settleN cells loose (fun _ => 256) loose.length
          rw [HPG.out, ← h7]; simp [plainL]
        · simp; omega
        · show 0 ≤ done + 1; omega
        · show done + 1 ≤ ((N + 1 : Nat) : Int); omega
        · show _ ≤ bF fuse; unfold bF; split <;> omega
        · show bF fuse ≤ _; unfold bF; split <;> omega
        · exact (HBR.out.trans (grown_below hgs (by omega) HBR.out.size)).trans (grown_below hg6 (by omega) (by have := HBR.out.size; simp; omega))

  · simp only [if_true]
    rw [hg] at KB
    have HKB : Hid (Calls Tryz.prog 70 #[.agg #[.int .i64 pages, .slice cp cs.length cc, .slice lp lo.length lc, .int .i64 fuse, .bool false, .int .i64 done]] ((w.alloc (.cells #[.int .i64 pages, .slice cp cs.length cc, .slice lp lo.length lc, .int .i64 fuse, .bool false, .int .i64 done] 36)).alloc (.cells #[.int .i64 0, .slice none 0 0, .slice none 0 0, .int .i64 0, .bool false, .int .i64 0] 36)) _) := KB
    clear KB hg
    go_enter Tryz.func44, Tryz.ntmps44
    go_wp2_with (first | (go_at_call 70; refine (show Calls _ _ _ _ _ from HKB).mono ?_; rintro e w2 ⟨rfl, hb2⟩; have y1 := heap_stays X1.out hb2; have hs2 : w.heap.size + 1 < w2.heap.size := (Array.getElem?_eq_some_iff.1 y1).1; have Y1 := hid2 y1; have HB2 : Hid (Below w.heap.size w w2) := HBW.out.trans (hb2.mono HBW.out.size); clear y1 hb2) | (refine st33 rfl (.tmp 2) (.tmp 16) rfl (w.heap.size + 1) rfl _ _ _ _ _ _ _ (heap_alloc_old Y1.out _) rfl rfl ⟨rfl, rfl, rfl, rfl, rfl, rfl⟩ ?_; intro w6 hw6 hg6))
    have HB6 : Hid (Below w.heap.size w w6) := (HB2.out.alloc HB2.out.size _).trans (grown_below hg6 (by omega) (by simp; omega))
    refine bodyPost_ret (v := .tuple #[.agg #[.int .i64 pages, .slice cp cs.length cc, .slice lp lo.length lc, .int .i64 (bF fuse), .bool (bD false fuse), .int .i64 (done + 1)], .int .i64 11]) ?_ rfl ⟨_, rfl, ⟨cp, cc, lp, lc, cs, lo, rfl, h2.below HB6.out, h3, h4, h5.below HB6.out, h6, h7, by omega, ?_, ?_, ?_, ?_⟩, HB6.out⟩
    · exact results33 Tryz.results44 _ _ (w.heap.size + 1) rfl _ _ _ _ _ _ 36 (0, 0) hw6 _ rfl
    · show 0 ≤ done + 1; omega
    · show done + 1 ≤ ((N + 1 : Nat) : Int); omega
    · show _ ≤ bF fuse; unfold bF; split <;> omega
    · show bF fuse ≤ _; unfold bF; split <;> omega

theorem rflush_any {w : World} {rv : Value} {r : Rf} {N : Nat} (hR : RfAt w rv r N) (hN : N < 900) (hLL : ∀ c ∈ r.loose, c.trim = false → c.p.length = 256) (hSS : ∀ f k at_, (rsafe (settleN r.cells r.loose f k) at_).length = 256) :
    Calls Tryz.prog 44 #[rv] w fun e w' => ∃ rv', e = .returned (.tuple #[rv', .int .i64 (rflush r).2]) ∧ RfAt w' rv' (rflush r).1 (N + 1) ∧ Below w.heap.size w w' := by
  obtain ⟨pages, cells, loose, fuse, down, done⟩ := r
  cases down
  · exact rflush_up hR hN hLL hSS
  · exact rflush_down hR hN hLL hSS
end Go.Proofs.YtkbfihnoohhojaaGreatDoor.Fla
