/-
  A device held against the document's; an act of whatever kind.
-/
import Derived.Test.YtfogocappakbdaaDoorDoC
import Derived.Test.YtfogocappakbdaaDoorRefJ
namespace Go.Proofs.YtfogocappakbdaaDoor
open Go.RowKit
theorem all_len {d : Dev} (hd : DevOk d) (l : List Cl) (h : plainC l = allP d) : ∀ x ∈ l, x.2.2.length = 256 := by
  intro x hx
  have hm : (x.1, x.2.2) ∈ allP d := by rw [← h]; exact List.mem_map.2 ⟨x, hx, rfl⟩
  unfold allP cellsP at hm
  obtain ⟨a, _, ha⟩ := List.mem_filterMap.1 hm
  split at ha
  · cases ha
  · simp at ha
    rw [← ha.2]
    exact layN_len _ (fun c hc => (hd.wlen c hc).1) hd.len _ _

set_option maxHeartbeats 4000000 in
set_option maxRecDepth 10000 in
theorem same_any {w : World} {B g N : Nat} {d : Dev} {r : Rf} {rv : Value} (hF : Fl w B g N d) (hR : RfAt w rv r N) (hS : Sim d r) (hN : N ≤ 900) :
    Calls Tryd.prog 13 #[.pointer (some ⟨g, 0, none⟩), rv] w fun e w' => e = .returned (.bool true) ∧ Below w.heap.size w w' := by
  have hdo := hF.1
  have hall := hS.all hdo
  have hp0 : 1 ≤ r.pages := by rw [hS.pages]; exact hdo.pages0
  have hp1 : r.pages ≤ 4096 := by rw [hS.pages]; exact hdo.pages1
  have hR' := hR
  obtain ⟨cp, cc, lp, lc, cs, lo, rfl, h2, h3, h4, h5, h6, h7, h8, h9, h10, h11, h12⟩ := hR
  have hll : d.waits.length = lo.length := by rw [hS.loose, ← h7]; simp [plainL]
  have KD := fun w' (hF : Fl w' B g N d) => down_fl hF
  have KL := fun w' (hF : Fl w' B g N d) => loose_fl hF
  have KN := fun w' (hF : Fl w' B g N d) => done_fl hF
  rw [← hS.down] at KD
  rw [hll] at KL
  rw [← hS.done] at KN
  have HALL : Hid (allP d = rall r) := hall.symm
  have HLEN : Hid (∀ l : List Cl, plainC l = allP d → ∀ x ∈ l, x.2.2.length = 256) := fun l h => all_len hdo l h
  generalize hdn : r.down = dn at *
  generalize hdd : r.done = dd at *
  have X0 : Hid ((w.alloc (.cells #[.int .i64 r.pages, .slice cp cs.length cc, .slice lp lo.length lc, .int .i64 r.fuse, .bool dn, .int .i64 dd] 33)).drew.heap[w.heap.size]? = some (.cells #[.int .i64 r.pages, .slice cp cs.length cc, .slice lp lo.length lc, .int .i64 r.fuse, .bool dn, .int .i64 dd] 33 (0, 0))) := heap_alloc_last _ _
  have HB1 : Hid (Below w.heap.size w (w.alloc (.cells #[.int .i64 r.pages, .slice cp cs.length cc, .slice lp lo.length lc, .int .i64 r.fuse, .bool dn, .int .i64 dd] 33)).drew) := by show Below _ _ _; go_grown
  have HF1 : Hid (Fl (w.alloc (.cells #[.int .i64 r.pages, .slice cp cs.length cc, .slice lp lo.length lc, .int .i64 r.fuse, .bool dn, .int .i64 dd] 33)).drew B g N d) := hF.below HB1.out
  have HR1 : Hid (RfAt (w.alloc (.cells #[.int .i64 r.pages, .slice cp cs.length cc, .slice lp lo.length lc, .int .i64 r.fuse, .bool dn, .int .i64 dd] 33)).drew (.agg #[.int .i64 r.pages, .slice cp cs.length cc, .slice lp lo.length lc, .int .i64 r.fuse, .bool dn, .int .i64 dd]) r N) := hR'.below HB1.out
  have HKD : Hid (Calls Tryd.prog 22 #[.pointer (some ⟨g, 0, none⟩)] (w.alloc (.cells #[.int .i64 r.pages, .slice cp cs.length cc, .slice lp lo.length lc, .int .i64 r.fuse, .bool dn, .int .i64 dd] 33)).drew fun e w' => e = .returned (.bool dn) ∧ w' = (w.alloc (.cells #[.int .i64 r.pages, .slice cp cs.length cc, .slice lp lo.length lc, .int .i64 r.fuse, .bool dn, .int .i64 dd] 33)).drew) := KD _ HF1.out
  have HKL : Hid (Calls Tryd.prog 35 #[.pointer (some ⟨g, 0, none⟩)] (w.alloc (.cells #[.int .i64 r.pages, .slice cp cs.length cc, .slice lp lo.length lc, .int .i64 r.fuse, .bool dn, .int .i64 dd] 33)).drew fun e w' => e = .returned (.int .i64 (lo.length : Int)) ∧ w' = (w.alloc (.cells #[.int .i64 r.pages, .slice cp cs.length cc, .slice lp lo.length lc, .int .i64 r.fuse, .bool dn, .int .i64 dd] 33)).drew) := KL _ HF1.out
  have HKN : Hid (Calls Tryd.prog 26 #[.pointer (some ⟨g, 0, none⟩)] (w.alloc (.cells #[.int .i64 r.pages, .slice cp cs.length cc, .slice lp lo.length lc, .int .i64 r.fuse, .bool dn, .int .i64 dd] 33)).drew fun e w' => e = .returned (.int .i64 dd) ∧ w' = (w.alloc (.cells #[.int .i64 r.pages, .slice cp cs.length cc, .slice lp lo.length lc, .int .i64 r.fuse, .bool dn, .int .i64 dd] 33)).drew) := KN _ HF1.out
  clear KD KL KN hall hF hR' hS hll h2 h3 h4 h5 h6 h7 hdo hdn hdd
  go_enter Tryd.func13, Tryd.ntmps13
  go_wp2_with fail
  refine wp_region_held_drew (S := fun w' => w'.heap[w.heap.size]? = some (.cells #[.int .i64 r.pages, .slice cp cs.length cc, .slice lp lo.length lc, .int .i64 r.fuse, .bool dn, .int .i64 dd] 33 (0, 0))) (by kernel_rfl) (X0.out) (fun hS => ?_)
  change wpAnyH _ _ _ _ _ _ _ _ (World.drew _)
  refine wpAnyH_take (i := 0) (v := .pointer (some ⟨g, 0, none⟩)) rfl (by kernel_rfl) (by kernel_rfl) (by kernel_rfl) (fun _ _ _ h => h) (Or.inl ⟨by kernel_rfl, ?_⟩) hS ?_
  · intro w hw; clear hw; go_simp
  change wpAnyH _ _ _ _ _ _ _ (Act.put _ (some 5) _) _
  simp only [Act.put, List.setIfInBounds_toArray, List.set_cons_succ, List.set_cons_zero]
  refine wpAnyH_take (i := 2) (v := .pointer (some ⟨w.heap.size, 4, none⟩)) rfl (by kernel_rfl) (by kernel_rfl) (by kernel_rfl) (fun _ _ _ h => h) (Or.inl ⟨by kernel_rfl, ?_⟩) hS ?_
  · intro w hw; clear hw; go_simp
  change wpAnyH _ _ _ _ _ _ _ (Act.put _ (some 7) _) _
  simp only [Act.put, List.setIfInBounds_toArray, List.set_cons_succ, List.set_cons_zero]
  refine wpAnyH_take (i := 3) (v := .bool dn) rfl (by kernel_rfl) (by kernel_rfl) (by kernel_rfl) (fun _ _ _ h => h) (Or.inl ⟨by kernel_rfl, ?_⟩) hS ?_
  · intro W hw
    obtain ⟨⟨q0, q1, q2, q3, q4, q5⟩, _⟩ := six' hw
    clear hw
    go_simp
  change wpAnyH _ _ _ _ _ _ _ (Act.put _ (some 8) _) _
  simp only [Act.put, List.setIfInBounds_toArray, List.set_cons_succ, List.set_cons_zero]
  refine wpAnyH_ready (rs := [1]) (by kernel_rfl) (by simp) ?_
  refine AllReadyH.cons rfl (fun K hK => ?_) AllReadyH.nil
  go_simp
  go_wp2_with (go_at_call 22; refine (HKD.out).mono ?_; rintro e w9 ⟨rfl, hww⟩; cases hww)
  refine hK.out _ _ (hS) (fun hS => ?_)
  clear hK K
  skip
  refine wpAnyH_take (i := 4) (v := .bool true) rfl (by kernel_rfl) (by kernel_rfl) (by kernel_rfl) (fun _ _ _ h => h) (Or.inl ⟨by kernel_rfl, ?_⟩) hS ?_
  · intro w hw; clear hw; go_simp
  change wpAnyH _ _ _ _ _ _ _ (Act.put _ (some 9) _) _
  simp only [Act.put, List.setIfInBounds_toArray, List.set_cons_succ, List.set_cons_zero]
  refine wpAnyH_take (i := 5) (v := .bool true) rfl (by kernel_rfl) (by kernel_rfl) (by kernel_rfl) (fun _ _ _ h => h) (Or.inl ⟨by kernel_rfl, ?_⟩) hS ?_
  · intro w hw; clear hw; go_simp
  change wpAnyH _ _ _ _ _ _ _ (Act.put _ (some 10) _) _
  simp only [Act.put, List.setIfInBounds_toArray, List.set_cons_succ, List.set_cons_zero]
  refine wpAnyH_take (i := 6) (v := .pointer (some ⟨g, 0, none⟩)) rfl (by kernel_rfl) (by kernel_rfl) (by kernel_rfl) (fun _ _ _ h => h) (Or.inl ⟨by kernel_rfl, ?_⟩) hS ?_
  · intro w hw; clear hw; go_simp
  change wpAnyH _ _ _ _ _ _ _ (Act.put _ (some 11) _) _
  simp only [Act.put, List.setIfInBounds_toArray, List.set_cons_succ, List.set_cons_zero]
  refine wpAnyH_take (i := 8) (v := .pointer (some ⟨w.heap.size, 2, none⟩)) rfl (by kernel_rfl) (by kernel_rfl) (by kernel_rfl) (fun _ _ _ h => h) (Or.inl ⟨by kernel_rfl, ?_⟩) hS ?_
  · intro w hw; clear hw; go_simp
  change wpAnyH _ _ _ _ _ _ _ (Act.put _ (some 13) _) _
  simp only [Act.put, List.setIfInBounds_toArray, List.set_cons_succ, List.set_cons_zero]
  refine wpAnyH_take (i := 9) (v := .slice lp lo.length lc) rfl (by kernel_rfl) (by kernel_rfl) (by kernel_rfl) (fun _ _ _ h => h) (Or.inl ⟨by kernel_rfl, ?_⟩) hS ?_
  · intro W hw
    obtain ⟨⟨q0, q1, q2, q3, q4, q5⟩, _⟩ := six' hw
    clear hw
    go_simp
  change wpAnyH _ _ _ _ _ _ _ (Act.put _ (some 14) _) _
  simp only [Act.put, List.setIfInBounds_toArray, List.set_cons_succ, List.set_cons_zero]
  refine wpAnyH_take (i := 10) (v := .int .i64 (lo.length : Int)) rfl (by kernel_rfl) (by kernel_rfl) (by kernel_rfl) (fun _ _ _ h => h) (Or.inl ⟨by kernel_rfl, ?_⟩) hS ?_
  · intro w hw; clear hw; go_simp
  change wpAnyH _ _ _ _ _ _ _ (Act.put _ (some 15) _) _
  simp only [Act.put, List.setIfInBounds_toArray, List.set_cons_succ, List.set_cons_zero]
  refine wpAnyH_ready (rs := [7]) (by kernel_rfl) (by simp) ?_
  refine AllReadyH.cons rfl (fun K hK => ?_) AllReadyH.nil
  go_simp
  go_wp2_with (go_at_call 35; refine (HKL.out).mono ?_; rintro e w9 ⟨rfl, hww⟩; cases hww)
  refine hK.out _ _ (hS) (fun hS => ?_)
  clear hK K
  skip
  refine wpAnyH_take (i := 11) (v := .bool true) rfl (by kernel_rfl) (by kernel_rfl) (by kernel_rfl) (fun _ _ _ h => h) (Or.inl ⟨by kernel_rfl, ?_⟩) hS ?_
  · intro w hw; clear hw; go_simp
  change wpAnyH _ _ _ _ _ _ _ (Act.put _ (some 16) _) _
  simp only [Act.put, List.setIfInBounds_toArray, List.set_cons_succ, List.set_cons_zero]
  refine wpAnyH_take (i := 12) (v := .bool true) rfl (by kernel_rfl) (by kernel_rfl) (by kernel_rfl) (fun _ _ _ h => h) (Or.inl ⟨by kernel_rfl, ?_⟩) hS ?_
  · intro w hw; clear hw; go_simp
  change wpAnyH _ _ _ _ _ _ _ (Act.put _ (some 17) _) _
  simp only [Act.put, List.setIfInBounds_toArray, List.set_cons_succ, List.set_cons_zero]
  refine wpAnyH_take (i := 13) (v := .bool true) rfl (by kernel_rfl) (by kernel_rfl) (by kernel_rfl) (fun _ _ _ h => h) (Or.inl ⟨by kernel_rfl, ?_⟩) hS ?_
  · intro w hw; clear hw; go_simp
  change wpAnyH _ _ _ _ _ _ _ (Act.put _ (some 18) _) _
  simp only [Act.put, List.setIfInBounds_toArray, List.set_cons_succ, List.set_cons_zero]
  refine wpAnyH_take (i := 14) (v := .pointer (some ⟨g, 0, none⟩)) rfl (by kernel_rfl) (by kernel_rfl) (by kernel_rfl) (fun _ _ _ h => h) (Or.inl ⟨by kernel_rfl, ?_⟩) hS ?_
  · intro w hw; clear hw; go_simp
  change wpAnyH _ _ _ _ _ _ _ (Act.put _ (some 19) _) _
  simp only [Act.put, List.setIfInBounds_toArray, List.set_cons_succ, List.set_cons_zero]
  refine wpAnyH_take (i := 16) (v := .pointer (some ⟨w.heap.size, 5, none⟩)) rfl (by kernel_rfl) (by kernel_rfl) (by kernel_rfl) (fun _ _ _ h => h) (Or.inl ⟨by kernel_rfl, ?_⟩) hS ?_
  · intro w hw; clear hw; go_simp
  change wpAnyH _ _ _ _ _ _ _ (Act.put _ (some 21) _) _
  simp only [Act.put, List.setIfInBounds_toArray, List.set_cons_succ, List.set_cons_zero]
  refine wpAnyH_take (i := 17) (v := .int .i64 dd) rfl (by kernel_rfl) (by kernel_rfl) (by kernel_rfl) (fun _ _ _ h => h) (Or.inl ⟨by kernel_rfl, ?_⟩) hS ?_
  · intro W hw
    obtain ⟨⟨q0, q1, q2, q3, q4, q5⟩, _⟩ := six' hw
    clear hw
    go_simp
  change wpAnyH _ _ _ _ _ _ _ (Act.put _ (some 22) _) _
  simp only [Act.put, List.setIfInBounds_toArray, List.set_cons_succ, List.set_cons_zero]
  refine wpAnyH_ready (rs := [15]) (by kernel_rfl) (by simp) ?_
  refine AllReadyH.cons rfl (fun K hK => ?_) AllReadyH.nil
  go_simp
  go_wp2_with (go_at_call 26; refine (HKN.out).mono ?_; rintro e w9 ⟨rfl, hww⟩; cases hww)
  refine hK.out _ _ (hS) (fun hS => ?_)
  clear hK K
  skip
  refine wpAnyH_take (i := 18) (v := .bool true) rfl (by kernel_rfl) (by kernel_rfl) (by kernel_rfl) (fun _ _ _ h => h) (Or.inl ⟨by kernel_rfl, ?_⟩) hS ?_
  · intro w hw; clear hw; go_simp
  change wpAnyH _ _ _ _ _ _ _ (Act.put _ (some 23) _) _
  simp only [Act.put, List.setIfInBounds_toArray, List.set_cons_succ, List.set_cons_zero]
  refine wpAnyH_take (i := 19) (v := .bool true) rfl (by kernel_rfl) (by kernel_rfl) (by kernel_rfl) (fun _ _ _ h => h) (Or.inl ⟨by kernel_rfl, ?_⟩) hS ?_
  · intro w hw; clear hw; go_simp
  change wpAnyH _ _ _ _ _ _ _ (Act.put _ (some 24) _) _
  simp only [Act.put, List.setIfInBounds_toArray, List.set_cons_succ, List.set_cons_zero]
  refine wpAnyH_take (i := 20) (v := .bool true) rfl (by kernel_rfl) (by kernel_rfl) (by kernel_rfl) (fun _ _ _ h => h) (Or.inl ⟨by kernel_rfl, ?_⟩) hS ?_
  · intro w hw; clear hw; go_simp
  change wpAnyH _ _ _ _ _ _ _ (Act.put _ (some 25) _) _
  simp only [Act.put, List.setIfInBounds_toArray, List.set_cons_succ, List.set_cons_zero]
  refine wpAnyH_take (i := 21) (v := .pointer (some ⟨g, 0, none⟩)) rfl (by kernel_rfl) (by kernel_rfl) (by kernel_rfl) (fun _ _ _ h => h) (Or.inl ⟨by kernel_rfl, ?_⟩) hS ?_
  · intro w hw; clear hw; go_simp
  change wpAnyH _ _ _ _ _ _ _ (Act.put _ (some 26) _) _
  simp only [Act.put, List.setIfInBounds_toArray, List.set_cons_succ, List.set_cons_zero]
  refine wpAnyH_take (i := 23) (v := .agg #[.int .i64 r.pages, .slice cp cs.length cc, .slice lp lo.length lc, .int .i64 r.fuse, .bool dn, .int .i64 dd]) rfl (by kernel_rfl) (by kernel_rfl) (by kernel_rfl) (fun _ _ _ h => h) (Or.inl ⟨by kernel_rfl, ?_⟩) hS ?_
  · intro W hw
    obtain ⟨⟨q0, q1, q2, q3, q4, q5⟩, _⟩ := six' hw
    clear hw
    go_simp
  change wpAnyH _ _ _ _ _ _ _ (Act.put _ (some 28) _) _
  simp only [Act.put, List.setIfInBounds_toArray, List.set_cons_succ, List.set_cons_zero]
  refine wpAnyH_ready (rs := [22]) (by kernel_rfl) (by simp) ?_
  refine AllReadyH.cons rfl (fun K hK => ?_) AllReadyH.nil
  go_simp
  go_wp2_with (go_at_call 23; refine (cells_any HF1.out (by omega)).mono ?_; rintro e w2 ⟨v1, l1, rfl, hC1, hP1, hb1⟩)
  refine hK.out _ _ (heap_stays hS hb1) (fun hS => ?_)
  clear hK K
  skip
  refine wpAnyH_ready (rs := [24]) (by kernel_rfl) (by simp) ?_
  refine AllReadyH.cons rfl (fun K hK => ?_) AllReadyH.nil
  go_simp
  go_wp2_with (go_at_call 36; refine (rall_any (HR1.out.below hb1) hp1 hp0).mono ?_; rintro e w3 ⟨v2, l2, rfl, hC2, hP2, hb2⟩)
  refine hK.out _ _ (heap_stays hS hb2) (fun hS => ?_)
  clear hK K
  skip
  refine wpAnyH_ready (rs := [25]) (by kernel_rfl) (by simp) ?_
  refine AllReadyH.cons rfl (fun K hK => ?_) AllReadyH.nil
  go_simp
  go_wp2_with (go_at_call 24; refine (same04_any (hC1.below hb2) hC2 (hP1.trans (HALL.out.trans hP2.symm)) (HLEN.out _ hP1)).mono ?_; rintro e w4 ⟨rfl, hb4⟩)
  refine hK.out _ _ (heap_stays hS hb4) (fun hS => ?_)
  clear hK K
  skip
  refine wpAnyH_take (i := 26) (v := .bool true) rfl (by kernel_rfl) (by kernel_rfl) (by kernel_rfl) (fun _ _ _ h => h) (Or.inl ⟨by kernel_rfl, ?_⟩) hS ?_
  · intro w hw; clear hw; go_simp
  change wpAnyH _ _ _ _ _ _ _ (Act.put _ (some 31) _) _
  simp only [Act.put, List.setIfInBounds_toArray, List.set_cons_succ, List.set_cons_zero]
  refine wpAnyH_take (i := 27) (v := .bool true) rfl (by kernel_rfl) (by kernel_rfl) (by kernel_rfl) (fun _ _ _ h => h) (Or.inl ⟨by kernel_rfl, ?_⟩) hS ?_
  · intro w hw; clear hw; go_simp
  change wpAnyH _ _ _ _ _ _ _ (Act.put _ (some 4) _) _
  simp only [Act.put, List.setIfInBounds_toArray, List.set_cons_succ, List.set_cons_zero]
  refine wpAnyH_done (by kernel_rfl) ?_ _
  go_wp2
  go_ret
  exact ⟨rfl, ((HB1.out.trans (hb1.mono HB1.out.size)).trans (hb2.mono (Nat.le_trans HB1.out.size hb1.size))).trans (hb4.mono (Nat.le_trans HB1.out.size (Nat.le_trans hb1.size hb2.size)))⟩

/-- A device behind an act. -/
def doP (d : Dev) (o : Act4) : Dev :=
  if o.kind = 0 then (writeP d o.at_ ((bytP o.a o.b).take (if o.n.tmod 16 = 5 then 255 else 256))).1 else if o.kind = 1 then (trimP d o.at_).1 else if o.kind = 2 then d else if o.kind = 3 then (flushP d).1 else if o.kind = 4 then fuseP d o.n else if o.kind = 5 then crashP d o.keep else d
theorem do_any {w : World} {B g N : Nat} {d : Dev} {r : Rf} {rv : Value} (hF : Fl w B g N d) (hR : RfAt w rv r N) (hS : Sim d r) (hE : ErrT w) (hB : 0 < B) (hN : N < 900) (o : Act4) (hO : ActOk w B o) :
    Calls Tryd.prog 12 #[.pointer (some ⟨g, 0, none⟩), rv, .agg #[.int .i64 o.kind, .int .i64 o.at_, .int .u8 (o.a : Int), .int .u8 (o.b : Int), .int .i64 o.n, o.kv]] w fun e w' => ∃ x0 x1 x2 x3 x4 x5, e = .returned (.tuple #[.agg #[x0, x1, x2, x3, x4, x5], .bool true]) ∧ DoneAt w w' B g (N + 1) (doP d o) (.agg #[x0, x1, x2, x3, x4, x5]) := by
  obtain ⟨y0, y1, y2, y3, y4, y5, rfl, hone⟩ := hR.parts
  obtain ⟨kind, at_, a, b, n, keep, kv⟩ := o
  obtain ⟨hK, ha, hb, hk, hat, hn⟩ := hO
  dsimp only at *
  have hK' := hK
  obtain ⟨kp, kc, rfl, _⟩ := hK
  unfold doP
  dsimp only
  by_cases k0 : kind = 0
  · subst k0
    rw [if_pos rfl]
    by_cases hm : n.tmod 16 = 5
    · rw [if_pos hm]
      exact do_write_cut hF hR hS hE hB hN hone at_ n a b kp keep.length kc ⟨ha, hb⟩ (by simpa using hm)
    · rw [if_neg hm]
      exact do_write hF hR hS hE hB hN hone at_ n a b kp keep.length kc ⟨ha, hb⟩ (by simpa using hm)
  · rw [if_neg k0]
    by_cases k1 : kind = 1
    · subst k1; rw [if_pos rfl]; exact do_trim hF hR hS hE hB hN hone at_ n a b kp keep.length kc
    · rw [if_neg k1]
      by_cases k2 : kind = 2
      · subst k2; rw [if_pos rfl]; exact do_read hF hR hS hE hB hN hone at_ n a b kp keep.length kc
      · rw [if_neg k2]
        by_cases k3 : kind = 3
        · subst k3; rw [if_pos rfl]; exact do_flush hF hR hS hE hB hN hone at_ n a b kp keep.length kc
        · rw [if_neg k3]
          by_cases k4 : kind = 4
          · subst k4; rw [if_pos rfl]; exact do_fuse hF hR hS hE hB hN hone at_ n a b kp keep.length kc hn.1 hn.2
          · rw [if_neg k4]
            by_cases k5 : kind = 5
            · subst k5; rw [if_pos rfl]; exact do_crash hF hR hS hE hB hN hone at_ n a b kp keep.length kc keep hK'
            · rw [if_neg k5]
              exact do_other hF hR hS hE hB hN hone at_ n a b kp keep.length kc kind k0 k1 k2 k3 k4 k5
end Go.Proofs.YtfogocappakbdaaDoor
