/-
  Crash.
-/
import Derived.Test.YtkbfihnoohhojaaGreatDoorQFFlush
namespace Go.Proofs.YtkbfihnoohhojaaGreatDoor.Fla
open Go.RowKit

/-- Numbers. -/
def KAt (w : World) (v : Value) (ks : List Int) : Prop := ∃ p cap, v = .slice p ks.length cap ∧ ks.length ≤ cap ∧ cap ≤ maxLen ∧ ∀ k z, ks[k]? = some z → ∃ b off, p = some ⟨b, off, none⟩ ∧ b < w.heap.size ∧ w.cell? ⟨b, off + k, none⟩ = some (.int .i64 z)
theorem KAt.form {w : World} {v : Value} {ks : List Int} (h : KAt w v ks) : ∃ p cap, v = .slice p ks.length cap ∧ ks.length ≤ cap ∧ cap ≤ maxLen := by
  obtain ⟨p, cap, h1, h2, h3, _⟩ := h
  exact ⟨p, cap, h1, h2, h3⟩
theorem KAt.map {w w' : World} {v : Value} {ks : List Int} {m n : Nat} {pg : Pg} (h : KAt w v ks) (hm : MapAt w m n pg) (hg : w.grownBy w' (some m)) : KAt w' v ks := by
  obtain ⟨p, cap, h1, h2, h3, h4⟩ := h
  refine ⟨p, cap, h1, h2, h3, fun k z hk => ?_⟩
  obtain ⟨b, off, e1, e2, e3⟩ := h4 k z hk
  have hne : some b ≠ some m := by
    intro e
    cases e
    obtain ⟨D, ⟨es, clock, k1, _⟩, _⟩ := hm
    simp [World.cell?, k1] at e3
  refine ⟨b, off, e1, Nat.lt_of_lt_of_le e2 hg.size, ?_⟩
  rw [World.cell?_of_block (a := ⟨b, off + k, none⟩) (hg.block b e2 hne)]
  exact e3
theorem crashP_ok {d : Dev} (h : DevOk d) (keep : List Int) : DevOk (crashP d keep) := by
  have := layN_ok (cs := d.waits) (keepAt keep) (fun c hc => ⟨(h.wlen c hc).1, (h.wlen c hc).2.1⟩) (fun k => ⟨h.len k, h.byt k⟩) d.waits.length
  exact ⟨h.pages0, h.pages1, fun k => (this k).1, fun k => (this k).2, fun c hc => by simp [crashP] at hc⟩

set_option maxHeartbeats 2000000 in
set_option maxRecDepth 10000 in
theorem crash_any {w1 : World} {B g N : Nat} {d : Dev} (hF : Fl w1 B g N d) (hN : N ≤ 900) {kv : Value} {keep : List Int} (hkv : KAt w1 kv keep) :
    Calls Tryz.prog 19 #[.pointer (some ⟨g, 0, none⟩), kv] w1 fun e w' => e = .returned (.tuple #[]) ∧ Fl w' B g N (crashP d keep) ∧ Fr B w1 w' := by
  have hglt := hF.lt.2
  obtain ⟨hok, ⟨b1, b2, b3, b4⟩, m, wv, n, h6, h7, h8, h9, h10, h11⟩ := hF
  obtain ⟨⟨c0, c1, c2, c3, c4, c5⟩, hf⟩ := six h6
  obtain ⟨p, cap, rfl⟩ := own_len h8
  have HKV : Hid (KAt w1 kv keep) := hkv
  obtain ⟨kp, kcap, rfl, kc1, kc2⟩ := hkv.form
  clear hkv
  unfold maxLen at kc2
  have hlen : d.waits.length ≤ 900 := by omega
  have H6 : Hid (w1.heap[g]? = some (.cells #[.int .i64 d.pages, .map (some m), .slice p d.waits.length cap, .int .i64 d.fuse, .bool d.down, .int .i64 d.done] 74 (0, 0))) := h6
  have H8 : Hid (w1.ownsRow B 101 258 (.slice p d.waits.length cap) d.waits.length (chgsL d.waits)) := h8
  have H7 : Hid (MapAt w1 m n d.pg) := h7
  have HOK : Hid (DevOk d) := hok
  have HMD : Hid (m ≠ g) := map_ne_dev h7 h6
  have HMO : Hid (some m ≠ (Value.slice p d.waits.length cap).ownBlock) := map_ne_own h7 h8
  clear h6 h7 h8 hok
  go_enter Tryz.func19, Tryz.ntmps19
  go_wp2_with fail
  go_loopw [12] (fun i wr => ∃ k : Nat, i = .int .i64 (k : Int) ∧ k ≤ d.waits.length ∧ MapAt wr m (n + k) (layN d.pg d.waits (keepAt keep) k) ∧ w1.grownBy wr (some m)) (fun i _ => d.waits.length - (intOf i).toNat)
  case atStart => exact ⟨0, rfl, Nat.zero_le _, H7.out, grown_refl _ _⟩
  case round =>
    obtain ⟨k, rfl, hk, hmr, hgr⟩ := hrel
    clear c0 c1 c2 c3 c4 c5 hf
    have h6r := heap_grown H6.out hgr (by have := HMD.out; simpa using Ne.symm this)
    have h8r := H8.out.kept hgr (.inr (Ne.symm HMO.out))
    obtain ⟨⟨c0, c1, c2, c3, c4, c5⟩, hf⟩ := six h6r
    have hgl : g < wr.heap.size := (Array.getElem?_eq_some_iff.1 h6r).1
    have HMR : Hid (MapAt wr m (n + k) (layN d.pg d.waits (keepAt keep) k)) := hmr
    have HGR : Hid (w1.grownBy wr (some m)) := hgr
    have HKR : Hid (KAt wr (.slice kp keep.length kcap) keep) := HKV.out.map H7.out hgr
    by_cases hlt : k < d.waits.length
    · obtain ⟨c, hcj⟩ : ∃ c, d.waits[k]? = some c := ⟨_, List.getElem?_eq_getElem (by omega)⟩
      have hcw := HOK.out.wlen c (List.mem_of_getElem? hcj)
      have hpg := HOK.out.pages1
      obtain ⟨gr, rfl, hcap, hcapm, hgrl, _, hcell⟩ := own_pos h8r (by omega)
      obtain ⟨_, _, a2⟩ := chg_range (fun c hc => (HOK.out.wlen c hc).1) hcell hcj
      have HA2 : Hid (wr.rangeAt gr (k * 258) (chgL c)) := a2
      have HCP : Hid (c.p.length = 256) := hcw.1
      have hat0 := hcw.2.2.2.1
      have hat1 : c.at_ < 4096 := by have := hcw.2.2.2.2; omega
      have HLN : Hid (∀ j, (layN d.pg d.waits (keepAt keep) k j).length = 256) := fun j => (layN_ok (cs := d.waits) (keepAt keep) (fun c hc => ⟨(HOK.out.wlen c hc).1, (HOK.out.wlen c hc).2.1⟩) (fun k => ⟨HOK.out.len k, HOK.out.byt k⟩) k j).1
      have HCJ : Hid (d.waits[k]? = some c) := hcj
      have hz := Tryz.zero101
      unfold maxLen at hcapm
      have hji : (k : Int) < (d.waits.length : Int) := by omega
      have HM2 : Hid (MapAt (wr.alloc (.cells (chgV c) 101)).drew m (n + k) (layN d.pg d.waits (keepAt keep) k)) := HMR.out.below (by go_grown)
      have HS2 : Hid ((wr.alloc (.cells (chgV c) 101)).drew.heap[g]? = some (.cells #[.int .i64 d.pages, .map (some m), .slice (some ⟨gr, 0, none⟩) d.waits.length cap, .int .i64 d.fuse, .bool d.down, .int .i64 d.done] 74 (0, 0)) ∧ (wr.alloc (.cells (chgV c) 101)).drew.heap[wr.heap.size]? = some (.cells (chgV c) 101 (0, 0))) := ⟨heap_alloc_old h6r _, heap_alloc_last wr _⟩
      have HMG : Hid (some g ≠ some m ∧ some wr.heap.size ≠ some m) := ⟨by have := HMD.out; simpa using Ne.symm this, by have := hmr.lt; simp; omega⟩
      clear hcell a2 hcw hcj h6r h8r hmr hgr
      by_cases hkk : k < keep.length
      · obtain ⟨z, hzk⟩ : ∃ z, keep[k]? = some z := ⟨_, List.getElem?_eq_getElem hkk⟩
        obtain ⟨kp', kcap', hke, _, _, hkc⟩ := HKR.out
        cases hke
        obtain ⟨kb, ko, rfl, hkb, hkcell⟩ := hkc k z hzk
        have hki : (k : Int) < (keep.length : Int) := by omega
        have HKA : Hid (keepAt keep k = z) := by show _ = _; simp [keepAt, hzk]
        clear hkc hzk
        go_wp2_with (first | (refine ld81 rfl (.tmp 15) rfl gr (k * 258) rfl c HCP.out HA2.out ?_) | (refine st81 wr rfl (.tmp 5) (.tmp 16) rfl _ rfl rfl c ⟨0, false, zeros⟩ rfl rfl zeros_length HCP.out ?_))
        refine wp_region_held_drew (S := fun w' => w'.heap[g]? = some (.cells #[.int .i64 d.pages, .map (some m), .slice (some ⟨gr, 0, none⟩) d.waits.length cap, .int .i64 d.fuse, .bool d.down, .int .i64 d.done] 74 (0, 0)) ∧ w'.heap[wr.heap.size]? = some (.cells (chgV c) 101 (0, 0))) (by kernel_rfl) (⟨HS2.out.1, HS2.out.2⟩) (fun hS => ?_)
        change wpAnyH _ _ _ _ _ _ _ _ (World.drew _)
        refine wpAnyH_take (i := 0) (v := .pointer (some ⟨g, 0, none⟩)) rfl (by kernel_rfl) (by kernel_rfl) (by kernel_rfl) (fun _ _ _ h => h) (Or.inl ⟨by kernel_rfl, ?_⟩) hS ?_
        · intro w hw; clear hw; go_simp
        change wpAnyH _ _ _ _ _ _ _ (Act.put _ (some 25) _) _
        simp only [Act.put, List.setIfInBounds_toArray, List.set_cons_succ, List.set_cons_zero]
        refine wpAnyH_take (i := 1) (v := .pointer (some ⟨g, 0, none⟩)) rfl (by kernel_rfl) (by kernel_rfl) (by kernel_rfl) (fun _ _ _ h => h) (Or.inl ⟨by kernel_rfl, ?_⟩) hS ?_
        · intro w hw; clear hw; go_simp
        change wpAnyH _ _ _ _ _ _ _ (Act.put _ (some 26) _) _
        simp only [Act.put, List.setIfInBounds_toArray, List.set_cons_succ, List.set_cons_zero]
        refine wpAnyH_take (i := 2) (v := .pointer (some ⟨g, 1, none⟩)) rfl (by kernel_rfl) (by kernel_rfl) (by kernel_rfl) (fun _ _ _ h => h) (Or.inl ⟨by kernel_rfl, ?_⟩) hS ?_
        · intro w hw; clear hw; go_simp
        change wpAnyH _ _ _ _ _ _ _ (Act.put _ (some 27) _) _
        simp only [Act.put, List.setIfInBounds_toArray, List.set_cons_succ, List.set_cons_zero]
        refine wpAnyH_take (i := 3) (v := .map (some m)) rfl (by kernel_rfl) (by kernel_rfl) (by kernel_rfl) (fun _ _ _ h => h) (Or.inl ⟨by kernel_rfl, ?_⟩) hS ?_
        · intro w hw
          obtain ⟨⟨q0, q1, q2, q3, q4, q5⟩, _⟩ := six hw.1
          clear hw
          go_simp
        change wpAnyH _ _ _ _ _ _ _ (Act.put _ (some 28) _) _
        simp only [Act.put, List.setIfInBounds_toArray, List.set_cons_succ, List.set_cons_zero]
        refine wpAnyH_take (i := 4) (v := .agg (chgV c)) rfl (by kernel_rfl) (by kernel_rfl) (by kernel_rfl) (fun _ _ _ h => h) (yieldsIf_load_mid (by kernel_rfl) 101 (.tmp 5) rfl wr.heap.size 0 rfl (chgL c) _ (fun w hw => by simpa [chgV] using range_block hw.2) Tryz.underlying101 rfl (by rw [chgL_length, HCP.out]; exact Tryz.size81)) hS ?_
        change wpAnyH _ _ _ _ _ _ _ (Act.put _ (some 29) _) _
        simp only [Act.put, List.setIfInBounds_toArray, List.set_cons_succ, List.set_cons_zero]
        refine wpAnyH_take (i := 5) (v := .int .i64 z) rfl (by kernel_rfl) (by kernel_rfl) (by kernel_rfl) (fun _ _ _ h => h) (Or.inl ⟨by kernel_rfl, ?_⟩) hS ?_
        · intro w hw; clear hw; go_simp
        change wpAnyH _ _ _ _ _ _ _ (Act.put _ (some 30) _) _
        simp only [Act.put, List.setIfInBounds_toArray, List.set_cons_succ, List.set_cons_zero]
        refine wpAnyH_ready (rs := [6]) (by kernel_rfl) (by simp) ?_
        refine AllReadyH.cons rfl (fun K hK => ?_) AllReadyH.nil
        go_simp
        go_wp2_with (go_at_call 46; refine (lay_any c z HM2.out HCP.out HLN.out hat0 hat1 (by omega)).mono ?_; rintro e w3 ⟨rfl, hm3, hg3⟩)
        refine hK.out _ _ (⟨heap_grown HS2.out.1 hg3 HMG.out.1, heap_grown HS2.out.2 hg3 HMG.out.2⟩) (fun hS => ?_)
        clear hK K
        skip
        refine wpAnyH_done (by kernel_rfl) ?_ _
        have HG3 : Hid (w1.grownBy w3 (some m)) := grown_trans HGR.out (grown_trans (below_grown (by go_grown) _) hg3)
        have HM3 : Hid (MapAt w3 m (n + k + 1) (layP (layN d.pg d.waits (keepAt keep) k) c z)) := hm3
        clear hm3 hg3 hS
        go_wp2
        go_roundw
        case rel => exact ⟨k + 1, by go_num, by omega, by rw [layN_succ _ _ _ HCJ.out, HKA.out]; exact HM3.out, HG3.out⟩
        case measure => simp [intOf]; omega
      · have hki : ¬ ((k : Int) < (keep.length : Int)) := by omega
        have HKA : Hid (keepAt keep k = 0) := by show _ = _; simp [keepAt]; rw [List.getElem?_eq_none (by omega)]; rfl
        go_wp2_with (first | (refine ld81 rfl (.tmp 15) rfl gr (k * 258) rfl c HCP.out HA2.out ?_) | (refine st81 wr rfl (.tmp 5) (.tmp 16) rfl _ rfl rfl c ⟨0, false, zeros⟩ rfl rfl zeros_length HCP.out ?_))
        refine wp_region_held_drew (S := fun w' => w'.heap[g]? = some (.cells #[.int .i64 d.pages, .map (some m), .slice (some ⟨gr, 0, none⟩) d.waits.length cap, .int .i64 d.fuse, .bool d.down, .int .i64 d.done] 74 (0, 0)) ∧ w'.heap[wr.heap.size]? = some (.cells (chgV c) 101 (0, 0))) (by kernel_rfl) (⟨HS2.out.1, HS2.out.2⟩) (fun hS => ?_)
        change wpAnyH _ _ _ _ _ _ _ _ (World.drew _)
        refine wpAnyH_take (i := 0) (v := .pointer (some ⟨g, 0, none⟩)) rfl (by kernel_rfl) (by kernel_rfl) (by kernel_rfl) (fun _ _ _ h => h) (Or.inl ⟨by kernel_rfl, ?_⟩) hS ?_
        · intro w hw; clear hw; go_simp
        change wpAnyH _ _ _ _ _ _ _ (Act.put _ (some 25) _) _
        simp only [Act.put, List.setIfInBounds_toArray, List.set_cons_succ, List.set_cons_zero]
        refine wpAnyH_take (i := 1) (v := .pointer (some ⟨g, 0, none⟩)) rfl (by kernel_rfl) (by kernel_rfl) (by kernel_rfl) (fun _ _ _ h => h) (Or.inl ⟨by kernel_rfl, ?_⟩) hS ?_
        · intro w hw; clear hw; go_simp
        change wpAnyH _ _ _ _ _ _ _ (Act.put _ (some 26) _) _
        simp only [Act.put, List.setIfInBounds_toArray, List.set_cons_succ, List.set_cons_zero]
        refine wpAnyH_take (i := 2) (v := .pointer (some ⟨g, 1, none⟩)) rfl (by kernel_rfl) (by kernel_rfl) (by kernel_rfl) (fun _ _ _ h => h) (Or.inl ⟨by kernel_rfl, ?_⟩) hS ?_
        · intro w hw; clear hw; go_simp
        change wpAnyH _ _ _ _ _ _ _ (Act.put _ (some 27) _) _
        simp only [Act.put, List.setIfInBounds_toArray, List.set_cons_succ, List.set_cons_zero]
        refine wpAnyH_take (i := 3) (v := .map (some m)) rfl (by kernel_rfl) (by kernel_rfl) (by kernel_rfl) (fun _ _ _ h => h) (Or.inl ⟨by kernel_rfl, ?_⟩) hS ?_
        · intro w hw
          obtain ⟨⟨q0, q1, q2, q3, q4, q5⟩, _⟩ := six hw.1
          clear hw
          go_simp
        change wpAnyH _ _ _ _ _ _ _ (Act.put _ (some 28) _) _
        simp only [Act.put, List.setIfInBounds_toArray, List.set_cons_succ, List.set_cons_zero]
        refine wpAnyH_take (i := 4) (v := .agg (chgV c)) rfl (by kernel_rfl) (by kernel_rfl) (by kernel_rfl) (fun _ _ _ h => h) (yieldsIf_load_mid (by kernel_rfl) 101 (.tmp 5) rfl wr.heap.size 0 rfl (chgL c) _ (fun w hw => by simpa [chgV] using range_block hw.2) Tryz.underlying101 rfl (by rw [chgL_length, HCP.out]; exact Tryz.size81)) hS ?_
        change wpAnyH _ _ _ _ _ _ _ (Act.put _ (some 29) _) _
        simp only [Act.put, List.setIfInBounds_toArray, List.set_cons_succ, List.set_cons_zero]
        refine wpAnyH_take (i := 5) (v := .int .i64 0) rfl (by kernel_rfl) (by kernel_rfl) (by kernel_rfl) (fun _ _ _ h => h) (Or.inl ⟨by kernel_rfl, ?_⟩) hS ?_
        · intro w hw; clear hw; go_simp
        change wpAnyH _ _ _ _ _ _ _ (Act.put _ (some 30) _) _
        simp only [Act.put, List.setIfInBounds_toArray, List.set_cons_succ, List.set_cons_zero]
        refine wpAnyH_ready (rs := [6]) (by kernel_rfl) (by simp) ?_
        refine AllReadyH.cons rfl (fun K hK => ?_) AllReadyH.nil
        go_simp
        go_wp2_with (go_at_call 46; refine (lay_any c 0 HM2.out HCP.out HLN.out hat0 hat1 (by omega)).mono ?_; rintro e w3 ⟨rfl, hm3, hg3⟩)
        refine hK.out _ _ (⟨heap_grown HS2.out.1 hg3 HMG.out.1, heap_grown HS2.out.2 hg3 HMG.out.2⟩) (fun hS => ?_)
        clear hK K
        skip
        refine wpAnyH_done (by kernel_rfl) ?_ _
        have HG3 : Hid (w1.grownBy w3 (some m)) := grown_trans HGR.out (grown_trans (below_grown (by go_grown) _) hg3)
        have HM3 : Hid (MapAt w3 m (n + k + 1) (layP (layN d.pg d.waits (keepAt keep) k) c 0)) := hm3
        clear hm3 hg3 hS
        go_wp2
        go_roundw
        case rel => exact ⟨k + 1, by go_num, by omega, by rw [layN_succ _ _ _ HCJ.out, HKA.out]; exact HM3.out, HG3.out⟩
        case measure => simp [intOf]; omega
    · obtain rfl : k = d.waits.length := by omega
      have hnl : ¬ ((d.waits.length : Int) < (d.waits.length : Int)) := by omega
      have H6R : Hid (wr.heap[g]? = some (.cells #[.int .i64 d.pages, .map (some m), .slice p d.waits.length cap, .int .i64 d.fuse, .bool d.down, .int .i64 d.done] 74 (0, 0))) := h6r
      clear h6r h8r hmr hgr
      go_wp2
      go_end0
      have g1 := setCell_grown (o := 2) H6R.out (.slice none 0 0)
      have k1 := setCell_heap (o := 2) H6R.out (.slice none 0 0)
      have g2 := setCell_grown (o := 4) k1 (.bool false)
      have k2 := setCell_heap (o := 4) k1 (.bool false)
      have g3 := setCell_grown (o := 3) k2 (.int .i64 (-1))
      have k3 := setCell_heap (o := 3) k2 (.int .i64 (-1))
      have hg5 := grown_trans (grown_trans g1 g2) g3
      have k4 : (((wr.setCell ⟨g, 2, none⟩ (.slice none 0 0)).setCell ⟨g, 4, none⟩ (.bool false)).setCell ⟨g, 3, none⟩ (.int .i64 (-1))).heap[g]? = some (Obj.cells #[.int .i64 d.pages, .map (some m), .slice none 0 0, .int .i64 (-1), .bool false, .int .i64 d.done] 74 (0, 0)) := by simpa using k3
      refine ⟨rfl, ⟨crashP_ok HOK.out keep, ⟨b1, b2, by show _ ≤ (-1 : Int); omega, by show (-1 : Int) ≤ _; omega⟩, m, .slice none 0 0, n + d.waits.length, k4, HMR.out.grown hg5 (by have := HMD.out; simpa using this), World.ownsRow_nil _ _ _ _, h9, h10, h11⟩, ((map_fr H7.out h10 HGR.out).trans (dev_fr H6R.out h9 hg5))⟩
end Go.Proofs.YtkbfihnoohhojaaGreatDoor.Fla
