/-
  Flush.
-/
import Derived.Test.YtkbfihnoohhojaaGreatDoorQFRead
import Derived.Test.YtkbfihnoohhojaaGreatDoorQFLay
namespace Go.Proofs.YtkbfihnoohhojaaGreatDoor.Fla
open Go.RowKit

/-- What Read answers. -/
def readP (d : Dev) (at_ : Int) : List Nat × Int := if refusesP d at_ = 0 then (lookP d at_, 0) else ([], refusesP d at_)
theorem lookP_length {d : Dev} (h : DevOk d) (at_ : Int) : (lookP d at_).length = 256 := lastP_length (fun c hc => (h.wlen c hc).1) (h.len _)
theorem page_row {w : World} {b : Nat} {l : List Nat} (h : w.heap[b]? = some (.cells (pgV l) 99 (0, 0))) (hl : l.length = 256) : BAt w (.slice (some ⟨b, 0, none⟩) 256 256) l :=
  ⟨some ⟨b, 0, none⟩, 256, by rw [hl], by omega, by unfold maxLen; omega, by rw [U_length]; omega, .inr ⟨b, 0, pgV l, rfl, ⟨99, (0, 0), h, by decide, by decide, by decide, by decide⟩, fun k u hk => by simpa [pgV] using hk⟩⟩
set_option maxHeartbeats 1000000 in
set_option maxRecDepth 10000 in
theorem read_any {w : World} {B g N : Nat} {d : Dev} (hF : Fl w B g N d) (hN : N ≤ 900) (at_ : Int) :
    Calls Tryz.prog 41 #[.pointer (some ⟨g, 0, none⟩), .int .i64 at_] w fun e w' => ∃ v u, e = .returned (.tuple #[v, u]) ∧ Fault w' u (readP d at_).2 ∧ BAt w' v (readP d at_).1 ∧ Below w.heap.size w w' := by
  have hz := Tryz.zero99
  have HF : Hid (Fl w B g N d) := hF
  have hok := hF.1
  clear hF
  unfold readP
  by_cases hr : refusesP d at_ = 0
  · obtain ⟨_, r1, r2⟩ := refuses_zero hr
    have hp1 := hok.pages1
    have KR := refuses_fl HF.out at_
    rw [hr] at KR
    have HKR : Hid (Calls Tryz.prog 49 #[.pointer (some ⟨g, 0, none⟩), .int .i64 at_] w _) := KR
    have KL := last_any HF.out hN at_ r1 (by omega)
    have hll := lookP_length hok at_
    rw [if_pos hr]
    generalize lookP d at_ = q at *
    have HKL : Hid (Calls Tryz.prog 66 #[.pointer (some ⟨g, 0, none⟩), .int .i64 at_] w _) := KL
    have HL : Hid (q.length = 256) := hll
    have hsl := sl79all
    clear KR KL hr hok hll
    go_enter Tryz.func41, Tryz.ntmps41
    go_wp2_with (first | (go_at_call 49; refine (show Calls _ _ _ _ _ from HKR).mono ?_; rintro e w1 ⟨rfl, rfl⟩) | (go_at_call 66; refine (show Calls _ _ _ _ _ from HKL).mono ?_; rintro e w2 ⟨rfl, hb2⟩) | (refine st79 w2 rfl (.tmp 7) (.tmp 18) rfl _ rfl rfl q zeros rfl rfl zeros_length HL.out ?_))
    go_ret2
    exact ⟨_, _, rfl, Fault.nil _, page_row (heap_alloc_last _ _) HL.out, hb2.alloc hb2.size _⟩
  · have hq : (refusesP d at_ == 0) = false := by simpa using hr
    have KR := refuses_fl HF.out at_
    rw [if_neg hr]
    generalize refusesP d at_ = code at *
    have HKR : Hid (Calls Tryz.prog 49 #[.pointer (some ⟨g, 0, none⟩), .int .i64 at_] w _) := KR
    clear KR hr
    go_enter Tryz.func41, Tryz.ntmps41
    go_wp2_with (first | (go_at_call 49; refine (show Calls _ _ _ _ _ from HKR).mono ?_; rintro e w1 ⟨rfl, rfl⟩) | (go_at_call 29; refine (new_code _ _ _ _).mono ?_; rintro e w3 ⟨v, rfl, hv, hb⟩))
    go_ret2
    exact ⟨_, v, rfl, hv, BAt.nil _, hb⟩

theorem fuse_fl {w : World} {B g N : Nat} {d : Dev} (hF : Fl w B g N d) (n : Int) (h0 : -9223372036854775808 ≤ n) (h1 : n ≤ 9223372036854775807) :
    Calls Tryz.prog 21 #[.pointer (some ⟨g, 0, none⟩), .int .i64 n] w fun e w' => e = .returned (.tuple #[]) ∧ Fl w' B g N (fuseP d n) ∧ Fr B w w' := by
  obtain ⟨k1, ⟨k2, k3, k4, k5⟩, m, wv, nn, h6, h7, h8, h9, h10, h11⟩ := hF
  refine (fuse_any d n h6).mono ?_
  rintro e w' ⟨rfl, hg, hh⟩
  refine ⟨rfl, ⟨⟨k1.pages0, k1.pages1, k1.len, k1.byt, k1.wlen⟩, ⟨k2, k3, h0, h1⟩, m, wv, nn, hh, h7.grown hg (by have := map_ne_dev h7 h6; simpa using this), h8.kept hg (.inr (Ne.symm (own_ne h8 h6 (by decide)))), h9, h10, h11⟩, dev_fr h6 h9 hg⟩
theorem down_fl {w : World} {B g N : Nat} {d : Dev} (hF : Fl w B g N d) : Calls Tryz.prog 30 #[.pointer (some ⟨g, 0, none⟩)] w fun e w' => e = .returned (.bool d.down) ∧ w' = w := by
  obtain ⟨m, wv, h⟩ := dev_cells hF
  exact down_any d h
end Go.Proofs.YtkbfihnoohhojaaGreatDoor.Fla

namespace Go.Proofs.YtkbfihnoohhojaaGreatDoor.Fla
open Go.RowKit

theorem overP_byt {c : Chg} {p : List Nat} {n : Int} (hc : ∀ x ∈ c.p, x < 256) (hp : ∀ x ∈ p, x < 256) : ∀ x ∈ overP c p n, x < 256 := by
  unfold overP
  split
  · split
    · exact zeros_byt
    · exact hp
  · intro x hx
    unfold mix at hx
    rcases List.mem_append.1 hx with h | h
    · exact hc x (List.mem_of_mem_take h)
    · exact hp x (List.mem_of_mem_drop h)
theorem layN_ok {pg : Pg} {cs : List Chg} (f : Nat → Int) (hc : ∀ c ∈ cs, c.p.length = 256 ∧ ∀ x ∈ c.p, x < 256) (hp : ∀ k, (pg k).length = 256 ∧ ∀ x ∈ pg k, x < 256) (i : Nat) : ∀ k, (layN pg cs f i k).length = 256 ∧ ∀ x ∈ layN pg cs f i k, x < 256 := by
  induction i with
  | zero => exact hp
  | succ i ih =>
    intro k
    cases h : cs[i]? with
    | none => simp only [layN, h]; exact ih k
    | some c =>
      rw [layN_succ _ _ _ h]
      unfold layP upd
      have hcc := hc c (List.mem_of_getElem? h)
      split
      · exact ⟨overP_length hcc.1 (ih _).1 _, overP_byt hcc.2 (ih _).2⟩
      · exact ih k
theorem settledP_ok {d : Dev} (h : DevOk d) : DevOk (settledP d) := by
  have := layN_ok (cs := d.waits) (fun _ => 256) (fun c hc => ⟨(h.wlen c hc).1, (h.wlen c hc).2.1⟩) (fun k => ⟨h.len k, h.byt k⟩) d.waits.length
  exact ⟨h.pages0, h.pages1, fun k => (this k).1, fun k => (this k).2, fun c hc => by simp [settledP] at hc⟩
theorem burnsP_ok {d : Dev} (h : DevOk d) : DevOk (burnsP d) := ⟨h.pages0, h.pages1, h.len, h.byt, h.wlen⟩
theorem burns_fl {w : World} {B g N : Nat} {d : Dev} (hF : Fl w B g N d) (hN : N < 900) :
    Calls Tryz.prog 45 #[.pointer (some ⟨g, 0, none⟩)] w fun e w' => e = .returned (.bool (burnsP d).down) ∧ Fl w' B g (N + 1) (burnsP d) ∧ Fr B w w' := by
  obtain ⟨k1, ⟨k2, k3, k4, k5⟩, m, wv, nn, h6, h7, h8, h9, h10, h11⟩ := hF
  refine (burns_any d h6 k2 (by omega) k4 k5).mono ?_
  rintro e w' ⟨rfl, hg, hh⟩
  refine ⟨rfl, ⟨burnsP_ok k1, ⟨?_, ?_, ?_, ?_⟩, m, wv, nn, hh, h7.grown hg (by have := map_ne_dev h7 h6; simpa using this), h8.kept hg (.inr (Ne.symm (own_ne h8 h6 (by decide)))), h9, h10, ?_⟩, dev_fr h6 h9 hg⟩
  · show 0 ≤ d.done + 1; omega
  · show d.done + 1 ≤ ((N + 1 : Nat) : Int); omega
  · show _ ≤ (if 0 < d.fuse then d.fuse - 1 else d.fuse); split <;> omega
  · show (if 0 < d.fuse then d.fuse - 1 else d.fuse) ≤ _; split <;> omega
  · show nn + d.waits.length ≤ N + 1; omega
theorem map_fr {B m n : Nat} {w w1 : World} {pg : Pg} (h : MapAt w m n pg) (hB : B ≤ m) (hg : w.grownBy w1 (some m)) : Fr B w w1 := grown_fr hg hB h.notStat

set_option maxHeartbeats 2000000 in
set_option maxRecDepth 10000 in
theorem flush_go {w : World} {B g N : Nat} {d0 d : Dev} (hF0 : Fl w B g N d0) (hd0 : d0.down = false) (_hd : d.down = false) (hN : N < 900)
    (KB : Calls Tryz.prog 45 #[.pointer (some ⟨g, 0, none⟩)] w fun e w' => e = .returned (.bool false) ∧ Fl w' B g (N + 1) d ∧ Fr B w w') :
    Calls Tryz.prog 18 #[.pointer (some ⟨g, 0, none⟩)] w fun e w' => e = .returned .nilIface ∧ Fl w' B g (N + 1) (settledP d) ∧ Fr B w w' := by
  obtain ⟨m0, wv0, hc0⟩ := dev_cells hF0
  obtain ⟨⟨c0, c1, c2, c3, c4, c5⟩, hf⟩ := six hc0
  have hglt0 := hF0.lt.2
  rw [hd0] at c4
  have HKB : Hid (Calls Tryz.prog 45 #[.pointer (some ⟨g, 0, none⟩)] w _) := KB
  clear KB hc0 hF0
  go_enter Tryz.func18, Tryz.ntmps18
  go_wp2_with (go_at_call 45; refine (show Calls _ _ _ _ _ from HKB).mono ?_; rintro e w1 ⟨rfl, hF, hR⟩; clear c0 c1 c2 c3 c4 c5 hf; have hglt := hF.lt.2; obtain ⟨hok, ⟨b1, b2, b3, b4⟩, m, wv, n, h6, h7, h8, h9, h10, h11⟩ := hF; obtain ⟨⟨c0, c1, c2, c3, c4, c5⟩, hf⟩ := six h6; obtain ⟨p, cap, hwv⟩ := own_len h8; subst hwv)
  have hlen : d.waits.length ≤ 900 := by omega
  have HR : Hid (Fr B w w1) := hR
  have H6 : Hid (w1.heap[g]? = some (.cells #[.int .i64 d.pages, .map (some m), .slice p d.waits.length cap, .int .i64 d.fuse, .bool d.down, .int .i64 d.done] 74 (0, 0))) := h6
  have H8 : Hid (w1.ownsRow B 101 258 (.slice p d.waits.length cap) d.waits.length (chgsL d.waits)) := h8
  have H7 : Hid (MapAt w1 m n d.pg) := h7
  have HOK : Hid (DevOk d) := hok
  have HMD : Hid (m ≠ g) := map_ne_dev h7 h6
  have HMO : Hid (some m ≠ (Value.slice p d.waits.length cap).ownBlock) := map_ne_own h7 h8
  have HMLT : Hid (m < w1.heap.size) := h7.lt
  clear hR h6 h7 h8 hok
  go_loopw [24] (fun i wr => ∃ k : Nat, i = .int .i64 (k : Int) ∧ k ≤ d.waits.length ∧ MapAt wr m (n + k) (layN d.pg d.waits (fun _ => 256) k) ∧ w1.grownBy wr (some m)) (fun i _ => d.waits.length - (intOf i).toNat)
  case atStart => exact ⟨0, rfl, Nat.zero_le _, H7.out, grown_refl _ _⟩
  case round =>
    obtain ⟨k, rfl, hk, hmr, hgr⟩ := hrel
    clear c0 c1 c2 c3 c4 c5 hf
    have h6r := heap_grown H6.out hgr (by have := HMD.out; simpa using Ne.symm this)
    have h8r := H8.out.kept hgr (.inr (Ne.symm HMO.out))
    obtain ⟨⟨c0, c1, c2, c3, c4, c5⟩, hf⟩ := six h6r
    have hgl : g < wr.heap.size := (Array.getElem?_eq_some_iff.1 h6r).1
    have HMR : Hid (MapAt wr m (n + k) (layN d.pg d.waits (fun _ => 256) k)) := hmr
    have HGR : Hid (w1.grownBy wr (some m)) := hgr
    by_cases hlt : k < d.waits.length
    · obtain ⟨c, hcj⟩ : ∃ c, d.waits[k]? = some c := ⟨_, List.getElem?_eq_getElem (by omega)⟩
      have hcw := HOK.out.wlen c (List.mem_of_getElem? hcj)
      have hpg := HOK.out.pages1
      obtain ⟨gr, rfl, hcap, hcapm, hgrl, _, hcell⟩ := own_pos h8r (by omega)
      obtain ⟨_, _, a2⟩ := chg_range (fun c hc => (HOK.out.wlen c hc).1) hcell hcj
      have HA2 : Hid (wr.rangeAt gr (k * 258) (chgL c)) := a2
      have HCP : Hid (c.p.length = 256) := hcw.1
      have hat0 := hcw.2.2.2.1
      have hat1 : c.at_ < 4096 := by have := hcw.2.2.2.2; omega
      have HLN : Hid (∀ j, (layN d.pg d.waits (fun _ => 256) k j).length = 256) := fun j => (layN_ok (cs := d.waits) (fun _ => 256) (fun c hc => ⟨(HOK.out.wlen c hc).1, (HOK.out.wlen c hc).2.1⟩) (fun k => ⟨HOK.out.len k, HOK.out.byt k⟩) k j).1
      have HCJ : Hid (d.waits[k]? = some c) := hcj
      have hz := Tryz.zero101
      unfold maxLen at hcapm
      have hji : (k : Int) < (d.waits.length : Int) := by omega
      have HM2 : Hid (MapAt (wr.alloc (.cells (chgV c) 101)).drew m (n + k) (layN d.pg d.waits (fun _ => 256) k)) := HMR.out.below (by go_grown)
      have HS2 : Hid ((wr.alloc (.cells (chgV c) 101)).drew.heap[g]? = some (.cells #[.int .i64 d.pages, .map (some m), .slice (some ⟨gr, 0, none⟩) d.waits.length cap, .int .i64 d.fuse, .bool d.down, .int .i64 d.done] 74 (0, 0)) ∧ (wr.alloc (.cells (chgV c) 101)).drew.heap[wr.heap.size]? = some (.cells (chgV c) 101 (0, 0))) := ⟨heap_alloc_old h6r _, heap_alloc_last wr _⟩
      have HMG : Hid (some g ≠ some m ∧ some wr.heap.size ≠ some m) := ⟨by have := HMD.out; simpa using Ne.symm this, by have := hmr.lt; simp; omega⟩
      clear hcell a2 hcw hcj h6r h8r hmr hgr
      go_wp2_with (first | (refine ld81 rfl (.tmp 26) rfl gr (k * 258) rfl c HCP.out HA2.out ?_) | (refine st81 wr rfl (.tmp 4) (.tmp 27) rfl _ rfl rfl c ⟨0, false, zeros⟩ rfl rfl zeros_length HCP.out ?_))
      refine wp_region_held_drew (S := fun w' => w'.heap[g]? = some (.cells #[.int .i64 d.pages, .map (some m), .slice (some ⟨gr, 0, none⟩) d.waits.length cap, .int .i64 d.fuse, .bool d.down, .int .i64 d.done] 74 (0, 0)) ∧ w'.heap[wr.heap.size]? = some (.cells (chgV c) 101 (0, 0))) (by kernel_rfl) (⟨HS2.out.1, HS2.out.2⟩) (fun hS => ?_)
      change wpAnyH _ _ _ _ _ _ _ _ (World.drew _)
      refine wpAnyH_take (i := 0) (v := .pointer (some ⟨g, 0, none⟩)) rfl (by kernel_rfl) (by kernel_rfl) (by kernel_rfl) (fun _ _ _ h => h) (Or.inl ⟨by kernel_rfl, ?_⟩) hS ?_
      · intro w hw; clear hw; go_simp
      change wpAnyH _ _ _ _ _ _ _ (Act.put _ (some 28) _) _
      simp only [Act.put, List.setIfInBounds_toArray, List.set_cons_succ, List.set_cons_zero]
      refine wpAnyH_take (i := 1) (v := .pointer (some ⟨g, 0, none⟩)) rfl (by kernel_rfl) (by kernel_rfl) (by kernel_rfl) (fun _ _ _ h => h) (Or.inl ⟨by kernel_rfl, ?_⟩) hS ?_
      · intro w hw; clear hw; go_simp
      change wpAnyH _ _ _ _ _ _ _ (Act.put _ (some 29) _) _
      simp only [Act.put, List.setIfInBounds_toArray, List.set_cons_succ, List.set_cons_zero]
      refine wpAnyH_take (i := 2) (v := .pointer (some ⟨g, 1, none⟩)) rfl (by kernel_rfl) (by kernel_rfl) (by kernel_rfl) (fun _ _ _ h => h) (Or.inl ⟨by kernel_rfl, ?_⟩) hS ?_
      · intro w hw; clear hw; go_simp
      change wpAnyH _ _ _ _ _ _ _ (Act.put _ (some 30) _) _
      simp only [Act.put, List.setIfInBounds_toArray, List.set_cons_succ, List.set_cons_zero]
      refine wpAnyH_take (i := 3) (v := .map (some m)) rfl (by kernel_rfl) (by kernel_rfl) (by kernel_rfl) (fun _ _ _ h => h) (Or.inl ⟨by kernel_rfl, ?_⟩) hS ?_
      · intro w hw
        obtain ⟨⟨q0, q1, q2, q3, q4, q5⟩, _⟩ := six hw.1
        clear hw
        go_simp
      change wpAnyH _ _ _ _ _ _ _ (Act.put _ (some 31) _) _
      simp only [Act.put, List.setIfInBounds_toArray, List.set_cons_succ, List.set_cons_zero]
      refine wpAnyH_take (i := 4) (v := .agg (chgV c)) rfl (by kernel_rfl) (by kernel_rfl) (by kernel_rfl) (fun _ _ _ h => h) (yieldsIf_load_mid (by kernel_rfl) 101 (.tmp 4) rfl wr.heap.size 0 rfl (chgL c) _ (fun w hw => by simpa [chgV] using range_block hw.2) Tryz.underlying101 rfl (by rw [chgL_length, HCP.out]; exact Tryz.size81)) hS ?_
      change wpAnyH _ _ _ _ _ _ _ (Act.put _ (some 32) _) _
      simp only [Act.put, List.setIfInBounds_toArray, List.set_cons_succ, List.set_cons_zero]
      refine wpAnyH_ready (rs := [5]) (by kernel_rfl) (by simp) ?_
      refine AllReadyH.cons rfl (fun K hK => ?_) AllReadyH.nil
      go_simp
      go_wp2_with (go_at_call 46; refine (lay_any c 256 HM2.out HCP.out HLN.out hat0 hat1 (by omega)).mono ?_; rintro e w3 ⟨rfl, hm3, hg3⟩)
      refine hK.out _ _ (⟨heap_grown HS2.out.1 hg3 HMG.out.1, heap_grown HS2.out.2 hg3 HMG.out.2⟩) (fun hS => ?_)
      clear hK K
      skip
      refine wpAnyH_done (by kernel_rfl) ?_ _
      have HG3 : Hid (w1.grownBy w3 (some m)) := grown_trans HGR.out (grown_trans (below_grown (by go_grown) _) hg3)
      have HM3 : Hid (MapAt w3 m (n + k + 1) (layP (layN d.pg d.waits (fun _ => 256) k) c 256)) := hm3
      clear hm3 hg3 hS
      go_wp2
      go_roundw
      case rel => exact ⟨k + 1, by go_num, by omega, by rw [layN_succ _ _ _ HCJ.out]; exact HM3.out, HG3.out⟩
      case measure => simp [intOf]; omega
    · obtain rfl : k = d.waits.length := by omega
      have hnl : ¬ ((d.waits.length : Int) < (d.waits.length : Int)) := by omega
      have H6R : Hid (wr.heap[g]? = some (.cells #[.int .i64 d.pages, .map (some m), .slice p d.waits.length cap, .int .i64 d.fuse, .bool d.down, .int .i64 d.done] 74 (0, 0))) := h6r
      clear h6r h8r hmr hgr
      go_wp2
      go_ret
      have hg5 := setCell_grown (o := 2) H6R.out (.slice none 0 0)
      have k2 : (wr.setCell ⟨g, 2, none⟩ (.slice none 0 0)).heap[g]? = some (.cells #[.int .i64 d.pages, .map (some m), .slice none 0 0, .int .i64 d.fuse, .bool d.down, .int .i64 d.done] 74 (0, 0)) := by simpa using setCell_heap (o := 2) H6R.out (.slice none 0 0)
      refine ⟨rfl, ⟨settledP_ok HOK.out, ⟨b1, b2, b3, b4⟩, m, .slice none 0 0, n + d.waits.length, k2, HMR.out.grown hg5 (by have := HMD.out; simpa using this), World.ownsRow_nil _ _ _ _, h9, h10, h11⟩, HR.out.trans ((map_fr H7.out h10 HGR.out).trans (dev_fr H6R.out h9 hg5))⟩

set_option maxHeartbeats 1000000 in
theorem flush_any {w : World} {B g N : Nat} {d : Dev} (hF : Fl w B g N d) (hN : N < 900) :
    Calls Tryz.prog 18 #[.pointer (some ⟨g, 0, none⟩)] w fun e w' => ∃ v, e = .returned v ∧ Fault w' v (flushP d).2 ∧ Fl w' B g (N + 1) (flushP d).1 ∧ Fr B w w' := by
  unfold flushP
  cases hd : d.down
  · simp only [Bool.false_eq_true, if_false]
    have KB := burns_fl hF hN
    cases hd1 : (burnsP d).down
    · simp only [Bool.false_eq_true, if_false]
      rw [hd1] at KB
      refine (flush_go hF hd hd1 hN KB).mono ?_
      rintro e w' ⟨rfl, h1, h2⟩
      exact ⟨_, rfl, Fault.nil _, h1, h2⟩
    · simp only [if_true]
      rw [hd1] at KB
      have HKB : Hid (Calls Tryz.prog 45 #[.pointer (some ⟨g, 0, none⟩)] w _) := KB
      obtain ⟨m0, wv0, hc0⟩ := dev_cells hF
      obtain ⟨⟨c0, c1, c2, c3, c4, c5⟩, hf⟩ := six hc0
      rw [hd] at c4
      clear KB hc0 hF hd hd1
      go_enter Tryz.func18, Tryz.ntmps18
      go_wp2_with (first | (go_at_call 45; refine (show Calls _ _ _ _ _ from HKB).mono ?_; rintro e w1 ⟨rfl, hF, hR⟩; clear c0 c1 c2 c3 c4 c5 hf; obtain ⟨hok, ⟨b1, b2, b3, b4⟩, m, wv, n, h6, h7, h8, h9, h10, h11⟩ := id hF; obtain ⟨⟨c0, c1, c2, c3, c4, c5⟩, hf⟩ := six h6; obtain ⟨p, cap, hwv⟩ := own_len h8; subst hwv; clear h6 h7 h8 hok) | (go_at_call 29; refine (new_code _ _ _ _).mono ?_; rintro e w3 ⟨v, rfl, hv, hb⟩))
      go_ret
      exact ⟨v, rfl, hv, hF.below hb, hR.trans (Below.fr hb)⟩
  · simp only [if_true]
    obtain ⟨hok, ⟨b1, b2, b3, b4⟩, m, wv, n, h6, h7, h8, h9, h10, h11⟩ := id hF
    obtain ⟨⟨c0, c1, c2, c3, c4, c5⟩, hf⟩ := six h6
    obtain ⟨p, cap, rfl⟩ := own_len h8
    rw [hd] at c4
    have HF : Hid (Fl w B g N d) := hF
    clear h6 h7 h8 hok hF hd
    go_enter Tryz.func18, Tryz.ntmps18
    go_wp2_with (go_at_call 29; refine (new_code _ _ _ _).mono ?_; rintro e w3 ⟨v, rfl, hv, hb⟩)
    go_ret
    exact ⟨v, rfl, hv, (HF.out.below hb).more (by omega), Below.fr hb⟩
end Go.Proofs.YtkbfihnoohhojaaGreatDoor.Fla
