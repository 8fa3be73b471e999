/-
  The document's tier: Sweep.
-/
import Derived.Test.YtkgecpplgjfhiaaGreatDoorQRefD
namespace Go.Proofs.YtkgecpplgjfhiaaGreatDoor
open Go.RowKit
open Ite (Ent zeroE checkE sizeE)
open Lis (Lst but Tag)

/-- Those of the first k that have not ended. -/
def liveT (L : List Ent) (now : Int) (k : Nat) : List Ent := (L.take k).filter fun x => lv x now
theorem liveT_step {L : List Ent} {k : Nat} {x : Ent} (h : L[k]? = some x) (now : Int) : liveT L now (k + 1) = liveT L now k ++ (if lv x now = true then [x] else []) := by
  obtain ⟨hl, rfl⟩ := List.getElem?_eq_some_iff.1 h
  unfold liveT
  rw [List.take_succ_eq_append_getElem hl, List.filter_append]
  by_cases e : lv L[k] now = true
  · rw [if_pos e]; simp [e]
  · rw [if_neg e]; simp [e]
theorem liveT_all (L : List Ent) (now : Int) : liveT L now L.length = sweepP L now := by unfold liveT sweepP; rw [List.take_length]
theorem liveT_len (L : List Ent) (now : Int) (k : Nat) : (liveT L now k).length ≤ k := by
  unfold liveT
  refine Nat.le_trans (List.length_filter_le _ _) ?_
  rw [List.length_take]; omega

theorem results_rm {fn : Func} {p u : Tmp} (h : fn.results = #[.cell p 37, .tmp u]) (tmps : Array Value) (w : World) (b : Nat) (ht : tmps.getD p undef = .pointer (some ⟨b, 0, none⟩)) (x0 x1 : Value) (hc : Two w b x0 x1) (y : Value) (hy : tmps.getD u undef = y) : (results fn tmps).run Tryz.prog w = .ok (.tuple #[.agg #[x0, x1], y]) w := by
  rw [results_cell_tmp h, ht, hy]
  simp only [asAddr, Sem.run_pure, Result.andThen_ok, load37 w b x0 x1 _ _ hc]
theorem rng_grown {w w' : World} {b o k : Nat} {cs : List Value} (h : w.rangeAt b o cs) (g : w.grownBy w' (some k)) (hne : b ≠ k) : w'.rangeAt b o cs := fun j u hj => by
  have hlt := World.block_lt_of_cell? w _ (h j u hj)
  rw [cell_eq (g.block b hlt (by simpa using hne))]; exact h j u hj
theorem rng_old {w0 w' : World} {b o : Nat} {cs : List Value} (hb : Below w0.heap.size w0 w') (h : w0.rangeAt b o cs) : w'.rangeAt b o cs := fun j u hj => (hb.cell (p := ⟨b, o + j, none⟩) (World.block_lt_of_cell? w0 _ (h j u hj))).trans (h j u hj)
theorem sweep_row {w0 w5 wa w6 : World} {B n : Nat} {v : Value} {cs : List Value} (hb : Below w5.heap.size w5 wa) (ho : w5.ownsRow w0.heap.size 25 5 v n cs) (hg : wa.grownBy w6 v.ownBlock) (b0 : Below w0.heap.size w0 w5) (hB : B ≤ w0.heap.size) : Below w0.heap.size w0 w6 ∧ Rg 25 B w5 w6 ∧ ∀ b x y, Two w5 b x y → Two w6 b x y := by
  have h2 := (row_grown hb ho hg (Fr.of (B := B) b0) (Nat.le_refl _) hB).2
  exact ⟨below_row b0 hb ho hg, h2, fun b x y h => by unfold Two; rw [h2.tag h.tag (by decide)]; exact h⟩

set_option maxHeartbeats 2000000 in
set_option maxRecDepth 8000 in
theorem rsweep_t {w : World} {B : Nat} {lim : Int} {p : Option Addr} {cap : Nat} {L : List Ent} (h : Es w B (.slice p L.length cap) L) (hl : L.length ≤ 1000) (hBw : B ≤ w.heap.size) (now : Int) :
    Calls Tryz.prog 43 #[.agg #[.int .i64 lim, .slice p L.length cap], .int .i64 now] w fun e w' => ∃ p' cap', e = .returned (.tuple #[.agg #[.int .i64 lim, .slice p' (sweepP L now).length cap'], .int .i64 ((L.length : Int) - ((sweepP L now).length : Int))]) ∧ Es w' B (.slice p' (sweepP L now).length cap') (sweepP L now) ∧ (p' = none → cap' = 0) ∧ Below w.heap.size w w' := by
  have hcap : L.length ≤ cap ∧ cap ≤ maxLen := by obtain ⟨_, _, e, h1, h2, _⟩ := h; cases e; exact ⟨h1, h2⟩
  obtain ⟨hc1, hc2⟩ := hcap
  unfold maxLen at hc2
  obtain ⟨g, hg⟩ : ∃ g, g = w.heap.size := ⟨_, rfl⟩
  obtain ⟨wa, hwa⟩ : ∃ wa, wa = w.alloc (.cells #[.int .i64 lim, .slice p L.length cap] 37) := ⟨_, rfl⟩
  obtain ⟨wb, hwb⟩ : ∃ wb, wb = wa.alloc (.cells #[.int .i64 0, .slice none 0 0] 37) := ⟨_, rfl⟩
  obtain ⟨wc, hwc⟩ : ∃ wc, wc = wb.alloc (.cells #[.int .i64 0, .slice none 0 0] 37) := ⟨_, rfl⟩
  have sa : wa.heap.size = g + 1 := by rw [hwa, hg]; simp
  have sb : wb.heap.size = g + 2 := by rw [hwb]; simp [sa]
  have A1 : Below w.heap.size w wa := by rw [hwa]; go_grown
  have A2 : Below wa.heap.size wa wb := by rw [hwb]; go_grown
  have A3 : Below wb.heap.size wb wc := by rw [hwc]; go_grown
  have Za : Two wa g (.int .i64 lim) (.slice p L.length cap) := by rw [hwa, hg]; exact heap_alloc_new w _
  have Zb : Two wb (g + 1) (.int .i64 0) (.slice none 0 0) := by rw [hwb, ← sa]; exact heap_alloc_new wa _
  have Zc : Two wc (g + 2) (.int .i64 0) (.slice none 0 0) := by rw [hwc, ← sb]; exact heap_alloc_new wb _
  have Bc := (A1.trans (A2.mono A1.size)).trans (A3.mono (Nat.le_trans A1.size A2.size))
  have Z0 := hid2 ((Za.stays A2).stays A3)
  have Z1 := hid2 (Zb.stays A3)
  have Z2' := hid2 Zc
  have HBc := hid2 Bc
  have HE0 := hid2 h
  have HG := hid2 hg
  have HWA := hid2 hwa
  have HWB := hid2 hwb
  have HWC := hid2 hwc
  clear h A1 A2 A3 Za Zb Zc Bc hwa hwb hwc hg
  go_enter Tryz.func43, Tryz.ntmps43
  go_wp2_with (first
    | (rw [← HWA.out, ← HWB.out, ← HWC.out, ← HG.out]; refine st37 rfl (.tmp 6) (.tmp 10) rfl (g + 2) rfl _ _ _ Z2'.out rfl rfl ⟨rfl, rfl⟩ ?_; intro w1 hz1 hg1))
  have Z01 := hid2 (Z0.out.grown hg1 (by simp))
  have Z11 := hid2 (Z1.out.grown hg1 (by simp))
  have Z21 := hid2 hz1
  have HB0 : Hid (Below w.heap.size w w1) := HBc.out.grown hg1 HBc.out.size (fun j hj => by cases hj; have := HG.out; omega)
  have HGB : Hid (w.heap.size ≤ g + 2) := by have := HG.out; show _ ≤ _; omega
  have HBB := hid2 hBw
  clear hz1 hg1 HWA HWB HWC Z0 Z1 Z2' HBc
  rw [show g + 1 + 1 = g + 2 from rfl]
  go_loopg [7] L.length (fun gi i wr => ∃ (k : Nat) (pp : Option Addr) (m cc : Nat) (cs : List Value), k ≤ L.length ∧ gi = L.length - k ∧ i = .int .i64 (k : Int) ∧ m = (liveT L now k).length ∧ Two wr (g + 2) (.int .i64 lim) (.slice pp m cc) ∧ Two wr g (.int .i64 lim) (.slice p L.length cap) ∧ Two wr (g + 1) (.int .i64 0) (.slice none 0 0) ∧ wr.ownsRow w.heap.size 25 5 (.slice pp m cc) m cs ∧ EQ wr B (liveT L now k) cs ∧ Below w.heap.size w wr)
  case atStart => exact ⟨0, none, 0, 0, [], Nat.zero_le _, rfl, rfl, by simp [liveT], Z21.out, Z01.out, Z11.out, ⟨rfl, .inl ⟨rfl, rfl⟩⟩, by simp [liveT]; exact rfl, HB0.out⟩
  case round =>
    clear Z21 Z01 Z11 HB0
    obtain ⟨k, pp, m, cc, cs, hk, hgi, rfl, hm, z2, z0, z1, ho, hq, hb⟩ := hrel
    have HGI := hid2 hgi
    have HM := hid2 hm
    have Z2r := hid2 z2
    have Z0r := hid2 z0
    have Z1r := hid2 z1
    have HO := hid2 ho
    have HQ := hid2 hq
    have HBr := hid2 hb
    obtain ⟨s0, s1, s2, s3⟩ := z0.cells
    have hml := liveT_len L now k
    clear hgi z2 z0 z1 ho hq hb
    by_cases hkl : k = L.length
    · subst hkl
      have Z1d : Hid (Two wr.drew (g + 1) (.int .i64 0) (.slice none 0 0)) := Z1r.out
      have hw7 : IntKind.i64.wrap ((L.length : Int) - (m : Int)) = (L.length : Int) - (m : Int) := by rw [IntKind.wrap_i64]; omega
      clear hml hm
      go_wp2_with fail
      refine wp_region_held_drew (S := fun W => Two W g (.int .i64 lim) (.slice p L.length cap) ∧ Two W (g + 2) (.int .i64 lim) (.slice pp m cc)) (by kernel_rfl) (⟨Z0r.out, Z2r.out⟩) (fun hS => ?_)
      change wpAnyH _ _ _ _ _ _ _ _ (World.drew _)
      refine wpAnyH_take (i := 0) (v := .agg #[.int .i64 lim, .slice pp m cc]) rfl (by kernel_rfl) (by kernel_rfl) (by kernel_rfl) (fun _ _ _ h => h) (yieldsIf_load_mid (by kernel_rfl) 37 (.tmp 6) rfl (g + 2) 0 rfl ([.int .i64 lim, .slice pp m cc]) _ (fun W hw => two_range hw.2) und_rm.choose_spec rfl (size_rm)) hS ?_
      change wpAnyH _ _ _ _ _ _ _ (Act.put _ (some 35) _) _
      simp only [Act.put, List.setIfInBounds_toArray, List.set_cons_succ, List.set_cons_zero]
      refine wpAnyH_take (i := 1) (v := .pointer (some ⟨g, 1, none⟩)) rfl (by kernel_rfl) (by kernel_rfl) (by kernel_rfl) (fun _ _ _ h => h) (Or.inl ⟨by kernel_rfl, ?_⟩) hS ?_
      · intro w hw; clear hw; go_simp
      change wpAnyH _ _ _ _ _ _ _ (Act.put _ (some 36) _) _
      simp only [Act.put, List.setIfInBounds_toArray, List.set_cons_succ, List.set_cons_zero]
      refine wpAnyH_take (i := 2) (v := .slice p L.length cap) rfl (by kernel_rfl) (by kernel_rfl) (by kernel_rfl) (fun _ _ _ h => h) (Or.inl ⟨by kernel_rfl, ?_⟩) hS ?_
      · intro w hw
        obtain ⟨e0, e1, e2, e3⟩ := hw.1.cells
        go_simp
      change wpAnyH _ _ _ _ _ _ _ (Act.put _ (some 37) _) _
      simp only [Act.put, List.setIfInBounds_toArray, List.set_cons_succ, List.set_cons_zero]
      refine wpAnyH_take (i := 3) (v := .int .i64 (L.length : Int)) rfl (by kernel_rfl) (by kernel_rfl) (by kernel_rfl) (fun _ _ _ h => h) (Or.inl ⟨by kernel_rfl, ?_⟩) hS ?_
      · intro w hw; clear hw; go_simp
      change wpAnyH _ _ _ _ _ _ _ (Act.put _ (some 38) _) _
      simp only [Act.put, List.setIfInBounds_toArray, List.set_cons_succ, List.set_cons_zero]
      refine wpAnyH_take (i := 4) (v := .pointer (some ⟨g + 2, 1, none⟩)) rfl (by kernel_rfl) (by kernel_rfl) (by kernel_rfl) (fun _ _ _ h => h) (Or.inl ⟨by kernel_rfl, ?_⟩) hS ?_
      · intro w hw; clear hw; go_simp
      change wpAnyH _ _ _ _ _ _ _ (Act.put _ (some 39) _) _
      simp only [Act.put, List.setIfInBounds_toArray, List.set_cons_succ, List.set_cons_zero]
      refine wpAnyH_take (i := 5) (v := .slice pp m cc) rfl (by kernel_rfl) (by kernel_rfl) (by kernel_rfl) (fun _ _ _ h => h) (Or.inl ⟨by kernel_rfl, ?_⟩) hS ?_
      · intro w hw
        obtain ⟨e0, e1, e2, e3⟩ := hw.2.cells
        go_simp
      change wpAnyH _ _ _ _ _ _ _ (Act.put _ (some 40) _) _
      simp only [Act.put, List.setIfInBounds_toArray, List.set_cons_succ, List.set_cons_zero]
      refine wpAnyH_take (i := 6) (v := .int .i64 (m : Int)) rfl (by kernel_rfl) (by kernel_rfl) (by kernel_rfl) (fun _ _ _ h => h) (Or.inl ⟨by kernel_rfl, ?_⟩) hS ?_
      · intro w hw; clear hw; go_simp
      change wpAnyH _ _ _ _ _ _ _ (Act.put _ (some 41) _) _
      simp only [Act.put, List.setIfInBounds_toArray, List.set_cons_succ, List.set_cons_zero]
      refine wpAnyH_take (i := 7) (v := .int .i64 ((L.length : Int) - (m : Int))) rfl (by kernel_rfl) (by kernel_rfl) (by kernel_rfl) (fun _ _ _ h => h) (Or.inl ⟨by kernel_rfl, ?_⟩) hS ?_
      · intro w hw; clear hw; go_simp
      change wpAnyH _ _ _ _ _ _ _ (Act.put _ (some 42) _) _
      simp only [Act.put, List.setIfInBounds_toArray, List.set_cons_succ, List.set_cons_zero]
      refine wpAnyH_ready (rs := [8]) (by kernel_rfl) (by simp) ?_
      refine AllReadyH.cons rfl (fun K hK => ?_) AllReadyH.nil
      refine step_st37 rfl (.tmp 4) (.tmp 35) rfl (g + 1) rfl _ _ _ Z1d.out rfl rfl ⟨rfl, rfl⟩ ?_
      intro wz hzz hgz
      refine hK.out _ _ (⟨Two.grown hS.1 hgz (by simp), Two.grown hS.2 hgz (by simp)⟩) (fun hS => ?_)
      clear hK K
      change wpAnyH _ _ _ _ _ _ _ (Act.put _ (none) _) _
      simp only [Act.put]
      refine wpAnyH_take (i := 9) (v := .int .i64 ((L.length : Int) - (m : Int))) rfl (by kernel_rfl) (by kernel_rfl) (by kernel_rfl) (fun _ _ _ h => h) (Or.inl ⟨by kernel_rfl, ?_⟩) hS ?_
      · intro w hw; clear hw; go_simp
      change wpAnyH _ _ _ _ _ _ _ (Act.put _ (some 5) _) _
      simp only [Act.put, List.setIfInBounds_toArray, List.set_cons_succ, List.set_cons_zero]
      refine wpAnyH_done (by kernel_rfl) ?_ _
      clear hS
      go_wp2
      have hgz' : wr.grownBy wz (some (g + 1)) := ⟨hgz.os, hgz.tape, hgz.output, hgz.size, hgz.block⟩
      have BZ : Below w.heap.size w wz := HBr.out.grown hgz' HBr.out.size (fun j hj => by cases hj; have := HG.out; omega)
      have OZ := own_kept5 (w := wr) HO.out (fun bb _ ht => hgz'.block bb ht.lt (fun e => by have e := Option.some.inj e; subst e; exact ht.ne Z1r.out.tag (by decide) rfl))
      have QZ := HQ.out.keep (w' := wz) (fun _ _ h => (show Bq wr B _ _ from h).boxed (w' := wz) ⟨hgz.os, hgz.tape, hgz.output, hgz.size, hgz.block⟩ (by have := HG.out; omega) Z1r.out.tag (by decide))
      have EZ := Es.own (B := B) OZ HM.out QZ
      rw [liveT_all] at EZ
      have hms : m = (sweepP L now).length := by rw [HM.out, liveT_all]
      refine bodyPost_ret (v := .tuple #[.agg #[.int .i64 lim, .slice pp m cc], .int .i64 ((L.length : Int) - (m : Int))]) ?_ rfl ⟨pp, cc, by rw [hms], by rw [← hms]; exact EZ, ?_, BZ⟩
      · exact results_rm Tryz.results43 _ _ (g + 1) rfl _ _ hzz _ rfl
      · intro e
        subst e
        rcases OZ.2 with ⟨e, _⟩ | ⟨_, _, _, e, _⟩
        · exact (Value.slice.inj e).2.2
        · cases e
    · have hlt : k < L.length := by omega
      obtain ⟨x, hx⟩ : ∃ x, L[k]? = some x := ⟨_, List.getElem?_eq_getElem hlt⟩
      obtain ⟨b, off, q, c, rfl, hrange, hbq⟩ := HE0.out.cells hx
      have hst := liveT_step hx now
      have HST := hid2 hst
      have HR0 := hid2 hrange
      have HX0 := hid2 hbq
      have HRr := hid2 (rng_old HBr.out hrange)
      have KLx := hid2 (fun W => Ite.rlive_any x.key x.ver x.asof x.ends now q x.val.length c W)
      rw [show Ite.liveB x.ends now = lv x now from rfl] at KLx
      have hblt := World.block_lt_of_cell? _ _ (hrange 0 _ rfl)
      have hbne : b ≠ g + 2 := by have := HGB.out; have h4 : b < w.heap.size := hblt; omega
      have hI : (0 : Int) ≤ (k : Int) ∧ (k : Int) < (L.length : Int) := by omega
      have htn : ((k : Int)).toNat = k := by omega
      have hm1 : m ≤ 1000 := by omega
      clear hrange hbq hst hx hml hm
      go_wp2_with (refine wpList_load_mid rfl 25 (.tmp 21) rfl b (off + k * 5) rfl _ _ HRr.out Ite.Tryz.und24.choose_spec rfl Ite.Tryz.size24 ?_)
      refine (show Calls _ _ _ _ _ from KLx.out _).mono ?_
      rintro e w5 ⟨rfl, hb5⟩
      have HB5 := hid2 (HBr.out.trans (hb5.mono HBr.out.size))
      have Z05 := hid2 (Z0r.out.stays hb5)
      have Z15 := hid2 (Z1r.out.stays hb5)
      have Z25 := hid2 (Z2r.out.stays hb5)
      have HO5 := hid2 (own_fr (B := B) HO.out (.of hb5))
      have HQ5 := hid2 (HQ.out.stays hb5)
      have HR5 := hid2 (rng_old HB5.out HR0.out)
      have HX5 := hid2 (HX0.out.stays HB5.out)
      have HS5 : Hid (w.heap.size ≤ w5.heap.size) := HB5.out.size
      clear hb5 KLx s0 s1 s2 s3
      obtain ⟨s0, s1, s2, s3⟩ := Z05.out.cells
      obtain ⟨o0, o1, o2, o3⟩ := (show Two w5.drew (g + 2) (.int .i64 lim) (.slice pp m cc) from Z25.out).cells
      cases hlv : lv x now with
      | false =>
        have HLV := hid2 hlv
        clear hlv
        go_wp2
        go_roundg (L.length - (k + 1))
        case measure => rw [HGI.out]; omega
        case rel => exact ⟨k + 1, pp, m, cc, cs, by omega, rfl, rfl, by rw [HST.out, HLV.out, if_neg (by simp), List.append_nil]; exact HM.out, Z25.out, Z05.out, Z15.out, HO5.out, by rw [HST.out, HLV.out, if_neg (by simp), List.append_nil]; exact HQ5.out, HB5.out⟩
      | true =>
        rw [hlv, if_pos rfl] at HST
        clear hlv
        go_wp2_with fail
        refine wp_region_held_drew (S := fun W => Two W g (.int .i64 lim) (.slice (some ⟨b, off, none⟩) L.length cap) ∧ W.rangeAt b (off + k * 5) [.string x.key, .int .i64 x.ver, .int .i64 x.asof, .int .i64 x.ends, .slice q x.val.length c]) (by kernel_rfl) (⟨Z05.out, HR5.out⟩) (fun hS => ?_)
        change wpAnyH _ _ _ _ _ _ _ _ (World.drew _)
        refine wpAnyH_take (i := 0) (v := .pointer (some ⟨g + 2, 1, none⟩)) rfl (by kernel_rfl) (by kernel_rfl) (by kernel_rfl) (fun _ _ _ h => h) (Or.inl ⟨by kernel_rfl, ?_⟩) hS ?_
        · intro w hw; clear hw; go_simp
        change wpAnyH _ _ _ _ _ _ _ (Act.put _ (some 25) _) _
        simp only [Act.put, List.setIfInBounds_toArray, List.set_cons_succ, List.set_cons_zero]
        refine wpAnyH_take (i := 2) (v := .pointer (some ⟨g, 1, none⟩)) rfl (by kernel_rfl) (by kernel_rfl) (by kernel_rfl) (fun _ _ _ h => h) (Or.inl ⟨by kernel_rfl, ?_⟩) hS ?_
        · intro w hw; clear hw; go_simp
        change wpAnyH _ _ _ _ _ _ _ (Act.put _ (some 27) _) _
        simp only [Act.put, List.setIfInBounds_toArray, List.set_cons_succ, List.set_cons_zero]
        refine wpAnyH_take (i := 3) (v := .slice (some ⟨b, off, none⟩) L.length cap) rfl (by kernel_rfl) (by kernel_rfl) (by kernel_rfl) (fun _ _ _ h => h) (Or.inl ⟨by kernel_rfl, ?_⟩) hS ?_
        · intro w hw
          obtain ⟨e0, e1, e2, e3⟩ := hw.1.cells
          go_simp
        change wpAnyH _ _ _ _ _ _ _ (Act.put _ (some 28) _) _
        simp only [Act.put, List.setIfInBounds_toArray, List.set_cons_succ, List.set_cons_zero]
        refine wpAnyH_take (i := 4) (v := .int .i64 (k : Int)) rfl (by kernel_rfl) (by kernel_rfl) (by kernel_rfl) (fun _ _ _ h => h) (Or.inl ⟨by kernel_rfl, ?_⟩) hS ?_
        · intro w hw; clear hw; go_simp
        change wpAnyH _ _ _ _ _ _ _ (Act.put _ (some 29) _) _
        simp only [Act.put, List.setIfInBounds_toArray, List.set_cons_succ, List.set_cons_zero]
        refine wpAnyH_take (i := 5) (v := .pointer (some ⟨b, off + k * 5, none⟩)) rfl (by kernel_rfl) (by kernel_rfl) (by kernel_rfl) (fun _ _ _ h => h) (Or.inl ⟨by kernel_rfl, ?_⟩) hS ?_
        · intro w hw
          clear hw
          go_simp
          try (intro hh; exfalso; omega)
        change wpAnyH _ _ _ _ _ _ _ (Act.put _ (some 30) _) _
        simp only [Act.put, List.setIfInBounds_toArray, List.set_cons_succ, List.set_cons_zero]
        refine wpAnyH_take (i := 6) (v := .agg #[.string x.key, .int .i64 x.ver, .int .i64 x.asof, .int .i64 x.ends, .slice q x.val.length c]) rfl (by kernel_rfl) (by kernel_rfl) (by kernel_rfl) (fun _ _ _ h => h) (yieldsIf_load_mid (by kernel_rfl) 25 (.tmp 30) rfl b (off + k * 5) rfl ([.string x.key, .int .i64 x.ver, .int .i64 x.asof, .int .i64 x.ends, .slice q x.val.length c]) _ (fun W hw => hw.2) Ite.Tryz.und24.choose_spec rfl (Ite.Tryz.size24)) hS ?_
        change wpAnyH _ _ _ _ _ _ _ (Act.put _ (some 31) _) _
        simp only [Act.put, List.setIfInBounds_toArray, List.set_cons_succ, List.set_cons_zero]
        refine wpAnyH_ready (rs := [1, 7]) (by kernel_rfl) (by simp) ?_
        refine AllReadyH.cons rfl (fun K hK => ?_) (AllReadyH.cons rfl (fun K hK => ?_) AllReadyH.nil)
        · go_simp
          go_wp2_with fail
          refine hK.out _ _ hS (fun hS => ?_)
          clear hK K
          refine wpAnyH_ready (rs := [7]) (by kernel_rfl) (by simp) ?_
          refine AllReadyH.cons rfl (fun K hK => ?_) AllReadyH.nil
          go_simp
          go_wp2_with fail
          refine hK.out _ _ ⟨Two.stays hS.1 (Below.alloc (Below.refl _ _) (Nat.le_refl _) _), World.rangeAt_alloc hS.2 _⟩ (fun hS => ?_)
          clear hK K
          refine wpAnyH_ready (rs := [8]) (by kernel_rfl) (by simp) ?_
          refine AllReadyH.cons rfl (fun K hK => ?_) AllReadyH.nil
          refine step_append_e rfl (.tmp 26) (.tmp 32) rfl w.heap.size (.slice pp m cc) m cs rfl (HO5.out.alloc _) w5.heap.size 0 1 1 [.string x.key, .int .i64 x.ver, .int .i64 x.asof, .int .i64 x.ends, .slice q x.val.length c] rfl rfl (fun j u hj => by rw [Nat.zero_add]; have := cell_five_new w5.drew _ _ _ _ _ 25 j u hj; rwa [Ite.add_zero_off] at this) (by intro u hu; simp at hu; rcases hu with rfl | rfl | rfl | rfl | rfl <;> rfl) (by omega) (by have := HS5.out; simp; omega) ?_
          intro v6 w6 hown6 hgrow6
          obtain ⟨p6, c6, rfl⟩ := own_form5 hown6
          have AA := hid2 (sweep_row (B := B) (show Below w5.heap.size w5 (w5.drew.alloc (.cells #[.string x.key, .int .i64 x.ver, .int .i64 x.asof, .int .i64 x.ends, .slice q x.val.length c] 25)) from Below.alloc (drew_below_m w5 1 _) (Nat.le_refl _) _) HO5.out hgrow6 HB5.out HBB.out)
          have hS6 : Two w6 g (.int .i64 lim) (.slice (some ⟨b, off, none⟩) L.length cap) ∧ w6.rangeAt b (off + k * 5) [.string x.key, .int .i64 x.ver, .int .i64 x.asof, .int .i64 x.ends, .slice q x.val.length c] := ⟨AA.out.2.2 _ _ _ Z05.out, rng_old AA.out.1 HR0.out⟩
          have T26 := hid2 (AA.out.2.2 _ _ _ Z25.out)
          have O6 := hid2 hown6
          have Q6 := hid2 ((HQ5.out.keep (AA.out.2.1.bq (by decide))).snoc (AA.out.2.1.bq (by decide) _ _ HX5.out))
          obtain ⟨t0, t1, t2, t3⟩ := T26.out.cells
          refine hK.out _ _ hS6 (fun hS => ?_)
          clear hgrow6 hown6
          clear hK K
          simp only [Act.put, List.setIfInBounds_toArray]
          refine wpAnyH_take (i := 9) (v := .pointer (some ⟨g + 2, 1, none⟩)) rfl (by kernel_rfl) (by kernel_rfl) (by kernel_rfl) (fun _ _ _ h => h) (Or.inl ⟨by kernel_rfl, ?_⟩) hS ?_
          · intro w hw; clear hw; go_simp
          change wpAnyH _ _ _ _ _ _ _ (Act.put _ (some 34) _) _
          simp only [Act.put]
          refine wpAnyH_ready (rs := [10]) (by kernel_rfl) (by simp) ?_
          refine AllReadyH.cons rfl (fun K hK => ?_) AllReadyH.nil
          go_simp
          go_wp2_with fail
          have G7 := Ite.setCell_grownBy w6 (g + 2) 1 (.slice p6 (m + 1) c6)
          refine hK.out _ _ ⟨Two.grown hS.1 G7 (by simp), rng_grown hS.2 G7 hbne⟩ (fun hS => ?_)
          clear hK K
          refine wpAnyH_done (by kernel_rfl) ?_ _
          go_wp2
          have G7 := Ite.setCell_grownBy w6 (g + 2) 1 (.slice p6 (m + 1) c6)
          go_roundg (L.length - (k + 1))
          case measure => rw [HGI.out]; omega
          case rel =>
            refine ⟨k + 1, p6, m + 1, c6, _, by omega, rfl, rfl, by rw [HST.out, List.length_append, ← HM.out]; rfl, T26.out.set1 _, (AA.out.2.2 _ _ _ Z05.out).grown G7 (by simp), (AA.out.2.2 _ _ _ Z15.out).grown G7 (by simp), own_kept5 O6.out (fun bb _ ht => G7.block bb ht.lt (fun e => by have e := Option.some.inj e; subst e; exact ht.ne T26.out.tag (by decide) rfl)), ?_, AA.out.1.grown G7 AA.out.1.size (fun j hj => by cases hj; exact HGB.out)⟩
            rw [HST.out]
            exact Q6.out.keep (fun _ _ h => h.boxed G7 (Nat.le_trans HBB.out HGB.out) T26.out.tag (by decide))
        · go_simp
          go_wp2_with fail
          refine hK.out _ _ ⟨Two.stays hS.1 (Below.alloc (Below.refl _ _) (Nat.le_refl _) _), World.rangeAt_alloc hS.2 _⟩ (fun hS => ?_)
          clear hK K
          have o5 : (w5.alloc (.cells #[.string x.key, .int .i64 x.ver, .int .i64 x.asof, .int .i64 x.ends, .slice q x.val.length c] 25)).cell? ⟨g + 2, 1, none⟩ = some (.slice pp m cc) := by rw [World.cell?_alloc_lt _ _ _ o0]; exact Z25.out.cells.2.2.1
          refine wpAnyH_ready (rs := [1]) (by kernel_rfl) (by simp) ?_
          refine AllReadyH.cons rfl (fun K hK => ?_) AllReadyH.nil
          go_simp
          go_wp2_with fail
          refine hK.out _ _ hS (fun hS => ?_)
          clear hK K
          refine wpAnyH_ready (rs := [8]) (by kernel_rfl) (by simp) ?_
          refine AllReadyH.cons rfl (fun K hK => ?_) AllReadyH.nil
          refine step_append_e rfl (.tmp 26) (.tmp 32) rfl w.heap.size (.slice pp m cc) m cs rfl (HO5.out.alloc _) w5.heap.size 0 1 1 [.string x.key, .int .i64 x.ver, .int .i64 x.asof, .int .i64 x.ends, .slice q x.val.length c] rfl rfl (fun j u hj => by rw [Nat.zero_add]; have := cell_five_new w5.drew _ _ _ _ _ 25 j u hj; rwa [Ite.add_zero_off] at this) (by intro u hu; simp at hu; rcases hu with rfl | rfl | rfl | rfl | rfl <;> rfl) (by omega) (by have := HS5.out; simp; omega) ?_
          intro v6 w6 hown6 hgrow6
          obtain ⟨p6, c6, rfl⟩ := own_form5 hown6
          have AA := hid2 (sweep_row (B := B) (show Below w5.heap.size w5 (w5.drew.alloc (.cells #[.string x.key, .int .i64 x.ver, .int .i64 x.asof, .int .i64 x.ends, .slice q x.val.length c] 25)) from Below.alloc (drew_below_m w5 1 _) (Nat.le_refl _) _) HO5.out hgrow6 HB5.out HBB.out)
          have hS6 : Two w6 g (.int .i64 lim) (.slice (some ⟨b, off, none⟩) L.length cap) ∧ w6.rangeAt b (off + k * 5) [.string x.key, .int .i64 x.ver, .int .i64 x.asof, .int .i64 x.ends, .slice q x.val.length c] := ⟨AA.out.2.2 _ _ _ Z05.out, rng_old AA.out.1 HR0.out⟩
          have T26 := hid2 (AA.out.2.2 _ _ _ Z25.out)
          have O6 := hid2 hown6
          have Q6 := hid2 ((HQ5.out.keep (AA.out.2.1.bq (by decide))).snoc (AA.out.2.1.bq (by decide) _ _ HX5.out))
          obtain ⟨t0, t1, t2, t3⟩ := T26.out.cells
          refine hK.out _ _ hS6 (fun hS => ?_)
          clear hgrow6 hown6
          clear hK K
          simp only [Act.put, List.setIfInBounds_toArray]
          refine wpAnyH_take (i := 9) (v := .pointer (some ⟨g + 2, 1, none⟩)) rfl (by kernel_rfl) (by kernel_rfl) (by kernel_rfl) (fun _ _ _ h => h) (Or.inl ⟨by kernel_rfl, ?_⟩) hS ?_
          · intro w hw; clear hw; go_simp
          change wpAnyH _ _ _ _ _ _ _ (Act.put _ (some 34) _) _
          simp only [Act.put]
          refine wpAnyH_ready (rs := [10]) (by kernel_rfl) (by simp) ?_
          refine AllReadyH.cons rfl (fun K hK => ?_) AllReadyH.nil
          go_simp
          go_wp2_with fail
          have G7 := Ite.setCell_grownBy w6 (g + 2) 1 (.slice p6 (m + 1) c6)
          refine hK.out _ _ ⟨Two.grown hS.1 G7 (by simp), rng_grown hS.2 G7 hbne⟩ (fun hS => ?_)
          clear hK K
          refine wpAnyH_done (by kernel_rfl) ?_ _
          go_wp2
          have G7 := Ite.setCell_grownBy w6 (g + 2) 1 (.slice p6 (m + 1) c6)
          go_roundg (L.length - (k + 1))
          case measure => rw [HGI.out]; omega
          case rel =>
            refine ⟨k + 1, p6, m + 1, c6, _, by omega, rfl, rfl, by rw [HST.out, List.length_append, ← HM.out]; rfl, T26.out.set1 _, (AA.out.2.2 _ _ _ Z05.out).grown G7 (by simp), (AA.out.2.2 _ _ _ Z15.out).grown G7 (by simp), own_kept5 O6.out (fun bb _ ht => G7.block bb ht.lt (fun e => by have e := Option.some.inj e; subst e; exact ht.ne T26.out.tag (by decide) rfl)), ?_, AA.out.1.grown G7 AA.out.1.size (fun j hj => by cases hj; exact HGB.out)⟩
            rw [HST.out]
            exact Q6.out.keep (fun _ _ h => h.boxed G7 (Nat.le_trans HBB.out HGB.out) T26.out.tag (by decide))
end Go.Proofs.YtkgecpplgjfhiaaGreatDoor
