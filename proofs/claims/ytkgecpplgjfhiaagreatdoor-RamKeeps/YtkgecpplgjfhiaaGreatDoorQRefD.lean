/-
  The document's tier: Get.
-/
import Derived.Test.YtkgecpplgjfhiaaGreatDoorQRefC
namespace Go.Proofs.YtkgecpplgjfhiaaGreatDoor
open Go.RowKit
open Ite (Ent zeroE checkE sizeE)
open Lis (Lst but Tag)
theorem two_range {w : World} {b : Nat} {x0 x1 : Value} (h : Two w b x0 x1) : w.rangeAt b 0 [x0, x1] := fun j v hv => by
  unfold Two at h
  simp only [Nat.zero_add, World.cell?, h]
  simpa using hv
/-- Blocks of another type written: bytes and entries stay. -/
theorem Es.boxed {w w' : World} {B k : Nat} {v : Value} {xs : List Ent} {Ty : TypeId} (h : Es w B v xs) (m : w.grownBy w' (some k)) (hk : B ≤ k) (ht : Tag w k Ty) (hT : Ty ≠ 5) (hne : ∀ p n c b off, v = .slice (some ⟨b, off, p⟩) n c → b ≠ k) : Es w' B v xs := by
  obtain ⟨p, cap, rfl, h2, h3, h4⟩ := h
  refine ⟨p, cap, rfl, h2, h3, fun i x hx => ?_⟩
  obtain ⟨b, off, q, c, e1, e2, e3, a0, a1, a2, a3, a4, a5⟩ := h4 i x hx
  subst e1
  have e : w'.heap[b]? = w.heap[b]? := m.block b e2 (fun e => hne _ _ _ _ _ rfl (Option.some.inj e))
  exact ⟨b, off, q, c, rfl, Nat.lt_of_lt_of_le e2 m.size, e3.imp id fun k => k.same e, (cell_eq e _).trans a0, (cell_eq e _).trans a1, (cell_eq e _).trans a2, (cell_eq e _).trans a3, (cell_eq e _).trans a4, a5.boxed m hk ht hT⟩

theorem results_3 {fn : Func} {p1 p2 u : Tmp} {t1 t2 : TypeId} (h : fn.results = #[.cell p1 t1, .cell p2 t2, .tmp u]) (tmps : Array Value) (P : Program) (w : World) :
    (results fn tmps).run P w = ((asAddr (tmps.getD p1 undef)).run P w).andThen fun a w₁ => ((loadVar t1 a).run P w₁).andThen fun v w₂ => ((asAddr (tmps.getD p2 undef)).run P w₂).andThen fun a' w₃ => ((loadVar t2 a').run P w₃).andThen fun v' w₄ => .ok (.tuple #[v, v', tmps.getD u undef]) w₄ := by
  simp only [results, h]
  simp [Sem.run_bind, Result.andThen]
theorem results_get {fn : Func} {p1 p2 u : Tmp} (h : fn.results = #[.cell p1 37, .cell p2 25, .tmp u]) (tmps : Array Value) (w : World) (b1 b2 : Nat) (h1 : tmps.getD p1 undef = .pointer (some ⟨b1, 0, none⟩)) (h2 : tmps.getD p2 undef = .pointer (some ⟨b2, 0, none⟩)) (y0 y1 x0 x1 x2 x3 x4 : Value) (t : TypeId) (fr : Nat × Nat)
    (hc1 : Two w b1 y0 y1) (hc2 : w.heap[b2]? = some (.cells #[x0, x1, x2, x3, x4] t fr)) (y : Value) (hy : tmps.getD u undef = y) : (results fn tmps).run Tryz.prog w = .ok (.tuple #[.agg #[y0, y1], .agg #[x0, x1, x2, x3, x4], y]) w := by
  rw [results_3 h, h1, h2, hy]
  simp only [asAddr, Sem.run_pure, Result.andThen_ok, load37 w b1 y0 y1 _ _ hc1, Ite.load24 w b2 x0 x1 x2 x3 x4 t fr hc2]
set_option maxHeartbeats 2000000 in
set_option maxRecDepth 8000 in
theorem rget_t {w : World} {B : Nat} {lim : Int} {p : Option Addr} {cap : Nat} {L : List Ent} (h : Es w B (.slice p L.length cap) L) (hz : p = none → cap = 0) (hl : L.length ≤ 1000) (hBw : B ≤ w.heap.size) (k : ByteArray) (now : Int) :
    Calls Tryz.prog 40 #[.agg #[.int .i64 lim, .slice p L.length cap], .string k, .int .i64 now] w fun e w' => ∃ p' cap' q c, e = .returned (.tuple #[.agg #[.int .i64 lim, .slice p' ((getP L k now).1).length cap'], .agg #[.string ((getP L k now).2.1).key, .int .i64 ((getP L k now).2.1).ver, .int .i64 ((getP L k now).2.1).asof, .int .i64 ((getP L k now).2.1).ends, .slice q ((getP L k now).2.1).val.length c], .bool (getP L k now).2.2]) ∧ Es w' B (.slice p' ((getP L k now).1).length cap') ((getP L k now).1) ∧ (p' = none → cap' = 0) ∧ Bq w' B (.slice q ((getP L k now).2.1).val.length c) ((getP L k now).2.1).val ∧ Below w.heap.size w w' := by
  have hcap : L.length ≤ cap ∧ cap ≤ maxLen := by obtain ⟨_, _, e, h1, h2, _⟩ := h; cases e; exact ⟨h1, h2⟩
  obtain ⟨hc1, hc2⟩ := hcap
  unfold maxLen at hc2
  obtain ⟨g, hg⟩ : ∃ g, g = w.heap.size := ⟨_, rfl⟩
  obtain ⟨wa, hwa⟩ : ∃ wa, wa = w.alloc (.cells #[.int .i64 lim, .slice p L.length cap] 37) := ⟨_, rfl⟩
  obtain ⟨wb, hwb⟩ : ∃ wb, wb = wa.alloc (.cells #[.int .i64 0, .slice none 0 0] 37) := ⟨_, rfl⟩
  obtain ⟨wc, hwc⟩ : ∃ wc, wc = wb.alloc (.cells #[.string ⟨#[]⟩, .int .i64 0, .int .i64 0, .int .i64 0, .slice none 0 0] 25) := ⟨_, rfl⟩
  have sa : wa.heap.size = g + 1 := by rw [hwa, hg]; simp
  have sb : wb.heap.size = g + 2 := by rw [hwb]; simp [sa]
  have A1 : Below w.heap.size w wa := by rw [hwa]; go_grown
  have A2 : Below wa.heap.size wa wb := by rw [hwb]; go_grown
  have A3 : Below wb.heap.size wb wc := by rw [hwc]; go_grown
  have Za : Two wa g (.int .i64 lim) (.slice p L.length cap) := by rw [hwa, hg]; exact heap_alloc_new w _
  have Zb : Two wb (g + 1) (.int .i64 0) (.slice none 0 0) := by rw [hwb, ← sa]; exact heap_alloc_new wa _
  have Zc : wc.heap[g + 2]? = some (.cells #[.string ⟨#[]⟩, .int .i64 0, .int .i64 0, .int .i64 0, .slice none 0 0] 25 (0, 0)) := by rw [hwc, ← sb]; exact heap_alloc_new wb _
  have Bc := (A1.trans (A2.mono A1.size)).trans (A3.mono (Nat.le_trans A1.size A2.size))
  have Z0 := hid2 ((Za.stays A2).stays A3)
  have Z1 := hid2 (Zb.stays A3)
  have Z2' := hid2 Zc
  have HBc := hid2 Bc
  have HE := hid2 (h.stays Bc)
  have HE0 := hid2 h
  have HG := hid2 hg
  have HWA := hid2 hwa
  have HWB := hid2 hwb
  have HWC := hid2 hwc
  have HZ := hid2 hz
  have KF := hid2 (find_any HE.out k (by omega))
  have KB := hid2 (fun W (i : Nat) (q : Es W B (.slice p L.length cap) L) (hi : i < L.length) => rbut_t (lim := lim) q hi hl)
  have KL := hid2 (fun (x : Ent) q c W => Ite.rlive_any x.key x.ver x.asof x.ends now q x.val.length c W)
  obtain ⟨a0, a1, a2, a3⟩ := (Za.stays A2).stays A3 |>.cells
  unfold getP
  cases hi : idx L k with
  | none =>
    have hfe : findE L k = -1 := by unfold findE; rw [hi]
    rw [hfe] at KF
    dsimp only
    clear h hz A1 A2 A3 Za Zb Zc Bc hwa hwb hwc hg hi hfe
    go_enter Tryz.func40, Tryz.ntmps40
    go_wp2_with fail
    rw [← HWA.out, ← HWB.out, ← HWC.out, ← HG.out]
    refine (show Calls _ _ _ _ _ from KF.out).mono ?_
    rintro e w1 ⟨rfl, hw⟩
    subst hw
    go_wp2_with (first
      | (refine st37 rfl (.tmp 6) (.tmp 17) rfl (g + 1) rfl _ _ _ Z1.out rfl rfl ⟨rfl, rfl⟩ ?_; intro w2 hz2 hg2)
      | (refine Ite.st24 rfl (.tmp 7) (.tmp 18) rfl (g + 2) rfl _ _ _ _ _ _ (Ite.heap_grownBy Z2'.out hg2 (by omega)) rfl rfl ⟨rfl, rfl, rfl, rfl, rfl⟩ ?_; intro w3 hw3 hg3))
    have h3 := Two.grown hz2 hg3 (by simp)
    have B2 : Below w.heap.size w w2 := HBc.out.grown hg2 HBc.out.size (fun j hj => by cases hj; have := HG.out; omega)
    have B3 : Below w.heap.size w w3 := B2.grown hg3 B2.size (fun j hj => by cases hj; have := HG.out; omega)
    refine bodyPost_ret (v := .tuple #[.agg #[.int .i64 lim, .slice p L.length cap], .agg #[.string ⟨#[]⟩, .int .i64 0, .int .i64 0, .int .i64 0, .slice none 0 0], .bool false]) ?_ rfl ⟨p, cap, none, 0, rfl, HE0.out.stays B3, HZ.out, Bq.nil _ _, B3⟩
    exact results_get Tryz.results40 _ _ (g + 1) (g + 2) rfl rfl _ _ _ _ _ _ _ 25 (0, 0) h3 hw3 _ rfl
  | some i =>
    have hfe : findE L k = (i : Int) := by unfold findE; rw [hi]
    rw [hfe] at KF
    dsimp only
    have hil := idx_lt hi
    obtain ⟨x, hx⟩ : ∃ x, L[i]? = some x := ⟨_, List.getElem?_eq_getElem hil⟩
    rw [atE_some hx]
    obtain ⟨b, off, q, c, rfl, hrange, hbq⟩ := HE.out.cells hx
    have HR := hid2 hrange
    have HX := hid2 hbq
    have KLx := hid2 (fun W => KL.out x q c W)
    have hbl : (butE L i).length ≤ 1000 := by unfold butE; rw [List.length_append, List.length_take, List.length_drop]; omega
    have hI : (0 : Int) ≤ (i : Int) ∧ (i : Int) < (L.length : Int) := by omega
    have htn : ((i : Int)).toNat = i := by omega
    have hni : ¬ (i : Int) < 0 := by omega
    rw [show Ite.liveB x.ends now = lv x now from rfl] at KLx
    clear h hz A1 A2 A3 Za Zb Zc Bc hwa hwb hwc hg hi hfe hx hrange hbq KL
    cases hlv : lv x now with
    | false =>
      rw [hlv] at KLx
      rw [if_neg (by simp)]
      clear hlv
      go_enter Tryz.func40, Tryz.ntmps40
      go_wp2_with fail
      rw [← HWA.out, ← HWB.out, ← HWC.out, ← HG.out]
      refine (show Calls _ _ _ _ _ from KF.out).mono ?_
      rintro e w1 ⟨rfl, hw⟩
      subst hw
      have Y0 := hid2 (heap_alloc_new w1 (.cells #[.string ⟨#[]⟩, .int .i64 0, .int .i64 0, .int .i64 0, .slice none 0 0] 25))
      have B0 : Hid (Below w1.heap.size w1 (w1.alloc (.cells #[.string ⟨#[]⟩, .int .i64 0, .int .i64 0, .int .i64 0, .slice none 0 0] 25))) := by show Below _ _ _; go_grown
      go_wp2_with (first
        | (refine wpList_load_mid rfl 25 (.tmp 22) rfl b (off + i * 5) rfl _ _ HR.out Ite.Tryz.und24.choose_spec rfl Ite.Tryz.size24 ?_)
        | (refine Ite.st24 rfl (.tmp 10) (.tmp 23) rfl w1.heap.size rfl _ _ _ _ _ _ Y0.out rfl rfl ⟨rfl, rfl, rfl, rfl, rfl⟩ ?_; intro w2 hw2 hg2; have B2 := hid2 (B0.out.grown hg2 B0.out.size (fun j hj => by (cases hj; exact Nat.le_refl _))); have Y2 := hid2 hw2; obtain ⟨⟨q0, q1, q2, q3, q4⟩, qf⟩ := Ite.five24 hw2; have hlt2 := lt_of_block hw2; clear hw2 hg2))
      refine (show Calls _ _ _ _ _ from KLx.out _).mono ?_
      rintro e w3 ⟨rfl, hb3⟩
      have B3 := hid2 (B2.out.trans (hb3.mono B2.out.size))
      have Y3 := hid2 (heap_stays Y2.out hb3)
      have Z03 := hid2 (Z0.out.stays B3.out)
      have Z13 := hid2 (Z1.out.stays B3.out)
      have Z23 := hid2 (heap_stays Z2'.out B3.out)
      have HE3 := hid2 (HE.out.stays B3.out)
      have HX3 := hid2 (HX.out.stays B3.out)
      have HBB := hid2 (HBc.out.trans (B3.out.mono HBc.out.size))
      have KB3 := hid2 (KB.out w3 i HE3.out hil)
      have hg3 : g + 2 < w1.heap.size := lt_of_block Z2'.out
      have HS3 : Hid (w1.heap.size ≤ w3.heap.size) := B3.out.size
      obtain ⟨b0, b1, b2, b3⟩ := Z03.out.cells
      clear hb3 KLx KF q0 q1 q2 q3 q4 qf hlt2 a0 a1 a2 a3 Y0 B0
      go_wp2_with fail
      refine (show Calls _ _ _ _ _ from KB3.out).mono ?_
      rintro e w4 ⟨p4, c4, rfl, he4, hz4, hn4, hb4⟩
      have HE4 := hid2 he4
      have HZ4 := hid2 hz4
      have HN4 := hid2 hn4
      have B4 := hid2 (HBB.out.trans (hb4.mono HBB.out.size))
      have Z14 := hid2 (Z13.out.stays hb4)
      have Z24 := hid2 (heap_stays Z23.out hb4)
      clear he4 hz4 hn4 hb4 KB3 b0 b1 b2 b3
      go_wp2_with (first
        | (refine st37 rfl (.tmp 6) (.tmp 30) rfl (g + 1) rfl _ _ _ Z14.out rfl rfl ⟨rfl, rfl⟩ ?_; intro w5 hz5 hg5)
        | (refine Ite.st24 rfl (.tmp 7) (.tmp 31) rfl (g + 2) rfl _ _ _ _ _ _ (Ite.heap_grownBy Z24.out hg5 (by omega)) rfl rfl ⟨rfl, rfl, rfl, rfl, rfl⟩ ?_; intro w6 hw6 hg6))
      have h3 := Two.grown hz5 hg6 (by simp)
      have B5 : Below w.heap.size w w5 := B4.out.grown hg5 B4.out.size (fun j hj => by cases hj; have := HG.out; omega)
      have B6 : Below w.heap.size w w6 := B5.grown hg6 B5.size (fun j hj => by cases hj; have := HG.out; omega)
      refine bodyPost_ret (v := .tuple #[.agg #[.int .i64 lim, .slice p4 (butE L i).length c4], .agg #[.string ⟨#[]⟩, .int .i64 0, .int .i64 0, .int .i64 0, .slice none 0 0], .bool false]) ?_ rfl ⟨p4, c4, none, 0, rfl, ?_, HZ4.out, Bq.nil _ _, B6⟩
      · exact results_get Tryz.results40 _ _ (g + 1) (g + 2) rfl rfl _ _ _ _ _ _ _ 25 (0, 0) h3 hw6 _ rfl
      · have n4 : ∀ pp n c b off, Value.slice p4 (butE L i).length c4 = .slice (some ⟨b, off, pp⟩) n c → g + 2 < b := fun pp n c b off e => by
          have := HN4.out _ (Value.slice.inj e).1
          have := HS3.out
          simp at *; omega
        exact (HE4.out.boxed hg5 (by have := HG.out; omega) Z14.out.tag (by decide) (fun _ _ _ _ _ e => by have := n4 _ _ _ _ _ e; omega)).boxed hg6 (by have := HG.out; omega) ⟨_, _, Ite.heap_grownBy Z24.out hg5 (by omega)⟩ (by decide) (fun _ _ _ _ _ e => by have := n4 _ _ _ _ _ e; omega)
    | true =>
      rw [hlv] at KLx
      rw [if_pos rfl]
      clear hlv
      go_enter Tryz.func40, Tryz.ntmps40
      go_wp2_with fail
      rw [← HWA.out, ← HWB.out, ← HWC.out, ← HG.out]
      refine (show Calls _ _ _ _ _ from KF.out).mono ?_
      rintro e w1 ⟨rfl, hw⟩
      subst hw
      have Y0 := hid2 (heap_alloc_new w1 (.cells #[.string ⟨#[]⟩, .int .i64 0, .int .i64 0, .int .i64 0, .slice none 0 0] 25))
      have B0 : Hid (Below w1.heap.size w1 (w1.alloc (.cells #[.string ⟨#[]⟩, .int .i64 0, .int .i64 0, .int .i64 0, .slice none 0 0] 25))) := by show Below _ _ _; go_grown
      go_wp2_with (first
        | (refine wpList_load_mid rfl 25 (.tmp 22) rfl b (off + i * 5) rfl _ _ HR.out Ite.Tryz.und24.choose_spec rfl Ite.Tryz.size24 ?_)
        | (refine Ite.st24 rfl (.tmp 10) (.tmp 23) rfl w1.heap.size rfl _ _ _ _ _ _ Y0.out rfl rfl ⟨rfl, rfl, rfl, rfl, rfl⟩ ?_; intro w2 hw2 hg2; have B2 := hid2 (B0.out.grown hg2 B0.out.size (fun j hj => by (cases hj; exact Nat.le_refl _))); have Y2 := hid2 hw2; obtain ⟨⟨q0, q1, q2, q3, q4⟩, qf⟩ := Ite.five24 hw2; have hlt2 := lt_of_block hw2; clear hw2 hg2))
      refine (show Calls _ _ _ _ _ from KLx.out _).mono ?_
      rintro e w3 ⟨rfl, hb3⟩
      have B3 := hid2 (B2.out.trans (hb3.mono B2.out.size))
      have Y3 := hid2 (heap_stays Y2.out hb3)
      have Z03 := hid2 (Z0.out.stays B3.out)
      have Z13 := hid2 (Z1.out.stays B3.out)
      have Z23 := hid2 (heap_stays Z2'.out B3.out)
      have HE3 := hid2 (HE.out.stays B3.out)
      have HX3 := hid2 (HX.out.stays B3.out)
      have HBB := hid2 (HBc.out.trans (B3.out.mono HBc.out.size))
      have KB3 := hid2 (KB.out w3 i HE3.out hil)
      have hg3 : g + 2 < w1.heap.size := lt_of_block Z2'.out
      have HS3 : Hid (w1.heap.size ≤ w3.heap.size) := B3.out.size
      obtain ⟨b0, b1, b2, b3⟩ := Z03.out.cells
      clear hb3 KLx KF q0 q1 q2 q3 q4 qf hlt2 a0 a1 a2 a3 Y0 B0
      go_wp2_with fail
      refine wp_region_held_drew (S := fun W => Two W g (.int .i64 lim) (.slice (some ⟨b, off, none⟩) L.length cap) ∧ W.heap[w1.heap.size]? = some (.cells #[.string x.key, .int .i64 x.ver, .int .i64 x.asof, .int .i64 x.ends, .slice q x.val.length c] 25 (0, 0))) (by kernel_rfl) (⟨Z03.out, Y3.out⟩) (fun hS => ?_)
      change wpAnyH _ _ _ _ _ _ _ _ (World.drew _)
      refine wpAnyH_take (i := 0) (v := .agg #[.int .i64 lim, .slice (some ⟨b, off, none⟩) L.length cap]) rfl (by kernel_rfl) (by kernel_rfl) (by kernel_rfl) (fun _ _ _ h => h) (yieldsIf_load_mid (by kernel_rfl) 37 (.tmp 3) rfl g 0 rfl ([.int .i64 lim, .slice (some ⟨b, off, none⟩) L.length cap]) _ (fun W hw => two_range hw.1) und_rm.choose_spec rfl (size_rm)) hS ?_
      change wpAnyH _ _ _ _ _ _ _ (Act.put _ (some 32) _) _
      simp only [Act.put, List.setIfInBounds_toArray, List.set_cons_succ, List.set_cons_zero]
      refine wpAnyH_take (i := 1) (v := .int .i64 (i : Int)) rfl (by kernel_rfl) (by kernel_rfl) (by kernel_rfl) (fun _ _ _ h => h) (Or.inl ⟨by kernel_rfl, ?_⟩) hS ?_
      · intro w hw; clear hw; go_simp
      change wpAnyH _ _ _ _ _ _ _ (Act.put _ (some 33) _) _
      simp only [Act.put, List.setIfInBounds_toArray, List.set_cons_succ, List.set_cons_zero]
      refine wpAnyH_take (i := 3) (v := .agg #[.string x.key, .int .i64 x.ver, .int .i64 x.asof, .int .i64 x.ends, .slice q x.val.length c]) rfl (by kernel_rfl) (by kernel_rfl) (by kernel_rfl) (fun _ _ _ h => h) (yieldsIf_load_mid (by kernel_rfl) 25 (.tmp 10) rfl w1.heap.size 0 rfl ([.string x.key, .int .i64 x.ver, .int .i64 x.asof, .int .i64 x.ends, .slice q x.val.length c]) _ (fun W hw => box_range hw.2) Ite.Tryz.und24.choose_spec rfl (Ite.Tryz.size24)) hS ?_
      change wpAnyH _ _ _ _ _ _ _ (Act.put _ (some 35) _) _
      simp only [Act.put, List.setIfInBounds_toArray, List.set_cons_succ, List.set_cons_zero]
      refine wpAnyH_take (i := 5) (v := .agg #[.string x.key, .int .i64 x.ver, .int .i64 x.asof, .int .i64 x.ends, .slice q x.val.length c]) rfl (by kernel_rfl) (by kernel_rfl) (by kernel_rfl) (fun _ _ _ h => h) (yieldsIf_load_mid (by kernel_rfl) 25 (.tmp 10) rfl w1.heap.size 0 rfl ([.string x.key, .int .i64 x.ver, .int .i64 x.asof, .int .i64 x.ends, .slice q x.val.length c]) _ (fun W hw => box_range hw.2) Ite.Tryz.und24.choose_spec rfl (Ite.Tryz.size24)) hS ?_
      change wpAnyH _ _ _ _ _ _ _ (Act.put _ (some 37) _) _
      simp only [Act.put, List.setIfInBounds_toArray, List.set_cons_succ, List.set_cons_zero]
      refine wpAnyH_ready (rs := [2]) (by kernel_rfl) (by simp) ?_
      refine AllReadyH.cons rfl (fun K hK => ?_) AllReadyH.nil
      go_simp
      go_wp2_with fail
      refine (rbut_t (lim := lim) (w := w3.drew) (HE3.out.stays (drew_below_m w3 1 _)) hil hl).mono ?_
      rintro e w4 ⟨p4, c4, rfl, he4, hz4, hn4, hb4⟩
      have HB4 := hid2 ((drew_below_m w3 1 w3.heap.size).trans (hb4.mono (Nat.le_refl _)))
      have HX4 := hid2 (HX3.out.stays HB4.out)
      refine hK.out _ _ (⟨Two.stays hS.1 hb4, heap_stays hS.2 hb4⟩) (fun hS => ?_)
      clear hK K
      skip
      refine wpAnyH_ready (rs := [4]) (by kernel_rfl) (by simp) ?_
      refine AllReadyH.cons rfl (fun K hK => ?_) AllReadyH.nil
      go_simp
      go_wp2_with fail
      refine (rahead_t (lim := lim) he4 hz4 hbl x HX4.out).mono ?_
      rintro e w5 ⟨p5, c5, rfl, he5, hz5, hn5, hb5⟩
      have HE5 := hid2 he5
      have HZ5 := hid2 hz5
      have HX5 := hid2 (HX4.out.stays hb5)
      have HB5 := hid2 (HB4.out.trans (hb5.mono HB4.out.size))
      have HN5 := hid2 (fun a e => Nat.le_trans (Nat.le_trans HS3.out HB4.out.size) (hn5 a e))
      have Z15 := hid2 (Z13.out.stays HB5.out)
      have Z25 := hid2 (heap_stays Z23.out HB5.out)
      refine hK.out _ _ (⟨Two.stays hS.1 hb5, heap_stays hS.2 hb5⟩) (fun hS => ?_)
      clear hK K
      skip
      clear he4 hz4 hn4 hb4 he5 hz5 hn5 hb5
      refine wpAnyH_ready (rs := [6]) (by kernel_rfl) (by simp) ?_
      refine AllReadyH.cons rfl (fun K hK => ?_) AllReadyH.nil
      refine step_st37 rfl (.tmp 6) (.tmp 36) rfl (g + 1) rfl _ _ _ Z15.out rfl rfl ⟨rfl, rfl⟩ ?_
      intro w6 hz6 hg6
      have Z16 := hid2 hz6
      have HG6 := hid2 hg6
      have Z26 := hid2 (Ite.heap_grownBy Z25.out hg6 (by omega))
      clear hz6 hg6
      refine hK.out _ _ (⟨Two.grown hS.1 HG6.out (by simp), Ite.heap_grownBy hS.2 HG6.out (by omega)⟩) (fun hS => ?_)
      clear hK K
      change wpAnyH _ _ _ _ _ _ _ (Act.put _ (none) _) _
      simp only [Act.put]
      refine wpAnyH_ready (rs := [7]) (by kernel_rfl) (by simp) ?_
      refine AllReadyH.cons rfl (fun K hK => ?_) AllReadyH.nil
      refine Ite.step_st24 rfl (.tmp 7) (.tmp 37) rfl (g + 2) rfl _ _ _ _ _ _ Z26.out rfl rfl ⟨rfl, rfl, rfl, rfl, rfl⟩ ?_
      intro w7 hw7 hg7
      have Z27 := hid2 hw7
      have HG7 := hid2 hg7
      clear hw7 hg7
      refine hK.out _ _ (⟨Two.grown hS.1 HG7.out (by simp), Ite.heap_grownBy hS.2 HG7.out (by omega)⟩) (fun hS => ?_)
      clear hK K
      change wpAnyH _ _ _ _ _ _ _ (Act.put _ (none) _) _
      simp only [Act.put]
      refine wpAnyH_take (i := 8) (v := .bool true) rfl (by kernel_rfl) (by kernel_rfl) (by kernel_rfl) (fun _ _ _ h => h) (Or.inl ⟨by kernel_rfl, ?_⟩) hS ?_
      · intro w hw; clear hw; go_simp
      change wpAnyH _ _ _ _ _ _ _ (Act.put _ (some 8) _) _
      simp only [Act.put, List.setIfInBounds_toArray, List.set_cons_succ, List.set_cons_zero]
      refine wpAnyH_done (by kernel_rfl) ?_ _
      clear hS
      go_wp2
      have h3 := Two.grown Z16.out HG7.out (by simp)
      have B5 := HBB.out.trans (HB5.out.mono HBB.out.size)
      have B6 : Below w.heap.size w w6 := B5.grown HG6.out B5.size (fun j hj => by cases hj; have := HG.out; omega)
      have B7 : Below w.heap.size w w7 := B6.grown HG7.out B6.size (fun j hj => by cases hj; have := HG.out; omega)
      have n5 : ∀ pp n c b off, Value.slice p5 (x :: butE L i).length c5 = .slice (some ⟨b, off, pp⟩) n c → g + 2 < b := fun pp n c b off e => by
        have h5 := HN5.out _ (Value.slice.inj e).1
        exact Nat.lt_of_lt_of_le hg3 h5
      refine bodyPost_ret (v := .tuple #[.agg #[.int .i64 lim, .slice p5 (x :: butE L i).length c5], .agg #[.string x.key, .int .i64 x.ver, .int .i64 x.asof, .int .i64 x.ends, .slice q x.val.length c], .bool true]) ?_ rfl ⟨p5, c5, q, c, rfl, ?_, HZ5.out, (HX5.out.boxed HG6.out (by have := HG.out; omega) Z15.out.tag (by decide)).boxed HG7.out (by have := HG.out; omega) ⟨_, _, Z26.out⟩ (by decide), B7⟩
      · exact results_get Tryz.results40 _ _ (g + 1) (g + 2) rfl rfl _ _ _ _ _ _ _ 25 (0, 0) h3 Z27.out _ rfl
      · exact (HE5.out.boxed HG6.out (by have := HG.out; omega) Z15.out.tag (by decide) (fun _ _ _ _ _ e => by have := n5 _ _ _ _ _ e; omega)).boxed HG7.out (by have := HG.out; omega) ⟨_, _, Z26.out⟩ (by decide) (fun _ _ _ _ _ e => by have := n5 _ _ _ _ _ e; omega)
end Go.Proofs.YtkgecpplgjfhiaaGreatDoor
