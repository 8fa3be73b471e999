/-
  A page behind a change.
-/
import Derived.Test.YtkbfihnoohhojaaGreatDoorQFBld
import Derived.Deep.RegionLaw
import Derived.Laws.ResultCell
namespace Go.Proofs.YtkbfihnoohhojaaGreatDoor.Fla
open Go.RowKit

theorem results_cell {fn : Func} {p : Tmp} {ty : TypeId} (h : fn.results = #[.cell p ty]) (tmps : Array Value) (P : Program) (w : World) :
    (results fn tmps).run P w = ((asAddr (tmps.getD p undef)).run P w).andThen fun a w₁ => (loadVar ty a).run P w₁ := by
  simp only [results, h]
  simp [Sem.run_bind, Result.andThen]
theorem resultsB79 {fn : Func} {p : Tmp} (h : fn.results = #[.cell p 99]) (tmps : Array Value) (w : World) (b : Nat) (ht : tmps.getD p undef = .pointer (some ⟨b, 0, none⟩)) (l : List Nat) (hl : l.length = 256) (t : TypeId) (fr : Nat × Nat)
    (hc : w.heap[b]? = some (.cells (pgV l) t fr)) : (results fn tmps).run Tryz.prog w = .ok (.agg (pgV l)) w := by
  rw [results_cell h, ht]
  simp only [asAddr, Sem.run_pure, Result.andThen_ok]
  exact resB79 b l hl t fr hc

theorem heap3 (w : World) (a b c : Obj) : (((w.alloc a).alloc b).alloc c).heap[w.heap.size]? = some a ∧ (((w.alloc a).alloc b).alloc c).heap[w.heap.size + 1]? = some b ∧ (((w.alloc a).alloc b).alloc c).heap[w.heap.size + 1 + 1]? = some c := by
  have e : (((w.alloc a).alloc b).alloc c).heap = ((w.heap.push a).push b).push c := rfl
  rw [e]
  simp only [Array.getElem?_push, Array.size_push]
  exact ⟨by rw [if_neg (by omega), if_neg (by omega), if_pos trivial], by rw [if_neg (by omega), if_pos trivial], by rw [if_pos trivial]⟩

set_option maxHeartbeats 1000000 in
set_option maxRecDepth 10000 in
theorem over_trim (c : Chg) (p : List Nat) (n : Int) (w : World) (ht : c.trim = true) (hn : 256 ≤ n) :
    Calls Tryz.prog 71 #[.agg (chgV c), .agg (pgV p), .int .i64 n] w fun e w' => e = .returned (.agg (pgV zeros)) ∧ Below w.heap.size w w' := by
  have hz := Tryz.zero99
  have k1 := chgV_1 c
  rw [ht] at k1
  go_enter Tryz.func71, Tryz.ntmps71
  go_wp2_with (first | (refine bd79 rfl rfl ?_) | (refine st79 ((w.alloc (.cells (chgV c) 101)).alloc (.cells (pgV p) 99)) rfl (.tmp 6) (.tmp 11) rfl _ rfl (by simp) zeros zeros rfl rfl zeros_length zeros_length ?_))
  refine bodyPost_ret (v := .agg (pgV zeros)) ?_ rfl ⟨rfl, ?_⟩
  · exact resultsB79 Tryz.results71 _ _ (w.heap.size + 1 + 1) rfl zeros zeros_length 99 (0, 0) (heap3 _ _ _ _).2.2
  · go_grown
set_option maxHeartbeats 1000000 in
set_option maxRecDepth 10000 in
theorem over_not (c : Chg) (p : List Nat) (n : Int) (w : World) (hp : p.length = 256) (ht : c.trim = true) (hn : n < 256) :
    Calls Tryz.prog 71 #[.agg (chgV c), .agg (pgV p), .int .i64 n] w fun e w' => e = .returned (.agg (pgV p)) ∧ Below w.heap.size w w' := by
  have hz := Tryz.zero99
  have k1 := chgV_1 c
  rw [ht] at k1
  have hd : decide (256 ≤ n) = false := by simpa using hn
  go_enter Tryz.func71, Tryz.ntmps71
  go_wp2_with (first | (refine ldB79 rfl (.tmp 4) rfl (w.heap.size + 1) rfl p hp 99 (0, 0) (heap3 _ _ _ _).2.1 ?_) | (refine st79 ((w.alloc (.cells (chgV c) 101)).alloc (.cells (pgV p) 99)) rfl (.tmp 6) (.tmp 12) rfl _ rfl (by simp) p zeros rfl rfl zeros_length hp ?_))
  refine bodyPost_ret (v := .agg (pgV p)) ?_ rfl ⟨rfl, ?_⟩
  · exact resultsB79 Tryz.results71 _ _ (w.heap.size + 1 + 1) rfl p hp 99 (0, 0) (heap3 _ _ _ _).2.2
  · go_grown
theorem chg_src (c : Chg) (w : World) (a b : Obj) (n : Nat) : ∀ j v, (U (c.p.take n))[j]? = some v → (((w.alloc (.cells (chgV c) 101)).alloc a).alloc b).drew.cell? ((⟨w.heap.size, 2, none⟩ : Addr).add j) = some v := by
  intro j v hv
  have h := (heap3 w (.cells (chgV c) 101) a b).1
  rw [Addr.add_mid]
  have hj : (U c.p)[j]? = some v := by
    rw [← U_take, List.getElem?_take] at hv
    split at hv
    · exact hv
    · cases hv
  simp only [World.cell?, World.drew] at h ⊢
  rw [h]
  simp [chgV, chgL]
  rw [Nat.add_comm]
  simpa using hj
theorem splice_take (a b : List Nat) (n : Nat) (ha : a.length = 256) (hn : n ≤ 256) : splice (U b) 0 (U (a.take n)) = U (a.take n ++ b.drop n) := by
  simp [splice, U_append, U_length, U_drop]
  rw [Nat.min_eq_left (by omega)]
set_option maxHeartbeats 1000000 in
set_option maxRecDepth 10000 in
theorem over_mid (c : Chg) (p : List Nat) (n : Nat) (hn : n ≤ 256) (w : World) (hc : c.p.length = 256) (hp : p.length = 256) (ht : c.trim = false) :
    Calls Tryz.prog 71 #[.agg (chgV c), .agg (pgV p), .int .i64 (n : Int)] w fun e w' => e = .returned (.agg (pgV (c.p.take n ++ p.drop n))) ∧ Below w.heap.size w w' := by
  have hz := Tryz.zero99
  have k1 := chgV_1 c
  rw [ht] at k1
  have hl := fun a w => sl79 a n hn w
  have hsrc := chg_src c w (.cells (pgV p) 99) (.cells (pgV zeros) 99) n
  have hH : Hid ((((w.alloc (Obj.cells (chgV c) 101)).alloc (Obj.cells (pgV p) 99)).alloc (Obj.cells (pgV zeros) 99)).drew.heap[w.heap.size + 1]? = some (.cells (U p).toArray 99 (0, 0))) := (heap3 w (.cells (chgV c) 101) (.cells (pgV p) 99) (.cells (pgV zeros) 99)).2.1
  have hR : Hid ((((w.alloc (Obj.cells (chgV c) 101)).alloc (Obj.cells (pgV p) 99)).alloc (Obj.cells (pgV zeros) 99)).drew.heap[w.heap.size + 1 + 1]? = some (.cells (pgV zeros) 99 (0, 0))) := (heap3 w (.cells (chgV c) 101) (.cells (pgV p) 99) (.cells (pgV zeros) 99)).2.2
  have HS : Hid (∀ j v, (U (c.p.take n))[j]? = some v → (((w.alloc (.cells (chgV c) 101)).alloc (.cells (pgV p) 99)).alloc (.cells (pgV zeros) 99)).drew.cell? ((⟨w.heap.size, 2, none⟩ : Addr).add j) = some v) := hsrc
  have HB : Hid (Below w.heap.size w (((w.alloc (Obj.cells (chgV c) 101)).alloc (Obj.cells (pgV p) 99)).alloc (Obj.cells (pgV zeros) 99)).drew) := by show Below _ _ _; go_grown
  have hlen : (U (c.p.take n)).length = n := by rw [U_length, List.length_take]; omega
  have hml : (c.p.take n ++ p.drop n).length = 256 := by simp; omega
  have hsp := splice_take c.p p n hc hn
  have L1 : Hid ((U (c.p.take n)).length = Nat.min n n) := by show _ = _; rw [hlen]; exact (Nat.min_self _).symm
  have L2 : Hid (0 + (U (c.p.take n)).length ≤ (U p).length) := by show _ ≤ _; rw [hlen, U_length]; omega
  have HM : Hid ((c.p.take n ++ p.drop n).length = 256) := hml
  have HSP : Hid (splice (U p) 0 (U (c.p.take n)) = U (c.p.take n ++ p.drop n)) := hsp
  clear hlen hml hsp hsrc
  have n0 : ¬ ((n : Int) < 0) := by omega
  have n1 : (n : Int) ≤ 256 := by omega
  go_enter Tryz.func71, Tryz.ntmps71
  go_wp2_with fail
  go_region_law (refine step_copy_g rfl (.tmp 17) (.tmp 20) 42 42 rfl 5 Tryz.underlying42 (size_of Tryz.info5m) ⟨w.heap.size, 2, none⟩ n 256 n 256 (w.heap.size + 1) 0 rfl rfl (U p) 99 hH.out (U (c.p.take n)) L1.out HS.out L2.out (U_one _) ?_; intro w2 hw2 hg2)
  have hc2 : w2.heap[w.heap.size + 1]? = some (.cells (pgV (c.p.take n ++ p.drop n)) 99 (0, 0)) := by rw [hw2, HSP.out]; rfl
  have hr2 := heap_grown hR.out hg2 (by simp)
  have hb2 : Below w.heap.size w w2 := HB.out.trans (grown_below hg2 (by omega) (by simp; omega))
  have C2 : Hid (w2.heap[w.heap.size + 1]? = some (.cells (pgV (c.p.take n ++ p.drop n)) 99 (0, 0))) := hc2
  have R2 : Hid (w2.heap[w.heap.size + 1 + 1]? = some (.cells (pgV zeros) 99 (0, 0))) := hr2
  have B2 : Hid (Below w.heap.size w w2) := hb2
  clear hw2 hg2 hc2 hr2 hb2
  go_wp2_with (first | (refine ldB79 rfl (.tmp 4) rfl (w.heap.size + 1) rfl (c.p.take n ++ p.drop n) HM.out 99 (0, 0) C2.out ?_) | (refine stB79 rfl (.tmp 6) (.tmp 22) rfl (w.heap.size + 1 + 1) rfl (c.p.take n ++ p.drop n) zeros R2.out rfl zeros_length HM.out ?_; intro w3 hw3 hg3))
  refine bodyPost_ret (v := .agg (pgV (c.p.take n ++ p.drop n))) ?_ rfl ⟨rfl, ?_⟩
  · exact resultsB79 Tryz.results71 _ _ (w.heap.size + 1 + 1) rfl (c.p.take n ++ p.drop n) HM.out 99 (0, 0) hw3
  · exact B2.out.trans (grown_below hg3 (by omega) B2.out.size)
set_option maxHeartbeats 1000000 in
set_option maxRecDepth 10000 in
theorem over_low (c : Chg) (p : List Nat) (z : Int) (hz0 : z < 0) (w : World) (hc : c.p.length = 256) (hp : p.length = 256) (ht : c.trim = false) :
    Calls Tryz.prog 71 #[.agg (chgV c), .agg (pgV p), .int .i64 z] w fun e w' => e = .returned (.agg (pgV (c.p.take 0 ++ p.drop 0))) ∧ Below w.heap.size w w' := by
  have hz := Tryz.zero99
  have k1 := chgV_1 c
  rw [ht] at k1
  have hl := fun a w => sl79 a 0 (by omega) w
  simp only [Int.cast_ofNat_Int] at hl
  have hsrc := chg_src c w (.cells (pgV p) 99) (.cells (pgV zeros) 99) 0
  have hH : Hid ((((w.alloc (Obj.cells (chgV c) 101)).alloc (Obj.cells (pgV p) 99)).alloc (Obj.cells (pgV zeros) 99)).drew.heap[w.heap.size + 1]? = some (.cells (U p).toArray 99 (0, 0))) := (heap3 w (.cells (chgV c) 101) (.cells (pgV p) 99) (.cells (pgV zeros) 99)).2.1
  have hR : Hid ((((w.alloc (Obj.cells (chgV c) 101)).alloc (Obj.cells (pgV p) 99)).alloc (Obj.cells (pgV zeros) 99)).drew.heap[w.heap.size + 1 + 1]? = some (.cells (pgV zeros) 99 (0, 0))) := (heap3 w (.cells (chgV c) 101) (.cells (pgV p) 99) (.cells (pgV zeros) 99)).2.2
  have HS : Hid (∀ j v, (U (c.p.take 0))[j]? = some v → (((w.alloc (.cells (chgV c) 101)).alloc (.cells (pgV p) 99)).alloc (.cells (pgV zeros) 99)).drew.cell? ((⟨w.heap.size, 2, none⟩ : Addr).add j) = some v) := hsrc
  have HB : Hid (Below w.heap.size w (((w.alloc (Obj.cells (chgV c) 101)).alloc (Obj.cells (pgV p) 99)).alloc (Obj.cells (pgV zeros) 99)).drew) := by show Below _ _ _; go_grown
  have hlen : (U (c.p.take 0)).length = 0 := by rw [U_length, List.length_take]; omega
  have hml : (c.p.take 0 ++ p.drop 0).length = 256 := by simp; omega
  have hsp := splice_take c.p p 0 hc (by omega)
  have L1 : Hid ((U (c.p.take 0)).length = Nat.min 0 0) := by show _ = _; rw [hlen]; exact (Nat.min_self _).symm
  have L2 : Hid (0 + (U (c.p.take 0)).length ≤ (U p).length) := by show _ ≤ _; rw [hlen, U_length]; omega
  have HM : Hid ((c.p.take 0 ++ p.drop 0).length = 256) := hml
  have HSP : Hid (splice (U p) 0 (U (c.p.take 0)) = U (c.p.take 0 ++ p.drop 0)) := hsp
  clear hlen hml hsp hsrc
  go_enter Tryz.func71, Tryz.ntmps71
  go_wp2_with fail
  go_region_law (refine step_copy_g rfl (.tmp 17) (.tmp 20) 42 42 rfl 5 Tryz.underlying42 (size_of Tryz.info5m) ⟨w.heap.size, 2, none⟩ 0 256 0 256 (w.heap.size + 1) 0 rfl rfl (U p) 99 hH.out (U (c.p.take 0)) L1.out HS.out L2.out (U_one _) ?_; intro w2 hw2 hg2)
  have hc2 : w2.heap[w.heap.size + 1]? = some (.cells (pgV (c.p.take 0 ++ p.drop 0)) 99 (0, 0)) := by rw [hw2, HSP.out]; rfl
  have hr2 := heap_grown hR.out hg2 (by simp)
  have hb2 : Below w.heap.size w w2 := HB.out.trans (grown_below hg2 (by omega) (by simp; omega))
  have C2 : Hid (w2.heap[w.heap.size + 1]? = some (.cells (pgV (c.p.take 0 ++ p.drop 0)) 99 (0, 0))) := hc2
  have R2 : Hid (w2.heap[w.heap.size + 1 + 1]? = some (.cells (pgV zeros) 99 (0, 0))) := hr2
  have B2 : Hid (Below w.heap.size w w2) := hb2
  clear hw2 hg2 hc2 hr2 hb2
  go_wp2_with (first | (refine ldB79 rfl (.tmp 4) rfl (w.heap.size + 1) rfl (c.p.take 0 ++ p.drop 0) HM.out 99 (0, 0) C2.out ?_) | (refine stB79 rfl (.tmp 6) (.tmp 22) rfl (w.heap.size + 1 + 1) rfl (c.p.take 0 ++ p.drop 0) zeros R2.out rfl zeros_length HM.out ?_; intro w3 hw3 hg3))
  refine bodyPost_ret (v := .agg (pgV (c.p.take 0 ++ p.drop 0))) ?_ rfl ⟨rfl, ?_⟩
  · exact resultsB79 Tryz.results71 _ _ (w.heap.size + 1 + 1) rfl (c.p.take 0 ++ p.drop 0) HM.out 99 (0, 0) hw3
  · exact B2.out.trans (grown_below hg3 (by omega) B2.out.size)
set_option maxHeartbeats 1000000 in
set_option maxRecDepth 10000 in
theorem over_high (c : Chg) (p : List Nat) (z : Int) (hz0 : 256 < z) (w : World) (hc : c.p.length = 256) (hp : p.length = 256) (ht : c.trim = false) :
    Calls Tryz.prog 71 #[.agg (chgV c), .agg (pgV p), .int .i64 z] w fun e w' => e = .returned (.agg (pgV (c.p.take 256 ++ p.drop 256))) ∧ Below w.heap.size w w' := by
  have hz := Tryz.zero99
  have k1 := chgV_1 c
  rw [ht] at k1
  have hl := fun a w => sl79 a 256 (by omega) w
  simp only [Int.cast_ofNat_Int] at hl
  have hsrc := chg_src c w (.cells (pgV p) 99) (.cells (pgV zeros) 99) 256
  have hH : Hid ((((w.alloc (Obj.cells (chgV c) 101)).alloc (Obj.cells (pgV p) 99)).alloc (Obj.cells (pgV zeros) 99)).drew.heap[w.heap.size + 1]? = some (.cells (U p).toArray 99 (0, 0))) := (heap3 w (.cells (chgV c) 101) (.cells (pgV p) 99) (.cells (pgV zeros) 99)).2.1
  have hR : Hid ((((w.alloc (Obj.cells (chgV c) 101)).alloc (Obj.cells (pgV p) 99)).alloc (Obj.cells (pgV zeros) 99)).drew.heap[w.heap.size + 1 + 1]? = some (.cells (pgV zeros) 99 (0, 0))) := (heap3 w (.cells (chgV c) 101) (.cells (pgV p) 99) (.cells (pgV zeros) 99)).2.2
  have HS : Hid (∀ j v, (U (c.p.take 256))[j]? = some v → (((w.alloc (.cells (chgV c) 101)).alloc (.cells (pgV p) 99)).alloc (.cells (pgV zeros) 99)).drew.cell? ((⟨w.heap.size, 2, none⟩ : Addr).add j) = some v) := hsrc
  have HB : Hid (Below w.heap.size w (((w.alloc (Obj.cells (chgV c) 101)).alloc (Obj.cells (pgV p) 99)).alloc (Obj.cells (pgV zeros) 99)).drew) := by show Below _ _ _; go_grown
  have hlen : (U (c.p.take 256)).length = 256 := by rw [U_length, List.length_take]; omega
  have hml : (c.p.take 256 ++ p.drop 256).length = 256 := by simp; omega
  have hsp := splice_take c.p p 256 hc (by omega)
  have L1 : Hid ((U (c.p.take 256)).length = Nat.min 256 256) := by show _ = _; rw [hlen]; exact (Nat.min_self _).symm
  have L2 : Hid (0 + (U (c.p.take 256)).length ≤ (U p).length) := by show _ ≤ _; rw [hlen, U_length]; omega
  have HM : Hid ((c.p.take 256 ++ p.drop 256).length = 256) := hml
  have HSP : Hid (splice (U p) 0 (U (c.p.take 256)) = U (c.p.take 256 ++ p.drop 256)) := hsp
  clear hlen hml hsp hsrc
  have n0 : ¬ (z < 0) := by omega
  have n1 : ¬ (z ≤ 256) := by omega
  go_enter Tryz.func71, Tryz.ntmps71
  go_wp2_with fail
  go_region_law (refine step_copy_g rfl (.tmp 17) (.tmp 20) 42 42 rfl 5 Tryz.underlying42 (size_of Tryz.info5m) ⟨w.heap.size, 2, none⟩ 256 256 256 256 (w.heap.size + 1) 0 rfl rfl (U p) 99 hH.out (U (c.p.take 256)) L1.out HS.out L2.out (U_one _) ?_; intro w2 hw2 hg2)
  have hc2 : w2.heap[w.heap.size + 1]? = some (.cells (pgV (c.p.take 256 ++ p.drop 256)) 99 (0, 0)) := by rw [hw2, HSP.out]; rfl
  have hr2 := heap_grown hR.out hg2 (by simp)
  have hb2 : Below w.heap.size w w2 := HB.out.trans (grown_below hg2 (by omega) (by simp; omega))
  have C2 : Hid (w2.heap[w.heap.size + 1]? = some (.cells (pgV (c.p.take 256 ++ p.drop 256)) 99 (0, 0))) := hc2
  have R2 : Hid (w2.heap[w.heap.size + 1 + 1]? = some (.cells (pgV zeros) 99 (0, 0))) := hr2
  have B2 : Hid (Below w.heap.size w w2) := hb2
  clear hw2 hg2 hc2 hr2 hb2
  go_wp2_with (first | (refine ldB79 rfl (.tmp 4) rfl (w.heap.size + 1) rfl (c.p.take 256 ++ p.drop 256) HM.out 99 (0, 0) C2.out ?_) | (refine stB79 rfl (.tmp 6) (.tmp 22) rfl (w.heap.size + 1 + 1) rfl (c.p.take 256 ++ p.drop 256) zeros R2.out rfl zeros_length HM.out ?_; intro w3 hw3 hg3))
  refine bodyPost_ret (v := .agg (pgV (c.p.take 256 ++ p.drop 256))) ?_ rfl ⟨rfl, ?_⟩
  · exact resultsB79 Tryz.results71 _ _ (w.heap.size + 1 + 1) rfl (c.p.take 256 ++ p.drop 256) HM.out 99 (0, 0) hw3
  · exact B2.out.trans (grown_below hg3 (by omega) B2.out.size)

theorem over_any (c : Chg) (p : List Nat) (n : Int) (w : World) (hc : c.p.length = 256) (hp : p.length = 256) :
    Calls Tryz.prog 71 #[.agg (chgV c), .agg (pgV p), .int .i64 n] w fun e w' => e = .returned (.agg (pgV (overP c p n))) ∧ Below w.heap.size w w' := by
  unfold overP
  by_cases ht : c.trim = true
  · rw [if_pos ht]
    by_cases hn : 256 ≤ n
    · rw [if_pos hn]; exact over_trim c p n w ht hn
    · rw [if_neg hn]; exact over_not c p n w hp ht (by omega)
  · rw [if_neg ht]
    have hf : c.trim = false := by simpa using ht
    unfold mix
    by_cases h0 : n < 0
    · rw [show clamp n = 0 by unfold clamp; omega]; exact over_low c p n h0 w hc hp hf
    · by_cases h1 : 256 < n
      · rw [show clamp n = 256 by unfold clamp; omega]; exact over_high c p n h1 w hc hp hf
      · obtain ⟨k, rfl⟩ := Int.eq_ofNat_of_zero_le (show 0 ≤ n by omega)
        rw [show clamp (k : Int) = k by unfold clamp; omega]; exact over_mid c p k (by omega) w hc hp hf
end Go.Proofs.YtkbfihnoohhojaaGreatDoor.Fla
