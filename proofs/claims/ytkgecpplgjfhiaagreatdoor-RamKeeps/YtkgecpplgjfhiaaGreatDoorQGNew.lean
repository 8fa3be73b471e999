/-
  New of the program.
-/
import Derived.Test.YtkgecpplgjfhiaaGreatDoorQGOrder
import Derived.Deep.DeepCutAuto
import Derived.Deep.RegionHeld3
namespace Go.Proofs.YtkgecpplgjfhiaaGreatDoor.Lis
open Go.RowKit

theorem info58 : (Tryz.prog.info? 117).map (fun i => (i.zero, i.size, i.bytes)) = some (some (.agg #[.int .i64 0, .int .i64 0, .int .i64 0, .int .i64 0]), 4, 32) := by kernel_rfl
theorem info3 : (Tryz.prog.info? 3).map (fun i => (i.zero, i.size, i.bytes)) = some (some (.int .i64 0), 1, 8) := by kernel_rfl
theorem step_make {ops : Array Oper} {o : Oper} {a : Act} {w : World} {K : Act → World → Prop} {Q : Exit → Act → World → Prop} {E : Prop} (hgd : o.guard = none) (l c : Operand) (t e : TypeId) (ho : o.op = Op.makeSlice t l c)
    (ht : Tryz.prog.underlying t = some (.slice e)) {z : Value} {size bytes : Nat} (hinfo : (Tryz.prog.info? e).map (fun i => (i.zero, i.size, i.bytes)) = some (some z, size, bytes)) (C : Int) (n : Nat) (hl : a.eval l = .int .i64 C) (hc : a.eval c = .int .i64 C) (hC : C = (n : Int)) (hn : n ≤ 1000) (hb : bytes * n ≤ 100000)
    (h : K (a.put o.dst (.slice (some ⟨w.heap.size, 0, none⟩) n n)) (w.alloc (.cells (madeCells z.cells (n * size)) e))) : if Region.wanted o (yielded ops a.tmps) = true then Oper.wp Tryz.prog o a w K Q else E := by
  have hwt : Region.wanted o (yielded ops a.tmps) = true := by simp [Region.wanted, hgd]
  rw [if_pos hwt]
  obtain ⟨i, hi, h1, h2, h3⟩ := info_parts hinfo
  subst hC
  have hbi : (i.bytes : Int) * (n : Int) ≤ 281474976710656 := by
    rw [h3]
    have e : ((bytes * n : Nat) : Int) ≤ 100000 := by omega
    rw [Int.natCast_mul] at e
    omega
  have hr := run_make (P := Tryz.prog) w t e i z ht hi h1 .i64 .i64 n n (by omega) (Int.le_refl _) hbi (by omega)
  rw [h2] at hr
  unfold Oper.wp
  simp [execOp, ho, hl, hc, hr, Result.andThen, Oper.upon]
  simpa using h
theorem made_at (n : Nat) (i : Nat) (hi : i < n) : (madeCells (Value.agg #[.int .i64 0, .int .i64 0, .int .i64 0, .int .i64 0]).cells n)[i]? = some (.int .i64 0) := by
  have hc : (Value.agg #[.int .i64 0, .int .i64 0, .int .i64 0, .int .i64 0]).cells = #[.int .i64 0, .int .i64 0, .int .i64 0, .int .i64 0] := by kernel_rfl
  rw [hc]
  unfold madeCells
  rw [Array.getElem?_map, Array.getElem?_range]
  rw [if_pos hi]
  have h4 : i % 4 < 4 := Nat.mod_lt _ (by decide)
  simp only [Option.map_some]
  show some ((#[Value.int .i64 0, .int .i64 0, .int .i64 0, .int .i64 0] : Array Value)[i % 4]!) = _
  rcases (by omega : i % 4 = 0 ∨ i % 4 = 1 ∨ i % 4 = 2 ∨ i % 4 = 3) with e | e | e | e <;> rw [e] <;> rfl
theorem made1_at (n : Nat) (i : Nat) (hi : i < n) : (madeCells (Value.int .i64 0).cells n)[i]? = some (.int .i64 0) := by
  have hc : (Value.int .i64 0).cells = #[.int .i64 0] := by kernel_rfl
  rw [hc]
  unfold madeCells
  rw [Array.getElem?_map, Array.getElem?_range, if_pos hi]
  simp only [Option.map_some]
  show some ((#[Value.int .i64 0] : Array Value)[i % 1]!) = _
  rw [Nat.mod_one]; rfl

/-- The state of all noughts. -/
def st0 : St := ⟨fun _ => 0, fun _ => 0, fun _ => 0, fun _ => 0, fun _ => 0, 0⟩
theorem Ob.made {w : World} {g h l K n N : Nat} (gh : g ≠ h) (gl : g ≠ l) (hl : h ≠ l) (k1 : K ≤ 64) (n1 : n ≤ 700) (eN : N = n + K + 1)
    (o : w.heap[g]? = some (.cells #[.int .i64 (K : Int), .int .i64 (n : Int), .slice (some ⟨h, 0, none⟩) N N, .slice (some ⟨l, 0, none⟩) (K + 1) (K + 1), .int .i64 0] 115 (0, 0)))
    (a : w.heap[h]? = some (.cells (madeCells (Value.agg #[.int .i64 0, .int .i64 0, .int .i64 0, .int .i64 0]).cells (N * 4)) 117 (0, 0)))
    (b : w.heap[l]? = some (.cells (madeCells (Value.int .i64 0).cells ((K + 1) * 1)) 3 (0, 0))) : Ob w g h l K n N st0 :=
  ⟨gh, gl, hl, k1, n1, eN, o, ⟨_, a, fun i hi => ⟨made_at _ _ (by omega), made_at _ _ (by omega), made_at _ _ (by omega), made_at _ _ (by omega)⟩⟩, ⟨_, b, fun k hk => made1_at _ _ (by omega)⟩⟩
/-- What is there behind the allocations, in whichever order. -/
def Made (w : World) (K n N : Nat) (v : Value) (w' : World) : Prop := ∃ g h l, v = .pointer (some ⟨g, 0, none⟩) ∧ w.heap.size ≤ g ∧ w.heap.size ≤ h ∧ w.heap.size ≤ l ∧ Ob w' g h l K n N st0 ∧ Below w.heap.size w w'
theorem made_hl {w wa wb wc : World} {K n N : Nat} (ha : wa = World.alloc (World.drew w) (.cells (madeCells (Value.agg #[.int .i64 0, .int .i64 0, .int .i64 0, .int .i64 0]).cells (N * 4)) 117))
    (hb : wb = World.alloc wa (.cells (madeCells (Value.int .i64 0).cells ((K + 1) * 1)) 3))
    (hc : wc = World.alloc wb (.cells #[.int .i64 (K : Int), .int .i64 (n : Int), .slice (some ⟨w.heap.size, 0, none⟩) N N, .slice (some ⟨wa.heap.size, 0, none⟩) (K + 1) (K + 1), .int .i64 0] 115)) (eN : N = n + K + 1) (k1 : K ≤ 64) (n1 : n ≤ 700) :
    Made w K n N (.pointer (some ⟨wb.heap.size, 0, none⟩)) wc := by
  have s0 : (World.drew w).heap.size = w.heap.size := rfl
  have s1 : wa.heap.size = w.heap.size + 1 := by rw [ha]; simp [s0]
  have s2 : wb.heap.size = w.heap.size + 2 := by rw [hb]; simp [s1]
  refine ⟨_, (World.drew w).heap.size, wa.heap.size, rfl, by omega, by omega, by omega, Ob.made (by omega) (by omega) (by omega) k1 n1 eN ?_ ?_ ?_, ?_⟩
  · rw [hc]; exact heap_alloc_new wb _
  · rw [hc, Below.heap_alloc _ _ _ (by omega), hb, Below.heap_alloc _ _ _ (by omega), ha]; exact heap_alloc_new (World.drew w) _
  · rw [hc, Below.heap_alloc _ _ _ (by omega), hb]; exact heap_alloc_new wa _
  · rw [hc, hb, ha]
    exact ((((Below.refl _ _).drew).alloc (Nat.le_refl _) _).alloc (by simp [s0]) _).alloc (by simp [s0]; omega) _
theorem made_lh {w wa wb wc : World} {K n N : Nat} (ha : wa = World.alloc (World.drew w) (.cells (madeCells (Value.int .i64 0).cells ((K + 1) * 1)) 3))
    (hb : wb = World.alloc wa (.cells (madeCells (Value.agg #[.int .i64 0, .int .i64 0, .int .i64 0, .int .i64 0]).cells (N * 4)) 117))
    (hc : wc = World.alloc wb (.cells #[.int .i64 (K : Int), .int .i64 (n : Int), .slice (some ⟨wa.heap.size, 0, none⟩) N N, .slice (some ⟨w.heap.size, 0, none⟩) (K + 1) (K + 1), .int .i64 0] 115)) (eN : N = n + K + 1) (k1 : K ≤ 64) (n1 : n ≤ 700) :
    Made w K n N (.pointer (some ⟨wb.heap.size, 0, none⟩)) wc := by
  have s0 : (World.drew w).heap.size = w.heap.size := rfl
  have s1 : wa.heap.size = w.heap.size + 1 := by rw [ha]; simp [s0]
  have s2 : wb.heap.size = w.heap.size + 2 := by rw [hb]; simp [s1]
  refine ⟨_, wa.heap.size, (World.drew w).heap.size, rfl, by omega, by omega, by omega, Ob.made (by omega) (by omega) (by omega) k1 n1 eN ?_ ?_ ?_, ?_⟩
  · rw [hc]; exact heap_alloc_new wb _
  · rw [hc, Below.heap_alloc _ _ _ (by omega), hb]; exact heap_alloc_new wa _
  · rw [hc, Below.heap_alloc _ _ _ (by omega), hb, Below.heap_alloc _ _ _ (by omega), ha]; exact heap_alloc_new (World.drew w) _
  · rw [hc, hb, ha]
    exact ((((Below.refl _ _).drew).alloc (Nat.le_refl _) _).alloc (by simp [s0]) _).alloc (by simp [s0]; omega) _

/-- The first ends stand alone. -/
def Ends (n j : Nat) (t : St) : Prop := (∀ k : Nat, k < j → t.A ((n : Int) + (k : Int)) = (n : Int) + (k : Int) ∧ t.B ((n : Int) + (k : Int)) = (n : Int) + (k : Int) ∧ t.P ((n : Int) + (k : Int)) = (k : Int)) ∧ (∀ k, t.len k = 0) ∧ t.uses = 0
theorem Ends.more {n j q : Nat} {t : St} (h : Ends n j t) (hq : q = n + j) : Ends n (j + 1) (tieP { t with P := up t.P q j } q q) := by
  refine ⟨fun k hk => ?_, h.2.1, h.2.2⟩
  by_cases e : k = j
  · subst e
    have : (n : Int) + (k : Int) = (q : Int) := by omega
    rw [this]
    exact ⟨up_at _ _ _, up_at _ _ _, up_at _ _ _⟩
  · obtain ⟨h1, h2, h3⟩ := h.1 k (by omega)
    have ne : (n : Int) + (k : Int) ≠ (q : Int) := by omega
    exact ⟨(up_ne _ _ ne).trans h1, (up_ne _ _ ne).trans h2, (up_ne _ _ ne).trans h3⟩
theorem Off.below {g h l B : Nat} {a b : World} (x : Off g h l a b) (hg : B ≤ g) (hh : B ≤ h) (hl : B ≤ l) (ha : B ≤ a.heap.size) : Below B a b :=
  ⟨x.os, x.tape, x.output, x.size, fun k hk => x.block k (by omega) (by omega) (by omega) (by omega)⟩
/-- The last nodes, the lesser ones ahead. -/
def lastN (n i : Nat) : List Int := (List.range i).map fun (k : Nat) => ((n - i + k : Nat) : Int)
theorem lastN_succ {n i : Nat} (h : i < n) : lastN n (i + 1) = ((n - (i + 1) : Nat) : Int) :: lastN n i := by
  unfold lastN
  rw [List.range_succ_eq_map, List.map_cons, List.map_map]
  congr 1
  refine List.map_congr_left (fun k _ => ?_)
  show (((n - (i + 1) + (k + 1) : Nat)) : Int) = _
  congr 1
  omega
theorem lastN_length (n i : Nat) : (lastN n i).length = i := by simp [lastN]
theorem lastN_all (n : Nat) : lastN n n = (List.range n).map fun (k : Nat) => (k : Int) := by
  unfold lastN
  refine List.map_congr_left (fun k _ => ?_)
  rw [Nat.sub_self, Nat.zero_add]
theorem mem_lastN {n i : Nat} (h : i ≤ n) {x : Int} (hx : x ∈ lastN n i) : ((n - i : Nat) : Int) ≤ x ∧ x < n := by
  unfold lastN at hx
  obtain ⟨k, hk, rfl⟩ := List.mem_map.1 hx
  have := List.mem_range.1 hk
  omega
def ringsN (K n i : Nat) : List (List Int) := List.replicate K [] ++ [lastN n i]
theorem ringsN_len (K n i : Nat) : (ringsN K n i).length = K + 1 := by simp [ringsN]
theorem Ends.rings {K n : Nat} {t : St} (h : Ends n (K + 1) t) : Rings n t (ringsN K n 0) := by
  have e : ringsN K n 0 = List.replicate (K + 1) [] := by
    unfold ringsN lastN
    rw [List.replicate_succ']; rfl
  intro k l hk
  rw [e, List.getElem?_replicate] at hk
  split at hk
  · cases hk
    obtain ⟨h1, h2, h3⟩ := h.1 k ‹_›
    exact ⟨⟨h2, h1⟩, by rw [h.2.1]; rfl, h3, List.nodup_nil, fun x hx => absurd hx List.not_mem_nil⟩
  · cases hk
theorem ringsN_free (K n i : Nat) : (ringsN K n i)[K]? = some (lastN n i) := by
  unfold ringsN
  rw [List.getElem?_append_right (by simp)]; simp
theorem Rings.next {K n i : Nat} {t : St} (h : Rings n t (ringsN K n i)) (hi : i < n) : Rings n (putP n t ((n - (i + 1) : Nat) : Int) K) (ringsN K n (i + 1)) := by
  have r := h.put (ringsN_free K n i) (x := ((n - (i + 1) : Nat) : Int)) (by omega) (by omega) (fun m hm hx => by
    unfold ringsN at hm
    rcases List.mem_append.1 hm with hm | hm
    · rw [List.eq_of_mem_replicate hm] at hx; cases hx
    · simp at hm; subst hm
      have := mem_lastN (by omega) hx
      omega)
  have e : (ringsN K n i).set K (((n - (i + 1) : Nat) : Int) :: lastN n i) = ringsN K n (i + 1) := by
    unfold ringsN
    rw [List.set_append, if_neg (by simp), lastN_succ hi]; simp
  rwa [e] at r
theorem Rings.inv {K n : Nat} {t : St} (h : Rings n t (ringsN K n n)) (hu : t.uses = 0) : Inv K n t (newP K n) (fun _ => 0) 0 := by
  refine ⟨Ok.new K n, by simp [newP], rfl, ?_, List.Pairwise.nil, fun x hx => absurd hx List.not_mem_nil, by omega, by omega, by simp [newP]⟩
  have e : (newP K n).L ++ [(newP K n).F] = ringsN K n n := by unfold ringsN newP; rw [lastN_all]
  rw [e]; exact h

set_option maxHeartbeats 1000000 in
set_option maxRecDepth 10000 in
theorem made_any (w : World) (kk n : Nat) (hk0 : 1 ≤ kk) (hk1 : kk ≤ 64) (hn0 : 1 ≤ n) (hn1 : n ≤ 700) : Calls Tryz.prog 35 #[.int .i64 (kk : Int), .int .i64 (n : Int)] w fun e w' => ∃ g, e = .returned (.tuple #[.pointer (some ⟨g, 0, none⟩), .nilIface]) ∧ Lx w' w.heap.size w'.heap.size g kk n (newP kk n) 0 ∧ Below w.heap.size w w' := by
  obtain ⟨N, hN⟩ : ∃ N, N = n + kk + 1 := ⟨_, rfl⟩
  have HN := hid2 hN
  have x1 : IntKind.i64.wrap ((n : Int) + (kk : Int)) = (n : Int) + (kk : Int) := by rw [IntKind.wrap_i64]; omega
  have x2 : IntKind.i64.wrap ((n : Int) + (kk : Int) + 1) = (N : Int) := by rw [IntKind.wrap_i64]; omega
  have x3 : IntKind.i64.wrap ((kk : Int) + 1) = (kk : Int) + 1 := by rw [IntKind.wrap_i64]; omega
  have hN2 : N ≤ 800 := by omega
  have y1 : ¬ (kk : Int) < 1 := by omega
  have y2 : ¬ 64 < (kk : Int) := by omega
  have y3 : ¬ (n : Int) < 1 := by omega
  have y4 : ¬ 65536 < (n : Int) := by omega
  clear hN
  go_enter Tryz.func35, Tryz.ntmps35
  go_upto_region 5 with fail
  go_cut [6] (fun v wx => Made w kk n N v wx)
  case first =>
    refine wp_region_held_drew (S := fun _ => True) (by kernel_rfl) (trivial) (fun hS => ?_)
    change wpAnyH _ _ _ _ _ _ _ _ (World.drew _)
    refine wpAnyH_take (i := 0) (v := .int .i64 (kk : Int)) rfl (by kernel_rfl) (by kernel_rfl) (by kernel_rfl) (fun _ _ _ h => h) (Or.inl ⟨by kernel_rfl, ?_⟩) hS ?_
    · intro w hw; clear hw; go_simp
    change wpAnyH _ _ _ _ _ _ _ (Act.put _ (some 26) _) _
    simp only [Act.put, List.setIfInBounds_toArray, List.set_cons_succ, List.set_cons_zero]
    refine wpAnyH_take (i := 1) (v := .int .i64 (n : Int)) rfl (by kernel_rfl) (by kernel_rfl) (by kernel_rfl) (fun _ _ _ h => h) (Or.inl ⟨by kernel_rfl, ?_⟩) hS ?_
    · intro w hw; clear hw; go_simp
    change wpAnyH _ _ _ _ _ _ _ (Act.put _ (some 27) _) _
    simp only [Act.put, List.setIfInBounds_toArray, List.set_cons_succ, List.set_cons_zero]
    refine wpAnyH_take (i := 2) (v := .int .i64 (n : Int)) rfl (by kernel_rfl) (by kernel_rfl) (by kernel_rfl) (fun _ _ _ h => h) (Or.inl ⟨by kernel_rfl, ?_⟩) hS ?_
    · intro w hw; clear hw; go_simp
    change wpAnyH _ _ _ _ _ _ _ (Act.put _ (some 28) _) _
    simp only [Act.put, List.setIfInBounds_toArray, List.set_cons_succ, List.set_cons_zero]
    refine wpAnyH_take (i := 3) (v := .int .i64 (kk : Int)) rfl (by kernel_rfl) (by kernel_rfl) (by kernel_rfl) (fun _ _ _ h => h) (Or.inl ⟨by kernel_rfl, ?_⟩) hS ?_
    · intro w hw; clear hw; go_simp
    change wpAnyH _ _ _ _ _ _ _ (Act.put _ (some 29) _) _
    simp only [Act.put, List.setIfInBounds_toArray, List.set_cons_succ, List.set_cons_zero]
    refine wpAnyH_take (i := 4) (v := .int .i64 ((n : Int) + (kk : Int))) rfl (by kernel_rfl) (by kernel_rfl) (by kernel_rfl) (fun _ _ _ h => h) (Or.inl ⟨by kernel_rfl, ?_⟩) hS ?_
    · intro w hw; clear hw; go_simp
    change wpAnyH _ _ _ _ _ _ _ (Act.put _ (some 30) _) _
    simp only [Act.put, List.setIfInBounds_toArray, List.set_cons_succ, List.set_cons_zero]
    refine wpAnyH_take (i := 5) (v := .int .i64 (N : Int)) rfl (by kernel_rfl) (by kernel_rfl) (by kernel_rfl) (fun _ _ _ h => h) (Or.inl ⟨by kernel_rfl, ?_⟩) hS ?_
    · intro w hw; clear hw; go_simp
    change wpAnyH _ _ _ _ _ _ _ (Act.put _ (some 31) _) _
    simp only [Act.put, List.setIfInBounds_toArray, List.set_cons_succ, List.set_cons_zero]
    refine wpAnyH_take (i := 7) (v := .int .i64 (kk : Int)) rfl (by kernel_rfl) (by kernel_rfl) (by kernel_rfl) (fun _ _ _ h => h) (Or.inl ⟨by kernel_rfl, ?_⟩) hS ?_
    · intro w hw; clear hw; go_simp
    change wpAnyH _ _ _ _ _ _ _ (Act.put _ (some 33) _) _
    simp only [Act.put, List.setIfInBounds_toArray, List.set_cons_succ, List.set_cons_zero]
    refine wpAnyH_take (i := 8) (v := .int .i64 ((kk : Int) + 1)) rfl (by kernel_rfl) (by kernel_rfl) (by kernel_rfl) (fun _ _ _ h => h) (Or.inl ⟨by kernel_rfl, ?_⟩) hS ?_
    · intro w hw; clear hw; go_simp
    change wpAnyH _ _ _ _ _ _ _ (Act.put _ (some 34) _) _
    simp only [Act.put, List.setIfInBounds_toArray, List.set_cons_succ, List.set_cons_zero]
    refine wpAnyH_ready (rs := [6, 9]) (by kernel_rfl) (by simp) ?_
    refine AllReadyH.cons rfl (fun K hK => ?_) (AllReadyH.cons rfl (fun K hK => ?_) AllReadyH.nil)
    · refine step_make rfl (.tmp 31) (.tmp 31) 113 117 rfl Tryz.underlying113 info58 _ N rfl rfl rfl (by omega) (by omega) ?_
      obtain ⟨wa, hwwa⟩ : ∃ w', w' = World.alloc (World.drew w) (.cells (madeCells (Value.agg #[.int .i64 0, .int .i64 0, .int .i64 0, .int .i64 0]).cells (N * 4)) 117) := ⟨_, rfl⟩
      rw [← hwwa]
      have HWwa := hid2 hwwa
      clear hwwa
      refine hK.out _ _ (trivial) (fun hS => ?_)
      clear hK K
      change wpAnyH _ _ _ _ _ _ _ (Act.put _ (some 32) _) _
      simp only [Act.put, List.setIfInBounds_toArray, List.set_cons_succ, List.set_cons_zero]
      refine wpAnyH_ready (rs := [9]) (by kernel_rfl) (by simp) ?_
      refine AllReadyH.cons rfl (fun K hK => ?_) AllReadyH.nil
      refine step_make rfl (.tmp 34) (.tmp 34) 78 3 rfl Tryz.underlying78 info3 _ (kk + 1) rfl rfl (by omega) (by omega) (by omega) ?_
      obtain ⟨wb, hwwb⟩ : ∃ w', w' = World.alloc wa (.cells (madeCells (Value.int .i64 0).cells ((kk + 1) * 1)) 3) := ⟨_, rfl⟩
      rw [← hwwb]
      have HWwb := hid2 hwwb
      clear hwwb
      refine hK.out _ _ (trivial) (fun hS => ?_)
      clear hK K
      change wpAnyH _ _ _ _ _ _ _ (Act.put _ (some 35) _) _
      simp only [Act.put, List.setIfInBounds_toArray, List.set_cons_succ, List.set_cons_zero]
      refine wpAnyH_take (i := 10) (v := .agg #[.int .i64 (kk : Int), .int .i64 (n : Int), .slice (some ⟨w.heap.size, 0, none⟩) N N, .slice (some ⟨wa.heap.size, 0, none⟩) (kk + 1) (kk + 1), .int .i64 0]) rfl (by kernel_rfl) (by kernel_rfl) (by kernel_rfl) (fun _ _ _ h => h) (Or.inl ⟨by kernel_rfl, ?_⟩) hS ?_
      · intro w hw; clear hw; go_simp
      change wpAnyH _ _ _ _ _ _ _ (Act.put _ (some 36) _) _
      simp only [Act.put, List.setIfInBounds_toArray, List.set_cons_succ, List.set_cons_zero]
      refine wpAnyH_ready (rs := [11]) (by kernel_rfl) (by simp) ?_
      refine AllReadyH.cons rfl (fun K hK => ?_) AllReadyH.nil
      go_simp
      go_wp2_with fail
      obtain ⟨wc1, hwc1⟩ : ∃ w', w' = World.alloc wb (.cells #[.int .i64 (kk : Int), .int .i64 (n : Int), .slice (some ⟨w.heap.size, 0, none⟩) N N, .slice (some ⟨wa.heap.size, 0, none⟩) (kk + 1) (kk + 1), .int .i64 0] 115) := ⟨_, rfl⟩
      rw [← hwc1]
      have HWc1 := hid2 hwc1
      clear hwc1
      refine hK.out _ _ (trivial) (fun hS => ?_)
      clear hK K
      skip
      refine wpAnyH_take (i := 12) (v := .pointer (some ⟨wb.heap.size, 0, none⟩)) rfl (by kernel_rfl) (by kernel_rfl) (by kernel_rfl) (fun _ _ _ h => h) (Or.inl ⟨by kernel_rfl, ?_⟩) hS ?_
      · intro w hw; clear hw; go_simp
      change wpAnyH _ _ _ _ _ _ _ (Act.put _ (some 6) _) _
      simp only [Act.put, List.setIfInBounds_toArray, List.set_cons_succ, List.set_cons_zero]
      refine wpAnyH_done (by kernel_rfl) ?_ _
      go_wp2_with fail
      go_meet
      first | exact made_hl HWwa.out HWwb.out HWc1.out HN.out hk1 hn1 | exact made_lh HWwa.out HWwb.out HWc1.out HN.out hk1 hn1
    · refine step_make rfl (.tmp 34) (.tmp 34) 78 3 rfl Tryz.underlying78 info3 _ (kk + 1) rfl rfl (by omega) (by omega) (by omega) ?_
      obtain ⟨wa, hwwa⟩ : ∃ w', w' = World.alloc (World.drew w) (.cells (madeCells (Value.int .i64 0).cells ((kk + 1) * 1)) 3) := ⟨_, rfl⟩
      rw [← hwwa]
      have HWwa := hid2 hwwa
      clear hwwa
      refine hK.out _ _ (trivial) (fun hS => ?_)
      clear hK K
      change wpAnyH _ _ _ _ _ _ _ (Act.put _ (some 35) _) _
      simp only [Act.put, List.setIfInBounds_toArray, List.set_cons_succ, List.set_cons_zero]
      refine wpAnyH_ready (rs := [6]) (by kernel_rfl) (by simp) ?_
      refine AllReadyH.cons rfl (fun K hK => ?_) AllReadyH.nil
      refine step_make rfl (.tmp 31) (.tmp 31) 113 117 rfl Tryz.underlying113 info58 _ N rfl rfl rfl (by omega) (by omega) ?_
      obtain ⟨wb, hwwb⟩ : ∃ w', w' = World.alloc wa (.cells (madeCells (Value.agg #[.int .i64 0, .int .i64 0, .int .i64 0, .int .i64 0]).cells (N * 4)) 117) := ⟨_, rfl⟩
      rw [← hwwb]
      have HWwb := hid2 hwwb
      clear hwwb
      refine hK.out _ _ (trivial) (fun hS => ?_)
      clear hK K
      change wpAnyH _ _ _ _ _ _ _ (Act.put _ (some 32) _) _
      simp only [Act.put, List.setIfInBounds_toArray, List.set_cons_succ, List.set_cons_zero]
      refine wpAnyH_take (i := 10) (v := .agg #[.int .i64 (kk : Int), .int .i64 (n : Int), .slice (some ⟨wa.heap.size, 0, none⟩) N N, .slice (some ⟨w.heap.size, 0, none⟩) (kk + 1) (kk + 1), .int .i64 0]) rfl (by kernel_rfl) (by kernel_rfl) (by kernel_rfl) (fun _ _ _ h => h) (Or.inl ⟨by kernel_rfl, ?_⟩) hS ?_
      · intro w hw; clear hw; go_simp
      change wpAnyH _ _ _ _ _ _ _ (Act.put _ (some 36) _) _
      simp only [Act.put, List.setIfInBounds_toArray, List.set_cons_succ, List.set_cons_zero]
      refine wpAnyH_ready (rs := [11]) (by kernel_rfl) (by simp) ?_
      refine AllReadyH.cons rfl (fun K hK => ?_) AllReadyH.nil
      go_simp
      go_wp2_with fail
      obtain ⟨wc1, hwc1⟩ : ∃ w', w' = World.alloc wb (.cells #[.int .i64 (kk : Int), .int .i64 (n : Int), .slice (some ⟨wa.heap.size, 0, none⟩) N N, .slice (some ⟨w.heap.size, 0, none⟩) (kk + 1) (kk + 1), .int .i64 0] 115) := ⟨_, rfl⟩
      rw [← hwc1]
      have HWc1 := hid2 hwc1
      clear hwc1
      refine hK.out _ _ (trivial) (fun hS => ?_)
      clear hK K
      skip
      refine wpAnyH_take (i := 12) (v := .pointer (some ⟨wb.heap.size, 0, none⟩)) rfl (by kernel_rfl) (by kernel_rfl) (by kernel_rfl) (fun _ _ _ h => h) (Or.inl ⟨by kernel_rfl, ?_⟩) hS ?_
      · intro w hw; clear hw; go_simp
      change wpAnyH _ _ _ _ _ _ _ (Act.put _ (some 6) _) _
      simp only [Act.put, List.setIfInBounds_toArray, List.set_cons_succ, List.set_cons_zero]
      refine wpAnyH_done (by kernel_rfl) ?_ _
      go_wp2_with fail
      go_meet
      first | exact made_hl HWwa.out HWwb.out HWc1.out HN.out hk1 hn1 | exact made_lh HWwa.out HWwb.out HWc1.out HN.out hk1 hn1
  case rest =>
    obtain ⟨g, h, l, rfl, b1, b2, b3, ho, hb⟩ := hcut
    obtain ⟨⟨d1, d2, d3⟩, c1, c2, c3, c4, _⟩ := ho.cells
    have HO := hid2 ho
    have HB := hid2 hb
    clear ho hb
    go_wp2_with fail
    go_loopg [43] (kk + 1) (fun gk c wr => ∃ (j : Nat) (t : St), j ≤ kk + 1 ∧ gk = kk + 1 - j ∧ c = .int .i64 (j : Int) ∧ Ob wr g h l kk n N t ∧ Ends n j t ∧ Below w.heap.size w wr)
    case atStart => exact ⟨0, st0, Nat.zero_le _, rfl, rfl, HO.out, ⟨fun k hk => absurd hk (Nat.not_lt_zero _), fun _ => rfl, rfl⟩, HB.out⟩
    case round =>
      clear HO HB d1 d2 d3 c1 c2 c3 c4
      obtain ⟨j, t, hj, hgk, rfl, ho, he, hb⟩ := hrel
      have HG := hid2 hgk
      have HO := hid2 ho
      have HE := hid2 he
      have HB := hid2 hb
      clear hgk ho he hb
      by_cases hlt : j < kk + 1
      · have KE := end_ob HO.out hlt
        obtain ⟨q, hq⟩ : ∃ q, q = n + j := ⟨_, rfl⟩
        rw [← hq] at KE
        have HKE := hid2 KE
        have qN : q < N := by have := HN.out; omega
        have HQ := hid2 hq
        obtain ⟨⟨d1, d2, d3⟩, _, _, c3, _, _, _, fr, _⟩ := HO.out.cells
        obtain ⟨_, _, c5, _⟩ := HO.out.link qN
        clear KE hq
        go_wp2_with fail
        refine (show Calls _ _ _ _ _ from HKE.out).mono ?_
        rintro e wx ⟨rfl, hw⟩
        cases hw
        go_wp2_with fail
        obtain ⟨w3, hw3⟩ : ∃ w3, w3 = wr.setCell ⟨h, q * 4 + 2, none⟩ (.int .i64 (j : Int)) := ⟨_, rfl⟩
        rw [← hw3]
        have O3 : Hid (Ob w3 g h l kk n N { t with P := up t.P q j }) := by rw [hw3]; exact HO.out.setP qN _
        have F3 : Hid (Off g h l wr w3) := by rw [hw3]; exact (Off.refl g h l wr).setH _ _
        clear hw3 d1 d2 d3 c3 c5 fr HKE
        refine (tie_ob O3.out qN qN).mono ?_
        rintro e w4 ⟨rfl, o4, f4⟩
        have O4 := hid2 o4
        have F4 := hid2 (F3.out.trans f4)
        clear o4 f4
        go_wp2
        go_roundg (kk + 1 - (j + 1))
        case measure => rw [HG.out]; omega
        case rel => exact ⟨j + 1, _, by omega, rfl, by go_num, O4.out, HE.out.more HQ.out, HB.out.trans (F4.out.below b1 b2 b3 HB.out.size)⟩
      · obtain rfl : j = kk + 1 := by omega
        have HR := hid2 HE.out.rings
        have HU : Hid (t.uses = 0) := HE.out.2.2
        have z1 : IntKind.i64.wrap ((n : Int) - 1) = (n : Int) - 1 := by rw [IntKind.wrap_i64]; omega
        go_wp2_with fail
        go_loopg [9] (n + 1) (fun gk c wr => ∃ (i : Nat) (t : St), i ≤ n ∧ gk = n + 1 - i ∧ c = .int .i64 ((n : Int) - 1 - (i : Int)) ∧ Ob wr g h l kk n N t ∧ Rings n t (ringsN kk n i) ∧ t.uses = 0 ∧ Below w.heap.size w wr)
        case atStart => exact ⟨0, t, Nat.zero_le _, rfl, by simp, HO.out, HR.out, HU.out, HB.out⟩
        case round =>
          clear HO HR HU HB HE t
          obtain ⟨i, t, hi, hgi, rfl, ho, hr, hu, hb⟩ := hrel
          have HG := hid2 hgi
          have HO := hid2 ho
          have HR := hid2 hr
          have HU := hid2 hu
          have HB := hid2 hb
          clear hgi ho hr hu hb z1
          by_cases hlt : i < n
          · obtain ⟨x, hx⟩ : ∃ x : Nat, x = n - (i + 1) := ⟨_, rfl⟩
            have hxI : (n : Int) - 1 - (i : Int) = (x : Int) := by omega
            have HX := hid2 hx
            have hxn : x < n := by omega
            have KF := hid2 (free_ob HO.out)
            obtain ⟨b, eb, lb⟩ := HR.out.head (ringsN_free kk n i)
            rw [ringsN_len] at lb
            have hl := (HR.out kk _ (ringsN_free kk n i)).2.1
            rw [lastN_length] at hl
            have KP := hid2 (put_ob HO.out hxn (k := kk) (by omega) eb (by have := HN.out; omega) (by omega) (by omega))
            rw [hxI]
            clear hx eb lb hl
            go_wp2_with fail
            refine (show Calls _ _ _ _ _ from KF.out).mono ?_
            rintro e wx ⟨rfl, hw⟩
            cases hw
            go_wp2_with fail
            refine (show Calls _ _ _ _ _ from KP.out).mono ?_
            rintro e w4 ⟨rfl, o4, f4⟩
            have O4 := hid2 o4
            have F4 := hid2 f4
            clear o4 f4
            have HXI : Hid ((x : Int) - 1 = (n : Int) - 1 - ((i + 1 : Nat) : Int)) := by show _ = _; omega
            have HRN : Hid (Rings n (putP n t (x : Int) kk) (ringsN kk n (i + 1))) := by have := HR.out.next hlt; rwa [← HX.out] at this
            clear hxI
            go_wp2
            go_roundg (n + 1 - (i + 1))
            case measure => rw [HG.out]; omega
            case rel => exact ⟨i + 1, _, by omega, rfl, by rw [← HXI.out], O4.out, HRN.out, HU.out, HB.out.trans (F4.out.below b1 b2 b3 HB.out.size)⟩
          · obtain rfl : i = n := by omega
            have e0 : (i : Int) - 1 - (i : Int) = -1 := by omega
            rw [e0]
            clear e0
            go_wp2_with fail
            have HI := hid2 (HR.out.inv HU.out)
            obtain ⟨⟨d1, d2, d3⟩, _⟩ := HO.out.cells
            refine bodyPost_ret (v := .tuple #[.pointer (some ⟨g, 0, none⟩), .nilIface]) (by simp [results, Tryz.results35, go_sem]) rfl ⟨g, rfl, ⟨h, l, N, t, _, ⟨b1, d1⟩, ⟨b2, d2⟩, ⟨b3, d3⟩, HO.out, HI.out⟩, HB.out⟩

theorem new_bad (w : World) (a b : Int) (h : a < 1 ∨ 64 < a ∨ b < 1 ∨ 65536 < b) : Calls Tryz.prog 35 #[.int .i64 a, .int .i64 b] w fun e w' => ∃ v, e = .returned (.tuple #[.pointer none, v]) ∧ Fault1 w' v 2 ∧ Below w.heap.size w w' := by
  by_cases h1 : a < 1 ∨ 64 < a
  · go_enter Tryz.func35, Tryz.ntmps35
    go_wp2_with (go_at_call 33; refine (new_code1 _ _ _ _).mono ?_; rintro e w1 ⟨v, rfl, hf, hb⟩; have HF := hid2 hf; clear hf)
    all_goals first | (refine bodyPost_ret (v := .tuple #[.pointer none, v]) (by simp [results, Tryz.results35, go_sem]) rfl ⟨_, rfl, HF.out, hb⟩) | (exfalso; omega)
  · have a1 : ¬ a < 1 := by omega
    have a2 : ¬ 64 < a := by omega
    have h2 : b < 1 ∨ 65536 < b := by omega
    clear h h1
    go_enter Tryz.func35, Tryz.ntmps35
    go_upto_region 3 with fail
    by_cases b1 : b < 1
    · have d1 : decide (b < 1) = true := by simpa using b1
      go_wp2_with (go_at_call 33; refine (new_code1 _ _ _ _).mono ?_; rintro e w1 ⟨v, rfl, hf, hb⟩; have HF := hid2 hf; clear hf)
      refine bodyPost_ret (v := .tuple #[.pointer none, v]) (by simp [results, Tryz.results35, go_sem]) rfl ⟨_, rfl, HF.out, hb⟩
    · have b2 : 65536 < b := by omega
      have d1 : decide (b < 1) = false := by simpa using b1
      have d2 : decide (65536 < b) = true := by simpa using b2
      go_wp2_with (go_at_call 33; refine (new_code1 _ _ _ _).mono ?_; rintro e w1 ⟨v, rfl, hf, hb⟩; have HF := hid2 hf; clear hf)
      refine bodyPost_ret (v := .tuple #[.pointer none, v]) (by simp [results, Tryz.results35, go_sem]) rfl ⟨_, rfl, HF.out, hb⟩
end Go.Proofs.YtkgecpplgjfhiaaGreatDoor.Lis
