/-
  A new tier.
-/
import Derived.Test.YtkgecpplgjfhiaaGreatDoorQSet
namespace Go.Proofs.YtkgecpplgjfhiaaGreatDoor
open Go.RowKit
open Ite (Ent zeroE checkE sizeE)
open Lis (Lst but Tag newP)

section
variable {ops : Array Oper} {rest : List Oper} {o : Oper} {a : Act}
theorem st_make {w : World} {Q : Exit → Act → World → Prop} (hgd : o.guard = none) (l c : Operand) (n : Nat) (ho : o.op = Op.makeSlice 78 l c) (hl : a.eval l = .int .i64 (n : Int)) (hc : a.eval c = .int .i64 (n : Int)) (hn : n ≤ 1000)
    (h : wpList Tryz.prog ops Q rest (a.put o.dst (.slice (some ⟨w.heap.size, 0, none⟩) n n)) (w.alloc (.cells (madeCells (Value.int .i64 0).cells (n * 1)) 3))) : wpList Tryz.prog ops Q (o :: rest) a w := by
  refine wpList_plain hgd fun K hK => ?_
  obtain ⟨i, hi, h1, h2, h3⟩ := info_parts Lis.info3
  have hbi : (i.bytes : Int) * (n : Int) ≤ 281474976710656 := by rw [h3]; omega
  have hr := run_make (P := Tryz.prog) w 78 3 i (.int .i64 0) Tryz.underlying78 hi h1 .i64 .i64 n n (by omega) (Int.le_refl _) hbi (by omega)
  rw [h2] at hr
  unfold Oper.wp
  simp [execOp, ho, hl, hc, hr, Result.andThen, Oper.upon]
  exact hK _ _ (by simpa using h)
end
theorem both_nil (w : World) : Calls Tryz.prog 36 #[.nilIface, .nilIface] w fun e w' => e = .returned .nilIface ∧ w' = w := by
  go_enter Tryz.func36, Tryz.ntmps36
  go_wp2
  go_ret
  exact ⟨rfl, rfl⟩
theorem new_bad (w : World) (lim : Int) (h : lim < 1 ∨ 1048576 < lim) : Calls Tryz.prog 10 #[.int .i64 lim] w fun e w' => ∃ v, e = .returned (.tuple #[.pointer none, v]) ∧ Ite.Fault1 w' v 2 ∧ Below w.heap.size w w' := by
  by_cases h1 : lim < 1
  · go_enter Tryz.func10, Tryz.ntmps10
    go_wp2_with fail
    refine (Ite.new_code1 _ _ _ _).mono ?_
    rintro e w1 ⟨v, rfl, hf, hb⟩
    have HFL := hid2 hf
    have HB := hid2 hb
    clear hf hb
    go_wp2
    refine bodyPost_ret (v := .tuple #[.pointer none, v]) (by simp [results, Tryz.results10, go_sem]) rfl ⟨_, rfl, HFL.out, HB.out⟩
  · have h2 : 1048576 < lim := by omega
    clear h
    go_enter Tryz.func10, Tryz.ntmps10
    go_wp2_with fail
    refine (Ite.new_code1 _ _ _ _).mono ?_
    rintro e w1 ⟨v, rfl, hf, hb⟩
    have HFL := hid2 hf
    have HB := hid2 hb
    clear hf hb
    go_wp2
    refine bodyPost_ret (v := .tuple #[.pointer none, v]) (by simp [results, Tryz.results10, go_sem]) rfl ⟨_, rfl, HFL.out, HB.out⟩
theorem tier_new {w w1 w3 wr : World} {l n gl gc : Nat} {cur : Array Value} (n1 : 1 ≤ n) (n2 : n ≤ 640) (n3 : l < 32 * (n + 1)) (h1 : 1 ≤ l) (h2 : l ≤ 20000) (bg : Sla.Bg w1 w.heap.size (l : Int) []) (lx : Lis.Lx w3 w1.heap.size w3.heap.size gl 9 n (newP 9 n) 0) (_b1 : Below w.heap.size w w1) (b2 : Below w1.heap.size w1 w3) (hgc : gc = w3.heap.size)
    (hc : wr.heap[gc]? = some (.cells cur 3 (0, 0))) (hall : ∀ c, c < n → cur[c]? = some (.int .i64 (-1))) (ho : wr.heap[gc + 1]? = some (.cells #[.pointer (some ⟨w.heap.size, 0, none⟩), .pointer (some ⟨gl, 0, none⟩), .slice none 0 0, .slice (some ⟨gc, 0, none⟩) n n] 81 (0, 0))) (hb : Below w3.heap.size w3 wr) :
    Tier wr w.heap.size (gc + 1) (l : Int) [] 0 := by
  subst hgc
  have hlt : w.heap.size < w1.heap.size := lt_of_block bg
  have s2 := b2.size
  refine ⟨w.heap.size, gl, w1.heap.size, w3.heap.size, w3.heap.size, .slice none 0 0, n, newP 9 n, [], fun _ => zeroE, 0, fun _ => 0, fun _ => -1, fun _ => [], ⟨ho, by omega, ?_, lx.below hb, ⟨cur, hc, hall⟩, .inl ⟨rfl, rfl⟩, ⟨n1, n2⟩, by omega⟩, ?_, rfl, fun c _ => rfl⟩
  · exact heap_stays (heap_stays bg b2) hb
  · refine ⟨fun k hk => ?_, fun x hx => by simp [newP] at hx, ⟨[], ?_, fun d hd => nomatch hd⟩, Nat.zero_le _, by simp [newP], fun x hx => by simp [newP] at hx, fun c x => by simp [newP], fun _ => List.nodup_nil, by simp [newP], ?_, by omega⟩
    · show (List.replicate 9 ([] : List Int))[k]? = _
      rw [List.getElem?_replicate, if_pos hk]; rfl
    · show (newP 9 n).F = _
      rw [List.nil_append, Nat.sub_zero]
      show (List.range n).map _ = _
      rw [List.range_eq_range']
    · show (0 : Int) ≤ l; omega
/-- How many nodes there are. -/
def mostN (l : Nat) : Nat := max (l / 32) 1
set_option maxHeartbeats 1000000 in
set_option maxRecDepth 8000 in
theorem new_t (w : World) (l : Nat) (h1 : 1 ≤ l) (h2 : l ≤ 20000) : Calls Tryz.prog 10 #[.int .i64 (l : Int)] w fun e w' => ∃ g, e = .returned (.tuple #[.pointer (some ⟨g, 0, none⟩), .nilIface]) ∧ Tier w' w.heap.size g (l : Int) [] 0 ∧ Below w.heap.size w w' := by
  obtain ⟨n, hn⟩ : ∃ n, n = mostN l := ⟨_, rfl⟩
  have hn1 : 1 ≤ n ∧ n ≤ 640 ∧ l < 32 * (n + 1) := by
    unfold mostN at hn
    rw [Nat.max_def] at hn
    split at hn <;> omega
  obtain ⟨n1, n2, n3⟩ := hn1
  by_cases hle : l / 32 < 1
  · have hne : n = 1 := by rw [hn]; unfold mostN; omega
    have hd : (l : Int) / 32 < 1 := by omega
    subst hne
    have KS := hid2 (Sla.new_good w (l : Int) (by omega) (by omega))
    have KM := hid2 (fun W => Lis.made_any W 9 1 (by omega) (by omega) (by omega) (by omega))
    clear hn
    go_enter Tryz.func10, Tryz.ntmps10
    go_wp2_with fail
    refine (show Calls _ _ _ _ _ from KS.out).mono ?_
    rintro e w1 ⟨rfl, bg1, b1⟩
    have BG1 := hid2 bg1
    have B1 := hid2 b1
    clear bg1 b1 KS
    go_wp2_with fail
    refine (show Calls _ _ _ _ _ from KM.out w1).mono ?_
    rintro e w2 ⟨gl, rfl, lx2, b2⟩
    have LX2 := hid2 lx2
    have B2 := hid2 b2
    clear lx2 b2 KM
    go_wp2_with fail
    refine (both_nil w2).mono ?_
    rintro e w3 ⟨rfl, hw3⟩
    subst hw3
    obtain ⟨gc, hgc⟩ : ∃ gc, gc = w3.heap.size := ⟨_, rfl⟩
    obtain ⟨w4, hw4⟩ : ∃ w4, w4 = w3.alloc (.cells (madeCells #[Value.int .i64 0] 1) 3) := ⟨_, rfl⟩
    obtain ⟨w5, hw5⟩ : ∃ w5, w5 = w4.alloc (.cells #[.pointer (some ⟨w.heap.size, 0, none⟩), .pointer (some ⟨gl, 0, none⟩), .slice none 0 0, .slice (some ⟨gc, 0, none⟩) 1 1] 81) := ⟨_, rfl⟩
    have s4 : w4.heap.size = gc + 1 := by rw [hw4, hgc]; simp
    have A4 : Below w3.heap.size w3 w4 := by rw [hw4]; go_grown
    have A5 : Below w4.heap.size w4 w5 := by rw [hw5]; go_grown
    have C4 : w4.heap[gc]? = some (.cells (madeCells #[Value.int .i64 0] 1) 3 (0, 0)) := by rw [hw4, hgc]; exact heap_alloc_new w3 _
    have O5 : w5.heap[gc + 1]? = some (.cells #[.pointer (some ⟨w.heap.size, 0, none⟩), .pointer (some ⟨gl, 0, none⟩), .slice none 0 0, .slice (some ⟨gc, 0, none⟩) 1 1] 81 (0, 0)) := by rw [hw5, ← s4]; exact heap_alloc_new w4 _
    have HC5 := hid2 (heap_stays C4 A5)
    have HO5 := hid2 O5
    have HA5 := hid2 (A4.trans (A5.mono A4.size))
    have HGC := hid2 hgc
    have HW4 := hid2 hw4
    have HW5 := hid2 hw5
    have HSZ : Hid ((madeCells #[Value.int .i64 0] 1).size = 1) := by
      show _ = _
      refine Nat.le_antisymm ?_ ?_
      · refine Nat.le_of_not_lt (fun hh => ?_)
        have := toList_madeCells_one (Value.int .i64 0) 1
        have h3 := congrArg List.length this
        simp at h3
        omega
      · have := toList_madeCells_one (Value.int .i64 0) 1
        have h3 := congrArg List.length this
        simp at h3
        omega
    clear A4 A5 C4 O5 hgc hw4 hw5 s4
    go_wp2_with (refine st_make rfl (.tmp 43) (.tmp 43) 1 rfl rfl rfl (by omega) ?_)
    rw [← HW4.out, ← HGC.out, ← HW5.out]
    go_loopg [11, 52] 1 (fun gi _u i wr => ∃ (k : Nat) (cur : Array Value), k ≤ 1 ∧ gi = 1 - k ∧ i = .int .i64 (k : Int) ∧ wr.heap[gc]? = some (.cells cur 3 (0, 0)) ∧ cur.size = 1 ∧ (∀ c, c < k → cur[c]? = some (.int .i64 (-1))) ∧ wr.heap[gc + 1]? = some (.cells #[.pointer (some ⟨w.heap.size, 0, none⟩), .pointer (some ⟨gl, 0, none⟩), .slice none 0 0, .slice (some ⟨gc, 0, none⟩) 1 1] 81 (0, 0)) ∧ Below w3.heap.size w3 wr)
    case atStart => exact ⟨0, _, Nat.zero_le _, rfl, rfl, HC5.out, HSZ.out, fun c hc => absurd hc (Nat.not_lt_zero _), HO5.out, HA5.out⟩
    case round =>
      clear HW4 HW5 HC5 HO5 HA5
      obtain ⟨k, cur, hk, hgi, rfl, hc, hs, hall, ho, hb⟩ := hrel
      have HGI := hid2 hgi
      have HCU := hid2 hc
      have HSI := hid2 hs
      have HALL := hid2 hall
      have HOB := hid2 ho
      have HB := hid2 hb
      by_cases hkn : k = 1
      · have HKN := hid2 hkn
        clear hgi hc hs hall ho hb
        have hkk : ¬ (k : Int) < (1 : Int) := by omega
        go_wp2
        refine bodyPost_ret (v := .tuple #[.pointer (some ⟨gc + 1, 0, none⟩), .nilIface]) (by simp [results, Tryz.results10, go_sem]) rfl ⟨gc + 1, rfl, tier_new n1 n2 n3 (by omega) (by omega) BG1.out LX2.out B1.out B2.out HGC.out HCU.out (fun c hc => HALL.out c (by rw [HKN.out]; exact hc)) HOB.out HB.out, (B1.out.trans (B2.out.mono B1.out.size)).trans (HB.out.mono (Nat.le_trans B1.out.size B2.out.size))⟩
      · have hlt : k < 1 := by omega
        obtain ⟨u, hu⟩ : ∃ u, cur[k]? = some u := ⟨_, Array.getElem?_eq_getElem (by omega)⟩
        have c1 : wr.cell? ⟨gc, k, none⟩ = some u := by simp [World.cell?, hc, hu]
        have c2 : wr.frozen? ⟨gc, k, none⟩ = false := by simp [World.frozen?, hc]
        have c3 : wr.cell? ⟨gc + 1, 3, none⟩ = some (.slice (some ⟨gc, 0, none⟩) 1 1) := by simp [World.cell?, ho]
        have c4 : gc + 1 < wr.heap.size := lt_of_block ho
        have hI : (0 : Int) ≤ (k : Int) ∧ (k : Int) < (1 : Int) := by omega
        have htn : ((k : Int)).toNat = k := by omega
        clear hgi hc hs hall ho hb hu
        go_wp2
        go_roundg (1 - (k + 1))
        case measure => rw [HGI.out]; omega
        case rel =>
          have gr := Ite.setCell_grownBy wr gc k (.int .i64 (-1))
          refine ⟨k + 1, cur.setIfInBounds k (.int .i64 (-1)), by omega, rfl, rfl, Lis.set_same HCU.out, by simp [HSI.out], fun c hc => ?_, Ite.heap_grownBy HOB.out gr (by omega), HB.out.grown gr HB.out.size (fun j hj => by cases hj; have := HGC.out; omega)⟩
          rw [Array.getElem?_setIfInBounds]
          by_cases e : k = c
          · subst e; rw [if_pos rfl, if_pos (by have := HSI.out; omega)]
          · rw [if_neg e]; exact HALL.out c (by omega)
  · have hne : (l : Int) / 32 = (n : Int) := by rw [hn]; unfold mostN; omega
    have hd : ¬ (n : Int) < 1 := by omega
    have KS := hid2 (Sla.new_good w (l : Int) (by omega) (by omega))
    have KM := hid2 (fun W => Lis.made_any W 9 n (by omega) (by omega) (by omega) (by omega))
    clear hn hle
    go_enter Tryz.func10, Tryz.ntmps10
    go_wp2_with fail
    refine (show Calls _ _ _ _ _ from KS.out).mono ?_
    rintro e w1 ⟨rfl, bg1, b1⟩
    have BG1 := hid2 bg1
    have B1 := hid2 b1
    clear bg1 b1 KS
    go_wp2_with fail
    refine (show Calls _ _ _ _ _ from KM.out w1).mono ?_
    rintro e w2 ⟨gl, rfl, lx2, b2⟩
    have LX2 := hid2 lx2
    have B2 := hid2 b2
    clear lx2 b2 KM
    go_wp2_with fail
    refine (both_nil w2).mono ?_
    rintro e w3 ⟨rfl, hw3⟩
    subst hw3
    obtain ⟨gc, hgc⟩ : ∃ gc, gc = w3.heap.size := ⟨_, rfl⟩
    obtain ⟨w4, hw4⟩ : ∃ w4, w4 = w3.alloc (.cells (madeCells #[Value.int .i64 0] n) 3) := ⟨_, rfl⟩
    obtain ⟨w5, hw5⟩ : ∃ w5, w5 = w4.alloc (.cells #[.pointer (some ⟨w.heap.size, 0, none⟩), .pointer (some ⟨gl, 0, none⟩), .slice none 0 0, .slice (some ⟨gc, 0, none⟩) n n] 81) := ⟨_, rfl⟩
    have s4 : w4.heap.size = gc + 1 := by rw [hw4, hgc]; simp
    have A4 : Below w3.heap.size w3 w4 := by rw [hw4]; go_grown
    have A5 : Below w4.heap.size w4 w5 := by rw [hw5]; go_grown
    have C4 : w4.heap[gc]? = some (.cells (madeCells #[Value.int .i64 0] n) 3 (0, 0)) := by rw [hw4, hgc]; exact heap_alloc_new w3 _
    have O5 : w5.heap[gc + 1]? = some (.cells #[.pointer (some ⟨w.heap.size, 0, none⟩), .pointer (some ⟨gl, 0, none⟩), .slice none 0 0, .slice (some ⟨gc, 0, none⟩) n n] 81 (0, 0)) := by rw [hw5, ← s4]; exact heap_alloc_new w4 _
    have HC5 := hid2 (heap_stays C4 A5)
    have HO5 := hid2 O5
    have HA5 := hid2 (A4.trans (A5.mono A4.size))
    have HGC := hid2 hgc
    have HW4 := hid2 hw4
    have HW5 := hid2 hw5
    have HSZ : Hid ((madeCells #[Value.int .i64 0] n).size = n) := by
      show _ = _
      refine Nat.le_antisymm ?_ ?_
      · refine Nat.le_of_not_lt (fun hh => ?_)
        have := toList_madeCells_one (Value.int .i64 0) n
        have h3 := congrArg List.length this
        simp at h3
        omega
      · have := toList_madeCells_one (Value.int .i64 0) n
        have h3 := congrArg List.length this
        simp at h3
        omega
    clear A4 A5 C4 O5 hgc hw4 hw5 s4
    go_wp2_with (refine st_make rfl (.tmp 43) (.tmp 43) n rfl rfl rfl (by omega) ?_)
    rw [← HW4.out, ← HGC.out, ← HW5.out]
    go_loopg [11, 52] n (fun gi _u i wr => ∃ (k : Nat) (cur : Array Value), k ≤ n ∧ gi = n - k ∧ i = .int .i64 (k : Int) ∧ wr.heap[gc]? = some (.cells cur 3 (0, 0)) ∧ cur.size = n ∧ (∀ c, c < k → cur[c]? = some (.int .i64 (-1))) ∧ wr.heap[gc + 1]? = some (.cells #[.pointer (some ⟨w.heap.size, 0, none⟩), .pointer (some ⟨gl, 0, none⟩), .slice none 0 0, .slice (some ⟨gc, 0, none⟩) n n] 81 (0, 0)) ∧ Below w3.heap.size w3 wr)
    case atStart => exact ⟨0, _, Nat.zero_le _, rfl, rfl, HC5.out, HSZ.out, fun c hc => absurd hc (Nat.not_lt_zero _), HO5.out, HA5.out⟩
    case round =>
      clear HW4 HW5 HC5 HO5 HA5
      obtain ⟨k, cur, hk, hgi, rfl, hc, hs, hall, ho, hb⟩ := hrel
      have HGI := hid2 hgi
      have HCU := hid2 hc
      have HSI := hid2 hs
      have HALL := hid2 hall
      have HOB := hid2 ho
      have HB := hid2 hb
      by_cases hkn : k = n
      · have HKN := hid2 hkn
        clear hgi hc hs hall ho hb
        have hkk : ¬ (k : Int) < (n : Int) := by omega
        go_wp2
        refine bodyPost_ret (v := .tuple #[.pointer (some ⟨gc + 1, 0, none⟩), .nilIface]) (by simp [results, Tryz.results10, go_sem]) rfl ⟨gc + 1, rfl, tier_new n1 n2 n3 (by omega) (by omega) BG1.out LX2.out B1.out B2.out HGC.out HCU.out (fun c hc => HALL.out c (by rw [HKN.out]; exact hc)) HOB.out HB.out, (B1.out.trans (B2.out.mono B1.out.size)).trans (HB.out.mono (Nat.le_trans B1.out.size B2.out.size))⟩
      · have hlt : k < n := by omega
        obtain ⟨u, hu⟩ : ∃ u, cur[k]? = some u := ⟨_, Array.getElem?_eq_getElem (by omega)⟩
        have c1 : wr.cell? ⟨gc, k, none⟩ = some u := by simp [World.cell?, hc, hu]
        have c2 : wr.frozen? ⟨gc, k, none⟩ = false := by simp [World.frozen?, hc]
        have c3 : wr.cell? ⟨gc + 1, 3, none⟩ = some (.slice (some ⟨gc, 0, none⟩) n n) := by simp [World.cell?, ho]
        have c4 : gc + 1 < wr.heap.size := lt_of_block ho
        have hI : (0 : Int) ≤ (k : Int) ∧ (k : Int) < (n : Int) := by omega
        have htn : ((k : Int)).toNat = k := by omega
        clear hgi hc hs hall ho hb hu
        go_wp2
        go_roundg (n - (k + 1))
        case measure => rw [HGI.out]; omega
        case rel =>
          have gr := Ite.setCell_grownBy wr gc k (.int .i64 (-1))
          refine ⟨k + 1, cur.setIfInBounds k (.int .i64 (-1)), by omega, rfl, rfl, Lis.set_same HCU.out, by simp [HSI.out], fun c hc => ?_, Ite.heap_grownBy HOB.out gr (by omega), HB.out.grown gr HB.out.size (fun j hj => by cases hj; have := HGC.out; omega)⟩
          rw [Array.getElem?_setIfInBounds]
          by_cases e : k = c
          · subst e; rw [if_pos rfl, if_pos (by have := HSI.out; omega)]
          · rw [if_neg e]; exact HALL.out c (by omega)
end Go.Proofs.YtkgecpplgjfhiaaGreatDoor
