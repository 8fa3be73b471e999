/-
  take, put and use of the program, over its state.
-/
import Derived.Test.YtibplphpbbajhaaDoorPrim
namespace Go.Proofs.YtibplphpbbajhaaDoor
open Go.RowKit

theorem put_ob {w : World} {g h l K n N : Nat} {t : St} (o : Ob w g h l K n N t) {x k b : Nat} (hx : x < n) (hk : k < K + 1) (hb : t.B ((n : Int) + (k : Int)) = (b : Int)) (hbN : b < N) (hl0 : 0 ≤ t.len k) (hl1 : t.len k ≤ 100) :
    Calls Tryd.prog 26 #[.pointer (some ⟨g, 0, none⟩), .int .i64 (x : Int), .int .i64 (k : Int)] w fun e w' => e = .returned (.tuple #[]) ∧ Ob w' g h l K n N (putP n t x k) ∧ Off g h l w w' := by
  have hxN : x < N := by have := o.eN; omega
  have hN2 : N ≤ 105 := by have := o.eN; have := o.K64; have := o.n40; omega
  have hK64 := o.K64
  obtain ⟨q, hq⟩ : ∃ q, q = n + k := ⟨_, rfl⟩
  have hqN : q < N := by have := o.eN; omega
  have hqI : (n : Int) + (k : Int) = (q : Int) := by omega
  have KE := end_ob o hk
  rw [← hq] at KE
  obtain ⟨_, c5, _, _⟩ := o.link hqN
  rw [← hqI, hb] at c5
  obtain ⟨⟨b1, b2, b3⟩, _, _, c3, _⟩ := o.cells
  have K1 := tie_ob o hxN hbN
  have K2 := fun W (z : Ob W g h l K n N (tieP t x b)) => tie_ob z hqN hxN
  obtain ⟨m, hm⟩ : ∃ m, m = t.len (k : Int) := ⟨_, rfl⟩
  have e1 : putP n t x k = { tieP (tieP t x b) q x with P := up t.P x k, len := up t.len k (m + 1) } := by unfold putP; rw [hb, hqI, hm]
  rw [e1]
  rw [← hm] at hl0 hl1
  have HM := hid2 hm
  have HE := hid2 KE
  have H1 := hid2 K1
  have H2 := hid2 K2
  clear KE K1 K2 o hq hqI e1 hb hm
  go_enter Tryd.func26, Tryd.ntmps26
  go_wp2_with fail
  refine (show Calls _ _ _ _ _ from HE.out).mono ?_
  rintro e w1 ⟨rfl, hw⟩
  cases hw
  go_wp2_with fail
  refine (show Calls _ _ _ _ _ from H1.out).mono ?_
  rintro e w1 ⟨rfl, o1, f1⟩
  have O1 := hid2 o1
  have F1 := hid2 f1
  clear o1 f1 c3 c5 b1 b2 b3
  go_wp2_with fail
  refine (show Calls _ _ _ _ _ from H2.out _ O1.out).mono ?_
  rintro e w2 ⟨rfl, o2, f2⟩
  have F2 := hid2 (F1.out.trans f2)
  have O3 := hid2 (o2.setP hxN (k : Int))
  have F3 := hid2 (F2.out.setH (x * 4 + 2) (.int .i64 (k : Int)))
  obtain ⟨⟨b1, b2, b3⟩, _, _, c3, c4, _, _, fr, fl⟩ := o2.cells
  obtain ⟨_, _, c5, _⟩ := o2.link hxN
  clear o2 f2 F1 O1 H1 H2 HE
  go_upto_region 4 with fail
  obtain ⟨w3, hw3⟩ : ∃ w3, w3 = w2.setCell ⟨h, x * 4 + 2, none⟩ (.int .i64 (k : Int)) := ⟨_, rfl⟩
  rw [← hw3] at O3 F3 ⊢
  clear hw3 b1 b2 b3 c3 c4 c5 fr fl F2
  obtain ⟨⟨b1, b2, b3⟩, _, _, c3, c4, _, _, fr, fl⟩ := O3.out.cells
  have c5 := O3.out.count hk
  have O4 := hid2 (O3.out.setLen hk (m + 1))
  have F4 := hid2 (F3.out.setL k (.int .i64 (m + 1)))
  have hm : ({ tieP (tieP t x b) q x with P := up (tieP (tieP t x b) q x).P x k } : St).len k = t.len k := rfl
  rw [hm, ← HM.out] at c5
  clear O3 F3 hm
  go_wp2
  go_end0
  exact ⟨rfl, O4.out, F4.out⟩

theorem use_ob {w : World} {g h l K n N : Nat} {t : St} (o : Ob w g h l K n N t) {x k b : Nat} (hx : x < n) (hk : k < K + 1) (hb : t.B ((n : Int) + (k : Int)) = (b : Int)) (hbN : b < N) (hl0 : 0 ≤ t.len k) (hl1 : t.len k ≤ 100) (hu0 : 0 ≤ t.uses) (hu1 : t.uses ≤ 1000) :
    Calls Tryd.prog 36 #[.pointer (some ⟨g, 0, none⟩), .int .i64 (x : Int), .int .i64 (k : Int)] w fun e w' => e = .returned (.tuple #[]) ∧ Ob w' g h l K n N (useP n t x k) ∧ Off g h l w w' := by
  have hxN : x < N := by have := o.eN; omega
  have hN2 : N ≤ 105 := by have := o.eN; have := o.K64; have := o.n40; omega
  have K1 := put_ob o hx hk hb hbN hl0 hl1
  obtain ⟨u, hu⟩ : ∃ u, u = t.uses := ⟨_, rfl⟩
  have e1 : useP n t x k = { putP n t x k with uses := u + 1, S := up t.S x (u + 1) } := by unfold useP; rw [hu]
  rw [e1]
  rw [← hu] at hu0 hu1
  have HU := hid2 hu
  have HS : Hid ((putP n t x k).S = t.S) := rfl
  have H1 := hid2 K1
  clear K1 o hu e1 hb hl0 hl1
  go_enter Tryd.func36, Tryd.ntmps36
  go_wp2_with fail
  refine (show Calls _ _ _ _ _ from H1.out).mono ?_
  rintro e w1 ⟨rfl, o1, f1⟩
  have O2 := hid2 (o1.setUses (u + 1))
  have F2 := hid2 (f1.setG 4 (.int .i64 (u + 1)))
  obtain ⟨⟨b1, b2, b3⟩, _, _, _, _, c4, fr, _, _⟩ := o1.cells
  have hm : (putP n t x k).uses = t.uses := rfl
  rw [hm, ← HU.out] at c4
  clear o1 f1 H1 hm
  go_upto_region 2 with fail
  obtain ⟨w3, hw3⟩ : ∃ w3, w3 = w1.setCell ⟨g, 4, none⟩ (.int .i64 (u + 1)) := ⟨_, rfl⟩
  rw [← hw3] at O2 F2 ⊢
  clear hw3 b1 b2 b3 c4 fr
  obtain ⟨⟨b1, b2, b3⟩, _, _, c3, _, c4, _, fr, _⟩ := O2.out.cells
  obtain ⟨_, _, _, c5⟩ := O2.out.link hxN
  have O4 := hid2 (O2.out.setS hxN (u + 1))
  have F4 := hid2 (F2.out.setH (x * 4 + 3) (.int .i64 (u + 1)))
  clear O2 F2
  go_region
  go_wp2
  go_end0
  rw [HS.out] at O4
  exact ⟨rfl, O4.out.below (drew_below _ 1 _), F4.out.drew⟩

theorem take_ob {w : World} {g h l K n N : Nat} {t : St} (o : Ob w g h l K n N t) {x k a b : Nat} (hx : x < n) (hk : k < K + 1) (ha : t.A (x : Int) = (a : Int)) (haN : a < N) (hb : t.B (x : Int) = (b : Int)) (hbN : b < N) (hp : t.P (x : Int) = (k : Int)) (hl0 : 0 ≤ t.len k) (hl1 : t.len k ≤ 100) :
    Calls Tryd.prog 35 #[.pointer (some ⟨g, 0, none⟩), .int .i64 (x : Int)] w fun e w' => e = .returned (.tuple #[]) ∧ Ob w' g h l K n N (takeP t x) ∧ Off g h l w w' := by
  have hxN : x < N := by have := o.eN; omega
  have hN2 : N ≤ 105 := by have := o.eN; have := o.K64; have := o.n40; omega
  have hK64 := o.K64
  obtain ⟨c0, c1, c2, c5⟩ := o.link hxN
  rw [ha] at c0
  rw [hb] at c1
  rw [hp] at c2
  obtain ⟨⟨b1, b2, b3⟩, _, _, c3, _⟩ := o.cells
  obtain ⟨m, hm⟩ : ∃ m, m = t.len (k : Int) := ⟨_, rfl⟩
  have e1 : takeP t x = { tieP t a b with len := up t.len k (m - 1) } := by unfold takeP; rw [ha, hb, hp, hm]
  rw [e1]
  rw [← hm] at hl0 hl1
  generalize hs : t.S (x : Int) = s at *
  obtain ⟨W, hW⟩ : ∃ W, W = w.alloc (.cells #[.int .i64 (a : Int), .int .i64 (b : Int), .int .i64 (k : Int), .int .i64 s] 58) := ⟨_, rfl⟩
  have HM := hid2 hm
  have HO := hid2 o
  clear o e1 ha hb hp hm
  have KT := hid2 (fun W (z : Ob W g h l K n N t) => tie_ob z haN hbN)
  have hA : Below w.heap.size w W := by rw [hW]; go_grown
  have hZ := heap_alloc_new w (.cells #[.int .i64 (a : Int), .int .i64 (b : Int), .int .i64 (k : Int), .int .i64 s] 58)
  rw [← hW] at hZ
  obtain ⟨G, hG⟩ : ∃ G, G = w.heap.size := ⟨_, rfl⟩
  rw [← hG] at hZ
  have HA := hid2 hA
  have HZ := hid2 hZ
  have HW := hid2 hW
  have HG := hid2 hG
  have HB : Hid (g < G ∧ h < G ∧ l < G) := by rw [hG]; exact ⟨b1, b2, b3⟩
  clear hA hZ hW hG
  go_enter Tryd.func35, Tryd.ntmps35
  go_wp2_with fail
  rw [← HW.out, ← HG.out]
  clear HW c0 c1 c2 c3 b1 b2 b3
  refine (show Calls _ _ _ _ _ from KT.out _ (HO.out.below HA.out)).mono ?_
  rintro e w1 ⟨rfl, o1, f1⟩
  have hz : w1.heap[G]? = some (.cells #[.int .i64 (a : Int), .int .i64 (b : Int), .int .i64 (k : Int), .int .i64 s] 58 (0, 0)) := by
    rw [f1.block G (lt_of_block HZ.out) (by have := HB.out.1; omega) (by have := HB.out.2.1; omega) (by have := HB.out.2.2; omega)]
    exact HZ.out
  have g2 : w1.cell? ⟨G, 2, none⟩ = some (.int .i64 (k : Int)) := by simp [World.cell?, hz]
  have gl := lt_of_block hz
  have O1 := hid2 o1
  have F1 := hid2 ((Off.of (g := g) (h := h) (l := l) HA.out).trans f1)
  obtain ⟨⟨b1, b2, b3⟩, _, _, _, c4, _, _, _, fr⟩ := o1.cells
  have c6 := o1.count hk
  have hm : (tieP t a b).len = t.len := rfl
  rw [hm, ← HM.out] at c6
  have O2 := hid2 (O1.out.setLen hk (m - 1))
  have F2 := hid2 (F1.out.setL k (.int .i64 (m - 1)))
  clear o1 f1 hz hm O1 F1 KT HA HZ
  go_upto_region 2 with fail
  go_region
  go_wp2
  go_end0
  exact ⟨rfl, O2.out.below (drew_below _ 1 _), F2.out.drew⟩
end Go.Proofs.YtibplphpbbajhaaDoor
