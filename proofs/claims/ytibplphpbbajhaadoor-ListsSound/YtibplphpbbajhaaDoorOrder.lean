/-
  Order of the program.
-/
import Derived.Test.YtibplphpbbajhaaDoorSound
namespace Go.Proofs.YtibplphpbbajhaaDoor
open Go.RowKit

set_option maxHeartbeats 2000000 in
set_option maxRecDepth 10000 in
theorem order_lx {w : World} {B0 B g K n : Nat} {s : Lst} {M : Nat} (x : Lx w B0 B g K n s M) (k : Int) : Calls Tryd.prog 18 #[.pointer (some ⟨g, 0, none⟩), .int .i64 k] w fun e w' => ∃ v, e = .returned v ∧ Ls w' w.heap.size v (orderP s k) ∧ Below w.heap.size w w' := by
  obtain ⟨h, l, N, t, f, h1, h2, h3, o, v⟩ := x
  have KL := len_ob o k
  rw [v.lenQ] at KL
  by_cases hz : orderP s k = []
  · rw [hz] at KL ⊢
    have HK := hid2 KL
    clear KL hz o v
    go_enter Tryd.func18, Tryd.ntmps18
    go_wp2_with fail
    refine (show Calls _ _ _ _ _ from HK.out).mono ?_
    rintro e w1 ⟨rfl, hw⟩
    cases hw
    go_wp2
    go_ret
    exact ⟨_, rfl, Ls.nil _ _, Below.refl _ _⟩
  · have hk : 0 ≤ k ∧ k < K := by
      by_cases hk : 0 ≤ k ∧ k < K
      · exact hk
      · exact absurd (v.noorder hk) hz
    obtain ⟨j, rfl⟩ := Int.eq_ofNat_of_zero_le hk.1
    have hj : j < K := by omega
    have ha := v.order_ring hj
    have HV := hid2 v
    have hK64 := o.K64
    have hN := o.eN
    have hn40 := o.n40
    have hN2 : N ≤ 105 := by omega
    have hal : (orderP s (j : Int)).length ≤ 40 := by
      rw [v.order hj]
      have := v.cnt
      exact Nat.le_trans (List.length_filter_le _ _) (by omega)
    have HST := hid2 (fun (i : Nat) (x : Int) (hx : (((n : Int) + (j : Int)) :: orderP s (j : Int))[i]? = some x) => v.step ha hx)
    have hne : (orderP s (j : Int)).length ≠ 0 := fun e => hz (List.eq_nil_of_length_eq_zero e)
    have KE := fun W (q : Ob W g h l K n N t) => end_ob q (k := j) (by omega)
    obtain ⟨q, hq⟩ : ∃ q, q = n + j := ⟨_, rfl⟩
    have HQI : Hid ((n : Int) + (j : Int) = (q : Int)) := by show _ = _; omega
    rw [← hq] at KE
    generalize orderP s (j : Int) = a at *
    obtain ⟨m, hm⟩ : ∃ m, m = a.length := ⟨_, rfl⟩
    rw [← hm] at KL hal hne HST
    have hm0 : ¬ (m : Int) = 0 := by omega
    have HM := hid2 hm
    have HK := hid2 KL
    have HE := hid2 KE
    have HO := hid2 o
    have HN := hid2 hN
    have qN : q < N := by omega
    clear KL KE o v hN hq hm ha hz hk
    go_enter Tryd.func18, Tryd.ntmps18
    go_wp2_with fail
    refine (show Calls _ _ _ _ _ from HK.out).mono ?_
    rintro e w1 ⟨rfl, hw⟩
    cases hw
    go_wp2_with fail
    refine (show Calls _ _ _ _ _ from HK.out).mono ?_
    rintro e w1 ⟨rfl, hw⟩
    cases hw
    obtain ⟨i0, hi, z0, z1, z2⟩ := elem3
    go_wp2_with (at_make; refine wpList_make_own _ rfl _ _ 30 rfl w.heap.size 3 i0 (.int .i64 0) 1 Tryd.underlying30 hi z0 z1 .i64 .i64 _ m rfl rfl (by omega) (by rw [z2]; omega) (by unfold maxLen; omega) (Nat.le_refl _) ?_; intro w0 hown0 hgrow0)
    have HB0 := hid2 (below_grown hgrow0)
    have HO0 := hid2 (HO.out.below HB0.out)
    refine (show Calls _ _ _ _ _ from HE.out _ HO0.out).mono ?_
    rintro e wx ⟨rfl, hw⟩
    cases hw
    obtain ⟨⟨b1, b2, b3⟩, _, _, c3, _⟩ := HO0.out.cells
    obtain ⟨_, c6, _, _⟩ := HO0.out.link qN
    have HX0 : Hid ((((n : Int) + (j : Int)) :: a)[0]? = some (q : Int)) := by show _ = _; rw [HQI.out]; rfl
    obtain ⟨p0, z0, ep, lp, eB, lz, _, _, hnx, hend⟩ := HST.out 0 _ HX0.out
    rw [eB] at c6
    have HOW := hid2 hown0
    have HS := hid2 (show ∃ (i : Nat), i ≤ m ∧ ((((n : Int) + (j : Int)) :: a)[i + 1]? = if i < m then some (z0 : Int) else none) ∧ ((z0 : Int) = (n : Int) + (j : Int) ↔ i = m) ∧ i = 0 from ⟨0, Nat.zero_le _, hnx, hend, rfl⟩)
    have HLZ : Hid (z0 < n + K + 1) := lz
    clear hown0 hgrow0 eB ep lp lz hnx hend hi z1 z2
    go_wp2_with fail
    clear b1 b2 b3 c3 c6
    go_loopg [5, 7] (m + 1) (fun gi sv nd wr => ∃ (i z : Nat), i ≤ m ∧ gi = m + 1 - i ∧ nd = .int .i64 (z : Int) ∧ z < n + K + 1 ∧ ((((n : Int) + (j : Int)) :: a)[i + 1]? = if i < m then some (z : Int) else none) ∧ ((z : Int) = (n : Int) + (j : Int) ↔ i = m) ∧ wr.ownsRow w.heap.size 3 1 sv i (I (a.take i)) ∧ Below w.heap.size w wr)
    case atStart =>
      obtain ⟨i, h1, h2, h3, rfl⟩ := HS.out
      exact ⟨0, z0, Nat.zero_le _, rfl, rfl, HLZ.out, h2, h3, by simpa [I] using HOW.out, HB0.out⟩
    case round =>
      clear HOW HS HLZ HB0 HO0
      obtain ⟨i, z, hi, hgi, rfl, hz, hnx, hend, ho, hb⟩ := hrel
      have HGI := hid2 hgi
      have HB := hid2 hb
      have HO1 := hid2 (HO.out.below hb)
      have HOW := hid2 ho
      obtain ⟨pv, cap, rfl⟩ : ∃ p cap, u5 = Value.slice p i cap := by
        rcases ho.2 with ⟨rfl, h0⟩ | ⟨gb, cap, _, rfl, _⟩
        · exact ⟨none, 0, by rw [h0]⟩
        · exact ⟨_, cap, rfl⟩
      have hz3 : (z : Int) = (q : Int) ↔ i = m := by rw [← HQI.out]; exact hend
      have zN : z < N := by have := HN.out; omega
      clear hgi hb hend ho
      by_cases him : i < m
      · rw [if_pos him] at hnx
        have hne : ((z : Int) != (q : Int)) = true := by
          rw [bne_iff_ne]
          intro e
          have := hz3.1 e
          omega
        obtain ⟨p1, z1, ep, _, eB, lz, _, _, hnx1, hend1⟩ := HST.out (i + 1) _ hnx
        obtain rfl : z = p1 := by omega
        have HX1 := hid2 hnx1
        have HE1 := hid2 hend1
        have HLZ : Hid (z1 < n + K + 1) := lz
        have HEB := hid2 eB
        have HAT : Hid (a[i]? = some (z : Int)) := by show _ = _; simpa using hnx
        have hsz := HB.out.size
        clear hnx hz3 hnx1 hend1 ep eB lz
        go_wp2_with (at_builtin; go_loud (refine wpList_append_gen Tryd.underlying30 elem3 rfl (by decide) _ rfl _ _ rfl w.heap.size _ _ _ rfl (HOW.out.alloc _) _ _ (I [(z : Int)]) (I_one _) rfl (sl_one_new _ _ _) (by simp [I]; omega) (by simp; omega) ?_; intro v1 w1 hown1 hgrow1; have hb1 := hid2 ((HB.out.alloc hsz (.cells #[.int .i64 (z : Int)] 3)).grown hgrow1 (by simp; omega) (fun k hk => (HOW.out.lt k hk).1)); have ho1 := HO.out.below hb1.out; have hz1 := (ho1.link zN).2.1; rw [HEB.out] at hz1; obtain ⟨⟨b1, b2, b3⟩, _, _, c3, _⟩ := ho1.cells))
        go_roundg (m + 1 - (i + 1))
        case measure => rw [HGI.out]; omega
        case rel =>
          refine ⟨i + 1, z1, by omega, rfl, rfl, HLZ.out, HX1.out, HE1.out, ?_, hb1.out⟩
          rw [take_snoc HAT.out, I_append]
          exact hown1
      · obtain rfl : i = m := by omega
        have hq : ((z : Int) != (q : Int)) = false := by
          have := hz3.2 rfl
          rw [this]; simp
        have HTK : Hid (a.take i = a) := by show _ = _; rw [HM.out]; exact List.take_length
        clear hnx hz3
        go_wp2_with fail
        go_ret
        refine ⟨_, rfl, ?_, HB.out⟩
        have := HOW.out
        rw [HTK.out] at this
        exact Ls.own this (Nat.le_refl _)
end Go.Proofs.YtibplphpbbajhaaDoor
