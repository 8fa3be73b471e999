/-
  Sound of the program.
-/
import Derived.Test.YtibplphpbbajhaaDoorMem
namespace Go.Proofs.YtibplphpbbajhaaDoor
open Go.RowKit

/-- The rings one behind the other: how many nodes the first ones have. -/
def allP (s : Lst) (f : Int → Nat) (K k : Nat) : Nat := if k ≤ K then cumP s f k else s.U.length + s.F.length
theorem Inv.ring_at {K n : Nat} {t : St} {s : Lst} {f : Int → Nat} {M : Nat} (v : Inv K n t s f M) {k : Nat} (hk : k < K + 1) :
    ∃ a, (s.L ++ [s.F])[k]? = some a ∧ allP s f K (k + 1) = allP s f K k + a.length ∧ t.len k = a.length := by
  by_cases e : k < K
  · refine ⟨_, v.order_ring e, ?_, (v.rings k _ (v.order_ring e)).2.1⟩
    unfold allP
    rw [if_pos (by omega), if_pos (by omega), v.cum_step e]
  · obtain rfl : k = K := by omega
    refine ⟨_, v.free, ?_, (v.rings k _ v.free).2.1⟩
    unfold allP
    rw [if_neg (by omega), if_pos (by omega), v.cum_all]
theorem Inv.all_all {K n : Nat} {t : St} {s : Lst} {f : Int → Nat} {M : Nat} (v : Inv K n t s f M) : allP s f K (K + 1) = n := by
  unfold allP
  rw [if_neg (by omega)]
  have := v.cnt
  omega
theorem Inv.all_le {K n : Nat} {t : St} {s : Lst} {f : Int → Nat} {M : Nat} (v : Inv K n t s f M) (k : Nat) : allP s f K k ≤ n := by
  unfold allP
  have := v.cnt
  have := cum_le s f k
  split <;> omega
/-- The link behind one of a ring. -/
theorem Inv.step {K n : Nat} {t : St} {s : Lst} {f : Int → Nat} {M : Nat} (v : Inv K n t s f M) {k : Nat} {a : List Int} (ha : (s.L ++ [s.F])[k]? = some a) {i : Nat} {x : Int} (hx : (((n : Int) + (k : Int)) :: a)[i]? = some x) :
    ∃ p q : Nat, x = p ∧ p < n + K + 1 ∧ t.B x = q ∧ q < n + K + 1 ∧ t.A (q : Int) = p ∧ t.P (q : Int) = k ∧ (((n : Int) + (k : Int)) :: a)[i + 1]? = (if i < a.length then some (q : Int) else none) ∧ ((q : Int) = (n : Int) + (k : Int) ↔ i = a.length) := by
  have hkK : k < K + 1 := by
    have := (List.getElem?_eq_some_iff.1 ha).1
    simp [v.len] at this
    omega
  obtain ⟨s1, _, s3, s4, s5⟩ := v.rings k a ha
  have key : ∀ y, y ∈ ((n : Int) + (k : Int)) :: a → (∃ c : Nat, y = c ∧ c < n + K + 1) ∧ t.P y = k := fun y hy => by
    rcases List.mem_cons.1 hy with e | hy
    · exact ⟨⟨n + k, by omega, by omega⟩, by rw [e]; exact s3⟩
    · obtain ⟨q1, q2, q3⟩ := s5 y hy
      exact ⟨⟨y.toNat, by omega, by omega⟩, q3⟩
  have hil : i < a.length + 1 := by simpa using (List.getElem?_eq_some_iff.1 hx).1
  obtain ⟨z, hz⟩ : ∃ z, (a ++ [(n : Int) + (k : Int)])[i]? = some z := ⟨_, List.getElem?_eq_getElem (by simp; omega)⟩
  obtain ⟨e1, e2⟩ := s1.at_ hx hz
  have hzm : z ∈ ((n : Int) + (k : Int)) :: a := mem_swap.1 (List.mem_of_getElem? hz)
  obtain ⟨⟨p, ep, lp⟩, _⟩ := key x (List.mem_of_getElem? hx)
  obtain ⟨⟨q, eq, lq⟩, hP⟩ := key z hzm
  refine ⟨p, q, ep, lp, by rw [e1, eq], lq, by rw [← eq, e2, ep], by rw [← eq, hP], ?_, ?_⟩
  · rw [List.getElem?_cons_succ]
    by_cases h : i < a.length
    · rw [if_pos h, ← eq, ← hz, List.getElem?_append_left h]
    · rw [if_neg h, List.getElem?_eq_none (by omega)]
  · rw [← eq]
    by_cases h : i < a.length
    · rw [List.getElem?_append_left h] at hz
      have := (s5 z (List.mem_of_getElem? hz)).2.1
      constructor <;> intro e <;> omega
    · have hi : i = a.length := by omega
      rw [List.getElem?_append_right (by omega), hi, Nat.sub_self] at hz
      simp at hz
      constructor <;> intro e <;> omega

set_option maxHeartbeats 2000000 in
theorem sound_lx {w : World} {B0 B g K n : Nat} {s : Lst} {M : Nat} (x : Lx w B0 B g K n s M) : Calls Tryd.prog 15 #[.pointer (some ⟨g, 0, none⟩)] w fun e w' => e = .returned (.bool true) ∧ Below w.heap.size w w' := by
  obtain ⟨h, l, N, t, f, h1, h2, h3, o, v⟩ := x
  obtain ⟨⟨b1, b2, b3⟩, c1, c2, c3, c4, _⟩ := o.cells
  have hK64 := o.K64
  have hN := o.eN
  have hn40 := o.n40
  have hN2 : N ≤ 105 := by omega
  have HN := hid2 hN
  have HO := hid2 o
  have HV := hid2 v
  have HA := hid2 v.all_all
  have h00 : allP s f K 0 = 0 := by
    unfold allP cumP
    rw [if_pos (by omega), List.filter_eq_nil_iff.2 (fun a _ => by simp)]
    rfl
  have H00 := hid2 h00
  clear o v hN h00
  go_enter Tryd.func15, Tryd.ntmps15
  go_wp2_with fail
  go_step3
  go_wp2_with fail
  go_step3
  go_wp2_with fail
  go_loopg [3, 15] (K + 1) (fun gk fo c wr => ∃ k : Nat, k ≤ K + 1 ∧ gk = K + 1 - k ∧ c = .int .i64 (k : Int) ∧ fo = .int .i64 (allP s f K k : Int) ∧ wr = w)
  case atStart => exact ⟨0, Nat.zero_le _, rfl, rfl, by rw [H00.out]; rfl, rfl⟩
  case round =>
    obtain ⟨k, hk, hgk, rfl, rfl, hwr⟩ := hrel
    subst hwr
    have HG := hid2 hgk
    clear hgk
    by_cases hlt : k < K + 1
    · obtain ⟨a, ha, hal, hlen⟩ := HV.out.ring_at hlt
      have HST := hid2 (fun (i : Nat) (x : Int) (hx : (((n : Int) + (k : Int)) :: a)[i]? = some x) => HV.out.step ha hx)
      have HAL := hid2 hal
      have hle := HV.out.all_le (k + 1)
      rw [hal] at hle
      have c5 := HO.out.count hlt
      rw [hlen] at c5
      generalize allP s f K k = fo at *
      generalize hm : a.length = m at *
      have KE := hid2 (end_ob HO.out hlt)
      obtain ⟨q, hq⟩ : ∃ q, q = n + k := ⟨_, rfl⟩
      have HQI : Hid ((n : Int) + (k : Int) = (q : Int)) := by show _ = _; omega
      rw [← hq] at KE
      have HM := hid2 hm
      clear hal hlen ha hq hm
      go_wp2_with fail
      refine (show Calls _ _ _ _ _ from KE.out).mono ?_
      rintro e w1 ⟨rfl, hw⟩
      cases hw
      go_wp2_with fail
      go_loopg [7, 29] (m + 1) (fun gj at_ c wi => ∃ (j : Nat) (x : Int), j ≤ m ∧ gj = m + 1 - j ∧ c = .int .i64 (j : Int) ∧ at_ = .int .i64 x ∧ (((n : Int) + (k : Int)) :: a)[j]? = some x ∧ wi = wr)
      case atStart => exact ⟨0, _, Nat.zero_le _, rfl, rfl, rfl, by rw [HQI.out]; rfl, rfl⟩
      case round =>
        obtain ⟨j, x, hj, hgj, rfl, rfl, hx, hwi⟩ := hrel
        subst hwi
        have HGJ := hid2 hgj
        clear hgj
        obtain ⟨p, z, rfl, hp, hB, hz, hA, hP, hnx, hend⟩ := HST.out j x hx
        have hpN : p < N := by have := HN.out; omega
        have hzN : z < N := by have := HN.out; omega
        obtain ⟨_, c6, _, _⟩ := HO.out.link hpN
        obtain ⟨c7, _, c8, _⟩ := HO.out.link hzN
        rw [hB] at c6
        rw [hA] at c7
        rw [hP] at c8
        have hz3 : (z : Int) = (q : Int) ↔ j = m := by rw [← HQI.out]; exact hend
        clear hend hB hA hP hx hp hz
        by_cases hjm : j < m
        · rw [if_pos hjm] at hnx
          have HX := hid2 hnx
          have d1 : ((z : Int) == (q : Int)) = false := by
            rw [beq_eq_false_iff_ne]
            intro e
            have := hz3.1 e
            omega
          clear hnx hz3
          go_wp2_with fail
          go_roundg (m + 1 - (j + 1))
          case measure => rw [HGJ.out]; omega
          case rel => exact ⟨j + 1, z, by omega, rfl, by go_num, rfl, HX.out, rfl⟩
        · obtain rfl : j = m := by omega
          obtain rfl : z = q := by have := hz3.2 rfl; omega
          clear hnx hz3
          go_wp2_with fail
          go_roundg (K + 1 - (k + 1))
          case measure => rw [HG.out]; omega
          case rel => exact ⟨k + 1, by omega, rfl, by go_num, by rw [HAL.out]; go_num, rfl⟩
    · obtain rfl : k = K + 1 := by omega
      rw [HA.out]
      go_wp2
      rw [Exit.noGoto_ret]
      go_ret
      exact ⟨by simp, Below.refl _ _⟩
end Go.Proofs.YtibplphpbbajhaaDoor
