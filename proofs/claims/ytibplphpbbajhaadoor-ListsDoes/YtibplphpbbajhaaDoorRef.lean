/-
  Numbers of the document: Ints, Has, But, ahead, Last.
-/
import Derived.Test.YtibplphpbbajhaaDoorMem
namespace Go.Proofs.YtibplphpbbajhaaDoor
open Go.RowKit

theorem ne_take {l m : List Int} {k : Nat} {x y : Int} (hl : l.length = m.length) (hx : l[k]? = some x) (hy : m[k]? = some y) (hne : x ≠ y) : decide (l = m) = false := by
  simp only [decide_eq_false_iff_not]
  rintro rfl
  rw [hx] at hy
  exact hne (Option.some.inj hy)
set_option maxHeartbeats 1000000 in
theorem ints_any {w : World} {B B' : Nat} {v u : Value} {l m : List Int} (ha : Ls w B v l) (hb : Ls w B' u m) : Calls Tryd.prog 19 #[v, u] w fun e w' => e = .returned (.bool (decide (l = m))) ∧ Below w.heap.size w w' := by
  obtain ⟨p, cap, rfl, h2, h3, hel⟩ := ha.each
  obtain ⟨p', cap', rfl, h2', h3', hel'⟩ := hb.each
  unfold maxLen at h3 h3'
  have HE := hid2 hel
  have HE' := hid2 hel'
  clear hel hel' ha hb
  by_cases hlen : l.length = m.length
  · have hd : ((l.length : Int) != (m.length : Int)) = false := by rw [hlen]; simp
    go_enter Tryd.func19, Tryd.ntmps19
    go_wp2_with fail
    go_loopg [5] l.length (fun gk i wr => ∃ k : Nat, k ≤ l.length ∧ gk = l.length - k ∧ i = .int .i64 (k : Int) ∧ l.take k = m.take k ∧ Below w.heap.size w wr)
    case atStart => exact ⟨0, Nat.zero_le _, rfl, rfl, rfl, Below.refl _ _⟩
    case round =>
      obtain ⟨k, hk, hgk, rfl, htk, hb⟩ := hrel
      have HG := hid2 hgk
      have HT := hid2 htk
      have HB := hid2 hb
      clear hgk htk hb
      by_cases hlt : k < l.length
      · obtain ⟨x, hx⟩ : ∃ x, l[k]? = some x := ⟨l[k], List.getElem?_eq_getElem hlt⟩
        have hlt2 : k < m.length := by omega
        obtain ⟨y, hy⟩ : ∃ y, m[k]? = some y := ⟨m[k], List.getElem?_eq_getElem hlt2⟩
        obtain ⟨b, off, rfl, q0, q1⟩ := HE.out k x hx
        obtain ⟨b', off', rfl, r0, r1⟩ := HE'.out k y hy
        have c1 := (HB.out.cell (p := ⟨b, off + k, none⟩) q0).trans q1
        have c2 := (HB.out.cell (p := ⟨b', off' + k, none⟩) r0).trans r1
        have s1 : b < wr.heap.size := Nat.lt_of_lt_of_le q0 HB.out.size
        have s2 : b' < wr.heap.size := Nat.lt_of_lt_of_le r0 HB.out.size
        have HX := hid2 hx
        have HY := hid2 hy
        have HL := hid2 hlen
        clear q0 q1 r0 r1 hx hy hlen
        by_cases hxy : x = y
        · subst hxy
          go_wp2_with fail
          go_quiet (fail)
          go_wp2
          go_roundg (l.length - (k + 1))
          case measure => rw [HG.out]; omega
          case rel => exact ⟨k + 1, by omega, rfl, by go_num, by rw [take_snoc HX.out, take_snoc HY.out, HT.out], HB.out.trans (drew_below _ _ _)⟩
        · have hd2 : (x != y) = true := by rw [bne_iff_ne]; exact hxy
          go_wp2_with fail
          go_quiet (fail)
          go_wp2
          go_ret
          exact ⟨by rw [ne_take HL.out HX.out HY.out hxy]; rfl, HB.out.trans (drew_below _ _ _)⟩
      · have hkl : k = l.length := by omega
        have e : decide (l = m) = true := by
          have h := HT.out
          rw [hkl, List.take_length, hlen, List.take_length] at h
          simpa using h
        have HX := hid2 e
        clear hkl e
        go_wp2
        go_ret
        exact ⟨by rw [HX.out]; rfl, HB.out⟩
  · have e : decide (l = m) = false := by
      simp only [decide_eq_false_iff_not]
      rintro rfl
      exact hlen rfl
    have hd : ((l.length : Int) != (m.length : Int)) = true := by rw [bne_iff_ne]; omega
    rw [e]
    go_enter Tryd.func19, Tryd.ntmps19
    go_wp2
    go_ret
    exact ⟨rfl, Below.refl _ _⟩

set_option maxHeartbeats 1000000 in
theorem has_any {w : World} {B : Nat} {v : Value} {l : List Int} (ha : Ls w B v l) (x : Int) : Calls Tryd.prog 42 #[v, .int .i64 x] w fun e w' => e = .returned (.bool (decide (x ∈ l))) ∧ w' = w := by
  obtain ⟨p, cap, rfl, h2, h3, hel⟩ := ha.each
  unfold maxLen at h3
  have HE := hid2 hel
  clear hel ha
  go_enter Tryd.func42, Tryd.ntmps42
  go_wp2_with fail
  go_loop [5] (fun i => ∃ k : Nat, k ≤ l.length ∧ i = .int .i64 (k : Int) ∧ ¬ x ∈ l.take k) (fun i => l.length - (intOf i).toNat)
  case atStart => exact ⟨0, Nat.zero_le _, rfl, by simp⟩
  case round =>
    obtain ⟨k, hk, rfl, hnx⟩ := hrel
    have HN := hid2 hnx
    clear hnx
    by_cases hlt : k < l.length
    · obtain ⟨y, hy⟩ : ∃ y, l[k]? = some y := ⟨l[k], List.getElem?_eq_getElem hlt⟩
      obtain ⟨b, off, rfl, q0, q1⟩ := HE.out k y hy
      have HY := hid2 hy
      clear hy
      by_cases hxy : y = x
      · have e : decide (x ∈ l) = true := by simpa using List.mem_of_getElem? (hxy ▸ HY.out)
        have HX := hid2 e
        have hd : (y == x) = true := by simpa using hxy
        clear hxy e
        go_wp2
        go_ret
        exact ⟨by rw [HX.out]; rfl, rfl⟩
      · have hd : (y == x) = false := by simpa using hxy
        go_wp2
        go_round
        case rel => exact ⟨k + 1, by omega, by go_num, by rw [take_snoc HY.out]; exact fun hm => (List.mem_append.1 hm).elim HN.out (fun hm => hxy (List.mem_singleton.1 hm).symm)⟩
        case measure => simp [intOf]; omega
    · have e : decide (x ∈ l) = false := by
        have h := HN.out
        rw [List.take_of_length_le (by omega)] at h
        simpa using h
      have HX := hid2 e
      clear e
      go_wp2
      go_ret
      exact ⟨by rw [HX.out]; rfl, rfl⟩

theorem rlast_any {w : World} {B : Nat} {v : Value} {l : List Int} (ha : Ls w B v l) : Calls Tryd.prog 32 #[v] w fun e w' => e = .returned (.int .i64 (lastP l)) ∧ w' = w := by
  obtain ⟨p, cap, rfl, h2, h3, hel⟩ := ha.each
  unfold maxLen at h3
  rcases List.eq_nil_or_concat l with rfl | ⟨m, z, rfl⟩
  · clear hel ha
    go_enter Tryd.func32, Tryd.ntmps32
    go_wp2
    go_ret
    exact ⟨rfl, rfl⟩
  · rw [List.concat_eq_append] at *
    rw [lastP_snoc]
    obtain ⟨b, off, rfl, q0, q1⟩ := hel m.length z (by simp)
    rw [List.length_append, List.length_singleton] at *
    have hz : ¬ ((m.length : Int) + 1 = 0) := by omega
    generalize m.length = n at *
    clear hel ha
    go_enter Tryd.func32, Tryd.ntmps32
    go_wp2
    go_ret
    exact ⟨rfl, rfl⟩

set_option maxHeartbeats 1000000 in
theorem ahead_any {w : World} {B : Nat} {v : Value} {l : List Int} (ha : Ls w B v l) (hB : B ≤ w.heap.size) (hl : l.length ≤ 4000) (x : Int) : Calls Tryd.prog 40 #[v, .int .i64 x] w fun e w' => ∃ u, e = .returned u ∧ Ls w' B u (x :: l) ∧ Below w.heap.size w w' := by
  obtain ⟨b, hb, hs, _⟩ := ha
  have A1 : Below w.heap.size w (w.alloc (.cells #[.int .i64 x] 3)) := by go_grown
  have HO := hid2 (World.ownsRow_lit (base := w.heap.size) (e := 3) (size := 1) w #[.int .i64 x] 1 (Nat.le_refl _) (by unfold maxLen; omega) rfl)
  have HS := hid2 (hs.stays A1)
  obtain ⟨w1, hw1⟩ : ∃ w1, w1 = w.alloc (.cells #[.int .i64 x] 3) := ⟨_, rfl⟩
  rw [← hw1] at HO HS A1
  have HA := hid2 A1
  have HW := hid2 hw1
  have hsz : w.heap.size ≤ w1.heap.size := A1.size
  obtain ⟨p, cap, hv, _⟩ := hs.form
  rw [I_length] at hv
  subst hv
  clear hs A1 hw1
  go_enter Tryd.func40, Tryd.ntmps40
  go_wp2_with (at_builtin; rw [← HW.out]; clear HW; go_loud (refine wpList_append_gen Tryd.underlying30 elem3 rfl (by decide) _ rfl _ _ rfl w.heap.size (.slice (some ⟨w.heap.size, 0, none⟩) 1 1) 1 (I [x]) rfl HO.out b _ (I l) (I_one _) rfl HS.out (by rw [I_length]; omega) hsz ?_; intro v1 w2 hown hgrow))
  go_ret
  refine ⟨_, rfl, Ls.own (l := x :: l) (by rw [show I (x :: l) = I [x] ++ I l from I_append [x] l]; exact hown) hB, HA.out.grown hgrow HA.out.size (fun k hk => (HO.out.lt k hk).1)⟩

set_option maxHeartbeats 1000000 in
theorem but_any {w : World} {B : Nat} {v : Value} {l : List Int} (ha : Ls w B v l) (hB : B ≤ w.heap.size) (hl : l.length ≤ 4000) (x : Int) : Calls Tryd.prog 20 #[v, .int .i64 x] w fun e w' => ∃ u, e = .returned u ∧ Ls w' B u (but l x) ∧ Below w.heap.size w w' := by
  obtain ⟨p, cap, rfl, h2, h3, hel⟩ := ha.each
  unfold maxLen at h3
  have HE := hid2 hel
  clear hel ha
  go_enter Tryd.func20, Tryd.ntmps20
  go_wp2_with fail
  go_loopg [5, 6] l.length (fun gk out i wr => ∃ (k n : Nat), k ≤ l.length ∧ gk = l.length - k ∧ i = .int .i64 (k : Int) ∧ n ≤ k ∧ wr.ownsRow w.heap.size 3 1 out n (I (but (l.take k) x)) ∧ Below w.heap.size w wr)
  case atStart => exact ⟨0, 0, Nat.zero_le _, rfl, rfl, Nat.le_refl _, by simpa [but, I] using World.ownsRow_nil w w.heap.size 3 1, Below.refl _ _⟩
  case round =>
    obtain ⟨k, n, hk, hgk, rfl, hnk, ho, hb⟩ := hrel
    have HG := hid2 hgk
    have HO := hid2 ho
    have HB := hid2 hb
    obtain ⟨pv, cp, rfl⟩ : ∃ p cap, u5 = Value.slice p n cap := by
      rcases ho.2 with ⟨rfl, h0⟩ | ⟨gb, cap, _, rfl, _⟩
      · exact ⟨none, 0, by rw [h0]⟩
      · exact ⟨_, cap, rfl⟩
    clear hgk ho hb
    have hsz := HB.out.size
    by_cases hlt : k < l.length
    · obtain ⟨y, hy⟩ : ∃ y, l[k]? = some y := ⟨l[k], List.getElem?_eq_getElem hlt⟩
      obtain ⟨b, off, rfl, q0, q1⟩ := HE.out k y hy
      have c1 := (HB.out.cell (p := ⟨b, off + k, none⟩) q0).trans q1
      have s1 : b < wr.heap.size := Nat.lt_of_lt_of_le q0 HB.out.size
      have HY := hid2 (but_take_snoc hy x)
      clear q0 q1 hy
      by_cases hxy : y = x
      · have hd : (y != x) = false := by rw [hxy]; simp
        have HY2 : Hid (but (l.take (k + 1)) x = but (l.take k) x) := by show _ = _; rw [HY.out, if_pos hxy, List.append_nil]
        clear hxy
        go_wp2
        go_roundg (l.length - (k + 1))
        case measure => rw [HG.out]; omega
        case rel => exact ⟨k + 1, n, by omega, rfl, by go_num, by omega, by rw [HY2.out]; exact HO.out, HB.out⟩
      · have hd : (y != x) = true := by rw [bne_iff_ne]; exact hxy
        have HY2 : Hid (but (l.take (k + 1)) x = but (l.take k) x ++ [y]) := by show _ = _; rw [HY.out, if_neg hxy]
        clear hxy
        go_wp2_with (at_builtin; go_loud (refine wpList_append_gen Tryd.underlying30 elem3 rfl (by decide) _ rfl _ _ rfl w.heap.size _ _ _ rfl (HO.out.alloc _) _ _ (I [y]) (I_one _) rfl (sl_one_new _ _ _) (by simp [I]; omega) (by simp; omega) ?_; intro v1 w1 hown1 hgrow1))
        go_roundg (l.length - (k + 1))
        case measure => rw [HG.out]; omega
        case rel =>
          refine ⟨k + 1, n + 1, by omega, rfl, by go_num, by omega, ?_, (HB.out.alloc hsz (.cells #[.int .i64 y] 3)).grown hgrow1 (by simp; omega) (fun k hk => (HO.out.lt k hk).1)⟩
          rw [HY2.out, I_append]
          exact hown1
    · have e : l.take k = l := List.take_of_length_le (by omega)
      have HO2 : Hid (wr.ownsRow w.heap.size 3 1 (.slice pv n cp) n (I (but l x))) := by have := HO.out; rwa [e] at this
      clear e
      go_wp2
      go_ret
      exact ⟨_, rfl, Ls.own HO2.out hB, HB.out⟩
end Go.Proofs.YtibplphpbbajhaaDoor
