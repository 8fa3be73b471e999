/-
  List and at of the document.
-/
import Derived.Test.YtibplphpbbajhaaDoorWith
namespace Go.Proofs.YtibplphpbbajhaaDoor
open Go.RowKit

theorem fnd_take {L : List (List Int)} {x : Int} {k : Nat} {a : List Int} (hk : L[k]? = some a) (hn : ∀ b ∈ L.take k, ¬ x ∈ b) (hx : x ∈ a) : whereP L x = (k : Int) := by
  unfold whereP
  rw [fnd_some (i := 0) hk hx (fun j b hj hb hm => hn b (List.mem_iff_getElem?.2 ⟨j, by rw [List.getElem?_take, if_pos hj]; exact hb⟩) hm), Nat.zero_add]
set_option maxHeartbeats 1000000 in
theorem rlist_any {w : World} {B : Nat} {pL pF pU : Option Addr} {nL cL nF cF nU cU : Nat} {L : List (List Int)} (hL : LL w B (.slice pL nL cL) L) (_h64 : L.length ≤ 64) (n x : Int) :
    Calls Tryd.prog 33 #[.agg #[.slice pL nL cL, .slice pF nF cF, .slice pU nU cU, .int .i64 n], .int .i64 x] w fun e w' => e = .returned (.int .i64 (whereP L x)) ∧ Below w.heap.size w w' := by
  obtain ⟨p0, c0, hv, h1, h2, hel⟩ := hL.each
  simp only [Value.slice.injEq] at hv
  obtain ⟨rfl, rfl, rfl⟩ := hv
  unfold maxLen at h2
  have A1 : Below w.heap.size w (w.alloc (.cells #[.slice pL L.length cL, .slice pF nF cF, .slice pU nU cU, .int .i64 n] 32)) := by go_grown
  have Z1 := four_new w (.slice pL L.length cL) (.slice pF nF cF) (.slice pU nU cU) n
  obtain ⟨w1, hw1⟩ : ∃ w1, w1 = w.alloc (.cells #[.slice pL L.length cL, .slice pF nF cF, .slice pU nU cU, .int .i64 n] 32) := ⟨_, rfl⟩
  rw [← hw1] at A1 Z1
  have HA := hid2 A1
  have HZ := hid2 Z1
  have HE := hid2 hel
  have HW := hid2 hw1
  clear A1 Z1 hel hw1 hL
  go_enter Tryd.func33, Tryd.ntmps33
  go_wp2_with fail
  rw [← HW.out]
  clear HW
  obtain ⟨g0, d0, d1, d2, d3, d4⟩ := HZ.out.cells
  go_loop [5] (fun i => ∃ k : Nat, k ≤ L.length ∧ i = .int .i64 (k : Int) ∧ ∀ b ∈ L.take k, ¬ x ∈ b) (fun i => L.length - (intOf i).toNat)
  case atStart => exact ⟨0, Nat.zero_le _, rfl, fun b hb => by simp at hb⟩
  case round =>
    obtain ⟨k, hk, rfl, hn⟩ := hrel
    have HN := hid2 hn
    clear hn
    by_cases hlt : k < L.length
    · obtain ⟨a, ha⟩ : ∃ a, L[k]? = some a := ⟨L[k], List.getElem?_eq_getElem hlt⟩
      obtain ⟨b, off, u, rfl, q0, q1, q2⟩ := HE.out k a ha
      have c1 := (HA.out.cell (p := ⟨b, off + k, none⟩) q0).trans q1
      have s1 : b < w1.heap.size := Nat.lt_of_lt_of_le q0 HA.out.size
      have KH := hid2 (has_any (q2.stays HA.out) x)
      obtain ⟨pu, cu, rfl, _⟩ := q2.each
      have HAA := hid2 ha
      clear q0 q1 q2 ha
      by_cases hx : x ∈ a
      · have hd : decide (x ∈ a) = true := by simpa using hx
        have HF := hid2 (fnd_take HAA.out HN.out hx)
        go_wp2_with fail
        refine (show Calls _ _ _ _ _ from KH.out).mono ?_
        rintro e wx ⟨rfl, hw⟩
        cases hw
        go_wp2
        go_ret
        exact ⟨by rw [HF.out]; rfl, HA.out⟩
      · have hd : decide (x ∈ a) = false := by simpa using hx
        go_wp2_with fail
        refine (show Calls _ _ _ _ _ from KH.out).mono ?_
        rintro e wx ⟨rfl, hw⟩
        cases hw
        go_wp2
        go_round
        case rel =>
          refine ⟨k + 1, by omega, by go_num, ?_⟩
          rw [take_snoc HAA.out]
          intro c hc
          rcases List.mem_append.1 hc with hc | hc
          · exact HN.out c hc
          · rw [List.mem_singleton.1 hc]; exact hx
        case measure => simp [intOf]; omega
    · have HF : Hid (whereP L x = -1) := fnd_none (fun a ha => HN.out a (by rw [List.take_of_length_le (by omega)]; exact ha))
      go_wp2
      go_ret
      exact ⟨by rw [HF.out]; rfl, HA.out⟩

set_option maxHeartbeats 1000000 in
theorem at_any {w : World} {B : Nat} {pL pF pU : Option Addr} {nL cL nF cF nU cU : Nat} {s : Lst} (hL : LL w B (.slice pL nL cL) s.L) (h64 : s.L.length ≤ 64) (x : Int) :
    Calls Tryd.prog 41 #[.agg #[.slice pL nL cL, .slice pF nF cF, .slice pU nU cU, .int .i64 s.n], .int .i64 x] w fun e w' => e = .returned (.int .i64 (atP s x)) ∧ Below w.heap.size w w' := by
  have A1 : Below w.heap.size w (w.alloc (.cells #[.slice pL nL cL, .slice pF nF cF, .slice pU nU cU, .int .i64 s.n] 32)) := by go_grown
  have Z1 := four_new w (.slice pL nL cL) (.slice pF nF cF) (.slice pU nU cU) s.n
  obtain ⟨w1, hw1⟩ : ∃ w1, w1 = w.alloc (.cells #[.slice pL nL cL, .slice pF nF cF, .slice pU nU cU, .int .i64 s.n] 32) := ⟨_, rfl⟩
  rw [← hw1] at A1 Z1
  have KR := rlist_any (pF := pF) (pU := pU) (nF := nF) (cF := cF) (nU := nU) (cU := cU) (hL.stays A1) h64 s.n x
  have HA := hid2 A1
  have HW := hid2 hw1
  unfold atP
  generalize s.n = n at *
  clear A1 hw1 hL
  by_cases hx : x < 0 ∨ n ≤ x
  · rw [if_pos hx]
    clear KR Z1 HW
    by_cases h0 : x < 0
    · have hd : decide (x < 0) = true := by simpa using h0
      go_enter Tryd.func41, Tryd.ntmps41
      go_wp2
      go_ret
      exact ⟨rfl, by go_grown⟩
    · have hd : decide (x < 0) = false := by simpa using h0
      have hd2 : decide (n ≤ x) = true := by simp; omega
      go_enter Tryd.func41, Tryd.ntmps41
      go_wp2
      go_ret
      exact ⟨rfl, by go_grown⟩
  · rw [if_neg hx]
    have hd : decide (x < 0) = false := by simp; omega
    have hd2 : decide (n ≤ x) = false := by simp; omega
    have HK := hid2 KR
    generalize whereP s.L x = y at *
    clear KR hx Z1
    by_cases hy : y < 0
    · rw [if_pos hy]
      go_enter Tryd.func41, Tryd.ntmps41
      go_wp2_with fail
      rw [← HW.out]
      refine (show Calls _ _ _ _ _ from HK.out).mono ?_
      rintro e w2 ⟨rfl, hb⟩
      go_wp2
      go_ret
      exact ⟨rfl, HA.out.trans (hb.mono HA.out.size)⟩
    · rw [if_neg hy]
      go_enter Tryd.func41, Tryd.ntmps41
      go_wp2_with fail
      rw [← HW.out]
      refine (show Calls _ _ _ _ _ from HK.out).mono ?_
      rintro e w2 ⟨rfl, hb⟩
      go_wp2
      go_ret
      exact ⟨rfl, HA.out.trans (hb.mono HA.out.size)⟩
end Go.Proofs.YtibplphpbbajhaaDoor
