/-
  number of the program.
-/
import Derived.Test.YtgmghekgelmmcaaDoorQIRefPut
namespace Go.Proofs.YtgmghekgelmmcaaDoor.Ite
open Go.RowKit

theorem below_drewN (w : World) (n B : Nat) : Below B w (w.drewN n) := ⟨rfl, rfl, rfl, Nat.le_refl _, fun _ _ => rfl⟩

set_option maxHeartbeats 1000000 in
set_option maxRecDepth 10000 in
theorem same_eq {w : World} {b c : Nat} {v u : Value} {l : List Int} (h : SlAt w b v (U l)) (hc : SlAt w c u (U l)) (_hl : Byt l) :
    Calls Tryd.prog 50 #[v, u] w fun e w' => e = .returned (.bool true) ∧ Below w.heap.size w w' := by
  obtain ⟨p, cap, hu, hc1, hc2, hel⟩ := h.each
  obtain ⟨p', cap', hu', hc1', hc2', hel'⟩ := hc.each
  rw [U_length] at hu hc1 hu' hc1'
  unfold maxLen at hc2 hc2'
  subst hu hu'
  have EL : Hid (∀ (k : Nat) (x : Int), l[k]? = some x → ∃ off, p = some ⟨b, off, none⟩ ∧ b < w.heap.size ∧ w.cell? ⟨b, off + k, none⟩ = some (.int .u8 x)) := fun k x hx => hel k _ (U_at hx)
  have EL' : Hid (∀ (k : Nat) (x : Int), l[k]? = some x → ∃ off, p' = some ⟨c, off, none⟩ ∧ c < w.heap.size ∧ w.cell? ⟨c, off + k, none⟩ = some (.int .u8 x)) := fun k x hx => hel' k _ (U_at hx)
  clear hel hel' h hc _hl
  go_enter Tryd.func50, Tryd.ntmps50
  go_wp2_with fail
  go_loopg [5] l.length (fun g i wr => ∃ k : Nat, k ≤ l.length ∧ g = l.length - k ∧ i = .int .i64 k ∧ Below w.heap.size w wr)
  case atStart => exact ⟨0, Nat.zero_le _, rfl, rfl, Below.refl _ _⟩
  case round =>
    obtain ⟨k, hk, hg, rfl, hbr⟩ := hrel
    have HG : Hid (gk = l.length - k) := hg
    clear hg
    by_cases hlt : k < l.length
    · obtain ⟨x, hx⟩ : ∃ x, l[k]? = some x := ⟨l[k], List.getElem?_eq_getElem hlt⟩
      obtain ⟨off, rfl, hcl, hce⟩ := EL.out k x hx
      obtain ⟨off', rfl, hcl', hce'⟩ := EL'.out k x hx
      have q1 := (hbr.cell (p := ⟨b, off + k, none⟩) hcl).trans hce
      have q2 := (hbr.cell (p := ⟨c, off' + k, none⟩) hcl').trans hce'
      clear hx hce hce'
      have hlti : (k : Int) < (l.length : Int) := by omega
      go_wp2_with fail
      go_quiet (fail)
      go_wp2
      go_roundg (l.length - (k + 1))
      case measure => rw [HG.out]; omega
      case rel => exact ⟨k + 1, by omega, rfl, by go_num, hbr.trans (below_drewN _ _ _)⟩
    · go_wp2
      go_ret
      exact ⟨rfl, hbr⟩







/-- What is wrong with a text as a key. -/
def keyC (s : ByteArray) : Int := if s.size = 0 then 1 else if 40 < s.size then 3 else 0
theorem size_zero {s : ByteArray} (h : s.size = 0) : s = ⟨#[]⟩ := ByteArray.ext (Array.eq_empty_of_size_eq_zero h)

theorem not_empty {s : ByteArray} (h : ¬ s.size = 0) : s.toList.isEmpty = false := by
  rw [ByteArray.toList_eq]
  cases hl : s.data.toList with
  | nil => exact absurd (show s.data.size = 0 by rw [← Array.length_toList, hl]; rfl) h
  | cons _ _ => rfl

set_option maxHeartbeats 1000000 in
theorem key_any (s : ByteArray) (w : World) (hs : s.size ≤ maxLen) :
    Calls Tryd.prog 64 #[.string s] w fun e w' => e = .returned (.int .i64 (keyC s)) ∧ w' = w := by
  unfold maxLen at hs
  by_cases h0 : s.size = 0
  · have := size_zero h0
    subst this
    go_enter Tryd.func64, Tryd.ntmps64
    go_wp2
    go_ret
    exact ⟨rfl, rfl⟩
  · have hne := not_empty h0
    by_cases h40 : 40 < s.size
    · have e : keyC s = 3 := by unfold keyC; rw [if_neg h0, if_pos h40]
      rw [e]; clear e
      go_enter Tryd.func64, Tryd.ntmps64
      go_wp2
      go_ret
      exact ⟨rfl, rfl⟩
    · have e : keyC s = 0 := by unfold keyC; rw [if_neg h0, if_neg h40]
      rw [e]; clear e
      go_enter Tryd.func64, Tryd.ntmps64
      go_wp2
      go_ret
      exact ⟨rfl, rfl⟩

set_option maxHeartbeats 1000000 in
theorem rkey_any (s : ByteArray) (w : World) (hs : s.size ≤ maxLen) :
    Calls Tryd.prog 59 #[.string s] w fun e w' => e = .returned (.int .i64 (keyC s)) ∧ w' = w := by
  unfold maxLen at hs
  by_cases h0 : s.size = 0
  · have := size_zero h0
    subst this
    go_enter Tryd.func59, Tryd.ntmps59
    go_wp2
    go_ret
    exact ⟨rfl, rfl⟩
  · have hne := not_empty h0
    by_cases h40 : 40 < s.size
    · have e : keyC s = 3 := by unfold keyC; rw [if_neg h0, if_pos h40]
      rw [e]; clear e
      go_enter Tryd.func59, Tryd.ntmps59
      go_wp2
      go_ret
      exact ⟨rfl, rfl⟩
    · have e : keyC s = 0 := by unfold keyC; rw [if_neg h0, if_neg h40]
      rw [e]; clear e
      go_enter Tryd.func59, Tryd.ntmps59
      go_wp2
      go_ret
      exact ⟨rfl, rfl⟩
end Go.Proofs.YtgmghekgelmmcaaDoor.Ite

namespace Go.Proofs.YtgmghekgelmmcaaDoor.Ite
open Go.RowKit

theorem numG_cons (most n c : Int) (i : Nat) (r : List Int) : numG most n i (c :: r) =
    if i = 0 ∧ c = 128 then (0, 0, 5) else if most / 128 < n then (0, 0, 2)
    else if 128 ≤ c then numG most (n * 128 + c % 128) (i + 1) r
    else if most < n * 128 + c % 128 then (0, 0, 2) else (n * 128 + c % 128, i + 1, 0) := rfl

theorem drop_cons {l : List Int} {k : Nat} {x : Int} (h : l[k]? = some x) : l.drop k = x :: l.drop (k + 1) := by
  obtain ⟨hl, rfl⟩ := List.getElem?_eq_some_iff.1 h
  exact List.drop_eq_getElem_cons hl

/-- A number's three answers as a value. -/
def triple (r : Int × Nat × Int) : Value := .tuple #[.int .i64 r.1, .int .i64 r.2.1, .int .i64 r.2.2]

set_option maxHeartbeats 2000000 in
set_option maxRecDepth 10000 in
theorem number_any {w : World} {b : Nat} {v : Value} {bs : List Int} (most : Int) (h0 : 0 ≤ most) (h1 : most ≤ 9223372036854775807) (h : SlAt w b v (U bs)) (hby : Byt bs) :
    Calls Tryd.prog 82 #[v, .int .i64 most] w fun e w' => e = .returned (triple (numG most 0 0 bs)) ∧ w' = w := by
  obtain ⟨p, cap, hu, hc1, hc2, hel⟩ := h.each
  rw [U_length] at hu hc1
  unfold maxLen at hc2
  subst hu
  have EL : Hid (∀ (k : Nat) (x : Int), bs[k]? = some x → ∃ off, p = some ⟨b, off, none⟩ ∧ b < w.heap.size ∧ w.cell? ⟨b, off + k, none⟩ = some (.int .u8 x)) := fun k x hx => hel k _ (U_at hx)
  have BY : Hid (Byt bs) := hby
  generalize hR : numG most 0 0 bs = R
  have HR : Hid (numG most 0 0 bs = R) := hR
  clear hel h hby hR
  go_enter Tryd.func82, Tryd.ntmps82
  go_wp2_with fail
  go_loop [4, 11] (fun a i => ∃ (k : Nat) (n : Int), k ≤ bs.length ∧ i = .int .i64 k ∧ a = .int .i64 n ∧ 0 ≤ n ∧ n ≤ 9223372036854775807 ∧ (k = 0 → n = 0) ∧ R = numG most n k (bs.drop k)) (fun _ i => bs.length - (intOf i).toNat)
  case atStart => exact ⟨0, 0, Nat.zero_le _, rfl, rfl, by omega, by omega, fun _ => rfl, HR.out.symm⟩
  case round =>
    obtain ⟨k, n, hk, rfl, rfl, hn0, hn1, hz, hr⟩ := hrel
    by_cases hlt : k < bs.length
    · obtain ⟨x, hx⟩ : ∃ x, bs[k]? = some x := ⟨bs[k], List.getElem?_eq_getElem hlt⟩
      obtain ⟨off, rfl, hcl, hce⟩ := EL.out k x hx
      obtain ⟨hx0, hx1⟩ := BY.out.at hx
      rw [drop_cons hx, numG_cons] at hr
      clear hx
      have hand := and127 x hx0 (by omega)
      by_cases c1 : k = 0 ∧ x = 128
      · rw [if_pos c1] at hr
        obtain ⟨rfl, rfl⟩ := c1
        rw [Nat.add_zero] at hce
        have RR : Hid (R = (0, 0, 5)) := hr
        clear hr hand hz
        go_wp2
        go_ret3
        rw [RR.out]
        exact ⟨rfl, rfl⟩
      rw [if_neg c1] at hr
      by_cases c2 : most / 128 < n
      · rw [if_pos c2] at hr
        have RR : Hid (R = (0, 0, 2)) := hr
        clear hr hand hz
        by_cases k0 : k = 0
        · subst k0
          rw [Nat.add_zero] at hce
          have hx8 : ¬ x = 128 := fun e => c1 ⟨rfl, e⟩
          clear c1
          go_wp2
          go_ret3
          rw [RR.out]
          exact ⟨rfl, rfl⟩
        · clear c1
          go_wp2
          go_ret3
          rw [RR.out]
          exact ⟨rfl, rfl⟩
      rw [if_neg c2] at hr
      have hor := or_i64 n (x % 128) hn0 (by omega) (by omega) (by omega)
      by_cases c3 : 128 ≤ x
      · rw [if_pos c3] at hr
        have RR : Hid (R = numG most (n * 128 + x % 128) (k + 1) (bs.drop (k + 1))) := hr
        clear hr hz
        by_cases k0 : k = 0
        · subst k0
          rw [Nat.add_zero] at hce
          have hx8 : ¬ x = 128 := fun e => c1 ⟨rfl, e⟩
          clear c1
          go_wp2
          go_round
          case rel => exact ⟨0 + 1, n * 128 + x % 128, by omega, by go_num, rfl, by omega, by omega, by omega, RR.out⟩
          case measure => simp [intOf]; omega
        · clear c1
          go_wp2
          go_round
          case rel => exact ⟨k + 1, n * 128 + x % 128, by omega, by go_num, rfl, by omega, by omega, by omega, RR.out⟩
          case measure => simp [intOf]; omega
      rw [if_neg c3] at hr
      by_cases c4 : most < n * 128 + x % 128
      · rw [if_pos c4] at hr
        have RR : Hid (R = (0, 0, 2)) := hr
        clear hr hz c1
        have hx8 : ¬ x = 128 := by omega
        by_cases k0 : k = 0
        · subst k0
          rw [Nat.add_zero] at hce
          go_wp2
          go_ret3
          rw [RR.out]
          exact ⟨rfl, rfl⟩
        · go_wp2
          go_ret3
          rw [RR.out]
          exact ⟨rfl, rfl⟩
      · rw [if_neg c4] at hr
        have RR : Hid (R = (n * 128 + x % 128, k + 1, 0)) := hr
        clear hr hz c1
        have hx8 : ¬ x = 128 := by omega
        by_cases k0 : k = 0
        · subst k0
          rw [Nat.add_zero] at hce
          go_wp2
          go_ret3
          rw [RR.out]
          exact ⟨rfl, rfl⟩
        · go_wp2
          go_ret3
          rw [RR.out]
          exact ⟨rfl, rfl⟩
    · rw [List.drop_of_length_le (by omega : bs.length ≤ k)] at hr
      have RR : Hid (R = (0, 0, 6)) := hr
      clear hr hz
      go_wp2
      go_ret3
      rw [RR.out]
      exact ⟨rfl, rfl⟩
end Go.Proofs.YtgmghekgelmmcaaDoor.Ite
