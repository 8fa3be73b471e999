/-
  Same, few and Key.
-/
import Derived.Test.YtibjhjojohjokaaDoorRefPut
namespace Go.Proofs.YtibjhjojohjokaaDoor
open Go.RowKit

theorem below_drewN (w : World) (n B : Nat) : Below B w (w.drewN n) := ⟨rfl, rfl, rfl, Nat.le_refl _, fun _ _ => rfl⟩

set_option maxHeartbeats 1000000 in
set_option maxRecDepth 10000 in
theorem same_eq {w : World} {b c : Nat} {v u : Value} {l : List Int} (h : SlAt w b v (U l)) (hc : SlAt w c u (U l)) (_hl : Byt l) :
    Calls Tryd.prog 22 #[v, u] w fun e w' => e = .returned (.bool true) ∧ Below w.heap.size w w' := by
  obtain ⟨p, cap, hu, hc1, hc2, hel⟩ := h.each
  obtain ⟨p', cap', hu', hc1', hc2', hel'⟩ := hc.each
  rw [U_length] at hu hc1 hu' hc1'
  unfold maxLen at hc2 hc2'
  subst hu hu'
  have EL : Hid (∀ (k : Nat) (x : Int), l[k]? = some x → ∃ off, p = some ⟨b, off, none⟩ ∧ b < w.heap.size ∧ w.cell? ⟨b, off + k, none⟩ = some (.int .u8 x)) := fun k x hx => hel k _ (U_at hx)
  have EL' : Hid (∀ (k : Nat) (x : Int), l[k]? = some x → ∃ off, p' = some ⟨c, off, none⟩ ∧ c < w.heap.size ∧ w.cell? ⟨c, off + k, none⟩ = some (.int .u8 x)) := fun k x hx => hel' k _ (U_at hx)
  clear hel hel' h hc _hl
  go_enter Tryd.func22, Tryd.ntmps22
  go_wp2_with fail
  go_loopg [5] l.length (fun g i wr => ∃ k : Nat, k ≤ l.length ∧ g = l.length - k ∧ i = .int .i64 k ∧ Below w.heap.size w wr)
  case atStart => exact ⟨0, Nat.zero_le _, rfl, rfl, Below.refl _ _⟩
  case round =>
    obtain ⟨k, hk, hg, rfl, hbr⟩ := hrel
    have HG : Hid (gk = l.length - k) := hg
    clear hg
    by_cases hlt : k < l.length
    · obtain ⟨x, hx⟩ : ∃ x, l[k]? = some x := ⟨l[k], List.getElem?_eq_getElem hlt⟩
      obtain ⟨off, rfl, hcl, hce⟩ := EL.out k x hx
      obtain ⟨off', rfl, hcl', hce'⟩ := EL'.out k x hx
      have q1 := (hbr.cell (p := ⟨b, off + k, none⟩) hcl).trans hce
      have q2 := (hbr.cell (p := ⟨c, off' + k, none⟩) hcl').trans hce'
      clear hx hce hce'
      have hlti : (k : Int) < (l.length : Int) := by omega
      go_wp2_with fail
      go_quiet (fail)
      go_wp2
      go_roundg (l.length - (k + 1))
      case measure => rw [HG.out]; omega
      case rel => exact ⟨k + 1, by omega, rfl, by go_num, hbr.trans (below_drewN _ _ _)⟩
    · go_wp2
      go_ret
      exact ⟨rfl, hbr⟩







/-- What is wrong with a text as a key. -/
def keyC (s : ByteArray) : Int := if s.size = 0 then 1 else if 40 < s.size then 3 else 0
theorem size_zero {s : ByteArray} (h : s.size = 0) : s = ⟨#[]⟩ := ByteArray.ext (Array.eq_empty_of_size_eq_zero h)

theorem not_empty {s : ByteArray} (h : ¬ s.size = 0) : s.toList.isEmpty = false := by
  rw [ByteArray.toList_eq]
  cases hl : s.data.toList with
  | nil => exact absurd (show s.data.size = 0 by rw [← Array.length_toList, hl]; rfl) h
  | cons _ _ => rfl

set_option maxHeartbeats 1000000 in
theorem key_any (s : ByteArray) (w : World) (hs : s.size ≤ maxLen) :
    Calls Tryd.prog 34 #[.string s] w fun e w' => e = .returned (.int .i64 (keyC s)) ∧ w' = w := by
  unfold maxLen at hs
  by_cases h0 : s.size = 0
  · have := size_zero h0
    subst this
    go_enter Tryd.func34, Tryd.ntmps34
    go_wp2
    go_ret
    exact ⟨rfl, rfl⟩
  · have hne := not_empty h0
    by_cases h40 : 40 < s.size
    · have e : keyC s = 3 := by unfold keyC; rw [if_neg h0, if_pos h40]
      rw [e]; clear e
      go_enter Tryd.func34, Tryd.ntmps34
      go_wp2
      go_ret
      exact ⟨rfl, rfl⟩
    · have e : keyC s = 0 := by unfold keyC; rw [if_neg h0, if_neg h40]
      rw [e]; clear e
      go_enter Tryd.func34, Tryd.ntmps34
      go_wp2
      go_ret
      exact ⟨rfl, rfl⟩

set_option maxHeartbeats 1000000 in
theorem rkey_any (s : ByteArray) (w : World) (hs : s.size ≤ maxLen) :
    Calls Tryd.prog 37 #[.string s] w fun e w' => e = .returned (.int .i64 (keyC s)) ∧ w' = w := by
  unfold maxLen at hs
  by_cases h0 : s.size = 0
  · have := size_zero h0
    subst this
    go_enter Tryd.func37, Tryd.ntmps37
    go_wp2
    go_ret
    exact ⟨rfl, rfl⟩
  · have hne := not_empty h0
    by_cases h40 : 40 < s.size
    · have e : keyC s = 3 := by unfold keyC; rw [if_neg h0, if_pos h40]
      rw [e]; clear e
      go_enter Tryd.func37, Tryd.ntmps37
      go_wp2
      go_ret
      exact ⟨rfl, rfl⟩
    · have e : keyC s = 0 := by unfold keyC; rw [if_neg h0, if_neg h40]
      rw [e]; clear e
      go_enter Tryd.func37, Tryd.ntmps37
      go_wp2
      go_ret
      exact ⟨rfl, rfl⟩
end Go.Proofs.YtibjhjojohjokaaDoor
