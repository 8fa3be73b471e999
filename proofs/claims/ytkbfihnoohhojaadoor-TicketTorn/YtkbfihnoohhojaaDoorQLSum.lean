/-
  More and Sum of the program, and Sum as the document has it.
-/
import Derived.Test.YtkbfihnoohhojaaDoorQLStep
namespace Go.Proofs.YtkbfihnoohhojaaDoor.Lea
open Go.RowKit

theorem take_snoc {l : List Nat} {k x : Nat} (h : l[k]? = some x) : l.take (k + 1) = l.take k ++ [x] := by
  obtain ⟨hl, rfl⟩ := List.getElem?_eq_some_iff.1 h
  exact List.take_succ_eq_append_getElem hl

theorem bitsL_snoc (l : List Nat) (x : Nat) : bitsL (l ++ [x]) = bitsL l ++ bts x 8 := by simp [bitsL]

/-- More's answer. -/
def moreN (s : Nat) (l : List Nat) : Nat := 4294967295 - run (4294967295 - s) (bitsL l)

set_option maxHeartbeats 1000000 in
set_option maxRecDepth 10000 in
theorem more_any {w : World} {b : Nat} {v : Value} {l : List Nat} (s : Nat) (hs : s < 4294967296) (h : SlAt w b v (U l)) (hby : Byt l) :
    Calls Tryd.prog 68 #[.int .u32 (s : Int), v] w fun e w' => e = .returned (.int .u32 (moreN s l : Nat)) ∧ w' = w := by
  obtain ⟨p, cap, hu, hc1, hc2, hel⟩ := h.each
  rw [U_length] at hu hc1
  unfold maxLen at hc2
  subst hu
  have EL : Hid (∀ (k x : Nat), l[k]? = some x → ∃ off, p = some ⟨b, off, none⟩ ∧ b < w.heap.size ∧ w.cell? ⟨b, off + k, none⟩ = some (.int .u8 (x : Int))) := fun k x hx => hel k _ (U_at hx)
  have BY : Hid (Byt l) := hby
  have hns := not_u32 s hs
  obtain ⟨c, hc⟩ : ∃ c, c = 4294967295 - s := ⟨_, rfl⟩
  have HC : Hid (c = 4294967295 - s) := hc
  have hcl : c < 4294967296 := by omega
  rw [← hc] at hns
  clear hel h hby hc
  go_enter Tryd.func68, Tryd.ntmps68
  go_wp2_with fail
  go_loop [5, 12] (fun a i => ∃ k n : Nat, k ≤ l.length ∧ i = .int .i64 k ∧ n < 4294967296 ∧ a = .int .u32 (n : Int) ∧ n = run c (bitsL (l.take k))) (fun _ i => l.length - (intOf i).toNat)
  case atStart => exact ⟨0, c, Nat.zero_le _, rfl, by omega, rfl, rfl⟩
  case round =>
    clear hns
    obtain ⟨k, n, hk, rfl, hn, rfl, hr⟩ := hrel
    have HN : Hid (n = run c (bitsL (l.take k))) := hr
    clear hr
    by_cases hlt : k < l.length
    · obtain ⟨x, hx⟩ : ∃ x, l[k]? = some x := ⟨l[k], List.getElem?_eq_getElem hlt⟩
      obtain ⟨off, rfl, hcl, hce⟩ := EL.out k x hx
      have hx1 := BY.out.at hx
      have HX : Hid (l[k]? = some x) := hx
      clear hx
      have hrl : run n (bts x 8) < 4294967296 := run_lt _ (by omega)
      go_wp2_with (go_at_call 73; refine (step_any _ n x hn hx1).mono ?_; rintro e w' ⟨rfl, hw⟩; have hw := hw.symm; subst hw)
      go_round
      case rel => exact ⟨k + 1, run n (bts x 8), by omega, by go_num, hrl, rfl, by rw [take_snoc HX.out, bitsL_snoc, run_append, ← HN.out]⟩
      case measure => simp [intOf]; omega
    · have HM : Hid (moreN s l = 4294967295 - n) := by
        have e := HN.out
        rw [List.take_of_length_le (by omega : l.length ≤ k), HC.out] at e
        show _ = _
        unfold moreN
        rw [← e]
      have hnn := not_u32 n hn
      go_wp2
      go_ret
      rw [HM.out]
      exact ⟨rfl, rfl⟩

theorem moreN_zero (l : List Nat) : moreN 0 l = sum32 l := rfl

set_option maxHeartbeats 1000000 in
theorem sum_any {w : World} {b : Nat} {v : Value} {l : List Nat} (h : SlAt w b v (U l)) (hby : Byt l) :
    Calls Tryd.prog 58 #[v] w fun e w' => e = .returned (.int .u32 (sum32 l : Nat)) ∧ w' = w := by
  go_enter Tryd.func58, Tryd.ntmps58
  go_wp2_with (go_at_call 68; refine (more_any 0 (by omega) h hby).mono ?_; rintro e w' ⟨rfl, hw⟩; have hw := hw.symm; subst hw)
  go_ret
  exact ⟨rfl, rfl⟩

/-- A bit of a byte. -/
theorem shr_bit (x k : Nat) : (x : Int) / 2 ^ k % 2 = ((x / 2 ^ k % 2 : Nat) : Int) := by
  rw [Int.natCast_emod, Int.natCast_ediv, Int.natCast_pow]; rfl

theorem stp_ne (n b : Nat) (hb : b < 2) (h : b ≠ n % 2) : stp n b = n / 2 ^^^ 3988292384 := by unfold stp; rw [if_pos (by omega)]
theorem stp_eq (n b : Nat) (h : b = n % 2) : stp n b = n / 2 := by unfold stp; rw [if_neg (by omega)]

end Go.Proofs.YtkbfihnoohhojaaDoor.Lea
