/-
  More and Sum of the program, and Sum as the document has it.
-/
import Derived.Test.YtkbfihnoohhojaaGreatDoorQLStep
namespace Go.Proofs.YtkbfihnoohhojaaGreatDoor.Lea
open Go.RowKit

theorem take_snoc {l : List Nat} {k x : Nat} (h : l[k]? = some x) : l.take (k + 1) = l.take k ++ [x] := by
  obtain ⟨hl, rfl⟩ := List.getElem?_eq_some_iff.1 h
  exact List.take_succ_eq_append_getElem hl

theorem bitsL_snoc (l : List Nat) (x : Nat) : bitsL (l ++ [x]) = bitsL l ++ bts x 8 := by simp [bitsL]

/-- More's answer. -/
def moreN (s : Nat) (l : List Nat) : Nat := 4294967295 - run (4294967295 - s) (bitsL l)

set_option maxHeartbeats 1000000 in
set_option maxRecDepth 10000 in
theorem more_any {w : World} {b : Nat} {v : Value} {l : List Nat} (s : Nat) (hs : s < 4294967296) (h : SlAt w b v (U l)) (hby : Byt l) :
    Calls Tryz.prog 88 #[.int .u32 (s : Int), v] w fun e w' => e = .returned (.int .u32 (moreN s l : Nat)) ∧ w' = w := by
  obtain ⟨p, cap, hu, hc1, hc2, hel⟩ := h.each
  rw [U_length] at hu hc1
  unfold maxLen at hc2
  subst hu
  have EL : Hid (∀ (k x : Nat), l[k]? = some x → ∃ off, p = some ⟨b, off, none⟩ ∧ b < w.heap.size ∧ w.cell? ⟨b, off + k, none⟩ = some (.int .u8 (x : Int))) := fun k x hx => hel k _ (U_at hx)
  have BY : Hid (Byt l) := hby
  have hns := not_u32 s hs
  obtain ⟨c, hc⟩ : ∃ c, c = 4294967295 - s := ⟨_, rfl⟩
  have HC : Hid (c = 4294967295 - s) := hc
  have hcl : c < 4294967296 := by omega
  rw [← hc] at hns
  clear hel h hby hc
  go_enter Tryz.func88, Tryz.ntmps88
  go_wp2_with fail
  go_loop [5, 12] (fun a i => ∃ k n : Nat, k ≤ l.length ∧ i = .int .i64 k ∧ n < 4294967296 ∧ a = .int .u32 (n : Int) ∧ n = run c (bitsL (l.take k))) (fun _ i => l.length - (intOf i).toNat)
  case atStart => exact ⟨0, c, Nat.zero_le _, rfl, by omega, rfl, rfl⟩
  case round =>
    clear hns
    obtain ⟨k, n, hk, rfl, hn, rfl, hr⟩ := hrel
    have HN : Hid (n = run c (bitsL (l.take k))) := hr
    clear hr
    by_cases hlt : k < l.length
    · obtain ⟨x, hx⟩ : ∃ x, l[k]? = some x := ⟨l[k], List.getElem?_eq_getElem hlt⟩
      obtain ⟨off, rfl, hcl, hce⟩ := EL.out k x hx
      have hx1 := BY.out.at hx
      have HX : Hid (l[k]? = some x) := hx
      clear hx
      have hrl : run n (bts x 8) < 4294967296 := run_lt _ (by omega)
      go_wp2_with (go_at_call 94; refine (step_any _ n x hn hx1).mono ?_; rintro e w' ⟨rfl, hw⟩; have hw := hw.symm; subst hw)
      go_round
      case rel => exact ⟨k + 1, run n (bts x 8), by omega, by go_num, hrl, rfl, by rw [take_snoc HX.out, bitsL_snoc, run_append, ← HN.out]⟩
      case measure => simp [intOf]; omega
    · have HM : Hid (moreN s l = 4294967295 - n) := by
        have e := HN.out
        rw [List.take_of_length_le (by omega : l.length ≤ k), HC.out] at e
        show _ = _
        unfold moreN
        rw [← e]
      have hnn := not_u32 n hn
      go_wp2
      go_ret
      rw [HM.out]
      exact ⟨rfl, rfl⟩

theorem moreN_zero (l : List Nat) : moreN 0 l = sum32 l := rfl

set_option maxHeartbeats 1000000 in
theorem sum_any {w : World} {b : Nat} {v : Value} {l : List Nat} (h : SlAt w b v (U l)) (hby : Byt l) :
    Calls Tryz.prog 82 #[v] w fun e w' => e = .returned (.int .u32 (sum32 l : Nat)) ∧ w' = w := by
  go_enter Tryz.func82, Tryz.ntmps82
  go_wp2_with (go_at_call 88; refine (more_any 0 (by omega) h hby).mono ?_; rintro e w' ⟨rfl, hw⟩; have hw := hw.symm; subst hw)
  go_ret
  exact ⟨rfl, rfl⟩

/-- A bit of a byte. -/
theorem shr_bit (x k : Nat) : (x : Int) / 2 ^ k % 2 = ((x / 2 ^ k % 2 : Nat) : Int) := by
  rw [Int.natCast_emod, Int.natCast_ediv, Int.natCast_pow]; rfl

theorem stp_ne (n b : Nat) (hb : b < 2) (h : b ≠ n % 2) : stp n b = n / 2 ^^^ 3988292384 := by unfold stp; rw [if_pos (by omega)]
theorem stp_eq (n b : Nat) (h : b = n % 2) : stp n b = n / 2 := by unfold stp; rw [if_neg (by omega)]

set_option maxHeartbeats 1000000 in
set_option maxRecDepth 10000 in
theorem rsum_any {w : World} {b : Nat} {v : Value} {l : List Nat} (h : SlAt w b v (U l)) (hby : Byt l) :
    Calls Tryz.prog 78 #[v] w fun e w' => e = .returned (.int .u32 (sum32 l : Nat)) ∧ w' = w := by
  obtain ⟨p, cap, hu, hc1, hc2, hel⟩ := h.each
  rw [U_length] at hu hc1
  unfold maxLen at hc2
  subst hu
  have EL : Hid (∀ (k x : Nat), l[k]? = some x → ∃ off, p = some ⟨b, off, none⟩ ∧ b < w.heap.size ∧ w.cell? ⟨b, off + k, none⟩ = some (.int .u8 (x : Int))) := fun k x hx => hel k _ (U_at hx)
  have BY : Hid (Byt l) := hby
  clear hel h hby
  go_enter Tryz.func78, Tryz.ntmps78
  go_wp2_with fail
  go_loop [3, 4] (fun a i => ∃ k n : Nat, k ≤ l.length ∧ i = .int .i64 k ∧ n < 4294967296 ∧ a = .int .u32 (n : Int) ∧ n = run 4294967295 (bitsL (l.take k))) (fun _ i => l.length - (intOf i).toNat)
  case atStart => exact ⟨0, 4294967295, Nat.zero_le _, rfl, by omega, rfl, rfl⟩
  case round =>
    obtain ⟨k, n, hk, rfl, hn, rfl, hr⟩ := hrel
    have HN : Hid (n = run 4294967295 (bitsL (l.take k))) := hr
    clear hr
    by_cases hlt : k < l.length
    · obtain ⟨x, hx⟩ : ∃ x, l[k]? = some x := ⟨l[k], List.getElem?_eq_getElem hlt⟩
      obtain ⟨off, rfl, hcl, hce⟩ := EL.out k x hx
      have hx1 := BY.out.at hx
      have HX : Hid (l[k]? = some x) := hx
      clear hx
      go_wp2_with fail
      go_loop [3, 5] (fun a i => ∃ j m : Nat, j ≤ 8 ∧ i = .int .i64 j ∧ m < 4294967296 ∧ a = .int .u32 (m : Int) ∧ m = run n (bts x j)) (fun _ i => 8 - (intOf i).toNat)
      case atStart => exact ⟨0, n, Nat.zero_le _, rfl, hn, rfl, rfl⟩
      case round =>
        obtain ⟨j, m, hj, rfl, hm, rfl, hr⟩ := hrel
        have HM : Hid (m = run n (bts x j)) := hr
        clear hr
        by_cases hj8 : j < 8
        · have hbl : x / 2 ^ j % 2 < 2 := by omega
          have HJ : Hid (run n (bts x (j + 1)) = stp m (x / 2 ^ j % 2)) := by
            show _ = _
            rw [bts_snoc, run_append, ← HM.out]; rfl
          have hsb := shr_bit x j
          by_cases hb : x / 2 ^ j % 2 = m % 2
          · have hd : ((x : Int) / 2 ^ j % 2 != (m : Int) % 2) = false := by rw [hsb, hb]; simp
            have HS : Hid (stp m (x / 2 ^ j % 2) = m / 2) := stp_eq m _ hb
            clear hsb hb hbl
            go_wp2
            go_round
            case rel => exact ⟨j + 1, m / 2, by omega, by go_num, by omega, by go_num, by rw [HJ.out, HS.out]⟩
            case measure => simp [intOf]; omega
          · have hd : ((x : Int) / 2 ^ j % 2 != (m : Int) % 2) = true := by
              rw [hsb, bne_iff_ne]
              omega
            have HS := stp_ne m _ hbl hb
            have hx := xor_half m hm
            have hl : m / 2 ^^^ 3988292384 < 4294967296 := Nat.xor_lt_two_pow (n := 32) (by omega) (by omega)
            generalize hq : m / 2 ^^^ 3988292384 = q at *
            have HS' : Hid (stp m (x / 2 ^ j % 2) = q) := HS
            clear hsb hb hbl hq HS
            go_wp2
            go_round
            case rel => exact ⟨j + 1, q, by omega, by go_num, hl, rfl, by rw [HJ.out, HS'.out]⟩
            case measure => simp [intOf]; omega
        · have : j = 8 := by omega
          subst this
          go_wp2
          go_round
          case rel => exact ⟨k + 1, m, by omega, by go_num, hm, rfl, by rw [take_snoc HX.out, bitsL_snoc, run_append, ← HN.out, ← HM.out]⟩
          case measure => simp [intOf]; omega
    · have HS : Hid (((sum32 l : Nat) : Int) = 4294967295 - (n : Int)) := by
        have e := HN.out
        rw [List.take_of_length_le (by omega : l.length ≤ k)] at e
        show _ = _
        unfold sum32 reg
        rw [← e]
        omega
      go_wp2
      go_ret
      rw [HS.out]
      exact ⟨rfl, rfl⟩
end Go.Proofs.YtkbfihnoohhojaaGreatDoor.Lea
