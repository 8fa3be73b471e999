/-
  step: one byte into the register.
-/
import Derived.Test.YtkbfihnoohhojaaGreatDoorQLBit
namespace Go.Proofs.YtkbfihnoohhojaaGreatDoor.Lea
open Go.RowKit

theorem stp_odd (m : Nat) (h : m % 2 = 1) : stp m 0 = m / 2 ^^^ 3988292384 := by unfold stp; rw [if_pos (by omega)]
theorem stp_even (m : Nat) (h : ¬ m % 2 = 1) : stp m 0 = m / 2 := by unfold stp; rw [if_neg (by omega)]
theorem xor_half (m : Nat) (h : m < 4294967296) : bits .xor .u32 ((m : Int) / 2) 3988292384 = ((m / 2 ^^^ 3988292384 : Nat) : Int) := by
  have := xor_u32 (m / 2) 3988292384 (by omega) (by omega)
  rw [Int.natCast_ediv] at this
  exact this
theorem run_zeros_succ (m k : Nat) : run m (zeros (k + 1)) = run (stp m 0) (zeros k) := rfl

set_option maxHeartbeats 1000000 in
set_option maxRecDepth 10000 in
theorem step_any (w : World) (n c : Nat) (hn : n < 4294967296) (hc : c < 256) :
    Calls Tryz.prog 94 #[.int .u32 (n : Int), .int .u8 (c : Int)] w fun e w' => e = .returned (.int .u32 (run n (bts c 8) : Nat)) ∧ w' = w := by
  have HR : Hid (run n (bts c 8) = run (n ^^^ c) (zeros 8)) := run_bts 8 n c hc
  have hxl : n ^^^ c < 4294967296 := Nat.xor_lt_two_pow (n := 32) hn (by omega)
  have hx := xor_u32 n c hn (by omega)
  generalize hm0 : n ^^^ c = m0 at *
  clear hm0
  go_enter Tryz.func94, Tryz.ntmps94
  go_wp2_with fail
  go_loop [0, 10] (fun a i => ∃ k m : Nat, k ≤ 8 ∧ i = .int .i64 k ∧ m < 4294967296 ∧ a = .int .u32 (m : Int) ∧ run m (zeros (8 - k)) = run m0 (zeros 8)) (fun _ i => 8 - (intOf i).toNat)
  case atStart => exact ⟨0, m0, by omega, rfl, hxl, rfl, rfl⟩
  case round =>
    clear hx hn hxl
    obtain ⟨k, m, hk, rfl, hm, rfl, hr⟩ := hrel
    have HM : Hid (run m (zeros (8 - k)) = run m0 (zeros 8)) := hr
    clear hr
    have ha := and1_u32 m hm
    have hx := xor_half m hm
    by_cases hlt : k < 8
    · have H8 : Hid (8 - k = 8 - (k + 1) + 1) := by show _ = _; omega
      have hl : m / 2 ^^^ 3988292384 < 4294967296 := Nat.xor_lt_two_pow (n := 32) (by omega) (by omega)
      by_cases ho : m % 2 = 1
      · have HS := stp_odd m ho
        generalize hq : m / 2 ^^^ 3988292384 = q at *
        have HS' : Hid (stp m 0 = q) := HS
        clear hq HS
        go_wp2
        go_round
        case rel => exact ⟨k + 1, q, by omega, by go_num, hl, by go_num, by rw [← HM.out, H8.out, run_zeros_succ, HS'.out]⟩
        case measure => simp [intOf]; omega
      · have HS' : Hid (stp m 0 = m / 2) := stp_even m ho
        go_wp2
        go_round
        case rel => exact ⟨k + 1, m / 2, by omega, by go_num, by omega, by go_num, by rw [← HM.out, H8.out, run_zeros_succ, HS'.out]⟩
        case measure => simp [intOf]; omega
    · have : k = 8 := by omega
      subst this
      go_wp2
      go_ret
      rw [HR.out, ← HM.out]
      exact ⟨rfl, rfl⟩
end Go.Proofs.YtkbfihnoohhojaaGreatDoor.Lea
