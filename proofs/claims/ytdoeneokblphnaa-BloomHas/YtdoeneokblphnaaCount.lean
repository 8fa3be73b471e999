/-
  How many bits a filter has, of the program.
-/
import Derived.Test.YtdoeneokblphnaaNums
import Derived.Test.YtdoeneokblphnaaPop
import Derived.Deep.RegionWith
namespace Go.Proofs.Ytdoeneokblphnaa
open Go.RowKit

theorem andc {a m : Nat} (ha : a < 18446744073709551616) (hm : m < 18446744073709551616) : bits .and .u64 (a : Int) (m : Int) = ((a &&& m : Nat) : Int) := and_u64 a m ha hm
theorem and127 (x : Nat) (hx : x < 9223372036854775808) : bits .and .i64 (x : Int) 127 = ((x % 128 : Nat) : Int) := by
  have := bits_mask .i64 63 (by decide) (fun n h0 h1 => by rw [IntKind.wrap_i64]; omega) 7 (by decide) (x : Int) (by omega) (by omega)
  simpa using this

set_option maxHeartbeats 1000000 in
theorem ones_any (w : World) (n : Nat) (hn : n < 18446744073709551616) :
    Calls Try.prog 28 #[.int .u64 (n : Int)] w fun e w' => e = .returned (.int .i64 ((pop n : Nat) : Int)) ∧ w' = w := by
  obtain ⟨a1, ea1⟩ : ∃ a1, a1 = n / 2 &&& 6148914691236517205 := ⟨_, rfl⟩
  obtain ⟨b1, eb1⟩ : ∃ b1, b1 = n &&& 6148914691236517205 := ⟨_, rfl⟩
  have la1 : a1 ≤ 6148914691236517205 := by rw [ea1]; exact Nat.and_le_right
  have lb1 : b1 ≤ 6148914691236517205 := by rw [eb1]; exact Nat.and_le_right
  obtain ⟨a2, ea2⟩ : ∃ a2, a2 = (a1 + b1) / 4 &&& 3689348814741910323 := ⟨_, rfl⟩
  obtain ⟨b2, eb2⟩ : ∃ b2, b2 = (a1 + b1) &&& 3689348814741910323 := ⟨_, rfl⟩
  have la2 : a2 ≤ 3689348814741910323 := by rw [ea2]; exact Nat.and_le_right
  have lb2 : b2 ≤ 3689348814741910323 := by rw [eb2]; exact Nat.and_le_right
  obtain ⟨x, ex⟩ : ∃ x, x = ((a2 + b2) / 16 + (a2 + b2)) &&& 1085102592571150095 := ⟨_, rfl⟩
  have hx : x = byteSum 8 n := by rw [← three 8 n, m85, m51, m15, ex, ea2, eb2, ea1, eb1]; rfl
  obtain ⟨hx1, hx2⟩ := sum8 n x hx
  have h1 : bits .and .u64 ((n : Int) / 2) 6148914691236517205 = (a1 : Int) := by rw [ea1]; exact andc (a := n / 2) (m := 6148914691236517205) (by omega) (by omega)
  have h2 : bits .and .u64 (n : Int) 6148914691236517205 = (b1 : Int) := by rw [eb1]; exact andc (m := 6148914691236517205) hn (by omega)
  have h3 : bits .and .u64 (((a1 : Int) + (b1 : Int)) / 4) 3689348814741910323 = (a2 : Int) := by rw [ea2]; exact andc (a := (a1 + b1) / 4) (m := 3689348814741910323) (by omega) (by omega)
  have h4 : bits .and .u64 ((a1 : Int) + (b1 : Int)) 3689348814741910323 = (b2 : Int) := by rw [eb2]; exact andc (a := a1 + b1) (m := 3689348814741910323) (by omega) (by omega)
  have h5 : bits .and .u64 (((a2 : Int) + (b2 : Int)) / 16 + ((a2 : Int) + (b2 : Int))) 1085102592571150095 = (x : Int) := by rw [ex]; exact andc (a := (a2 + b2) / 16 + (a2 + b2)) (m := 1085102592571150095) (by omega) (by omega)
  have HX : Hid ((x + x / 256 + (x + x / 256) / 65536 + (x + x / 256 + (x + x / 256) / 65536) / 4294967296) % 128 = pop n) := hx2
  have h6 := and127 (x + x / 256 + (x + x / 256) / 65536 + (x + x / 256 + (x + x / 256) / 65536) / 4294967296) (by omega)
  rw [HX.out] at h6
  have h7 : bits .and .i64 ((x : Int) + (x : Int) / 256 + ((x : Int) + (x : Int) / 256) / 65536 + ((x : Int) + (x : Int) / 256 + ((x : Int) + (x : Int) / 256) / 65536) / 4294967296) 127 = ((pop n : Nat) : Int) := by rw [← h6]; rfl
  clear ea1 eb1 ea2 eb2 ex hx hx2 h6
  go_enter Try.func28, Try.ntmps28
  go_wp2
  go_ret
  exact ⟨rfl, rfl⟩

theorem pop_le (n : Nat) : pop n ≤ 64 := by
  have := List.countP_le_length (l := List.range 64) (p := fun k => n.testBit k)
  simpa [pop] using this

set_option maxHeartbeats 1000000 in
theorem count_any (w : World) (f g : Nat) (hf : f < 18446744073709551616) (hg : g < 18446744073709551616) :
    Calls Try.prog 21 #[.agg #[.int .u64 (f : Int), .int .u64 (g : Int)]] w fun e w' => e = .returned (.int .i64 ((pop f + pop g : Nat) : Int)) ∧ Below w.heap.size w w' := by
  have l1 := pop_le f
  have l2 := pop_le g
  have K1 := fun W => ones_any W f hf
  have K2 := fun W => ones_any W g hg
  generalize pop f = a at *
  generalize pop g = b at *
  have HK1 : Hid (∀ W, Calls Try.prog 28 #[.int .u64 (f : Int)] W fun e w' => e = .returned (.int .i64 (a : Int)) ∧ w' = W) := K1
  have HK2 : Hid (∀ W, Calls Try.prog 28 #[.int .u64 (g : Int)] W fun e w' => e = .returned (.int .i64 (b : Int)) ∧ w' = W) := K2
  clear K1 K2
  have hn : IntKind.i64.wrap ((a : Int) + (b : Int)) = ((a + b : Nat) : Int) := by rw [IntKind.wrap_i64]; omega
  go_enter Try.func21, Try.ntmps21
  go_wp2_with fail
  go_quiet (first | (go_at_call_of 28 (Value.int .u64 (f : Int)); exact Calls.quiet_of_same (HK1.out _)) | (go_at_call_of 28 (Value.int .u64 (g : Int)); exact Calls.quiet_of_same (HK2.out _)))
  go_wp2
  go_ret
  exact ⟨rfl, ((Below.refl _ _).alloc (Nat.le_refl _) _).trans (drew_below _ _ _)⟩
end Go.Proofs.Ytdoeneokblphnaa
