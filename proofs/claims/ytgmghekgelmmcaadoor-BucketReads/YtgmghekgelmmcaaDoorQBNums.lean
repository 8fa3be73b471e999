/-
  Numbers folded and stirred, and places of hashes, of the program and as the document has them.
-/
import Derived.Test.YtgmghekgelmmcaaDoorQBBit
namespace Go.Proofs.YtgmghekgelmmcaaDoor.Blo
open Go.RowKit

theorem xor_half {h : Nat} (hh : h < 18446744073709551616) : bits .xor .u64 (h : Int) ((h : Int) / 8589934592) = ((fold h : Nat) : Int) := by
  have := xor_u64 h (h / 8589934592) hh (by omega)
  rw [Int.natCast_ediv] at this
  exact this

set_option maxHeartbeats 1000000 in
theorem fold_any (w : World) (n : Nat) (hn : n < 18446744073709551616) :
    Calls Tryd.prog 67 #[.int .u64 (n : Int)] w fun e w' => e = .returned (.int .u64 ((fold n : Nat) : Int)) ∧ w' = w := by
  have hx := xor_half hn
  go_enter Tryd.func67, Tryd.ntmps67
  go_wp2
  go_ret
  exact ⟨rfl, rfl⟩
set_option maxHeartbeats 1000000 in
theorem rfold_any (w : World) (n : Nat) (hn : n < 18446744073709551616) :
    Calls Tryd.prog 81 #[.int .u64 (n : Int)] w fun e w' => e = .returned (.int .u64 ((fold n : Nat) : Int)) ∧ w' = w := by
  have hx := xor_half hn
  go_enter Tryd.func81, Tryd.ntmps81
  go_wp2
  go_ret
  exact ⟨rfl, rfl⟩

theorem mix_unf (n : Nat) : mix n = fold (mul 14181476777654086739 (fold (mul 18397679294719823053 (fold n)))) := rfl
theorem mul_a (a : Nat) : IntKind.u64.wrap ((a : Int) * 18397679294719823053) = ((mul 18397679294719823053 a : Nat) : Int) := mul_u64 a 18397679294719823053
theorem mul_b (a : Nat) : IntKind.u64.wrap ((a : Int) * 14181476777654086739) = ((mul 14181476777654086739 a : Nat) : Int) := mul_u64 a 14181476777654086739

set_option maxHeartbeats 1000000 in
theorem mix_any (w : World) (n : Nat) (hn : n < 18446744073709551616) :
    Calls Tryd.prog 41 #[.int .u64 (n : Int)] w fun e w' => e = .returned (.int .u64 ((mix n : Nat) : Int)) ∧ w' = w := by
  have h1 := fold_lt hn
  have m1 := mul_a (fold n)
  have l1 := mul_lt 18397679294719823053 (fold n)
  have h2 := fold_lt l1
  have m2 := mul_b (fold (mul 18397679294719823053 (fold n)))
  have l2 := mul_lt 14181476777654086739 (fold (mul 18397679294719823053 (fold n)))
  go_enter Tryd.func41, Tryd.ntmps41
  go_wp2_with fail
  refine (fold_any _ n hn).mono ?_
  rintro e w' ⟨rfl, hw⟩
  cases hw
  go_wp2_with fail
  refine (fold_any _ _ l1).mono ?_
  rintro e w' ⟨rfl, hw⟩
  cases hw
  go_wp2_with fail
  refine (fold_any _ _ l2).mono ?_
  rintro e w' ⟨rfl, hw⟩
  cases hw
  go_wp2
  go_ret
  exact ⟨rfl, rfl⟩
set_option maxHeartbeats 1000000 in
theorem rmix_any (w : World) (n : Nat) (hn : n < 18446744073709551616) :
    Calls Tryd.prog 70 #[.int .u64 (n : Int)] w fun e w' => e = .returned (.int .u64 ((mix n : Nat) : Int)) ∧ w' = w := by
  have h1 := fold_lt hn
  have m1 := mul_a (fold n)
  have l1 := mul_lt 18397679294719823053 (fold n)
  have h2 := fold_lt l1
  have m2 := mul_b (fold (mul 18397679294719823053 (fold n)))
  have l2 := mul_lt 14181476777654086739 (fold (mul 18397679294719823053 (fold n)))
  go_enter Tryd.func70, Tryd.ntmps70
  go_wp2_with fail
  refine (rfold_any _ n hn).mono ?_
  rintro e w' ⟨rfl, hw⟩
  cases hw
  go_wp2_with fail
  refine (rfold_any _ _ l1).mono ?_
  rintro e w' ⟨rfl, hw⟩
  cases hw
  go_wp2_with fail
  refine (rfold_any _ _ l2).mono ?_
  rintro e w' ⟨rfl, hw⟩
  cases hw
  go_wp2
  go_ret
  exact ⟨rfl, rfl⟩

/-- A key's bytes. -/
def bl (s : ByteArray) : List Nat := s.data.toList.map UInt8.toNat
theorem bl_length (s : ByteArray) : (bl s).length = s.size := by unfold bl; rw [List.length_map, Array.length_toList]; rfl
theorem bl_at (s : ByteArray) (k : Nat) (h : k < s.size) : (bl s)[k]? = some (s[k]'h).toNat := by
  have h2 : k < s.data.size := h
  unfold bl
  rw [List.getElem?_map, Array.getElem?_toList, Array.getElem?_eq_getElem h2]
  rfl
theorem bl_lt {s : ByteArray} {k x : Nat} (h : (bl s)[k]? = some x) : x < 256 := by
  have := List.mem_of_getElem? h
  simp [bl] at this
  obtain ⟨y, _, rfl⟩ := this
  exact y.toNat_lt
theorem hstep_eq (h c : Nat) (hh : h < 18446744073709551616) (hc : c < 256) : IntKind.u64.wrap (bits .xor .u64 (h : Int) (c : Int) * 1099511628211) = ((hstep h c : Nat) : Int) := by
  rw [xor_u64 h c hh (by omega)]
  exact mul_u64 _ 1099511628211
/-- What bytes make of a number. -/
def runFrom (h : Nat) (l : List Nat) : Nat := l.foldl hstep h
theorem runFrom_snoc (h : Nat) (l : List Nat) (c : Nat) : runFrom h (l ++ [c]) = hstep (runFrom h l) c := by unfold runFrom; rw [List.foldl_append, List.foldl_cons, List.foldl_nil]
theorem runFrom_lt {h : Nat} (hh : h < 18446744073709551616) (l : List Nat) : runFrom h l < 18446744073709551616 := by
  rcases List.eq_nil_or_concat l with rfl | ⟨l', c, rfl⟩
  · exact hh
  · rw [List.concat_eq_append, runFrom_snoc]; exact hstep_lt _ _
def run (l : List Nat) : Nat := runFrom 14695981039346656037 l
theorem run_nil : run [] = 14695981039346656037 := rfl
theorem run_snoc (l : List Nat) (c : Nat) : run (l ++ [c]) = hstep (run l) c := runFrom_snoc _ l c
theorem run_lt (l : List Nat) : run l < 18446744073709551616 := runFrom_lt (by decide) l
theorem hash_run (l : List Nat) : hash l = mix (run l) := rfl

set_option maxHeartbeats 1000000 in
set_option maxRecDepth 10000 in
theorem hash_any (w : World) (s : ByteArray) (hs : s.size ≤ 1000) :
    Calls Tryd.prog 17 #[.string s] w fun e w' => e = .returned (.int .u64 ((hash (bl s) : Nat) : Int)) ∧ w' = w := by
  go_enter Tryd.func17, Tryd.ntmps17
  go_wp2_with fail
  go_loop [3, 7] (fun a i => ∃ k n : Nat, k ≤ s.size ∧ i = .int .i64 k ∧ n < 18446744073709551616 ∧ a = .int .u64 (n : Int) ∧ n = run ((bl s).take k)) (fun _ i => s.size - (intOf i).toNat)
  case atStart => exact ⟨0, 14695981039346656037, Nat.zero_le _, rfl, by omega, rfl, by rw [List.take_zero, run_nil]⟩
  case round =>
    obtain ⟨k, n, hk, rfl, hn, rfl, hr⟩ := hrel
    have HN : Hid (n = run ((bl s).take k)) := hr
    clear hr
    by_cases hlt : k < s.size
    · have HX : Hid ((bl s)[k]? = some (s[k]'hlt).toNat) := bl_at s k hlt
      have hst := hstep_eq n (s[k]'hlt).toNat hn (bl_lt HX.out)
      have hwr : IntKind.u64.wrap ((s[k]'hlt).toNat : Int) = ((s[k]'hlt).toNat : Int) := wraps_u64 _ (by omega) (by have := bl_lt HX.out; omega)
      have hl := hstep_lt n (s[k]'hlt).toNat
      go_wp2
      go_round
      case rel => exact ⟨k + 1, hstep n (s[k]'hlt).toNat, by omega, by go_num, hl, rfl, by rw [take_snoc HX.out, run_snoc, ← HN.out]⟩
      case measure => simp [intOf]; omega
    · have HM : Hid (mix n = hash (bl s)) := by
        have e := HN.out
        rw [List.take_of_length_le (by rw [bl_length]; omega : (bl s).length ≤ k)] at e
        show _ = _
        rw [hash_run, e]
      go_wp2_with fail
      refine (mix_any _ n hn).mono ?_
      rintro e w' ⟨rfl, hw⟩
      cases hw
      go_wp2
      go_ret
      rw [HM.out]
      exact ⟨rfl, rfl⟩
set_option maxHeartbeats 1000000 in
set_option maxRecDepth 10000 in
theorem rhash_any (w : World) (s : ByteArray) (hs : s.size ≤ 1000) :
    Calls Tryd.prog 49 #[.string s] w fun e w' => e = .returned (.int .u64 ((hash (bl s) : Nat) : Int)) ∧ w' = w := by
  go_enter Tryd.func49, Tryd.ntmps49
  go_wp2_with fail
  go_loop [3, 4] (fun a i => ∃ k n : Nat, k ≤ s.size ∧ i = .int .i64 k ∧ n < 18446744073709551616 ∧ a = .int .u64 (n : Int) ∧ n = run ((bl s).take k)) (fun _ i => s.size - (intOf i).toNat)
  case atStart => exact ⟨0, 14695981039346656037, Nat.zero_le _, rfl, by omega, rfl, by rw [List.take_zero, run_nil]⟩
  case round =>
    obtain ⟨k, n, hk, rfl, hn, rfl, hr⟩ := hrel
    have HN : Hid (n = run ((bl s).take k)) := hr
    clear hr
    by_cases hlt : k < s.size
    · have HX : Hid ((bl s)[k]? = some (s[k]'hlt).toNat) := bl_at s k hlt
      have hst := hstep_eq n (s[k]'hlt).toNat hn (bl_lt HX.out)
      have hwr : IntKind.u64.wrap ((s[k]'hlt).toNat : Int) = ((s[k]'hlt).toNat : Int) := wraps_u64 _ (by omega) (by have := bl_lt HX.out; omega)
      have hl := hstep_lt n (s[k]'hlt).toNat
      go_wp2
      go_round
      case rel => exact ⟨k + 1, hstep n (s[k]'hlt).toNat, by omega, by go_num, hl, rfl, by rw [take_snoc HX.out, run_snoc, ← HN.out]⟩
      case measure => simp [intOf]; omega
    · have HM : Hid (mix n = hash (bl s)) := by
        have e := HN.out
        rw [List.take_of_length_le (by rw [bl_length]; omega : (bl s).length ≤ k)] at e
        show _ = _
        rw [hash_run, e]
      go_wp2_with fail
      refine (rmix_any _ n hn).mono ?_
      rintro e w' ⟨rfl, hw⟩
      cases hw
      go_wp2
      go_ret
      rw [HM.out]
      exact ⟨rfl, rfl⟩

/-- A place among so many. -/
def slotN (h : Nat) (n : Int) : Int := if n < 1 then 0 else (h : Int) % n
end Go.Proofs.YtgmghekgelmmcaaDoor.Blo
