/-
  The document's answers Digits, Of, Text and Same at this seat.
-/
import Derived.Test.YthjklbgkhpchhaaDoorRef
import Derived.Laws.StructEq
namespace Go.Proofs.YthjklbgkhpchhaaDoor
open Go.RowKit Go.Extern.Stop Go.Stop Go.Extern

/-- One digit. -/
def digB (n : Nat) : ByteArray := ⟨#[UInt8.ofNat (48 + n)]⟩

theorem dig_slice (n : Nat) (h : n < 10) : (⟨#[48, 49, 50, 51, 52, 53, 54, 55, 56, 57]⟩ : ByteArray).extract n (n + 1) = digB n := by
  have : ∀ m : Fin 10, (⟨#[48, 49, 50, 51, 52, 53, 54, 55, 56, 57]⟩ : ByteArray).extract m.val (m.val + 1) = digB m.val := by decide +kernel
  exact this ⟨n, h⟩

theorem itoaB_small (n : Nat) (h : n < 10) : itoaB (n : Int) = digB n := by
  unfold itoaB digB Lib.itoa
  rw [if_neg (by omega), Int.toNat_natCast, Lib.decDigits_one h]

theorem itoaB_big (n : Nat) (h : ¬ n < 10) : itoaB (n : Int) = itoaB ((n / 10 : Nat) : Int) ++ digB (n % 10) := by
  unfold itoaB digB Lib.itoa
  rw [if_neg (by omega), if_neg (by omega), Int.toNat_natCast, Int.toNat_natCast]
  conv => lhs; rw [Lib.decDigits, dif_neg h]
  rw [ByteArray.mk_append_mk]

theorem digits_neg (n : Int) (w : World) (h : n < 0) : Calls Tryd.prog 27 #[.int .i64 n] w fun e w' => e = .returned (.string ⟨#[63]⟩) ∧ Below w.heap.size w w' := by
  go_enter Tryd.func27, Tryd.ntmps27
  go_wp2
  go_ret
  exact ⟨rfl, Below.refl _ _⟩

theorem digits_small (n : Nat) (w : World) (h : n < 10) : Calls Tryd.prog 27 #[.int .i64 n] w fun e w' => e = .returned (.string (itoaB n)) ∧ ∃ k, w' = w.drewN k := by
  have h1 : (n : Int) < 10 := by omega
  have D : Hid ((⟨#[48, 49, 50, 51, 52, 53, 54, 55, 56, 57]⟩ : ByteArray).extract n (n + 1) = itoaB n) := by unfold Hid; rw [dig_slice n h, itoaB_small n h]
  go_enter Tryd.func27, Tryd.ntmps27
  go_wp2
  go_ret
  exact ⟨by rw [← D.out]; rfl, 0, rfl⟩

theorem wrap_in (x : Int) (h0 : 0 ≤ x) (h1 : x ≤ 9223372036854775807) : IntKind.i64.wrap x = x := by rw [IntKind.wrap_i64]; omega
theorem tmod_nat (n : Nat) : (n : Int).tmod 10 = (n : Int) % 10 := Int.tmod_eq_emod_of_nonneg (by omega)

set_option maxHeartbeats 1000000 in
set_option maxRecDepth 10000 in
theorem digits_step (n : Nat) (w : World) (h : ¬ n < 10) (hn : (n : Int) ≤ 9223372036854775807)
    (ih : ∀ w, Calls Tryd.prog 27 #[.int .i64 ((n / 10 : Nat) : Int)] w fun e w' => e = .returned (.string (itoaB ((n / 10 : Nat) : Int))) ∧ ∃ k, w' = w.drewN k) :
    Calls Tryd.prog 27 #[.int .i64 n] w fun e w' => e = .returned (.string (itoaB n)) ∧ ∃ k, w' = w.drewN k := by
  have h1 : ¬ (n : Int) < 10 := by omega
  have D : Hid ((⟨#[48, 49, 50, 51, 52, 53, 54, 55, 56, 57]⟩ : ByteArray).extract (n % 10) (n % 10 + 1) = digB (n % 10) ∧ itoaB n = itoaB ((n / 10 : Nat) : Int) ++ digB (n % 10)) := ⟨dig_slice _ (by omega), itoaB_big n h⟩
  have IH : Hid (∀ w, Calls Tryd.prog 27 #[.int .i64 ((n : Int) / 10)] w fun e w' => e = .returned (.string (itoaB ((n / 10 : Nat) : Int))) ∧ ∃ k, w' = w.drewN k) := by
    intro w; have := ih w; rwa [show ((n / 10 : Nat) : Int) = (n : Int) / 10 by omega] at this ⊢
  clear ih
  have hs20 : (itoaB ((n : Int) / 10)).size ≤ 20 := itoaB_size ⟨by omega, by omega⟩ (by omega)
  have hsl : ∀ w, (Instr.slice 9 (.string ⟨#[48, 49, 50, 51, 52, 53, 54, 55, 56, 57]⟩) (some (.int .i64 ((n : Int) % 10))) (some (.int .i64 ((n : Int) % 10 + 1))) none).run Tryd.prog w = .ok (.string (digB (n % 10))) w := fun w => by
    rw [run_slice_string (P := Tryd.prog) w 9 _ .i64 .i64 ((n : Int) % 10) ((n : Int) % 10 + 1) Tryd.underlying9 (by omega) (by omega) (by show (n : Int) % 10 + 1 ≤ ((10 : Nat) : Int); omega), show ((n : Int) % 10).toNat = n % 10 by omega, show ((n : Int) % 10 + 1).toNat = n % 10 + 1 by omega, D.out.1]
  go_enter Tryd.func27, Tryd.ntmps27
  go_wp2
  refine wp_region_any (by kernel_rfl) ?_
  change wpAny _ _ _ _ _ _ _ (World.drew _)
  refine wpAny_take (i := 0) (v := .int .i64 (n : Int)) rfl (by kernel_rfl) (by kernel_rfl) (by kernel_rfl) (fun _ _ _ h => h) (Or.inl ⟨by kernel_rfl, ?_⟩) ?_
  · intro w; go_simp
  change wpAny _ _ _ _ _ _ (Act.put _ (some 13) _) _
  simp only [Act.put, List.setIfInBounds_toArray, List.set_cons_succ, List.set_cons_zero]
  refine wpAny_take (i := 1) (v := .int .i64 ((n : Int) / 10)) rfl (by kernel_rfl) (by kernel_rfl) (by kernel_rfl) (fun _ _ _ h => h) (Or.inl ⟨by kernel_rfl, ?_⟩) ?_
  · intro w; go_simp; exact wrap_in _ (by omega) (by omega)
  change wpAny _ _ _ _ _ _ (Act.put _ (some 14) _) _
  simp only [Act.put, List.setIfInBounds_toArray, List.set_cons_succ, List.set_cons_zero]
  refine wpAny_take (i := 3) (v := .string ⟨#[48, 49, 50, 51, 52, 53, 54, 55, 56, 57]⟩) rfl (by kernel_rfl) (by kernel_rfl) (by kernel_rfl) (fun _ _ _ h => h) (Or.inl ⟨by kernel_rfl, ?_⟩) ?_
  · intro w; go_simp
  change wpAny _ _ _ _ _ _ (Act.put _ (some 16) _) _
  simp only [Act.put, List.setIfInBounds_toArray, List.set_cons_succ, List.set_cons_zero]
  refine wpAny_take (i := 4) (v := .int .i64 (n : Int)) rfl (by kernel_rfl) (by kernel_rfl) (by kernel_rfl) (fun _ _ _ h => h) (Or.inl ⟨by kernel_rfl, ?_⟩) ?_
  · intro w; go_simp
  change wpAny _ _ _ _ _ _ (Act.put _ (some 17) _) _
  simp only [Act.put, List.setIfInBounds_toArray, List.set_cons_succ, List.set_cons_zero]
  refine wpAny_take (i := 5) (v := .int .i64 ((n : Int) % 10)) rfl (by kernel_rfl) (by kernel_rfl) (by kernel_rfl) (fun _ _ _ h => h) (Or.inl ⟨by kernel_rfl, ?_⟩) ?_
  · intro w; go_simp; exact tmod_nat n
  change wpAny _ _ _ _ _ _ (Act.put _ (some 18) _) _
  simp only [Act.put, List.setIfInBounds_toArray, List.set_cons_succ, List.set_cons_zero]
  refine wpAny_take (i := 6) (v := .int .i64 (n : Int)) rfl (by kernel_rfl) (by kernel_rfl) (by kernel_rfl) (fun _ _ _ h => h) (Or.inl ⟨by kernel_rfl, ?_⟩) ?_
  · intro w; go_simp
  change wpAny _ _ _ _ _ _ (Act.put _ (some 19) _) _
  simp only [Act.put, List.setIfInBounds_toArray, List.set_cons_succ, List.set_cons_zero]
  refine wpAny_take (i := 7) (v := .int .i64 ((n : Int) % 10)) rfl (by kernel_rfl) (by kernel_rfl) (by kernel_rfl) (fun _ _ _ h => h) (Or.inl ⟨by kernel_rfl, ?_⟩) ?_
  · intro w; go_simp; exact tmod_nat n
  change wpAny _ _ _ _ _ _ (Act.put _ (some 20) _) _
  simp only [Act.put, List.setIfInBounds_toArray, List.set_cons_succ, List.set_cons_zero]
  refine wpAny_take (i := 8) (v := .int .i64 ((n : Int) % 10 + 1)) rfl (by kernel_rfl) (by kernel_rfl) (by kernel_rfl) (fun _ _ _ h => h) (Or.inl ⟨by kernel_rfl, ?_⟩) ?_
  · intro w; go_simp; exact wrap_in _ (by omega) (by omega)
  change wpAny _ _ _ _ _ _ (Act.put _ (some 21) _) _
  simp only [Act.put, List.setIfInBounds_toArray, List.set_cons_succ, List.set_cons_zero]
  refine wpAny_take (i := 9) (v := .string (digB (n % 10))) rfl (by kernel_rfl) (by kernel_rfl) (by kernel_rfl) (fun _ _ _ h => h) (Or.inl ⟨by kernel_rfl, ?_⟩) ?_
  · intro w; go_simp
  change wpAny _ _ _ _ _ _ (Act.put _ (some 22) _) _
  simp only [Act.put, List.setIfInBounds_toArray, List.set_cons_succ, List.set_cons_zero]
  refine wpAny_ready (rs := [2]) (by kernel_rfl) (by simp) ?_
  refine AllReady.cons rfl (fun K hK => ?_) AllReady.nil
  go_simp
  go_wp2_with (go_at_call 27; refine (IH.out _).mono ?_; rintro e w2 ⟨rfl, k, rfl⟩)
  refine wpAny_take (i := 10) (v := .string (itoaB ((n / 10 : Nat) : Int) ++ digB (n % 10))) rfl (by kernel_rfl) (by kernel_rfl) (by kernel_rfl) (fun _ _ _ h => h) (Or.inl ⟨by kernel_rfl, ?_⟩) ?_
  · intro w; go_simp; show (itoaB ((n : Int) / 10)).size + 1 ≤ 9223372036854775807; omega
  change wpAny _ _ _ _ _ _ (Act.put _ (some 23) _) _
  simp only [Act.put, List.setIfInBounds_toArray, List.set_cons_succ, List.set_cons_zero]
  refine wpAny_take (i := 11) (v := .string (itoaB ((n / 10 : Nat) : Int) ++ digB (n % 10))) rfl (by kernel_rfl) (by kernel_rfl) (by kernel_rfl) (fun _ _ _ h => h) (Or.inl ⟨by kernel_rfl, ?_⟩) ?_
  · intro w; go_simp
  change wpAny _ _ _ _ _ _ (Act.put _ (some 2) _) _
  simp only [Act.put, List.setIfInBounds_toArray, List.set_cons_succ, List.set_cons_zero]
  refine wpAny_done (by kernel_rfl) ?_ _
  go_wp2
  go_ret
  exact ⟨by rw [D.out.2]; rfl, 1 + k, rfl⟩

theorem digits_nat (n : Nat) : (n : Int) ≤ 9223372036854775807 → ∀ w : World, Calls Tryd.prog 27 #[.int .i64 n] w fun e w' => e = .returned (.string (itoaB n)) ∧ ∃ k, w' = w.drewN k := by
  induction n using Nat.strongRecOn with
  | ind n ih =>
    intro hn w
    by_cases h : n < 10
    · exact digits_small n w h
    · exact digits_step n w h hn (ih (n / 10) (by omega) (by omega))

/-- Digits, whatever the number: as a code is told. -/
theorem digits_any {n : Int} {w : World} (h : I64 n) : Calls Tryd.prog 27 #[.int .i64 n] w fun e w' => e = .returned (.string (codeB n)) ∧ Below w.heap.size w w' := by
  unfold codeB
  by_cases h0 : n < 0
  · rw [if_pos h0]; exact digits_neg n w h0
  · rw [if_neg h0]
    obtain ⟨m, rfl⟩ : ∃ m : Nat, n = m := ⟨n.toNat, by omega⟩
    refine (digits_nat m h.2 w).mono fun e w' ⟨h1, k, h2⟩ => ⟨h1, ?_⟩
    rw [h2]; exact below_drewN (Below.refl _ _) _
end Go.Proofs.YthjklbgkhpchhaaDoor
