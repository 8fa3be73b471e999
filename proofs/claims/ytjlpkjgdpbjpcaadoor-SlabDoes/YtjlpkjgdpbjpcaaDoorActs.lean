/-
  Acts that came in, in memory; what all classes take, summed up class by class.
-/
import Derived.Test.YtjlpkjgdpbjpcaaDoorWorks
namespace Go.Proofs.YtjlpkjgdpbjpcaaDoor
open Go.RowKit

/-- An act: its kind, its class, and how often. -/
abbrev Act8 := Int × Int × Int
def I64 (x : Int) : Prop := -9223372036854775808 ≤ x ∧ x ≤ 9223372036854775807
/-- A value is, in w's memory, a slice of these acts. -/
def ActsAt (w : World) (v : Value) (os : List Act8) : Prop :=
  ∃ p cap, v = .slice p os.length cap ∧ os.length ≤ cap ∧ cap ≤ maxLen ∧ ∀ i o, os[i]? = some o → ∃ b off, p = some ⟨b, off, none⟩ ∧ b < w.heap.size ∧
    w.cell? ⟨b, off + i * 3, none⟩ = some (.int .i64 o.1) ∧ w.cell? ⟨b, off + i * 3 + 1, none⟩ = some (.int .i64 o.2.1) ∧ w.cell? ⟨b, off + i * 3 + 2, none⟩ = some (.int .i64 o.2.2) ∧ I64 o.1 ∧ I64 o.2.1 ∧ I64 o.2.2

/-- What the first classes take. -/
def psum (l : List Int) : Nat → Int
  | 0 => 0
  | c + 1 => psum l c + (cnt l (c : Int) : Int) * sz (c : Int)
theorem psum_succ (l : List Int) (c : Nat) : psum l (c + 1) = psum l c + (cnt l (c : Int) : Int) * sz (c : Int) := rfl
theorem prod_nonneg (l : List Int) (c : Int) : 0 ≤ (cnt l c : Int) * sz c := Int.mul_nonneg (by omega) (sz_nonneg c)
theorem psum_nonneg (l : List Int) (c : Nat) : 0 ≤ psum l c := by
  induction c with
  | zero => exact Int.le_refl _
  | succ c ih => have := prod_nonneg l (c : Int); rw [psum_succ]; omega
theorem psum_mono (l : List Int) (c d : Nat) : psum l c ≤ psum l (c + d) := by
  induction d with
  | zero => exact Int.le_refl _
  | succ d ih => have := prod_nonneg l ((c + d : Nat) : Int); rw [← Nat.add_assoc, psum_succ]; omega
theorem psum_all {l : List Int} (h : Cls l) : psum l 9 = used l := by
  rw [used_classes h]
  simp only [psum]
  have z0 : sz ((0 : Nat) : Int) = 32 := rfl
  have z1 : sz ((1 : Nat) : Int) = 64 := rfl
  have z2 : sz ((2 : Nat) : Int) = 128 := rfl
  have z3 : sz ((3 : Nat) : Int) = 256 := rfl
  have z4 : sz ((4 : Nat) : Int) = 512 := rfl
  have z5 : sz ((5 : Nat) : Int) = 1024 := rfl
  have z6 : sz ((6 : Nat) : Int) = 2048 := rfl
  have z7 : sz ((7 : Nat) : Int) = 4096 := rfl
  have z8 : sz ((8 : Nat) : Int) = 8192 := rfl
  rw [z0, z1, z2, z3, z4, z5, z6, z7, z8]
  show 0 + (cnt l 0 : Int) * 32 + (cnt l 1 : Int) * 64 + (cnt l 2 : Int) * 128 + (cnt l 3 : Int) * 256 + (cnt l 4 : Int) * 512 + (cnt l 5 : Int) * 1024 + (cnt l 6 : Int) * 2048 + (cnt l 7 : Int) * 4096 + (cnt l 8 : Int) * 8192 = _
  omega
theorem psum_le {l : List Int} (h : Cls l) {c : Nat} (hc : c ≤ 9) : psum l c ≤ used l := by
  rw [← psum_all h, show 9 = c + (9 - c) by omega]
  exact psum_mono l c _
end Go.Proofs.YtjlpkjgdpbjpcaaDoor
