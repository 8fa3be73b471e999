/-
  Bits: what and, or and shifts of the program are as numbers.
-/
import Derived.Test.YtgmghekgelmmcaaDoorQILen
namespace Go.Proofs.YtgmghekgelmmcaaDoor.Ite
open Go.RowKit

set_option maxHeartbeats 1000000 in
set_option maxRecDepth 10000 in
theorem room_any {w : World} {b : Nat} {v : Value} {bs : List Int} (k : Nat) (h : SlAt w b v (U bs)) (hb : bs.length + k ≤ 30000) :
    Calls Tryd.prog 71 #[v, .int .i64 k] w fun e w' => ∃ sv, e = .returned sv ∧ w'.ownsRow w.heap.size 5 1 sv bs.length (U bs) ∧ Below w.heap.size w w' := by
  obtain ⟨i0, hi, hz0, hz1, hz2⟩ := Tryd.info5
  obtain ⟨p, cap, hv, h1, h2⟩ := h.form
  rw [U_length] at hv h1
  unfold maxLen at h2
  subst hv
  have hsl := h
  go_enter Tryd.func71, Tryd.ntmps71
  go_wp2_with (first
    | (at_make; refine wpList_make_own _ rfl _ _ 22 rfl w.heap.size 5 i0 (.int .u8 0) 1 Tryd.underlying22 hi hz0 hz1 .i64 .i64 _ (bs.length + k) rfl rfl (by omega) (by rw [hz2]; omega) (by unfold maxLen; omega) (Nat.le_refl _) ?_; intro w0 hown0 hgrow0)
    | (at_builtin; refine wpList_append_sl _ rfl _ _ rfl w.heap.size _ 0 [] rfl hown0 b _ bs rfl (hsl.keeps hgrow0.size (fun hlt => hgrow0.block b hlt (by simp))) (by omega) hgrow0.size ?_; intro v1 w1 hown1 hgrow1))
  go_ret
  rw [Nat.zero_add, List.nil_append] at hown1
  exact ⟨_, rfl, hown1, ((Below.refl _ _).grown hgrow0 (Nat.le_refl _) (by simp)).grown hgrow1 hgrow0.size (fun k hk => (hown0.lt k hk).1)⟩
end Go.Proofs.YtgmghekgelmmcaaDoor.Ite

namespace Go.Proofs.YtgmghekgelmmcaaDoor.Ite
open Go.RowKit

theorem and127 (x : Int) (h0 : 0 ≤ x) (h1 : x < 256) : bits .and .u8 x 127 = x % 128 := bits_mask .u8 8 (by decide) wraps_u8 7 (by decide) x h0 h1

theorem bits_or_comm (k : IntKind) (x y : Int) : bits .or k x y = bits .or k y x := by
  simp only [bits, BitVec.toNat_or, Nat.or_comm]

theorem or128 (y : Int) (h0 : 0 ≤ y) (h1 : y < 128) : bits .or .u8 y 128 = y + 128 := by
  rw [bits_or_comm, bits_join .u8 8 (by decide) wraps_u8 7 128 y (by omega) (by decide) (by decide) h0 (by simpa using h1) (by simp; omega)]
  omega

theorem or_i64 (n d : Int) (h0 : 0 ≤ n) (h1 : n ≤ 72057594037927935) (h2 : 0 ≤ d) (h3 : d < 128) : bits .or .i64 (n * 128) d = n * 128 + d :=
  bits_join .i64 63 (by decide) (fun x a b => by rw [IntKind.wrap_i64]; simp at b; omega) 7 (n * 128) d (by omega) (by simp) (by simp; omega) h2 (by simpa using h3) (by simp; omega)

theorem or_u64 (n d : Int) (h0 : 0 ≤ n) (h1 : n ≤ 72057594037927935) (h2 : 0 ≤ d) (h3 : d < 256) : bits .or .u64 (n * 256) d = n * 256 + d :=
  bits_join .u64 64 (by decide) (fun x a b => by rw [IntKind.wrap_u64]; simp at b; omega) 8 (n * 256) d (by omega) (by simp) (by simp; omega) h2 (by simpa using h3) (by simp; omega)

theorem pow_min (k : Nat) (hk : k ≤ 8) : (2 : Int) ^ min (7 * (k : Int)).toNat 64 = 128 ^ k := by
  have e : min (7 * (k : Int)).toNat 64 = 7 * k := by omega
  rw [e, Int.pow_mul]; rfl

theorem pow_min8 (k : Nat) (hk : k ≤ 7) : (2 : Int) ^ min (8 * (k : Int)).toNat 64 = 256 ^ k := by
  have e : min (8 * (k : Int)).toNat 64 = 8 * k := by omega
  rw [e, Int.pow_mul]; rfl

theorem sl_one_new (w : World) (c : Int) : SlAt (w.alloc (.cells #[.int .u8 c] 5)) w.heap.size (.slice (some ⟨w.heap.size, 0, none⟩) 1 1) (U [c]) := by
  refine .inr ⟨_, 1, rfl, by simp [U], by unfold maxLen; omega, .inr ⟨0, rfl, by simp, fun k u hk => ?_⟩⟩
  cases k with
  | zero => simp [U] at hk; subst hk; simp
  | succ k => simp [U] at hk

theorem byte_last (n : Int) : bits .and .u8 (n % 256) 127 = n / 128 ^ 0 % 128 + if 0 = 0 then 0 else 128 := by
  rw [and127 _ (by omega) (by omega)]; simp
end Go.Proofs.YtgmghekgelmmcaaDoor.Ite
