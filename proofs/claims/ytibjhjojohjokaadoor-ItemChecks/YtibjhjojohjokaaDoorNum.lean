/-
  putNumber of the program.
-/
import Derived.Test.YtibjhjojohjokaaDoorBit
namespace Go.Proofs.YtibjhjojohjokaaDoor
open Go.RowKit

theorem byte_more (n : Int) (k : Nat) : bits .or .u8 (bits .and .u8 (n / 2 ^ (7 * (k + 1)) % 256) 127) 128 = n / 128 ^ (k + 1) % 128 + if k + 1 = 0 then 0 else 128 := by
  have e : (2 : Int) ^ (7 * (k + 1)) = 128 ^ (k + 1) := by rw [Int.pow_mul]; rfl
  rw [e, and127 _ (by omega) (by omega), or128 _ (by omega) (by omega), if_neg (by omega)]
  omega

set_option maxHeartbeats 1000000 in
set_option maxRecDepth 10000 in
theorem putnum_any {w : World} {B m : Nat} {v : Value} {xs : List Value} (n : Int) (h0 : 0 ≤ n) (_h1 : n ≤ 9223372036854775807) (hown : w.ownsRow B 5 1 v m xs) (hB : B ≤ w.heap.size) (hm : m + 9 ≤ 30000) :
    Calls Tryd.prog 61 #[v, .int .i64 n] w fun e w' => ∃ sv, e = .returned sv ∧ w'.ownsRow B 5 1 sv (m + lenN n) (xs ++ U (dg n (lenN n))) ∧ Below B w w' := by
  obtain ⟨hl1, hl9⟩ := lenN_bd n
  go_enter Tryd.func61, Tryd.ntmps61
  go_wp2_with (go_at_call 41; refine (len_any n _ h0).mono ?_; rintro e w' ⟨rfl, hw⟩; have hw := hw.symm; subst hw)
  go_loopg [0, 5] (lenN n) (fun k out left wr => ∃ dn, left = .int .i64 ((k : Int) - 1) ∧ k ≤ lenN n ∧ wr.ownsRow B 5 1 out (m + dn.length) (xs ++ U dn) ∧ dn ++ dg n k = dg n (lenN n) ∧ Below B w wr)
  case atStart => exact ⟨[], rfl, Nat.le_refl _, by simpa [U] using hown, by simp, Below.refl _ _⟩
  case round =>
    obtain ⟨dn, rfl, hk, ho, hd, hbr⟩ := hrel
    have hlen : dn.length + gk = lenN n := by have := congrArg List.length hd; simpa [dg_length] using this
    have HD : Hid (dn ++ dg n gk = dg n (lenN n)) := hd
    clear hd
    rcases gk with _ | k
    · go_wp2
      go_ret
      have e := HD.out
      simp only [dg, List.append_nil] at e
      rw [← e]
      have hl : dn.length = lenN n := by omega
      rw [← hl]
      exact ⟨_, rfl, ho, hbr⟩
    · have hsz := hbr.size
      have L : Hid (dn.length + (k + 1) = lenN n) := hlen
      clear hlen
      have hdn : dn.length + 1 ≤ 9 := by have := L.out; omega
      rcases k with _ | k
      · go_wp2_with (at_builtin; refine wpList_append_sl _ rfl _ _ rfl B _ _ _ rfl (ho.alloc _) _ _ [_] rfl (sl_one_new _ _) (by simp; omega) (by simp; omega) ?_; intro v1 w1 hown1 hgrow1)
        go_roundg 0
        case measure => omega
        case rel =>
          refine ⟨dn ++ [n / 128 ^ 0 % 128 + if 0 = 0 then 0 else 128], by go_num, by omega, ?_, ?_, ?_⟩
          · rw [byte_last] at hown1
            rw [U_append, ← List.append_assoc, List.length_append]
            exact hown1
          · rw [← HD.out]; simp [dg]
          · exact (hbr.alloc (by omega) _).grown hgrow1 (by simp; omega) (fun k hk => (ho.lt k hk).1)
      · go_wp2_with (at_builtin; refine wpList_append_sl _ rfl _ _ rfl B _ _ _ rfl (ho.alloc _) _ _ [_] rfl (sl_one_new _ _) (by simp; omega) (by simp; omega) ?_; intro v1 w1 hown1 hgrow1)
        go_roundg (k + 1)
        case measure => omega
        case rel =>
          refine ⟨dn ++ [n / 128 ^ (k + 1) % 128 + if k + 1 = 0 then 0 else 128], by go_num, by omega, ?_, ?_, ?_⟩
          · rw [byte_more] at hown1
            rw [U_append, ← List.append_assoc, List.length_append]
            exact hown1
          · rw [← HD.out]; simp [dg]
          · exact (hbr.alloc (by omega) _).grown hgrow1 (by simp; omega) (fun k hk => (ho.lt k hk).1)
end Go.Proofs.YtibjhjojohjokaaDoor
