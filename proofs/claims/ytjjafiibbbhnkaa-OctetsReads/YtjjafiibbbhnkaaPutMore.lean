/-
  Bytes and Word of the program.
-/
import Derived.Test.YtjjafiibbbhnkaaPut
namespace Go.Proofs.Ytjjafiibbbhnkaa
open Go.RowKit

set_option maxHeartbeats 1000000 in
set_option maxRecDepth 10000 in
theorem bytes_any {w : World} {b c : Nat} {v u : Value} {bs ts : List Int} (h : SlAt w b v (U bs)) (hc : SlAt w c u (U ts)) (hl : ts.length ≤ 1000) (hb : bs.length ≤ 3000) :
    Calls Try.prog 12 #[v, u] w fun e w' => ∃ sv, e = .returned sv ∧ w'.ownsRow w.heap.size 5 1 sv (bs.length + lenN ts.length + ts.length) (U (bs ++ dg ts.length (lenN ts.length) ++ ts)) ∧ Below w.heap.size w w' := by
  obtain ⟨p, cap, hu, hc1, hc2⟩ := hc.form
  rw [U_length] at hu hc1
  unfold maxLen at hc2
  subst hu
  have h9 := lenN_bd ts.length
  go_enter Try.func12, Try.ntmps12
  go_wp2_with (first
    | (go_at_call 16; refine (len_any ts.length _ (by omega)).mono ?_; rintro e w' ⟨rfl, hw⟩; have hw := hw.symm; subst hw)
    | (go_at_call 33; refine (room_any (lenN ts.length + ts.length) h (by omega)).mono ?_; rintro e w1 ⟨sv, rfl, hown, hb1⟩)
    | (go_at_call 34; refine (putnum_any ts.length (by omega) (by omega) hown hb1.size (by omega)).mono ?_; rintro e w2 ⟨sv2, rfl, hown2, hb2⟩)
    | (at_builtin; refine wpList_append_sl _ rfl _ _ rfl w.heap.size _ _ _ rfl hown2 c _ ts rfl (hc.stays (hb1.trans hb2)) (by omega) (Nat.le_trans hb1.size hb2.size) ?_; intro v3 w3 hown3 hgrow3))
  go_ret
  rw [← U_append, ← U_append] at hown3
  exact ⟨_, rfl, hown3, (hb1.trans hb2).grown hgrow3 (Nat.le_trans hb1.size hb2.size) (fun k hk => (hown2.lt k hk).1)⟩

theorem pow8 (k : Nat) : (2 : Int) ^ (8 * k) = 256 ^ k := by rw [Int.pow_mul]; rfl

set_option maxHeartbeats 1000000 in
set_option maxRecDepth 10000 in
theorem word_any {w : World} {b : Nat} {v : Value} {bs : List Int} (n : Int) (_h0 : 0 ≤ n) (_h1 : n ≤ 18446744073709551615) (h : SlAt w b v (U bs)) (hb : bs.length ≤ 3000) :
    Calls Try.prog 14 #[v, .int .u64 n] w fun e w' => ∃ sv, e = .returned sv ∧ w'.ownsRow w.heap.size 5 1 sv (bs.length + 8) (U (bs ++ wd n 8)) ∧ Below w.heap.size w w' := by
  go_enter Try.func14, Try.ntmps14
  go_wp2_with (go_at_call 33; refine (room_any 8 h (by omega)).mono ?_; rintro e w1 ⟨sv, rfl, hown, hb1⟩)
  go_loopg [5, 6] 8 (fun k out left wr => ∃ dn, left = .int .i64 ((k : Int) - 1) ∧ k ≤ 8 ∧ wr.ownsRow w.heap.size 5 1 out (bs.length + dn.length) (U (bs ++ dn)) ∧ dn ++ wd n k = wd n 8 ∧ Below w.heap.size w wr)
  case atStart => exact ⟨[], rfl, Nat.le_refl _, by simpa [U] using hown, by simp, hb1⟩
  case round =>
    clear hown hb1
    obtain ⟨dn, rfl, hk, ho, hd, hbr⟩ := hrel
    have hlen : dn.length + gk = 8 := by have := congrArg List.length hd; simpa [wd_length] using this
    have HD : Hid (dn ++ wd n gk = wd n 8) := hd
    clear hd
    rcases gk with _ | k
    · go_wp2
      go_ret
      have e := HD.out
      simp only [wd, List.append_nil] at e
      have e8 : wd n 8 = dn := e.symm
      rw [e8]
      have hl : dn.length = 8 := by omega
      rw [hl] at ho
      exact ⟨_, rfl, ho, hbr⟩
    · have hsz := hbr.size
      have L : Hid (dn.length + (k + 1) = 8) := hlen
      clear hlen
      have hdn : dn.length + 1 ≤ 8 := by have := L.out; omega
      go_wp2_with (at_builtin; refine wpList_append_sl _ rfl _ _ rfl w.heap.size _ _ _ rfl (ho.alloc _) _ _ [_] rfl (sl_one_new _ _) (by simp; omega) (by simp; omega) ?_; intro v1 w1 hown1 hgrow1)
      go_roundg k
      case measure => omega
      case rel =>
        refine ⟨dn ++ [n / 256 ^ k % 256], by go_num, by omega, ?_, ?_, ?_⟩
        · rw [pow8] at hown1
          rw [← U_append, List.append_assoc] at hown1
          rw [List.length_append]
          exact hown1
        · rw [← HD.out]; simp [wd]
        · exact (hbr.alloc (by omega) _).grown hgrow1 (by simp; omega) (fun k hk => (ho.lt k hk).1)
end Go.Proofs.Ytjjafiibbbhnkaa
