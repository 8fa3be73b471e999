/-
  Word of a reader of the program.
-/
import Derived.Test.YtjjafiibbbhnkaaReader
namespace Go.Proofs.Ytjjafiibbbhnkaa
open Go.RowKit

/-- What Word answers, and leaves. -/
def rdWord (bs : List Int) (a : Nat) (code : Int) : Int × Nat × Int :=
  if code = 0 then (if bs.length < a + 8 then (0, a, 6) else (wfold 0 ((bs.drop a).take 8), a + 8, 0)) else (0, a, code)

theorem wfold_snoc (l : List Int) (x : Int) : wfold 0 (l ++ [x]) = wfold 0 l * 256 + x := by simp [wfold]

theorem wfold_7 (l : List Int) (hl : Byt l) (k : Nat) (hk : l.length = k) (h7 : k ≤ 7) : 0 ≤ wfold 0 l ∧ wfold 0 l ≤ 72057594037927935 := by
  have := wfold_bd l hl 0 0 (by omega) (by simp)
  rw [hk, Nat.zero_add] at this
  have := pow7 k h7
  omega

set_option maxHeartbeats 2000000 in
set_option maxRecDepth 10000 in
theorem rdword_any {w : World} {g : Nat} {bs : List Int} {a : Nat} {code : Int} (h : Rd w g bs a code) (hby : Byt bs) (hl : bs.length ≤ 5000) :
    Calls Try.prog 26 #[.pointer (some ⟨g, 0, none⟩)] w fun e w' => e = .returned (.int .u64 (rdWord bs a code).1) ∧ Rd w' g bs (rdWord bs a code).2.1 (rdWord bs a code).2.2 ∧ w.grownBy w' (some g) := by
  have h' := h
  obtain ⟨sv, b, g1, h2, h3, h4⟩ := h
  obtain ⟨c0, c1, c2, f1, f2⟩ := cells60 g1
  clear g1
  by_cases hz : code = 0
  · subst hz
    by_cases h8 : bs.length < a + 8
    · have e : rdWord bs a 0 = (0, a, 6) := by unfold rdWord; rw [if_pos rfl, if_pos h8]
      rw [e]; clear e h2
      go_enter Try.func26, Try.ntmps26
      go_wp2_with (go_at_call 30; refine (left_any h').mono ?_; rintro e w1 ⟨rfl, n1, rfl⟩)
      go_ret
      exact ⟨rfl, (h'.drewN _).setCode _, grownBy_trans (drewN_grownBy w _ _) (setCell_grownBy _ _ _ _)⟩
    · have e : rdWord bs a 0 = (wfold 0 ((bs.drop a).take 8), a + 8, 0) := by unfold rdWord; rw [if_pos rfl, if_neg h8]
      rw [e]; clear e
      obtain ⟨off, cap, rfl, h5, h6, h7, hel⟩ := h2.elem (by rw [U_length]; omega)
      rw [U_length] at c0 h5
      unfold maxLen at h6
      have EL : Hid (∀ (k : Nat) (x : Int), bs[k]? = some x → w.cell? ⟨b, off + k, none⟩ = some (.int .u8 x)) := fun k x hx => hel k _ (U_at hx)
      have BY : Hid (Byt bs) := hby
      clear hel h2 hby
      have h8' : (a : Int) + 8 ≤ bs.length := by omega
      go_enter Try.func26, Try.ntmps26
      go_wp2_with (go_at_call 30; refine (left_any h').mono ?_; rintro e w1 ⟨rfl, n1, rfl⟩)
      go_quiet (fail)
      go_wp2_with fail
      rw [show a + 8 - a = 8 by omega]
      go_loopg [3, 32] 8 (fun gg n i wr => ∃ k : Nat, k ≤ 8 ∧ gg = 8 - k ∧ i = .int .i64 k ∧ n = .int .u64 (wfold 0 ((bs.drop a).take k)) ∧ ∃ nn, wr = w.drewN nn)
      case atStart => exact ⟨0, Nat.zero_le _, rfl, rfl, rfl, n1 + nq, World.drewN_drewN ..⟩
      case round =>
        obtain ⟨k, hk, hgg, rfl, rfl, nn, rfl⟩ := hrel
        have HG : Hid (gk = 8 - k) := hgg
        clear hgg
        by_cases hlt : k < 8
        · obtain ⟨x, hx⟩ : ∃ x, bs[a + k]? = some x := ⟨bs[a + k], List.getElem?_eq_getElem (by omega)⟩
          have hce := EL.out (a + k) x hx
          rw [← Nat.add_assoc] at hce
          obtain ⟨hx0, hx1⟩ := BY.out.at hx
          have hd : (bs.drop a)[k]? = some x := by rw [List.getElem?_drop]; exact hx
          have hlen : ((bs.drop a).take k).length = k := by rw [List.length_take, List.length_drop]; omega
          have hb7 := wfold_7 _ ((BY.out.drop a).take k) k hlen (by omega)
          have HS : Hid (wfold 0 ((bs.drop a).take (k + 1)) = wfold 0 ((bs.drop a).take k) * 256 + x) := by unfold Hid; rw [take_snoc hd, wfold_snoc]
          generalize wfold 0 ((bs.drop a).take k) = q at *
          have hor := or_u64 q x hb7.1 hb7.2 hx0 (by omega)
          obtain ⟨hq0, hq1⟩ := hb7
          clear hx hd hlen
          go_wp2
          go_roundg (8 - (k + 1))
          case measure => rw [HG.out]; omega
          case rel => exact ⟨k + 1, by omega, rfl, by go_num, by rw [HS.out], nn, rfl⟩
        · have hk8 : k = 8 := by omega
          subst hk8
          go_wp2
          go_ret
          exact ⟨rfl, (h'.drewN _).setAt (a + 8) (by omega), grownBy_trans (drewN_grownBy w _ _) (setCell_grownBy _ _ _ _)⟩
  · have e : rdWord bs a code = (0, a, code) := by unfold rdWord; rw [if_neg hz]
    rw [e]; clear e
    go_enter Try.func26, Try.ntmps26
    go_wp2
    go_ret
    exact ⟨rfl, h', ⟨rfl, rfl, rfl, Nat.le_refl _, fun _ _ _ => rfl⟩⟩
end Go.Proofs.Ytjjafiibbbhnkaa
