/-
  The walk of the law TroubleHas: whatever the codes and the links, the call answers true.
-/
import Derived.Test.YthjklbgkhpchhaaDoorMade
import Derived.Test.YthjklbgkhpchhaaDoorWorks
namespace Go.Proofs.YthjklbgkhpchhaaDoor
open Go.RowKit Go.Extern.Stop Go.Stop Go.Extern

def first : ByteArray := ⟨#[102, 105, 114, 115, 116]⟩

theorem foldl_nil (l : List Lnk) : l.foldl wrapL [] = [] := by
  induction l with
  | nil => rfl
  | cons x r ih => simpa [wrapL] using ih

theorem foldl_shape (l : List Lnk) (dn : List Lnk) (z : Lnk) (h : ∀ x ∈ dn, x.2.2 = 0) : ∃ d, l.foldl wrapL (dn ++ [z]) = d ++ [z] ∧ (∀ x ∈ d, x.2.2 = 0) ∧ d.length = dn.length + l.length := by
  induction l generalizing dn with
  | nil => exact ⟨dn, rfl, h, rfl⟩
  | cons x r ih =>
    have e : wrapL (dn ++ [z]) x = ((x.1, x.2.1, 0) :: dn) ++ [z] := by unfold wrapL; rw [if_neg (by simp)]; rfl
    rw [List.foldl_cons, e]
    obtain ⟨d, h1, h2, h3⟩ := ih ((x.1, x.2.1, 0) :: dn) (fun y hy => by
      rcases List.mem_cons.1 hy with rfl | hy
      · rfl
      · exact h y hy)
    exact ⟨d, h1, h2, by rw [h3]; simp; omega⟩

theorem madeL_zero (l : List Lnk) : madeL 0 l = [] := by unfold madeL; rw [if_pos rfl]; exact foldl_nil _

theorem madeL_shape (c : Int) (l : List Lnk) (hc : c ≠ 0) : ∃ d, madeL c l = d ++ [(first, 0, c)] ∧ (∀ x ∈ d, x.2.2 = 0) ∧ d.length ≤ 30 := by
  unfold madeL
  rw [if_neg hc]
  obtain ⟨d, h1, h2, h3⟩ := foldl_shape (l.take 30) [] (first, 0, c) (by simp)
  exact ⟨d, h1, h2, by rw [h3]; simp; exact Nat.min_le_left _ _⟩

theorem madeL_length (c : Int) (l : List Lnk) : (madeL c l).length ≤ 31 := madeAt_length c l 30 (Nat.le_refl _)

theorem hits_zeros (tc : Int) (d : List Lnk) (h : ∀ x ∈ d, x.2.2 = 0) : hits tc d = false := by
  unfold hits
  rw [List.any_eq_false]
  intro x hx
  rw [h x hx]; simp

theorem hits_made (tc c : Int) (l : List Lnk) : hits tc (madeL c l) = (tc == c && c != 0) := by
  by_cases hc : c = 0
  · subst hc; rw [madeL_zero]; simp [hits]
  · obtain ⟨d, h1, h2, _⟩ := madeL_shape c l hc
    rw [h1, hits_append, hits_zeros tc d h2, hits_cons, hits_nil]
    have : (c != 0) = true := by simpa using hc
    simp [this, Bool.beq_comm]

set_option maxHeartbeats 4000000 in
set_option maxRecDepth 10000 in
theorem lawHas_any {w : World} {sv : Value} {l : List Lnk} (c tc : Int) (hg : ErrT w) (ht : Tab w) (h : Steps w sv l) :
    Calls Tryd.prog 4 #[.int .i64 c, .int .i64 tc, sv] w fun e w' => e = .returned (.bool true) ∧ Below w.heap.size w w' := by
  have hq := hits_made tc c l
  have hl := madeL_length c l
  generalize hM : madeL c l = ls at hq hl
  generalize hQ : hits tc ls = q at hq
  have M : Hid (madeL c l = ls ∧ hits tc ls = q) := ⟨hM, hQ⟩
  have hl2 : ls.length ≤ 1000 := by omega
  clear hM hQ
  have main : ∀ (b1 b2 : Bool), (tc == c) = b1 → (c != 0) = b2 → Calls Tryd.prog 4 #[.int .i64 c, .int .i64 tc, sv] w fun e w' => e = .returned (.bool true) ∧ Below w.heap.size w w' := by
    intro b1 b2 e1 e2
    rw [e1, e2] at hq
    subst hq
    go_enter Tryd.func4, Tryd.ntmps4
    go_wp2_with fail
    refine (made_any c h).mono ?_
    rintro e w1 ⟨⟨v, r, rfl, hk, hs⟩, hb1⟩
    rw [M.out.1] at hk hs
    go_wp2_with fail
    refine (has_chain tc (hg.below hb1) hk).mono ?_
    rw [M.out.2]
    rintro e w2 ⟨rfl, hb2⟩
    go_wp2_with fail
    refine (rhas_any tc (hs.stays hb2) hl2).mono ?_
    rw [M.out.2]
    rintro e w3 ⟨rfl, hb3⟩
    have hB2 := hb1.trans (hb2.mono hb1.size)
    have hB3 := hB2.trans (hb3.mono hB2.size)
    have hk3 := (hk.stays hb2).stays hb3
    cases b1 <;> cases b2
    all_goals
      go_wp2_with fail
      refine (has_chain tc (hg.below hB3) hk3).mono ?_
      rw [M.out.2]
      rintro e w4 ⟨rfl, hb4⟩
      have hB4 := hB3.trans (hb4.mono hB3.size)
      go_wp2_with fail
      refine (works_any (hg.below hB4) (ht.below hB4)).mono ?_
      rintro e w5 ⟨rfl, hb5⟩
      go_wp2
      go_ret
      exact ⟨rfl, hB4.trans (hb5.mono hB4.size)⟩
  exact main _ _ rfl rfl
end Go.Proofs.YthjklbgkhpchhaaDoor
