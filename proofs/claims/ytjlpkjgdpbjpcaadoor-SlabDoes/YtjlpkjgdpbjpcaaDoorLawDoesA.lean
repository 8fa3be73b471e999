/-
  The walk of the law SlabDoes, its first way; what its walk holds.
-/
import Derived.Test.YtjlpkjgdpbjpcaaDoorRGive
import Derived.Deep.DeepCutAuto
import Derived.Deep.CutBlock
namespace Go.Proofs.YtjlpkjgdpbjpcaaDoor
open Go.RowKit

/-- An act in memory. -/
def Thr (w : World) (b : Nat) (x y z : Int) : Prop := w.heap[b]? = some (.cells #[.int .i64 x, .int .i64 y, .int .i64 z] 39 (0, 0))
theorem Thr.cells {w : World} {b : Nat} {x y z : Int} (h : Thr w b x y z) : b < w.heap.size ∧ w.cell? ⟨b, 0, none⟩ = some (.int .i64 x) ∧ w.cell? ⟨b, 1, none⟩ = some (.int .i64 y) ∧ w.cell? ⟨b, 2, none⟩ = some (.int .i64 z) := by
  unfold Thr at h
  refine ⟨lt_of_block h, ?_, ?_, ?_⟩ <;> simp [World.cell?, h]
theorem Thr.stays {w w' : World} {b : Nat} {x y z : Int} (h : Thr w b x y z) (hb : Below w.heap.size w w') : Thr w' b x y z := heap_stays h hb
theorem Thr.grown {w w' : World} {b g : Nat} {x y z : Int} {cur : Array Value} {T : TypeId} {fr : Nat × Nat} (h : Thr w b x y z) (hg : w.grownBy w' (some g)) (ht : w.heap[g]? = some (.cells cur T fr)) (hT : T ≠ 39) : Thr w' b x y z := by
  unfold Thr at h ⊢
  have hne : b ≠ g := by
    rintro rfl
    rw [h] at ht
    simp at ht
    exact hT ht.2.1.symm
  rw [hg.block b (lt_of_block h) (by simpa using hne)]
  exact h
theorem Two.other {w w' : World} {b g : Nat} {x y : Value} {cur : Array Value} {T : TypeId} {fr : Nat × Nat} (h : Two w b x y) (hg : w.grownBy w' (some g)) (ht : w.heap[g]? = some (.cells cur T fr)) (hT : T ≠ 33) : Two w' b x y := by
  have hne : b ≠ g := by
    rintro rfl
    unfold Two at h
    rw [h] at ht
    simp at ht
    exact hT ht.2.1.symm
  exact h.grown hg (by simpa using hne)
theorem Bg.other {w w' : World} {b g : Nat} {lim : Int} {l : List Int} {cur : Array Value} {T : TypeId} {fr : Nat × Nat} (h : Bg w b lim l) (hg : w.grownBy w' (some g)) (ht : w.heap[g]? = some (.cells cur T fr)) (hT : T ≠ 54) : Bg w' b lim l := by
  unfold Bg at h ⊢
  have hne : b ≠ g := by
    rintro rfl
    rw [h] at ht
    simp at ht
    exact hT ht.2.1.symm
  rw [hg.block b (lt_of_block h) (by simpa using hne)]
  exact h
/-- All that both have, behind an act. -/
def St (w wx : World) (g tb ob : Nat) (lim kd cl nn : Int) (m : Nat) : Prop := ∃ (l : List Int) (sv : Value), Bg wx g lim l ∧ BudOk lim l ∧ Two wx tb (.int .i64 lim) sv ∧ Ls wx sv l ∧ l.length ≤ m ∧ Below w.heap.size w wx ∧ Thr wx ob kd cl nn

theorem take_len {lim : Int} {l : List Int} {c : Int} : (takeP lim l c).1.length ≤ l.length + 1 := by
  unfold takeP
  split
  · exact Nat.le_succ _
  · split
    · exact Nat.le_succ _
    · simp
theorem give_len {l : List Int} {c : Int} : (giveP l c).1.length ≤ l.length + 1 := by
  unfold giveP
  split
  · exact Nat.le_succ _
  · split
    · exact Nat.le_succ _
    · have := List.length_erase_le (l := l) (a := c); simp only; omega
theorem take_same {lim : Int} {l : List Int} {c : Int} : (takeP lim l c).2 ≠ 0 → (takeP lim l c).1 = l := by
  unfold takeP
  split
  · exact fun _ => rfl
  · split
    · exact fun _ => rfl
    · exact fun h => absurd rfl h
theorem give_same {l : List Int} {c : Int} : (giveP l c).2 ≠ 0 → (giveP l c).1 = l := by
  unfold giveP
  split
  · exact fun _ => rfl
  · split
    · exact fun _ => rfl
    · exact fun h => absurd rfl h

set_option maxHeartbeats 2000000 in
set_option maxRecDepth 10000 in
theorem does_bad {w : World} {v : Value} {os : List Act8} (hs : ActsAt w v os) (hE : ErrT w) (lim n : Int) (hb : 60 < os.length ∨ lim < 1 ∨ 1099511627776 < lim) : Calls Tryd.prog 4 #[.int .i64 lim, v, .int .i64 n] w fun e w' => e = .returned (.bool true) ∧ Below w.heap.size w w' := by
  obtain ⟨p, cap, rfl, hc1, hc2, hel⟩ := hs
  unfold maxLen at hc2
  have HE := hid2 hE
  have KW := hid2 (works_any hE)
  clear hel hE
  by_cases h60 : 60 < os.length
  · have hg : 60 < (os.length : Int) := by omega
    clear h60 hb
    go_enter Tryd.func4, Tryd.ntmps4
    go_wp2_with fail
    refine (show Calls _ _ _ _ _ from KW.out).mono ?_
    rintro e w1 ⟨rfl, hb⟩
    go_wp2
    go_ret
    exact ⟨rfl, hb⟩
  · have hg : ¬ 60 < (os.length : Int) := by omega
    have hl : lim < 1 ∨ 1099511627776 < lim := by omega
    have KN := hid2 (new_bad w lim hl)
    have KR := hid2 (fun W => rnew_bad W lim hl)
    clear hb hl
    go_enter Tryd.func4, Tryd.ntmps4
    go_wp2_with fail
    refine (show Calls _ _ _ _ _ from KN.out).mono ?_
    rintro e w1 ⟨ev, rfl, f1, b1⟩
    have F1 := hid2 f1
    have B1 := hid2 b1
    clear f1 b1
    go_wp2_with fail
    refine (show Calls _ _ _ _ _ from KR.out _).mono ?_
    rintro e w2 ⟨rfl, b2⟩
    have F2 := hid2 (F1.out.below b2)
    have B2 := hid2 (B1.out.trans (b2.mono B1.out.size))
    clear b2
    have A3 : Below w2.heap.size w2 (w2.alloc (.cells #[.int .i64 0, .slice none 0 0] 33)) := by go_grown
    obtain ⟨w3, hw3⟩ : ∃ w3, w3 = w2.alloc (.cells #[.int .i64 0, .slice none 0 0] 33) := ⟨_, rfl⟩
    rw [← hw3] at A3
    have F3 := hid2 (F2.out.below A3)
    have B3 := hid2 (B2.out.trans (A3.mono B2.out.size))
    have HW3 := hid2 hw3
    clear A3 hw3
    go_wp2_with fail
    rw [← HW3.out]
    refine (of_code (HE.out.below B3.out) F3.out.fault).mono ?_
    rintro e w4 ⟨rfl, b4⟩
    have B4 := hid2 (B3.out.trans (b4.mono B3.out.size))
    clear b4
    go_wp2_with fail
    go_loop [11] (fun i => i = .int .i64 0) (fun _ => 0)
    case atStart => rfl
    case round =>
      subst hrel
      go_wp2_with (go_at_call 11; refine (works_any (HE.out.below B4.out)).mono ?_; rintro e w5 ⟨rfl, b5⟩)
      all_goals (go_ret; exact ⟨rfl, B4.out.trans (b5.mono B4.out.size)⟩)

end Go.Proofs.YtjlpkjgdpbjpcaaDoor
