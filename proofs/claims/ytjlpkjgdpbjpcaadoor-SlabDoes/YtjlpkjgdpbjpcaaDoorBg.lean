/-
  A budget of the program in memory, and what is asked of it.
-/
import Derived.Test.YtjlpkjgdpbjpcaaDoorSize
import Derived.Deep.RegionWith
namespace Go.Proofs.YtjlpkjgdpbjpcaaDoor
open Go.RowKit

/-- The cells of a budget with these things. -/
def bud (lim : Int) (l : List Int) : Array Value := #[.int .i64 lim, .int .i64 (used l), .int .i64 (cnt l 0 : Int), .int .i64 (cnt l 1 : Int), .int .i64 (cnt l 2 : Int), .int .i64 (cnt l 3 : Int), .int .i64 (cnt l 4 : Int), .int .i64 (cnt l 5 : Int), .int .i64 (cnt l 6 : Int), .int .i64 (cnt l 7 : Int), .int .i64 (cnt l 8 : Int)]
/-- Block g is a budget with these things. -/
def Bg (w : World) (g : Nat) (lim : Int) (l : List Int) : Prop := w.heap[g]? = some (.cells (bud lim l) 54 (0, 0))
/-- What budgets there are. -/
def BudOk (lim : Int) (l : List Int) : Prop := 1 ≤ lim ∧ lim ≤ 1099511627776 ∧ Cls l ∧ used l ≤ lim
theorem cnt_le {l : List Int} (h : Cls l) {c : Int} (h0 : 0 ≤ c) (h8 : c ≤ 8) : (cnt l c : Int) ≤ used l := by
  have := used_classes h
  rcases nine h0 h8 with rfl | rfl | rfl | rfl | rfl | rfl | rfl | rfl | rfl <;> omega
theorem Bg.cells {w : World} {g : Nat} {lim : Int} {l : List Int} (h : Bg w g lim l) : g < w.heap.size ∧ w.cell? ⟨g, 0, none⟩ = some (.int .i64 lim) ∧ w.cell? ⟨g, 1, none⟩ = some (.int .i64 (used l)) ∧ ∀ o, w.frozen? ⟨g, o, none⟩ = false := by
  unfold Bg at h
  refine ⟨lt_of_block h, ?_, ?_, fun o => ?_⟩
  · simp [World.cell?, h, bud]
  · simp [World.cell?, h, bud]
  · simp [World.frozen?, h]
theorem Bg.count {w : World} {g : Nat} {lim : Int} {l : List Int} (h : Bg w g lim l) {k : Nat} (hk : k ≤ 8) : w.cell? ⟨g, 2 + k, none⟩ = some (.int .i64 (cnt l k : Int)) := by
  unfold Bg at h
  rcases (by omega : k = 0 ∨ k = 1 ∨ k = 2 ∨ k = 3 ∨ k = 4 ∨ k = 5 ∨ k = 6 ∨ k = 7 ∨ k = 8) with rfl | rfl | rfl | rfl | rfl | rfl | rfl | rfl | rfl <;> simp [World.cell?, h, bud]
theorem Bg.stays {w w' : World} {g : Nat} {lim : Int} {l : List Int} (h : Bg w g lim l) (hb : Below w.heap.size w w') : Bg w' g lim l := heap_stays h hb

theorem drew_below (w : World) (n B : Nat) : Below B w (w.drewN n) := ⟨rfl, rfl, rfl, Nat.le_refl _, fun _ _ => rfl⟩

theorem used_bg {w : World} {g : Nat} {lim : Int} {l : List Int} (h : Bg w g lim l) : Calls Tryd.prog 22 #[.pointer (some ⟨g, 0, none⟩)] w fun e w' => e = .returned (.int .i64 (used l)) ∧ w' = w := by
  obtain ⟨h1, h2, h3, h4⟩ := h.cells
  generalize used l = u at *
  clear h
  go_enter Tryd.func22, Tryd.ntmps22
  go_wp2
  go_ret
  exact ⟨rfl, rfl⟩
theorem limit_bg {w : World} {g : Nat} {lim : Int} {l : List Int} (h : Bg w g lim l) : Calls Tryd.prog 25 #[.pointer (some ⟨g, 0, none⟩)] w fun e w' => e = .returned (.int .i64 lim) ∧ w' = w := by
  obtain ⟨h1, h2, h3, h4⟩ := h.cells
  clear h
  go_enter Tryd.func25, Tryd.ntmps25
  go_wp2
  go_ret
  exact ⟨rfl, rfl⟩
theorem left_bg {w : World} {g : Nat} {lim : Int} {l : List Int} (h : Bg w g lim l) (ho : BudOk lim l) : Calls Tryd.prog 24 #[.pointer (some ⟨g, 0, none⟩)] w fun e w' => e = .returned (.int .i64 (lim - used l)) ∧ Below w.heap.size w w' := by
  obtain ⟨h1, h2, h3, h4⟩ := h.cells
  obtain ⟨o1, o2, o3, o4⟩ := ho
  have o5 := used_nonneg l
  generalize used l = u at *
  clear h o3
  have hw : IntKind.i64.wrap (lim - u) = lim - u := by rw [IntKind.wrap_i64]; omega
  go_enter Tryd.func24, Tryd.ntmps24
  go_wp2_with fail
  go_quiet (fail)
  go_wp2
  go_ret
  exact ⟨rfl, drew_below _ _ _⟩
theorem count_bg {w : World} {g : Nat} {lim : Int} {l : List Int} (h : Bg w g lim l) (ho : Cls l) (c : Int) : Calls Tryd.prog 26 #[.pointer (some ⟨g, 0, none⟩), .int .i64 c] w fun e w' => e = .returned (.int .i64 (cnt l c : Int)) ∧ w' = w := by
  have KS := hid2 (size_any w c)
  by_cases hc : c < 0 ∨ 8 < c
  · have hz : cnt l c = 0 := by
      by_cases hp : 0 < cnt l c
      · have := ho c (cnt_pos.1 hp); omega
      · omega
    rw [hz]
    rw [sz_out hc] at KS
    clear hc h
    go_enter Tryd.func26, Tryd.ntmps26
    go_wp2_with fail
    refine (show Calls _ _ _ _ _ from KS.out).mono ?_
    rintro e w1 ⟨rfl, hw⟩
    cases hw
    go_wp2
    go_ret
    exact ⟨rfl, rfl⟩
  · obtain ⟨n, rfl⟩ := Int.eq_ofNat_of_zero_le (show 0 ≤ c by omega)
    obtain ⟨h1, h2, h3, h4⟩ := h.cells
    have hn : n ≤ 8 := by omega
    have h5 := h.count hn
    have hs := sz_in (c := (n : Int)) (by omega) (by omega)
    generalize sz (n : Int) = s at *
    generalize cnt l (n : Int) = m at *
    have hs0 : ¬ s = 0 := by omega
    clear h hc h2 h3
    go_enter Tryd.func26, Tryd.ntmps26
    go_wp2_with fail
    refine (show Calls _ _ _ _ _ from KS.out).mono ?_
    rintro e w1 ⟨rfl, hw⟩
    cases hw
    go_wp2
    go_ret
    exact ⟨rfl, rfl⟩
end Go.Proofs.YtjlpkjgdpbjpcaaDoor
