/-
  The small calls of a device: refuses, burns, Fuse, Down, Loose, Done, Pages.
-/
import Derived.Test.YtfogocappakbdaaDoorBlk
namespace Go.Proofs.YtfogocappakbdaaDoor
open Go.RowKit

theorem six {w : World} {g : Nat} {x0 x1 x2 x3 x4 x5 : Value} (h : w.heap[g]? = some (.cells #[x0, x1, x2, x3, x4, x5] 65 (0, 0))) :
    (w.cell? ⟨g, 0, none⟩ = some x0 ∧ w.cell? ⟨g, 1, none⟩ = some x1 ∧ w.cell? ⟨g, 2, none⟩ = some x2 ∧ w.cell? ⟨g, 3, none⟩ = some x3 ∧ w.cell? ⟨g, 4, none⟩ = some x4 ∧ w.cell? ⟨g, 5, none⟩ = some x5) ∧
    ∀ o, w.frozen? ⟨g, o, none⟩ = false := by
  refine ⟨⟨?_, ?_, ?_, ?_, ?_, ?_⟩, ?_⟩ <;> simp [World.cell?, World.frozen?, h]
theorem setCell_heap {w : World} {g o : Nat} {cs : Array Value} {t : TypeId} {fr : Nat × Nat} (h : w.heap[g]? = some (.cells cs t fr)) (v : Value) : (w.setCell ⟨g, o, none⟩ v).heap[g]? = some (.cells (cs.setIfInBounds o v) t fr) := by
  rw [setCell_eq_setRow w g o cs t fr v h]
  exact setRow_heap w g cs _ t fr h
theorem setCell_grown {w : World} {g o : Nat} {cs : Array Value} {t : TypeId} {fr : Nat × Nat} (h : w.heap[g]? = some (.cells cs t fr)) (v : Value) : w.grownBy (w.setCell ⟨g, o, none⟩ v) (some g) := by
  rw [setCell_eq_setRow w g o cs t fr v h]
  exact grown_setRow w g _

/-- A device's block. -/
abbrev devC (pages : Int) (m : Nat) (wv : Value) (fuse : Int) (down : Bool) (done : Int) : Array Value := #[.int .i64 pages, .map (some m), wv, .int .i64 fuse, .bool down, .int .i64 done]

set_option maxHeartbeats 1000000 in
theorem refuses_any {w : World} {g m : Nat} {wv : Value} (d : Dev) (at_ : Int) (h : w.heap[g]? = some (.cells #[.int .i64 d.pages, .map (some m), wv, .int .i64 d.fuse, .bool d.down, .int .i64 d.done] 65 (0, 0))) :
    Calls Tryd.prog 39 #[.pointer (some ⟨g, 0, none⟩), .int .i64 at_] w fun e w' => e = .returned (.int .i64 (refusesP d at_)) ∧ w' = w := by
  obtain ⟨⟨c0, c1, c2, c3, c4, c5⟩, hf⟩ := six h
  clear h
  unfold refusesP
  cases hd : d.down
  · rw [hd] at c4
    by_cases h0 : at_ < 0
    · have e0 : decide (at_ < 0) = true := by simpa using h0
      go_enter Tryd.func39, Tryd.ntmps39
      go_wp2
      go_ret
      exact ⟨by simp, rfl⟩
    · have e0 : decide (at_ < 0) = false := by simpa using h0
      by_cases h1 : d.pages ≤ at_
      · go_enter Tryd.func39, Tryd.ntmps39
        go_wp2
        go_ret
        exact ⟨by simp, rfl⟩
      · have e1 : decide (d.pages ≤ at_) = false := by simpa using h1
        go_enter Tryd.func39, Tryd.ntmps39
        go_wp2
        go_ret
        exact ⟨by simp, rfl⟩
  · rw [hd] at c4
    go_enter Tryd.func39, Tryd.ntmps39
    go_wp2
    go_ret
    exact ⟨rfl, rfl⟩

set_option maxHeartbeats 1000000 in
theorem burns_any {w : World} {g m : Nat} {wv : Value} (d : Dev) (h : w.heap[g]? = some (.cells #[.int .i64 d.pages, .map (some m), wv, .int .i64 d.fuse, .bool d.down, .int .i64 d.done] 65 (0, 0))) (h0 : 0 ≤ d.done) (h1 : d.done ≤ 1000)
    (f0 : -9223372036854775808 ≤ d.fuse) (f1 : d.fuse ≤ 9223372036854775807) :
    Calls Tryd.prog 37 #[.pointer (some ⟨g, 0, none⟩)] w fun e w' => e = .returned (.bool (burnsP d).down) ∧ w.grownBy w' (some g) ∧
      w'.heap[g]? = some (.cells #[.int .i64 d.pages, .map (some m), wv, .int .i64 (burnsP d).fuse, .bool (burnsP d).down, .int .i64 (burnsP d).done] 65 (0, 0)) := by
  obtain ⟨⟨c0, c1, c2, c3, c4, c5⟩, hf⟩ := six h
  have H : Hid (w.heap[g]? = some (.cells #[.int .i64 d.pages, .map (some m), wv, .int .i64 d.fuse, .bool d.down, .int .i64 d.done] 65 (0, 0))) := h
  clear h
  unfold burnsP
  by_cases hp : 0 < d.fuse
  · have hb : (d.fuse == 0) = false := by simp; omega
    go_enter Tryd.func37, Tryd.ntmps37
    go_wp2
    go_ret
    have k1 := setCell_heap (o := 5) H.out (.int .i64 (d.done + 1))
    have k2 := setCell_heap (o := 4) k1 (.bool false)
    have k3 := setCell_heap (o := 3) k2 (.int .i64 (d.fuse - 1))
    refine ⟨rfl, grown_trans (grown_trans (setCell_grown H.out _) (setCell_grown k1 _)) (setCell_grown k2 _), ?_⟩
    simpa [hb, hp] using k3
  · by_cases hz : d.fuse = 0
    · have hb : (d.fuse == 0) = true := by simp; omega
      have hq : decide (0 < d.fuse) = false := by simpa using hp
      go_enter Tryd.func37, Tryd.ntmps37
      go_wp2
      go_ret
      have k1 := setCell_heap (o := 5) H.out (.int .i64 (d.done + 1))
      have k2 := setCell_heap (o := 4) k1 (.bool true)
      refine ⟨rfl, (grown_trans (setCell_grown H.out _) (setCell_grown k1 _)), ?_⟩
      simpa [hb, hp, hz] using k2
    · have hb : (d.fuse == 0) = false := by simpa using hz
      have hq : decide (0 < d.fuse) = false := by simpa using hp
      go_enter Tryd.func37, Tryd.ntmps37
      go_wp2
      go_ret
      have k1 := setCell_heap (o := 5) H.out (.int .i64 (d.done + 1))
      have k2 := setCell_heap (o := 4) k1 (.bool false)
      refine ⟨rfl, (grown_trans (setCell_grown H.out _) (setCell_grown k1 _)), ?_⟩
      simpa [hb, hp, hz] using k2

theorem fuse_any {w : World} {g m : Nat} {wv : Value} (d : Dev) (n : Int) (h : w.heap[g]? = some (.cells #[.int .i64 d.pages, .map (some m), wv, .int .i64 d.fuse, .bool d.down, .int .i64 d.done] 65 (0, 0))) :
    Calls Tryd.prog 21 #[.pointer (some ⟨g, 0, none⟩), .int .i64 n] w fun e w' => e = .returned (.tuple #[]) ∧ w.grownBy w' (some g) ∧
      w'.heap[g]? = some (.cells #[.int .i64 d.pages, .map (some m), wv, .int .i64 n, .bool d.down, .int .i64 d.done] 65 (0, 0)) := by
  obtain ⟨⟨c0, c1, c2, c3, c4, c5⟩, hf⟩ := six h
  have H : Hid (w.heap[g]? = some (.cells #[.int .i64 d.pages, .map (some m), wv, .int .i64 d.fuse, .bool d.down, .int .i64 d.done] 65 (0, 0))) := h
  clear h
  go_enter Tryd.func21, Tryd.ntmps21
  go_wp2
  go_end0
  exact ⟨rfl, setCell_grown H.out _, by simpa using setCell_heap (o := 3) H.out (.int .i64 n)⟩

theorem down_any {w : World} {g m : Nat} {wv : Value} (d : Dev) (h : w.heap[g]? = some (.cells #[.int .i64 d.pages, .map (some m), wv, .int .i64 d.fuse, .bool d.down, .int .i64 d.done] 65 (0, 0))) :
    Calls Tryd.prog 22 #[.pointer (some ⟨g, 0, none⟩)] w fun e w' => e = .returned (.bool d.down) ∧ w' = w := by
  obtain ⟨⟨c0, c1, c2, c3, c4, c5⟩, hf⟩ := six h
  clear h
  go_enter Tryd.func22, Tryd.ntmps22
  go_wp2
  go_ret
  exact ⟨rfl, rfl⟩
theorem pages_any {w : World} {g m : Nat} {wv : Value} (d : Dev) (h : w.heap[g]? = some (.cells #[.int .i64 d.pages, .map (some m), wv, .int .i64 d.fuse, .bool d.down, .int .i64 d.done] 65 (0, 0))) :
    Calls Tryd.prog 25 #[.pointer (some ⟨g, 0, none⟩)] w fun e w' => e = .returned (.int .i64 d.pages) ∧ w' = w := by
  obtain ⟨⟨c0, c1, c2, c3, c4, c5⟩, hf⟩ := six h
  clear h
  go_enter Tryd.func25, Tryd.ntmps25
  go_wp2
  go_ret
  exact ⟨rfl, rfl⟩
theorem done_any {w : World} {g m : Nat} {wv : Value} (d : Dev) (h : w.heap[g]? = some (.cells #[.int .i64 d.pages, .map (some m), wv, .int .i64 d.fuse, .bool d.down, .int .i64 d.done] 65 (0, 0))) :
    Calls Tryd.prog 26 #[.pointer (some ⟨g, 0, none⟩)] w fun e w' => e = .returned (.int .i64 d.done) ∧ w' = w := by
  obtain ⟨⟨c0, c1, c2, c3, c4, c5⟩, hf⟩ := six h
  clear h
  go_enter Tryd.func26, Tryd.ntmps26
  go_wp2
  go_ret
  exact ⟨rfl, rfl⟩
theorem loose_any {w : World} {g m : Nat} {p : Option Addr} {n cap : Nat} (d : Dev) (h : w.heap[g]? = some (.cells #[.int .i64 d.pages, .map (some m), .slice p n cap, .int .i64 d.fuse, .bool d.down, .int .i64 d.done] 65 (0, 0))) :
    Calls Tryd.prog 35 #[.pointer (some ⟨g, 0, none⟩)] w fun e w' => e = .returned (.int .i64 (n : Int)) ∧ w' = w := by
  obtain ⟨⟨c0, c1, c2, c3, c4, c5⟩, hf⟩ := six h
  clear h
  go_enter Tryd.func35, Tryd.ntmps35
  go_wp2
  go_ret
  exact ⟨rfl, rfl⟩
end Go.Proofs.YtfogocappakbdaaDoor
