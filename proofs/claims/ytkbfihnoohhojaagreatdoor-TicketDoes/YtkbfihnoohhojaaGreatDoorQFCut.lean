/-
  What stands behind a place of a slice.
-/
import Derived.Test.YtkbfihnoohhojaaGreatDoorQFDv
import Derived.Test.YtkbfihnoohhojaaGreatDoorQFBld
namespace Go.Proofs.YtkbfihnoohhojaaGreatDoor.Fla
open Go.RowKit

theorem Tryz.make46 (w : World) : (Instr.makeSlice 42 (.int .i64 256) (.int .i64 256)).run Tryz.prog w = .ok (.slice (some ⟨w.heap.size, 0, none⟩) 256 256) (w.alloc (.cells (pgV zeros) 5)) := by kernel_rfl
theorem zeros_row {w : World} {b : Nat} (h : w.heap[b]? = some (.cells (pgV zeros) 5 (0, 0))) : BAt w (.slice (some ⟨b, 0, none⟩) 256 256) zeros :=
  ⟨some ⟨b, 0, none⟩, 256, by rw [zeros_length], by rw [zeros_length]; omega, by unfold maxLen; omega, by rw [U_length]; omega, .inr ⟨b, 0, pgV zeros, rfl, ⟨5, (0, 0), h, by decide, by decide, by decide, by decide⟩, fun k u hk => by simpa [pgV] using hk⟩⟩

theorem isBlank_false {b : List Nat} {k x : Nat} (h : b[k]? = some x) (hx : x ≠ 0) : isBlank b = false := by
  unfold isBlank
  rw [List.all_eq_false]
  exact ⟨x, List.mem_of_getElem? h, by simpa using hx⟩
theorem isBlank_true {b : List Nat} (h : ∀ (k x : Nat), b[k]? = some x → x = 0) : isBlank b = true := by
  unfold isBlank
  rw [List.all_eq_true]
  intro x hx
  obtain ⟨k, hk⟩ := List.getElem?_of_mem hx
  simpa using h k x hk

set_option maxHeartbeats 1000000 in
theorem blank_any {w : World} {v : Value} {b : List Nat} (h : BAt w v b) : Calls Tryz.prog 53 #[v] w fun e w' => e = .returned (.bool (isBlank b)) ∧ w' = w := by
  obtain ⟨p, cap, rfl, h2, h3, h4, h5⟩ := h.each
  unfold maxLen at h3
  have HE : Hid (∀ k u, (U b)[k]? = some u → ∃ bb off, p = some ⟨bb, off, none⟩ ∧ bb < w.heap.size ∧ w.cell? ⟨bb, off + k, none⟩ = some u) := h5
  clear h h4 h5
  go_enter Tryz.func53, Tryz.ntmps53
  go_wp2_with fail
  go_loop [3] (fun i => ∃ k : Nat, i = .int .i64 (k : Int) ∧ k ≤ b.length ∧ Hid (∀ j x, j < k → b[j]? = some x → x = 0)) (fun i => b.length - (intOf i).toNat)
  case atStart => exact ⟨0, rfl, Nat.zero_le _, fun j x hj => by omega⟩
  case round =>
    obtain ⟨k, rfl, hk, HZ⟩ := hrel
    by_cases hlt : k < b.length
    · obtain ⟨x, hx⟩ : ∃ x, b[k]? = some x := ⟨_, List.getElem?_eq_getElem hlt⟩
      obtain ⟨bb, off, rfl, hbb, hc⟩ := HE.out k _ (U_at hx)
      have hki : (k : Int) < (b.length : Int) := by omega
      have HX : Hid (b[k]? = some x) := hx
      clear hx
      by_cases h0 : x = 0
      · subst h0
        go_wp2_with fail
        go_round
        case rel => exact ⟨k + 1, by go_num, by omega, fun j y hj hy => by
          by_cases e : j = k
          · subst e; rw [HX.out] at hy; cases hy; rfl
          · exact HZ.out j y (by omega) hy⟩
        case measure => simp [intOf]; omega
      · have hb : ((x : Int) == 0) = false := by simp; omega
        have H0 : Hid (x ≠ 0) := h0
        clear h0
        go_wp2
        go_ret
        exact ⟨by rw [isBlank_false HX.out H0.out]; rfl, rfl⟩
    · have hki : ¬ ((k : Int) < (b.length : Int)) := by omega
      go_wp2
      go_ret
      exact ⟨by rw [isBlank_true (fun j x hj => HZ.out j x (by have := (List.getElem?_eq_some_iff.1 hj).1; omega) hj)]; rfl, rfl⟩

theorem rsafe_cons (a : Int) (b : List Nat) (r : List (Int × List Nat)) (k : Int) : rsafe ((a, b) :: r) k = if a = k then b else rsafe r k := rfl
theorem plainC_drop {cs : List Cl} {i : Nat} {x : Cl} (h : cs[i]? = some x) : plainC (cs.drop i) = (x.1, x.2.2) :: plainC (cs.drop (i + 1)) := by
  obtain ⟨h1, h2⟩ := List.getElem?_eq_some_iff.1 h
  rw [List.drop_eq_getElem_cons h1, h2]
  rfl
/-- Pages in memory, one by one. -/
theorem CellsAt.each {w : World} {v : Value} {cs : List Cl} (h : CellsAt w v cs) : ∃ p cap, v = .slice p cs.length cap ∧ cs.length ≤ cap ∧ cap ≤ maxLen ∧
    ∀ i x, cs[i]? = some x → ∃ b off, p = some ⟨b, off, none⟩ ∧ b < w.heap.size ∧ w.cell? ⟨b, off + i * 2, none⟩ = some (.int .i64 x.1) ∧ w.cell? ⟨b, off + i * 2 + 1, none⟩ = some x.2.1 ∧ BAt w x.2.1 x.2.2 := by
  obtain ⟨p, cap, h1, h2, h3, h4, h5⟩ := h.1.each
  refine ⟨p, cap, h1, h2, h3, fun i x hi => ?_⟩
  obtain ⟨a0, a1⟩ := clL_at hi
  obtain ⟨b, off, e1, e2, e3⟩ := h5 _ _ a0
  obtain ⟨b', off', e1', e2', e3'⟩ := h5 _ _ a1
  rw [e1] at e1'
  cases e1'
  exact ⟨b, off, e1, e2, e3, by rw [Nat.add_assoc]; exact e3', h.2 x (List.mem_of_getElem? hi)⟩

set_option maxHeartbeats 1000000 in
theorem safe_any {w : World} {v : Value} {cs : List Cl} (h : CellsAt w v cs) (at_ : Int) : Calls Tryz.prog 73 #[v, .int .i64 at_] w fun e w' => ∃ u, e = .returned u ∧ BAt w' u (rsafe (plainC cs) at_) ∧ Below w.heap.size w w' := by
  obtain ⟨p, cap, rfl, h2, h3, h5⟩ := h.each
  unfold maxLen at h3
  have HE := show Hid (∀ i x, cs[i]? = some x → ∃ b off, p = some ⟨b, off, none⟩ ∧ b < w.heap.size ∧ w.cell? ⟨b, off + i * 2, none⟩ = some (.int .i64 x.1) ∧ w.cell? ⟨b, off + i * 2 + 1, none⟩ = some x.2.1 ∧ BAt w x.2.1 x.2.2) from h5
  have hmk := Tryz.make46
  clear h h5
  go_enter Tryz.func73, Tryz.ntmps73
  go_wp2_with fail
  go_loop [5] (fun i => ∃ k : Nat, i = .int .i64 (k : Int) ∧ k ≤ cs.length ∧ Hid (rsafe (plainC cs) at_ = rsafe (plainC (cs.drop k)) at_)) (fun i => cs.length - (intOf i).toNat)
  case atStart => exact ⟨0, rfl, Nat.zero_le _, rfl⟩
  case round =>
    obtain ⟨k, rfl, hk, HZ⟩ := hrel
    by_cases hlt : k < cs.length
    · obtain ⟨x, hx⟩ : ∃ x, cs[k]? = some x := ⟨_, List.getElem?_eq_getElem hlt⟩
      obtain ⟨bb, off, rfl, hbb, hc0, hc1, hba⟩ := HE.out k _ hx
      have hki : (k : Int) < (cs.length : Int) := by omega
      have HX : Hid (cs[k]? = some x) := hx
      have HBA : Hid (BAt w x.2.1 x.2.2) := hba
      clear hx hba
      by_cases h0 : x.1 = at_
      · have hb : (x.1 == at_) = true := by simpa using h0
        have H0 : Hid (x.1 = at_) := h0
        clear h0
        go_wp2
        go_ret
        exact ⟨_, rfl, by rw [HZ.out, plainC_drop HX.out, rsafe_cons, if_pos H0.out]; exact HBA.out, Below.refl _ _⟩
      · have hb : (x.1 == at_) = false := by simpa using h0
        have H0 : Hid (¬ x.1 = at_) := h0
        clear h0
        go_wp2_with fail
        go_round
        case rel => exact ⟨k + 1, by go_num, by omega, by show _ = _; rw [HZ.out, plainC_drop HX.out, rsafe_cons, if_neg H0.out]⟩
        case measure => simp [intOf]; omega
    · have hki : ¬ ((k : Int) < (cs.length : Int)) := by omega
      have HK : Hid (cs.drop k = []) := List.drop_eq_nil_of_le (by omega)
      go_wp2
      go_ret
      exact ⟨_, rfl, by rw [HZ.out, HK.out]; exact zeros_row (heap_alloc_last _ _), by go_grown⟩

set_option maxHeartbeats 1000000 in
theorem same02_any {w : World} {u v : Value} {b : List Nat} (h : BAt w u b) (k : BAt w v b) : Calls Tryz.prog 43 #[u, v] w fun e w' => e = .returned (.bool true) ∧ Below w.heap.size w w' := by
  obtain ⟨p, cap, rfl, h2, h3, h4, h5⟩ := h.each
  obtain ⟨q, cap2, rfl, k2, k3, k4, k5⟩ := k.each
  unfold maxLen at h3 k3
  have HE : Hid (∀ k u, (U b)[k]? = some u → ∃ bb off, p = some ⟨bb, off, none⟩ ∧ bb < w.heap.size ∧ w.cell? ⟨bb, off + k, none⟩ = some u) := h5
  have HF : Hid (∀ k u, (U b)[k]? = some u → ∃ bb off, q = some ⟨bb, off, none⟩ ∧ bb < w.heap.size ∧ w.cell? ⟨bb, off + k, none⟩ = some u) := k5
  clear h h4 h5 k k4 k5
  go_enter Tryz.func43, Tryz.ntmps43
  go_wp2_with fail
  go_loopw [5] (fun i wr => ∃ k : Nat, i = .int .i64 (k : Int) ∧ k ≤ b.length ∧ ∃ n, wr = w.drewN n) (fun i _ => b.length - (intOf i).toNat)
  case atStart => exact ⟨0, rfl, Nat.zero_le _, 0, rfl⟩
  case round =>
    obtain ⟨k, rfl, hk, n, rfl⟩ := hrel
    by_cases hlt : k < b.length
    · obtain ⟨x, hx⟩ : ∃ x, b[k]? = some x := ⟨_, List.getElem?_eq_getElem hlt⟩
      obtain ⟨bb, off, rfl, hbb, hc⟩ := HE.out k _ (U_at hx)
      obtain ⟨bb2, off2, rfl, hbb2, hc2⟩ := HF.out k _ (U_at hx)
      have hki : (k : Int) < (b.length : Int) := by omega
      clear hx
      go_wp2_with fail
      go_quiet (fail)
      go_wp2
      go_roundw
      case rel => exact ⟨k + 1, by go_num, by omega, _, rfl⟩
      case measure => simp [intOf]; omega
    · have hki : ¬ ((k : Int) < (b.length : Int)) := by omega
      go_wp2
      go_ret
      exact ⟨rfl, below_drewN (Below.refl _ _) _⟩
end Go.Proofs.YtkbfihnoohhojaaGreatDoor.Fla

namespace Go.Proofs.YtkbfihnoohhojaaGreatDoor.Fla
open Go.RowKit

set_option maxHeartbeats 1000000 in
theorem check_any (pages fuse done : Int) (down : Bool) (cp lp : Option Addr) (cn cc ln lc : Nat) (at_ : Int) (w : World) :
    Calls Tryz.prog 59 #[.agg #[.int .i64 pages, .slice cp cn cc, .slice lp ln lc, .int .i64 fuse, .bool down, .int .i64 done], .int .i64 at_] w fun e w' => e = .returned (.int .i64 (if down = true then 11 else if at_ < 0 ∨ pages ≤ at_ then 2 else 0)) ∧ Below w.heap.size w w' := by
  cases down
  · by_cases h0 : at_ < 0
    · have e0 : decide (at_ < 0) = true := by simpa using h0
      go_enter Tryz.func59, Tryz.ntmps59
      go_wp2
      go_ret
      exact ⟨by simp, by go_grown⟩
    · have e0 : decide (at_ < 0) = false := by simpa using h0
      by_cases h1 : pages ≤ at_
      · go_enter Tryz.func59, Tryz.ntmps59
        go_wp2
        go_ret
        exact ⟨by simp, by go_grown⟩
      · have e1 : decide (pages ≤ at_) = false := by simpa using h1
        go_enter Tryz.func59, Tryz.ntmps59
        go_wp2
        go_ret
        exact ⟨by simp, by go_grown⟩
  · go_enter Tryz.func59, Tryz.ntmps59
    go_wp2
    go_ret
    exact ⟨rfl, by go_grown⟩

set_option maxHeartbeats 1000000 in
theorem rburns_neg (pages fuse done : Int) (down : Bool) (cp lp : Option Addr) (cn cc ln lc : Nat) (w : World) (hd0 : 0 ≤ done) (hd1 : done ≤ 1000) (hf : fuse < 0) :
    Calls Tryz.prog 70 #[.agg #[.int .i64 pages, .slice cp cn cc, .slice lp ln lc, .int .i64 fuse, .bool down, .int .i64 done]] w fun e w' => e = .returned (.tuple #[.agg #[.int .i64 pages, .slice cp cn cc, .slice lp ln lc, .int .i64 fuse, .bool down, .int .i64 (done + 1)], .bool false]) ∧ Below w.heap.size w w' := by
  have e0 : decide (fuse < 0) = true := by simpa using hf
  go_enter Tryz.func70, Tryz.ntmps70
  go_wp2
  refine bodyPost_ret (v := .tuple #[.agg #[.int .i64 pages, .slice cp cn cc, .slice lp ln lc, .int .i64 fuse, .bool down, .int .i64 (done + 1)], .bool false]) (by simp [results, Tryz.results70, go_sem]) rfl ⟨rfl, ?_⟩
  go_grown
set_option maxHeartbeats 1000000 in
theorem rburns_zero (pages done : Int) (down : Bool) (cp lp : Option Addr) (cn cc ln lc : Nat) (w : World) (hd0 : 0 ≤ done) (hd1 : done ≤ 1000) :
    Calls Tryz.prog 70 #[.agg #[.int .i64 pages, .slice cp cn cc, .slice lp ln lc, .int .i64 0, .bool down, .int .i64 done]] w fun e w' => e = .returned (.tuple #[.agg #[.int .i64 pages, .slice cp cn cc, .slice lp ln lc, .int .i64 (-1), .bool true, .int .i64 (done + 1)], .bool true]) ∧ Below w.heap.size w w' := by
  go_enter Tryz.func70, Tryz.ntmps70
  go_wp2
  refine bodyPost_ret (v := .tuple #[.agg #[.int .i64 pages, .slice cp cn cc, .slice lp ln lc, .int .i64 (-1), .bool true, .int .i64 (done + 1)], .bool true]) (by simp [results, Tryz.results70, go_sem]) rfl ⟨rfl, ?_⟩
  go_grown
set_option maxHeartbeats 1000000 in
theorem rburns_pos (pages fuse done : Int) (down : Bool) (cp lp : Option Addr) (cn cc ln lc : Nat) (w : World) (hd0 : 0 ≤ done) (hd1 : done ≤ 1000) (hf : 0 < fuse) (hf1 : fuse ≤ 9223372036854775807) :
    Calls Tryz.prog 70 #[.agg #[.int .i64 pages, .slice cp cn cc, .slice lp ln lc, .int .i64 fuse, .bool down, .int .i64 done]] w fun e w' => e = .returned (.tuple #[.agg #[.int .i64 pages, .slice cp cn cc, .slice lp ln lc, .int .i64 (fuse - 1), .bool down, .int .i64 (done + 1)], .bool false]) ∧ Below w.heap.size w w' := by
  have e0 : decide (fuse < 0) = false := by simp; omega
  have e1 : (fuse == 0) = false := by simp; omega
  go_enter Tryz.func70, Tryz.ntmps70
  go_wp2
  refine bodyPost_ret (v := .tuple #[.agg #[.int .i64 pages, .slice cp cn cc, .slice lp ln lc, .int .i64 (fuse - 1), .bool down, .int .i64 (done + 1)], .bool false]) (by simp [results, Tryz.results70, go_sem]) rfl ⟨rfl, ?_⟩
  go_grown
set_option maxHeartbeats 1000000 in
theorem rfuse_any (pages fuse done : Int) (down : Bool) (cp lp : Option Addr) (cn cc ln lc : Nat) (n : Int) (w : World) :
    Calls Tryz.prog 22 #[.agg #[.int .i64 pages, .slice cp cn cc, .slice lp ln lc, .int .i64 fuse, .bool down, .int .i64 done], .int .i64 n] w fun e w' => e = .returned (.agg #[.int .i64 pages, .slice cp cn cc, .slice lp ln lc, .int .i64 (if n < 0 then -1 else n), .bool down, .int .i64 done]) ∧ Below w.heap.size w w' := by
  by_cases h : n < 0
  · rw [if_pos h]
    have e0 : decide (n < 0) = true := by simpa using h
    go_enter Tryz.func22, Tryz.ntmps22
    go_wp2
    refine bodyPost_ret (v := .agg #[.int .i64 pages, .slice cp cn cc, .slice lp ln lc, .int .i64 (-1), .bool down, .int .i64 done]) (by simp [results, Tryz.results22, go_sem]) rfl ⟨rfl, ?_⟩
    go_grown
  · rw [if_neg h]
    have e0 : decide (n < 0) = false := by simpa using h
    go_enter Tryz.func22, Tryz.ntmps22
    go_wp2
    refine bodyPost_ret (v := .agg #[.int .i64 pages, .slice cp cn cc, .slice lp ln lc, .int .i64 n, .bool down, .int .i64 done]) (by simp [results, Tryz.results22, go_sem]) rfl ⟨rfl, ?_⟩
    go_grown
end Go.Proofs.YtkbfihnoohhojaaGreatDoor.Fla

namespace Go.Proofs.YtkbfihnoohhojaaGreatDoor.Fla
open Go.RowKit

theorem six' {w : World} {g : Nat} {t : TypeId} {x0 x1 x2 x3 x4 x5 : Value} (h : w.heap[g]? = some (.cells #[x0, x1, x2, x3, x4, x5] t (0, 0))) :
    (w.cell? ⟨g, 0, none⟩ = some x0 ∧ w.cell? ⟨g, 1, none⟩ = some x1 ∧ w.cell? ⟨g, 2, none⟩ = some x2 ∧ w.cell? ⟨g, 3, none⟩ = some x3 ∧ w.cell? ⟨g, 4, none⟩ = some x4 ∧ w.cell? ⟨g, 5, none⟩ = some x5) ∧
    ∀ o, w.frozen? ⟨g, o, none⟩ = false := by
  refine ⟨⟨?_, ?_, ?_, ?_, ?_, ?_⟩, ?_⟩ <;> simp [World.cell?, World.frozen?, h]
theorem LooseAt.each {w : World} {v : Value} {lo : List Lo} (h : LooseAt w v lo) : ∃ p cap, v = .slice p lo.length cap ∧ lo.length ≤ cap ∧ cap ≤ maxLen ∧
    ∀ i x, lo[i]? = some x → ∃ b off, p = some ⟨b, off, none⟩ ∧ b < w.heap.size ∧ w.cell? ⟨b, off + i * 3, none⟩ = some (.int .i64 x.1.at_) ∧ w.cell? ⟨b, off + i * 3 + 1, none⟩ = some x.2 ∧ w.cell? ⟨b, off + i * 3 + 2, none⟩ = some (.bool x.1.trim) ∧ BAt w x.2 x.1.p := by
  obtain ⟨p, cap, h1, h2, h3, h4, h5⟩ := h.1.each
  refine ⟨p, cap, h1, h2, h3, fun i x hi => ?_⟩
  obtain ⟨a0, a1, a2⟩ := loL_at hi
  obtain ⟨b, off, e1, e2, e3⟩ := h5 _ _ a0
  obtain ⟨b', off', e1', e2', e3'⟩ := h5 _ _ a1
  obtain ⟨b'', off'', e1'', e2'', e3''⟩ := h5 _ _ a2
  rw [e1] at e1' e1''
  cases e1'
  cases e1''
  exact ⟨b, off, e1, e2, e3, by rw [Nat.add_assoc]; exact e3', by rw [Nat.add_assoc]; exact e3'', h.2 x (List.mem_of_getElem? hi)⟩
theorem rlookL_take {lo : List Lo} {k : Nat} {x : Lo} (h : lo[k]? = some x) (at_ : Int) (p : List Nat) :
    rlookL (plainL (lo.take (k + 1))) at_ p = if x.1.at_ = at_ then (if x.1.trim = true then zeros else x.1.p) else rlookL (plainL (lo.take k)) at_ p := by
  obtain ⟨h1, h2⟩ := List.getElem?_eq_some_iff.1 h
  rw [List.take_succ_eq_append_getElem h1, h2]
  simp [plainL, rlookL]

set_option maxHeartbeats 1000000 in
theorem look_any {w : World} {pages fuse done : Int} {down : Bool} {cv lv : Value} {cs : List Cl} {lo : List Lo} (hC : CellsAt w cv cs) (hL : LooseAt w lv lo) (at_ : Int) :
    Calls Tryz.prog 52 #[.agg #[.int .i64 pages, cv, lv, .int .i64 fuse, .bool down, .int .i64 done], .int .i64 at_] w fun e w' => ∃ u, e = .returned u ∧ BAt w' u (rlookL (plainL lo) at_ (rsafe (plainC cs) at_)) ∧ Below w.heap.size w w' := by
  obtain ⟨lp, lcap, rfl, l2, l3, _⟩ := hL.each
  obtain ⟨cp, ccap, rfl, _, _, _⟩ := hC.each
  unfold maxLen at l3
  have HL : Hid (LooseAt w (.slice lp lo.length lcap) lo) := hL
  have HC : Hid (CellsAt (w.alloc (.cells #[.int .i64 pages, .slice cp cs.length ccap, .slice lp lo.length lcap, .int .i64 fuse, .bool down, .int .i64 done] 36)) (.slice cp cs.length ccap) cs) := hC.below (by go_grown)
  have HX : Hid ((w.alloc (.cells #[.int .i64 pages, .slice cp cs.length ccap, .slice lp lo.length lcap, .int .i64 fuse, .bool down, .int .i64 done] 36)).heap[w.heap.size]? = some (.cells #[.int .i64 pages, .slice cp cs.length ccap, .slice lp lo.length lcap, .int .i64 fuse, .bool down, .int .i64 done] 36 (0, 0))) := heap_alloc_last w _
  have hmk := Tryz.make46
  clear hC hL
  go_enter Tryz.func52, Tryz.ntmps52
  go_wp2_with (go_at_call 73; refine (safe_any HC.out _).mono ?_; rintro e w2 ⟨u, rfl, hu, hb2⟩)
  have HX2 : Hid (w2.heap[w.heap.size]? = some (.cells #[.int .i64 pages, .slice cp cs.length ccap, .slice lp lo.length lcap, .int .i64 fuse, .bool down, .int .i64 done] 36 (0, 0))) := heap_stays HX.out hb2
  have HB2 : Hid (Below w.heap.size w w2) := Below.trans (by go_grown) (hb2.mono (by simp))
  have HU : Hid (BAt w2 u (rsafe (plainC cs) at_)) := hu
  clear hb2 hu
  go_loopw [5, 6] (fun o i wr => ∃ k : Nat, i = .int .i64 (k : Int) ∧ k ≤ lo.length ∧ BAt wr o (rlookL (plainL (lo.take k)) at_ (rsafe (plainC cs) at_)) ∧ wr.heap[w.heap.size]? = some (.cells #[.int .i64 pages, .slice cp cs.length ccap, .slice lp lo.length lcap, .int .i64 fuse, .bool down, .int .i64 done] 36 (0, 0)) ∧ Below w.heap.size w wr) (fun _ i _ => lo.length - (intOf i).toNat)
  case atStart => exact ⟨0, rfl, Nat.zero_le _, HU.out, HX2.out, HB2.out⟩
  case round =>
    obtain ⟨k, rfl, hk, ho, hx, hb⟩ := hrel
    obtain ⟨⟨c0, c1, c2, c3, c4, c5⟩, _⟩ := six' hx
    have hsz : w.heap.size < wr.heap.size := (Array.getElem?_eq_some_iff.1 hx).1
    have HO : Hid (BAt wr u5 (rlookL (plainL (lo.take k)) at_ (rsafe (plainC cs) at_))) := ho
    have HXR : Hid (wr.heap[w.heap.size]? = some (.cells #[.int .i64 pages, .slice cp cs.length ccap, .slice lp lo.length lcap, .int .i64 fuse, .bool down, .int .i64 done] 36 (0, 0))) := hx
    have HBR : Hid (Below w.heap.size w wr) := hb
    clear hx ho hb
    by_cases hlt : k < lo.length
    · obtain ⟨x, hxk⟩ : ∃ x, lo[k]? = some x := ⟨_, List.getElem?_eq_getElem hlt⟩
      obtain ⟨p', cap', hpe, _, _, hel⟩ := (HL.out.below HBR.out).each
      cases hpe
      obtain ⟨bb, off, rfl, hbb, a0, a1, a2, hba⟩ := hel k x hxk
      have hki : (k : Int) < (lo.length : Int) := by omega
      have HXK : Hid (lo[k]? = some x) := hxk
      have HBA : Hid (BAt wr x.2 x.1.p) := hba
      clear hel hxk hba
      by_cases h0 : x.1.at_ = at_
      · have hbq : (x.1.at_ == at_) = true := by simpa using h0
        have H0 : Hid (x.1.at_ = at_) := h0
        clear h0
        cases ht : x.1.trim
        · rw [ht] at a2
          have HT : Hid (x.1.trim = false) := ht
          clear ht
          go_wp2_with fail
          go_roundw
          case rel => exact ⟨k + 1, by go_num, by omega, by rw [rlookL_take HXK.out, if_pos H0.out, HT.out]; exact HBA.out, HXR.out, HBR.out⟩
          case measure => simp [intOf]; omega
        · rw [ht] at a2
          have HT : Hid (x.1.trim = true) := ht
          clear ht
          go_wp2_with fail
          go_roundw
          case rel => exact ⟨k + 1, by go_num, by omega, by rw [rlookL_take HXK.out, if_pos H0.out, HT.out]; exact zeros_row (heap_alloc_last _ _), heap_alloc_old HXR.out _, HBR.out.alloc HBR.out.size _⟩
          case measure => simp [intOf]; omega
      · have hbq : (x.1.at_ == at_) = false := by simpa using h0
        have H0 : Hid (¬ x.1.at_ = at_) := h0
        clear h0
        go_wp2_with fail
        go_roundw
        case rel => exact ⟨k + 1, by go_num, by omega, by rw [rlookL_take HXK.out, if_neg H0.out]; exact HO.out, HXR.out, HBR.out⟩
        case measure => simp [intOf]; omega
    · have hki : ¬ ((k : Int) < (lo.length : Int)) := by omega
      have HK : Hid (lo.take k = lo) := List.take_of_length_le (by omega)
      go_wp2
      go_ret
      exact ⟨_, rfl, by have := HO.out; rw [HK.out] at this; exact this, HBR.out⟩
end Go.Proofs.YtkbfihnoohhojaaGreatDoor.Fla

namespace Go.Proofs.YtkbfihnoohhojaaGreatDoor.Fla
open Go.RowKit
/-- The address of a slice's rest. -/
def tl (cp : Option Addr) (j cap size : Nat) : Option Addr := if cap = j then cp else cp.map fun a => a.add (j * size)
theorem sl30 (cp : Option Addr) (n cap j : Nat) (hj : j ≤ n) (w : World) : (Instr.sliceAt 33 (.slice cp n cap) (some (.int .i64 (j : Int))) none none).run Tryz.prog w = .ok (.slice (tl cp j cap 2) (n - j) (cap - j)) w := by
  obtain ⟨ii, hi1, _, hi2, _⟩ := info_of Tryz.info89m
  have h1 : (j : Int) ≤ n := by omega
  simp [Instr.sliceAt, Instr.slice, run_underlying Tryz.underlying33, Instr.sliceBounds, go_sem, Result.andThen, sizeOf, typeInfo, hi1, hi2, h1, tl]
theorem clL_drop (cs : List Cl) (k : Nat) : (clL cs).drop (k * 2) = clL (cs.drop k) := by
  induction cs generalizing k with
  | nil => simp [clL]
  | cons x r ih =>
    cases k with
    | zero => simp
    | succ k =>
      simp only [clL, List.flatMap_cons] at ih ⊢
      rw [show (k + 1) * 2 = 2 + k * 2 by omega, List.drop_append]
      simp [← ih k]
theorem tail_ok {w : World} {cp : Option Addr} {cap : Nat} {cs : List Cl} (h : CellsAt w (.slice cp cs.length cap) cs) (hcn : cp = none → cap = 0) {j : Nat} (_hj : j ≤ cs.length) :
    (tl cp j cap 2 = none → cs.length - j = 0 ∧ cap - j = 0) ∧ (0 < cs.length - j → ∃ ad, tl cp j cap 2 = some ad ∧ ∀ i u, (clL (cs.drop j))[i]? = some u → w.cell? (ad.add i) = some u) := by
  obtain ⟨p, cap', e, h2, h3, h4, h5⟩ := h.1.each
  cases e
  refine ⟨fun ht => ?_, fun hp => ?_⟩
  · have : cp = none := by
      unfold tl at ht
      split at ht
      · exact ht
      · simpa using ht
    have := hcn this
    omega
  · obtain ⟨x, hx⟩ : ∃ x, cs[j]? = some x := ⟨_, List.getElem?_eq_getElem (by omega)⟩
    obtain ⟨b, off, rfl, _, _⟩ := h5 _ _ (clL_at hx).1
    refine ⟨⟨b, off + j * 2, none⟩, ?_, fun i u hu => ?_⟩
    · unfold tl
      rw [if_neg (by omega)]
      simp [Addr.add_mid]
    · rw [Addr.add_mid]
      rw [← clL_drop, List.getElem?_drop] at hu
      obtain ⟨b', off', e', _, hc⟩ := h5 _ _ hu
      cases e'
      rw [Nat.add_assoc]
      exact hc
end Go.Proofs.YtkbfihnoohhojaaGreatDoor.Fla
