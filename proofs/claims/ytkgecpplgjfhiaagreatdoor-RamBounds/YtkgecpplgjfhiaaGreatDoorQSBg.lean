/-
  A budget of the program in memory, and what is asked of it.
-/
import Derived.Test.YtkgecpplgjfhiaaGreatDoorQFlt
import Derived.Deep.RegionHeld3
import Derived.Deep.MidRow
import Derived.Test.YtkgecpplgjfhiaaGreatDoorQMathB
import Derived.WalkKit
import Derived.WalkSpells
import Derived.WalkLawsBesides
import Derived.Handy
import Derived.Deep.LoopGhost
import Derived.Deep.QuietTactic
import Derived.BigQuiet
import Derived.Deep.RegionWith
namespace Go.Proofs.YtkgecpplgjfhiaaGreatDoor.Sla
open Go.RowKit Go.Extern.Stop Go.Stop Go.Extern

theorem hid2 {p : Prop} (h : p) : Hid p := h

/-- A value is, in w's memory, an error of this code; of 0: none. -/
def Fault (w : World) (v : Value) (code : Int) : Prop := (code = 0 ∧ v = .nilIface) ∨ (code ≠ 0 ∧ ∃ dn op a p, Lk w v (dn ++ [(op, a, code)]) ∧ dn.length ≤ 10 ∧ v = .iface 107 (.pointer (some p)))
theorem Fault.nil (w : World) : Fault w .nilIface 0 := .inl ⟨rfl, rfl⟩
theorem Fault.none {w : World} {v : Value} (h : Fault w v 0) : v = .nilIface := by
  rcases h with ⟨_, h⟩ | ⟨h, _⟩
  · exact h
  · exact absurd rfl h
theorem Fault.some {w : World} {v : Value} {code : Int} (h : Fault w v code) (hc : code ≠ 0) : ∃ p, v = .iface 107 (.pointer (some p)) := by
  rcases h with ⟨h, _⟩ | ⟨_, _, _, _, p, _, _, h⟩
  · exact absurd h hc
  · exact ⟨p, h⟩
theorem Fault.below {w w' : World} {v : Value} {code : Int} (h : Fault w v code) (hb : Below w.heap.size w w') : Fault w' v code := by
  rcases h with h | ⟨h1, dn, op, a, p, h2, h3, h4⟩
  · exact .inl h
  · exact .inr ⟨h1, dn, op, a, p, h2.stays hb, h3, h4⟩
theorem of_code {w : World} {v : Value} {code : Int} (hg : ErrT w) (h : Fault w v code) : Calls Tryz.prog 12 #[v] w fun e w' => e = .returned (.int .i64 code) ∧ Below w.heap.size w w' := by
  rcases h with ⟨rfl, rfl⟩ | ⟨_, dn, op, a, p, h2, h3, _⟩
  · exact of_nil w hg
  · exact of_some w hg h2 (by omega)
theorem new_code (op : ByteArray) (at_ code : Int) (w : World) : Calls Tryz.prog 33 #[.string op, .int .i64 at_, .int .i64 code] w fun e w' => ∃ v, e = .returned v ∧ Fault w' v code ∧ Below w.heap.size w w' := by
  by_cases hc : code = 0
  · subst hc
    exact (new_zero op at_ w).mono fun e w' ⟨h1, h2⟩ => by subst h2; exact ⟨_, h1, Fault.nil _, Below.refl _ _⟩
  · refine (new_some op at_ code w (by simpa using hc)).mono fun e w' ⟨h1, h2⟩ => ?_
    subst h2
    refine ⟨_, h1, .inr ⟨hc, [], op, at_, ⟨w.heap.size, 0, none⟩, ?_, by simp, rfl⟩, by go_grown⟩
    exact Lk.cons w.heap.size op at_ code .nilIface [] (heap_alloc_new w _) (Lk.nil _)
/-- An error of one link. -/
def Fault1 (w : World) (v : Value) (code : Int) : Prop := (code = 0 ∧ v = .nilIface) ∨ (code ≠ 0 ∧ ∃ op a p, Lk w v [(op, a, code)] ∧ v = .iface 107 (.pointer (some p)))
theorem Fault1.fault {w : World} {v : Value} {code : Int} (h : Fault1 w v code) : Fault w v code := by
  rcases h with h | ⟨h, op, a, p, h1, h2⟩
  · exact .inl h
  · exact .inr ⟨h, [], op, a, p, h1, by simp, h2⟩
theorem Fault1.below {w w' : World} {v : Value} {code : Int} (h : Fault1 w v code) (hb : Below w.heap.size w w') : Fault1 w' v code := by
  rcases h with h | ⟨h1, op, a, p, h2, h4⟩
  · exact .inl h
  · exact .inr ⟨h1, op, a, p, h2.stays hb, h4⟩
theorem new_code1 (op : ByteArray) (at_ code : Int) (w : World) : Calls Tryz.prog 33 #[.string op, .int .i64 at_, .int .i64 code] w fun e w' => ∃ v, e = .returned v ∧ Fault1 w' v code ∧ Below w.heap.size w w' := by
  by_cases hc : code = 0
  · subst hc
    exact (new_zero op at_ w).mono fun e w' ⟨h1, h2⟩ => by subst h2; exact ⟨_, h1, .inl ⟨rfl, rfl⟩, Below.refl _ _⟩
  · refine (new_some op at_ code w (by simpa using hc)).mono fun e w' ⟨h1, h2⟩ => ?_
    subst h2
    refine ⟨_, h1, .inr ⟨hc, op, at_, ⟨w.heap.size, 0, none⟩, ?_, rfl⟩, by go_grown⟩
    exact Lk.cons w.heap.size op at_ code .nilIface [] (heap_alloc_new w _) (Lk.nil _)
end Go.Proofs.YtkgecpplgjfhiaaGreatDoor.Sla

namespace Go.Proofs.YtkgecpplgjfhiaaGreatDoor.Sla
open Go.RowKit

/-- Size. -/
theorem size_any (w : World) (c : Int) : Calls Tryz.prog 56 #[.int .i64 c] w fun e w' => e = .returned (.int .i64 (sz c)) ∧ w' = w := by
  by_cases hc : c < 0 ∨ 8 < c
  · rw [sz_out hc]
    go_enter Tryz.func56, Tryz.ntmps56
    go_wp2
    all_goals first | (go_ret; exact ⟨rfl, rfl⟩) | (exfalso; omega)
  · rcases nine (c := c) (by omega) (by omega) with rfl | rfl | rfl | rfl | rfl | rfl | rfl | rfl | rfl <;> (clear hc; go_enter Tryz.func56, Tryz.ntmps56; go_wp2; go_ret; exact ⟨by first | rfl | kernel_rfl, rfl⟩)

/-- Size, of the document. -/
theorem rsize_any (w : World) (c : Int) : Calls Tryz.prog 51 #[.int .i64 c] w fun e w' => e = .returned (.int .i64 (sz c)) ∧ w' = w := by
  by_cases hc : c < 0 ∨ 8 < c
  · rw [sz_out hc]
    go_enter Tryz.func51, Tryz.ntmps51
    go_wp2
    all_goals first | (go_ret; exact ⟨rfl, rfl⟩) | (exfalso; omega)
  · obtain ⟨n, rfl⟩ := Int.eq_ofNat_of_zero_le (show 0 ≤ c by omega)
    have hn : n ≤ 8 := by omega
    have HZ := hid2 (sz_pow hn)
    clear hc
    go_enter Tryz.func51, Tryz.ntmps51
    go_wp2_with fail
    go_loop [3, 4] (fun s i => ∃ k m : Nat, k ≤ n ∧ m ≤ 8192 ∧ s = .int .i64 m ∧ i = .int .i64 k ∧ m = 32 * 2 ^ k) (fun _ i => n - (intOf i).toNat)
    case atStart => exact ⟨0, 32, Nat.zero_le _, by omega, rfl, rfl, rfl⟩
    case round =>
      obtain ⟨k, m, hk, hm, rfl, rfl, he⟩ := hrel
      have HE := hid2 he
      clear he
      by_cases hlt : k < n
      · have hm2 : m ≤ 4096 := by
          rw [HE.out]
          have : 2 ^ k ≤ 2 ^ 7 := Nat.pow_le_pow_right (by omega) (by omega)
          omega
        go_wp2
        go_round
        case rel => exact ⟨k + 1, m * 2, by omega, by omega, by go_num, by go_num, by rw [HE.out, Nat.pow_succ]; omega⟩
        case measure => simp [intOf]; omega
      · have hkn : k = n := by omega
        go_wp2
        go_ret
        rw [HZ.out, HE.out, hkn]
        exact ⟨rfl, rfl⟩

/-- Class. -/
theorem class_any (w : World) (n : Int) : Calls Tryz.prog 70 #[.int .i64 n] w fun e w' => e = .returned (.int .i64 (cls n)) ∧ w' = w := by
  by_cases hn : n < 0
  · rw [cls_out (.inl hn)]
    go_enter Tryz.func70, Tryz.ntmps70
    go_wp2
    go_ret
    exact ⟨rfl, rfl⟩
  · have HC : Hid (∀ c : Nat, c ≤ 8 → (n ≤ sz c ↔ 0 ≤ cls n ∧ cls n ≤ c)) := fun c hc => cls_least (by omega) (by omega) (by omega)
    go_enter Tryz.func70, Tryz.ntmps70
    go_wp2_with fail
    go_loop [6] (fun i => ∃ k : Nat, k ≤ 9 ∧ i = .int .i64 k ∧ ∀ c : Nat, c < k → ¬ n ≤ sz c) (fun i => 9 - (intOf i).toNat)
    case atStart => exact ⟨0, Nat.zero_le _, rfl, fun c hc => absurd hc (by omega)⟩
    case round =>
      obtain ⟨k, hk, rfl, he⟩ := hrel
      have HE := hid2 he
      clear he
      by_cases hlt : k < 9
      · have KS := hid2 (size_any w k)
        have hc := HC.out k (by omega)
        have hs := sz_nonneg (k : Int)
        obtain ⟨s, hsz⟩ : ∃ s, sz (k : Int) = s := ⟨_, rfl⟩
        rw [hsz] at KS hc hs
        have HSZ := hid2 hsz
        clear hsz
        have HCC := hid2 hc
        clear hc
        by_cases h2 : n ≤ s
        · have E : Hid (cls n = k) := by
            show _ = _
            have h3 := HCC.out.1 h2
            rcases Nat.eq_zero_or_pos k with h0 | h0
            · omega
            · have h4 := HE.out (k - 1) (by omega)
              rw [HC.out (k - 1) (by omega)] at h4
              omega
          go_wp2_with fail
          refine (show Calls _ _ _ _ _ from KS.out).mono ?_
          rintro e w1 ⟨rfl, hw⟩
          cases hw
          go_wp2
          go_ret
          rw [E.out]
          exact ⟨rfl, rfl⟩
        · have H2 := hid2 h2
          go_wp2_with fail
          refine (show Calls _ _ _ _ _ from KS.out).mono ?_
          rintro e w1 ⟨rfl, hw⟩
          cases hw
          go_wp2
          go_round
          case rel => exact ⟨k + 1, by omega, by go_num, fun c hc => by
            rcases (by omega : c < k ∨ c = k) with h | h
            · have := HE.out c h; omega
            · rw [h, HSZ.out]; have := H2.out; omega⟩
          case measure => simp [intOf]; omega
      · have E : Hid (cls n = -1) := by
          show _ = _
          have h4 := HE.out 8 (by omega)
          have h5 := cls_spec (n := n) (by omega)
          have h6 : sz ((8 : Nat) : Int) = 8192 := rfl
          rw [h6] at h4
          omega
        go_wp2
        go_ret
        rw [E.out]
        exact ⟨rfl, rfl⟩

/-- Class, of the document. -/
theorem rclass_any (w : World) (n : Int) : Calls Tryz.prog 60 #[.int .i64 n] w fun e w' => e = .returned (.int .i64 (cls n)) ∧ w' = w := by
  by_cases hn : n < 0
  · rw [cls_out (.inl hn)]
    go_enter Tryz.func60, Tryz.ntmps60
    go_wp2_with fail
    go_loop [3] (fun i => i = .int .i64 0) (fun _ => 0)
    case atStart => rfl
    case round =>
      obtain rfl := hrel
      go_wp2
      go_ret
      exact ⟨rfl, rfl⟩
  · have HC : Hid (∀ c : Nat, c ≤ 8 → (n ≤ sz c ↔ 0 ≤ cls n ∧ cls n ≤ c)) := fun c hc => cls_least (by omega) (by omega) (by omega)
    go_enter Tryz.func60, Tryz.ntmps60
    go_wp2_with fail
    go_loop [3] (fun i => ∃ k : Nat, k ≤ 9 ∧ i = .int .i64 k ∧ ∀ c : Nat, c < k → ¬ n ≤ sz c) (fun i => 9 - (intOf i).toNat)
    case atStart => exact ⟨0, Nat.zero_le _, rfl, fun c hc => absurd hc (by omega)⟩
    case round =>
      obtain ⟨k, hk, rfl, he⟩ := hrel
      have HE := hid2 he
      clear he
      by_cases hlt : k < 9
      · have KS := hid2 (rsize_any w k)
        have hc := HC.out k (by omega)
        have hs := sz_nonneg (k : Int)
        obtain ⟨s, hsz⟩ : ∃ s, sz (k : Int) = s := ⟨_, rfl⟩
        rw [hsz] at KS hc hs
        have HSZ := hid2 hsz
        clear hsz
        have HCC := hid2 hc
        clear hc
        by_cases h2 : n ≤ s
        · have E : Hid (cls n = k) := by
            show _ = _
            have h3 := HCC.out.1 h2
            rcases Nat.eq_zero_or_pos k with h0 | h0
            · omega
            · have h4 := HE.out (k - 1) (by omega)
              rw [HC.out (k - 1) (by omega)] at h4
              omega
          go_wp2_with fail
          refine (show Calls _ _ _ _ _ from KS.out).mono ?_
          rintro e w1 ⟨rfl, hw⟩
          cases hw
          go_wp2
          go_ret
          rw [E.out]
          exact ⟨rfl, rfl⟩
        · have H2 := hid2 h2
          go_wp2_with fail
          refine (show Calls _ _ _ _ _ from KS.out).mono ?_
          rintro e w1 ⟨rfl, hw⟩
          cases hw
          go_wp2
          go_round
          case rel => exact ⟨k + 1, by omega, by go_num, fun c hc => by
            rcases (by omega : c < k ∨ c = k) with h | h
            · have := HE.out c h; omega
            · rw [h, HSZ.out]; have := H2.out; omega⟩
          case measure => simp [intOf]; omega
      · have E : Hid (cls n = -1) := by
          show _ = _
          have h4 := HE.out 8 (by omega)
          have h5 := cls_spec (n := n) (by omega)
          have h6 : sz ((8 : Nat) : Int) = 8192 := rfl
          rw [h6] at h4
          omega
        go_wp2
        go_ret
        rw [E.out]
        exact ⟨rfl, rfl⟩
end Go.Proofs.YtkgecpplgjfhiaaGreatDoor.Sla

namespace Go.Proofs.YtkgecpplgjfhiaaGreatDoor.Sla
open Go.RowKit

/-- The cells of a budget with these things. -/
def bud (lim : Int) (l : List Int) : Array Value := #[.int .i64 lim, .int .i64 (used l), .int .i64 (cnt l 0 : Int), .int .i64 (cnt l 1 : Int), .int .i64 (cnt l 2 : Int), .int .i64 (cnt l 3 : Int), .int .i64 (cnt l 4 : Int), .int .i64 (cnt l 5 : Int), .int .i64 (cnt l 6 : Int), .int .i64 (cnt l 7 : Int), .int .i64 (cnt l 8 : Int)]
/-- Block g is a budget with these things. -/
def Bg (w : World) (g : Nat) (lim : Int) (l : List Int) : Prop := w.heap[g]? = some (.cells (bud lim l) 112 (0, 0))
/-- What budgets there are. -/
def BudOk (lim : Int) (l : List Int) : Prop := 1 ≤ lim ∧ lim ≤ 1099511627776 ∧ Cls l ∧ used l ≤ lim
theorem cnt_le {l : List Int} (h : Cls l) {c : Int} (h0 : 0 ≤ c) (h8 : c ≤ 8) : (cnt l c : Int) ≤ used l := by
  have := used_classes h
  rcases nine h0 h8 with rfl | rfl | rfl | rfl | rfl | rfl | rfl | rfl | rfl <;> omega
theorem Bg.cells {w : World} {g : Nat} {lim : Int} {l : List Int} (h : Bg w g lim l) : g < w.heap.size ∧ w.cell? ⟨g, 0, none⟩ = some (.int .i64 lim) ∧ w.cell? ⟨g, 1, none⟩ = some (.int .i64 (used l)) ∧ ∀ o, w.frozen? ⟨g, o, none⟩ = false := by
  unfold Bg at h
  refine ⟨lt_of_block h, ?_, ?_, fun o => ?_⟩
  · simp [World.cell?, h, bud]
  · simp [World.cell?, h, bud]
  · simp [World.frozen?, h]
theorem Bg.count {w : World} {g : Nat} {lim : Int} {l : List Int} (h : Bg w g lim l) {k : Nat} (hk : k ≤ 8) : w.cell? ⟨g, 2 + k, none⟩ = some (.int .i64 (cnt l k : Int)) := by
  unfold Bg at h
  rcases (by omega : k = 0 ∨ k = 1 ∨ k = 2 ∨ k = 3 ∨ k = 4 ∨ k = 5 ∨ k = 6 ∨ k = 7 ∨ k = 8) with rfl | rfl | rfl | rfl | rfl | rfl | rfl | rfl | rfl <;> simp [World.cell?, h, bud]
theorem Bg.stays {w w' : World} {g : Nat} {lim : Int} {l : List Int} (h : Bg w g lim l) (hb : Below w.heap.size w w') : Bg w' g lim l := heap_stays h hb

theorem drew_below (w : World) (n B : Nat) : Below B w (w.drewN n) := ⟨rfl, rfl, rfl, Nat.le_refl _, fun _ _ => rfl⟩

theorem used_bg {w : World} {g : Nat} {lim : Int} {l : List Int} (h : Bg w g lim l) : Calls Tryz.prog 45 #[.pointer (some ⟨g, 0, none⟩)] w fun e w' => e = .returned (.int .i64 (used l)) ∧ w' = w := by
  obtain ⟨h1, h2, h3, h4⟩ := h.cells
  generalize used l = u at *
  clear h
  go_enter Tryz.func45, Tryz.ntmps45
  go_wp2
  go_ret
  exact ⟨rfl, rfl⟩
theorem limit_bg {w : World} {g : Nat} {lim : Int} {l : List Int} (h : Bg w g lim l) : Calls Tryz.prog 46 #[.pointer (some ⟨g, 0, none⟩)] w fun e w' => e = .returned (.int .i64 lim) ∧ w' = w := by
  obtain ⟨h1, h2, h3, h4⟩ := h.cells
  clear h
  go_enter Tryz.func46, Tryz.ntmps46
  go_wp2
  go_ret
  exact ⟨rfl, rfl⟩
theorem left_bg {w : World} {g : Nat} {lim : Int} {l : List Int} (h : Bg w g lim l) (ho : BudOk lim l) : Calls Tryz.prog 78 #[.pointer (some ⟨g, 0, none⟩)] w fun e w' => e = .returned (.int .i64 (lim - used l)) ∧ Below w.heap.size w w' := by
  obtain ⟨h1, h2, h3, h4⟩ := h.cells
  obtain ⟨o1, o2, o3, o4⟩ := ho
  have o5 := used_nonneg l
  generalize used l = u at *
  clear h o3
  have hw : IntKind.i64.wrap (lim - u) = lim - u := by rw [IntKind.wrap_i64]; omega
  go_enter Tryz.func78, Tryz.ntmps78
  go_wp2_with fail
  go_quiet (fail)
  go_wp2
  go_ret
  exact ⟨rfl, drew_below _ _ _⟩
theorem count_bg {w : World} {g : Nat} {lim : Int} {l : List Int} (h : Bg w g lim l) (ho : Cls l) (c : Int) : Calls Tryz.prog 44 #[.pointer (some ⟨g, 0, none⟩), .int .i64 c] w fun e w' => e = .returned (.int .i64 (cnt l c : Int)) ∧ w' = w := by
  have KS := hid2 (size_any w c)
  by_cases hc : c < 0 ∨ 8 < c
  · have hz : cnt l c = 0 := by
      by_cases hp : 0 < cnt l c
      · have := ho c (cnt_pos.1 hp); omega
      · omega
    rw [hz]
    rw [sz_out hc] at KS
    clear hc h
    go_enter Tryz.func44, Tryz.ntmps44
    go_wp2_with fail
    refine (show Calls _ _ _ _ _ from KS.out).mono ?_
    rintro e w1 ⟨rfl, hw⟩
    cases hw
    go_wp2
    go_ret
    exact ⟨rfl, rfl⟩
  · obtain ⟨n, rfl⟩ := Int.eq_ofNat_of_zero_le (show 0 ≤ c by omega)
    obtain ⟨h1, h2, h3, h4⟩ := h.cells
    have hn : n ≤ 8 := by omega
    have h5 := h.count hn
    have hs := sz_in (c := (n : Int)) (by omega) (by omega)
    generalize sz (n : Int) = s at *
    generalize cnt l (n : Int) = m at *
    have hs0 : ¬ s = 0 := by omega
    clear h hc h2 h3
    go_enter Tryz.func44, Tryz.ntmps44
    go_wp2_with fail
    refine (show Calls _ _ _ _ _ from KS.out).mono ?_
    rintro e w1 ⟨rfl, hw⟩
    cases hw
    go_wp2
    go_ret
    exact ⟨rfl, rfl⟩
end Go.Proofs.YtkgecpplgjfhiaaGreatDoor.Sla
