/-
  Add of the program: the three bits of a hash are set, too.
-/
import Derived.Test.YtgmghekgelmmcaaDoorQBMay
import Derived.Laws.Rows
namespace Go.Proofs.YtgmghekgelmmcaaDoor.Blo
open Go.RowKit

theorem setCell_grownBy (w : World) (g j : Nat) (u : Value) : w.grownBy (w.setCell ⟨g, j, none⟩ u) (some g) :=
  ⟨rfl, rfl, rfl, by simp [World.setCell], fun k _ hk => Below.heap_setCell w ⟨g, j, none⟩ u k (by simpa using hk)⟩
theorem heap_grownBy {w w' : World} {b g : Nat} {o : Obj} (h : w.heap[b]? = some o) (hg : w.grownBy w' (some g)) (hne : b ≠ g) : w'.heap[b]? = some o := by
  rw [hg.block b (lt_of_block h) (by simpa using hne)]; exact h

theorem grownBy_trans {w w1 w2 : World} {g : Nat} (h : w.grownBy w1 (some g)) (k : w1.grownBy w2 (some g)) : w.grownBy w2 (some g) :=
  ⟨k.os.trans h.os, k.tape.trans h.tape, k.output.trans h.output, Nat.le_trans h.size k.size, fun i hi hne => (k.block i (Nat.lt_of_lt_of_le hi h.size) hne).trans (h.block i hi hne)⟩

/-- From the k-th place on. -/
def restP (f : Nat × Nat) (a b c : Nat) : Nat → Nat × Nat
  | 0 => putF (putF (putF f a) b) c
  | 1 => putF (putF f b) c
  | 2 => putF f c
  | _ => f

theorem shl_one (k : Nat) (hk : k < 64) : IntKind.u64.wrap (2 ^ k) = ((2 ^ k : Nat) : Int) := by
  have h : 2 ^ k < 2 ^ 64 := Nat.pow_lt_pow_right (by decide) hk
  rw [show (2 : Int) ^ k = ((2 ^ k : Nat) : Int) by simp]
  exact wraps_u64 _ (Int.natCast_nonneg _) (by exact_mod_cast h)
theorem or_one (m k : Nat) (hm : m < 18446744073709551616) (hk : k < 64) : bits .or .u64 (m : Int) (IntKind.u64.wrap (2 ^ k)) = ((m ||| 2 ^ k : Nat) : Int) := by
  have h : 2 ^ k < 2 ^ 64 := Nat.pow_lt_pow_right (by decide) hk
  rw [shl_one k hk]
  exact or_u64 m (2 ^ k) hm (by omega)
/-- A bit set in a filter. -/
theorem put_at {w : World} {gb f g : Nat} (h : w.heap[gb]? = some (.cells #[.int .u64 (f : Int), .int .u64 (g : Int)] 52 (0, 0))) (hf : f < 18446744073709551616) (hg : g < 18446744073709551616) {p : Nat} (hp : p < 128) {m : Nat} (hc : w.cell? ⟨gb, p / 64, none⟩ = some (.int .u64 (m : Int))) :
    ∃ x y : Nat, putF (f, g) p = (x, y) ∧ x < 18446744073709551616 ∧ y < 18446744073709551616 ∧ (w.setCell ⟨gb, p / 64, none⟩ (.int .u64 (bits .or .u64 (m : Int) (IntKind.u64.wrap (2 ^ (p % 64)))))).heap[gb]? = some (.cells #[.int .u64 (x : Int), .int .u64 (y : Int)] 52 (0, 0)) := by
  obtain ⟨⟨q0, q1⟩, _⟩ := two33 h
  have hw := wide_put (f := (f, g)) ⟨hf, hg⟩ hp
  by_cases hlt : p < 64
  · rw [show p / 64 = 0 by omega] at hc ⊢
    rw [q0] at hc
    have hmf : f = m := by simp at hc; omega
    subst hmf
    have e : putF (f, g) p = (f ||| 2 ^ p, g) := if_pos hlt
    rw [e] at hw
    refine ⟨_, _, e, hw.1, hw.2, ?_⟩
    rw [heap_setCell_same w gb 0 _ 52 _ h, show p % 64 = p by omega, or_one f p hf hlt]
    rfl
  · rw [show p / 64 = 1 by omega] at hc ⊢
    rw [q1] at hc
    have hmf : g = m := by simp at hc; omega
    subst hmf
    have e : putF (f, g) p = (f, g ||| 2 ^ (p - 64)) := if_neg hlt
    rw [e] at hw
    refine ⟨_, _, e, hw.1, hw.2, ?_⟩
    rw [heap_setCell_same w gb 1 _ 52 _ h, show p % 64 = p - 64 by omega, or_one g (p - 64) hg (by omega)]
    rfl

set_option maxHeartbeats 2000000 in
set_option maxRecDepth 10000 in
theorem add_any (w : World) (f g n x y : Nat) (hf : f < 18446744073709551616) (hg : g < 18446744073709551616) (hn : n < 18446744073709551616) (hxy : addF (f, g) n = (x, y)) :
    Calls Tryd.prog 45 #[.agg #[.int .u64 (f : Int), .int .u64 (g : Int)], .int .u64 (n : Int)] w fun e w' => e = .returned (.agg #[.int .u64 (x : Int), .int .u64 (y : Int)]) ∧ Below w.heap.size w w' := by
  obtain ⟨w0, hw0⟩ : ∃ w0, w0 = (w.alloc (.cells #[.int .u64 (f : Int), .int .u64 (g : Int)] 52)).alloc (.cells #[.int .u64 0, .int .u64 0] 52) := ⟨_, rfl⟩
  have h1 : w0.heap[w.heap.size]? = some (.cells #[.int .u64 (f : Int), .int .u64 (g : Int)] 52 (0, 0)) := by
    rw [hw0, Below.heap_alloc _ _ _ (by simp)]; exact heap_alloc_new w _
  have h2 : w0.heap[w.heap.size + 1]? = some (.cells #[.int .u64 0, .int .u64 0] 52 (0, 0)) := by
    have := heap_alloc_new (w.alloc (.cells #[.int .u64 (f : Int), .int .u64 (g : Int)] 52)) (.cells #[.int .u64 0, .int .u64 0] 52)
    rw [show (w.alloc (.cells #[.int .u64 (f : Int), .int .u64 (g : Int)] 52)).heap.size = w.heap.size + 1 by simp] at this
    rw [hw0]; exact this
  have HB : Hid (Below w.heap.size w w0) := by show Below _ _ _; rw [hw0]; go_grown
  have HP := hid2 (places_any w0 n hn)
  have HA : Hid (restP (f, g) (n % 128) (n / 2097152 % 128) (n / 4398046511104 % 128) 0 = (x, y)) := hxy
  obtain ⟨a, ha⟩ : ∃ a, a = n % 128 := ⟨_, rfl⟩
  obtain ⟨b, hb⟩ : ∃ b, b = n / 2097152 % 128 := ⟨_, rfl⟩
  obtain ⟨c, hc⟩ : ∃ c, c = n / 4398046511104 % 128 := ⟨_, rfl⟩
  rw [← ha, ← hb, ← hc] at HP HA
  have la : a < 128 := by omega
  have lb : b < 128 := by omega
  have lc : c < 128 := by omega
  have H1 := hid2 h1
  have H2 := hid2 h2
  clear ha hb hc hxy h1 h2
  go_enter Tryd.func45, Tryd.ntmps45
  go_wp2_with fail
  rw [← hw0]
  clear hw0
  refine (show Calls _ _ _ _ _ from HP).mono ?_
  rintro e w1 ⟨rfl, B2⟩
  have h1 := heap_stays H1.out B2
  have h2 := heap_stays H2.out B2
  have HB2 : Hid (Below w.heap.size w w1) := HB.out.trans (B2.mono HB.out.size)
  obtain ⟨gb, hgb⟩ : ∃ gb, gb = w.heap.size := ⟨_, rfl⟩
  have HGB := hid2 hgb
  rw [← hgb] at h1 h2 ⊢
  clear H1 H2 HP B2 hgb
  go_wp2_with fail
  go_loopg [9] 3 (fun gk i wr => ∃ k f g : Nat, k ≤ 3 ∧ gk = 3 - k ∧ i = .int .i64 k ∧ f < 18446744073709551616 ∧ g < 18446744073709551616 ∧ wr.heap[gb]? = some (.cells #[.int .u64 (f : Int), .int .u64 (g : Int)] 52 (0, 0)) ∧ wr.heap[gb + 1]? = some (.cells #[.int .u64 0, .int .u64 0] 52 (0, 0)) ∧ restP (f, g) a b c k = (x, y) ∧ Below w.heap.size w wr)
  case atStart => exact ⟨0, f, g, by omega, rfl, rfl, hf, hg, h1, h2, HA.out, HB2.out⟩
  case round =>
    clear h1 h2 hf hg HA HB2
    obtain ⟨k, f', g', hk, hgk, rfl, hf, hg, h1, h2, hr, hbr⟩ := hrel
    have HR := hid2 hr
    have H1 := hid2 h1
    have H2 := hid2 h2
    have HBR := hid2 hbr
    obtain ⟨i0, i1, i2⟩ := idx45 wr (a : Int) (b : Int) (c : Int)
    obtain ⟨⟨q0, q1⟩, fz⟩ := two33 h1
    have hlt := lt_of_block h1
    clear hr h1 h2 hbr
    rcases (by omega : k = 0 ∨ k = 1 ∨ k = 2 ∨ k = 3) with rfl | rfl | rfl | rfl
    · obtain ⟨m, hm, hc, hb⟩ := word_at hf hg q0 q1 la
      obtain ⟨x', y', hp, hx', hy', hh⟩ := put_at H1.out hf hg la hc
      have HH := hid2 hh
      have HP := hid2 hp
      clear hb hh hp
      go_wp2_with fail
      go_roundg 2
      case measure => omega
      case rel => exact ⟨1, x', y', by omega, rfl, rfl, hx', hy', HH.out, heap_grownBy H2.out (setCell_grownBy _ _ _ _) (by omega), by rw [← HR.out, ← HP.out]; rfl, HBR.out.grown (setCell_grownBy _ _ _ _) HBR.out.size (fun k hk => by cases hk; exact Nat.le_of_eq HGB.out.symm)⟩
    · obtain ⟨m, hm, hc, hb⟩ := word_at hf hg q0 q1 lb
      obtain ⟨x', y', hp, hx', hy', hh⟩ := put_at H1.out hf hg lb hc
      have HH := hid2 hh
      have HP := hid2 hp
      clear hb hh hp
      go_wp2_with fail
      go_roundg 1
      case measure => omega
      case rel => exact ⟨2, x', y', by omega, rfl, rfl, hx', hy', HH.out, heap_grownBy H2.out (setCell_grownBy _ _ _ _) (by omega), by rw [← HR.out, ← HP.out]; rfl, HBR.out.grown (setCell_grownBy _ _ _ _) HBR.out.size (fun k hk => by cases hk; exact Nat.le_of_eq HGB.out.symm)⟩
    · obtain ⟨m, hm, hc, hb⟩ := word_at hf hg q0 q1 lc
      obtain ⟨x', y', hp, hx', hy', hh⟩ := put_at H1.out hf hg lc hc
      have HH := hid2 hh
      have HP := hid2 hp
      clear hb hh hp
      go_wp2_with fail
      go_roundg 0
      case measure => omega
      case rel => exact ⟨3, x', y', by omega, rfl, rfl, hx', hy', HH.out, heap_grownBy H2.out (setCell_grownBy _ _ _ _) (by omega), by rw [← HR.out, ← HP.out]; rfl, HBR.out.grown (setCell_grownBy _ _ _ _) HBR.out.size (fun k hk => by cases hk; exact Nat.le_of_eq HGB.out.symm)⟩
    · obtain ⟨⟨r0, r1⟩, fz2⟩ := two33 H2.out
      have hlt2 := lt_of_block H2.out
      go_wp2
      have hxy : (f', g') = (x, y) := HR.out
      obtain ⟨rfl, rfl⟩ := Prod.mk.inj hxy
      have z1 := heap_setCell_same wr (gb + 1) 0 _ 52 (.int .u64 (f' : Int)) H2.out
      have z2 := heap_setCell_same _ (gb + 1) 1 _ 52 (.int .u64 (g' : Int)) z1
      have G1 : wr.grownBy ((wr.setCell ⟨gb + 1, 0, none⟩ (.int .u64 (f' : Int))).setCell ⟨gb + 1, 1, none⟩ (.int .u64 (g' : Int))) (some (gb + 1)) := grownBy_trans (setCell_grownBy _ _ _ _) (setCell_grownBy _ _ _ _)
      have B9 := HBR.out.grown G1 HBR.out.size (fun k hk => by cases hk; have := HGB.out; omega)
      generalize (wr.setCell ⟨gb + 1, 0, none⟩ (.int .u64 (f' : Int))).setCell ⟨gb + 1, 1, none⟩ (.int .u64 (g' : Int)) = wz at *
      obtain ⟨⟨t0, t1⟩, _⟩ := two33 z2
      refine bodyPost_ret (v := .agg #[.int .u64 (f' : Int), .int .u64 (g' : Int)]) (by simp [results, Tryd.results45, go_sem, t0, t1]) rfl ⟨rfl, B9⟩
end Go.Proofs.YtgmghekgelmmcaaDoor.Blo
