/-
  New, Fits, Many, Fill and Drain of the program.
-/
import Derived.Test.YtjlpkjgdpbjpcaaDoorTake
import Derived.Defers
import Derived.Recover
namespace Go.Proofs.YtjlpkjgdpbjpcaaDoor
open Go.RowKit

theorem new_good (w : World) (lim : Int) (h1 : 1 ≤ lim) (h2 : lim ≤ 1099511627776) : Calls Tryd.prog 12 #[.int .i64 lim] w fun e w' => e = .returned (.tuple #[.pointer (some ⟨w.heap.size, 0, none⟩), .nilIface]) ∧ Bg w' w.heap.size lim [] ∧ Below w.heap.size w w' := by
  go_enter Tryd.func12, Tryd.ntmps12
  go_wp2
  refine bodyPost_ret (v := .tuple #[.pointer (some ⟨w.heap.size, 0, none⟩), .nilIface]) (by simp [results, Tryd.results12, go_sem]) rfl ⟨rfl, heap_alloc_new w _, ?_⟩
  go_grown
theorem new_bad (w : World) (lim : Int) (h : lim < 1 ∨ 1099511627776 < lim) : Calls Tryd.prog 12 #[.int .i64 lim] w fun e w' => ∃ v, e = .returned (.tuple #[.pointer none, v]) ∧ Fault1 w' v 2 ∧ Below w.heap.size w w' := by
  go_enter Tryd.func12, Tryd.ntmps12
  go_wp2_with (go_at_call 30; refine (new_code1 _ _ _ _).mono ?_; rintro e w1 ⟨v, rfl, hf, hb⟩; have HF := hid2 hf; clear hf)
  all_goals first | (refine bodyPost_ret (v := .tuple #[.pointer none, v]) (by simp [results, Tryd.results12, go_sem]) rfl ⟨_, rfl, HF.out, hb⟩) | (exfalso; omega)

/-- Whether a thing of so many bytes would have room. -/
def fitsP (lim n : Int) : Bool := decide (0 ≤ cls n) && decide (sz (cls n) ≤ lim)
theorem fits_bg {w : World} {g : Nat} {lim : Int} {l : List Int} (h : Bg w g lim l) (n : Int) : Calls Tryd.prog 28 #[.pointer (some ⟨g, 0, none⟩), .int .i64 n] w fun e w' => e = .returned (.bool (fitsP lim n)) ∧ Below w.heap.size w w' := by
  obtain ⟨h1, h2, h3, h4⟩ := h.cells
  have KC := hid2 (class_any w n)
  have KS := hid2 (fun W => size_any W (cls n))
  unfold fitsP
  generalize sz (cls n) = s at *
  generalize cls n = c at *
  clear h h3
  by_cases hc : 0 ≤ c
  · go_enter Tryd.func28, Tryd.ntmps28
    go_wp2_with fail
    refine (show Calls _ _ _ _ _ from KC.out).mono ?_
    rintro e w1 ⟨rfl, hw⟩
    cases hw
    have hd : decide (0 ≤ c) = true := by simpa using hc
    go_wp2_with fail
    go_quiet (first | (go_at_call_of 7 (Value.int .i64 c); exact Calls.quiet_of_same (KS.out _)))
    go_wp2
    go_ret
    exact ⟨by simp [hd], drew_below _ _ _⟩
  · go_enter Tryd.func28, Tryd.ntmps28
    go_wp2_with fail
    refine (show Calls _ _ _ _ _ from KC.out).mono ?_
    rintro e w1 ⟨rfl, hw⟩
    cases hw
    have hd : decide (0 ≤ c) = false := by simpa using hc
    go_wp2_with fail
    go_quiet (fail)
    go_wp2
    go_ret
    exact ⟨by simp [hd], drew_below _ _ _⟩

theorem catch_idle (w : World) : CallsD Tryd.prog 33 #[] .returning w fun e u' w' => e = .returned (.tuple #[]) ∧ u' = .returning ∧ w' = w := by
  refine callsD_of_wpS Tryd.func33 rfl fun c₀ cs hu => ?_
  apply wpS_region
  cases c₀
  simp_all [wpOpsS, go_sem, recoverD, Tryd.ntmps33, bodyPostS, results, Tryd.results33]

/-- A step, so often, as long as nothing is wrong: how often it was done, and the things behind it. -/
def manyP (stp : List Int → List Int × Int) : Nat → List Int → Nat × List Int
  | 0, l => (0, l)
  | n + 1, l => if (stp l).2 = 0 then ((manyP stp n (stp l).1).1 + 1, (manyP stp n (stp l).1).2) else (0, (stp l).1)
theorem manyP_succ (stp : List Int → List Int × Int) (n : Nat) (l : List Int) : manyP stp (n + 1) l = if (stp l).2 = 0 then ((manyP stp n (stp l).1).1 + 1, (manyP stp n (stp l).1).2) else (0, (stp l).1) := rfl

set_option maxHeartbeats 1000000 in
theorem many_take {w : World} {g : Nat} {lim c n : Int} {l : List Int} (stp : List Int → List Int × Int) (hn : n ≤ 1000) (h : Bg w g lim l) (ho : BudOk lim l)
    (hk : ∀ W l, Bg W g lim l → BudOk lim l → Calls Tryd.prog 16 #[.pointer (some ⟨g, 0, none⟩), .int .i64 c] W fun e w' => ∃ v, e = .returned v ∧ Fault1 w' v (stp l).2 ∧ Bg w' g lim (stp l).1 ∧ W.grownBy w' (some g))
    (hb : ∀ l, BudOk lim l → BudOk lim (stp l).1) :
    Calls Tryd.prog 21 #[.int .i64 n, .int .i64 c, .func (.func 16) #[.pointer (some ⟨g, 0, none⟩)] #[]] w fun e w' => e = .returned (.int .i64 ((manyP stp n.toNat l).1 : Int)) ∧ Bg w' g lim (manyP stp n.toNat l).2 ∧ w.grownBy w' (some g) := by
  obtain ⟨N, hN⟩ : ∃ N, N = n.toNat := ⟨_, rfl⟩
  have hNn : ∀ k : Nat, (k : Int) < n ↔ k < N := fun k => by omega
  have hN2 : N ≤ 1000 := by omega
  rw [← hN]
  have HK := hid2 hk
  have HB := hid2 hb
  have HH := hid2 h
  have HO := hid2 ho
  have HNN := hid2 hNn
  clear hN hk hb h ho hNn
  go_enter_defers Tryd.func21, Tryd.ntmps21
  go_wp2_with fail
  go_loopg [6] N (fun gk i wr => ∃ (k : Nat) (l' : List Int), k ≤ N ∧ gk = N - k ∧ i = .int .i64 (k : Int) ∧ Bg wr g lim l' ∧ BudOk lim l' ∧ w.grownBy wr (some g) ∧ manyP stp N l = (k + (manyP stp (N - k) l').1, (manyP stp (N - k) l').2))
  case atStart => exact ⟨0, l, Nat.zero_le _, rfl, rfl, HH.out, HO.out, World.grownBy.refl _ _, by simp⟩
  case round =>
    obtain ⟨k, l', hk, hgk, rfl, h1, h2, h3, h4⟩ := hrel
    have HG := hid2 hgk
    have H1 := hid2 h1
    have H2 := hid2 h2
    have H3 := hid2 h3
    have H4 := hid2 h4
    clear hgk h1 h2 h3 h4
    by_cases hlt : k < N
    · have hlt2 := (HNN.out k).2 hlt
      have KC := HK.out wr l' H1.out H2.out
      have HM := hid2 (manyP_succ stp (N - k - 1) l')
      have HB2 := hid2 (HB.out l' H2.out)
      generalize (stp l').1 = l2 at *
      generalize (stp l').2 = x at *
      by_cases hx : x = 0
      · subst hx
        have KD := hid2 KC
        clear KC
        go_wp2_with fail
        refine (show Calls _ _ _ _ _ from KD.out).mono ?_
        rintro e w1 ⟨v, rfl, hf, hg2, hgr⟩
        obtain rfl := hf.fault.none
        have HG2 := hid2 hg2
        have HGR := hid2 (H3.out.trans hgr)
        clear hf hg2 hgr KD
        go_wp2
        go_roundg (N - (k + 1))
        case measure => rw [HG.out]; omega
        case rel =>
          refine ⟨k + 1, l2, by omega, rfl, by go_num, HG2.out, HB2.out, HGR.out, ?_⟩
          have e := HM.out
          rw [if_pos trivial, show N - k - 1 + 1 = N - k by omega] at e
          rw [H4.out, e, show N - (k + 1) = N - k - 1 by omega]
          simp only [Prod.mk.injEq, and_true]
          omega
      · have KD := hid2 KC
        clear KC
        go_wp2_with fail
        refine (show Calls _ _ _ _ _ from KD.out).mono ?_
        rintro e w1 ⟨v, rfl, hf, hg2, hgr⟩
        obtain ⟨p, rfl⟩ := hf.fault.some hx
        have HG2 := hid2 hg2
        have HGR := hid2 (H3.out.trans hgr)
        have HZ : Hid (manyP stp N l = (k, l2)) := by
          show _ = _
          have e := HM.out
          rw [if_neg hx, show N - k - 1 + 1 = N - k by omega] at e
          rw [H4.out, e]
          simp
        clear hf hg2 hgr KD
        go_wp2
        refine leaves_cons (f := 33) (args := #[]) (by simp) (by simp [go_sem]) ?_
        refine (catch_idle _).mono ?_
        rintro e u' w'' ⟨rfl, rfl, rfl⟩
        rw [HZ.out]
        exact ⟨_, results_tmp rfl _ _ _, rfl, HG2.out, HGR.out⟩
    · have hlt2 : ¬ (k : Int) < n := fun h => hlt ((HNN.out k).1 h)
      have HZ : Hid (manyP stp N l = (k, l')) := by
        show _ = _
        rw [H4.out, show N - k = 0 by omega]
        rfl
      go_wp2
      refine leaves_cons (f := 33) (args := #[]) (by simp) (by simp [go_sem]) ?_
      refine (catch_idle _).mono ?_
      rintro e u' w'' ⟨rfl, rfl, rfl⟩
      rw [HZ.out]
      exact ⟨_, results_tmp rfl _ _ _, rfl, H1.out, H3.out⟩

set_option maxHeartbeats 1000000 in
theorem many_give {w : World} {g : Nat} {lim c n : Int} {l : List Int} (stp : List Int → List Int × Int) (hn : n ≤ 1000) (h : Bg w g lim l) (ho : BudOk lim l)
    (hk : ∀ W l, Bg W g lim l → BudOk lim l → Calls Tryd.prog 18 #[.pointer (some ⟨g, 0, none⟩), .int .i64 c] W fun e w' => ∃ v, e = .returned v ∧ Fault1 w' v (stp l).2 ∧ Bg w' g lim (stp l).1 ∧ W.grownBy w' (some g))
    (hb : ∀ l, BudOk lim l → BudOk lim (stp l).1) :
    Calls Tryd.prog 21 #[.int .i64 n, .int .i64 c, .func (.func 18) #[.pointer (some ⟨g, 0, none⟩)] #[]] w fun e w' => e = .returned (.int .i64 ((manyP stp n.toNat l).1 : Int)) ∧ Bg w' g lim (manyP stp n.toNat l).2 ∧ w.grownBy w' (some g) := by
  obtain ⟨N, hN⟩ : ∃ N, N = n.toNat := ⟨_, rfl⟩
  have hNn : ∀ k : Nat, (k : Int) < n ↔ k < N := fun k => by omega
  have hN2 : N ≤ 1000 := by omega
  rw [← hN]
  have HK := hid2 hk
  have HB := hid2 hb
  have HH := hid2 h
  have HO := hid2 ho
  have HNN := hid2 hNn
  clear hN hk hb h ho hNn
  go_enter_defers Tryd.func21, Tryd.ntmps21
  go_wp2_with fail
  go_loopg [6] N (fun gk i wr => ∃ (k : Nat) (l' : List Int), k ≤ N ∧ gk = N - k ∧ i = .int .i64 (k : Int) ∧ Bg wr g lim l' ∧ BudOk lim l' ∧ w.grownBy wr (some g) ∧ manyP stp N l = (k + (manyP stp (N - k) l').1, (manyP stp (N - k) l').2))
  case atStart => exact ⟨0, l, Nat.zero_le _, rfl, rfl, HH.out, HO.out, World.grownBy.refl _ _, by simp⟩
  case round =>
    obtain ⟨k, l', hk, hgk, rfl, h1, h2, h3, h4⟩ := hrel
    have HG := hid2 hgk
    have H1 := hid2 h1
    have H2 := hid2 h2
    have H3 := hid2 h3
    have H4 := hid2 h4
    clear hgk h1 h2 h3 h4
    by_cases hlt : k < N
    · have hlt2 := (HNN.out k).2 hlt
      have KC := HK.out wr l' H1.out H2.out
      have HM := hid2 (manyP_succ stp (N - k - 1) l')
      have HB2 := hid2 (HB.out l' H2.out)
      generalize (stp l').1 = l2 at *
      generalize (stp l').2 = x at *
      by_cases hx : x = 0
      · subst hx
        have KD := hid2 KC
        clear KC
        go_wp2_with fail
        refine (show Calls _ _ _ _ _ from KD.out).mono ?_
        rintro e w1 ⟨v, rfl, hf, hg2, hgr⟩
        obtain rfl := hf.fault.none
        have HG2 := hid2 hg2
        have HGR := hid2 (H3.out.trans hgr)
        clear hf hg2 hgr KD
        go_wp2
        go_roundg (N - (k + 1))
        case measure => rw [HG.out]; omega
        case rel =>
          refine ⟨k + 1, l2, by omega, rfl, by go_num, HG2.out, HB2.out, HGR.out, ?_⟩
          have e := HM.out
          rw [if_pos trivial, show N - k - 1 + 1 = N - k by omega] at e
          rw [H4.out, e, show N - (k + 1) = N - k - 1 by omega]
          simp only [Prod.mk.injEq, and_true]
          omega
      · have KD := hid2 KC
        clear KC
        go_wp2_with fail
        refine (show Calls _ _ _ _ _ from KD.out).mono ?_
        rintro e w1 ⟨v, rfl, hf, hg2, hgr⟩
        obtain ⟨p, rfl⟩ := hf.fault.some hx
        have HG2 := hid2 hg2
        have HGR := hid2 (H3.out.trans hgr)
        have HZ : Hid (manyP stp N l = (k, l2)) := by
          show _ = _
          have e := HM.out
          rw [if_neg hx, show N - k - 1 + 1 = N - k by omega] at e
          rw [H4.out, e]
          simp
        clear hf hg2 hgr KD
        go_wp2
        refine leaves_cons (f := 33) (args := #[]) (by simp) (by simp [go_sem]) ?_
        refine (catch_idle _).mono ?_
        rintro e u' w'' ⟨rfl, rfl, rfl⟩
        rw [HZ.out]
        exact ⟨_, results_tmp rfl _ _ _, rfl, HG2.out, HGR.out⟩
    · have hlt2 : ¬ (k : Int) < n := fun h => hlt ((HNN.out k).1 h)
      have HZ : Hid (manyP stp N l = (k, l')) := by
        show _ = _
        rw [H4.out, show N - k = 0 by omega]
        rfl
      go_wp2
      refine leaves_cons (f := 33) (args := #[]) (by simp) (by simp [go_sem]) ?_
      refine (catch_idle _).mono ?_
      rintro e u' w'' ⟨rfl, rfl, rfl⟩
      rw [HZ.out]
      exact ⟨_, results_tmp rfl _ _ _, rfl, H1.out, H3.out⟩

theorem many_tk {w : World} {g : Nat} {lim n c : Int} {l : List Int} (hn : n ≤ 1000) (h : Bg w g lim l) (ho : BudOk lim l) :
    Calls Tryd.prog 21 #[.int .i64 n, .int .i64 c, .func (.func 16) #[.pointer (some ⟨g, 0, none⟩)] #[]] w fun e w' => e = .returned (.int .i64 ((manyP (fun l => takeP lim l c) n.toNat l).1 : Int)) ∧ Bg w' g lim (manyP (fun l => takeP lim l c) n.toNat l).2 ∧ w.grownBy w' (some g) :=
  many_take (c := c) (fun l => takeP lim l c) hn h ho (fun _ _ k1 k2 => take_bg k1 k2 c) (fun _ k => k.take c)
theorem many_gv {w : World} {g : Nat} {lim n c : Int} {l : List Int} (hn : n ≤ 1000) (h : Bg w g lim l) (ho : BudOk lim l) :
    Calls Tryd.prog 21 #[.int .i64 n, .int .i64 c, .func (.func 18) #[.pointer (some ⟨g, 0, none⟩)] #[]] w fun e w' => e = .returned (.int .i64 ((manyP (fun l => giveP l c) n.toNat l).1 : Int)) ∧ Bg w' g lim (manyP (fun l => giveP l c) n.toNat l).2 ∧ w.grownBy w' (some g) :=
  many_give (c := c) (fun l => giveP l c) hn h ho (fun _ _ k1 k2 => give_bg k1 k2 c) (fun _ k => k.give c)
theorem fill_bg {w : World} {g : Nat} {lim n : Int} {l : List Int} (hn : n ≤ 1000) (h : Bg w g lim l) (ho : BudOk lim l) (c : Int) :
    Calls Tryd.prog 19 #[.pointer (some ⟨g, 0, none⟩), .int .i64 c, .int .i64 n] w fun e w' => e = .returned (.int .i64 ((manyP (fun l => takeP lim l c) n.toNat l).1 : Int)) ∧ Bg w' g lim (manyP (fun l => takeP lim l c) n.toNat l).2 ∧ w.grownBy w' (some g) := by
  have hmf : ∀ (fn : Fn) (first cap : Array Value) (w : World), (Instr.makeFunc fn first cap).run Tryd.prog w = .ok (.func fn first cap) w := fun _ _ _ _ => rfl
  have KM := hid2 (many_tk (c := c) hn h ho)
  clear h ho hn
  go_enter Tryd.func19, Tryd.ntmps19
  go_wp2_with fail
  refine (show Calls _ _ _ _ _ from KM.out).mono ?_
  rintro e w1 ⟨rfl, h1, h2⟩
  go_wp2
  go_ret
  exact ⟨rfl, h1, h2⟩
theorem drain_bg {w : World} {g : Nat} {lim n : Int} {l : List Int} (hn : n ≤ 1000) (h : Bg w g lim l) (ho : BudOk lim l) (c : Int) :
    Calls Tryd.prog 20 #[.pointer (some ⟨g, 0, none⟩), .int .i64 c, .int .i64 n] w fun e w' => e = .returned (.int .i64 ((manyP (fun l => giveP l c) n.toNat l).1 : Int)) ∧ Bg w' g lim (manyP (fun l => giveP l c) n.toNat l).2 ∧ w.grownBy w' (some g) := by
  have hmf : ∀ (fn : Fn) (first cap : Array Value) (w : World), (Instr.makeFunc fn first cap).run Tryd.prog w = .ok (.func fn first cap) w := fun _ _ _ _ => rfl
  have KM := hid2 (many_gv (c := c) hn h ho)
  clear h ho hn
  go_enter Tryd.func20, Tryd.ntmps20
  go_wp2_with fail
  refine (show Calls _ _ _ _ _ from KM.out).mono ?_
  rintro e w1 ⟨rfl, h1, h2⟩
  go_wp2
  go_ret
  exact ⟨rfl, h1, h2⟩
end Go.Proofs.YtjlpkjgdpbjpcaaDoor
