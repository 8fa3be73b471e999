/-
  The example that each law of this layer asks for.
-/
import Derived.Test.YtjjafiibbbhnkaaRdBytes
import Derived.Lib.SlBytesConst
import Derived.Laws.BytesArg
namespace Go.Proofs.Ytjjafiibbbhnkaa
open Go.RowKit

theorem sl_ints_new (w : World) : SlAt (w.alloc (.cells #[.int .i64 300, .int .i64 5] 3)) w.heap.size (.slice (some ⟨w.heap.size, 0, none⟩) 2 2) (I [300, 5]) := by
  refine .inr ⟨_, 2, rfl, by simp [I], by unfold maxLen; omega, .inr ⟨0, rfl, by simp, fun k u hk => ?_⟩⟩
  rcases k with _ | _ | k
  · simp [I] at hk; subst hk; simp
  · simp [I] at hk; subst hk; simp
  · simp [I] at hk

theorem sl_ab_new (w : World) : SlAt (w.alloc (.cells #[.int .u8 97, .int .u8 98] 5 (2, 3))) w.heap.size (.slice (some ⟨w.heap.size, 0, none⟩) 2 2) (U [97, 98]) := by
  refine .inr ⟨_, 2, rfl, by simp [U], by unfold maxLen; omega, .inr ⟨0, rfl, by simp, fun k u hk => ?_⟩⟩
  rcases k with _ | _ | k
  · simp [U] at hk; subst hk; simp only [World.cell?]; rw [heap_alloc_new]; rfl
  · simp [U] at hk; subst hk; simp only [World.cell?]; rw [heap_alloc_new]; rfl
  · simp [U] at hk

theorem SlAt.cellsAt {w : World} {b b' off n cap : Nat} {xs : List Value} (h : SlAt w b' (.slice (some ⟨b, off, none⟩) n cap) xs) (k : Nat) (u : Value) (hk : xs[k]? = some u) : w.cell? ⟨b, off + k, none⟩ = some u := by
  rcases h with ⟨h, _⟩ | ⟨a, cap', h1, _, _, h4⟩
  · cases h
  · simp only [Value.slice.injEq, Option.some.injEq] at h1
    obtain ⟨rfl, _, _⟩ := h1
    rcases h4 with rfl | ⟨off', h5, _, h7⟩
    · simp at hk
    · simp only [Addr.mk.injEq] at h5
      obtain ⟨rfl, rfl, _⟩ := h5
      exact h7 k u hk

/-- The example's bytes. -/
def ex6 : List Int := [130, 44, 5, 2, 97, 98]
theorem ex_puts : puts [300, 5] = [130, 44, 5] := by decide
theorem ex_bytes : [130, 44, 5] ++ dg ([97, 98] : List Int).length (lenN ([97, 98] : List Int).length) ++ [97, 98] = ex6 := by decide
theorem ex_num1 : rdNum ex6 0 0 1000 = (300, 2, 0) := by decide
theorem ex_num2 : rdNum ex6 2 0 9 = (5, 3, 0) := by decide
theorem ex_txt : rdTxt ex6 3 0 2 = ([97, 98], 6, 0) := by decide
theorem ex_end : endC ex6 6 0 = 0 := by decide
theorem ex_byt : Byt ex6 := by
  intro x hx
  simp [ex6] at hx
  omega

set_option maxHeartbeats 4000000 in
set_option maxRecDepth 10000 in
theorem works_any (w : World) : Calls Try.prog 8 #[] w fun e w' => e = .returned (.bool true) ∧ Below w.heap.size w w' := by
  have kc := fun (w : World) (C : Array Value) (n c : Nat) => Lib.run_convert_bytes_const (P := Try.prog) w 22 5 C n c Try.underlying22 Try.underlying5
  go_enter Try.func8, Try.ntmps8
  go_wp2_with fail
  refine (put_any (ns := [300, 5]) (SlAt.nil _ 0) (bs := []) (sl_ints_new w) (by intro x hx; simp at hx; omega) (by simp) (by simp)).mono ?_
  rw [ex_puts]
  rintro e w1 ⟨s1, rfl, hown1, hb1⟩
  obtain ⟨b1, hb11, hs1⟩ := own_sl hown1
  have hB1 : Below w.heap.size w w1 := ((Below.refl _ _).alloc (Nat.le_refl _) _).trans (hb1.mono (by simp))
  clear hown1 hb1 hb11
  go_wp2_with fail
  refine (bytes_any (bs := [130, 44, 5]) (ts := [97, 98]) (b := b1) (c := w1.heap.size) ?_ (sl_ab_new w1) (by simp) (by simp)).mono ?_
  · exact hs1.keeps (by simp) (fun hlt => Below.heap_alloc _ _ _ hlt)
  rw [ex_bytes]
  rintro e w2 ⟨s2, rfl, hown2, hb2⟩
  obtain ⟨b2, hb22, hs2⟩ := own_sl hown2
  have hB2 : Below w.heap.size w w2 := (hB1.alloc hB1.size _).trans (hb2.mono (by simp; have := hB1.size; omega))
  clear hown2 hb2 hb22 hs1
  go_wp2_with fail
  refine (read_any hs2 (by decide)).mono ?_
  rintro e w3 ⟨g, rfl, hg, hrd, hb3⟩
  have hs3 := hs2.stays hb3
  have hB3 := hB2.trans (hb3.mono hB2.size)
  obtain ⟨off, cap, hv, h5, h6, h7, hel⟩ := hs2.elem (by decide)
  have hbg : b2 ≠ g := by omega
  subst hv
  rw [show (U ex6).length = 6 from rfl] at hs3 ⊢
  unfold maxLen at h6
  clear hel hs2 hb3
  go_wp2_with fail
  refine (rdnumber_any 1000 (by omega) (by omega) hrd ex_byt (by decide)).mono ?_
  rw [ex_num1]
  rintro e w4 ⟨rfl, hrd4, hg4⟩
  have hs4 := hs3.grown hg4 hbg
  go_wp2_with fail
  refine (rdnumber_any 9 (by omega) (by omega) hrd4 ex_byt (by decide)).mono ?_
  rw [ex_num2]
  rintro e w5 ⟨rfl, hrd5, hg5⟩
  have hs5 := hs4.grown hg5 hbg
  go_wp2_with fail
  refine (rdbytes_any 2 (by omega) (by omega) hrd5 ex_byt (by decide)).mono ?_
  rw [ex_txt]
  rintro e w6 ⟨s6, tb, rfl, hst, htb, hrd6, hg6⟩
  have hs6 := hs5.grown hg6 hbg
  have hB6 : Below w.heap.size w w6 := ((hB3.grown hg4 (by have := hB3.size; omega) (by simp; have := hB2.size; omega)).grown hg5 (by have := hB3.size; have := hg4.size; omega) (by simp; have := hB2.size; omega)).grown hg6 (by have := hB3.size; have := hg4.size; have := hg5.size; omega) (by simp; have := hB2.size; omega)
  have q0 := hs6.cellsAt 0 (.int .u8 130) rfl
  have q1 := hs6.cellsAt 1 (.int .u8 44) rfl
  rw [Nat.add_zero] at q0
  obtain ⟨offt, capt, hsv, t5, t6, t7, telm⟩ := hst.elem (by decide)
  subst hsv
  have kt := run_convert_bytes_arg (P := Try.prog) w6 22 5 Try.underlying22 Try.underlying5 tb offt 2 capt [97, 98] rfl (fun i hi => by
    have hi2 : i = 0 ∨ i = 1 := by omega
    rcases hi2 with rfl | rfl
    · exact telm 0 _ rfl
    · exact telm 1 _ rfl) 9 Try.underlying9
  rw [show strOfNums [97, 98] = ⟨#[97, 98]⟩ from rfl] at kt
  rw [show (U [97, 98]).length = 2 from rfl]
  clear telm hst hs6 hs5 hs4 hs3
  go_wp2_with fail
  refine (end_any hrd6).mono ?_
  rw [ex_end]
  rintro e w7 ⟨rfl, n7, rfl⟩
  go_wp2_with fail
  refine (word_any (bs := []) 1 (by omega) (by omega) (SlAt.nil _ 0) (by simp)).mono ?_
  rintro e w8 ⟨s8, rfl, hown8, hb8⟩
  obtain ⟨b8, _, hs8⟩ := own_sl hown8
  obtain ⟨p8, cap8, hsv8, _, _⟩ := hs8.form
  subst hsv8
  rw [show (U ([] ++ wd 1 8)).length = 8 from rfl]
  clear hs8 hown8
  go_wp2_with fail
  refine (len_any 300 _ (by omega)).mono ?_
  rw [show lenN 300 = 2 from rfl]
  rintro e w9 ⟨rfl, rfl⟩
  go_wp2_with fail
  refine (key_any _ _ (by decide)).mono ?_
  rintro e w10 ⟨rfl, rfl⟩
  go_wp2
  go_ret
  exact ⟨rfl, (hB6.trans (below_drewN _ _ _)).trans (hb8.mono hB6.size)⟩
end Go.Proofs.Ytjjafiibbbhnkaa
