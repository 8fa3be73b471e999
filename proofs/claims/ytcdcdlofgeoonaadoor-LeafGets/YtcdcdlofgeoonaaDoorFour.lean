/-
  Four and Seal of the program.
-/
import Derived.Test.YtcdcdlofgeoonaaDoorSum
namespace Go.Proofs.YtcdcdlofgeoonaaDoor
open Go.RowKit

set_option maxHeartbeats 1000000 in
set_option maxRecDepth 10000 in
theorem four_any (w : World) (n a b c d : Nat) (hn : n < 4294967296) (h : four n = [a, b, c, d]) :
    Calls Tryd.prog 38 #[.int .u32 (n : Int)] w fun e w' => e = .returned (.agg #[.int .u8 (a : Int), .int .u8 (b : Int), .int .u8 (c : Int), .int .u8 (d : Int)]) ∧ Below w.heap.size w w' := by
  have H : Hid (four n = [a, b, c, d]) := h
  clear h
  go_enter Tryd.func38, Tryd.ntmps38
  go_wp2_with fail
  have e := H.out
  simp only [four, List.cons.injEq] at e
  obtain ⟨rfl, rfl, rfl, rfl, _⟩ := e
  refine bodyPost_ret (v := .agg #[.int .u8 ((n % 256 : Nat) : Int), .int .u8 ((n / 256 % 256 : Nat) : Int), .int .u8 ((n / 65536 % 256 : Nat) : Int), .int .u8 ((n / 16777216 % 256 : Nat) : Int)]) (by simp [results, Tryd.results38, go_sem]; omega) rfl ⟨rfl, ?_⟩
  go_grown

theorem size_alloc (w : World) (o : Obj) : (w.alloc o).heap.size = w.heap.size + 1 := by simp

theorem four_split (n : Nat) : ∃ a b c d, four n = [a, b, c, d] := ⟨_, _, _, _, rfl⟩

theorem sl_four_new (w : World) (a b c d : Nat) : SlAt (w.alloc (.cells #[.int .u8 (a : Int), .int .u8 (b : Int), .int .u8 (c : Int), .int .u8 (d : Int)] 68)) w.heap.size (.slice (some ⟨w.heap.size, 0, none⟩) 4 4) (U [a, b, c, d]) := by
  refine .inr ⟨_, 4, rfl, by simp [U], by unfold maxLen; omega, .inr ⟨0, rfl, by simp, fun k u hk => ?_⟩⟩
  rcases k with _ | _ | _ | _ | k
  · simp [U] at hk; subst hk; simp
  · simp [U] at hk; subst hk; simp
  · simp [U] at hk; subst hk; simp
  · simp [U] at hk; subst hk; simp
  · simp [U] at hk

set_option maxHeartbeats 1000000 in
set_option maxRecDepth 10000 in
theorem seal_any {w : World} {b : Nat} {v : Value} {l : List Nat} (h : SlAt w b v (U l)) (hby : Byt l) (hl : l.length ≤ 3000) :
    Calls Tryd.prog 22 #[v] w fun e w' => ∃ sv, e = .returned sv ∧ w'.ownsRow w.heap.size 5 1 sv (l.length + 4) (U (sealL l)) ∧ Below w.heap.size w w' := by
  obtain ⟨i0, hi, hz0, hz1, hz2⟩ := Tryd.info5
  obtain ⟨p, cap, hu, hc1, hc2⟩ := h.form
  rw [U_length] at hu hc1
  unfold maxLen at hc2
  subst hu
  obtain ⟨x0, x1, x2, x3, hf⟩ := four_split (sum32 l)
  have HF : Hid (four (sum32 l) = [x0, x1, x2, x3]) := hf
  clear hf
  go_enter Tryd.func22, Tryd.ntmps22
  go_wp2_with (first
    | (go_at_call 39; refine (sum_any h hby).mono ?_; rintro e w' ⟨rfl, hw⟩; have hw := hw.symm; subst hw)
    | (go_at_call 38; refine (four_any _ _ _ _ _ _ (sum32_lt l) HF.out).mono ?_; rintro e w1 ⟨rfl, hb1⟩; have hb2 := hb1.alloc hb1.size (.cells #[.int .u8 (x0 : Int), .int .u8 (x1 : Int), .int .u8 (x2 : Int), .int .u8 (x3 : Int)] 68); have h4 := sl_four_new w1 x0 x1 x2 x3)
    | (at_make; refine wpList_make_own _ rfl _ _ 22 rfl (w1.heap.size + 1) 5 i0 (.int .u8 0) 1 Tryd.underlying22 hi hz0 hz1 .i64 .i64 _ (l.length + 4) rfl rfl (by omega) (by rw [hz2]; omega) (by unfold maxLen; omega) (by simp) ?_; intro w3 hown3 hgrow3; rw [size_alloc] at hown3; have hb3 := hb2.grown hgrow3 (Nat.le_trans hb1.size (by simp)) (by simp))
    | (at_builtin; refine wpList_append_sl _ rfl _ _ rfl (w1.heap.size + 1) (.slice (some ⟨w1.heap.size + 1, 0, none⟩) 0 (l.length + 4)) 0 [] rfl hown3 b _ l rfl (h.stays hb3) (by omega) (Nat.le_trans (by simp) hgrow3.size) ?_; intro v4 w4 hown4 hgrow4)
    | (at_builtin; refine wpList_append_sl _ rfl _ _ rfl (w1.heap.size + 1) _ _ _ rfl hown4 w1.heap.size _ [x0, x1, x2, x3] rfl ((h4.keeps hgrow3.size (fun hlt => hgrow3.block _ hlt (by simp))).keeps hgrow4.size (fun hlt => hgrow4.block _ hlt (by simp [Value.ownBlock]))) (by simp; omega) (Nat.le_trans (Nat.le_trans (by simp) hgrow3.size) hgrow4.size) ?_; intro v5 w5 hown5 hgrow5))
  go_ret
  have e : U (sealL l) = [] ++ U l ++ U [x0, x1, x2, x3] := by
    unfold sealL
    rw [HF.out, U_append, List.nil_append]
  rw [e]
  rw [Nat.zero_add] at hown5
  exact ⟨_, rfl, own_lower hown5 (by have := hb1.size; omega), (hb3.grown hgrow4 hb3.size (fun k hk => Nat.le_trans (by have := hb1.size; omega) (hown3.lt k hk).1)).grown hgrow5 (Nat.le_trans hb3.size hgrow4.size) (fun k hk => Nat.le_trans (by have := hb1.size; omega) (hown4.lt k hk).1)⟩
end Go.Proofs.YtcdcdlofgeoonaaDoor
