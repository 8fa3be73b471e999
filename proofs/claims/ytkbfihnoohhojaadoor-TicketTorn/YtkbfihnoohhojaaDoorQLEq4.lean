/-
  Whether two arrays of four bytes are the same.
-/
import Derived.Test.YtkbfihnoohhojaaDoorQLSum
import Derived.Laws.StructEq
namespace Go.Proofs.YtkbfihnoohhojaaDoor.Lea
open Go.RowKit

set_option maxHeartbeats 1000000 in
set_option maxRecDepth 10000 in
theorem four_any (w : World) (n a b c d : Nat) (hn : n < 4294967296) (h : four n = [a, b, c, d]) :
    Calls Tryd.prog 57 #[.int .u32 (n : Int)] w fun e w' => e = .returned (.agg #[.int .u8 (a : Int), .int .u8 (b : Int), .int .u8 (c : Int), .int .u8 (d : Int)]) ∧ Below w.heap.size w w' := by
  have H : Hid (four n = [a, b, c, d]) := h
  clear h
  go_enter Tryd.func57, Tryd.ntmps57
  go_wp2_with fail
  have e := H.out
  simp only [four, List.cons.injEq] at e
  obtain ⟨rfl, rfl, rfl, rfl, _⟩ := e
  refine bodyPost_ret (v := .agg #[.int .u8 ((n % 256 : Nat) : Int), .int .u8 ((n / 256 % 256 : Nat) : Int), .int .u8 ((n / 65536 % 256 : Nat) : Int), .int .u8 ((n / 16777216 % 256 : Nat) : Int)]) (by simp [results, Tryd.results57, go_sem]; omega) rfl ⟨rfl, ?_⟩
  go_grown

theorem size_alloc (w : World) (o : Obj) : (w.alloc o).heap.size = w.heap.size + 1 := by simp

theorem four_split (n : Nat) : ∃ a b c d, four n = [a, b, c, d] := ⟨_, _, _, _, rfl⟩

theorem sl_four_new (w : World) (a b c d : Nat) : SlAt (w.alloc (.cells #[.int .u8 (a : Int), .int .u8 (b : Int), .int .u8 (c : Int), .int .u8 (d : Int)] 121)) w.heap.size (.slice (some ⟨w.heap.size, 0, none⟩) 4 4) (U [a, b, c, d]) := by
  refine .inr ⟨_, 4, rfl, by simp [U], by unfold maxLen; omega, .inr ⟨0, rfl, by simp, fun k u hk => ?_⟩⟩
  rcases k with _ | _ | _ | _ | k
  · simp [U] at hk; subst hk; simp
  · simp [U] at hk; subst hk; simp
  · simp [U] at hk; subst hk; simp
  · simp [U] at hk; subst hk; simp
  · simp [U] at hk

set_option maxHeartbeats 1000000 in
set_option maxRecDepth 10000 in
theorem seal_any {w : World} {b : Nat} {v : Value} {l : List Nat} (h : SlAt w b v (U l)) (hby : Byt l) (hl : l.length ≤ 3000) :
    Calls Tryd.prog 37 #[v] w fun e w' => ∃ sv, e = .returned sv ∧ w'.ownsRow w.heap.size 5 1 sv (l.length + 4) (U (sealL l)) ∧ Below w.heap.size w w' := by
  obtain ⟨i0, hi, hz0, hz1, hz2⟩ := Tryd.info5
  obtain ⟨p, cap, hu, hc1, hc2⟩ := h.form
  rw [U_length] at hu hc1
  unfold maxLen at hc2
  subst hu
  obtain ⟨x0, x1, x2, x3, hf⟩ := four_split (sum32 l)
  have HF : Hid (four (sum32 l) = [x0, x1, x2, x3]) := hf
  clear hf
  go_enter Tryd.func37, Tryd.ntmps37
  go_wp2_with (first
    | (go_at_call 58; refine (sum_any h hby).mono ?_; rintro e w' ⟨rfl, hw⟩; have hw := hw.symm; subst hw)
    | (go_at_call 57; refine (four_any _ _ _ _ _ _ (sum32_lt l) HF.out).mono ?_; rintro e w1 ⟨rfl, hb1⟩; have hb2 := hb1.alloc hb1.size (.cells #[.int .u8 (x0 : Int), .int .u8 (x1 : Int), .int .u8 (x2 : Int), .int .u8 (x3 : Int)] 121); have h4 := sl_four_new w1 x0 x1 x2 x3)
    | (at_make; refine wpList_make_own _ rfl _ _ 23 rfl (w1.heap.size + 1) 5 i0 (.int .u8 0) 1 Tryd.underlying23 hi hz0 hz1 .i64 .i64 _ (l.length + 4) rfl rfl (by omega) (by rw [hz2]; omega) (by unfold maxLen; omega) (by simp) ?_; intro w3 hown3 hgrow3; rw [size_alloc] at hown3; have hb3 := hb2.grown hgrow3 (Nat.le_trans hb1.size (by simp)) (by simp))
    | (at_builtin; refine wpList_append_sl _ rfl _ _ rfl (w1.heap.size + 1) (.slice (some ⟨w1.heap.size + 1, 0, none⟩) 0 (l.length + 4)) 0 [] rfl hown3 b _ l rfl (h.stays hb3) (by omega) (Nat.le_trans (by simp) hgrow3.size) ?_; intro v4 w4 hown4 hgrow4)
    | (at_builtin; refine wpList_append_sl _ rfl _ _ rfl (w1.heap.size + 1) _ _ _ rfl hown4 w1.heap.size _ [x0, x1, x2, x3] rfl ((h4.keeps hgrow3.size (fun hlt => hgrow3.block _ hlt (by simp))).keeps hgrow4.size (fun hlt => hgrow4.block _ hlt (by simp [Value.ownBlock]))) (by simp; omega) (Nat.le_trans (Nat.le_trans (by simp) hgrow3.size) hgrow4.size) ?_; intro v5 w5 hown5 hgrow5))
  go_ret
  have e : U (sealL l) = [] ++ U l ++ U [x0, x1, x2, x3] := by
    unfold sealL
    rw [HF.out, U_append, List.nil_append]
  rw [e]
  rw [Nat.zero_add] at hown5
  exact ⟨_, rfl, own_lower hown5 (by have := hb1.size; omega), (hb3.grown hgrow4 hb3.size (fun k hk => Nat.le_trans (by have := hb1.size; omega) (hown3.lt k hk).1)).grown hgrow5 (Nat.le_trans hb3.size hgrow4.size) (fun k hk => Nat.le_trans (by have := hb1.size; omega) (hown4.lt k hk).1)⟩
end Go.Proofs.YtkbfihnoohhojaaDoor.Lea

namespace Go.Proofs.YtkbfihnoohhojaaDoor.Lea
open Go.RowKit

theorem below_drewN (w : World) (n B : Nat) : Below B w (w.drewN n) := ⟨rfl, rfl, rfl, Nat.le_refl _, fun _ _ => rfl⟩

set_option maxHeartbeats 1000000 in
set_option maxRecDepth 10000 in
theorem same_eq {w : World} {b c : Nat} {v u : Value} {l : List Nat} (h : SlAt w b v (U l)) (hc : SlAt w c u (U l)) (_hl : Byt l) :
    Calls Tryd.prog 28 #[v, u] w fun e w' => e = .returned (.bool true) ∧ Below w.heap.size w w' := by
  obtain ⟨p, cap, hu, hc1, hc2, hel⟩ := h.each
  obtain ⟨p', cap', hu', hc1', hc2', hel'⟩ := hc.each
  rw [U_length] at hu hc1 hu' hc1'
  unfold maxLen at hc2 hc2'
  subst hu hu'
  have EL : Hid (∀ (k x : Nat), l[k]? = some x → ∃ off, p = some ⟨b, off, none⟩ ∧ b < w.heap.size ∧ w.cell? ⟨b, off + k, none⟩ = some (.int .u8 (x : Int))) := fun k x hx => hel k _ (U_at hx)
  have EL' : Hid (∀ (k x : Nat), l[k]? = some x → ∃ off, p' = some ⟨c, off, none⟩ ∧ c < w.heap.size ∧ w.cell? ⟨c, off + k, none⟩ = some (.int .u8 (x : Int))) := fun k x hx => hel' k _ (U_at hx)
  clear hel hel' h hc _hl
  go_enter Tryd.func28, Tryd.ntmps28
  go_wp2_with fail
  go_loopg [5] l.length (fun g i wr => ∃ k : Nat, k ≤ l.length ∧ g = l.length - k ∧ i = .int .i64 k ∧ Below w.heap.size w wr)
  case atStart => exact ⟨0, Nat.zero_le _, rfl, rfl, Below.refl _ _⟩
  case round =>
    obtain ⟨k, hk, hg, rfl, hbr⟩ := hrel
    have HG : Hid (gk = l.length - k) := hg
    clear hg
    by_cases hlt : k < l.length
    · obtain ⟨x, hx⟩ : ∃ x, l[k]? = some x := ⟨l[k], List.getElem?_eq_getElem hlt⟩
      obtain ⟨off, rfl, hcl, hce⟩ := EL.out k x hx
      obtain ⟨off', rfl, hcl', hce'⟩ := EL'.out k x hx
      have q1 := (hbr.cell (p := ⟨b, off + k, none⟩) hcl).trans hce
      have q2 := (hbr.cell (p := ⟨c, off' + k, none⟩) hcl').trans hce'
      clear hx hce hce'
      have hlti : (k : Int) < (l.length : Int) := by omega
      go_wp2_with fail
      go_quiet (fail)
      go_wp2
      go_roundg (l.length - (k + 1))
      case measure => rw [HG.out]; omega
      case rel => exact ⟨k + 1, by omega, rfl, by go_num, hbr.trans (below_drewN _ _ _)⟩
    · go_wp2
      go_ret
      exact ⟨rfl, hbr⟩

theorem sl_one_new (w : World) (c : Int) (x : Nat) (hc : c = x) : SlAt (w.alloc (.cells #[.int .u8 c] 5)) w.heap.size (.slice (some ⟨w.heap.size, 0, none⟩) 1 1) (U [x]) := by
  subst hc
  refine .inr ⟨_, 1, rfl, by simp [U], by unfold maxLen; omega, .inr ⟨0, rfl, by simp, fun k u hk => ?_⟩⟩
  cases k with
  | zero => simp [U] at hk; subst hk; simp
  | succ k => simp [U] at hk

/-- k bytes of a number, the lowest first. -/
def lows (n : Nat) : Nat → List Nat
  | 0 => []
  | k + 1 => n % 256 :: lows (n / 256) k
theorem lows_four (n : Nat) : lows n 4 = four n := by
  simp only [lows, four, Nat.div_div_eq_div_mul]
theorem lows_snoc (k : Nat) : ∀ n, lows n (k + 1) = lows n k ++ [n / 256 ^ k % 256] := by
  induction k with
  | zero => intro n; simp [lows]
  | succ k ih =>
    intro n
    show n % 256 :: lows (n / 256) (k + 1) = n % 256 :: lows (n / 256) k ++ [n / 256 ^ (k + 1) % 256]
    rw [ih, Nat.div_div_eq_div_mul, Nat.pow_succ, Nat.mul_comm 256]
    rfl
theorem lows_length (k : Nat) : ∀ n, (lows n k).length = k := by
  induction k with
  | zero => intro n; rfl
  | succ k ih => intro n; simp [lows, ih]

end Go.Proofs.YtkbfihnoohhojaaDoor.Lea

namespace Go.Proofs.YtkbfihnoohhojaaDoor.Lea
open Go.RowKit

/-- Two arrays of four bytes. -/
theorem eq25 (a b c d a' b' c' d' : Int) (w : World) : (Op.equalIn 10000 121 (.agg #[.int .u8 a, .int .u8 b, .int .u8 c, .int .u8 d]) (.agg #[.int .u8 a', .int .u8 b', .int .u8 c', .int .u8 d'])).run Tryd.prog w = .ok (a == a' && b == b' && c == c' && d == d') w := by
  have u5 := Tryd.underlying5
  have a5 := Tryd.isAgg5
  have z5 := Tryd.sizeOf5
  rw [show (10000 : Nat) = 9999 + 1 from rfl, Op.equalIn]
  simp only [Sem.run_bind, run_underlying Tryd.underlying121, Result.andThen_ok]
  simp only [Std.Legacy.Range.forIn_eq_forIn_range', Std.Legacy.Range.size, Nat.sub_zero, Nat.add_sub_cancel, Nat.div_one, List.range'_succ, List.range'_zero, List.forIn_cons, List.forIn_nil]
  go_simp
  by_cases h1 : a = a'
  · by_cases h2 : b = b'
    · by_cases h3 : c = c'
      · by_cases h4 : d = d' <;> simp [h1, h2, h3, h4]
      · simp [h1, h2, h3]
    · simp [h1, h2]
  · simp [h1]

theorem eq25_nat (a b c d a' b' c' d' : Nat) (w : World) : (Op.equalIn 10000 121 (.agg #[.int .u8 (a : Int), .int .u8 (b : Int), .int .u8 (c : Int), .int .u8 (d : Int)]) (.agg #[.int .u8 (a' : Int), .int .u8 (b' : Int), .int .u8 (c' : Int), .int .u8 (d' : Int)])).run Tryd.prog w = .ok (decide ([a', b', c', d'] = [a, b, c, d])) w := by
  rw [eq25]
  congr 1
  rw [Bool.eq_iff_iff]
  simp
  omega

end Go.Proofs.YtkbfihnoohhojaaDoor.Lea
