/-
  Same and Seal as the document's answer has them.
-/
import Derived.Test.YtcdcdlofgeoonaaDoorFour
namespace Go.Proofs.YtcdcdlofgeoonaaDoor
open Go.RowKit

theorem below_drewN (w : World) (n B : Nat) : Below B w (w.drewN n) := ⟨rfl, rfl, rfl, Nat.le_refl _, fun _ _ => rfl⟩

set_option maxHeartbeats 1000000 in
set_option maxRecDepth 10000 in
theorem same_eq {w : World} {b c : Nat} {v u : Value} {l : List Nat} (h : SlAt w b v (U l)) (hc : SlAt w c u (U l)) (_hl : Byt l) :
    Calls Tryd.prog 11 #[v, u] w fun e w' => e = .returned (.bool true) ∧ Below w.heap.size w w' := by
  obtain ⟨p, cap, hu, hc1, hc2, hel⟩ := h.each
  obtain ⟨p', cap', hu', hc1', hc2', hel'⟩ := hc.each
  rw [U_length] at hu hc1 hu' hc1'
  unfold maxLen at hc2 hc2'
  subst hu hu'
  have EL : Hid (∀ (k x : Nat), l[k]? = some x → ∃ off, p = some ⟨b, off, none⟩ ∧ b < w.heap.size ∧ w.cell? ⟨b, off + k, none⟩ = some (.int .u8 (x : Int))) := fun k x hx => hel k _ (U_at hx)
  have EL' : Hid (∀ (k x : Nat), l[k]? = some x → ∃ off, p' = some ⟨c, off, none⟩ ∧ c < w.heap.size ∧ w.cell? ⟨c, off + k, none⟩ = some (.int .u8 (x : Int))) := fun k x hx => hel' k _ (U_at hx)
  clear hel hel' h hc _hl
  go_enter Tryd.func11, Tryd.ntmps11
  go_wp2_with fail
  go_loopg [5] l.length (fun g i wr => ∃ k : Nat, k ≤ l.length ∧ g = l.length - k ∧ i = .int .i64 k ∧ Below w.heap.size w wr)
  case atStart => exact ⟨0, Nat.zero_le _, rfl, rfl, Below.refl _ _⟩
  case round =>
    obtain ⟨k, hk, hg, rfl, hbr⟩ := hrel
    have HG : Hid (gk = l.length - k) := hg
    clear hg
    by_cases hlt : k < l.length
    · obtain ⟨x, hx⟩ : ∃ x, l[k]? = some x := ⟨l[k], List.getElem?_eq_getElem hlt⟩
      obtain ⟨off, rfl, hcl, hce⟩ := EL.out k x hx
      obtain ⟨off', rfl, hcl', hce'⟩ := EL'.out k x hx
      have q1 := (hbr.cell (p := ⟨b, off + k, none⟩) hcl).trans hce
      have q2 := (hbr.cell (p := ⟨c, off' + k, none⟩) hcl').trans hce'
      clear hx hce hce'
      have hlti : (k : Int) < (l.length : Int) := by omega
      go_wp2_with fail
      go_quiet (fail)
      go_wp2
      go_roundg (l.length - (k + 1))
      case measure => rw [HG.out]; omega
      case rel => exact ⟨k + 1, by omega, rfl, by go_num, hbr.trans (below_drewN _ _ _)⟩
    · go_wp2
      go_ret
      exact ⟨rfl, hbr⟩

theorem sl_one_new (w : World) (c : Int) (x : Nat) (hc : c = x) : SlAt (w.alloc (.cells #[.int .u8 c] 5)) w.heap.size (.slice (some ⟨w.heap.size, 0, none⟩) 1 1) (U [x]) := by
  subst hc
  refine .inr ⟨_, 1, rfl, by simp [U], by unfold maxLen; omega, .inr ⟨0, rfl, by simp, fun k u hk => ?_⟩⟩
  cases k with
  | zero => simp [U] at hk; subst hk; simp
  | succ k => simp [U] at hk

/-- k bytes of a number, the lowest first. -/
def lows (n : Nat) : Nat → List Nat
  | 0 => []
  | k + 1 => n % 256 :: lows (n / 256) k
theorem lows_four (n : Nat) : lows n 4 = four n := by
  simp only [lows, four, Nat.div_div_eq_div_mul]
theorem lows_snoc (k : Nat) : ∀ n, lows n (k + 1) = lows n k ++ [n / 256 ^ k % 256] := by
  induction k with
  | zero => intro n; simp [lows]
  | succ k ih =>
    intro n
    show n % 256 :: lows (n / 256) (k + 1) = n % 256 :: lows (n / 256) k ++ [n / 256 ^ (k + 1) % 256]
    rw [ih, Nat.div_div_eq_div_mul, Nat.pow_succ, Nat.mul_comm 256]
    rfl
theorem lows_length (k : Nat) : ∀ n, (lows n k).length = k := by
  induction k with
  | zero => intro n; rfl
  | succ k ih => intro n; simp [lows, ih]

set_option maxHeartbeats 1000000 in
set_option maxRecDepth 10000 in
theorem rseal_any {w : World} {b : Nat} {v : Value} {l : List Nat} (h : SlAt w b v (U l)) (hby : Byt l) (hl : l.length ≤ 3000) :
    Calls Tryd.prog 24 #[v] w fun e w' => ∃ sv, e = .returned sv ∧ w'.ownsRow w.heap.size 5 1 sv (l.length + 4) (U (sealL l)) ∧ Below w.heap.size w w' := by
  have hsl := sum32_lt l
  go_enter Tryd.func24, Tryd.ntmps24
  go_wp2_with (first
    | (go_at_call 40; refine (rsum_any (h.stays hb0) hby).mono ?_; rintro e w' ⟨rfl, hw⟩; have hw := hw.symm; subst hw)
    | (at_builtin; refine wpList_append_sl _ rfl _ _ rfl w.heap.size (.slice none 0 0) 0 [] rfl (World.ownsRow_nil _ _ _ _) b _ l rfl h (by omega) (Nat.le_refl _) ?_; intro v0 w0 hown0 hgrow0; have hb0 : Below w.heap.size w w0 := (Below.refl _ _).grown hgrow0 (Nat.le_refl _) (fun k hk => by simp [Value.ownBlock] at hk)))
  go_loopg [3, 4, 5] 4 (fun g out n i wr => ∃ k m : Nat, k ≤ 4 ∧ g = 4 - k ∧ i = .int .i64 k ∧ m < 4294967296 ∧ n = .int .u32 (m : Int) ∧ m = sum32 l / 256 ^ k ∧ wr.ownsRow w.heap.size 5 1 out (l.length + k) (U (l ++ lows (sum32 l) k)) ∧ Below w.heap.size w wr)
  case atStart => exact ⟨0, sum32 l, by omega, rfl, rfl, hsl, rfl, by simp, by simpa [lows] using hown0, hb0⟩
  case round =>
    clear hown0 hb0 hgrow0
    obtain ⟨k, m, hk, hg, rfl, hm, rfl, hq, ho, hbr⟩ := hrel
    have HG : Hid (gk = 4 - k) := hg
    have HQ : Hid (m = sum32 l / 256 ^ k) := hq
    have hsz := hbr.size
    clear hg hq
    by_cases hlt : k < 4
    · go_wp2_with (at_builtin; refine wpList_append_sl _ rfl _ _ rfl w.heap.size _ _ _ rfl (ho.alloc _) _ _ [m % 256] rfl (sl_one_new _ _ _ (by omega)) (by simp; omega) (by simp; omega) ?_; intro v1 w1 hown1 hgrow1)
      go_roundg (4 - (k + 1))
      case measure => rw [HG.out]; omega
      case rel =>
        refine ⟨k + 1, m / 256, by omega, rfl, by go_num, by omega, by go_num, ?_, ?_, ?_⟩
        · rw [HQ.out, Nat.div_div_eq_div_mul, Nat.pow_succ]
        · rw [lows_snoc, ← HQ.out, ← List.append_assoc, U_append]
          exact hown1
        · exact (hbr.alloc (by omega) _).grown hgrow1 (by simp; omega) (fun k hk => (ho.lt k hk).1)
    · have : k = 4 := by omega
      subst this
      go_wp2
      go_ret
      have e : U (sealL l) = U (l ++ lows (sum32 l) 4) := by rw [lows_four]; rfl
      rw [e]
      exact ⟨_, rfl, ho, hbr⟩
end Go.Proofs.YtcdcdlofgeoonaaDoor
