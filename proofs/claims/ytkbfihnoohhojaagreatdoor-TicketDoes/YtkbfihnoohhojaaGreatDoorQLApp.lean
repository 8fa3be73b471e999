/-
  Appends of bytes: rows that are not nil stay so; the same inside a region that draws its order; noughts behind no bytes.
-/
import Derived.Test.YtkbfihnoohhojaaGreatDoorQLGets
namespace Go.Proofs.YtkbfihnoohhojaaGreatDoor.Lea
open Go.RowKit

/-- An append of bytes that lie somewhere to a row of the call's own. -/
theorem wp_append_bytes {o : Oper} {a : Act} {K : Act → World → Prop} {Q : Exit → Act → World → Prop} (w : World) (s x : Operand)
    (ho : o.op = .call { callee := .builtin .append, args := #[s, x], argTypes := #[42, 42] }) (B : Nat) (v : Value) (n : Nat) (xs : List Value) (hs : a.eval s = v) (hown : w.ownsRow B 5 1 v n xs)
    (b off m c : Nat) (ys : List Nat) (hx : a.eval x = .slice (some ⟨b, off, none⟩) m c) (hsl : SlAt w b (.slice (some ⟨b, off, none⟩) m c) (U ys)) (hbd : n + m ≤ 5000) (hB : B ≤ w.heap.size)
    (h : ∀ v' w', w'.ownsRow B 5 1 v' (n + m) (xs ++ U ys) → w.grownBy w' v.ownBlock → (v ≠ .slice none 0 0 → v' ≠ .slice none 0 0) → K (a.put o.dst v') w') : o.wp Tryz.prog a w K Q := by
  obtain ⟨i, hi, hz0, hz1, hz2⟩ := Tryz.info5
  have hym : ys.length = m := by
    obtain ⟨_, _, hv, _, _⟩ := hsl.form
    rw [U_length] at hv
    simp only [Value.slice.injEq] at hv
    exact hv.2.1.symm
  refine wp_append_own w s x 42 ho B 5 i (.int .u8 0) 1 1 Tryz.underlying42 hi hz0 hz1 hz2 rfl (by decide) v n xs hs hown ⟨b, off, none⟩ m c (U ys) hx (by rw [U_length, Nat.mul_one, hym]) ?_ (U_one ys) (by unfold maxLen; omega) (by omega) hB ?_
  · intro j u hj
    obtain ⟨p, cap, hv, _, _, hel⟩ := hsl.each
    simp only [Value.slice.injEq] at hv
    obtain ⟨off', e1, _, hc⟩ := hel j u hj
    rw [e1] at hv
    simp only [Option.some.injEq, Addr.mk.injEq, and_true, true_and] at hv
    rw [add_off, hv.1]
    exact hc
  · intro v' w' k1 k2 k3
    exact h v' w' k1 k2 (fun hv e => hv (k3.1 e).1)
theorem wpList_append_bytes {ops : Array Oper} {rest : List Oper} {o : Oper} {a : Act} {Q : Exit → Act → World → Prop} (w : World) (hgd : o.guard = none) (s x : Operand)
    (ho : o.op = .call { callee := .builtin .append, args := #[s, x], argTypes := #[42, 42] }) (B : Nat) (v : Value) (n : Nat) (xs : List Value) (hs : a.eval s = v) (hown : w.ownsRow B 5 1 v n xs)
    (b off m c : Nat) (ys : List Nat) (hx : a.eval x = .slice (some ⟨b, off, none⟩) m c) (hsl : SlAt w b (.slice (some ⟨b, off, none⟩) m c) (U ys)) (hbd : n + m ≤ 5000) (hB : B ≤ w.heap.size)
    (h : ∀ v' w', w'.ownsRow B 5 1 v' (n + m) (xs ++ U ys) → w.grownBy w' v.ownBlock → (v ≠ .slice none 0 0 → v' ≠ .slice none 0 0) → wpList Tryz.prog ops Q rest (a.put o.dst v') w') : wpList Tryz.prog ops Q (o :: rest) a w :=
  wpList_plain hgd fun _ hK => wp_append_bytes w s x ho B v n xs hs hown b off m c ys hx hsl hbd hB fun v' w' h1 h2 h3 => hK _ _ (h v' w' h1 h2 h3)
theorem step_append_bytes {ops : Array Oper} {o : Oper} {a : Act} {w : World} {K : Act → World → Prop} {Q : Exit → Act → World → Prop} {E : Prop} (hgd : o.guard = none) (s x : Operand)
    (ho : o.op = .call { callee := .builtin .append, args := #[s, x], argTypes := #[42, 42] }) (B : Nat) (v : Value) (n : Nat) (xs : List Value) (hs : a.eval s = v) (hown : w.ownsRow B 5 1 v n xs)
    (b off m c : Nat) (ys : List Nat) (hx : a.eval x = .slice (some ⟨b, off, none⟩) m c) (hsl : SlAt w b (.slice (some ⟨b, off, none⟩) m c) (U ys)) (hbd : n + m ≤ 5000) (hB : B ≤ w.heap.size)
    (h : ∀ v' w', w'.ownsRow B 5 1 v' (n + m) (xs ++ U ys) → w.grownBy w' v.ownBlock → K (a.put o.dst v') w') : if Region.wanted o (yielded ops a.tmps) = true then Oper.wp Tryz.prog o a w K Q else E := by
  have hwt : Region.wanted o (yielded ops a.tmps) = true := by simp [Region.wanted, hgd]
  rw [if_pos hwt]
  exact wp_append_bytes w s x ho B v n xs hs hown b off m c ys hx hsl hbd hB fun v' w' h1 h2 _ => h v' w' h1 h2

theorem cut_blank {a : List Nat} (k : Nat) (_hk : k ≤ 256) : a.take k ++ List.replicate (256 - k) 0 = cutAt a (List.replicate 256 0) k := by
  unfold cutAt
  rw [List.drop_replicate]
theorem cut_byt {a b : List Nat} (ha : Byt a) (hb : Byt b) (k : Nat) : Byt (cutAt a b k) := (ha.take k).append (hb.drop k)
theorem blank_byt : Byt (List.replicate 256 0) := by intro x hx; rw [List.eq_of_mem_replicate hx]; omega
theorem get_err {l : List Nat} (h : (getP l).1 ≠ 0) : (getP l).2 = (0, 0, []) := by
  unfold getP at h ⊢
  split
  · rfl
  · split
    · rfl
    · split
      · rfl
      · split
        · rfl
        · split
          · rfl
          · rename_i h1 h2 h3 h4 h5
            exfalso
            rw [if_neg h1, if_neg h2, if_neg h3, if_neg h4, if_neg h5] at h
            exact h rfl
end Go.Proofs.YtkbfihnoohhojaaGreatDoor.Lea
