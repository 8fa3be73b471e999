/-
  One thing more: the things' row grows.
-/
import Derived.Test.YtkgecpplgjfhiaaGreatDoorQRem
namespace Go.Proofs.YtkgecpplgjfhiaaGreatDoor
open Go.RowKit
open Ite (Ent zeroE checkE sizeE)
open Lis (Lst but Tag)
variable {w : World} {B g gb gl B1 B2 gc : Nat} {v : Value} {lim : Int} {n : Nat} {s : Lst} {bl : List Int} {T : Int → Ent} {th : Nat} {X : Int → Int} {H : Nat → Int} {M : Nat} {C : Nat → List Int}

def zth : Value := .agg #[.string ⟨#[]⟩, .int .i64 0, .int .i64 0, .int .i64 0, .slice none 0 0, .int .i64 0]
theorem info_th : (Tryz.prog.info? 103).map (fun i => (i.zero, i.size, i.bytes)) = some (some zth, 6, 72) := by kernel_rfl
theorem Th.own (h : Th w B B2 v th T X) : ∃ cs, w.ownsRow B2 103 6 v th cs ∧ ∀ i : Nat, i < th → ∃ p c, (∀ j u, (thC (T i) (.slice p (T i).val.length c) (X i))[j]? = some u → cs[i * 6 + j]? = some u) ∧ Bq w B (.slice p (T i).val.length c) (T i).val := by
  rcases h with ⟨rfl, rfl⟩ | ⟨b, cap, cur, h1, h2, h3, h4, h5, h6, h7⟩
  · exact ⟨[], ⟨rfl, .inl ⟨rfl, rfl⟩⟩, fun i hi => absurd hi (Nat.not_lt_zero _)⟩
  · refine ⟨cur.toList.take (th * 6), ⟨?_, .inr ⟨b, cap, cur, h1, h2, h3, h4, h5, h6, rfl⟩⟩, fun i hi => ?_⟩
    · rw [List.length_take, Array.length_toList, h6]; omega
    · obtain ⟨p, c, a1, a2⟩ := h7 i hi
      refine ⟨p, c, fun j u hu => ?_, a2⟩
      have hj : j < 6 := (List.getElem?_eq_some_iff.1 hu).1
      rw [List.getElem?_take_of_lt (by omega), Array.getElem?_toList]
      exact a1 j u hu
theorem Th.of_own {w : World} {v : Value} {th : Nat} {T : Int → Ent} {X : Int → Int} {cs : List Value} (h : w.ownsRow B2 103 6 v th cs) (k : ∀ i : Nat, i < th → ∃ p c, (∀ j u, (thC (T i) (.slice p (T i).val.length c) (X i))[j]? = some u → cs[i * 6 + j]? = some u) ∧ Bq w B (.slice p (T i).val.length c) (T i).val) : Th w B B2 v th T X := by
  rcases h.2 with ⟨h1, h2⟩ | ⟨b, cap, cur, h1, h2, h3, h4, h5, h6, h7⟩
  · exact .inl ⟨h1, h2⟩
  · refine .inr ⟨b, cap, cur, h1, h2, h3, h4, h5, h6, fun i hi => ?_⟩
    obtain ⟨p, c, a1, a2⟩ := k i hi
    refine ⟨p, c, fun j u hu => ?_, a2⟩
    have hj : j < 6 := (List.getElem?_eq_some_iff.1 hu).1
    have := a1 j u hu
    rw [← h7, List.getElem?_take_of_lt (by omega), Array.getElem?_toList] at this
    exact this
theorem ownBlock_tag {w : World} {v : Value} {n : Nat} {cs : List Value} (h : w.ownsRow B2 103 6 v n cs) {b : Nat} (e : v.ownBlock = some b) : Tag w b 103 ∧ B2 ≤ b := by
  rcases h.2 with ⟨rfl, _⟩ | ⟨b', cap, cur, rfl, h2, h3, _⟩
  · cases e
  · cases e; exact ⟨⟨_, _, h3⟩, h2⟩

theorem own_form {w : World} {v : Value} {n : Nat} {cs : List Value} (h : w.ownsRow B2 103 6 v (n + 1) cs) : ∃ b cap, v = .slice (some ⟨b, 0, none⟩) (n + 1) cap := by
  rcases h.2 with ⟨_, h⟩ | ⟨b, cap, cur, h1, _⟩
  · omega
  · exact ⟨b, cap, h1⟩
theorem Tb.app_obj {w1 w2 : World} {cs : List Value} (h : Tb w B g gb gl B1 B2 gc v lim n s bl T th X H M) (hb : Below w.heap.size w w1) (ho : w1.ownsRow B2 103 6 v th cs) (hg : w1.grownBy w2 v.ownBlock) :
    w2.cell? ⟨g, 2, none⟩ = some v ∧ (∀ o, w2.frozen? ⟨g, o, none⟩ = false) ∧ ∀ (k : Nat) (cur : Array Value) (Ty : TypeId) (fr : Nat × Nat), w1.heap[k]? = some (.cells cur Ty fr) → Ty ≠ 103 → w2.heap[k]? = some (.cells cur Ty fr) := by
  have h1 := h.below hb
  have keep : ∀ (k : Nat) (cur : Array Value) (Ty : TypeId) (fr : Nat × Nat), w1.heap[k]? = some (.cells cur Ty fr) → Ty ≠ 103 → w2.heap[k]? = some (.cells cur Ty fr) := fun k cur Ty fr hk hne => by
    rw [hg.block k (lt_of_block hk) (fun e => by
      obtain ⟨ht, _⟩ := ownBlock_tag ho e.symm
      exact (Lis.Tag.ne ⟨_, _, hk⟩ ht hne) rfl)]
    exact hk
  have o := keep _ _ _ _ h1.obj (by decide)
  exact ⟨by simp [World.cell?, o], fun k => by simp [World.frozen?, o], keep⟩
/-- One thing more, zero as yet. -/
theorem Tb.append {w1 w2 : World} {v' : Value} {cs : List Value} (h : Tb w B g gb gl B1 B2 gc v lim n s bl T th X H M) (hb : Below w.heap.size w w1) (ho : w1.ownsRow B2 103 6 v th cs)
    (hc : ∀ i : Nat, i < th → ∃ p c, (∀ j u, (thC (T i) (.slice p (T i).val.length c) (X i))[j]? = some u → cs[i * 6 + j]? = some u) ∧ Bq w B (.slice p (T i).val.length c) (T i).val)
    (hg : w1.grownBy w2 v.ownBlock) (ho' : w2.ownsRow B2 103 6 v' (th + 1) (cs ++ thC zeroE (.slice none 0 0) 0)) :
    Tb (w2.setCell ⟨g, 2, none⟩ v') B g gb gl B1 B2 gc v' lim n s bl (chg T th zeroE) (th + 1) (chg X th 0) H M ∧ Fr B w (w2.setCell ⟨g, 2, none⟩ v') := by
  have h1 := h.below hb
  have lo := h.lo
  have F2 : Fr B w1 w2 := by
    cases e : v.ownBlock with
    | none => rw [e] at hg; exact .of (Lis.below_grown hg)
    | some b =>
      rw [e] at hg
      obtain ⟨ht, hB⟩ := ownBlock_tag ho e
      exact .grown hg (by omega) ht (.inr (.inr (.inr rfl)))
  have keep : ∀ j U, Tag w1 j U → U ≠ 103 → w2.heap[j]? = w1.heap[j]? := fun j U hj hne => hg.block j hj.lt (fun e => by
    obtain ⟨ht, _⟩ := ownBlock_tag ho e.symm
    exact hj.ne ht hne rfl)
  have og : w2.heap[g]? = some (.cells #[.pointer (some ⟨gb, 0, none⟩), .pointer (some ⟨gl, 0, none⟩), v, .slice (some ⟨gc, 0, none⟩) n n] 81 (0, 0)) := by
    rw [keep g _ ⟨_, _, h1.obj⟩ (by decide)]; exact h1.obj
  have tg : Tag w2 g 81 := ⟨_, _, og⟩
  have m := Ite.setCell_grownBy w2 g 2 v'
  have F3 : Fr B w2 (w2.setCell ⟨g, 2, none⟩ v') := .grown m (by omega) tg (.inl rfl)
  have FF : Fr B w (w2.setCell ⟨g, 2, none⟩ v') := ((Fr.of hb).trans F2).trans F3
  have other : ∀ j U, Tag w1 j U → U ≠ 103 → U ≠ 81 → (w2.setCell ⟨g, 2, none⟩ v').heap[j]? = w1.heap[j]? := fun j U hj h1 h2 => by
    rw [m.block j (Nat.lt_of_lt_of_le hj.lt F2.size) (fun e => by
      have e := Option.some.inj e
      exact (hj.same (keep j U hj h1)).ne tg h2 e)]
    exact keep j U hj h1
  refine ⟨⟨?_, lo, ?_, ?_, ?_, ?_, h.n1, h.lim1⟩, FF⟩
  · rw [Lis.set_same og]; rfl
  · show (w2.setCell ⟨g, 2, none⟩ v').heap[gb]? = _
    rw [other gb _ ⟨_, _, h1.bg⟩ (by decide) (by decide)]; exact h1.bg
  · obtain ⟨h', l, N, t, f, q1, q2, q3, ob, iv⟩ := h1.lx
    obtain ⟨_, _, _, _, _, _, e1, ⟨c2, e2, _⟩, ⟨c3, e3, _⟩⟩ := id ob
    exact ⟨h', l, N, t, f, q1, q2, q3, ob.same (other _ _ ⟨_, _, e1⟩ (by decide) (by decide)) (other _ _ ⟨_, _, e2⟩ (by decide) (by decide)) (other _ _ ⟨_, _, e3⟩ (by decide) (by decide)), iv⟩
  · obtain ⟨cur, e, f⟩ := h1.hd
    exact ⟨cur, by rw [other gc _ ⟨_, _, e⟩ (by decide) (by decide)]; exact e, f⟩
  · refine Th.of_own (cs := cs ++ thC zeroE (.slice none 0 0) 0) ?_ (fun i hi => ?_)
    · refine ⟨ho'.1, ?_⟩
      rcases ho'.2 with q | ⟨b, cap, cur, q1, q2, q3, q4⟩
      · exact .inl q
      · refine .inr ⟨b, cap, cur, q1, q2, ?_, q4⟩
        rw [m.block b (lt_of_block q3) (fun e => by
          have e := Option.some.inj e
          subst e
          exact (Lis.Tag.ne ⟨_, _, q3⟩ tg (by decide)) rfl)]
        exact q3
    · have hl : cs.length = th * 6 := ho.1
      by_cases e : i = th
      · subst e
        rw [chg_at, chg_at]
        refine ⟨none, 0, fun j u hu => ?_, Bq.nil _ B⟩
        rw [List.getElem?_append_right (by omega), hl, Nat.add_sub_cancel_left]
        exact hu
      · have e' : (i : Int) ≠ (th : Int) := by omega
        rw [chg_ne _ _ e', chg_ne _ _ e']
        obtain ⟨p, c, a1, a2⟩ := hc i (by omega)
        refine ⟨p, c, fun j u hu => ?_, a2.fr FF⟩
        have hj : j < 6 := (List.getElem?_eq_some_iff.1 hu).1
        rw [List.getElem?_append_left (by omega)]
        exact a1 j u hu
theorem run_stSl {w : World} {b o : Nat} {p : Option Addr} {m c : Nat} (hc : (w.cell? ⟨b, o, none⟩).isSome = true) (hf : w.frozen? ⟨b, o, none⟩ = false) : (Instr.storeAt 79 (.pointer (some ⟨b, o, none⟩)) (.slice p m c)).run Tryz.prog w = .ok () (w.setCell ⟨b, o, none⟩ (.slice p m c)) := by
  obtain ⟨u, hu⟩ := Option.isSome_iff_exists.1 hc
  simp [go_sem, hu, hf]
/-- A slice of things stored into a cell. -/
theorem stSl {ops : Array Oper} {rest : List Oper} {op : Oper} {a : Act} {w : World} {Q : Exit → Act → World → Prop} (hgd : op.guard = none) (x y : Operand) (ho : op.op = .store 79 x y) (b o : Nat) (hx : a.eval x = .pointer (some ⟨b, o, none⟩)) (p : Option Addr) (m c : Nat) (hy : a.eval y = .slice p m c) (hc : (w.cell? ⟨b, o, none⟩).isSome = true) (hf : w.frozen? ⟨b, o, none⟩ = false)
    (h : ∀ w', w' = w.setCell ⟨b, o, none⟩ (.slice p m c) → wpList Tryz.prog ops Q rest (a.put op.dst undef) w') : wpList Tryz.prog ops Q (op :: rest) a w := by
  refine wpList_plain hgd fun K hK => ?_
  unfold Oper.wp execOp
  simp only [ho, hx, hy, Sem.run_bind, run_stSl hc hf, Result.andThen_ok, Sem.run_pure]
  exact hK _ _ (h _ rfl)
end Go.Proofs.YtkgecpplgjfhiaaGreatDoor
