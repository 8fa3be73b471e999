/-
  Sweep: which nodes are left when so many were gone through; a node removed, the parts named.
-/
import Derived.Test.YtkgecpplgjfhiaaGreatDoorQTour
import Derived.Test.YtkgecpplgjfhiaaGreatDoorQRoom
import Derived.Test.YtkgecpplgjfhiaaGreatDoorQRefC
namespace Go.Proofs.YtkgecpplgjfhiaaGreatDoor
open Go.RowKit

variable {P : Program} {l n : Nat} {ops : Array Oper} {Q : Exit → Act → World → Prop} {md : Region.Mode}
theorem wp_round {o : Oper} {a : Act} {w : World} {K : Act → World → Prop} (hd : ∀ c, o.op ≠ .defer c) (h : o.wp P a w K Q) : o.wpIn (Fence.wide.inRound l) n P a w K Q := by
  unfold Oper.wpIn
  refine ⟨fun _ _ => trivial, ?_⟩
  rw [Oper.semAt_plain _ _ _ hd]
  unfold Oper.wp at h
  generalize (execOp a.eval o).run P w = r at *
  cases r with
  | ok x w' =>
    cases x <;> simp only [Oper.upon] at h <;> simp only [Oper.uponIn] <;>
      first
        | exact h
        | exact h.elim
        | exact ⟨fun hh => (by simp [Fence.wide, Fence.inRound] at hh), CallsIn.inRound l (callsIn_wide.2 (Calls.mono h (fun e w'' he => by cases e <;> exact he)))⟩
        | exact ⟨fun hh => (by simp [Fence.wide, Fence.inRound] at hh), fun c cs _ => let ⟨v, w', r, s⟩ := h c cs; ⟨v, w', r, stepsIn_wide.2 s⟩⟩
  | halt x w' => cases x <;> simp only [Oper.upon] at h <;> simp only [Oper.uponIn] <;> exact h
theorem wpOp_round {i : Nat} {a : Act} {w : World} {K : Act → World → Prop} (hd : ∀ (j : Nat) (o : Oper) c, ops[j]? = some o → o.op ≠ .defer c) (hQ : ¬ LetsOut Q) (h : wpOp P ops Q i K a w) : wpOpIn (Fence.wide.inRound l) n P ops Q i K a w := by
  unfold wpOpIn
  unfold wpOp at h
  split
  · rename_i e; simpa [e] using h
  · rename_i o e
    simp only [e] at h
    split
    · rename_i hw
      simp only [hw, if_true] at h
      rcases h with h | h
      · exact wp_round (fun c => hd i o c e) h
      · exact absurd h.2 hQ
    · rename_i hw
      simp only [hw] at h
      exact ⟨fun _ _ => trivial, h⟩
theorem wpAny_round (hd : ∀ (j : Nat) (o : Oper) c, ops[j]? = some o → o.op ≠ .defer c) (hQ : ¬ LetsOut Q) : ∀ (fuel : Nat) (listed : Array Bool) (a : Act) (w : World), wpAny P md ops Q fuel listed a w → wpAnyIn (Fence.wide.inRound l) n P md ops Q fuel listed a w
  | 0, _, _, _, h => h
  | fuel + 1, _listed, _a, _w, h => ⟨h.1, fun i hi => wpOp_round hd hQ (wpOp_mono (fun a' w' h' => wpAny_round hd hQ fuel _ a' w' h') (h.2 i hi))⟩
def noDefer (ops : Array Oper) : Bool := ops.all fun o => match o.op with | .defer _ => false | _ => true
theorem noDefer_spec (h : noDefer ops = true) : ∀ (j : Nat) (o : Oper) c, ops[j]? = some o → o.op ≠ .defer c := by
  intro j o c hj e
  have := (Array.all_eq_true_iff_forall_mem.1 h) o (Array.mem_of_getElem? hj)
  rw [e] at this
  cases this
/-- A drawn region within a round: the plain word serves. -/
theorem wpIn_round_held {S : World → Prop} {id : Nat} {a : Act} {w : World} (hm : P.follows .mixedOrders = true) (hd : noDefer ops = true) (hQ : ¬ LetsOut Q) (hS : S w.drew)
    (h : S w.drew → wpAnyH P .any ops Q S ops.size (Array.replicate ops.size false) a w.drew) : (Code.region id ops true).wpIn (Fence.wide.inRound l) n P Q a w :=
  wpIn_region_any hm (wpAny_round (noDefer_spec hd) hQ _ _ _ _ (wpAny_of_held _ _ _ _ (h hS)))

end Go.Proofs.YtkgecpplgjfhiaaGreatDoor

namespace Go.Proofs.YtkgecpplgjfhiaaGreatDoor
open Go.RowKit
open Ite (Ent zeroE checkE sizeE)
open Lis (Lst but Tag Ls orderP)
variable {A C : World}
theorem no_tag {w : World} {k : Nat} {o : Obj} (h : w.heap[k]? = some o) (ho : o.isCells = false) (T : TypeId) : ¬ Tag w k T := by
  rintro ⟨c, f, e⟩
  rw [h] at e
  cases e
  cases ho
theorem lt_of_heap {w : World} {k : Nat} {o : Obj} (h : w.heap[k]? = some o) : k < w.heap.size := (Array.getElem?_eq_some_iff.1 h).1
theorem kf_below (B : Nat) (b : Below A.heap.size A C) : KeepsFrom B A C := ⟨b.size, fun k _o _ h _ => (b.block k (lt_of_heap h)).trans h⟩
theorem kf_fr (S : Nat) {B : Nat} (f : Fr B A C) : KeepsFrom S A C := ⟨f.size, fun k o _ h ho => (f.block k (lt_of_heap h) (.inr (fun cur T fr e => by rw [h] at e; cases e; cases ho))).trans h⟩
theorem kf_rg (S : Nat) {Ty : TypeId} {B : Nat} (r : Rg Ty B A C) : KeepsFrom S A C := ⟨r.size, fun k _o _ h ho => (r.block k (lt_of_heap h) (.inr (no_tag h ho Ty))).trans h⟩
theorem kf_set (S : Nat) (A : World) (a : Addr) (v : Value) : KeepsFrom S A (A.setCell a v) := (KeepsOthers.setCell A a v).from S
theorem Rg.kept {Ty : TypeId} {B : Nat} (r : Rg Ty B A C) (hT : Ty ≠ 3) (S : Nat) : Kept S A C := ⟨r.size, fun _ _ t => r.tag t hT.symm⟩
section
variable {w w' : World} {B g gb gl B1 B2 gc : Nat} {v : Value} {lim : Int} {n : Nat} {s : Lst} {bl : List Int} {T : Int → Ent} {th : Nat} {X : Int → Int} {H : Nat → Int} {M : Nat}
theorem Tb.rg {Ty : TypeId} (h : Tb w B g gb gl B1 B2 gc v lim n s bl T th X H M) (r : Rg Ty B w w') (hT : (Ty ≠ 81 ∧ Ty ≠ 112 ∧ Ty ≠ 115 ∧ Ty ≠ 117 ∧ Ty ≠ 3 ∧ Ty ≠ 103) ∧ Ty ≠ 5) : Tb w' B g gb gl B1 B2 gc v lim n s bl T th X H M := by
  obtain ⟨o, lo, bg, lx, ⟨cc, hd, hc⟩, tg, n1, l1⟩ := h
  refine ⟨?_, lo, ?_, ?_, ⟨cc, ?_, hc⟩, ?_, n1, l1⟩
  · rw [r.tag ⟨_, _, o⟩ hT.1.1.symm]; exact o
  · show w'.heap[gb]? = _
    rw [r.tag ⟨_, _, bg⟩ hT.1.2.1.symm]; exact bg
  · obtain ⟨h, l, N, t, f, h1, h2, h3, ob, iv⟩ := lx
    obtain ⟨_, _, _, _, _, _, e1, ⟨c2, e2, _⟩, ⟨c3, e3, _⟩⟩ := id ob
    exact ⟨h, l, N, t, f, h1, h2, h3, ob.same (r.tag ⟨_, _, e1⟩ hT.1.2.2.1.symm) (r.tag ⟨_, _, e2⟩ hT.1.2.2.2.1.symm) (r.tag ⟨_, _, e3⟩ hT.1.2.2.2.2.1.symm), iv⟩
  · rw [r.tag ⟨_, _, hd⟩ hT.1.2.2.2.2.1.symm]; exact hd
  · rcases tg with tg | ⟨b, cap, cur, h1, h2, h3, h4, h5, h6, h7⟩
    · exact .inl tg
    · refine .inr ⟨b, cap, cur, h1, h2, ?_, h4, h5, h6, fun i hi => ?_⟩
      · rw [r.tag ⟨_, _, h3⟩ hT.1.2.2.2.2.2.symm]; exact h3
      · obtain ⟨p, c, a1, a2⟩ := h7 i hi
        exact ⟨p, c, a1, r.bq hT.2 _ _ a2⟩
/-- A number of one's own written, beyond the tier's blocks. -/
theorem Tb.number (h : Tb w B g gb gl B1 B2 gc v lim n s bl T th X H M) {k : Nat} (m : w.grownBy w' (some k)) (hk : gc < k) (ht : Tag w k 3) : Tb w' B g gb gl B1 B2 gc v lim n s bl T th X H M := by
  obtain ⟨o, lo, bg, lx, ⟨cc, hd, hc⟩, tg, n1, l1⟩ := h
  have e : ∀ j U, Tag w j U → U ≠ 3 → w'.heap[j]? = w.heap[j]? := fun j U hj hne => m.block j hj.lt (fun q => hj.ne ht hne (Option.some.inj q))
  have e2 : ∀ j, j < w.heap.size → j < k → w'.heap[j]? = w.heap[j]? := fun j hj hlt => m.block j hj (fun q => by have := Option.some.inj q; omega)
  refine ⟨?_, lo, ?_, ?_, ⟨cc, ?_, hc⟩, ?_, n1, l1⟩
  · rw [e g _ ⟨_, _, o⟩ (by decide)]; exact o
  · show w'.heap[gb]? = _
    rw [e gb _ ⟨_, _, bg⟩ (by decide)]; exact bg
  · obtain ⟨h, l, N, t, f, h1, h2, h3, ob, iv⟩ := lx
    obtain ⟨⟨c1, c2, c3⟩, _⟩ := ob.cells
    exact ⟨h, l, N, t, f, h1, h2, h3, ob.same (e2 _ c1 (by omega)) (e2 _ c2 (by omega)) (e2 _ c3 (by omega)), iv⟩
  · rw [e2 gc (lt_of_block hd) hk]; exact hd
  · rcases tg with tg | ⟨b, cap, cur, h1, h2, h3, h4, h5, h6, h7⟩
    · exact .inl tg
    · refine .inr ⟨b, cap, cur, h1, h2, ?_, h4, h5, h6, fun i hi => ?_⟩
      · rw [e b _ ⟨_, _, h3⟩ (by decide)]; exact h3
      · obtain ⟨p, c, a1, a2⟩ := h7 i hi
        exact ⟨p, c, a1, a2.boxed m (by omega) ht (by decide)⟩
end
end Go.Proofs.YtkgecpplgjfhiaaGreatDoor

namespace Go.Proofs.YtkgecpplgjfhiaaGreatDoor
open Go.RowKit
open Ite (Ent zeroE checkE sizeE)
open Lis (Lst but mem_but Tag Ls orderP)

variable {lim : Int} {n : Nat} {sl : ByteArray → Nat} {s : Lst} {T : Int → Ent} {th : Nat} {C : Nat → List Int} {bl : List Int} {now : Int} {k : Nat} {x : Int}
def keepU (s : Lst) (T : Int → Ent) (now : Int) (k : Nat) : List Int := s.U.filter fun x => !decide (x ∈ (tourOf s T).all.take k) || lv (T x) now
def cntD (s : Lst) (T : Int → Ent) (now : Int) (k : Nat) : Nat := (((tourOf s T).all.take k).filter fun x => !lv (T x) now).length
theorem upto_mem {c : Nat} (h : x ∈ (tourOf s T).upto c) : x ∈ s.U ∧ 0 ≤ ucl (T x) ∧ ucl (T x) < (c : Int) := by
  unfold Tour.upto at h
  obtain ⟨j, hj, h⟩ := List.mem_flatMap.1 h
  obtain ⟨h1, h2⟩ := List.mem_filter.1 h
  have := List.mem_range.1 hj
  have h3 : ucl (T x) = (j : Int) := by simpa using h2
  exact ⟨h1, by omega, by omega⟩
theorem tour_nd (p : Pl n s) (T : Int → Ent) (c : Nat) : ((tourOf s T).upto c).Nodup := by
  induction c with
  | zero => exact List.nodup_nil
  | succ c ih =>
    rw [(tourOf s T).upto_succ]
    refine List.nodup_append.2 ⟨ih, List.Nodup.sublist List.filter_sublist p.ndU, fun a ha b hb e => ?_⟩
    subst e
    have h1 := (upto_mem ha).2.2
    have h2 : ucl (T a) = (c : Int) := by simpa using (List.mem_filter.1 hb).2
    omega
theorem tour_has (v : Tn lim n sl s T th C bl) : x ∈ (tourOf s T).all ↔ x ∈ s.U := by
  refine ⟨tour_mem, fun h => ?_⟩
  obtain ⟨h0, h8, _⟩ := fine_class (v.fine x h)
  unfold Tour.all Tour.upto
  refine List.mem_flatMap.2 ⟨(ucl (T x)).toNat, List.mem_range.2 (by omega), List.mem_filter.2 ⟨h, ?_⟩⟩
  simp
  omega
theorem mem_take_succ {l : List Int} (h : l[k]? = some x) (y : Int) : y ∈ l.take (k + 1) ↔ y ∈ l.take k ∨ y = x := by
  obtain ⟨hl, rfl⟩ := List.getElem?_eq_some_iff.1 h
  rw [List.take_succ_eq_append_getElem hl, List.mem_append, List.mem_singleton]
theorem not_take {l : List Int} (nd : l.Nodup) (h : l[k]? = some x) : ¬ x ∈ l.take k := by
  intro hm
  obtain ⟨i, hi⟩ := List.mem_iff_getElem?.1 hm
  have hlt : i < k := by
    have := (List.getElem?_eq_some_iff.1 hi).1
    rw [List.length_take] at this
    omega
  rw [List.getElem?_take_of_lt hlt] at hi
  have := nodup_at nd hi h
  omega
theorem keep_zero (s : Lst) (T : Int → Ent) (now : Int) : keepU s T now 0 = s.U := by
  unfold keepU
  exact List.filter_eq_self.2 (by simp)
theorem keep_live (h : (tourOf s T).all[k]? = some x) (hl : lv (T x) now = true) : keepU s T now (k + 1) = keepU s T now k := by
  unfold keepU
  refine List.filter_congr fun y _ => ?_
  have e := mem_take_succ h y
  by_cases hy : y = x
  · subst hy; rw [hl]; simp
  · rw [show decide (y ∈ (tourOf s T).all.take (k + 1)) = decide (y ∈ (tourOf s T).all.take k) from decide_eq_decide.2 (e.trans ⟨fun q => q.resolve_right hy, .inl⟩)]
theorem keep_dead (h : (tourOf s T).all[k]? = some x) (hl : lv (T x) now = false) : keepU s T now (k + 1) = but (keepU s T now k) x := by
  unfold keepU but
  rw [List.filter_filter]
  refine List.filter_congr fun y _ => ?_
  have e := mem_take_succ h y
  by_cases hy : y = x
  · subst hy
    rw [hl, show decide (y ∈ (tourOf s T).all.take (k + 1)) = true from decide_eq_true (e.2 (.inr rfl))]
    simp
  · rw [show decide (y ∈ (tourOf s T).all.take (k + 1)) = decide (y ∈ (tourOf s T).all.take k) from decide_eq_decide.2 (e.trans ⟨fun q => q.resolve_right hy, .inl⟩)]
    simp [hy]
theorem keep_mem (p : Pl n s) (h : (tourOf s T).all[k]? = some x) : x ∈ keepU s T now k :=
  List.mem_filter.2 ⟨tour_mem (List.mem_of_getElem? h), by rw [decide_eq_false (not_take (l := (tourOf s T).all) (tour_nd p T 9) h)]; rfl⟩
theorem upto_pre (t : Tour) (c : Nat) : ∀ e, ∃ r, t.upto (c + e) = t.upto c ++ r
  | 0 => ⟨[], by simp⟩
  | e + 1 => by
    obtain ⟨r, h⟩ := upto_pre t c e
    exact ⟨r ++ t.ord (c + e), by rw [← Nat.add_assoc, t.upto_succ, h, List.append_assoc]⟩
theorem keep_ord {c : Nat} (hc : c < 9) (hk : ((tourOf s T).upto c).length = k) : ((keepU s T now k).filter fun x => ucl (T x) == (c : Int)) = (tourOf s T).ord c := by
  obtain ⟨r, hr⟩ := upto_pre (tourOf s T) c (9 - c)
  rw [show c + (9 - c) = 9 by omega] at hr
  have ht : (tourOf s T).all.take k = (tourOf s T).upto c := by
    show ((tourOf s T).upto 9).take k = _
    rw [hr, ← hk]
    exact List.take_left
  show (List.filter _ (s.U.filter _)) = s.U.filter _
  rw [List.filter_filter, ht]
  refine List.filter_congr fun y _ => ?_
  by_cases h : ucl (T y) = (c : Int)
  · rw [decide_eq_false (fun hm => by have := (upto_mem hm).2.2; omega)]
    simp [h]
  · simp [h]
theorem keep_all (v : Tn lim n sl s T th C bl) : keepU s T now (tourOf s T).all.length = s.U.filter fun x => lv (T x) now := by
  unfold keepU
  rw [List.take_length]
  refine List.filter_congr fun y hy => ?_
  rw [decide_eq_true ((tour_has v).2 hy)]
  rfl
theorem keep_sweep (v : Tn lim n sl s T th C bl) : (keepU s T now (tourOf s T).all.length).map T = sweepP (s.U.map T) now := by
  rw [keep_all v]
  unfold sweepP
  rw [List.filter_map]
  rfl
theorem cnt_zero (s : Lst) (T : Int → Ent) (now : Int) : cntD s T now 0 = 0 := rfl
theorem cnt_live (h : (tourOf s T).all[k]? = some x) (hl : lv (T x) now = true) : cntD s T now (k + 1) = cntD s T now k := by
  obtain ⟨hlt, hx⟩ := List.getElem?_eq_some_iff.1 h
  unfold cntD
  rw [List.take_succ_eq_append_getElem hlt, hx, List.filter_append]
  simp [hl]
theorem cnt_dead (h : (tourOf s T).all[k]? = some x) (hl : lv (T x) now = false) : cntD s T now (k + 1) = cntD s T now k + 1 := by
  obtain ⟨hlt, hx⟩ := List.getElem?_eq_some_iff.1 h
  unfold cntD
  rw [List.take_succ_eq_append_getElem hlt, hx, List.filter_append]
  simp [hl]
theorem cnt_le (s : Lst) (T : Int → Ent) (now : Int) (k : Nat) : cntD s T now k ≤ k := by
  unfold cntD
  refine Nat.le_trans (List.length_filter_le _ _) ?_
  rw [List.length_take]
  omega
theorem len_part {α : Type} (l : List α) (p : α → Bool) : (l.filter p).length + (l.filter fun x => !p x).length = l.length := by
  induction l with
  | nil => rfl
  | cons y r ih =>
    rw [List.filter_cons, List.filter_cons]
    cases p y <;> simp <;> omega
theorem tour_perm (v : Tn lim n sl s T th C bl) (p : Pl n s) : (tourOf s T).all.Perm s.U := (List.perm_ext_iff_of_nodup (tour_nd p T 9) p.ndU).2 fun _ => tour_has v
theorem tour_len (v : Tn lim n sl s T th C bl) (p : Pl n s) : (tourOf s T).all.length = (s.U.map T).length := by rw [(tour_perm v p).length_eq, List.length_map]
theorem cnt_all (v : Tn lim n sl s T th C bl) (p : Pl n s) : ((cntD s T now (tourOf s T).all.length : Nat) : Int) = ((s.U.map T).length : Int) - ((sweepP (s.U.map T) now).length : Int) := by
  unfold cntD
  rw [List.take_length, ((tour_perm v p).filter _).length_eq, ← keep_sweep v, keep_all v, List.length_map, List.length_map]
  have := len_part s.U fun x => lv (T x) now
  omega

variable {w : World} {B g gb gl B1 B2 gc : Nat} {v : Value} {X : Int → Int} {H : Nat → Int} {M : Nat}
theorem remove_u (h : Tb w B g gb gl B1 B2 gc v lim n s bl T th X H M) (t : Tn lim n (slt n) s T th C bl) (hw : ∀ c, c < n → Way X (H c) (C c)) {i : Nat} (hi : (i : Int) ∈ s.U) :
    Calls Tryz.prog 62 #[.pointer (some ⟨g, 0, none⟩), .int .i64 (i : Int)] w fun e w' => (∃ u, e = .returned u) ∧ Fr B w w' ∧ (∀ S, gc < S → B2 ≤ S → Kept S w w') ∧
      ∃ s' bl' T' X' H' C', Tb w' B g gb gl B1 B2 gc v lim n s' bl' T' th X' H' M ∧ Tn lim n (slt n) s' T' th C' bl' ∧ (∀ c, c < n → Way X' (H' c) (C' c)) ∧ s'.U = but s.U i ∧ ∀ y ∈ s'.U, T' y = T y := by
  obtain ⟨pl, hat⟩ := h.lx.pl
  refine (remove_tb h t hw hi).mono ?_
  rintro e w' ⟨p, c, rfl, hb, hf, X', H', ht, hw', hk⟩
  have e1 : (Lis.dropP s (i : Int)).1 = ⟨Lis.setL s (Lis.whereP s.L i) (but (Lis.getL s (Lis.whereP s.L i)) i), (i : Int) :: s.F, but s.U i, s.n⟩ := by
    unfold Lis.dropP
    rw [if_neg (by rw [hat _ hi]; simp)]
  have e2 : (Sla.giveP bl (ucl (T i))).1 = bl.erase (ucl (T i)) := by
    obtain ⟨c0, c8, _⟩ := fine_class (t.fine _ hi)
    have hm : ucl (T i) ∈ bl := t.bud.mem_iff.2 (List.mem_map.2 ⟨_, hi, rfl⟩)
    have := Sla.cnt_pos.2 hm
    unfold Sla.giveP
    rw [if_neg (by omega), if_neg (by omega)]
  rw [e1, e2] at ht
  exact ⟨⟨_, rfl⟩, hf, hk, _, _, _, _, _, _, ht, t.drop pl hi, hw', rfl, fun y hy => chg_ne _ _ (mem_but.1 hy).2⟩
end Go.Proofs.YtkgecpplgjfhiaaGreatDoor
