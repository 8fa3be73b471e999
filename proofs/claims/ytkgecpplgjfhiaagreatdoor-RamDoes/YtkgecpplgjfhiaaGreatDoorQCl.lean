/-
  The class of an entry; a link of a chain written.
-/
import Derived.Test.YtkgecpplgjfhiaaGreatDoorQFind
import Derived.Test.YtkgecpplgjfhiaaGreatDoorQIRChk
namespace Go.Proofs.YtkgecpplgjfhiaaGreatDoor
open Go.RowKit
open Ite (Ent zeroE checkE sizeE)
open Lis (Lst but Tag)

theorem setCells_one (w : World) (b o : Nat) (v : Value) : w.setCells b o [v] = w.setCell ⟨b, o, none⟩ v := rfl
theorem setCells_heap : ∀ (vs : List Value) (o : Nat) (w : World) (b : Nat) (cur : Array Value) (T : TypeId) (fr : Nat × Nat), w.heap[b]? = some (.cells cur T fr) → o + vs.length ≤ cur.size →
    ∃ cur', (w.setCells b o vs).heap[b]? = some (.cells cur' T fr) ∧ cur'.size = cur.size ∧ (∀ j, o ≤ j → j < o + vs.length → cur'[j]? = vs[j - o]?) ∧ ∀ j, (j < o ∨ o + vs.length ≤ j) → cur'[j]? = cur[j]?
  | [], o, w, b, cur, T, fr, h, _ => ⟨cur, h, rfl, fun j h1 h2 => by simp at h2; omega, fun j _ => rfl⟩
  | v :: r, o, w, b, cur, T, fr, h, hs => by
    have h1 : (w.setCell ⟨b, o, none⟩ v).heap[b]? = some (.cells (cur.setIfInBounds o v) T fr) := Lis.set_same h
    simp only [List.length_cons] at hs
    obtain ⟨cur', e1, e2, e3, e4⟩ := setCells_heap r (o + 1) _ b _ T fr h1 (by simp; omega)
    refine ⟨cur', by rw [World.setCells]; exact e1, by rw [e2]; simp, fun j a1 a2 => ?_, fun j a => ?_⟩
    · simp only [List.length_cons] at a2
      by_cases e : j = o
      · subst e
        rw [e4 j (.inl (by omega)), Array.getElem?_setIfInBounds, if_pos rfl, if_pos (by omega)]; simp
      · rw [e3 j (by omega) (by omega), show j - o = (j - (o + 1)) + 1 by omega]; simp
    · simp only [List.length_cons] at a
      rw [e4 j (by omega), Array.getElem?_setIfInBounds, if_neg (by omega)]
theorem setCells_other : ∀ (vs : List Value) (o : Nat) (w : World) (b k : Nat), k ≠ b → (w.setCells b o vs).heap[k]? = w.heap[k]?
  | [], _, _, _, _, _ => rfl
  | v :: r, o, w, b, k, h => by rw [World.setCells, setCells_other r (o + 1) _ b k h]; exact Lis.set_other h
theorem setCells_rest : ∀ (vs : List Value) (o : Nat) (w : World) (b : Nat), (w.setCells b o vs).os = w.os ∧ (w.setCells b o vs).tape = w.tape ∧ (w.setCells b o vs).output = w.output ∧ (w.setCells b o vs).heap.size = w.heap.size
  | [], _, _, _ => ⟨rfl, rfl, rfl, rfl⟩
  | v :: r, o, w, b => by
    rw [World.setCells]
    obtain ⟨a, b', c, d⟩ := setCells_rest r (o + 1) (w.setCell ⟨b, o, none⟩ v) b
    exact ⟨a, b', c, by rw [d]; simp [World.setCell]⟩
theorem grown_setCells (w : World) (b o : Nat) (vs : List Value) : w.grownBy (w.setCells b o vs) (some b) := by
  obtain ⟨a, b', c, d⟩ := setCells_rest vs o w b
  exact ⟨a, b', c, Nat.le_of_eq d.symm, fun k _ hk => setCells_other vs o w b k (fun e => hk (by rw [e]))⟩

def chgN (H : Nat → Int) (c : Nat) (x : Int) : Nat → Int := fun d => if d = c then x else H d
variable {w : World} {B g gb gl B1 B2 gc : Nat} {v : Value} {lim : Int} {n : Nat} {s : Lst} {bl : List Int} {T : Int → Ent} {th : Nat} {X : Int → Int} {H : Nat → Int} {M : Nat}

/-- Another state of the blocks of things and chains; all else as it was. -/
theorem Tb.other {w' : World} {k : Nat} {v' : Value} {T' : Int → Ent} {th' : Nat} {X' : Int → Int} {H' : Nat → Int} (h : Tb w B g gb gl B1 B2 gc v lim n s bl T th X H M) (m : w.grownBy w' (some k)) (hk : B2 ≤ k)
    (ho : w'.heap[g]? = some (.cells #[.pointer (some ⟨gb, 0, none⟩), .pointer (some ⟨gl, 0, none⟩), v', .slice (some ⟨gc, 0, none⟩) n n] 81 (0, 0))) (hh : Hd w' gc n H') (ht : Th w' B B2 v' th' T' X') :
    Tb w' B g gb gl B1 B2 gc v' lim n s bl T' th' X' H' M := by
  obtain ⟨o, lo, bg, lx, _, _, n1, l1⟩ := h
  have e : ∀ j, j < w.heap.size → j ≠ k → w'.heap[j]? = w.heap[j]? := fun j hj hne => m.block j hj (fun e => hne (Option.some.inj e))
  refine ⟨ho, lo, ?_, ?_, hh, ht, n1, l1⟩
  · show w'.heap[gb]? = _
    rw [e gb (lt_of_block bg) (by omega)]; exact bg
  · obtain ⟨h, l, N, t, f, h1, h2, h3, ob, iv⟩ := lx
    obtain ⟨⟨c1, c2, c3⟩, _⟩ := ob.cells
    exact ⟨h, l, N, t, f, h1, h2, h3, ob.same (e _ c1 (by omega)) (e _ c2 (by omega)) (e _ c3 (by omega)), iv⟩

theorem Tb.setHead (h : Tb w B g gb gl B1 B2 gc v lim n s bl T th X H M) {c : Nat} (hc : c < n) (x : Int) : Tb (w.setCell ⟨gc, c, none⟩ (.int .i64 x)) B g gb gl B1 B2 gc v lim n s bl T th X (chgN H c x) M ∧ Fr B w (w.setCell ⟨gc, c, none⟩ (.int .i64 x)) := by
  obtain ⟨cur, e, f⟩ := h.hd
  have ht : Tag w gc 3 := ⟨_, _, e⟩
  have hcs : c < cur.size := (Array.getElem?_eq_some_iff.1 (f c hc)).1
  have hm := Ite.setCell_grownBy w gc c (.int .i64 x)
  have lo := h.lo
  have hgne : g ≠ gc := Lis.Tag.ne ⟨_, _, h.obj⟩ ht (by decide)
  have fr : Fr B w _ := Fr.grown hm (by omega) ht (.inr (.inr (.inl rfl)))
  refine ⟨h.other hm lo.2.2.2.1 ?_ ⟨_, Lis.set_same e, fun d hd => ?_⟩ (h.thg.fr fr fun b _ hb => hm.block b hb.lt (fun q => ?_)), fr⟩
  · rw [hm.block g (lt_of_block h.obj) (fun q => hgne (Option.some.inj q))]; exact h.obj
  · unfold chgN
    rw [Array.getElem?_setIfInBounds]
    by_cases q : c = d
    · subst q; rw [if_pos rfl, if_pos hcs, if_pos rfl]
    · rw [if_neg q, if_neg (fun h => q h.symm)]; exact f d hd
  · exact hb.ne ht (by decide) (Option.some.inj q)

/-- Cells of things written: a thing is another. -/
theorem Tb.setThing {b cap : Nat} (h : Tb w B g gb gl B1 B2 gc (.slice (some ⟨b, 0, none⟩) th cap) lim n s bl T th X H M) {i : Nat} (hi : i < th) (x : Ent) {p : Option Addr} {c : Nat} (hx : Bq w B (.slice p x.val.length c) x.val) (nx : Int) :
    Tb (w.setCells b (i * 6) (thC x (.slice p x.val.length c) nx)) B g gb gl B1 B2 gc (.slice (some ⟨b, 0, none⟩) th cap) lim n s bl (chg T i x) th (chg X i nx) H M ∧ Fr B w (w.setCells b (i * 6) (thC x (.slice p x.val.length c) nx)) := by
  have lo := h.lo
  rcases h.thg with ⟨q, _⟩ | ⟨b', cap', cur, h1, h2, h3, h4, h5, h6, h7⟩
  · cases q
  · obtain ⟨rfl, rfl⟩ : b = b' ∧ cap = cap' := by cases h1; exact ⟨rfl, rfl⟩
    have ht : Tag w b 103 := ⟨_, _, h3⟩
    have hm := grown_setCells w b (i * 6) (thC x (.slice p x.val.length c) nx)
    have fr : Fr B w _ := Fr.grown hm (by omega) ht (.inr (.inr (.inr rfl)))
    obtain ⟨cur', e1, e2, e3, e4⟩ := setCells_heap (thC x (.slice p x.val.length c) nx) (i * 6) w b cur _ _ h3 (by simp [thC]; omega)
    have hl : (thC x (.slice p x.val.length c) nx).length = 6 := rfl
    rw [hl] at e3 e4
    obtain ⟨cc, f1, f2⟩ := h.hd
    refine ⟨h.other hm h2 ?_ ⟨cc, ?_, f2⟩ (.inr ⟨b, cap, cur', rfl, h2, e1, h4, h5, by rw [e2]; exact h6, fun j hj => ?_⟩), fr⟩
    · rw [hm.block g (lt_of_block h.obj) (fun q => (Lis.Tag.ne ⟨_, _, h.obj⟩ ht (by decide)) (Option.some.inj q))]; exact h.obj
    · rw [hm.block gc (lt_of_block f1) (fun q => (Lis.Tag.ne ⟨_, _, f1⟩ ht (by decide)) (Option.some.inj q))]; exact f1
    · by_cases q : j = i
      · subst q
        rw [chg_at, chg_at]
        refine ⟨p, c, fun k u hu => ?_, hx.fr fr⟩
        have hk : k < 6 := (List.getElem?_eq_some_iff.1 hu).1
        rw [e3 _ (by omega) (by omega), show j * 6 + k - j * 6 = k by omega]; exact hu
      · have q' : (j : Int) ≠ (i : Int) := by omega
        rw [chg_ne _ _ q', chg_ne _ _ q']
        obtain ⟨p', c', a1, a2⟩ := h7 j hj
        refine ⟨p', c', fun k u hu => ?_, a2.fr fr⟩
        have hk : k < 6 := (List.getElem?_eq_some_iff.1 hu).1
        rw [e4 _ (by omega)]
        exact a1 k u hu
theorem Tb.setNext {b cap : Nat} (h : Tb w B g gb gl B1 B2 gc (.slice (some ⟨b, 0, none⟩) th cap) lim n s bl T th X H M) {i : Nat} (hi : i < th) (nx : Int) :
    Tb (w.setCell ⟨b, i * 6 + 5, none⟩ (.int .i64 nx)) B g gb gl B1 B2 gc (.slice (some ⟨b, 0, none⟩) th cap) lim n s bl T th (chg X i nx) H M ∧ Fr B w (w.setCell ⟨b, i * 6 + 5, none⟩ (.int .i64 nx)) := by
  have lo := h.lo
  rcases h.thg with ⟨q, _⟩ | ⟨b', cap', cur, h1, h2, h3, h4, h5, h6, h7⟩
  · cases q
  · obtain ⟨rfl, rfl⟩ : b = b' ∧ cap = cap' := by cases h1; exact ⟨rfl, rfl⟩
    have ht : Tag w b 103 := ⟨_, _, h3⟩
    have hm := grown_setCells w b (i * 6 + 5) [.int .i64 nx]
    have fr : Fr B w _ := Fr.grown hm (by omega) ht (.inr (.inr (.inr rfl)))
    obtain ⟨cur', e1, e2, e3, e4⟩ := setCells_heap [.int .i64 nx] (i * 6 + 5) w b cur _ _ h3 (by simp; omega)
    simp only [List.length_singleton] at e3 e4
    obtain ⟨cc, f1, f2⟩ := h.hd
    rw [setCells_one] at hm fr e1
    refine ⟨h.other hm h2 ?_ ⟨cc, ?_, f2⟩ (.inr ⟨b, cap, cur', rfl, h2, e1, h4, h5, by rw [e2]; exact h6, fun j hj => ?_⟩), fr⟩
    · rw [hm.block g (lt_of_block h.obj) (fun q => (Lis.Tag.ne ⟨_, _, h.obj⟩ ht (by decide)) (Option.some.inj q))]; exact h.obj
    · rw [hm.block gc (lt_of_block f1) (fun q => (Lis.Tag.ne ⟨_, _, f1⟩ ht (by decide)) (Option.some.inj q))]; exact f1
    · obtain ⟨p', c', a1, a2⟩ := h7 j hj
      refine ⟨p', c', fun k u hu => ?_, a2.fr fr⟩
      have hk : k < 6 := (List.getElem?_eq_some_iff.1 hu).1
      by_cases q : j * 6 + k = i * 6 + 5
      · obtain rfl : k = 5 := by omega
        obtain rfl : j = i := by omega
        rw [chg_at] at hu
        have hu : some (Value.int .i64 nx) = some u := hu
        rw [e3 _ (by omega) (by omega), show j * 6 + 5 - (j * 6 + 5) = 0 by omega]
        exact hu
      · rw [e4 _ (by omega)]
        refine a1 k u ?_
        by_cases q2 : j = i
        · subst q2
          rcases k with _ | _ | _ | _ | _ | k
          · exact hu
          · exact hu
          · exact hu
          · exact hu
          · exact hu
          · omega
        · rw [chg_ne _ _ (by omega)] at hu; exact hu
theorem good_ent : ((25 : TypeId) ≠ 81 ∧ (25 : TypeId) ≠ 112 ∧ (25 : TypeId) ≠ 115 ∧ (25 : TypeId) ≠ 117 ∧ (25 : TypeId) ≠ 3 ∧ (25 : TypeId) ≠ 103) ∧ (25 : TypeId) ≠ 5 := by decide
theorem Fr.ent {w' : World} {b : Nat} {cur : Array Value} {fr : Nat × Nat} {Ty : TypeId} (f : Fr B w w') (h : w.heap[b]? = some (.cells cur Ty fr)) (hT : Ty ≠ 81 ∧ Ty ≠ 112 ∧ Ty ≠ 115 ∧ Ty ≠ 117 ∧ Ty ≠ 3 ∧ Ty ≠ 103) : w'.heap[b]? = some (.cells cur Ty fr) := by
  rw [f.block b (lt_of_block h) (.inr (Lis.Tag.notR ⟨_, _, h⟩ hT))]; exact h
theorem Fr.box {w0 w' : World} {k : Nat} (f : Fr B w0 w) (m : w.grownBy w' (some k)) (h : w0.heap.size ≤ k) : Fr B w0 w' :=
  ⟨m.os.trans f.os, m.tape.trans f.tape, m.output.trans f.output, Nat.le_trans f.size m.size, fun j hj hb => (m.block j (Nat.lt_of_lt_of_le hj f.size) (fun e => by have := Option.some.inj e; omega)).trans (f.block j hj hb)⟩
theorem Bq.boxed {w' : World} {k : Nat} {Ty : TypeId} {u : Value} {l : List Int} (h : Bq w B u l) (m : w.grownBy w' (some k)) (hk : B ≤ k) (ht : Tag w k Ty) (hT : Ty ≠ 5) : Bq w' B u l := by
  obtain ⟨b, h, q⟩ := h
  rcases q with rfl | q | q
  · exact ⟨b, empty_sl h, .inl rfl⟩
  · exact ⟨b, h.keeps m.size (fun hlt => m.block b hlt (fun e => by have := Option.some.inj e; omega)), .inr (.inl q)⟩
  · have e := m.block b q.lt (fun e => q.ne ht hT.symm (Option.some.inj e))
    exact ⟨b, h.keeps m.size (fun _ => e), .inr (.inr (q.same e))⟩
/-- A box of another type written. -/
theorem Tb.boxed {w' : World} {k : Nat} {Ty : TypeId} (h : Tb w B g gb gl B1 B2 gc v lim n s bl T th X H M) (m : w.grownBy w' (some k)) (hk : B ≤ k) (ht : Tag w k Ty) (hT : (Ty ≠ 81 ∧ Ty ≠ 112 ∧ Ty ≠ 115 ∧ Ty ≠ 117 ∧ Ty ≠ 3 ∧ Ty ≠ 103) ∧ Ty ≠ 5) : Tb w' B g gb gl B1 B2 gc v lim n s bl T th X H M := by
  obtain ⟨o, lo, bg, lx, ⟨cc, hd, hc⟩, tg, n1, l1⟩ := h
  have e : ∀ j U, Tag w j U → U ≠ Ty → w'.heap[j]? = w.heap[j]? := fun j U hj hne => m.block j hj.lt (fun q => hj.ne ht hne (Option.some.inj q))
  refine ⟨?_, lo, ?_, ?_, ⟨cc, ?_, hc⟩, ?_, n1, l1⟩
  · rw [e g _ ⟨_, _, o⟩ hT.1.1.symm]; exact o
  · show w'.heap[gb]? = _
    rw [e gb _ ⟨_, _, bg⟩ hT.1.2.1.symm]; exact bg
  · obtain ⟨h, l, N, t, f, h1, h2, h3, ob, iv⟩ := lx
    obtain ⟨_, _, _, _, _, _, e1, ⟨c2, e2, _⟩, ⟨c3, e3, _⟩⟩ := id ob
    exact ⟨h, l, N, t, f, h1, h2, h3, ob.same (e _ _ ⟨_, _, e1⟩ hT.1.2.2.1.symm) (e _ _ ⟨_, _, e2⟩ hT.1.2.2.2.1.symm) (e _ _ ⟨_, _, e3⟩ hT.1.2.2.2.2.1.symm), iv⟩
  · rw [e gc _ ⟨_, _, hd⟩ hT.1.2.2.2.2.1.symm]; exact hd
  · rcases tg with tg | ⟨b, cap, cur, h1, h2, h3, h4, h5, h6, h7⟩
    · exact .inl tg
    · refine .inr ⟨b, cap, cur, h1, h2, ?_, h4, h5, h6, fun i hi => ?_⟩
      · rw [e b _ ⟨_, _, h3⟩ hT.1.2.2.2.2.2.symm]; exact h3
      · obtain ⟨p, c, a1, a2⟩ := h7 i hi
        exact ⟨p, c, a1, a2.boxed m hk ht hT.2⟩
end Go.Proofs.YtkgecpplgjfhiaaGreatDoor

namespace Go.Proofs.YtkgecpplgjfhiaaGreatDoor
open Go.RowKit
open Ite (Ent zeroE checkE sizeE)
open Lis (Lst but Tag)

theorem class_any (k : ByteArray) (v a e : Int) (p : Option Addr) (n cap : Nat) (w : World) (hk : k.size ≤ 1000) (hn : n ≤ 5000) (hv : 0 ≤ v) (ha : 0 ≤ a) (he : 0 ≤ e) :
    Calls Tryz.prog 54 #[.agg #[.string k, .int .i64 v, .int .i64 a, .int .i64 e, .slice p n cap]] w fun en w' => en = .returned (.int .i64 (Sla.cls (Ite.sizeP k.size v a e n : Int))) ∧ Below w.heap.size w w' := by
  have B0 : Below w.heap.size w (w.alloc (.cells #[.string k, .int .i64 v, .int .i64 a, .int .i64 e, .slice p n cap] 25)) := by go_grown
  have KS := hid2 (Ite.size_any k v a e p n cap (w.alloc (.cells #[.string k, .int .i64 v, .int .i64 a, .int .i64 e, .slice p n cap] 25)) hk hn hv ha he)
  have HB0 := hid2 B0
  clear B0
  go_enter Tryz.func54, Tryz.ntmps54
  go_wp2_with fail
  refine (show Calls _ _ _ _ _ from KS.out).mono ?_
  rintro e1 w1 ⟨rfl, hb⟩
  have HB1 := hid2 (HB0.out.trans (hb.mono HB0.out.size))
  clear hb
  have KC := hid2 (fun W => Sla.class_any W (Ite.sizeP k.size v a e n : Int))
  go_wp2_with fail
  refine (show Calls _ _ _ _ _ from KC.out _).mono ?_
  rintro e2 w2 ⟨rfl, rfl⟩
  go_wp2
  go_ret
  exact ⟨rfl, HB1.out⟩

/-- Where the link of the rest of a chain lies. -/
def Lp (gc c0 tb : Nat) (a : List Int) (lb lo : Nat) : Prop := (a = [] ∧ lb = gc ∧ lo = c0) ∨ ∃ (a' : List Int) (y : Nat), a = a' ++ [(y : Int)] ∧ lb = tb ∧ lo = y * 6 + 5
variable {w : World} {B g gb gl B1 B2 gc : Nat} {lim : Int} {n : Nat} {s : Lst} {bl : List Int} {T : Int → Ent} {th : Nat} {X : Int → Int} {H : Nat → Int} {M : Nat} {C : Nat → List Int} {tb cap : Nat}
theorem Way.at_ {X : Int → Int} : ∀ {a : List Int} {h x : Int} {b : List Int}, Way X h (a ++ x :: b) → Way X x (x :: b)
  | [], h, x, b, w => by obtain ⟨rfl, h0, w⟩ := w; exact ⟨rfl, h0, w⟩
  | y :: a, h, x, b, w => by obtain ⟨rfl, h0, w⟩ := w; exact w.at_
theorem Way.last {X : Int → Int} : ∀ {a : List Int} {h y x : Int} {b : List Int}, Way X h (a ++ y :: x :: b) → X y = x
  | [], h, y, x, b, w => by obtain ⟨rfl, h0, rfl, _⟩ := w; rfl
  | z :: a, h, y, x, b, w => by obtain ⟨rfl, h0, w⟩ := w; exact w.last
/-- The link holds the head of the rest. -/
theorem link_at (h : Tb w B g gb gl B1 B2 gc (.slice (some ⟨tb, 0, none⟩) th cap) lim n s bl T th X H M) (t : Tn lim n (slt n) s T th C bl) (hw : ∀ c, c < n → Way X (H c) (C c)) {c0 : Nat} (hc : c0 < n) {a r : List Int} {x : Int} (e : C c0 = a ++ x :: r) {lb lo : Nat} (hl : Lp gc c0 tb a lb lo) :
    w.cell? ⟨lb, lo, none⟩ = some (.int .i64 x) ∧ w.frozen? ⟨lb, lo, none⟩ = false := by
  have hW := hw c0 hc
  rw [e] at hW
  rcases hl with ⟨rfl, rfl, rfl⟩ | ⟨a', y, rfl, rfl, rfl⟩
  · obtain ⟨h1, h2⟩ := h.head hc
    have : H lo = x := hW.1
    rw [this] at h1
    exact ⟨h1, h2⟩
  · rw [List.append_assoc] at hW
    have hx := hW.last
    have hy : (y : Int) ∈ C c0 := by rw [e]; simp
    have hyt := (t.used _ ((t.ch _ _).1 hy).1).2
    obtain ⟨b, cap', p, c, h1, h2, _, _, _, h5, h6, _⟩ := h.thg.look (i := y) (by omega)
    cases h1
    obtain ⟨_, q, _⟩ := thing_cells h6
    rw [hx] at q
    exact ⟨q, h5 _⟩
/-- The link written, and the thing of the node made zero. -/
theorem link_cut (h : Tb w B g gb gl B1 B2 gc (.slice (some ⟨tb, 0, none⟩) th cap) lim n s bl T th X H M) (t : Tn lim n (slt n) s T th C bl) (hw : ∀ c, c < n → Way X (H c) (C c)) {c0 : Nat} (hc : c0 < n) {a r : List Int} {i : Nat} (e : C c0 = a ++ (i : Int) :: r) {lb lo : Nat} (hl : Lp gc c0 tb a lb lo) (hk : c0 = slt n (T i).key) :
    ∃ X' H', Tb (w.setCell ⟨lb, lo, none⟩ (.int .i64 (X i))) B g gb gl B1 B2 gc (.slice (some ⟨tb, 0, none⟩) th cap) lim n s bl T th X' H' M ∧ Fr B w (w.setCell ⟨lb, lo, none⟩ (.int .i64 (X i))) ∧
      ∀ c, c < n → Way (chg X' i 0) (H' c) (if c = slt n (T i).key then but (C c) i else C c) := by
  have hW := hw c0 hc
  have nd := t.cnd c0
  rw [e] at hW nd
  have hbut : but (C c0) i = a ++ r := by rw [e]; exact Lis.but_split nd
  have hiC : (i : Int) ∈ C c0 := by rw [e]; simp
  have hiU := ((t.ch _ _).1 hiC).1
  have hni : ¬ (i : Int) ∈ a ++ r := by
    rw [← hbut]; exact fun hm => (Lis.mem_but.1 hm).2 rfl
  have out : ∀ c x, c ≠ c0 → x ∈ C c0 → ¬ x ∈ C c := fun c x hne h1 h2 => hne (by rw [← ((t.ch _ _).1 h1).2, ← ((t.ch _ _).1 h2).2])
  rcases hl with ⟨rfl, rfl, rfl⟩ | ⟨a', y, rfl, rfl, rfl⟩
  · obtain ⟨q1, q2⟩ := h.setHead hc (X i)
    refine ⟨X, _, q1, q2, fun c hcn => ?_⟩
    unfold chgN
    by_cases ec : c = lo
    · subst ec
      rw [if_pos rfl, if_pos hk, hbut]
      obtain ⟨_, _, hWr⟩ := hW
      exact hWr.out (by simpa using hni)
    · rw [if_neg ec, if_neg (by rw [← hk]; exact ec)]
      exact (hw c hcn).out (out c _ ec hiC)
  · have hy : (y : Int) ∈ C c0 := by rw [e]; simp
    have hyt := (t.used _ ((t.ch _ _).1 hy).1).2
    obtain ⟨q1, q2⟩ := h.setNext (i := y) (by omega) (X i)
    refine ⟨_, H, q1, q2, fun c hcn => ?_⟩
    by_cases ec : c = c0
    · subst ec
      rw [if_pos hk, hbut]
      rw [List.append_assoc] at hW nd ⊢
      exact (hW.cut nd).out (by rw [List.append_assoc] at hni; exact hni)
    · rw [if_neg (by rw [← hk]; exact ec)]
      exact ((hw c hcn).out (out c _ ec hy)).out (out c _ ec hiC)
end Go.Proofs.YtkgecpplgjfhiaaGreatDoor
