/-
  What a Set keeps, or tells.
-/
import Derived.Test.YtkgecpplgjfhiaaGreatDoorQDoA
import Derived.Test.YtkgecpplgjfhiaaGreatDoorQDoB
import Derived.Test.YtkgecpplgjfhiaaGreatDoorQDoC
import Derived.Test.YtkgecpplgjfhiaaGreatDoorQDoD
import Derived.Test.YtkgecpplgjfhiaaGreatDoorQDoE
namespace Go.Proofs.YtkgecpplgjfhiaaGreatDoor
open Go.RowKit
open Ite (Ent zeroE checkE sizeE)
open Lis (Lst but Tag)
variable {w : World} {B g : Nat} {lim : Int} {L R : List Ent} {M : Nat} {p : Option Addr} {cap : Nat} {q : Option Addr} {c : Nat}
/-- What an act leaves. -/
def actP (lim : Int) (L : List Ent) (o : ActR) : List Ent :=
  if o.kind = 0 then (setP lim L o.x o.now).1 else if o.kind = 1 then (getP L o.x.key o.now).1 else if o.kind = 2 then dropE L o.x.key else if o.kind = 4 then sweepP L o.now else L
/-- What the first k acts leave. -/
def actsP (lim : Int) (os : List ActR) (k : Nat) : List Ent := (os.take k).foldl (actP lim) []
theorem actsP_zero (lim : Int) (os : List ActR) : actsP lim os 0 = [] := rfl
theorem actsP_succ {lim : Int} {os : List ActR} {k : Nat} {o : ActR} (h : os[k]? = some o) : actsP lim os (k + 1) = actP lim (actsP lim os k) o := by
  obtain ⟨hl, rfl⟩ := List.getElem?_eq_some_iff.1 h
  unfold actsP
  rw [List.take_succ_eq_append_getElem hl, List.foldl_append]
  rfl
def opC (o : ActR) (q : Option Addr) (c : Nat) : List Value := [.int .i64 o.kind, .string o.x.key, .int .i64 o.x.ver, .int .i64 o.x.asof, .int .i64 o.x.ends, .slice q o.x.val.length c, .int .i64 o.now]
theorem do_gen (h : Tier w B g lim L M) (hM : M ≤ 900) (hE : Es w B (.slice p R.length cap) R) (hz : p = none → cap = 0) (hR : R.length ≤ 640) (o : ActR) (hk0 : o.kind ≠ 0) (hx : Bq w B (.slice q o.x.val.length c) o.x.val) (he : ErrT w) (h0 : 0 < B) (hkk : o.x.key.size ≤ 1000) (hkv : o.x.val.length ≤ 5000) :
    Calls Tryz.prog 13 #[.pointer (some ⟨g, 0, none⟩), .agg #[.int .i64 lim, .slice p R.length cap], .agg #[.int .i64 o.kind, .string o.x.key, .int .i64 o.x.ver, .int .i64 o.x.asof, .int .i64 o.x.ends, .slice q o.x.val.length c, .int .i64 o.now]] w fun e w' =>
      ∃ p' cap' b, e = .returned (.tuple #[.agg #[.int .i64 lim, .slice p' (actP lim R o).length cap'], .bool b]) ∧ (L = R → b = true) ∧ Es w' B (.slice p' (actP lim R o).length cap') (actP lim R o) ∧ (p' = none → cap' = 0) ∧ Tier w' B g lim (actP lim L o) (M + 1) ∧ Fr B w w' := by
  obtain ⟨kd, x, now⟩ := o
  unfold actP
  dsimp only at hk0 hx hkk hkv ⊢
  rw [if_neg hk0, if_neg hk0]
  by_cases h1 : kd = 1
  · subst h1; rw [if_pos rfl, if_pos rfl]; exact do_get h hM hE hz hR hx he h0 hkk hkv
  · rw [if_neg h1, if_neg h1]
    by_cases h2 : kd = 2
    · subst h2; rw [if_pos rfl, if_pos rfl]; exact do_drop h hM hE hz hR hx he h0 hkk hkv
    · rw [if_neg h2, if_neg h2]
      by_cases h4 : kd = 4
      · subst h4; rw [if_pos rfl, if_pos rfl]; exact do_sweep h hM hE hz hR hx he h0 hkk hkv
      · rw [if_neg h4, if_neg h4]
        by_cases h3 : kd = 3
        · subst h3; exact do_peek h hM hE hz hR hx he h0 hkk hkv
        · exact do_none h hM hE hz hR hx he h0 hkk hkv hk0 h1 h2 h3 h4
theorem do_same (h : Tier w B g lim L M) (hM : M ≤ 900) (hE : Es w B (.slice p L.length cap) L) (hz : p = none → cap = 0) (o : ActR) (hx : Bq w B (.slice q o.x.val.length c) o.x.val) (he : ErrT w) (h0 : 0 < B) (hkk : o.x.key.size ≤ 1000) (hkv : o.x.val.length ≤ 5000) :
    Calls Tryz.prog 13 #[.pointer (some ⟨g, 0, none⟩), .agg #[.int .i64 lim, .slice p L.length cap], .agg #[.int .i64 o.kind, .string o.x.key, .int .i64 o.x.ver, .int .i64 o.x.asof, .int .i64 o.x.ends, .slice q o.x.val.length c, .int .i64 o.now]] w fun e w' =>
      ∃ p' cap', e = .returned (.tuple #[.agg #[.int .i64 lim, .slice p' (actP lim L o).length cap'], .bool true]) ∧ Es w' B (.slice p' (actP lim L o).length cap') (actP lim L o) ∧ (p' = none → cap' = 0) ∧ Tier w' B g lim (actP lim L o) (M + 1) ∧ Fr B w w' := by
  by_cases hk0 : o.kind = 0
  · obtain ⟨kd, x, now⟩ := o
    unfold actP
    dsimp only at hk0 hx hkk hkv ⊢
    subst hk0
    rw [if_pos rfl]
    refine (do_set h hM hE hz h.fine.2.2.2.2.2.1 hx he h0 hkk hkv).mono ?_
    rintro e w' ⟨p', cap', b, rfl, rfl, h1, h2, h3, h4⟩
    exact ⟨p', cap', rfl, h1, h2, h3, h4⟩
  · refine (do_gen h hM hE hz h.fine.2.2.2.2.2.1 o hk0 hx he h0 hkk hkv).mono ?_
    rintro e w' ⟨p', cap', b, rfl, hb, h1, h2, h3, h4⟩
    rw [hb rfl]
    exact ⟨p', cap', rfl, h1, h2, h3, h4⟩
theorem actP_nil (lim : Int) (o : ActR) (hk0 : o.kind ≠ 0) : actP lim [] o = [] := by
  unfold actP
  rw [if_neg hk0]
  split
  · rfl
  · split
    · rfl
    · split <;> rfl

/-- What holds between two acts. -/
structure LawS (w : World) (v : Value) (os : List ActR) (B g : Nat) (lim : Int) (bx : Nat) (L R : List Ent) (p : Option Addr) (cap k : Nat) (W : World) : Prop where
  t : Tier W B g lim L k
  es : Es W B (.slice p R.length cap) R
  z : p = none → cap = 0
  bx : Two W bx (.int .i64 lim) (.slice p R.length cap)
  er : ErrT W
  ac : ActsR W B v os
  be : Below w.heap.size w W
variable {v : Value} {os : List ActR} {bx k : Nat} {W C D : World}
theorem LawS.below (s : LawS w v os B g lim bx L R p cap k W) (b : Below W.heap.size W C) (h0 : 0 < B) : LawS w v os B g lim bx L R p cap k C :=
  ⟨s.t.below b, s.es.stays b, s.z, s.bx.stays b, s.er.frR (Fr.of (B := B) b) h0, s.ac.fr (.of b), s.be.trans (b.mono s.be.size)⟩
theorem ActsR.mono {B B' : Nat} (h : ActsR W B v os) (hB : B ≤ B') : ActsR W B' v os := by
  obtain ⟨p, cap, h1, h2, h3, h4⟩ := h
  refine ⟨p, cap, h1, h2, h3, fun i o ho => ?_⟩
  obtain ⟨b, off, q, c, e1, e2, e3, e4, b', e5, e6⟩ := h4 i o ho
  exact ⟨b, off, q, c, e1, Nat.lt_of_lt_of_le e2 hB, e3, e4, b', e5, e6.imp id (fun h => h.imp (fun h => Nat.lt_of_lt_of_le h hB) id)⟩
theorem ActsR.boxed {b : Nat} {Ty : TypeId} (h : ActsR W B v os) (m : W.grownBy C (some b)) (hb : B ≤ b) (t : Tag W b Ty) (hT : Ty ≠ 5) : ActsR C B v os := by
  obtain ⟨p, cap, h1, h2, h3, h4⟩ := h
  refine ⟨p, cap, h1, h2, h3, fun i o ho => ?_⟩
  obtain ⟨b', off, q, c, e1, e2, e3, e4, e5⟩ := h4 i o ho
  exact ⟨b', off, q, c, e1, e2, Nat.lt_of_lt_of_le e3 m.size, fun j u hj => (cell_eq (m.block b' e3 (fun e => by have := Option.some.inj e; omega)) _).trans (e4 j u hj), e5.boxed m hb t hT⟩
theorem ErrT.boxed {b : Nat} (h : ErrT W) (m : W.grownBy C (some b)) (hb : 0 < b) : ErrT C := by
  unfold ErrT at h ⊢
  have hlt := World.block_lt_of_cell? W _ h
  rw [cell_eq (m.block 0 hlt (fun e => by have := Option.some.inj e; omega))]; exact h
/-- The document's tier behind an act is kept in its box. -/
theorem LawS.put {L' R' : List Ent} {p' : Option Addr} {cap' k' : Nat} (s : LawS w v os B g lim bx L R p cap k W) (f : Fr B W C) (t : Tier C B g lim L' k') (es : Es C B (.slice p' R'.length cap') R') (hz : p' = none → cap' = 0) (m : C.grownBy D (some bx)) (tz : Two D bx (.int .i64 lim) (.slice p' R'.length cap')) (h0 : 0 < B) (hB : B ≤ bx) (hw : w.heap.size ≤ B) : LawS w v os B g lim bx L' R' p' cap' k' D := by
  have tg := (s.bx.fr f).tag
  have hBW : B ≤ W.heap.size := Nat.le_trans hB (Nat.le_of_lt s.bx.tag.lt)
  exact ⟨t.boxed m hB tg good_rm, es.box2 m hB tg (by decide) (by decide), hz, tz, (s.er.frR f h0).boxed m (by omega), (s.ac.fr f).boxed m hB tg (by decide), (s.be.trans ((f.below hBW).mono hw)).grown m (Nat.le_trans s.be.size f.size) (fun j hj => by cases hj; omega)⟩
/-- The act that comes next. -/
theorem LawS.act (s : LawS w v os B g lim bx L R p cap k W) {j : Nat} {o : ActR} (ho : os[j]? = some o) : ∃ b off q c pv cv, v = .slice pv os.length cv ∧ pv = some ⟨b, off, none⟩ ∧ b < B ∧ W.rangeAt b (off + j * 7) [.int .i64 o.kind, .string o.x.key, .int .i64 o.x.ver, .int .i64 o.x.asof, .int .i64 o.x.ends, .slice q o.x.val.length c, .int .i64 o.now] ∧ Bq W B (.slice q o.x.val.length c) o.x.val := by
  obtain ⟨pv, cv, h1, h2, h3, h4⟩ := s.ac
  obtain ⟨b, off, q, c, e1, e2, e3, e4, e5⟩ := h4 j o ho
  exact ⟨b, off, q, c, pv, cv, h1, e1, e2, e4, e5⟩
end Go.Proofs.YtkgecpplgjfhiaaGreatDoor

namespace Go.Proofs.YtkgecpplgjfhiaaGreatDoor
open Ite (Ent zeroE checkE sizeE)

theorem or_perm {α : Type} (p q : α → Bool) (l : List α) (h : ∀ x ∈ l, p x = true → q x = false) : (l.filter p ++ l.filter q).Perm (l.filter fun x => p x || q x) := by
  induction l with
  | nil => exact List.Perm.refl _
  | cons y r ih =>
    have ih := ih fun x hx => h x (List.mem_cons_of_mem _ hx)
    rw [List.filter_cons, List.filter_cons, List.filter_cons]
    cases hp : p y with
    | true =>
      rw [h y (List.mem_cons_self ..) hp]
      simpa using ih.cons y
    | false =>
      cases hq : q y with
      | true => simpa using List.perm_middle.trans (ih.cons y)
      | false => simpa using ih
theorem allE_part (L : List Ent) (k : Nat) : (allE L k).Perm (L.filter fun x => decide (0 ≤ ucl x ∧ ucl x < (k : Int))) := by
  induction k with
  | zero =>
    rw [List.filter_eq_nil_iff.2]
    · exact List.Perm.refl _
    · intro x _; rw [decide_eq_false (by omega)]; simp
  | succ k ih =>
    refine (List.Perm.append ih (List.Perm.refl _)).trans ((or_perm _ _ _ ?_).trans (List.Perm.of_eq (List.filter_congr ?_)))
    · intro x _ h
      simp at h ⊢
      omega
    · intro x _
      by_cases h : ucl x = (k : Int)
      · have e : decide (0 ≤ ucl x ∧ ucl x < ((k + 1 : Nat) : Int)) = true := decide_eq_true (by omega)
        rw [e]; simp [h]
      · have : (ucl x == (k : Int)) = false := beq_eq_false_iff_ne.2 h
        rw [this, Bool.or_false]
        exact decide_eq_decide.2 ⟨fun ⟨a, b⟩ => ⟨a, by omega⟩, fun ⟨a, b⟩ => ⟨a, by omega⟩⟩
theorem allE_perm {L : List Ent} (h : ∀ x ∈ L, checkE x = 0) : (allE L 9).Perm L := by
  refine (allE_part L 9).trans (List.Perm.of_eq (List.filter_eq_self.2 fun x hx => ?_))
  obtain ⟨a, b, _⟩ := fine_class (h x hx)
  simp
  omega
theorem key_one {L : List Ent} (nd : (L.map (·.key)).Nodup) {x y : Ent} (hx : x ∈ L) (hy : y ∈ L) (h : x.key = y.key) : x = y := by
  obtain ⟨i, hi⟩ := List.mem_iff_getElem?.1 hx
  obtain ⟨j, hj⟩ := List.mem_iff_getElem?.1 hy
  have := nodup_at nd (i := i) (j := j) (x := x.key) (by rw [List.getElem?_map, hi]; rfl) (by rw [List.getElem?_map, hj, h]; rfl)
  subst this
  rw [hi] at hj
  exact Option.some.inj hj
theorem idx_mem {L : List Ent} {k : ByteArray} {i : Nat} (h : idx L k = some i) : atE L i ∈ L ∧ (atE L i).key = k := by
  obtain ⟨x, hx, hk, _⟩ := idx_some.1 h
  rw [atE_some hx]
  exact ⟨List.mem_of_getElem? hx, hk⟩
theorem idx_of_mem {L : List Ent} {x : Ent} (h : x ∈ L) : ∃ i, idx L x.key = some i := by
  cases hi : idx L x.key with
  | none => exact absurd rfl (idx_none.1 hi x h)
  | some i => exact ⟨i, rfl⟩
/-- A key's entry is the same in another order. -/
theorem find_perm {A L : List Ent} (p : A.Perm L) (nd : (L.map (·.key)).Nodup) (k : ByteArray) : (idx L k = none ∧ idx A k = none) ∨ ∃ i j, idx L k = some i ∧ idx A k = some j ∧ atE A j = atE L i := by
  cases hi : idx L k with
  | none => exact .inl ⟨rfl, idx_none.2 fun x hx => idx_none.1 hi x (p.mem_iff.1 hx)⟩
  | some i =>
    obtain ⟨m, hk⟩ := idx_mem hi
    obtain ⟨j, hj⟩ := idx_of_mem (p.mem_iff.2 m)
    rw [hk] at hj
    obtain ⟨m', hk'⟩ := idx_mem hj
    exact .inr ⟨i, j, rfl, hj, key_one nd (p.mem_iff.1 m') m (hk'.trans hk.symm)⟩
theorem nodup_perm {A L : List Ent} (p : A.Perm L) (nd : (L.map (·.key)).Nodup) : (A.map (·.key)).Nodup := ((p.map (·.key)).nodup_iff).2 nd
theorem but_mem {L : List Ent} {i : Nat} {x : Ent} (hx : x ∈ L) (hne : x ≠ atE L i) (hi : i < L.length) : x ∈ butE L i := by
  obtain ⟨j, hj⟩ := List.mem_iff_getElem?.1 hx
  unfold butE
  rcases Nat.lt_trichotomy j i with h | h | h
  · refine List.mem_append_left _ (List.mem_iff_getElem?.2 ⟨j, ?_⟩)
    rw [List.getElem?_take_of_lt h]; exact hj
  · subst h
    exact absurd (atE_some hj).symm hne
  · refine List.mem_append_right _ (List.mem_iff_getElem?.2 ⟨j - (i + 1), ?_⟩)
    rw [List.getElem?_drop, show i + 1 + (j - (i + 1)) = j by omega]; exact hj
theorem but_len {L : List Ent} {i : Nat} (hi : i < L.length) : (butE L i).length + 1 = L.length := by
  unfold butE
  rw [List.length_append, List.length_take, List.length_drop]
  omega
theorem get_keeps {L : List Ent} {k : ByteArray} {now : Int} {x : Ent} (hx : x ∈ L) (hl : lv x now = true) : x ∈ (getP L k now).1 := by
  unfold getP
  cases hi : idx L k with
  | none => exact hx
  | some i =>
    have hlt := idx_lt hi
    dsimp only
    by_cases h : lv (atE L i) now = true
    · rw [if_pos h]
      by_cases e : x = atE L i
      · rw [e]; exact List.mem_cons_self ..
      · exact List.mem_cons_of_mem _ (but_mem hx e hlt)
    · rw [if_neg h]
      exact but_mem hx (fun e => h (by rw [← e]; exact hl)) hlt
theorem get_len (L : List Ent) (k : ByteArray) (now : Int) : (getP L k now).1.length ≤ L.length := by
  unfold getP
  cases hi : idx L k with
  | none => exact Nat.le_refl _
  | some i =>
    have := but_len (idx_lt hi)
    dsimp only
    by_cases h : lv (atE L i) now = true
    · rw [if_pos h, List.length_cons]; omega
    · rw [if_neg h]; show (butE L i).length ≤ _; omega
theorem get_cases (L : List Ent) (k : ByteArray) (now : Int) : (idx L k = none ∧ getP L k now = (L, zeroE, false)) ∨ (∃ i, idx L k = some i ∧ lv (atE L i) now = true ∧ getP L k now = (atE L i :: butE L i, atE L i, true)) ∨ ∃ i, idx L k = some i ∧ lv (atE L i) now = false ∧ getP L k now = (butE L i, zeroE, false) := by
  unfold getP
  cases hi : idx L k with
  | none => exact .inl ⟨rfl, rfl⟩
  | some i =>
    dsimp only
    cases h : lv (atE L i) now with
    | true => exact .inr (.inl ⟨i, rfl, h, if_pos rfl⟩)
    | false => exact .inr (.inr ⟨i, rfl, h, if_neg (by simp)⟩)
theorem sweep_len (L : List Ent) (now : Int) : (sweepP L now).length ≤ L.length := List.length_filter_le _ _
section
open Go.RowKit
theorem size44 : (Tryz.prog.info? 44).map (·.size) = some 7 := by kernel_rfl
theorem und44 : ∃ fs, Tryz.prog.underlying 44 = some (.struct fs) := ⟨Tryz.prog.fieldsOf 44, by kernel_rfl⟩
theorem rng_fr {B : Nat} {w w' : World} {b o : Nat} {cs : List Value} (f : Fr B w w') (hb : b < B) (h : w.rangeAt b o cs) : w'.rangeAt b o cs := fun j u hj => by
  have hlt := World.block_lt_of_cell? w _ (h j u hj)
  rw [cell_eq (f.block b hlt (.inl hb))]; exact h j u hj
theorem es_one {W : World} {b : Nat} {x : Ent} {q : Option Addr} {c : Nat} {t : TypeId} (h : W.heap[b]? = some (.cells #[.string x.key, .int .i64 x.ver, .int .i64 x.asof, .int .i64 x.ends, .slice q x.val.length c] t (0, 0))) (hx : Ite.Bs W (.slice q x.val.length c) x.val) : Ite.EsAt W (.slice (some ⟨b, 0, none⟩) 1 1) [x] := by
  refine ⟨some ⟨b, 0, none⟩, 1, rfl, Nat.le_refl _, by unfold maxLen; omega, fun k y hk => ?_⟩
  cases k with
  | zero =>
    cases hk
    have r := box_range h
    exact ⟨b, 0, q, c, rfl, lt_of_heap h, r 0 _ rfl, r 1 _ rfl, r 2 _ rfl, r 3 _ rfl, r 4 _ rfl, hx⟩
  | succ k => simp at hk
end
end Go.Proofs.YtkgecpplgjfhiaaGreatDoor

namespace Go.Proofs.YtkgecpplgjfhiaaGreatDoor
open Go.RowKit
open Ite (Ent zeroE checkE sizeE)
open Lis (Lst but Tag)
theorem drop_sub {L : List Ent} {k : ByteArray} {x : Ent} (h : x ∈ dropE L k) : x ∈ L := by
  unfold dropE at h
  cases hi : idx L k with
  | none => rw [hi] at h; exact h
  | some i =>
    rw [hi] at h
    unfold butE at h
    rcases List.mem_append.1 h with h | h
    · exact List.mem_of_mem_take h
    · exact List.mem_of_mem_drop h
theorem drop_has {L : List Ent} {k : ByteArray} {x : Ent} (h : x ∈ L) (hk : x.key ≠ k) : x ∈ dropE L k := by
  unfold dropE
  cases hi : idx L k with
  | none => exact h
  | some i =>
    obtain ⟨m, e⟩ := idx_mem hi
    exact but_mem h (fun q => hk (by rw [q]; exact e)) (idx_lt hi)
theorem set_bad {lim : Int} {L : List Ent} {x : Ent} {now : Int} (h : (setP lim L x now).2.2 ≠ 0) : (setP lim L x now).1 = L ∧ (setP lim L x now).2.1 = [] := by
  unfold setP at h ⊢
  split at h
  · rename_i h1; rw [if_pos h1]; exact ⟨rfl, rfl⟩
  · rename_i h1
    rw [if_neg h1]
    split at h
    · rename_i h2; rw [if_pos h2]; exact ⟨rfl, rfl⟩
    · rename_i h2
      rw [if_neg h2]
      split at h
      · rename_i h3; rw [if_pos h3]; exact ⟨rfl, rfl⟩
      · exact absurd rfl h
theorem drop_len (L : List Ent) (k : ByteArray) : (dropE L k).length ≤ L.length := by
  unfold dropE
  cases hi : idx L k with
  | none => exact Nat.le_refl _
  | some i => have := but_len (idx_lt hi); dsimp only; omega
theorem set_gone (lim : Int) (L : List Ent) (x : Ent) (now : Int) : (setP lim L x now).2.1.length ≤ L.length := by
  unfold setP
  split
  · exact Nat.zero_le _
  · split
    · exact Nat.zero_le _
    · split
      · exact Nat.zero_le _
      · exact Nat.le_trans gone_len (Nat.le_trans (Nat.sub_le _ _) (drop_len L x.key))
theorem set_fine {lim : Int} {L : List Ent} {x : Ent} {now : Int} (h : (setP lim L x now).2.2 = 0) : ∃ j, (setP lim L x now).1 = x :: (dropE L x.key).take j ∧ (setP lim L x now).2.1 = goneL (dropE L x.key) j now := by
  unfold setP at h ⊢
  split at h
  · rename_i h1; exact absurd h h1
  · rename_i h1
    rw [if_neg h1]
    split at h
    · cases h
    · rename_i h2
      rw [if_neg h2]
      split at h
      · cases h
      · rename_i h3
        rw [if_neg h3]
        exact ⟨_, rfl, rfl⟩
/-- What was there, and had not ended, is there, or is told. -/
theorem set_told {lim : Int} {L A : List Ent} {x y : Ent} {now : Int} (hc : (setP lim L x now).2.2 = 0) (nd : (L.map (·.key)).Nodup) (hA : A.Perm (setP lim L x now).1) (hy : y ∈ L) (hk : y.key ≠ x.key) (hl : lv y now = true) : ∃ m, idx (A ++ (setP lim L x now).2.1) y.key = some m ∧ atE (A ++ (setP lim L x now).2.1) m = y := by
  obtain ⟨j, e1, e2⟩ := set_fine hc
  have hsub : ∀ z ∈ A ++ (setP lim L x now).2.1, z = x ∨ z ∈ L := by
    intro z hz
    rcases List.mem_append.1 hz with hz | hz
    · have := hA.mem_iff.1 hz
      rw [e1] at this
      rcases List.mem_cons.1 this with h | h
      · exact .inl h
      · exact .inr (drop_sub (List.mem_of_mem_take h))
    · rw [e2] at hz
      unfold goneL at hz
      have := List.mem_reverse.1 (List.mem_filter.1 hz).1
      exact .inr (drop_sub (List.mem_of_mem_drop this))
  have hin : y ∈ A ++ (setP lim L x now).2.1 := by
    have hd := drop_has hy hk
    rw [← List.take_append_drop j (dropE L x.key)] at hd
    rcases List.mem_append.1 hd with h | h
    · refine List.mem_append_left _ (hA.mem_iff.2 ?_)
      rw [e1]
      exact List.mem_cons_of_mem _ h
    · refine List.mem_append_right _ ?_
      rw [e2]
      exact List.mem_filter.2 ⟨List.mem_reverse.2 h, hl⟩
  obtain ⟨m, hm⟩ := idx_of_mem hin
  obtain ⟨m1, m2⟩ := idx_mem hm
  refine ⟨m, hm, ?_⟩
  rcases hsub _ m1 with h | h
  · rw [h] at m2; exact absurd m2.symm hk
  · exact key_one nd h hy m2
theorem Bq.mono {w : World} {B B' : Nat} {v : Value} {l : List Int} (h : Bq w B v l) (hB : B ≤ B') : Bq w B' v l := by
  obtain ⟨b, e5, e6⟩ := h
  exact ⟨b, e5, e6.imp id (fun h => h.imp (fun h => Nat.lt_of_lt_of_le h hB) id)⟩
theorem EsN.src {w : World} {B : Nat} {p : Option Addr} {m c : Nat} {xs : List Ent} (h : EsN w B (.slice p m c) xs) : (p = none ∧ xs = [] ∧ c = 0 ∧ m = 0) ∨ ∃ a cs, p = some a ∧ m = xs.length ∧ EQ w B xs cs ∧ ∀ j u, cs[j]? = some u → w.cell? (a.add j) = some u := by
  have hm : m = xs.length := by obtain ⟨p', cap', e, _⟩ := h.1; cases e; rfl
  cases xs with
  | nil =>
    cases p with
    | none => exact .inl ⟨rfl, rfl, h.2 _ _ rfl, hm⟩
    | some a => exact .inr ⟨a, [], rfl, hm, rfl, fun j u hj => by simp at hj⟩
  | cons x r =>
    obtain ⟨bl, off, cs, rfl, _, hq, hc⟩ := h.1.row (by simp)
    exact .inr ⟨⟨bl, off, none⟩, cs, rfl, hm, hq, fun j u hj => by rw [Ite.add_off]; exact hc j u hj⟩
end Go.Proofs.YtkgecpplgjfhiaaGreatDoor
