/-
  What stays of a device, whatever is done to it: the plain mathematics of the last three sentences.
-/
import Derived.Test.YtkbfihnoohhojaaDoorQFSame
namespace Go.Proofs.YtkbfihnoohhojaaDoor.Fla
open Go.RowKit

/-- No change is of this page. -/
def NotAt (cs : List Chg) (k : Int) : Prop := ∀ c ∈ cs, c.at_ ≠ k
theorem layN_other {pg : Pg} {cs : List Chg} {f : Nat → Int} {k : Int} (h : NotAt cs k) (i : Nat) : layN pg cs f i k = pg k := by
  induction i with
  | zero => rfl
  | succ i ih =>
    cases hc : cs[i]? with
    | none => simp only [layN, hc]; exact ih
    | some c =>
      rw [layN_succ _ _ _ hc]
      unfold layP
      rw [upd_other _ _ _ (Ne.symm (h c (List.mem_of_getElem? hc)))]
      exact ih
theorem lastP_other {cs : List Chg} {k : Int} (h : NotAt cs k) (p : List Nat) : lastP cs k p = p := by
  induction cs generalizing p with
  | nil => rfl
  | cons c r ih =>
    show lastP r k (if c.at_ = k then c.p else p) = p
    rw [if_neg (h c (by simp))]
    exact ih (fun x hx => h x (by simp [hx])) p

theorem write_pages (d : Dev) (at_ : Int) (b : List Nat) : (writeP d at_ b).1.pages = d.pages := by
  unfold writeP; split
  · split <;> rfl
  · rfl
theorem trim_pages (d : Dev) (at_ : Int) : (trimP d at_).1.pages = d.pages := by unfold trimP; split <;> rfl
theorem flush_pages (d : Dev) : (flushP d).1.pages = d.pages := by
  unfold flushP; split
  · rfl
  · split <;> rfl
theorem do_pages (d : Dev) (o : Act4) : (doP d o).pages = d.pages := by
  unfold doP
  repeat' split
  · exact write_pages _ _ _
  · exact write_pages _ _ _
  · exact trim_pages _ _
  · rfl
  · exact flush_pages _
  · rfl
  · rfl
  · rfl

/-- The page is safe as p, and no change of it waits. -/
def Kept (d : Dev) (k : Int) (p : List Nat) : Prop := d.pg k = p ∧ NotAt d.waits k
theorem Kept.wait {d : Dev} {k : Int} {p : List Nat} (h : Kept d k p) (c : Chg) (hc : c.at_ ≠ k) : Kept (waitP d c) k p := by
  refine ⟨h.1, fun x hx => ?_⟩
  rcases List.mem_append.1 hx with hx | hx
  · exact h.2 x hx
  · obtain rfl := List.mem_singleton.1 hx
    exact hc
theorem Kept.write {d : Dev} {k : Int} {p : List Nat} (h : Kept d k p) {at_ : Int} (ha : at_ ≠ k) (b : List Nat) : Kept (writeP d at_ b).1 k p := by
  unfold writeP; split
  · split
    · exact h.wait _ ha
    · exact h
  · exact h
theorem Kept.trim {d : Dev} {k : Int} {p : List Nat} (h : Kept d k p) {at_ : Int} (ha : at_ ≠ k) : Kept (trimP d at_).1 k p := by
  unfold trimP; split
  · exact h.wait _ ha
  · exact h
theorem Kept.flush {d : Dev} {k : Int} {p : List Nat} (h : Kept d k p) : Kept (flushP d).1 k p := by
  unfold flushP; split
  · exact h
  · split
    · exact h
    · exact ⟨(layN_other h.2 _).trans h.1, fun c hc => by cases hc⟩
theorem Kept.does {d : Dev} {k : Int} {p : List Nat} (h : Kept d k p) (o : Act4) (h0 : o.kind = 0 → o.at_ ≠ k) (h1 : o.kind = 1 → o.at_ ≠ k) (h5 : o.kind ≠ 5) : Kept (doP d o) k p := by
  unfold doP
  by_cases k0 : o.kind = 0
  · rw [if_pos k0]; exact h.write (h0 k0) _
  rw [if_neg k0]
  by_cases k1 : o.kind = 1
  · rw [if_pos k1]; exact h.trim (h1 k1)
  rw [if_neg k1]
  by_cases k2 : o.kind = 2
  · rw [if_pos k2]; exact h
  rw [if_neg k2]
  by_cases k3 : o.kind = 3
  · rw [if_pos k3]; exact h.flush
  rw [if_neg k3]
  by_cases k4 : o.kind = 4
  · rw [if_pos k4]; exact h
  rw [if_neg k4, if_neg h5]; exact h
theorem Kept.look {d : Dev} {k : Int} {p : List Nat} (h : Kept d k p) : lookP d k = p := (lastP_other h.2 _).trans h.1
theorem Kept.crash {d : Dev} {k : Int} {p : List Nat} (h : Kept d k p) (keep : List Int) : Kept (crashP d keep) k p := ⟨(layN_other h.2 _).trans h.1, fun c hc => by cases hc⟩
theorem read_up {d : Dev} {k : Int} (hd : d.down = false) (h0 : 0 ≤ k) (h1 : k < d.pages) : readP d k = (lookP d k, 0) := by
  have : refusesP d k = 0 := by
    unfold refusesP
    rw [if_neg (by rw [hd]; decide), if_neg (by omega)]
  unfold readP
  rw [if_pos this]
/-- Behind a flush without an error. -/
theorem flush_fine {d : Dev} (h : (flushP d).2 = 0) : (flushP d).1.down = false ∧ (flushP d).1.waits = [] := by
  unfold flushP at h ⊢
  by_cases hd : d.down = true
  · rw [if_pos hd] at h; simp at h
  rw [if_neg hd] at h ⊢
  by_cases hb : (burnsP d).down = true
  · rw [if_pos hb] at h; simp at h
  · rw [if_neg hb]
    exact ⟨by show (burnsP d).down = false; simpa using hb, rfl⟩
theorem kept_of_none {d : Dev} (h : d.waits = []) (k : Int) : Kept d k (d.pg k) := ⟨rfl, fun c hc => by rw [h] at hc; cases hc⟩

/-- While the power is off. -/
theorem refuses_down {d : Dev} (h : d.down = true) (at_ : Int) : refusesP d at_ = 11 := by unfold refusesP; rw [if_pos h]
theorem write_down {d : Dev} (h : d.down = true) (at_ : Int) (b : List Nat) : writeP d at_ b = (d, 11) := by unfold writeP; rw [refuses_down h, if_neg (by decide)]
theorem trim_down {d : Dev} (h : d.down = true) (at_ : Int) : trimP d at_ = (d, 11) := by unfold trimP; rw [refuses_down h, if_neg (by decide)]
theorem flush_down {d : Dev} (h : d.down = true) : flushP d = (d, 11) := by unfold flushP; rw [if_pos h]
theorem read_down {d : Dev} (h : d.down = true) (at_ : Int) : readP d at_ = ([], 11) := by unfold readP; rw [refuses_down h, if_neg (by decide)]
/-- A fuse of none burns at once. -/
theorem trim_burns {d : Dev} (h : d.down = false) (hp : 0 < d.pages) : (trimP (fuseP d 0) 0).2 = 11 ∧ (trimP (fuseP d 0) 0).1.down = true := by
  have : refusesP (fuseP d 0) 0 = 0 := by
    unfold refusesP
    rw [if_neg (by show ¬ d.down = true; rw [h]; decide), if_neg (by show ¬ (_ ∨ d.pages ≤ 0); omega)]
  unfold trimP
  rw [if_pos this]
  exact ⟨rfl, rfl⟩

/-- A page behind a crash: byte by byte what was safe, or what was written. -/
theorem mix_of {a b : List Nat} (ha : a.length = 256) (_hb : b.length = 256) (n : Int) {i : Nat} {x y z : Nat} (hx : (mix a b n)[i]? = some x) (hy : a[i]? = some y) (hz : b[i]? = some z) : x = y ∨ x = z := by
  have hc := clamp_le n
  unfold mix at hx
  by_cases hi : i < clamp n
  · rw [List.getElem?_append_left (by simp; omega), List.getElem?_take, if_pos hi, hy] at hx
    exact .inl (Option.some.inj hx).symm
  · rw [List.getElem?_append_right (by simp; omega), List.getElem?_drop] at hx
    have e : clamp n + (i - (List.take (clamp n) a).length) = i := by simp; omega
    rw [e, hz] at hx
    exact .inr (Option.some.inj hx).symm
/-- The changes of the sentence: a page written, and trimmed or not. -/
def twoC (q : List Nat) (trim : Bool) : List Chg := ⟨3, false, q⟩ :: if trim then [⟨3, true, zeros⟩] else []
theorem torn_at {pg : Pg} {q : List Nat} {trim : Bool} {f : Nat → Int} (hp : (pg 3).length = 256) (hq : q.length = 256) {i : Nat} {x y z : Nat} (hx : (layN pg (twoC q trim) f (twoC q trim).length 3)[i]? = some x) (hy : (pg 3)[i]? = some y) (hz : q[i]? = some z) :
    x = y ∨ x = z ∨ (trim = true ∧ x = 0) := by
  have one : layN pg (twoC q trim) f 1 3 = mix q (pg 3) (f 0) := by
    show layP pg ⟨3, false, q⟩ (f 0) 3 = _
    unfold layP
    rw [upd_same]
    unfold overP
    rw [if_neg (by simp)]
  cases trim with
  | false =>
    have e : (twoC q false).length = 1 := rfl
    rw [e, one] at hx
    rcases mix_of hq hp (f 0) hx hz hy with h | h
    · exact .inr (.inl h)
    · exact .inl h
  | true =>
    have e : (twoC q true).length = 2 := rfl
    have two : layN pg (twoC q true) f 2 3 = if 256 ≤ f 1 then zeros else mix q (pg 3) (f 0) := by
      have : layN pg (twoC q true) f 2 = layP (layN pg (twoC q true) f 1) ⟨3, true, zeros⟩ (f 1) := rfl
      rw [this]
      unfold layP
      rw [upd_same]
      unfold overP
      rw [if_pos rfl, one]
    rw [e, two] at hx
    split at hx
    · have := List.mem_of_getElem? hx
      exact .inr (.inr ⟨rfl, List.eq_of_mem_replicate this⟩)
    · rcases mix_of hq hp (f 0) hx hz hy with h | h
      · exact .inr (.inl h)
      · exact .inl h
/-- A device without changes that wait, and whose power is on and stays so. -/
structure Calm (d : Dev) (cs : List Chg) : Prop where
  waits : d.waits = cs
  down : d.down = false
  fuse : d.fuse = -1
  pages : d.pages = 9
theorem calm_crash {d : Dev} (hp : d.pages = 9) (keep : List Int) : Calm (crashP d keep) [] := ⟨rfl, rfl, rfl, hp⟩
theorem Calm.refuses {d : Dev} {cs : List Chg} (h : Calm d cs) : refusesP d 3 = 0 := by
  unfold refusesP
  rw [if_neg (by rw [h.down]; decide), if_neg (by rw [h.pages]; omega)]
theorem Calm.wait {d : Dev} {cs : List Chg} (h : Calm d cs) (c : Chg) : Calm (waitP d c) (cs ++ [c]) := by
  refine ⟨?_, ?_, ?_, h.pages⟩
  · show d.waits ++ [c] = _; rw [h.waits]
  · show (d.fuse == 0) = false; rw [h.fuse]; decide
  · show (if 0 < d.fuse then d.fuse - 1 else d.fuse) = -1; rw [h.fuse]; decide
theorem Calm.write {d : Dev} (h : Calm d []) {q : List Nat} (hq : q.length = 256) : (writeP d 3 q).2 = 0 ∧ (writeP d 3 q).1.pg = d.pg ∧ Calm (writeP d 3 q).1 (twoC q false) := by
  have hc := h.wait ⟨3, false, q⟩
  unfold writeP
  rw [if_pos h.refuses, if_pos hq]
  refine ⟨?_, rfl, hc⟩
  show (if (waitP d ⟨3, false, q⟩).down = true then (11 : Int) else 0) = 0
  rw [hc.down]; decide
theorem Calm.trim {d : Dev} {q : List Nat} (h : Calm d (twoC q false)) : (trimP d 3).2 = 0 ∧ (trimP d 3).1.pg = d.pg ∧ Calm (trimP d 3).1 (twoC q true) := by
  have hc := h.wait ⟨3, true, zeros⟩
  unfold trimP
  rw [if_pos h.refuses]
  refine ⟨?_, rfl, hc⟩
  show (if (waitP d ⟨3, true, zeros⟩).down = true then (11 : Int) else 0) = 0
  rw [hc.down]; decide
theorem Calm.read {d : Dev} (h : Calm d []) : readP d 3 = (d.pg 3, 0) := by
  rw [read_up h.down (by omega) (by rw [h.pages]; omega)]
  unfold lookP
  rw [h.waits]; rfl
end Go.Proofs.YtkbfihnoohhojaaDoor.Fla
