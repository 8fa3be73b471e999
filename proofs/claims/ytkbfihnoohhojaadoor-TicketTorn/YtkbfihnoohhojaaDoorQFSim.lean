/-
  The plain mathematics of layer 4: the device of the program and that of the document do the same.
-/
import Derived.Test.YtkbfihnoohhojaaDoorQFMem
namespace Go.Proofs.YtkbfihnoohhojaaDoor.Fla

/-- A change of the document as the program keeps it. -/
def fixC (c : Chg) : Chg := ⟨c.at_, c.trim, if c.trim = true then zeros else c.p⟩

structure CellsOk (pages : Int) (l : List (Int × List Nat)) (pg : Pg) : Prop where
  asc : l.Pairwise (fun x y => x.1 < y.1)
  mem : ∀ x ∈ l, 0 ≤ x.1 ∧ x.1 < pages ∧ x.2 ≠ zeros ∧ x.2.length = 256
  eq : ∀ k, rsafe l k = pg k

/-- The two devices are one. -/
structure Sim (d : Dev) (r : Rf) : Prop where
  pages : r.pages = d.pages
  cells : CellsOk d.pages r.cells d.pg
  loose : d.waits = r.loose.map fixC
  len : ∀ c ∈ r.loose, c.trim = false → c.p.length = 256
  down : r.down = d.down
  done : r.done = d.done
  fuse : d.down = false → (r.fuse = d.fuse ∨ (r.fuse < 0 ∧ d.fuse < 0))

theorem blank_iff {b : List Nat} (h : b.length = 256) : isBlank b = true ↔ b = zeros := by
  unfold isBlank zeros
  rw [List.all_eq_true]
  constructor
  · intro h1
    rw [List.eq_replicate_iff]
    exact ⟨h, fun x hx => by simpa using h1 x hx⟩
  · intro h1 x hx
    rw [h1] at hx
    rw [List.eq_of_mem_replicate hx]
    rfl
theorem rput_nil (k : Int) (b : List Nat) : rput [] k b = if isBlank b = true then [] else [(k, b)] := by simp [rput, ahead, skipAt]
theorem rput_cons (a : Int) (v : List Nat) (r : List (Int × List Nat)) (k : Int) (b : List Nat) :
    rput ((a, v) :: r) k b = if a < k then (a, v) :: rput r k b else (if isBlank b = true then [] else [(k, b)]) ++ (if a = k then r else (a, v) :: r) := by
  unfold rput
  by_cases h : a < k
  · simp only [ahead, if_pos h, List.take_succ_cons]
    have : skipAt ((a, v) :: r) (ahead r k + 1) k = skipAt r (ahead r k) k + 1 := by
      unfold skipAt
      simp only [List.getElem?_cons_succ]
      cases r[ahead r k]? with
      | none => rfl
      | some x => obtain ⟨p, q⟩ := x; simp only; split <;> rfl
    rw [this]
    simp
  · simp only [ahead, if_neg h, List.take_zero, List.nil_append]
    congr 1
    unfold skipAt
    simp only [List.getElem?_cons_zero]
    split <;> simp_all
theorem rsafe_none {l : List (Int × List Nat)} {k : Int} (h : ∀ x ∈ l, x.1 ≠ k) : rsafe l k = zeros := by
  induction l with
  | nil => rfl
  | cons x r ih =>
    obtain ⟨a, b⟩ := x
    have := h (a, b) (by simp)
    simp only [rsafe]
    rw [if_neg this]
    exact ih fun y hy => h y (by simp [hy])
theorem rput_mem {l : List (Int × List Nat)} {k : Int} {b : List Nat} {x : Int × List Nat} (h : x ∈ rput l k b) : (x = (k, b) ∧ isBlank b = false) ∨ x ∈ l := by
  unfold rput at h
  rcases List.mem_append.1 h with h | h
  · exact .inr (List.mem_of_mem_take h)
  · rcases List.mem_append.1 h with h | h
    · split at h
      · simp at h
      · rename_i hb
        simp at h
        exact .inl ⟨h, by simpa using hb⟩
    · exact .inr (List.mem_of_mem_drop h)
theorem rput_asc {l : List (Int × List Nat)} (h : l.Pairwise (fun x y => x.1 < y.1)) (k : Int) (b : List Nat) : (rput l k b).Pairwise (fun x y => x.1 < y.1) := by
  induction l with
  | nil => rw [rput_nil]; split <;> simp
  | cons x r ih =>
    obtain ⟨a, v⟩ := x
    rw [List.pairwise_cons] at h
    rw [rput_cons]
    split
    · rename_i hlt
      rw [List.pairwise_cons]
      refine ⟨fun y hy => ?_, ih h.2⟩
      rcases rput_mem hy with ⟨rfl, _⟩ | hy
      · exact hlt
      · exact h.1 y hy
    · rename_i hge
      by_cases e : a = k
      · subst e
        simp only [if_pos]
        split
        · simpa using h.2
        · simp only [List.cons_append, List.nil_append, List.pairwise_cons]
          exact ⟨fun y hy => h.1 y hy, h.2⟩
      · rw [if_neg e]
        split
        · exact (show List.Pairwise (fun x y : Int × List Nat => x.1 < y.1) ((a, v) :: r) from List.pairwise_cons.2 h)
        · simp only [List.cons_append, List.nil_append]
          rw [List.pairwise_cons]
          refine ⟨fun y hy => ?_, List.pairwise_cons.2 h⟩
          simp at hy
          rcases hy with rfl | hy
          · show k < a; omega
          · have := h.1 y hy
            show k < y.1
            simp only at this
            omega
theorem rsafe_rput {l : List (Int × List Nat)} (h : l.Pairwise (fun x y => x.1 < y.1)) (k : Int) {b : List Nat} (hb : b.length = 256) (j : Int) : rsafe (rput l k b) j = if j = k then b else rsafe l j := by
  induction l with
  | nil =>
    rw [rput_nil]
    split
    · rename_i hbl
      have := (blank_iff hb).1 hbl
      simp [rsafe, this]
    · by_cases e : j = k
      · simp [rsafe, e]
      · have : ¬ k = j := fun h => e h.symm
        simp [rsafe, e, this]
  | cons x r ih =>
    obtain ⟨a, v⟩ := x
    rw [List.pairwise_cons] at h
    rw [rput_cons]
    have ih := ih h.2
    split
    · rename_i hlt
      simp only [rsafe]
      rw [ih]
      by_cases e : a = j
      · have : ¬ j = k := by omega
        simp [e, this]
      · simp [e]
    · rename_i hge
      by_cases e : a = k
      · subst e
        simp only [if_pos]
        have hr : rsafe r a = zeros := rsafe_none fun y hy => by have := h.1 y hy; simp only at this; omega
        split
        · rename_i hbl
          have hz := (blank_iff hb).1 hbl
          simp only [List.nil_append, rsafe]
          by_cases e2 : j = a
          · subst e2; simp [hr, hz]
          · have : ¬ a = j := fun h => e2 h.symm
            simp [e2, this]
        · simp only [List.cons_append, List.nil_append, rsafe]
          by_cases e2 : j = a
          · subst e2; simp
          · have : ¬ a = j := fun h => e2 h.symm
            simp [e2, this]
      · rw [if_neg e]
        split
        · rename_i hbl
          have hz := (blank_iff hb).1 hbl
          simp only [List.nil_append]
          by_cases e2 : j = k
          · subst e2
            rw [if_pos rfl, hz]
            refine rsafe_none fun y hy => ?_
            simp at hy
            rcases hy with rfl | hy
            · exact e
            · have := h.1 y hy; simp only at this; omega
          · rw [if_neg e2]
        · simp only [List.cons_append, List.nil_append]
          by_cases e2 : j = k
          · subst e2; simp [rsafe]
          · have : ¬ k = j := fun h => e2 h.symm
            simp [rsafe, e2, this]
theorem CellsOk.put {pages : Int} {l : List (Int × List Nat)} {pg : Pg} (h : CellsOk pages l pg) {k : Int} (h0 : 0 ≤ k) (h1 : k < pages) {b : List Nat} (hb : b.length = 256) : CellsOk pages (rput l k b) (upd pg k b) := by
  refine ⟨rput_asc h.asc k b, fun x hx => ?_, fun j => ?_⟩
  · rcases rput_mem hx with ⟨rfl, hbl⟩ | hx
    · refine ⟨h0, h1, fun e => ?_, hb⟩
      have := (blank_iff hb).2 e
      rw [hbl] at this
      cases this
    · exact h.mem x hx
  · rw [rsafe_rput h.asc k hb]
    unfold upd
    rw [h.eq]
theorem fixC_len {c : Chg} (h : c.trim = false → c.p.length = 256) : (fixC c).p.length = 256 := by
  unfold fixC
  cases ht : c.trim
  · simpa using h ht
  · simp [zeros_length]
theorem CellsOk.settle {pages : Int} {l : List (Int × List Nat)} {pg : Pg} (h : CellsOk pages l pg) (hp : ∀ k, (pg k).length = 256) {c : Chg} (hc : c.trim = false → c.p.length = 256) (h0 : 0 ≤ c.at_) (h1 : c.at_ < pages) (n : Int) : CellsOk pages (rsettle l c n) (layP pg (fixC c) n) := by
  unfold rsettle layP overP fixC
  cases ht : c.trim
  · simp only [Bool.false_eq_true, if_false]
    rw [h.eq]
    exact h.put h0 h1 (mix_length (hc ht) (hp _) n)
  · simp only [if_true]
    by_cases hn : n < 256
    · rw [if_pos hn, if_neg (by omega), upd_self]
      exact h
    · rw [if_neg hn, if_pos (by omega)]
      exact h.put h0 h1 zeros_length
theorem layN_len {pg : Pg} {cs : List Chg} (f : Nat → Int) (hc : ∀ c ∈ cs, c.p.length = 256) (hp : ∀ k, (pg k).length = 256) (i : Nat) : ∀ k, (layN pg cs f i k).length = 256 := by
  induction i with
  | zero => exact hp
  | succ i ih =>
    intro k
    cases h : cs[i]? with
    | none => simp only [layN, h]; exact ih k
    | some c =>
      rw [layN_succ _ _ _ h]
      unfold layP upd
      split
      · exact overP_length (hc c (List.mem_of_getElem? h)) (ih _) _
      · exact ih k
theorem CellsOk.settles {pages : Int} {l : List (Int × List Nat)} {pg : Pg} (h : CellsOk pages l pg) (hp : ∀ k, (pg k).length = 256) {cs : List Chg} (hc : ∀ c ∈ cs, (c.trim = false → c.p.length = 256) ∧ 0 ≤ c.at_ ∧ c.at_ < pages) (f : Nat → Int) (i : Nat) : CellsOk pages (settleN l cs f i) (layN pg (cs.map fixC) f i) := by
  have hcl : ∀ c ∈ cs.map fixC, c.p.length = 256 := by
    intro c hc'
    obtain ⟨x, hx, rfl⟩ := List.mem_map.1 hc'
    exact fixC_len (hc x hx).1
  induction i with
  | zero => exact h
  | succ i ih =>
    cases hi : cs[i]? with
    | none =>
      have hi' : (cs.map fixC)[i]? = none := by simp [hi]
      simp only [settleN, layN, hi, hi']
      exact ih
    | some c =>
      have hi' : (cs.map fixC)[i]? = some (fixC c) := by simp [hi]
      have hcc := hc c (List.mem_of_getElem? hi)
      rw [settleN_succ _ _ _ hi, layN_succ _ _ _ hi']
      exact ih.settle (layN_len f hcl hp i) hcc.1 hcc.2.1 hcc.2.2 (f i)
theorem overP_zero (c : Chg) (p : List Nat) : overP c p 0 = p := by
  unfold overP
  split
  · simp
  · have : clamp 0 = 0 := by decide
    simp [mix, this]
theorem layN_stop {pg : Pg} {cs : List Chg} {f : Nat → Int} {m : Nat} (h : ∀ i, m ≤ i → f i = 0) (n : Nat) : layN pg cs f (m + n) = layN pg cs f m := by
  induction n with
  | zero => rfl
  | succ n ih =>
    show layN pg cs f (m + n + 1) = _
    cases hi : cs[m + n]? with
    | none => simp only [layN, hi]; exact ih
    | some c =>
      rw [layN_succ _ _ _ hi, h (m + n) (by omega)]
      unfold layP
      rw [overP_zero, upd_self]
      exact ih
theorem layN_min (pg : Pg) (cs : List Chg) (keep : List Int) (n : Nat) : layN pg cs (keepAt keep) n = layN pg cs (keepAt keep) (min n keep.length) := by
  by_cases h : n ≤ keep.length
  · rw [Nat.min_eq_left h]
  · rw [Nat.min_eq_right (by omega)]
    have := layN_stop (pg := pg) (cs := cs) (f := keepAt keep) (m := keep.length) (fun i hi => by unfold keepAt; rw [List.getD_eq_getElem?_getD, List.getElem?_eq_none hi]; rfl) (n - keep.length)
    rw [show keep.length + (n - keep.length) = n by omega] at this
    exact this
theorem look_fix (cs : List Chg) (at_ : Int) (p : List Nat) : rlookL cs at_ p = lastP (cs.map fixC) at_ p := by
  unfold rlookL lastP
  rw [List.foldl_map]
  rfl
theorem Sim.look {d : Dev} {r : Rf} (h : Sim d r) (at_ : Int) : rlook r at_ = lookP d at_ := by
  unfold rlook lookP
  rw [look_fix, h.loose, h.cells.eq]
theorem overP_full {c : Chg} {p : List Nat} (hc : c.p.length = 256) (hp : p.length = 256) (ht : c.trim = true → c.p = zeros) : overP c p 256 = c.p := by
  unfold overP
  split
  · rename_i h
    simp [ht h]
  · have : clamp 256 = 256 := by decide
    unfold mix
    rw [this, List.take_of_length_le (by omega), List.drop_eq_nil_of_le (by omega), List.append_nil]
theorem layN_last {pg : Pg} {cs : List Chg} (hp : ∀ k, (pg k).length = 256) (hc : ∀ c ∈ cs, c.p.length = 256 ∧ (c.trim = true → c.p = zeros)) (i : Nat) (hi : i ≤ cs.length) (k : Int) : layN pg cs (fun _ => 256) i k = lastP (cs.take i) k (pg k) := by
  induction i with
  | zero => rfl
  | succ i ih =>
    obtain ⟨c, h⟩ : ∃ c, cs[i]? = some c := ⟨_, List.getElem?_eq_getElem (by omega)⟩
    have hcc := hc c (List.mem_of_getElem? h)
    obtain ⟨h1, h2⟩ := List.getElem?_eq_some_iff.1 h
    rw [layN_succ _ _ _ h, List.take_succ_eq_append_getElem h1, h2]
    unfold layP
    rw [overP_full hcc.1 (layN_len _ (fun c hc' => (hc c hc').1) hp i _) hcc.2]
    have : lastP (cs.take i ++ [c]) k (pg k) = if c.at_ = k then c.p else lastP (cs.take i) k (pg k) := by simp [lastP]
    rw [this]
    unfold upd
    by_cases e : k = c.at_
    · simp [e]
    · have : ¬ c.at_ = k := fun h => e h.symm
      simp only [if_neg e, if_neg this]
      exact ih (by omega)
theorem lookP_all {d : Dev} (h : DevOk d) (k : Int) : layN d.pg d.waits (fun _ => 256) d.waits.length k = lookP d k := by
  rw [layN_last h.len (fun c hc => ⟨(h.wlen c hc).1, (h.wlen c hc).2.2.1⟩) _ (Nat.le_refl _), List.take_length]
  rfl
theorem filterMap_same {α β : Type} {f g : α → Option β} : ∀ {l : List α}, (∀ x ∈ l, f x = g x) → l.filterMap f = l.filterMap g
  | [], _ => rfl
  | x :: r, h => by
    rw [List.filterMap_cons, List.filterMap_cons, h x (by simp), filterMap_same (l := r) fun y hy => h y (by simp [hy])]
theorem Sim.all {d : Dev} {r : Rf} (h : Sim d r) (hd : DevOk d) : rall r = allP d := by
  unfold rall allP cellsP
  rw [h.pages]
  refine filterMap_same fun a _ => ?_
  rw [h.look, lookP_all hd]
  have hl : (lookP d (a : Int)).length = 256 := by
    rw [← lookP_all hd]
    exact layN_len _ (fun c hc => (hd.wlen c hc).1) hd.len _ _
  by_cases e : lookP d (a : Int) = zeros
  · rw [if_pos e, if_pos ((blank_iff hl).2 e)]
  · rw [if_neg e, if_neg (fun h => e ((blank_iff hl).1 h))]
theorem Sim.refuses {d : Dev} {r : Rf} (h : Sim d r) (at_ : Int) : rcheck r at_ = refusesP d at_ := by
  unfold rcheck refusesP
  rw [h.down, h.pages]

theorem wait_sim {d : Dev} {r : Rf} (h : Sim d r) (hd : d.down = false) {c : Chg} (hc : c.trim = false → c.p.length = 256) : Sim (waitP d (fixC c)) (rchange r c).1 ∧ codeP (waitP d (fixC c)) = (rchange r c).2 := by
  have hf := h.fuse hd
  have hrd : r.down = false := by rw [h.down]; exact hd
  have hl : d.waits ++ [fixC c] = (r.loose ++ [c]).map fixC := by rw [h.loose]; simp
  have hm : ∀ x ∈ r.loose ++ [c], x.trim = false → x.p.length = 256 := by
    intro x hx
    rcases List.mem_append.1 hx with hx | hx
    · exact h.len x hx
    · simp at hx; subst hx; exact hc
  by_cases h0 : d.fuse = 0
  · have hr0 : r.fuse = 0 := by omega
    have e : rchange r c = ({ r with loose := r.loose ++ [c], done := r.done + 1, fuse := r.fuse - 1, down := true }, 11) := by
      simp [rchange, rburns, hr0]
    rw [e]
    refine ⟨⟨h.pages, h.cells, hl, hm, ?_, ?_, ?_⟩, ?_⟩
    · simp [waitP, burnsP, h0]
    · simp [waitP, burnsP, h.done]
    · intro hx; simp [waitP, burnsP, h0] at hx
    · simp [codeP, waitP, burnsP, h0]
  · by_cases hn : d.fuse < 0
    · have hrn : r.fuse < 0 := by omega
      have e : rchange r c = ({ r with loose := r.loose ++ [c], done := r.done + 1 }, 0) := by
        simp [rchange, rburns, hrn]
      rw [e]
      have hnp : ¬ 0 < d.fuse := by omega
      refine ⟨⟨h.pages, h.cells, hl, hm, ?_, ?_, ?_⟩, ?_⟩
      · simp [waitP, burnsP, h0, hrd]
      · simp [waitP, burnsP, h.done]
      · intro _; right; simp [waitP, burnsP, hnp]; omega
      · simp [codeP, waitP, burnsP, h0]
    · have hre : r.fuse = d.fuse := by omega
      have hp : 0 < d.fuse := by omega
      have e : rchange r c = ({ r with loose := r.loose ++ [c], done := r.done + 1, fuse := r.fuse - 1 }, 0) := by
        have h1 : ¬ r.fuse < 0 := by omega
        have h2 : ¬ r.fuse = 0 := by omega
        simp [rchange, rburns, h1, h2]
      rw [e]
      refine ⟨⟨h.pages, h.cells, hl, hm, ?_, ?_, ?_⟩, ?_⟩
      · simp [waitP, burnsP, h0, hrd]
      · simp [waitP, burnsP, h.done]
      · intro _; left; simp [waitP, burnsP, hp, hre]
      · simp [codeP, waitP, burnsP, h0]
theorem refP_zero {d : Dev} {at_ : Int} (h : refusesP d at_ = 0) : d.down = false := by
  unfold refusesP at h
  cases hd : d.down
  · rfl
  · rw [hd] at h; simp at h
theorem Sim.write {d : Dev} {r : Rf} (h : Sim d r) (at_ : Int) (b : List Nat) : Sim (writeP d at_ b).1 (rwrite r at_ b).1 ∧ (writeP d at_ b).2 = (rwrite r at_ b).2 := by
  unfold writeP rwrite
  rw [h.refuses]
  by_cases hr : refusesP d at_ = 0
  · rw [if_pos hr, if_pos hr]
    by_cases hl : b.length = 256
    · rw [if_pos hl, if_pos hl]
      have := wait_sim h (refP_zero hr) (c := ⟨at_, false, b⟩) (fun _ => hl)
      have e : fixC ⟨at_, false, b⟩ = ⟨at_, false, b⟩ := by simp [fixC]
      rw [e] at this
      exact this
    · rw [if_neg hl, if_neg hl]
      exact ⟨h, rfl⟩
  · rw [if_neg hr, if_neg hr]
    exact ⟨h, rfl⟩
theorem Sim.trim {d : Dev} {r : Rf} (h : Sim d r) (at_ : Int) : Sim (trimP d at_).1 (rtrim r at_).1 ∧ (trimP d at_).2 = (rtrim r at_).2 := by
  unfold trimP rtrim
  rw [h.refuses]
  by_cases hr : refusesP d at_ = 0
  · rw [if_pos hr, if_pos hr]
    have := wait_sim h (refP_zero hr) (c := ⟨at_, true, []⟩) (fun h => by cases h)
    have e : fixC ⟨at_, true, []⟩ = ⟨at_, true, zeros⟩ := by simp [fixC]
    rw [e] at this
    exact this
  · rw [if_neg hr, if_neg hr]
    exact ⟨h, rfl⟩
theorem Sim.loosed {d : Dev} {r : Rf} (h : Sim d r) (hd : DevOk d) : ∀ c ∈ r.loose, (c.trim = false → c.p.length = 256) ∧ 0 ≤ c.at_ ∧ c.at_ < d.pages := by
  intro c hc
  have hm : fixC c ∈ d.waits := by rw [h.loose]; exact List.mem_map.2 ⟨c, hc, rfl⟩
  have := hd.wlen _ hm
  exact ⟨h.len c hc, this.2.2.2.1, this.2.2.2.2⟩
theorem Sim.flush {d : Dev} {r : Rf} (h : Sim d r) (hd : DevOk d) : Sim (flushP d).1 (rflush r).1 ∧ (flushP d).2 = (rflush r).2 := by
  unfold flushP rflush
  rw [h.down]
  cases hdn : d.down
  · simp only [Bool.false_eq_true, if_false]
    have hf := h.fuse hdn
    have hrd : r.down = false := by rw [h.down]; exact hdn
    have hcs := h.cells.settles hd.len (h.loosed hd) (fun _ => 256) r.loose.length
    rw [← h.loose] at hcs
    have hll : d.waits.length = r.loose.length := by rw [h.loose]; simp
    by_cases h0 : d.fuse = 0
    · have hr0 : r.fuse = 0 := by omega
      have e : rburns r = ({ r with done := r.done + 1, fuse := r.fuse - 1, down := true }, true) := by simp [rburns, hr0]
      have e2 : (burnsP d).down = true := by simp [burnsP, h0]
      rw [e, e2]
      simp only [if_true]
      refine ⟨⟨h.pages, h.cells, h.loose, h.len, ?_, ?_, ?_⟩, trivial⟩
      · simp [burnsP, h0]
      · simp [burnsP, h.done]
      · intro hx; simp [burnsP, h0] at hx
    · have e2 : (burnsP d).down = false := by simp [burnsP, h0]
      rw [e2]
      by_cases hn : d.fuse < 0
      · have hrn : r.fuse < 0 := by omega
        have hnp : ¬ 0 < d.fuse := by omega
        have e : rburns r = ({ r with done := r.done + 1 }, false) := by simp [rburns, hrn]
        rw [e]
        simp only [Bool.false_eq_true, if_false]
        refine ⟨⟨h.pages, ?_, rfl, by simp, ?_, ?_, ?_⟩, trivial⟩
        · show CellsOk d.pages (settleN r.cells r.loose (fun _ => 256) r.loose.length) (layN d.pg d.waits (fun _ => 256) d.waits.length)
          rw [hll]; exact hcs
        · simp [settledP, burnsP, h0, hrd]
        · simp [settledP, burnsP, h.done]
        · intro _; right; simp [settledP, burnsP, hnp]; omega
      · have hre : r.fuse = d.fuse := by omega
        have hp : 0 < d.fuse := by omega
        have h1 : ¬ r.fuse < 0 := by omega
        have h2 : ¬ r.fuse = 0 := by omega
        have e : rburns r = ({ r with done := r.done + 1, fuse := r.fuse - 1 }, false) := by simp [rburns, h1, h2]
        rw [e]
        simp only [Bool.false_eq_true, if_false]
        refine ⟨⟨h.pages, ?_, rfl, by simp, ?_, ?_, ?_⟩, trivial⟩
        · show CellsOk d.pages (settleN r.cells r.loose (fun _ => 256) r.loose.length) (layN d.pg d.waits (fun _ => 256) d.waits.length)
          rw [hll]; exact hcs
        · simp [settledP, burnsP, h0, hrd]
        · simp [settledP, burnsP, h.done]
        · intro _; left; simp [settledP, burnsP, hp, hre]
  · simp only [if_true]
    exact ⟨h, trivial⟩
theorem Sim.setFuse {d : Dev} {r : Rf} (h : Sim d r) (n : Int) : Sim (fuseP d n) (rfuse r n) := by
  refine ⟨h.pages, h.cells, h.loose, h.len, h.down, h.done, fun _ => ?_⟩
  show (if n < 0 then -1 else n) = n ∨ ((if n < 0 then (-1 : Int) else n) < 0 ∧ n < 0)
  by_cases hn : n < 0
  · right; simp [hn]
  · left; simp [hn]
theorem Sim.crash {d : Dev} {r : Rf} (h : Sim d r) (hd : DevOk d) (keep : List Int) : Sim (crashP d keep) (rcrash r keep) := by
  have hcs := h.cells.settles hd.len (h.loosed hd) (keepAt keep) (min r.loose.length keep.length)
  rw [← h.loose] at hcs
  have hll : d.waits.length = r.loose.length := by rw [h.loose]; simp
  refine ⟨h.pages, ?_, rfl, by simp [rcrash], rfl, h.done, fun _ => .inl rfl⟩
  show CellsOk d.pages (settleN r.cells r.loose (keepAt keep) (min r.loose.length keep.length)) (layN d.pg d.waits (keepAt keep) d.waits.length)
  rw [layN_min, hll]
  exact hcs
end Go.Proofs.YtkbfihnoohhojaaDoor.Fla
