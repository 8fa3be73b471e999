/-
  The plain mathematics of the two examples: a leaf that is put and flushed, and one that is torn.
-/
import Derived.Test.YtkbfihnoohhojaaDoorQFSim
import Derived.Test.YtkbfihnoohhojaaDoorQFRefG
import Derived.Test.YtkbfihnoohhojaaDoorQFTell
import Derived.Test.YtkbfihnoohhojaaDoorQLPage
import Derived.Test.YtkbfihnoohhojaaDoorQFRead
namespace Go.Proofs.YtkbfihnoohhojaaDoor
open Fla (Dev Rf DevOk Sim newP writeP flushP crashP trimP fuseP readP lookP allP refusesP zeros Chg Pg layN layP overP mix clamp upd waitP burnsP settledP codeP keepAt lastP rwrite rflush rtrim rfuse rcrash rall)
open Lea (page checkC getP stampsP stampN cutAt)

/-- One page more: its two stamps. -/
def nx (n : Int) (p : Int × Int) : Int := if (if n ≤ p.1 then p.1 + 1 else n) ≤ p.2 then p.2 + 1 else if n ≤ p.1 then p.1 + 1 else n
/-- The next stamp of pages with these stamps. -/
def nextP (l : List (Int × Int)) : Int := l.foldl nx 1
theorem nx_ge (n : Int) (p : Int × Int) : n ≤ nx n p ∧ p.1 < nx n p ∧ p.2 < nx n p := by
  unfold nx
  split <;> split at * <;> omega
theorem nx_le {n m : Int} {p : Int × Int} (hn : n ≤ m + 1) (h1 : p.1 ≤ m) (h2 : p.2 ≤ m) : nx n p ≤ m + 1 := by
  unfold nx
  split <;> split at * <;> omega
theorem fold_ge (l : List (Int × Int)) (n : Int) : n ≤ l.foldl nx n := by
  induction l generalizing n with
  | nil => exact Int.le_refl _
  | cons p r ih => exact Int.le_trans (nx_ge n p).1 (ih (nx n p))
theorem fold_above (l : List (Int × Int)) (n : Int) : ∀ p ∈ l, p.1 < l.foldl nx n ∧ p.2 < l.foldl nx n := by
  induction l generalizing n with
  | nil => intro p hp; cases hp
  | cons q r ih =>
    intro p hp
    rcases List.mem_cons.1 hp with rfl | hp
    · have h1 := nx_ge n p
      have h2 := fold_ge r (nx n p)
      exact ⟨Int.lt_of_lt_of_le h1.2.1 h2, Int.lt_of_lt_of_le h1.2.2 h2⟩
    · exact ih (nx n q) p hp
theorem fold_le (l : List (Int × Int)) {n m : Int} (hn : n ≤ m + 1) (h : ∀ p ∈ l, p.1 ≤ m ∧ p.2 ≤ m) : l.foldl nx n ≤ m + 1 := by
  induction l generalizing n with
  | nil => exact hn
  | cons q r ih =>
    have h0 := h q (List.mem_cons_self ..)
    exact ih (nx_le hn h0.1 h0.2) (fun p hp => h p (List.mem_cons_of_mem _ hp))
theorem next_one (l : List (Int × Int)) : 1 ≤ nextP l := fold_ge l 1
theorem next_above {l : List (Int × Int)} {p : Int × Int} (h : p ∈ l) : p.1 < nextP l ∧ p.2 < nextP l := fold_above l 1 p h
theorem next_le {l : List (Int × Int)} {m : Int} (hm : 0 ≤ m) (h : ∀ p ∈ l, p.1 ≤ m ∧ p.2 ≤ m) : nextP l ≤ m + 1 := fold_le l (by omega) h
theorem next_snoc (l : List (Int × Int)) (p : Int × Int) : nextP (l ++ [p]) = nx (nextP l) p := by unfold nextP; rw [List.foldl_append]; rfl

/-- The greatest of three, as the program reckons it: one less than the next stamp. -/
theorem nx_max (n a b : Int) : nx (n + 1) (a, b) = max (max n a) b + 1 := by
  unfold nx
  simp only
  split <;> split at * <;> omega

/-- The stamps of pages, at both ends. -/
def stampsL (l : List (Int × List Nat)) : List (Int × Int) := l.map fun x => (((stampsP x.2).1 : Int), ((stampsP x.2).2 : Int))
theorem stampN_le (n : Nat) : stampN n ≤ 1099511627776 := by unfold stampN; split <;> omega
theorem stamps_le (b : List Nat) : (stampsP b).1 ≤ 1099511627776 ∧ (stampsP b).2 ≤ 1099511627776 := by
  unfold stampsP
  split
  · exact ⟨stampN_le _, stampN_le _⟩
  · exact ⟨Nat.zero_le _, Nat.zero_le _⟩
theorem stampsL_le (l : List (Int × List Nat)) : ∀ p ∈ stampsL l, p.1 ≤ 1099511627776 ∧ p.2 ≤ 1099511627776 := by
  intro p hp
  obtain ⟨x, _, rfl⟩ := List.mem_map.1 hp
  have := stamps_le x.2
  simp only
  omega
/-- The next stamp of a device's pages. -/
def nextL (l : List (Int × List Nat)) : Int := nextP (stampsL l)
theorem nextL_one (l : List (Int × List Nat)) : 1 ≤ nextL l := next_one _
theorem nextL_le (l : List (Int × List Nat)) : nextL l ≤ 1099511627777 := next_le (m := 1099511627776) (by omega) (stampsL_le l)
theorem nextL_above {l : List (Int × List Nat)} {x : Int × List Nat} (h : x ∈ l) : ((stampsP x.2).1 : Int) < nextL l ∧ ((stampsP x.2).2 : Int) < nextL l := next_above (List.mem_map.2 ⟨x, h, rfl⟩)
theorem nextL_snoc (l : List (Int × List Nat)) (x : Int × List Nat) : nextL (l ++ [x]) = nx (nextL l) (((stampsP x.2).1 : Int), ((stampsP x.2).2 : Int)) := by
  unfold nextL stampsL
  rw [List.map_append]
  exact next_snoc _ _
theorem nextL_nil : nextL [] = 1 := rfl
theorem nextL_take {l : List (Int × List Nat)} {k : Nat} {x : Int × List Nat} (h : l[k]? = some x) : nextL (l.take (k + 1)) = nx (nextL (l.take k)) (((stampsP x.2).1 : Int), ((stampsP x.2).2 : Int)) := by
  obtain ⟨h1, h2⟩ := List.getElem?_eq_some_iff.1 h
  rw [List.take_succ_eq_append_getElem h1, h2, nextL_snoc]

/-- A put: the device, the next stamp, and the code. -/
def tputP (d : Dev) (n at_ kind : Int) (b : List Nat) : Dev × Int × Int :=
  if checkC n kind b.length = 0 then
    (if (writeP d at_ (page n.toNat kind.toNat b)).2 = 0 then ((writeP d at_ (page n.toNat kind.toNat b)).1, n + 1, 0) else ((writeP d at_ (page n.toNat kind.toNat b)).1, n, (writeP d at_ (page n.toNat kind.toNat b)).2))
  else (d, n, checkC n kind b.length)
def tfirmP (d : Dev) (n at_ kind : Int) (b : List Nat) : Dev × Int × Int :=
  if (tputP d n at_ kind b).2.2 = 0 then ((flushP (tputP d n at_ kind b).1).1, (tputP d n at_ kind b).2.1, (flushP (tputP d n at_ kind b).1).2) else tputP d n at_ kind b
def rputP (r : Rf) (n at_ kind : Int) (b : List Nat) : Rf × Int × Int :=
  if checkC n kind b.length = 0 then
    (if (rwrite r at_ (page n.toNat kind.toNat b)).2 = 0 then ((rwrite r at_ (page n.toNat kind.toNat b)).1, n + 1, 0) else ((rwrite r at_ (page n.toNat kind.toNat b)).1, n, (rwrite r at_ (page n.toNat kind.toNat b)).2))
  else (r, n, checkC n kind b.length)
def rfirmP (r : Rf) (n at_ kind : Int) (b : List Nat) : Rf × Int × Int :=
  if (rputP r n at_ kind b).2.2 = 0 then ((rflush (rputP r n at_ kind b).1).1, (rputP r n at_ kind b).2.1, (rflush (rputP r n at_ kind b).1).2) else rputP r n at_ kind b
/-- A get of bytes: the code, the stamp, the kind, the bytes. -/
def tgetP (p : List Nat × Int) (kind : Int) : Int × Nat × Nat × List Nat :=
  if p.2 ≠ 0 then (p.2, 0, 0, []) else if (getP p.1).1 ≠ 0 then ((getP p.1).1, 0, 0, []) else if ((getP p.1).2.2.1 : Int) = kind then getP p.1 else (12, 0, 0, [])

theorem write_ok {d : Dev} (h : DevOk d) (at_ : Int) {b : List Nat} (hb : ∀ x ∈ b, x < 256) : DevOk (writeP d at_ b).1 := by
  unfold writeP
  split
  · rename_i h1
    split
    · rename_i h2
      have h3 := Fla.refuses_zero h1
      exact Fla.waitP_ok h ⟨h2, hb, fun e => by simp at e, h3.2⟩
    · exact h
  · exact h
theorem check_code {n k : Int} {l : Nat} (h : checkC n k l ≠ 0) : checkC n k l = 2 ∨ checkC n k l = 12 ∨ checkC n k l = 3 := by
  unfold checkC at h ⊢
  split
  · exact .inl rfl
  · split
    · exact .inr (.inl rfl)
    · split
      · exact .inr (.inr rfl)
      · rename_i h1 h2 h3; rw [if_neg h1, if_neg h2, if_neg h3] at h; exact absurd rfl h
theorem Sim.tput {d : Dev} {r : Rf} (h : Sim d r) (n at_ kind : Int) (b : List Nat) : Sim (tputP d n at_ kind b).1 (rputP r n at_ kind b).1 ∧ (tputP d n at_ kind b).2 = (rputP r n at_ kind b).2 := by
  unfold tputP rputP
  split
  · have hw := h.write at_ (page n.toNat kind.toNat b)
    rw [hw.2]
    split
    · exact ⟨hw.1, rfl⟩
    · exact ⟨hw.1, rfl⟩
  · exact ⟨h, rfl⟩
/-- How a put ends, in letters. -/
theorem tput_next (d : Dev) (n at_ kind : Int) (b : List Nat) (h0 : 1 ≤ n) (h1 : n ≤ 1099511627777) : 1 ≤ (tputP d n at_ kind b).2.1 ∧ (tputP d n at_ kind b).2.1 ≤ 1099511627777 := by
  unfold tputP
  split
  · rename_i hc
    have := Lea.check_zero hc
    split <;> (simp only; omega)
  · exact ⟨h0, h1⟩
theorem tfirm_next (d : Dev) (n at_ kind : Int) (b : List Nat) (h0 : 1 ≤ n) (h1 : n ≤ 1099511627777) : 1 ≤ (tfirmP d n at_ kind b).2.1 ∧ (tfirmP d n at_ kind b).2.1 ≤ 1099511627777 := by
  have := tput_next d n at_ kind b h0 h1
  unfold tfirmP
  split
  · exact this
  · exact this
theorem writeP_ok_page {d : Dev} (h : DevOk d) {n kind : Int} {b : List Nat} (hc : checkC n kind b.length = 0) (hb : ∀ x ∈ b, x < 256) (at_ : Int) : DevOk (writeP d at_ (page n.toNat kind.toNat b)).1 := by
  have hz := Lea.check_zero hc
  exact write_ok h at_ (Lea.page_byt (by omega) hz.2.2.2.2 hb)
theorem tput_ok {d : Dev} (h : DevOk d) {n at_ kind : Int} {b : List Nat} (hb : ∀ x ∈ b, x < 256) : DevOk (tputP d n at_ kind b).1 := by
  unfold tputP
  split
  · rename_i hc
    split
    · exact writeP_ok_page h hc hb at_
    · exact writeP_ok_page h hc hb at_
  · exact h
theorem Sim.tfirm {d : Dev} {r : Rf} (h : Sim d r) (hd : DevOk d) (n at_ kind : Int) {b : List Nat} (hb : ∀ x ∈ b, x < 256) : Sim (tfirmP d n at_ kind b).1 (rfirmP r n at_ kind b).1 ∧ (tfirmP d n at_ kind b).2 = (rfirmP r n at_ kind b).2 := by
  have hp := Sim.tput h n at_ kind b
  unfold tfirmP rfirmP
  rw [hp.2]
  split
  · have hf := hp.1.flush (tput_ok hd (n := n) (at_ := at_) (kind := kind) hb)
    exact ⟨hf.1, by rw [hf.2]⟩
  · exact hp
theorem Sim.tget {d : Dev} {r : Rf} (h : Sim d r) (at_ kind : Int) : tgetP (Fla.rreadP r at_) kind = tgetP (readP d at_) kind := by
  have e : Fla.rreadP r at_ = readP d at_ := by
    unfold Fla.rreadP readP
    rw [h.refuses, h.look]
  rw [e]
theorem Sim.next {d : Dev} {r : Rf} (h : Sim d r) (hd : DevOk d) : nextL (rall r) = nextL (allP d) := by rw [h.all hd]

/-- A device whose power is not near its end: what a write and a flush do. -/
theorem write_fine {d : Dev} (hd : d.down = false) (hf : d.fuse < 0) {k : Int} (h0 : 0 ≤ k) (h1 : k < d.pages) {b : List Nat} (hb : b.length = 256) :
    writeP d k b = ({ d with waits := d.waits ++ [⟨k, false, b⟩], done := d.done + 1 }, 0) := by
  have e1 : refusesP d k = 0 := by unfold refusesP; rw [hd, if_neg (by simp), if_neg (by omega)]
  have e2 : waitP d ⟨k, false, b⟩ = { d with waits := d.waits ++ [⟨k, false, b⟩], done := d.done + 1 } := by
    unfold waitP burnsP
    have q1 : (d.fuse == 0) = false := by simp; omega
    simp only [q1, if_neg (show ¬ 0 < d.fuse by omega), ← hd]
  unfold writeP
  rw [if_pos e1, if_pos hb, e2]
  unfold codeP
  simp only [hd]
  rfl
theorem flush_fine {d : Dev} (hd : d.down = false) (hf : d.fuse < 0) : flushP d = (settledP { d with done := d.done + 1 }, 0) := by
  have e2 : burnsP d = { d with done := d.done + 1 } := by
    unfold burnsP
    have q1 : (d.fuse == 0) = false := by simp; omega
    simp only [q1, if_neg (show ¬ 0 < d.fuse by omega), ← hd]
  unfold flushP
  rw [e2, hd]
  simp
theorem cut_mix (a b : List Nat) (n : Int) : mix a b n = cutAt a b (clamp n) := rfl
/-- One change that waits, of a page, kept so far. -/
theorem crash_one {d : Dev} {k : Int} {b : List Nat} (hw : d.waits = [⟨k, false, b⟩]) (keep : Int) : lookP (crashP d [keep]) k = cutAt b (d.pg k) (clamp keep) := by
  unfold lookP crashP
  rw [hw]
  show layN d.pg [⟨k, false, b⟩] (keepAt [keep]) 1 k = _
  unfold layN layN layP overP upd keepAt
  simp [cut_mix]
/-- A page that was flushed is that. -/
theorem settle_one {d : Dev} {k : Int} {b : List Nat} (hw : d.waits = [⟨k, false, b⟩]) (hb : b.length = 256) (hp : (d.pg k).length = 256) : (settledP d).pg k = b ∧ (settledP d).waits = [] := by
  unfold settledP
  rw [hw]
  refine ⟨?_, rfl⟩
  show layN d.pg [⟨k, false, b⟩] (fun _ => 256) 1 k = _
  unfold layN layN layP overP upd
  have : clamp 256 = 256 := by decide
  simp [mix, this, ← hb, List.drop_eq_nil_of_le (show (d.pg k).length ≤ b.length by omega)]
end Go.Proofs.YtkbfihnoohhojaaDoor

namespace Go.Proofs.YtkbfihnoohhojaaDoor
open Fla (Dev newP)

theorem all_new (p : Int) : Fla.allP (newP p) = [] := by
  unfold Fla.allP Fla.cellsP newP
  show List.filterMap _ _ = []
  rw [List.filterMap_eq_nil_iff]
  intro a _
  show (if Fla.zeros = Fla.zeros then none else _) = none
  rw [if_pos rfl]
theorem next_new (p : Int) : nextL (Fla.allP (newP p)) = 1 := by rw [all_new]; rfl

/-- A device that is calm: its power is there, and nothing waits. -/
structure CalmD (d : Dev) : Prop where
  down : d.down = false
  fuse : d.fuse < 0
  waits : d.waits = []
theorem calm_new (p : Int) : CalmD (newP p) := ⟨rfl, by show (-1 : Int) < 0; omega, rfl⟩
theorem calm_crash (d : Dev) (keep : List Int) : CalmD (Fla.crashP d keep) := ⟨rfl, by show (-1 : Int) < 0; omega, rfl⟩

/-- A put on a calm device. -/
theorem put_calm {d : Dev} (h : CalmD d) {n at_ kind : Int} {b : List Nat} (h0 : 0 ≤ at_) (h1 : at_ < d.pages) (hc : Lea.checkC n kind b.length = 0) :
    tputP d n at_ kind b = ({ d with waits := [⟨at_, false, Lea.page n.toNat kind.toNat b⟩], done := d.done + 1 }, n + 1, 0) := by
  have hz := Lea.check_zero hc
  have hw := write_fine h.down h.fuse h0 h1 (b := Lea.page n.toNat kind.toNat b) (Lea.page_length hz.2.2.2.2)
  unfold tputP
  rw [if_pos hc, hw, h.waits]
  rfl
/-- A put that is flushed. -/
theorem firm_calm {d : Dev} (h : CalmD d) {n at_ kind : Int} {b : List Nat} (h0 : 0 ≤ at_) (h1 : at_ < d.pages) (hp : (d.pg at_).length = 256) (hc : Lea.checkC n kind b.length = 0) :
    ∃ d', tfirmP d n at_ kind b = (d', n + 1, 0) ∧ CalmD d' ∧ d'.pages = d.pages ∧ d'.pg at_ = Lea.page n.toNat kind.toNat b := by
  have hz := Lea.check_zero hc
  have e := put_calm h h0 h1 hc
  unfold tfirmP
  rw [e]
  simp only [if_true]
  have hf := flush_fine (d := { d with waits := [⟨at_, false, Lea.page n.toNat kind.toNat b⟩], done := d.done + 1 }) h.down h.fuse
  rw [hf]
  have hs := settle_one (d := { d with waits := [⟨at_, false, Lea.page n.toNat kind.toNat b⟩], done := d.done + 1 + 1 }) (k := at_) rfl (Lea.page_length hz.2.2.2.2) hp
  exact ⟨_, rfl, ⟨h.down, h.fuse, hs.2⟩, rfl, hs.1⟩
theorem read_calm {d : Dev} (h : CalmD d) {at_ : Int} (h0 : 0 ≤ at_) (h1 : at_ < d.pages) : Fla.readP d at_ = (d.pg at_, 0) := by
  have e1 : Fla.refusesP d at_ = 0 := by unfold Fla.refusesP; rw [h.down, if_neg (by simp), if_neg (by omega)]
  unfold Fla.readP
  rw [if_pos e1]
  unfold Fla.lookP
  rw [h.waits]
  rfl
/-- What a get finds where one leaf was flushed and another one was put, torn anywhere. -/
theorem torn_get {d : Dev} (_h : CalmD d) {k s s' : Nat} {a b : List Nat} {keep : Int} {at_ : Int} (h0 : 0 ≤ at_) (h1 : at_ < d.pages) (hp : d.pg at_ = Lea.page s k a)
    (hs : 1 ≤ s) (hs2 : s ≤ 1099511627776) (ht : 1 ≤ s') (ht2 : s' ≤ 1099511627776) (hne : s' ≠ s) (hk : 1 ≤ k) (hk2 : k ≤ 5) (ha : a.length ≤ 233) (hb : b.length ≤ 233) :
    let r := tgetP (Fla.readP (Fla.crashP { d with waits := [⟨at_, false, Lea.page s' k b⟩], done := d.done + 1 } [keep]) at_) k
    (r.1 = 8 ∧ 0 < keep ∧ keep < 256 ∧ r.2 = (0, 0, [])) ∨ r = (0, s, k, a) ∨ r = (0, s', k, b) := by
  intro r
  have hr : Fla.readP (Fla.crashP { d with waits := [⟨at_, false, Lea.page s' k b⟩], done := d.done + 1 } [keep]) at_ = (Lea.cutAt (Lea.page s' k b) (Lea.page s k a) (Fla.clamp keep), 0) := by
    have e1 : Fla.refusesP (Fla.crashP { d with waits := [⟨at_, false, Lea.page s' k b⟩], done := d.done + 1 } [keep]) at_ = 0 := by
      unfold Fla.refusesP
      rw [if_neg (by simp [Fla.crashP]), if_neg (by show ¬ (at_ < 0 ∨ d.pages ≤ at_); omega)]
    unfold Fla.readP
    rw [if_pos e1, crash_one rfl keep]
    show (Lea.cutAt _ (d.pg at_) _, _) = _
    rw [hp]
  have hr2 : r = tgetP (Lea.cutAt (Lea.page s' k b) (Lea.page s k a) (Fla.clamp keep), 0) k := by show tgetP _ _ = _; rw [hr]
  have ga := Lea.get_page hs hs2 hk hk2 ha
  have gb := Lea.get_page ht ht2 hk hk2 hb
  have hA : tgetP (Lea.page s k a, 0) k = (0, s, k, a) := by unfold tgetP; rw [if_neg (by simp), ga, if_neg (by simp), if_pos rfl]
  have hB : tgetP (Lea.page s' k b, 0) k = (0, s', k, b) := by unfold tgetP; rw [if_neg (by simp), gb, if_neg (by simp), if_pos rfl]
  have la := Lea.page_length (s := s) (k := k) ha
  have lb := Lea.page_length (s := s') (k := k) hb
  rw [hr2]
  by_cases hlo : keep ≤ 0
  · have : Fla.clamp keep = 0 := by unfold Fla.clamp; omega
    rw [this]
    refine .inr (.inl ?_)
    rw [show Lea.cutAt (Lea.page s' k b) (Lea.page s k a) 0 = Lea.page s k a by simp [Lea.cutAt]]
    exact hA
  · by_cases hhi : 256 ≤ keep
    · have : Fla.clamp keep = 256 := by unfold Fla.clamp; omega
      rw [this]
      refine .inr (.inr ?_)
      rw [show Lea.cutAt (Lea.page s' k b) (Lea.page s k a) 256 = Lea.page s' k b by unfold Lea.cutAt; rw [List.take_of_length_le (by omega), List.drop_eq_nil_of_le (by omega), List.append_nil]]
      exact hB
    · rcases Lea.torn_told (s := s') (k := k) (s' := s) (k' := k) ht2 hs2 hne hb ha (Fla.clamp_le keep) with h8 | hx | hx
      · refine .inl ?_
        have : tgetP (Lea.cutAt (Lea.page s' k b) (Lea.page s k a) (Fla.clamp keep), 0) k = (8, 0, 0, []) := by
          unfold tgetP
          rw [if_neg (by simp), h8, if_pos (by decide)]
        rw [this]
        exact ⟨rfl, by omega, by omega, rfl⟩
      · rw [hx]; exact .inr (.inr hB)
      · rw [hx]; exact .inr (.inl hA)
/-- The same, in letters. -/
theorem torn_letters {d : Dev} (h : CalmD d) {a b : List Nat} {keep : Int} (h1 : 1 < d.pages) (hp : d.pg 1 = Lea.page 1 1 a) (ha : a.length ≤ 233) (hb : b.length ≤ 233) :
    ∃ c s k l, tgetP (Fla.readP (Fla.crashP { d with waits := [⟨1, false, Lea.page 2 1 b⟩], done := d.done + 1 } [keep]) 1) 1 = (c, s, k, l) ∧
      ((c = 8 ∧ 0 < keep ∧ keep < 256 ∧ s = 0 ∧ k = 0 ∧ l = []) ∨ (c = 0 ∧ s = 1 ∧ k = 1 ∧ l = a) ∨ (c = 0 ∧ s = 2 ∧ k = 1 ∧ l = b)) := by
  rcases torn_get h (k := 1) (s := 1) (s' := 2) (a := a) (b := b) (keep := keep) (at_ := 1) (by omega) h1 hp (by omega) (by omega) (by omega) (by omega) (by omega) (by omega) (by omega) ha hb with ⟨q1, q2, q3, q4⟩ | q | q
  · exact ⟨8, 0, 0, [], Prod.ext q1 q4, .inl ⟨rfl, q2, q3, rfl, rfl, rfl⟩⟩
  · exact ⟨0, 1, 1, a, q, .inr (.inl ⟨rfl, rfl, rfl, rfl⟩)⟩
  · exact ⟨0, 2, 1, b, q, .inr (.inr ⟨rfl, rfl, rfl, rfl⟩)⟩
end Go.Proofs.YtkbfihnoohhojaaDoor
