/-
  The mathematics of a bucket: where a key is, entries without a key, how many of the eldest go.
-/
import Derived.Test.YtgmghekgelmmcaaDoorQIMath
namespace Go.Proofs.YtgmghekgelmmcaaDoor
open Ite (Ent zeroE checkE sizeE allB rowB)

/-- Where a key's entry is. -/
def idx (L : List Ent) (k : ByteArray) : Option Nat := L.findIdx? fun x => decide (x.key = k)
def findE (L : List Ent) (k : ByteArray) : Int := match idx L k with | some i => (i : Int) | none => -1
theorem idx_some {L : List Ent} {k : ByteArray} {i : Nat} : idx L k = some i ↔ ∃ x, L[i]? = some x ∧ x.key = k ∧ ∀ j y, j < i → L[j]? = some y → y.key ≠ k := by
  unfold idx
  rw [List.findIdx?_eq_some_iff_getElem]
  constructor
  · rintro ⟨h, h1, h2⟩
    refine ⟨L[i], List.getElem?_eq_getElem h, by simpa using h1, fun j y hj hy => ?_⟩
    obtain ⟨hl, rfl⟩ := List.getElem?_eq_some_iff.1 hy
    simpa using h2 j hj
  · rintro ⟨x, hx, h1, h2⟩
    obtain ⟨hl, rfl⟩ := List.getElem?_eq_some_iff.1 hx
    exact ⟨hl, by simpa using h1, fun j hj => by simpa using h2 j L[j] hj (List.getElem?_eq_getElem (by omega))⟩
theorem idx_none {L : List Ent} {k : ByteArray} : idx L k = none ↔ ∀ x ∈ L, x.key ≠ k := by
  unfold idx
  rw [List.findIdx?_eq_none_iff]
  constructor
  · intro h x hx; simpa using h x hx
  · intro h x hx; simpa using h x hx
theorem idx_lt {L : List Ent} {k : ByteArray} {i : Nat} (h : idx L k = some i) : i < L.length := by
  obtain ⟨x, hx, _⟩ := idx_some.1 h
  exact (List.getElem?_eq_some_iff.1 hx).1
theorem findE_some {L : List Ent} {k : ByteArray} {i : Nat} (h : idx L k = some i) : findE L k = (i : Int) := by unfold findE; rw [h]
theorem findE_none {L : List Ent} {k : ByteArray} (h : idx L k = none) : findE L k = -1 := by unfold findE; rw [h]
theorem findE_there {L : List Ent} {k : ByteArray} : 0 ≤ findE L k ↔ ∃ x ∈ L, x.key = k := by
  cases h : idx L k with
  | none =>
    rw [findE_none h]
    have := idx_none.1 h
    constructor
    · intro hh; omega
    · rintro ⟨x, hx, e⟩; exact absurd e (this x hx)
  | some i =>
    rw [findE_some h]
    obtain ⟨x, hx, e, _⟩ := idx_some.1 h
    exact ⟨fun _ => ⟨x, List.mem_of_getElem? hx, e⟩, fun _ => Int.natCast_nonneg _⟩
theorem findE_eq {L : List Ent} {k : ByteArray} {i : Nat} : findE L k = (i : Int) ↔ idx L k = some i := by
  cases h : idx L k with
  | none =>
    rw [findE_none h]
    exact ⟨fun hh => by omega, fun hh => by cases hh⟩
  | some j =>
    rw [findE_some h]
    constructor
    · intro hh
      have : j = i := by omega
      rw [this]
    · intro hh
      cases hh
      rfl

/-- Entries without those of a key. -/
def butK (L : List Ent) (k : ByteArray) : List Ent := L.filter fun y => decide (y.key ≠ k)
theorem butK_nil (k : ByteArray) : butK [] k = [] := rfl
theorem butK_take {L : List Ent} {k : ByteArray} {m : Nat} {x : Ent} (h : L[m]? = some x) : butK (L.take (m + 1)) k = if x.key = k then butK (L.take m) k else butK (L.take m) k ++ [x] := by
  have hl := (List.getElem?_eq_some_iff.1 h).1
  have : L.take (m + 1) = L.take m ++ [x] := by rw [List.take_add_one, h]; rfl
  unfold butK
  rw [this, List.filter_append]
  by_cases e : x.key = k
  · simp [e]
  · simp [e]
theorem butK_len (L : List Ent) (k : ByteArray) : (butK L k).length ≤ L.length := List.length_filter_le _ _
theorem butK_lt {L : List Ent} {k : ByteArray} : (butK L k).length < L.length ↔ 0 ≤ findE L k := by
  rw [findE_there]
  unfold butK
  constructor
  · intro h
    refine Classical.byContradiction fun hn => ?_
    have : ∀ a ∈ L, decide (a.key ≠ k) = true := fun a ha => by
      rw [decide_eq_true_iff]; exact fun e => hn ⟨a, ha, e⟩
    rw [List.filter_eq_self.2 this] at h
    omega
  · rintro ⟨x, hx, e⟩
    refine Nat.lt_of_le_of_ne (List.length_filter_le _ _) fun h => ?_
    have := (List.length_filter_eq_length_iff.1 h) x hx
    simp [e] at this
theorem butK_mem {L : List Ent} {k : ByteArray} {x : Ent} : x ∈ butK L k ↔ x ∈ L ∧ x.key ≠ k := by simp [butK, List.mem_filter]

/-! ### Sizes -/
def szL (L : List Ent) : Nat := (allB L).length
theorem szL_nil : szL [] = 0 := rfl
theorem szL_cons (x : Ent) (L : List Ent) : szL (x :: L) = sizeE x + szL L := by
  show (rowB x ++ allB L).length = _
  rw [List.length_append, Ite.rowB_length]; rfl
theorem szL_append (A L : List Ent) : szL (A ++ L) = szL A + szL L := by simp [szL, Ite.allB_append]
theorem szL_one (x : Ent) : szL [x] = sizeE x := by rw [szL_cons, szL_nil, Nat.add_zero]
theorem szL_take {L : List Ent} {m : Nat} {x : Ent} (h : L[m]? = some x) : szL (L.take (m + 1)) = szL (L.take m) + sizeE x := by
  have : L.take (m + 1) = L.take m ++ [x] := by rw [List.take_add_one, h]; rfl
  rw [this, szL_append, szL_one]
theorem szL_drop {L : List Ent} {m : Nat} {x : Ent} (h : L[m]? = some x) : szL (L.drop m) = sizeE x + szL (L.drop (m + 1)) := by
  obtain ⟨hl, rfl⟩ := List.getElem?_eq_some_iff.1 h
  rw [List.drop_eq_getElem_cons hl, szL_cons]
theorem szL_le_take (L : List Ent) (m : Nat) : szL (L.take m) ≤ szL L := by
  have := szL_append (L.take m) (L.drop m)
  rw [List.take_append_drop] at this
  omega
theorem szL_le_drop (L : List Ent) (m : Nat) : szL (L.drop m) ≤ szL L := by
  have := szL_append (L.take m) (L.drop m)
  rw [List.take_append_drop] at this
  omega
theorem szL_butK (L : List Ent) (k : ByteArray) : szL (butK L k) ≤ szL L := by
  induction L with
  | nil => exact Nat.le_refl _
  | cons x r ih =>
    unfold butK at *
    rw [List.filter_cons, szL_cons]
    split
    · rw [szL_cons]; omega
    · omega
theorem sizeE_of_mem {L : List Ent} {x : Ent} (h : x ∈ L) : sizeE x ≤ szL L := by
  induction L with
  | nil => cases h
  | cons y r ih =>
    rw [szL_cons]
    rcases List.mem_cons.1 h with rfl | h
    · omega
    · have := ih h; omega

/-! ### The eldest go -/
def cutK : List Ent → Nat
  | [] => 0
  | x :: r => if szL (x :: r) ≤ 233 then 0 else cutK r + 1
theorem cutK_stop {L : List Ent} (h : szL L ≤ 233) : cutK L = 0 := by cases L with | nil => rfl | cons x r => simp [cutK, h]
theorem cutK_go {x : Ent} {r : List Ent} (h : ¬ szL (x :: r) ≤ 233) : cutK (x :: r) = cutK r + 1 := by simp [cutK, h]
theorem cutK_le : ∀ L : List Ent, cutK L ≤ L.length
  | [] => Nat.le_refl _
  | x :: r => by
    by_cases h : szL (x :: r) ≤ 233
    · rw [cutK_stop h]; exact Nat.zero_le _
    · rw [cutK_go h, List.length_cons]; have := cutK_le r; omega
theorem cutK_room : ∀ L : List Ent, szL (L.drop (cutK L)) ≤ 233
  | [] => by simp [cutK, szL_nil]
  | x :: r => by
    by_cases h : szL (x :: r) ≤ 233
    · rw [cutK_stop h]; exact h
    · rw [cutK_go h, List.drop_succ_cons]; exact cutK_room r
/-- A step of the search: from m on. -/
theorem cutK_at {L : List Ent} {m : Nat} (hm : m ≤ L.length) (h : cutK L = m + cutK (L.drop m)) (hs : ¬ szL (L.drop m) ≤ 233) : m < L.length ∧ cutK L = (m + 1) + cutK (L.drop (m + 1)) := by
  have hlt : m < L.length := by
    refine Nat.lt_of_le_of_ne hm fun e => hs ?_
    rw [e, List.drop_length, szL_nil]; omega
  refine ⟨hlt, ?_⟩
  have e := List.drop_eq_getElem_cons hlt
  rw [e] at hs
  rw [h, e, cutK_go hs]
  omega
theorem cutK_end {L : List Ent} {m : Nat} (h : cutK L = m + cutK (L.drop m)) (hs : szL (L.drop m) ≤ 233) : cutK L = m := by rw [h, cutK_stop hs]; omega
/-- No more goes than must. -/
theorem cutK_must : ∀ (L : List Ent) (m : Nat), m < cutK L → ¬ szL (L.drop m) ≤ 233
  | [], m, h => by simp [cutK] at h
  | x :: r, m, h => by
    by_cases hs : szL (x :: r) ≤ 233
    · rw [cutK_stop hs] at h; omega
    · cases m with
      | zero => exact hs
      | succ m => rw [cutK_go hs] at h; rw [List.drop_succ_cons]; exact cutK_must r m (by omega)
/-- An insertion: what is left, what went, the code. -/
def insA (L : List Ent) (x : Ent) : List Ent := butK L x.key ++ [x]
def insP (L : List Ent) (x : Ent) : List Ent × List Ent × Int :=
  if checkE x ≠ 0 then ([], [], checkE x) else if 233 < sizeE x then ([], [], 3) else ((insA L x).drop (cutK (insA L x)), (insA L x).take (cutK (insA L x)), 0)
theorem insP_bad {L : List Ent} {x : Ent} (h : checkE x ≠ 0) : insP L x = ([], [], checkE x) := if_pos h
theorem insP_big {L : List Ent} {x : Ent} (h : checkE x = 0) (hs : 233 < sizeE x) : insP L x = ([], [], 3) := by unfold insP; rw [if_neg (by simpa using h), if_pos hs]
theorem insP_ok {L : List Ent} {x : Ent} (h : checkE x = 0) (hs : ¬ 233 < sizeE x) : insP L x = ((insA L x).drop (cutK (insA L x)), (insA L x).take (cutK (insA L x)), 0) := by unfold insP; rw [if_neg (by simpa using h), if_neg hs]
theorem insA_len (L : List Ent) (x : Ent) : (insA L x).length = (butK L x.key).length + 1 := by simp [insA]
theorem insA_sz (L : List Ent) (x : Ent) : szL (insA L x) ≤ szL L + sizeE x := by
  unfold insA; rw [szL_append, szL_one]; have := szL_butK L x.key; omega
theorem cut_ins {L : List Ent} {x : Ent} (hs : ¬ 233 < sizeE x) : cutK (insA L x) ≤ (butK L x.key).length := by
  refine Nat.le_of_not_lt fun h => ?_
  have := cutK_must (insA L x) (butK L x.key).length h
  apply this
  unfold insA
  rw [List.drop_left, szL_one]
  omega
theorem ins_left {L : List Ent} {x : Ent} (hs : ¬ 233 < sizeE x) : (insA L x).drop (cutK (insA L x)) = (butK L x.key).drop (cutK (insA L x)) ++ [x] := by
  have := cut_ins (L := L) hs
  generalize cutK (insA L x) = c at *
  unfold insA
  rw [List.drop_append_of_le_length this]
theorem ins_went {L : List Ent} {x : Ent} (hs : ¬ 233 < sizeE x) : (insA L x).take (cutK (insA L x)) = (butK L x.key).take (cutK (insA L x)) := by
  have := cut_ins (L := L) hs
  generalize cutK (insA L x) = c at *
  unfold insA
  rw [List.take_append_of_le_length this]

/-! ### Entries that may be, each with a key of its own -/
def right (L : List Ent) : Prop := ∀ (i : Nat) (x : Ent), L[i]? = some x → checkE x = 0 ∧ findE L x.key = (i : Int)
theorem right_nd {L : List Ent} : right L ↔ (∀ x ∈ L, checkE x = 0) ∧ (L.map (·.key)).Nodup := by
  constructor
  · intro h
    refine ⟨fun x hx => ?_, ?_⟩
    · obtain ⟨i, hi⟩ := List.mem_iff_getElem?.1 hx
      exact (h i x hi).1
    · rw [List.nodup_iff_pairwise_ne, List.pairwise_iff_getElem]
      intro i j hi hj hij e
      simp only [List.length_map] at hi hj
      simp only [List.getElem_map] at e
      have h1 := (h i L[i] (List.getElem?_eq_getElem hi)).2
      have h2 := (h j L[j] (List.getElem?_eq_getElem hj)).2
      rw [e] at h1
      rw [h1] at h2
      omega
  · rintro ⟨h1, h2⟩ i x hx
    refine ⟨h1 x (List.mem_of_getElem? hx), findE_eq.2 (idx_some.2 ⟨x, hx, rfl, fun j y hj hy e => ?_⟩)⟩
    rw [List.nodup_iff_pairwise_ne, List.pairwise_iff_getElem] at h2
    obtain ⟨hi, rfl⟩ := List.getElem?_eq_some_iff.1 hx
    obtain ⟨hj', rfl⟩ := List.getElem?_eq_some_iff.1 hy
    exact h2 j i (by simpa using hj') (by simpa using hi) hj (by simpa using e)
theorem right_ins {L : List Ent} {x : Ent} (h : right L) (hx : checkE x = 0) (_hs : ¬ 233 < sizeE x) : right ((insA L x).drop (cutK (insA L x))) := by
  rw [right_nd] at h ⊢
  obtain ⟨h1, h2⟩ := h
  have hA : (∀ y ∈ insA L x, checkE y = 0) ∧ ((insA L x).map (·.key)).Nodup := by
    constructor
    · intro y hy
      rcases List.mem_append.1 hy with hy | hy
      · exact h1 y (butK_mem.1 hy).1
      · rw [List.mem_singleton.1 hy]; exact hx
    · unfold insA
      rw [List.map_append, List.nodup_append]
      refine ⟨List.Sublist.nodup (List.Sublist.map _ List.filter_sublist) h2, by simp, ?_⟩
      intro a ha b hb e
      obtain ⟨y, hy, rfl⟩ := List.mem_map.1 ha
      simp at hb
      exact (butK_mem.1 hy).2 (e.trans hb)
  exact ⟨fun y hy => hA.1 y (List.mem_of_mem_drop hy), by rw [List.map_drop]; exact List.Sublist.nodup (List.drop_sublist _ _) hA.2⟩

/-! ### What bytes are as a bucket -/
def twice (L : List Ent) : Prop := ¬ (L.map (·.key)).Nodup
/-- The first m keys are each a key of its own. -/
theorem nd_take {L : List Ent} {m : Nat} {x : Ent} (h : L[m]? = some x) (nd : ((L.take m).map (·.key)).Nodup) : ((L.take (m + 1)).map (·.key)).Nodup ↔ ¬ ∃ y ∈ L.take m, y.key = x.key := by
  have e : L.take (m + 1) = L.take m ++ [x] := by rw [List.take_add_one, h]; rfl
  rw [e, List.map_append, List.nodup_append]
  constructor
  · rintro ⟨_, _, h3⟩ ⟨y, hy, hk⟩
    exact h3 _ (List.mem_map.2 ⟨y, hy, rfl⟩) _ (by simp) hk
  · intro hn
    refine ⟨nd, by simp, ?_⟩
    intro a ha b hb e
    obtain ⟨y, hy, rfl⟩ := List.mem_map.1 ha
    simp at hb
    exact hn ⟨y, hy, e.trans hb⟩
theorem find_nd {L : List Ent} {m : Nat} {x : Ent} (h : L[m]? = some x) : findE L x.key = (m : Int) ↔ ¬ ∃ y ∈ L.take m, y.key = x.key := by
  rw [findE_eq, idx_some]
  constructor
  · rintro ⟨_, _, _, hno⟩ ⟨y, hy, hk⟩
    obtain ⟨j, hj⟩ := List.mem_iff_getElem?.1 hy
    rw [List.getElem?_take] at hj
    split at hj
    · exact hno j y (by omega) hj hk
    · cases hj
  · intro hn
    exact ⟨x, h, rfl, fun j y hj hy hk => hn ⟨y, List.mem_iff_getElem?.2 ⟨j, by rw [List.getElem?_take, if_pos hj]; exact hy⟩, hk⟩⟩
theorem nd_all {L : List Ent} : (L.map (·.key)).Nodup ↔ ∀ (i : Nat) (x : Ent), L[i]? = some x → findE L x.key = (i : Int) := by
  constructor
  · intro nd i x hx
    refine (find_nd hx).2 fun ⟨y, hy, hk⟩ => ?_
    have : ((L.take (i + 1)).map (·.key)).Nodup := by rw [List.map_take]; exact List.Sublist.nodup (List.take_sublist _ _) nd
    have nd' : ((L.take i).map (·.key)).Nodup := by rw [List.map_take]; exact List.Sublist.nodup (List.take_sublist _ _) nd
    exact (nd_take hx nd').1 this ⟨y, hy, hk⟩
  · intro h
    have : ∀ m, m ≤ L.length → ((L.take m).map (·.key)).Nodup := by
      intro m
      induction m with
      | zero => intro _; simp
      | succ m ih =>
        intro hm
        obtain ⟨x, hx⟩ : ∃ x, L[m]? = some x := ⟨_, List.getElem?_eq_getElem (by omega)⟩
        exact (nd_take hx (ih (by omega))).2 ((find_nd hx).1 (h m x hx))
    have := this L.length (Nat.le_refl _)
    rwa [List.take_length] at this
end Go.Proofs.YtgmghekgelmmcaaDoor
