/-
  Rows of entries in memory.
-/
import Derived.Test.YtgmghekgelmmcaaDoorQICopyE
namespace Go.Proofs.YtgmghekgelmmcaaDoor.Ite
open Go.RowKit

/-- Cells that are these entries. -/
def EC (w : World) : List Ent → List Value → Prop
  | [], cs => cs = []
  | x :: r, cs => ∃ p c cs', cs = .string x.key :: .int .i64 x.ver :: .int .i64 x.asof :: .int .i64 x.ends :: .slice p x.val.length c :: cs' ∧ Bs5 w (.slice p x.val.length c) x.val ∧ EC w r cs'
theorem EC.keep {w w' : World} (hk : ∀ v l, Bs5 w v l → Bs5 w' v l) {xs : List Ent} {cs : List Value} (h : EC w xs cs) : EC w' xs cs := by
  induction xs generalizing cs with
  | nil => exact h
  | cons x r ih =>
    obtain ⟨p, c, cs', h1, h2, h3⟩ := h
    exact ⟨p, c, cs', h1, hk _ _ h2, ih h3⟩
theorem EC.stays {w w' : World} {xs : List Ent} {cs : List Value} (h : EC w xs cs) (hb : Below w.heap.size w w') : EC w' xs cs := h.keep (fun _ _ k => k.stays hb)
theorem EC.snoc {w : World} {xs : List Ent} {cs : List Value} {x : Ent} {p : Option Addr} {c : Nat} (h : EC w xs cs) (hx : Bs5 w (.slice p x.val.length c) x.val) :
    EC w (xs ++ [x]) (cs ++ [.string x.key, .int .i64 x.ver, .int .i64 x.asof, .int .i64 x.ends, .slice p x.val.length c]) := by
  induction xs generalizing cs with
  | nil =>
    have e : cs = [] := h
    subst e
    exact ⟨p, c, [], rfl, hx, rfl⟩
  | cons y r ih =>
    obtain ⟨q, d, cs', rfl, h2, h3⟩ := h
    exact ⟨q, d, _, rfl, h2, ih h3⟩
theorem EC.at {w : World} {xs : List Ent} {cs : List Value} (h : EC w xs cs) : ∀ {k : Nat} {x : Ent}, xs[k]? = some x → ∃ p c, cs[k * 5]? = some (.string x.key) ∧ cs[k * 5 + 1]? = some (.int .i64 x.ver) ∧ cs[k * 5 + 2]? = some (.int .i64 x.asof) ∧ cs[k * 5 + 3]? = some (.int .i64 x.ends) ∧ cs[k * 5 + 4]? = some (.slice p x.val.length c) ∧ Bs5 w (.slice p x.val.length c) x.val := by
  induction xs generalizing cs with
  | nil => intro k x hk; simp at hk
  | cons y r ih =>
    intro k x hk
    obtain ⟨q, d, cs', rfl, h2, h3⟩ := h
    cases k with
    | zero =>
      simp at hk
      subst hk
      exact ⟨q, d, rfl, rfl, rfl, rfl, rfl, h2⟩
    | succ k =>
      simp at hk
      obtain ⟨p, c, a0, a1, a2, a3, a4, a5⟩ := ih h3 hk
      refine ⟨p, c, ?_, ?_, ?_, ?_, ?_, a5⟩
      · rw [show (k + 1) * 5 = k * 5 + 5 by omega]; exact a0
      · rw [show (k + 1) * 5 + 1 = k * 5 + 1 + 5 by omega]; exact a1
      · rw [show (k + 1) * 5 + 2 = k * 5 + 2 + 5 by omega]; exact a2
      · rw [show (k + 1) * 5 + 3 = k * 5 + 3 + 5 by omega]; exact a3
      · rw [show (k + 1) * 5 + 4 = k * 5 + 4 + 5 by omega]; exact a4

/-- A value is, in memory, a slice of entries. -/
def EsAt (w : World) (v : Value) (xs : List Ent) : Prop := ∃ p cap, v = .slice p xs.length cap ∧ xs.length ≤ cap ∧ cap ≤ maxLen ∧
  ∀ k x, xs[k]? = some x → ∃ b off q c, p = some ⟨b, off, none⟩ ∧ b < w.heap.size ∧ w.cell? ⟨b, off + k * 5, none⟩ = some (.string x.key) ∧ w.cell? ⟨b, off + k * 5 + 1, none⟩ = some (.int .i64 x.ver) ∧ w.cell? ⟨b, off + k * 5 + 2, none⟩ = some (.int .i64 x.asof) ∧
    w.cell? ⟨b, off + k * 5 + 3, none⟩ = some (.int .i64 x.ends) ∧ w.cell? ⟨b, off + k * 5 + 4, none⟩ = some (.slice q x.val.length c) ∧ Bs w (.slice q x.val.length c) x.val
theorem EsAt.stays {w w' : World} {v : Value} {xs : List Ent} (h : EsAt w v xs) (hb : Below w.heap.size w w') : EsAt w' v xs := by
  obtain ⟨p, cap, h1, h2, h3, h4⟩ := h
  refine ⟨p, cap, h1, h2, h3, fun k x hk => ?_⟩
  obtain ⟨b, off, q, c, e1, e2, a0, a1, a2, a3, a4, a5⟩ := h4 k x hk
  have cc : ∀ o, w'.cell? ⟨b, o, none⟩ = w.cell? ⟨b, o, none⟩ := fun o => hb.cell (p := ⟨b, o, none⟩) e2
  exact ⟨b, off, q, c, e1, Nat.lt_of_lt_of_le e2 hb.size, (cc _).trans a0, (cc _).trans a1, (cc _).trans a2, (cc _).trans a3, (cc _).trans a4, a5.stays hb⟩
theorem EsAt.nil (w : World) : EsAt w (.slice none 0 0) [] := ⟨none, 0, rfl, Nat.le_refl _, by unfold maxLen; omega, fun k x hk => by simp at hk⟩
theorem EsAt.form {w : World} {v : Value} {xs : List Ent} (h : EsAt w v xs) : ∃ p cap, v = .slice p xs.length cap ∧ xs.length ≤ cap ∧ cap ≤ maxLen := by
  obtain ⟨p, cap, h1, h2, h3, _⟩ := h
  exact ⟨p, cap, h1, h2, h3⟩
/-- A row of the call's own is such a slice. -/
theorem EsAt.own {w : World} {B n : Nat} {v : Value} {xs : List Ent} {cs : List Value} (h : w.ownsRow B 39 5 v n cs) (hn : n = xs.length) (hc : EC w xs cs) : EsAt w v xs := by
  subst hn
  rcases h.2 with ⟨rfl, h0⟩ | ⟨g, cap, cur, rfl, hb, hg, h1, h2, _⟩
  · obtain rfl := List.eq_nil_of_length_eq_zero h0
    exact EsAt.nil w
  · refine ⟨some ⟨g, 0, none⟩, cap, rfl, h1, h2, fun k x hk => ?_⟩
    obtain ⟨q, c, a0, a1, a2, a3, a4, a5⟩ := hc.at hk
    have hcell := h.cells (g := g) rfl
    have cc : ∀ j u, cs[j]? = some u → w.cell? ⟨g, 0 + j, none⟩ = some u := fun j u hj => by have := hcell j u hj; rwa [add_off] at this
    exact ⟨g, 0, q, c, rfl, lt_of_block hg, cc _ _ a0, cc _ _ a1, cc _ _ a2, cc _ _ a3, cc _ _ a4, a5.bs⟩

/-- A row of one entry, made anew. -/
theorem ents_one {w : World} {x : Ent} {q : Option Addr} {c : Nat} (hx : Bs w (.slice q x.val.length c) x.val) :
    EsAt (w.alloc (.cells #[.string x.key, .int .i64 x.ver, .int .i64 x.asof, .int .i64 x.ends, .slice q x.val.length c] 39)) (.slice (some ⟨w.heap.size, 0, none⟩) 1 1) [x] := by
  refine ⟨some ⟨w.heap.size, 0, none⟩, 1, rfl, Nat.le_refl _, by unfold maxLen; omega, fun k y hk => ?_⟩
  cases k with
  | zero =>
    simp at hk
    subst hk
    obtain ⟨⟨q0, q1, q2, q3, q4⟩, _⟩ := five24 (heap_alloc_new w (.cells #[.string x.key, .int .i64 x.ver, .int .i64 x.asof, .int .i64 x.ends, .slice q x.val.length c] 39))
    exact ⟨w.heap.size, 0, q, c, rfl, by simp, q0, q1, q2, q3, q4, hx.stays (by go_grown)⟩
  | succ k => simp at hk
theorem ten_cells {w : World} {x0 x1 x2 x3 x4 y0 y1 y2 y3 y4 : Value} :
    ∀ j, (w.alloc (.cells #[x0, x1, x2, x3, x4, y0, y1, y2, y3, y4] 39)).cell? ⟨w.heap.size, j, none⟩ = #[x0, x1, x2, x3, x4, y0, y1, y2, y3, y4][j]? := fun j => by
  rw [World.cell?_alloc_at _ _ _ _ rfl]
theorem ents_two {w : World} {x y : Ent} {q r : Option Addr} {c d : Nat} (hx : Bs w (.slice q x.val.length c) x.val) (hy : Bs w (.slice r y.val.length d) y.val) :
    EsAt (w.alloc (.cells #[.string x.key, .int .i64 x.ver, .int .i64 x.asof, .int .i64 x.ends, .slice q x.val.length c, .string y.key, .int .i64 y.ver, .int .i64 y.asof, .int .i64 y.ends, .slice r y.val.length d] 39)) (.slice (some ⟨w.heap.size, 0, none⟩) 2 2) [x, y] := by
  refine ⟨some ⟨w.heap.size, 0, none⟩, 2, rfl, Nat.le_refl _, by unfold maxLen; omega, fun k z hk => ?_⟩
  rcases k with _ | _ | k
  · simp at hk
    subst hk
    exact ⟨w.heap.size, 0, q, c, rfl, by simp, ten_cells 0, ten_cells 1, ten_cells 2, ten_cells 3, ten_cells 4, hx.stays (by go_grown)⟩
  · simp at hk
    subst hk
    exact ⟨w.heap.size, 0, r, d, rfl, by simp, ten_cells 5, ten_cells 6, ten_cells 7, ten_cells 8, ten_cells 9, hy.stays (by go_grown)⟩
  · simp at hk

/-- Entries that are no more than are waited for. -/
def lightG : Nat → List Ent → Bool
  | _, [] => true
  | n, x :: r => !(decide (200 < x.key.size) || decide (5000 < x.val.length)) && !decide (12000 < n + x.val.length) && lightG (n + x.val.length) r
def lightB (xs : List Ent) : Bool := decide (xs.length ≤ 40) && lightG 0 xs
def lightI (xs : List Ent) : Int := if lightB xs = true then 0 else 1
/-- How many bytes the values of entries have. -/
def sumV : List Ent → Nat
  | [] => 0
  | x :: r => x.val.length + sumV r
theorem sumV_append (a b : List Ent) : sumV (a ++ b) = sumV a + sumV b := by
  induction a with
  | nil => simp [sumV]
  | cons x r ih => simp [sumV, ih]; omega
theorem lightG_sum {xs : List Ent} : ∀ {n : Nat}, lightG n xs = true → n ≤ 12000 → n + sumV xs ≤ 12000 ∧ ∀ x ∈ xs, x.key.size ≤ 200 ∧ x.val.length ≤ 5000 := by
  induction xs with
  | nil => intro n _ h; exact ⟨by simpa [sumV] using h, by simp⟩
  | cons x r ih =>
    intro n h hn
    simp [lightG] at h
    obtain ⟨⟨⟨h1, h2⟩, h3⟩, h4⟩ := h
    obtain ⟨g1, g2⟩ := ih h4 h3
    refine ⟨by simp [sumV]; omega, ?_⟩
    intro y hy
    rcases List.mem_cons.1 hy with rfl | hy
    · exact ⟨h1, h2⟩
    · exact g2 y hy
theorem lightB_ok {xs : List Ent} (h : lightB xs = true) : xs.length ≤ 40 ∧ sumV xs ≤ 12000 ∧ ∀ x ∈ xs, x.key.size ≤ 200 ∧ x.val.length ≤ 5000 := by
  unfold lightB at h
  rw [Bool.and_eq_true] at h
  obtain ⟨g1, g2⟩ := lightG_sum h.2 (by omega)
  exact ⟨by simpa using h.1, by omega, g2⟩

set_option maxHeartbeats 1000000 in
set_option maxRecDepth 10000 in
theorem light_any {w : World} {v : Value} {xs : List Ent} (h : EsAt w v xs) (hks : ∀ x ∈ xs, x.key.size ≤ maxLen) : Calls Tryd.prog 6 #[v] w fun e w' => e = .returned (.int .i64 (lightI xs)) ∧ w' = w := by
  obtain ⟨p, cap, rfl, h2, h3, h5⟩ := h
  unfold maxLen at h3
  have HE := hid2 h5
  have HK := hid2 hks
  clear h5 hks
  by_cases h40 : xs.length ≤ 40
  · have hgt : ¬ (40 < (xs.length : Int)) := by omega
    have HB : Hid (lightB xs = lightG 0 xs) := by show _ = _; unfold lightB; rw [decide_eq_true h40, Bool.true_and]
    go_enter Tryd.func6, Tryd.ntmps6
    go_wp2_with fail
    go_loop [3, 4] (fun n i => ∃ k m : Nat, i = .int .i64 (k : Int) ∧ n = .int .i64 (m : Int) ∧ k ≤ xs.length ∧ m ≤ 12000 ∧ Hid (lightG 0 xs = lightG m (xs.drop k))) (fun _ i => xs.length - (intOf i).toNat)
    case atStart => exact ⟨0, 0, rfl, rfl, Nat.zero_le _, by omega, rfl⟩
    case round =>
      obtain ⟨k, m, rfl, rfl, hk, hm, HZ⟩ := hrel
      by_cases hlt : k < xs.length
      · obtain ⟨x, hx⟩ : ∃ x, xs[k]? = some x := ⟨_, List.getElem?_eq_getElem hlt⟩
        obtain ⟨bb, off, q, c, rfl, hbb, a0, a1, a2, a3, a4, hbs⟩ := HE.out k _ hx
        have hki : (k : Int) < (xs.length : Int) := by omega
        have hkm := HK.out x (List.mem_of_getElem? hx)
        unfold maxLen at hkm
        obtain ⟨_, _, hf, hvl, hvc⟩ := hbs.form
        unfold maxLen at hvc
        have hvm : x.val.length ≤ 9223372036854775807 := by omega
        have HX : Hid (lightG m (xs.drop k) = (!(decide (200 < x.key.size) || decide (5000 < x.val.length)) && !decide (12000 < m + x.val.length) && lightG (m + x.val.length) (xs.drop (k + 1)))) := by
          show _ = _
          obtain ⟨hl, e⟩ := List.getElem?_eq_some_iff.1 hx
          rw [List.drop_eq_getElem_cons hl, e]
          rfl
        clear hx hbs hf hvl hvc a1 a2 a3
        by_cases c1 : 200 < x.key.size
        · have d1 : 200 < (x.key.size : Int) := by omega
          have HR : Hid (lightB xs = false) := by show _ = _; rw [HB.out, HZ.out, HX.out]; simp [c1]
          clear c1
          go_wp2
          go_ret
          exact ⟨by unfold lightI; rw [HR.out]; rfl, rfl⟩
        · have d1 : ¬ 200 < (x.key.size : Int) := by omega
          by_cases c2 : 5000 < x.val.length
          · have d2 : 5000 < (x.val.length : Int) := by omega
            have HR : Hid (lightB xs = false) := by show _ = _; rw [HB.out, HZ.out, HX.out]; simp [c2]
            clear c1 c2
            go_wp2
            go_ret
            exact ⟨by unfold lightI; rw [HR.out]; rfl, rfl⟩
          · have d2 : ¬ 5000 < (x.val.length : Int) := by omega
            by_cases c3 : 12000 < m + x.val.length
            · have d3 : 12000 < (m : Int) + (x.val.length : Int) := by omega
              have HR : Hid (lightB xs = false) := by show _ = _; rw [HB.out, HZ.out, HX.out]; simp [c3]
              clear c1 c2 c3
              go_wp2
              go_ret
              exact ⟨by unfold lightI; rw [HR.out]; rfl, rfl⟩
            · have d3 : ¬ 12000 < (m : Int) + (x.val.length : Int) := by omega
              have HR : Hid (lightG 0 xs = lightG (m + x.val.length) (xs.drop (k + 1))) := by show _ = _; rw [HZ.out, HX.out]; simp [c1, c2, c3]
              have HM : Hid (m + x.val.length ≤ 12000) := by show _ ≤ _; omega
              clear c1 c2 c3
              go_wp2_with fail
              go_round
              case rel => exact ⟨k + 1, m + x.val.length, by go_num, by go_num, by omega, HM.out, HR⟩
              case measure => simp [intOf]; omega
      · have hki : ¬ ((k : Int) < (xs.length : Int)) := by omega
        have HR : Hid (lightB xs = true) := by
          show _ = _
          rw [HB.out, HZ.out, List.drop_of_length_le (by omega)]
          rfl
        go_wp2
        go_ret
        exact ⟨by unfold lightI; rw [HR.out]; rfl, rfl⟩
  · have hgt : 40 < (xs.length : Int) := by omega
    have HR : Hid (lightB xs = false) := by
      show _ = _
      unfold lightB
      rw [decide_eq_false h40, Bool.false_and]
    go_enter Tryd.func6, Tryd.ntmps6
    go_wp2
    go_ret
    exact ⟨by unfold lightI; rw [HR.out]; rfl, rfl⟩
end Go.Proofs.YtgmghekgelmmcaaDoor.Ite
