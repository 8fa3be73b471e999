/-
  with of the document.
-/
import Derived.Test.YtibplphpbbajhaaDoorFour
namespace Go.Proofs.YtibplphpbbajhaaDoor
open Go.RowKit

theorem own_ne {w : World} {B n b : Nat} {e : TypeId} {v : Value} {xs : List Value} (h : w.ownsRow B e 1 v n xs) (hb : b < B) : v.ownBlock ≠ some b := by
  rcases h.2 with ⟨rfl, _⟩ | ⟨g, cap, cur, rfl, hg, _⟩
  · simp [Value.ownBlock]
  · simp [Value.ownBlock]; omega
theorem own_lies {w : World} {B n : Nat} {e : TypeId} {v : Value} {xs : List Value} (h : w.ownsRow B e 1 v n xs) : ∀ k, v.ownBlock = some k → B ≤ k := by
  intro k hk
  rcases h.2 with ⟨rfl, _⟩ | ⟨g, cap, cur, rfl, hg, _⟩
  · simp [Value.ownBlock] at hk
  · simp [Value.ownBlock] at hk; omega

theorem grown_drewN {w W : World} {row : Option Nat} (h : w.grownBy W row) : w.grownBy W.drew row := ⟨h.os, h.tape, h.output, h.size, h.block⟩

set_option maxHeartbeats 2000000 in
set_option maxRecDepth 10000 in
theorem with_any {w : World} {B : Nat} {pL pF pU pT : Option Addr} {nL cL nF cF nU cU nT cT : Nat} {L : List (List Int)} {a : List Int} (hL : LL w B (.slice pL nL cL) L) (ha : Ls w B (.slice pT nT cT) a) (hB : B ≤ w.heap.size) (h64 : L.length ≤ 64) (n : Int) {k : Nat} (hk : k < L.length) :
    Calls Tryd.prog 39 #[.agg #[.slice pL nL cL, .slice pF nF cF, .slice pU nU cU, .int .i64 n], .int .i64 (k : Int), .slice pT nT cT] w fun e w' => ∃ p c, e = .returned (.agg #[.slice p L.length c, .slice pF nF cF, .slice pU nU cU, .int .i64 n]) ∧ LL w' B (.slice p L.length c) (L.set k a) ∧ Below w.heap.size w w' := by
  obtain ⟨b, vs, hb, hs, _, hlen, hel⟩ := hL
  obtain ⟨p0, c0, hv, h1, h2⟩ := hs.form
  simp only [Value.slice.injEq] at hv
  obtain ⟨rfl, rfl, rfl⟩ := hv
  have hone : ∀ u ∈ vs, u.oneCell' = true := fun u hu => by
    obtain ⟨j, hj⟩ := List.mem_iff_getElem?.1 hu
    have hjl : j < L.length := by rw [← hlen]; exact (List.getElem?_eq_some_iff.1 hj).1
    obtain ⟨p, c, rfl, _⟩ := (hel j u _ hj (List.getElem?_eq_getElem hjl)).each
    rfl
  obtain ⟨w1, hw1⟩ : ∃ w1, w1 = ((w.alloc (.cells #[.slice pL vs.length cL, .slice pF nF cF, .slice pU nU cU, .int .i64 n] 32)).alloc (.cells #[.slice none 0 0, .slice none 0 0, .slice none 0 0, .int .i64 0] 32)).alloc (.cells #[.slice none 0 0, .slice pF nF cF, .slice pU nU cU, .int .i64 n] 32) := ⟨_, rfl⟩
  have A1 : Below w.heap.size w w1 := by rw [hw1]; go_grown
  have s1 : w1.heap.size = w.heap.size + 3 := by rw [hw1]; simp
  have Z1 : Four w1 (w.heap.size + 1) (.slice none 0 0) (.slice none 0 0) (.slice none 0 0) 0 := by
    have := four_new (w.alloc (.cells #[.slice pL vs.length cL, .slice pF nF cF, .slice pU nU cU, .int .i64 n] 32)) (.slice none 0 0) (.slice none 0 0) (.slice none 0 0) 0
    rw [show (w.alloc (.cells #[.slice pL vs.length cL, .slice pF nF cF, .slice pU nU cU, .int .i64 n] 32)).heap.size = w.heap.size + 1 by simp] at this
    rw [hw1]
    exact this.stays (by go_grown)
  have Z2 : Four w1 (w.heap.size + 1 + 1) (.slice none 0 0) (.slice pF nF cF) (.slice pU nU cU) n := by
    have := four_new ((w.alloc (.cells #[.slice pL vs.length cL, .slice pF nF cF, .slice pU nU cU, .int .i64 n] 32)).alloc (.cells #[.slice none 0 0, .slice none 0 0, .slice none 0 0, .int .i64 0] 32)) (.slice none 0 0) (.slice pF nF cF) (.slice pU nU cU) n
    rw [show ((w.alloc (.cells #[.slice pL vs.length cL, .slice pF nF cF, .slice pU nU cU, .int .i64 n] 32)).alloc (.cells #[.slice none 0 0, .slice none 0 0, .slice none 0 0, .int .i64 0] 32)).heap.size = w.heap.size + 1 + 1 by simp] at this
    rw [hw1]
    exact this
  obtain ⟨m, hm⟩ : ∃ m, m = vs.length := ⟨_, rfl⟩
  have HS := hid2 (hs.stays A1)
  rw [← hlen, ← hm] at hk ⊢
  rw [← hm] at hw1 h1 HS
  have HA := hid2 A1
  have HZ1 := hid2 Z1
  have HZ2 := hid2 Z2
  have HW1 := hid2 hw1
  have HM := hid2 hm
  have HLEN := hid2 hlen
  have HEL := hid2 hel
  have HTA := hid2 ha
  have HS1 := hid2 s1
  have hm64 : m ≤ 64 := by omega
  have HM64 : Hid (vs.length ≤ 64) := by show _ ≤ _; omega
  clear hs hel ha hlen A1 Z1 Z2 hw1 hm s1 h64
  go_enter Tryd.func39, Tryd.ntmps39
  go_upto_region 4 with (at_builtin; go_must (rw [← HW1.out]; clear HW1; refine wpList_append_gen Tryd.underlying29 elem30 rfl (by decide) _ rfl _ _ rfl w1.heap.size (.slice none 0 0) 0 [] rfl (World.ownsRow_nil _ _ _ _) b _ vs hone rfl HS.out (by have := HM64.out; omega) (Nat.le_refl _) ?_; intro v2 w2 hown hgrow; rw [Nat.zero_add, List.nil_append, ← HM.out] at hown; obtain ⟨b2, cap2, rfl, hb2, hl2⟩ := hown.form (by omega); have B2 := hid2 (below_grown (w := w1) ⟨hgrow.os, hgrow.tape, hgrow.output, hgrow.size, hgrow.block⟩); have HO2 := hid2 hown; have Z22 := hid2 (HZ2.out.stays B2.out); obtain ⟨d0, _, _, _, _, d5⟩ := Z22.out.cells; clear hown hgrow))
  have hgb : w.heap.size + 2 < b2 := by have := HS1.out; omega
  obtain ⟨w3, hw3⟩ : ∃ w3, w3 = w2.setCell ⟨w.heap.size + 1 + 1, 0, none⟩ (.slice (some ⟨b2, 0, none⟩) m cap2) := ⟨_, rfl⟩
  have Z3 : Hid (Four w3 (w.heap.size + 1 + 1) (.slice (some ⟨b2, 0, none⟩) m cap2) (.slice pF nF cF) (.slice pU nU cU) n) := by rw [hw3]; exact Z22.out.set0 _
  have R3 : Hid (w2.grownBy w3 (some (w.heap.size + 1 + 1))) := by rw [hw3]; exact grown_set (World.grownBy.refl _ _) _ _
  rw [← hw3]
  have O3 := hid2 (HO2.out.kept R3.out (.inr (by simp [Value.ownBlock]; omega)))
  have hl3 : b2 < w3.heap.size := Nat.lt_of_lt_of_le hl2 R3.out.size
  obtain ⟨e0, e1, _, _, _, e5⟩ := Z3.out.cells
  have fz : ∀ j, w3.frozen? ⟨b2, j, none⟩ = false := fun j => O3.out.frozenAt j
  have cc : ∃ u, w3.cell? ⟨b2, k, none⟩ = some u := ⟨vs[k]'(by rw [← HM.out]; exact hk), by rw [O3.out.cellAt k (by omega)]; exact List.getElem?_eq_getElem _⟩
  obtain ⟨u0, cc⟩ := cc
  have hcap : k < cap2 := by
    rcases O3.out.2 with ⟨h', _⟩ | ⟨g', c', _, h', _, _, hnc, _⟩
    · simp at h'
    · simp only [Value.slice.injEq, Option.some.injEq, Addr.mk.injEq, and_true, true_and] at h'
      obtain ⟨rfl, rfl⟩ := h'
      omega
  clear hw3 d0 d5 hl2
  go_upto_region 5 with fail
  obtain ⟨w4, hw4⟩ : ∃ w4, w4 = w3.setCell ⟨b2, k, none⟩ (.slice pT nT cT) := ⟨_, rfl⟩
  have S4 : Hid (w4.ownsRow w1.heap.size 30 1 (.slice (some ⟨b2, 0, none⟩) m cap2) m (vs.set k (.slice pT nT cT)) ∧ w3.grownBy w4 (some b2)) := by rw [hw4]; exact O3.out.stored k _
  rw [← hw4]
  have Z4 := hid2 (Z3.out.grown S4.out.2 (by simp; omega))
  have Z41 := hid2 (((HZ1.out.stays B2.out).grown R3.out (by simp)).grown S4.out.2 (by simp; omega))
  obtain ⟨e0, e1, e2, e3, e4, e5⟩ := Z4.out.cells
  have HB4 : Hid (Below w.heap.size w w4) := ((HA.out.trans (B2.out.mono HA.out.size)).grown R3.out (HA.out.trans (B2.out.mono HA.out.size)).size (fun j hj => by cases hj; omega)).grown S4.out.2 (by have := (HA.out.trans (B2.out.mono HA.out.size)).size; have := R3.out.size; omega) (fun j hj => by cases hj; omega)
  clear hw4 fz cc hcap hl3
  go_wp2_with (refine st32 rfl (.tmp 6) (.tmp 21) rfl (w.heap.size + 1) rfl _ _ _ _ _ Z41.out rfl rfl ⟨rfl, rfl, rfl, rfl⟩ ?_; intro w5 hz5 hg5)
  refine bodyPost_ret (v := .agg #[.slice (some ⟨b2, 0, none⟩) m cap2, .slice pF nF cF, .slice pU nU cU, .int .i64 n]) (results32a Tryd.results39 _ _ (w.heap.size + 1) rfl _ _ _ _ 32 (0, 0) hz5) rfl ⟨_, _, rfl, ?_, ?_⟩
  · have ho5 := S4.out.1.kept hg5 (.inr (by simp [Value.ownBlock]; omega))
    have hne : vs.set k (.slice pT nT cT) ≠ [] := fun e => by have h1 := congrArg List.length e; have := HM.out; simp at h1; subst h1; simp at this; omega
    obtain ⟨b3, hb3, hs3, ht3⟩ := (own_tag ho5).resolve_left hne
    have B5 : Below w.heap.size w w5 := HB4.out.grown hg5 HB4.out.size (fun j hj => by cases hj; omega)
    refine ⟨b3, _, by have := HS1.out; omega, hs3, .inr ht3, by rw [List.length_set, List.length_set]; exact HLEN.out, fun j u x hu hx => ?_⟩
    rw [List.getElem?_set] at hu hx
    by_cases e : k = j
    · rw [if_pos e, if_pos (by rw [← HM.out]; exact hk)] at hu
      rw [if_pos e, if_pos (by rw [← HLEN.out, ← HM.out]; exact hk)] at hx
      cases hu
      cases hx
      exact HTA.out.stays B5
    · rw [if_neg e] at hu hx
      exact (HEL.out j u x hu hx).stays B5
  · exact HB4.out.grown hg5 HB4.out.size (fun j hj => by cases hj; omega)
end Go.Proofs.YtibplphpbbajhaaDoor
