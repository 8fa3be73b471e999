/-
  Whether bytes are the same; bytes in new memory.
-/
import Derived.Test.YtgmghekgelmmcaaDoorQIRChk
namespace Go.Proofs.YtgmghekgelmmcaaDoor.Ite
open Go.RowKit

theorem strB_inj {a b : List Int} (ha : Byt a) (hb : Byt b) (h : strB a = strB b) : a = b := by
  rw [← kb_strB ha, ← kb_strB hb, h]
theorem take_eq_of {a b : List Int} (hl : a.length = b.length) {k : Nat} (hk : a.length ≤ k) (h : a.take k = b.take k) : a = b := by
  rwa [List.take_of_length_le hk, List.take_of_length_le (by omega)] at h

set_option maxHeartbeats 1000000 in
theorem same_any {w : World} {b c : Nat} {u v : Value} {l l' : List Int} (h : SlAt w b u (U l)) (g : SlAt w c v (U l')) : Calls Tryd.prog 50 #[u, v] w fun e w' => e = .returned (.bool (decide (l = l'))) ∧ ∃ m, w' = w.drewN m := by
  obtain ⟨p, cap, hu, h2, h3, h5⟩ := h.each
  obtain ⟨q, cap2, hv, k2, k3, k5⟩ := g.each
  rw [U_length] at hu h2 hv k2
  subst hu hv
  unfold maxLen at h3 k3
  have HE : Hid (∀ (k : Nat) (x : Int), l[k]? = some x → ∃ off, p = some ⟨b, off, none⟩ ∧ b < w.heap.size ∧ w.cell? ⟨b, off + k, none⟩ = some (.int .u8 x)) := fun k x hx => h5 k _ (U_at hx)
  have HF : Hid (∀ (k : Nat) (x : Int), l'[k]? = some x → ∃ off, q = some ⟨c, off, none⟩ ∧ c < w.heap.size ∧ w.cell? ⟨c, off + k, none⟩ = some (.int .u8 x)) := fun k x hx => k5 k _ (U_at hx)
  clear h h5 g k5
  by_cases hlen : l.length = l'.length
  · have HL := hid2 hlen
    have hl2 : ((l.length : Int) != (l'.length : Int)) = false := by rw [hlen]; simp
    clear hlen
    go_enter Tryd.func50, Tryd.ntmps50
    go_wp2_with fail
    go_loopw [5] (fun i wr => ∃ k : Nat, i = .int .i64 (k : Int) ∧ k ≤ l.length ∧ l.take k = l'.take k ∧ ∃ n, wr = w.drewN n) (fun i _ => l.length - (intOf i).toNat)
    case atStart => exact ⟨0, rfl, Nat.zero_le _, rfl, 0, rfl⟩
    case round =>
      clear hl2
      obtain ⟨k, rfl, hk, htk, n, rfl⟩ := hrel
      have HT := hid2 htk
      clear htk
      by_cases hlt : k < l.length
      · obtain ⟨x, hx⟩ : ∃ x, l[k]? = some x := ⟨_, List.getElem?_eq_getElem hlt⟩
        obtain ⟨y, hy⟩ : ∃ y, l'[k]? = some y := ⟨_, List.getElem?_eq_getElem (by rw [← HL.out]; exact hlt)⟩
        obtain ⟨off, rfl, hbb, hc⟩ := HE.out k _ hx
        obtain ⟨off2, rfl, hbb2, hc2⟩ := HF.out k _ hy
        have hki : (k : Int) < (l.length : Int) := by omega
        have hkc : (k : Int) < (l'.length : Int) := by have := HL.out; omega
        by_cases hxy : x = y
        · have HT2 : Hid (l.take (k + 1) = l'.take (k + 1)) := by
            show _ = _
            rw [take_snoc hx, take_snoc hy, HT.out, hxy]
          subst hxy
          clear hx hy
          go_wp2_with fail
          go_quiet (fail)
          go_wp2
          go_roundw
          case rel => exact ⟨k + 1, by go_num, by omega, HT2.out, _, rfl⟩
          case measure => simp [intOf]; omega
        · have hd : (x != y) = true := by rw [bne_iff_ne]; omega
          have HN : Hid (decide (l = l') = false) := by
            show _ = _
            apply decide_eq_false
            intro e
            rw [e, hy] at hx
            exact hxy (Option.some.inj hx).symm
          clear hx hy hxy
          go_wp2_with fail
          go_quiet (fail)
          go_wp2
          go_ret
          rw [HN.out]
          exact ⟨rfl, _, World.drewN_drewN ..⟩
      · have hki : ¬ ((k : Int) < (l.length : Int)) := by omega
        have HN : Hid (decide (l = l') = true) := decide_eq_true (take_eq_of HL.out (by omega) HT.out)
        go_wp2
        go_ret
        rw [HN.out]
        exact ⟨rfl, _, rfl⟩
  · have hl2 : ((l.length : Int) != (l'.length : Int)) = true := by rw [bne_iff_ne]; omega
    have HN : Hid (decide (l = l') = false) := decide_eq_false (fun e => hlen (by rw [e]))
    clear hlen
    go_enter Tryd.func50, Tryd.ntmps50
    go_wp2
    go_ret
    rw [HN.out]
    exact ⟨rfl, 0, rfl⟩

theorem eqlIn_nil (d : Nat) (a : Option Addr) (l c : Nat) (w : World) : (Op.equalIn (d + 1) 22 (.slice a l c) (.slice none 0 0)).run Tryd.prog w = .ok a.isNone w := by
  cases a <;> simp [Op.equalIn, run_underlying Tryd.underlying22]
theorem equal_nil (a : Option Addr) (l c : Nat) (w : World) : (Op.equal 22 (.slice a l c) (.slice none 0 0)).run Tryd.prog w = .ok a.isNone w := eqlIn_nil 9999 a l c w
theorem eql_nil (a : Option Addr) (l c : Nat) (w : World) : (binOp .eql 22 (.slice a l c) (.slice none 0 0)).run Tryd.prog w = .ok (.bool a.isNone) w := by
  simp [binOp, equal_nil]

set_option maxHeartbeats 1000000 in
set_option maxRecDepth 10000 in
theorem clone_any {w : World} {b : Nat} {v : Value} {l : List Int} (h : SlAt w b v (U l)) (hl : l.length ≤ 20000) : Calls Tryd.prog 66 #[v] w fun e w' => ∃ b' p cap, e = .returned (.slice p l.length cap) ∧ w.heap.size ≤ b' ∧ SlAt w' b' (.slice p l.length cap) (U l) ∧ T5 w' b' (U l) ∧ Below w.heap.size w w' := by
  have hnil := eql_nil
  have hsl := h
  obtain ⟨p, cap, hv, h1, h2⟩ := h.form
  rw [U_length] at hv h1
  unfold maxLen at h2
  subst hv
  cases p with
  | none =>
    have hl0 : l = [] ∧ cap = 0 := by
      rcases h with ⟨e, e2⟩ | ⟨a, c, e, _⟩
      · simp at e
        exact ⟨by simpa [U] using e2, e.2⟩
      · cases e
    obtain ⟨rfl, rfl⟩ := hl0
    go_enter Tryd.func66, Tryd.ntmps66
    go_wp2
    go_ret
    exact ⟨w.heap.size, none, 0, rfl, Nat.le_refl _, SlAt.nil _ _, .inl rfl, Below.refl _ _⟩
  | some a =>
    have hown0 : (w.alloc (.cells #[] 5)).ownsRow w.heap.size 5 1 (.slice (some ⟨w.heap.size, 0, none⟩) 0 0) 0 [] := World.ownsRow_made w #[] 0 (Nat.le_refl _) (Nat.zero_le _) rfl
    have hs0 : SlAt (w.alloc (.cells #[] 5)) b (.slice (some a) l.length cap) (U l) := hsl.stays (by go_grown)
    have HO := hid2 hown0
    have HS := hid2 hs0
    clear h hsl hown0 hs0
    go_enter Tryd.func66, Tryd.ntmps66
    go_wp2_with (at_builtin; refine wpList_append_sl _ rfl _ _ rfl w.heap.size _ 0 [] rfl HO.out b _ l rfl HS.out (by omega) (by simp) ?_; intro v1 w1 hown1 hgrow1)
    go_ret
    rw [Nat.zero_add, List.nil_append] at hown1
    obtain ⟨b1, hb1, hs1, ht1⟩ := own_sl5 hown1
    obtain ⟨p1, c1, e1, _, _⟩ := hs1.form
    rw [U_length] at e1
    subst e1
    exact ⟨b1, p1, c1, rfl, hb1, hs1, ht1, ((Below.refl _ _).alloc (Nat.le_refl _) _).grown hgrow1 (by simp) (fun k hk => by cases hk; exact Nat.le_refl _)⟩
end Go.Proofs.YtgmghekgelmmcaaDoor.Ite
