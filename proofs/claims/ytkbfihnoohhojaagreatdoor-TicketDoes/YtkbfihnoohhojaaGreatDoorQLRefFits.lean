/-
  Fits as the document's answer has it.
-/
import Derived.Test.YtkbfihnoohhojaaGreatDoorQLFits
namespace Go.Proofs.YtkbfihnoohhojaaGreatDoor.Lea
open Go.RowKit

theorem sealL_length (l : List Nat) : (sealL l).length = l.length + 4 := by simp [sealL, four]

theorem fitsB_of {l : List Nat} (h4 : 4 ≤ l.length) (h : l = sealL (l.take (l.length - 4))) : fitsB l = true := by
  unfold fitsB
  rw [Bool.and_eq_true]
  exact ⟨by simpa using h4, by simpa using h⟩

theorem fitsB_not {l : List Nat} (h : l ≠ sealL (l.take (l.length - 4))) : fitsB l = false := by
  unfold fitsB
  rw [Bool.and_eq_false_iff]
  right; simpa using h

set_option maxHeartbeats 1000000 in
set_option maxRecDepth 10000 in
theorem rfits_any {w : World} {b : Nat} {v : Value} {l : List Nat} (h : SlAt w b v (U l)) (hby : Byt l) (hl : l.length ≤ 3000) :
    Calls Tryz.prog 65 #[v] w fun e w' => e = .returned (.bool (fitsB l)) ∧ Below w.heap.size w w' := by
  obtain ⟨p, cap, hu, hc1, hc2, hel⟩ := h.each
  rw [U_length] at hu hc1
  unfold maxLen at hc2
  subst hu
  have EL : Hid (∀ (k x : Nat), l[k]? = some x → ∃ off, p = some ⟨b, off, none⟩ ∧ b < w.heap.size ∧ w.cell? ⟨b, off + k, none⟩ = some (.int .u8 (x : Int))) := fun k x hx => hel k _ (U_at hx)
  clear hel
  by_cases h4 : 4 ≤ l.length
  · have hp := h.first (l.length - 4) (by omega)
    have hpb := hby.take (l.length - 4)
    have hpl : (l.take (l.length - 4)).length = l.length - 4 := by rw [List.length_take]; omega
    have FT : Hid (l = sealL (l.take (l.length - 4)) → fitsB l = true) := fitsB_of h4
    have FF : Hid (l ≠ sealL (l.take (l.length - 4)) → fitsB l = false) := fitsB_not
    have hSl := sealL_length (l.take (l.length - 4))
    generalize l.take (l.length - 4) = t at *
    have HS : Hid ((sealL t).length = l.length) := by show _ = _; omega
    have hc4 : ¬ cap < l.length - 4 := by omega
    have e4 : ((l.length : Int) - 4).toNat = l.length - 4 := by omega
    have hpl' : t.length ≤ 3000 := by omega
    clear hSl hpl h
    go_enter Tryz.func65, Tryz.ntmps65
    go_wp2_with (go_at_call 58; refine (rseal_any (b := b) (l := t) ?_ hpb hpl').mono ?_; exact hp; rintro e w1 ⟨sv, rfl, hown, hb1⟩; obtain ⟨b1, _, hs1⟩ := own_sl hown; obtain ⟨p', cap', hu', hc1', hc2', hel'⟩ := hs1.each; rw [U_length, HS.out] at hu' hc1'; unfold maxLen at hc2'; subst hu')
    have EL' : Hid (∀ (k x : Nat), (sealL t)[k]? = some x → ∃ off, p' = some ⟨b1, off, none⟩ ∧ b1 < w1.heap.size ∧ w1.cell? ⟨b1, off + k, none⟩ = some (.int .u8 (x : Int))) := fun k x hx => hel' k _ (U_at hx)
    clear hel' hs1 hown hp
    go_loopg [5] l.length (fun g i wr => ∃ k : Nat, k ≤ l.length ∧ g = l.length - k ∧ i = .int .i64 k ∧ l.take k = (sealL t).take k ∧ Below w1.heap.size w1 wr)
    case atStart => exact ⟨0, Nat.zero_le _, rfl, rfl, rfl, Below.refl _ _⟩
    case round =>
      obtain ⟨k, hk, hg, rfl, htk, hbr⟩ := hrel
      have HG : Hid (gk = l.length - k) := hg
      have HT : Hid (l.take k = (sealL t).take k) := htk
      clear hg htk
      have hBr := hb1.trans (hbr.mono hb1.size)
      by_cases hlt : k < l.length
      · obtain ⟨x, hx⟩ : ∃ x, l[k]? = some x := ⟨l[k], List.getElem?_eq_getElem hlt⟩
        obtain ⟨y, hy⟩ : ∃ y, (sealL t)[k]? = some y := ⟨(sealL t)[k]'(by rw [HS.out]; exact hlt), List.getElem?_eq_getElem _⟩
        obtain ⟨off, rfl, hcl, hce⟩ := EL.out k x hx
        obtain ⟨off', rfl, hcl', hce'⟩ := EL'.out k y hy
        have q1 := (hBr.cell (p := ⟨b, off + k, none⟩) hcl).trans hce
        have q2 := (hbr.cell (p := ⟨b1, off' + k, none⟩) hcl').trans hce'
        have HX : Hid (l[k]? = some x) := hx
        have HY : Hid ((sealL t)[k]? = some y) := hy
        clear hx hy hce hce'
        have hlti : (k : Int) < (l.length : Int) := by omega
        by_cases hxy : y = x
        · subst hxy
          go_wp2_with fail
          go_quiet (fail)
          go_wp2
          go_roundg (l.length - (k + 1))
          case measure => rw [HG.out]; omega
          case rel => exact ⟨k + 1, by omega, rfl, by go_num, by rw [take_snoc HX.out, take_snoc HY.out, HT.out], hbr.trans (below_drewN _ _ _)⟩
        · have hd : ((y : Int) != (x : Int)) = true := by rw [bne_iff_ne]; omega
          have HF : Hid (fitsB l = false) := FF.out (fun e => hxy (by have a := HX.out; have b := HY.out; rw [← e, a] at b; exact (Option.some.inj b).symm))
          go_wp2_with fail
          go_quiet (fail)
          go_wp2
          go_ret
          rw [HF.out]
          exact ⟨rfl, hBr.trans (below_drewN _ _ _)⟩
      · go_wp2
        go_ret
        have e := HT.out
        rw [List.take_of_length_le (by omega : l.length ≤ k), List.take_of_length_le (by rw [HS.out]; omega)] at e
        rw [FT.out e]
        exact ⟨rfl, hBr⟩
  · have e : fitsB l = false := by
      unfold fitsB
      rw [Bool.and_eq_false_iff]
      left; simpa using h4
    rw [e]
    clear e
    go_enter Tryz.func65, Tryz.ntmps65
    go_wp2
    go_ret
    exact ⟨rfl, Below.refl _ _⟩
end Go.Proofs.YtkbfihnoohhojaaGreatDoor.Lea
