/-
  Places of a hash and hashes of keys, as the document has them.
-/
import Derived.Test.YtgmghekgelmmcaaDoorQBOf
import Derived.Deep.AppendLies
namespace Go.Proofs.YtgmghekgelmmcaaDoor.Blo
open Go.RowKit

set_option maxHeartbeats 1000000 in
theorem rplaces_any (w : World) (n : Nat) (hn : n < 18446744073709551616) :
    Calls Tryd.prog 48 #[.int .u64 (n : Int)] w fun e w' => e = .returned (.slice (some ⟨w.heap.size, 0, none⟩) 3 3) ∧ SlAt w' w.heap.size (.slice (some ⟨w.heap.size, 0, none⟩) 3 3) (I (places n)) ∧ w'.heap.size = w.heap.size + 1 ∧ Below w.heap.size w w' := by
  go_enter Tryd.func48, Tryd.ntmps48
  go_wp2
  go_ret
  refine ⟨rfl, .inr ⟨_, 3, rfl, by simp [I, places], by unfold maxLen; omega, .inr ⟨0, rfl, by simp, fun k u hk => ?_⟩⟩, by simp, ?_⟩
  · rw [World.cell?_alloc_at _ _ _ _ rfl, Nat.zero_add]
    rcases k with _ | _ | _ | k
    · simp [I, places] at hk ⊢; exact hk
    · simp [I, places] at hk ⊢; exact hk
    · simp [I, places] at hk ⊢; exact hk
    · simp [I, places] at hk
  · go_grown

set_option maxHeartbeats 2000000 in
set_option maxRecDepth 10000 in
theorem rkeys_any {w : World} {b : Nat} {v : Value} {l : List ByteArray} (h : SlAt w b v (S l)) (hk : ∀ k ∈ l, k.size ≤ 200) (hl : l.length ≤ 200) :
    Calls Tryd.prog 26 #[v] w fun e w' => ∃ sv, e = .returned sv ∧ w'.ownsRow w.heap.size 46 1 sv l.length (U (hs l)) ∧ Below w.heap.size w w' := by
  obtain ⟨p, cap, hu, hc1, hc2, hel⟩ := h.each
  rw [S_length] at hu hc1
  unfold maxLen at hc2
  subst hu
  have EL : Hid (∀ (k : Nat) (x : ByteArray), l[k]? = some x → ∃ off, p = some ⟨b, off, none⟩ ∧ b < w.heap.size ∧ w.cell? ⟨b, off + k, none⟩ = some (.string x)) := fun k x hx => hel k _ (S_at hx)
  have HK : Hid (∀ k ∈ l, k.size ≤ 200) := hk
  clear hel h hk
  go_enter Tryd.func26, Tryd.ntmps26
  go_wp2_with fail
  go_loopg [3, 4] l.length (fun g out i wr => ∃ k : Nat, k ≤ l.length ∧ g = l.length - k ∧ i = .int .i64 k ∧ wr.ownsRow w.heap.size 46 1 out k (U (hs (l.take k))) ∧ Below w.heap.size w wr)
  case atStart => exact ⟨0, Nat.zero_le _, rfl, rfl, by simpa [U, hs] using World.ownsRow_nil w w.heap.size 46 1, Below.refl _ _⟩
  case round =>
    obtain ⟨k, hk, hg, rfl, ho, hbr⟩ := hrel
    have HG : Hid (gk = l.length - k) := hg
    clear hg
    have hsz := hbr.size
    by_cases hlt : k < l.length
    · obtain ⟨x, hx⟩ : ∃ x, l[k]? = some x := ⟨l[k], List.getElem?_eq_getElem hlt⟩
      obtain ⟨off, rfl, hcl, hce⟩ := EL.out k x hx
      have hx2 : x.size ≤ 1000 := Nat.le_trans (HK.out x (List.mem_of_getElem? hx)) (by omega)
      have HX : Hid (l[k]? = some x) := hx
      have hce2 := (hbr.cell (p := ⟨b, off + k, none⟩) hcl).trans hce
      have hcl2 : b < wr.heap.size := Nat.lt_of_lt_of_le hcl hbr.size
      clear hx hce
      go_wp2_with fail
      refine (rhash_any _ x hx2).mono ?_
      rintro e w2 ⟨rfl, hw2⟩
      cases hw2
      go_wp2_with (at_builtin; refine wpList_append_gen Tryd.underlying56 elem22 rfl (by decide) _ rfl _ _ rfl w.heap.size _ _ _ rfl (ho.alloc _) _ _ (U [hash (bl x)]) (U_one _) rfl (sl_one_new _ _ _) (by simp [U]; omega) (by simp; omega) ?_; intro v1 w1 hown1 hgrow1)
      go_roundg (l.length - (k + 1))
      case measure => rw [HG.out]; omega
      case rel =>
        refine ⟨k + 1, by omega, rfl, by go_num, ?_, ?_⟩
        · rw [take_snoc HX.out, hs_snoc, U_append]
          exact hown1
        · exact (hbr.alloc hsz _).grown hgrow1 (by simp; omega) (fun k hk => (ho.lt k hk).1)
    · have hkl : k = l.length := by omega
      subst hkl
      rw [List.take_length] at ho
      go_wp2
      go_ret
      exact ⟨_, rfl, ho, hbr⟩
end Go.Proofs.YtgmghekgelmmcaaDoor.Blo
