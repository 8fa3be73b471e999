/-
  Whether bytes, and leaves, are the same; bytes in new memory.
-/
import Derived.Test.YtkbfihnoohhojaaDoorQLLf
namespace Go.Proofs.YtkbfihnoohhojaaDoor.Lea
open Go.RowKit

theorem take_eq_of {a b : List Nat} (hl : a.length = b.length) {k : Nat} (hk : a.length ≤ k) (h : a.take k = b.take k) : a = b := by
  rwa [List.take_of_length_le hk, List.take_of_length_le (by omega)] at h

set_option maxHeartbeats 1000000 in
theorem same_any {w : World} {b c : Nat} {u v : Value} {l l' : List Nat} (h : SlAt w b u (U l)) (g : SlAt w c v (U l')) : Calls Tryd.prog 28 #[u, v] w fun e w' => e = .returned (.bool (decide (l = l'))) ∧ ∃ m, w' = w.drewN m := by
  obtain ⟨p, cap, hu, h2, h3, h5⟩ := h.each
  obtain ⟨q, cap2, hv, k2, k3, k5⟩ := g.each
  rw [U_length] at hu h2 hv k2
  subst hu hv
  unfold maxLen at h3 k3
  have HE : Hid (∀ (k x : Nat), l[k]? = some x → ∃ off, p = some ⟨b, off, none⟩ ∧ b < w.heap.size ∧ w.cell? ⟨b, off + k, none⟩ = some (.int .u8 (x : Int))) := fun k x hx => h5 k _ (U_at hx)
  have HF : Hid (∀ (k x : Nat), l'[k]? = some x → ∃ off, q = some ⟨c, off, none⟩ ∧ c < w.heap.size ∧ w.cell? ⟨c, off + k, none⟩ = some (.int .u8 (x : Int))) := fun k x hx => k5 k _ (U_at hx)
  clear h h5 g k5
  by_cases hlen : l.length = l'.length
  · have HL := hid2 hlen
    have hl2 : ((l.length : Int) != (l'.length : Int)) = false := by rw [hlen]; simp
    clear hlen
    go_enter Tryd.func28, Tryd.ntmps28
    go_wp2_with fail
    go_loopw [5] (fun i wr => ∃ k : Nat, i = .int .i64 (k : Int) ∧ k ≤ l.length ∧ l.take k = l'.take k ∧ ∃ n, wr = w.drewN n) (fun i _ => l.length - (intOf i).toNat)
    case atStart => exact ⟨0, rfl, Nat.zero_le _, rfl, 0, rfl⟩
    case round =>
      clear hl2
      obtain ⟨k, rfl, hk, htk, n, rfl⟩ := hrel
      have HT := hid2 htk
      clear htk
      by_cases hlt : k < l.length
      · obtain ⟨x, hx⟩ : ∃ x, l[k]? = some x := ⟨_, List.getElem?_eq_getElem hlt⟩
        obtain ⟨y, hy⟩ : ∃ y, l'[k]? = some y := ⟨_, List.getElem?_eq_getElem (by rw [← HL.out]; exact hlt)⟩
        obtain ⟨off, rfl, hbb, hc⟩ := HE.out k _ hx
        obtain ⟨off2, rfl, hbb2, hc2⟩ := HF.out k _ hy
        have hki : (k : Int) < (l.length : Int) := by omega
        have hkc : (k : Int) < (l'.length : Int) := by have := HL.out; omega
        by_cases hxy : x = y
        · have HT2 : Hid (l.take (k + 1) = l'.take (k + 1)) := by
            show _ = _
            rw [take_snoc hx, take_snoc hy, HT.out, hxy]
          subst hxy
          clear hx hy
          go_wp2_with fail
          go_quiet (fail)
          go_wp2
          go_roundw
          case rel => exact ⟨k + 1, by go_num, by omega, HT2.out, _, rfl⟩
          case measure => simp [intOf]; omega
        · have hd : ((x : Int) != (y : Int)) = true := by rw [bne_iff_ne]; omega
          have HN : Hid (decide (l = l') = false) := by
            show _ = _
            apply decide_eq_false
            intro e
            rw [e, hy] at hx
            exact hxy (Option.some.inj hx).symm
          clear hx hy hxy
          go_wp2_with fail
          go_quiet (fail)
          go_wp2
          go_ret
          rw [HN.out]
          exact ⟨rfl, _, World.drewN_drewN ..⟩
      · have hki : ¬ ((k : Int) < (l.length : Int)) := by omega
        have HN : Hid (decide (l = l') = true) := decide_eq_true (take_eq_of HL.out (by omega) HT.out)
        go_wp2
        go_ret
        rw [HN.out]
        exact ⟨rfl, _, rfl⟩
  · have hl2 : ((l.length : Int) != (l'.length : Int)) = true := by rw [bne_iff_ne]; omega
    have HN : Hid (decide (l = l') = false) := decide_eq_false (fun e => hlen (by rw [e]))
    clear hlen
    go_enter Tryd.func28, Tryd.ntmps28
    go_wp2
    go_ret
    rw [HN.out]
    exact ⟨rfl, 0, rfl⟩

/-- Bytes as a string. -/
def strB (b : List Nat) : ByteArray := (ints b).foldl (fun r n => r.push (UInt8.ofNat n.toNat)) ByteArray.empty
theorem strB_data (b : List Nat) (r : ByteArray) : ((ints b).foldl (fun r n => r.push (UInt8.ofNat n.toNat)) r).data.toList = r.data.toList ++ b.map UInt8.ofNat := by
  induction b generalizing r with
  | nil => simp [ints]
  | cons x s ih =>
    show (List.foldl _ (r.push (UInt8.ofNat ((x : Int).toNat))) (ints s)).data.toList = _
    rw [ih]
    simp [ByteArray.push]
theorem strB_inj {a b : List Nat} (ha : Byt a) (hb : Byt b) (h : strB a = strB b) : a = b := by
  have e : (strB a).data.toList = (strB b).data.toList := by rw [h]
  unfold strB at e
  rw [strB_data, strB_data] at e
  simp at e
  have key : ∀ (l : List Nat), Byt l → (l.map UInt8.ofNat).map UInt8.toNat = l := by
    intro l hl
    rw [List.map_map]
    conv => rhs; rw [← List.map_id l]
    apply List.map_congr_left
    intro x hx
    have := hl x hx
    simp [UInt8.ofNat, UInt8.toNat]
    omega
  rw [← key a ha, ← key b hb, e]
theorem conv_any {w : World} {bb : Nat} {v : Value} {b : List Nat} (h : SlAt w bb v (U b)) : (convert 23 9 v).run Tryd.prog w = .ok (.string (strB b)) w := by
  obtain ⟨p, cap, hv, _, _, hel⟩ := h.each
  rw [U_length] at hv
  subst hv
  have hu : (ints b).map (Value.int .u8) = U b := U_ints b
  cases p with
  | none =>
    have hb : b = [] := by
      cases b with
      | nil => rfl
      | cons x r => obtain ⟨_, e, _⟩ := hel 0 (.int .u8 (x : Int)) rfl; cases e
    subst hb
    simp [convert, Conv.bytesToString, strB, ints]
  | some a =>
    rw [run_convert_bytes_string w 23 9 5 _ _ _ Tryd.underlying23 Tryd.underlying5 Tryd.underlying9]
    refine run_bytesToString w _ _ _ (ints b) ?_
    rw [hu]
    have := run_loadCells_list (P := Tryd.prog) w a (U b) (fun j u hj => by
      obtain ⟨off, e, _, hc⟩ := hel j u hj
      simp only [Option.some.injEq] at e
      subst e
      rw [add_off]; exact hc)
    rw [U_length] at this
    exact this

end Go.Proofs.YtkbfihnoohhojaaDoor.Lea
