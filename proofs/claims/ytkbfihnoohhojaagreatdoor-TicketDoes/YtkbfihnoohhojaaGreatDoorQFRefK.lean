/-
  Pages held against each other; a page of two numbers by turns.
-/
import Derived.Test.YtkbfihnoohhojaaGreatDoorQFCut
import Derived.Laws.BytesString
namespace Go.Proofs.YtkbfihnoohhojaaGreatDoor.Fla
open Go.RowKit

theorem hid2' {p : Prop} (h : p) : Hid p := h
theorem hid_all {p : Prop} (h : p) : Hid p := h
/-- Bytes as a string. -/
def strB (b : List Nat) : ByteArray := (b.map fun (x : Nat) => (x : Int)).foldl (fun r n => r.push (UInt8.ofNat n.toNat)) ByteArray.empty
theorem U_ints (b : List Nat) : (b.map fun (x : Nat) => (x : Int)).map (Value.int .u8) = U b := by simp [U]
theorem conv_any {w : World} {v : Value} {b : List Nat} (h : BAt w v b) (hl : b.length = 256) : (convert 42 9 v).run Tryz.prog w = .ok (.string (strB b)) w := by
  obtain ⟨bb, off, cap, rfl, hr⟩ := h.page hl
  rw [run_convert_bytes_string w 42 9 5 _ _ _ Tryz.underlying42 Tryz.underlying5 Tryz.underlying9]
  refine run_bytesToString w _ _ _ (b.map fun (x : Nat) => (x : Int)) ?_
  rw [U_ints]
  have := run_loadCells_list (P := Tryz.prog) w ⟨bb, off, none⟩ (U b) (fun j u hj => by rw [Addr.add_mid]; exact hr j u hj)
  rw [U_length, hl] at this
  exact this

set_option maxHeartbeats 1000000 in
set_option maxRecDepth 10000 in
theorem same04_any {w : World} {u v : Value} {l k : List Cl} (h : CellsAt w u l) (g : CellsAt w v k) (he : plainC l = plainC k) (hl : ∀ x ∈ l, x.2.2.length = 256) : Calls Tryz.prog 26 #[u, v] w fun e w' => e = .returned (.bool true) ∧ Below w.heap.size w w' := by
  obtain ⟨p, cap, rfl, h2, h3, h5⟩ := h.each
  obtain ⟨q, cap2, rfl, k2, k3, k5⟩ := g.each
  have hlen : k.length = l.length := by have := congrArg List.length he; simpa [plainC] using this.symm
  unfold maxLen at h3 k3
  have HE := hid_all h5
  have HF := hid_all k5
  have HP : Hid (plainC l = plainC k) := he
  have HL : Hid (∀ x ∈ l, x.2.2.length = 256) := hl
  rw [hlen] at k2 ⊢
  have HLEN : Hid (k.length = l.length) := hlen
  clear h g h5 k5 he hl hlen
  go_enter Tryz.func26, Tryz.ntmps26
  go_wp2_with fail
  go_loopw [5] (fun i wr => ∃ j : Nat, i = .int .i64 (j : Int) ∧ j ≤ l.length ∧ ∃ n, wr = w.drewN n) (fun i _ => l.length - (intOf i).toNat)
  case atStart => exact ⟨0, rfl, Nat.zero_le _, 0, rfl⟩
  case round =>
    obtain ⟨j, rfl, hj, n, rfl⟩ := hrel
    by_cases hlt : j < l.length
    · obtain ⟨x, hx⟩ : ∃ x, l[j]? = some x := ⟨_, List.getElem?_eq_getElem hlt⟩
      obtain ⟨y, hy⟩ : ∃ y, k[j]? = some y := ⟨_, List.getElem?_eq_getElem (by have := HLEN.out; omega)⟩
      have hxy : (x.1, x.2.2) = (y.1, y.2.2) := by
        have := congrArg (fun m : List (Int × List Nat) => m[j]?) HP.out
        simpa [plainC, hx, hy] using this
      obtain ⟨b1, o1, rfl, hb1, c10, c11, hba1⟩ := HE.out j x hx
      obtain ⟨b2, o2, rfl, hb2, c20, c21, hba2⟩ := HF.out j y hy
      have hlx := HL.out x (List.mem_of_getElem? hx)
      obtain ⟨x1, xv, xb⟩ := x
      obtain ⟨y1, yv, yb⟩ := y
      simp only [Prod.mk.injEq] at hxy
      obtain ⟨rfl, rfl⟩ := hxy
      dsimp only at *
      have hcv1 : ∀ n, (convert 42 9 xv).run Tryz.prog (w.drewN n) = .ok (.string (strB xb)) (w.drewN n) := fun n => conv_any (hba1.below (below_drewN (Below.refl _ _) _)) hlx
      have hcv2 : ∀ n, (convert 42 9 yv).run Tryz.prog (w.drewN n) = .ok (.string (strB xb)) (w.drewN n) := fun n => conv_any (hba2.below (below_drewN (Below.refl _ _) _)) hlx
      generalize strB xb = S at *
      obtain ⟨p1, q1, rfl, _⟩ := hba1.form
      obtain ⟨p2, q2, rfl, _⟩ := hba2.form
      have hki : (j : Int) < (l.length : Int) := by omega
      have hneq : (x1 != x1) = false := by simp
      clear hx hy hba1 hba2 hlx
      go_wp2_with fail
      go_quiet (fail)
      go_wp2
      go_roundw
      case rel => exact ⟨j + 1, by go_num, by omega, _, rfl⟩
      case measure => simp [intOf]; omega
    · have hki : ¬ ((j : Int) < (l.length : Int)) := by omega
      go_wp2
      go_ret
      exact ⟨rfl, below_drewN (Below.refl _ _) _⟩

/-- A page of two numbers by turns. -/
def turn (a b i : Nat) : Nat := if i % 3 = 1 then b else a
def bytN (a b k : Nat) : List Nat := (List.range 256).map fun i => if i < k then turn a b i else 0
def bytP (a b : Nat) : List Nat := bytN a b 256
theorem bytN_length (a b k : Nat) : (bytN a b k).length = 256 := by simp [bytN]
theorem bytN_zero (a b : Nat) : bytN a b 0 = zeros := by
  unfold zeros
  rw [List.eq_replicate_iff]
  refine ⟨bytN_length a b 0, fun x hx => ?_⟩
  simp only [bytN, List.mem_map] at hx
  obtain ⟨i, _, rfl⟩ := hx
  rfl
theorem bytN_at (a b k : Nat) {i : Nat} (hi : i < 256) : (bytN a b k)[i]? = some (if i < k then turn a b i else 0) := by
  unfold bytN
  rw [List.getElem?_map, List.getElem?_range hi]
  rfl
theorem bytN_set (a b : Nat) {k : Nat} (hk : k < 256) : (pgV (bytN a b k)).setIfInBounds k (.int .u8 (turn a b k : Nat)) = pgV (bytN a b (k + 1)) := by
  apply Array.ext_getElem?
  intro i
  simp only [Array.getElem?_setIfInBounds, pgV, List.size_toArray, U_length, bytN_length, List.getElem?_toArray]
  by_cases h : k = i
  · subst h
    have e2 := bytN_at a b (k + 1) hk
    simp [hk, U, e2]
  · by_cases hi : i < 256
    · have e1 := bytN_at a b k hi
      have e2 := bytN_at a b (k + 1) hi
      have : (i < k) = (i < k + 1) := by simp; omega
      simp [h, U, e1, e2, this]
    · have e1 : (bytN a b k)[i]? = none := List.getElem?_eq_none (by rw [bytN_length]; omega)
      have e2 : (bytN a b (k + 1))[i]? = none := List.getElem?_eq_none (by rw [bytN_length]; omega)
      simp [h, U, e1, e2]
theorem bytN_byt {a b : Nat} (ha : a < 256) (hb : b < 256) (k : Nat) : ∀ x ∈ bytN a b k, x < 256 := by
  intro x hx
  simp only [bytN, List.mem_map] at hx
  obtain ⟨i, _, rfl⟩ := hx
  unfold turn
  split
  · split <;> omega
  · omega

end Go.Proofs.YtkbfihnoohhojaaGreatDoor.Fla
