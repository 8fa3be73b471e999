/-
  May as the document has it.
-/
import Derived.Test.YtdoeneokblphnaaSet
namespace Go.Proofs.Ytdoeneokblphnaa
open Go.RowKit

/-- Are all places of a hash among those of hashes? -/
def mayB (l : List Nat) (n : Nat) : Bool := (places n).all fun p => decide (p ∈ setL l)
theorem mayB_ofF (l : List Nat) (n : Nat) : mayF (ofF l) n = mayB l n := may_ofF l n

set_option maxHeartbeats 4000000 in
set_option maxRecDepth 10000 in
theorem rmay_any {w : World} {b : Nat} {v : Value} {l : List Nat} (n : Nat) (hn : n < 18446744073709551616) (h : SlAt w b v (U l)) (hl : l.length ≤ 200) (hx64 : ∀ x ∈ l, x < 18446744073709551616) :
    Calls Try.prog 20 #[v, .int .u64 (n : Int)] w fun e w' => e = .returned (.bool (mayB l n)) ∧ Below w.heap.size w w' := by
  go_enter Try.func20, Try.ntmps20
  go_wp2_with fail
  refine (set_any h hl hx64).mono ?_
  rintro e w1 ⟨sv, rfl, hown, B1⟩
  have HL : Hid (mayB l n = (places n).all fun p => decide (p ∈ setL l)) := rfl
  generalize setL l = o2 at *
  obtain ⟨bo, hbo, hso⟩ := own_sl hown
  clear h hl hx64 hown hbo
  go_wp2_with fail
  refine (rplaces_any _ n hn).mono ?_
  rintro e w2 ⟨rfl, hsp, hsz1, B2⟩
  have hs2 := hso.stays B2
  obtain ⟨po, co, huo, hco1, hco2, helo⟩ := hs2.each
  rw [I_length] at huo hco1
  unfold maxLen at hco2
  subst huo
  have EO : Hid (∀ (t z : Nat), o2[t]? = some z → ∃ off, po = some ⟨bo, off, none⟩ ∧ bo < w2.heap.size ∧ w2.cell? ⟨bo, off + t, none⟩ = some (.int .i64 (z : Int))) := fun t z hz => helo t _ (I_at hz)
  have HB2 := hid2 (B1.trans (B2.mono B1.size))
  obtain ⟨pb, hpb⟩ : ∃ pb, pb = w1.heap.size := ⟨_, rfl⟩
  rw [← hpb] at hsp ⊢
  have hpb2 : pb < w2.heap.size := by omega
  have HSP := hid2 hsp
  clear hso hs2 helo B1 B2 hsz1 hpb hsp
  go_wp2_with fail
  go_loopg [7] 3 (fun g i wr => ∃ j nn : Nat, j ≤ 3 ∧ g = 3 - j ∧ i = .int .i64 j ∧ ((places n).take j).all (fun p => decide (p ∈ o2)) = true ∧ wr = w2.drewN nn)
  case atStart => exact ⟨0, 0, Nat.zero_le _, rfl, rfl, by simp, rfl⟩
  case round =>
    obtain ⟨j, nn, hj, hg2, rfl, hall, rfl⟩ := hrel
    have HG2 := hid2 hg2
    have HA := hid2 hall
    clear hg2 hall
    by_cases hj3 : j < 3
    · obtain ⟨y, hy⟩ : ∃ y, (places n)[j]? = some y := ⟨(places n)[j]'(by rw [places_len]; exact hj3), List.getElem?_eq_getElem _⟩
      have HY := hid2 hy
      have hcy0 : w2.cell? ⟨pb, j, none⟩ = some (.int .i64 (y : Int)) := sl_cell HSP.out (I_at hy)
      clear hy
      go_wp2_with fail
      go_loopg [8, 9] o2.length (fun g m i wr3 => ∃ t nn : Nat, t ≤ o2.length ∧ g = o2.length - t ∧ i = .int .i64 t ∧ m = .bool (decide (y ∈ o2.take t)) ∧ wr3 = w2.drewN nn)
      case atStart => exact ⟨0, nn, Nat.zero_le _, rfl, rfl, by simp, rfl⟩
      case round =>
        obtain ⟨t, nn2, ht, hg3, rfl, rfl, rfl⟩ := hrel
        have HG3 := hid2 hg3
        clear hg3
        by_cases htl : t < o2.length
        · obtain ⟨z, hz⟩ : ∃ z, o2[t]? = some z := ⟨o2[t], List.getElem?_eq_getElem htl⟩
          have HZ := hid2 hz
          obtain ⟨offo, rfl, hbl, hcz⟩ := EO.out t z hz
          clear hz
          cases hm : decide (y ∈ o2.take t)
          · by_cases hzy : z = y
            · subst hzy
              have HM := hid2 (mem_snoc_eq HZ.out)
              clear hm
              go_wp2_with fail
              go_quiet (fail)
              go_wp2
              go_roundg (o2.length - (t + 1))
              case measure => rw [HG3.out]; omega
              case rel => exact ⟨t + 1, _, by omega, rfl, by go_num, by rw [HM.out], rfl⟩
            · have HM := hid2 (mem_snoc_no HZ.out hm hzy)
              have hd : ((z : Int) == (y : Int)) = false := by simp; omega
              clear hm hzy
              go_wp2_with fail
              go_quiet (fail)
              go_wp2
              go_roundg (o2.length - (t + 1))
              case measure => rw [HG3.out]; omega
              case rel => exact ⟨t + 1, _, by omega, rfl, by go_num, by rw [HM.out], rfl⟩
          · have HM := hid2 (mem_snoc_yes HZ.out hm)
            clear hm
            go_wp2_with fail
            go_quiet (fail)
            go_wp2
            go_roundg (o2.length - (t + 1))
            case measure => rw [HG3.out]; omega
            case rel => exact ⟨t + 1, _, by omega, rfl, by go_num, by rw [HM.out], rfl⟩
        · have htk : o2.take t = o2 := List.take_of_length_le (by omega)
          rw [htk]
          clear htk
          by_cases hmem : y ∈ o2
          · have HI : Hid (((places n).take (j + 1)).all (fun p => decide (p ∈ o2)) = true) := by show _ = _; rw [take_snoc HY.out, List.all_append, HA.out]; simp [hmem]
            rw [decide_eq_true hmem]
            clear hmem
            go_wp2
            go_roundg (3 - (j + 1))
            case measure => rw [HG2.out]; omega
            case rel => exact ⟨j + 1, _, by omega, rfl, by go_num, HI.out, rfl⟩
          · have HI : Hid (mayB l n = false) := by
              show _ = _
              rw [HL.out, List.all_eq_false]
              exact ⟨y, List.mem_of_getElem? HY.out, by simpa using hmem⟩
            rw [decide_eq_false hmem]
            clear hmem
            go_wp2
            go_ret
            rw [HI.out]
            exact ⟨rfl, HB2.out.trans (drew_below _ _ _)⟩
    · have HI : Hid (mayB l n = true) := by
        have e := HA.out
        rw [List.take_of_length_le (by rw [places_len]; omega : (places n).length ≤ j)] at e
        show _ = _
        rw [HL.out, e]
      go_wp2
      go_ret
      rw [HI.out]
      exact ⟨rfl, HB2.out.trans (drew_below _ _ _)⟩
end Go.Proofs.Ytdoeneokblphnaa
