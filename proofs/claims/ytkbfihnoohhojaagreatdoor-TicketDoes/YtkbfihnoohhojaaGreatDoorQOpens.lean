/-
  The ticket's first calls: the greatest stamp of a device, Open, Next.
-/
import Derived.Test.YtkbfihnoohhojaaGreatDoorQTk
import Derived.Test.YtkbfihnoohhojaaGreatDoorQLPuts
namespace Go.Proofs.YtkbfihnoohhojaaGreatDoor
open Go.RowKit Go.Extern.Stop Go.Stop Go.Extern

set_option maxHeartbeats 2000000 in
set_option maxRecDepth 10000 in
theorem greatest_any {w : World} {B g N : Nat} {d : Fla.Dev} (hF : Fla.Fl w B g N d) (hN : N ≤ 900) :
    Calls Tryz.prog 31 #[.pointer (some ⟨g, 0, none⟩)] w fun e w' => e = .returned (.int .i64 (nextL (Fla.allP d) - 1)) ∧ Below w.heap.size w w' := by
  have HOK : Hid (Fla.DevOk d) := hF.1
  have HK := hid2 (Fla.cells_any hF hN)
  clear hF
  go_enter Tryz.func31, Tryz.ntmps31
  go_wp2_with fail
  refine (show Calls _ _ _ _ _ from HK).mono ?_
  rintro e w1 ⟨v, l, rfl, hc, hl, hb1⟩
  obtain ⟨p, cap, rfl, hcap, hmax, hel⟩ := hc.each
  unfold maxLen at hmax
  have HL := hid2 hl
  have HE := show Hid (∀ i x, l[i]? = some x → ∃ b off, p = some ⟨b, off, none⟩ ∧ b < w1.heap.size ∧ w1.cell? ⟨b, off + i * 2, none⟩ = some (.int .i64 x.1) ∧ w1.cell? ⟨b, off + i * 2 + 1, none⟩ = some x.2.1 ∧ Fla.BAt w1 x.2.1 x.2.2) from hel
  have HB1 := hid2 hb1
  clear HK hc hl hel hb1
  go_wp2_with fail
  go_loopw [3, 11] (fun s i wr => ∃ k : Nat, i = .int .i64 (k : Int) ∧ k ≤ l.length ∧ s = .int .i64 (nextL ((Fla.plainC l).take k) - 1) ∧ Below w1.heap.size w1 wr) (fun _ i _ => l.length - (intOf i).toNat)
  case atStart => exact ⟨0, rfl, Nat.zero_le _, by simp [nextL_nil], Below.refl _ _⟩
  case round =>
    obtain ⟨k, rfl, hk, rfl, hbr⟩ := hrel
    have HBR := hid2 hbr
    have hsz := hbr.size
    by_cases hlt : k < l.length
    · obtain ⟨x, hx⟩ : ∃ x, l[k]? = some x := ⟨_, List.getElem?_eq_getElem hlt⟩
      obtain ⟨bb, off, rfl, hbb, hc0, hc1, hba⟩ := HE.out k _ hx
      have hki : (k : Int) < (l.length : Int) := by omega
      have hx1 := HL.out ▸ plain_at hx
      have hpg := all_page HOK.out _ (List.mem_of_getElem? hx1)
      have HNX := hid2 (nextL_take (plain_at hx))
      have HS := hid2 (stamps_le x.2.2)
      have h1 := nextL_one ((Fla.plainC l).take k)
      have h2 := nextL_le ((Fla.plainC l).take k)
      have HBA := hid2 (bat_sl (hba.below hbr) (by rw [hpg.1]; omega))
      have HBY := hid2 hpg.2
      have f0 : wr.cell? ⟨bb, off + k * 2, none⟩ = some (.int .i64 x.1) := (hbr.cell (p := ⟨bb, off + k * 2, none⟩) hbb).trans hc0
      have f1 : wr.cell? ⟨bb, off + k * 2 + 1, none⟩ = some x.2.1 := (hbr.cell (p := ⟨bb, off + k * 2 + 1, none⟩) hbb).trans hc1
      have hbw : bb < wr.heap.size := by omega
      clear hx hx1 hpg hba hc0 hc1 hbr
      obtain ⟨xa, xv, xb⟩ := x
      dsimp only at HNX HS HBA HBY f0 f1
      obtain ⟨bs, hbs⟩ := HBA.out
      obtain ⟨sp, scap, rfl, _⟩ := hbs.form
      have HBS := hid2 hbs
      clear HBA hbs
      generalize nextL ((Fla.plainC l).take k) = n at *
      go_wp2_with fail
      refine (Lea.stamps_any (b := bs) (HBS.out.stays (by go_grown)) HBY.out).mono ?_
      rintro e w2 ⟨rfl, hb2⟩
      have hs := HS.out
      generalize hsa : (Lea.stampsP xb).1 = sa at *
      generalize hsb : (Lea.stampsP xb).2 = sb at *
      have HB2 : Hid (Below w1.heap.size w1 w2) := HBR.out.trans ((Below.trans (by go_grown) (hb2.mono (by simp))).mono HBR.out.size)
      clear hb2
      go_wp2
      go_roundw
      case rel => exact ⟨k + 1, by go_num, by omega, by rw [HNX.out]; refine congrArg (Value.int IntKind.i64) ?_; unfold nx; simp only; split <;> split <;> split <;> (try split) <;> omega, HB2.out⟩
      case measure => simp [intOf]; omega
    · have hki : ¬ ((k : Int) < (l.length : Int)) := by omega
      obtain rfl : k = l.length := by omega
      go_wp2
      go_ret
      refine ⟨?_, HB1.out.trans (HBR.out.mono HB1.out.size)⟩
      rw [← HL.out, List.take_of_length_le (by simp [Fla.plainC])]
      rfl
end Go.Proofs.YtkbfihnoohhojaaGreatDoor
