/-
  Bytes of a reader of the program.
-/
import Derived.Test.YtgmghekgelmmcaaDoorQIReader
import Derived.Deep.RegionWith
import Derived.Deep.DeepCutAuto
namespace Go.Proofs.YtgmghekgelmmcaaDoor.Ite
open Go.RowKit

/-- What Bytes answers, and leaves. -/
def rdTxt (bs : List Int) (a : Nat) (code most : Int) : List Int × Nat × Int :=
  if (rdNum bs a code most).2.2 = 0 then
    (if (bs.length : Int) - (rdNum bs a code most).2.1 < (rdNum bs a code most).1 then ([], a, 6)
     else ((bs.take ((rdNum bs a code most).2.1 + (rdNum bs a code most).1.toNat)).drop (rdNum bs a code most).2.1, (rdNum bs a code most).2.1 + (rdNum bs a code most).1.toNat, 0))
  else ([], a, (rdNum bs a code most).2.2)

theorem rdNum_at (bs : List Int) (a : Nat) (code most : Int) (h : (rdNum bs a code most).2.2 ≠ 0) : (rdNum bs a code most).2.1 = a := by
  unfold rdNum at h ⊢
  split
  · split
    · rename_i h1 h2; rw [if_pos h1, if_pos h2] at h; simp at h
    · rfl
  · rfl

theorem rdNum_ok (bs : List Int) (a : Nat) (code most : Int) (h1 : most ≤ 9223372036854775807) (hby : Byt bs) (ha : a ≤ bs.length) (h : (rdNum bs a code most).2.2 = 0) :
    0 ≤ (rdNum bs a code most).1 ∧ (rdNum bs a code most).1 ≤ most ∧ a ≤ (rdNum bs a code most).2.1 ∧ (rdNum bs a code most).2.1 ≤ bs.length := by
  unfold rdNum at h ⊢
  by_cases hz : code = 0
  · rw [if_pos hz] at h ⊢
    obtain ⟨n, s, c, hR⟩ : ∃ n s c, numG most 0 0 (bs.drop a) = (n, s, c) := ⟨_, _, _, rfl⟩
    rw [hR] at h ⊢
    by_cases hc : c = 0
    · subst hc
      have := numG_one most h1 (bs.drop a) (hby.drop a) n s hR
      rw [List.length_drop] at this
      simp; omega
    · simp [hc] at h
  · rw [if_neg hz] at h
    exact absurd h hz

set_option maxHeartbeats 2000000 in
set_option maxRecDepth 10000 in
theorem rdbytes_any {w : World} {g : Nat} {bs : List Int} {a : Nat} {code : Int} (most : Int) (h0 : 0 ≤ most) (h1 : most ≤ 9223372036854775807) (h : Rd w g bs a code) (hby : Byt bs) (hl : bs.length ≤ 30000) :
    Calls Tryd.prog 72 #[.pointer (some ⟨g, 0, none⟩), .int .i64 most] w fun e w' => ∃ sv tb, e = .returned sv ∧ SlAt w' tb sv (U (rdTxt bs a code most).1) ∧ (tb ≠ g ∧ T5 w' tb (U (rdTxt bs a code most).1)) ∧ Rd w' g bs (rdTxt bs a code most).2.1 (rdTxt bs a code most).2.2 ∧ w.grownBy w' (some g) := by
  have h' := h
  have HN := rdnumber_any most h0 h1 h hby hl
  have hat := rdNum_at bs a code most
  have hok := rdNum_ok bs a code most h1 hby
  obtain ⟨sv, b, g1, h2, h3, h4, _⟩ := h
  obtain ⟨c0, c1, c2, f1, f2⟩ := cells60 g1
  have hg0 : g < w.heap.size := (Array.getElem?_eq_some_iff.1 g1).1
  have hok := hok h4
  obtain ⟨n, a1, c, hR⟩ : ∃ n a1 c, rdNum bs a code most = (n, a1, c) := ⟨_, _, _, rfl⟩
  have hT : rdTxt bs a code most = if c = 0 then (if (bs.length : Int) - a1 < n then ([], a, 6) else ((bs.take (a1 + n.toNat)).drop a1, a1 + n.toNat, 0)) else ([], a, c) := by unfold rdTxt; rw [hR]
  rw [hR] at HN hat hok
  simp only at HN hat hok
  have hN : Hid (Calls Tryd.prog 73 #[.pointer (some ⟨g, 0, none⟩), .int .i64 most] w fun e w' => e = .returned (.int .i64 n) ∧ Rd w' g bs a1 c ∧ w.grownBy w' (some g)) := HN
  clear HN hR g1 h2
  by_cases hc : c = 0
  · subst hc
    rw [if_pos rfl] at hT
    obtain ⟨hn0, hn1, ha1, ha2⟩ := hok rfl
    clear hok hat
    by_cases hbig : (bs.length : Int) - a1 < n
    · rw [if_pos hbig] at hT
      rw [hT]
      clear hT
      go_enter Tryd.func72, Tryd.ntmps72
      go_wp2_with (first
        | (go_at_call 73; refine (show Calls _ _ _ _ _ from hN).mono ?_; rintro e w1 ⟨rfl, hrd1, hg1⟩; obtain ⟨sv1, b1, k1, k2, k3, k4, _⟩ := id hrd1; obtain ⟨d0, d1, d2, e1, e2⟩ := cells60 k1; clear k1 k2)
        | (go_at_call 52; refine (left_any hrd1).mono ?_; rintro e w2 ⟨rfl, n2, rfl⟩))
      go_ret
      refine ⟨_, g + 1, rfl, SlAt.nil _ _, ⟨by omega, .inl rfl⟩, ?_, ?_⟩
      · exact ((hrd1.drewN n2).setAt a (by omega)).setCode 6
      · exact grownBy_trans hg1 (grownBy_trans (drewN_grownBy _ _ _) (grownBy_trans (setCell_grownBy _ _ _ _) (setCell_grownBy _ _ _ _)))
    · rw [if_neg hbig] at hT
      rw [hT]
      clear hT
      obtain ⟨m, rfl⟩ := Int.eq_ofNat_of_zero_le hn0
      have ha3 : a1 + m ≤ bs.length := by omega
      go_enter Tryd.func72, Tryd.ntmps72
      go_upto_region 9 with (first
        | (go_at_call 73; refine (show Calls _ _ _ _ _ from hN).mono ?_; rintro e w1 ⟨rfl, hrd1, hg1⟩; obtain ⟨sv1, b1, k1, k2, k3, k4, _⟩ := id hrd1; obtain ⟨p, cap, hsv, h5, h6⟩ := k2.form; unfold maxLen at h6; subst hsv; rw [U_length] at k2 h5 k1; obtain ⟨d0, d1, d2, e1, e2⟩ := cells60 k1; clear k1)
        | (go_at_call 52; refine (left_any hrd1).mono ?_; rintro e w2 ⟨rfl, n2, rfl⟩))
      go_cut [7] (fun t wx => ∃ tb, tb ≠ g ∧ SlAt wx tb t (U ((bs.take (a1 + m)).drop a1)) ∧ T5 wx tb (U ((bs.take (a1 + m)).drop a1)) ∧ Below w1.heap.size w1 wx)
      case first =>
        have hai : (a1 : Int) + m ≤ cap := by omega
        clear hN
        have hai0 : (a1 : Int) ≤ (a1 : Int) + m := by omega
        have hai1 : (0 : Int) ≤ (a1 : Int) := by omega
        have hai2 : (0 : Int) ≤ (a1 : Int) + m := by omega
        have hwr : IntKind.i64.wrap ((a1 : Int) + m) = (a1 : Int) + m := by rw [IntKind.wrap_i64]; omega
        have hS := k2.cutU a1 (a1 + m) (by omega) ha3
        have hlen : ((bs.take (a1 + m)).drop a1).length + 0 ≤ 30000 := by rw [List.length_drop, List.length_take]; omega
        have he : ∀ (sv : Value) (w3 : World), w3.ownsRow (w1.drewN (n2 + 1)).heap.size 5 1 sv ((bs.take (a1 + m)).drop a1).length (U ((bs.take (a1 + m)).drop a1)) → Below (w1.drewN (n2 + 1)).heap.size (w1.drewN (n2 + 1)) w3 → ∃ tb, tb ≠ g ∧ SlAt w3 tb sv (U ((bs.take (a1 + m)).drop a1)) ∧ T5 w3 tb (U ((bs.take (a1 + m)).drop a1)) ∧ Below w1.heap.size w1 w3 := by
          intro sv w3 ho hb3
          obtain ⟨tb, ht1, ht2, ht5⟩ := own_sl5 ho
          have : w1.heap.size ≤ tb := ht1
          exact ⟨tb, by have := hg1.size; omega, ht2, ht5, (below_drewN w1 (n2 + 1) _).trans hb3⟩
        generalize hts : (bs.take (a1 + m)).drop a1 = ts at hS hlen he
        have HTS : Hid ((bs.take (a1 + m)).drop a1 = ts) := hts
        clear hts
        by_cases hcap : cap = a1
        · rw [if_pos hcap] at hS
          have hm : m = 0 := by omega
          have hS' : SlAt (w1.drewN (n2 + 1)) b1 (.slice p 0 0) (U ts) := by
            have e1 : a1 + m - a1 = 0 := by omega
            have e2 : cap - a1 = 0 := by omega
            rw [e1, e2] at hS
            exact hS.stays (below_drewN _ _ _)
          clear hm hS
          go_region_with (go_at_call 71; refine (room_any (b := b1) (bs := ts) 0 ?_ ?_).mono ?_; exact hS'; exact hlen; rintro e w3 ⟨sv3, rfl, hown3, hb3⟩)
          all_goals (go_wp2_with fail; go_meet; rw [HTS.out]; exact he _ _ hown3 hb3)
        · rw [if_neg hcap] at hS
          have hS' : SlAt (w1.drewN (n2 + 1)) b1 (.slice (p.map fun x => x.add a1) (((a1 : Int) + m).toNat - a1) (cap - a1)) (U ts) := by
            have e1 : ((a1 : Int) + m).toNat - a1 = a1 + m - a1 := by omega
            rw [e1]
            exact hS.stays (below_drewN _ _ _)
          clear hS
          go_region_with (go_at_call 71; refine (room_any (b := b1) (bs := ts) 0 ?_ ?_).mono ?_; exact hS'; exact hlen; rintro e w3 ⟨sv3, rfl, hown3, hb3⟩)
          all_goals (go_wp2_with fail; go_meet; rw [HTS.out]; exact he _ _ hown3 hb3)
      case rest =>
        obtain ⟨tb, htb, hst, ht5, hbx⟩ := hcut
        have hrx := hrd1.keeps hbx
        obtain ⟨sx, bx, m1, m2, m3, m4, _⟩ := id hrx
        obtain ⟨x0, x1, x2, y1, y2⟩ := cells60 m1
        clear hN m1 m2 k2
        go_wp2
        go_ret
        refine ⟨_, tb, rfl, hst.grown (setCell_grownBy _ _ _ _) htb, ⟨htb, ht5.grown (setCell_grownBy _ _ _ _) htb⟩, hrx.setAt (a1 + m) ha3, ?_⟩
        exact grownBy_trans hg1 (grownBy_trans (below_grownBy hbx _) (setCell_grownBy _ _ _ _))
  · rw [if_neg hc] at hT
    have ha1 := hat hc
    subst ha1
    rw [hT]
    clear hT hat hok
    go_enter Tryd.func72, Tryd.ntmps72
    go_wp2_with (go_at_call 73; refine (show Calls _ _ _ _ _ from hN).mono ?_; rintro e w1 ⟨rfl, hrd1, hg1⟩; obtain ⟨sv1, b1, k1, k2, k3, k4, _⟩ := id hrd1; obtain ⟨d0, d1, d2, e1, e2⟩ := cells60 k1; clear k1 k2)
    go_ret
    exact ⟨_, g + 1, rfl, SlAt.nil _ _, ⟨by omega, .inl rfl⟩, hrd1, hg1⟩
end Go.Proofs.YtgmghekgelmmcaaDoor.Ite
