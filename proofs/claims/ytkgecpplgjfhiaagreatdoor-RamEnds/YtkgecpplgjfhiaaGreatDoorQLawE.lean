/-
  The walk of the law RamEnds.
-/
import Derived.Test.YtkgecpplgjfhiaaGreatDoorQKMath
import Derived.Deep.DeepCutAuto
namespace Go.Proofs.YtkgecpplgjfhiaaGreatDoor
open Go.RowKit
open Ite (Ent zeroE checkE sizeE)
open Lis (Lst but Tag)
set_option maxHeartbeats 8000000 in
set_option maxRecDepth 10000 in
theorem ends_any {w : World} {v : Value} {os : List ActR} (hA : ActsR w w.heap.size v os) (hks : ∀ o ∈ os, o.x.key.size ≤ maxLen) (hE : ErrT w) (n : Nat) (hn : n < 65536) (now : Int) (key : ByteArray) (hkey : key.size ≤ maxLen) :
    Calls Tryz.prog 6 #[.int .u16 (n : Int), v, .int .i64 now, .string key] w fun e w' => e = .returned (.bool true) ∧ Below w.heap.size w w' := by
  have h0 : 0 < w.heap.size := lt_of_cell hE
  have KL := hid2 (lightR_any hA (Nat.le_refl _) hks)
  have KW := hid2 (fun W (b : Below w.heap.size w W) => works_any W (hE.frR (Fr.of (B := w.heap.size) b) h0) (Nat.lt_of_lt_of_le h0 b.size))
  have HA := hid2 hA
  have HE := hid2 hE
  obtain ⟨pv, cv, rfl, hc1, hc2, _⟩ := id hA
  unfold maxLen at hc2
  have hkk := hkey
  unfold maxLen at hkk
  cases hl : lightR os with
  | false =>
    rw [hl] at KL
    clear hl
    go_enter Tryz.func6, Tryz.ntmps6
    go_wp2_with fail
    refine (show Calls _ _ _ _ _ from KL.out).mono ?_
    rintro e w1 ⟨rfl, hb1⟩
    have B1 := hid2 hb1
    clear hb1
    go_wp2_with fail
    refine (KW.out _ B1.out).mono ?_
    rintro e wk ⟨rfl, bk⟩
    have BK := hid2 (Below.trans B1.out (bk.mono (Below.size B1.out)))
    clear bk
    go_wp2
    go_ret
    exact ⟨rfl, BK.out⟩

  | true =>
    rw [hl] at KL
    have h40 := lightR_ok hl
    clear hl
    by_cases hlong : 200 < key.size
    · have hg : (200 : Int) < (key.size : Int) := by omega
      go_enter Tryz.func6, Tryz.ntmps6
      go_wp2_with fail
      refine (show Calls _ _ _ _ _ from KL.out).mono ?_
      rintro e w1 ⟨rfl, hb1⟩
      have B1 := hid2 hb1
      clear hb1
      go_wp2_with fail
      refine (KW.out _ B1.out).mono ?_
      rintro e wk ⟨rfl, bk⟩
      have BK := hid2 (Below.trans B1.out (bk.mono (Below.size B1.out)))
      clear bk
      go_wp2
      go_ret
      exact ⟨rfl, BK.out⟩

    · have hg : ¬ (200 : Int) < (key.size : Int) := by omega
      obtain ⟨lim, hlim⟩ : ∃ lim : Int, lim = 1 + (n : Int) % 9000 := ⟨_, rfl⟩
      have hlm : 1 ≤ lim ∧ lim ≤ 9000 := by omega
      have KN : Hid (∀ W, Calls Tryz.prog 10 #[.int .i64 (1 + (n : Int) % 9000)] W fun e w' => ∃ g, e = .returned (.tuple #[.pointer (some ⟨g, 0, none⟩), .nilIface]) ∧ Tier w' W.heap.size g lim [] 0 ∧ Below W.heap.size W w') := by
        intro W
        have e : ((1 + n % 9000 : Nat) : Int) = 1 + (n : Int) % 9000 := by omega
        have := new_t W (1 + n % 9000) (by omega) (by omega)
        rw [e, ← hlim] at this
        rw [← hlim]
        exact this
      have KR : Hid (∀ W, Calls Tryz.prog 11 #[.int .i64 (1 + (n : Int) % 9000)] W fun e w' => e = .returned (.tuple #[.agg #[.int .i64 lim, .slice none 0 0], .int .i64 0]) ∧ Below W.heap.size W w') := by
        intro W
        have := rnew_t W lim
        rw [if_neg (by omega), if_neg (by omega)] at this
        rw [← hlim]
        exact this
      clear hlim
      go_enter Tryz.func6, Tryz.ntmps6
      go_wp2_with fail
      refine (show Calls _ _ _ _ _ from KL.out).mono ?_
      rintro e w1 ⟨rfl, hb1⟩
      have B1 := hid2 hb1
      clear hb1
      go_wp2_with fail
      obtain ⟨B, hB⟩ : ∃ B, B = w1.heap.size := ⟨_, rfl⟩
      have HBW : Hid (w.heap.size ≤ B) := by show _ ≤ _; rw [hB]; exact B1.out.size
      have h0B : 0 < B := Nat.lt_of_lt_of_le h0 HBW.out
      refine (show Calls _ _ _ _ _ from KN.out _).mono ?_
      rintro e w2 ⟨g, rfl, ht, hb⟩
      rw [← hB] at ht
      have T2 := hid2 ht
      have B2 := hid2 (B1.out.trans (hb.mono B1.out.size))
      have HB2 : Hid (B ≤ w2.heap.size) := by show B ≤ _; rw [hB]; exact hb.size
      clear ht hb hB
      go_wp2_with fail
      refine (show Calls _ _ _ _ _ from KR.out _).mono ?_
      rintro e w3 ⟨rfl, hb⟩
      have T3 := hid2 (T2.out.below hb)
      have B3 := hid2 (B2.out.trans (hb.mono B2.out.size))
      have HB3 : Hid (B ≤ w3.heap.size) := Nat.le_trans HB2.out hb.size
      clear hb T2 HB2
      go_upto_region 7 with fail
      obtain ⟨w4, hw4⟩ : ∃ w4, w4 = w3.alloc (.cells #[.int .i64 lim, .slice none 0 0] 37) := ⟨_, rfl⟩
      rw [← hw4]
      obtain ⟨bx, hbx⟩ : ∃ bx, bx = w3.heap.size := ⟨_, rfl⟩
      rw [← hbx]
      have A4 : Below w3.heap.size w3 w4 := by rw [hw4]; go_grown
      have X4 : Two w4 bx (.int .i64 lim) (.slice none 0 0) := by rw [hw4, hbx]; exact heap_alloc_new w3 _
      have HBX : Hid (B ≤ bx) := by show B ≤ bx; rw [hbx]; exact HB3.out
      have B4 := B3.out.trans (A4.mono B3.out.size)
      have S4 : Hid (LawS w (.slice pv os.length cv) os B g lim bx [] [] none 0 0 w4) := ⟨T3.out.below A4, Es.nil _ _, fun _ => rfl, X4, HE.out.frR (Fr.of (B := B) B4) h0B, (HA.out.mono HBW.out).fr (.of B4), B4⟩
      clear hw4 hbx A4 X4 B4 T3 HB3 B3
      go_wp2_with fail
      go_loopg [13] os.length (fun gi i wr => ∃ (k : Nat) (L : List Ent) (p : Option Addr) (cap : Nat), k ≤ os.length ∧ gi = os.length - k ∧ i = .int .i64 (k : Int) ∧ L = actsP lim os k ∧ LawS w (.slice pv os.length cv) os B g lim bx L L p cap k wr)
      case atStart => exact ⟨0, [], none, 0, Nat.zero_le _, rfl, rfl, rfl, S4.out⟩
      case round =>
        clear S4
        obtain ⟨k, L, p, cap, hk, hgi, rfl, hL, hs⟩ := hrel
        have HG := hid2 hgi
        have HLK := hid2 hL
        have SR := hid2 hs
        clear hgi hL hs
        by_cases hlt : k < os.length
        · have hki : (k : Int) < (os.length : Int) := by omega
          have hI : (0 : Int) ≤ (k : Int) ∧ (k : Int) < (os.length : Int) := by omega
          have htn : ((k : Int)).toNat = k := by omega
          obtain ⟨o, ho⟩ : ∃ o, os[k]? = some o := ⟨_, List.getElem?_eq_getElem hlt⟩
          have hok := h40.2 o (List.mem_of_getElem? ho)
          obtain ⟨ob, oo, q, c, pv', cv', e1, rfl, hobB, hro, hbq⟩ := SR.out.act ho
          cases e1
          have HO := hid2 ho
          obtain ⟨wd, hwd⟩ : ∃ wd, wd = World.drew wr := ⟨_, rfl⟩
          have hdr : Below wr.heap.size wr wd := by rw [hwd]; exact drew_below_m wr 1 _
          have SD := hid2 (SR.out.below hdr h0B)
          have KD := hid2 (do_same SD.out.t (Nat.le_trans hk (Nat.le_trans h40.1 (by omega))) SD.out.es SD.out.z o (hbq.stays hdr) SD.out.er h0B (Nat.le_trans hok.1 (by omega)) hok.2)
          have hS0 := hid2 (rng_old hdr hro)
          clear ho hro hbq hdr SR
          go_wp2_with fail
          refine wp_region_held_drew (S := fun W => W.rangeAt ob (oo + k * 7) [.int .i64 o.kind, .string o.x.key, .int .i64 o.x.ver, .int .i64 o.x.asof, .int .i64 o.x.ends, .slice q o.x.val.length c, .int .i64 o.now]) (by kernel_rfl) (by rw [← hwd]; exact hS0.out) (fun hS => ?_)
          rw [← hwd] at hS ⊢
          clear hwd hS0
          refine wpAnyH_take (i := 0) (v := .pointer (some ⟨g, 0, none⟩)) rfl (by kernel_rfl) (by kernel_rfl) (by kernel_rfl) (fun _ _ _ h => h) (Or.inl ⟨by kernel_rfl, ?_⟩) hS ?_
          · intro w hw; clear hw; go_simp
          change wpAnyH _ _ _ _ _ _ _ (Act.put _ (some 59) _) _
          simp only [Act.put, List.setIfInBounds_toArray, List.set_cons_succ, List.set_cons_zero]
          refine wpAnyH_take (i := 2) (v := .slice (some ⟨ob, oo, none⟩) os.length cv) rfl (by kernel_rfl) (by kernel_rfl) (by kernel_rfl) (fun _ _ _ h => h) (Or.inl ⟨by kernel_rfl, ?_⟩) hS ?_
          · intro w hw; clear hw; go_simp
          change wpAnyH _ _ _ _ _ _ _ (Act.put _ (some 61) _) _
          simp only [Act.put, List.setIfInBounds_toArray, List.set_cons_succ, List.set_cons_zero]
          refine wpAnyH_take (i := 3) (v := .int .i64 (k : Int)) rfl (by kernel_rfl) (by kernel_rfl) (by kernel_rfl) (fun _ _ _ h => h) (Or.inl ⟨by kernel_rfl, ?_⟩) hS ?_
          · intro w hw; clear hw; go_simp
          change wpAnyH _ _ _ _ _ _ _ (Act.put _ (some 62) _) _
          simp only [Act.put, List.setIfInBounds_toArray, List.set_cons_succ, List.set_cons_zero]
          refine wpAnyH_take (i := 4) (v := .pointer (some ⟨ob, oo + k * 7, none⟩)) rfl (by kernel_rfl) (by kernel_rfl) (by kernel_rfl) (fun _ _ _ h => h) (Or.inl ⟨by kernel_rfl, ?_⟩) hS ?_
          · intro w hw; clear hw; go_simp
          change wpAnyH _ _ _ _ _ _ _ (Act.put _ (some 63) _) _
          simp only [Act.put, List.setIfInBounds_toArray, List.set_cons_succ, List.set_cons_zero]
          refine wpAnyH_take (i := 5) (v := (.agg #[.int .i64 o.kind, .string o.x.key, .int .i64 o.x.ver, .int .i64 o.x.asof, .int .i64 o.x.ends, .slice q o.x.val.length c, .int .i64 o.now])) rfl (by kernel_rfl) (by kernel_rfl) (by kernel_rfl) (fun _ _ _ h => h) (yieldsIf_load_mid (by kernel_rfl) 44 (.tmp 63) rfl ob (oo + k * 7) rfl ([.int .i64 o.kind, .string o.x.key, .int .i64 o.x.ver, .int .i64 o.x.asof, .int .i64 o.x.ends, .slice q o.x.val.length c, .int .i64 o.now]) _ (fun W hw => hw) und44.choose_spec rfl (size44)) hS ?_
          change wpAnyH _ _ _ _ _ _ _ (Act.put _ (some 64) _) _
          simp only [Act.put, List.setIfInBounds_toArray, List.set_cons_succ, List.set_cons_zero]
          refine wpAnyH_ready (rs := [1]) (by kernel_rfl) (by simp) ?_
          refine AllReadyH.cons rfl (fun K hK => ?_) AllReadyH.nil
          rw [if_pos (by kernel_rfl)]
          refine wp_load_mid 37 (.tmp 11) rfl bx 0 rfl [.int .i64 lim, .slice p L.length cap] _ (two_range SD.out.bx) und_rm.choose_spec rfl size_rm ?_
          refine hK.out _ _ (hS) (fun hS => ?_)
          clear hK K
          skip
          refine wpAnyH_ready (rs := [6]) (by kernel_rfl) (by simp) ?_
          refine AllReadyH.cons rfl (fun K hK => ?_) AllReadyH.nil
          go_simp
          go_wp2_with fail
          refine (show Calls _ _ _ _ _ from KD.out).mono ?_
          rintro e w6 ⟨p', cap', rfl, hes, hz', ht, hf⟩
          refine hK.out _ _ (rng_fr hf hobB hS) (fun hS => ?_)
          clear hK K
          skip
          refine wpAnyH_take (i := 7) (v := .tuple #[.agg #[.int .i64 lim, .slice p' (actP lim L o).length cap'], .bool true]) rfl (by kernel_rfl) (by kernel_rfl) (by kernel_rfl) (fun _ _ _ h => h) (Or.inl ⟨by kernel_rfl, ?_⟩) hS ?_
          · intro w hw; clear hw; go_simp
          change wpAnyH _ _ _ _ _ _ _ (Act.put _ (some 58) _) _
          simp only [Act.put, List.setIfInBounds_toArray, List.set_cons_succ, List.set_cons_zero]
          refine wpAnyH_take (i := 8) (v := .agg #[.int .i64 lim, .slice p' (actP lim L o).length cap']) rfl (by kernel_rfl) (by kernel_rfl) (by kernel_rfl) (fun _ _ _ h => h) (Or.inl ⟨by kernel_rfl, ?_⟩) hS ?_
          · intro w hw; clear hw; go_simp
          change wpAnyH _ _ _ _ _ _ _ (Act.put _ (some 66) _) _
          simp only [Act.put, List.setIfInBounds_toArray, List.set_cons_succ, List.set_cons_zero]
          refine wpAnyH_take (i := 9) (v := .bool true) rfl (by kernel_rfl) (by kernel_rfl) (by kernel_rfl) (fun _ _ _ h => h) (Or.inl ⟨by kernel_rfl, ?_⟩) hS ?_
          · intro w hw; clear hw; go_simp
          change wpAnyH _ _ _ _ _ _ _ (Act.put _ (some 67) _) _
          simp only [Act.put, List.setIfInBounds_toArray, List.set_cons_succ, List.set_cons_zero]
          refine wpAnyH_ready (rs := [10]) (by kernel_rfl) (by simp) ?_
          refine AllReadyH.cons rfl (fun K hK => ?_) AllReadyH.nil
          refine step_st37 rfl (.tmp 11) (.tmp 66) rfl bx rfl _ _ _ (SD.out.bx.fr hf) rfl rfl ⟨rfl, rfl⟩ ?_
          intro wz TZ gz
          refine hK.out _ _ (rng_grown hS gz (by have := HBX.out; omega)) (fun hS => ?_)
          clear hK K
          change wpAnyH _ _ _ _ _ _ _ (Act.put _ (none) _) _
          simp only [Act.put]
          refine wpAnyH_done (by kernel_rfl) ?_ _
          have SZ := hid2 (SD.out.put hf ht hes hz' gz TZ h0B HBX.out HBW.out)
          clear hes hz' ht hf TZ gz hS
          go_wp2
          go_roundg (os.length - (k + 1))
          case measure => rw [HG.out]; omega
          case rel => exact ⟨k + 1, _, p', cap', by omega, rfl, by go_num, by rw [actsP_succ HO.out, ← HLK.out], SZ.out⟩
        · have hki : ¬ ((k : Int) < (os.length : Int)) := by omega
          obtain rfl : k = os.length := by omega
          clear hlt HG
          have hf0 := SR.out.t.fine
          have HA9 := hid2 (allE_perm hf0.1)
          have HND := hid2 hf0.2.1
          have HFI := hid2 hf0.1
          have hL6 := hf0.2.2.2.2.2.1
          have hAl : (allE L 9).length = L.length := HA9.out.length_eq
          have KALL := hid2 (all_t SR.out.t)
          generalize allE L 9 = A at *
          have hA6 : A.length ≤ 640 := by omega
          have HAL := hid2 hAl
          clear hf0 hAl hki hk
          go_wp2_with fail
          refine (show Calls _ _ _ _ _ from KALL.out).mono ?_
          rintro e w5 ⟨vw, rfl, hes, hb⟩
          obtain ⟨pw, cw, rfl, hcw1, hcw2⟩ := hes.form
          unfold maxLen at hcw2
          have S5 := hid2 (SR.out.below hb h0B)
          have W5 := hid2 hes
          have HB5 : Hid (B ≤ w5.heap.size) := Nat.le_trans HBX.out (Nat.le_of_lt S5.out.bx.tag.lt)
          clear hes hb KALL SR
          have KGET := hid2 (get_t S5.out.t (Nat.le_trans h40.1 (by omega)) key now (by omega))
          have HGC := hid2 (get_cases L key now)
          have HKEEP := hid2 (fun x (h1 : x ∈ L) (h2 : lv x now = true) => get_keeps (k := key) h1 h2)
          have hL1 := get_len L key now
          generalize getP L key now = gp at *
          obtain ⟨L1, xg, okg⟩ := gp
          dsimp only at KGET HGC HKEEP hL1
          go_wp2_with fail
          refine (show Calls _ _ _ _ _ from KGET.out).mono ?_
          rintro e w6 ⟨pg, cg, rfl, hbq, hf, ht⟩
          have T6 := hid2 ht
          have G6 := hid2 hbq
          have W6 := hid2 (W5.out.fr hf)
          have B6 := hid2 (S5.out.be.trans ((hf.below HB5.out).mono HBW.out))
          clear ht hbq hf KGET S5 W5 HB5
          go_upto_region 13 with fail
          obtain ⟨w7, hw7⟩ : ∃ w7, w7 = w6.alloc (.cells #[.string xg.key, .int .i64 xg.ver, .int .i64 xg.asof, .int .i64 xg.ends, .slice pg xg.val.length cg] 25) := ⟨_, rfl⟩
          rw [← hw7]
          obtain ⟨b15, hb15⟩ : ∃ b15, b15 = w6.heap.size := ⟨_, rfl⟩
          rw [← hb15]
          have A7 : Below w6.heap.size w6 w7 := by rw [hw7]; go_grown
          have X7 : Hid (w7.heap[b15]? = some (.cells #[.string xg.key, .int .i64 xg.ver, .int .i64 xg.asof, .int .i64 xg.ends, .slice pg xg.val.length cg] 25 (0, 0))) := by show _ = _; rw [hw7, hb15]; exact heap_alloc_new w6 _
          have T7 := hid2 (T6.out.below A7)
          have G7 := hid2 (G6.out.stays A7)
          have W7 := hid2 (W6.out.stays A7)
          have B7 := hid2 (B6.out.trans (A7.mono B6.out.size))
          clear hw7 hb15 A7 T6 G6 W6 B6
          have KF := hid2 (fun W (b : Below w7.heap.size w7 W) => find_any (W7.out.stays b) key (by omega))
          have KL1 := hid2 (fun W => Ite.rlive_any xg.key xg.ver xg.asof xg.ends now pg xg.val.length cg W)
          rw [show Ite.liveB xg.ends now = lv xg now from rfl] at KL1
          go_cut [101] (fun u wx => u = .bool false ∧ Below w7.heap.size w7 wx)
          case first =>
            rcases HGC.out with ⟨hi, hg⟩ | ⟨i, hi, hlv, hg⟩ | ⟨i, hi, hlv, hg⟩
            · have hj : findE A key = -1 := by
                rcases find_perm HA9.out HND.out key with ⟨_, hj⟩ | ⟨i, j, hi', _⟩
                · exact find_none hj
                · rw [hi] at hi'; cases hi'
              rw [hj] at KF
              cases hg
              clear hi hj
              go_wp2_with fail
              refine (show Calls _ _ _ _ _ from KF.out _ (Below.refl _ _)).mono ?_
              rintro e w8 ⟨rfl, hw8⟩
              subst hw8
              go_wp2_with fail
              go_meet
              exact ⟨rfl, Below.refl _ _⟩
            · have hj := find_perm HA9.out HND.out key
              rcases hj with ⟨hi', _⟩ | ⟨i', j, hi', hj, hat⟩
              · rw [hi] at hi'; cases hi'
              rw [hi] at hi'
              cases hi'
              have hAj := atE_get hj
              have hjl := idx_lt hj
              rw [find_some hj] at KF
              have hxg : xg = atE A j := by cases hg; exact hat.symm
              have hlx : lv xg now = true := by rw [hxg, hat]; exact hlv
              have hok : okg = true := by cases hg; rfl
              rw [hlx] at KL1
              obtain ⟨bw, ow, qw, cw', hpw, hrw, hbw, _⟩ := W7.out.look hAj
              rw [← hxg] at hrw hbw
              have KL2 := hid2 (fun W => Ite.rlive_any xg.key xg.ver xg.asof xg.ends now qw xg.val.length cw' W)
              rw [show Ite.liveB xg.ends now = lv xg now from rfl, hlx] at KL2
              have HRW := hid2 hrw
              have hI : (0 : Int) ≤ (j : Int) ∧ (j : Int) < (A.length : Int) := by omega
              have htn : ((j : Int)).toNat = j := by omega
              subst hpw
              subst hok
              clear hg hi hlv hj hat hAj hxg hlx hrw hbw HGC
              obtain ⟨⟨q0, q1, q2, q3, q4⟩, qf⟩ := Ite.five24 X7.out
              go_wp2_with fail
              refine (show Calls _ _ _ _ _ from KL1.out _).mono ?_
              rintro e w8 ⟨rfl, hb8⟩
              have B8 := hid2 hb8
              have HRW8 := hid2 (rng_old hb8 HRW.out)
              clear hb8 q0 q1 q2 q3 q4 qf
              go_wp2_with fail
              refine (show Calls _ _ _ _ _ from KF.out _ B8.out).mono ?_
              rintro e w9 ⟨rfl, hw9⟩
              subst hw9
              go_wp2_with fail
              refine (show Calls _ _ _ _ _ from KF.out _ B8.out).mono ?_
              rintro e w9 ⟨rfl, hw9⟩
              subst hw9
              have r0 : w9.cell? ⟨bw, ow + j * 5, none⟩ = some (.string xg.key) := HRW8.out 0 _ rfl
              have r1 : w9.cell? ⟨bw, ow + j * 5 + 1, none⟩ = some (.int .i64 xg.ver) := HRW8.out 1 _ rfl
              have r2 : w9.cell? ⟨bw, ow + j * 5 + 2, none⟩ = some (.int .i64 xg.asof) := HRW8.out 2 _ rfl
              have r3 : w9.cell? ⟨bw, ow + j * 5 + 3, none⟩ = some (.int .i64 xg.ends) := HRW8.out 3 _ rfl
              have r4 := HRW8.out 4 _ rfl
              have hblt := World.block_lt_of_cell? _ _ r0
              go_wp2_with fail
              refine (show Calls _ _ _ _ _ from KL2.out _).mono ?_
              rintro e w10 ⟨rfl, hb10⟩
              have B10 := hid2 (B8.out.trans (hb10.mono B8.out.size))
              clear hb10
              go_wp2_with fail
              go_meet
              exact ⟨rfl, B10.out⟩
            · have hj := find_perm HA9.out HND.out key
              rcases hj with ⟨hi', _⟩ | ⟨i', j, hi', hj, hat⟩
              · rw [hi] at hi'; cases hi'
              rw [hi] at hi'
              cases hi'
              have hAj := atE_get hj
              have hjl := idx_lt hj
              rw [find_some hj] at KF
              have hok : okg = false := by cases hg; rfl
              obtain ⟨y, hy⟩ : ∃ y, y = atE A j := ⟨_, rfl⟩
              have hly : lv y now = false := by rw [hy, hat]; exact hlv
              rw [← hy] at hAj
              obtain ⟨bw, ow, qw, cw', hpw, hrw, hbw, _⟩ := W7.out.look hAj
              have KL2 := hid2 (fun W => Ite.rlive_any y.key y.ver y.asof y.ends now qw y.val.length cw' W)
              rw [show Ite.liveB y.ends now = lv y now from rfl, hly] at KL2
              have HRW := hid2 hrw
              have hI : (0 : Int) ≤ (j : Int) ∧ (j : Int) < (A.length : Int) := by omega
              have htn : ((j : Int)).toNat = j := by omega
              subst hpw
              subst hok
              clear hg hi hlv hj hat hAj hy hly hrw hbw HGC
              go_wp2_with fail
              refine (show Calls _ _ _ _ _ from KF.out _ (Below.refl _ _)).mono ?_
              rintro e w9 ⟨rfl, hw9⟩
              subst hw9
              go_wp2_with fail
              refine (show Calls _ _ _ _ _ from KF.out _ (Below.refl _ _)).mono ?_
              rintro e w9 ⟨rfl, hw9⟩
              subst hw9
              have r0 : w9.cell? ⟨bw, ow + j * 5, none⟩ = some (.string y.key) := HRW.out 0 _ rfl
              have r1 : w9.cell? ⟨bw, ow + j * 5 + 1, none⟩ = some (.int .i64 y.ver) := HRW.out 1 _ rfl
              have r2 : w9.cell? ⟨bw, ow + j * 5 + 2, none⟩ = some (.int .i64 y.asof) := HRW.out 2 _ rfl
              have r3 : w9.cell? ⟨bw, ow + j * 5 + 3, none⟩ = some (.int .i64 y.ends) := HRW.out 3 _ rfl
              have r4 := HRW.out 4 _ rfl
              have hblt := World.block_lt_of_cell? _ _ r0
              go_wp2_with fail
              refine (show Calls _ _ _ _ _ from KL2.out _).mono ?_
              rintro e w10 ⟨rfl, hb10⟩
              have B10 := hid2 hb10
              clear hb10
              go_wp2_with fail
              go_meet
              exact ⟨rfl, B10.out⟩
          case rest =>
            obtain ⟨rfl, hbc⟩ := hcut
            have Tc := hid2 (T7.out.below hbc)
            have Wc := hid2 (W7.out.stays hbc)
            have Bc := hid2 (B7.out.trans (hbc.mono B7.out.size))
            have HBc : Hid (B ≤ wc.heap.size) := Nat.le_of_lt Tc.out.fine.2.2.2.2.2.2
            have KS := hid2 (sweep_t Tc.out now)
            have hsl := sweep_len L1 now
            have HSM : Hid (∀ x ∈ L, lv x now = true → x ∈ sweepP L1 now) := fun x h1 h2 => List.mem_filter.2 ⟨HKEEP.out x h1 h2, h2⟩
            have HSL : Hid (∀ x ∈ sweepP L1 now, lv x now = true) := fun x h => (List.mem_filter.1 h).2
            have hns : 0 ≤ (L1.length : Int) - ((sweepP L1 now).length : Int) := by omega
            generalize hnsw : (L1.length : Int) - ((sweepP L1 now).length : Int) = nsw at *
            generalize sweepP L1 now = L2 at *
            clear hbc hnsw T7 W7 B7 G7 X7 KF KL1 HGC
            go_wp2_with fail
            refine (show Calls _ _ _ _ _ from KS.out).mono ?_
            rintro e w8 ⟨rfl, hf, ht⟩
            have T8 := hid2 ht
            have W8 := hid2 (Wc.out.fr hf)
            have B8 := hid2 (Bc.out.trans ((hf.below HBc.out).mono HBW.out))
            clear ht hf Tc Wc Bc HBc KS
            have HPC := hid2 (allE_perm T8.out.fine.1)
            have KALL := hid2 (all_t T8.out)
            have hc6 := T8.out.fine.2.2.2.2.2.1
            generalize allE L2 9 = C at *
            have HC1 := hid2 (fun x (h : x ∈ C) => HSL.out x (HPC.out.mem_iff.1 h))
            have HC2 : Hid (∀ x ∈ A, lv x now = true → ∃ m : Nat, findE C x.key = (m : Int)) := fun x hx hl => by
              obtain ⟨m, hm⟩ := idx_of_mem (HPC.out.mem_iff.2 (HSM.out x (HA9.out.mem_iff.1 hx) hl))
              exact ⟨m, find_some hm⟩
            have hcl : C.length ≤ A.length := by
              have e1 := HPC.out.length_eq
              have e2 := HAL.out
              omega
            clear HPC HSM HSL T8 hc6
            go_wp2_with fail
            refine (show Calls _ _ _ _ _ from KALL.out).mono ?_
            rintro e w9 ⟨vc, rfl, hes, hb⟩
            obtain ⟨pc, cc, rfl, hcc1, hcc2⟩ := hes.form
            unfold maxLen at hcc2
            have C9 := hid2 hes
            have W9 := hid2 (W8.out.stays hb)
            have B9 := hid2 (B8.out.trans (hb.mono B8.out.size))
            clear hes hb W8 B8 KALL
            go_wp2_with fail
            go_loopg [19] C.length (fun gi i wr2 => ∃ j : Nat, j ≤ C.length ∧ gi = C.length - j ∧ i = .int .i64 (j : Int) ∧ Below w9.heap.size w9 wr2)
            case atStart => exact ⟨0, Nat.zero_le _, rfl, rfl, Below.refl _ _⟩
            case round =>
              obtain ⟨j, hj, hgi, rfl, hbr⟩ := hrel
              have HG := hid2 hgi
              have BR := hid2 hbr
              clear hgi hbr
              by_cases hjl : j < C.length
              · obtain ⟨y, hy⟩ : ∃ y, C[j]? = some y := ⟨_, List.getElem?_eq_getElem hjl⟩
                have hly := HC1.out y (List.mem_of_getElem? hy)
                obtain ⟨bw, ow, qw, cw', rfl, hrw, hbw, _⟩ := (C9.out.stays BR.out).look hy
                have KL2 := hid2 (fun W => Ite.rlive_any y.key y.ver y.asof y.ends now qw y.val.length cw' W)
                rw [show Ite.liveB y.ends now = lv y now from rfl, hly] at KL2
                have HRW := hid2 hrw
                have hI : (0 : Int) ≤ (j : Int) ∧ (j : Int) < (C.length : Int) := by omega
                have htn : ((j : Int)).toNat = j := by omega
                clear hy hly hrw hbw
                go_wp2_with (refine wpList_load_mid rfl 25 (.tmp 115) rfl bw (ow + j * 5) rfl _ _ HRW.out Ite.Tryz.und24.choose_spec rfl Ite.Tryz.size24 ?_)
                refine (show Calls _ _ _ _ _ from KL2.out _).mono ?_
                rintro e w10 ⟨rfl, hb10⟩
                have BR2 := hid2 (BR.out.trans (hb10.mono BR.out.size))
                clear hb10
                go_wp2
                go_roundg (C.length - (j + 1))
                case measure => rw [HG.out]; omega
                case rel => exact ⟨j + 1, by omega, rfl, by go_num, BR2.out⟩
              · have hjn : ¬ ((j : Int) < (C.length : Int)) := by omega
                have WL := hid2 (W9.out.stays BR.out)
                have CL := hid2 (C9.out.stays BR.out)
                have BL := hid2 (B9.out.trans (BR.out.mono B9.out.size))
                clear W9 C9 B9 BR HG hj
                go_wp2_with fail
                obtain ⟨w11, hw11⟩ : ∃ w11, w11 = wr := ⟨_, rfl⟩
                subst hw11
                go_loopg [20] A.length (fun gi i wr2 => ∃ j : Nat, j ≤ A.length ∧ gi = A.length - j ∧ i = .int .i64 (j : Int) ∧ Below w11.heap.size w11 wr2)
                case atStart => exact ⟨0, Nat.zero_le _, rfl, rfl, Below.refl _ _⟩
                case round =>
                  obtain ⟨j, hj, hgi, rfl, hbr⟩ := hrel
                  have HG := hid2 hgi
                  have BR := hid2 hbr
                  clear hgi hbr
                  by_cases hjl : j < A.length
                  · obtain ⟨y, hy⟩ : ∃ y, A[j]? = some y := ⟨_, List.getElem?_eq_getElem hjl⟩
                    have hmem := HC2.out y (List.mem_of_getElem? hy)
                    obtain ⟨bw, ow, qw, cw', rfl, hrw, hbw, _⟩ := (WL.out.stays BR.out).look hy
                    have KL2 := hid2 (fun W => Ite.rlive_any y.key y.ver y.asof y.ends now qw y.val.length cw' W)
                    rw [show Ite.liveB y.ends now = lv y now from rfl] at KL2
                    have HRW := hid2 hrw
                    have hI : (0 : Int) ≤ (j : Int) ∧ (j : Int) < (A.length : Int) := by omega
                    have htn : ((j : Int)).toNat = j := by omega
                    have KF := hid2 (fun W (b : Below w11.heap.size w11 W) => find_any (CL.out.stays b) y.key (by omega))
                    cases hly : lv y now with
                    | true =>
                      obtain ⟨m, hm⟩ := hmem hly
                      rw [hm] at KF
                      rw [hly] at KL2
                      clear hy hly hrw hbw hmem hm
                      go_wp2_with (refine wpList_load_mid rfl 25 (.tmp 128) rfl bw (ow + j * 5) rfl _ _ HRW.out Ite.Tryz.und24.choose_spec rfl Ite.Tryz.size24 ?_)
                      refine (show Calls _ _ _ _ _ from KL2.out _).mono ?_
                      rintro e w12 ⟨rfl, hb12⟩
                      have BR2 := hid2 (BR.out.trans (hb12.mono BR.out.size))
                      have r0 : w12.cell? ⟨bw, ow + j * 5, none⟩ = some (.string y.key) := rng_old hb12 HRW.out 0 _ rfl
                      have hblt := World.block_lt_of_cell? _ _ r0
                      clear hb12
                      go_wp2_with fail
                      refine (show Calls _ _ _ _ _ from KF.out _ BR2.out).mono ?_
                      rintro e w13 ⟨rfl, hw13⟩
                      subst hw13
                      go_wp2
                      go_roundg (A.length - (j + 1))
                      case measure => rw [HG.out]; omega
                      case rel => exact ⟨j + 1, by omega, rfl, by go_num, BR2.out⟩
                    | false =>
                      rw [hly] at KL2
                      clear hy hly hrw hbw hmem
                      go_wp2_with (refine wpList_load_mid rfl 25 (.tmp 128) rfl bw (ow + j * 5) rfl _ _ HRW.out Ite.Tryz.und24.choose_spec rfl Ite.Tryz.size24 ?_)
                      refine (show Calls _ _ _ _ _ from KL2.out _).mono ?_
                      rintro e w12 ⟨rfl, hb12⟩
                      have BR2 := hid2 (BR.out.trans (hb12.mono BR.out.size))
                      clear hb12
                      go_wp2
                      go_roundg (A.length - (j + 1))
                      case measure => rw [HG.out]; omega
                      case rel => exact ⟨j + 1, by omega, rfl, by go_num, BR2.out⟩
                  · have hjn2 : ¬ ((j : Int) < (A.length : Int)) := by omega
                    have hcl2 : (C.length : Int) ≤ (A.length : Int) := by omega
                    have BLL := hid2 (BL.out.trans (BR.out.mono BL.out.size))
                    clear WL CL BR HG hj
                    go_wp2_with fail
                    refine (KW.out _ BLL.out).mono ?_
                    rintro e wk ⟨rfl, bk⟩
                    have BK := hid2 (BLL.out.trans (bk.mono BLL.out.size))
                    clear bk
                    go_wp2
                    go_ret
                    exact ⟨rfl, BK.out⟩
end Go.Proofs.YtkgecpplgjfhiaaGreatDoor
