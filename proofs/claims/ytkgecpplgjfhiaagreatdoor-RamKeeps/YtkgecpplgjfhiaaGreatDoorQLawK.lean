/-
  The walk of the law RamKeeps.
-/
import Derived.Test.YtkgecpplgjfhiaaGreatDoorQKMath
import Derived.Deep.DeepCutAuto
namespace Go.Proofs.YtkgecpplgjfhiaaGreatDoor
open Go.RowKit
open Ite (Ent zeroE checkE sizeE)
open Lis (Lst but Tag)
set_option maxHeartbeats 8000000 in
set_option maxRecDepth 10000 in
theorem keeps_any {w : World} {v : Value} {os : List ActR} (hA : ActsR w w.heap.size v os) (hks : ∀ o ∈ os, o.x.key.size ≤ maxLen) (hE : ErrT w) (n : Nat) (hn : n < 65536) (x : Ent) {q : Option Addr} {c : Nat} (hx : Bq w w.heap.size (.slice q x.val.length c) x.val) (hxk : x.key.size ≤ maxLen) (now : Int) :
    Calls Tryz.prog 5 #[.int .u16 (n : Int), v, .agg #[.string x.key, .int .i64 x.ver, .int .i64 x.asof, .int .i64 x.ends, .slice q x.val.length c], .int .i64 now] w fun e w' => e = .returned (.bool true) ∧ Below w.heap.size w w' := by
  obtain ⟨wb, hwb⟩ : ∃ wb, wb = w.alloc (.cells #[.string x.key, .int .i64 x.ver, .int .i64 x.asof, .int .i64 x.ends, .slice q x.val.length c] 25) := ⟨_, rfl⟩
  have hab : Below w.heap.size w wb := by rw [hwb]; go_grown
  have XB : Hid (wb.heap[w.heap.size]? = some (.cells #[.string x.key, .int .i64 x.ver, .int .i64 x.asof, .int .i64 x.ends, .slice q x.val.length c] 25 (0, 0))) := by show _ = _; rw [hwb]; exact heap_alloc_new w _
  have HWB := hid2 hwb
  have HAB := hid2 hab
  have hE0 := hE
  have hA0 := hA
  have h00 : 0 < w.heap.size := lt_of_cell hE
  replace hE := hE.frR (Fr.of (B := w.heap.size) hab) h00
  replace hA := (hA.fr (Fr.of hab)).mono hab.size
  have QB := hid2 (hx.stays hab)
  have h0 : 0 < wb.heap.size := Nat.lt_of_lt_of_le h00 hab.size
  have KL := hid2 (lightR_any hA (Nat.le_refl _) hks)
  have KW := hid2 (fun W (b : Below wb.heap.size wb W) => works_any W (hE.frR (Fr.of (B := wb.heap.size) b) h0) (Nat.lt_of_lt_of_le h0 b.size))
  have HA := hid2 hA
  have HE := hid2 hE
  clear hE0 hA0 hab hwb hx
  obtain ⟨pv, cv, rfl, hc1, hc2, _⟩ := id hA
  unfold maxLen at hc2
  cases hl : lightR os with
  | false =>
    rw [hl] at KL
    clear hl
    go_enter Tryz.func5, Tryz.ntmps5
    go_upto_region 1 with fail
    rw [← HWB.out]
    go_wp2_with fail
    refine (show Calls _ _ _ _ _ from KL.out).mono ?_
    rintro e w0 ⟨rfl, hb0⟩
    have B0 := hid2 hb0
    have X0 := hid2 (heap_stays XB.out hb0)
    clear hb0
    go_wp2_with fail
    refine (KW.out _ B0.out).mono ?_
    rintro e wk ⟨rfl, bk⟩
    have BK := hid2 (HAB.out.trans ((Below.trans B0.out (bk.mono (Below.size B0.out))).mono HAB.out.size))
    clear bk
    go_wp2
    go_ret
    exact ⟨rfl, BK.out⟩

  | true =>
    rw [hl] at KL
    have h40 := lightR_ok hl
    clear hl
    cases hlx : Ite.lightB [x] with
    | false =>
      have hli : Ite.lightI [x] = 1 := by unfold Ite.lightI; rw [if_neg (by rw [hlx]; simp)]
      clear hlx
      go_enter Tryz.func5, Tryz.ntmps5
      go_upto_region 1 with fail
      rw [← HWB.out]
      go_wp2_with fail
      refine (show Calls _ _ _ _ _ from KL.out).mono ?_
      rintro e w0 ⟨rfl, hb0⟩
      have B0 := hid2 hb0
      have X0 := hid2 (heap_stays XB.out hb0)
      clear hb0
      obtain ⟨⟨q0, q1, q2, q3, q4⟩, qf⟩ := Ite.five24 X0.out
      go_wp2_with fail
      obtain ⟨w1, hw1⟩ : ∃ w1, w1 = w0.alloc (.cells #[.string x.key, .int .i64 x.ver, .int .i64 x.asof, .int .i64 x.ends, .slice q x.val.length c] 25) := ⟨_, rfl⟩
      rw [← hw1]
      obtain ⟨b1, hb1⟩ : ∃ b1, b1 = w0.heap.size := ⟨_, rfl⟩
      rw [← hb1]
      have A1 : Below w0.heap.size w0 w1 := by rw [hw1]; go_grown
      have B1 := hid2 (B0.out.trans (A1.mono B0.out.size))
      have XO : w1.heap[b1]? = some (.cells #[.string x.key, .int .i64 x.ver, .int .i64 x.asof, .int .i64 x.ends, .slice q x.val.length c] 25 (0, 0)) := by rw [hw1, hb1]; exact heap_alloc_new w0 _
      have KO := hid2 (Ite.light_any (es_one XO (QB.out.stays B1.out).bs) (fun y hy => by rw [List.mem_singleton.1 hy]; exact hxk))
      clear hw1 hb1 A1 XO q0 q1 q2 q3 q4 qf
      rw [hli] at KO
      refine (show Calls _ _ _ _ _ from KO.out).mono ?_
      rintro e w2 ⟨rfl, hw2⟩
      subst hw2
      go_wp2_with fail
      refine (KW.out _ B1.out).mono ?_
      rintro e wk ⟨rfl, bk⟩
      have BK := hid2 (HAB.out.trans ((Below.trans B1.out (bk.mono (Below.size B1.out))).mono HAB.out.size))
      clear bk
      go_wp2
      go_ret
      exact ⟨rfl, BK.out⟩

    | true =>
      have hli : Ite.lightI [x] = 0 := by unfold Ite.lightI; rw [if_pos hlx]
      have hxl := (Ite.lightB_ok hlx).2.2 x (List.mem_singleton.2 rfl)
      clear hlx
      obtain ⟨lim, hlim⟩ : ∃ lim : Int, lim = 1 + (n : Int) % 9000 := ⟨_, rfl⟩
      have hlm : 1 ≤ lim ∧ lim ≤ 9000 := by omega
      have KN : Hid (∀ W, Calls Tryz.prog 10 #[.int .i64 (1 + (n : Int) % 9000)] W fun e w' => ∃ g, e = .returned (.tuple #[.pointer (some ⟨g, 0, none⟩), .nilIface]) ∧ Tier w' W.heap.size g lim [] 0 ∧ Below W.heap.size W w') := by
        intro W
        have e : ((1 + n % 9000 : Nat) : Int) = 1 + (n : Int) % 9000 := by omega
        have := new_t W (1 + n % 9000) (by omega) (by omega)
        rw [e, ← hlim] at this
        rw [← hlim]
        exact this
      have KR : Hid (∀ W, Calls Tryz.prog 11 #[.int .i64 (1 + (n : Int) % 9000)] W fun e w' => e = .returned (.tuple #[.agg #[.int .i64 lim, .slice none 0 0], .int .i64 0]) ∧ Below W.heap.size W w') := by
        intro W
        have := rnew_t W lim
        rw [if_neg (by omega), if_neg (by omega)] at this
        rw [← hlim]
        exact this
      clear hlim
      go_enter Tryz.func5, Tryz.ntmps5
      go_upto_region 1 with fail
      rw [← HWB.out]
      go_wp2_with fail
      refine (show Calls _ _ _ _ _ from KL.out).mono ?_
      rintro e w0 ⟨rfl, hb0⟩
      have B0 := hid2 hb0
      have X0 := hid2 (heap_stays XB.out hb0)
      clear hb0
      obtain ⟨⟨q0, q1, q2, q3, q4⟩, qf⟩ := Ite.five24 X0.out
      go_wp2_with fail
      obtain ⟨w1, hw1⟩ : ∃ w1, w1 = w0.alloc (.cells #[.string x.key, .int .i64 x.ver, .int .i64 x.asof, .int .i64 x.ends, .slice q x.val.length c] 25) := ⟨_, rfl⟩
      rw [← hw1]
      obtain ⟨b1, hb1⟩ : ∃ b1, b1 = w0.heap.size := ⟨_, rfl⟩
      rw [← hb1]
      have A1 : Below w0.heap.size w0 w1 := by rw [hw1]; go_grown
      have B1 := hid2 (B0.out.trans (A1.mono B0.out.size))
      have XO : w1.heap[b1]? = some (.cells #[.string x.key, .int .i64 x.ver, .int .i64 x.asof, .int .i64 x.ends, .slice q x.val.length c] 25 (0, 0)) := by rw [hw1, hb1]; exact heap_alloc_new w0 _
      have KO := hid2 (Ite.light_any (es_one XO (QB.out.stays B1.out).bs) (fun y hy => by rw [List.mem_singleton.1 hy]; exact hxk))
      clear hw1 hb1 A1 XO q0 q1 q2 q3 q4 qf
      rw [hli] at KO
      refine (show Calls _ _ _ _ _ from KO.out).mono ?_
      rintro e w2' ⟨rfl, hw2⟩
      rw [hw2]
      clear hw2 w2'
      go_wp2_with fail
      obtain ⟨B, hB⟩ : ∃ B, B = w1.heap.size := ⟨_, rfl⟩
      have HBW : Hid (wb.heap.size ≤ B) := by show _ ≤ _; rw [hB]; exact B1.out.size
      have h0B : 0 < B := Nat.lt_of_lt_of_le h0 HBW.out
      refine (show Calls _ _ _ _ _ from KN.out _).mono ?_
      rintro e w2 ⟨g, rfl, ht, hb⟩
      rw [← hB] at ht
      have T2 := hid2 ht
      have B2 := hid2 (B1.out.trans (hb.mono B1.out.size))
      have HB2 : Hid (B ≤ w2.heap.size) := by show B ≤ _; rw [hB]; exact hb.size
      clear ht hb hB
      go_wp2_with fail
      refine (show Calls _ _ _ _ _ from KR.out _).mono ?_
      rintro e w3 ⟨rfl, hb⟩
      have T3 := hid2 (T2.out.below hb)
      have B3 := hid2 (B2.out.trans (hb.mono B2.out.size))
      have HB3 : Hid (B ≤ w3.heap.size) := Nat.le_trans HB2.out hb.size
      clear hb T2 HB2
      go_upto_region 7 with fail
      obtain ⟨w4, hw4⟩ : ∃ w4, w4 = w3.alloc (.cells #[.int .i64 lim, .slice none 0 0] 37) := ⟨_, rfl⟩
      rw [← hw4]
      obtain ⟨bx, hbx⟩ : ∃ bx, bx = w3.heap.size := ⟨_, rfl⟩
      rw [← hbx]
      have A4 : Below w3.heap.size w3 w4 := by rw [hw4]; go_grown
      have X4 : Two w4 bx (.int .i64 lim) (.slice none 0 0) := by rw [hw4, hbx]; exact heap_alloc_new w3 _
      have HBX : Hid (B ≤ bx) := by show B ≤ bx; rw [hbx]; exact HB3.out
      have B4 := B3.out.trans (A4.mono B3.out.size)
      have S4 : Hid (LawS wb (.slice pv os.length cv) os B g lim bx [] [] none 0 0 w4) := ⟨T3.out.below A4, Es.nil _ _, fun _ => rfl, X4, HE.out.frR (Fr.of (B := B) B4) h0B, (HA.out.mono HBW.out).fr (.of B4), B4⟩
      clear hw4 hbx A4 X4 B4 T3 HB3 B3
      go_wp2_with fail
      go_loopg [13] os.length (fun gi i wr => ∃ (k : Nat) (L : List Ent) (p : Option Addr) (cap : Nat), k ≤ os.length ∧ gi = os.length - k ∧ i = .int .i64 (k : Int) ∧ L = actsP lim os k ∧ LawS wb (.slice pv os.length cv) os B g lim bx L L p cap k wr)
      case atStart => exact ⟨0, [], none, 0, Nat.zero_le _, rfl, rfl, rfl, S4.out⟩
      case round =>
        clear S4
        obtain ⟨k, L, p, cap, hk, hgi, rfl, hL, hs⟩ := hrel
        have HG := hid2 hgi
        have HLK := hid2 hL
        have SR := hid2 hs
        clear hgi hL hs
        by_cases hlt : k < os.length
        · have hki : (k : Int) < (os.length : Int) := by omega
          have hI : (0 : Int) ≤ (k : Int) ∧ (k : Int) < (os.length : Int) := by omega
          have htn : ((k : Int)).toNat = k := by omega
          obtain ⟨o, ho⟩ : ∃ o, os[k]? = some o := ⟨_, List.getElem?_eq_getElem hlt⟩
          have hok := h40.2 o (List.mem_of_getElem? ho)
          obtain ⟨ob, oo, q, c, pv', cv', e1, rfl, hobB, hro, hbq⟩ := SR.out.act ho
          cases e1
          have HO := hid2 ho
          obtain ⟨wd, hwd⟩ : ∃ wd, wd = World.drew wr := ⟨_, rfl⟩
          have hdr : Below wr.heap.size wr wd := by rw [hwd]; exact drew_below_m wr 1 _
          have SD := hid2 (SR.out.below hdr h0B)
          have KD := hid2 (do_same SD.out.t (Nat.le_trans hk (Nat.le_trans h40.1 (by omega))) SD.out.es SD.out.z o (hbq.stays hdr) SD.out.er h0B (Nat.le_trans hok.1 (by omega)) hok.2)
          have hS0 := hid2 (rng_old hdr hro)
          clear ho hro hbq hdr SR
          go_wp2_with fail
          refine wp_region_held_drew (S := fun W => W.rangeAt ob (oo + k * 7) [.int .i64 o.kind, .string o.x.key, .int .i64 o.x.ver, .int .i64 o.x.asof, .int .i64 o.x.ends, .slice q o.x.val.length c, .int .i64 o.now]) (by kernel_rfl) (by rw [← hwd]; exact hS0.out) (fun hS => ?_)
          rw [← hwd] at hS ⊢
          clear hwd hS0
          refine wpAnyH_take (i := 0) (v := .pointer (some ⟨g, 0, none⟩)) rfl (by kernel_rfl) (by kernel_rfl) (by kernel_rfl) (fun _ _ _ h => h) (Or.inl ⟨by kernel_rfl, ?_⟩) hS ?_
          · intro w hw; clear hw; go_simp
          change wpAnyH _ _ _ _ _ _ _ (Act.put _ (some 59) _) _
          simp only [Act.put, List.setIfInBounds_toArray, List.set_cons_succ, List.set_cons_zero]
          refine wpAnyH_take (i := 2) (v := .slice (some ⟨ob, oo, none⟩) os.length cv) rfl (by kernel_rfl) (by kernel_rfl) (by kernel_rfl) (fun _ _ _ h => h) (Or.inl ⟨by kernel_rfl, ?_⟩) hS ?_
          · intro w hw; clear hw; go_simp
          change wpAnyH _ _ _ _ _ _ _ (Act.put _ (some 61) _) _
          simp only [Act.put, List.setIfInBounds_toArray, List.set_cons_succ, List.set_cons_zero]
          refine wpAnyH_take (i := 3) (v := .int .i64 (k : Int)) rfl (by kernel_rfl) (by kernel_rfl) (by kernel_rfl) (fun _ _ _ h => h) (Or.inl ⟨by kernel_rfl, ?_⟩) hS ?_
          · intro w hw; clear hw; go_simp
          change wpAnyH _ _ _ _ _ _ _ (Act.put _ (some 62) _) _
          simp only [Act.put, List.setIfInBounds_toArray, List.set_cons_succ, List.set_cons_zero]
          refine wpAnyH_take (i := 4) (v := .pointer (some ⟨ob, oo + k * 7, none⟩)) rfl (by kernel_rfl) (by kernel_rfl) (by kernel_rfl) (fun _ _ _ h => h) (Or.inl ⟨by kernel_rfl, ?_⟩) hS ?_
          · intro w hw; clear hw; go_simp
          change wpAnyH _ _ _ _ _ _ _ (Act.put _ (some 63) _) _
          simp only [Act.put, List.setIfInBounds_toArray, List.set_cons_succ, List.set_cons_zero]
          refine wpAnyH_take (i := 5) (v := (.agg #[.int .i64 o.kind, .string o.x.key, .int .i64 o.x.ver, .int .i64 o.x.asof, .int .i64 o.x.ends, .slice q o.x.val.length c, .int .i64 o.now])) rfl (by kernel_rfl) (by kernel_rfl) (by kernel_rfl) (fun _ _ _ h => h) (yieldsIf_load_mid (by kernel_rfl) 44 (.tmp 63) rfl ob (oo + k * 7) rfl ([.int .i64 o.kind, .string o.x.key, .int .i64 o.x.ver, .int .i64 o.x.asof, .int .i64 o.x.ends, .slice q o.x.val.length c, .int .i64 o.now]) _ (fun W hw => hw) und44.choose_spec rfl (size44)) hS ?_
          change wpAnyH _ _ _ _ _ _ _ (Act.put _ (some 64) _) _
          simp only [Act.put, List.setIfInBounds_toArray, List.set_cons_succ, List.set_cons_zero]
          refine wpAnyH_ready (rs := [1]) (by kernel_rfl) (by simp) ?_
          refine AllReadyH.cons rfl (fun K hK => ?_) AllReadyH.nil
          rw [if_pos (by kernel_rfl)]
          refine wp_load_mid 37 (.tmp 11) rfl bx 0 rfl [.int .i64 lim, .slice p L.length cap] _ (two_range SD.out.bx) und_rm.choose_spec rfl size_rm ?_
          refine hK.out _ _ (hS) (fun hS => ?_)
          clear hK K
          skip
          refine wpAnyH_ready (rs := [6]) (by kernel_rfl) (by simp) ?_
          refine AllReadyH.cons rfl (fun K hK => ?_) AllReadyH.nil
          go_simp
          go_wp2_with fail
          refine (show Calls _ _ _ _ _ from KD.out).mono ?_
          rintro e w6 ⟨p', cap', rfl, hes, hz', ht, hf⟩
          refine hK.out _ _ (rng_fr hf hobB hS) (fun hS => ?_)
          clear hK K
          skip
          refine wpAnyH_take (i := 7) (v := .tuple #[.agg #[.int .i64 lim, .slice p' (actP lim L o).length cap'], .bool true]) rfl (by kernel_rfl) (by kernel_rfl) (by kernel_rfl) (fun _ _ _ h => h) (Or.inl ⟨by kernel_rfl, ?_⟩) hS ?_
          · intro w hw; clear hw; go_simp
          change wpAnyH _ _ _ _ _ _ _ (Act.put _ (some 58) _) _
          simp only [Act.put, List.setIfInBounds_toArray, List.set_cons_succ, List.set_cons_zero]
          refine wpAnyH_take (i := 8) (v := .agg #[.int .i64 lim, .slice p' (actP lim L o).length cap']) rfl (by kernel_rfl) (by kernel_rfl) (by kernel_rfl) (fun _ _ _ h => h) (Or.inl ⟨by kernel_rfl, ?_⟩) hS ?_
          · intro w hw; clear hw; go_simp
          change wpAnyH _ _ _ _ _ _ _ (Act.put _ (some 66) _) _
          simp only [Act.put, List.setIfInBounds_toArray, List.set_cons_succ, List.set_cons_zero]
          refine wpAnyH_take (i := 9) (v := .bool true) rfl (by kernel_rfl) (by kernel_rfl) (by kernel_rfl) (fun _ _ _ h => h) (Or.inl ⟨by kernel_rfl, ?_⟩) hS ?_
          · intro w hw; clear hw; go_simp
          change wpAnyH _ _ _ _ _ _ _ (Act.put _ (some 67) _) _
          simp only [Act.put, List.setIfInBounds_toArray, List.set_cons_succ, List.set_cons_zero]
          refine wpAnyH_ready (rs := [10]) (by kernel_rfl) (by simp) ?_
          refine AllReadyH.cons rfl (fun K hK => ?_) AllReadyH.nil
          refine step_st37 rfl (.tmp 11) (.tmp 66) rfl bx rfl _ _ _ (SD.out.bx.fr hf) rfl rfl ⟨rfl, rfl⟩ ?_
          intro wz TZ gz
          refine hK.out _ _ (rng_grown hS gz (by have := HBX.out; omega)) (fun hS => ?_)
          clear hK K
          change wpAnyH _ _ _ _ _ _ _ (Act.put _ (none) _) _
          simp only [Act.put]
          refine wpAnyH_done (by kernel_rfl) ?_ _
          have SZ := hid2 (SD.out.put hf ht hes hz' gz TZ h0B HBX.out HBW.out)
          clear hes hz' ht hf TZ gz hS
          go_wp2
          go_roundg (os.length - (k + 1))
          case measure => rw [HG.out]; omega
          case rel => exact ⟨k + 1, _, p', cap', by omega, rfl, by go_num, by rw [actsP_succ HO.out, ← HLK.out], SZ.out⟩
        · have hki : ¬ ((k : Int) < (os.length : Int)) := by omega
          obtain rfl : k = os.length := by omega
          clear hlt HG
          have hf0 := SR.out.t.fine
          have HA9 := hid2 (allE_perm hf0.1)
          have HND := hid2 hf0.2.1
          have HFI := hid2 hf0.1
          have hL6 := hf0.2.2.2.2.2.1
          have hAl : (allE L 9).length = L.length := HA9.out.length_eq
          have KALL := hid2 (all_t SR.out.t)
          have hsgl := set_gone lim L x now
          have HSB := hid2 (fun h => set_bad (lim := lim) (L := L) (x := x) (now := now) h)
          have HST := hid2 (fun (A2 : List Ent) (y : Ent) hc (hA : A2.Perm (setP lim L x now).1) h1 h2 h3 => set_told (lim := lim) (L := L) (x := x) (y := y) (now := now) (A := A2) hc hf0.2.1 hA h1 h2 h3)
          generalize hAE : allE L 9 = A at *
          have HAE := hid2 hAE
          clear hAE
          have hA6 : A.length ≤ 640 := by omega
          have HAL := hid2 hAl
          clear hf0 hAl hki hk
          go_wp2_with fail
          refine (show Calls _ _ _ _ _ from KALL.out).mono ?_
          rintro e w5 ⟨vw, rfl, hes, hb⟩
          obtain ⟨pw, cw, rfl, hcw1, hcw2⟩ := hes.form
          unfold maxLen at hcw2
          have S5 := hid2 (SR.out.below hb h0B)
          have W5 := hid2 hes
          have HB5 : Hid (B ≤ w5.heap.size) := Nat.le_trans HBX.out (Nat.le_of_lt S5.out.bx.tag.lt)
          clear hes hb KALL SR
          have X5 := hid2 (heap_stays XB.out S5.out.be)
          have KS := hid2 (set_n S5.out.t (Nat.le_trans h40.1 (by omega)) x ((QB.out.stays S5.out.be).mono (Nat.le_trans HAB.out.size HBW.out)) (Nat.le_trans hxl.1 (by omega)) hxl.2 now)
          generalize setP lim L x now = sp at *
          obtain ⟨L', gn, cd⟩ := sp
          dsimp only at KS HSB HST
          obtain ⟨⟨q0, q1, q2, q3, q4⟩, qf⟩ := Ite.five24 X5.out
          go_wp2_with fail
          refine (show Calls _ _ _ _ _ from KS.out).mono ?_
          rintro e w6 ⟨gv, ev, rfl, hes, hfl, hf, ht⟩
          obtain ⟨gp, gc, rfl, hgc1, hgc2⟩ := hes.1.form
          have T6 := hid2 ht
          have G6 := hid2 hes
          have W6 := hid2 (W5.out.fr hf)
          have B6 := hid2 (S5.out.be.trans ((hf.below HB5.out).mono HBW.out))
          have X6 := hid2 (hf.ent X5.out (by decide))
          unfold maxLen at hgc2
          clear ht hes hf KS S5 W5 HB5 X5 q0 q1 q2 q3 q4 qf
          by_cases hcd : cd = 0
          · subst hcd
            obtain rfl := Ite.Fault1.zero hfl
            clear hfl
            have hA2f := allE_perm T6.out.fine.1
            have hA2l : (allE L' 9).length ≤ 640 := by rw [hA2f.length_eq]; exact T6.out.fine.2.2.2.2.2.1
            have HIN := hid2 (fun y (hy : y ∈ A) (h2 : y.key ≠ x.key) (h3 : lv y now = true) => HST.out (allE L' 9) y rfl hA2f (HA9.out.mem_iff.1 hy) h2 h3)
            have KA := hid2 (all_own T6.out)
            generalize allE L' 9 = A2 at *
            have hgl : gn.length ≤ 640 := by omega
            clear hA2f
            obtain ⟨I, hIe⟩ : ∃ I, I = A2 ++ gn := ⟨_, rfl⟩
            rw [← hIe] at HIN
            have hIl : I.length = A2.length + gn.length := by rw [hIe, List.length_append]
            have hI6 : I.length ≤ 2000 := by omega
            have HIE := hid2 hIe
            have HIL := hid2 hIl
            clear hIe hIl HST HSB
            go_upto_region 15 with fail
            go_cut [17] (fun v8 wx => ∃ cs8, wx.ownsRow w6.heap.size 25 5 v8 I.length cs8 ∧ EQ wx B I cs8 ∧ Below w6.heap.size w6 wx)
            case first =>
              go_wp2_with fail
              refine (show Calls _ _ _ _ _ from KA.out).mono ?_
              rintro e w7 ⟨v7, cs7, rfl, ho7, hq7, hb7⟩
              have O7 := hid2 ho7
              have Q7 := hid2 hq7
              have HS7 : Hid (w6.heap.size ≤ w7.heap.size) := hb7.size
              have B67 := hid2 hb7
              have G7 := hid2 (G6.out.stays hb7)
              clear ho7 hq7 hb7 KA
              obtain ⟨i0, hi0, hz0, hz1, hz2⟩ := info_parts info_en
              rcases G7.out.src with ⟨rfl, rfl, rfl, _⟩ | ⟨ga, gcs, rfl, _, gq, gcl⟩
              · go_wp2_with (at_builtin; refine wpList_append_own_none rfl (.tmp 92) (.tmp 93) 35 rfl w6.heap.size 25 i0 5 Tryz.underlying35 hi0 v7 A2.length cs7 rfl O7.out rfl ?_)
                go_meet
                have e : I = A2 := by rw [HIE.out, List.append_nil]
                rw [e]
                exact ⟨cs7, O7.out, Q7.out, B67.out⟩
              · have GQ := hid2 gq
                have GC := hid2 gcl
                clear gq gcl
                go_wp2_with (at_builtin; refine wpList_append_own _ rfl (.tmp 92) (.tmp 93) 35 rfl w6.heap.size 25 i0 (.agg #[.string ⟨#[]⟩, .int .i64 0, .int .i64 0, .int .i64 0, .slice none 0 0]) 5 64 Tryz.underlying35 hi0 hz0 hz1 hz2 rfl (by decide) _ A2.length cs7 rfl O7.out ga gn.length gc gcs rfl (by rw [GQ.out.length]) GC.out (GQ.out.one) (by unfold maxLen; omega) (by omega) HS7.out ?_; intro v8 w8 hown8 hgrow8 _)
                have GG := row_grown (Below.refl w7.heap.size w7) O7.out hgrow8 (Fr.of (B := w6.heap.size) B67.out) (Nat.le_refl _) (Nat.le_refl _)
                have BB := below_row B67.out (Below.refl w7.heap.size w7) O7.out hgrow8
                have RG : Rg 25 B w7 w8 := ⟨GG.2.size, fun k hk h => GG.2.block k hk (h.imp (fun h => Nat.lt_of_lt_of_le h (Nat.le_of_lt T6.out.fine.2.2.2.2.2.2)) id)⟩
                go_meet
                rw [HIL.out, HIE.out]
                exact ⟨cs7 ++ gcs, hown8, (Q7.out.keep (RG.bq good_ent.2)).append (GQ.out.keep (RG.bq good_ent.2)), BB⟩
            case rest =>
              obtain ⟨cs8, ho, hq, hb⟩ := hcut
              have IS := hid2 (Es.own ho rfl hq)
              obtain ⟨pI, cI, rfl, hcI1, hcI2⟩ := (Es.own ho rfl hq).form
              unfold maxLen at hcI2
              have WC := hid2 (W6.out.stays hb)
              have XC := hid2 (heap_stays X6.out hb)
              have BC := hid2 (B6.out.trans (hb.mono B6.out.size))
              clear ho hq hb W6 X6 B6 T6 G6 KA
              go_wp2_with fail
              go_loopg [18] A.length (fun gi i wr2 => ∃ j : Nat, j ≤ A.length ∧ gi = A.length - j ∧ i = .int .i64 (j : Int) ∧ Below wc.heap.size wc wr2)
              case atStart => exact ⟨0, Nat.zero_le _, rfl, rfl, Below.refl _ _⟩
              case round =>
                obtain ⟨j, hj, hgi, rfl, hbr⟩ := hrel
                have HG := hid2 hgi
                have BR := hid2 hbr
                clear hgi hbr
                by_cases hjl : j < A.length
                · obtain ⟨y, hy⟩ : ∃ y, A[j]? = some y := ⟨_, List.getElem?_eq_getElem hjl⟩
                  have HMEM := hid2 (HIN.out y (List.mem_of_getElem? hy))
                  obtain ⟨wd, hwd⟩ : ∃ wd, wd = World.drew wr := ⟨_, rfl⟩
                  have hdr : Below wr.heap.size wr wd := by rw [hwd]; exact drew_below_m wr 1 _
                  have BD := hid2 (BR.out.trans (hdr.mono BR.out.size))
                  obtain ⟨bw, ow, qw, cw', rfl, hrw, hbw, _⟩ := (WC.out.stays BD.out).look hy
                  have HRW := hid2 hrw
                  have HBW2 := hid2 hbw
                  have r0 : wd.cell? ⟨bw, ow + j * 5, none⟩ = some (.string y.key) := hrw 0 _ rfl
                  have x0 : wd.cell? ⟨w.heap.size, 0, none⟩ = some (.string x.key) := box_range (heap_stays XC.out BD.out) 0 _ rfl
                  have KL2 := hid2 (fun W => Ite.rlive_any y.key y.ver y.asof y.ends now qw y.val.length cw' W)
                  rw [show Ite.liveB y.ends now = lv y now from rfl] at KL2
                  have hI : (0 : Int) ≤ (j : Int) ∧ (j : Int) < (A.length : Int) := by omega
                  have htn : ((j : Int)).toNat = j := by omega
                  clear hy hrw hbw hdr
                  by_cases hke : y.key = x.key
                  · go_wp2_with fail
                    refine wp_region_held_drew (S := fun W => Below wd.heap.size wd W) (by kernel_rfl) (by rw [← hwd]; exact Below.refl _ _) (fun hS => ?_)
                    rw [← hwd] at hS ⊢
                    clear hwd
                    refine wpAnyH_take (i := 0) (v := .slice (some ⟨bw, ow, none⟩) A.length cw) rfl (by kernel_rfl) (by kernel_rfl) (by kernel_rfl) (fun _ _ _ h => h) (Or.inl ⟨by kernel_rfl, ?_⟩) hS ?_
                    · intro w hw; clear hw; go_simp
                    change wpAnyH _ _ _ _ _ _ _ (Act.put _ (some 101) _) _
                    simp only [Act.put, List.setIfInBounds_toArray, List.set_cons_succ, List.set_cons_zero]
                    refine wpAnyH_take (i := 1) (v := .int .i64 (j : Int)) rfl (by kernel_rfl) (by kernel_rfl) (by kernel_rfl) (fun _ _ _ h => h) (Or.inl ⟨by kernel_rfl, ?_⟩) hS ?_
                    · intro w hw; clear hw; go_simp
                    change wpAnyH _ _ _ _ _ _ _ (Act.put _ (some 102) _) _
                    simp only [Act.put, List.setIfInBounds_toArray, List.set_cons_succ, List.set_cons_zero]
                    refine wpAnyH_take (i := 2) (v := .pointer (some ⟨bw, ow + j * 5, none⟩)) rfl (by kernel_rfl) (by kernel_rfl) (by kernel_rfl) (fun _ _ _ h => h) (Or.inl ⟨by kernel_rfl, ?_⟩) hS ?_
                    · intro w hw; clear hw; go_simp
                    change wpAnyH _ _ _ _ _ _ _ (Act.put _ (some 103) _) _
                    simp only [Act.put, List.setIfInBounds_toArray, List.set_cons_succ, List.set_cons_zero]
                    refine wpAnyH_take (i := 3) (v := .pointer (some ⟨bw, ow + j * 5, none⟩)) rfl (by kernel_rfl) (by kernel_rfl) (by kernel_rfl) (fun _ _ _ h => h) (Or.inl ⟨by kernel_rfl, ?_⟩) hS ?_
                    · intro w hw; clear hw; go_simp
                    change wpAnyH _ _ _ _ _ _ _ (Act.put _ (some 104) _) _
                    simp only [Act.put, List.setIfInBounds_toArray, List.set_cons_succ, List.set_cons_zero]
                    refine wpAnyH_take (i := 4) (v := .string y.key) rfl (by kernel_rfl) (by kernel_rfl) (by kernel_rfl) (fun _ _ _ h => h) (Or.inl ⟨by kernel_rfl, ?_⟩) hS ?_
                    · intro W hw
                      have e := (Below.cell hw (p := _) (World.block_lt_of_cell? _ _ r0)).trans r0
                      clear hw
                      go_simp
                    change wpAnyH _ _ _ _ _ _ _ (Act.put _ (some 105) _) _
                    simp only [Act.put, List.setIfInBounds_toArray, List.set_cons_succ, List.set_cons_zero]
                    refine wpAnyH_take (i := 5) (v := .pointer (some ⟨w.heap.size, 0, none⟩)) rfl (by kernel_rfl) (by kernel_rfl) (by kernel_rfl) (fun _ _ _ h => h) (Or.inl ⟨by kernel_rfl, ?_⟩) hS ?_
                    · intro w hw; clear hw; go_simp
                    change wpAnyH _ _ _ _ _ _ _ (Act.put _ (some 106) _) _
                    simp only [Act.put, List.setIfInBounds_toArray, List.set_cons_succ, List.set_cons_zero]
                    refine wpAnyH_take (i := 6) (v := .string x.key) rfl (by kernel_rfl) (by kernel_rfl) (by kernel_rfl) (fun _ _ _ h => h) (Or.inl ⟨by kernel_rfl, ?_⟩) hS ?_
                    · intro W hw
                      have e := (Below.cell hw (p := _) (World.block_lt_of_cell? _ _ x0)).trans x0
                      clear hw
                      go_simp
                    change wpAnyH _ _ _ _ _ _ _ (Act.put _ (some 107) _) _
                    simp only [Act.put, List.setIfInBounds_toArray, List.set_cons_succ, List.set_cons_zero]
                    refine wpAnyH_take (i := 7) (v := .bool true) rfl (by kernel_rfl) (by kernel_rfl) (by kernel_rfl) (fun _ _ _ h => h) (Or.inl ⟨by kernel_rfl, ?_⟩) hS ?_
                    · intro w hw; clear hw; go_simp
                    change wpAnyH _ _ _ _ _ _ _ (Act.put _ (some 108) _) _
                    simp only [Act.put, List.setIfInBounds_toArray, List.set_cons_succ, List.set_cons_zero]
                    refine wpAnyH_take (i := 8) (v := .bool true) rfl (by kernel_rfl) (by kernel_rfl) (by kernel_rfl) (fun _ _ _ h => h) (Or.inl ⟨by kernel_rfl, ?_⟩) hS ?_
                    · intro w hw; clear hw; go_simp
                    change wpAnyH _ _ _ _ _ _ _ (Act.put _ (some 109) _) _
                    simp only [Act.put, List.setIfInBounds_toArray, List.set_cons_succ, List.set_cons_zero]
                    refine wpAnyH_take (i := 9) (v := undef) rfl (by kernel_rfl) (by kernel_rfl) (by kernel_rfl) (fun _ _ _ h => h) (Or.inr ⟨by kernel_rfl, rfl⟩) hS ?_
                    change wpAnyH _ _ _ _ _ _ _ (Act.put _ (some 110) _) _
                    simp only [Act.put, List.setIfInBounds_toArray, List.set_cons_succ, List.set_cons_zero]
                    refine wpAnyH_take (i := 10) (v := undef) rfl (by kernel_rfl) (by kernel_rfl) (by kernel_rfl) (fun _ _ _ h => h) (Or.inr ⟨by kernel_rfl, rfl⟩) hS ?_
                    change wpAnyH _ _ _ _ _ _ _ (Act.put _ (some 111) _) _
                    simp only [Act.put, List.setIfInBounds_toArray, List.set_cons_succ, List.set_cons_zero]
                    refine wpAnyH_take (i := 11) (v := undef) rfl (by kernel_rfl) (by kernel_rfl) (by kernel_rfl) (fun _ _ _ h => h) (Or.inr ⟨by kernel_rfl, rfl⟩) hS ?_
                    change wpAnyH _ _ _ _ _ _ _ (Act.put _ (some 112) _) _
                    simp only [Act.put, List.setIfInBounds_toArray, List.set_cons_succ, List.set_cons_zero]
                    refine wpAnyH_take (i := 12) (v := undef) rfl (by kernel_rfl) (by kernel_rfl) (by kernel_rfl) (fun _ _ _ h => h) (Or.inr ⟨by kernel_rfl, rfl⟩) hS ?_
                    change wpAnyH _ _ _ _ _ _ _ (Act.put _ (some 113) _) _
                    simp only [Act.put, List.setIfInBounds_toArray, List.set_cons_succ, List.set_cons_zero]
                    refine wpAnyH_take (i := 13) (v := undef) rfl (by kernel_rfl) (by kernel_rfl) (by kernel_rfl) (fun _ _ _ h => h) (Or.inr ⟨by kernel_rfl, rfl⟩) hS ?_
                    change wpAnyH _ _ _ _ _ _ _ (Act.put _ (some 114) _) _
                    simp only [Act.put, List.setIfInBounds_toArray, List.set_cons_succ, List.set_cons_zero]
                    refine wpAnyH_take (i := 14) (v := undef) rfl (by kernel_rfl) (by kernel_rfl) (by kernel_rfl) (fun _ _ _ h => h) (Or.inr ⟨by kernel_rfl, rfl⟩) hS ?_
                    change wpAnyH _ _ _ _ _ _ _ (Act.put _ (some 115) _) _
                    simp only [Act.put, List.setIfInBounds_toArray, List.set_cons_succ, List.set_cons_zero]
                    refine wpAnyH_take (i := 15) (v := undef) rfl (by kernel_rfl) (by kernel_rfl) (by kernel_rfl) (fun _ _ _ h => h) (Or.inr ⟨by kernel_rfl, rfl⟩) hS ?_
                    change wpAnyH _ _ _ _ _ _ _ (Act.put _ (some 116) _) _
                    simp only [Act.put, List.setIfInBounds_toArray, List.set_cons_succ, List.set_cons_zero]
                    refine wpAnyH_take (i := 16) (v := .bool true) rfl (by kernel_rfl) (by kernel_rfl) (by kernel_rfl) (fun _ _ _ h => h) (Or.inl ⟨by kernel_rfl, ?_⟩) hS ?_
                    · intro w hw; clear hw; go_simp
                    change wpAnyH _ _ _ _ _ _ _ (Act.put _ (some 117) _) _
                    simp only [Act.put, List.setIfInBounds_toArray, List.set_cons_succ, List.set_cons_zero]
                    refine wpAnyH_done (by kernel_rfl) ?_ _
                    go_wp2
                    go_roundg (A.length - (j + 1))
                    case measure => rw [HG.out]; omega
                    case rel => exact ⟨j + 1, by omega, rfl, by go_num, BD.out.trans (hS.mono BD.out.size)⟩
                  · have hkt : ¬ y.key.toList = x.key.toList := fun e => hke (key_inj e)
                    cases hly : lv y now with
                    | false =>
                      rw [hly] at KL2
                      clear hly
                      go_wp2_with fail
                      refine wp_region_held_drew (S := fun W => Below wd.heap.size wd W) (by kernel_rfl) (by rw [← hwd]; exact Below.refl _ _) (fun hS => ?_)
                      rw [← hwd] at hS ⊢
                      clear hwd
                      refine wpAnyH_take (i := 0) (v := .slice (some ⟨bw, ow, none⟩) A.length cw) rfl (by kernel_rfl) (by kernel_rfl) (by kernel_rfl) (fun _ _ _ h => h) (Or.inl ⟨by kernel_rfl, ?_⟩) hS ?_
                      · intro w hw; clear hw; go_simp
                      change wpAnyH _ _ _ _ _ _ _ (Act.put _ (some 101) _) _
                      simp only [Act.put, List.setIfInBounds_toArray, List.set_cons_succ, List.set_cons_zero]
                      refine wpAnyH_take (i := 1) (v := .int .i64 (j : Int)) rfl (by kernel_rfl) (by kernel_rfl) (by kernel_rfl) (fun _ _ _ h => h) (Or.inl ⟨by kernel_rfl, ?_⟩) hS ?_
                      · intro w hw; clear hw; go_simp
                      change wpAnyH _ _ _ _ _ _ _ (Act.put _ (some 102) _) _
                      simp only [Act.put, List.setIfInBounds_toArray, List.set_cons_succ, List.set_cons_zero]
                      refine wpAnyH_take (i := 2) (v := .pointer (some ⟨bw, ow + j * 5, none⟩)) rfl (by kernel_rfl) (by kernel_rfl) (by kernel_rfl) (fun _ _ _ h => h) (Or.inl ⟨by kernel_rfl, ?_⟩) hS ?_
                      · intro w hw; clear hw; go_simp
                      change wpAnyH _ _ _ _ _ _ _ (Act.put _ (some 103) _) _
                      simp only [Act.put, List.setIfInBounds_toArray, List.set_cons_succ, List.set_cons_zero]
                      refine wpAnyH_take (i := 3) (v := .pointer (some ⟨bw, ow + j * 5, none⟩)) rfl (by kernel_rfl) (by kernel_rfl) (by kernel_rfl) (fun _ _ _ h => h) (Or.inl ⟨by kernel_rfl, ?_⟩) hS ?_
                      · intro w hw; clear hw; go_simp
                      change wpAnyH _ _ _ _ _ _ _ (Act.put _ (some 104) _) _
                      simp only [Act.put, List.setIfInBounds_toArray, List.set_cons_succ, List.set_cons_zero]
                      refine wpAnyH_take (i := 4) (v := .string y.key) rfl (by kernel_rfl) (by kernel_rfl) (by kernel_rfl) (fun _ _ _ h => h) (Or.inl ⟨by kernel_rfl, ?_⟩) hS ?_
                      · intro W hw
                        have e := (Below.cell hw (p := _) (World.block_lt_of_cell? _ _ r0)).trans r0
                        clear hw
                        go_simp
                      change wpAnyH _ _ _ _ _ _ _ (Act.put _ (some 105) _) _
                      simp only [Act.put, List.setIfInBounds_toArray, List.set_cons_succ, List.set_cons_zero]
                      refine wpAnyH_take (i := 5) (v := .pointer (some ⟨w.heap.size, 0, none⟩)) rfl (by kernel_rfl) (by kernel_rfl) (by kernel_rfl) (fun _ _ _ h => h) (Or.inl ⟨by kernel_rfl, ?_⟩) hS ?_
                      · intro w hw; clear hw; go_simp
                      change wpAnyH _ _ _ _ _ _ _ (Act.put _ (some 106) _) _
                      simp only [Act.put, List.setIfInBounds_toArray, List.set_cons_succ, List.set_cons_zero]
                      refine wpAnyH_take (i := 6) (v := .string x.key) rfl (by kernel_rfl) (by kernel_rfl) (by kernel_rfl) (fun _ _ _ h => h) (Or.inl ⟨by kernel_rfl, ?_⟩) hS ?_
                      · intro W hw
                        have e := (Below.cell hw (p := _) (World.block_lt_of_cell? _ _ x0)).trans x0
                        clear hw
                        go_simp
                      change wpAnyH _ _ _ _ _ _ _ (Act.put _ (some 107) _) _
                      simp only [Act.put, List.setIfInBounds_toArray, List.set_cons_succ, List.set_cons_zero]
                      refine wpAnyH_take (i := 7) (v := .bool false) rfl (by kernel_rfl) (by kernel_rfl) (by kernel_rfl) (fun _ _ _ h => h) (Or.inl ⟨by kernel_rfl, ?_⟩) hS ?_
                      · intro w hw; clear hw; go_simp
                      change wpAnyH _ _ _ _ _ _ _ (Act.put _ (some 108) _) _
                      simp only [Act.put, List.setIfInBounds_toArray, List.set_cons_succ, List.set_cons_zero]
                      refine wpAnyH_take (i := 8) (v := .bool false) rfl (by kernel_rfl) (by kernel_rfl) (by kernel_rfl) (fun _ _ _ h => h) (Or.inl ⟨by kernel_rfl, ?_⟩) hS ?_
                      · intro w hw; clear hw; go_simp
                      change wpAnyH _ _ _ _ _ _ _ (Act.put _ (some 109) _) _
                      simp only [Act.put, List.setIfInBounds_toArray, List.set_cons_succ, List.set_cons_zero]
                      refine wpAnyH_take (i := 9) (v := .slice (some ⟨bw, ow, none⟩) A.length cw) rfl (by kernel_rfl) (by kernel_rfl) (by kernel_rfl) (fun _ _ _ h => h) (Or.inl ⟨by kernel_rfl, ?_⟩) hS ?_
                      · intro w hw; clear hw; go_simp
                      change wpAnyH _ _ _ _ _ _ _ (Act.put _ (some 110) _) _
                      simp only [Act.put, List.setIfInBounds_toArray, List.set_cons_succ, List.set_cons_zero]
                      refine wpAnyH_take (i := 10) (v := .int .i64 (j : Int)) rfl (by kernel_rfl) (by kernel_rfl) (by kernel_rfl) (fun _ _ _ h => h) (Or.inl ⟨by kernel_rfl, ?_⟩) hS ?_
                      · intro w hw; clear hw; go_simp
                      change wpAnyH _ _ _ _ _ _ _ (Act.put _ (some 111) _) _
                      simp only [Act.put, List.setIfInBounds_toArray, List.set_cons_succ, List.set_cons_zero]
                      refine wpAnyH_take (i := 11) (v := .pointer (some ⟨bw, ow + j * 5, none⟩)) rfl (by kernel_rfl) (by kernel_rfl) (by kernel_rfl) (fun _ _ _ h => h) (Or.inl ⟨by kernel_rfl, ?_⟩) hS ?_
                      · intro w hw; clear hw; go_simp
                      change wpAnyH _ _ _ _ _ _ _ (Act.put _ (some 112) _) _
                      simp only [Act.put, List.setIfInBounds_toArray, List.set_cons_succ, List.set_cons_zero]
                      refine wpAnyH_take (i := 12) (v := (.agg #[.string y.key, .int .i64 y.ver, .int .i64 y.asof, .int .i64 y.ends, .slice qw y.val.length cw'])) rfl (by kernel_rfl) (by kernel_rfl) (by kernel_rfl) (fun _ _ _ h => h) (yieldsIf_load_mid (by kernel_rfl) 25 (.tmp 112) rfl bw (ow + j * 5) rfl ([.string y.key, .int .i64 y.ver, .int .i64 y.asof, .int .i64 y.ends, .slice qw y.val.length cw']) _ (fun W hw => rng_old hw HRW.out) Ite.Tryz.und24.choose_spec rfl (Ite.Tryz.size24)) hS ?_
                      change wpAnyH _ _ _ _ _ _ _ (Act.put _ (some 113) _) _
                      simp only [Act.put, List.setIfInBounds_toArray, List.set_cons_succ, List.set_cons_zero]
                      refine wpAnyH_take (i := 13) (v := .int .i64 now) rfl (by kernel_rfl) (by kernel_rfl) (by kernel_rfl) (fun _ _ _ h => h) (Or.inl ⟨by kernel_rfl, ?_⟩) hS ?_
                      · intro w hw; clear hw; go_simp
                      change wpAnyH _ _ _ _ _ _ _ (Act.put _ (some 114) _) _
                      simp only [Act.put, List.setIfInBounds_toArray, List.set_cons_succ, List.set_cons_zero]
                      refine wpAnyH_ready (rs := [14]) (by kernel_rfl) (by simp) ?_
                      refine AllReadyH.cons rfl (fun K hK => ?_) AllReadyH.nil
                      go_simp
                      go_wp2_with fail
                      refine (show Calls _ _ _ _ _ from KL2.out _).mono ?_
                      rintro e wl ⟨rfl, hbl⟩
                      have BD2 := hid2 (Below.trans hS (hbl.mono (Below.size hS)))
                      refine hK.out _ _ (Below.trans hS (hbl.mono (Below.size hS))) (fun hS => ?_)
                      clear hK K
                      skip
                      clear hbl
                      refine wpAnyH_take (i := 15) (v := .bool true) rfl (by kernel_rfl) (by kernel_rfl) (by kernel_rfl) (fun _ _ _ h => h) (Or.inl ⟨by kernel_rfl, ?_⟩) hS ?_
                      · intro w hw; clear hw; go_simp
                      change wpAnyH _ _ _ _ _ _ _ (Act.put _ (some 116) _) _
                      simp only [Act.put, List.setIfInBounds_toArray, List.set_cons_succ, List.set_cons_zero]
                      refine wpAnyH_take (i := 16) (v := .bool true) rfl (by kernel_rfl) (by kernel_rfl) (by kernel_rfl) (fun _ _ _ h => h) (Or.inl ⟨by kernel_rfl, ?_⟩) hS ?_
                      · intro w hw; clear hw; go_simp
                      change wpAnyH _ _ _ _ _ _ _ (Act.put _ (some 117) _) _
                      simp only [Act.put, List.setIfInBounds_toArray, List.set_cons_succ, List.set_cons_zero]
                      refine wpAnyH_done (by kernel_rfl) ?_ _
                      clear hS
                      go_wp2
                      go_roundg (A.length - (j + 1))
                      case measure => rw [HG.out]; omega
                      case rel => exact ⟨j + 1, by omega, rfl, by go_num, BD.out.trans (BD2.out.mono BD.out.size)⟩
                    | true =>
                      rw [hly] at KL2
                      obtain ⟨m, hm, hat⟩ := HMEM.out hke hly
                      have hIm : I[m]? = some y := by rw [← hat]; exact atE_get hm
                      have hml := idx_lt hm
                      have KF := hid2 (fun W (b : Below wc.heap.size wc W) => find_any (IS.out.stays b) y.key (by omega))
                      rw [find_some hm] at KF
                      have HIM := hid2 hIm
                      clear hly hm hat hIm HMEM
                      go_wp2_with fail
                      refine wp_region_held_drew (S := fun W => Below wd.heap.size wd W) (by kernel_rfl) (by rw [← hwd]; exact Below.refl _ _) (fun hS => ?_)
                      rw [← hwd] at hS ⊢
                      clear hwd
                      refine wpAnyH_take (i := 0) (v := .slice (some ⟨bw, ow, none⟩) A.length cw) rfl (by kernel_rfl) (by kernel_rfl) (by kernel_rfl) (fun _ _ _ h => h) (Or.inl ⟨by kernel_rfl, ?_⟩) hS ?_
                      · intro w hw; clear hw; go_simp
                      change wpAnyH _ _ _ _ _ _ _ (Act.put _ (some 101) _) _
                      simp only [Act.put, List.setIfInBounds_toArray, List.set_cons_succ, List.set_cons_zero]
                      refine wpAnyH_take (i := 1) (v := .int .i64 (j : Int)) rfl (by kernel_rfl) (by kernel_rfl) (by kernel_rfl) (fun _ _ _ h => h) (Or.inl ⟨by kernel_rfl, ?_⟩) hS ?_
                      · intro w hw; clear hw; go_simp
                      change wpAnyH _ _ _ _ _ _ _ (Act.put _ (some 102) _) _
                      simp only [Act.put, List.setIfInBounds_toArray, List.set_cons_succ, List.set_cons_zero]
                      refine wpAnyH_take (i := 2) (v := .pointer (some ⟨bw, ow + j * 5, none⟩)) rfl (by kernel_rfl) (by kernel_rfl) (by kernel_rfl) (fun _ _ _ h => h) (Or.inl ⟨by kernel_rfl, ?_⟩) hS ?_
                      · intro w hw; clear hw; go_simp
                      change wpAnyH _ _ _ _ _ _ _ (Act.put _ (some 103) _) _
                      simp only [Act.put, List.setIfInBounds_toArray, List.set_cons_succ, List.set_cons_zero]
                      refine wpAnyH_take (i := 3) (v := .pointer (some ⟨bw, ow + j * 5, none⟩)) rfl (by kernel_rfl) (by kernel_rfl) (by kernel_rfl) (fun _ _ _ h => h) (Or.inl ⟨by kernel_rfl, ?_⟩) hS ?_
                      · intro w hw; clear hw; go_simp
                      change wpAnyH _ _ _ _ _ _ _ (Act.put _ (some 104) _) _
                      simp only [Act.put, List.setIfInBounds_toArray, List.set_cons_succ, List.set_cons_zero]
                      refine wpAnyH_take (i := 4) (v := .string y.key) rfl (by kernel_rfl) (by kernel_rfl) (by kernel_rfl) (fun _ _ _ h => h) (Or.inl ⟨by kernel_rfl, ?_⟩) hS ?_
                      · intro W hw
                        have e := (Below.cell hw (p := _) (World.block_lt_of_cell? _ _ r0)).trans r0
                        clear hw
                        go_simp
                      change wpAnyH _ _ _ _ _ _ _ (Act.put _ (some 105) _) _
                      simp only [Act.put, List.setIfInBounds_toArray, List.set_cons_succ, List.set_cons_zero]
                      refine wpAnyH_take (i := 5) (v := .pointer (some ⟨w.heap.size, 0, none⟩)) rfl (by kernel_rfl) (by kernel_rfl) (by kernel_rfl) (fun _ _ _ h => h) (Or.inl ⟨by kernel_rfl, ?_⟩) hS ?_
                      · intro w hw; clear hw; go_simp
                      change wpAnyH _ _ _ _ _ _ _ (Act.put _ (some 106) _) _
                      simp only [Act.put, List.setIfInBounds_toArray, List.set_cons_succ, List.set_cons_zero]
                      refine wpAnyH_take (i := 6) (v := .string x.key) rfl (by kernel_rfl) (by kernel_rfl) (by kernel_rfl) (fun _ _ _ h => h) (Or.inl ⟨by kernel_rfl, ?_⟩) hS ?_
                      · intro W hw
                        have e := (Below.cell hw (p := _) (World.block_lt_of_cell? _ _ x0)).trans x0
                        clear hw
                        go_simp
                      change wpAnyH _ _ _ _ _ _ _ (Act.put _ (some 107) _) _
                      simp only [Act.put, List.setIfInBounds_toArray, List.set_cons_succ, List.set_cons_zero]
                      refine wpAnyH_take (i := 7) (v := .bool false) rfl (by kernel_rfl) (by kernel_rfl) (by kernel_rfl) (fun _ _ _ h => h) (Or.inl ⟨by kernel_rfl, ?_⟩) hS ?_
                      · intro w hw; clear hw; go_simp
                      change wpAnyH _ _ _ _ _ _ _ (Act.put _ (some 108) _) _
                      simp only [Act.put, List.setIfInBounds_toArray, List.set_cons_succ, List.set_cons_zero]
                      refine wpAnyH_take (i := 8) (v := .bool false) rfl (by kernel_rfl) (by kernel_rfl) (by kernel_rfl) (fun _ _ _ h => h) (Or.inl ⟨by kernel_rfl, ?_⟩) hS ?_
                      · intro w hw; clear hw; go_simp
                      change wpAnyH _ _ _ _ _ _ _ (Act.put _ (some 109) _) _
                      simp only [Act.put, List.setIfInBounds_toArray, List.set_cons_succ, List.set_cons_zero]
                      refine wpAnyH_take (i := 9) (v := .slice (some ⟨bw, ow, none⟩) A.length cw) rfl (by kernel_rfl) (by kernel_rfl) (by kernel_rfl) (fun _ _ _ h => h) (Or.inl ⟨by kernel_rfl, ?_⟩) hS ?_
                      · intro w hw; clear hw; go_simp
                      change wpAnyH _ _ _ _ _ _ _ (Act.put _ (some 110) _) _
                      simp only [Act.put, List.setIfInBounds_toArray, List.set_cons_succ, List.set_cons_zero]
                      refine wpAnyH_take (i := 10) (v := .int .i64 (j : Int)) rfl (by kernel_rfl) (by kernel_rfl) (by kernel_rfl) (fun _ _ _ h => h) (Or.inl ⟨by kernel_rfl, ?_⟩) hS ?_
                      · intro w hw; clear hw; go_simp
                      change wpAnyH _ _ _ _ _ _ _ (Act.put _ (some 111) _) _
                      simp only [Act.put, List.setIfInBounds_toArray, List.set_cons_succ, List.set_cons_zero]
                      refine wpAnyH_take (i := 11) (v := .pointer (some ⟨bw, ow + j * 5, none⟩)) rfl (by kernel_rfl) (by kernel_rfl) (by kernel_rfl) (fun _ _ _ h => h) (Or.inl ⟨by kernel_rfl, ?_⟩) hS ?_
                      · intro w hw; clear hw; go_simp
                      change wpAnyH _ _ _ _ _ _ _ (Act.put _ (some 112) _) _
                      simp only [Act.put, List.setIfInBounds_toArray, List.set_cons_succ, List.set_cons_zero]
                      refine wpAnyH_take (i := 12) (v := (.agg #[.string y.key, .int .i64 y.ver, .int .i64 y.asof, .int .i64 y.ends, .slice qw y.val.length cw'])) rfl (by kernel_rfl) (by kernel_rfl) (by kernel_rfl) (fun _ _ _ h => h) (yieldsIf_load_mid (by kernel_rfl) 25 (.tmp 112) rfl bw (ow + j * 5) rfl ([.string y.key, .int .i64 y.ver, .int .i64 y.asof, .int .i64 y.ends, .slice qw y.val.length cw']) _ (fun W hw => rng_old hw HRW.out) Ite.Tryz.und24.choose_spec rfl (Ite.Tryz.size24)) hS ?_
                      change wpAnyH _ _ _ _ _ _ _ (Act.put _ (some 113) _) _
                      simp only [Act.put, List.setIfInBounds_toArray, List.set_cons_succ, List.set_cons_zero]
                      refine wpAnyH_take (i := 13) (v := .int .i64 now) rfl (by kernel_rfl) (by kernel_rfl) (by kernel_rfl) (fun _ _ _ h => h) (Or.inl ⟨by kernel_rfl, ?_⟩) hS ?_
                      · intro w hw; clear hw; go_simp
                      change wpAnyH _ _ _ _ _ _ _ (Act.put _ (some 114) _) _
                      simp only [Act.put, List.setIfInBounds_toArray, List.set_cons_succ, List.set_cons_zero]
                      refine wpAnyH_ready (rs := [14]) (by kernel_rfl) (by simp) ?_
                      refine AllReadyH.cons rfl (fun K hK => ?_) AllReadyH.nil
                      go_simp
                      go_wp2_with fail
                      refine (show Calls _ _ _ _ _ from KL2.out _).mono ?_
                      rintro e wl ⟨rfl, hbl⟩
                      have BD2 := hid2 (Below.trans hS (hbl.mono (Below.size hS)))
                      refine hK.out _ _ (Below.trans hS (hbl.mono (Below.size hS))) (fun hS => ?_)
                      clear hK K
                      skip
                      clear hbl
                      refine wpAnyH_take (i := 15) (v := .bool false) rfl (by kernel_rfl) (by kernel_rfl) (by kernel_rfl) (fun _ _ _ h => h) (Or.inl ⟨by kernel_rfl, ?_⟩) hS ?_
                      · intro w hw; clear hw; go_simp
                      change wpAnyH _ _ _ _ _ _ _ (Act.put _ (some 116) _) _
                      simp only [Act.put, List.setIfInBounds_toArray, List.set_cons_succ, List.set_cons_zero]
                      refine wpAnyH_take (i := 16) (v := .bool false) rfl (by kernel_rfl) (by kernel_rfl) (by kernel_rfl) (fun _ _ _ h => h) (Or.inl ⟨by kernel_rfl, ?_⟩) hS ?_
                      · intro w hw; clear hw; go_simp
                      change wpAnyH _ _ _ _ _ _ _ (Act.put _ (some 117) _) _
                      simp only [Act.put, List.setIfInBounds_toArray, List.set_cons_succ, List.set_cons_zero]
                      refine wpAnyH_done (by kernel_rfl) ?_ _
                      clear hS
                      have BX2 := hid2 (BD.out.trans (BD2.out.mono BD.out.size))
                      have r1 : wl.cell? ⟨bw, ow + j * 5, none⟩ = some (.string y.key) := rng_old BD2.out HRW.out 0 _ rfl
                      have hblt := World.block_lt_of_cell? _ _ r1
                      clear r0 x0
                      go_wp2_with fail
                      refine (show Calls _ _ _ _ _ from KF.out _ BX2.out).mono ?_
                      rintro e wf ⟨rfl, hwf⟩
                      rw [hwf]
                      clear hwf wf
                      obtain ⟨wd2, hwd⟩ : ∃ wd2, wd2 = World.drew wl := ⟨_, rfl⟩
                      have hdr : Below wl.heap.size wl wd2 := by rw [hwd]; exact drew_below_m wl 1 _
                      have BX3 := hid2 (BX2.out.trans (hdr.mono BX2.out.size))
                      obtain ⟨bi, oi, qi, ci', rfl, hri, hbi, _⟩ := (IS.out.stays BX3.out).look HIM.out
                      have HRI := hid2 hri
                      have HRW2 := hid2 (rng_old hdr (rng_old BD2.out HRW.out))
                      have KS2 := Ite.rsame6_any y.key y.key y.ver y.asof y.ends y.ver y.asof y.ends hbi.bs ((HBW2.out.stays BD2.out).stays hdr).bs
                      rw [Ite.sameB_self] at KS2
                      have KS2 := hid2 KS2
                      have hIm1 : (0 : Int) ≤ (m : Int) ∧ (m : Int) < (I.length : Int) := by omega
                      have hIm0 : ¬ (m : Int) < 0 := by omega
                      have hmtn : ((m : Int)).toNat = m := by omega
                      clear hri hbi hdr r1 hblt
                      go_wp2_with fail
                      refine wp_region_held_drew (S := fun W => Below wd2.heap.size wd2 W) (by kernel_rfl) (by rw [← hwd]; exact Below.refl _ _) (fun hS => ?_)
                      rw [← hwd] at hS ⊢
                      clear hwd
                      refine wpAnyH_take (i := 0) (v := .int .i64 (m : Int)) rfl (by kernel_rfl) (by kernel_rfl) (by kernel_rfl) (fun _ _ _ h => h) (Or.inl ⟨by kernel_rfl, ?_⟩) hS ?_
                      · intro w hw; clear hw; go_simp
                      change wpAnyH _ _ _ _ _ _ _ (Act.put _ (some 125) _) _
                      simp only [Act.put, List.setIfInBounds_toArray, List.set_cons_succ, List.set_cons_zero]
                      refine wpAnyH_take (i := 1) (v := .bool false) rfl (by kernel_rfl) (by kernel_rfl) (by kernel_rfl) (fun _ _ _ h => h) (Or.inl ⟨by kernel_rfl, ?_⟩) hS ?_
                      · intro w hw; clear hw; go_simp
                      change wpAnyH _ _ _ _ _ _ _ (Act.put _ (some 126) _) _
                      simp only [Act.put, List.setIfInBounds_toArray, List.set_cons_succ, List.set_cons_zero]
                      refine wpAnyH_take (i := 2) (v := .bool false) rfl (by kernel_rfl) (by kernel_rfl) (by kernel_rfl) (fun _ _ _ h => h) (Or.inl ⟨by kernel_rfl, ?_⟩) hS ?_
                      · intro w hw; clear hw; go_simp
                      change wpAnyH _ _ _ _ _ _ _ (Act.put _ (some 127) _) _
                      simp only [Act.put, List.setIfInBounds_toArray, List.set_cons_succ, List.set_cons_zero]
                      refine wpAnyH_take (i := 3) (v := .slice (some ⟨bi, oi, none⟩) I.length cI) rfl (by kernel_rfl) (by kernel_rfl) (by kernel_rfl) (fun _ _ _ h => h) (Or.inl ⟨by kernel_rfl, ?_⟩) hS ?_
                      · intro w hw; clear hw; go_simp
                      change wpAnyH _ _ _ _ _ _ _ (Act.put _ (some 128) _) _
                      simp only [Act.put, List.setIfInBounds_toArray, List.set_cons_succ, List.set_cons_zero]
                      refine wpAnyH_take (i := 4) (v := .int .i64 (m : Int)) rfl (by kernel_rfl) (by kernel_rfl) (by kernel_rfl) (fun _ _ _ h => h) (Or.inl ⟨by kernel_rfl, ?_⟩) hS ?_
                      · intro w hw; clear hw; go_simp
                      change wpAnyH _ _ _ _ _ _ _ (Act.put _ (some 129) _) _
                      simp only [Act.put, List.setIfInBounds_toArray, List.set_cons_succ, List.set_cons_zero]
                      refine wpAnyH_take (i := 5) (v := .pointer (some ⟨bi, oi + m * 5, none⟩)) rfl (by kernel_rfl) (by kernel_rfl) (by kernel_rfl) (fun _ _ _ h => h) (Or.inl ⟨by kernel_rfl, ?_⟩) hS ?_
                      · intro w hw; clear hw; go_simp
                      change wpAnyH _ _ _ _ _ _ _ (Act.put _ (some 130) _) _
                      simp only [Act.put, List.setIfInBounds_toArray, List.set_cons_succ, List.set_cons_zero]
                      refine wpAnyH_take (i := 6) (v := (.agg #[.string y.key, .int .i64 y.ver, .int .i64 y.asof, .int .i64 y.ends, .slice qi y.val.length ci'])) rfl (by kernel_rfl) (by kernel_rfl) (by kernel_rfl) (fun _ _ _ h => h) (yieldsIf_load_mid (by kernel_rfl) 25 (.tmp 130) rfl bi (oi + m * 5) rfl ([.string y.key, .int .i64 y.ver, .int .i64 y.asof, .int .i64 y.ends, .slice qi y.val.length ci']) _ (fun W hw => rng_old hw HRI.out) Ite.Tryz.und24.choose_spec rfl (Ite.Tryz.size24)) hS ?_
                      change wpAnyH _ _ _ _ _ _ _ (Act.put _ (some 131) _) _
                      simp only [Act.put, List.setIfInBounds_toArray, List.set_cons_succ, List.set_cons_zero]
                      refine wpAnyH_take (i := 7) (v := .slice (some ⟨bw, ow, none⟩) A.length cw) rfl (by kernel_rfl) (by kernel_rfl) (by kernel_rfl) (fun _ _ _ h => h) (Or.inl ⟨by kernel_rfl, ?_⟩) hS ?_
                      · intro w hw; clear hw; go_simp
                      change wpAnyH _ _ _ _ _ _ _ (Act.put _ (some 132) _) _
                      simp only [Act.put, List.setIfInBounds_toArray, List.set_cons_succ, List.set_cons_zero]
                      refine wpAnyH_take (i := 8) (v := .int .i64 (j : Int)) rfl (by kernel_rfl) (by kernel_rfl) (by kernel_rfl) (fun _ _ _ h => h) (Or.inl ⟨by kernel_rfl, ?_⟩) hS ?_
                      · intro w hw; clear hw; go_simp
                      change wpAnyH _ _ _ _ _ _ _ (Act.put _ (some 133) _) _
                      simp only [Act.put, List.setIfInBounds_toArray, List.set_cons_succ, List.set_cons_zero]
                      refine wpAnyH_take (i := 9) (v := .pointer (some ⟨bw, ow + j * 5, none⟩)) rfl (by kernel_rfl) (by kernel_rfl) (by kernel_rfl) (fun _ _ _ h => h) (Or.inl ⟨by kernel_rfl, ?_⟩) hS ?_
                      · intro w hw; clear hw; go_simp
                      change wpAnyH _ _ _ _ _ _ _ (Act.put _ (some 134) _) _
                      simp only [Act.put, List.setIfInBounds_toArray, List.set_cons_succ, List.set_cons_zero]
                      refine wpAnyH_take (i := 10) (v := (.agg #[.string y.key, .int .i64 y.ver, .int .i64 y.asof, .int .i64 y.ends, .slice qw y.val.length cw'])) rfl (by kernel_rfl) (by kernel_rfl) (by kernel_rfl) (fun _ _ _ h => h) (yieldsIf_load_mid (by kernel_rfl) 25 (.tmp 134) rfl bw (ow + j * 5) rfl ([.string y.key, .int .i64 y.ver, .int .i64 y.asof, .int .i64 y.ends, .slice qw y.val.length cw']) _ (fun W hw => rng_old hw HRW2.out) Ite.Tryz.und24.choose_spec rfl (Ite.Tryz.size24)) hS ?_
                      change wpAnyH _ _ _ _ _ _ _ (Act.put _ (some 135) _) _
                      simp only [Act.put, List.setIfInBounds_toArray, List.set_cons_succ, List.set_cons_zero]
                      refine wpAnyH_ready (rs := [11]) (by kernel_rfl) (by simp) ?_
                      refine AllReadyH.cons rfl (fun K hK => ?_) AllReadyH.nil
                      go_simp
                      go_wp2_with fail
                      refine (show Calls _ _ _ _ _ from KS2.out).mono ?_
                      rintro e wl ⟨rfl, hbl⟩
                      have BD3 := hid2 (Below.trans hS (hbl.mono (Below.size hS)))
                      refine hK.out _ _ (Below.trans hS (hbl.mono (Below.size hS))) (fun hS => ?_)
                      clear hK K
                      skip
                      clear hbl
                      refine wpAnyH_take (i := 12) (v := .bool false) rfl (by kernel_rfl) (by kernel_rfl) (by kernel_rfl) (fun _ _ _ h => h) (Or.inl ⟨by kernel_rfl, ?_⟩) hS ?_
                      · intro w hw; clear hw; go_simp
                      change wpAnyH _ _ _ _ _ _ _ (Act.put _ (some 137) _) _
                      simp only [Act.put, List.setIfInBounds_toArray, List.set_cons_succ, List.set_cons_zero]
                      refine wpAnyH_take (i := 13) (v := .bool false) rfl (by kernel_rfl) (by kernel_rfl) (by kernel_rfl) (fun _ _ _ h => h) (Or.inl ⟨by kernel_rfl, ?_⟩) hS ?_
                      · intro w hw; clear hw; go_simp
                      change wpAnyH _ _ _ _ _ _ _ (Act.put _ (some 138) _) _
                      simp only [Act.put, List.setIfInBounds_toArray, List.set_cons_succ, List.set_cons_zero]
                      refine wpAnyH_done (by kernel_rfl) ?_ _
                      clear hS
                      go_wp2
                      go_roundg (A.length - (j + 1))
                      case measure => rw [HG.out]; omega
                      case rel => exact ⟨j + 1, by omega, rfl, by go_num, BX3.out.trans (BD3.out.mono BX3.out.size)⟩
                · have hjn2 : ¬ ((j : Int) < (A.length : Int)) := by omega
                  have BLL := hid2 (BC.out.trans (BR.out.mono BC.out.size))
                  clear WC XC IS BR HG hj
                  go_wp2_with fail
                  refine (KW.out _ BLL.out).mono ?_
                  rintro e wk ⟨rfl, bk⟩
                  have BK := hid2 (HAB.out.trans ((Below.trans BLL.out (bk.mono (Below.size BLL.out))).mono HAB.out.size))
                  clear bk
                  go_wp2
                  go_ret
                  exact ⟨rfl, BK.out⟩

          · obtain ⟨e1, e2⟩ := HSB.out hcd
            subst e2
            rw [e1] at T6
            obtain ⟨pf, rfl⟩ := Ite.Fault1.one hfl hcd
            have KA := hid2 (all_t T6.out)
            rw [HAE.out] at KA
            clear e1 HSB HST hfl hsgl
            go_wp2_with fail
            refine (show Calls _ _ _ _ _ from KA.out).mono ?_
            rintro e w7 ⟨va, rfl, hes, hb⟩
            obtain ⟨pa, ca, rfl, hca1, hca2⟩ := hes.form
            have E7 := hid2 hes.es
            have W7 := hid2 (W6.out.stays hb)
            have B7 := hid2 (B6.out.trans (hb.mono B6.out.size))
            clear hes hb KA W6 B6
            go_wp2_with fail
            refine (Ite.sameall_eq E7.out W7.out.es).mono ?_
            rintro e w8 ⟨rfl, hb8⟩
            have B8 := hid2 (B7.out.trans (hb8.mono B7.out.size))
            clear hb8
            go_wp2_with fail
            refine (KW.out _ B8.out).mono ?_
            rintro e wk ⟨rfl, bk⟩
            have BK := hid2 (HAB.out.trans ((Below.trans B8.out (bk.mono (Below.size B8.out))).mono HAB.out.size))
            clear bk
            go_wp2
            go_ret
            exact ⟨rfl, BK.out⟩

end Go.Proofs.YtkgecpplgjfhiaaGreatDoor
