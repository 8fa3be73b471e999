/-
  The walk of the law RamBounds.
-/
import Derived.Test.YtkgecpplgjfhiaaGreatDoorQKMath
import Derived.Deep.DeepCutAuto
namespace Go.Proofs.YtkgecpplgjfhiaaGreatDoor
open Go.RowKit
open Ite (Ent zeroE checkE sizeE)
open Lis (Lst but Tag)
theorem peek_set {lim : Int} {L : List Ent} {x : Ent} {now : Int} (h : (setP lim L x now).2.2 = 0) : peekP (setP lim L x now).1 x.key = (x, true) := by
  obtain ⟨j, e, _⟩ := set_fine h
  rw [e]
  have hi : idx (x :: (dropE L x.key).take j) x.key = some 0 := idx_some.2 ⟨x, rfl, rfl, fun i y hi => by omega⟩
  rw [peek_some hi]
  rfl
theorem idx_nd {A : List Ent} (nd : (A.map (·.key)).Nodup) {i : Nat} {x : Ent} (h : A[i]? = some x) : idx A x.key = some i := by
  refine idx_some.2 ⟨x, h, rfl, fun j y hj hy e => ?_⟩
  have := nodup_at nd (i := i) (j := j) (x := x.key) (by rw [List.getElem?_map, h]; rfl) (by rw [List.getElem?_map, hy, ← e]; rfl)
  omega
theorem usedL_perm {A L : List Ent} (h : A.Perm L) : usedL A = usedL L := used_perm (h.map ucl)
theorem used_take (A : List Ent) (i : Nat) : usedL (A.take i) ≤ usedL A := by
  have e : usedL A = usedL (A.take i) + usedL (A.drop i) := by rw [← usedL_append, List.take_append_drop]
  have := usedL_nonneg (A.drop i)
  omega
theorem o7_cells {W : World} {b : Nat} {k : ByteArray} {k1 k2 k3 k4 k5 : Int} {u : Value} (h : W.heap[b]? = some (.cells #[.int .i64 k1, .string k, .int .i64 k2, .int .i64 k3, .int .i64 k4, u, .int .i64 k5] 44 (0, 0))) :
    (b < W.heap.size ∧ W.cell? ⟨b, 0, none⟩ = some (.int .i64 k1) ∧ W.cell? ⟨b, 1, none⟩ = some (.string k) ∧ W.cell? ⟨b, 2, none⟩ = some (.int .i64 k2) ∧ W.cell? ⟨b, 3, none⟩ = some (.int .i64 k3) ∧ W.cell? ⟨b, 4, none⟩ = some (.int .i64 k4) ∧ W.cell? ⟨b, 5, none⟩ = some u ∧ W.cell? ⟨b, 6, none⟩ = some (.int .i64 k5)) ∧
    W.rangeAt b 1 [.string k, .int .i64 k2, .int .i64 k3, .int .i64 k4, u] ∧ W.rangeAt b 0 [.int .i64 k1, .string k, .int .i64 k2, .int .i64 k3, .int .i64 k4, u, .int .i64 k5] := by
  refine ⟨⟨lt_of_heap h, by simp [World.cell?, h], by simp [World.cell?, h], by simp [World.cell?, h], by simp [World.cell?, h], by simp [World.cell?, h], by simp [World.cell?, h], by simp [World.cell?, h]⟩, ?_, ?_⟩
  · intro j v hj
    rcases j with _ | _ | _ | _ | _ | j
    · cases hj; simp [World.cell?, h]
    · cases hj; simp [World.cell?, h]
    · cases hj; simp [World.cell?, h]
    · cases hj; simp [World.cell?, h]
    · cases hj; simp [World.cell?, h]
    · simp at hj
  · intro j v hj
    simp only [Nat.zero_add, World.cell?, h]
    simpa using hj
theorem LawS.step {w W C : World} {v : Value} {os : List ActR} {B g : Nat} {lim : Int} {bx : Nat} {L R L' : List Ent} {p : Option Addr} {cap k k' : Nat} (s : LawS w v os B g lim bx L R p cap k W) (f : Fr B W C) (t : Tier C B g lim L' k') (h0 : 0 < B) (hB : B ≤ bx) (hw : w.heap.size ≤ B) : LawS w v os B g lim bx L' R p cap k' C :=
  ⟨t, s.es.fr f, s.z, s.bx.fr f, s.er.frR f h0, s.ac.fr f, s.be.trans ((f.below (Nat.le_trans hB (Nat.le_of_lt s.bx.tag.lt))).mono hw)⟩
set_option maxHeartbeats 8000000 in
set_option maxRecDepth 10000 in
theorem bounds_any {w : World} {v : Value} {os : List ActR} (hA : ActsR w w.heap.size v os) (hks : ∀ o ∈ os, o.x.key.size ≤ maxLen) (hE : ErrT w) (n : Nat) (hn : n < 65536) :
    Calls Tryz.prog 4 #[.int .u16 (n : Int), v] w fun e w' => e = .returned (.bool true) ∧ Below w.heap.size w w' := by
  have h0 : 0 < w.heap.size := lt_of_cell hE
  have KL := hid2 (lightR_any hA (Nat.le_refl _) hks)
  have KW := hid2 (fun W (b : Below w.heap.size w W) => works_any W (hE.frR (Fr.of (B := w.heap.size) b) h0) (Nat.lt_of_lt_of_le h0 b.size))
  have HA := hid2 hA
  have HE := hid2 hE
  obtain ⟨pv, cv, rfl, hc1, hc2, _⟩ := id hA
  unfold maxLen at hc2
  cases hl : lightR os with
  | false =>
    rw [hl] at KL
    clear hl
    go_enter Tryz.func4, Tryz.ntmps4
    go_wp2_with fail
    refine (show Calls _ _ _ _ _ from KL.out).mono ?_
    rintro e w1 ⟨rfl, hb1⟩
    have B1 := hid2 hb1
    clear hb1
    go_wp2_with fail
    refine (KW.out _ B1.out).mono ?_
    rintro e wk ⟨rfl, bk⟩
    have BK := hid2 (Below.trans B1.out (bk.mono (Below.size B1.out)))
    clear bk
    go_wp2
    go_ret
    exact ⟨rfl, BK.out⟩

  | true =>
    rw [hl] at KL
    have h40 := lightR_ok hl
    clear hl
    obtain ⟨lim, hlim⟩ : ∃ lim : Int, lim = 1 + (n : Int) % 9000 := ⟨_, rfl⟩
    have hlm : 1 ≤ lim ∧ lim ≤ 9000 := by omega
    have KN : Hid (∀ W, Calls Tryz.prog 10 #[.int .i64 (1 + (n : Int) % 9000)] W fun e w' => ∃ g, e = .returned (.tuple #[.pointer (some ⟨g, 0, none⟩), .nilIface]) ∧ Tier w' W.heap.size g lim [] 0 ∧ Below W.heap.size W w') := by
      intro W
      have e : ((1 + n % 9000 : Nat) : Int) = 1 + (n : Int) % 9000 := by omega
      have := new_t W (1 + n % 9000) (by omega) (by omega)
      rw [e, ← hlim] at this
      rw [← hlim]
      exact this
    have KR : Hid (∀ W, Calls Tryz.prog 11 #[.int .i64 (1 + (n : Int) % 9000)] W fun e w' => e = .returned (.tuple #[.agg #[.int .i64 lim, .slice none 0 0], .int .i64 0]) ∧ Below W.heap.size W w') := by
      intro W
      have := rnew_t W lim
      rw [if_neg (by omega), if_neg (by omega)] at this
      rw [← hlim]
      exact this
    clear hlim
    go_enter Tryz.func4, Tryz.ntmps4
    go_wp2_with fail
    refine (show Calls _ _ _ _ _ from KL.out).mono ?_
    rintro e w1 ⟨rfl, hb1⟩
    have B1 := hid2 hb1
    clear hb1
    go_wp2_with fail
    obtain ⟨B, hB⟩ : ∃ B, B = w1.heap.size := ⟨_, rfl⟩
    have HBW : Hid (w.heap.size ≤ B) := by show _ ≤ _; rw [hB]; exact B1.out.size
    have h0B : 0 < B := Nat.lt_of_lt_of_le h0 HBW.out
    refine (show Calls _ _ _ _ _ from KN.out _).mono ?_
    rintro e w2 ⟨g, rfl, ht, hb⟩
    rw [← hB] at ht
    have T2 := hid2 ht
    have B2 := hid2 (B1.out.trans (hb.mono B1.out.size))
    have HB2 : Hid (B ≤ w2.heap.size) := by show B ≤ _; rw [hB]; exact hb.size
    clear ht hb hB
    go_wp2_with fail
    refine (show Calls _ _ _ _ _ from KR.out _).mono ?_
    rintro e w3 ⟨rfl, hb⟩
    have T3 := hid2 (T2.out.below hb)
    have B3 := hid2 (B2.out.trans (hb.mono B2.out.size))
    have HB3 : Hid (B ≤ w3.heap.size) := Nat.le_trans HB2.out hb.size
    clear hb T2 HB2
    go_upto_region 7 with fail
    obtain ⟨w4, hw4⟩ : ∃ w4, w4 = w3.alloc (.cells #[.int .i64 lim, .slice none 0 0] 37) := ⟨_, rfl⟩
    rw [← hw4]
    obtain ⟨bx, hbx⟩ : ∃ bx, bx = w3.heap.size := ⟨_, rfl⟩
    rw [← hbx]
    have A4 : Below w3.heap.size w3 w4 := by rw [hw4]; go_grown
    have X4 : Two w4 bx (.int .i64 lim) (.slice none 0 0) := by rw [hw4, hbx]; exact heap_alloc_new w3 _
    have HBX : Hid (B ≤ bx) := by show B ≤ bx; rw [hbx]; exact HB3.out
    have B4 := B3.out.trans (A4.mono B3.out.size)
    have S4 : Hid (LawS w (.slice pv os.length cv) os B g lim bx [] [] none 0 0 w4) := ⟨T3.out.below A4, Es.nil _ _, fun _ => rfl, X4, HE.out.frR (Fr.of (B := B) B4) h0B, (HA.out.mono HBW.out).fr (.of B4), B4⟩
    clear hw4 hbx A4 X4 B4 T3 HB3 B3
    go_wp2_with fail
    go_loopg [9] os.length (fun gi i wr => ∃ (k : Nat) (L : List Ent) (p : Option Addr) (cap : Nat), k ≤ os.length ∧ gi = os.length - k ∧ i = .int .i64 (k : Int) ∧ LawS w (.slice pv os.length cv) os B g lim bx L [] p cap k wr)
    case atStart => exact ⟨0, [], none, 0, Nat.zero_le _, rfl, rfl, S4.out⟩
    case round =>
      clear S4
      obtain ⟨k, L, p, cap, hk, hgi, rfl, hs⟩ := hrel
      have HG := hid2 hgi
      have SR := hid2 hs
      clear hgi hs
      by_cases hlt : k < os.length
      · have hki : (k : Int) < (os.length : Int) := by omega
        have hI : (0 : Int) ≤ (k : Int) ∧ (k : Int) < (os.length : Int) := by omega
        have htn : ((k : Int)).toNat = k := by omega
        obtain ⟨o, ho⟩ : ∃ o, os[k]? = some o := ⟨_, List.getElem?_eq_getElem hlt⟩
        have hok := h40.2 o (List.mem_of_getElem? ho)
        obtain ⟨ob, oo, q, c, pv', cv', e1, rfl, hobB, hro, hbq⟩ := SR.out.act ho
        cases e1
        have HRO := hid2 hro
        have HBQ := hid2 hbq
        clear ho hro hbq
        obtain ⟨kd, ox, onow⟩ := o
        dsimp only at hok HRO HBQ
        go_upto_region 11 with (refine wpList_load_mid rfl 44 (.tmp 52) rfl ob (oo + k * 7) rfl _ _ HRO.out und44.choose_spec rfl size44 ?_)
        obtain ⟨wo, hwo⟩ : ∃ wo, wo = wr.alloc (.cells #[.int .i64 kd, .string ox.key, .int .i64 ox.ver, .int .i64 ox.asof, .int .i64 ox.ends, .slice q ox.val.length c, .int .i64 onow] 44) := ⟨_, rfl⟩
        rw [← hwo]
        obtain ⟨b10, hb10⟩ : ∃ b10, b10 = wr.heap.size := ⟨_, rfl⟩
        rw [← hb10]
        have Ao : Below wr.heap.size wr wo := by rw [hwo]; go_grown
        have XO := hid2 (show wo.heap[b10]? = some (.cells #[.int .i64 kd, .string ox.key, .int .i64 ox.ver, .int .i64 ox.asof, .int .i64 ox.ends, .slice q ox.val.length c, .int .i64 onow] 44 (0, 0)) by rw [hwo, hb10]; exact heap_alloc_new wr _)
        have SO := hid2 (SR.out.below Ao h0B)
        have QO := hid2 (HBQ.out.stays Ao)
        clear hwo hb10 Ao SR HRO HBQ
        obtain ⟨⟨c0, c1, c2, c3, c4, c5, c6, c7⟩, c8, c9⟩ := o7_cells XO.out
        by_cases hk0 : kd = 0
        · subst hk0
          have KS := hid2 (set_t SO.out.t (Nat.le_trans hk (Nat.le_trans h40.1 (by omega))) ox QO.out (Nat.le_trans hok.1 (by omega)) hok.2 onow)
          have HPK := hid2 (fun h => peek_set (lim := lim) (L := L) (x := ox) (now := onow) h)
          generalize setP lim L ox onow = sp at *
          obtain ⟨L', gn, cd⟩ := sp
          dsimp only at KS HPK
          go_wp2_with (refine wpList_load_mid rfl 25 (.tmp 59) rfl b10 1 rfl _ _ c8 Ite.Tryz.und24.choose_spec rfl Ite.Tryz.size24 ?_)
          refine (show Calls _ _ _ _ _ from KS.out).mono ?_
          rintro e w2 ⟨gv, ev, rfl, _, hfl, hf, ht⟩
          have S2 := hid2 (SO.out.step hf ht h0B HBX.out HBW.out)
          have X2 := hid2 (hf.ent XO.out (by decide))
          have Q2 := hid2 (QO.out.fr hf)
          clear hf ht KS SO XO QO c0 c1 c2 c3 c4 c5 c6 c7 c8 c9
          obtain ⟨⟨c0, c1, c2, c3, c4, c5, c6, c7⟩, c8, c9⟩ := o7_cells X2.out
          have KP := hid2 (peek_t S2.out.t ox.key (Nat.le_trans hok.1 (by omega)))
          generalize hpk : peekP L' ox.key = pk at *
          obtain ⟨xp, okp⟩ := pk
          dsimp only at KP
          have HPE := hid2 hpk
          clear hpk
          go_wp2_with fail
          refine (show Calls _ _ _ _ _ from KP.out).mono ?_
          rintro e w3 ⟨pp, pc, rfl, hpq, hf, ht⟩
          have S3 := hid2 (S2.out.step hf ht h0B HBX.out HBW.out)
          have X3 := hid2 (hf.ent X2.out (by decide))
          have Q3 := hid2 (Q2.out.fr hf)
          have P3 := hid2 hpq
          replace hfl := Fault1.frR hfl hf
          clear hf ht hpq KP S2 X2 Q2 c0 c1 c2 c3 c4 c5 c6 c7 c8 c9
          go_upto_region 14 with fail
          obtain ⟨w4', hw4⟩ : ∃ w4', w4' = w3.alloc (.cells #[.string xp.key, .int .i64 xp.ver, .int .i64 xp.asof, .int .i64 xp.ends, .slice pp xp.val.length pc] 25) := ⟨_, rfl⟩
          rw [← hw4]
          obtain ⟨b13, hb13⟩ : ∃ b13, b13 = w3.heap.size := ⟨_, rfl⟩
          rw [← hb13]
          have A4 : Below w3.heap.size w3 w4' := by rw [hw4]; go_grown
          have Y4 := hid2 (show w4'.heap[b13]? = some (.cells #[.string xp.key, .int .i64 xp.ver, .int .i64 xp.asof, .int .i64 xp.ends, .slice pp xp.val.length pc] 25 (0, 0)) by rw [hw4, hb13]; exact heap_alloc_new w3 _)
          have S4 := hid2 (S3.out.below A4 h0B)
          have X4 := hid2 (heap_stays X3.out A4)
          have Q4 := hid2 (Q3.out.stays A4)
          have P4 := hid2 (P3.out.stays A4)
          clear hw4 hb13 A4 S3 X3 Q3 P3
          obtain ⟨⟨c0, c1, c2, c3, c4, c5, c6, c7⟩, c8, c9⟩ := o7_cells X4.out
          obtain ⟨⟨q0, q1, q2, q3, q4⟩, qf⟩ := Ite.five24 Y4.out
          by_cases hcd : cd = 0
          · subst hcd
            obtain rfl := Ite.Fault1.zero hfl
            have e1 := HPK.out rfl
            cases e1
            have KSM := Ite.rsame6_any ox.key ox.key ox.ver ox.asof ox.ends ox.ver ox.asof ox.ends P4.out.bs Q4.out.bs
            rw [Ite.sameB_self] at KSM
            have KSM := hid2 KSM
            clear hfl HPK HPE
            go_wp2_with fail
            refine (show Calls _ _ _ _ _ from KSM.out).mono ?_
            rintro e w5 ⟨rfl, hb5⟩
            have S5 := hid2 (S4.out.below hb5 h0B)
            clear hb5
            go_wp2
            go_roundg (os.length - (k + 1))
            case measure => rw [HG.out]; omega
            case rel => exact ⟨k + 1, L', p, cap, by omega, rfl, by go_num, { S5.out with t := S5.out.t }⟩
          · obtain ⟨pf, rfl⟩ := Ite.Fault1.one hfl hcd
            clear hfl HPK HPE
            go_wp2
            go_roundg (os.length - (k + 1))
            case measure => rw [HG.out]; omega
            case rel => exact ⟨k + 1, L', p, cap, by omega, rfl, by go_num, S4.out⟩
        · have KD := hid2 (do_gen (o := ⟨kd, ox, onow⟩) SO.out.t (Nat.le_trans hk (Nat.le_trans h40.1 (by omega))) SO.out.es SO.out.z (Nat.zero_le _) hk0 QO.out SO.out.er h0B (Nat.le_trans hok.1 (by omega)) hok.2)
          rw [actP_nil lim ⟨kd, ox, onow⟩ hk0] at KD
          dsimp only at KD
          generalize actP lim L ⟨kd, ox, onow⟩ = L' at *
          have k5 := two_range SO.out.bx
          go_wp2_with (first | (refine wpList_load_mid rfl 37 (.tmp 7) rfl bx 0 rfl _ _ k5 und_rm.choose_spec rfl size_rm ?_) | (refine wpList_load_mid rfl 44 (.tmp 10) rfl b10 0 rfl _ _ c9 und44.choose_spec rfl size44 ?_))
          refine (show Calls _ _ _ _ _ from KD.out).mono ?_
          rintro e w2 ⟨p', cap', bb, rfl, _, hes, hz', ht, hf⟩
          have HES := hid2 hes
          have HF2 := hid2 hf
          have HT2 := hid2 ht
          have HZ2 := hid2 hz'
          have Z2 := hid2 (SO.out.bx.fr hf)
          clear hes hf ht hz' KD k5 c0 c1 c2 c3 c4 c5 c6 c7 c8 c9
          go_wp2_with (refine st37 rfl (.tmp 7) (.tmp 92) rfl bx rfl _ _ _ Z2.out rfl rfl ⟨rfl, rfl⟩ ?_; intro w3 tz3 gz3; have S3 := hid2 (SO.out.put HF2.out HT2.out HES.out HZ2.out gz3 tz3 h0B HBX.out HBW.out); clear tz3 gz3)
          go_roundg (os.length - (k + 1))
          case measure => rw [HG.out]; omega
          case rel => exact ⟨k + 1, L', p', cap', by omega, rfl, by go_num, S3.out⟩
      · have hki : ¬ ((k : Int) < (os.length : Int)) := by omega
        have hf0 := SR.out.t.fine
        have HA9 := hid2 (allE_perm hf0.1)
        have HND := hid2 (nodup_perm (allE_perm hf0.1) hf0.2.1)
        have HFA := hid2 (fun y (h : y ∈ allE L 9) => hf0.1 y ((allE_perm hf0.1).mem_iff.1 h))
        have HUS := hid2 (usedL_perm (allE_perm hf0.1))
        have HUT := hid2 (fun i => used_take (allE L 9) i)
        have hal : (allE L 9).length = L.length := (allE_perm hf0.1).length_eq
        have hA6 : (allE L 9).length ≤ 640 := by rw [hal]; exact hf0.2.2.2.2.2.1
        have hul : usedL L ≤ lim := hf0.2.2.1
        have KALL := hid2 (all_t SR.out.t)
        have HAL := hid2 hal
        generalize allE L 9 = A at *
        clear hf0 hal HA9 hlt
        go_wp2_with fail
        refine (show Calls _ _ _ _ _ from KALL.out).mono ?_
        rintro e w5 ⟨vw, rfl, hes, hb⟩
        obtain ⟨pw, cw, rfl, hcw1, hcw2⟩ := hes.form
        unfold maxLen at hcw2
        have S5 := hid2 (SR.out.below hb h0B)
        have W5 := hid2 hes
        clear hes hb KALL SR
        go_wp2_with fail
        go_loopg [16, 17] A.length (fun gi nn i wr2 => ∃ j : Nat, j ≤ A.length ∧ gi = A.length - j ∧ nn = .int .i64 (usedL (A.take j)) ∧ i = .int .i64 (j : Int) ∧ Below w5.heap.size w5 wr2)
        case atStart => exact ⟨0, Nat.zero_le _, rfl, rfl, rfl, Below.refl _ _⟩
        case round =>
          obtain ⟨j, hj, hgi, rfl, rfl, hbr⟩ := hrel
          have HG2 := hid2 hgi
          have BR := hid2 hbr
          clear hgi hbr
          by_cases hjl : j < A.length
          · obtain ⟨y, hy⟩ : ∃ y, A[j]? = some y := ⟨_, List.getElem?_eq_getElem hjl⟩
            obtain ⟨bw, ow, qw, cw', rfl, hrw, hbw, _⟩ := (W5.out.stays BR.out).look hy
            have KF := hid2 (find_any (W5.out.stays BR.out) y.key (by omega))
            rw [find_some (idx_nd HND.out hy)] at KF
            have KT := hid2 (takes_t y qw cw' wr (HFA.out y (List.mem_of_getElem? hy)) hbw.bs)
            have hut1 := usedL_take_succ hy
            have hut2 := HUT.out (j + 1)
            have hut3 := usedL_nonneg (A.take j)
            have htk := tk_nonneg y
            have hus := HUS.out
            rw [hut1] at hut2
            have HU1 := hid2 hut1
            have HRW := hid2 hrw
            have hI : (0 : Int) ≤ (j : Int) ∧ (j : Int) < (A.length : Int) := by omega
            have htn : ((j : Int)).toNat = j := by omega
            have r0 : wr.cell? ⟨bw, ow + j * 5, none⟩ = some (.string y.key) := hrw 0 _ rfl
            have hblt := World.block_lt_of_cell? _ _ r0
            generalize usedL (A.take j) = uj at *
            generalize hty : tk y = ty at *
            have hub : uj + ty ≤ 20000 := by omega
            have hub0 : 0 ≤ uj + ty := by omega
            clear hy hrw hbw hut1 hut2 hus hty
            go_wp2_with fail
            refine (show Calls _ _ _ _ _ from KF.out).mono ?_
            rintro e w6 ⟨rfl, hw6⟩
            rw [hw6]
            clear hw6 w6
            go_wp2_with (refine wpList_load_mid rfl 25 (.tmp 114) rfl bw (ow + j * 5) rfl _ _ HRW.out Ite.Tryz.und24.choose_spec rfl Ite.Tryz.size24 ?_)
            refine (show Calls _ _ _ _ _ from KT.out).mono ?_
            rintro e w7 ⟨rfl, hb7⟩
            have BR2 := hid2 (BR.out.trans (hb7.mono BR.out.size))
            clear hb7
            go_wp2
            go_roundg (A.length - (j + 1))
            case measure => rw [HG2.out]; omega
            case rel => exact ⟨j + 1, by omega, rfl, by rw [HU1.out], by go_num, BR2.out⟩
          · obtain rfl : j = A.length := by omega
            have hu2 := HUS.out
            have S6 := hid2 (S5.out.below BR.out h0B)
            rw [List.take_length, hu2]
            have KU := hid2 (used_t S6.out.t)
            have KM := hid2 (limit_t S6.out.t)
            have KE := hid2 (len_t S6.out.t)
            rw [← HAL.out] at KE
            generalize usedL L = us at *
            clear hu2 S5 W5 BR HG2 hj hjl HUT HUS
            go_wp2_with fail
            refine (show Calls _ _ _ _ _ from KU.out).mono ?_
            rintro e w7 ⟨rfl, hw7⟩
            rw [hw7]
            clear hw7 w7
            go_wp2_with fail
            refine (show Calls _ _ _ _ _ from KM.out).mono ?_
            rintro e w7 ⟨rfl, hw7⟩
            rw [hw7]
            clear hw7 w7
            go_wp2_with fail
            refine (show Calls _ _ _ _ _ from KE.out).mono ?_
            rintro e w7 ⟨rfl, hw7⟩
            rw [hw7]
            clear hw7 w7
            go_wp2_with fail
            refine (KW.out _ S6.out.be).mono ?_
            rintro e wk ⟨rfl, bk⟩
            have BK := hid2 (Below.trans S6.out.be (bk.mono (Below.size S6.out.be)))
            clear bk
            go_wp2
            go_ret
            exact ⟨rfl, BK.out⟩

end Go.Proofs.YtkgecpplgjfhiaaGreatDoor
