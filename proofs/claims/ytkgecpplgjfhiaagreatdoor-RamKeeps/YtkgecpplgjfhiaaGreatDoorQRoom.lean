/-
  Room is made: those that were used least lately go.
-/
import Derived.Test.YtkgecpplgjfhiaaGreatDoorQGOrder
import Derived.Test.YtkgecpplgjfhiaaGreatDoorQOpsD
namespace Go.Proofs.YtkgecpplgjfhiaaGreatDoor.Lis
open Go.RowKit

theorem len_lx {w : World} {B0 B g K n : Nat} {s : Lst} {M : Nat} (x : Lx w B0 B g K n s M) (k : Int) : Calls Tryz.prog 90 #[.pointer (some ⟨g, 0, none⟩), .int .i64 k] w fun e w' => e = .returned (.int .i64 ((orderP s k).length : Int)) ∧ w' = w := by
  obtain ⟨h, l, N, t, f, _, _, _, o, v⟩ := x
  have := len_ob o k
  rwa [v.lenQ] at this
theorem last_lx {w : World} {B0 B g K n : Nat} {s : Lst} {M : Nat} (x : Lx w B0 B g K n s M) (k : Int) : Calls Tryz.prog 92 #[.pointer (some ⟨g, 0, none⟩), .int .i64 k] w fun e w' => e = .returned (.int .i64 (lastP (orderP s k))) ∧ Below w.heap.size w w' := by
  obtain ⟨h, l, N, t, f, _, _, _, o, v⟩ := x
  have := last_ob o k
  rwa [v.lasQ] at this
set_option maxHeartbeats 1000000 in
theorem oldest_lx {w : World} {B0 B g K n : Nat} {s : Lst} {M : Nat} (x : Lx w B0 B g K n s M) : Calls Tryz.prog 79 #[.pointer (some ⟨g, 0, none⟩)] w fun e w' => e = .returned (.int .i64 (lastP s.U)) ∧ Below w.heap.size w w' := by
  obtain ⟨h, l, N, t, f, h1, h2, h3, o, v⟩ := x
  rw [← v.old_all]
  obtain ⟨⟨b1, b2, b3⟩, c1, _⟩ := o.cells
  have hK64 := o.K64
  have hN := o.eN
  have hn40 := o.n40
  have hN2 : N ≤ 800 := by omega
  have hnN : n < N := by omega
  have HO := hid2 o
  have HV := hid2 v
  have h00 : oldP s f 0 = -1 := by
    unfold oldP
    rw [List.filter_eq_nil_iff.2 (fun a _ => by simp)]
    rfl
  have KL := hid2 (fun W (q : Ob W g h l K n N t) (k : Nat) => (show Calls Tryz.prog 92 #[.pointer (some ⟨g, 0, none⟩), .int .i64 (k : Int)] W fun e w' => e = .returned (.int .i64 (lastP (orderP s (k : Int)))) ∧ Below W.heap.size W w' by have := last_ob q (k : Int); rwa [v.lasQ] at this))
  have H00 := hid2 h00
  clear o v hN h00
  go_enter Tryz.func79, Tryz.ntmps79
  go_wp2_with fail
  go_loopg [3, 10] K (fun gk old c wr => ∃ k : Nat, k ≤ K ∧ gk = K - k ∧ c = .int .i64 (k : Int) ∧ old = .int .i64 (oldP s f k) ∧ Below w.heap.size w wr)
  case atStart => exact ⟨0, Nat.zero_le _, rfl, rfl, by rw [H00.out], Below.refl _ _⟩
  case round =>
    clear b1 b2 b3 c1
    obtain ⟨k, hk, hgk, rfl, rfl, hb⟩ := hrel
    have HG := hid2 hgk
    have HB := hid2 hb
    have HO1 := hid2 (HO.out.below hb)
    clear hgk hb
    by_cases hlt : k < K
    · have HS := hid2 (HV.out.old_step hlt)
      have HM := hid2 (HV.out.old_mem k)
      have HL := hid2 (HV.out.last_mem hlt)
      have KC := hid2 (KL.out wr HO1.out k)
      generalize lastP (orderP s (k : Int)) = la at *
      generalize hol : oldP s f k = ol at *
      clear hol
      go_wp2_with fail
      refine (show Calls _ _ _ _ _ from KC.out).mono ?_
      rintro e w1 ⟨rfl, hb⟩
      have HB1 := hid2 (HB.out.trans (hb.mono HB.out.size))
      have HO2 := hid2 (HO1.out.below hb)
      clear hb HB KC HO1
      obtain ⟨⟨b1, b2, b3⟩, _, _, c3, _⟩ := HO2.out.cells
      rcases HL.out with rfl | ⟨i, rfl, hi⟩
      · go_wp2_with fail
        go_quiet (fail)
        go_wp2
        go_roundg (K - (k + 1))
        case measure => rw [HG.out]; omega
        case rel => exact ⟨k + 1, by omega, rfl, by go_num, by rw [HS.out]; simp, HB1.out.trans (drew_below _ _ _)⟩
      · have i1 : ¬ (i : Int) = -1 := by omega
        have i2 : ((i : Int) != -1) = true := by rw [bne_iff_ne]; omega
        obtain ⟨_, _, _, c5⟩ := HO2.out.link (i := i) (by omega)
        rcases HM.out with rfl | ⟨j, rfl, hj⟩
        · go_wp2_with fail
          go_quiet (fail)
          go_wp2
          go_roundg (K - (k + 1))
          case measure => rw [HG.out]; omega
          case rel => exact ⟨k + 1, by omega, rfl, by go_num, by rw [HS.out]; simp [i1], HB1.out.trans (drew_below _ _ _)⟩
        · have j1 : ¬ (j : Int) = -1 := by omega
          have j2 : ((j : Int) == -1) = false := by rw [beq_eq_false_iff_ne]; omega
          obtain ⟨_, _, _, c6⟩ := HO2.out.link (i := j) (by omega)
          generalize t.S (i : Int) = si at *
          generalize t.S (j : Int) = sj at *
          by_cases hlt2 : si < sj
          · have d2 : decide (si < sj) = true := by simpa using hlt2
            go_wp2_with fail
            go_quiet (fail)
            go_wp2
            go_roundg (K - (k + 1))
            case measure => rw [HG.out]; omega
            case rel => exact ⟨k + 1, by omega, rfl, by go_num, by rw [HS.out]; simp [i1, hlt2], HB1.out.trans (drew_below _ _ _)⟩
          · have d2 : decide (si < sj) = false := by simpa using hlt2
            go_wp2_with fail
            go_quiet (fail)
            go_wp2
            go_roundg (K - (k + 1))
            case measure => rw [HG.out]; omega
            case rel => exact ⟨k + 1, by omega, rfl, by go_num, by rw [HS.out, if_neg (fun hh => hh.2.elim j1 (fun q => absurd hlt2 (by omega)))], HB1.out.trans (drew_below _ _ _)⟩
    · obtain rfl : k = K := by omega
      go_wp2
      go_ret
      exact ⟨rfl, HB.out⟩
end Go.Proofs.YtkgecpplgjfhiaaGreatDoor.Lis

namespace Go.Proofs.YtkgecpplgjfhiaaGreatDoor
open Go.RowKit
open Ite (Ent zeroE checkE sizeE)
open Lis (Lst but Tag lastP)

theorem info_en : (Tryz.prog.info? 25).map (fun i => (i.zero, i.size, i.bytes)) = some (some (.agg #[.string ⟨#[]⟩, .int .i64 0, .int .i64 0, .int .i64 0, .slice none 0 0]), 5, 64) := by kernel_rfl
theorem cell_five_new (w : World) (x0 x1 x2 x3 x4 : Value) (e : TypeId) : ∀ j u, [x0, x1, x2, x3, x4][j]? = some u → (w.alloc (.cells #[x0, x1, x2, x3, x4] e)).cell? ((⟨w.heap.size, 0, none⟩ : Addr).add j) = some u := by
  intro j u hu
  rw [Ite.add_zero_off]
  have := heap_alloc_new w (.cells #[x0, x1, x2, x3, x4] e)
  simp only [World.cell?, this]
  simpa using hu
theorem take_last {U : List Int} {k : Nat} (h : U.length = k + 1) : ∃ j, U[k]? = some j ∧ lastP U = j := by
  obtain ⟨j, hj⟩ : ∃ j, U[k]? = some j := ⟨_, List.getElem?_eq_getElem (by omega)⟩
  refine ⟨j, hj, ?_⟩
  unfold lastP
  rw [List.getLast?_eq_getElem?, show U.length - 1 = k by omega, hj]
  rfl
theorem own_row {w w' : World} {B B' n : Nat} {v : Value} {cs : List Value} (h : w.ownsRow B' 25 5 v n cs) (f : Fr B w w') : w'.ownsRow B' 25 5 v n cs := own_fr h f
theorem gone_len {L : List Ent} {k : Nat} {now : Int} : (goneL L k now).length ≤ L.length - k := by
  unfold goneL
  refine Nat.le_trans (List.length_filter_le _ _) ?_
  rw [List.length_reverse, List.length_drop]; exact Nat.le_refl _
/-- What stays where blocks of one type alone are written, from B on. -/
structure Rg (Ty : TypeId) (B : Nat) (w w' : World) : Prop where
  size : w.heap.size ≤ w'.heap.size
  block : ∀ k, k < w.heap.size → (k < B ∨ ¬ Tag w k Ty) → w'.heap[k]? = w.heap[k]?
theorem Rg.tag {Ty U : TypeId} {B : Nat} {w w' : World} (r : Rg Ty B w w') {k : Nat} (h : Tag w k U) (hne : U ≠ Ty) : w'.heap[k]? = w.heap[k]? := r.block k h.lt (.inr fun h' => h.ne h' hne rfl)
theorem Rg.bq {Ty : TypeId} {B : Nat} {w w' : World} (r : Rg Ty B w w') (hT : Ty ≠ 5) (u : Value) (l : List Int) (h : Bq w B u l) : Bq w' B u l := by
  obtain ⟨b, h, q⟩ := h
  rcases q with rfl | q | q
  · exact ⟨b, empty_sl h, .inl rfl⟩
  · exact ⟨b, h.keeps r.size (fun hlt => r.block b hlt (.inl q)), .inr (.inl q)⟩
  · have e := r.tag q hT.symm
    exact ⟨b, h.keeps r.size (fun _ => e), .inr (.inr (q.same e))⟩
theorem Tier.rg {Ty : TypeId} {w w' : World} {B g : Nat} {lim : Int} {L : List Ent} {M : Nat} (h : Tier w B g lim L M) (r : Rg Ty B w w') (hT : (Ty ≠ 81 ∧ Ty ≠ 112 ∧ Ty ≠ 115 ∧ Ty ≠ 117 ∧ Ty ≠ 3 ∧ Ty ≠ 103) ∧ Ty ≠ 5) : Tier w' B g lim L M := by
  obtain ⟨gb, gl, B1, B2, gc, v, n, s, bl, T, th, X, H, C, ⟨o, lo, bg, lx, ⟨cc, hd, hc⟩, tg, n1, l1⟩, h2, h3, h4⟩ := h
  refine ⟨gb, gl, B1, B2, gc, v, n, s, bl, T, th, X, H, C, ⟨?_, lo, ?_, ?_, ⟨cc, ?_, hc⟩, ?_, n1, l1⟩, h2, h3, h4⟩
  · rw [r.tag ⟨_, _, o⟩ hT.1.1.symm]; exact o
  · show w'.heap[gb]? = _
    rw [r.tag ⟨_, _, bg⟩ hT.1.2.1.symm]; exact bg
  · obtain ⟨h, l, N, t, f, h1, h2, h3, ob, iv⟩ := lx
    obtain ⟨_, _, _, _, _, _, e1, ⟨c2, e2, _⟩, ⟨c3, e3, _⟩⟩ := id ob
    exact ⟨h, l, N, t, f, h1, h2, h3, ob.same (r.tag ⟨_, _, e1⟩ hT.1.2.2.1.symm) (r.tag ⟨_, _, e2⟩ hT.1.2.2.2.1.symm) (r.tag ⟨_, _, e3⟩ hT.1.2.2.2.2.1.symm), iv⟩
  · rw [r.tag ⟨_, _, hd⟩ hT.1.2.2.2.2.1.symm]; exact hd
  · rcases tg with tg | ⟨b, cap, cur, h1, h2, h3, h4, h5, h6, h7⟩
    · exact .inl tg
    · refine .inr ⟨b, cap, cur, h1, h2, ?_, h4, h5, h6, fun i hi => ?_⟩
      · rw [r.tag ⟨_, _, h3⟩ hT.1.2.2.2.2.2.symm]; exact h3
      · obtain ⟨p, c, a1, a2⟩ := h7 i hi
        exact ⟨p, c, a1, r.bq hT.2 _ _ a2⟩
/-- A row of the call's own that grows. -/
theorem row_grown {w5 wa w6 : World} {B0 n : Nat} {v : Value} {cs : List Value} (hb : Below w5.heap.size w5 wa) (ho : w5.ownsRow B0 25 5 v n cs) (hg : wa.grownBy w6 v.ownBlock) {B : Nat} {w0 : World} (f : Fr B w0 w5) (h0 : w0.heap.size ≤ B0) (hB : B ≤ B0) : Fr B w0 w6 ∧ Rg 25 B w5 w6 := by
  have own : ∀ k, some k = v.ownBlock → Tag w5 k 25 ∧ B0 ≤ k := fun k e => by
    rcases ho.2 with ⟨rfl, _⟩ | ⟨b', cap, cur, rfl, h2, h3, _⟩
    · cases e
    · cases e; exact ⟨⟨_, _, h3⟩, h2⟩
  refine ⟨⟨(hg.os.trans hb.os).trans f.os, (hg.tape.trans hb.tape).trans f.tape, (hg.output.trans hb.output).trans f.output, Nat.le_trans f.size (Nat.le_trans hb.size hg.size), fun k hk h => ?_⟩, ⟨Nat.le_trans hb.size hg.size, fun k hk h => ?_⟩⟩
  · have hk5 := Nat.lt_of_lt_of_le hk f.size
    rw [hg.block k (Nat.lt_of_lt_of_le hk5 hb.size) (fun e => by have := (own k e).2; omega), hb.block k hk5]
    exact f.block k hk h
  · rw [hg.block k (Nat.lt_of_lt_of_le hk hb.size) (fun e => by
      obtain ⟨h1, h2⟩ := own k e
      rcases h with h | h
      · omega
      · exact h h1), hb.block k hk]
/-- A row of entries; where there is no block there is no room. -/
def EsN (w : World) (B : Nat) (v : Value) (xs : List Ent) : Prop := Es w B v xs ∧ ∀ m c, v = .slice none m c → c = 0
theorem EsN.stays {w w' : World} {B : Nat} {v : Value} {xs : List Ent} (h : EsN w B v xs) (b : Below w.heap.size w w') : EsN w' B v xs := ⟨h.1.stays b, h.2⟩
theorem EsN.fr {w w' : World} {B : Nat} {v : Value} {xs : List Ent} (h : EsN w B v xs) (f : Fr B w w') : EsN w' B v xs := ⟨h.1.fr f, h.2⟩
theorem EsN.nil (w : World) (B : Nat) : EsN w B (.slice none 0 0) [] := ⟨Es.nil w B, fun m c e => by cases e; rfl⟩
theorem EsN.own {w : World} {B B' n : Nat} {v : Value} {xs : List Ent} {cs : List Value} (h : w.ownsRow B' 25 5 v n cs) (hn : n = xs.length) (hc : EQ w B xs cs) : EsN w B v xs := ⟨Es.own h hn hc, fun m c e => by
  rcases h.2 with ⟨rfl, _⟩ | ⟨g, cap, cur, rfl, _⟩
  · cases e; rfl
  · cases e⟩
set_option maxHeartbeats 1000000 in
set_option maxRecDepth 8000 in
theorem room_t {w : World} {B g : Nat} {lim : Int} {L : List Ent} {M : Nat} (h : Tier w B g lim L M) (need now : Int) (hneed : need ≤ lim) : Calls Tryz.prog 55 #[.pointer (some ⟨g, 0, none⟩), .int .i64 need, .int .i64 now] w fun e w' => ∃ v, e = .returned v ∧ EsN w' B v (goneL L (cutJ lim need L L.length) now) ∧ Fr B w w' ∧ Tier w' B g lim (L.take (cutJ lim need L L.length)) M := by
  have hlen := h.fine.2.2.2.2.2.1
  have hBw0 := h.fine.2.2.2.2.2.2
  have h0 : Tier w B g lim (L.take L.length) M := by rw [List.take_length]; exact h
  have HN := hid2 h0
  obtain ⟨i0, hi, hz0, hz1, hz2⟩ := info_parts info_en
  clear h0 h
  go_enter Tryz.func55, Tryz.ntmps55
  go_wp2_with fail
  go_loopg [7] L.length (fun gi gv wr => ∃ (k : Nat) (cs : List Value), k ≤ L.length ∧ gi = k ∧ Tier wr B g lim (L.take k) M ∧ wr.ownsRow w.heap.size 25 5 gv (goneL L k now).length cs ∧ EQ wr B (goneL L k now) cs ∧ Fr B w wr ∧ cutJ lim need L L.length = cutJ lim need L k)
  case atStart => exact ⟨L.length, [], Nat.le_refl _, rfl, HN.out, by rw [goneL_all]; exact ⟨rfl, .inl ⟨rfl, rfl⟩⟩, by rw [goneL_all]; exact rfl, .refl _ _, rfl⟩
  case round =>
    obtain ⟨k, cs, hk, hgi, ht, ho, hq, hf, hcut⟩ := hrel
    have HG := hid2 hgi
    have HO := hid2 ho
    have HQ := hid2 hq
    have HF := hid2 hf
    have HT := hid2 ht
    have hgl := gone_len (L := L) (k := k) (now := now)
    obtain ⟨gb, gl, B1, B2, gc, v, n, s, bl, T, th, X, H, C, h1, h2, h3, h4⟩ := ht
    obtain ⟨c0, c1, c2, c3, c4, cf⟩ := h1.cells
    have KL := hid2 (Sla.left_bg h1.bg (h1.ok h2))
    have hu : Sla.used bl = usedL (L.take k) := by rw [h2.usedL, ← h3]
    rw [hu] at KL
    clear hgi ho hq hf c4 cf
    by_cases hfit : need ≤ lim - usedL (L.take k)
    · rw [cutJ_stop hfit] at hcut
      have HCUT := hid2 hcut
      clear hcut
      have hlt : ¬ lim - usedL (L.take k) < need := by omega
      generalize usedL (L.take k) = us at *
      clear hfit hu
      go_wp2_with fail
      refine (show Calls _ _ _ _ _ from KL.out).mono ?_
      rintro e w1 ⟨rfl, hb⟩
      have HB := hid2 hb
      clear hb KL c1 c2 c3 h1 h2 h4
      go_wp2
      go_ret
      rw [HCUT.out]
      exact ⟨_, rfl, (EsN.own HO.out rfl HQ.out).stays HB.out, HF.out.then_ HB.out, HT.out.below HB.out⟩
    · cases k with
      | zero => exfalso; simp [usedL_nil] at hfit; omega
      | succ k =>
        rw [cutJ_go hfit] at hcut
        have hlt : lim - usedL (L.take (k + 1)) < need := by omega
        have hUl : s.U.length = k + 1 := by
          have := congrArg List.length h3
          rw [List.length_map, List.length_take] at this
          omega
        obtain ⟨jj, hUk, hlast⟩ := take_last hUl
        have hju := h2.used _ (List.mem_of_getElem? hUk)
        obtain ⟨j, rfl⟩ := Int.eq_ofNat_of_zero_le hju.1
        have KO := hid2 (fun W (q : Tb W B g gb gl B1 B2 gc v lim n s bl T th X H M) => Lis.oldest_lx q.lx)
        rw [hlast] at KO
        have KR := hid2 (fun W (q : Tb W B g gb gl B1 B2 gc v lim n s bl T th X H M) => remove_t q h2 h4 hUk)
        have hLk : L[k]? = some (T (j : Int)) := by
          have : (L.take (k + 1))[k]? = some (T (j : Int)) := by rw [h3, List.getElem?_map, hUk]; rfl
          rwa [List.getElem?_take_of_lt (Nat.lt_succ_self k)] at this
        have hbut : butE (s.U.map T) k = L.take k := by
          rw [← h3]
          unfold butE
          rw [List.take_take, List.drop_eq_nil_of_le (by rw [List.length_take]; omega), List.append_nil, Nat.min_eq_left (Nat.le_succ k)]
        have hgs := goneL_step hLk now
        obtain ⟨x, hx⟩ : ∃ x, x = T (j : Int) := ⟨_, rfl⟩
        rw [hbut] at KR
        rw [← hx] at KR hgs
        have HGS := hid2 hgs
        have HCUT := hid2 hcut
        have H1 := hid2 h1
        generalize usedL (L.take (k + 1)) = us at *
        clear hfit hu h1 h2 h4 hx hLk hbut hgs hcut hju hUk hlast hUl h3
        go_wp2_with fail
        refine (show Calls _ _ _ _ _ from KL.out).mono ?_
        rintro e w1 ⟨rfl, hb1⟩
        have HT1 := hid2 (H1.out.below hb1)
        have F1 := hid2 (HF.out.then_ hb1)
        have O1 := hid2 (own_row HO.out (Fr.of (B := B) hb1))
        have Q1 := hid2 (HQ.out.fr (Fr.of (B := B) hb1))
        have c21 := HT1.out.cells.2.2.1
        have KO1 := hid2 (KO.out _ HT1.out)
        clear hb1 KL c1 c2 c3 KO
        go_wp2_with fail
        refine (show Calls _ _ _ _ _ from KO1.out).mono ?_
        rintro e w2 ⟨rfl, hb2⟩
        have HT2 := hid2 (HT1.out.below hb2)
        have F2 := hid2 (F1.out.then_ hb2)
        have O2 := hid2 (own_row O1.out (Fr.of (B := B) hb2))
        have Q2 := hid2 (Q1.out.fr (Fr.of (B := B) hb2))
        have KR2 := hid2 (KR.out _ HT2.out)
        clear hb2 KO1 c21 KR
        go_wp2_with fail
        refine (show Calls _ _ _ _ _ from KR2.out).mono ?_
        rintro e w3 ⟨p, c, rfl, hq3, hf3, ht3⟩
        have HT3 := hid2 ht3
        have F3 := hid2 (F2.out.trans hf3)
        have O3 := hid2 (own_row O2.out hf3)
        have Q3 := hid2 (Q2.out.fr hf3)
        have X3 := hid2 hq3
        have Y3 := hid2 (heap_alloc_new w3 (.cells #[.string ⟨#[]⟩, .int .i64 0, .int .i64 0, .int .i64 0, .slice none 0 0] 25))
        have B3 : Hid (Below w3.heap.size w3 (w3.alloc (.cells #[.string ⟨#[]⟩, .int .i64 0, .int .i64 0, .int .i64 0, .slice none 0 0] 25))) := by show Below _ _ _; go_grown
        clear hf3 ht3 hq3 KR2
        go_wp2_with (refine Ite.st24 rfl (.tmp 8) (.tmp 22) rfl w3.heap.size rfl _ _ _ _ _ _ Y3.out rfl rfl ⟨rfl, rfl, rfl, rfl, rfl⟩ ?_; intro w4 hw4 hg4; have B4 := hid2 (B3.out.grown hg4 B3.out.size (fun j hj => by (cases hj; exact Nat.le_refl _))); have Y4 := hid2 hw4; obtain ⟨⟨q0, q1, q2, q3, q4⟩, qf⟩ := Ite.five24 hw4; have hlt4 := lt_of_block hw4; clear hw4 hg4)
        refine (Ite.live_any x.key x.ver x.asof x.ends now p x.val.length c w4).mono ?_
        rintro e w5 ⟨rfl, hb5⟩
        rw [show Ite.liveB x.ends now = lv x now from rfl]
        have B5 := hid2 (B4.out.trans (hb5.mono B4.out.size))
        have HT5 := hid2 (HT3.out.below B5.out)
        have F5 := hid2 (F3.out.then_ B5.out)
        have O5 := hid2 (own_row O3.out (Fr.of (B := B) B5.out))
        have Q5 := hid2 (Q3.out.fr (Fr.of (B := B) B5.out))
        have X5 := hid2 (X3.out.stays B5.out)
        have Y5 := hid2 (heap_stays Y4.out hb5)
        obtain ⟨⟨r0, r1, r2, r3, r4⟩, rf⟩ := Ite.five24 Y5.out
        have hlt5 := lt_of_block Y5.out
        have hws : w.heap.size ≤ w5.heap.size := F5.out.size
        clear hb5 q0 q1 q2 q3 q4 qf hlt4
        cases hl : lv x now with
        | false =>
          have HL := hid2 hl
          clear hl
          go_wp2
          go_roundg k
          case measure => rw [HG.out]; exact Nat.lt_succ_self k
          case rel => exact ⟨k, cs, by omega, rfl, HT5.out, by rw [HGS.out, HL.out, if_neg (by simp), List.append_nil]; exact O5.out, by rw [HGS.out, HL.out, if_neg (by simp), List.append_nil]; exact Q5.out, F5.out, HCUT.out⟩
        | true =>
          have HL := hid2 hl
          clear hl
          generalize hgm : (goneL L (k + 1) now).length = gm at *
          have HGM := hid2 hgm
          clear hgm
          go_wp2_with (at_builtin; refine wpList_append_own _ rfl (.tmp 26) (.tmp 28) 35 rfl w.heap.size 25 i0 (.agg #[.string ⟨#[]⟩, .int .i64 0, .int .i64 0, .int .i64 0, .slice none 0 0]) 5 64 Tryz.underlying35 hi hz0 hz1 hz2 rfl (by decide) _ gm cs rfl (O5.out.alloc _) ⟨w5.heap.size, 0, none⟩ 1 1 [.string x.key, .int .i64 x.ver, .int .i64 x.asof, .int .i64 x.ends, .slice p x.val.length c] rfl rfl (cell_five_new _ _ _ _ _ _ _) (by intro u hu; simp at hu; rcases hu with rfl | rfl | rfl | rfl | rfl <;> rfl) (by unfold maxLen; omega) (by omega) (by simp; omega) ?_; intro v6 w6 hown6 hgrow6 hnil6; have FF := row_grown (show Below w5.heap.size w5 (w5.alloc (.cells #[.string x.key, .int .i64 x.ver, .int .i64 x.asof, .int .i64 x.ends, .slice p x.val.length c] 25)) by (go_grown)) O5.out hgrow6 F5.out (Nat.le_refl _) (Nat.le_of_lt hBw0); have FF6 := hid2 FF.1; have RG6 := hid2 FF.2; clear FF; have O6 := hid2 hown6; clear hown6 hgrow6 hnil6)
          go_roundg k
          case measure => rw [HG.out]; exact Nat.lt_succ_self k
          case rel =>
            refine ⟨k, cs ++ [.string x.key, .int .i64 x.ver, .int .i64 x.asof, .int .i64 x.ends, .slice p x.val.length c], by omega, rfl, HT5.out.rg RG6.out good_ent, ?_, ?_, FF6.out, HCUT.out⟩
            · rw [HGS.out, HL.out, if_pos rfl, List.length_append, HGM.out]; exact O6.out
            · rw [HGS.out, HL.out, if_pos rfl]; exact (Q5.out.keep (RG6.out.bq good_ent.2)).snoc (RG6.out.bq good_ent.2 _ _ X5.out)
end Go.Proofs.YtkgecpplgjfhiaaGreatDoor
