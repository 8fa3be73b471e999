/-
  The document's tier: all entries.
-/
import Derived.Test.YtkgecpplgjfhiaaGreatDoorQRefB
namespace Go.Proofs.YtkgecpplgjfhiaaGreatDoor
open Go.RowKit
open Ite (Ent zeroE checkE sizeE)
open Lis (Lst but Tag)
theorem below_row {w0 w5 wa w6 : World} {n : Nat} {v : Value} {cs : List Value} (b0 : Below w0.heap.size w0 w5) (hb : Below w5.heap.size w5 wa) (ho : w5.ownsRow w0.heap.size 25 5 v n cs) (hg : wa.grownBy w6 v.ownBlock) : Below w0.heap.size w0 w6 := by
  refine ⟨(hg.os.trans hb.os).trans b0.os, (hg.tape.trans hb.tape).trans b0.tape, (hg.output.trans hb.output).trans b0.output, Nat.le_trans b0.size (Nat.le_trans hb.size hg.size), fun k hk => ?_⟩
  have hk5 := Nat.lt_of_lt_of_le hk b0.size
  rw [hg.block k (Nat.lt_of_lt_of_le hk5 hb.size) (fun e => by have := own_low ho k e.symm; omega), hb.block k hk5]
  exact b0.block k hk

/-- Of the class k, those among the first j. -/
def clT (L : List Ent) (k j : Nat) : List Ent := (L.take j).filter fun x => ucl x == (k : Int)
theorem clT_step {L : List Ent} {k j : Nat} {x : Ent} (h : L[j]? = some x) : clT L k (j + 1) = clT L k j ++ (if ucl x = (k : Int) then [x] else []) := by
  obtain ⟨hl, rfl⟩ := List.getElem?_eq_some_iff.1 h
  unfold clT
  rw [List.take_succ_eq_append_getElem hl, List.filter_append]
  by_cases e : ucl L[j] = (k : Int)
  · rw [if_pos e]; simp [e]
  · rw [if_neg e]; simp [e]
theorem clT_all (L : List Ent) (k : Nat) : allE L k ++ clT L k L.length = allE L (k + 1) := by unfold clT; rw [List.take_length]; rfl
theorem sz_inj {a b : Int} (ha : 0 ≤ a) (ha8 : a ≤ 8) (hb : 0 ≤ b) (hb8 : b ≤ 8) : Sla.sz a = Sla.sz b ↔ a = b := by
  constructor
  · intro h
    rcases Sla.nine ha ha8 with rfl | rfl | rfl | rfl | rfl | rfl | rfl | rfl | rfl <;> rcases Sla.nine hb hb8 with rfl | rfl | rfl | rfl | rfl | rfl | rfl | rfl | rfl <;> first | rfl | (exfalso; revert h; decide)
  · intro h; rw [h]
theorem cls_part (L : List Ent) (k : Nat) : (allE L k).length = (L.filter fun x => decide (0 ≤ ucl x ∧ ucl x < (k : Int))).length := by
  induction k with
  | zero => 
    show 0 = _
    rw [List.filter_eq_nil_iff.2]; rfl
    intro x _; rw [decide_eq_false (by omega)]; simp
  | succ k ih =>
    unfold allE
    rw [List.length_append, ih]
    clear ih
    induction L with
    | nil => rfl
    | cons y r ih =>
      rw [List.filter_cons, List.filter_cons, List.filter_cons]
      by_cases h1 : 0 ≤ ucl y ∧ ucl y < (k : Int)
      · have a1 : decide (0 ≤ ucl y ∧ ucl y < (k : Int)) = true := decide_eq_true h1
        have a2 : (ucl y == (k : Int)) = false := beq_eq_false_iff_ne.2 (by omega)
        have a3 : decide (0 ≤ ucl y ∧ ucl y < ((k + 1 : Nat) : Int)) = true := decide_eq_true (by omega)
        rw [a1, a2, a3]; simp only [if_true, if_false, Bool.false_eq_true, List.length_cons]; omega
      · have a1 : decide (0 ≤ ucl y ∧ ucl y < (k : Int)) = false := decide_eq_false h1
        by_cases h2 : ucl y = (k : Int)
        · have a2 : (ucl y == (k : Int)) = true := beq_iff_eq.2 h2
          have a3 : decide (0 ≤ ucl y ∧ ucl y < ((k + 1 : Nat) : Int)) = true := decide_eq_true (by omega)
          rw [a1, a2, a3]; simp only [if_true, if_false, Bool.false_eq_true, List.length_cons]; omega
        · have a2 : (ucl y == (k : Int)) = false := beq_eq_false_iff_ne.2 h2
          have a3 : decide (0 ≤ ucl y ∧ ucl y < ((k + 1 : Nat) : Int)) = false := decide_eq_false (by omega)
          rw [a1, a2, a3]; simp only [if_false, Bool.false_eq_true]; omega
theorem allE_len (L : List Ent) (k : Nat) : (allE L k).length ≤ L.length := by rw [cls_part]; exact List.length_filter_le _ _
theorem clT_len (L : List Ent) (k j : Nat) : (clT L k j).length ≤ L.length := by
  unfold clT
  refine Nat.le_trans (List.length_filter_le _ _) ?_
  rw [List.length_take]; omega
set_option maxHeartbeats 2000000 in
set_option maxRecDepth 8000 in
theorem rall_t {w : World} {B : Nat} {lim : Int} {p : Option Addr} {cap : Nat} {L : List Ent} (h : Es w B (.slice p L.length cap) L) (hf : ∀ x ∈ L, checkE x = 0) (hl : L.length ≤ 1000) (hB : B ≤ w.heap.size) :
    Calls Tryz.prog 22 #[.agg #[.int .i64 lim, .slice p L.length cap]] w fun e w' => ∃ v, e = .returned v ∧ Es w' B v (allE L 9) ∧ Below w.heap.size w w' := by
  have B0 : Below w.heap.size w (w.alloc (.cells #[.int .i64 lim, .slice p L.length cap] 37)) := by go_grown
  have Z0 : Hid (Two (w.alloc (.cells #[.int .i64 lim, .slice p L.length cap] 37)) w.heap.size (.int .i64 lim) (.slice p L.length cap)) := heap_alloc_new w _
  have HE := hid2 (h.stays B0)
  have HB0 := hid2 B0
  have HF := hid2 hf
  have hcap : L.length ≤ cap ∧ cap ≤ maxLen := by obtain ⟨_, _, e, h1, h2, _⟩ := h; cases e; exact ⟨h1, h2⟩
  obtain ⟨hc1, hc2⟩ := hcap
  unfold maxLen at hc2
  obtain ⟨i0, hi, hz0, hz1, hz2⟩ := info_parts info_en
  have KZ := hid2 (fun W (k : Nat) => Sla.rsize_any W (k : Int))
  clear h B0 hf
  go_enter Tryz.func22, Tryz.ntmps22
  go_wp2_with fail
  obtain ⟨w0, hw0⟩ : ∃ w0, w0 = (w.alloc (.cells #[.int .i64 lim, .slice p L.length cap] 37)) := ⟨_, rfl⟩
  rw [← hw0] at Z0 HE HB0 ⊢
  have hww : w.heap.size ≤ w0.heap.size := HB0.out.size
  clear hw0
  go_loopg [3, 4] 9 (fun gi a i wr => ∃ (k : Nat) (cs : List Value), k ≤ 9 ∧ gi = 9 - k ∧ wr.ownsRow w0.heap.size 25 5 a (allE L k).length cs ∧ EQ wr B (allE L k) cs ∧ i = .int .i64 (k : Int) ∧ Below w0.heap.size w0 wr)
  case atStart => exact ⟨0, [], by omega, rfl, ⟨rfl, .inl ⟨rfl, rfl⟩⟩, rfl, rfl, Below.refl _ _⟩
  case round =>
    obtain ⟨k, cs, hk, hgi, ho, hq, rfl, hbr⟩ := hrel
    have HG := hid2 hgi
    have HO := hid2 ho
    have HQ := hid2 hq
    have HB := hid2 hbr
    clear hgi ho hq hbr
    by_cases hk9 : k = 9
    · subst hk9
      go_wp2
      go_ret
      exact ⟨_, rfl, Es.own HO.out rfl HQ.out, HB0.out.trans (HB.out.mono HB0.out.size)⟩
    · have hkl : k < 9 := by omega
      have hkl' : (k : Int) ≤ 8 := by omega
      go_wp2_with fail
      go_loopg [3, 5] L.length (fun gi a i wr2 => ∃ (j : Nat) (cs : List Value), j ≤ L.length ∧ gi = L.length - j ∧ wr2.ownsRow w0.heap.size 25 5 a (allE L k ++ clT L k j).length cs ∧ EQ wr2 B (allE L k ++ clT L k j) cs ∧ i = .int .i64 (j : Int) ∧ Below w0.heap.size w0 wr2)
      case atStart => exact ⟨0, cs, Nat.zero_le _, rfl, by simpa [clT] using HO.out, by simpa [clT] using HQ.out, rfl, HB.out⟩
      case round =>
        clear HO HQ HB
        obtain ⟨j, cs2, hj, hgj, ho, hq, rfl, hbr⟩ := hrel
        have HGJ := hid2 hgj
        have HO := hid2 ho
        have HQ := hid2 hq
        have HB := hid2 hbr
        have ZR := hid2 (Z0.out.stays hbr)
        obtain ⟨z0, z1, z2, z3⟩ := ZR.out.cells
        clear hgj ho hq hbr
        by_cases hjl : j = L.length
        · subst hjl
          rw [clT_all] at HO HQ
          go_wp2
          go_roundg (9 - (k + 1))
          case measure => rw [HG.out]; omega
          case rel => exact ⟨k + 1, cs2, by omega, rfl, HO.out, HQ.out, rfl, HB.out⟩
        · have hlt : j < L.length := by omega
          obtain ⟨x, hx⟩ : ∃ x, L[j]? = some x := ⟨_, List.getElem?_eq_getElem hlt⟩
          have hfx := HF.out x (List.mem_of_getElem? hx)
          obtain ⟨b, off, q, c, rfl, hrange, hbq⟩ := (HE.out.stays HB.out).cells hx
          have hstep := clT_step (k := k) hx
          have hfc := fine_class hfx
          have KT := hid2 (takes_t x q c wr hfx hbq.bs)
          have hcmp := sz_inj (a := ucl x) (b := (k : Int)) hfc.1 hfc.2.1 (by omega) (by omega)
          have HBQ := hid2 hbq
          have HR := hid2 hrange
          have HS := hid2 hstep
          have htk : tk x = Sla.sz (ucl x) := rfl
          have hI : (0 : Int) ≤ (j : Int) ∧ (j : Int) < (L.length : Int) := by omega
          have htn : ((j : Int)).toNat = j := by omega
          have hal := allE_len L k
          have hcl := clT_len L k j
          have KZ2 := hid2 (fun W => KZ.out W k)
          rw [htk] at KT
          clear hrange hbq hstep hx hfx htk hfc
          go_wp2_with (refine wpList_load_mid rfl 25 (.tmp 20) rfl b (off + j * 5) rfl _ _ HR.out Ite.Tryz.und24.choose_spec rfl Ite.Tryz.size24 ?_)
          refine (show Calls _ _ _ _ _ from KT.out).mono ?_
          rintro e w1 ⟨rfl, hb⟩
          have HB1 := hid2 (HB.out.trans (hb.mono HB.out.size))
          have HO1 := hid2 (own_fr (B := B) HO.out (.of hb))
          have HQ1 := hid2 (HQ.out.stays hb)
          have ZR1 := hid2 (ZR.out.stays hb)
          have HBQ1 := hid2 (HBQ.out.stays hb)
          have hblt1 := World.block_lt_of_cell? _ _ (HR.out 0 _ rfl)
          have HR1 : Hid (w1.rangeAt b (off + j * 5) [.string x.key, .int .i64 x.ver, .int .i64 x.asof, .int .i64 x.ends, .slice q x.val.length c]) := fun i u hu => (hb.cell (p := ⟨b, off + j * 5 + i, none⟩) hblt1).trans (HR.out i u hu)
          obtain ⟨y0, y1, y2, y3⟩ := ZR1.out.cells
          have hbw : w0.heap.size ≤ w1.heap.size := HB1.out.size
          clear hb KT z0 z1 z2 z3 hblt1
          go_wp2_with fail
          refine (show Calls _ _ _ _ _ from KZ2.out w1).mono ?_
          rintro e w2 ⟨rfl, hw2⟩
          subst hw2
          by_cases hc : ucl x = (k : Int)
          · rw [if_pos hc] at HS
            rw [hc]
            generalize hgm : (allE L k ++ clT L k j).length = gm at *
            have HGM := hid2 hgm
            have hgm1 : gm ≤ 2000 := by rw [← hgm, List.length_append]; omega
            clear hgm hcmp hc
            generalize Sla.sz (k : Int) = sk at *
            go_wp2_with (first
              | (refine wpList_load_mid rfl 25 (.tmp 30) rfl b (off + j * 5) rfl _ _ HR1.out Ite.Tryz.und24.choose_spec rfl Ite.Tryz.size24 ?_)
              | (at_builtin; refine wpList_append_own _ rfl (.tmp 26) (.tmp 32) 35 rfl w0.heap.size 25 i0 (.agg #[.string ⟨#[]⟩, .int .i64 0, .int .i64 0, .int .i64 0, .slice none 0 0]) 5 64 Tryz.underlying35 hi hz0 hz1 hz2 rfl (by decide) _ gm cs2 rfl (HO1.out.alloc _) ⟨w2.heap.size, 0, none⟩ 1 1 [.string x.key, .int .i64 x.ver, .int .i64 x.asof, .int .i64 x.ends, .slice q x.val.length c] rfl rfl (cell_five_new _ _ _ _ _ _ _) (by intro u hu; simp at hu; rcases hu with rfl | rfl | rfl | rfl | rfl <;> rfl) (by unfold maxLen; omega) (by omega) (by simp; omega) ?_; intro v6 w6 hown6 hgrow6 hnil6; have GG := row_grown (show Below w2.heap.size w2 (w2.alloc (.cells #[.string x.key, .int .i64 x.ver, .int .i64 x.asof, .int .i64 x.ends, .slice q x.val.length c] 25)) by (go_grown)) HO1.out hgrow6 (Fr.of (B := B) HB1.out) (Nat.le_refl _) (Nat.le_trans hB hww); have FF6 := hid2 GG.1; have RG6 := hid2 GG.2; have BB6 := hid2 (below_row HB1.out (show Below w2.heap.size w2 (w2.alloc (.cells #[.string x.key, .int .i64 x.ver, .int .i64 x.asof, .int .i64 x.ends, .slice q x.val.length c] 25)) by (go_grown)) HO1.out hgrow6); have O6 := hid2 hown6; clear hown6 hgrow6 hnil6 GG))
            go_roundg (L.length - (j + 1))
            case measure => rw [HGJ.out]; omega
            case rel =>
              have e6 : allE L k ++ clT L k (j + 1) = (allE L k ++ clT L k j) ++ [x] := by rw [HS.out, List.append_assoc]
              refine ⟨j + 1, cs2 ++ [.string x.key, .int .i64 x.ver, .int .i64 x.asof, .int .i64 x.ends, .slice q x.val.length c], by omega, rfl, ?_, ?_, rfl, BB6.out⟩
              · rw [e6, List.length_append, HGM.out]; exact O6.out
              · rw [e6]; exact (HQ1.out.keep (RG6.out.bq good_ent.2)).snoc (RG6.out.bq good_ent.2 _ _ HBQ1.out)
          · have hne : ¬ Sla.sz (ucl x) = Sla.sz (k : Int) := fun e => hc (hcmp.1 e)
            rw [if_neg hc, List.append_nil] at HS
            generalize Sla.sz (k : Int) = sk at *
            generalize Sla.sz (ucl x) = sx at *
            clear hcmp hc
            go_wp2
            go_roundg (L.length - (j + 1))
            case measure => rw [HGJ.out]; omega
            case rel => exact ⟨j + 1, cs2, by omega, rfl, by rw [HS.out]; exact HO1.out, by rw [HS.out]; exact HQ1.out, rfl, HB1.out⟩
end Go.Proofs.YtkgecpplgjfhiaaGreatDoor
