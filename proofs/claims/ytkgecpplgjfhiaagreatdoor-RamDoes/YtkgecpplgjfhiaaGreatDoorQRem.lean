/-
  A node is removed.
-/
import Derived.Test.YtkgecpplgjfhiaaGreatDoorQCl
import Derived.Test.YtkgecpplgjfhiaaGreatDoorQIRAll
import Derived.Laws.ResultCell
import Derived.Deep.RegionHeld
namespace Go.Proofs.YtkgecpplgjfhiaaGreatDoor
open Go.RowKit
open Ite (Ent zeroE checkE sizeE)
open Lis (Lst but Tag)
variable {w : World} {B g gb gl B1 B2 gc : Nat} {v : Value} {lim : Int} {n : Nat} {s : Lst} {bl : List Int} {T : Int → Ent} {th : Nat} {X : Int → Int} {H : Nat → Int} {M : Nat} {C : Nat → List Int}

theorem box_range {w : World} {b : Nat} {x0 x1 x2 x3 x4 : Value} {t : TypeId} {fr : Nat × Nat} (h : w.heap[b]? = some (.cells #[x0, x1, x2, x3, x4] t fr)) : w.rangeAt b 0 [x0, x1, x2, x3, x4] := fun j v hv => by
  simp only [Nat.zero_add, World.cell?, h]
  simpa using hv
theorem slice_eq {a b : Nat} {m c d : Nat} (h : Value.slice (some ⟨a, 0, none⟩) m c = .slice (some ⟨b, 0, none⟩) m d) : a = b ∧ c = d := by cases h; exact ⟨rfl, rfl⟩
theorem run_st3 {w : World} {b o : Nat} {m : Int} (hc : (w.cell? ⟨b, o, none⟩).isSome = true) (hf : w.frozen? ⟨b, o, none⟩ = false) : (Instr.storeAt 3 (.pointer (some ⟨b, o, none⟩)) (.int .i64 m)).run Tryz.prog w = .ok () (w.setCell ⟨b, o, none⟩ (.int .i64 m)) := by
  obtain ⟨u, hu⟩ := Option.isSome_iff_exists.1 hc
  simp [go_sem, hu, hf]
/-- Blocks of numbers from S on stay. -/
def Kept (S : Nat) (w w' : World) : Prop := w.heap.size ≤ w'.heap.size ∧ ∀ k, S ≤ k → Tag w k 3 → w'.heap[k]? = w.heap[k]?
theorem Kept.ls {S : Nat} {w w' : World} {v : Value} {l : List Int} (h : Lis.Ls w S v l) (k : Kept S w w') : Lis.Ls w' S v l := by
  obtain ⟨b, hb, h, e | t⟩ := h
  · subst e
    exact ⟨b, hb, h.empty, .inl rfl⟩
  · have e := k.2 b hb t
    exact ⟨b, hb, h.keeps k.1 (fun _ => e), .inr (t.same e)⟩
theorem Kept.trans {S : Nat} {a b c : World} (h : Kept S a b) (k : Kept S b c) : Kept S a c := ⟨Nat.le_trans h.1 k.1, fun q hq t => (k.2 q hq (t.same (h.2 q hq t))).trans (h.2 q hq t)⟩
theorem Kept.of {S : Nat} {a b : World} (h : Below a.heap.size a b) : Kept S a b := ⟨h.size, fun k _ t => h.block k t.lt⟩
theorem Kept.grown {S k : Nat} {a b : World} (h : a.grownBy b (some k)) (e : k < S ∨ ∃ U, Tag a k U ∧ U ≠ 3) : Kept S a b := ⟨h.size, fun q hq t => h.block q t.lt (fun e' => by
  cases e'
  rcases e with e | ⟨U, e, hU⟩
  · omega
  · exact t.ne e hU.symm rfl)⟩
theorem Kept.mid {S B1 B2 : Nat} {a b : World} (h : Lis.Mid B1 B2 a b) (hS : B2 ≤ S) : Kept S a b := ⟨h.size, fun q hq t => h.block q t.lt (.inr (.inl (Nat.le_trans hS hq)))⟩
section
variable {ops : Array Oper} {rest : List Oper} {op : Oper} {a : Act}
/-- A number stored into a cell. -/
theorem st3 {w : World} {Q : Exit → Act → World → Prop} (hgd : op.guard = none) (x y : Operand) (ho : op.op = .store 3 x y) (b o : Nat) (hx : a.eval x = .pointer (some ⟨b, o, none⟩)) (m : Int) (hy : a.eval y = .int .i64 m) (hc : (w.cell? ⟨b, o, none⟩).isSome = true) (hf : w.frozen? ⟨b, o, none⟩ = false)
    (h : ∀ w', w' = w.setCell ⟨b, o, none⟩ (.int .i64 m) → wpList Tryz.prog ops Q rest (a.put op.dst undef) w') : wpList Tryz.prog ops Q (op :: rest) a w := by
  refine wpList_plain hgd fun K hK => ?_
  unfold Oper.wp execOp
  simp only [ho, hx, hy, Sem.run_bind, run_st3 hc hf, Result.andThen_ok, Sem.run_pure]
  exact hK _ _ (h _ rfl)
/-- A thing stored whole. -/
theorem stTh {w : World} {Q : Exit → Act → World → Prop} (hgd : op.guard = none) (x y : Operand) (ho : op.op = .store 103 x y) (b o : Nat) (hx : a.eval x = .pointer (some ⟨b, o, none⟩)) (k : ByteArray) (v1 v2 v3 nx : Int) (p : Option Addr) (n c : Nat)
    (hy : a.eval y = .agg #[.string k, .int .i64 v1, .int .i64 v2, .int .i64 v3, .slice p n c, .int .i64 nx]) (ht : w.there b o 6)
    (h : ∀ w', w' = w.setCells b o [.string k, .int .i64 v1, .int .i64 v2, .int .i64 v3, .slice p n c, .int .i64 nx] → wpList Tryz.prog ops Q rest (a.put op.dst undef) w') : wpList Tryz.prog ops Q (op :: rest) a w :=
  wpList_store_mid hgd 103 x y ho b o #[.string k, .int .i64 v1, .int .i64 v2, .int .i64 v3, .slice p n c, .int .i64 nx] hx hy ht (by kernel_rfl) (by simp [Value.oneCell']) (h _ rfl)
end
set_option maxHeartbeats 2000000 in
set_option maxRecDepth 8000 in
theorem remove_tb (h : Tb w B g gb gl B1 B2 gc v lim n s bl T th X H M) (t : Tn lim n (slt n) s T th C bl) (hw : ∀ c, c < n → Way X (H c) (C c)) {i : Nat} (hi : (i : Int) ∈ s.U) :
    Calls Tryz.prog 62 #[.pointer (some ⟨g, 0, none⟩), .int .i64 (i : Int)] w fun e w' => ∃ p c, e = .returned (.agg #[.string (T i).key, .int .i64 (T i).ver, .int .i64 (T i).asof, .int .i64 (T i).ends, .slice p (T i).val.length c]) ∧ Bq w' B (.slice p (T i).val.length c) (T i).val ∧ Fr B w w' ∧
      ∃ X' H', Tb w' B g gb gl B1 B2 gc v lim n (Lis.dropP s i).1 (Sla.giveP bl (ucl (T i))).1 (chg T i zeroE) th X' H' M ∧ (∀ c, c < n → Way X' (H' c) (if c = slt n (T i).key then but (C c) i else C c)) ∧ ∀ S, gc < S → B2 ≤ S → Kept S w w' := by
  have hit := (t.used _ hi).2
  have hit' : i < th := by omega
  obtain ⟨tb, cap, p, c, hv, hcap, hblt, htag, _, _, hrange, hbq⟩ := h.thg.look hit'
  subst hv
  obtain ⟨k0, k5, kr⟩ := thing_cells hrange
  obtain ⟨c0, c1, c2, c3, c4, cf⟩ := h.cells
  have hth : th ≤ 640 := Nat.le_trans t.thn h.n1.2
  have hI : (0 : Int) ≤ (i : Int) ∧ (i : Int) < (th : Int) := by omega
  have htn : ((i : Int)).toNat = i := by omega
  have hfine := t.fine _ hi
  have hmem := t.node hi
  have hchk := Ite.chk_ok hfine
  have hsl := slt_lt h.n1.1 (T i).key
  obtain ⟨x, hx⟩ : ∃ x, x = T (i : Int) := ⟨_, rfl⟩
  rw [← hx] at k0 kr hbq hmem hfine hchk hsl ⊢
  have HX := hid2 hx
  have KR := hid2 kr
  have HT := hid2 h
  have TT := hid2 t
  have HW := hid2 hw
  have HI := hid2 hi
  have HQ := hid2 hbq
  have HM := hid2 hmem
  have HCK := hid2 hchk
  have HS := hid2 hsl
  clear hx hrange h t hw hi hbq hfine hmem hchk hsl k0 k5 c1 c4
  have X0 := hid2 (show (w.alloc (.cells #[.string ⟨#[]⟩, .int .i64 0, .int .i64 0, .int .i64 0, .slice none 0 0] 25)).heap[w.heap.size]? = some (.cells #[.string ⟨#[]⟩, .int .i64 0, .int .i64 0, .int .i64 0, .slice none 0 0] 25 (0, 0)) from heap_alloc_new w _)
  have KR1 := hid2 (World.rangeAt_alloc KR.out (.cells #[.string ⟨#[]⟩, .int .i64 0, .int .i64 0, .int .i64 0, .slice none 0 0] 25))
  have Y0 := hid2 (heap_alloc_new (w.alloc (.cells #[.string ⟨#[]⟩, .int .i64 0, .int .i64 0, .int .i64 0, .slice none 0 0] 25)) (.cells #[.string ⟨#[]⟩, .int .i64 0, .int .i64 0, .int .i64 0, .slice none 0 0] 25))
  have HB0 : Hid (Below w.heap.size w ((w.alloc (.cells #[.string ⟨#[]⟩, .int .i64 0, .int .i64 0, .int .i64 0, .slice none 0 0] 25)).alloc (.cells #[.string ⟨#[]⟩, .int .i64 0, .int .i64 0, .int .i64 0, .slice none 0 0] 25))) := by show Below _ _ _; go_grown
  have X1 := hid2 (heap_stays X0.out (Below.alloc (Below.refl _ _) (Nat.le_refl _) (.cells #[.string ⟨#[]⟩, .int .i64 0, .int .i64 0, .int .i64 0, .slice none 0 0] 25)))
  go_enter Tryz.func62, Tryz.ntmps62
  go_wp2_with (first
    | (refine wpList_load_mid rfl 25 (.tmp 13) rfl tb (i * 6) rfl _ _ KR1.out Ite.Tryz.und24.choose_spec rfl Ite.Tryz.size24 ?_)
    | (refine Ite.st24 rfl (.tmp 5) (.tmp 14) rfl (w.heap.size + 1) rfl _ _ _ _ _ _ (by simpa using Y0.out) rfl rfl ⟨rfl, rfl, rfl, rfl, rfl⟩ ?_; intro w1 hw1 hg1; have HB1 : Hid (Below w.heap.size w w1) := HB0.out.grown hg1 HB0.out.size (fun j hj => by cases hj; omega); have Y1 := hid2 hw1; have X2 := hid2 (Ite.heap_grownBy X1.out hg1 (by omega)); have HT1 := hid2 (HT.out.below HB1.out); have KC := hid2 (chain_tb HT1.out x.key (Nat.le_trans HCK.out.1 (by omega))); obtain ⟨⟨q0, q1, q2, q3, q4⟩, qf⟩ := Ite.five24 hw1; have hq := lt_of_block hw1; clear hw1 hg1))
  refine (show Calls _ _ _ _ _ from KC.out).mono ?_
  rintro e w2 ⟨rfl, m2, hw2⟩
  have HB2' : Below w1.heap.size w1 w2 := by rw [hw2]; exact drew_below_m _ _ _
  have HB2 := hid2 (HB1.out.trans (HB2'.mono HB1.out.size))
  have Y2 := hid2 (heap_stays Y1.out HB2')
  have X3 := hid2 (heap_stays X2.out HB2')
  have HT2 := hid2 (HT1.out.below HB2')
  clear hw2 HB2' KC q0 q1 q2 q3 q4 qf hq Y0 X1 KR1 HB0 X0 c3 c2 cf c0 hblt htag kr
  go_wp2_with fail
  go_loopg [6] (C (slt n x.key)).length (fun gi q wr => ∃ (a r : List Int) (lb lo : Nat), C (slt n x.key) = a ++ r ∧ gi = r.length ∧ q = .pointer (some ⟨lb, lo, none⟩) ∧ Lp gc (slt n x.key) tb a lb lo ∧ (i : Int) ∈ r ∧ Below w2.heap.size w2 wr)
  case atStart => exact ⟨[], _, gc, _, rfl, rfl, rfl, .inl ⟨rfl, rfl, rfl⟩, HM.out, Below.refl _ _⟩
  case round =>
    obtain ⟨a, r, lb, lo, hC, hgi, rfl, hlp, hir, hbr⟩ := hrel
    cases r with
    | nil => cases hir
    | cons y r =>
      have HBR := hid2 (HB2.out.trans (hbr.mono HB2.out.size))
      have HTR := hid2 (HT2.out.below hbr)
      have YR := hid2 (heap_stays Y2.out hbr)
      have XR := hid2 (heap_stays X3.out hbr)
      have HBW := hid2 hbr
      obtain ⟨l1, l2⟩ := link_at HTR.out TT.out HW.out HS.out hC hlp
      obtain ⟨c0, c1, c2, c3, c4, cf⟩ := HTR.out.cells
      have hll := World.block_lt_of_cell? _ _ l1
      have HGI := hid2 hgi
      have HC := hid2 hC
      have HLP := hid2 hlp
      clear hgi hC hlp hbr c4
      by_cases hyi : ¬ y = (i : Int)
      · have hn1 : (y != (i : Int)) = true := by simpa using hyi
        have hir' : (i : Int) ∈ r := (List.mem_cons.1 hir).resolve_left (fun e => hyi e.symm)
        have hyC : y ∈ C (slt n x.key) := by rw [HC.out]; simp
        have hyu := TT.out.used _ ((TT.out.ch _ _).1 hyC).1
        obtain ⟨j, rfl⟩ := Int.eq_ofNat_of_zero_le hyu.1
        have hI2 : (0 : Int) ≤ (j : Int) ∧ (j : Int) < (th : Int) := hyu
        have ht2 : ((j : Int)).toNat = j := by omega
        clear hyu hyC hir
        go_wp2_with fail
        go_quiet (fail)
        go_wp2
        go_roundg r.length
        case rel => exact ⟨a ++ [(j : Int)], r, tb, j * 6 + 5, by rw [HC.out]; simp, rfl, rfl, .inr ⟨a, j, rfl, rfl, rfl⟩, hir', HBW.out.trans ((drew_below_m wr _ _).mono HBW.out.size)⟩
        case measure => have := HGI.out; simp at this; omega
      · obtain rfl : y = (i : Int) := Decidable.not_not.1 hyi
        clear hyi
        clear hir
        obtain ⟨tb', cap', p', c', hv', _, hblt, htag, _, hfz, hrange, _⟩ := HTR.out.thg.look hit'
        obtain ⟨rfl, rfl⟩ := slice_eq hv'
        obtain ⟨_, k5, _⟩ := thing_cells hrange
        obtain ⟨X5, H5, T5, F5, W5⟩ := link_cut HTR.out TT.out HW.out HS.out HC.out HLP.out (by rw [HX.out])
        have hsome : (wr.cell? ⟨lb, lo, none⟩).isSome = true := by rw [l1]; rfl
        have HT5 := hid2 T5
        have HF5 := hid2 F5
        have HW5 := hid2 W5
        have KP := hid2 (fun S (h1 : gc < S) => (Kept.grown (Ite.setCell_grownBy wr lb lo (.int .i64 (X (i : Int)))) (by rcases HLP.out with ⟨_, rfl, _⟩ | ⟨_, _, _, rfl, _⟩ <;> first | exact .inl h1 | exact .inr ⟨_, htag, by decide⟩) : Kept S wr _))
        have HBO := hid2 (HTR.out.ok TT.out)
        clear hrange T5 F5 W5 hv' hfz htag
        go_wp2_with (first
          | (refine st3 rfl (.tmp 42) (.tmp 41) rfl lb lo rfl (X (i : Int)) rfl hsome l2 ?_; intro w5 hw5; rw [← hw5] at HT5 HF5 KP; obtain ⟨d0, d1, d2, d3, d4, df⟩ := HT5.out.cells; obtain ⟨tb', cap', p', c', hv', _, hblt5, htag5, _, hfz5, hrange5, _⟩ := HT5.out.thg.look hit'; obtain ⟨rfl, rfl⟩ := slice_eq hv'; have hth5 : w5.there tb (i * 6) 6 := (fun j hj => ⟨hrange5.isSome j (by simpa [thC] using hj), hfz5 _⟩); have HT5' := hid2 (HT5.out.setThing hit' zeroE (Bq.nil w5 B) 0); clear hw5 hrange5 hfz5 hv' d4 l1 l2 c1 c2 c3 cf hsome k5)
          | (refine stTh rfl (.tmp 49) (.tmp 48) rfl tb (i * 6) rfl _ _ _ _ _ _ _ _ rfl hth5 ?_; intro w6 hw6; have HT6 := HT5'.out; rw [show thC zeroE (.slice none zeroE.val.length 0) 0 = [.string ⟨#[]⟩, .int .i64 0, .int .i64 0, .int .i64 0, .slice none 0 0, .int .i64 0] from rfl, ← hw6] at HT6; have KP6 : Hid (∀ S, Kept S w5 w6) := (fun S => by rw [hw6]; exact Kept.grown (grown_setCells w5 tb _ _) (.inr ⟨_, htag5, by decide⟩)); obtain ⟨T6, F6⟩ := HT6; obtain ⟨c60, c61, c62, c63, c64, cf6⟩ := T6.cells; have HT6 := hid2 T6; have HF6 := hid2 F6; clear hth5 hw6 HT5' T6 F6 d0 d1 d2 d3 df hblt5))
        refine (Lis.drop_lx HT6.out.lx _).mono ?_
        rintro e w7 ⟨v7, rfl, _, lx7, md7⟩
        have HT7 := hid2 (HT6.out.listed md7 lx7)
        have KP7 := hid2 (fun S (h : B2 ≤ S) => (Kept.mid md7 h : Kept S w6 w7))
        have F7 := hid2 ((HF5.out.trans HF6.out).trans (Fr.mid md7 (Nat.le_trans (Nat.le_of_lt (Nat.lt_of_le_of_lt HT6.out.lo.1 HT6.out.lo.2.1)) (Nat.le_refl _))))
        have Y7 := hid2 (F7.out.ent YR.out (by decide))
        have X7 := hid2 (F7.out.ent XR.out (by decide))
        have Y7r := hid2 (box_range Y7.out)
        have c71 := HT7.out.cells.2.1
        clear lx7 md7 c60 c61 c62 c63 c64 cf6
        go_wp2_with fail
        refine wp_region_held_drew (S := fun W => W.cell? ⟨g, 0, none⟩ = some (.pointer (some ⟨gb, 0, none⟩)) ∧ W.rangeAt (w.heap.size + 1) 0 [.string x.key, .int .i64 x.ver, .int .i64 x.asof, .int .i64 x.ends, .slice p x.val.length c]) (by kernel_rfl) (⟨c71, Y7r.out⟩) (fun hS => ?_)
        change wpAnyH _ _ _ _ _ _ _ _ (World.drew _)
        refine wpAnyH_take (i := 0) (v := .pointer (some ⟨g, 0, none⟩)) rfl (by kernel_rfl) (by kernel_rfl) (by kernel_rfl) (fun _ _ _ h => h) (Or.inl ⟨by kernel_rfl, ?_⟩) hS ?_
        · intro w hw; clear hw; go_simp
        change wpAnyH _ _ _ _ _ _ _ (Act.put _ (some 56) _) _
        simp only [Act.put, List.setIfInBounds_toArray, List.set_cons_succ, List.set_cons_zero]
        refine wpAnyH_take (i := 1) (v := .pointer (some ⟨g, 0, none⟩)) rfl (by kernel_rfl) (by kernel_rfl) (by kernel_rfl) (fun _ _ _ h => h) (Or.inl ⟨by kernel_rfl, ?_⟩) hS ?_
        · intro w hw; clear hw; go_simp
        change wpAnyH _ _ _ _ _ _ _ (Act.put _ (some 57) _) _
        simp only [Act.put, List.setIfInBounds_toArray, List.set_cons_succ, List.set_cons_zero]
        refine wpAnyH_take (i := 2) (v := .pointer (some ⟨g, 0, none⟩)) rfl (by kernel_rfl) (by kernel_rfl) (by kernel_rfl) (fun _ _ _ h => h) (Or.inl ⟨by kernel_rfl, ?_⟩) hS ?_
        · intro w hw; clear hw; go_simp
        change wpAnyH _ _ _ _ _ _ _ (Act.put _ (some 58) _) _
        simp only [Act.put, List.setIfInBounds_toArray, List.set_cons_succ, List.set_cons_zero]
        refine wpAnyH_take (i := 3) (v := .pointer (some ⟨gb, 0, none⟩)) rfl (by kernel_rfl) (by kernel_rfl) (by kernel_rfl) (fun _ _ _ h => h) (Or.inl ⟨by kernel_rfl, ?_⟩) hS ?_
        · intro w hw
          have hc := hw.1
          clear hw
          go_simp
        change wpAnyH _ _ _ _ _ _ _ (Act.put _ (some 59) _) _
        simp only [Act.put, List.setIfInBounds_toArray, List.set_cons_succ, List.set_cons_zero]
        refine wpAnyH_take (i := 4) (v := .agg #[.string x.key, .int .i64 x.ver, .int .i64 x.asof, .int .i64 x.ends, .slice p x.val.length c]) rfl (by kernel_rfl) (by kernel_rfl) (by kernel_rfl) (fun _ _ _ h => h) (yieldsIf_load_mid (by kernel_rfl) 25 (.tmp 5) rfl (w.heap.size + 1) 0 rfl ([.string x.key, .int .i64 x.ver, .int .i64 x.asof, .int .i64 x.ends, .slice p x.val.length c]) _ (fun W hw => hw.2) Ite.Tryz.und24.choose_spec rfl (Ite.Tryz.size24)) hS ?_
        change wpAnyH _ _ _ _ _ _ _ (Act.put _ (some 60) _) _
        simp only [Act.put, List.setIfInBounds_toArray, List.set_cons_succ, List.set_cons_zero]
        refine wpAnyH_ready (rs := [5]) (by kernel_rfl) (by simp) ?_
        refine AllReadyH.cons rfl (fun K hK => ?_) AllReadyH.nil
        go_simp
        go_wp2_with fail
        refine (class_any x.key x.ver x.asof x.ends p x.val.length c _ (Nat.le_trans HCK.out.1 (by omega)) (Nat.le_trans HCK.out.2.2.2.2.2.2.2 (by omega)) (by have := HCK.out; omega) (by have := HCK.out; omega) HCK.out.2.2.2.2.2.1).mono ?_
        rintro e w8 ⟨rfl, hb8⟩
        have HB8 := hid2 ((drew_below_m w7 1 w7.heap.size).trans (hb8.mono (Nat.le_refl _)))
        have HT8 := hid2 (HT7.out.below HB8.out)
        have Y8 := hid2 (heap_stays Y7.out HB8.out)
        have X8 := hid2 (heap_stays X7.out HB8.out)
        have c81 := HT8.out.cells.2.1
        refine hK.out _ _ (⟨c81, box_range Y8.out⟩) (fun hS => ?_)
        clear hK K
        skip
        refine wpAnyH_ready (rs := [6]) (by kernel_rfl) (by simp) ?_
        refine AllReadyH.cons rfl (fun K hK => ?_) AllReadyH.nil
        go_simp
        go_wp2_with fail
        refine (Sla.give_bg HT8.out.bg HBO.out (ucl x)).mono ?_
        rintro e w9 ⟨v9, rfl, _, hbg9, hm9⟩
        have KP9 := hid2 (fun S (h : B2 ≤ S) => (Kept.grown hm9 (.inl (Nat.lt_of_lt_of_le HT8.out.lo.2.1 (Nat.le_trans HT8.out.lo.2.2.1 h))) : Kept S w8 w9))
        have F9 := hid2 (Fr.grown hm9 HT8.out.lo.1 ⟨_, _, HT8.out.bg⟩ (.inr (.inl rfl)))
        have HT9 := hid2 (HT8.out.budget hm9 hbg9)
        have Y9 := hid2 (F9.out.ent Y8.out (by decide))
        have X9 := hid2 (F9.out.ent X8.out (by decide))
        have c91 := HT9.out.cells.2.1
        clear hbg9 hm9
        refine hK.out _ _ (⟨c91, box_range Y9.out⟩) (fun hS => ?_)
        clear hK K
        skip
        refine wpAnyH_done (by kernel_rfl) ?_ _
        skip
        obtain ⟨⟨q0, q1, q2, q3, q4⟩, qf⟩ := Ite.five24 Y9.out
        have hq := lt_of_block Y9.out
        go_wp2_with (refine Ite.st24 rfl (.tmp 4) (.tmp 63) rfl w.heap.size rfl _ _ _ _ _ _ X9.out rfl rfl ⟨rfl, rfl, rfl, rfl, rfl⟩ ?_; intro wz hwz hgz)
        have FZ : Fr B w wz := Fr.box ((((Fr.of HBR.out).trans F7.out).trans (Fr.of HB8.out)).trans F9.out) hgz (Nat.le_refl _)
        have hBw : B ≤ w.heap.size := Nat.le_of_lt (Nat.lt_of_le_of_lt HT.out.lo.1 (lt_of_block HT.out.bg))
        have tg9 : Tag w9 w.heap.size 25 := ⟨_, _, X9.out⟩
        have TZ := HT9.out.boxed hgz hBw tg9 good_ent
        have WZ := HW5.out
        rw [← HX.out] at WZ
        have QZ := HQ.out.fr FZ
        refine bodyPost_ret (v := .agg #[.string x.key, .int .i64 x.ver, .int .i64 x.asof, .int .i64 x.ends, .slice p x.val.length c]) ?_ rfl ⟨p, c, rfl, QZ, FZ, _, H5, TZ, WZ, fun S h1 h2 => ((((((Kept.of HBR.out).trans (KP.out S h1)).trans (KP6.out S)).trans (KP7.out S h2)).trans (Kept.of HB8.out)).trans (KP9.out S h2)).trans (Kept.grown hgz (.inr ⟨_, tg9, by decide⟩))⟩
        exact Ite.results24 Tryz.results62 _ _ w.heap.size rfl _ _ _ _ _ 25 (0, 0) hwz
end Go.Proofs.YtkgecpplgjfhiaaGreatDoor
