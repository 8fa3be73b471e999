/-
  All: all entries, by the iterator.
-/
import Derived.Test.YtkgecpplgjfhiaaGreatDoorQSwpM
namespace Go.Proofs.YtkgecpplgjfhiaaGreatDoor
open Go.RowKit
open Ite (Ent zeroE checkE sizeE)
open Lis (Lst but Tag Ls orderP)
attribute [local go_sem] Oper.semAt_some
variable {w : World} {B g : Nat} {lim : Int} {L : List Ent} {M : Nat}
/-- What holds between two rounds of All: k have come. -/
def AllI (t : Tour) (w : World) (B g S bl : Nat) (k : Nat) (W : World) : Prop := ∃ u cs, W.ownsRow w.heap.size 25 5 u k cs ∧ EQ W B ((t.all.take k).map t.ent) cs ∧ k ≤ t.all.length ∧
  W.heap[bl]? = some (.cells #[u] 35 (0, 0)) ∧ W.heap[bl + 1]? = some (.cells #[.pointer (some ⟨g, 0, none⟩)] 30 (0, 0)) ∧ Below w.heap.size w W ∧ S ≤ W.heap.size
theorem AllI.below {t : Tour} {w : World} {B g S bl k : Nat} {A C : World} (h : AllI t w B g S bl k A) (b : Below A.heap.size A C) : AllI t w B g S bl k C := by
  obtain ⟨u, cs, ho, hq, hk, h35, h30, hb, hs⟩ := h
  exact ⟨u, cs, own_fr (B := 0) ho (.of b), hq.fr (.of b), hk, heap_stays h35 b, heap_stays h30 b, hb.trans (b.mono hb.size), Nat.le_trans hs b.size⟩
/-- What a round of All begins with. -/
def AllA (t : Tour) (B S : Nat) (A : Value → Value → Value → Act) (k : Nat) (a : Act) (W : World) : Prop := ∃ i p c Bx, t.all[k]? = some i ∧ S ≤ Bx ∧ Bq W B (.slice p (t.ent i).val.length c) (t.ent i).val ∧
  W.heap[Bx]? = some (.cells #[.string (t.ent i).key, .int .i64 (t.ent i).ver, .int .i64 (t.ent i).asof, .int .i64 (t.ent i).ends, .slice p (t.ent i).val.length c] 25 (0, 0)) ∧
  a = A (.int .i64 i) (.agg #[.string (t.ent i).key, .int .i64 (t.ent i).ver, .int .i64 (t.ent i).asof, .int .i64 (t.ent i).ends, .slice p (t.ent i).val.length c]) (.pointer (some ⟨Bx, 0, none⟩))
section
variable {gb gl B1 B2 gc : Nat} {v : Value} {n : Nat} {s : Lst} {bl : List Int} {T : Int → Ent} {th : Nat} {X : Int → Int} {H : Nat → Int}
theorem all_end {t : Tour} {W Z Z4 : World} {S b35 k : Nat} {i : Int} {x : Ent} {cs : List Value} {u v4 : Value} {p2 : Option Addr} {c2 : Nat} {a : Act}
    (hit : t.all[k]? = some i) (hx : x = t.ent i) (RG : Rg 25 B Z Z4)
    (O4 : Z4.ownsRow w.heap.size 25 5 v4 (k + 1) (cs ++ [.string x.key, .int .i64 x.ver, .int .i64 x.asof, .int .i64 x.ends, .slice p2 x.val.length c2]))
    (X35 : Z4.heap[b35]? = some (.cells #[u] 35 (0, 0))) (X30 : Z4.heap[b35 + 1]? = some (.cells #[.pointer (some ⟨g, 0, none⟩)] 30 (0, 0)))
    (B4 : Below w.heap.size w Z4) (TZ : Tb Z B g gb gl B1 B2 gc v lim n s bl T th X H M) (HQ : EQ Z B ((t.all.take k).map t.ent) cs) (HQ3 : Bq Z B (.slice p2 x.val.length c2) x.val)
    (HZ : Below W.heap.size W Z) (hs : S ≤ W.heap.size) (hb : w.heap.size ≤ b35) (hBw : B ≤ w.heap.size) :
    postX S (Kept S) (fun k W => AllI t w B g S b35 k W ∧ Tb W B g gb gl B1 B2 gc v lim n s bl T th X H M) (k + 1) W .normal a (Z4.setCell ⟨b35, 0, none⟩ v4) := by
  have hset := Ite.setCell_grownBy Z4 b35 0 v4
  have t35 : Tag Z4 b35 35 := ⟨_, _, X35⟩
  have h35 : (Z4.setCell ⟨b35, 0, none⟩ v4).heap[b35]? = some (.cells #[v4] 35 (0, 0)) := by
    have := Lis.set_same (v := v4) (o := 0) X35
    simpa using this
  have e : (t.all.take (k + 1)).map t.ent = (t.all.take k).map t.ent ++ [x] := by
    obtain ⟨hl, hi⟩ := List.getElem?_eq_some_iff.1 hit
    rw [List.take_succ_eq_append_getElem hl, List.map_append, hi, hx]
    rfl
  have kq : ∀ v l, Bq Z B v l → Bq (Z4.setCell ⟨b35, 0, none⟩ v4) B v l := fun v l h => (RG.bq good_ent.2 _ _ h).boxed hset (Nat.le_trans hBw hb) t35 (by decide)
  refine ⟨((kf_below S HZ).trans (kf_rg S RG)).trans (kf_set S Z4 _ _), ((Kept.of HZ).trans (RG.kept (by decide) S)).trans (Kept.grown hset (.inr ⟨_, t35, by decide⟩)), ⟨v4, cs ++ [.string x.key, .int .i64 x.ver, .int .i64 x.asof, .int .i64 x.ends, .slice p2 x.val.length c2], ?_, ?_, (List.getElem?_eq_some_iff.1 hit).1, h35, ?_, ?_, ?_⟩, ?_⟩
  · exact own_kept5 O4 (fun b _ tb => hset.block b tb.lt (fun q => tb.ne t35 (by decide) (Option.some.inj q)))
  · rw [e]
    exact (HQ.keep kq).snoc (kq _ _ HQ3)
  · rw [hset.block (b35 + 1) (lt_of_heap X30) (by simp)]; exact X30
  · exact B4.grown hset B4.size (fun k q => by cases q; exact hb)
  · exact Nat.le_trans hs (Nat.le_trans HZ.size (Nat.le_trans RG.size hset.size))
  · exact (TZ.rg RG good_ent).boxed hset (Nat.le_trans hBw hb) t35 (by decide)
end
set_option maxHeartbeats 1000000 in
set_option maxRecDepth 100000 in
theorem all_own (h : Tier w B g lim L M) : Calls Tryz.prog 21 #[.pointer (some ⟨g, 0, none⟩)] w fun e w' => ∃ v cs, e = .returned v ∧ w'.ownsRow w.heap.size 25 5 v (allE L 9).length cs ∧ EQ w' B (allE L 9) cs ∧ Below w.heap.size w w' := by
  have hl := h.fine.2.2.2.2.2.1
  have KL := hid2 (len_t h)
  obtain ⟨gb, gl, B1, B2, gc, v, n, s, bl, T, th, X, H, C, h1, h2, hLU, h4⟩ := h
  have HT := hid2 h1
  have TT := hid2 h2
  obtain ⟨i0, hi, hz0, hz1, hz2⟩ := info_parts info_en
  clear h1 h2 h4
  have HLU := hid2 hLU
  clear hLU
  refine (callsIn_wide (n := 3)).1 ?_
  refine callsIn_of_wp_marks Tryz.func21 rfl trivial ?_ rfl
  simp only [Tryz.ntmps21, List.size_toArray, List.length_cons, List.length_nil, Nat.reduceAdd, Nat.reduceSub, Array.replicate_succ, Array.replicate_zero, List.push_toArray, List.append_toArray, List.nil_append, List.cons_append]
  gi_wp2_with (first
    | (refine ⟨trivial, ?_⟩; gi_at_call 14; refine (callsIn_wide.2 (show Calls _ _ _ _ _ from KL.out)).mono ?_; rintro e w0 ⟨rfl, hw0⟩; obtain rfl := hw0.symm)
    | (gi_at_make; refine wpListIn_make_own _ rfl _ _ _ rfl w.heap.size 25 i0 _ 5 Tryz.underlying35 hi hz0 hz1 .i64 .i64 (L.length : Int) L.length rfl rfl rfl (by rw [hz2]; omega) (by unfold maxLen; omega) (Nat.le_refl _) ?_; intro w1 hown1 hg1; have hb1 : Below w.heap.size w w1 := (Below.refl _ _).grown hg1 (Nat.le_refl _) (fun k hk => by cases hk); clear hw0)
    | (refine ⟨trivial, ?_⟩; gi_at_call 49; refine (callsIn_wide.2 (each_x g _)).mono ?_; rintro e w2 ⟨rfl, hw2⟩))
  have HB1 := hid2 hb1
  have HO1 := hid2 hown1
  have Hw2 := hid2 hw2
  obtain ⟨w3, hw3⟩ : ∃ w3, w3 = ((w1.alloc (.cells #[.slice (some ⟨w.heap.size, 0, none⟩) 0 L.length] 35)).alloc (.cells #[.pointer (some ⟨g, 0, none⟩)] 30)) := ⟨_, rfl⟩
  have B13 : Below w1.heap.size w1 w3 := by rw [hw3]; go_grown
  have hsz3 : w3.heap.size = w1.heap.size + 2 := by rw [hw3]; simp
  have hx3 : w3.heap[w1.heap.size]? = some (.cells #[.slice (some ⟨w.heap.size, 0, none⟩) 0 L.length] 35 (0, 0)) := by
    rw [hw3]; exact heap_stays (heap_alloc_new w1 _) (by go_grown)
  have hy3 : w3.heap[w1.heap.size + 1]? = some (.cells #[.pointer (some ⟨g, 0, none⟩)] 30 (0, 0)) := by
    rw [hw3]; simpa using heap_alloc_new (w1.alloc (.cells #[.slice (some ⟨w.heap.size, 0, none⟩) 0 L.length] 35)) (.cells #[.pointer (some ⟨g, 0, none⟩)] 30)
  rw [← hw3]
  clear hw3 hw2 Hw2 hb1 hown1 hg1
  have hw1l := HB1.out.size
  have B3 := HB1.out.trans (B13.mono HB1.out.size)
  have HT3 := hid2 (HT.out.below (B3.mono (Nat.le_refl _)))
  have HO3 := hid2 (own_fr (B := 0) HO1.out (.of B13))
  have hBw : B ≤ w.heap.size := Nat.le_of_lt (Nat.lt_of_le_of_lt HT.out.lo.1 (Nat.lt_of_lt_of_le HT.out.lo.2.1 (Nat.le_trans HT.out.lo.2.2.1 (Nat.le_trans HT.out.lo.2.2.2.2 (Nat.le_of_lt (lt_of_block HT.out.obj))))))
  have hB3 : B ≤ w3.heap.size := Nat.le_trans hBw B3.size
  have hw3l := B3.size
  refine wpIn_rangeFunc_x rfl (by omega) (gf := 73) (lb := #[.pointer (some ⟨w1.heap.size + 1, 0, none⟩)]) rfl trivial (enters_of Tryz.func73 (by kernel_rfl) rfl) (each1_x (tourOf s T) (w1.heap.size + 1) B g w3.heap.size w3 (Nat.le_refl _) _)
    (fun h k => h.trans k) (fun W l o q _ hw => Kept.loop _ hw rfl) (by rintro k x W ⟨i, p, c, _, rfl, _⟩; rfl)
    (fun k W => AllI (tourOf s T) w B g w3.heap.size w1.heap.size k W ∧ Tb W B g gb gl B1 B2 gc v lim n s bl T th X H M)
    (fun k A C h b => ⟨h.1.below b, h.2.below b⟩)
    (fun k W l o q hl hw ⟨⟨u, cs, ho, hq, hk, h35, h30, hb, hs⟩, ht⟩ => ⟨⟨u, cs, own_loop ho hw rfl, hq.keep (fun _ _ h => h.loop (Nat.le_trans hB3 hl) hw rfl), hk, (tag_loop hw rfl ⟨_, _, h35⟩).trans h35, (tag_loop hw rfl ⟨_, _, h30⟩).trans h30, hb.grown (grownBy_putObj' W l (.loop q)) hb.size (fun k e => by cases e; omega), by simpa using hs⟩, ht.loop (Nat.le_trans hB3 hl) hw rfl⟩)
    (fun k A ⟨⟨u, cs, ho, hq, hk, h35, h30, hb, hs⟩, ht⟩ => tour_at ht TT.out h30 k)
    ⟨⟨_, [], HO3.out, rfl, Nat.zero_le _, hx3, hy3, B3, Nat.le_refl _⟩, HT3.out⟩
    (AllA (tourOf s T) B w3.heap.size fun xi xa xb => { tmps := #[.pointer (some ⟨g, 0, none⟩), undef, .slice none 0 0, .pointer (some ⟨w1.heap.size, 0, none⟩), undef, xb, .pointer (some ⟨g, 0, none⟩), .int .i64 (L.length : Int), .slice (some ⟨w.heap.size, 0, none⟩) 0 L.length, .pointer (some ⟨g, 0, none⟩), .func (.func 73) #[] #[.pointer (some ⟨w1.heap.size + 1, 0, none⟩)], xi, xa, undef, undef, undef, undef, undef, undef], defers := [] })
    (fun k a' W l o q hl hw ⟨i, p, c, Bx, h1, h2, h3, h4, h5⟩ => ⟨i, p, c, Bx, h1, h2, h3.loop (Nat.le_trans hB3 hl) hw rfl, (tag_loop hw rfl ⟨_, _, h4⟩).trans h4, h5⟩) ?assign ?body ?done
  case assign =>
    rintro l k x W K hk ⟨i, p, c, hit, rfl, hbq⟩ hIW hK
    gi_wp2
    have hal : Below W.heap.size W (W.alloc (.cells #[.string ((tourOf s T).ent i).key, .int .i64 ((tourOf s T).ent i).ver, .int .i64 ((tourOf s T).ent i).asof, .int .i64 ((tourOf s T).ent i).ends, .slice p ((tourOf s T).ent i).val.length c] 25)) := by go_grown
    exact hK _ _ ((KeepsOthers.alloc _ _).from _) (.of hal) ⟨hIW.1.below hal, hIW.2.below hal⟩ ⟨i, p, c, W.heap.size, hit, by obtain ⟨_, _, _, _, _, _, _, _, hs⟩ := hIW.1; exact hs, hbq.stays hal, heap_alloc_new W _, rfl⟩
  case body =>
    rintro l k a' W hl hk ⟨⟨u, cs, ho, hq, hk', h35, h30, hb, hs⟩, ht⟩ ⟨i, p, c, Bx, h1, h2, h3, h4, rfl⟩
    have hmx : Tryz.prog.follows .mixedOrders = true := by kernel_rfl
    obtain ⟨x, hx⟩ : ∃ x, x = (tourOf s T).ent i := ⟨_, rfl⟩
    rw [← hx] at h3 h4
    have HX := hid2 hx
    have hi' : (k : Nat) < (tourOf s T).all.length := hk
    have hkb : k + 1 ≤ 1000 := by
      have e1 := congrArg List.length (tour_all s T 9)
      rw [List.length_map] at e1
      have e2 := allE_len (s.U.map T) 9
      rw [← HLU.out] at e1 e2
      have e3 : k < ((tourOf s T).upto 9).length := hi'
      omega
    have hfine : checkE x = 0 := by rw [hx]; exact TT.out.fine i (tour_mem (List.mem_of_getElem? h1))
    have hvl := (Ite.chk_ok hfine).2.2.2.2.2.2.2
    have H1 := hid2 h1
    have HI := hid2 (show AllI (tourOf s T) w B g w3.heap.size w1.heap.size k W from ⟨u, cs, ho, hq, hk', h35, h30, hb, hs⟩)
    have HT4 := hid2 ht
    have HO := hid2 ho
    have HQ := hid2 hq
    have H35 := hid2 h35
    have H30 := hid2 h30
    have H3 := hid2 h3
    have H4 := hid2 h4
    have HB := hid2 hb
    clear hx h1 ho hq h35 h30 h3 h4 hb ht KL HT HO1 HT3 HO3 hx3 hy3 B13 HB1
    gi_wp2
    refine wpIn_round_held (S := fun _ => True) hmx (by kernel_rfl) (by rintro ⟨a, w, h⟩; exact h) trivial (fun _ => ?_)
    change wpAnyH _ _ _ _ _ _ _ _ (World.drew _)
    obtain ⟨Z, hZ⟩ : ∃ Z, Z = W.drew := ⟨_, rfl⟩
    have HZ : Hid (Below W.heap.size W Z) := by rw [hZ]; exact drew_below_m W 1 _
    rw [← hZ]
    clear hZ
    refine wpAnyH_ready (rs := [0, 1]) (by kernel_rfl) (by simp) ?_
    refine AllReadyH.cons rfl (fun K hK => ?_) (AllReadyH.cons rfl (fun K hK => ?_) AllReadyH.nil)
    · have hc : Z.cell? ⟨w1.heap.size, 0, none⟩ = some u := by have e := heap_stays H35.out HZ.out; simp [World.cell?, e]
      go_simp
      clear hc
      refine hK.out _ _ trivial (fun _ => ?_)
      clear hK K
      refine wpAnyH_ready (rs := [1]) (by kernel_rfl) (by simp) ?_
      refine AllReadyH.cons rfl (fun K hK => ?_) AllReadyH.nil
      rw [if_pos (by kernel_rfl)]
      refine wp_load_mid 25 (.tmp 5) rfl Bx 0 rfl [.string x.key, .int .i64 x.ver, .int .i64 x.asof, .int .i64 x.ends, .slice p x.val.length c] _ (box_range (heap_stays H4.out HZ.out)) Ite.Tryz.und24.choose_spec rfl Ite.Tryz.size24 ?_
      refine hK.out _ _ trivial (fun _ => ?_)
      clear hK K
      refine wpAnyH_ready (rs := [2]) (by kernel_rfl) (by simp) ?_
      refine AllReadyH.cons rfl (fun K hK => ?_) AllReadyH.nil
      have KC := Ite.copy_any x.key x.ver x.asof x.ends (H3.out.stays HZ.out).bs (Nat.le_trans hvl (by omega))
      go_simp
      go_wp2_with fail
      refine (show Calls _ _ _ _ _ from KC).mono ?_
      rintro e Z2 ⟨p2, c2, rfl, h5, hb5⟩
      have HZ2 := hid2 (HZ.out.trans (hb5.mono HZ.out.size))
      have HQ2 := hid2 (Bq.of5 B h5)
      clear KC h5 hb5
      refine hK.out _ _ trivial (fun _ => ?_)
      clear hK K
      refine wpAnyH_ready (rs := [3]) (by kernel_rfl) (by simp) ?_
      refine AllReadyH.cons rfl (fun K hK => ?_) AllReadyH.nil
      have hal : Below Z2.heap.size Z2 (Z2.alloc (.cells #[.string x.key, .int .i64 x.ver, .int .i64 x.asof, .int .i64 x.ends, .slice p2 x.val.length c2] 25)) := by go_grown
      go_simp
      go_wp2_with fail
      refine hK.out _ _ trivial (fun _ => ?_)
      clear hK K
      have hnew := heap_alloc_new Z2 (.cells #[.string x.key, .int .i64 x.ver, .int .i64 x.asof, .int .i64 x.ends, .slice p2 x.val.length c2] 25)
      obtain ⟨Z23, hz3⟩ : ∃ Z3, Z3 = (Z2.alloc (.cells #[.string x.key, .int .i64 x.ver, .int .i64 x.asof, .int .i64 x.ends, .slice p2 x.val.length c2] 25)) := ⟨_, rfl⟩
      rw [← hz3] at hal hnew ⊢
      clear hz3
      have HN := hid2 hnew
      have HQ3 := hid2 (HQ2.out.stays hal)
      have HZ23 := hid2 (HZ2.out.trans (hal.mono HZ2.out.size))
      have nb := HZ2.out.size
      clear hal hnew HQ2
      refine wpAnyH_ready (rs := [4]) (by kernel_rfl) (by simp) ?_
      refine AllReadyH.cons rfl (fun K hK => ?_) AllReadyH.nil
      have OZ := hid2 (own_fr (B := 0) HO.out (.of HZ23.out))
      have BZ := hid2 (HB.out.trans (HZ23.out.mono HB.out.size))
      have TZ := hid2 (HT4.out.below HZ23.out)
      refine step_append_e rfl (.tmp 13) (.tmp 16) rfl w.heap.size u k cs rfl OZ.out _ 0 1 1 [.string x.key, .int .i64 x.ver, .int .i64 x.asof, .int .i64 x.ends, .slice p2 x.val.length c2] rfl rfl (box_range HN.out) (by intro u hu; simp at hu; rcases hu with rfl | rfl | rfl | rfl | rfl <;> rfl) (by omega) BZ.out.size ?_
      intro v4 Z4 hown4 hgrow4
      obtain ⟨p4, cap4, rfl⟩ := own_form5 hown4
      have GG := row_grown (Below.refl Z23.heap.size Z23) OZ.out hgrow4 (Fr.of (B := B) BZ.out) (Nat.le_refl _) hBw
      have B4 := hid2 (below_row BZ.out (Below.refl Z23.heap.size Z23) OZ.out hgrow4)
      have RG := hid2 GG.2
      have O4 := hid2 hown4
      have X35 := hid2 ((RG.out.tag ⟨_, _, heap_stays H35.out HZ23.out⟩ (by decide)).trans (heap_stays H35.out HZ23.out))
      have X30 := hid2 ((RG.out.tag ⟨_, _, heap_stays H30.out HZ23.out⟩ (by decide)).trans (heap_stays H30.out HZ23.out))
      clear GG hown4 hgrow4
      refine hK.out _ _ trivial (fun _ => ?_)
      clear hK K
      refine wpAnyH_ready (rs := [5]) (by kernel_rfl) (by simp) ?_
      refine AllReadyH.cons rfl (fun K hK => ?_) AllReadyH.nil
      have hc4 : Z4.cell? ⟨w1.heap.size, 0, none⟩ = some u := by have e := X35.out; simp [World.cell?, e]
      have hf4 : Z4.frozen? ⟨w1.heap.size, 0, none⟩ = false := by have e := X35.out; simp [World.frozen?, e]
      go_simp
      refine hK.out _ _ trivial (fun _ => ?_)
      clear hK K hc4 hf4
      refine wpAnyH_done (by kernel_rfl) ?_ _
      exact all_end (a := ⟨#[], []⟩) H1.out HX.out RG.out O4.out X35.out X30.out B4.out TZ.out (HQ.out.keep fun _ _ h => h.stays HZ23.out) HQ3.out HZ23.out hs hw1l hBw
    · rw [if_pos (by kernel_rfl)]
      refine wp_load_mid 25 (.tmp 5) rfl Bx 0 rfl [.string x.key, .int .i64 x.ver, .int .i64 x.asof, .int .i64 x.ends, .slice p x.val.length c] _ (box_range (heap_stays H4.out HZ.out)) Ite.Tryz.und24.choose_spec rfl Ite.Tryz.size24 ?_
      refine hK.out _ _ trivial (fun _ => ?_)
      clear hK K
      refine wpAnyH_ready (rs := [0, 2]) (by kernel_rfl) (by simp) ?_
      refine AllReadyH.cons rfl (fun K hK => ?_) (AllReadyH.cons rfl (fun K hK => ?_) AllReadyH.nil)
      · have hc : Z.cell? ⟨w1.heap.size, 0, none⟩ = some u := by have e := heap_stays H35.out HZ.out; simp [World.cell?, e]
        go_simp
        clear hc
        refine hK.out _ _ trivial (fun _ => ?_)
        clear hK K
        refine wpAnyH_ready (rs := [2]) (by kernel_rfl) (by simp) ?_
        refine AllReadyH.cons rfl (fun K hK => ?_) AllReadyH.nil
        have KC := Ite.copy_any x.key x.ver x.asof x.ends (H3.out.stays HZ.out).bs (Nat.le_trans hvl (by omega))
        go_simp
        go_wp2_with fail
        refine (show Calls _ _ _ _ _ from KC).mono ?_
        rintro e Z2 ⟨p2, c2, rfl, h5, hb5⟩
        have HZ2 := hid2 (HZ.out.trans (hb5.mono HZ.out.size))
        have HQ2 := hid2 (Bq.of5 B h5)
        clear KC h5 hb5
        refine hK.out _ _ trivial (fun _ => ?_)
        clear hK K
        refine wpAnyH_ready (rs := [3]) (by kernel_rfl) (by simp) ?_
        refine AllReadyH.cons rfl (fun K hK => ?_) AllReadyH.nil
        have hal : Below Z2.heap.size Z2 (Z2.alloc (.cells #[.string x.key, .int .i64 x.ver, .int .i64 x.asof, .int .i64 x.ends, .slice p2 x.val.length c2] 25)) := by go_grown
        go_simp
        go_wp2_with fail
        refine hK.out _ _ trivial (fun _ => ?_)
        clear hK K
        have hnew := heap_alloc_new Z2 (.cells #[.string x.key, .int .i64 x.ver, .int .i64 x.asof, .int .i64 x.ends, .slice p2 x.val.length c2] 25)
        obtain ⟨Z23, hz3⟩ : ∃ Z3, Z3 = (Z2.alloc (.cells #[.string x.key, .int .i64 x.ver, .int .i64 x.asof, .int .i64 x.ends, .slice p2 x.val.length c2] 25)) := ⟨_, rfl⟩
        rw [← hz3] at hal hnew ⊢
        clear hz3
        have HN := hid2 hnew
        have HQ3 := hid2 (HQ2.out.stays hal)
        have HZ23 := hid2 (HZ2.out.trans (hal.mono HZ2.out.size))
        have nb := HZ2.out.size
        clear hal hnew HQ2
        refine wpAnyH_ready (rs := [4]) (by kernel_rfl) (by simp) ?_
        refine AllReadyH.cons rfl (fun K hK => ?_) AllReadyH.nil
        have OZ := hid2 (own_fr (B := 0) HO.out (.of HZ23.out))
        have BZ := hid2 (HB.out.trans (HZ23.out.mono HB.out.size))
        have TZ := hid2 (HT4.out.below HZ23.out)
        refine step_append_e rfl (.tmp 13) (.tmp 16) rfl w.heap.size u k cs rfl OZ.out _ 0 1 1 [.string x.key, .int .i64 x.ver, .int .i64 x.asof, .int .i64 x.ends, .slice p2 x.val.length c2] rfl rfl (box_range HN.out) (by intro u hu; simp at hu; rcases hu with rfl | rfl | rfl | rfl | rfl <;> rfl) (by omega) BZ.out.size ?_
        intro v4 Z4 hown4 hgrow4
        obtain ⟨p4, cap4, rfl⟩ := own_form5 hown4
        have GG := row_grown (Below.refl Z23.heap.size Z23) OZ.out hgrow4 (Fr.of (B := B) BZ.out) (Nat.le_refl _) hBw
        have B4 := hid2 (below_row BZ.out (Below.refl Z23.heap.size Z23) OZ.out hgrow4)
        have RG := hid2 GG.2
        have O4 := hid2 hown4
        have X35 := hid2 ((RG.out.tag ⟨_, _, heap_stays H35.out HZ23.out⟩ (by decide)).trans (heap_stays H35.out HZ23.out))
        have X30 := hid2 ((RG.out.tag ⟨_, _, heap_stays H30.out HZ23.out⟩ (by decide)).trans (heap_stays H30.out HZ23.out))
        clear GG hown4 hgrow4
        refine hK.out _ _ trivial (fun _ => ?_)
        clear hK K
        refine wpAnyH_ready (rs := [5]) (by kernel_rfl) (by simp) ?_
        refine AllReadyH.cons rfl (fun K hK => ?_) AllReadyH.nil
        have hc4 : Z4.cell? ⟨w1.heap.size, 0, none⟩ = some u := by have e := X35.out; simp [World.cell?, e]
        have hf4 : Z4.frozen? ⟨w1.heap.size, 0, none⟩ = false := by have e := X35.out; simp [World.frozen?, e]
        go_simp
        refine hK.out _ _ trivial (fun _ => ?_)
        clear hK K hc4 hf4
        refine wpAnyH_done (by kernel_rfl) ?_ _
        exact all_end (a := ⟨#[], []⟩) H1.out HX.out RG.out O4.out X35.out X30.out B4.out TZ.out (HQ.out.keep fun _ _ h => h.stays HZ23.out) HQ3.out HZ23.out hs hw1l hBw
      · have KC := Ite.copy_any x.key x.ver x.asof x.ends (H3.out.stays HZ.out).bs (Nat.le_trans hvl (by omega))
        go_simp
        go_wp2_with fail
        refine (show Calls _ _ _ _ _ from KC).mono ?_
        rintro e Z2 ⟨p2, c2, rfl, h5, hb5⟩
        have HZ2 := hid2 (HZ.out.trans (hb5.mono HZ.out.size))
        have HQ2 := hid2 (Bq.of5 B h5)
        clear KC h5 hb5
        refine hK.out _ _ trivial (fun _ => ?_)
        clear hK K
        refine wpAnyH_ready (rs := [0, 3]) (by kernel_rfl) (by simp) ?_
        refine AllReadyH.cons rfl (fun K hK => ?_) (AllReadyH.cons rfl (fun K hK => ?_) AllReadyH.nil)
        · have hc : Z2.cell? ⟨w1.heap.size, 0, none⟩ = some u := by have e := heap_stays H35.out HZ2.out; simp [World.cell?, e]
          go_simp
          clear hc
          refine hK.out _ _ trivial (fun _ => ?_)
          clear hK K
          refine wpAnyH_ready (rs := [3]) (by kernel_rfl) (by simp) ?_
          refine AllReadyH.cons rfl (fun K hK => ?_) AllReadyH.nil
          have hal : Below Z2.heap.size Z2 (Z2.alloc (.cells #[.string x.key, .int .i64 x.ver, .int .i64 x.asof, .int .i64 x.ends, .slice p2 x.val.length c2] 25)) := by go_grown
          go_simp
          go_wp2_with fail
          refine hK.out _ _ trivial (fun _ => ?_)
          clear hK K
          have hnew := heap_alloc_new Z2 (.cells #[.string x.key, .int .i64 x.ver, .int .i64 x.asof, .int .i64 x.ends, .slice p2 x.val.length c2] 25)
          obtain ⟨Z23, hz3⟩ : ∃ Z3, Z3 = (Z2.alloc (.cells #[.string x.key, .int .i64 x.ver, .int .i64 x.asof, .int .i64 x.ends, .slice p2 x.val.length c2] 25)) := ⟨_, rfl⟩
          rw [← hz3] at hal hnew ⊢
          clear hz3
          have HN := hid2 hnew
          have HQ3 := hid2 (HQ2.out.stays hal)
          have HZ23 := hid2 (HZ2.out.trans (hal.mono HZ2.out.size))
          have nb := HZ2.out.size
          clear hal hnew HQ2
          refine wpAnyH_ready (rs := [4]) (by kernel_rfl) (by simp) ?_
          refine AllReadyH.cons rfl (fun K hK => ?_) AllReadyH.nil
          have OZ := hid2 (own_fr (B := 0) HO.out (.of HZ23.out))
          have BZ := hid2 (HB.out.trans (HZ23.out.mono HB.out.size))
          have TZ := hid2 (HT4.out.below HZ23.out)
          refine step_append_e rfl (.tmp 13) (.tmp 16) rfl w.heap.size u k cs rfl OZ.out _ 0 1 1 [.string x.key, .int .i64 x.ver, .int .i64 x.asof, .int .i64 x.ends, .slice p2 x.val.length c2] rfl rfl (box_range HN.out) (by intro u hu; simp at hu; rcases hu with rfl | rfl | rfl | rfl | rfl <;> rfl) (by omega) BZ.out.size ?_
          intro v4 Z4 hown4 hgrow4
          obtain ⟨p4, cap4, rfl⟩ := own_form5 hown4
          have GG := row_grown (Below.refl Z23.heap.size Z23) OZ.out hgrow4 (Fr.of (B := B) BZ.out) (Nat.le_refl _) hBw
          have B4 := hid2 (below_row BZ.out (Below.refl Z23.heap.size Z23) OZ.out hgrow4)
          have RG := hid2 GG.2
          have O4 := hid2 hown4
          have X35 := hid2 ((RG.out.tag ⟨_, _, heap_stays H35.out HZ23.out⟩ (by decide)).trans (heap_stays H35.out HZ23.out))
          have X30 := hid2 ((RG.out.tag ⟨_, _, heap_stays H30.out HZ23.out⟩ (by decide)).trans (heap_stays H30.out HZ23.out))
          clear GG hown4 hgrow4
          refine hK.out _ _ trivial (fun _ => ?_)
          clear hK K
          refine wpAnyH_ready (rs := [5]) (by kernel_rfl) (by simp) ?_
          refine AllReadyH.cons rfl (fun K hK => ?_) AllReadyH.nil
          have hc4 : Z4.cell? ⟨w1.heap.size, 0, none⟩ = some u := by have e := X35.out; simp [World.cell?, e]
          have hf4 : Z4.frozen? ⟨w1.heap.size, 0, none⟩ = false := by have e := X35.out; simp [World.frozen?, e]
          go_simp
          refine hK.out _ _ trivial (fun _ => ?_)
          clear hK K hc4 hf4
          refine wpAnyH_done (by kernel_rfl) ?_ _
          exact all_end (a := ⟨#[], []⟩) H1.out HX.out RG.out O4.out X35.out X30.out B4.out TZ.out (HQ.out.keep fun _ _ h => h.stays HZ23.out) HQ3.out HZ23.out hs hw1l hBw
        · have hal : Below Z2.heap.size Z2 (Z2.alloc (.cells #[.string x.key, .int .i64 x.ver, .int .i64 x.asof, .int .i64 x.ends, .slice p2 x.val.length c2] 25)) := by go_grown
          go_simp
          go_wp2_with fail
          refine hK.out _ _ trivial (fun _ => ?_)
          clear hK K
          have hnew := heap_alloc_new Z2 (.cells #[.string x.key, .int .i64 x.ver, .int .i64 x.asof, .int .i64 x.ends, .slice p2 x.val.length c2] 25)
          obtain ⟨Z23, hz3⟩ : ∃ Z3, Z3 = (Z2.alloc (.cells #[.string x.key, .int .i64 x.ver, .int .i64 x.asof, .int .i64 x.ends, .slice p2 x.val.length c2] 25)) := ⟨_, rfl⟩
          rw [← hz3] at hal hnew ⊢
          clear hz3
          have HN := hid2 hnew
          have HQ3 := hid2 (HQ2.out.stays hal)
          have HZ23 := hid2 (HZ2.out.trans (hal.mono HZ2.out.size))
          have nb := HZ2.out.size
          clear hal hnew HQ2
          refine wpAnyH_ready (rs := [0]) (by kernel_rfl) (by simp) ?_
          refine AllReadyH.cons rfl (fun K hK => ?_) AllReadyH.nil
          have hc : Z23.cell? ⟨w1.heap.size, 0, none⟩ = some u := by have e := heap_stays H35.out HZ23.out; simp [World.cell?, e]
          go_simp
          clear hc
          refine hK.out _ _ trivial (fun _ => ?_)
          clear hK K
          refine wpAnyH_ready (rs := [4]) (by kernel_rfl) (by simp) ?_
          refine AllReadyH.cons rfl (fun K hK => ?_) AllReadyH.nil
          have OZ := hid2 (own_fr (B := 0) HO.out (.of HZ23.out))
          have BZ := hid2 (HB.out.trans (HZ23.out.mono HB.out.size))
          have TZ := hid2 (HT4.out.below HZ23.out)
          refine step_append_e rfl (.tmp 13) (.tmp 16) rfl w.heap.size u k cs rfl OZ.out _ 0 1 1 [.string x.key, .int .i64 x.ver, .int .i64 x.asof, .int .i64 x.ends, .slice p2 x.val.length c2] rfl rfl (box_range HN.out) (by intro u hu; simp at hu; rcases hu with rfl | rfl | rfl | rfl | rfl <;> rfl) (by omega) BZ.out.size ?_
          intro v4 Z4 hown4 hgrow4
          obtain ⟨p4, cap4, rfl⟩ := own_form5 hown4
          have GG := row_grown (Below.refl Z23.heap.size Z23) OZ.out hgrow4 (Fr.of (B := B) BZ.out) (Nat.le_refl _) hBw
          have B4 := hid2 (below_row BZ.out (Below.refl Z23.heap.size Z23) OZ.out hgrow4)
          have RG := hid2 GG.2
          have O4 := hid2 hown4
          have X35 := hid2 ((RG.out.tag ⟨_, _, heap_stays H35.out HZ23.out⟩ (by decide)).trans (heap_stays H35.out HZ23.out))
          have X30 := hid2 ((RG.out.tag ⟨_, _, heap_stays H30.out HZ23.out⟩ (by decide)).trans (heap_stays H30.out HZ23.out))
          clear GG hown4 hgrow4
          refine hK.out _ _ trivial (fun _ => ?_)
          clear hK K
          refine wpAnyH_ready (rs := [5]) (by kernel_rfl) (by simp) ?_
          refine AllReadyH.cons rfl (fun K hK => ?_) AllReadyH.nil
          have hc4 : Z4.cell? ⟨w1.heap.size, 0, none⟩ = some u := by have e := X35.out; simp [World.cell?, e]
          have hf4 : Z4.frozen? ⟨w1.heap.size, 0, none⟩ = false := by have e := X35.out; simp [World.frozen?, e]
          go_simp
          refine hK.out _ _ trivial (fun _ => ?_)
          clear hK K hc4 hf4
          refine wpAnyH_done (by kernel_rfl) ?_ _
          exact all_end (a := ⟨#[], []⟩) H1.out HX.out RG.out O4.out X35.out X30.out B4.out TZ.out (HQ.out.keep fun _ _ h => h.stays HZ23.out) HQ3.out HZ23.out hs hw1l hBw
  case done =>
    rintro D W hD ⟨⟨u, cs, ho, hq, hk, h35, h30, hb, hs⟩, ht⟩ hK
    have hc : W.cell? ⟨w1.heap.size, 0, none⟩ = some u := by simp [World.cell?, h35]
    gi_wp2
    refine ⟨by simp, .inl ⟨_, _, rfl, run_takeDeferred hK, ?_⟩⟩
    have hDB : B ≤ D := Nat.le_trans hB3 hD
    refine ⟨_, results_tmp rfl _ _ _, u, cs, rfl, ?_, ?_, hb.grown (grownBy_putObj' W D (.deferred none)) hb.size (fun k e => by cases e; omega)⟩
    all_goals have e : ((tourOf s T).all.take (tourOf s T).all.length).map (tourOf s T).ent = allE L 9 := by rw [List.take_length, HLU.out]; exact tour_all s T 9
    · have hlen : (tourOf s T).all.length = (allE L 9).length := by rw [← e]; simp
      rw [← hlen]
      exact own_loop ho hK rfl
    · rw [e] at hq
      exact hq.keep fun _ _ h => h.loop hDB hK rfl
theorem all_t (h : Tier w B g lim L M) : Calls Tryz.prog 21 #[.pointer (some ⟨g, 0, none⟩)] w fun e w' => ∃ v, e = .returned v ∧ Es w' B v (allE L 9) ∧ Below w.heap.size w w' := by
  refine (all_own h).mono ?_
  rintro e w' ⟨v, cs, rfl, ho, hq, hb⟩
  exact ⟨v, rfl, Es.own ho rfl hq, hb⟩
end Go.Proofs.YtkgecpplgjfhiaaGreatDoor
