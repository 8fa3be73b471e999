/-
  An act of the law, both ways: what it begins with.
-/
import Derived.Test.YtkgecpplgjfhiaaGreatDoorQSwpM
import Derived.Test.YtkgecpplgjfhiaaGreatDoorQAll
import Derived.Test.YtkgecpplgjfhiaaGreatDoorQOpenR
import Derived.Test.YtkgecpplgjfhiaaGreatDoorQWorks
namespace Go.Proofs.YtkgecpplgjfhiaaGreatDoor
open Go.RowKit
open Ite (Ent zeroE checkE sizeE)
open Lis (Lst but Tag Ls orderP)
attribute [local go_sem] Oper.semAt_some
section
variable {w : World} {B g gb gl B1 B2 gc : Nat} {v : Value} {lim : Int} {n : Nat} {s : Lst} {T : Int → Ent} {th : Nat} {M : Nat} {now : Int}
/-- What holds between two rounds of Sweep: k have come. -/
structure SwI (w : World) (B g gb gl B1 B2 gc : Nat) (v : Value) (lim : Int) (n : Nat) (s : Lst) (T : Int → Ent) (th M : Nat) (now : Int) (k : Nat) (W : World) : Prop where
  tb : ∃ s' bl T' X H C, Tb W B g gb gl B1 B2 gc v lim n s' bl T' th X H M ∧ Tn lim n (slt n) s' T' th C bl ∧ (∀ c, c < n → Way X (H c) (C c)) ∧ s'.U = keepU s T now k ∧ ∀ y ∈ s'.U, T' y = T y
  b0 : W.heap[w.heap.size]? = some (.cells #[.pointer (some ⟨g, 0, none⟩)] 30 (0, 0))
  b1 : W.heap[w.heap.size + 1]? = some (.cells #[.int .i64 now] 3 (0, 0))
  b2 : W.heap[w.heap.size + 2]? = some (.cells #[.int .i64 ((cntD s T now k : Nat) : Int)] 3 (0, 0))
  b3 : W.heap[w.heap.size + 3]? = some (.cells #[.pointer (some ⟨g, 0, none⟩)] 30 (0, 0))
  fr : Fr B w W
theorem SwI.below {k : Nat} {A C : World} (h : SwI w B g gb gl B1 B2 gc v lim n s T th M now k A) (b : Below A.heap.size A C) : SwI w B g gb gl B1 B2 gc v lim n s T th M now k C := by
  obtain ⟨⟨s', bl, T', X, H, D, h1, h2⟩, h3, h4, h5, h6, h7⟩ := h
  exact ⟨⟨s', bl, T', X, H, D, h1.below b, h2⟩, heap_stays h3 b, heap_stays h4 b, heap_stays h5 b, heap_stays h6 b, h7.then_ b⟩
theorem SwI.loop {k l : Nat} {W : World} {q r : Obj} (h : SwI w B g gb gl B1 B2 gc v lim n s T th M now k W) (hl : w.heap.size ≤ l) (hB : B ≤ w.heap.size) (hw : W.heap[l]? = some q) (hq : q.isCells = false) : SwI w B g gb gl B1 B2 gc v lim n s T th M now k (W.putObj l r) := by
  obtain ⟨⟨s', bl, T', X, H, D, h1, h2⟩, h3, h4, h5, h6, h7⟩ := h
  exact ⟨⟨s', bl, T', X, H, D, h1.loop (Nat.le_trans hB hl) hw hq, h2⟩, (tag_loop hw hq ⟨_, _, h3⟩).trans h3, (tag_loop hw hq ⟨_, _, h4⟩).trans h4, (tag_loop hw hq ⟨_, _, h5⟩).trans h5, (tag_loop hw hq ⟨_, _, h6⟩).trans h6, h7.box (grownBy_putObj' W l r) hl⟩
theorem SwI.tour {k : Nat} {W : World} {bl : List Int} {C : Nat → List Int} (h : SwI w B g gb gl B1 B2 gc v lim n s T th M now k W) (p : Pl n s) (t : Tn lim n (slt n) s T th C bl) : TourAt (tourOf s T) (w.heap.size + 3) B g k W := by
  obtain ⟨⟨s', bl, T', X, H, D, h1, h2, h0, hU, hT⟩, h3, h4, h5, h6, h7⟩ := h
  refine ⟨h6, gb, gl, B1, B2, gc, v, lim, n, s', bl, T', th, X, H, M, h1, t.thn, fun c hc hk => ?_, fun x hx => ?_⟩
  · rw [h2.order h1.lx.pl.1 hc, ← keep_ord (now := now) hc hk, hU]
    exact List.filter_congr fun y hy => by rw [hT y (by rw [hU]; exact hy)]
  · have hm := t.used x (tour_mem (List.mem_of_getElem? hx))
    exact ⟨hm.1, hm.2, hT x (by rw [hU]; exact keep_mem p hx)⟩
theorem sw_remove {k : Nat} {W : World} {i : Int} {bl : List Int} {C : Nat → List Int} (hI : SwI w B g gb gl B1 B2 gc v lim n s T th M now k W) (p : Pl n s) (_t : Tn lim n (slt n) s T th C bl) (hit : (tourOf s T).all[k]? = some i) (hlv : lv (T i) now = false) :
    Calls Tryz.prog 62 #[.pointer (some ⟨g, 0, none⟩), .int .i64 i] W fun e W2 => (∃ u, e = .returned u) ∧ Fr B W W2 ∧ (∀ S, gc < S → B2 ≤ S → Kept S W W2) ∧
      ∃ s' bl' T' X' H' C', Tb W2 B g gb gl B1 B2 gc v lim n s' bl' T' th X' H' M ∧ Tn lim n (slt n) s' T' th C' bl' ∧ (∀ c, c < n → Way X' (H' c) (C' c)) ∧ s'.U = keepU s T now (k + 1) ∧ ∀ y ∈ s'.U, T' y = T y := by
  obtain ⟨⟨s', bl, T', X, H, D, h1, h2, h0, hU, hT⟩, _⟩ := hI
  have hm : i ∈ s'.U := by rw [hU]; exact keep_mem p hit
  obtain ⟨j, rfl⟩ := Int.eq_ofNat_of_zero_le (h2.used _ hm).1
  refine (remove_u h1 h2 h0 hm).mono ?_
  rintro e W2 ⟨hu, f, kp, s2, bl2, T2, X2, H2, C2, q1, q2, q3, q4, q5⟩
  exact ⟨hu, f, kp, s2, bl2, T2, X2, H2, C2, q1, q2, q3, q4.trans (by rw [hU, ← keep_dead hit hlv]), fun y hy => (q5 y hy).trans (hT y (Lis.mem_but.1 (by rw [q4] at hy; exact hy)).1)⟩
theorem sw_live {k S : Nat} {W W1 : World} {i : Int} {a : Act} (hI : SwI w B g gb gl B1 B2 gc v lim n s T th M now k W) (hit : (tourOf s T).all[k]? = some i) (hlv : lv (T i) now = true) (b : Below W.heap.size W W1) :
    postX S (Kept S) (SwI w B g gb gl B1 B2 gc v lim n s T th M now) (k + 1) W .normal a W1 := by
  obtain ⟨⟨s', bl, T', X, H, D, h1, h2, h0, hU, hT⟩, h3, h4, h5, h6, h7⟩ := hI.below b
  exact ⟨kf_below S b, .of b, ⟨⟨s', bl, T', X, H, D, h1, h2, h0, hU.trans (keep_live hit hlv).symm, hT⟩, h3, h4, by rw [cnt_live hit hlv]; exact h5, h6, h7⟩⟩
theorem sw_boxes {k : Nat} {W W2 : World} (hI : SwI w B g gb gl B1 B2 gc v lim n s T th M now k W) (f : Fr B W W2) (kp : ∀ S, gc < S → B2 ≤ S → Kept S W W2) (hgc : gc < w.heap.size) (hB2 : B2 ≤ w.heap.size) :
    W2.heap[w.heap.size]? = some (.cells #[.pointer (some ⟨g, 0, none⟩)] 30 (0, 0)) ∧ W2.heap[w.heap.size + 1]? = some (.cells #[.int .i64 now] 3 (0, 0)) ∧ W2.heap[w.heap.size + 2]? = some (.cells #[.int .i64 ((cntD s T now k : Nat) : Int)] 3 (0, 0)) ∧
      W2.heap[w.heap.size + 3]? = some (.cells #[.pointer (some ⟨g, 0, none⟩)] 30 (0, 0)) := by
  have hk := kp w.heap.size hgc hB2
  exact ⟨f.ent hI.b0 (by decide), (hk.2 _ (by omega) ⟨_, _, hI.b1⟩).trans hI.b1, (hk.2 _ (by omega) ⟨_, _, hI.b2⟩).trans hI.b2, f.ent hI.b3 (by decide)⟩
theorem sw_dead {k S : Nat} {W W1 W2 : World} {i : Int} {a : Act} (hI : SwI w B g gb gl B1 B2 gc v lim n s T th M now k W) (hit : (tourOf s T).all[k]? = some i) (hlv : lv (T i) now = false) (b : Below W.heap.size W W1) (f : Fr B W1 W2) (kp : ∀ S, gc < S → B2 ≤ S → Kept S W1 W2)
    (htb : ∃ s' bl' T' X' H' C', Tb W2 B g gb gl B1 B2 gc v lim n s' bl' T' th X' H' M ∧ Tn lim n (slt n) s' T' th C' bl' ∧ (∀ c, c < n → Way X' (H' c) (C' c)) ∧ s'.U = keepU s T now (k + 1) ∧ ∀ y ∈ s'.U, T' y = T y)
    (hgc : gc < w.heap.size) (hB2 : B2 ≤ w.heap.size) (hS : w.heap.size + 2 < S) :
    postX S (Kept S) (SwI w B g gb gl B1 B2 gc v lim n s T th M now) (k + 1) W .normal a (W2.setCell ⟨w.heap.size + 2, 0, none⟩ (.int .i64 (((cntD s T now k : Nat) : Int) + 1))) := by
  obtain ⟨x0, x1, x2, x3⟩ := sw_boxes (hI.below b) f kp hgc hB2
  obtain ⟨s', bl', T', X', H', C', q1, q2, q3, q4, q5⟩ := htb
  have hset := Ite.setCell_grownBy W2 (w.heap.size + 2) 0 (.int .i64 (((cntD s T now k : Nat) : Int) + 1))
  have t2 : Tag W2 (w.heap.size + 2) 3 := ⟨_, _, x2⟩
  have hw := ((hI.fr.then_ b).trans f).size
  refine ⟨((kf_below S b).trans (kf_fr S f)).trans (kf_set S W2 _ _), ((Kept.of b).trans (kp S (by omega) (by omega))).trans (Kept.grown hset (.inl hS)), ⟨⟨s', bl', T', X', H', C', q1.number hset (by omega) t2, q2, q3, q4, q5⟩, ?_, ?_, ?_, ?_, ?_⟩⟩
  · rw [hset.block _ (lt_of_heap x0) (by simp)]; exact x0
  · rw [hset.block _ (lt_of_heap x1) (by simp)]; exact x1
  · rw [cnt_dead hit hlv]
    have := Lis.set_same (v := .int .i64 (((cntD s T now k : Nat) : Int) + 1)) (o := 0) x2
    simpa using this
  · rw [hset.block _ (lt_of_heap x3) (by simp)]; exact x3
  · exact ((hI.fr.then_ b).trans f).box hset (by omega)
end
/-- The blocks that Sweep begins with. -/
theorem sweep_start (w : World) (x y z : Value) : Below w.heap.size w ((((w.alloc (.cells #[x] 30)).alloc (.cells #[y] 3)).alloc (.cells #[z] 3)).alloc (.cells #[x] 30)) ∧ ((((w.alloc (.cells #[x] 30)).alloc (.cells #[y] 3)).alloc (.cells #[z] 3)).alloc (.cells #[x] 30)).heap.size = w.heap.size + 4 ∧
    ((((w.alloc (.cells #[x] 30)).alloc (.cells #[y] 3)).alloc (.cells #[z] 3)).alloc (.cells #[x] 30)).heap[w.heap.size]? = some (.cells #[x] 30 (0, 0)) ∧
    ((((w.alloc (.cells #[x] 30)).alloc (.cells #[y] 3)).alloc (.cells #[z] 3)).alloc (.cells #[x] 30)).heap[w.heap.size + 1]? = some (.cells #[y] 3 (0, 0)) ∧
    ((((w.alloc (.cells #[x] 30)).alloc (.cells #[y] 3)).alloc (.cells #[z] 3)).alloc (.cells #[x] 30)).heap[w.heap.size + 2]? = some (.cells #[z] 3 (0, 0)) ∧
    ((((w.alloc (.cells #[x] 30)).alloc (.cells #[y] 3)).alloc (.cells #[z] 3)).alloc (.cells #[x] 30)).heap[w.heap.size + 3]? = some (.cells #[x] 30 (0, 0)) := by
  obtain ⟨a, ha⟩ : ∃ a, a = w.alloc (.cells #[x] 30) := ⟨_, rfl⟩
  obtain ⟨b, hb⟩ : ∃ b, b = a.alloc (.cells #[y] 3) := ⟨_, rfl⟩
  obtain ⟨c, hc⟩ : ∃ c, c = b.alloc (.cells #[z] 3) := ⟨_, rfl⟩
  obtain ⟨d, hd⟩ : ∃ d, d = c.alloc (.cells #[x] 30) := ⟨_, rfl⟩
  rw [← ha, ← hb, ← hc, ← hd]
  have sa : a.heap.size = w.heap.size + 1 := by rw [ha]; simp
  have sb : b.heap.size = w.heap.size + 2 := by rw [hb]; simp [sa]
  have sc : c.heap.size = w.heap.size + 3 := by rw [hc]; simp [sb]
  have sd : d.heap.size = w.heap.size + 4 := by rw [hd]; simp [sc]
  have A1 : Below w.heap.size w a := by rw [ha]; go_grown
  have A2 : Below a.heap.size a b := by rw [hb]; go_grown
  have A3 : Below b.heap.size b c := by rw [hc]; go_grown
  have A4 : Below c.heap.size c d := by rw [hd]; go_grown
  have x0 : a.heap[w.heap.size]? = some (.cells #[x] 30 (0, 0)) := by rw [ha]; exact heap_alloc_new w _
  have x1 : b.heap[w.heap.size + 1]? = some (.cells #[y] 3 (0, 0)) := by rw [hb, ← sa]; exact heap_alloc_new a _
  have x2 : c.heap[w.heap.size + 2]? = some (.cells #[z] 3 (0, 0)) := by rw [hc, ← sb]; exact heap_alloc_new b _
  have x3 : d.heap[w.heap.size + 3]? = some (.cells #[x] 30 (0, 0)) := by rw [hd, ← sc]; exact heap_alloc_new c _
  exact ⟨((A1.trans (A2.mono A1.size)).trans (A3.mono (by omega))).trans (A4.mono (by omega)), sd, heap_stays (heap_stays (heap_stays x0 A2) A3) A4, heap_stays (heap_stays x1 A3) A4, heap_stays x2 A4, x3⟩
/-- What a round of Sweep begins with. -/
def SwA (t : Tour) (w : World) (B : Nat) (A : Value → Value → Value → Act) (k : Nat) (a : Act) (W : World) : Prop := ∃ i p c Bx, t.all[k]? = some i ∧ w.heap.size + 4 ≤ Bx ∧ Bq W B (.slice p (t.ent i).val.length c) (t.ent i).val ∧
  W.heap[Bx]? = some (.cells #[.string (t.ent i).key, .int .i64 (t.ent i).ver, .int .i64 (t.ent i).asof, .int .i64 (t.ent i).ends, .slice p (t.ent i).val.length c] 25 (0, 0)) ∧
  a = A (.int .i64 i) (.agg #[.string (t.ent i).key, .int .i64 (t.ent i).ver, .int .i64 (t.ent i).asof, .int .i64 (t.ent i).ends, .slice p (t.ent i).val.length c]) (.pointer (some ⟨Bx, 0, none⟩))
variable {w : World} {B g : Nat} {lim : Int} {L : List Ent} {M : Nat}
set_option maxHeartbeats 1000000 in
set_option maxRecDepth 100000 in
theorem sweep_t (h : Tier w B g lim L M) (now : Int) : Calls Tryz.prog 31 #[.pointer (some ⟨g, 0, none⟩), .int .i64 now] w fun e w' => e = .returned (.int .i64 ((L.length : Int) - ((sweepP L now).length : Int))) ∧ Fr B w w' ∧ Tier w' B g lim (sweepP L now) M := by
  have hl := h.fine.2.2.2.2.2.1
  have hBw : B ≤ w.heap.size := Nat.le_of_lt h.fine.2.2.2.2.2.2
  obtain ⟨gb, gl, B1, B2, gc, v, n, s, bl, T, th, X, H, C, h1, h2, hLU, h4⟩ := h
  have HT := hid2 h1
  have TT := hid2 h2
  have HW := hid2 h4
  have HP := hid2 h1.lx.pl.1
  have hgc : gc < w.heap.size := by obtain ⟨_, hd, _⟩ := h1.hd; exact lt_of_heap hd
  have hB2 : B2 ≤ w.heap.size := Nat.le_trans h1.lo.2.2.2.1 (Nat.le_of_lt hgc)
  clear h1 h2 h4
  have HLU := hid2 hLU
  clear hLU
  refine (callsIn_wide (n := 3)).1 ?_
  refine callsIn_of_wp_marks Tryz.func31 rfl trivial ?_ rfl
  simp only [Tryz.ntmps31, List.size_toArray, List.length_cons, List.length_nil, Nat.reduceAdd, Nat.reduceSub, Array.replicate_succ, Array.replicate_zero, List.push_toArray, List.append_toArray, List.nil_append, List.cons_append]
  gi_wp2_with (refine ⟨trivial, ?_⟩; gi_at_call 49; refine (callsIn_wide.2 (each_x g _)).mono ?_; rintro e w2 ⟨rfl, hw2⟩)
  obtain ⟨w3, hw3⟩ : ∃ w3, w3 = ((((w.alloc (.cells #[.pointer (some ⟨g, 0, none⟩)] 30)).alloc (.cells #[.int .i64 now] 3)).alloc (.cells #[.int .i64 0] 3)).alloc (.cells #[.pointer (some ⟨g, 0, none⟩)] 30)) := ⟨_, rfl⟩
  have H3 := hid2 (sweep_start w (.pointer (some ⟨g, 0, none⟩)) (.int .i64 now) (.int .i64 0))
  rw [← hw3] at H3
  rw [← hw3]
  clear hw3 hw2
  obtain ⟨B3, s3, x0, x1, x2, x3⟩ := H3.out
  have HT3 := hid2 (HT.out.below B3)
  have hI0 := hid2 (show SwI w B g gb gl B1 B2 gc v lim n s T th M now 0 w3 from ⟨⟨s, bl, T, X, H, C, HT3.out, TT.out, HW.out, (keep_zero s T now).symm, fun _ _ => rfl⟩, x0, x1, x2, x3, .of B3⟩)
  have hlt : ∀ l, w3.heap.size ≤ l → w.heap.size ≤ l := fun l h => by omega
  have S3 := hid2 (show w.heap.size + 2 < w3.heap.size by omega)
  have hlt4 : ∀ W : World, SwI w B g gb gl B1 B2 gc v lim n s T th M now 0 W → True := fun _ _ => trivial
  clear x0 x1 x2 x3 HT3 H3 hlt4 s3
  refine wpIn_rangeFunc_x rfl (by omega) (gf := 73) (lb := #[.pointer (some ⟨w.heap.size + 3, 0, none⟩)]) rfl trivial (enters_of Tryz.func73 (by kernel_rfl) rfl) (each1_x (tourOf s T) (w.heap.size + 3) B g w3.heap.size w3 (Nat.le_refl _) _)
    (fun h k => h.trans k) (fun W l o q _ hw => Kept.loop _ hw rfl) (by rintro k x W ⟨i, p, c, _, rfl, _⟩; rfl)
    (SwI w B g gb gl B1 B2 gc v lim n s T th M now)
    (fun k A C h b => h.below b)
    (fun k W l o q hl hw h => h.loop (hlt l hl) hBw hw rfl)
    (fun k A h => h.tour HP.out TT.out)
    hI0.out
    (SwA (tourOf s T) w B fun xi xa xb => { tmps := #[.pointer (some ⟨g, 0, none⟩), .int .i64 now, .pointer (some ⟨w.heap.size, 0, none⟩), .pointer (some ⟨w.heap.size + 1, 0, none⟩), .int .i64 0, .pointer (some ⟨w.heap.size + 1 + 1, 0, none⟩), xi, xb, .pointer (some ⟨g, 0, none⟩), .func (.func 73) #[] #[.pointer (some ⟨w.heap.size + 1 + 1 + 1, 0, none⟩)], xi, xa, undef, undef, undef, undef, undef, undef, undef, undef, undef, undef], defers := [] })
    (fun k a' W l o q hl hw ⟨i, p, c, Bx, h1, h2, h3, h4, h5⟩ => ⟨i, p, c, Bx, h1, h2, h3.loop (Nat.le_trans hBw (hlt l hl)) hw rfl, (tag_loop hw rfl ⟨_, _, h4⟩).trans h4, h5⟩) ?assign ?body ?done
  case assign =>
    rintro l k x W K hk ⟨i, p, c, hit, rfl, hbq⟩ hIW hK
    gi_wp2
    have hal : Below W.heap.size W (W.alloc (.cells #[.string ((tourOf s T).ent i).key, .int .i64 ((tourOf s T).ent i).ver, .int .i64 ((tourOf s T).ent i).asof, .int .i64 ((tourOf s T).ent i).ends, .slice p ((tourOf s T).ent i).val.length c] 25)) := by go_grown
    exact hK _ _ ((KeepsOthers.alloc _ _).from _) (.of hal) (hIW.below hal) ⟨i, p, c, W.heap.size, hit, by have := lt_of_heap hIW.b3; omega, hbq.stays hal, heap_alloc_new W _, rfl⟩
  case body =>
    rintro l k a' W hl hk hI ⟨i, p, c, Bx, h1, h2, h3, h4, rfl⟩
    have hlen := tour_len TT.out HP.out
    rw [← HLU.out] at hlen
    have hcl := cnt_le s T now k
    obtain ⟨x, hx⟩ : ∃ x, x = (tourOf s T).ent i := ⟨_, rfl⟩
    rw [← hx] at h3 h4
    have HX := hid2 hx
    have hx' : T i = x := hx.symm
    have H1 := hid2 h1
    have HI := hid2 hI
    have H4 := hid2 h4
    have c0 : W.cell? ⟨w.heap.size + 1, 0, none⟩ = some (.int .i64 now) := by simp [World.cell?, hI.b1]
    have hI1 := hI.b1
    have KL := Ite.live_any x.key x.ver x.asof x.ends now p x.val.length c W
    rw [show Ite.liveB x.ends now = lv x now from rfl] at KL
    have hb1lt := lt_of_heap hI.b1
    cases hlv : lv x now with
    | true =>
      rw [hlv] at KL
      have HLV := hid2 hlv
      have KL := hid2 KL
      clear hlv hx hx' h1 h3 h4 hI hI1 HT TT HW
      gi_wp2_with (first
        | (refine wpListIn_load_mid rfl 25 (.tmp 7) rfl Bx 0 rfl [.string x.key, .int .i64 x.ver, .int .i64 x.asof, .int .i64 x.ends, .slice p x.val.length c] _ (box_range H4.out) Ite.Tryz.und24.choose_spec rfl Ite.Tryz.size24 ?_)
        | (refine ⟨trivial, ?_⟩; gi_at_call 53; refine (CallsIn.inRound l (callsIn_wide.2 (show Calls _ _ _ _ _ from KL.out))).mono ?_; rintro e W1 ⟨rfl, hb1⟩))
      exact sw_live HI.out H1.out (by rw [show T i = x from HX.out.symm]; exact HLV.out) hb1
    | false =>
      rw [hlv] at KL
      have hlvT : lv (T i) now = false := by rw [show T i = x from HX.out.symm]; exact hlv
      have HLV := hid2 hlvT
      have KL := hid2 KL
      have KR := hid2 (fun W1 (b : Below W.heap.size W W1) => sw_remove (hI.below b) HP.out TT.out h1 hlvT)
      have hw64 : wrap64 (((cntD s T now k : Nat) : Int) + 1) = ((cntD s T now k : Nat) : Int) + 1 := by unfold wrap64; omega
      have HIB := hid2 (fun W1 (b : Below W.heap.size W W1) => (show W1.heap[w.heap.size]? = some (.cells #[.pointer (some ⟨g, 0, none⟩)] 30 (0, 0)) from heap_stays hI.b0 b))
      clear hlv hlvT hx hx' h1 h3 h4 hI hI1 HT TT HW
      generalize hcd : ((cntD s T now k : Nat) : Int) = cd at *
      have HCD := hid2 hcd
      clear hcd
      gi_wp2_with (refine wpListIn_load_mid rfl 25 (.tmp 7) rfl Bx 0 rfl [.string x.key, .int .i64 x.ver, .int .i64 x.asof, .int .i64 x.ends, .slice p x.val.length c] _ (box_range H4.out) Ite.Tryz.und24.choose_spec rfl Ite.Tryz.size24 ?_)
      refine ⟨trivial, ?_⟩
      refine (CallsIn.inRound l (callsIn_wide.2 (show Calls _ _ _ _ _ from KL.out))).mono ?_
      rintro e W1 ⟨rfl, hb1⟩
      have HB1 := hid2 hb1
      have d0 : W1.cell? ⟨w.heap.size, 0, none⟩ = some (.pointer (some ⟨g, 0, none⟩)) := by
        have e := HIB.out _ hb1
        simp [World.cell?, e]
      have d0lt := lt_of_heap (HIB.out _ hb1)
      clear hb1 c0
      gi_wp2_with fail
      refine ⟨trivial, ?_⟩
      refine (CallsIn.inRound l (callsIn_wide.2 (KR.out _ HB1.out))).mono ?_
      rintro e W2 ⟨⟨u, rfl⟩, hf2, hk2, htb2⟩
      obtain ⟨y0, y1, y2, y3⟩ := sw_boxes (HI.out.below HB1.out) hf2 hk2 hgc hB2
      have HF2 := hid2 hf2
      have HK2 := hid2 hk2
      have HTB2 := hid2 htb2
      rw [HCD.out] at y2
      have d2 : W2.cell? ⟨w.heap.size + 1 + 1, 0, none⟩ = some (.int .i64 cd) := by simp [World.cell?, y2]
      have d3 : W2.frozen? ⟨w.heap.size + 1 + 1, 0, none⟩ = false := by simp [World.frozen?, y2]
      clear hf2 hk2 htb2 y0 y1 y2 y3 d0
      gi_wp2
      rw [← HCD.out]
      exact sw_dead HI.out H1.out HLV.out HB1.out HF2.out HK2.out HTB2.out hgc hB2 S3.out
  case done =>
    rintro D W hD hI hK
    have hc : W.cell? ⟨w.heap.size + 1 + 1, 0, none⟩ = some (.int .i64 ((cntD s T now (tourOf s T).all.length : Nat) : Int)) := by simp [World.cell?, hI.b2]
    gi_wp2
    refine ⟨by simp, .inl ⟨_, _, rfl, run_takeDeferred hK, ?_⟩⟩
    refine ⟨_, results_tmp rfl _ _ _, ?_, hI.fr.box (grownBy_putObj' W D (.deferred none)) (hlt D hD), ?_⟩
    · rw [HLU.out, ← cnt_all TT.out HP.out]
      rfl
    · obtain ⟨s', bl', T', X', H', C', q1, q2, q3, q4, q5⟩ := hI.tb
      refine ⟨_, _, _, _, _, _, _, _, _, _, _, _, _, _, q1.loop (Nat.le_trans hBw (hlt D hD)) hK rfl, q2, ?_, q3⟩
      rw [HLU.out, ← keep_sweep TT.out, ← q4]
      exact (List.map_congr_left q5).symm
end Go.Proofs.YtkgecpplgjfhiaaGreatDoor

namespace Go.Proofs.YtkgecpplgjfhiaaGreatDoor
open Go.RowKit
open Ite (Ent zeroE checkE sizeE)
open Lis (Lst but Tag)
variable {w : World} {B g : Nat} {lim : Int} {L R : List Ent} {M : Nat} {p : Option Addr} {cap : Nat} {x : Ent} {q : Option Addr} {c : Nat} {kd now : Int}
/-- What an act finds in memory: the document's tier, the act, room for the answer; what came along. -/
structure DoS (w : World) (B : Nat) (lim : Int) (R : List Ent) (p : Option Addr) (cap : Nat) (kd : Int) (x : Ent) (q : Option Addr) (c : Nat) (now : Int) (W : World) : Prop where
  fr : Fr B w W
  r : Two W w.heap.size (.int .i64 lim) (.slice p R.length cap)
  o : W.heap[w.heap.size + 1]? = some (.cells #[.int .i64 kd, .string x.key, .int .i64 x.ver, .int .i64 x.asof, .int .i64 x.ends, .slice q x.val.length c, .int .i64 now] 44 (0, 0))
  z : Two W (w.heap.size + 2) (.int .i64 0) (.slice none 0 0)
  es : Es W B (.slice p R.length cap) R
  xs : Bq W B (.slice q x.val.length c) x.val
  er : ErrT W
theorem DoS.next {A C : World} (h : DoS w B lim R p cap kd x q c now A) (f : Fr B A C) (h0 : 0 < B) : DoS w B lim R p cap kd x q c now C :=
  ⟨h.fr.trans f, h.r.fr f, f.ent h.o (by decide), h.z.fr f, h.es.fr f, h.xs.fr f, h.er.frR f h0⟩
theorem DoS.below {A C : World} (h : DoS w B lim R p cap kd x q c now A) (b : Below A.heap.size A C) (h0 : 0 < B) : DoS w B lim R p cap kd x q c now C := h.next (.of b) h0
theorem DoS.cells {W : World} (h : DoS w B lim R p cap kd x q c now W) : (w.heap.size + 2 < W.heap.size ∧ W.cell? ⟨w.heap.size + 1, 0, none⟩ = some (.int .i64 kd) ∧ W.cell? ⟨w.heap.size + 1, 1, none⟩ = some (.string x.key) ∧ W.cell? ⟨w.heap.size + 1, 6, none⟩ = some (.int .i64 now) ∧ W.cell? ⟨w.heap.size, 1, none⟩ = some (.slice p R.length cap)) ∧
    W.rangeAt w.heap.size 0 [.int .i64 lim, .slice p R.length cap] ∧ W.rangeAt (w.heap.size + 1) 1 [.string x.key, .int .i64 x.ver, .int .i64 x.asof, .int .i64 x.ends, .slice q x.val.length c] := by
  have o := h.o
  refine ⟨⟨h.z.cells.1, by simp [World.cell?, o], by simp [World.cell?, o], by simp [World.cell?, o], h.r.cells.2.2.1⟩, two_range h.r, ?_⟩
  intro j u hu
  rcases j with _ | _ | _ | _ | _ | j
  · cases hu; simp [World.cell?, o]
  · cases hu; simp [World.cell?, o]
  · cases hu; simp [World.cell?, o]
  · cases hu; simp [World.cell?, o]
  · cases hu; simp [World.cell?, o]
  · simp at hu
theorem do_start (hE : Es w B (.slice p R.length cap) R) (hx : Bq w B (.slice q x.val.length c) x.val) (he : ErrT w) (h0 : 0 < B) (_hB : B ≤ w.heap.size) :
    DoS w B lim R p cap kd x q c now (((w.alloc (.cells #[.int .i64 lim, .slice p R.length cap] 37)).alloc (.cells #[.int .i64 kd, .string x.key, .int .i64 x.ver, .int .i64 x.asof, .int .i64 x.ends, .slice q x.val.length c, .int .i64 now] 44)).alloc (.cells #[.int .i64 0, .slice none 0 0] 37)) ∧
    Below w.heap.size w (((w.alloc (.cells #[.int .i64 lim, .slice p R.length cap] 37)).alloc (.cells #[.int .i64 kd, .string x.key, .int .i64 x.ver, .int .i64 x.asof, .int .i64 x.ends, .slice q x.val.length c, .int .i64 now] 44)).alloc (.cells #[.int .i64 0, .slice none 0 0] 37)) := by
  obtain ⟨a, ha⟩ : ∃ a, a = w.alloc (.cells #[.int .i64 lim, .slice p R.length cap] 37) := ⟨_, rfl⟩
  obtain ⟨b, hb⟩ : ∃ b, b = a.alloc (.cells #[.int .i64 kd, .string x.key, .int .i64 x.ver, .int .i64 x.asof, .int .i64 x.ends, .slice q x.val.length c, .int .i64 now] 44) := ⟨_, rfl⟩
  obtain ⟨d, hd⟩ : ∃ d, d = b.alloc (.cells #[.int .i64 0, .slice none 0 0] 37) := ⟨_, rfl⟩
  rw [← ha, ← hb, ← hd]
  have sa : a.heap.size = w.heap.size + 1 := by rw [ha]; simp
  have sb : b.heap.size = w.heap.size + 2 := by rw [hb]; simp [sa]
  have A1 : Below w.heap.size w a := by rw [ha]; go_grown
  have A2 : Below a.heap.size a b := by rw [hb]; go_grown
  have A3 : Below b.heap.size b d := by rw [hd]; go_grown
  have x0 : Two a w.heap.size (.int .i64 lim) (.slice p R.length cap) := by rw [ha]; exact heap_alloc_new w _
  have x1 : b.heap[w.heap.size + 1]? = some (.cells #[.int .i64 kd, .string x.key, .int .i64 x.ver, .int .i64 x.asof, .int .i64 x.ends, .slice q x.val.length c, .int .i64 now] 44 (0, 0)) := by rw [hb, ← sa]; exact heap_alloc_new a _
  have x2 : Two d (w.heap.size + 2) (.int .i64 0) (.slice none 0 0) := by rw [hd, ← sb]; exact heap_alloc_new b _
  have A := (A1.trans (A2.mono A1.size)).trans (A3.mono (Nat.le_trans A1.size A2.size))
  exact ⟨⟨.of A, (x0.stays A2).stays A3, heap_stays x1 A3, x2, hE.stays A, hx.stays A, he.frR (Fr.of (B := B) A) h0⟩, A⟩
theorem Es.box2 {w w' : World} {B k : Nat} {v : Value} {xs : List Ent} {Ty : TypeId} (h : Es w B v xs) (m : w.grownBy w' (some k)) (hk : B ≤ k) (ht : Tag w k Ty) (hT : Ty ≠ 25) (h5 : Ty ≠ 5) : Es w' B v xs := by
  obtain ⟨p, cap, h1, h2, h3, h4⟩ := h
  refine ⟨p, cap, h1, h2, h3, fun j x hj => ?_⟩
  obtain ⟨b, off, q, c, e1, e2, e3, a0, a1, a2, a3, a4, a5⟩ := h4 j x hj
  have e : w'.heap[b]? = w.heap[b]? := m.block b e2 (fun e => by
    have e := Option.some.inj e
    subst e
    rcases e3 with e3 | e3
    · omega
    · exact e3.ne ht hT.symm rfl)
  exact ⟨b, off, q, c, e1, Nat.lt_of_lt_of_le e2 m.size, e3.imp id fun k => k.same e, (cell_eq e _).trans a0, (cell_eq e _).trans a1, (cell_eq e _).trans a2, (cell_eq e _).trans a3, (cell_eq e _).trans a4, a5.boxed m hk ht h5⟩
theorem op_now {W : World} {b : Nat} {k : ByteArray} {k1 k2 k3 k4 k5 : Int} {u : Value} (h : W.heap[b]? = some (.cells #[.int .i64 k1, .string k, .int .i64 k2, .int .i64 k3, .int .i64 k4, u, .int .i64 k5] 44 (0, 0))) : b < W.heap.size ∧ W.cell? ⟨b, 6, none⟩ = some (.int .i64 k5) :=
  ⟨lt_of_heap h, by simp [World.cell?, h]⟩
/-- All blocks but one stay. -/
def Ex (k : Nat) (a b : World) : Prop := a.heap.size ≤ b.heap.size ∧ ∀ j, j < a.heap.size → j ≠ k → b.heap[j]? = a.heap[j]?
theorem Ex.refl (k : Nat) (a : World) : Ex k a a := ⟨Nat.le_refl _, fun _ _ _ => rfl⟩
theorem Ex.below {k : Nat} {a b d : World} (h : Ex k a b) (hb : Below b.heap.size b d) : Ex k a d := ⟨Nat.le_trans h.1 hb.size, fun j hj hn => (hb.block j (Nat.lt_of_lt_of_le hj h.1)).trans (h.2 j hj hn)⟩
theorem Ex.grown {k : Nat} {a b d : World} (h : Ex k a b) (g : b.grownBy d (some k)) : Ex k a d := ⟨Nat.le_trans h.1 g.size, fun j hj hn => (g.block j (Nat.lt_of_lt_of_le hj h.1) (fun e => hn (Option.some.inj e))).trans (h.2 j hj hn)⟩
theorem Ex.heap {k : Nat} {a b : World} (h : Ex k a b) {j : Nat} {o : Obj} (e : a.heap[j]? = some o) (hn : j ≠ k) : b.heap[j]? = some o := (h.2 j (lt_of_heap e) hn).trans e
theorem Ex.rng {k : Nat} {a b : World} (h : Ex k a b) {j o : Nat} {cs : List Value} (r : a.rangeAt j o cs) (hn : j ≠ k) : b.rangeAt j o cs := fun i u hi => by
  have hlt := World.block_lt_of_cell? a _ (r i u hi)
  rw [cell_eq (h.2 j hlt hn)]; exact r i u hi
theorem Es.look {w : World} {B : Nat} {p : Option Addr} {m cap : Nat} {xs : List Ent} (h : Es w B (.slice p m cap) xs) {k : Nat} {x : Ent} (hk : xs[k]? = some x) : ∃ b off q c, p = some ⟨b, off, none⟩ ∧ w.rangeAt b (off + k * 5) [.string x.key, .int .i64 x.ver, .int .i64 x.asof, .int .i64 x.ends, .slice q x.val.length c] ∧ Bq w B (.slice q x.val.length c) x.val ∧ Kd w B b 25 := by
  obtain ⟨p', cap', h1, h2, h3, h4⟩ := id h
  obtain ⟨b, off, q, c, e1, e2, e3⟩ := h.cells hk
  obtain ⟨b', off', q', c', f1, f2, f3, _⟩ := h4 k x hk
  cases h1
  rw [e1] at f1
  cases f1
  exact ⟨b, off, q, c, e1, e2, e3, f3⟩
theorem Kd.ne {w : World} {B b k : Nat} {T U : TypeId} (h : Kd w B b T) (hk : B ≤ k) (t : Tag w k U) (hT : T ≠ U) : b ≠ k := by
  rcases h with h | h
  · omega
  · exact h.ne t hT
/-- A Set of the document, whatever it says. -/
theorem rset_t {w : World} {B : Nat} {lim : Int} {p : Option Addr} {cap : Nat} {L : List Ent} (h : Es w B (.slice p L.length cap) L) (hz : p = none → cap = 0) (hl : L.length ≤ 1000) (hBw : B ≤ w.heap.size) (hf : ∀ y ∈ L, checkE y = 0) (hnd : (L.map (·.key)).Nodup) (hlim : 1 ≤ lim ∧ lim ≤ 20000) (x : Ent) {q : Option Addr} {c : Nat} (hx : Bq w B (.slice q x.val.length c) x.val) (hkk : x.key.size ≤ 1000) (hkv : x.val.length ≤ 5000) (now : Int) :
    Calls Tryz.prog 39 #[.agg #[.int .i64 lim, .slice p L.length cap], .agg #[.string x.key, .int .i64 x.ver, .int .i64 x.asof, .int .i64 x.ends, .slice q x.val.length c], .int .i64 now] w fun e w' => ∃ p' cap' gv, e = .returned (.tuple #[.agg #[.int .i64 lim, .slice p' (setP lim L x now).1.length cap'], gv, .int .i64 (setP lim L x now).2.2]) ∧ Es w' B (.slice p' (setP lim L x now).1.length cap') (setP lim L x now).1 ∧ (p' = none → cap' = 0) ∧ Es w' B gv (setP lim L x now).2.1 ∧ Below w.heap.size w w' := by
  by_cases h1 : checkE x = 0
  · cases h2 : lv x now with
    | false => exact rset_bad h hz hl hBw hf hnd hlim x hx hkk hkv now (.inr (.inl h2))
    | true =>
      cases h3 : fitsX lim x with
      | false => exact rset_bad h hz hl hBw hf hnd hlim x hx hkk hkv now (.inr (.inr h3))
      | true => exact rset_good h hz hl hBw hf hnd hlim x hx hkk hkv now h1 h2 h3
  · exact rset_bad h hz hl hBw hf hnd hlim x hx hkk hkv now (.inl h1)
end Go.Proofs.YtkgecpplgjfhiaaGreatDoor
