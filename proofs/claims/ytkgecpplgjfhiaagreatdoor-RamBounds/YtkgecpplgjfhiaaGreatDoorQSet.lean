/-
  Whether an entry would have room; an entry is set.
-/
import Derived.Test.YtkgecpplgjfhiaaGreatDoorQRoom
namespace Go.Proofs.YtkgecpplgjfhiaaGreatDoor
open Go.RowKit
open Ite (Ent zeroE checkE sizeE)
open Lis (Lst but Tag lastP)

set_option maxHeartbeats 1000000 in
set_option maxRecDepth 8000 in
theorem fits_t {w : World} {B g : Nat} {lim : Int} {L : List Ent} {M : Nat} (h : Tier w B g lim L M) (x : Ent) (p : Option Addr) (c : Nat) (he : checkE x = 0) :
    Calls Tryz.prog 18 #[.pointer (some ⟨g, 0, none⟩), .agg #[.string x.key, .int .i64 x.ver, .int .i64 x.asof, .int .i64 x.ends, .slice p x.val.length c]] w fun e w' => e = .returned (.bool (fitsX lim x)) ∧ Below w.heap.size w w' := by
  obtain ⟨gb, gl, B1, B2, gc, v, n, s, bl, T, th, X, H, C, h1, h2, rfl, h4⟩ := h
  have B0 : Below w.heap.size w (w.alloc (.cells #[.string x.key, .int .i64 x.ver, .int .i64 x.asof, .int .i64 x.ends, .slice p x.val.length c] 25)) := by go_grown
  have KF := hid2 (fun W (q : Tb W B g gb gl B1 B2 gc v lim n s bl T th X H M) => Sla.fits_bg q.bg (Ite.sizeP x.key.size x.ver x.asof x.ends x.val.length : Int))
  have HT0 := hid2 (h1.below B0)
  have Y0 := hid2 (heap_alloc_new w (.cells #[.string x.key, .int .i64 x.ver, .int .i64 x.asof, .int .i64 x.ends, .slice p x.val.length c] 25))
  have HCK := hid2 (Ite.chk_ok he)
  have HB0 := hid2 B0
  have he2 : fitsX lim x = Sla.fitsP lim (Ite.sizeP x.key.size x.ver x.asof x.ends x.val.length : Int) := rfl
  rw [he2]
  clear h1 h2 h4 B0 he he2
  go_enter Tryz.func18, Tryz.ntmps18
  go_wp2_with fail
  obtain ⟨w0, hw0⟩ : ∃ w0, w0 = w.alloc (.cells #[.string x.key, .int .i64 x.ver, .int .i64 x.asof, .int .i64 x.ends, .slice p x.val.length c] 25) := ⟨_, rfl⟩
  rw [← hw0] at HT0 Y0 HB0 ⊢
  clear hw0
  obtain ⟨c0, c1, _⟩ := HT0.out.cells
  refine wp_region_held_drew (S := fun W => Below w0.heap.size w0 W) (by kernel_rfl) (drew_below_m w0 1 _) (fun hS => ?_)
  change wpAnyH _ _ _ _ _ _ _ _ (World.drew _)
  refine wpAnyH_take (i := 0) (v := .pointer (some ⟨g, 0, none⟩)) rfl (by kernel_rfl) (by kernel_rfl) (by kernel_rfl) (fun _ _ _ h => h) (Or.inl ⟨by kernel_rfl, ?_⟩) hS ?_
  · intro w hw; clear hw; go_simp
  change wpAnyH _ _ _ _ _ _ _ (Act.put _ (some 5) _) _
  simp only [Act.put, List.setIfInBounds_toArray, List.set_cons_succ, List.set_cons_zero]
  refine wpAnyH_take (i := 1) (v := .pointer (some ⟨g, 0, none⟩)) rfl (by kernel_rfl) (by kernel_rfl) (by kernel_rfl) (fun _ _ _ h => h) (Or.inl ⟨by kernel_rfl, ?_⟩) hS ?_
  · intro w hw; clear hw; go_simp
  change wpAnyH _ _ _ _ _ _ _ (Act.put _ (some 6) _) _
  simp only [Act.put, List.setIfInBounds_toArray, List.set_cons_succ, List.set_cons_zero]
  refine wpAnyH_take (i := 2) (v := .pointer (some ⟨g, 0, none⟩)) rfl (by kernel_rfl) (by kernel_rfl) (by kernel_rfl) (fun _ _ _ h => h) (Or.inl ⟨by kernel_rfl, ?_⟩) hS ?_
  · intro w hw; clear hw; go_simp
  change wpAnyH _ _ _ _ _ _ _ (Act.put _ (some 7) _) _
  simp only [Act.put, List.setIfInBounds_toArray, List.set_cons_succ, List.set_cons_zero]
  refine wpAnyH_take (i := 3) (v := .pointer (some ⟨gb, 0, none⟩)) rfl (by kernel_rfl) (by kernel_rfl) (by kernel_rfl) (fun _ _ _ h => h) (Or.inl ⟨by kernel_rfl, ?_⟩) hS ?_
  · intro w hw
    have hc := (Below.cell hw (p := ⟨g, 0, none⟩) c0).trans c1
    clear hw
    go_simp
  change wpAnyH _ _ _ _ _ _ _ (Act.put _ (some 8) _) _
  simp only [Act.put, List.setIfInBounds_toArray, List.set_cons_succ, List.set_cons_zero]
  refine wpAnyH_take (i := 4) (v := .agg #[.string x.key, .int .i64 x.ver, .int .i64 x.asof, .int .i64 x.ends, .slice p x.val.length c]) rfl (by kernel_rfl) (by kernel_rfl) (by kernel_rfl) (fun _ _ _ h => h) (yieldsIf_load_mid (by kernel_rfl) 25 (.tmp 3) rfl w.heap.size 0 rfl ([.string x.key, .int .i64 x.ver, .int .i64 x.asof, .int .i64 x.ends, .slice p x.val.length c]) _ (fun W hw => box_range (heap_stays Y0.out hw)) Ite.Tryz.und24.choose_spec rfl (Ite.Tryz.size24)) hS ?_
  change wpAnyH _ _ _ _ _ _ _ (Act.put _ (some 9) _) _
  simp only [Act.put, List.setIfInBounds_toArray, List.set_cons_succ, List.set_cons_zero]
  refine wpAnyH_ready (rs := [5]) (by kernel_rfl) (by simp) ?_
  refine AllReadyH.cons rfl (fun K hK => ?_) AllReadyH.nil
  go_simp
  go_wp2_with fail
  refine (Ite.size_any x.key x.ver x.asof x.ends p x.val.length c _ (Nat.le_trans HCK.out.1 (by omega)) (Nat.le_trans HCK.out.2.2.2.2.2.2.2 (by omega)) (by have := HCK.out; omega) (by have := HCK.out; omega) HCK.out.2.2.2.2.2.1).mono ?_
  rintro e w8 ⟨rfl, hb8⟩
  refine hK.out _ _ (Below.trans hS (Below.mono hb8 (Below.size hS))) (fun hS => ?_)
  clear hK K
  skip
  refine wpAnyH_ready (rs := [6]) (by kernel_rfl) (by simp) ?_
  refine AllReadyH.cons rfl (fun K hK => ?_) AllReadyH.nil
  go_simp
  go_wp2_with fail
  refine (KF.out _ (HT0.out.below hS)).mono ?_
  rintro e w9 ⟨rfl, hb9⟩
  refine hK.out _ _ (Below.trans hS (Below.mono hb9 (Below.size hS))) (fun hS => ?_)
  clear hK K
  skip
  refine wpAnyH_take (i := 7) (v := .bool (Sla.fitsP lim (Ite.sizeP x.key.size x.ver x.asof x.ends x.val.length : Int))) rfl (by kernel_rfl) (by kernel_rfl) (by kernel_rfl) (fun _ _ _ h => h) (Or.inl ⟨by kernel_rfl, ?_⟩) hS ?_
  · intro w hw; clear hw; go_simp
  change wpAnyH _ _ _ _ _ _ _ (Act.put _ (some 4) _) _
  simp only [Act.put, List.setIfInBounds_toArray, List.set_cons_succ, List.set_cons_zero]
  refine wpAnyH_done (by kernel_rfl) ?_ _
  skip
  go_wp2
  go_ret
  exact ⟨rfl, HB0.out.trans (hS.mono HB0.out.size)⟩

theorem drop_nokey {L : List Ent} {k : ByteArray} (nd : (L.map (·.key)).Nodup) : ∀ y ∈ dropE L k, y.key ≠ k := by
  unfold dropE
  cases hi : idx L k with
  | none => exact idx_none.1 hi
  | some i =>
    obtain ⟨z, hz, hzk, _⟩ := idx_some.1 hi
    intro y hy e
    unfold butE at hy
    obtain ⟨j, hj⟩ := List.mem_iff_getElem?.1 (show y ∈ L.eraseIdx i by rw [← butE_eq]; exact hy)
    rw [List.getElem?_eraseIdx] at hj
    have hz' : (L.map (·.key))[i]? = some k := by rw [List.getElem?_map, hz, ← hzk]; rfl
    split at hj
    · have hy' : (L.map (·.key))[j]? = some k := by rw [List.getElem?_map, hj, ← e]; rfl
      have := nodup_at nd hz' hy'
      omega
    · have hy' : (L.map (·.key))[j + 1]? = some k := by rw [List.getElem?_map, hj, ← e]; rfl
      have := nodup_at nd hz' hy'
      omega
theorem add_t {w : World} {B g : Nat} {lim : Int} {L : List Ent} {M : Nat} (h : Tier w B g lim L M) (x : Ent) {p : Option Addr} {c : Nat} (he : checkE x = 0) (hk : ∀ y ∈ L, y.key ≠ x.key) (hB : Bq w B (.slice p x.val.length c) x.val) (hM : M ≤ 900) (hr : tk x ≤ lim - usedL L) :
    Calls Tryz.prog 57 #[.pointer (some ⟨g, 0, none⟩), .agg #[.string x.key, .int .i64 x.ver, .int .i64 x.asof, .int .i64 x.ends, .slice p x.val.length c], .int .i64 (ucl x)] w fun en w' => en = .returned (.tuple #[]) ∧ Fr B w w' ∧ Tier w' B g lim (x :: L) (M + 1) := by
  obtain ⟨gb, gl, B1, B2, gc, v, n, s, bl, T, th, X, H, C, h1, h2, rfl, h4⟩ := h
  exact add_tb h1 h2 h4 x he (fun y hy => hk _ (List.mem_map_of_mem hy)) hB hM (by rw [h2.usedL]; exact hr)

set_option maxHeartbeats 2000000 in
set_option maxRecDepth 8000 in
theorem set_n {w : World} {B g : Nat} {lim : Int} {L : List Ent} {M : Nat} (h : Tier w B g lim L M) (hM : M ≤ 900) (x : Ent) {p : Option Addr} {c : Nat} (hB : Bq w B (.slice p x.val.length c) x.val) (hk : x.key.size ≤ 1000) (hv : x.val.length ≤ 5000) (now : Int) :
    Calls Tryz.prog 23 #[.pointer (some ⟨g, 0, none⟩), .agg #[.string x.key, .int .i64 x.ver, .int .i64 x.asof, .int .i64 x.ends, .slice p x.val.length c], .int .i64 now] w fun e w' => ∃ gv ev, e = .returned (.tuple #[gv, ev]) ∧ EsN w' B gv (setP lim L x now).2.1 ∧ Ite.Fault1 w' ev (setP lim L x now).2.2 ∧ Fr B w w' ∧ Tier w' B g lim (setP lim L x now).1 (M + 1) := by
  have B0 : Below w.heap.size w (w.alloc (.cells #[.string x.key, .int .i64 x.ver, .int .i64 x.asof, .int .i64 x.ends, .slice p x.val.length c] 25)) := by go_grown
  have HT0 := hid2 (h.below B0)
  have Y0 := hid2 (heap_alloc_new w (.cells #[.string x.key, .int .i64 x.ver, .int .i64 x.asof, .int .i64 x.ends, .slice p x.val.length c] 25))
  have HF0 := hid2 (Fr.of (B := B) B0)
  have HQ0 := hid2 (hB.stays B0)
  have KC := hid2 (Ite.check_any x.key x.ver x.asof x.ends p x.val.length c (w.alloc (.cells #[.string x.key, .int .i64 x.ver, .int .i64 x.asof, .int .i64 x.ends, .slice p x.val.length c] 25)) (Nat.le_trans hk (by unfold maxLen; omega)) (Nat.le_trans hv (by unfold maxLen; omega)))
  have hfine := h.fine
  have hce : Ite.chk x.key x.ver x.asof x.ends x.val.length = checkE x := rfl
  rw [hce] at KC
  obtain ⟨⟨q0, q1, q2, q3, q4⟩, qf⟩ := Ite.five24 Y0.out
  clear B0 h hB hce
  unfold setP
  by_cases hc : checkE x = 0
  · rw [if_neg (by simpa using hc)]
    rw [hc] at KC
    have HCK := hid2 (Ite.chk_ok hc)
    cases hl : lv x now with
    | false =>
      rw [if_pos rfl]
      clear hc
      go_enter Tryz.func23, Tryz.ntmps23
      go_wp2_with fail
      refine (show Calls _ _ _ _ _ from KC.out).mono ?_
      rintro e w1 ⟨v1, rfl, hf1, hb1⟩
      obtain rfl := Ite.Fault1.zero hf1
      have HT1 := hid2 (HT0.out.below hb1)
      have F1 := hid2 (HF0.out.then_ hb1)
      have Y1 := hid2 (heap_stays Y0.out hb1)
      have HQ1 := hid2 (HQ0.out.stays hb1)
      obtain ⟨⟨q0, q1, q2, q3, q4⟩, qf⟩ := Ite.five24 Y1.out
      clear hf1 hb1 KC
      go_wp2_with fail
      refine (Ite.live_any x.key x.ver x.asof x.ends now p x.val.length c w1).mono ?_
      rintro e w2 ⟨rfl, hb2⟩
      rw [show Ite.liveB x.ends now = lv x now from rfl, hl]
      have HT2 := hid2 (HT1.out.below hb2)
      have F2 := hid2 (F1.out.then_ hb2)
      have Y2 := hid2 (heap_stays Y1.out hb2)
      have HQ2 := hid2 (HQ1.out.stays hb2)
      obtain ⟨⟨q0, q1, q2, q3, q4⟩, qf⟩ := Ite.five24 Y2.out
      clear hb2
      clear hl
      go_wp2_with fail
      refine (Ite.new_code1 _ _ _ _).mono ?_
      rintro e w3 ⟨v3, rfl, hf3, hb3⟩
      have HFL := hid2 hf3
      have HB3 := hid2 hb3
      clear hf3 hb3
      go_wp2
      refine bodyPost_ret (v := .tuple #[.slice none 0 0, v3]) (by simp [results, Tryz.results23, go_sem]) rfl ⟨_, _, rfl, EsN.nil _ _, HFL.out, F2.out.then_ HB3.out, (HT2.out.below HB3.out).more⟩
    | true =>
      rw [if_neg (by simp)]
      cases hfx : fitsX lim x with
      | false =>
        rw [if_pos rfl]
        have HE := hid2 hc
        clear hc
        go_enter Tryz.func23, Tryz.ntmps23
        go_wp2_with fail
        refine (show Calls _ _ _ _ _ from KC.out).mono ?_
        rintro e w1 ⟨v1, rfl, hf1, hb1⟩
        obtain rfl := Ite.Fault1.zero hf1
        have HT1 := hid2 (HT0.out.below hb1)
        have F1 := hid2 (HF0.out.then_ hb1)
        have Y1 := hid2 (heap_stays Y0.out hb1)
        have HQ1 := hid2 (HQ0.out.stays hb1)
        obtain ⟨⟨q0, q1, q2, q3, q4⟩, qf⟩ := Ite.five24 Y1.out
        clear hf1 hb1 KC
        go_wp2_with fail
        refine (Ite.live_any x.key x.ver x.asof x.ends now p x.val.length c w1).mono ?_
        rintro e w2 ⟨rfl, hb2⟩
        rw [show Ite.liveB x.ends now = lv x now from rfl, hl]
        have HT2 := hid2 (HT1.out.below hb2)
        have F2 := hid2 (F1.out.then_ hb2)
        have Y2 := hid2 (heap_stays Y1.out hb2)
        have HQ2 := hid2 (HQ1.out.stays hb2)
        obtain ⟨⟨q0, q1, q2, q3, q4⟩, qf⟩ := Ite.five24 Y2.out
        clear hb2
        clear hl
        go_wp2_with fail
        refine (fits_t HT2.out x p c HE.out).mono ?_
        rintro e w3 ⟨rfl, hb3⟩
        rw [hfx]
        have HT3 := hid2 (HT2.out.below hb3)
        have F3 := hid2 (F2.out.then_ hb3)
        have Y3 := hid2 (heap_stays Y2.out hb3)
        have HQ3 := hid2 (HQ2.out.stays hb3)
        obtain ⟨⟨q0, q1, q2, q3, q4⟩, qf⟩ := Ite.five24 Y3.out
        clear hb3
        clear hfx
        go_wp2_with fail
        refine (Ite.size_any x.key x.ver x.asof x.ends p x.val.length c w3 (Nat.le_trans HCK.out.1 (by omega)) (Nat.le_trans HCK.out.2.2.2.2.2.2.2 (by omega)) (by have := HCK.out; omega) (by have := HCK.out; omega) HCK.out.2.2.2.2.2.1).mono ?_
        rintro e w4 ⟨rfl, hb4⟩
        have HT4 := hid2 (HT3.out.below hb4)
        have F4 := hid2 (F3.out.then_ hb4)
        have Y4 := hid2 (heap_stays Y3.out hb4)
        have HQ4 := hid2 (HQ3.out.stays hb4)
        obtain ⟨⟨q0, q1, q2, q3, q4⟩, qf⟩ := Ite.five24 Y4.out
        clear hb4
        generalize Ite.sizeP x.key.size x.ver x.asof x.ends x.val.length = sz at *
        go_wp2_with fail
        refine (Ite.new_code1 _ _ _ _).mono ?_
        rintro e w5 ⟨v3, rfl, hf3, hb3⟩
        have HFL := hid2 hf3
        have HB3 := hid2 hb3
        clear hf3 hb3
        go_wp2
        refine bodyPost_ret (v := .tuple #[.slice none 0 0, v3]) (by simp [results, Tryz.results23, go_sem]) rfl ⟨_, _, rfl, EsN.nil _ _, HFL.out, F4.out.then_ HB3.out, (HT4.out.below HB3.out).more⟩
      | true =>
        rw [if_neg (by simp)]
        have HE := hid2 hc
        have hroom : tk x ≤ lim := by
          unfold fitsX at hfx
          simp at hfx
          exact hfx.2
        have hnk := drop_nokey (L := L) (k := x.key) hfine.2.1
        have HNK := hid2 hnk
        have HRM := hid2 hroom
        clear hc hnk hroom hfine
        go_enter Tryz.func23, Tryz.ntmps23
        go_wp2_with fail
        refine (show Calls _ _ _ _ _ from KC.out).mono ?_
        rintro e w1 ⟨v1, rfl, hf1, hb1⟩
        obtain rfl := Ite.Fault1.zero hf1
        have HT1 := hid2 (HT0.out.below hb1)
        have F1 := hid2 (HF0.out.then_ hb1)
        have Y1 := hid2 (heap_stays Y0.out hb1)
        have HQ1 := hid2 (HQ0.out.stays hb1)
        obtain ⟨⟨q0, q1, q2, q3, q4⟩, qf⟩ := Ite.five24 Y1.out
        clear hf1 hb1 KC
        go_wp2_with fail
        refine (Ite.live_any x.key x.ver x.asof x.ends now p x.val.length c w1).mono ?_
        rintro e w2 ⟨rfl, hb2⟩
        rw [show Ite.liveB x.ends now = lv x now from rfl, hl]
        have HT2 := hid2 (HT1.out.below hb2)
        have F2 := hid2 (F1.out.then_ hb2)
        have Y2 := hid2 (heap_stays Y1.out hb2)
        have HQ2 := hid2 (HQ1.out.stays hb2)
        obtain ⟨⟨q0, q1, q2, q3, q4⟩, qf⟩ := Ite.five24 Y2.out
        clear hb2
        clear hl
        go_wp2_with fail
        refine (fits_t HT2.out x p c HE.out).mono ?_
        rintro e w3 ⟨rfl, hb3⟩
        rw [hfx]
        have HT3 := hid2 (HT2.out.below hb3)
        have F3 := hid2 (F2.out.then_ hb3)
        have Y3 := hid2 (heap_stays Y2.out hb3)
        have HQ3 := hid2 (HQ2.out.stays hb3)
        obtain ⟨⟨q0, q1, q2, q3, q4⟩, qf⟩ := Ite.five24 Y3.out
        clear hb3
        clear hfx
        go_wp2_with fail
        refine (drop_t HT3.out x.key hk).mono ?_
        rintro e w4 ⟨p4, c4, rfl, _, hf4, ht4⟩
        have HT4 := hid2 ht4
        have F4 := hid2 (F3.out.trans hf4)
        have Y4 := hid2 (hf4.ent Y3.out good_ent.1)
        have HQ4 := hid2 (HQ3.out.fr hf4)
        obtain ⟨⟨q0, q1, q2, q3, q4⟩, qf⟩ := Ite.five24 Y4.out
        clear ht4 hf4
        go_wp2_with fail
        refine (class_any x.key x.ver x.asof x.ends p x.val.length c w4 (Nat.le_trans HCK.out.1 (by omega)) (Nat.le_trans HCK.out.2.2.2.2.2.2.2 (by omega)) (by have := HCK.out; omega) (by have := HCK.out; omega) HCK.out.2.2.2.2.2.1).mono ?_
        rintro e w5 ⟨rfl, hb5⟩
        rw [show Sla.cls (Ite.sizeP x.key.size x.ver x.asof x.ends x.val.length : Int) = ucl x from rfl]
        have HT5 := hid2 (HT4.out.below hb5)
        have F5 := hid2 (F4.out.then_ hb5)
        have Y5 := hid2 (heap_stays Y4.out hb5)
        have HQ5 := hid2 (HQ4.out.stays hb5)
        obtain ⟨⟨q0, q1, q2, q3, q4⟩, qf⟩ := Ite.five24 Y5.out
        clear hb5
        have KZ := hid2 (Sla.size_any w5 (ucl x))
        rw [show Sla.sz (ucl x) = tk x from rfl] at KZ
        have KA := hid2 (fun W LL (q : Tier W B g lim LL M) (a1 : ∀ y ∈ LL, y.key ≠ x.key) (a2 : tk x ≤ lim - usedL LL) p c (a3 : Bq W B (.slice p x.val.length c) x.val) => add_t q x HE.out a1 a3 hM a2 (p := p) (c := c))
        have KR := hid2 (room_t HT5.out (tk x) now HRM.out)
        have RM2 := hid2 (cutJ_room (L := dropE L x.key) HRM.out (dropE L x.key).length)
        go_wp2_with fail
        refine (show Calls _ _ _ _ _ from KZ.out).mono ?_
        rintro e w6 ⟨rfl, hw6⟩
        subst hw6
        go_wp2_with fail
        refine (show Calls _ _ _ _ _ from KR.out).mono ?_
        rintro e w7 ⟨gv, rfl, hes, hf7, ht7⟩
        have HT7 := hid2 ht7
        have F7 := hid2 (F5.out.trans hf7)
        have Y7 := hid2 (hf7.ent Y5.out good_ent.1)
        have HQ7 := hid2 (HQ5.out.fr hf7)
        have HES := hid2 hes
        obtain ⟨⟨q0, q1, q2, q3, q4⟩, qf⟩ := Ite.five24 Y7.out
        clear ht7 hf7 hes KR KZ
        go_wp2_with fail
        refine (Ite.copy_any x.key x.ver x.asof x.ends HQ7.out.bs (Nat.le_trans HCK.out.2.2.2.2.2.2.2 (by omega))).mono ?_
        rintro e w8 ⟨p8, c8, rfl, h8, hb8⟩
        have HT8 := hid2 (HT7.out.below hb8)
        have F8 := hid2 (F7.out.then_ hb8)
        have HES8 := hid2 (HES.out.stays hb8)
        have KA8 := hid2 (KA.out _ _ HT8.out (fun y hy => HNK.out y (List.mem_of_mem_take hy)) RM2.out p8 c8 (Bq.of5 B h8))
        clear hb8 h8 KA q0 q1 q2 q3 q4 qf
        go_wp2_with fail
        refine (show Calls _ _ _ _ _ from KA8.out).mono ?_
        rintro e w9 ⟨rfl, hf9, ht9⟩
        have HT9 := hid2 ht9
        have F9 := hid2 (F8.out.trans hf9)
        have HES9 := hid2 (HES8.out.fr hf9)
        clear hf9 ht9 KA8
        go_wp2
        refine bodyPost_ret (v := .tuple #[gv, .nilIface]) (by simp [results, Tryz.results23, go_sem]) rfl ⟨_, _, rfl, HES9.out, .inl ⟨rfl, rfl⟩, F9.out, HT9.out⟩
  · rw [if_pos hc]
    have HC := hid2 hc
    generalize checkE x = code at *
    clear hc
    go_enter Tryz.func23, Tryz.ntmps23
    go_wp2_with fail
    refine (show Calls _ _ _ _ _ from KC.out).mono ?_
    rintro e w1 ⟨v1, rfl, hf1, hb1⟩
    obtain ⟨pp, rfl⟩ := Ite.Fault1.one hf1 HC.out
    have HFL := hid2 hf1
    have HB1 := hid2 hb1
    clear hf1 hb1 KC q0 q1 q2 q3 q4 qf
    go_wp2
    refine bodyPost_ret (v := .tuple #[.slice none 0 0, .iface 107 (.pointer (some pp))]) (by simp [results, Tryz.results23, go_sem]) rfl ⟨_, _, rfl, EsN.nil _ _, HFL.out, HF0.out.then_ HB1.out, (HT0.out.below HB1.out).more⟩
theorem set_t {w : World} {B g : Nat} {lim : Int} {L : List Ent} {M : Nat} (h : Tier w B g lim L M) (hM : M ≤ 900) (x : Ent) {p : Option Addr} {c : Nat} (hB : Bq w B (.slice p x.val.length c) x.val) (hk : x.key.size ≤ 1000) (hv : x.val.length ≤ 5000) (now : Int) :
    Calls Tryz.prog 23 #[.pointer (some ⟨g, 0, none⟩), .agg #[.string x.key, .int .i64 x.ver, .int .i64 x.asof, .int .i64 x.ends, .slice p x.val.length c], .int .i64 now] w fun e w' => ∃ gv ev, e = .returned (.tuple #[gv, ev]) ∧ Es w' B gv (setP lim L x now).2.1 ∧ Ite.Fault1 w' ev (setP lim L x now).2.2 ∧ Fr B w w' ∧ Tier w' B g lim (setP lim L x now).1 (M + 1) := by
  refine (set_n h hM x hB hk hv now).mono ?_
  rintro e w' ⟨gv, ev, h0, h1, h2⟩
  exact ⟨gv, ev, h0, h1.1, h2⟩
end Go.Proofs.YtkgecpplgjfhiaaGreatDoor
