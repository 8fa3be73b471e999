/-
  The document's Get.
-/
import Derived.Test.YtkbfihnoohhojaaGreatDoorQR10b
import Derived.Test.YtkbfihnoohhojaaGreatDoorQLLSame
namespace Go.Proofs.YtkbfihnoohhojaaGreatDoor
open Go.RowKit Go.Extern.Stop Go.Stop Go.Extern
open Fla (Rf RfAt rall rflush rtrim rwrite)

theorem sl_apart {w : World} {b g : Nat} {v : Value} {l : List Nat} (h : Lea.SlAt w b v (Lea.U l)) (hx : w.heap[g]? = some (.cells #[.int .i64 0, .int .i64 0, .slice none 0 0] 50 (0, 0))) (hg : g < w.heap.size) : ∃ b9, b9 ≠ g ∧ b9 ≠ w.heap.size ∧ Lea.SlAt w b9 v (Lea.U l) := by
  rcases h with h | ⟨a, cap, h1, h2, h3, h4 | ⟨off, h5, h6, h7⟩⟩
  · exact ⟨w.heap.size + 1, by omega, by omega, .inl h⟩
  · exact ⟨w.heap.size + 1, by omega, by omega, .inr ⟨a, cap, h1, h2, h3, .inl h4⟩⟩
  · cases l with
    | nil => exact ⟨w.heap.size + 1, by omega, by omega, .inr ⟨a, cap, h1, h2, h3, .inl rfl⟩⟩
    | cons x r =>
      refine ⟨b, ?_, by omega, .inr ⟨a, cap, h1, h2, h3, .inr ⟨off, h5, h6, h7⟩⟩⟩
      rintro rfl
      have := h7 0 (.int .u8 (x : Int)) rfl
      simp [World.cell?, hx] at this
      rcases off with _ | _ | _ | off <;> simp at this
/-- What the document's Get leaves: a leaf and a code. -/
def RGet (w w' : World) (v : Value) (r : Int × Nat × Nat × List Nat) : Prop :=
  ∃ b' p' cap', v = .tuple #[.agg #[.int .i64 (r.2.1 : Int), .int .i64 (r.2.2.1 : Int), .slice p' r.2.2.2.length cap'], .int .i64 r.1] ∧ Lea.SlAt w' b' (.slice p' r.2.2.2.length cap') (Lea.U r.2.2.2) ∧ Below w.heap.size w w'
theorem RGet.err {w w1 w' : World} {code : Int} {b : Nat} (hb : Below w.heap.size w w1) (hbb : w.heap.size ≤ b) (hg : w1.grownBy w' (some b)) :
    RGet w w' (.tuple #[.agg #[.int .i64 0, .int .i64 0, .slice none 0 0], .int .i64 code]) (code, 0, 0, []) :=
  ⟨w.heap.size, none, 0, rfl, Lea.SlAt.nil _ _, hb.grown hg hb.size (fun k hk => by cases hk; exact hbb)⟩

set_option maxHeartbeats 8000000 in
set_option maxRecDepth 10000 in
theorem rtget_any {w : World} {x0 x1 x2 x3 x4 x5 : Value} {r : Rf} {N : Nat} {n : Int} (hR : RfAt w (.agg #[x0, x1, x2, x3, x4, x5]) r N) (at_ kind : Int) (hp : (Fla.rreadP r at_).2 = 0 → (Fla.rreadP r at_).1.length = 256 ∧ Lea.Byt (Fla.rreadP r at_).1) :
    Calls Tryz.prog 14 #[.agg #[x0, x1, x2, x3, x4, x5, .int .i64 n], .int .i64 at_, .int .i64 kind] w fun e w' => ∃ rv, e = .returned rv ∧ RGet w w' rv (tgetP (Fla.rreadP r at_) kind) := by
  obtain ⟨X0, X1⟩ := heap2t w (.cells #[x0, x1, x2, x3, x4, x5, .int .i64 n] 38) (.cells #[.int .i64 0, .int .i64 0, .slice none 0 0] 50)
  have HB0 : Hid (Below w.heap.size w ((w.alloc (.cells #[x0, x1, x2, x3, x4, x5, .int .i64 n] 38)).alloc (.cells #[.int .i64 0, .int .i64 0, .slice none 0 0] 50))) := by show Below _ _ _; go_grown
  have HPG := hid2 hp
  have KR := hid2 (Fla.rread_any (hR.below HB0.out) at_)
  clear hR hp
  generalize Fla.rreadP r at_ = rp at *
  obtain ⟨l, code⟩ := rp
  dsimp only at HPG KR
  go_enter Tryz.func14, Tryz.ntmps14
  go_wp2_with fail
  refine (show Calls _ _ _ _ _ from KR).mono ?_
  rintro e w2 ⟨v, rfl, hv, hb2⟩
  have HX2 := hid2 (heap_stays X1.out hb2)
  have HB2 : Hid (Below w.heap.size w w2) := HB0.out.trans (hb2.mono HB0.out.size)
  have hs2 : w.heap.size + 1 < w2.heap.size := (Array.getElem?_eq_some_iff.1 HX2.out).1
  have HV := hid2 hv
  clear hv hb2 KR
  by_cases hcode : code = 0
  · subst hcode
    have hpg := HPG.out rfl
    obtain ⟨bs, hbs⟩ := bat_sl HV.out (by omega)
    have KG := hid2 (Lea.rget_any hbs hpg.2)
    obtain ⟨sp, scap, hvv, _⟩ := hbs.form
    subst hvv
    have e0 : tgetP (l, 0) kind = if (Lea.getP l).1 ≠ 0 then ((Lea.getP l).1, 0, 0, []) else if ((Lea.getP l).2.2.1 : Int) = kind then Lea.getP l else (12, 0, 0, []) := by unfold tgetP; rw [if_neg (by simp)]
    have HT0 := hid2 e0
    clear hpg hbs HV HPG e0
    generalize Lea.getP l = rr at *
    obtain ⟨c, s, k, bb⟩ := rr
    dsimp only at HT0
    go_wp2_with fail
    refine (show Calls _ _ _ _ _ from KG).mono ?_
    rintro e w3 ⟨rv3, rfl, hg3⟩
    obtain ⟨b', p', cap', hrv, hsl, hb3⟩ := hg3
    dsimp only at hrv hsl
    subst hrv
    have HX3 := hid2 (heap_stays HX2.out hb3)
    have hs3 := hb3.size
    have HB3 : Hid (Below w.heap.size w w3) := HB2.out.trans (hb3.mono HB2.out.size)
    obtain ⟨b9, hlo, hne, hsl9⟩ := sl_apart hsl HX3.out (by omega)
    have HA3 := hid2 (heap_alloc_new w3 (.cells #[.int .i64 0, .int .i64 0, .slice none 0 0] 50))
    clear hsl hb3 KG
    by_cases hc : c = 0
    · subst hc
      have HT1 : Hid (tgetP (l, 0) kind = if (k : Int) = kind then (0, s, k, bb) else (12, 0, 0, [])) := by show _ = _; rw [HT0.out, if_neg (by simp)]
      clear HT0
      by_cases hk : (k : Int) = kind
      · have HT2 : Hid (tgetP (l, 0) kind = (0, s, k, bb)) := by show _ = _; rw [HT1.out, if_pos hk]
        have hk' : ((k : Int) != kind) = false := by simp [hk]
        clear HT1 hk
        go_wp2_with (first | (refine Lea.st24 rfl (.tmp 10) (.tmp 26) rfl w3.heap.size rfl _ _ _ _ HA3.out rfl rfl ⟨rfl, rfl, rfl⟩ ?_; intro w4 hz4 hg4; have hb4 := box_below hg4; have HX4 := hid2 (heap_stays HX3.out hb4); have HB4 := hid2 (HB3.out.trans (hb4.mono HB3.out.size)); have HS4 := hid2 (hsl9.stays hb4); obtain ⟨⟨q0, q1, q2⟩, qf⟩ := Lea.three24 hz4; clear hb4 hz4 hg4) | (refine Lea.st24 rfl (.tmp 6) (.tmp 37) rfl (w.heap.size + 1) rfl _ _ _ _ HX4.out rfl rfl ⟨rfl, rfl, rfl⟩ ?_; intro wz hwz hgz))
        refine bodyPost_ret (v := .tuple #[.agg #[.int .i64 (s : Int), .int .i64 (k : Int), .slice p' bb.length cap'], .int .i64 0]) ?_ rfl ⟨_, rfl, ?_⟩
        · exact Lea.results24 Tryz.results14 _ _ (w.heap.size + 1) rfl _ _ _ 50 (0, 0) hwz _ rfl
        · rw [HT2.out]
          exact ⟨b9, p', cap', rfl, HS4.out.grown hgz hlo, HB4.out.grown hgz HB4.out.size (fun j hj => by cases hj; omega)⟩
      · have HT2 : Hid (tgetP (l, 0) kind = (12, 0, 0, [])) := by show _ = _; rw [HT1.out, if_neg hk]
        have hk' : ((k : Int) != kind) = true := by simpa using hk
        clear HT1 hk
        go_wp2_with (first | (refine Lea.st24 rfl (.tmp 10) (.tmp 26) rfl w3.heap.size rfl _ _ _ _ HA3.out rfl rfl ⟨rfl, rfl, rfl⟩ ?_; intro w4 hz4 hg4; have hb4 := box_below hg4; have HX4 := hid2 (heap_stays HX3.out hb4); have HB4 := hid2 (HB3.out.trans (hb4.mono HB3.out.size)); have HS4 := hid2 (hsl9.stays hb4); obtain ⟨⟨q0, q1, q2⟩, qf⟩ := Lea.three24 hz4; clear hb4 hz4 hg4) | (refine Lea.st24 rfl (.tmp 6) (.tmp 36) rfl (w.heap.size + 1) rfl _ _ _ _ HX4.out rfl rfl ⟨rfl, rfl, rfl⟩ ?_; intro wz hwz hgz))
        refine bodyPost_ret (v := .tuple #[.agg #[.int .i64 0, .int .i64 0, .slice none 0 0], .int .i64 12]) ?_ rfl ⟨_, rfl, ?_⟩
        · exact Lea.results24 Tryz.results14 _ _ (w.heap.size + 1) rfl _ _ _ 50 (0, 0) hwz _ rfl
        · rw [HT2.out]
          exact RGet.err HB4.out (Nat.le_succ _) hgz
    · have HT2 : Hid (tgetP (l, 0) kind = (c, 0, 0, [])) := by show _ = _; rw [HT0.out, if_pos hc]
      have hc' : (c != 0) = true := by simpa using hc
      clear HT0 hc
      go_wp2_with (first | (refine Lea.st24 rfl (.tmp 10) (.tmp 26) rfl w3.heap.size rfl _ _ _ _ HA3.out rfl rfl ⟨rfl, rfl, rfl⟩ ?_; intro w4 hz4 hg4; have hb4 := box_below hg4; have HX4 := hid2 (heap_stays HX3.out hb4); have HB4 := hid2 (HB3.out.trans (hb4.mono HB3.out.size)); have HS4 := hid2 (hsl9.stays hb4); obtain ⟨⟨q0, q1, q2⟩, qf⟩ := Lea.three24 hz4; clear hb4 hz4 hg4) | (refine Lea.st24 rfl (.tmp 6) (.tmp 30) rfl (w.heap.size + 1) rfl _ _ _ _ HX4.out rfl rfl ⟨rfl, rfl, rfl⟩ ?_; intro wz hwz hgz))
      refine bodyPost_ret (v := .tuple #[.agg #[.int .i64 0, .int .i64 0, .slice none 0 0], .int .i64 c]) ?_ rfl ⟨_, rfl, ?_⟩
      · exact Lea.results24 Tryz.results14 _ _ (w.heap.size + 1) rfl _ _ _ 50 (0, 0) hwz _ rfl
      · rw [HT2.out]
        exact RGet.err HB4.out (Nat.le_succ _) hgz
  · have HT2 : Hid (tgetP (l, code) kind = (code, 0, 0, [])) := by show _ = _; unfold tgetP; rw [if_pos hcode]
    have hc' : (code != 0) = true := by simpa using hcode
    obtain ⟨vp, vcap, hvf, _⟩ := HV.out.form
    subst hvf
    clear hcode HPG HV
    go_wp2_with (refine Lea.st24 rfl (.tmp 6) (.tmp 21) rfl (w.heap.size + 1) rfl _ _ _ _ HX2.out rfl rfl ⟨rfl, rfl, rfl⟩ ?_; intro wz hwz hgz)
    refine bodyPost_ret (v := .tuple #[.agg #[.int .i64 0, .int .i64 0, .slice none 0 0], .int .i64 code]) ?_ rfl ⟨_, rfl, ?_⟩
    · exact Lea.results24 Tryz.results14 _ _ (w.heap.size + 1) rfl _ _ _ 50 (0, 0) hwz _ rfl
    · rw [HT2.out]
      exact RGet.err HB2.out (Nat.le_succ _) hgz
end Go.Proofs.YtkbfihnoohhojaaGreatDoor
