/-
  The ticket's Get.
-/
import Derived.Test.YtkbfihnoohhojaaDoorQLow
import Derived.Test.YtkbfihnoohhojaaDoorQFTell
import Derived.Test.YtkbfihnoohhojaaDoorQLLSame
import Derived.Test.YtkbfihnoohhojaaDoorQLGets
namespace Go.Proofs.YtkbfihnoohhojaaDoor
open Go.RowKit Go.Extern.Stop Go.Stop Go.Extern

theorem FltN.box {k : Nat} {w w' : World} {v : Value} {code : Int} {b : Nat} {c : Array Value} (h : FltN k w v code) (hb : w.heap[b]? = Option.some (Obj.cells c 25 (0, 0))) (hg : w.grownBy w' (Option.some b)) : FltN k w' v code := by
  rcases h with h | ⟨h1, dn, op, a, p, h2, h3, h4⟩
  · exact .inl h
  · exact .inr ⟨h1, dn, op, a, p, Lk.box h2 hb hg, h3, h4⟩
/-- A new block, and what is written there. -/
theorem box_below {w w' : World} {o : Obj} (hg : (w.alloc o).grownBy w' (Option.some w.heap.size)) : Below w.heap.size w w' :=
  (by go_grown : Below w.heap.size w (w.alloc o)).grown hg (by simp) (fun j hj => by cases hj; exact Nat.le_refl _)
/-- What a Get leaves: a leaf and an error. -/
def TGet (w w' : World) (v : Value) (r : Int × Nat × Nat × List Nat) : Prop :=
  ∃ b' p' cap' u, w.heap.size ≤ b' ∧ v = .tuple #[.agg #[.int .i64 (r.2.1 : Int), .int .i64 (r.2.2.1 : Int), .slice p' r.2.2.2.length cap'], u] ∧ Lea.SlAt w' b' (.slice p' r.2.2.2.length cap') (Lea.U r.2.2.2) ∧ FltN 12 w' u r.1 ∧ Below w.heap.size w w'
theorem TGet.err {w w1 w' : World} {u : Value} {code : Int} {c : Array Value} (hf : FltN 12 w1 u code) (hb : Below w.heap.size w w1) (hx : w1.heap[w.heap.size]? = some (.cells c 25 (0, 0))) (hg : w1.grownBy w' (some w.heap.size)) :
    TGet w w' (.tuple #[.agg #[.int .i64 0, .int .i64 0, .slice none 0 0], u]) (code, 0, 0, []) :=
  ⟨w.heap.size, none, 0, u, Nat.le_refl _, rfl, Lea.SlAt.nil _ _, hf.box hx hg, hb.grown hg hb.size (fun k hk => by cases hk; exact Nat.le_refl _)⟩
theorem read_page {d : Fla.Dev} (h : Fla.DevOk d) {at_ : Int} (hr : (Fla.readP d at_).2 = 0) : (Fla.readP d at_).1.length = 256 ∧ Lea.Byt (Fla.readP d at_).1 := by
  unfold Fla.readP at *
  split
  · exact dev_page h at_
  · rename_i h1
    rw [if_neg h1] at hr
    exact absurd hr h1

set_option maxHeartbeats 8000000 in
set_option maxRecDepth 10000 in
theorem tget_any {w : World} {B g N t : Nat} {d : Fla.Dev} {n : Int} (hF : Fla.Fl w B g N d) (hN : N ≤ 900) (hT : Tk w t g n) (at_ kind : Int) :
    Calls Tryd.prog 19 #[.pointer (some ⟨t, 0, none⟩), .int .i64 at_, .int .i64 kind] w fun e w' => ∃ rv, e = .returned rv ∧ TGet w w' rv (tgetP (Fla.readP d at_) kind) := by
  have HX0 := hid2 (heap_alloc_new w (.cells #[.int .i64 0, .int .i64 0, .slice none 0 0] 25))
  have HB0 : Hid (Below w.heap.size w (w.alloc (.cells #[.int .i64 0, .int .i64 0, .slice none 0 0] 25))) := by show Below _ _ _; go_grown
  have HPG := hid2 (read_page hF.1 (at_ := at_))
  have KR := hid2 (Fla.read_any (hF.below HB0.out) hN at_)
  obtain ⟨⟨c0, c1⟩, _⟩ := hT.cells
  have ht := hT.lt
  clear hF hT
  generalize Fla.readP d at_ = rp at *
  obtain ⟨l, code⟩ := rp
  dsimp only at HPG KR
  go_enter Tryd.func19, Tryd.ntmps19
  go_wp2_with fail
  refine (show Calls _ _ _ _ _ from KR).mono ?_
  rintro e w2 ⟨v, u, rfl, hu, hv, hb2⟩
  have HX2 := hid2 (heap_stays HX0.out hb2)
  have HB2 : Hid (Below w.heap.size w w2) := HB0.out.trans (hb2.mono HB0.out.size)
  have hs2 : w.heap.size < w2.heap.size := (Array.getElem?_eq_some_iff.1 HX2.out).1
  have HV := hid2 hv
  have HU := hid2 (FltN.of_fla hu)
  clear hu hv hb2 KR c0 c1
  by_cases hcode : code = 0
  · subst hcode
    obtain rfl := HU.out.none
    have hpg := HPG.out rfl
    obtain ⟨bs, hbs⟩ := bat_sl HV.out (by omega)
    have KG := hid2 (Lea.get_any hbs hpg.2)
    obtain ⟨sp, scap, hvv, _⟩ := hbs.form
    subst hvv
    have e0 : tgetP (l, 0) kind = if (Lea.getP l).1 ≠ 0 then ((Lea.getP l).1, 0, 0, []) else if ((Lea.getP l).2.2.1 : Int) = kind then Lea.getP l else (12, 0, 0, []) := by unfold tgetP; rw [if_neg (by simp)]
    have HT0 := hid2 e0
    clear hpg hbs HV HU HPG e0
    generalize Lea.getP l = r at *
    obtain ⟨c, s, k, bb⟩ := r
    dsimp only at HT0
    go_wp2_with fail
    refine (show Calls _ _ _ _ _ from KG).mono ?_
    rintro e w3 ⟨rv3, rfl, b', p', cap', u3, hb', hrv, hsl, hu3, hb3⟩
    dsimp only at hrv hsl hu3
    subst hrv
    have HX3 := hid2 (heap_stays HX2.out hb3)
    have hs3 := hb3.size
    have HB3 : Hid (Below w.heap.size w w3) := HB2.out.trans (hb3.mono HB2.out.size)
    obtain ⟨b9, hlo, hne, hsl9⟩ := hsl.far (lo := w.heap.size) (ob := w3.heap.size) (by omega) (Nat.le_refl _) (by omega)
    have HSL := hid2 hsl9
    have HU3 := hid2 (FltN.of_lea hu3)
    have HA3 := hid2 (heap_alloc_new w3 (.cells #[.int .i64 0, .int .i64 0, .slice none 0 0] 25))
    have hA : Below w3.heap.size w3 (w3.alloc (.cells #[.int .i64 0, .int .i64 0, .slice none 0 0] 25)) := by go_grown
    have HUA := hid2 (HU3.out.below hA)
    have HSA := hid2 (hsl9.stays hA)
    have HXA := hid2 (heap_stays HX3.out hA)
    have HBA : Hid (Below w.heap.size w (w3.alloc (.cells #[.int .i64 0, .int .i64 0, .slice none 0 0] 25))) := HB3.out.trans (hA.mono HB3.out.size)
    clear hsl hu3 hb3 hsl9 KG hA
    by_cases hc : c = 0
    · subst hc
      obtain rfl := HUA.out.none
      have HT1 : Hid (tgetP (l, 0) kind = if (k : Int) = kind then (0, s, k, bb) else (12, 0, 0, [])) := by show _ = _; rw [HT0.out, if_neg (by simp)]
      clear HT0
      by_cases hk : (k : Int) = kind
      · have HT2 : Hid (tgetP (l, 0) kind = (0, s, k, bb)) := by show _ = _; rw [HT1.out, if_pos hk]
        have hk' : ((k : Int) != kind) = false := by simp [hk]
        clear HT1 hk
        go_wp2_with (first | (refine Lea.st24 rfl (.tmp 10) (.tmp 29) rfl w3.heap.size rfl _ _ _ _ HA3.out rfl rfl ⟨rfl, rfl, rfl⟩ ?_; intro w4 hz4 hg4; have HZ4 := hid2 hz4; have HX4 := hid2 (Fla.heap_grown HXA.out hg4 (by intro e; have := Option.some.inj e; omega)); have HB4 : Hid (Below w.heap.size w w4) := HBA.out.grown hg4 (by simp; omega) (fun j hj => by cases hj; omega); have HU4 := hid2 (HUA.out.box HA3.out hg4); have HS4 := hid2 (HSA.out.grown hg4 hne); obtain ⟨⟨q0, q1, q2⟩, qf⟩ := Lea.three24 hz4; clear hz4 hg4) | (refine Lea.st24 rfl (.tmp 6) (.tmp 44) rfl w.heap.size rfl _ _ _ _ HX4.out rfl rfl ⟨rfl, rfl, rfl⟩ ?_; intro wz hwz hgz))
        refine bodyPost_ret (v := .tuple #[.agg #[.int .i64 (s : Int), .int .i64 (k : Int), .slice p' bb.length cap'], .nilIface]) ?_ rfl ⟨_, rfl, ?_⟩
        · exact Lea.results24 Tryd.results19 _ _ w.heap.size rfl _ _ _ 25 (0, 0) hwz _ rfl
        · rw [HT2.out]
          exact ⟨b9, p', cap', .nilIface, by omega, rfl, HS4.out.grown hgz (by omega), FltN.nil _ _, HB4.out.grown hgz HB4.out.size (fun j hj => by cases hj; exact Nat.le_refl _)⟩
      · have HT2 : Hid (tgetP (l, 0) kind = (12, 0, 0, [])) := by show _ = _; rw [HT1.out, if_neg hk]
        have hk' : ((k : Int) != kind) = true := by simpa using hk
        clear HT1 hk
        go_wp2_with (refine Lea.st24 rfl (.tmp 10) (.tmp 29) rfl w3.heap.size rfl _ _ _ _ HA3.out rfl rfl ⟨rfl, rfl, rfl⟩ ?_; intro w4 hz4 hg4; have HZ4 := hid2 hz4; have HX4 := hid2 (Fla.heap_grown HXA.out hg4 (by intro e; have := Option.some.inj e; omega)); have HB4 : Hid (Below w.heap.size w w4) := HBA.out.grown hg4 (by simp; omega) (fun j hj => by cases hj; omega); have HU4 := hid2 (HUA.out.box HA3.out hg4); have HS4 := hid2 (HSA.out.grown hg4 hne); obtain ⟨⟨q0, q1, q2⟩, qf⟩ := Lea.three24 hz4; clear hz4 hg4)
        refine (new_code _ _ _ _).mono ?_
        rintro e w5 ⟨v5, rfl, hv5, hb5⟩
        have hx5 := heap_stays HX4.out hb5
        have hb5' := HB4.out.trans (hb5.mono HB4.out.size)
        have hu5 := (FltN.of_base hv5).more (k' := 12) (by omega)
        clear hv5 hb5 q0 q1 q2 qf
        go_wp2_with (refine Lea.st24 rfl (.tmp 6) (.tmp 41) rfl w.heap.size rfl _ _ _ _ hx5 rfl rfl ⟨rfl, rfl, rfl⟩ ?_; intro wz hwz hgz)
        refine bodyPost_ret (v := .tuple #[.agg #[.int .i64 0, .int .i64 0, .slice none 0 0], v5]) ?_ rfl ⟨_, rfl, ?_⟩
        · exact Lea.results24 Tryd.results19 _ _ w.heap.size rfl _ _ _ 25 (0, 0) hwz _ rfl
        · rw [HT2.out]
          exact TGet.err hu5 hb5' hx5 hgz
    · have HT2 : Hid (tgetP (l, 0) kind = (c, 0, 0, [])) := by show _ = _; rw [HT0.out, if_pos hc]
      clear HT0
      obtain ⟨a, rfl⟩ := HUA.out.some hc
      clear hc
      go_wp2_with (refine Lea.st24 rfl (.tmp 10) (.tmp 29) rfl w3.heap.size rfl _ _ _ _ HA3.out rfl rfl ⟨rfl, rfl, rfl⟩ ?_; intro w4 hz4 hg4; have HZ4 := hid2 hz4; have HX4 := hid2 (Fla.heap_grown HXA.out hg4 (by intro e; have := Option.some.inj e; omega)); have HB4 : Hid (Below w.heap.size w w4) := HBA.out.grown hg4 (by simp; omega) (fun j hj => by cases hj; omega); have HU4 := hid2 (HUA.out.box HA3.out hg4); have HS4 := hid2 (HSA.out.grown hg4 hne); obtain ⟨⟨q0, q1, q2⟩, qf⟩ := Lea.three24 hz4; clear hz4 hg4)
      refine (wrap_n _ _ HU4.out).mono ?_
      rintro e w5 ⟨v5, rfl, hv5, hb5⟩
      have hx5 := heap_stays HX4.out hb5
      have hb5' := HB4.out.trans (hb5.mono HB4.out.size)
      have hu5 := hv5.more (k' := 12) (by omega)
      clear hv5 hb5 q0 q1 q2 qf
      go_wp2_with (refine Lea.st24 rfl (.tmp 6) (.tmp 33) rfl w.heap.size rfl _ _ _ _ hx5 rfl rfl ⟨rfl, rfl, rfl⟩ ?_; intro wz hwz hgz)
      refine bodyPost_ret (v := .tuple #[.agg #[.int .i64 0, .int .i64 0, .slice none 0 0], v5]) ?_ rfl ⟨_, rfl, ?_⟩
      · exact Lea.results24 Tryd.results19 _ _ w.heap.size rfl _ _ _ 25 (0, 0) hwz _ rfl
      · rw [HT2.out]
        exact TGet.err hu5 hb5' hx5 hgz
  · have e0 : tgetP (l, code) kind = (code, 0, 0, []) := by unfold tgetP; rw [if_pos hcode]
    have HT2 := hid2 e0
    obtain ⟨a, rfl⟩ := HU.out.some hcode
    clear hcode e0 HPG HV
    go_wp2_with fail
    refine (wrap_n _ _ HU.out).mono ?_
    rintro e w3 ⟨v3, rfl, hv3, hb3⟩
    have hx3 := heap_stays HX2.out hb3
    have hb3' := HB2.out.trans (hb3.mono HB2.out.size)
    have hu3 := hv3.more (k' := 12) (by omega)
    clear hv3 hb3
    go_wp2_with (refine Lea.st24 rfl (.tmp 6) (.tmp 22) rfl w.heap.size rfl _ _ _ _ hx3 rfl rfl ⟨rfl, rfl, rfl⟩ ?_; intro wz hwz hgz)
    refine bodyPost_ret (v := .tuple #[.agg #[.int .i64 0, .int .i64 0, .slice none 0 0], v3]) ?_ rfl ⟨_, rfl, ?_⟩
    · exact Lea.results24 Tryd.results19 _ _ w.heap.size rfl _ _ _ 25 (0, 0) hwz _ rfl
    · rw [HT2.out]
      exact TGet.err hu3 hb3' hx3 hgz
end Go.Proofs.YtkbfihnoohhojaaDoor
