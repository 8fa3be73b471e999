/-
  Read of the program: the entries that bytes are.
-/
import Derived.Test.YtgmghekgelmmcaaDoorQIFromE
import Derived.Test.YtgmghekgelmmcaaDoorQIRAll
namespace Go.Proofs.YtgmghekgelmmcaaDoor.Ite
open Go.RowKit

theorem Tryd.info24m : (Tryd.prog.info? 39).map (fun i => (i.zero, i.size, i.bytes)) = some (some (.agg #[.string ByteArray.empty, .int .i64 0, .int .i64 0, .int .i64 0, .slice none 0 0]), 5, 64) := by kernel_rfl
theorem Tryd.info39 : ∃ i, Tryd.prog.info? 39 = some i ∧ i.zero = some (.agg #[.string ByteArray.empty, .int .i64 0, .int .i64 0, .int .i64 0, .slice none 0 0]) ∧ i.size = 5 ∧ i.bytes = 64 := by
  obtain ⟨i, h1, h2⟩ := Option.map_eq_some_iff.1 Tryd.info24m
  simp only [Prod.mk.injEq] at h2
  exact ⟨i, h1, h2.1, h2.2.1, h2.2.2⟩
theorem cell_five_new (w : World) (x0 x1 x2 x3 x4 : Value) (e : TypeId) : ∀ j u, [x0, x1, x2, x3, x4][j]? = some u → (w.alloc (.cells #[x0, x1, x2, x3, x4] e)).cell? ((⟨w.heap.size, 0, none⟩ : Addr).add j) = some u := by
  intro j u hu
  rcases j with _ | _ | _ | _ | _ | j <;> simp_all [Addr.add]
theorem own_ne {w : World} {B : Nat} {e : TypeId} {size : Nat} {v : Value} {n : Nat} {xs : List Value} (h : w.ownsRow B e size v n xs) {g : Nat} {cs : Array Value} {t : TypeId} {fr : Nat × Nat} (hg : w.heap[g]? = some (.cells cs t fr)) (ht : t ≠ e) : v.ownBlock ≠ some g := by
  rcases h.2 with ⟨rfl, _⟩ | ⟨g', cap, cur, rfl, _, hh, _⟩
  · simp [Value.ownBlock]
  · intro e
    simp only [Value.ownBlock, Option.some.injEq] at e
    subst e
    rw [hh] at hg
    cases hg
    exact ht rfl
theorem own_rd {w w' : World} {B : Nat} {v : Value} {n : Nat} {xs : List Value} {g : Nat} {bs : List Int} {a : Nat} {code : Int} (h : w.ownsRow B 39 5 v n xs) (hr : Rd w g bs a code) (hg : w.grownBy w' (some g)) : w'.ownsRow B 39 5 v n xs := by
  obtain ⟨sv, b, h1, _⟩ := hr
  exact h.kept hg (.inr (own_ne h h1 (by decide)))
theorem EC.rd {w w' : World} {xs : List Ent} {cs : List Value} {g : Nat} {bs : List Int} {a : Nat} {code : Int} (h : EC w xs cs) (hr : Rd w g bs a code) (hg : w.grownBy w' (some g)) : EC w' xs cs := h.keep (fun _ _ k => k.rd hr hg)
/-- Bytes stay where a row of entries grows. -/
theorem Bs5.row {w w' : World} {B : Nat} {v u : Value} {n : Nat} {xs : List Value} {l : List Int} (h : Bs5 w u l) (ho : w.ownsRow B 39 5 v n xs) (hg : w.grownBy w' v.ownBlock) : Bs5 w' u l := by
  refine h.kept hg (fun g hv => ?_)
  rcases ho.2 with ⟨rfl, _⟩ | ⟨g', cap, cur, rfl, _, hh, _⟩
  · simp [Value.ownBlock] at hv
  · simp only [Value.ownBlock, Option.some.injEq] at hv
    subst hv
    exact ⟨cur, 39, _, hh, by decide⟩
/-- A reader stays where a row of entries grows. -/
theorem Rd.row {w w' : World} {B : Nat} {v : Value} {n : Nat} {xs : List Value} {g : Nat} {bs : List Int} {a : Nat} {code : Int} (h : Rd w g bs a code) (ho : w.ownsRow B 39 5 v n xs) (hg : w.grownBy w' v.ownBlock) : Rd w' g bs a code := by
  obtain ⟨sv, h1, h2, h3⟩ := h.bs5
  refine Rd.mk5 ?_ (h2.row ho hg) h3
  rw [hg.block g (lt_of_block h1) (Ne.symm (own_ne ho h1 (by decide)))]
  exact h1

/-- What is read besides what was read. -/
def nxt (dn : List Ent) (r : List Ent × Int) : List Ent × Int := if r.2 ≠ 0 then ([], r.2) else (dn ++ r.1, 0)
theorem readF_err (k : Nat) (bs : List Int) (a : Nat) (h : (readF k bs a).2 ≠ 0) : (readF k bs a).1 = [] := by
  cases k with
  | zero => rfl
  | succ k =>
    unfold readF at h ⊢
    split
    · rfl
    · split
      · rfl
      · split
        · rfl
        · rename_i h1 h2 h3
          rw [if_neg h1, if_neg h2, if_neg h3] at h
          exact absurd rfl h
theorem nxt_nil (k : Nat) (bs : List Int) (a : Nat) : readF k bs a = nxt [] (readF k bs a) := by
  unfold nxt
  split
  · rename_i h
    exact Prod.ext (readF_err k bs a h) rfl
  · rename_i h
    refine Prod.ext (by simp) ?_
    simpa using h
theorem readF_succ (k : Nat) (bs : List Int) (a : Nat) : readF (k + 1) bs a = if bs.length ≤ a then ([], 0) else if (frm bs a 0).2.2 ≠ 0 then ([], (frm bs a 0).2.2) else if (readF k bs (frm bs a 0).2.1).2 ≠ 0 then ([], (readF k bs (frm bs a 0).2.1).2) else ((frm bs a 0).1 :: (readF k bs (frm bs a 0).2.1).1, 0) := rfl
theorem nxt_step {k : Nat} {bs : List Int} {a : Nat} {x : Ent} {a' : Nat} (dn : List Ent) (h : a < bs.length) (hf : frm bs a 0 = (x, a', 0)) : nxt dn (readF (k + 1) bs a) = nxt (dn ++ [x]) (readF k bs a') := by
  rw [readF_succ]
  rw [if_neg (by omega), hf]
  simp only
  rw [if_neg (by simp)]
  unfold nxt
  by_cases h2 : (readF k bs a').2 = 0
  · simp [h2]
  · simp [h2]
theorem nxt_bad {k : Nat} {bs : List Int} {a : Nat} {x : Ent} {a' : Nat} {c : Int} (dn : List Ent) (h : a < bs.length) (hf : frm bs a 0 = (x, a', c)) (hc : c ≠ 0) : nxt dn (readF (k + 1) bs a) = ([], c) := by
  rw [readF_succ]
  rw [if_neg (by omega), hf]
  simp only
  rw [if_pos hc]
  unfold nxt
  simp [hc]
theorem nxt_end {k : Nat} {bs : List Int} {a : Nat} (dn : List Ent) (h : ¬ a < bs.length) : nxt dn (readF (k + 1) bs a) = (dn, 0) := by
  rw [readF_succ]
  rw [if_pos (by omega)]
  simp [nxt]

set_option maxHeartbeats 2000000 in
set_option maxRecDepth 10000 in
theorem read_ents {w : World} {b : Nat} {v : Value} {bs : List Int} (h : SlAt w b v (U bs)) (hby : Byt bs) (hl : bs.length ≤ 20000) (hE : ErrT w) :
    Calls Tryd.prog 29 #[v] w fun en w' => ∃ rv u, en = .returned (.tuple #[rv, u]) ∧ EsAt w' rv (readE bs).1 ∧ Fault w' u (readE bs).2 ∧ Below w.heap.size w w' := by
  obtain ⟨i0, hi, hz0, hz1, hz2⟩ := Tryd.info39
  have HR := hid2 (read_any h (by omega))
  clear h
  go_enter Tryd.func29, Tryd.ntmps29
  go_wp2_with fail
  refine (show Calls _ _ _ _ _ from HR).mono ?_
  rintro en w0 ⟨g, rfl, hgw, hr0, hb0⟩
  go_wp2_with fail
  have HGW := hid2 hgw
  have hE0 := hE.below hb0
  have HP : Hid (0 < w.heap.size) := lt_of_cell hE
  clear HR hE hgw
  go_loopg [4] (bs.length + 1) (fun k l wr => ∃ dn a cs, wr.ownsRow w.heap.size 39 5 l dn.length cs ∧ EC wr dn cs ∧ Rd wr g bs a 0 ∧ bs.length - a < k ∧ dn.length ≤ a ∧ Hid (readE bs = nxt dn (readF k bs a)) ∧ Below w.heap.size w wr ∧ ErrT wr)
  case atStart => exact ⟨[], 0, [], World.ownsRow_nil _ _ _ _, rfl, hr0, by omega, Nat.le_refl _, nxt_nil _ _ _, hb0, hE0⟩
  case round =>
    clear hr0 hb0 hE0
    obtain ⟨dn, a, cs, ho, hec, hr, hak, hda, HN, hbr, hEr⟩ := hrel
    have hal := hr.le4
    obtain ⟨j, rfl⟩ : ∃ j, gk = j + 1 := ⟨gk - 1, by omega⟩
    obtain ⟨po, co, hfo⟩ := own_len ho
    subst hfo
    have HO := hid2 ho
    have HEC := hid2 hec
    have HBR := hid2 hbr
    have HAK := hid2 hak
    clear ho hec hbr hak
    by_cases hlt : a < bs.length
    · have hlt2 : 0 < (bs.length : Int) - a := by omega
      obtain ⟨x, a', c, hF⟩ : ∃ x a' c, frm bs a 0 = (x, a', c) := ⟨_, _, _, rfl⟩
      have CF := fun W (hr : Rd W g bs a 0) (hE : ErrT W) => from_mid hr hby (by omega) hE
      rw [hF] at CF
      have KF := hid2 CF
      clear CF
      go_wp2_with fail
      refine (left_any hr).mono ?_
      rintro en w1 ⟨rfl, n1, rfl⟩
      have hr1 := hr.drewN n1
      have B1 := below_drewN wr n1 wr.heap.size
      have hE1 := hEr.below B1
      have ho1 := hid2 (own_below HO.out B1)
      have hec1 := hid2 (HEC.out.stays B1)
      have hbr1 := hid2 (HBR.out.trans (B1.mono HBR.out.size))
      clear HO HEC HBR hr hEr
      generalize wr.drewN n1 = w1 at *
      clear B1
      go_wp2_with fail
      refine (at_any hr1).mono ?_
      rintro en w1' ⟨rfl, hw⟩
      cases hw
      go_wp2_with fail
      refine (show Calls _ _ _ _ _ from KF.out _ hr1 hE1).mono ?_
      rintro en w2 ⟨q, d, rfl, hv2, hr2, hg2⟩
      have ho2 := hid2 (own_rd ho1.out hr1 hg2)
      have hec2 := hid2 (hec1.out.rd hr1 hg2)
      have hbr2 := hid2 (hbr1.out.grown hg2 hbr1.out.size (fun k hk => by cases hk; exact HGW.out))
      have hE2 := hE1.grown hr1 hg2
      clear KF hr1 hE1 hg2 ho1 hec1 hbr1
      go_wp2_with (refine st24 rfl (.tmp 7) (.tmp 17) rfl w2.heap.size rfl _ _ _ _ _ _ (heap_alloc_new w2 _) rfl rfl ⟨rfl, rfl, rfl, rfl, rfl⟩ ?_; intro w3 z3 y3; obtain ⟨⟨q0, q1, q2, q3, q4⟩, _⟩ := five24 z3; have hlt3 := lt_of_block z3)
      have X3 : Below w2.heap.size w2 w3 := ((Below.refl _ _).alloc (Nat.le_refl _) _).grown y3 (by simp) (fun k hk => by cases hk; exact Nat.le_refl _)
      have hr3 := hr2.keeps X3
      have hv3 := hid2 (hv2.stays X3)
      have ho3 := hid2 (own_below ho2.out X3)
      have hec3 := hid2 (hec2.out.stays X3)
      have hbr3 := hid2 (hbr2.out.trans (X3.mono hbr2.out.size))
      have hE3 := hE2.below X3
      clear y3 X3 hr2 hv2 ho2 hec2 hbr2 hE2
      refine (code_any hr3).mono ?_
      rintro en w3' ⟨rfl, hw⟩
      cases hw
      by_cases hc : c = 0
      · subst hc
        obtain ⟨i1, i2, i3, i4, i5⟩ := frm_inv hby hal hF
        have HN2 : Hid (readE bs = nxt (dn ++ [x]) (readF j bs a')) := by show _ = _; rw [HN.out, nxt_step dn hlt hF]
        have HI : Hid (a < a' ∧ a' ≤ bs.length) := ⟨i2, i3⟩
        clear hF HN i1 i2 i3 i4 i5
        have hO : (w3.alloc (.cells #[.string x.key, .int .i64 x.ver, .int .i64 x.asof, .int .i64 x.ends, .slice q x.val.length d] 39)).ownsRow w.heap.size 39 5 (.slice po dn.length co) dn.length cs := ho3.out.alloc _
        have X4 : Below w3.heap.size w3 (w3.alloc (.cells #[.string x.key, .int .i64 x.ver, .int .i64 x.asof, .int .i64 x.ends, .slice q x.val.length d] 39)) := by go_grown
        have HX4 := hid2 X4
        have HO4 := hid2 hO
        have hB4 := hbr3.out.trans (X4.mono hbr3.out.size)
        have hdn : dn.length ≤ 20000 := by omega
        clear X4 hO
        go_wp2_with (at_builtin; refine wpList_append_own _ rfl (.tmp 28) (.tmp 30) 23 rfl w.heap.size 39 i0 (.agg #[.string ByteArray.empty, .int .i64 0, .int .i64 0, .int .i64 0, .slice none 0 0]) 5 64 Tryd.underlying23 hi hz0 hz1 hz2 rfl (by decide) _ _ _ rfl HO4.out ⟨w3.heap.size, 0, none⟩ 1 1 [.string x.key, .int .i64 x.ver, .int .i64 x.asof, .int .i64 x.ends, .slice q x.val.length d] rfl rfl (cell_five_new _ _ _ _ _ _ _) (by intro x hx; simp at hx; rcases hx with rfl | rfl | rfl | rfl | rfl <;> rfl) (by unfold maxLen; omega) (by omega) hB4.size ?_; intro v5 w5 hown5 hgrow5 _)
        go_roundg j
        case measure => omega
        case rel =>
          have hr5 := (hr3.keeps HX4.out).row HO4.out hgrow5
          have hv5 := (hv3.out.stays HX4.out).row HO4.out hgrow5
          have hec5 := (hec3.out.stays HX4.out).keep (fun _ _ k => k.row HO4.out hgrow5)
          refine ⟨dn ++ [x], a', cs ++ [.string x.key, .int .i64 x.ver, .int .i64 x.asof, .int .i64 x.ends, .slice q x.val.length d], by rw [List.length_append]; exact hown5, hec5.snoc hv5, hr5, ?_, ?_, HN2, hB4.grown hgrow5 hB4.size (fun k hk => (HO4.out.lt k hk).1), ?_⟩
          · have := HAK.out; have := HI.out; omega
          · rw [List.length_append]; simp; have := HI.out; omega
          · have hE4 := hE3.below HX4.out
            unfold ErrT at hE4 ⊢
            have hl0 := lt_of_cell hE4
            have hne : some 0 ≠ (Value.slice po dn.length co).ownBlock := by intro e; have := (HO4.out.lt 0 e.symm).1; have := HP.out; omega
            rw [World.cell?_of_block (hgrow5.block 0 hl0 hne)]
            exact hE4
      · have HN2 : Hid (readE bs = ([], c)) := by show _ = _; rw [HN.out, nxt_bad dn hlt hF hc]
        have hd2 : (c != 0) = true := by simpa using hc
        clear hF HN
        go_wp2_with fail
        refine (new_code1 _ _ _ _).mono ?_
        rintro en w4 ⟨u4, rfl, hu4, B4⟩
        obtain ⟨p4, rfl⟩ := hu4.one hc
        go_wp2_with fail
        refine (wrap_code1 _ _ hu4).mono ?_
        rintro en w5 ⟨u5, rfl, hu5, B5⟩
        obtain ⟨p5, rfl⟩ := hu5.some hc
        go_wp2
        go_ret2
        refine ⟨_, _, rfl, ?_, ?_, ?_⟩
        · rw [HN2.out]; exact EsAt.nil _
        · rw [HN2.out]; exact hu5
        · exact hbr3.out.trans ((B4.trans (B5.mono B4.size)).mono hbr3.out.size)
    · have hlt2 : ¬ 0 < (bs.length : Int) - a := by omega
      have HN2 : Hid (readE bs = (dn, 0)) := by show _ = _; rw [HN.out, nxt_end dn hlt]
      clear HN
      go_wp2_with fail
      refine (left_any hr).mono ?_
      rintro en w1 ⟨rfl, n1, rfl⟩
      have B1 := below_drewN wr n1 wr.heap.size
      go_wp2
      go_ret2
      refine ⟨_, _, rfl, ?_, ?_, ?_⟩
      · rw [HN2.out]; exact (EsAt.own HO.out rfl HEC.out).stays B1
      · rw [HN2.out]; exact Fault.nil _
      · exact HBR.out.trans (B1.mono HBR.out.size)
end Go.Proofs.YtgmghekgelmmcaaDoor.Ite
