/-
  Read of the document: the entries that bytes are.
-/
import Derived.Test.YtgmghekgelmmcaaDoorQIReadE
import Derived.Test.YtgmghekgelmmcaaDoorQIRFrom
namespace Go.Proofs.YtgmghekgelmmcaaDoor.Ite
open Go.RowKit

/-- Two blocks made and written are new. -/
theorem made2_below {w w1 w2 : World} {o o' : Obj} (h1 : ((w.alloc o).alloc o').grownBy w1 (some w.heap.size)) (h2 : w1.grownBy w2 (some (w.heap.size + 1))) : Below w.heap.size w w2 := by
  have B : Below w.heap.size w ((w.alloc o).alloc o') := by go_grown
  exact (B.grown h1 B.size (fun k hk => by cases hk; exact Nat.le_refl _)).grown h2 (Nat.le_trans B.size h1.size) (fun k hk => by cases hk; omega)

set_option maxHeartbeats 2000000 in
set_option maxRecDepth 10000 in
theorem rread_ents {w : World} {b : Nat} {p : Option Addr} {cap : Nat} {bs : List Int} (h : SlAt w b (.slice p bs.length cap) (U bs)) (hby : Byt bs) (hl : bs.length ≤ 20000) :
    Calls Tryd.prog 31 #[.slice p bs.length cap] w fun en w' => ∃ rv, en = .returned (.tuple #[rv, .int .i64 (readE bs).2]) ∧ EsAt w' rv (readE bs).1 ∧ Below w.heap.size w w' := by
  obtain ⟨i0, hi, hz0, hz1, hz2⟩ := Tryd.info39
  have HS := hid2 h
  clear h
  go_enter Tryd.func31, Tryd.ntmps31
  go_wp2_with (refine st52 rfl (.tmp 4) (.tmp 9) rfl w.heap.size rfl _ _ _ _ (heap_alloc_new w _) rfl rfl ⟨rfl, rfl, rfl⟩ ?_; intro w0 z0 y0)
  have hb0 : Below w.heap.size w w0 := made_below y0
  go_loopg [5] (bs.length + 1) (fun k l wr => ∃ dn a cs, wr.ownsRow w.heap.size 39 5 l dn.length cs ∧ EC wr dn cs ∧ wr.heap[w.heap.size]? = some (.cells #[.slice p bs.length cap, .int .i64 (a : Nat), .int .i64 0] 98 (0, 0)) ∧ a ≤ bs.length ∧ bs.length - a < k ∧ dn.length ≤ a ∧ Hid (readE bs = nxt dn (readF k bs a)) ∧ Below w.heap.size w wr)
  case atStart => exact ⟨[], 0, [], World.ownsRow_nil _ _ _ _, rfl, z0, Nat.zero_le _, by omega, Nat.le_refl _, nxt_nil _ _ _, hb0⟩
  case round =>
    clear z0 y0 hb0
    obtain ⟨dn, a, cs, ho, hec, hr, hal, hak, hda, HN, hbr⟩ := hrel
    obtain ⟨j, rfl⟩ : ∃ j, gk = j + 1 := ⟨gk - 1, by omega⟩
    obtain ⟨po, co, hfo⟩ := own_len ho
    subst hfo
    have HO := hid2 ho
    have HEC := hid2 hec
    have HBR := hid2 hbr
    have HAK := hid2 hak
    have HR := hid2 hr
    obtain ⟨⟨r0, r1, r2⟩, _⟩ := three52 hr
    have hltr := lt_of_block hr
    clear ho hec hbr hak hr
    by_cases hlt : a < bs.length
    · have hlt2 : (a : Int) < (bs.length : Int) := by omega
      obtain ⟨x, a', c, hF⟩ : ∃ x a' c, frm bs a 0 = (x, a', c) := ⟨_, _, _, rfl⟩
      have CF := fun W (hs : SlAt W b (.slice p bs.length cap) (U bs)) => rfrom_any (code := 0) hs hby hal (by omega)
      rw [hF] at CF
      have KF := hid2 CF
      clear CF
      go_wp2_with fail
      refine (show Calls _ _ _ _ _ from KF.out _ (HS.out.stays HBR.out)).mono ?_
      rintro en w2 ⟨q, d, rfl, hv2, B2⟩
      have ho2 := hid2 (own_below HO.out B2)
      have hec2 := hid2 (HEC.out.stays B2)
      have hbr2 := hid2 (HBR.out.trans (B2.mono HBR.out.size))
      have hr2 := hid2 (heap_stays HR.out B2)
      have hv2 := hid2 hv2
      have ha52 : ((w2.alloc (.cells #[.slice none 0 0, .int .i64 0, .int .i64 0] 98)).alloc (.cells #[.string ⟨#[]⟩, .int .i64 0, .int .i64 0, .int .i64 0, .slice none 0 0] 39)).heap[w2.heap.size]? = some (.cells #[.slice none 0 0, .int .i64 0, .int .i64 0] 98 (0, 0)) := by rw [Below.heap_alloc _ _ _ (by simp)]; exact heap_alloc_new w2 _
      have ha24 : ((w2.alloc (.cells #[.slice none 0 0, .int .i64 0, .int .i64 0] 98)).alloc (.cells #[.string ⟨#[]⟩, .int .i64 0, .int .i64 0, .int .i64 0, .slice none 0 0] 39)).heap[w2.heap.size + 1]? = some (.cells #[.string ⟨#[]⟩, .int .i64 0, .int .i64 0, .int .i64 0, .slice none 0 0] 39 (0, 0)) := by
        have := heap_alloc_new (w2.alloc (.cells #[.slice none 0 0, .int .i64 0, .int .i64 0] 98)) (.cells #[.string ⟨#[]⟩, .int .i64 0, .int .i64 0, .int .i64 0, .slice none 0 0] 39)
        rw [show (w2.alloc (.cells #[.slice none 0 0, .int .i64 0, .int .i64 0] 98)).heap.size = w2.heap.size + 1 by simp] at this
        exact this
      clear KF HO HEC HBR HR r0 r1 r2 hltr B2
      by_cases hc : c = 0
      · subst hc
        obtain ⟨i1, i2, i3, i4, i5⟩ := frm_inv hby hal hF
        have HN2 : Hid (readE bs = nxt (dn ++ [x]) (readF j bs a')) := by show _ = _; rw [HN.out, nxt_step dn hlt hF]
        have HI : Hid (a < a' ∧ a' ≤ bs.length) := ⟨i2, i3⟩
        clear hF HN i1 i2 i3 i4 i5
        go_wp2_with (first
          | (refine st52 rfl (.tmp 6) (.tmp 18) rfl w2.heap.size rfl _ _ _ _ ha52 rfl rfl ⟨rfl, rfl, rfl⟩ ?_; intro w3 z3 y3; have ha24' := heap_grownBy ha24 y3 (by omega))
          | (refine st24 rfl (.tmp 7) (.tmp 19) rfl (w2.heap.size + 1) rfl _ _ _ _ _ _ ha24' rfl rfl ⟨rfl, rfl, rfl, rfl, rfl⟩ ?_; intro w4 z4 y4; have X4 := made2_below y3 y4; have z34 := heap_grownBy z3 y4 (by omega); obtain ⟨⟨q0, q1, q2⟩, _⟩ := three52 z34; have hlt3 := lt_of_block z34; have hr4 := heap_stays hr2.out X4)
          | (refine st52 rfl (.tmp 4) (.tmp 25) rfl w.heap.size rfl _ _ _ _ hr4 rfl rfl ⟨rfl, rfl, rfl⟩ ?_; intro w5 z5 y5; have z45 := heap_grownBy z4 y5 (by have := lt_of_block hr2.out; omega); obtain ⟨⟨p0, p1, p2, p3, p4⟩, _⟩ := five24 z45; have hlt5 := lt_of_block z45; have ho4 := own_below ho2.out X4; have ho5 := ho4.kept y5 (.inr (own_ne ho4 hr4 (by decide))); have HO5 := hid2 (ho5.alloc (.cells #[.string x.key, .int .i64 x.ver, .int .i64 x.asof, .int .i64 x.ends, .slice q x.val.length d] 39)); have B04 := hbr2.out.trans (X4.mono hbr2.out.size); have B05 := B04.grown y5 B04.size (fun k hk => by cases hk; exact Nat.le_refl _); have X6 : Below w5.heap.size w5 (w5.alloc (.cells #[.string x.key, .int .i64 x.ver, .int .i64 x.asof, .int .i64 x.ends, .slice q x.val.length d] 39)) := (by go_grown); have hB6 := B05.trans (X6.mono B05.size); have hdn : dn.length ≤ 20000 := (by omega); clear ho4 ho5)
          | (at_builtin; refine wpList_append_own _ rfl (.tmp 26) (.tmp 28) 23 rfl w.heap.size 39 i0 (.agg #[.string ByteArray.empty, .int .i64 0, .int .i64 0, .int .i64 0, .slice none 0 0]) 5 64 Tryd.underlying23 hi hz0 hz1 hz2 rfl (by decide) _ _ _ rfl HO5.out ⟨w5.heap.size, 0, none⟩ 1 1 [.string x.key, .int .i64 x.ver, .int .i64 x.asof, .int .i64 x.ends, .slice q x.val.length d] rfl rfl (cell_five_new _ _ _ _ _ _ _) (by intro x hx; simp at hx; rcases hx with rfl | rfl | rfl | rfl | rfl <;> rfl) (by unfold maxLen; omega) (by omega) hB6.size ?_; intro v7 w7 hown7 hgrow7 _))
        go_roundg j
        case measure => omega
        case rel =>
          have hv5 := ((hv2.out.stays X4).grown y5 hr4 (by decide)).stays X6
          have hec5 := ((hec2.out.stays X4).keep (fun _ _ k => k.grown y5 hr4 (by decide))).stays X6
          have hz6 := heap_stays z5 X6
          have hz7 := (hgrow7.block w.heap.size (lt_of_block hz6) (Ne.symm (own_ne HO5.out hz6 (by decide)))).trans hz6
          refine ⟨dn ++ [x], a', cs ++ [.string x.key, .int .i64 x.ver, .int .i64 x.asof, .int .i64 x.ends, .slice q x.val.length d], by rw [List.length_append]; exact hown7, (hec5.keep (fun _ _ k => k.row HO5.out hgrow7)).snoc (hv5.row HO5.out hgrow7), hz7, HI.out.2, ?_, ?_, HN2, hB6.grown hgrow7 hB6.size (fun k hk => (HO5.out.lt k hk).1)⟩
          · have := HAK.out; have := HI.out; omega
          · rw [List.length_append]; simp; have := HI.out; omega
      · have HN2 : Hid (readE bs = ([], c)) := by show _ = _; rw [HN.out, nxt_bad dn hlt hF hc]
        have hd2 : (c != 0) = true := by simpa using hc
        clear hF HN
        go_wp2_with (first
          | (refine st52 rfl (.tmp 6) (.tmp 18) rfl w2.heap.size rfl _ _ _ _ ha52 rfl rfl ⟨rfl, rfl, rfl⟩ ?_; intro w3 z3 y3; have ha24' := heap_grownBy ha24 y3 (by omega))
          | (refine st24 rfl (.tmp 7) (.tmp 19) rfl (w2.heap.size + 1) rfl _ _ _ _ _ _ ha24' rfl rfl ⟨rfl, rfl, rfl, rfl, rfl⟩ ?_; intro w4 z4 y4; have X4 := made2_below y3 y4; have z34 := heap_grownBy z3 y4 (by omega); obtain ⟨⟨q0, q1, q2⟩, _⟩ := three52 z34; have hlt3 := lt_of_block z34))
        go_quiet (fail)
        go_wp2
        go_ret2
        refine ⟨.slice none 0 0, ?_, ?_, ?_⟩
        · rw [HN2.out]; rfl
        · rw [HN2.out]; exact EsAt.nil _
        · exact (hbr2.out.trans (X4.mono hbr2.out.size)).trans (below_drewN _ _ _)
    · have hlt2 : ¬ (a : Int) < (bs.length : Int) := by omega
      have HN2 : Hid (readE bs = (dn, 0)) := by show _ = _; rw [HN.out, nxt_end dn hlt]
      clear HN
      go_wp2
      go_ret2
      refine ⟨.slice po dn.length co, ?_, ?_, HBR.out⟩
      · rw [HN2.out]; rfl
      · rw [HN2.out]; exact EsAt.own HO.out rfl HEC.out
end Go.Proofs.YtgmghekgelmmcaaDoor.Ite
