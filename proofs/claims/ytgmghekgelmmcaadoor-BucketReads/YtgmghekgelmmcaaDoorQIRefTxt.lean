/-
  Text of the document's reader.
-/
import Derived.Test.YtgmghekgelmmcaaDoorQIRefRd
namespace Go.Proofs.YtgmghekgelmmcaaDoor.Ite
open Go.RowKit

/-- The cells of a block. -/
theorem one_block {w : World} {g : Nat} {a0 a1 a2 : Value} (h : w.heap[g]? = some (.cells #[a0, a1, a2] 98 (0, 0))) :
    w.cell? ⟨g, 0, none⟩ = some a0 ∧ w.cell? ⟨g, 1, none⟩ = some a1 ∧ w.cell? ⟨g, 2, none⟩ = some a2 ∧ w.frozen? ⟨g, 1, none⟩ = false := by
  refine ⟨?_, ?_, ?_, ?_⟩ <;> simp [World.cell?, World.frozen?, h]

/-- The cells of two new blocks, behind whatever leaves them. -/
theorem two_blocks {w w1 : World} {a0 a1 a2 b0 b1 b2 : Value} (h : Below (w.heap.size + 2) ((w.alloc (.cells #[a0, a1, a2] 98)).alloc (.cells #[b0, b1, b2] 98)) w1) :
    w.heap.size < w1.heap.size ∧ w.heap.size + 1 < w1.heap.size ∧ w1.cell? ⟨w.heap.size, 0, none⟩ = some a0 ∧ w1.cell? ⟨w.heap.size, 1, none⟩ = some a1 ∧ w1.cell? ⟨w.heap.size, 2, none⟩ = some a2 ∧
    w1.cell? ⟨w.heap.size + 1, 0, none⟩ = some b0 ∧ w1.cell? ⟨w.heap.size + 1, 1, none⟩ = some b1 ∧ w1.cell? ⟨w.heap.size + 1, 2, none⟩ = some b2 ∧
    w1.frozen? ⟨w.heap.size + 1, 0, none⟩ = false ∧ w1.frozen? ⟨w.heap.size + 1, 1, none⟩ = false ∧ w1.frozen? ⟨w.heap.size + 1, 2, none⟩ = false := by
  have hs := h.size
  simp at hs
  have e0 : w1.heap[w.heap.size]? = some (.cells #[a0, a1, a2] 98 (0, 0)) := by
    rw [h.block w.heap.size (by omega), Below.heap_alloc _ _ _ (by simp), heap_alloc_new]
  have e1 : w1.heap[w.heap.size + 1]? = some (.cells #[b0, b1, b2] 98 (0, 0)) := by
    rw [h.block (w.heap.size + 1) (by omega)]
    have := heap_alloc_new (w.alloc (.cells #[a0, a1, a2] 98)) (.cells #[b0, b1, b2] 98)
    simpa using this
  refine ⟨by omega, by omega, ?_, ?_, ?_, ?_, ?_, ?_, ?_, ?_, ?_⟩ <;> simp [World.cell?, World.frozen?, e0, e1]

set_option maxHeartbeats 400000 in
set_option maxRecDepth 10000 in
theorem rtext_any {w : World} {b : Nat} {p : Option Addr} {cap a : Nat} {bs : List Int} {code : Int} (most : Int) (h0 : 0 ≤ most) (h1 : most ≤ 9223372036854775807) (h : SlAt w b (.slice p bs.length cap) (U bs)) (hby : Byt bs) (ha : a ≤ bs.length) (hl : bs.length ≤ 30000) :
    Calls Tryd.prog 75 #[.agg #[.slice p bs.length cap, .int .i64 a, .int .i64 code], .int .i64 most] w fun e w' =>
      ∃ sv tb, e = .returned (.tuple #[.agg #[.slice p bs.length cap, .int .i64 (rdTxt bs a code most).2.1, .int .i64 (rdTxt bs a code most).2.2], sv]) ∧ SlAt w' tb sv (U (rdTxt bs a code most).1) ∧ (w.heap.size ≤ tb ∧ T5 w' tb (U (rdTxt bs a code most).1)) ∧ Below w.heap.size w w' := by
  obtain ⟨p', cap', hu, hc1, hc2⟩ := h.form
  simp only [Value.slice.injEq] at hu
  obtain ⟨rfl, hx, rfl⟩ := hu
  rw [U_length] at hc1
  unfold maxLen at hc2
  clear hx
  have hat := rdNum_at bs a code most
  have hok := rdNum_ok bs a code most h1 hby ha
  have hB0 : Below w.heap.size w ((w.alloc (.cells #[.slice p bs.length cap, .int .i64 a, .int .i64 code] 98)).alloc (.cells #[.slice none 0 0, .int .i64 0, .int .i64 0] 98)) := by go_grown
  have C21 := rnumber_any (code := code) most h0 h1 (h.stays hB0) hby ha hl
  obtain ⟨n, a1, c, hR⟩ : ∃ n a1 c, rdNum bs a code most = (n, a1, c) := ⟨_, _, _, rfl⟩
  have hT : rdTxt bs a code most = if c = 0 then (if (bs.length : Int) - a1 < n then ([], a, 6) else ((bs.take (a1 + n.toNat)).drop a1, a1 + n.toNat, 0)) else ([], a, c) := by unfold rdTxt; rw [hR]
  have hcz : c = 0 → code = 0 := by
    intro hc
    subst hc
    unfold rdNum at hR
    by_cases hz : code = 0
    · exact hz
    · rw [if_neg hz] at hR; simp at hR; exact absurd hR.2.2 hz
  rw [hR] at C21 hat hok
  simp only at hat hok
  have K21 : Hid (Calls Tryd.prog 76 #[.agg #[.slice p bs.length cap, .int .i64 a, .int .i64 code], .int .i64 most] ((w.alloc (.cells #[.slice p bs.length cap, .int .i64 a, .int .i64 code] 98)).alloc (.cells #[.slice none 0 0, .int .i64 0, .int .i64 0] 98)) fun e w' =>
      e = .returned (.tuple #[.agg #[.slice p bs.length cap, .int .i64 a1, .int .i64 c], .int .i64 n]) ∧ Below (w.heap.size + 2) ((w.alloc (.cells #[.slice p bs.length cap, .int .i64 a, .int .i64 code] 98)).alloc (.cells #[.slice none 0 0, .int .i64 0, .int .i64 0] 98)) w') := C21.mono fun e w' ⟨k1, k2⟩ => ⟨k1, k2.mono (by simp)⟩
  clear C21 hR
  by_cases hc : c = 0
  · subst hc
    rw [if_pos rfl] at hT
    have hcode := hcz rfl
    subst hcode
    obtain ⟨hn0, hn1, ha1, ha2⟩ := hok rfl
    clear hok hat hcz
    by_cases hbig : (bs.length : Int) - a1 < n
    · rw [if_pos hbig] at hT
      rw [hT]
      clear hT
      go_enter Tryd.func75, Tryd.ntmps75
      go_wp2_with (first
        | (go_at_call 76; refine (show Calls _ _ _ _ _ from K21).mono ?_; rintro e w1 ⟨rfl, hb1⟩; obtain ⟨z0, z1, y0, y1, y2, x0, x1, x2, f0, f1, f2⟩ := two_blocks hb1)
        | (go_at_call 83; refine (rfail_zero _ _ _ _ _ _).mono ?_; rintro e w2 ⟨rfl, hb2⟩; obtain ⟨z0', z1', y0', y1', y2', x0', x1', x2', f0', f1', f2'⟩ := two_blocks ((hb1.alloc (by omega) _).trans (hb2.mono (by simp; omega)))))
      have hB1 : Below w.heap.size w w1 := hB0.trans (hb1.mono (by omega))
      refine bodyPost_ret (v := .tuple #[.agg #[.slice p bs.length cap, .int .i64 a, .int .i64 6], .slice none 0 0]) (by simp [results, Tryd.results75, go_sem, x0', x1', x2']) rfl ⟨_, w.heap.size, rfl, SlAt.nil _ _, ⟨Nat.le_refl _, .inl rfl⟩, ?_⟩
      exact below_store3 ((hB1.alloc hB1.size _).trans (hb2.mono (by simp; omega))) (by omega) _ _ _
    · rw [if_neg hbig] at hT
      rw [hT]
      clear hT
      obtain ⟨m, rfl⟩ := Int.eq_ofNat_of_zero_le hn0
      have ha3 : a1 + m ≤ bs.length := by omega
      rw [Int.toNat_natCast]
      have hlen : ((bs.take (a1 + m)).drop a1).length ≤ 30000 := by rw [List.length_drop, List.length_take]; omega
      have hS := fun (w2 : World) (hb : Below w.heap.size w w2) => (h.stays hb).cutU a1 (a1 + m) (by omega) ha3
      have hSh : Hid (∀ w2, Below w.heap.size w w2 → SlAt w2 b (.slice (if cap = a1 then p else p.map (·.add a1)) (a1 + m - a1) (cap - a1)) (U ((bs.take (a1 + m)).drop a1))) := hS
      clear hS
      generalize hts : (bs.take (a1 + m)).drop a1 = ts at hlen hSh ⊢
      clear hts
      have hai : (a1 : Int) + m ≤ cap := by omega
      by_cases hcap : cap = a1
      · have hm0 : m = 0 := by omega
        subst hm0
        subst hcap
        have hSl : ∀ w2, Below w.heap.size w w2 → SlAt w2 b (.slice p 0 0) (U ts) := by
          intro w2 hb2
          have := hSh.out w2 hb2
          simpa using this
        go_enter Tryd.func75, Tryd.ntmps75
        go_wp2_with (first
          | (go_at_call 76; refine (show Calls _ _ _ _ _ from K21).mono ?_; rintro e w1 ⟨rfl, hb1⟩; obtain ⟨z0, z1, y0, y1, y2, x0, x1, x2, f0, f1, f2⟩ := two_blocks hb1)
          | (at_builtin; refine wpList_append_sl _ rfl _ _ rfl (w1.heap.size + 1) (.slice none 0 0) 0 [] rfl (World.ownsRow_nil _ _ _ _) b _ ts rfl (hSl _ ((hB0.trans (hb1.mono (by omega))).alloc (by omega) _)) (by omega) (by simp) ?_; intro v3 w3 hown3 hgrow3; obtain ⟨z0', z1', y0', y1', y2', x0', x1', x2', f0', f1', f2'⟩ := two_blocks ((hb1.alloc (by omega) _).grown hgrow3 (by simp; omega) (by simp [Value.ownBlock])); obtain ⟨r0, r1, r2, g1⟩ := one_block ((hgrow3.block w1.heap.size (by simp) (by simp [Value.ownBlock])).trans (heap_alloc_new w1 _))))
        have hB1 : Below w.heap.size w w1 := hB0.trans (hb1.mono (by omega))
        rw [Nat.zero_add, List.nil_append] at hown3
        obtain ⟨tb, ht1, ht2, ht5⟩ := own_sl5 hown3
        obtain ⟨tb', ht3, ht4, ht6⟩ : ∃ tb', w1.heap.size + 1 ≤ tb' ∧ SlAt w3 tb' v3 (U ts) ∧ T5 w3 tb' (U ts) := ⟨tb, ht1, ht2, ht5⟩
        have hB3 : Below w.heap.size w w3 := (hB1.alloc hB1.size _).grown hgrow3 (by simp; omega) (by simp [Value.ownBlock])
        refine bodyPost_ret (v := .tuple #[.agg #[.slice p bs.length cap, .int .i64 (cap + 0 : Nat), .int .i64 0], v3]) (by simp [results, Tryd.results75, go_sem, x0', x1', x2']) rfl ⟨_, tb', rfl, ?_, ⟨by omega, ht6.keeps (fun _ => by rw [Below.heap_setCell _ _ _ _ (by simp; omega), Below.heap_setCell _ _ _ _ (by simp; omega), Below.heap_setCell _ _ _ _ (by simp; omega), Below.heap_setCell _ _ _ _ (by simp; omega)])⟩, ?_⟩
        · exact ht4.keeps (by simp [World.setCell]) (fun _ => by rw [Below.heap_setCell _ _ _ _ (by simp; omega), Below.heap_setCell _ _ _ _ (by simp; omega), Below.heap_setCell _ _ _ _ (by simp; omega), Below.heap_setCell _ _ _ _ (by simp; omega)])
        · exact below_store3 (hB3.setCell (by simp; omega) _) (by omega) _ _ _
      · have hSl : ∀ w2, Below w.heap.size w w2 → SlAt w2 b (.slice (p.map fun x => x.add a1) (a1 + m - a1) (cap - a1)) (U ts) := by
          intro w2 hb2
          have := hSh.out w2 hb2
          rwa [if_neg hcap] at this
        go_enter Tryd.func75, Tryd.ntmps75
        go_wp2_with (first
          | (go_at_call 76; refine (show Calls _ _ _ _ _ from K21).mono ?_; rintro e w1 ⟨rfl, hb1⟩; obtain ⟨z0, z1, y0, y1, y2, x0, x1, x2, f0, f1, f2⟩ := two_blocks hb1)
          | (at_builtin; refine wpList_append_sl _ rfl _ _ rfl (w1.heap.size + 1) (.slice none 0 0) 0 [] rfl (World.ownsRow_nil _ _ _ _) b _ ts rfl (hSl _ ((hB0.trans (hb1.mono (by omega))).alloc (by omega) _)) (by omega) (by simp) ?_; intro v3 w3 hown3 hgrow3; obtain ⟨z0', z1', y0', y1', y2', x0', x1', x2', f0', f1', f2'⟩ := two_blocks ((hb1.alloc (by omega) _).grown hgrow3 (by simp; omega) (by simp [Value.ownBlock])); obtain ⟨r0, r1, r2, g1⟩ := one_block ((hgrow3.block w1.heap.size (by simp) (by simp [Value.ownBlock])).trans (heap_alloc_new w1 _))))
        have hB1 : Below w.heap.size w w1 := hB0.trans (hb1.mono (by omega))
        rw [Nat.zero_add, List.nil_append] at hown3
        obtain ⟨tb, ht1, ht2, ht5⟩ := own_sl5 hown3
        obtain ⟨tb', ht3, ht4, ht6⟩ : ∃ tb', w1.heap.size + 1 ≤ tb' ∧ SlAt w3 tb' v3 (U ts) ∧ T5 w3 tb' (U ts) := ⟨tb, ht1, ht2, ht5⟩
        have hB3 : Below w.heap.size w w3 := (hB1.alloc hB1.size _).grown hgrow3 (by simp; omega) (by simp [Value.ownBlock])
        refine bodyPost_ret (v := .tuple #[.agg #[.slice p bs.length cap, .int .i64 (a1 + m : Nat), .int .i64 0], v3]) (by simp [results, Tryd.results75, go_sem, x0', x1', x2']) rfl ⟨_, tb', rfl, ?_, ⟨by omega, ht6.keeps (fun _ => by rw [Below.heap_setCell _ _ _ _ (by simp; omega), Below.heap_setCell _ _ _ _ (by simp; omega), Below.heap_setCell _ _ _ _ (by simp; omega), Below.heap_setCell _ _ _ _ (by simp; omega)])⟩, ?_⟩
        · exact ht4.keeps (by simp [World.setCell]) (fun _ => by rw [Below.heap_setCell _ _ _ _ (by simp; omega), Below.heap_setCell _ _ _ _ (by simp; omega), Below.heap_setCell _ _ _ _ (by simp; omega), Below.heap_setCell _ _ _ _ (by simp; omega)])
        · exact below_store3 (hB3.setCell (by simp; omega) _) (by omega) _ _ _
  · rw [if_neg hc] at hT
    have ha1 := hat hc
    subst ha1
    rw [hT]
    clear hT hat hok hcz
    go_enter Tryd.func75, Tryd.ntmps75
    go_wp2_with (go_at_call 76; refine (show Calls _ _ _ _ _ from K21).mono ?_; rintro e w1 ⟨rfl, hb1⟩; obtain ⟨z0, z1, y0, y1, y2, x0, x1, x2, f0, f1, f2⟩ := two_blocks hb1)
    have hB1 : Below w.heap.size w w1 := hB0.trans (hb1.mono (by omega))
    refine bodyPost_ret (v := .tuple #[.agg #[.slice p bs.length cap, .int .i64 a1, .int .i64 c], .slice none 0 0]) (by simp [results, Tryd.results75, go_sem, x0, x1, x2, z1]) rfl ⟨_, w.heap.size, rfl, SlAt.nil _ _, ⟨Nat.le_refl _, .inl rfl⟩, ?_⟩
    exact (below_store3 (blk := w.heap.size + 1) hB1 (by omega) _ _ _).alloc (by have := hB1.size; simpa using this) _
end Go.Proofs.YtgmghekgelmmcaaDoor.Ite
