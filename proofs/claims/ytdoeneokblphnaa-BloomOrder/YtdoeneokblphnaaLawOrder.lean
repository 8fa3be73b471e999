/-
  The walk of the law BloomOrder.
-/
import Derived.Test.YtdoeneokblphnaaLawFilters
import Derived.Deep.RegionHeld3
namespace Go.Proofs.Ytdoeneokblphnaa
open Go.RowKit

/-- The keys from a place on, the last one first, each twice. -/
def tw (l : List ByteArray) (k : Nat) : List ByteArray := (l.drop k).reverse.flatMap fun x => [x, x]
theorem tw_step {l : List ByteArray} {k : Nat} {x : ByteArray} (h : l[k]? = some x) : tw l k = tw l (k + 1) ++ [x, x] := by
  obtain ⟨hl, rfl⟩ := List.getElem?_eq_some_iff.1 h
  unfold tw
  rw [List.drop_eq_getElem_cons hl, List.reverse_cons, List.flatMap_append]
  simp
theorem tw_end (l : List ByteArray) : tw l l.length = [] := by simp [tw]
theorem tw_mem (l : List ByteArray) (x : ByteArray) : x ∈ tw l 0 ↔ x ∈ l := by simp [tw]
theorem twice_length (l : List ByteArray) : (l.flatMap fun x => [x, x]).length = 2 * l.length := by
  induction l with
  | nil => rfl
  | cons x r ih => rw [List.flatMap_cons, List.length_append, ih, List.length_cons]; simp; omega
theorem tw_length (l : List ByteArray) (k : Nat) : (tw l k).length = 2 * (l.length - k) := by
  unfold tw
  rw [twice_length, List.length_reverse, List.length_drop]
theorem tw_of (l : List ByteArray) : ofF (hs (tw l 0)) = ofF (hs l) := by
  refine ofF_same (fun x => ?_)
  unfold hs
  rw [List.mem_map, List.mem_map]
  constructor
  · rintro ⟨s, h1, h2⟩; exact ⟨s, (tw_mem l s).1 h1, h2⟩
  · rintro ⟨s, h1, h2⟩; exact ⟨s, (tw_mem l s).2 h1, h2⟩

set_option maxHeartbeats 4000000 in
set_option maxRecDepth 10000 in
theorem order_any {w : World} {bl0 : Nat} {v : Value} {l : List ByteArray} (hl : SlAt w bl0 v (S l)) (hlk : ∀ k ∈ l, k.size ≤ maxLen) :
    Calls Try.prog 6 #[v] w fun e w' => e = .returned (.bool true) ∧ Below w.heap.size w w' := by
  have KW := hid2 (works_any w)
  have S1 := hid2 (short_any hl hlk)
  cases h1 : shortB l
  · rw [h1] at S1
    clear h1
    go_enter Try.func6, Try.ntmps6
    go_wp2_with fail
    refine (show Calls _ _ _ _ _ from S1.out).mono ?_
    rintro e w1 ⟨rfl, hw⟩
    cases hw
    go_wp2_with fail
    refine (show Calls _ _ _ _ _ from KW.out).mono ?_
    rintro e w1 ⟨rfl, hw⟩
    go_wp2
    go_ret
    exact ⟨rfl, hw⟩
  · have l60 := short_len h1
    have lk : Hid (∀ k ∈ l, k.size ≤ 200) := fun k hk => by
      obtain ⟨i, hi⟩ := List.mem_iff_getElem?.1 hk
      exact short_key h1 hi
    rw [h1] at S1
    obtain ⟨fx, fy, hf⟩ := pair_split (ofF (hs l))
    have wf := wide_ofF (hs l)
    have ht := tw_of l
    rw [hf] at wf ht
    have HF := hid2 hf
    have HL := hid2 hl
    have hx1 : fx < 18446744073709551616 := wf.1
    have hy1 : fy < 18446744073709551616 := wf.2
    have KO : Hid (∀ (W : World) {b : Nat} {u : Value}, SlAt W b u (S (tw l 0)) → Calls Try.prog 17 #[u] W fun e w' => e = .returned (.agg #[.int .u64 (fx : Int), .int .u64 (fy : Int)]) ∧ Below W.heap.size W w') :=
      fun W _ _ h => of_any h (fun k hk => lk.out k ((tw_mem l k).1 hk)) (by rw [tw_length l 0]; omega) ht
    have KB0 := fun W => both_any W fx fy fx fy hx1 hy1 hx1 hy1
    rw [Nat.or_self, Nat.or_self] at KB0
    have KB := hid2 KB0
    have he := eq33 (fx : Int) (fy : Int) (fx : Int) (fy : Int)
    rw [show (((fx : Int) == (fx : Int)) && ((fy : Int) == (fy : Int))) = true by simp] at he
    have HE := hid2 he
    obtain ⟨p, cap, hu, hc1, hc2, hel⟩ := hl.each
    rw [S_length] at hu hc1
    unfold maxLen at hc2
    subst hu
    have EL : Hid (∀ (k : Nat) (x : ByteArray), l[k]? = some x → ∃ off, p = some ⟨bl0, off, none⟩ ∧ bl0 < w.heap.size ∧ w.cell? ⟨bl0, off + k, none⟩ = some (.string x)) := fun k x hx => hel k _ (S_at hx)
    obtain ⟨i0, hi, hz0, hz1, hz2⟩ := elem9
    clear h1 wf ht hf hl hlk KW hel KB0 he
    go_enter Try.func6, Try.ntmps6
    go_wp2_with fail
    refine (show Calls _ _ _ _ _ from S1.out).mono ?_
    rintro e w1 ⟨rfl, hw⟩
    cases hw
    clear S1
    go_wp2_with fail
    go_loopg [3, 4] l.length (fun g out i wr => g ≤ l.length ∧ i = .int .i64 ((g : Int) - 1) ∧ wr.ownsRow w.heap.size 9 1 out (2 * (l.length - g)) (S (tw l g)) ∧ Below w.heap.size w wr)
    case atStart =>
      refine ⟨Nat.le_refl _, rfl, ?_, Below.refl _ _⟩
      rw [tw_end, Nat.sub_self]
      exact World.ownsRow_nil w w.heap.size 9 1
    case round =>
      obtain ⟨hg, rfl, ho, hbr⟩ := hrel
      have hsz := hbr.size
      rcases gk with _ | k
      · obtain ⟨bt, _, ht⟩ := own_sl ho
        have HT0 := hid2 ht
        have HBR := hid2 hbr
        clear ho ht
        go_wp2_with fail
        refine (of_any (HL.out.stays HBR.out) lk.out (by omega) HF.out).mono ?_
        rintro e w2 ⟨rfl, B2⟩
        have A2 : Below w2.heap.size w2 (w2.alloc (.cells #[.int .u64 (fx : Int), .int .u64 (fy : Int)] 33)) := by go_grown
        have D0 := B2.trans (A2.mono B2.size)
        have HB8 := hid2 (HBR.out.trans (D0.mono HBR.out.size))
        have HT := hid2 (HT0.out.stays D0)
        have z8 := heap_alloc_new w2 (.cells #[.int .u64 (fx : Int), .int .u64 (fy : Int)] 33)
        have he := HE.out
        have HZ := hid2 z8
        clear A2 D0 HT0 HBR hbr B2 z8
        go_wp2_with fail
        obtain ⟨w8, hw8⟩ : ∃ w8, w8 = w2.alloc (.cells #[.int .u64 (fx : Int), .int .u64 (fy : Int)] 33) := ⟨_, rfl⟩
        obtain ⟨tb, htb⟩ : ∃ tb, tb = w2.heap.size := ⟨_, rfl⟩
        rw [← hw8] at HB8 HT HZ ⊢
        rw [← htb] at HZ ⊢
        have HS8 : Hid (w8.drew.heap[tb]? = some (.cells #[.int .u64 (fx : Int), .int .u64 (fy : Int)] 33 (0, 0))) := HZ.out
        clear hw8 htb HZ
        refine wp_region_held_drew (S := fun W => W.heap[tb]? = some (.cells #[.int .u64 (fx : Int), .int .u64 (fy : Int)] 33 (0, 0))) (by kernel_rfl) (HS8.out) (fun hS => ?_)
        change wpAnyH _ _ _ _ _ _ _ _ (World.drew _)
        have D8 : Below w8.heap.size w8 (World.drew w8) := (Below.refl _ _).drew
        refine wpAnyH_take (i := 0) (v := .agg #[.int .u64 (fx : Int), .int .u64 (fy : Int)]) rfl (by kernel_rfl) (by kernel_rfl) (by kernel_rfl) (fun _ _ _ h => h) (Or.inl ⟨by kernel_rfl, ?_⟩) hS ?_
        · intro w hw
          obtain ⟨⟨e0, e1⟩, _⟩ := two33 hw
          have e2 := lt_of_block hw
          go_simp
        change wpAnyH _ _ _ _ _ _ _ (Act.put _ (some 30) _) _
        simp only [Act.put, List.setIfInBounds_toArray, List.set_cons_succ, List.set_cons_zero]
        refine wpAnyH_take (i := 1) (v := u3) rfl (by kernel_rfl) (by kernel_rfl) (by kernel_rfl) (fun _ _ _ h => h) (Or.inl ⟨by kernel_rfl, ?_⟩) hS ?_
        · intro w hw; clear hw; go_simp
        change wpAnyH _ _ _ _ _ _ _ (Act.put _ (some 31) _) _
        simp only [Act.put, List.setIfInBounds_toArray, List.set_cons_succ, List.set_cons_zero]
        refine wpAnyH_ready (rs := [2]) (by kernel_rfl) (by simp) ?_
        refine AllReadyH.cons rfl (fun K hK => ?_) AllReadyH.nil
        go_simp
        go_wp2_with (go_at_call 17; refine (show Calls _ _ _ _ _ from KO.out _ (HT.out.stays D8)).mono ?_; rintro en w9 ⟨rfl, B9⟩)
        have D9 := D8.trans (B9.mono D8.size)
        refine hK.out _ _ (heap_stays hS B9) (fun hS => ?_)
        clear hK K
        skip
        refine wpAnyH_take (i := 3) (v := .bool true) rfl (by kernel_rfl) (by kernel_rfl) (by kernel_rfl) (fun _ _ _ h => h) (Or.inl ⟨by kernel_rfl, ?_⟩) hS ?_
        · intro w hw; clear hw; go_simp
        change wpAnyH _ _ _ _ _ _ _ (Act.put _ (some 33) _) _
        simp only [Act.put, List.setIfInBounds_toArray, List.set_cons_succ, List.set_cons_zero]
        refine wpAnyH_take (i := 4) (v := .bool true) rfl (by kernel_rfl) (by kernel_rfl) (by kernel_rfl) (fun _ _ _ h => h) (Or.inl ⟨by kernel_rfl, ?_⟩) hS ?_
        · intro w hw; clear hw; go_simp
        change wpAnyH _ _ _ _ _ _ _ (Act.put _ (some 34) _) _
        simp only [Act.put, List.setIfInBounds_toArray, List.set_cons_succ, List.set_cons_zero]
        refine wpAnyH_take (i := 5) (v := .agg #[.int .u64 (fx : Int), .int .u64 (fy : Int)]) rfl (by kernel_rfl) (by kernel_rfl) (by kernel_rfl) (fun _ _ _ h => h) (Or.inl ⟨by kernel_rfl, ?_⟩) hS ?_
        · intro w hw
          obtain ⟨⟨e0, e1⟩, _⟩ := two33 hw
          have e2 := lt_of_block hw
          go_simp
        change wpAnyH _ _ _ _ _ _ _ (Act.put _ (some 35) _) _
        simp only [Act.put, List.setIfInBounds_toArray, List.set_cons_succ, List.set_cons_zero]
        refine wpAnyH_take (i := 6) (v := .agg #[.int .u64 (fx : Int), .int .u64 (fy : Int)]) rfl (by kernel_rfl) (by kernel_rfl) (by kernel_rfl) (fun _ _ _ h => h) (Or.inl ⟨by kernel_rfl, ?_⟩) hS ?_
        · intro w hw
          obtain ⟨⟨e0, e1⟩, _⟩ := two33 hw
          have e2 := lt_of_block hw
          go_simp
        change wpAnyH _ _ _ _ _ _ _ (Act.put _ (some 36) _) _
        simp only [Act.put, List.setIfInBounds_toArray, List.set_cons_succ, List.set_cons_zero]
        refine wpAnyH_take (i := 8) (v := .agg #[.int .u64 (fx : Int), .int .u64 (fy : Int)]) rfl (by kernel_rfl) (by kernel_rfl) (by kernel_rfl) (fun _ _ _ h => h) (Or.inl ⟨by kernel_rfl, ?_⟩) hS ?_
        · intro w hw
          obtain ⟨⟨e0, e1⟩, _⟩ := two33 hw
          have e2 := lt_of_block hw
          go_simp
        change wpAnyH _ _ _ _ _ _ _ (Act.put _ (some 38) _) _
        simp only [Act.put, List.setIfInBounds_toArray, List.set_cons_succ, List.set_cons_zero]
        refine wpAnyH_ready (rs := [7]) (by kernel_rfl) (by simp) ?_
        refine AllReadyH.cons rfl (fun K hK => ?_) AllReadyH.nil
        go_simp
        go_wp2_with (go_at_call 18; refine (show Calls _ _ _ _ _ from KB.out _).mono ?_; rintro en w10 ⟨rfl, B10⟩)
        have D10 := D9.trans (B10.mono D9.size)
        refine hK.out _ _ (heap_stays hS B10) (fun hS => ?_)
        clear hK K
        skip
        refine wpAnyH_take (i := 9) (v := .bool true) rfl (by kernel_rfl) (by kernel_rfl) (by kernel_rfl) (fun _ _ _ h => h) (Or.inl ⟨by kernel_rfl, ?_⟩) hS ?_
        · intro w hw; clear hw; go_simp
        change wpAnyH _ _ _ _ _ _ _ (Act.put _ (some 39) _) _
        simp only [Act.put, List.setIfInBounds_toArray, List.set_cons_succ, List.set_cons_zero]
        refine wpAnyH_take (i := 10) (v := .bool true) rfl (by kernel_rfl) (by kernel_rfl) (by kernel_rfl) (fun _ _ _ h => h) (Or.inl ⟨by kernel_rfl, ?_⟩) hS ?_
        · intro w hw; clear hw; go_simp
        change wpAnyH _ _ _ _ _ _ _ (Act.put _ (some 40) _) _
        simp only [Act.put, List.setIfInBounds_toArray, List.set_cons_succ, List.set_cons_zero]
        refine wpAnyH_take (i := 11) (v := .bool true) rfl (by kernel_rfl) (by kernel_rfl) (by kernel_rfl) (fun _ _ _ h => h) (Or.inl ⟨by kernel_rfl, ?_⟩) hS ?_
        · intro w hw; clear hw; go_simp
        change wpAnyH _ _ _ _ _ _ _ (Act.put _ (some 41) _) _
        simp only [Act.put, List.setIfInBounds_toArray, List.set_cons_succ, List.set_cons_zero]
        refine wpAnyH_ready (rs := [12]) (by kernel_rfl) (by simp) ?_
        refine AllReadyH.cons rfl (fun K hK => ?_) AllReadyH.nil
        go_simp
        go_wp2_with (go_at_call 8; refine (works_any _).mono ?_; rintro en w11 ⟨rfl, B11⟩)
        have D11 := D10.trans (B11.mono D10.size)
        refine hK.out _ _ (heap_stays hS B11) (fun hS => ?_)
        clear hK K
        skip
        refine wpAnyH_take (i := 13) (v := .bool true) rfl (by kernel_rfl) (by kernel_rfl) (by kernel_rfl) (fun _ _ _ h => h) (Or.inl ⟨by kernel_rfl, ?_⟩) hS ?_
        · intro w hw; clear hw; go_simp
        change wpAnyH _ _ _ _ _ _ _ (Act.put _ (some 43) _) _
        simp only [Act.put, List.setIfInBounds_toArray, List.set_cons_succ, List.set_cons_zero]
        refine wpAnyH_take (i := 14) (v := .bool true) rfl (by kernel_rfl) (by kernel_rfl) (by kernel_rfl) (fun _ _ _ h => h) (Or.inl ⟨by kernel_rfl, ?_⟩) hS ?_
        · intro w hw; clear hw; go_simp
        change wpAnyH _ _ _ _ _ _ _ (Act.put _ (some 2) _) _
        simp only [Act.put, List.setIfInBounds_toArray, List.set_cons_succ, List.set_cons_zero]
        refine wpAnyH_done (by kernel_rfl) ?_ _
        go_wp2
        go_ret
        exact ⟨rfl, HB8.out.trans (D11.mono HB8.out.size)⟩
      · have hlt : k < l.length := by omega
        obtain ⟨x, hx⟩ : ∃ x, l[k]? = some x := ⟨l[k], List.getElem?_eq_getElem hlt⟩
        obtain ⟨off, rfl, hcl, hce⟩ := EL.out k x hx
        have HX : Hid (l[k]? = some x) := hx
        have ra := (hbr.cell (p := ⟨bl0, off + k, none⟩) hcl).trans hce
        have la' : bl0 < wr.heap.size := Nat.lt_of_lt_of_le hcl hbr.size
        have na : u3.ownBlock ≠ some bl0 := fun e => by have := (ho.lt _ e).1; omega
        have e1 : (((k + 1 : Nat) : Int) - 1) = (k : Int) := by omega
        rw [e1]
        have j1 : (0 : Int) ≤ (k : Int) := by omega
        have j2 : (k : Int) < (l.length : Int) := by omega
        clear hx hce e1
        go_wp2_with fail
        go_region_held3 (fun w' => w'.cell? ⟨bl0, off + k, none⟩ = some (.string x))
          (first
            | go_keep
            | (rw [hgrow.cell_far _ (by simp; omega) (Ne.symm na)]; assumption))
          ((refine step_append_lies _ (by rfl) _ _ _ (by rfl) w.heap.size 9 i0 _ 1 16 Try.underlying28 hi hz0 hz1 hz2 rfl (by omega) u3 (2 * (l.length - (k + 1))) (S (tw l (k + 1))) (by rfl) ((ho.alloc _).drew)
              ⟨wr.heap.size, 0, none⟩ 2 2 [.string x, .string x] (by rfl) (by rfl) (World.news_of_block (cs := #[.string x, .string x]) (t := 9) (fr := (0, 0)) (heap_alloc_new wr _)) (by simp [Value.oneCell'])
              (by omega) (by unfold maxLen; omega) (by omega) (by simp; omega) (wr.heap.size + 1) (by simp) ?_; intro gg cap w1 hown1 hgrow hat hlt1))
        go_wp2
        go_roundg k
        case measure => omega
        case rel =>
          refine ⟨by omega, by go_num, ?_, ?_⟩
          · rw [tw_step HX.out, S_append, show 2 * (l.length - k) = 2 * (l.length - (k + 1)) + 2 by omega]
            exact hown1
          · exact ((hbr.alloc hsz _).trans (drew_below _ 1 _)).grown hgrow (by simp; omega) (fun k hk => (ho.lt k hk).1)
end Go.Proofs.Ytdoeneokblphnaa
