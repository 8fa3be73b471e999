/-
  Set as the document has it: all places of hashes, each once.
-/
import Derived.Test.YtdoeneokblphnaaRef
namespace Go.Proofs.Ytdoeneokblphnaa
open Go.RowKit

theorem ins_yes {o : List Nat} {y : Nat} (h : y ∈ o) : ins o y = o := if_pos h
theorem ins_no {o : List Nat} {y : Nat} (h : ¬ y ∈ o) : ins o y = o ++ [y] := if_neg h
theorem insAll_snoc (o ps : List Nat) (y : Nat) : insAll o (ps ++ [y]) = ins (insAll o ps) y := by unfold insAll; rw [List.foldl_append, List.foldl_cons, List.foldl_nil]
theorem setL_nil : setL [] = [] := rfl
theorem places_len (n : Nat) : (places n).length = 3 := rfl
theorem mem_snoc_yes {o : List Nat} {t z y : Nat} (hz : o[t]? = some z) (h : decide (y ∈ o.take t) = true) : decide (y ∈ o.take (t + 1)) = true := by
  rw [take_snoc hz]; simp at h ⊢; exact .inl h
theorem mem_snoc_eq {o : List Nat} {t y : Nat} (hz : o[t]? = some y) : decide (y ∈ o.take (t + 1)) = true := by
  rw [take_snoc hz]; simp
theorem mem_snoc_no {o : List Nat} {t z y : Nat} (hz : o[t]? = some z) (h : decide (y ∈ o.take t) = false) (hne : z ≠ y) : decide (y ∈ o.take (t + 1)) = false := by
  rw [take_snoc hz]; simp at h ⊢; exact ⟨h, fun e => hne e.symm⟩
theorem elem3_info : ∃ i, Try.prog.info? 3 = some i ∧ i.zero = some (.int .i64 0) ∧ i.size = 1 ∧ i.bytes = 8 := elem3

theorem sl_cell {w : World} {b len cap : Nat} {xs : List Value} (h : SlAt w b (.slice (some ⟨b, 0, none⟩) len cap) xs) {k : Nat} {u : Value} (hk : xs[k]? = some u) : w.cell? ⟨b, k, none⟩ = some u := by
  obtain ⟨p, c, hu, _, _, hel⟩ := h.each
  obtain ⟨off, ho, _, hc⟩ := hel k u hk
  simp only [Value.slice.injEq] at hu
  rw [← hu.1] at ho
  have : off = 0 := by simpa using ho.symm
  subst this
  simpa using hc

/-- An append of one number to a row of the call's own, and where the row lies then. -/
theorem wpList_append_one {ops : Array Oper} {rest : List Oper} {o : Oper} {a : Act} {Q : Exit → Act → World → Prop} (w : World) (hgd : o.guard = none) (s x : Operand)
    (ho : o.op = .call { callee := .builtin .append, args := #[s, x], argTypes := #[39, 39] }) (B : Nat) (v : Value) (n : Nat) (xs : List Value) (hs : a.eval s = v) (hown : w.ownsRow B 3 1 v n xs)
    (b : Nat) (y : Int) (hx : a.eval x = .slice (some ⟨b, 0, none⟩) 1 1) (hsl : w.cell? ⟨b, 0, none⟩ = some (.int .i64 y)) (hbd : n + 1 ≤ 5000) (hB : B ≤ w.heap.size)
    (h : ∀ g cap w', w'.ownsRow B 3 1 (.slice (some ⟨g, 0, none⟩) (n + 1) cap) (n + 1) (xs ++ [.int .i64 y]) → w.grownBy w' v.ownBlock → (v.ownBlock = some g ∨ g = w.heap.size) → wpList Try.prog ops Q rest (a.put o.dst (.slice (some ⟨g, 0, none⟩) (n + 1) cap)) w') : wpList Try.prog ops Q (o :: rest) a w := by
  obtain ⟨i, hi, hz0, hz1, hz2⟩ := elem3_info
  refine wpList_plain hgd fun K hK => ?_
  refine wp_append_lies w s x 39 ho B 3 i (.int .i64 0) 1 8 Try.underlying39 hi hz0 hz1 hz2 rfl (by decide) v n xs hs hown ⟨b, 0, none⟩ 1 1 [.int .i64 y] hx rfl ?_ (by simp [Value.oneCell']) (by decide) (by unfold maxLen; omega) (by omega) hB w.heap.size rfl ?_
  · intro j u hj
    rcases j with _ | j
    · simp at hj; subst hj; rw [add_zero_off]; exact hsl
    · simp at hj
  · intro g cap w' k1 k2 k3 _
    exact hK _ _ (h g cap w' k1 k2 k3)

set_option maxHeartbeats 4000000 in
set_option maxRecDepth 10000 in
theorem set_any {w : World} {b : Nat} {v : Value} {l : List Nat} (h : SlAt w b v (U l)) (hl : l.length ≤ 200) (hx64 : ∀ x ∈ l, x < 18446744073709551616) :
    Calls Try.prog 22 #[v] w fun e w' => ∃ sv, e = .returned sv ∧ w'.ownsRow w.heap.size 3 1 sv (setL l).length (I (setL l)) ∧ Below w.heap.size w w' := by
  obtain ⟨p, cap, hu, hc1, hc2, hel⟩ := h.each
  rw [U_length] at hu hc1
  unfold maxLen at hc2
  subst hu
  have EL : Hid (∀ (k : Nat) (x : Nat), l[k]? = some x → ∃ off, p = some ⟨b, off, none⟩ ∧ b < w.heap.size ∧ w.cell? ⟨b, off + k, none⟩ = some (.int .u64 (x : Int))) := fun k x hx => hel k _ (U_at hx)
  have HK : Hid (∀ x ∈ l, x < 18446744073709551616) := hx64
  clear hel h hx64
  go_enter Try.func22, Try.ntmps22
  go_wp2_with fail
  go_loopg [3, 4] l.length (fun g out i wr => ∃ (k : Nat) (o : List Nat), k ≤ l.length ∧ g = l.length - k ∧ i = .int .i64 k ∧ o = setL (l.take k) ∧ o.length ≤ 3 * k ∧ wr.ownsRow w.heap.size 3 1 out o.length (I o) ∧ Below w.heap.size w wr)
  case atStart => exact ⟨0, [], Nat.zero_le _, rfl, rfl, by rw [List.take_zero, setL_nil], Nat.zero_le _, by simpa [I] using World.ownsRow_nil w w.heap.size 3 1, Below.refl _ _⟩
  case round =>
    obtain ⟨k, o, hk, hg, rfl, hset, hol, ho, hbr⟩ := hrel
    have HG : Hid (gk = l.length - k) := hg
    have HS := hid2 hset
    clear hg hset
    have hsz := hbr.size
    by_cases hlt : k < l.length
    · obtain ⟨x, hx⟩ : ∃ x, l[k]? = some x := ⟨l[k], List.getElem?_eq_getElem hlt⟩
      obtain ⟨off, rfl, hcl, hce⟩ := EL.out k x hx
      have hx2 := HK.out x (List.mem_of_getElem? hx)
      have HX : Hid (l[k]? = some x) := hx
      have hce2 := (hbr.cell (p := ⟨b, off + k, none⟩) hcl).trans hce
      have hcl2 : b < wr.heap.size := Nat.lt_of_lt_of_le hcl hbr.size
      clear hx hce
      go_wp2_with fail
      refine (rplaces_any _ x hx2).mono ?_
      rintro e w1 ⟨rfl, hsp, hsz1, B1⟩
      have ho1 := own_below ho B1
      have hnb : u3.ownBlock ≠ some wr.heap.size := fun e => by have := (ho.lt _ e).2; omega
      have hb1 : Below w.heap.size w w1 := hbr.trans (B1.mono hbr.size)
      obtain ⟨pb, hpb⟩ : ∃ pb, pb = wr.heap.size := ⟨_, rfl⟩
      rw [← hpb] at hsp hnb ⊢
      have hpb1 : pb < w1.heap.size := by omega
      clear hce2 hcl2 hcl B1 ho hbr hsz hsz1 hpb
      go_wp2_with fail
      go_loopg [3, 6] 3 (fun g out i wr2 => ∃ (j : Nat) (o2 : List Nat), j ≤ 3 ∧ g = 3 - j ∧ i = .int .i64 j ∧ o2 = insAll o ((places x).take j) ∧ o2.length ≤ 3 * k + j ∧ wr2.ownsRow w.heap.size 3 1 out o2.length (I o2) ∧ SlAt wr2 pb (.slice (some ⟨pb, 0, none⟩) 3 3) (I (places x)) ∧ out.ownBlock ≠ some pb ∧ pb < wr2.heap.size ∧ Below w.heap.size w wr2)
      case atStart => exact ⟨0, o, Nat.zero_le _, rfl, rfl, rfl, by omega, ho1, hsp, hnb, hpb1, hb1⟩
      case round =>
        clear ho1 hsp hnb hpb1 hb1
        obtain ⟨j, o2, hj, hg2, rfl, hset2, hol2, ho2, hsp, hnb, hpb2, hb2⟩ := hrel
        have HG2 := hid2 hg2
        have HS2 := hid2 hset2
        have HSP := hid2 hsp
        have HNB := hid2 hnb
        have HB2 := hid2 hb2
        have hsz2 := hb2.size
        clear hg2 hset2 hnb hb2
        by_cases hj3 : j < 3
        · obtain ⟨y, hy⟩ : ∃ y, (places x)[j]? = some y := ⟨(places x)[j]'(by rw [places_len]; exact hj3), List.getElem?_eq_getElem _⟩
          have HY := hid2 hy
          have hcy0 : wr.cell? ⟨pb, j, none⟩ = some (.int .i64 (y : Int)) := sl_cell hsp (I_at hy)
          obtain ⟨bo, hbo, hso⟩ := own_sl ho2
          obtain ⟨po, co, huo, hco1, hco2, helo⟩ := hso.each
          rw [I_length] at huo hco1
          unfold maxLen at hco2
          subst huo
          have EO : Hid (∀ (t z : Nat), o2[t]? = some z → ∃ off, po = some ⟨bo, off, none⟩ ∧ bo < wr.heap.size ∧ wr.cell? ⟨bo, off + t, none⟩ = some (.int .i64 (z : Int))) := fun t z hz => helo t _ (I_at hz)
          have HO2 := hid2 ho2
          clear hy hsp hso helo ho2
          go_wp2_with fail
          go_loopg [7, 8] o2.length (fun g m i wr3 => ∃ t nn : Nat, t ≤ o2.length ∧ g = o2.length - t ∧ i = .int .i64 t ∧ m = .bool (decide (y ∈ o2.take t)) ∧ wr3 = wr.drewN nn)
          case atStart => exact ⟨0, 0, Nat.zero_le _, rfl, rfl, by simp, rfl⟩
          case round =>
            obtain ⟨t, nn, ht, hg3, rfl, rfl, rfl⟩ := hrel
            have HG3 := hid2 hg3
            clear hg3
            by_cases htl : t < o2.length
            · obtain ⟨z, hz⟩ : ∃ z, o2[t]? = some z := ⟨o2[t], List.getElem?_eq_getElem htl⟩
              have HZ := hid2 hz
              obtain ⟨offo, rfl, hbl, hcz⟩ := EO.out t z hz
              clear hz
              cases hm : decide (y ∈ o2.take t)
              · by_cases hzy : z = y
                · subst hzy
                  have HM := hid2 (mem_snoc_eq HZ.out)
                  clear hm
                  go_wp2_with fail
                  go_quiet (fail)
                  go_wp2
                  go_roundg (o2.length - (t + 1))
                  case measure => rw [HG3.out]; omega
                  case rel => exact ⟨t + 1, _, by omega, rfl, by go_num, by rw [HM.out], rfl⟩
                · have HM := hid2 (mem_snoc_no HZ.out hm hzy)
                  have hd : ((z : Int) == (y : Int)) = false := by simp; omega
                  clear hm hzy
                  go_wp2_with fail
                  go_quiet (fail)
                  go_wp2
                  go_roundg (o2.length - (t + 1))
                  case measure => rw [HG3.out]; omega
                  case rel => exact ⟨t + 1, _, by omega, rfl, by go_num, by rw [HM.out], rfl⟩
              · have HM := hid2 (mem_snoc_yes HZ.out hm)
                clear hm
                go_wp2_with fail
                go_quiet (fail)
                go_wp2
                go_roundg (o2.length - (t + 1))
                case measure => rw [HG3.out]; omega
                case rel => exact ⟨t + 1, _, by omega, rfl, by go_num, by rw [HM.out], rfl⟩
            · have htk : o2.take t = o2 := List.take_of_length_le (by omega)
              rw [htk]
              clear htk
              by_cases hmem : y ∈ o2
              · have HI : Hid (insAll o ((places x).take (j + 1)) = o2) := by show _ = _; rw [take_snoc HY.out, insAll_snoc, ← HS2.out, ins_yes hmem]
                rw [decide_eq_true hmem]
                clear hmem
                go_wp2
                go_roundg (3 - (j + 1))
                case measure => rw [HG2.out]; omega
                case rel => exact ⟨j + 1, o2, by omega, rfl, by go_num, HI.out.symm, by omega, own_below HO2.out (drew_below _ _ _), HSP.out.stays (drew_below _ _ _), HNB.out, hpb2, HB2.out.trans (drew_below _ _ _)⟩
              · have HI : Hid (insAll o ((places x).take (j + 1)) = o2 ++ [y]) := by show _ = _; rw [take_snoc HY.out, insAll_snoc, ← HS2.out, ins_no hmem]
                rw [decide_eq_false hmem]
                clear hmem
                have ho3 := own_below HO2.out (drew_below wr nn wr.heap.size)
                have hcell : ((wr.drewN nn).alloc (.cells #[.int .i64 (y : Int)] 3)).cell? ⟨wr.heap.size, 0, none⟩ = some (.int .i64 (y : Int)) := by
                  rw [show wr.heap.size = (wr.drewN nn).heap.size from rfl, World.cell?_alloc_at _ _ _ _ rfl]; rfl
                have BA : Below wr.heap.size wr ((wr.drewN nn).alloc (.cells #[.int .i64 (y : Int)] 3)) := (drew_below wr nn _).alloc (Nat.le_refl _) _
                go_wp2_with (at_builtin; refine wpList_append_one _ rfl _ _ rfl w.heap.size _ o2.length (I o2) rfl (ho3.alloc _) wr.heap.size (y : Int) rfl hcell (by omega) (by simp; omega) ?_; intro gg cap4 w4 hown4 hgrow4 hat4)
                have hgp : gg ≠ pb := by
                  rcases hat4 with e | e
                  · intro e2; rw [e2] at e; exact HNB.out e
                  · simp at e; omega
                go_roundg (3 - (j + 1))
                case measure => rw [HG2.out]; omega
                case rel => exact ⟨j + 1, o2 ++ [y], by omega, rfl, by go_num, HI.out.symm, by simp; omega, by rw [List.length_append, I_append]; exact hown4, (HSP.out.stays BA).keeps hgrow4.size (fun hlt => hgrow4.block pb hlt (fun e => HNB.out e.symm)), fun e => hgp (by simpa [Value.ownBlock] using e), Nat.lt_of_lt_of_le hpb2 (Nat.le_trans BA.size hgrow4.size), (HB2.out.trans (BA.mono hsz2)).grown hgrow4 (Nat.le_trans hsz2 BA.size) (fun k hk => (HO2.out.lt k hk).1)⟩
        · have hj4 : j = 3 := by omega
          subst hj4
          have HI : Hid (o2 = setL (l.take (k + 1))) := by show _ = _; rw [HS2.out, take_snoc HX.out, setL_snoc, ← HS.out]; rfl
          go_wp2
          go_roundg (l.length - (k + 1))
          case measure => rw [HG.out]; omega
          case rel => exact ⟨k + 1, o2, by omega, rfl, by go_num, HI.out, by omega, ho2, HB2.out⟩
    · have hkl : k = l.length := by omega
      subst hkl
      rw [List.take_length] at HS
      have hs2 := HS.out
      subst hs2
      go_wp2
      go_ret
      exact ⟨_, rfl, ho, hbr⟩
end Go.Proofs.Ytdoeneokblphnaa
