/-
  num, Put, Bytes and Word as the document's answer has them.
-/
import Derived.Test.YtgmghekgelmmcaaDoorQIPut
namespace Go.Proofs.YtgmghekgelmmcaaDoor.Ite
open Go.RowKit

set_option maxHeartbeats 1000000 in
set_option maxRecDepth 10000 in
theorem bytes_any {w : World} {b c : Nat} {v u : Value} {bs ts : List Int} (h : SlAt w b v (U bs)) (hc : SlAt w c u (U ts)) (hl : ts.length ≤ 5000) (hb : bs.length ≤ 20000) :
    Calls Tryd.prog 62 #[v, u] w fun e w' => ∃ sv, e = .returned sv ∧ w'.ownsRow w.heap.size 5 1 sv (bs.length + lenN ts.length + ts.length) (U (bs ++ dg ts.length (lenN ts.length) ++ ts)) ∧ Below w.heap.size w w' := by
  obtain ⟨p, cap, hu, hc1, hc2⟩ := hc.form
  rw [U_length] at hu hc1
  unfold maxLen at hc2
  subst hu
  have h9 := lenN_bd ts.length
  go_enter Tryd.func62, Tryd.ntmps62
  go_wp2_with (first
    | (go_at_call 60; refine (len_any ts.length _ (by omega)).mono ?_; rintro e w' ⟨rfl, hw⟩; have hw := hw.symm; subst hw)
    | (go_at_call 71; refine (room_any (lenN ts.length + ts.length) h (by omega)).mono ?_; rintro e w1 ⟨sv, rfl, hown, hb1⟩)
    | (go_at_call 78; refine (putnum_any ts.length (by omega) (by omega) hown hb1.size (by omega)).mono ?_; rintro e w2 ⟨sv2, rfl, hown2, hb2⟩)
    | (at_builtin; refine wpList_append_sl _ rfl _ _ rfl w.heap.size _ _ _ rfl hown2 c _ ts rfl (hc.stays (hb1.trans hb2)) (by omega) (Nat.le_trans hb1.size hb2.size) ?_; intro v3 w3 hown3 hgrow3))
  go_ret
  rw [← U_append, ← U_append] at hown3
  exact ⟨_, rfl, hown3, (hb1.trans hb2).grown hgrow3 (Nat.le_trans hb1.size hb2.size) (fun k hk => (hown2.lt k hk).1)⟩




end Go.Proofs.YtgmghekgelmmcaaDoor.Ite

namespace Go.Proofs.YtgmghekgelmmcaaDoor.Ite
open Go.RowKit

theorem own_one_new (w : World) (B : Nat) (c : Int) (hB : B ≤ w.heap.size) : (w.alloc (.cells #[.int .u8 c] 5)).ownsRow B 5 1 (.slice (some ⟨w.heap.size, 0, none⟩) 1 1) 1 (U [c]) :=
  World.ownsRow_lit w #[.int .u8 c] 1 hB (by unfold maxLen; omega) rfl

theorem dg_more (n : Int) (j : Nat) (hj : 1 ≤ j) : dg n (j + 1) = (n / 128 ^ j % 128 + 128) :: dg n j := by
  show (n / 128 ^ j % 128 + if j = 0 then 0 else 128) :: dg n j = _
  rw [if_neg (by omega)]

set_option maxHeartbeats 1000000 in
set_option maxRecDepth 10000 in
theorem rnum_any {w : World} (n : Int) (h0 : 0 ≤ n) (h1 : n ≤ 9223372036854775807) :
    Calls Tryd.prog 80 #[.int .i64 n] w fun e w' => ∃ sv, e = .returned sv ∧ w'.ownsRow w.heap.size 5 1 sv (lenN n) (U (dg n (lenN n))) ∧ Below w.heap.size w w' := by
  go_enter Tryd.func80, Tryd.ntmps80
  go_wp2_with fail
  go_loopg [3, 4] 8 (fun g out m wr => ∃ j : Nat, 1 ≤ j ∧ j ≤ 9 ∧ g = 9 - j ∧ m = .int .i64 (n / 128 ^ j) ∧ (j = 1 ∨ 0 < n / 128 ^ (j - 1)) ∧ wr.ownsRow w.heap.size 5 1 out j (U (dg n j)) ∧ Below w.heap.size w wr)
  case atStart =>
    refine ⟨1, by omega, by omega, rfl, by simp, .inl rfl, ?_, by go_grown⟩
    have := own_one_new w w.heap.size (n % 128) (Nat.le_refl _)
    simpa [dg] using this
  case round =>
    obtain ⟨j, hj1, hj9, hg, rfl, hp, ho, hbr⟩ := hrel
    have hq := ediv_nn j h0
    have hle := ediv_pow_le n j h0
    have hs := ediv_pow_succ n j
    have f9 := few9 (n := n) (k := j) h1
    have hdm := dg_more n j hj1
    have A : Hid ((¬ 0 < n / 128 ^ j → lenN n = j)) := fun h => lenN_at h1 hj1 h hp
    have hsz := hbr.size
    generalize hQ : n / 128 ^ j = q at *
    have HS : Hid (n / 128 ^ (j + 1) = q / 128) := hs
    have HQ : Hid (n / 128 ^ j = q) := hQ
    have HD : Hid (dg n (j + 1) = (q % 128 + 128) :: dg n j) := hdm
    have HG : Hid (gk = 9 - j) := hg
    clear hs hQ hp hdm hg
    by_cases hlt : 0 < q
    · obtain ⟨bo, hbo, hso⟩ := own_sl ho
      have hj8 := f9 hlt
      go_wp2_with (at_builtin; refine wpList_append_sl _ rfl _ _ rfl w.heap.size (.slice (some ⟨wr.heap.size, 0, none⟩) 1 1) _ _ rfl (own_one_new wr w.heap.size (q % 128 + 128) hsz) bo _ (dg n j) rfl (hso.keeps (by simp) (fun hlt => Below.heap_alloc _ _ _ hlt)) (by rw [dg_length]; omega) (by simp; omega) ?_; intro v1 w1 hown1 hgrow1)
      go_roundg (9 - (j + 1))
      case measure => rw [HG.out]; omega
      case rel =>
        refine ⟨j + 1, by omega, by omega, rfl, by rw [HS.out], .inr (by simp; rw [HQ.out]; exact hlt), ?_, ?_⟩
        · rw [HD.out, ← List.singleton_append, U_append, Nat.add_comm]
          rw [dg_length] at hown1
          exact hown1
        · exact (hbr.alloc hsz _).grown hgrow1 (by simp; omega) (fun k hk => by simp [Value.ownBlock] at hk; omega)
    · go_wp2
      go_ret
      have e := A.out hlt
      rw [e]
      exact ⟨_, rfl, ho, hbr⟩

set_option maxHeartbeats 1000000 in
set_option maxRecDepth 10000 in
theorem rput_any {w : World} {b c : Nat} {v u : Value} {bs ns : List Int} (h : SlAt w b v (U bs)) (hn : SlAt w c u (I ns)) (hns : Nat63 ns) (hl : ns.length ≤ 100) (hb : bs.length ≤ 20000) :
    Calls Tryd.prog 69 #[v, u] w fun e w' => ∃ sv, e = .returned sv ∧ w'.ownsRow w.heap.size 5 1 sv (bs.length + (puts ns).length) (U (bs ++ puts ns)) ∧ Below w.heap.size w w' := by
  obtain ⟨p, cap, hu, hc1, hc2, hel⟩ := hn.each
  rw [I_length] at hu hc1
  unfold maxLen at hc2
  subst hu
  have EL : Hid (∀ (k : Nat) (x : Int), ns[k]? = some x → ∃ off, p = some ⟨c, off, none⟩ ∧ c < w.heap.size ∧ w.cell? ⟨c, off + k, none⟩ = some (.int .i64 x)) := fun k x hx => hel k _ (I_at hx)
  have PT : Hid (∀ k, (puts (ns.take k)).length ≤ 900) := fun k => puts_take_len ns k hl
  have NS : Hid (Nat63 ns) := hns
  clear hel hns hn
  go_enter Tryd.func69, Tryd.ntmps69
  go_wp2_with (at_builtin; refine wpList_append_sl _ rfl _ _ rfl w.heap.size (.slice none 0 0) 0 [] rfl (World.ownsRow_nil _ _ _ _) b _ bs rfl h (by omega) (Nat.le_refl _) ?_; intro v0 w0 hown0 hgrow0)
  have hb0 : Below w.heap.size w w0 := (Below.refl _ _).grown hgrow0 (Nat.le_refl _) (fun k hk => by simp [Value.ownBlock] at hk)
  go_loopg [5, 6] ns.length (fun g out i wr => ∃ k, k ≤ ns.length ∧ g = ns.length - k ∧ i = .int .i64 k ∧ wr.ownsRow w.heap.size 5 1 out (bs.length + (puts (ns.take k)).length) (U (bs ++ puts (ns.take k))) ∧ Below w.heap.size w wr)
  case atStart => exact ⟨0, Nat.zero_le _, rfl, rfl, by simpa [puts] using hown0, hb0⟩
  case round =>
    clear hown0 hb0 hgrow0
    obtain ⟨k, hk, hg, rfl, ho, hbr⟩ := hrel
    have hp9 := PT.out k
    have HG : Hid (gk = ns.length - k) := hg
    have hsz := hbr.size
    clear hg
    by_cases hlt : k < ns.length
    · obtain ⟨x, hx⟩ : ∃ x, ns[k]? = some x := ⟨ns[k], List.getElem?_eq_getElem hlt⟩
      obtain ⟨off, rfl, hcl, hce⟩ := EL.out k x hx
      obtain ⟨hx0, hx1⟩ := NS.out.at hx
      have hx9 := lenN_bd x
      have hce' := (hbr.cell (p := ⟨c, off + k, none⟩) hcl).trans hce
      have HX : Hid (ns[k]? = some x) := hx
      clear hx hce
      go_wp2_with (first
        | (go_at_call 80; refine (rnum_any x hx0 hx1).mono ?_; rintro e w2 ⟨sv2, rfl, hown2, hb2⟩; obtain ⟨b2, _, hs2⟩ := own_sl hown2)
        | (at_builtin; refine wpList_append_sl _ rfl _ _ rfl w.heap.size _ _ _ rfl (own_below ho hb2) b2 _ (dg x (lenN x)) rfl hs2 (by rw [dg_length]; omega) (Nat.le_trans hsz hb2.size) ?_; intro v3 w3 hown3 hgrow3))
      go_roundg (ns.length - (k + 1))
      case measure => rw [HG.out]; omega
      case rel =>
        refine ⟨k + 1, by omega, rfl, by go_num, ?_, (hbr.trans (hb2.mono hsz)).grown hgrow3 (Nat.le_trans hsz hb2.size) (fun k hk => (ho.lt k hk).1)⟩
        rw [puts_take HX.out, List.length_append, ← List.append_assoc, U_append, ← Nat.add_assoc]
        exact hown3
    · go_wp2
      go_ret
      rw [List.take_of_length_le (by omega : ns.length ≤ k)] at ho
      exact ⟨_, rfl, ho, hbr⟩

theorem sl_int_new (w : World) (c : Int) : SlAt (w.alloc (.cells #[.int .i64 c] 3)) w.heap.size (.slice (some ⟨w.heap.size, 0, none⟩) 1 1) (I [c]) := by
  refine .inr ⟨_, 1, rfl, by simp [I], by unfold maxLen; omega, .inr ⟨0, rfl, by simp, fun k u hk => ?_⟩⟩
  cases k with
  | zero => simp [I] at hk; subst hk; simp
  | succ k => simp [I] at hk

set_option maxHeartbeats 1000000 in
set_option maxRecDepth 10000 in
theorem rbytes_any {w : World} {b c : Nat} {v u : Value} {bs ts : List Int} (h : SlAt w b v (U bs)) (hc : SlAt w c u (U ts)) (hl : ts.length ≤ 5000) (hb : bs.length ≤ 20000) :
    Calls Tryd.prog 68 #[v, u] w fun e w' => ∃ sv, e = .returned sv ∧ w'.ownsRow w.heap.size 5 1 sv (bs.length + lenN ts.length + ts.length) (U (bs ++ dg ts.length (lenN ts.length) ++ ts)) ∧ Below w.heap.size w w' := by
  obtain ⟨p, cap, hu, hc1, hc2⟩ := hc.form
  rw [U_length] at hu hc1
  unfold maxLen at hc2
  subst hu
  have h9 := lenN_bd ts.length
  have hb0 : Below w.heap.size w (w.alloc (.cells #[.int .i64 ts.length] 3)) := by go_grown
  have PL : Hid (puts [(ts.length : Int)] = dg ts.length (lenN ts.length)) := by simp [Hid, puts]
  go_enter Tryd.func68, Tryd.ntmps68
  go_wp2_with (first
    | (go_at_call 69; refine (rput_any (h.stays hb0) (sl_int_new w ts.length) (fun x hx => by simp at hx; omega) (by simp) hb).mono ?_; rw [PL.out]; rintro e w1 ⟨sv, rfl, hown, hb1⟩)
    | (at_builtin; refine wpList_append_sl _ rfl _ _ rfl _ _ _ _ rfl hown c _ ts rfl (hc.stays (hb0.trans (hb1.mono hb0.size))) (by rw [dg_length]; omega) hb1.size ?_; intro v3 w3 hown3 hgrow3))
  go_ret
  rw [dg_length, ← U_append] at hown3
  have hB := hb0.trans (hb1.mono hb0.size)
  exact ⟨_, rfl, own_lower hown3 hb0.size, hB.grown hgrow3 hB.size (fun k hk => Nat.le_trans hb0.size (hown.lt k hk).1)⟩






end Go.Proofs.YtgmghekgelmmcaaDoor.Ite
