/-
  Put, Bytes and Word of the program.
-/
import Derived.Test.YtgmghekgelmmcaaDoorQIBit
namespace Go.Proofs.YtgmghekgelmmcaaDoor.Ite
open Go.RowKit

theorem byte_more (n : Int) (k : Nat) : bits .or .u8 (bits .and .u8 (n / 2 ^ (7 * (k + 1)) % 256) 127) 128 = n / 128 ^ (k + 1) % 128 + if k + 1 = 0 then 0 else 128 := by
  have e : (2 : Int) ^ (7 * (k + 1)) = 128 ^ (k + 1) := by rw [Int.pow_mul]; rfl
  rw [e, and127 _ (by omega) (by omega), or128 _ (by omega) (by omega), if_neg (by omega)]
  omega

set_option maxHeartbeats 1000000 in
set_option maxRecDepth 10000 in
theorem putnum_any {w : World} {B m : Nat} {v : Value} {xs : List Value} (n : Int) (h0 : 0 ≤ n) (_h1 : n ≤ 9223372036854775807) (hown : w.ownsRow B 5 1 v m xs) (hB : B ≤ w.heap.size) (hm : m + 9 ≤ 30000) :
    Calls Tryd.prog 78 #[v, .int .i64 n] w fun e w' => ∃ sv, e = .returned sv ∧ w'.ownsRow B 5 1 sv (m + lenN n) (xs ++ U (dg n (lenN n))) ∧ Below B w w' := by
  obtain ⟨hl1, hl9⟩ := lenN_bd n
  go_enter Tryd.func78, Tryd.ntmps78
  go_wp2_with (go_at_call 60; refine (len_any n _ h0).mono ?_; rintro e w' ⟨rfl, hw⟩; have hw := hw.symm; subst hw)
  go_loopg [0, 5] (lenN n) (fun k out left wr => ∃ dn, left = .int .i64 ((k : Int) - 1) ∧ k ≤ lenN n ∧ wr.ownsRow B 5 1 out (m + dn.length) (xs ++ U dn) ∧ dn ++ dg n k = dg n (lenN n) ∧ Below B w wr)
  case atStart => exact ⟨[], rfl, Nat.le_refl _, by simpa [U] using hown, by simp, Below.refl _ _⟩
  case round =>
    obtain ⟨dn, rfl, hk, ho, hd, hbr⟩ := hrel
    have hlen : dn.length + gk = lenN n := by have := congrArg List.length hd; simpa [dg_length] using this
    have HD : Hid (dn ++ dg n gk = dg n (lenN n)) := hd
    clear hd
    rcases gk with _ | k
    · go_wp2
      go_ret
      have e := HD.out
      simp only [dg, List.append_nil] at e
      rw [← e]
      have hl : dn.length = lenN n := by omega
      rw [← hl]
      exact ⟨_, rfl, ho, hbr⟩
    · have hsz := hbr.size
      have L : Hid (dn.length + (k + 1) = lenN n) := hlen
      clear hlen
      have hdn : dn.length + 1 ≤ 9 := by have := L.out; omega
      rcases k with _ | k
      · go_wp2_with (at_builtin; refine wpList_append_sl _ rfl _ _ rfl B _ _ _ rfl (ho.alloc _) _ _ [_] rfl (sl_one_new _ _) (by simp; omega) (by simp; omega) ?_; intro v1 w1 hown1 hgrow1)
        go_roundg 0
        case measure => omega
        case rel =>
          refine ⟨dn ++ [n / 128 ^ 0 % 128 + if 0 = 0 then 0 else 128], by go_num, by omega, ?_, ?_, ?_⟩
          · rw [byte_last] at hown1
            rw [U_append, ← List.append_assoc, List.length_append]
            exact hown1
          · rw [← HD.out]; simp [dg]
          · exact (hbr.alloc (by omega) _).grown hgrow1 (by simp; omega) (fun k hk => (ho.lt k hk).1)
      · go_wp2_with (at_builtin; refine wpList_append_sl _ rfl _ _ rfl B _ _ _ rfl (ho.alloc _) _ _ [_] rfl (sl_one_new _ _) (by simp; omega) (by simp; omega) ?_; intro v1 w1 hown1 hgrow1)
        go_roundg (k + 1)
        case measure => omega
        case rel =>
          refine ⟨dn ++ [n / 128 ^ (k + 1) % 128 + if k + 1 = 0 then 0 else 128], by go_num, by omega, ?_, ?_, ?_⟩
          · rw [byte_more] at hown1
            rw [U_append, ← List.append_assoc, List.length_append]
            exact hown1
          · rw [← HD.out]; simp [dg]
          · exact (hbr.alloc (by omega) _).grown hgrow1 (by simp; omega) (fun k hk => (ho.lt k hk).1)
end Go.Proofs.YtgmghekgelmmcaaDoor.Ite

namespace Go.Proofs.YtgmghekgelmmcaaDoor.Ite
open Go.RowKit

/-- Numbers that can be put. -/
def Nat63 (l : List Int) : Prop := ∀ x ∈ l, 0 ≤ x ∧ x ≤ 9223372036854775807
theorem Nat63.at {l : List Int} (h : Nat63 l) {k : Nat} {x : Int} (hx : l[k]? = some x) : 0 ≤ x ∧ x ≤ 9223372036854775807 := h x (List.mem_of_getElem? hx)

theorem take_snoc {α : Type} {l : List α} {k : Nat} {x : α} (h : l[k]? = some x) : l.take (k + 1) = l.take k ++ [x] := by
  rw [List.take_add_one, h]; rfl

theorem puts_take {l : List Int} {k : Nat} {x : Int} (h : l[k]? = some x) : puts (l.take (k + 1)) = puts (l.take k) ++ dg x (lenN x) := by
  rw [take_snoc h, puts_append]; simp [puts]

theorem puts_take_len (l : List Int) (k : Nat) (h : l.length ≤ 100) : (puts (l.take k)).length ≤ 900 := by
  have := puts_length (l.take k)
  have := List.length_take_le' k l
  omega

set_option maxHeartbeats 1000000 in
set_option maxRecDepth 10000 in
theorem put_any {w : World} {b c : Nat} {v u : Value} {bs ns : List Int} (h : SlAt w b v (U bs)) (hn : SlAt w c u (I ns)) (hns : Nat63 ns) (hl : ns.length ≤ 100) (hb : bs.length ≤ 20000) :
    Calls Tryd.prog 63 #[v, u] w fun e w' => ∃ sv, e = .returned sv ∧ w'.ownsRow w.heap.size 5 1 sv (bs.length + (puts ns).length) (U (bs ++ puts ns)) ∧ Below w.heap.size w w' := by
  obtain ⟨p, cap, hu, hc1, hc2, hel⟩ := hn.each
  rw [I_length] at hu hc1
  unfold maxLen at hc2
  subst hu
  have EL : Hid (∀ (k : Nat) (x : Int), ns[k]? = some x → ∃ off, p = some ⟨c, off, none⟩ ∧ c < w.heap.size ∧ w.cell? ⟨c, off + k, none⟩ = some (.int .i64 x)) := fun k x hx => hel k _ (I_at hx)
  have PT : Hid (∀ k, (puts (ns.take k)).length ≤ 900) := fun k => puts_take_len ns k hl
  have NS : Hid (Nat63 ns) := hns
  clear hel hns hn
  go_enter Tryd.func63, Tryd.ntmps63
  go_wp2_with fail
  go_loop [5, 13] (fun s i => ∃ k : Nat, k ≤ ns.length ∧ i = .int .i64 k ∧ s = .int .i64 ((puts (ns.take k)).length : Int)) (fun _ i => ns.length - (intOf i).toNat)
  case atStart => exact ⟨0, Nat.zero_le _, rfl, rfl⟩
  case round =>
    obtain ⟨k, hk, rfl, rfl⟩ := hrel
    have hp9 := PT.out k
    by_cases hlt : k < ns.length
    · obtain ⟨x, hx⟩ : ∃ x, ns[k]? = some x := ⟨ns[k], List.getElem?_eq_getElem hlt⟩
      obtain ⟨off, rfl, hcl, hce⟩ := EL.out k x hx
      obtain ⟨hx0, hx1⟩ := NS.out.at hx
      have hl9 := lenN_bd x
      have HX : Hid (ns[k]? = some x) := hx
      clear hx
      go_wp2_with (go_at_call 60; refine (len_any x _ hx0).mono ?_; rintro e w' ⟨rfl, hw⟩; have hw := hw.symm; subst hw)
      go_round
      case rel => exact ⟨k + 1, by omega, by go_num, by rw [puts_take HX.out, List.length_append, dg_length]; go_num⟩
      case measure => simp [intOf]; omega
    · have hkk : k = ns.length := by omega
      subst hkk
      rw [List.take_length] at hp9 ⊢
      go_wp2_with (go_at_call 71; refine (room_any (puts ns).length h (by omega)).mono ?_; rintro e w1 ⟨sv, rfl, hown, hb1⟩)
      go_loopg [8, 27] ns.length (fun g out i wr => ∃ k, k ≤ ns.length ∧ g = ns.length - k ∧ i = .int .i64 k ∧ wr.ownsRow w.heap.size 5 1 out (bs.length + (puts (ns.take k)).length) (U (bs ++ puts (ns.take k))) ∧ Below w.heap.size w wr)
      case atStart => exact ⟨0, Nat.zero_le _, rfl, rfl, by simpa [puts] using hown, hb1⟩
      case round =>
        clear hown hb1
        obtain ⟨k, hk, hg, rfl, ho, hbr⟩ := hrel
        have hp9 := PT.out k
        have HG : Hid (gk = ns.length - k) := hg
        have hsz := hbr.size
        clear hg
        by_cases hlt : k < ns.length
        · obtain ⟨x, hx⟩ : ∃ x, ns[k]? = some x := ⟨ns[k], List.getElem?_eq_getElem hlt⟩
          obtain ⟨off, rfl, hcl, hce⟩ := EL.out k x hx
          obtain ⟨hx0, hx1⟩ := NS.out.at hx
          have hce' := (hbr.cell (p := ⟨c, off + k, none⟩) hcl).trans hce
          have HX : Hid (ns[k]? = some x) := hx
          clear hx hce
          go_wp2_with (go_at_call 78; refine (putnum_any x hx0 hx1 ho hsz (by omega)).mono ?_; rintro e w2 ⟨sv2, rfl, hown2, hb2⟩)
          go_roundg (ns.length - (k + 1))
          case measure => rw [HG.out]; omega
          case rel =>
            refine ⟨k + 1, by omega, rfl, by go_num, ?_, hbr.trans hb2⟩
            rw [puts_take HX.out, List.length_append, dg_length, ← List.append_assoc, U_append, ← Nat.add_assoc]
            exact hown2
        · go_wp2
          go_ret
          rw [List.take_of_length_le (by omega : ns.length ≤ k)] at ho
          exact ⟨_, rfl, ho, hbr⟩
end Go.Proofs.YtgmghekgelmmcaaDoor.Ite
