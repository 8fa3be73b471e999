/-
  Whether bytes, and leaves, are the same; bytes in new memory.
-/
import Derived.Test.YtkbfihnoohhojaaGreatDoorQLPage
import Derived.Laws.BytesString
import Derived.Deep.RegionHeld3
import Derived.Deep.MidRow
namespace Go.Proofs.YtkbfihnoohhojaaGreatDoor.Lea
open Go.RowKit Go.Extern.Stop Go.Stop Go.Extern

theorem hid2 {p : Prop} (h : p) : Hid p := h

/-- A value is, in w's memory, an error of this code; of 0: none. -/
def Fault (w : World) (v : Value) (code : Int) : Prop := (code = 0 ∧ v = .nilIface) ∨ (code ≠ 0 ∧ ∃ dn op a p, Lk w v (dn ++ [(op, a, code)]) ∧ dn.length ≤ 10 ∧ v = .iface 113 (.pointer (some p)))
theorem Fault.nil (w : World) : Fault w .nilIface 0 := .inl ⟨rfl, rfl⟩
theorem Fault.none {w : World} {v : Value} (h : Fault w v 0) : v = .nilIface := by
  rcases h with ⟨_, h⟩ | ⟨h, _⟩
  · exact h
  · exact absurd rfl h
theorem Fault.some {w : World} {v : Value} {code : Int} (h : Fault w v code) (hc : code ≠ 0) : ∃ p, v = .iface 113 (.pointer (some p)) := by
  rcases h with ⟨h, _⟩ | ⟨_, _, _, _, p, _, _, h⟩
  · exact absurd h hc
  · exact ⟨p, h⟩
theorem Fault.below {w w' : World} {v : Value} {code : Int} (h : Fault w v code) (hb : Below w.heap.size w w') : Fault w' v code := by
  rcases h with h | ⟨h1, dn, op, a, p, h2, h3, h4⟩
  · exact .inl h
  · exact .inr ⟨h1, dn, op, a, p, h2.stays hb, h3, h4⟩
theorem of_code {w : World} {v : Value} {code : Int} (hg : ErrT w) (h : Fault w v code) : Calls Tryz.prog 10 #[v] w fun e w' => e = .returned (.int .i64 code) ∧ Below w.heap.size w w' := by
  rcases h with ⟨rfl, rfl⟩ | ⟨_, dn, op, a, p, h2, h3, _⟩
  · exact of_nil w hg
  · exact of_some w hg h2 (by omega)
theorem new_code (op : ByteArray) (at_ code : Int) (w : World) : Calls Tryz.prog 29 #[.string op, .int .i64 at_, .int .i64 code] w fun e w' => ∃ v, e = .returned v ∧ Fault w' v code ∧ Below w.heap.size w w' := by
  by_cases hc : code = 0
  · subst hc
    exact (new_zero op at_ w).mono fun e w' ⟨h1, h2⟩ => by subst h2; exact ⟨_, h1, Fault.nil _, Below.refl _ _⟩
  · refine (new_some op at_ code w (by simpa using hc)).mono fun e w' ⟨h1, h2⟩ => ?_
    subst h2
    refine ⟨_, h1, .inr ⟨hc, [], op, at_, ⟨w.heap.size, 0, none⟩, ?_, by simp, rfl⟩, by go_grown⟩
    exact Lk.cons w.heap.size op at_ code .nilIface [] (heap_alloc_new w _) (Lk.nil _)
theorem wrap_nil (op : ByteArray) (at_ : Int) (w : World) :
    Calls Tryz.prog 37 #[.string op, .int .i64 at_, .nilIface] w fun e w' => e = .returned .nilIface ∧ w' = w := by
  go_enter Tryz.func37, Tryz.ntmps37
  go_wp2
  go_ret
  exact ⟨rfl, rfl⟩
theorem wrap_some (op : ByteArray) (at_ : Int) (p : Addr) (w : World) :
    Calls Tryz.prog 37 #[.string op, .int .i64 at_, .iface 113 (.pointer (some p))] w fun e w' => e = .returned (.iface 113 (.pointer (some ⟨w.heap.size, 0, none⟩))) ∧ w' = w.alloc (.cells #[.string op, .int .i64 at_, .int .i64 0, .iface 113 (.pointer (some p))] 115) := by
  go_enter Tryz.func37, Tryz.ntmps37
  go_wp2
  go_ret
  exact ⟨rfl, rfl⟩
theorem wrap_code {w : World} {v : Value} {code : Int} (op : ByteArray) (at_ : Int) (h : Fault w v code) (hd : code ≠ 0 → ∃ op a p, Lk w v [(op, a, code)] ∧ v = .iface 113 (.pointer (some p))) :
    Calls Tryz.prog 37 #[.string op, .int .i64 at_, v] w fun e w' => ∃ u, e = .returned u ∧ Fault w' u code ∧ Below w.heap.size w w' := by
  rcases h with ⟨rfl, rfl⟩ | ⟨h1, _⟩
  · exact (wrap_nil op at_ w).mono fun e w' ⟨h1, h2⟩ => by subst h2; exact ⟨_, h1, Fault.nil _, Below.refl _ _⟩
  · obtain ⟨op', a', p, hk, rfl⟩ := hd h1
    refine (wrap_some op at_ p w).mono fun e w' ⟨h3, h4⟩ => ?_
    subst h4
    have hb : Below w.heap.size w (w.alloc (.cells #[.string op, .int .i64 at_, .int .i64 0, .iface 113 (.pointer (some p))] 115)) := by go_grown
    exact ⟨_, h3, .inr ⟨h1, [(op, at_, 0)], op', a', ⟨w.heap.size, 0, none⟩, Lk.cons w.heap.size op at_ 0 _ _ (heap_alloc_new w _) (hk.stays hb), by simp, rfl⟩, hb⟩

/-- An error of one link. -/
def Fault1 (w : World) (v : Value) (code : Int) : Prop := (code = 0 ∧ v = .nilIface) ∨ (code ≠ 0 ∧ ∃ op a p, Lk w v [(op, a, code)] ∧ v = .iface 113 (.pointer (some p)))
theorem Fault1.fault {w : World} {v : Value} {code : Int} (h : Fault1 w v code) : Fault w v code := by
  rcases h with h | ⟨h, op, a, p, h1, h2⟩
  · exact .inl h
  · exact .inr ⟨h, [], op, a, p, h1, by simp, h2⟩
theorem Fault1.below {w w' : World} {v : Value} {code : Int} (h : Fault1 w v code) (hb : Below w.heap.size w w') : Fault1 w' v code := by
  rcases h with h | ⟨h1, op, a, p, h2, h4⟩
  · exact .inl h
  · exact .inr ⟨h1, op, a, p, h2.stays hb, h4⟩
theorem new_code1 (op : ByteArray) (at_ code : Int) (w : World) : Calls Tryz.prog 29 #[.string op, .int .i64 at_, .int .i64 code] w fun e w' => ∃ v, e = .returned v ∧ Fault1 w' v code ∧ Below w.heap.size w w' := by
  by_cases hc : code = 0
  · subst hc
    exact (new_zero op at_ w).mono fun e w' ⟨h1, h2⟩ => by subst h2; exact ⟨_, h1, .inl ⟨rfl, rfl⟩, Below.refl _ _⟩
  · refine (new_some op at_ code w (by simpa using hc)).mono fun e w' ⟨h1, h2⟩ => ?_
    subst h2
    refine ⟨_, h1, .inr ⟨hc, op, at_, ⟨w.heap.size, 0, none⟩, ?_, rfl⟩, by go_grown⟩
    exact Lk.cons w.heap.size op at_ code .nilIface [] (heap_alloc_new w _) (Lk.nil _)
theorem wrap_code1 {w : World} {v : Value} {code : Int} (op : ByteArray) (at_ : Int) (h : Fault1 w v code) :
    Calls Tryz.prog 37 #[.string op, .int .i64 at_, v] w fun e w' => ∃ u, e = .returned u ∧ Fault w' u code ∧ Below w.heap.size w w' := by
  refine wrap_code op at_ h.fault (fun hc => ?_)
  rcases h with ⟨h, _⟩ | ⟨_, op, a, p, h1, h2⟩
  · exact absurd h hc
  · exact ⟨op, a, p, h1, h2⟩

set_option maxHeartbeats 1000000 in
theorem check_any (s k : Int) (p : Option Addr) (n cap : Nat) (w : World) (hn : n ≤ 9223372036854775807) :
    Calls Tryz.prog 62 #[.agg #[.int .i64 s, .int .i64 k, .slice p n cap]] w fun e w' => ∃ v, e = .returned v ∧ Fault1 w' v (checkC s k n) ∧ Below w.heap.size w w' := by
  have hb0 : Below w.heap.size w (w.alloc (.cells #[.int .i64 s, .int .i64 k, .slice p n cap] 50)) := by go_grown
  unfold checkC
  by_cases h1 : s < 1
  · rw [if_pos (.inl h1)]
    go_enter Tryz.func62, Tryz.ntmps62
    go_wp2_with (go_at_call 29; refine (new_code1 _ _ _ _).mono ?_; rintro e w3 ⟨v, rfl, hv, hb⟩)
    go_ret
    exact ⟨_, rfl, hv, hb0.trans (hb.mono hb0.size)⟩
  · by_cases h2 : 1099511627776 < s
    · rw [if_pos (.inr h2)]
      go_enter Tryz.func62, Tryz.ntmps62
      go_wp2_with (go_at_call 29; refine (new_code1 _ _ _ _).mono ?_; rintro e w3 ⟨v, rfl, hv, hb⟩)
      go_ret
      exact ⟨_, rfl, hv, hb0.trans (hb.mono hb0.size)⟩
    · rw [if_neg (by omega)]
      by_cases h3 : k < 1
      · rw [if_pos (.inl h3)]
        go_enter Tryz.func62, Tryz.ntmps62
        go_wp2_with (go_at_call 29; refine (new_code1 _ _ _ _).mono ?_; rintro e w3 ⟨v, rfl, hv, hb⟩)
        go_ret
        exact ⟨_, rfl, hv, hb0.trans (hb.mono hb0.size)⟩
      · by_cases h4 : 5 < k
        · rw [if_pos (.inr h4)]
          go_enter Tryz.func62, Tryz.ntmps62
          go_wp2_with (go_at_call 29; refine (new_code1 _ _ _ _).mono ?_; rintro e w3 ⟨v, rfl, hv, hb⟩)
          go_ret
          exact ⟨_, rfl, hv, hb0.trans (hb.mono hb0.size)⟩
        · rw [if_neg (by omega)]
          by_cases h5 : 233 < n
          · rw [if_pos h5]
            have h5' : 233 < (n : Int) := by omega
            go_enter Tryz.func62, Tryz.ntmps62
            go_wp2_with (go_at_call 29; refine (new_code1 _ _ _ _).mono ?_; rintro e w3 ⟨v, rfl, hv, hb⟩)
            go_ret
            exact ⟨_, rfl, hv, hb0.trans (hb.mono hb0.size)⟩
          · rw [if_neg h5]
            have h5' : ¬ 233 < (n : Int) := by omega
            go_enter Tryz.func62, Tryz.ntmps62
            go_wp2
            go_ret
            exact ⟨_, rfl, .inl ⟨rfl, rfl⟩, hb0⟩

set_option maxHeartbeats 1000000 in
theorem rcheck_any (s k : Int) (p : Option Addr) (n cap : Nat) (w : World) :
    Calls Tryz.prog 56 #[.agg #[.int .i64 s, .int .i64 k, .slice p n cap]] w fun e w' => e = .returned (.int .i64 (checkC s k n)) ∧ Below w.heap.size w w' := by
  have hb0 : Below w.heap.size w (w.alloc (.cells #[.int .i64 s, .int .i64 k, .slice p n cap] 50)) := by go_grown
  unfold checkC
  by_cases h1 : s < 1
  · rw [if_pos (.inl h1)]
    go_enter Tryz.func56, Tryz.ntmps56
    go_wp2
    go_ret
    exact ⟨rfl, hb0⟩
  · by_cases h2 : 1099511627776 < s
    · rw [if_pos (.inr h2)]
      go_enter Tryz.func56, Tryz.ntmps56
      go_wp2
      go_ret
      exact ⟨rfl, hb0⟩
    · rw [if_neg (by omega)]
      by_cases h3 : k < 1
      · rw [if_pos (.inl h3)]
        go_enter Tryz.func56, Tryz.ntmps56
        go_wp2
        go_ret
        exact ⟨rfl, hb0⟩
      · by_cases h4 : 5 < k
        · rw [if_pos (.inr h4)]
          go_enter Tryz.func56, Tryz.ntmps56
          go_wp2
          go_ret
          exact ⟨rfl, hb0⟩
        · rw [if_neg (by omega)]
          by_cases h5 : 233 < n
          · rw [if_pos h5]
            have h5' : 233 < (n : Int) := by omega
            go_enter Tryz.func56, Tryz.ntmps56
            go_wp2
            go_ret
            exact ⟨rfl, hb0⟩
          · rw [if_neg h5]
            have h5' : ¬ 233 < (n : Int) := by omega
            go_enter Tryz.func56, Tryz.ntmps56
            go_wp2
            go_ret
            exact ⟨rfl, hb0⟩

theorem stamp_any (n : Nat) (w : World) : Calls Tryz.prog 76 #[.int .u64 (n : Int)] w fun e w' => e = .returned (.int .i64 (stampN n : Nat)) ∧ w' = w := by
  unfold stampN
  by_cases h : 1099511627776 < n
  · rw [if_pos h]
    have h' : 1099511627776 < (n : Int) := by omega
    go_enter Tryz.func76, Tryz.ntmps76
    go_wp2
    go_ret
    exact ⟨rfl, rfl⟩
  · rw [if_neg h]
    have h' : ¬ 1099511627776 < (n : Int) := by omega
    go_enter Tryz.func76, Tryz.ntmps76
    go_wp2
    go_ret
    exact ⟨rfl, rfl⟩

theorem noughts_snoc {l : List Nat} {k x : Nat} (h : l[k]? = some x) : noughtsB (l.take (k + 1)) = (noughtsB (l.take k) && x == 0) := by
  rw [take_snoc h]; simp [noughtsB]
theorem noughts_not {l : List Nat} {k x : Nat} (h : l[k]? = some x) (hx : x ≠ 0) : noughtsB l = false := by
  unfold noughtsB
  rw [List.all_eq_false]
  exact ⟨x, List.mem_of_getElem? h, by simpa using hx⟩

set_option maxHeartbeats 1000000 in
theorem noughts_any {w : World} {b : Nat} {v : Value} {l : List Nat} (h : SlAt w b v (U l)) : Calls Tryz.prog 69 #[v] w fun e w' => e = .returned (.bool (noughtsB l)) ∧ w' = w := by
  obtain ⟨p, cap, hu, hc1, hc2, hel⟩ := h.each
  rw [U_length] at hu hc1
  unfold maxLen at hc2
  subst hu
  have EL : Hid (∀ (k x : Nat), l[k]? = some x → ∃ off, p = some ⟨b, off, none⟩ ∧ b < w.heap.size ∧ w.cell? ⟨b, off + k, none⟩ = some (.int .u8 (x : Int))) := fun k x hx => hel k _ (U_at hx)
  clear hel h
  go_enter Tryz.func69, Tryz.ntmps69
  go_wp2_with fail
  go_loop [7] (fun i => ∃ k : Nat, k ≤ l.length ∧ i = .int .i64 k ∧ noughtsB (l.take k) = true) (fun i => l.length - (intOf i).toNat)
  case atStart => exact ⟨0, Nat.zero_le _, rfl, rfl⟩
  case round =>
    obtain ⟨k, hk, rfl, hno⟩ := hrel
    have HN := hid2 hno
    clear hno
    by_cases hlt : k < l.length
    · obtain ⟨x, hx⟩ : ∃ x, l[k]? = some x := ⟨l[k], List.getElem?_eq_getElem hlt⟩
      obtain ⟨off, rfl, hcl, hce⟩ := EL.out k x hx
      have hki : (k : Int) < (l.length : Int) := by omega
      by_cases h0 : x = 0
      · have HX : Hid (noughtsB (l.take (k + 1)) = true) := by
          show _ = _
          rw [noughts_snoc hx, HN.out, h0]; rfl
        have hd : ((x : Int) != 0) = false := by rw [h0]; rfl
        clear hx h0
        go_wp2
        go_round
        case rel => exact ⟨k + 1, by omega, by go_num, HX.out⟩
        case measure => simp [intOf]; omega
      · have HX : Hid (noughtsB l = false) := noughts_not hx h0
        have hd : ((x : Int) != 0) = true := by rw [bne_iff_ne]; omega
        clear hx h0
        go_wp2
        go_ret
        rw [HX.out]
        exact ⟨rfl, rfl⟩
    · have hki : ¬ ((k : Int) < (l.length : Int)) := by omega
      have HX : Hid (noughtsB l = true) := by
        have := HN.out
        rw [List.take_of_length_le (by omega)] at this
        exact this
      go_wp2
      go_ret
      rw [HX.out]
      exact ⟨rfl, rfl⟩

end Go.Proofs.YtkbfihnoohhojaaGreatDoor.Lea

namespace Go.Proofs.YtkbfihnoohhojaaGreatDoor.Lea
open Go.RowKit

theorem take_eq_of {a b : List Nat} (hl : a.length = b.length) {k : Nat} (hk : a.length ≤ k) (h : a.take k = b.take k) : a = b := by
  rwa [List.take_of_length_le hk, List.take_of_length_le (by omega)] at h

set_option maxHeartbeats 1000000 in
theorem same_any {w : World} {b c : Nat} {u v : Value} {l l' : List Nat} (h : SlAt w b u (U l)) (g : SlAt w c v (U l')) : Calls Tryz.prog 43 #[u, v] w fun e w' => e = .returned (.bool (decide (l = l'))) ∧ ∃ m, w' = w.drewN m := by
  obtain ⟨p, cap, hu, h2, h3, h5⟩ := h.each
  obtain ⟨q, cap2, hv, k2, k3, k5⟩ := g.each
  rw [U_length] at hu h2 hv k2
  subst hu hv
  unfold maxLen at h3 k3
  have HE : Hid (∀ (k x : Nat), l[k]? = some x → ∃ off, p = some ⟨b, off, none⟩ ∧ b < w.heap.size ∧ w.cell? ⟨b, off + k, none⟩ = some (.int .u8 (x : Int))) := fun k x hx => h5 k _ (U_at hx)
  have HF : Hid (∀ (k x : Nat), l'[k]? = some x → ∃ off, q = some ⟨c, off, none⟩ ∧ c < w.heap.size ∧ w.cell? ⟨c, off + k, none⟩ = some (.int .u8 (x : Int))) := fun k x hx => k5 k _ (U_at hx)
  clear h h5 g k5
  by_cases hlen : l.length = l'.length
  · have HL := hid2 hlen
    have hl2 : ((l.length : Int) != (l'.length : Int)) = false := by rw [hlen]; simp
    clear hlen
    go_enter Tryz.func43, Tryz.ntmps43
    go_wp2_with fail
    go_loopw [5] (fun i wr => ∃ k : Nat, i = .int .i64 (k : Int) ∧ k ≤ l.length ∧ l.take k = l'.take k ∧ ∃ n, wr = w.drewN n) (fun i _ => l.length - (intOf i).toNat)
    case atStart => exact ⟨0, rfl, Nat.zero_le _, rfl, 0, rfl⟩
    case round =>
      clear hl2
      obtain ⟨k, rfl, hk, htk, n, rfl⟩ := hrel
      have HT := hid2 htk
      clear htk
      by_cases hlt : k < l.length
      · obtain ⟨x, hx⟩ : ∃ x, l[k]? = some x := ⟨_, List.getElem?_eq_getElem hlt⟩
        obtain ⟨y, hy⟩ : ∃ y, l'[k]? = some y := ⟨_, List.getElem?_eq_getElem (by rw [← HL.out]; exact hlt)⟩
        obtain ⟨off, rfl, hbb, hc⟩ := HE.out k _ hx
        obtain ⟨off2, rfl, hbb2, hc2⟩ := HF.out k _ hy
        have hki : (k : Int) < (l.length : Int) := by omega
        have hkc : (k : Int) < (l'.length : Int) := by have := HL.out; omega
        by_cases hxy : x = y
        · have HT2 : Hid (l.take (k + 1) = l'.take (k + 1)) := by
            show _ = _
            rw [take_snoc hx, take_snoc hy, HT.out, hxy]
          subst hxy
          clear hx hy
          go_wp2_with fail
          go_quiet (fail)
          go_wp2
          go_roundw
          case rel => exact ⟨k + 1, by go_num, by omega, HT2.out, _, rfl⟩
          case measure => simp [intOf]; omega
        · have hd : ((x : Int) != (y : Int)) = true := by rw [bne_iff_ne]; omega
          have HN : Hid (decide (l = l') = false) := by
            show _ = _
            apply decide_eq_false
            intro e
            rw [e, hy] at hx
            exact hxy (Option.some.inj hx).symm
          clear hx hy hxy
          go_wp2_with fail
          go_quiet (fail)
          go_wp2
          go_ret
          rw [HN.out]
          exact ⟨rfl, _, World.drewN_drewN ..⟩
      · have hki : ¬ ((k : Int) < (l.length : Int)) := by omega
        have HN : Hid (decide (l = l') = true) := decide_eq_true (take_eq_of HL.out (by omega) HT.out)
        go_wp2
        go_ret
        rw [HN.out]
        exact ⟨rfl, _, rfl⟩
  · have hl2 : ((l.length : Int) != (l'.length : Int)) = true := by rw [bne_iff_ne]; omega
    have HN : Hid (decide (l = l') = false) := decide_eq_false (fun e => hlen (by rw [e]))
    clear hlen
    go_enter Tryz.func43, Tryz.ntmps43
    go_wp2
    go_ret
    rw [HN.out]
    exact ⟨rfl, 0, rfl⟩

/-- Bytes as a string. -/
def strB (b : List Nat) : ByteArray := (ints b).foldl (fun r n => r.push (UInt8.ofNat n.toNat)) ByteArray.empty
theorem strB_data (b : List Nat) (r : ByteArray) : ((ints b).foldl (fun r n => r.push (UInt8.ofNat n.toNat)) r).data.toList = r.data.toList ++ b.map UInt8.ofNat := by
  induction b generalizing r with
  | nil => simp [ints]
  | cons x s ih =>
    show (List.foldl _ (r.push (UInt8.ofNat ((x : Int).toNat))) (ints s)).data.toList = _
    rw [ih]
    simp [ByteArray.push]
theorem strB_inj {a b : List Nat} (ha : Byt a) (hb : Byt b) (h : strB a = strB b) : a = b := by
  have e : (strB a).data.toList = (strB b).data.toList := by rw [h]
  unfold strB at e
  rw [strB_data, strB_data] at e
  simp at e
  have key : ∀ (l : List Nat), Byt l → (l.map UInt8.ofNat).map UInt8.toNat = l := by
    intro l hl
    rw [List.map_map]
    conv => rhs; rw [← List.map_id l]
    apply List.map_congr_left
    intro x hx
    have := hl x hx
    simp [UInt8.ofNat, UInt8.toNat]
    omega
  rw [← key a ha, ← key b hb, e]
theorem conv_any {w : World} {bb : Nat} {v : Value} {b : List Nat} (h : SlAt w bb v (U b)) : (convert 42 9 v).run Tryz.prog w = .ok (.string (strB b)) w := by
  obtain ⟨p, cap, hv, _, _, hel⟩ := h.each
  rw [U_length] at hv
  subst hv
  have hu : (ints b).map (Value.int .u8) = U b := U_ints b
  cases p with
  | none =>
    have hb : b = [] := by
      cases b with
      | nil => rfl
      | cons x r => obtain ⟨_, e, _⟩ := hel 0 (.int .u8 (x : Int)) rfl; cases e
    subst hb
    simp [convert, Conv.bytesToString, strB, ints]
  | some a =>
    rw [run_convert_bytes_string w 42 9 5 _ _ _ Tryz.underlying42 Tryz.underlying5 Tryz.underlying9]
    refine run_bytesToString w _ _ _ (ints b) ?_
    rw [hu]
    have := run_loadCells_list (P := Tryz.prog) w a (U b) (fun j u hj => by
      obtain ⟨off, e, _, hc⟩ := hel j u hj
      simp only [Option.some.injEq] at e
      subst e
      rw [add_off]; exact hc)
    rw [U_length] at this
    exact this

end Go.Proofs.YtkbfihnoohhojaaGreatDoor.Lea
