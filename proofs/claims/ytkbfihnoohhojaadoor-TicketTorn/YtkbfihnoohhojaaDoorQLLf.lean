/-
  Faults, leaves and pages in memory; the small functions of this layer.
-/
import Derived.Test.YtkbfihnoohhojaaDoorQLPage
import Derived.Laws.BytesString
import Derived.Deep.RegionHeld3
import Derived.Deep.MidRow
namespace Go.Proofs.YtkbfihnoohhojaaDoor.Lea
open Go.RowKit Go.Extern.Stop Go.Stop Go.Extern

theorem hid2 {p : Prop} (h : p) : Hid p := h

/-- A value is, in w's memory, an error of this code; of 0: none. -/
def Fault (w : World) (v : Value) (code : Int) : Prop := (code = 0 ∧ v = .nilIface) ∨ (code ≠ 0 ∧ ∃ dn op a p, Lk w v (dn ++ [(op, a, code)]) ∧ dn.length ≤ 10 ∧ v = .iface 108 (.pointer (some p)))
theorem Fault.nil (w : World) : Fault w .nilIface 0 := .inl ⟨rfl, rfl⟩
theorem Fault.none {w : World} {v : Value} (h : Fault w v 0) : v = .nilIface := by
  rcases h with ⟨_, h⟩ | ⟨h, _⟩
  · exact h
  · exact absurd rfl h
theorem Fault.some {w : World} {v : Value} {code : Int} (h : Fault w v code) (hc : code ≠ 0) : ∃ p, v = .iface 108 (.pointer (some p)) := by
  rcases h with ⟨h, _⟩ | ⟨_, _, _, _, p, _, _, h⟩
  · exact absurd h hc
  · exact ⟨p, h⟩
theorem Fault.below {w w' : World} {v : Value} {code : Int} (h : Fault w v code) (hb : Below w.heap.size w w') : Fault w' v code := by
  rcases h with h | ⟨h1, dn, op, a, p, h2, h3, h4⟩
  · exact .inl h
  · exact .inr ⟨h1, dn, op, a, p, h2.stays hb, h3, h4⟩
theorem of_code {w : World} {v : Value} {code : Int} (hg : ErrT w) (h : Fault w v code) : Calls Tryd.prog 20 #[v] w fun e w' => e = .returned (.int .i64 code) ∧ Below w.heap.size w w' := by
  rcases h with ⟨rfl, rfl⟩ | ⟨_, dn, op, a, p, h2, h3, _⟩
  · exact of_nil w hg
  · exact of_some w hg h2 (by omega)
theorem new_code (op : ByteArray) (at_ code : Int) (w : World) : Calls Tryd.prog 21 #[.string op, .int .i64 at_, .int .i64 code] w fun e w' => ∃ v, e = .returned v ∧ Fault w' v code ∧ Below w.heap.size w w' := by
  by_cases hc : code = 0
  · subst hc
    exact (new_zero op at_ w).mono fun e w' ⟨h1, h2⟩ => by subst h2; exact ⟨_, h1, Fault.nil _, Below.refl _ _⟩
  · refine (new_some op at_ code w (by simpa using hc)).mono fun e w' ⟨h1, h2⟩ => ?_
    subst h2
    refine ⟨_, h1, .inr ⟨hc, [], op, at_, ⟨w.heap.size, 0, none⟩, ?_, by simp, rfl⟩, by go_grown⟩
    exact Lk.cons w.heap.size op at_ code .nilIface [] (heap_alloc_new w _) (Lk.nil _)
theorem wrap_nil (op : ByteArray) (at_ : Int) (w : World) :
    Calls Tryd.prog 45 #[.string op, .int .i64 at_, .nilIface] w fun e w' => e = .returned .nilIface ∧ w' = w := by
  go_enter Tryd.func45, Tryd.ntmps45
  go_wp2
  go_ret
  exact ⟨rfl, rfl⟩
theorem wrap_some (op : ByteArray) (at_ : Int) (p : Addr) (w : World) :
    Calls Tryd.prog 45 #[.string op, .int .i64 at_, .iface 108 (.pointer (some p))] w fun e w' => e = .returned (.iface 108 (.pointer (some ⟨w.heap.size, 0, none⟩))) ∧ w' = w.alloc (.cells #[.string op, .int .i64 at_, .int .i64 0, .iface 108 (.pointer (some p))] 110) := by
  go_enter Tryd.func45, Tryd.ntmps45
  go_wp2
  go_ret
  exact ⟨rfl, rfl⟩
theorem wrap_code {w : World} {v : Value} {code : Int} (op : ByteArray) (at_ : Int) (h : Fault w v code) (hd : code ≠ 0 → ∃ op a p, Lk w v [(op, a, code)] ∧ v = .iface 108 (.pointer (some p))) :
    Calls Tryd.prog 45 #[.string op, .int .i64 at_, v] w fun e w' => ∃ u, e = .returned u ∧ Fault w' u code ∧ Below w.heap.size w w' := by
  rcases h with ⟨rfl, rfl⟩ | ⟨h1, _⟩
  · exact (wrap_nil op at_ w).mono fun e w' ⟨h1, h2⟩ => by subst h2; exact ⟨_, h1, Fault.nil _, Below.refl _ _⟩
  · obtain ⟨op', a', p, hk, rfl⟩ := hd h1
    refine (wrap_some op at_ p w).mono fun e w' ⟨h3, h4⟩ => ?_
    subst h4
    have hb : Below w.heap.size w (w.alloc (.cells #[.string op, .int .i64 at_, .int .i64 0, .iface 108 (.pointer (some p))] 110)) := by go_grown
    exact ⟨_, h3, .inr ⟨h1, [(op, at_, 0)], op', a', ⟨w.heap.size, 0, none⟩, Lk.cons w.heap.size op at_ 0 _ _ (heap_alloc_new w _) (hk.stays hb), by simp, rfl⟩, hb⟩

/-- An error of one link. -/
def Fault1 (w : World) (v : Value) (code : Int) : Prop := (code = 0 ∧ v = .nilIface) ∨ (code ≠ 0 ∧ ∃ op a p, Lk w v [(op, a, code)] ∧ v = .iface 108 (.pointer (some p)))
theorem Fault1.fault {w : World} {v : Value} {code : Int} (h : Fault1 w v code) : Fault w v code := by
  rcases h with h | ⟨h, op, a, p, h1, h2⟩
  · exact .inl h
  · exact .inr ⟨h, [], op, a, p, h1, by simp, h2⟩
theorem Fault1.below {w w' : World} {v : Value} {code : Int} (h : Fault1 w v code) (hb : Below w.heap.size w w') : Fault1 w' v code := by
  rcases h with h | ⟨h1, op, a, p, h2, h4⟩
  · exact .inl h
  · exact .inr ⟨h1, op, a, p, h2.stays hb, h4⟩
theorem new_code1 (op : ByteArray) (at_ code : Int) (w : World) : Calls Tryd.prog 21 #[.string op, .int .i64 at_, .int .i64 code] w fun e w' => ∃ v, e = .returned v ∧ Fault1 w' v code ∧ Below w.heap.size w w' := by
  by_cases hc : code = 0
  · subst hc
    exact (new_zero op at_ w).mono fun e w' ⟨h1, h2⟩ => by subst h2; exact ⟨_, h1, .inl ⟨rfl, rfl⟩, Below.refl _ _⟩
  · refine (new_some op at_ code w (by simpa using hc)).mono fun e w' ⟨h1, h2⟩ => ?_
    subst h2
    refine ⟨_, h1, .inr ⟨hc, op, at_, ⟨w.heap.size, 0, none⟩, ?_, rfl⟩, by go_grown⟩
    exact Lk.cons w.heap.size op at_ code .nilIface [] (heap_alloc_new w _) (Lk.nil _)
theorem wrap_code1 {w : World} {v : Value} {code : Int} (op : ByteArray) (at_ : Int) (h : Fault1 w v code) :
    Calls Tryd.prog 45 #[.string op, .int .i64 at_, v] w fun e w' => ∃ u, e = .returned u ∧ Fault w' u code ∧ Below w.heap.size w w' := by
  refine wrap_code op at_ h.fault (fun hc => ?_)
  rcases h with ⟨h, _⟩ | ⟨_, op, a, p, h1, h2⟩
  · exact absurd h hc
  · exact ⟨op, a, p, h1, h2⟩

set_option maxHeartbeats 1000000 in
theorem check_any (s k : Int) (p : Option Addr) (n cap : Nat) (w : World) (hn : n ≤ 9223372036854775807) :
    Calls Tryd.prog 35 #[.agg #[.int .i64 s, .int .i64 k, .slice p n cap]] w fun e w' => ∃ v, e = .returned v ∧ Fault1 w' v (checkC s k n) ∧ Below w.heap.size w w' := by
  have hb0 : Below w.heap.size w (w.alloc (.cells #[.int .i64 s, .int .i64 k, .slice p n cap] 25)) := by go_grown
  unfold checkC
  by_cases h1 : s < 1
  · rw [if_pos (.inl h1)]
    go_enter Tryd.func35, Tryd.ntmps35
    go_wp2_with (go_at_call 21; refine (new_code1 _ _ _ _).mono ?_; rintro e w3 ⟨v, rfl, hv, hb⟩)
    go_ret
    exact ⟨_, rfl, hv, hb0.trans (hb.mono hb0.size)⟩
  · by_cases h2 : 1099511627776 < s
    · rw [if_pos (.inr h2)]
      go_enter Tryd.func35, Tryd.ntmps35
      go_wp2_with (go_at_call 21; refine (new_code1 _ _ _ _).mono ?_; rintro e w3 ⟨v, rfl, hv, hb⟩)
      go_ret
      exact ⟨_, rfl, hv, hb0.trans (hb.mono hb0.size)⟩
    · rw [if_neg (by omega)]
      by_cases h3 : k < 1
      · rw [if_pos (.inl h3)]
        go_enter Tryd.func35, Tryd.ntmps35
        go_wp2_with (go_at_call 21; refine (new_code1 _ _ _ _).mono ?_; rintro e w3 ⟨v, rfl, hv, hb⟩)
        go_ret
        exact ⟨_, rfl, hv, hb0.trans (hb.mono hb0.size)⟩
      · by_cases h4 : 5 < k
        · rw [if_pos (.inr h4)]
          go_enter Tryd.func35, Tryd.ntmps35
          go_wp2_with (go_at_call 21; refine (new_code1 _ _ _ _).mono ?_; rintro e w3 ⟨v, rfl, hv, hb⟩)
          go_ret
          exact ⟨_, rfl, hv, hb0.trans (hb.mono hb0.size)⟩
        · rw [if_neg (by omega)]
          by_cases h5 : 233 < n
          · rw [if_pos h5]
            have h5' : 233 < (n : Int) := by omega
            go_enter Tryd.func35, Tryd.ntmps35
            go_wp2_with (go_at_call 21; refine (new_code1 _ _ _ _).mono ?_; rintro e w3 ⟨v, rfl, hv, hb⟩)
            go_ret
            exact ⟨_, rfl, hv, hb0.trans (hb.mono hb0.size)⟩
          · rw [if_neg h5]
            have h5' : ¬ 233 < (n : Int) := by omega
            go_enter Tryd.func35, Tryd.ntmps35
            go_wp2
            go_ret
            exact ⟨_, rfl, .inl ⟨rfl, rfl⟩, hb0⟩

set_option maxHeartbeats 1000000 in
theorem rcheck_any (s k : Int) (p : Option Addr) (n cap : Nat) (w : World) :
    Calls Tryd.prog 5 #[.agg #[.int .i64 s, .int .i64 k, .slice p n cap]] w fun e w' => e = .returned (.int .i64 (checkC s k n)) ∧ Below w.heap.size w w' := by
  have hb0 : Below w.heap.size w (w.alloc (.cells #[.int .i64 s, .int .i64 k, .slice p n cap] 25)) := by go_grown
  unfold checkC
  by_cases h1 : s < 1
  · rw [if_pos (.inl h1)]
    go_enter Tryd.func5, Tryd.ntmps5
    go_wp2
    go_ret
    exact ⟨rfl, hb0⟩
  · by_cases h2 : 1099511627776 < s
    · rw [if_pos (.inr h2)]
      go_enter Tryd.func5, Tryd.ntmps5
      go_wp2
      go_ret
      exact ⟨rfl, hb0⟩
    · rw [if_neg (by omega)]
      by_cases h3 : k < 1
      · rw [if_pos (.inl h3)]
        go_enter Tryd.func5, Tryd.ntmps5
        go_wp2
        go_ret
        exact ⟨rfl, hb0⟩
      · by_cases h4 : 5 < k
        · rw [if_pos (.inr h4)]
          go_enter Tryd.func5, Tryd.ntmps5
          go_wp2
          go_ret
          exact ⟨rfl, hb0⟩
        · rw [if_neg (by omega)]
          by_cases h5 : 233 < n
          · rw [if_pos h5]
            have h5' : 233 < (n : Int) := by omega
            go_enter Tryd.func5, Tryd.ntmps5
            go_wp2
            go_ret
            exact ⟨rfl, hb0⟩
          · rw [if_neg h5]
            have h5' : ¬ 233 < (n : Int) := by omega
            go_enter Tryd.func5, Tryd.ntmps5
            go_wp2
            go_ret
            exact ⟨rfl, hb0⟩

theorem stamp_any (n : Nat) (w : World) : Calls Tryd.prog 44 #[.int .u64 (n : Int)] w fun e w' => e = .returned (.int .i64 (stampN n : Nat)) ∧ w' = w := by
  unfold stampN
  by_cases h : 1099511627776 < n
  · rw [if_pos h]
    have h' : 1099511627776 < (n : Int) := by omega
    go_enter Tryd.func44, Tryd.ntmps44
    go_wp2
    go_ret
    exact ⟨rfl, rfl⟩
  · rw [if_neg h]
    have h' : ¬ 1099511627776 < (n : Int) := by omega
    go_enter Tryd.func44, Tryd.ntmps44
    go_wp2
    go_ret
    exact ⟨rfl, rfl⟩

theorem noughts_snoc {l : List Nat} {k x : Nat} (h : l[k]? = some x) : noughtsB (l.take (k + 1)) = (noughtsB (l.take k) && x == 0) := by
  rw [take_snoc h]; simp [noughtsB]
theorem noughts_not {l : List Nat} {k x : Nat} (h : l[k]? = some x) (hx : x ≠ 0) : noughtsB l = false := by
  unfold noughtsB
  rw [List.all_eq_false]
  exact ⟨x, List.mem_of_getElem? h, by simpa using hx⟩

set_option maxHeartbeats 1000000 in
theorem noughts_any {w : World} {b : Nat} {v : Value} {l : List Nat} (h : SlAt w b v (U l)) : Calls Tryd.prog 64 #[v] w fun e w' => e = .returned (.bool (noughtsB l)) ∧ w' = w := by
  obtain ⟨p, cap, hu, hc1, hc2, hel⟩ := h.each
  rw [U_length] at hu hc1
  unfold maxLen at hc2
  subst hu
  have EL : Hid (∀ (k x : Nat), l[k]? = some x → ∃ off, p = some ⟨b, off, none⟩ ∧ b < w.heap.size ∧ w.cell? ⟨b, off + k, none⟩ = some (.int .u8 (x : Int))) := fun k x hx => hel k _ (U_at hx)
  clear hel h
  go_enter Tryd.func64, Tryd.ntmps64
  go_wp2_with fail
  go_loop [7] (fun i => ∃ k : Nat, k ≤ l.length ∧ i = .int .i64 k ∧ noughtsB (l.take k) = true) (fun i => l.length - (intOf i).toNat)
  case atStart => exact ⟨0, Nat.zero_le _, rfl, rfl⟩
  case round =>
    obtain ⟨k, hk, rfl, hno⟩ := hrel
    have HN := hid2 hno
    clear hno
    by_cases hlt : k < l.length
    · obtain ⟨x, hx⟩ : ∃ x, l[k]? = some x := ⟨l[k], List.getElem?_eq_getElem hlt⟩
      obtain ⟨off, rfl, hcl, hce⟩ := EL.out k x hx
      have hki : (k : Int) < (l.length : Int) := by omega
      by_cases h0 : x = 0
      · have HX : Hid (noughtsB (l.take (k + 1)) = true) := by
          show _ = _
          rw [noughts_snoc hx, HN.out, h0]; rfl
        have hd : ((x : Int) != 0) = false := by rw [h0]; rfl
        clear hx h0
        go_wp2
        go_round
        case rel => exact ⟨k + 1, by omega, by go_num, HX.out⟩
        case measure => simp [intOf]; omega
      · have HX : Hid (noughtsB l = false) := noughts_not hx h0
        have hd : ((x : Int) != 0) = true := by rw [bne_iff_ne]; omega
        clear hx h0
        go_wp2
        go_ret
        rw [HX.out]
        exact ⟨rfl, rfl⟩
    · have hki : ¬ ((k : Int) < (l.length : Int)) := by omega
      have HX : Hid (noughtsB l = true) := by
        have := HN.out
        rw [List.take_of_length_le (by omega)] at this
        exact this
      go_wp2
      go_ret
      rw [HX.out]
      exact ⟨rfl, rfl⟩

end Go.Proofs.YtkbfihnoohhojaaDoor.Lea
