/-
  Faults in memory, and bytes wherever they lie.
-/
import Derived.Test.YtgmghekgelmmcaaDoorQIRefTxt
import Derived.Test.YtgmghekgelmmcaaDoorQIMath
import Derived.Laws.BytesString
import Derived.Laws.IdiomStrings
import Derived.Deep.RegionHeld3
import Derived.Deep.MidRow
namespace Go.Proofs.YtgmghekgelmmcaaDoor.Ite
open Go.RowKit Go.Extern.Stop Go.Stop Go.Extern

theorem hid2 {p : Prop} (h : p) : Hid p := h

/-- A value is, in w's memory, an error of this code; of 0: none. -/
def Fault (w : World) (v : Value) (code : Int) : Prop := (code = 0 ∧ v = .nilIface) ∨ (code ≠ 0 ∧ ∃ dn op a p, Lk w v (dn ++ [(op, a, code)]) ∧ dn.length ≤ 10 ∧ v = .iface 94 (.pointer (some p)))
theorem Fault.nil (w : World) : Fault w .nilIface 0 := .inl ⟨rfl, rfl⟩
theorem Fault.none {w : World} {v : Value} (h : Fault w v 0) : v = .nilIface := by
  rcases h with ⟨_, h⟩ | ⟨h, _⟩
  · exact h
  · exact absurd rfl h
theorem Fault.some {w : World} {v : Value} {code : Int} (h : Fault w v code) (hc : code ≠ 0) : ∃ p, v = .iface 94 (.pointer (some p)) := by
  rcases h with ⟨h, _⟩ | ⟨_, _, _, _, p, _, _, h⟩
  · exact absurd h hc
  · exact ⟨p, h⟩
theorem Fault.below {w w' : World} {v : Value} {code : Int} (h : Fault w v code) (hb : Below w.heap.size w w') : Fault w' v code := by
  rcases h with h | ⟨h1, dn, op, a, p, h2, h3, h4⟩
  · exact .inl h
  · exact .inr ⟨h1, dn, op, a, p, h2.stays hb, h3, h4⟩
theorem of_code {w : World} {v : Value} {code : Int} (hg : ErrT w) (h : Fault w v code) : Calls Tryd.prog 11 #[v] w fun e w' => e = .returned (.int .i64 code) ∧ Below w.heap.size w w' := by
  rcases h with ⟨rfl, rfl⟩ | ⟨_, dn, op, a, p, h2, h3, _⟩
  · exact of_nil w hg
  · exact of_some w hg h2 (by omega)
theorem new_code (op : ByteArray) (at_ code : Int) (w : World) : Calls Tryd.prog 30 #[.string op, .int .i64 at_, .int .i64 code] w fun e w' => ∃ v, e = .returned v ∧ Fault w' v code ∧ Below w.heap.size w w' := by
  by_cases hc : code = 0
  · subst hc
    exact (new_zero op at_ w).mono fun e w' ⟨h1, h2⟩ => by subst h2; exact ⟨_, h1, Fault.nil _, Below.refl _ _⟩
  · refine (new_some op at_ code w (by simpa using hc)).mono fun e w' ⟨h1, h2⟩ => ?_
    subst h2
    refine ⟨_, h1, .inr ⟨hc, [], op, at_, ⟨w.heap.size, 0, none⟩, ?_, by simp, rfl⟩, by go_grown⟩
    exact Lk.cons w.heap.size op at_ code .nilIface [] (heap_alloc_new w _) (Lk.nil _)
theorem wrap_nil (op : ByteArray) (at_ : Int) (w : World) :
    Calls Tryd.prog 56 #[.string op, .int .i64 at_, .nilIface] w fun e w' => e = .returned .nilIface ∧ w' = w := by
  go_enter Tryd.func56, Tryd.ntmps56
  go_wp2
  go_ret
  exact ⟨rfl, rfl⟩
theorem wrap_some (op : ByteArray) (at_ : Int) (p : Addr) (w : World) :
    Calls Tryd.prog 56 #[.string op, .int .i64 at_, .iface 94 (.pointer (some p))] w fun e w' => e = .returned (.iface 94 (.pointer (some ⟨w.heap.size, 0, none⟩))) ∧ w' = w.alloc (.cells #[.string op, .int .i64 at_, .int .i64 0, .iface 94 (.pointer (some p))] 96) := by
  go_enter Tryd.func56, Tryd.ntmps56
  go_wp2
  go_ret
  exact ⟨rfl, rfl⟩
theorem wrap_code {w : World} {v : Value} {code : Int} (op : ByteArray) (at_ : Int) (h : Fault w v code) (hd : code ≠ 0 → ∃ op a p, Lk w v [(op, a, code)] ∧ v = .iface 94 (.pointer (some p))) :
    Calls Tryd.prog 56 #[.string op, .int .i64 at_, v] w fun e w' => ∃ u, e = .returned u ∧ Fault w' u code ∧ Below w.heap.size w w' := by
  rcases h with ⟨rfl, rfl⟩ | ⟨h1, _⟩
  · exact (wrap_nil op at_ w).mono fun e w' ⟨h1, h2⟩ => by subst h2; exact ⟨_, h1, Fault.nil _, Below.refl _ _⟩
  · obtain ⟨op', a', p, hk, rfl⟩ := hd h1
    refine (wrap_some op at_ p w).mono fun e w' ⟨h3, h4⟩ => ?_
    subst h4
    have hb : Below w.heap.size w (w.alloc (.cells #[.string op, .int .i64 at_, .int .i64 0, .iface 94 (.pointer (some p))] 96)) := by go_grown
    exact ⟨_, h3, .inr ⟨h1, [(op, at_, 0)], op', a', ⟨w.heap.size, 0, none⟩, Lk.cons w.heap.size op at_ 0 _ _ (heap_alloc_new w _) (hk.stays hb), by simp, rfl⟩, hb⟩

/-- An error of one link. -/
def Fault1 (w : World) (v : Value) (code : Int) : Prop := (code = 0 ∧ v = .nilIface) ∨ (code ≠ 0 ∧ ∃ op a p, Lk w v [(op, a, code)] ∧ v = .iface 94 (.pointer (some p)))
theorem Fault1.fault {w : World} {v : Value} {code : Int} (h : Fault1 w v code) : Fault w v code := by
  rcases h with h | ⟨h, op, a, p, h1, h2⟩
  · exact .inl h
  · exact .inr ⟨h, [], op, a, p, h1, by simp, h2⟩
theorem Fault1.below {w w' : World} {v : Value} {code : Int} (h : Fault1 w v code) (hb : Below w.heap.size w w') : Fault1 w' v code := by
  rcases h with h | ⟨h1, op, a, p, h2, h4⟩
  · exact .inl h
  · exact .inr ⟨h1, op, a, p, h2.stays hb, h4⟩
theorem new_code1 (op : ByteArray) (at_ code : Int) (w : World) : Calls Tryd.prog 30 #[.string op, .int .i64 at_, .int .i64 code] w fun e w' => ∃ v, e = .returned v ∧ Fault1 w' v code ∧ Below w.heap.size w w' := by
  by_cases hc : code = 0
  · subst hc
    exact (new_zero op at_ w).mono fun e w' ⟨h1, h2⟩ => by subst h2; exact ⟨_, h1, .inl ⟨rfl, rfl⟩, Below.refl _ _⟩
  · refine (new_some op at_ code w (by simpa using hc)).mono fun e w' ⟨h1, h2⟩ => ?_
    subst h2
    refine ⟨_, h1, .inr ⟨hc, op, at_, ⟨w.heap.size, 0, none⟩, ?_, rfl⟩, by go_grown⟩
    exact Lk.cons w.heap.size op at_ code .nilIface [] (heap_alloc_new w _) (Lk.nil _)
theorem wrap_code1 {w : World} {v : Value} {code : Int} (op : ByteArray) (at_ : Int) (h : Fault1 w v code) :
    Calls Tryd.prog 56 #[.string op, .int .i64 at_, v] w fun e w' => ∃ u, e = .returned u ∧ Fault w' u code ∧ Below w.heap.size w w' := by
  refine wrap_code op at_ h.fault (fun hc => ?_)
  rcases h with ⟨h, _⟩ | ⟨_, op, a, p, h1, h2⟩
  · exact absurd h hc
  · exact ⟨op, a, p, h1, h2⟩


/-- Bytes in memory, wherever they lie. -/
def Bs (w : World) (v : Value) (l : List Int) : Prop := ∃ b, SlAt w b v (U l)
theorem Bs.form {w : World} {v : Value} {l : List Int} (h : Bs w v l) : ∃ p cap, v = .slice p l.length cap ∧ l.length ≤ cap ∧ cap ≤ maxLen := by
  obtain ⟨b, h⟩ := h
  have := h.form
  rw [U_length] at this
  exact this
theorem Bs.stays {w w' : World} {v : Value} {l : List Int} (h : Bs w v l) (hb : Below w.heap.size w w') : Bs w' v l := by
  obtain ⟨b, h⟩ := h
  exact ⟨b, h.stays hb⟩
theorem Bs.nil (w : World) : Bs w (.slice none 0 0) [] := ⟨0, SlAt.nil w 0⟩
theorem Bs.own {w : World} {B n : Nat} {v : Value} {l : List Int} (h : w.ownsRow B 5 1 v n (U l)) : Bs w v l := by
  obtain ⟨b, _, hs⟩ := own_sl h
  exact ⟨b, hs⟩

/-- Bytes in memory, in a block of bytes. -/
def Bs5 (w : World) (v : Value) (l : List Int) : Prop := ∃ b, SlAt w b v (U l) ∧ T5 w b (U l)
theorem Bs5.bs {w : World} {v : Value} {l : List Int} (h : Bs5 w v l) : Bs w v l := by
  obtain ⟨b, h, _⟩ := h
  exact ⟨b, h⟩
theorem Bs5.stays {w w' : World} {v : Value} {l : List Int} (h : Bs5 w v l) (hb : Below w.heap.size w w') : Bs5 w' v l := by
  obtain ⟨b, h, k⟩ := h
  exact ⟨b, h.stays hb, k.keeps (hb.block b)⟩
theorem Bs5.nil (w : World) : Bs5 w (.slice none 0 0) [] := ⟨0, SlAt.nil w 0, .inl rfl⟩
theorem Bs5.own {w : World} {B n : Nat} {v : Value} {l : List Int} (h : w.ownsRow B 5 1 v n (U l)) : Bs5 w v l := by
  obtain ⟨b, _, hs, ht⟩ := own_sl5 h
  exact ⟨b, hs, ht⟩
theorem Bs5.kept {w w' : World} {row : Option Nat} {v : Value} {l : List Int} (h : Bs5 w v l) (hg : w.grownBy w' row) (hr : ∀ g, row = some g → ∃ cur T fr, w.heap[g]? = some (.cells cur T fr) ∧ T ≠ 5) : Bs5 w' v l := by
  obtain ⟨b, h, k⟩ := h
  rcases k with k | ⟨cur, fr, k⟩
  · rcases h with h | ⟨a, cap, h1, h2, h3, _⟩
    · exact ⟨b, .inl h, .inl k⟩
    · exact ⟨b, .inr ⟨a, cap, h1, h2, h3, .inl k⟩, .inl k⟩
  · have hne : some b ≠ row := by
      intro e
      obtain ⟨cur', T, fr', h1, h2⟩ := hr b e.symm
      rw [k] at h1
      simp at h1
      exact h2 h1.2.1.symm
    have hb : b < w.heap.size → w'.heap[b]? = w.heap[b]? := fun hlt => hg.block b hlt hne
    exact ⟨b, h.keeps hg.size hb, .inr ⟨cur, fr, by rw [hb (lt_of_block k)]; exact k⟩⟩
theorem Bs5.grown {w w' : World} {g : Nat} {cur : Array Value} {T : TypeId} {fr : Nat × Nat} {v : Value} {l : List Int} (h : Bs5 w v l) (hg : w.grownBy w' (some g)) (ht : w.heap[g]? = some (.cells cur T fr)) (hT : T ≠ 5) : Bs5 w' v l :=
  h.kept hg (fun k hk => by cases hk; exact ⟨cur, T, fr, ht, hT⟩)

theorem Bs5.ne {w : World} {g : Nat} {cur : Array Value} {T : TypeId} {fr : Nat × Nat} {v : Value} {l : List Int} (h : Bs5 w v l) (ht : w.heap[g]? = some (.cells cur T fr)) (hT : T ≠ 5) : ∃ b, b ≠ g ∧ SlAt w b v (U l) ∧ T5 w b (U l) := by
  obtain ⟨b, h, k⟩ := h
  rcases k with k | ⟨cur', fr', k⟩
  · rcases h with h | ⟨a, cap, h1, h2, h3, _⟩
    · exact ⟨g + 1, by omega, .inl h, .inl k⟩
    · exact ⟨g + 1, by omega, .inr ⟨a, cap, h1, h2, h3, .inl k⟩, .inl k⟩
  · refine ⟨b, ?_, h, .inr ⟨cur', fr', k⟩⟩
    intro e
    subst e
    rw [k] at ht
    simp at ht
    exact hT ht.2.1.symm
theorem Rd.mk5 {w : World} {g : Nat} {bs : List Int} {a : Nat} {code : Int} {sv : Value} (h : w.heap[g]? = some (.cells #[sv, .int .i64 a, .int .i64 code] 112 (0, 0))) (h5 : Bs5 w sv bs) (ha : a ≤ bs.length) : Rd w g bs a code := by
  obtain ⟨b, k1, k2, k3⟩ := h5.ne h (by decide)
  exact ⟨sv, b, h, k2, k1, ha, k3⟩
theorem Rd.bs5 {w : World} {g : Nat} {bs : List Int} {a : Nat} {code : Int} (h : Rd w g bs a code) : ∃ sv, w.heap[g]? = some (.cells #[sv, .int .i64 a, .int .i64 code] 112 (0, 0)) ∧ Bs5 w sv bs ∧ a ≤ bs.length := by
  obtain ⟨sv, b, h1, h2, _, h4, h5⟩ := h
  exact ⟨sv, h1, ⟨b, h2, h5⟩, h4⟩

/-- A block that holds no bytes. -/
def NoB (w : World) (g : Nat) : Prop := ∀ off u, w.cell? ⟨g, off, none⟩ ≠ some (.int .u8 u)
/-- All bytes stay. -/
def BK (w w' : World) : Prop := ∀ v l, Bs w v l → Bs w' v l
theorem BK.trans {a b c : World} (h : BK a b) (k : BK b c) : BK a c := fun v l x => k v l (h v l x)
theorem BK.refl (a : World) : BK a a := fun _ _ x => x
theorem BK.below {w w' : World} (hb : Below w.heap.size w w') : BK w w' := fun _ _ x => x.stays hb
/-- Bytes lie in no block that holds none. -/
theorem Bs.off {w : World} {v : Value} {l : List Int} {g : Nat} (h : Bs w v l) (hn : NoB w g) : ∃ b, b ≠ g ∧ SlAt w b v (U l) := by
  obtain ⟨b, h⟩ := h
  by_cases e : b = g
  · subst e
    rcases h with h | ⟨a, cap, h1, h2, h3, h4⟩
    · exact ⟨b + 1, by omega, .inl h⟩
    · rcases h4 with h4 | ⟨off, h5, h6, h7⟩
      · exact ⟨b + 1, by omega, .inr ⟨a, cap, h1, h2, h3, .inl h4⟩⟩
      · cases l with
        | nil => exact ⟨b + 1, by omega, .inr ⟨a, cap, h1, h2, h3, .inl rfl⟩⟩
        | cons x r => exact absurd (h7 0 (.int .u8 x) rfl) (hn _ _)
  · exact ⟨b, e, h⟩
theorem BK.grown {w w' : World} {g : Nat} (hg : w.grownBy w' (some g)) (hn : NoB w g) : BK w w' := by
  intro v l h
  obtain ⟨b, hb, hs⟩ := h.off hn
  exact ⟨b, hs.grown hg hb⟩
theorem Rd.nob {w : World} {g : Nat} {bs : List Int} {a : Nat} {code : Int} (h : Rd w g bs a code) : NoB w g := by
  obtain ⟨sv, b, h1, h2, _⟩ := h
  obtain ⟨p, cap, rfl, _⟩ := h2.form
  intro off u e
  simp only [World.cell?, h1] at e
  rcases off with _ | _ | _ | off <;> simp at e
theorem _root_.Go.Proofs.YtgmghekgelmmcaaDoor.ErrT.grown {w w' : World} {g : Nat} {bs : List Int} {a : Nat} {code : Int} (h : ErrT w) (hr : Rd w g bs a code) (hg : w.grownBy w' (some g)) : ErrT w' := by
  have hlt := lt_of_cell h
  unfold ErrT at h ⊢
  have hne : (0 : Nat) ≠ g := by
    intro e
    subst e
    obtain ⟨sv, b, h1, h2, _⟩ := hr
    obtain ⟨p, cap, rfl, _⟩ := h2.form
    simp [World.cell?, h1] at h
  rw [World.cell?_of_block (w := w) (hg.block 0 hlt (by simpa using hne))]
  exact h

/-- A string as bytes. -/
theorem conv_bytes (w : World) (k : ByteArray) (hk : k.size ≤ maxLen) : ∃ p cap w', (convert 9 22 (.string k)).run Tryd.prog w = .ok (.slice p k.size cap) w' ∧ Bs w' (.slice p k.size cap) (kb k) ∧ Below w.heap.size w w' := by
  refine ⟨_, _, _, run_bytes_of_string w 9 22 5 k Tryd.underlying9 Tryd.underlying22 Tryd.underlying5, ?_, ?_⟩
  · have hl : (U (kb k)).length = k.size := by rw [U_length, kb_length]
    have hn := heap_alloc_new w.drew (.cells (bytesRow k (grownCap w k.size 0 5)) 5 ((bytesRow k (grownCap w k.size 0 5)).size, (bytesRow k (grownCap w k.size 0 5)).size + 1))
    refine ⟨w.heap.size, .inr ⟨⟨w.heap.size, 0, none⟩, _, by rw [hl], by rw [hl]; exact grownCap_ge _ _ _ _, grownCap_le_maxLen _ _ _ _ hk, .inr ⟨0, rfl, by simp, fun j u hj => ?_⟩⟩⟩
    have hj2 : j < k.data.size := by
      have := (List.getElem?_eq_some_iff.1 hj).1
      rw [hl] at this
      exact this
    have e : (bytesRow k (grownCap w k.size 0 5))[0 + j]? = some u := by
      unfold bytesRow
      rw [Nat.zero_add, Array.getElem?_append_left (by simpa using hj2)]
      rw [← hj]
      simp [U, kb, List.getElem?_map, Array.getElem?_map]
      rfl
    have hn' : (w.drew.alloc (.cells (bytesRow k (grownCap w k.size 0 5)) 5 ((bytesRow k (grownCap w k.size 0 5)).size, (bytesRow k (grownCap w k.size 0 5)).size + 1))).heap[w.heap.size]? = some (.cells (bytesRow k (grownCap w k.size 0 5)) 5 ((bytesRow k (grownCap w k.size 0 5)).size, (bytesRow k (grownCap w k.size 0 5)).size + 1)) := hn
    simp only [World.cell?, hn']
    exact e
  · exact (Below.refl w.heap.size w.drew).alloc (Nat.le_refl _) _ |> fun h => ⟨h.os, h.tape, h.output, h.size, h.block⟩
/-- Bytes as a string. -/
theorem conv_any {w : World} {v : Value} {b : List Int} (h : Bs w v b) : (convert 22 9 v).run Tryd.prog w = .ok (.string (strB b)) w := by
  obtain ⟨bb, h⟩ := h
  obtain ⟨p, cap, hv, _, _, hel⟩ := h.each
  rw [U_length] at hv
  subst hv
  cases p with
  | none =>
    have hb : b = [] := by
      cases b with
      | nil => rfl
      | cons x r => obtain ⟨_, e, _⟩ := hel 0 (.int .u8 x) rfl; cases e
    subst hb
    simp [convert, Conv.bytesToString, strB]
  | some a =>
    rw [run_convert_bytes_string w 22 9 5 _ _ _ Tryd.underlying22 Tryd.underlying5 Tryd.underlying9]
    refine run_bytesToString w _ _ _ b ?_
    have := run_loadCells_list (P := Tryd.prog) w a (U b) (fun j u hj => by
      obtain ⟨off, e, _, hc⟩ := hel j u hj
      simp only [Option.some.injEq] at e
      subst e
      rw [add_off]; exact hc)
    rw [U_length] at this
    exact this
end Go.Proofs.YtgmghekgelmmcaaDoor.Ite
