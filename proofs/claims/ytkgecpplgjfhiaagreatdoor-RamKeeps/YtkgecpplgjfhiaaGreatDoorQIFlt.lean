/-
  Faults in memory, and bytes wherever they lie.
-/
import Derived.Test.YtkgecpplgjfhiaaGreatDoorQISame
import Derived.Laws.BytesString
import Derived.Laws.IdiomStrings
import Derived.Deep.RegionHeld3
import Derived.Deep.MidRow
namespace Go.Proofs.YtkgecpplgjfhiaaGreatDoor.Ite
open Go.RowKit

theorem numG_cons (most n c : Int) (i : Nat) (r : List Int) : numG most n i (c :: r) =
    if i = 0 ∧ c = 128 then (0, 0, 5) else if most / 128 < n then (0, 0, 2)
    else if 128 ≤ c then numG most (n * 128 + c % 128) (i + 1) r
    else if most < n * 128 + c % 128 then (0, 0, 2) else (n * 128 + c % 128, i + 1, 0) := rfl

theorem drop_cons {l : List Int} {k : Nat} {x : Int} (h : l[k]? = some x) : l.drop k = x :: l.drop (k + 1) := by
  obtain ⟨hl, rfl⟩ := List.getElem?_eq_some_iff.1 h
  exact List.drop_eq_getElem_cons hl

/-- A number's three answers as a value. -/
def triple (r : Int × Nat × Int) : Value := .tuple #[.int .i64 r.1, .int .i64 r.2.1, .int .i64 r.2.2]

end Go.Proofs.YtkgecpplgjfhiaaGreatDoor.Ite

namespace Go.Proofs.YtkgecpplgjfhiaaGreatDoor.Ite

/-- A string's bytes as numbers. -/
def kb (k : ByteArray) : List Int := k.data.toList.map fun b => (b.toNat : Int)
theorem kb_length (k : ByteArray) : (kb k).length = k.size := by
  unfold kb
  rw [List.length_map, Array.length_toList]
  rfl
theorem kb_byt (k : ByteArray) : Byt (kb k) := by
  intro x hx
  obtain ⟨b, _, rfl⟩ := List.mem_map.1 hx
  have := b.toNat_lt
  omega
/-- Bytes as a string. -/
def strB (b : List Int) : ByteArray := b.foldl (fun r n => r.push (UInt8.ofNat n.toNat)) ByteArray.empty
theorem strB_data (b : List Int) (r : ByteArray) : (b.foldl (fun r n => r.push (UInt8.ofNat n.toNat)) r).data.toList = r.data.toList ++ b.map fun n => UInt8.ofNat n.toNat := by
  induction b generalizing r with
  | nil => simp
  | cons x s ih =>
    show (List.foldl _ (r.push (UInt8.ofNat x.toNat)) s).data.toList = _
    rw [ih]
    simp [ByteArray.push]
theorem strB_toList (b : List Int) : (strB b).data.toList = b.map fun n => UInt8.ofNat n.toNat := by
  unfold strB
  rw [strB_data]
  simp
theorem strB_kb (k : ByteArray) : strB (kb k) = k := by
  have e : (strB (kb k)).data.toList = k.data.toList := by
    rw [strB_toList, kb, List.map_map]
    conv => rhs; rw [← List.map_id k.data.toList]
    apply List.map_congr_left
    intro x _
    simp
  exact ByteArray.ext (Array.toList_inj.1 e)
theorem kb_strB {b : List Int} (h : Byt b) : kb (strB b) = b := by
  unfold kb
  rw [strB_toList, List.map_map]
  conv => rhs; rw [← List.map_id b]
  apply List.map_congr_left
  intro x hx
  have := h x hx
  simp
  omega
theorem strB_size (b : List Int) : (strB b).size = b.length := by
  have := congrArg List.length (strB_toList b)
  rw [List.length_map, Array.length_toList] at this
  exact this

/-- An entry. -/
structure Ent where
  key : ByteArray
  ver : Int
  asof : Int
  ends : Int
  val : List Int

/-- No entry. -/
def zeroE : Ent := ⟨ByteArray.empty, 0, 0, 0, []⟩

/-- What is wrong first with numbers. -/
def numsC (v a e : Int) : Int := if v < 1 ∨ 1099511627776 < v ∨ a < v ∨ 1099511627776 < a ∨ e < 0 ∨ 1099511627776 < e then 2 else 0
/-- What is wrong with an entry, by its parts. -/
def chk (k : ByteArray) (v a e : Int) (n : Nat) : Int := if keyC k ≠ 0 then keyC k else if numsC v a e ≠ 0 then numsC v a e else if 4096 < n then 3 else 0
def checkE (x : Ent) : Int := chk x.key x.ver x.asof x.ends x.val.length

theorem chk_ok {k : ByteArray} {v a e : Int} {n : Nat} (h : chk k v a e n = 0) : k.size ≤ 40 ∧ 1 ≤ v ∧ v ≤ 1099511627776 ∧ v ≤ a ∧ a ≤ 1099511627776 ∧ 0 ≤ e ∧ e ≤ 1099511627776 ∧ n ≤ 4096 := by
  unfold chk at h
  by_cases h1 : keyC k = 0
  · rw [if_neg (by simpa using h1)] at h
    by_cases h2 : numsC v a e = 0
    · rw [if_neg (by simpa using h2)] at h
      have h3 : ¬ 4096 < n := by intro h3; rw [if_pos h3] at h; cases h
      have k1 : k.size ≤ 40 := by
        unfold keyC at h1
        split at h1
        · cases h1
        · split at h1
          · cases h1
          · omega
      unfold numsC at h2
      split at h2
      · cases h2
      · omega
    · rw [if_pos (by simpa using h2)] at h
      exact absurd h h2
  · rw [if_pos (by simpa using h1)] at h
    exact absurd h h1

/-- Bytes with how many they are ahead. -/
def textB (t : List Int) : List Int := dg t.length (lenN t.length) ++ t
/-- An entry's bytes. -/
def rowB (x : Ent) : List Int := textB (kb x.key) ++ puts [x.ver, x.asof, x.ends] ++ textB x.val
theorem textB_length (t : List Int) : (textB t).length = lenN t.length + t.length := by simp [textB, dg_length]
theorem textB_byt {t : List Int} (h : Byt t) : Byt (textB t) := (dg_byt _ _).append h
theorem rowB_byt {x : Ent} (h : Byt x.val) : Byt (rowB x) := ((textB_byt (kb_byt _)).append (puts_byt _)).append (textB_byt h)
/-- How many bytes an entry takes. -/
def sizeP (n : Nat) (v a e : Int) (m : Nat) : Nat := lenN n + n + (lenN v + lenN a + lenN e) + (lenN m + m)
def sizeE (x : Ent) : Nat := sizeP x.key.size x.ver x.asof x.ends x.val.length
theorem rowB_length (x : Ent) : (rowB x).length = sizeE x := by
  simp [rowB, textB_length, puts, dg_length, kb_length, sizeE, sizeP]; omega
theorem sizeE_le {x : Ent} (h : checkE x = 0) : sizeE x ≤ 40 + 45 + x.val.length := by
  obtain ⟨h1, _⟩ := chk_ok h
  have a1 := lenN_bd x.key.size
  have a2 := lenN_bd x.ver
  have a3 := lenN_bd x.asof
  have a4 := lenN_bd x.ends
  have a5 := lenN_bd x.val.length
  unfold sizeE sizeP
  omega

/-- All entries, one behind the other. -/
def allB : List Ent → List Int
  | [] => []
  | x :: r => rowB x ++ allB r
theorem allB_append (a b : List Ent) : allB (a ++ b) = allB a ++ allB b := by
  induction a with
  | nil => rfl
  | cons x r ih => simp [allB, ih]
theorem allB_byt {l : List Ent} (h : ∀ x ∈ l, Byt x.val) : Byt (allB l) := by
  induction l with
  | nil => intro x hx; cases hx
  | cons x r ih => exact (rowB_byt (h x (List.mem_cons_self ..))).append (ih fun y hy => h y (List.mem_cons_of_mem _ hy))

theorem rowB_pos (x : Ent) : 1 ≤ (rowB x).length := by
  rw [rowB_length]
  have := lenN_bd x.ver
  unfold sizeE sizeP
  omega
end Go.Proofs.YtkgecpplgjfhiaaGreatDoor.Ite

namespace Go.Proofs.YtkgecpplgjfhiaaGreatDoor.Ite
open Go.RowKit Go.Extern.Stop Go.Stop Go.Extern

theorem grownBy_trans {w w1 w2 : World} {g : Nat} (h : w.grownBy w1 (some g)) (k : w1.grownBy w2 (some g)) : w.grownBy w2 (some g) :=
  ⟨k.os.trans h.os, k.tape.trans h.tape, k.output.trans h.output, Nat.le_trans h.size k.size, fun i hi hne => (k.block i (Nat.lt_of_lt_of_le hi h.size) hne).trans (h.block i hi hne)⟩

theorem below_grownBy {w w1 : World} (h : Below w.heap.size w w1) (row : Option Nat) : w.grownBy w1 row := ⟨h.os, h.tape, h.output, h.size, fun k hk _ => h.block k hk⟩

theorem setCell_grownBy (w : World) (g j : Nat) (u : Value) : w.grownBy (w.setCell ⟨g, j, none⟩ u) (some g) :=
  ⟨rfl, rfl, rfl, by simp [World.setCell], fun k _ hk => Below.heap_setCell w ⟨g, j, none⟩ u k (by simpa using hk)⟩

theorem hid2 {p : Prop} (h : p) : Hid p := h

/-- A value is, in w's memory, an error of this code; of 0: none. -/
def Fault (w : World) (v : Value) (code : Int) : Prop := (code = 0 ∧ v = .nilIface) ∨ (code ≠ 0 ∧ ∃ dn op a p, Lk w v (dn ++ [(op, a, code)]) ∧ dn.length ≤ 10 ∧ v = .iface 107 (.pointer (some p)))
theorem Fault.nil (w : World) : Fault w .nilIface 0 := .inl ⟨rfl, rfl⟩
theorem Fault.none {w : World} {v : Value} (h : Fault w v 0) : v = .nilIface := by
  rcases h with ⟨_, h⟩ | ⟨h, _⟩
  · exact h
  · exact absurd rfl h
theorem Fault.some {w : World} {v : Value} {code : Int} (h : Fault w v code) (hc : code ≠ 0) : ∃ p, v = .iface 107 (.pointer (some p)) := by
  rcases h with ⟨h, _⟩ | ⟨_, _, _, _, p, _, _, h⟩
  · exact absurd h hc
  · exact ⟨p, h⟩
theorem Fault.below {w w' : World} {v : Value} {code : Int} (h : Fault w v code) (hb : Below w.heap.size w w') : Fault w' v code := by
  rcases h with h | ⟨h1, dn, op, a, p, h2, h3, h4⟩
  · exact .inl h
  · exact .inr ⟨h1, dn, op, a, p, h2.stays hb, h3, h4⟩
theorem of_code {w : World} {v : Value} {code : Int} (hg : ErrT w) (h : Fault w v code) : Calls Tryz.prog 12 #[v] w fun e w' => e = .returned (.int .i64 code) ∧ Below w.heap.size w w' := by
  rcases h with ⟨rfl, rfl⟩ | ⟨_, dn, op, a, p, h2, h3, _⟩
  · exact of_nil w hg
  · exact of_some w hg h2 (by omega)
theorem new_code (op : ByteArray) (at_ code : Int) (w : World) : Calls Tryz.prog 33 #[.string op, .int .i64 at_, .int .i64 code] w fun e w' => ∃ v, e = .returned v ∧ Fault w' v code ∧ Below w.heap.size w w' := by
  by_cases hc : code = 0
  · subst hc
    exact (new_zero op at_ w).mono fun e w' ⟨h1, h2⟩ => by subst h2; exact ⟨_, h1, Fault.nil _, Below.refl _ _⟩
  · refine (new_some op at_ code w (by simpa using hc)).mono fun e w' ⟨h1, h2⟩ => ?_
    subst h2
    refine ⟨_, h1, .inr ⟨hc, [], op, at_, ⟨w.heap.size, 0, none⟩, ?_, by simp, rfl⟩, by go_grown⟩
    exact Lk.cons w.heap.size op at_ code .nilIface [] (heap_alloc_new w _) (Lk.nil _)
theorem wrap_nil (op : ByteArray) (at_ : Int) (w : World) :
    Calls Tryz.prog 37 #[.string op, .int .i64 at_, .nilIface] w fun e w' => e = .returned .nilIface ∧ w' = w := by
  go_enter Tryz.func37, Tryz.ntmps37
  go_wp2
  go_ret
  exact ⟨rfl, rfl⟩
theorem wrap_some (op : ByteArray) (at_ : Int) (p : Addr) (w : World) :
    Calls Tryz.prog 37 #[.string op, .int .i64 at_, .iface 107 (.pointer (some p))] w fun e w' => e = .returned (.iface 107 (.pointer (some ⟨w.heap.size, 0, none⟩))) ∧ w' = w.alloc (.cells #[.string op, .int .i64 at_, .int .i64 0, .iface 107 (.pointer (some p))] 109) := by
  go_enter Tryz.func37, Tryz.ntmps37
  go_wp2
  go_ret
  exact ⟨rfl, rfl⟩
theorem wrap_code {w : World} {v : Value} {code : Int} (op : ByteArray) (at_ : Int) (h : Fault w v code) (hd : code ≠ 0 → ∃ op a p, Lk w v [(op, a, code)] ∧ v = .iface 107 (.pointer (some p))) :
    Calls Tryz.prog 37 #[.string op, .int .i64 at_, v] w fun e w' => ∃ u, e = .returned u ∧ Fault w' u code ∧ Below w.heap.size w w' := by
  rcases h with ⟨rfl, rfl⟩ | ⟨h1, _⟩
  · exact (wrap_nil op at_ w).mono fun e w' ⟨h1, h2⟩ => by subst h2; exact ⟨_, h1, Fault.nil _, Below.refl _ _⟩
  · obtain ⟨op', a', p, hk, rfl⟩ := hd h1
    refine (wrap_some op at_ p w).mono fun e w' ⟨h3, h4⟩ => ?_
    subst h4
    have hb : Below w.heap.size w (w.alloc (.cells #[.string op, .int .i64 at_, .int .i64 0, .iface 107 (.pointer (some p))] 109)) := by go_grown
    exact ⟨_, h3, .inr ⟨h1, [(op, at_, 0)], op', a', ⟨w.heap.size, 0, none⟩, Lk.cons w.heap.size op at_ 0 _ _ (heap_alloc_new w _) (hk.stays hb), by simp, rfl⟩, hb⟩

/-- An error of one link. -/
def Fault1 (w : World) (v : Value) (code : Int) : Prop := (code = 0 ∧ v = .nilIface) ∨ (code ≠ 0 ∧ ∃ op a p, Lk w v [(op, a, code)] ∧ v = .iface 107 (.pointer (some p)))
theorem Fault1.fault {w : World} {v : Value} {code : Int} (h : Fault1 w v code) : Fault w v code := by
  rcases h with h | ⟨h, op, a, p, h1, h2⟩
  · exact .inl h
  · exact .inr ⟨h, [], op, a, p, h1, by simp, h2⟩
theorem Fault1.below {w w' : World} {v : Value} {code : Int} (h : Fault1 w v code) (hb : Below w.heap.size w w') : Fault1 w' v code := by
  rcases h with h | ⟨h1, op, a, p, h2, h4⟩
  · exact .inl h
  · exact .inr ⟨h1, op, a, p, h2.stays hb, h4⟩
theorem new_code1 (op : ByteArray) (at_ code : Int) (w : World) : Calls Tryz.prog 33 #[.string op, .int .i64 at_, .int .i64 code] w fun e w' => ∃ v, e = .returned v ∧ Fault1 w' v code ∧ Below w.heap.size w w' := by
  by_cases hc : code = 0
  · subst hc
    exact (new_zero op at_ w).mono fun e w' ⟨h1, h2⟩ => by subst h2; exact ⟨_, h1, .inl ⟨rfl, rfl⟩, Below.refl _ _⟩
  · refine (new_some op at_ code w (by simpa using hc)).mono fun e w' ⟨h1, h2⟩ => ?_
    subst h2
    refine ⟨_, h1, .inr ⟨hc, op, at_, ⟨w.heap.size, 0, none⟩, ?_, rfl⟩, by go_grown⟩
    exact Lk.cons w.heap.size op at_ code .nilIface [] (heap_alloc_new w _) (Lk.nil _)
theorem wrap_code1 {w : World} {v : Value} {code : Int} (op : ByteArray) (at_ : Int) (h : Fault1 w v code) :
    Calls Tryz.prog 37 #[.string op, .int .i64 at_, v] w fun e w' => ∃ u, e = .returned u ∧ Fault w' u code ∧ Below w.heap.size w w' := by
  refine wrap_code op at_ h.fault (fun hc => ?_)
  rcases h with ⟨h, _⟩ | ⟨_, op, a, p, h1, h2⟩
  · exact absurd h hc
  · exact ⟨op, a, p, h1, h2⟩


/-- Bytes in memory, wherever they lie. -/
def Bs (w : World) (v : Value) (l : List Int) : Prop := ∃ b, SlAt w b v (U l)
theorem Bs.form {w : World} {v : Value} {l : List Int} (h : Bs w v l) : ∃ p cap, v = .slice p l.length cap ∧ l.length ≤ cap ∧ cap ≤ maxLen := by
  obtain ⟨b, h⟩ := h
  have := h.form
  rw [U_length] at this
  exact this
theorem Bs.stays {w w' : World} {v : Value} {l : List Int} (h : Bs w v l) (hb : Below w.heap.size w w') : Bs w' v l := by
  obtain ⟨b, h⟩ := h
  exact ⟨b, h.stays hb⟩
theorem Bs.nil (w : World) : Bs w (.slice none 0 0) [] := ⟨0, SlAt.nil w 0⟩
theorem Bs.own {w : World} {B n : Nat} {v : Value} {l : List Int} (h : w.ownsRow B 5 1 v n (U l)) : Bs w v l := by
  obtain ⟨b, _, hs⟩ := own_sl h
  exact ⟨b, hs⟩

/-- Bytes in memory, in a block of bytes. -/
def Bs5 (w : World) (v : Value) (l : List Int) : Prop := ∃ b, SlAt w b v (U l) ∧ T5 w b (U l)
theorem Bs5.bs {w : World} {v : Value} {l : List Int} (h : Bs5 w v l) : Bs w v l := by
  obtain ⟨b, h, _⟩ := h
  exact ⟨b, h⟩
theorem Bs5.stays {w w' : World} {v : Value} {l : List Int} (h : Bs5 w v l) (hb : Below w.heap.size w w') : Bs5 w' v l := by
  obtain ⟨b, h, k⟩ := h
  exact ⟨b, h.stays hb, k.keeps (hb.block b)⟩
theorem Bs5.nil (w : World) : Bs5 w (.slice none 0 0) [] := ⟨0, SlAt.nil w 0, .inl rfl⟩
theorem Bs5.own {w : World} {B n : Nat} {v : Value} {l : List Int} (h : w.ownsRow B 5 1 v n (U l)) : Bs5 w v l := by
  obtain ⟨b, _, hs, ht⟩ := own_sl5 h
  exact ⟨b, hs, ht⟩
theorem Bs5.kept {w w' : World} {row : Option Nat} {v : Value} {l : List Int} (h : Bs5 w v l) (hg : w.grownBy w' row) (hr : ∀ g, row = some g → ∃ cur T fr, w.heap[g]? = some (.cells cur T fr) ∧ T ≠ 5) : Bs5 w' v l := by
  obtain ⟨b, h, k⟩ := h
  rcases k with k | ⟨cur, fr, k⟩
  · rcases h with h | ⟨a, cap, h1, h2, h3, _⟩
    · exact ⟨b, .inl h, .inl k⟩
    · exact ⟨b, .inr ⟨a, cap, h1, h2, h3, .inl k⟩, .inl k⟩
  · have hne : some b ≠ row := by
      intro e
      obtain ⟨cur', T, fr', h1, h2⟩ := hr b e.symm
      rw [k] at h1
      simp at h1
      exact h2 h1.2.1.symm
    have hb : b < w.heap.size → w'.heap[b]? = w.heap[b]? := fun hlt => hg.block b hlt hne
    exact ⟨b, h.keeps hg.size hb, .inr ⟨cur, fr, by rw [hb (lt_of_block k)]; exact k⟩⟩
theorem Bs5.grown {w w' : World} {g : Nat} {cur : Array Value} {T : TypeId} {fr : Nat × Nat} {v : Value} {l : List Int} (h : Bs5 w v l) (hg : w.grownBy w' (some g)) (ht : w.heap[g]? = some (.cells cur T fr)) (hT : T ≠ 5) : Bs5 w' v l :=
  h.kept hg (fun k hk => by cases hk; exact ⟨cur, T, fr, ht, hT⟩)

theorem Bs5.ne {w : World} {g : Nat} {cur : Array Value} {T : TypeId} {fr : Nat × Nat} {v : Value} {l : List Int} (h : Bs5 w v l) (ht : w.heap[g]? = some (.cells cur T fr)) (hT : T ≠ 5) : ∃ b, b ≠ g ∧ SlAt w b v (U l) ∧ T5 w b (U l) := by
  obtain ⟨b, h, k⟩ := h
  rcases k with k | ⟨cur', fr', k⟩
  · rcases h with h | ⟨a, cap, h1, h2, h3, _⟩
    · exact ⟨g + 1, by omega, .inl h, .inl k⟩
    · exact ⟨g + 1, by omega, .inr ⟨a, cap, h1, h2, h3, .inl k⟩, .inl k⟩
  · refine ⟨b, ?_, h, .inr ⟨cur', fr', k⟩⟩
    intro e
    subst e
    rw [k] at ht
    simp at ht
    exact hT ht.2.1.symm
/-- A block that holds no bytes. -/
def NoB (w : World) (g : Nat) : Prop := ∀ off u, w.cell? ⟨g, off, none⟩ ≠ some (.int .u8 u)
/-- All bytes stay. -/
def BK (w w' : World) : Prop := ∀ v l, Bs w v l → Bs w' v l
theorem BK.trans {a b c : World} (h : BK a b) (k : BK b c) : BK a c := fun v l x => k v l (h v l x)
theorem BK.refl (a : World) : BK a a := fun _ _ x => x
theorem BK.below {w w' : World} (hb : Below w.heap.size w w') : BK w w' := fun _ _ x => x.stays hb
/-- Bytes lie in no block that holds none. -/
theorem Bs.off {w : World} {v : Value} {l : List Int} {g : Nat} (h : Bs w v l) (hn : NoB w g) : ∃ b, b ≠ g ∧ SlAt w b v (U l) := by
  obtain ⟨b, h⟩ := h
  by_cases e : b = g
  · subst e
    rcases h with h | ⟨a, cap, h1, h2, h3, h4⟩
    · exact ⟨b + 1, by omega, .inl h⟩
    · rcases h4 with h4 | ⟨off, h5, h6, h7⟩
      · exact ⟨b + 1, by omega, .inr ⟨a, cap, h1, h2, h3, .inl h4⟩⟩
      · cases l with
        | nil => exact ⟨b + 1, by omega, .inr ⟨a, cap, h1, h2, h3, .inl rfl⟩⟩
        | cons x r => exact absurd (h7 0 (.int .u8 x) rfl) (hn _ _)
  · exact ⟨b, e, h⟩
theorem BK.grown {w w' : World} {g : Nat} (hg : w.grownBy w' (some g)) (hn : NoB w g) : BK w w' := by
  intro v l h
  obtain ⟨b, hb, hs⟩ := h.off hn
  exact ⟨b, hs.grown hg hb⟩
/-- A string as bytes. -/
theorem conv_bytes (w : World) (k : ByteArray) (hk : k.size ≤ maxLen) : ∃ p cap w', (convert 9 23 (.string k)).run Tryz.prog w = .ok (.slice p k.size cap) w' ∧ Bs w' (.slice p k.size cap) (kb k) ∧ Below w.heap.size w w' := by
  refine ⟨_, _, _, run_bytes_of_string w 9 23 5 k Tryz.underlying9 Tryz.underlying23 Tryz.underlying5, ?_, ?_⟩
  · have hl : (U (kb k)).length = k.size := by rw [U_length, kb_length]
    have hn := heap_alloc_new w.drew (.cells (bytesRow k (grownCap w k.size 0 5)) 5 ((bytesRow k (grownCap w k.size 0 5)).size, (bytesRow k (grownCap w k.size 0 5)).size + 1))
    refine ⟨w.heap.size, .inr ⟨⟨w.heap.size, 0, none⟩, _, by rw [hl], by rw [hl]; exact grownCap_ge _ _ _ _, grownCap_le_maxLen _ _ _ _ hk, .inr ⟨0, rfl, by simp, fun j u hj => ?_⟩⟩⟩
    have hj2 : j < k.data.size := by
      have := (List.getElem?_eq_some_iff.1 hj).1
      rw [hl] at this
      exact this
    have e : (bytesRow k (grownCap w k.size 0 5))[0 + j]? = some u := by
      unfold bytesRow
      rw [Nat.zero_add, Array.getElem?_append_left (by simpa using hj2)]
      rw [← hj]
      simp [U, kb, List.getElem?_map, Array.getElem?_map]
      rfl
    have hn' : (w.drew.alloc (.cells (bytesRow k (grownCap w k.size 0 5)) 5 ((bytesRow k (grownCap w k.size 0 5)).size, (bytesRow k (grownCap w k.size 0 5)).size + 1))).heap[w.heap.size]? = some (.cells (bytesRow k (grownCap w k.size 0 5)) 5 ((bytesRow k (grownCap w k.size 0 5)).size, (bytesRow k (grownCap w k.size 0 5)).size + 1)) := hn
    simp only [World.cell?, hn']
    exact e
  · exact (Below.refl w.heap.size w.drew).alloc (Nat.le_refl _) _ |> fun h => ⟨h.os, h.tape, h.output, h.size, h.block⟩
/-- Bytes as a string. -/
theorem conv_any {w : World} {v : Value} {b : List Int} (h : Bs w v b) : (convert 23 9 v).run Tryz.prog w = .ok (.string (strB b)) w := by
  obtain ⟨bb, h⟩ := h
  obtain ⟨p, cap, hv, _, _, hel⟩ := h.each
  rw [U_length] at hv
  subst hv
  cases p with
  | none =>
    have hb : b = [] := by
      cases b with
      | nil => rfl
      | cons x r => obtain ⟨_, e, _⟩ := hel 0 (.int .u8 x) rfl; cases e
    subst hb
    simp [convert, Conv.bytesToString, strB]
  | some a =>
    rw [run_convert_bytes_string w 23 9 5 _ _ _ Tryz.underlying23 Tryz.underlying5 Tryz.underlying9]
    refine run_bytesToString w _ _ _ b ?_
    have := run_loadCells_list (P := Tryz.prog) w a (U b) (fun j u hj => by
      obtain ⟨off, e, _, hc⟩ := hel j u hj
      simp only [Option.some.injEq] at e
      subst e
      rw [add_off]; exact hc)
    rw [U_length] at this
    exact this
end Go.Proofs.YtkgecpplgjfhiaaGreatDoor.Ite
