/-
  A slice of the ticket's acts that came in, opened.
-/
import Derived.Test.YtkbfihnoohhojaaGreatDoorQR10e
import Derived.Test.YtkbfihnoohhojaaGreatDoorQR10d
import Derived.Test.YtkbfihnoohhojaaGreatDoorQOpenF
import Derived.Test.YtkbfihnoohhojaaGreatDoorQTk
import Derived.Test.YtkbfihnoohhojaaGreatDoorQFCrash
import Derived.Test.YtkbfihnoohhojaaGreatDoorQBase
import Derived.ProofKit
import Derived.OpenShut
import Derived.ChangeOld
import Derived.Deep.Strs
namespace Go.Proofs.YtkbfihnoohhojaaGreatDoor
open Go.RowKit

/-- An act, with its values. -/
structure ActT where
  kind : Int
  at_ : Int
  page : Int
  b : List Nat
  keep : List Int
  bv : Value
  kv : Value
/-- What is fine with an act in memory below B. -/
def ActTOk (w : World) (B : Nat) (o : ActT) : Prop := Fla.KLow w B o.kv o.keep ∧ (∃ bb, bb < B ∧ Lea.SlAt w bb o.bv (Lea.U o.b)) ∧ Lea.Byt o.b ∧ (-9223372036854775808 ≤ o.at_ ∧ o.at_ ≤ 9223372036854775807)
def ActsT (w : World) (B : Nat) (v : Value) (os : List ActT) : Prop := ∃ p cap, v = .slice p os.length cap ∧ os.length ≤ cap ∧ cap ≤ maxLen ∧
  ∀ i o, os[i]? = some o → ActTOk w B o ∧ ∃ b off, p = some ⟨b, off, none⟩ ∧ b < B ∧ b < w.heap.size ∧ w.cell? ⟨b, off + i * 5, none⟩ = some (.int .i64 o.kind) ∧ w.cell? ⟨b, off + i * 5 + 1, none⟩ = some (.int .i64 o.at_) ∧ w.cell? ⟨b, off + i * 5 + 2, none⟩ = some (.int .i64 o.page) ∧
    w.cell? ⟨b, off + i * 5 + 3, none⟩ = some o.bv ∧ w.cell? ⟨b, off + i * 5 + 4, none⟩ = some o.kv
theorem klow_kat {w w' : World} {B : Nat} {v : Value} {ks : List Int} (h : Fla.KLow w B v ks) (hb : Below B w w') : Fla.KAt w' v ks := by
  obtain ⟨p, cap, h1, h2, h3, h4⟩ := h
  refine ⟨p, cap, h1, h2, h3, fun k z hk => ?_⟩
  obtain ⟨b, off, q1, q2, q3, q4⟩ := h4 k z hk
  exact ⟨b, off, q1, Nat.lt_of_lt_of_le q3 hb.size, (hb.cell (p := ⟨b, off + k, none⟩) q2).trans q4⟩
def lightT (os : List ActT) : Bool := decide (os.length ≤ 40) && os.all fun o => decide (o.b.length ≤ 300) && decide (o.keep.length ≤ 60)
theorem lightT_len {os : List ActT} (h : lightT os = true) : os.length ≤ 40 := by
  unfold lightT at h
  simp at h
  exact h.1
theorem hid_allT {p : Prop} (h : p) : Hid p := h

set_option maxHeartbeats 1000000 in
theorem lightT_any {w : World} {B : Nat} {v : Value} {os : List ActT} (h : ActsT w B v os) : Calls Tryz.prog 4 #[v] w fun e w' => e = .returned (.bool (lightT os)) ∧ w' = w := by
  obtain ⟨p, cap, rfl, h2, h3, h5⟩ := h
  unfold maxLen at h3
  have HE := hid_allT h5
  clear h5
  by_cases h40 : os.length ≤ 40
  · have hgt : ¬ (40 < (os.length : Int)) := by omega
    go_enter Tryz.func4, Tryz.ntmps4
    go_wp2_with fail
    go_loop [3] (fun i => ∃ k : Nat, i = .int .i64 (k : Int) ∧ k ≤ os.length ∧ Hid (∀ j o, j < k → os[j]? = some o → o.b.length ≤ 300 ∧ o.keep.length ≤ 60)) (fun i => os.length - (intOf i).toNat)
    case atStart => exact ⟨0, rfl, Nat.zero_le _, fun j x hj => by omega⟩
    case round =>
      obtain ⟨k, rfl, hk, HZ⟩ := hrel
      by_cases hlt : k < os.length
      · obtain ⟨o, hx⟩ : ∃ o, os[k]? = some o := ⟨_, List.getElem?_eq_getElem hlt⟩
        obtain ⟨hok, bb, off, rfl, _, hbb, _, _, _, hbc, hc⟩ := HE.out k _ hx
        obtain ⟨kp, kc, hkv, _⟩ := hok.1
        obtain ⟨bx, _, hbs⟩ := hok.2.1
        obtain ⟨sp, sc, hbv, _⟩ := hbs.form
        rw [Lea.U_length] at hbv
        rw [hkv] at hc
        rw [hbv] at hbc
        have hki : (k : Int) < (os.length : Int) := by omega
        have HX := hid_allT hx
        clear hx hok hkv hbs hbv
        by_cases hb0 : o.b.length ≤ 300
        · have hb3 : ¬ (300 < (o.b.length : Int)) := by omega
          by_cases h0 : o.keep.length ≤ 60
          · have hb : ¬ (60 < (o.keep.length : Int)) := by omega
            have H0 := hid_allT h0
            have HB0 := hid_allT hb0
            clear h0 hb0
            go_wp2_with fail
            go_round
            case rel => exact ⟨k + 1, by go_num, by omega, fun j y hj hy => by
              by_cases e : j = k
              · subst e; rw [HX.out] at hy; cases hy; exact ⟨HB0.out, H0.out⟩
              · exact HZ.out j y (by omega) hy⟩
            case measure => simp [intOf]; omega
          · have hb : 60 < (o.keep.length : Int) := by omega
            have HR : Hid (lightT os = false) := by
              show _ = _
              unfold lightT
              rw [Bool.and_eq_false_iff]
              right
              rw [List.all_eq_false]
              exact ⟨o, List.mem_of_getElem? HX.out, by simp; omega⟩
            clear h0 hb0
            go_wp2
            go_ret
            exact ⟨by rw [HR.out]; rfl, rfl⟩
        · have hb3 : 300 < (o.b.length : Int) := by omega
          have HR : Hid (lightT os = false) := by
            show _ = _
            unfold lightT
            rw [Bool.and_eq_false_iff]
            right
            rw [List.all_eq_false]
            exact ⟨o, List.mem_of_getElem? HX.out, by simp; omega⟩
          clear hb0
          go_wp2
          go_ret
          exact ⟨by rw [HR.out]; rfl, rfl⟩
      · have hki : ¬ ((k : Int) < (os.length : Int)) := by omega
        have HR : Hid (lightT os = true) := by
          show _ = _
          unfold lightT
          rw [Bool.and_eq_true]
          refine ⟨by simpa using h40, ?_⟩
          rw [List.all_eq_true]
          intro o ho
          obtain ⟨j, hj⟩ := List.getElem?_of_mem ho
          have := HZ.out j o (by have := (List.getElem?_eq_some_iff.1 hj).1; omega) hj
          simpa using this
        go_wp2
        go_ret
        exact ⟨by rw [HR.out]; rfl, rfl⟩
  · have hgt : 40 < (os.length : Int) := by omega
    have HR : Hid (lightT os = false) := by
      show _ = _
      unfold lightT
      rw [Bool.and_eq_false_iff]
      left
      simpa using h40
    go_enter Tryz.func4, Tryz.ntmps4
    go_wp2
    go_ret
    exact ⟨by rw [HR.out]; rfl, rfl⟩
end Go.Proofs.YtkbfihnoohhojaaGreatDoor

namespace Go.Proofs.YtkbfihnoohhojaaGreatDoor
open Go.RowKit Go.Extern.Stop Go.Stop Go.Extern

theorem sl_low {w : World} {b : Nat} {v : Value} {xs : List Value} (h : Lea.SlAt w b v xs) (h0 : 0 < w.heap.size) : ∃ b', b' < w.heap.size ∧ Lea.SlAt w b' v xs := by
  rcases h with h | ⟨a, cap, h1, h2, h3, h4 | ⟨off, h5, h6, h7⟩⟩
  · exact ⟨0, h0, .inl h⟩
  · exact ⟨0, h0, .inr ⟨a, cap, h1, h2, h3, .inl h4⟩⟩
  · exact ⟨b, h6, .inr ⟨a, cap, h1, h2, h3, .inr ⟨off, h5, h6, h7⟩⟩⟩
theorem kat_one {w : World} {b : Nat} {z : Int} {t : TypeId} {fr : Nat × Nat} (h : w.heap[b]? = some (.cells #[.int .i64 z] t fr)) : Fla.KAt w (.slice (some ⟨b, 0, none⟩) 1 1) [z] := by
  refine ⟨some ⟨b, 0, none⟩, 1, rfl, Nat.le_refl _, by unfold maxLen; decide, fun k x hk => ?_⟩
  rcases k with _ | k
  · simp at hk; subst hk
    exact ⟨b, 0, rfl, (Array.getElem?_eq_some_iff.1 h).1, by simp [World.cell?, h]⟩
  · simp at hk

end Go.Proofs.YtkbfihnoohhojaaGreatDoor

namespace Go.Proofs.YtkbfihnoohhojaaGreatDoor.Lea
open Go.ChangeShapes Go.WideShapes Go.ChangeAt Go.WideMaps Go.WideElems Go.RowKit Go.Deep

theorem sl_of_row {k : IntKind} {W : World} {x : Addr} {len cap : Nat} {zs : List Int} (hl : len ≤ cap) (hm : cap ≤ maxLen) (hz : zs.length = cap) (hcell : ∀ i, i < zs.length → W.cell? (x.add i) = some (.int k (zs.getD i 0))) :
    ∃ b, SlAt W b (.slice (some x) len cap) ((zs.take len).map (Value.int k)) := by
  have hlen : ((zs.take len).map (Value.int k)).length = len := by rw [List.length_map, List.length_take]; omega
  rcases Nat.eq_zero_or_pos len with h0 | hpos
  · subst h0
    exact ⟨0, .inr ⟨x, cap, by rw [hlen], by omega, hm, .inl (by simp)⟩⟩
  · obtain ⟨b, off, spot⟩ := x
    have z := hcell 0 (by omega)
    have hspot : spot = none := by simpa [Addr.add] using World.cell?_spot z
    subst hspot
    have hbl : b < W.heap.size := by
      have := World.block_lt_of_cell? W _ z
      simpa [Addr.add] using this
    refine ⟨b, .inr ⟨_, cap, by rw [hlen], by omega, hm, .inr ⟨off, rfl, hbl, fun j u hj => ?_⟩⟩⟩
    have hjl : j < len := by have := (List.getElem?_eq_some_iff.1 hj).1; omega
    have := hcell j (by omega)
    rw [add_off] at this
    rw [this]
    rw [List.getElem?_map, List.getElem?_take, if_pos hjl, List.getElem?_eq_getElem (by omega)] at hj
    simp at hj
    subst hj
    simp [List.getD, List.getElem?_eq_getElem (show j < zs.length by omega)]

theorem U_toNat {l : List Int} (h : ∀ x ∈ l, 0 ≤ x) : U (l.map Int.toNat) = l.map (Value.int .u8) := by
  simp only [U, List.map_map]
  apply List.map_congr_left
  intro x hx
  have := h x hx
  simp only [Function.comp_apply]
  congr 1
  omega

theorem open_bytes {H : Type} {enc : TypeId × Value → H} {W : World} {v : Value} {d : DataW H} {p : List MemPlace} (h : DataW.Trod enc Tryz.prog W 0 (fun _ => true) true 42 v d p) (hv : ∃ a len cap, v = .slice a len cap) :
    ∃ b bs, SlAt W b v (U bs) ∧ Byt bs := by
  obtain ⟨a0, len0, cap0, rfl⟩ := hv
  obtain ⟨fuel, hf⟩ := h
  rcases open_ints Tryz.underlying42 Tryz.underlying5 (by kernel_rfl) hf with ⟨hcs, _⟩ | ⟨x, l, c, zs, hcs, _, hl, hm, hz, _, hcell, hwz⟩
  · simp [Value.cells] at hcs
    obtain ⟨rfl, rfl, rfl⟩ := hcs
    exact ⟨0, [], SlAt.nil _ _, fun x hx => by cases hx⟩
  · simp [Value.cells] at hcs
    obtain ⟨rfl, rfl, rfl⟩ := hcs
    obtain ⟨b, hb⟩ := sl_of_row hl hm (by simpa using hz) hcell
    refine ⟨b, (zs.take len0).map Int.toNat, ?_, ?_⟩
    · rw [U_toNat (fun x hx => (bounds_u8 (hwz x (List.mem_of_mem_take hx))).1)]; exact hb
    · intro y hy
      obtain ⟨x, hx, rfl⟩ := List.mem_map.1 hy
      have := bounds_u8 (hwz x (List.mem_of_mem_take hx))
      omega

theorem three_of_len {α : Type} (l : List α) (h : l.length = 3) : ∃ a b c, l = [a, b, c] := by
  match l, h with
  | [a, b, c], _ => exact ⟨a, b, c, rfl⟩

theorem open_leaf {H : Type} {enc : TypeId × Value → H} {W : World} {v : Value} {d : DataW H} {p : List MemPlace} (h : DataW.Trod enc Tryz.prog W 0 (fun _ => true) true 50 v d p) (hv : ∃ cs, v = .agg cs ∧ cs.size = Tryz.prog.cellsOf 50) :
    ∃ s k q l cap b, v = .agg #[.int .i64 s, .int .i64 k, .slice q (l : List Nat).length cap] ∧ SlAt W b (.slice q l.length cap) (U l) ∧ Byt l := by
  obtain ⟨cs, rfl, hsz⟩ := hv
  have c50 : Tryz.prog.cellsOf 50 = 3 := by kernel_rfl
  have c3 : Tryz.prog.cellsOf 3 = 1 := by kernel_rfl
  have c42 : Tryz.prog.cellsOf 42 = 1 := by kernel_rfl
  rw [c50] at hsz
  obtain ⟨fuel, hf⟩ := h
  obtain ⟨cl⟩ := cs
  obtain ⟨v0, v1, v2, rfl⟩ := three_of_len cl (by simpa using hsz)
  have hf' : DataW.trod enc Tryz.prog W 0 (fun _ => true) true fuel 50 [v0, v1, v2] = some (d, p) := by simpa [Value.cells] using hf
  obtain ⟨xs, k, _, _, _, hlen3, hfs⟩ := DataW.trod_struct Tryz.underlying50 hf'
  obtain ⟨y0, y1, y2, rfl⟩ := three_of_len xs hlen3
  have g0 := hfs 0 _ rfl
  have g1 := hfs 1 _ rfl
  have g2 := hfs 2 _ rfl
  simp [c3, c42] at g0 g1 g2
  obtain ⟨n0, e0, _, _⟩ := DataW.trod_int Tryz.underlying3 g0
  obtain ⟨n1, e1, _, _⟩ := DataW.trod_int Tryz.underlying3 g1
  simp at e0 e1
  subst e0 e1
  rcases open_ints Tryz.underlying42 Tryz.underlying5 (by kernel_rfl) g2 with ⟨hcs, _⟩ | ⟨x, l, c, zs, hcs, _, hl, hm, hz, _, hcell, hwz⟩
  · simp at hcs
    subst hcs
    exact ⟨n0, n1, none, [], 0, 0, rfl, SlAt.nil _ _, fun x hx => by cases hx⟩
  · simp at hcs
    subst hcs
    have hz' : zs.length = c := by simpa using hz
    obtain ⟨b, hb⟩ := sl_of_row hl hm hz' hcell
    have hlen : ((zs.take l).map Int.toNat).length = l := by simp; omega
    refine ⟨n0, n1, some x, (zs.take l).map Int.toNat, c, b, by rw [hlen], ?_, ?_⟩
    · rw [hlen, U_toNat (fun x hx => (bounds_u8 (hwz x (List.mem_of_mem_take hx))).1)]; exact hb
    · intro y hy
      obtain ⟨x, hx, rfl⟩ := List.mem_map.1 hy
      have := bounds_u8 (hwz x (List.mem_of_mem_take hx))
      omega
theorem open_bytes5 {H : Type} {enc : TypeId × Value → H} {W : World} {v : Value} {d : DataW H} {p : List MemPlace} (h : DataW.Trod enc Tryz.prog W 0 (fun _ => true) true 42 v d p) (hv : ∃ a len cap, v = .slice a len cap) :
    ∃ q l cap b, v = .slice q (l : List Nat).length cap ∧ SlAt W b (.slice q l.length cap) (U l) ∧ Byt l := by
  obtain ⟨b, bs, hs, hb⟩ := open_bytes h hv
  obtain ⟨q, cap, e, _, _⟩ := hs.form
  rw [U_length] at e
  subst e
  exact ⟨q, bs, cap, b, rfl, hs, hb⟩
end Go.Proofs.YtkbfihnoohhojaaGreatDoor.Lea

namespace Go.Proofs.YtkbfihnoohhojaaGreatDoor
open Go.ChangeShapes Go.WideShapes Go.ChangeAt Go.WideMaps Go.WideElems Go.RowKit Go.Deep

theorem five_of_len {α : Type} (l : List α) (h : l.length = 5) : ∃ a b c d e, l = [a, b, c, d, e] := by
  match l, h with
  | [a, b, c, d, e], _ => exact ⟨a, b, c, d, e, rfl⟩
theorem open_bytesF {H : Type} {enc : TypeId × Value → H} {W : World} {v : Value} {x : DataW H × List MemPlace} {fuel : Nat} (hf : DataW.trod enc Tryz.prog W 0 (fun _ => true) true fuel 42 [v] = some x) (hpos : 0 < W.heap.size) :
    ∃ l : List Nat, (∃ bb, bb < W.heap.size ∧ Lea.SlAt W bb v (Lea.U l)) ∧ Lea.Byt l := by
  rcases open_ints Tryz.underlying42 Tryz.underlying5 (by kernel_rfl) hf with ⟨hcs, _⟩ | ⟨a, l, c, zs, hcs, _, hl, hm, hz, _, hcell, hwz⟩
  · simp at hcs
    subst hcs
    exact ⟨[], ⟨0, hpos, Lea.SlAt.nil _ _⟩, fun x hx => by cases hx⟩
  · simp at hcs
    subst hcs
    have hz' : zs.length = c := by simpa using hz
    obtain ⟨b, hb⟩ := Lea.sl_of_row hl hm hz' hcell
    have hlen : ((zs.take l).map Int.toNat).length = l := by simp; omega
    rw [← Lea.U_toNat (fun x hx => (bounds_u8 (hwz x (List.mem_of_mem_take hx))).1)] at hb
    refine ⟨(zs.take l).map Int.toNat, sl_low hb hpos, ?_⟩
    intro y hy
    obtain ⟨x, hx, rfl⟩ := List.mem_map.1 hy
    have := bounds_u8 (hwz x (List.mem_of_mem_take hx))
    omega

theorem open_actsT {H : Type} {enc : TypeId × Value → H} {W : World} {v : Value} {d : DataW H} {p : List MemPlace} (h : DataW.Trod enc Tryz.prog W 0 (fun _ => true) true 22 v d p) (hv : ∃ a len cap, v = .slice a len cap) (hpos : 0 < W.heap.size) :
    ∃ os, ActsT W W.heap.size v os := by
  obtain ⟨a0, len0, cap0, rfl⟩ := hv
  obtain ⟨fuel, hf⟩ := h
  rcases open_slice Tryz.underlying22 hf with ⟨hcs, _⟩ | ⟨a, len, cap, m, n, D, Pl, hcs, hb, hl, hm, hmm, _, hx⟩
  · simp [Value.cells] at hcs
    obtain ⟨rfl, rfl, rfl⟩ := hcs
    exact ⟨[], none, 0, rfl, Nat.zero_le _, by unfold maxLen; omega, by simp⟩
  · simp [Value.cells] at hcs
    obtain ⟨rfl, rfl, rfl⟩ := hcs
    have c45 : Tryz.prog.cellsOf 45 = 5 := by kernel_rfl
    have c42 : Tryz.prog.cellsOf 42 = 1 := by kernel_rfl
    have c3 : Tryz.prog.cellsOf 3 = 1 := by kernel_rfl
    have c43 : Tryz.prog.cellsOf 43 = 1 := by kernel_rfl
    have hlm : len0 ≤ m := by rw [hmm]; split <;> omega
    have each : ∀ i, i < len0 → ∃ o : ActT, ActTOk W W.heap.size o ∧ W.cell? (a.add (i * 5)) = some (.int .i64 o.kind) ∧ W.cell? (a.add (i * 5 + 1)) = some (.int .i64 o.at_) ∧ W.cell? (a.add (i * 5 + 2)) = some (.int .i64 o.page) ∧ W.cell? (a.add (i * 5 + 3)) = some o.bv ∧ W.cell? (a.add (i * 5 + 4)) = some o.kv := by
      intro i hi
      obtain ⟨cs', h1, h2⟩ := hx i (by omega)
      rw [c45] at h1
      obtain ⟨_, hlen, hcell⟩ := World.cells?_some h1
      obtain ⟨xs, k, _, _, _, hlen5, hfs⟩ := DataW.trod_struct Tryz.underlying45 h2
      obtain ⟨v0, v1, v2, v3, v4, rfl⟩ := five_of_len cs' hlen
      obtain ⟨y0, y1, y2, y3, y4, rfl⟩ := five_of_len xs hlen5
      have g0 := hfs 0 _ rfl
      have g1 := hfs 1 _ rfl
      have g2 := hfs 2 _ rfl
      have g3 := hfs 3 _ rfl
      have g4 := hfs 4 _ rfl
      simp [c3, c42, c43] at g0 g1 g2 g3 g4
      obtain ⟨n0, e0, _, w0⟩ := DataW.trod_int Tryz.underlying3 g0
      obtain ⟨n1, e1, _, w1⟩ := DataW.trod_int Tryz.underlying3 g1
      obtain ⟨n2, e2, _, w2⟩ := DataW.trod_int Tryz.underlying3 g2
      obtain ⟨lb, hbv, hby⟩ := open_bytesF g3 hpos
      obtain ⟨ks, hks⟩ := Fla.open_keep g4
      simp at e0 e1 e2
      subst e0 e1 e2
      have q0 := hcell 0 (by omega)
      have q1 := hcell 1 (by omega)
      have q2 := hcell 2 (by omega)
      have q3 := hcell 3 (by omega)
      have q4 := hcell 4 (by omega)
      rw [Go.Deep.add_add] at q0 q1 q2 q3 q4
      exact ⟨⟨n0, n1, n2, lb, ks, v3, v4⟩, ⟨hks, hbv, hby, bounds_i64 w1⟩, by simpa using q0, by simpa using q1, by simpa using q2, by simpa using q3, by simpa using q4⟩
    have : Inhabited ActT := ⟨⟨0, 0, 0, [], [], .nilIface, .nilIface⟩⟩
    obtain ⟨q, hq⟩ := choose_lt each
    have hlen : ((List.range len0).map q).length = len0 := by simp
    refine ⟨(List.range len0).map q, some a, cap0, by rw [hlen], by rw [hlen]; exact hl, hm, fun i o hi => ?_⟩
    have hkl : i < len0 := by
      have := (List.getElem?_eq_some_iff.1 hi).1
      simpa using this
    have e : q i = o := by
      rw [List.getElem?_map, List.getElem?_range hkl] at hi
      simpa using hi
    obtain ⟨ok, a0, a1, a2, a3, a4⟩ := hq i hkl
    have qz := (hq 0 (by omega)).2.1
    rw [e] at ok a0 a1 a2 a3 a4
    obtain ⟨b, off, spot⟩ := a
    have hspot : spot = none := by simpa [Addr.add] using World.cell?_spot qz
    subst hspot
    have hbl : b < W.heap.size := by
      have := World.block_lt_of_cell? W _ qz
      simpa [Addr.add] using this
    rw [Fla.add_none] at a0 a1 a2 a3 a4
    exact ⟨ok, b, off, rfl, hbl, hbl, a0, a1, a2, a3, a4⟩
end Go.Proofs.YtkbfihnoohhojaaGreatDoor
