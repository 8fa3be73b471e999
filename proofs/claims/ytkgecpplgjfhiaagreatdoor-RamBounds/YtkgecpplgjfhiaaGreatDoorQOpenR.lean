/-
  Acts of the tier's law that came in, opened.
-/
import Derived.Test.YtkgecpplgjfhiaaGreatDoorQRefG
import Derived.Test.YtkgecpplgjfhiaaGreatDoorQRefH
import Derived.Test.YtkgecpplgjfhiaaGreatDoorQBase
import Derived.Test.YtkgecpplgjfhiaaGreatDoorQIEnts
import Derived.ProofKit
import Derived.OpenShut
import Derived.ChangeOld
import Derived.ChangeArms
import Derived.Deep.Strs
namespace Go.Proofs.YtkgecpplgjfhiaaGreatDoor
open Go.RowKit
open Ite (Ent zeroE checkE sizeE)
open Lis (Lst but Tag)

/-- An act. -/
structure ActR where
  kind : Int
  x : Ent
  now : Int
/-- A slice of acts that came in, all below B. -/
def ActsR (w : World) (B : Nat) (v : Value) (os : List ActR) : Prop := ∃ p cap, v = .slice p os.length cap ∧ os.length ≤ cap ∧ cap ≤ maxLen ∧
  ∀ (i : Nat) o, os[i]? = some o → ∃ b off q c, p = some ⟨b, off, none⟩ ∧ b < B ∧ b < w.heap.size ∧ w.rangeAt b (off + i * 7) [.int .i64 o.kind, .string o.x.key, .int .i64 o.x.ver, .int .i64 o.x.asof, .int .i64 o.x.ends, .slice q o.x.val.length c, .int .i64 o.now] ∧ Bq w B (.slice q o.x.val.length c) o.x.val
theorem ActsR.fr {w w' : World} {B : Nat} {v : Value} {os : List ActR} (h : ActsR w B v os) (f : Fr B w w') : ActsR w' B v os := by
  obtain ⟨p, cap, h1, h2, h3, h4⟩ := h
  refine ⟨p, cap, h1, h2, h3, fun i o ho => ?_⟩
  obtain ⟨b, off, q, c, e1, e2, e3, e4, e5⟩ := h4 i o ho
  exact ⟨b, off, q, c, e1, e2, Nat.lt_of_lt_of_le e3 f.size, fun j u hj => (cell_eq (f.block b e3 (.inl e2)) _).trans (e4 j u hj), e5.fr f⟩
def lightR (os : List ActR) : Bool := decide (os.length ≤ 40) && Ite.lightB (os.map (·.x))
theorem lightR_ok {os : List ActR} (h : lightR os = true) : os.length ≤ 40 ∧ ∀ o ∈ os, o.x.key.size ≤ 200 ∧ o.x.val.length ≤ 5000 := by
  unfold lightR at h
  simp only [Bool.and_eq_true, decide_eq_true_eq] at h
  exact ⟨h.1, fun o ho => (Ite.lightB_ok h.2).2.2 _ (List.mem_map_of_mem ho)⟩
theorem cells_of7 {w : World} {b o : Nat} {k : ByteArray} {kd v a e nw : Int} {sv : Value} (h : w.rangeAt b o [.int .i64 kd, .string k, .int .i64 v, .int .i64 a, .int .i64 e, sv, .int .i64 nw]) : w.rangeAt b (o + 1) [.string k, .int .i64 v, .int .i64 a, .int .i64 e, sv] := fun j u hu => by
  rcases j with _ | _ | _ | _ | _ | j
  · exact h 1 u hu
  · exact h 2 u hu
  · exact h 3 u hu
  · exact h 4 u hu
  · exact h 5 u hu
  · simp at hu
set_option maxHeartbeats 1000000 in
set_option maxRecDepth 8000 in
theorem lightR_any {w : World} {B : Nat} {v : Value} {os : List ActR} (h : ActsR w B v os) (hB : B ≤ w.heap.size) (hks : ∀ o ∈ os, o.x.key.size ≤ maxLen) :
    Calls Tryz.prog 7 #[v] w fun e w' => e = .returned (.bool (lightR os)) ∧ Below w.heap.size w w' := by
  obtain ⟨p, cap, rfl, h2, h3, h5⟩ := id h
  unfold maxLen at h3
  have HE := hid2 h
  have HKS := hid2 hks
  obtain ⟨i0, hi, hz0, hz1, hz2⟩ := info_parts info_en
  clear h h5 hks
  by_cases h40 : os.length ≤ 40
  · have hl : lightR os = Ite.lightB (os.map (·.x)) := by unfold lightR; rw [decide_eq_true h40]; rfl
    have hn : ¬ 40 < (os.length : Int) := by omega
    rw [hl]
    clear hl
    go_enter Tryz.func7, Tryz.ntmps7
    go_wp2_with fail
    go_loopg [3, 4] os.length (fun gi a i wr => ∃ (k : Nat) (cs : List Value), k ≤ os.length ∧ gi = os.length - k ∧ wr.ownsRow w.heap.size 25 5 a k cs ∧ EQ wr B ((os.take k).map (·.x)) cs ∧ i = .int .i64 (k : Int) ∧ Below w.heap.size w wr)
    case atStart => exact ⟨0, [], Nat.zero_le _, rfl, ⟨rfl, .inl ⟨rfl, rfl⟩⟩, rfl, rfl, Below.refl _ _⟩
    case round =>
      obtain ⟨k, cs, hk, hgi, ho, hq, rfl, hb⟩ := hrel
      have HGI := hid2 hgi
      have HO := hid2 ho
      have HQ := hid2 hq
      have HB := hid2 hb
      by_cases hkl : k = os.length
      · subst hkl
        rw [List.take_length] at HQ
        have HS := hid2 (Es.own (B := B) HO.out (by rw [List.length_map]) HQ.out)
        have KLI := hid2 (Ite.light_any HS.out.es (fun x hx => by obtain ⟨o, ho2, rfl⟩ := List.mem_map.1 hx; exact HKS.out o ho2))
        clear hgi ho hq hb
        go_wp2_with fail
        refine (show Calls _ _ _ _ _ from KLI.out).mono ?_
        rintro e w1 ⟨rfl, hw1⟩
        subst hw1
        unfold Ite.lightI
        by_cases hli : Ite.lightB (os.map (·.x)) = true
        · rw [if_pos hli]
          have HLI := hid2 hli
          clear hli
          go_wp2
          go_ret
          exact ⟨by rw [HLI.out]; rfl, HB.out⟩
        · rw [if_neg hli]
          have HLI : Hid (Ite.lightB (os.map (·.x)) = false) := by show _ = _; simpa using hli
          clear hli
          go_wp2
          go_ret
          exact ⟨by rw [HLI.out]; rfl, HB.out⟩
      · have hlt : k < os.length := by omega
        obtain ⟨o, hok⟩ : ∃ o, os[k]? = some o := ⟨_, List.getElem?_eq_getElem hlt⟩
        obtain ⟨_, _, e0, _, _, h5⟩ := HE.out.fr (Fr.of (B := B) hb)
        cases e0
        obtain ⟨b, off, q, c, rfl, hbB, hbw, hrange, hbq⟩ := h5 k o hok
        have HR := hid2 (cells_of7 hrange)
        have HBQ := hid2 hbq
        have htk : (os.take (k + 1)).map (·.x) = (os.take k).map (·.x) ++ [o.x] := by rw [Lis.take_snoc hok, List.map_append]; rfl
        have HTK := hid2 htk
        obtain ⟨x, hx⟩ : ∃ x, x = o.x := ⟨_, rfl⟩
        rw [← hx] at HR HBQ HTK
        have hI : (0 : Int) ≤ (k : Int) ∧ (k : Int) < (os.length : Int) := by omega
        have htn : ((k : Int)).toNat = k := by omega
        have hws : w.heap.size ≤ wr.heap.size := hb.size
        clear hgi ho hq hb h5 hrange hbq htk hx hok
        go_wp2_with (first
          | (refine wpList_load_mid rfl 25 (.tmp 18) rfl b (off + k * 7 + 1) rfl _ _ HR.out Ite.Tryz.und24.choose_spec rfl Ite.Tryz.size24 ?_)
          | (at_builtin; refine wpList_append_own _ rfl (.tmp 14) (.tmp 20) 35 rfl w.heap.size 25 i0 (.agg #[.string ⟨#[]⟩, .int .i64 0, .int .i64 0, .int .i64 0, .slice none 0 0]) 5 64 Tryz.underlying35 hi hz0 hz1 hz2 rfl (by decide) _ k cs rfl (HO.out.alloc _) ⟨wr.heap.size, 0, none⟩ 1 1 [.string x.key, .int .i64 x.ver, .int .i64 x.asof, .int .i64 x.ends, .slice q x.val.length c] rfl rfl (cell_five_new _ _ _ _ _ _ _) (by intro u hu; simp at hu; rcases hu with rfl | rfl | rfl | rfl | rfl <;> rfl) (by unfold maxLen; omega) (by omega) (by simp; omega) ?_; intro v6 w6 hown6 hgrow6 hnil6; have AA := hid2 (sweep_row (B := B) (show Below wr.heap.size wr (wr.alloc (.cells #[.string x.key, .int .i64 x.ver, .int .i64 x.asof, .int .i64 x.ends, .slice q x.val.length c] 25)) by (go_grown)) HO.out hgrow6 HB.out hB); have O6 := hid2 hown6; clear hown6 hgrow6 hnil6))
        go_roundg (os.length - (k + 1))
        case measure => rw [HGI.out]; omega
        case rel => exact ⟨k + 1, cs ++ [.string x.key, .int .i64 x.ver, .int .i64 x.asof, .int .i64 x.ends, .slice q x.val.length c], by omega, rfl, O6.out, by rw [HTK.out]; exact (HQ.out.keep (AA.out.2.1.bq (by decide))).snoc (AA.out.2.1.bq (by decide) _ _ HBQ.out), rfl, AA.out.1⟩
  · have hl : lightR os = false := by unfold lightR; rw [decide_eq_false h40]; rfl
    have hn : 40 < (os.length : Int) := by omega
    rw [hl]
    clear hl h40
    go_enter Tryz.func7, Tryz.ntmps7
    go_wp2
    go_ret
    exact ⟨rfl, Below.refl _ _⟩

theorem rnew_t (w : World) (lim : Int) : Calls Tryz.prog 11 #[.int .i64 lim] w fun e w' => e = .returned (.tuple #[.agg #[.int .i64 (if lim < 1 ∨ 1048576 < lim then 0 else lim), .slice none 0 0], .int .i64 (if lim < 1 ∨ 1048576 < lim then 2 else 0)]) ∧ Below w.heap.size w w' := by
  have X0 := hid2 (heap_alloc_new w (.cells #[.int .i64 0, .slice none 0 0] 37))
  have BA : Hid (Below w.heap.size w (w.alloc (.cells #[.int .i64 0, .slice none 0 0] 37))) := by show Below _ _ _; go_grown
  by_cases h1 : lim < 1
  · rw [if_pos (.inl h1), if_pos (.inl h1)]
    go_enter Tryz.func11, Tryz.ntmps11
    go_wp2_with (refine st37 rfl (.tmp 2) (.tmp 10) rfl w.heap.size rfl _ _ _ X0.out rfl rfl ⟨rfl, rfl⟩ ?_; intro w1 hz1 hg1)
    refine bodyPost_ret (v := .tuple #[.agg #[.int .i64 0, .slice none 0 0], .int .i64 2]) (results_rm Tryz.results11 _ _ w.heap.size rfl _ _ hz1 _ rfl) rfl ⟨rfl, BA.out.grown hg1 BA.out.size (fun j hj => by cases hj; exact Nat.le_refl _)⟩
  · by_cases h2 : 1048576 < lim
    · rw [if_pos (.inr h2), if_pos (.inr h2)]
      go_enter Tryz.func11, Tryz.ntmps11
      go_wp2_with (refine st37 rfl (.tmp 2) (.tmp 10) rfl w.heap.size rfl _ _ _ X0.out rfl rfl ⟨rfl, rfl⟩ ?_; intro w1 hz1 hg1)
      refine bodyPost_ret (v := .tuple #[.agg #[.int .i64 0, .slice none 0 0], .int .i64 2]) (results_rm Tryz.results11 _ _ w.heap.size rfl _ _ hz1 _ rfl) rfl ⟨rfl, BA.out.grown hg1 BA.out.size (fun j hj => by cases hj; exact Nat.le_refl _)⟩
    · rw [if_neg (by omega), if_neg (by omega)]
      go_enter Tryz.func11, Tryz.ntmps11
      go_wp2_with (refine st37 rfl (.tmp 2) (.tmp 12) rfl w.heap.size rfl _ _ _ X0.out rfl rfl ⟨rfl, rfl⟩ ?_; intro w1 hz1 hg1)
      refine bodyPost_ret (v := .tuple #[.agg #[.int .i64 lim, .slice none 0 0], .int .i64 0]) (results_rm Tryz.results11 _ _ w.heap.size rfl _ _ hz1 _ rfl) rfl ⟨rfl, BA.out.grown hg1 BA.out.size (fun j hj => by cases hj; exact Nat.le_refl _)⟩
end Go.Proofs.YtkgecpplgjfhiaaGreatDoor

namespace Go.Proofs.YtkgecpplgjfhiaaGreatDoor.Ite
open Go.ChangeShapes Go.WideShapes Go.ChangeAt Go.WideMaps Go.WideElems Go.RowKit Go.Deep

theorem sl_of_row {k : IntKind} {W : World} {x : Addr} {len cap : Nat} {zs : List Int} (hl : len ≤ cap) (hm : cap ≤ maxLen) (hz : zs.length = cap) (hcell : ∀ i, i < zs.length → W.cell? (x.add i) = some (.int k (zs.getD i 0))) :
    ∃ b, SlAt W b (.slice (some x) len cap) ((zs.take len).map (Value.int k)) := by
  have hlen : ((zs.take len).map (Value.int k)).length = len := by rw [List.length_map, List.length_take]; omega
  rcases Nat.eq_zero_or_pos len with h0 | hpos
  · subst h0
    exact ⟨0, .inr ⟨x, cap, by rw [hlen], by omega, hm, .inl (by simp)⟩⟩
  · obtain ⟨b, off, spot⟩ := x
    have z := hcell 0 (by omega)
    have hspot : spot = none := by simpa [Addr.add] using World.cell?_spot z
    subst hspot
    have hbl : b < W.heap.size := by
      have := World.block_lt_of_cell? W _ z
      simpa [Addr.add] using this
    refine ⟨b, .inr ⟨_, cap, by rw [hlen], by omega, hm, .inr ⟨off, rfl, hbl, fun j u hj => ?_⟩⟩⟩
    have hjl : j < len := by have := (List.getElem?_eq_some_iff.1 hj).1; omega
    have := hcell j (by omega)
    rw [add_off] at this
    rw [this]
    rw [List.getElem?_map, List.getElem?_take, if_pos hjl, List.getElem?_eq_getElem (by omega)] at hj
    simp at hj
    subst hj
    simp [List.getD, List.getElem?_eq_getElem (show j < zs.length by omega)]

theorem open_bytes {H : Type} {enc : TypeId × Value → H} {W : World} {v : Value} {d : DataW H} {p : List MemPlace} (h : DataW.Trod enc Tryz.prog W 0 (fun _ => true) true 23 v d p) (hv : ∃ a len cap, v = .slice a len cap) :
    ∃ b bs, SlAt W b v (U bs) ∧ Byt bs := by
  obtain ⟨a0, len0, cap0, rfl⟩ := hv
  obtain ⟨fuel, hf⟩ := h
  rcases open_ints Tryz.underlying23 Tryz.underlying5 (by kernel_rfl) hf with ⟨hcs, _⟩ | ⟨x, l, c, zs, hcs, _, hl, hm, hz, _, hcell, hwz⟩
  · simp [Value.cells] at hcs
    obtain ⟨rfl, rfl, rfl⟩ := hcs
    exact ⟨0, [], SlAt.nil _ _, fun x hx => by cases hx⟩
  · simp [Value.cells] at hcs
    obtain ⟨rfl, rfl, rfl⟩ := hcs
    obtain ⟨b, hb⟩ := sl_of_row hl hm (by simpa using hz) hcell
    exact ⟨b, zs.take len0, hb, fun x hx => by have := bounds_u8 (hwz x (List.mem_of_mem_take hx)); omega⟩

theorem five_of_len {α : Type} (l : List α) (h : l.length = 5) : ∃ a b c d e, l = [a, b, c, d, e] := by
  match l, h with
  | [a, b, c, d, e], _ => exact ⟨a, b, c, d, e, rfl⟩

/-- Five cells that came in as an entry. -/
theorem open_five {H : Type} {enc : TypeId × Value → H} {W : World} {v0 v1 v2 v3 v4 : Value} {x : DataW H × List MemPlace} {fuel : Nat} (hf : DataW.trod enc Tryz.prog W 0 (fun _ => true) true fuel 25 [v0, v1, v2, v3, v4] = some x) :
    ∃ (y : Ent) (q : Option Addr) (c : Nat), v0 = .string y.key ∧ v1 = .int .i64 y.ver ∧ v2 = .int .i64 y.asof ∧ v3 = .int .i64 y.ends ∧ v4 = .slice q y.val.length c ∧ Bs W (.slice q y.val.length c) y.val ∧ Byt y.val ∧ y.key.size ≤ maxLen := by
  have c3 : Tryz.prog.cellsOf 3 = 1 := by kernel_rfl
  have c9 : Tryz.prog.cellsOf 9 = 1 := by kernel_rfl
  have c23 : Tryz.prog.cellsOf 23 = 1 := by kernel_rfl
  obtain ⟨xs, k, _, _, _, hlen5, hfs⟩ := DataW.trod_struct Tryz.underlying25 hf
  obtain ⟨y0, y1, y2, y3, y4, rfl⟩ := five_of_len xs hlen5
  have g0 := hfs 0 _ rfl
  have g1 := hfs 1 _ rfl
  have g2 := hfs 2 _ rfl
  have g3 := hfs 3 _ rfl
  have g4 := hfs 4 _ rfl
  simp [c3, c9, c23] at g0 g1 g2 g3 g4
  obtain ⟨s0, e0, _, hs0⟩ := DataW.trod_string Tryz.underlying9 g0
  obtain ⟨n1, e1, _, _⟩ := DataW.trod_int Tryz.underlying3 g1
  obtain ⟨n2, e2, _, _⟩ := DataW.trod_int Tryz.underlying3 g2
  obtain ⟨n3, e3, _, _⟩ := DataW.trod_int Tryz.underlying3 g3
  simp at e0 e1 e2 e3
  subst e0 e1 e2 e3
  rcases open_ints Tryz.underlying23 Tryz.underlying5 (by kernel_rfl) g4 with ⟨hcs, _⟩ | ⟨x, l, c, zs, hcs, _, hl, hm, hz, _, hcell, hwz⟩
  · simp at hcs
    subst hcs
    exact ⟨⟨s0, n1, n2, n3, []⟩, none, 0, rfl, rfl, rfl, rfl, rfl, Bs.nil _, fun x hx => (by cases hx), hs0⟩
  · simp at hcs
    subst hcs
    have hz' : zs.length = c := by simpa using hz
    obtain ⟨b, hb⟩ := sl_of_row hl hm hz' hcell
    have hlen : (zs.take l).length = l := by simp; omega
    refine ⟨⟨s0, n1, n2, n3, zs.take l⟩, some x, c, rfl, rfl, rfl, rfl, by rw [hlen], ?_, ?_, hs0⟩
    · show Bs W (.slice (some x) (zs.take l).length c) (zs.take l)
      rw [hlen]
      exact ⟨b, hb⟩
    · intro y hy
      have := bounds_u8 (hwz y (List.mem_of_mem_take hy))
      omega

/-- An entry that came in. -/
theorem open_entry {H : Type} {enc : TypeId × Value → H} {W : World} {v : Value} {d : DataW H} {p : List MemPlace} (h : DataW.Trod enc Tryz.prog W 0 (fun _ => true) true 25 v d p) (hv : ∃ cs, v = .agg cs ∧ cs.size = Tryz.prog.cellsOf 25) :
    ∃ (y : Ent) (q : Option Addr) (c : Nat), v = .agg #[.string y.key, .int .i64 y.ver, .int .i64 y.asof, .int .i64 y.ends, .slice q y.val.length c] ∧ Bs W (.slice q y.val.length c) y.val ∧ Byt y.val ∧ y.key.size ≤ maxLen := by
  obtain ⟨cs, rfl, hsz⟩ := hv
  have c25 : Tryz.prog.cellsOf 25 = 5 := by kernel_rfl
  rw [c25] at hsz
  obtain ⟨fuel, hf⟩ := h
  obtain ⟨cl⟩ := cs
  obtain ⟨v0, v1, v2, v3, v4, rfl⟩ := five_of_len cl (by simpa using hsz)
  have hf' : DataW.trod enc Tryz.prog W 0 (fun _ => true) true fuel 25 [v0, v1, v2, v3, v4] = some (d, p) := by simpa [Value.cells] using hf
  obtain ⟨y, q, c, rfl, rfl, rfl, rfl, rfl, h1, h2, h3⟩ := open_five hf'
  exact ⟨y, q, c, rfl, h1, h2, h3⟩

/-- Bytes that came in. -/
theorem open_bytes5 {H : Type} {enc : TypeId × Value → H} {W : World} {v : Value} {d : DataW H} {p : List MemPlace} (h : DataW.Trod enc Tryz.prog W 0 (fun _ => true) true 23 v d p) (hv : ∃ a len cap, v = .slice a len cap) :
    ∃ q l cap b, v = .slice q (l : List Int).length cap ∧ SlAt W b (.slice q l.length cap) (U l) ∧ Byt l := by
  obtain ⟨b, bs, hs, hb⟩ := open_bytes h hv
  obtain ⟨q, cap, e, _, _⟩ := hs.form
  rw [U_length] at e
  subst e
  exact ⟨q, bs, cap, b, rfl, hs, hb⟩

theorem add_none (b off j : Nat) : (⟨b, off, none⟩ : Addr).add j = ⟨b, off + j, none⟩ := add_off b off j

end Go.Proofs.YtkgecpplgjfhiaaGreatDoor.Ite

namespace Go.Proofs.YtkgecpplgjfhiaaGreatDoor
open Go.ChangeShapes Go.WideShapes Go.ChangeAt Go.WideMaps Go.WideElems Go.RowKit Go.Deep
open Ite (Ent zeroE)

theorem seven_of_len {α : Type} (l : List α) (h : l.length = 7) : ∃ a b c d e f g, l = [a, b, c, d, e, f, g] := by
  match l, h with
  | [a, b, c, d, e, f, g], _ => exact ⟨a, b, c, d, e, f, g, rfl⟩
theorem three_of_len {α : Type} (l : List α) (h : l.length = 3) : ∃ a b c, l = [a, b, c] := by
  match l, h with
  | [a, b, c], _ => exact ⟨a, b, c, rfl⟩
theorem open_actsR {H : Type} {enc : TypeId × Value → H} {W : World} {v : Value} {d : DataW H} {p : List MemPlace} (h : DataW.Trod enc Tryz.prog W 0 (fun _ => true) true 22 v d p) (hv : ∃ a len cap, v = .slice a len cap) :
    ∃ os, ActsR W W.heap.size v os ∧ ∀ o ∈ os, o.x.key.size ≤ maxLen := by
  obtain ⟨a0, len0, cap0, rfl⟩ := hv
  obtain ⟨fuel, hf⟩ := h
  rcases open_slice Tryz.underlying22 hf with ⟨hcs, _⟩ | ⟨a, len, cap, m, n, D, Pl, hcs, hb, hl, hm, hmm, _, hx⟩
  · simp [Value.cells] at hcs
    obtain ⟨rfl, rfl, rfl⟩ := hcs
    exact ⟨[], ⟨none, 0, rfl, Nat.zero_le _, by unfold maxLen; omega, by simp⟩, by simp⟩
  · simp [Value.cells] at hcs
    obtain ⟨rfl, rfl, rfl⟩ := hcs
    have c44 : Tryz.prog.cellsOf 44 = 7 := by kernel_rfl
    have c25 : Tryz.prog.cellsOf 25 = 5 := by kernel_rfl
    have c3 : Tryz.prog.cellsOf 3 = 1 := by kernel_rfl
    have hlm : len0 ≤ m := by rw [hmm]; split <;> omega
    have each : ∀ i, i < len0 → ∃ o : ActR, o.x.key.size ≤ maxLen ∧ ∃ q c, (∀ j u, [Value.int .i64 o.kind, .string o.x.key, .int .i64 o.x.ver, .int .i64 o.x.asof, .int .i64 o.x.ends, .slice q o.x.val.length c, .int .i64 o.now][j]? = some u → W.cell? (a.add (i * 7 + j)) = some u) ∧ Ite.Bs W (.slice q o.x.val.length c) o.x.val := by
      intro i hi
      obtain ⟨cs', h1, h2⟩ := hx i (by omega)
      rw [c44] at h1
      obtain ⟨_, hlen, hcell⟩ := World.cells?_some h1
      obtain ⟨v0, v1, v2, v3, v4, v5, v6, rfl⟩ := seven_of_len cs' hlen
      obtain ⟨xs, k, _, _, _, hlen3, hfs⟩ := DataW.trod_struct Tryz.underlying44 h2
      obtain ⟨y0, y1, y2, rfl⟩ := three_of_len xs hlen3
      have g0 := hfs 0 _ rfl
      have g1 := hfs 1 _ rfl
      have g2 := hfs 2 _ rfl
      simp [c3, c25] at g0 g1 g2
      obtain ⟨n0, e0, _, _⟩ := DataW.trod_int Tryz.underlying3 g0
      obtain ⟨n6, e6, _, _⟩ := DataW.trod_int Tryz.underlying3 g2
      simp at e0 e6
      subst e0 e6
      obtain ⟨y, q, c, rfl, rfl, rfl, rfl, rfl, k1, k2, k3⟩ := Ite.open_five g1
      refine ⟨⟨n0, y, n6⟩, k3, q, c, fun j u hu => ?_, k1⟩
      have hj7 : j < 7 := by have := (List.getElem?_eq_some_iff.1 hu).1; simpa using this
      have qj := hcell j (by omega)
      rw [Go.Deep.add_add] at qj
      rw [qj]
      exact hu
    have : Inhabited ActR := ⟨⟨0, zeroE, 0⟩⟩
    obtain ⟨f, hq⟩ := choose_lt each
    have hlen : ((List.range len0).map f).length = len0 := by simp
    refine ⟨(List.range len0).map f, ⟨some a, cap0, by rw [hlen], by rw [hlen]; exact hl, hm, fun i o hi => ?_⟩, ?_⟩
    · have hkl : i < len0 := by
        have := (List.getElem?_eq_some_iff.1 hi).1
        simpa using this
      have e : f i = o := by
        rw [List.getElem?_map, List.getElem?_range hkl] at hi
        simpa using hi
      obtain ⟨ok, q, c, cc, bs⟩ := hq i hkl
      rw [e] at cc bs
      obtain ⟨_, _, _, cc0, _⟩ := hq 0 (by omega)
      have qz := cc0 0 _ rfl
      obtain ⟨b, off, spot⟩ := a
      have hspot : spot = none := by simpa [Addr.add] using World.cell?_spot qz
      subst hspot
      have hbl : b < W.heap.size := by
        have := World.block_lt_of_cell? W _ qz
        simpa [Addr.add] using this
      refine ⟨b, off, q, c, rfl, hbl, hbl, fun j u hu => ?_, Bq.old bs (Nat.le_refl _)⟩
      have := cc j u hu
      rw [Ite.add_none] at this
      rw [Nat.add_assoc]
      exact this
    · intro x hx
      obtain ⟨i, hi, rfl⟩ := List.mem_map.1 hx
      exact (hq i (by simpa using hi)).1
end Go.Proofs.YtkgecpplgjfhiaaGreatDoor
