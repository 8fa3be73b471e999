/-
  Bytes as a bucket: the program's reading (a set of the keys so far) and the document's; entries that may be.
-/
import Derived.Test.YtgmghekgelmmcaaDoorQFil
import Derived.Test.YtgmghekgelmmcaaDoorQIReadE
import Derived.Test.YtgmghekgelmmcaaDoorQIRReadE
import Derived.Test.YtgmghekgelmmcaaDoorQIRChk
import Derived.Maps.Own
import Derived.Maps.OwnOps
import Derived.Maps.OwnSet
namespace Go.Proofs.YtgmghekgelmmcaaDoor
open Go.RowKit Go.Maps
open Ite (Ent zeroE checkE sizeE Fine EsAt readE)

/-- What was read, as a bucket. -/
def dupR (r : List Ent × Int) : List Ent × Int := open Classical in if r.2 ≠ 0 then ([], r.2) else if (r.1.map (·.key)).Nodup then r else ([], 13)
theorem dupR_bad {r : List Ent × Int} (h : r.2 ≠ 0) : dupR r = ([], r.2) := if_pos h
theorem dupR_ok {r : List Ent × Int} (h : r.2 = 0) (nd : (r.1.map (·.key)).Nodup) : dupR r = r := by unfold dupR; rw [if_neg (by simpa using h), if_pos nd]
theorem dupR_two {r : List Ent × Int} (h : r.2 = 0) (nd : ¬ (r.1.map (·.key)).Nodup) : dupR r = ([], 13) := by unfold dupR; rw [if_neg (by simpa using h), if_neg nd]

def lk (k : ByteArray) : Lit := .string k.data.toList
theorem lk_inj {a b : ByteArray} (h : a.data.toList = b.data.toList) : a = b := by
  cases a; cases b; congr; exact Array.toList_inj.1 h
def keySet (M : List Ent) : DataW Unit := setOf (.agg []) (M.map fun y => lk y.key)
theorem keySet_nil : keySet [] = .map [] := by simp [keySet, setOf]
theorem keySet_snoc (M : List Ent) (x : Ent) : keySet (M ++ [x]) = (keySet M).put (lk x.key) (.agg []) := by
  unfold keySet
  rw [List.map_append]
  exact setOf_snoc _ _ _
theorem has_keys (M : List Ent) (k : ByteArray) : Maps.has (keySet M) (lk k) = true ↔ ∃ y ∈ M, y.key = k := by
  unfold keySet
  rw [has_setOf _ _ _ (fun y hy => by obtain ⟨_, _, rfl⟩ := List.mem_map.1 hy; trivial), List.any_map, List.any_eq_true]
  constructor
  · rintro ⟨y, hy, e⟩
    refine ⟨y, hy, lk_inj ?_⟩
    simpa [lk, Lit.sameKey] using e
  · rintro ⟨y, hy, rfl⟩
    exact ⟨y, hy, by simp [lk, Lit.sameKey]⟩
theorem law9 : Keyed Tryd.prog 9 := string_keyed Tryd.underlying9
theorem zero64 (w : World) : (zeroValue 64).run Tryd.prog w = .ok (.agg #[]) w := by kernel_rfl
theorem run_mk (n : Int) (w : World) : (Instr.makeMap 63 (some (.int .i64 n))).run Tryd.prog w = .ok (.map (some w.heap.size)) (w.alloc (.map #[] 0)) := by
  simp [Instr.makeMap, run_underlying Tryd.underlying63, asInt, asIntOf, Result.andThen]
theorem map_below {w w' : World} {b n : Nat} {D : DataW Unit} (h : w.ownsMap Tryd.prog 9 unitElem b n D) (f : Below w.heap.size w w') : w'.ownsMap Tryd.prog 9 unitElem b n D := by
  have hlt := h.lt
  obtain ⟨es, clock, hb, F, hs, hD⟩ := h
  exact ⟨es, clock, (f.block b hlt).trans hb, F, hs, hD⟩

set_option maxHeartbeats 4000000 in
set_option maxRecDepth 10000 in
theorem bread_any {w : World} {b : Nat} {v : Value} {bs : List Int} (h : Ite.SlAt w b v (Ite.U bs)) (hby : Ite.Byt bs) (hl : bs.length ≤ 20000) (hE : ErrT w) :
    Calls Tryd.prog 8 #[v] w fun e w' => ∃ rv u, e = .returned (.tuple #[rv, u]) ∧ EsAt w' rv (dupR (readE bs)).1 ∧ Ite.Fault w' u (dupR (readE bs)).2 ∧ Below w.heap.size w w' := by
  have hmm := run_mk
  have KR := hid2 (Ite.read_ents h hby hl hE)
  obtain ⟨L, code, hr⟩ : ∃ L code, readE bs = (L, code) := ⟨_, _, rfl⟩
  have HINV := hid2 (fun h0 : code = 0 => Ite.readE_inv hby (show readE bs = (L, 0) by rw [hr, h0]))
  rw [hr] at KR
  have HR := hid2 hr
  clear h hr
  go_enter Tryd.func8, Tryd.ntmps8
  go_wp2_with fail
  refine (show Calls _ _ _ _ _ from KR.out).mono ?_
  rintro e w1 ⟨rv, u, rfl, hes, hf, hb1⟩
  have HB1 := hid2 hb1
  have HES := hid2 hes
  clear KR hb1
  by_cases hc : code = 0
  · obtain ⟨hbs, hall, hlen⟩ := HINV.out hc
    subst hc
    obtain rfl := hf.none
    obtain ⟨p, cap, rfl, hc1, hc2⟩ := hes.form
    unfold maxLen at hc2
    have HALL := hid2 hall
    have hL : L.length ≤ 20000 := by omega
    have hm0 := hid2 (World.ownsMap_made (H := Unit) w1 Tryd.prog 9 unitElem)
    have hal := hid2 (show Below w1.heap.size w1 (w1.alloc (.map #[] 0)) by go_grown)
    obtain ⟨w2, hw2⟩ : ∃ w2, w2 = w1.alloc (.map #[] 0) := ⟨_, rfl⟩
    clear hf hes hall hbs
    go_wp2_with fail
    rw [← hw2] at hm0 hal ⊢
    have HW2 := hid2 hw2
    clear hw2
    go_loopg [24] L.length (fun gi i wr => ∃ m : Nat, m ≤ L.length ∧ gi = L.length - m ∧ i = .int .i64 (m : Int) ∧ wr.ownsMap Tryd.prog 9 unitElem w1.heap.size m (keySet (L.take m)) ∧ Below w1.heap.size w1 wr ∧ ((L.take m).map (·.key)).Nodup)
    case atStart => exact ⟨0, Nat.zero_le _, rfl, rfl, by rw [List.take_zero, keySet_nil]; exact hm0.out, hal.out, by simp⟩
    case round =>
      obtain ⟨m, hm, hgi, rfl, hmap, hbr, hnd⟩ := hrel
      have HG := hid2 hgi
      have HM := hid2 hmap
      have HBR := hid2 hbr
      have HND := hid2 hnd
      clear hgi hmap hbr hnd hm0 hal
      by_cases hlt : m < L.length
      · obtain ⟨x, hx⟩ : ∃ x, L[m]? = some x := ⟨L[m], List.getElem?_eq_getElem hlt⟩
        obtain ⟨bb, off, q, c, rfl, hbl, hrange, hbsx⟩ := EsAt.cells (HES.out.stays HBR.out) hx
        have a0 := hrange 0 _ rfl
        have a1 := hrange 1 _ rfl
        have a2 := hrange 2 _ rfl
        have a3 := hrange 3 _ rfl
        have a4 := hrange 4 _ rfl
        rw [Nat.add_zero] at a0
        have hki : (m : Int) < (L.length : Int) := by omega
        have hkx : x.key.size ≤ 40 := (Ite.chk_ok (HALL.out x (List.mem_of_getElem? hx)).2).1
        have hkey : keyOf Tryd.prog 9 (.string x.key) = some (lk x.key) := Go.WideMaps.keyOf_string_mk Tryd.underlying9 (by unfold maxLen; omega)
        have HX := hid2 hx
        have HBW : Hid (w1.heap.size ≤ wr.heap.size) := HBR.out.size
        clear hrange hbsx hx
        by_cases hdup : ∃ y ∈ L.take m, y.key = x.key
        · have HH := hid2 ((has_keys (L.take m) x.key).2 hdup)
          have hnn : ¬ (L.map (·.key)).Nodup := fun nd => by
            have := (find_nd HX.out).1 (nd_all.1 nd m x HX.out)
            exact this hdup
          have HRR := hid2 (dupR_two (r := (L, 0)) rfl hnn)
          clear hdup hnn
          go_wp2_with (first
            | (refine Ite.st24 rfl (.tmp 8) (.tmp 28) rfl wr.heap.size rfl _ _ _ _ _ _ (heap_alloc_new wr _) rfl rfl ⟨rfl, rfl, rfl, rfl, rfl⟩ ?_; intro v1 z1 y1'; have X1 : Below wr.heap.size wr v1 := (((Below.refl _ _).alloc (Nat.le_refl _) _).grown y1' (by simp) (fun k hk => by cases hk; exact Nat.le_refl _)); have HM1 := hid2 (map_below HM.out X1); obtain ⟨⟨z0, z1', z2, z3, z4⟩, zf⟩ := Ite.five24 z1; have hlt1 := lt_of_block z1)
            | (at_lookup; refine wpList_lookup_own_unit _ rfl _ _ 63 rfl 9 64 law9 Tryd.underlying63 (zero64 _) w1.heap.size m _ rfl HM1.out _ _ rfl hkey ?_; rw [HH.out]))
          refine (Ite.new_code1 _ _ _ _).mono ?_
          rintro e w5 ⟨u5, rfl, hu5, hb5⟩
          go_wp2
          go_ret2
          have X2 : Below wr.heap.size wr w5 := X1.trans ((((Below.refl v1.heap.size v1).alloc (Nat.le_refl _) _).trans (hb5.mono (by simp))).mono X1.size)
          refine ⟨_, _, rfl, ?_, ?_, HB1.out.trans ((HBR.out.trans (X2.mono HBW.out)).mono HB1.out.size)⟩
          · rw [HR.out, HRR.out]; exact EsAt.nil _
          · rw [HR.out, HRR.out]; exact hu5.fault
        · have hh : Maps.has (keySet (L.take m)) (lk x.key) = false := by
            rw [Bool.eq_false_iff]
            exact fun hh => hdup ((has_keys (L.take m) x.key).1 hh)
          have HH := hid2 hh
          have HN2 := hid2 ((nd_take HX.out HND.out).2 hdup)
          have HTK : Hid (keySet (L.take (m + 1)) = (keySet (L.take m)).put (lk x.key) (.agg [])) := by
            show _ = _
            rw [← keySet_snoc, List.take_add_one, HX.out]
            rfl
          clear hdup hh
          go_wp2_with (first
            | (refine Ite.st24 rfl (.tmp 8) (.tmp 28) rfl wr.heap.size rfl _ _ _ _ _ _ (heap_alloc_new wr _) rfl rfl ⟨rfl, rfl, rfl, rfl, rfl⟩ ?_; intro v1 z1 y1'; have X1 : Below wr.heap.size wr v1 := (((Below.refl _ _).alloc (Nat.le_refl _) _).grown y1' (by simp) (fun k hk => by cases hk; exact Nat.le_refl _)); have HM1 := hid2 (map_below HM.out X1); obtain ⟨⟨z0, z1', z2, z3, z4⟩, zf⟩ := Ite.five24 z1; have hlt1 := lt_of_block z1)
            | (at_lookup; refine wpList_lookup_own_unit _ rfl _ _ 63 rfl 9 64 law9 Tryd.underlying63 (zero64 _) w1.heap.size m _ rfl HM1.out _ _ rfl hkey ?_; rw [HH.out])
            | (at_mapUpdate; refine wpList_mapUpdate_own _ rfl _ _ _ 63 rfl 9 64 law9 Tryd.underlying63 (unitElem (H := Unit)) w1.heap.size m _ rfl (HM1.out.alloc _) (by unfold maxLen; omega) _ _ _ rfl rfl hkey _ [] unitElem_mk ?_; intro w5 hown5 hgrow5))
          have X2 : Below wr.heap.size wr (v1.alloc (.cells #[] 64)) := X1.trans (((Below.refl v1.heap.size v1).alloc (Nat.le_refl _) _).mono X1.size)
          have X3 := HBR.out.trans (X2.mono HBW.out)
          go_roundg (L.length - (m + 1))
          case measure => rw [HG.out]; omega
          case rel => exact ⟨m + 1, by omega, rfl, by go_num, by rw [HTK.out]; exact hown5, X3.grown hgrow5 X3.size (fun k hk => by cases hk; exact Nat.le_refl _), HN2.out⟩
      · have hml : m = L.length := by omega
        subst hml
        have hnd := HND.out
        rw [List.take_length] at hnd
        have HRR := hid2 (dupR_ok (r := (L, 0)) rfl hnd)
        clear hnd
        go_wp2_with fail
        go_ret2
        refine ⟨_, _, rfl, ?_, ?_, HB1.out.trans (HBR.out.mono HB1.out.size)⟩
        · rw [HR.out, HRR.out]; exact HES.out.stays HBR.out
        · rw [HR.out, HRR.out]; exact Ite.Fault.nil _
  · obtain ⟨p1, rfl⟩ := hf.some hc
    have HRR := hid2 (dupR_bad (r := (L, code)) hc)
    have HF := hid2 hf
    clear hf hes
    go_wp2
    go_ret2
    refine ⟨_, _, rfl, ?_, ?_, HB1.out⟩
    · rw [HR.out, HRR.out]; exact EsAt.nil _
    · rw [HR.out, HRR.out]; exact HF.out

set_option maxHeartbeats 2000000 in
set_option maxRecDepth 10000 in
theorem rread_any {w : World} {b : Nat} {p0 : Option Addr} {cap0 : Nat} {bs : List Int} (h : Ite.SlAt w b (.slice p0 bs.length cap0) (Ite.U bs)) (hby : Ite.Byt bs) (hl : bs.length ≤ 20000) :
    Calls Tryd.prog 9 #[.slice p0 bs.length cap0] w fun e w' => ∃ rv, e = .returned (.tuple #[rv, .int .i64 (dupR (readE bs)).2]) ∧ EsAt w' rv (dupR (readE bs)).1 ∧ Below w.heap.size w w' := by
  have KR := hid2 (Ite.rread_ents h hby hl)
  obtain ⟨L, code, hr⟩ : ∃ L code, readE bs = (L, code) := ⟨_, _, rfl⟩
  have HINV := hid2 (fun h0 : code = 0 => Ite.readE_inv hby (show readE bs = (L, 0) by rw [hr, h0]))
  rw [hr] at KR
  have HR := hid2 hr
  clear h hr
  go_enter Tryd.func9, Tryd.ntmps9
  go_wp2_with fail
  refine (show Calls _ _ _ _ _ from KR.out).mono ?_
  rintro e w1 ⟨rv, rfl, hes, hb1⟩
  have HB1 := hid2 hb1
  have HES := hid2 hes
  clear KR hb1
  by_cases hc : code = 0
  · obtain ⟨hbs, hall, hlen⟩ := HINV.out hc
    subst hc
    obtain ⟨p, cap, rfl, hc1, hc2⟩ := hes.form
    unfold maxLen at hc2
    have hL : L.length ≤ 20000 := by omega
    clear hes hall hbs
    go_wp2_with fail
    go_loopg [6] L.length (fun gi i wr => ∃ m : Nat, m ≤ L.length ∧ gi = L.length - m ∧ i = .int .i64 (m : Int) ∧ wr = w1 ∧ ∀ (j : Nat) (y : Ent), j < m → L[j]? = some y → findE L y.key = (j : Int))
    case atStart => exact ⟨0, Nat.zero_le _, rfl, rfl, rfl, fun j y hj => absurd hj (Nat.not_lt_zero _)⟩
    case round =>
      obtain ⟨m, hm, hgi, rfl, rfl, hno⟩ := hrel
      have HG := hid2 hgi
      have HN := hid2 hno
      clear hgi hno
      by_cases hlt : m < L.length
      · obtain ⟨x, hx⟩ : ∃ x, L[m]? = some x := ⟨L[m], List.getElem?_eq_getElem hlt⟩
        obtain ⟨bb, off, q, c, rfl, hbl, hrange, hbsx⟩ := EsAt.cells HES.out hx
        have a0 := hrange 0 _ rfl
        rw [Nat.add_zero] at a0
        have hki : (0 : Int) ≤ (m : Int) ∧ (m : Int) < (L.length : Int) := by omega
        have htn : ((m : Int)).toNat = m := by omega
        have KF := hid2 (rfind_any HES.out x.key)
        have HX := hid2 hx
        clear hrange hbsx hx
        by_cases hf : findE L x.key = (m : Int)
        · rw [hf] at KF
          have HF := hid2 hf
          clear hf
          go_wp2_with fail
          refine (show Calls _ _ _ _ _ from KF.out).mono ?_
          rintro e w2 ⟨rfl, rfl⟩
          go_wp2_with fail
          go_roundg (L.length - (m + 1))
          case measure => rw [HG.out]; omega
          case rel =>
            refine ⟨m + 1, by omega, rfl, by go_num, rfl, fun j y hj hy => ?_⟩
            rcases Nat.lt_succ_iff_lt_or_eq.1 hj with h | rfl
            · exact HN.out j y h hy
            · rw [HX.out] at hy
              cases hy
              exact HF.out
        · have hnn : ¬ (L.map (·.key)).Nodup := fun nd => hf (nd_all.1 nd m x HX.out)
          have HRR := hid2 (dupR_two (r := (L, 0)) rfl hnn)
          generalize findE L x.key = fe at *
          have hne : (fe != (m : Int)) = true := by simpa using hf
          clear hnn hf
          go_wp2_with fail
          refine (show Calls _ _ _ _ _ from KF.out).mono ?_
          rintro e w2 ⟨rfl, rfl⟩
          go_wp2_with fail
          go_ret2
          refine ⟨_, by rw [HR.out, HRR.out] <;> rfl, ?_, HB1.out⟩
          rw [HR.out, HRR.out]; exact EsAt.nil _
      · have hml : m = L.length := by omega
        subst hml
        have hnd : (L.map (·.key)).Nodup := nd_all.2 (fun i x hx => HN.out i x (List.getElem?_eq_some_iff.1 hx).1 hx)
        have HRR := hid2 (dupR_ok (r := (L, 0)) rfl hnd)
        clear hnd
        go_wp2_with fail
        go_ret2
        refine ⟨_, by rw [HR.out, HRR.out] <;> rfl, ?_, HB1.out⟩
        rw [HR.out, HRR.out]; exact HES.out
  · have HRR := hid2 (dupR_bad (r := (L, code)) hc)
    have hd : (code != 0) = true := by simpa using hc
    clear hes
    go_wp2
    go_ret2
    refine ⟨_, by rw [HR.out, HRR.out] <;> rfl, ?_, HB1.out⟩
    rw [HR.out, HRR.out]; exact EsAt.nil _

open Classical in
set_option maxHeartbeats 2000000 in
set_option maxRecDepth 10000 in
theorem right_any {w : World} {v : Value} {L : List Ent} (h : EsAt w v L) (hk : ∀ x ∈ L, x.key.size ≤ 1000 ∧ x.val.length ≤ 100000) :
    Calls Tryd.prog 12 #[v] w fun e w' => e = .returned (.bool (decide (right L))) ∧ Below w.heap.size w w' := by
  obtain ⟨p, cap, rfl, h2, h3⟩ := h.form
  unfold maxLen at h3
  have HE := hid2 h
  have HK := hid2 hk
  clear h hk
  go_enter Tryd.func12, Tryd.ntmps12
  go_wp2_with fail
  go_loopg [3] L.length (fun gi i wr => ∃ m : Nat, m ≤ L.length ∧ gi = L.length - m ∧ i = .int .i64 (m : Int) ∧ Below w.heap.size w wr ∧ ∀ (j : Nat) (y : Ent), j < m → L[j]? = some y → checkE y = 0 ∧ findE L y.key = (j : Int))
  case atStart => exact ⟨0, Nat.zero_le _, rfl, rfl, Below.refl _ _, fun j y hj => absurd hj (Nat.not_lt_zero _)⟩
  case round =>
    obtain ⟨m, hm, hgi, rfl, hbr, hno⟩ := hrel
    have HG := hid2 hgi
    have HN := hid2 hno
    have HBR := hid2 hbr
    clear hgi hno hbr
    by_cases hlt : m < L.length
    · obtain ⟨x, hx⟩ : ∃ x, L[m]? = some x := ⟨L[m], List.getElem?_eq_getElem hlt⟩
      obtain ⟨bb, off, q, c, rfl, hbl, hrange, hbsx⟩ := EsAt.cells (HE.out.stays HBR.out) hx
      have a0 := hrange 0 _ rfl
      have a1 := hrange 1 _ rfl
      have a2 := hrange 2 _ rfl
      have a3 := hrange 3 _ rfl
      have a4 := hrange 4 _ rfl
      rw [Nat.add_zero] at a0
      have hki : (0 : Int) ≤ (m : Int) ∧ (m : Int) < (L.length : Int) := by omega
      have htn : ((m : Int)).toNat = m := by omega
      have hkx := HK.out x (List.mem_of_getElem? hx)
      have KC := hid2 (Ite.rcheck_any x.key x.ver x.asof x.ends q x.val.length c wr (by unfold maxLen; omega) (by unfold maxLen; omega))
      rw [show Ite.chk x.key x.ver x.asof x.ends x.val.length = checkE x from rfl] at KC
      have KF := hid2 (fun W (f : Below wr.heap.size wr W) => rfind_any (HE.out.stays (HBR.out.trans (f.mono HBR.out.size))) x.key)
      have HX := hid2 hx
      have A0 := hid2 (fun W (f : Below wr.heap.size wr W) => (f.cell (p := ⟨bb, off + m * 5, none⟩) hbl).trans a0)
      have HBL := hid2 hbl
      clear hrange hbsx hx
      by_cases hc : checkE x = 0
      · have HC := hid2 hc
        rw [hc] at KC
        by_cases hf : findE L x.key = (m : Int)
        · rw [hf] at KF
          have HF := hid2 hf
          clear hf hc
          go_wp2_with fail
          refine (show Calls _ _ _ _ _ from KC.out).mono ?_
          rintro e w2 ⟨rfl, hb2⟩
          have a0 := A0.out _ hb2
          have hbl2 := Nat.lt_of_lt_of_le HBL.out hb2.size
          have KF2 := hid2 (KF.out _ hb2)
          have HB2 := hid2 (HBR.out.trans (hb2.mono HBR.out.size))
          clear hb2 a1 a2 a3 a4 KC KF
          go_wp2_with fail
          refine (show Calls _ _ _ _ _ from KF2.out).mono ?_
          rintro e w3 ⟨rfl, rfl⟩
          go_wp2_with fail
          go_roundg (L.length - (m + 1))
          case measure => rw [HG.out]; omega
          case rel =>
            refine ⟨m + 1, by omega, rfl, by go_num, HB2.out, fun j y hj hy => ?_⟩
            rcases Nat.lt_succ_iff_lt_or_eq.1 hj with h | rfl
            · exact HN.out j y h hy
            · rw [HX.out] at hy
              cases hy
              exact ⟨HC.out, HF.out⟩
        · have HR : Hid (decide (right L) = false) := decide_eq_false fun r => hf (r m x HX.out).2
          generalize findE L x.key = fe at *
          have hne : (fe != (m : Int)) = true := by simpa using hf
          clear hf hc
          go_wp2_with fail
          refine (show Calls _ _ _ _ _ from KC.out).mono ?_
          rintro e w2 ⟨rfl, hb2⟩
          have a0 := A0.out _ hb2
          have hbl2 := Nat.lt_of_lt_of_le HBL.out hb2.size
          have KF2 := hid2 (KF.out _ hb2)
          have HB2 := hid2 (HBR.out.trans (hb2.mono HBR.out.size))
          clear hb2 a1 a2 a3 a4 KC KF
          go_wp2_with fail
          refine (show Calls _ _ _ _ _ from KF2.out).mono ?_
          rintro e w3 ⟨rfl, rfl⟩
          go_wp2_with fail
          go_ret
          exact ⟨by rw [HR.out] <;> rfl, HB2.out⟩
      · have HR : Hid (decide (right L) = false) := decide_eq_false fun r => hc (r m x HX.out).1
        generalize checkE x = ce at *
        have hne : (ce != 0) = true := by simpa using hc
        clear hc
        go_wp2_with fail
        refine (show Calls _ _ _ _ _ from KC.out).mono ?_
        rintro e w2 ⟨rfl, hb2⟩
        have HB2 := hid2 (HBR.out.trans (hb2.mono HBR.out.size))
        clear hb2 KC KF
        go_wp2_with fail
        go_ret
        exact ⟨by rw [HR.out] <;> rfl, HB2.out⟩
    · have hml : m = L.length := by omega
      subst hml
      have HR : Hid (decide (right L) = true) := decide_eq_true fun i x hx => HN.out i x (List.getElem?_eq_some_iff.1 hx).1 hx
      go_wp2_with fail
      go_ret
      exact ⟨by rw [HR.out] <;> rfl, HBR.out⟩
end Go.Proofs.YtgmghekgelmmcaaDoor
