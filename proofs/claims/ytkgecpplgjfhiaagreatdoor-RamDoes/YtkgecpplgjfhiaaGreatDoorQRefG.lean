/-
  The document's tier: Set.
-/
import Derived.Test.YtkgecpplgjfhiaaGreatDoorQRefF
namespace Go.Proofs.YtkgecpplgjfhiaaGreatDoor
open Go.RowKit
open Ite (Ent zeroE checkE sizeE)
open Lis (Lst but Tag)

theorem rused_m {w : World} {B : Nat} {lim : Int} {p : Option Addr} {m cap : Nat} {L : List Ent} (hm : m = L.length) (h : Es w B (.slice p m cap) L) (hf : ∀ x ∈ L, checkE x = 0) (hl : m ≤ 1000) :
    Calls Tryz.prog 16 #[.agg #[.int .i64 lim, .slice p m cap]] w fun e w' => e = .returned (.int .i64 (usedL L)) ∧ Below w.heap.size w w' := by
  subst hm; exact rused_t h hf hl
theorem rbut_m {w : World} {B : Nat} {lim : Int} {p : Option Addr} {m cap : Nat} {L : List Ent} (hm : m = L.length) (h : Es w B (.slice p m cap) L) {k : Nat} (hk : k + 1 = m) (hl : m ≤ 1000) :
    Calls Tryz.prog 42 #[.agg #[.int .i64 lim, .slice p m cap], .int .i64 (k : Int)] w fun e w' => ∃ p' cap', e = .returned (.agg #[.int .i64 lim, .slice p' k cap']) ∧ Es w' B (.slice p' k cap') (L.take k) ∧ (p' = none → cap' = 0) ∧ (∀ a, p' = some a → w.heap.size ≤ a.block) ∧ Below w.heap.size w w' := by
  subst hm
  have e1 : butE L k = L.take k := by unfold butE; rw [List.drop_eq_nil_of_le (by omega), List.append_nil]
  have e2 : (L.take k).length = k := by rw [List.length_take]; omega
  have := rbut_t (lim := lim) h (k := k) (by omega) hl
  rw [e1, e2] at this
  exact this
theorem rahead_m {w : World} {B : Nat} {lim : Int} {p : Option Addr} {m cap : Nat} {L : List Ent} (hm : m = L.length) (h : Es w B (.slice p m cap) L) (hz : p = none → cap = 0) (hl : m ≤ 1000) (x : Ent) {q : Option Addr} {c : Nat} (hx : Bq w B (.slice q x.val.length c) x.val) :
    Calls Tryz.prog 69 #[.agg #[.int .i64 lim, .slice p m cap], .agg #[.string x.key, .int .i64 x.ver, .int .i64 x.asof, .int .i64 x.ends, .slice q x.val.length c]] w fun e w' => ∃ p' cap', e = .returned (.agg #[.int .i64 lim, .slice p' (m + 1) cap']) ∧ Es w' B (.slice p' (m + 1) cap') (x :: L) ∧ (p' = none → cap' = 0) ∧ (∀ a, p' = some a → w.heap.size ≤ a.block) ∧ Below w.heap.size w w' := by
  subst hm
  exact rahead_t h hz hl x hx
theorem usedL_le {L : List Ent} (h : ∀ y ∈ L, checkE y = 0) : usedL L ≤ 8192 * (L.length : Int) := by
  induction L with
  | nil => simp [usedL_nil]
  | cons y r ih =>
    have a := (fine_class (h y (List.mem_cons_self ..))).2.2.2
    have b := ih fun z hz => h z (List.mem_cons_of_mem _ hz)
    rw [usedL_cons, List.length_cons]; omega

theorem own_lt {w : World} {B0 n : Nat} {v : Value} {cs : List Value} (h : w.ownsRow B0 25 5 v n cs) : ∀ k, v.ownBlock = some k → k < w.heap.size := by
  intro k hk
  rcases h.2 with ⟨rfl, _⟩ | ⟨g, cap, cur, rfl, _, hg, _⟩
  · simp [Value.ownBlock] at hk
  · simp [Value.ownBlock] at hk; subst hk; exact lt_of_block hg
theorem row_other {w wa w6 : World} {B : Nat} {v : Value} {b off m cc : Nat} {L : List Ent} (hb : Below w.heap.size w wa) (hg : wa.grownBy w6 v.ownBlock) (hne : v.ownBlock ≠ some b) (h : Es w B (.slice (some ⟨b, off, none⟩) m cc) L) (hm : L ≠ []) : w6.heap[b]? = w.heap[b]? := by
  obtain ⟨bl, o, cs, e, hlt, _⟩ := h.row hm
  cases e
  rw [hg.block b (Nat.lt_of_lt_of_le hlt hb.size) (fun e => hne e.symm), hb.block b hlt]
/-- What holds between the rounds in which room is made. -/
def Rnd (w3 : World) (B ob : Nat) (lim : Int) (D : List Ent) (now need : Int) (gi : Nat) (gv : Value) (wr : World) : Prop :=
  ∃ (k : Nat) (pp : Option Addr) (m cc : Nat) (cs : List Value) (Lk : List Ent), k ≤ D.length ∧ gi = k ∧ Lk = D.take k ∧ m = Lk.length ∧ Two wr ob (.int .i64 lim) (.slice pp m cc) ∧ Es wr B (.slice pp m cc) Lk ∧ (pp = none → cc = 0) ∧ wr.ownsRow w3.heap.size 25 5 gv (goneL D k now).length cs ∧ EQ wr B (goneL D k now) cs ∧ (∀ a, pp = some a → gv.ownBlock ≠ some a.block) ∧ Below w3.heap.size w3 wr ∧ cutJ lim need D D.length = cutJ lim need D k
theorem start_some {w3 v6 w7 : World} {B ob : Nat} {lim : Int} {L D : List Ent} {now need : Int} {i : Nat} {p6 : Option Addr} {c6 : Nat} {z0 : Value}
    (hD : D = butE L i) (hob : w3.heap.size ≤ ob) (hB : B ≤ w3.heap.size) (hb : Below w3.heap.size w3 v6) (zo : Two v6 ob (.int .i64 lim) z0) (he : Es v6 B (.slice p6 (butE L i).length c6) (butE L i)) (hz : p6 = none → c6 = 0) (hn : ∀ a, p6 = some a → ob < a.block)
    (hz7 : Two w7 ob (.int .i64 lim) (.slice p6 (butE L i).length c6)) (hg7 : v6.grownBy w7 (some ob)) : Rnd w3 B ob lim D now need D.length (.slice none 0 0) w7 := by
  subst hD
  have tg := zo.tag
  have hBo : B ≤ ob := Nat.le_trans hB hob
  exact ⟨(butE L i).length, p6, (butE L i).length, c6, [], butE L i, Nat.le_refl _, rfl, List.take_length.symm, rfl, hz7, he.boxed hg7 hBo tg (by decide) (fun _ _ _ b _ e => by have h5 := hn _ (Value.slice.inj e).1; simp at h5; omega), hz, by rw [goneL_all]; exact ⟨rfl, .inl ⟨rfl, rfl⟩⟩, by rw [goneL_all]; exact rfl, fun a _ => by simp [Value.ownBlock], hb.grown hg7 hb.size (fun k hk => by cases hk; exact hob), rfl⟩
theorem loop_end {w3 v11 w12 : World} {B ob : Nat} {lim : Int} {D Lk gn : List Ent} {now need : Int} {k1 : Nat} {y : Ent} {p11 : Option Addr} {c11 : Nat} {gv z0 : Value} {cs : List Value}
    (hD : k1 + 1 ≤ D.length) (hLk : Lk = D.take (k1 + 1)) (hy : D[k1]? = some y) (hob : w3.heap.size ≤ ob) (hb : Below w3.heap.size w3 v11) (zo : Two v11 ob (.int .i64 lim) z0) (he : Es v11 B (.slice p11 k1 c11) (Lk.take k1)) (hz : p11 = none → c11 = 0) (hB : B ≤ w3.heap.size) (hn : ∀ a, p11 = some a → ob < a.block)
    (ho : v11.ownsRow w3.heap.size 25 5 gv (goneL D (k1 + 1) now ++ gn).length cs) (hq : EQ v11 B (goneL D (k1 + 1) now ++ gn) cs) (hne : ∀ a, p11 = some a → gv.ownBlock ≠ some a.block) (hg : gn = if lv y now = true then [y] else []) (hcut : cutJ lim need D D.length = cutJ lim need D k1)
    (hz12 : Two w12 ob (.int .i64 lim) (.slice p11 k1 c11)) (hg12 : v11.grownBy w12 (some ob)) : Rnd w3 B ob lim D now need k1 gv w12 := by
  have hgs := goneL_step hy now
  rw [← hg] at hgs
  rw [← hgs] at ho hq
  have ht : Lk.take k1 = D.take k1 := by rw [hLk, List.take_take]; congr 1; omega
  rw [ht] at he
  have tg := zo.tag
  have hBo : B ≤ ob := Nat.le_trans hB hob
  refine ⟨k1, p11, k1, c11, cs, D.take k1, by omega, rfl, rfl, by rw [List.length_take]; omega, hz12, ?_, hz, own_kept5 ho (fun b _ ht => hg12.block b ht.lt (fun e => by have e := Option.some.inj e; subst e; exact ht.ne tg (by decide) rfl)), hq.keep (fun _ _ h => h.boxed hg12 hBo tg (by decide)), hne, hb.grown hg12 hb.size (fun k hk => by cases hk; exact hob), hcut⟩
  exact he.boxed hg12 hBo tg (by decide) (fun _ _ _ b _ e => by have h5 := hn _ (Value.slice.inj e).1; simp at h5; omega)

set_option maxHeartbeats 4000000 in
set_option maxRecDepth 8000 in
theorem rset_good {w : World} {B : Nat} {lim : Int} {p : Option Addr} {cap : Nat} {L : List Ent} (h : Es w B (.slice p L.length cap) L) (hz : p = none → cap = 0) (hl : L.length ≤ 1000) (hBw : B ≤ w.heap.size) (hf : ∀ y ∈ L, checkE y = 0) (hnd : (L.map (·.key)).Nodup) (hlim : 1 ≤ lim ∧ lim ≤ 20000) (x : Ent) {q : Option Addr} {c : Nat} (hx : Bq w B (.slice q x.val.length c) x.val) (hkk : x.key.size ≤ 1000) (hkv : x.val.length ≤ 5000) (now : Int) (hc0 : checkE x = 0) (hlv : lv x now = true) (hfx : fitsX lim x = true) :
    Calls Tryz.prog 39 #[.agg #[.int .i64 lim, .slice p L.length cap], .agg #[.string x.key, .int .i64 x.ver, .int .i64 x.asof, .int .i64 x.ends, .slice q x.val.length c], .int .i64 now] w fun e w' => ∃ p' cap' gv, e = .returned (.tuple #[.agg #[.int .i64 lim, .slice p' (setP lim L x now).1.length cap'], gv, .int .i64 (setP lim L x now).2.2]) ∧ Es w' B (.slice p' (setP lim L x now).1.length cap') (setP lim L x now).1 ∧ (p' = none → cap' = 0) ∧ Es w' B gv (setP lim L x now).2.1 ∧ Below w.heap.size w w' := by
  have HE0 := hid2 h
  have hcap : L.length ≤ cap ∧ cap ≤ maxLen := by obtain ⟨_, _, e, h1, h2, _⟩ := h; cases e; exact ⟨h1, h2⟩
  obtain ⟨hc1, hc2⟩ := hcap
  unfold maxLen at hc2
  obtain ⟨g, hg⟩ : ∃ g, g = w.heap.size := ⟨_, rfl⟩
  obtain ⟨wa, hwa⟩ : ∃ wa, wa = w.alloc (.cells #[.int .i64 lim, .slice p L.length cap] 37) := ⟨_, rfl⟩
  obtain ⟨wb, hwb⟩ : ∃ wb, wb = wa.alloc (.cells #[.string x.key, .int .i64 x.ver, .int .i64 x.asof, .int .i64 x.ends, .slice q x.val.length c] 25) := ⟨_, rfl⟩
  obtain ⟨wc, hwc⟩ : ∃ wc, wc = wb.alloc (.cells #[.int .i64 0, .slice none 0 0] 37) := ⟨_, rfl⟩
  have sa : wa.heap.size = g + 1 := by rw [hwa, hg]; simp
  have sb : wb.heap.size = g + 2 := by rw [hwb]; simp [sa]
  have A1 : Below w.heap.size w wa := by rw [hwa]; go_grown
  have A2 : Below wa.heap.size wa wb := by rw [hwb]; go_grown
  have A3 : Below wb.heap.size wb wc := by rw [hwc]; go_grown
  have Za : Two wa g (.int .i64 lim) (.slice p L.length cap) := by rw [hwa, hg]; exact heap_alloc_new w _
  have Zb : wb.heap[g + 1]? = some (.cells #[.string x.key, .int .i64 x.ver, .int .i64 x.asof, .int .i64 x.ends, .slice q x.val.length c] 25 (0, 0)) := by rw [hwb, ← sa]; exact heap_alloc_new wa _
  have Zc : Two wc (g + 2) (.int .i64 0) (.slice none 0 0) := by rw [hwc, ← sb]; exact heap_alloc_new wb _
  have Bc := (A1.trans (A2.mono A1.size)).trans (A3.mono (Nat.le_trans A1.size A2.size))
  have Z0 := hid2 ((Za.stays A2).stays A3)
  have Z1 := hid2 (heap_stays Zb A3)
  have Z2' := hid2 Zc
  have HBc := hid2 Bc
  have HE := hid2 (h.stays Bc)
  have HX := hid2 (hx.stays Bc)
  have HG := hid2 hg
  have HWA := hid2 hwa
  have HWB := hid2 hwb
  have HWC := hid2 hwc
  have HZ := hid2 hz
  have KC := hid2 (Ite.rcheck_any x.key x.ver x.asof x.ends q x.val.length c wc (Nat.le_trans hkk (by unfold maxLen; omega)) (Nat.le_trans hkv (by unfold maxLen; omega)))
  rw [show Ite.chk x.key x.ver x.asof x.ends x.val.length = checkE x from rfl] at KC
  have KL := hid2 (fun W => Ite.rlive_any x.key x.ver x.asof x.ends now q x.val.length c W)
  rw [show Ite.liveB x.ends now = lv x now from rfl] at KL
  have HF := hid2 hf
  have HND := hid2 hnd
  unfold setP
  rw [if_neg (by simpa using hc0), hlv, if_neg (by simp), hfx, if_neg (by simp)]
  rw [hlv] at KL
  have HC0 := hid2 hc0
  have hneed : tk x ≤ lim := by unfold fitsX at hfx; simp at hfx; exact hfx.2
  have htk0 := tk_nonneg x
  have htk8 := (fine_class hc0).2.2.2
  have KFI := hid2 (fun W (h1 : Es W B (.slice p L.length cap) L) => find_any h1 x.key (by omega))
  have KBU := hid2 (fun W (i : Nat) (h1 : Es W B (.slice p L.length cap) L) (hi : i < L.length) => rbut_t (lim := lim) h1 hi hl)
  obtain ⟨i0, hi0, hz0, hz1, hz2⟩ := info_parts info_en
  obtain ⟨D, hDD⟩ : ∃ D, D = dropE L x.key := ⟨_, rfl⟩
  rw [← hDD]
  have HFD : Hid (∀ y ∈ D, checkE y = 0) := by
    intro y hy
    rw [hDD] at hy
    unfold dropE at hy
    cases hj : idx L x.key with
    | none => rw [hj] at hy; exact hf y hy
    | some i =>
      rw [hj] at hy
      rcases List.mem_append.1 hy with h1 | h1
      · exact hf y (List.mem_of_mem_take h1)
      · exact hf y (List.mem_of_mem_drop h1)
  have HB3B0 : B ≤ g := by omega
  cases hi : idx L x.key with
  | none =>
    have hDL : D = L := by rw [hDD]; unfold dropE; rw [hi]
    have hfe : findE L x.key = -1 := by unfold findE; rw [hi]
    rw [hfe] at KFI
    subst hDL
    have hDl : D.length ≤ 1000 := hl
    clear hlv hfe hi hDD hc0
    clear h hx hz A1 A2 A3 Za Zb Zc Bc hwa hwb hwc hg hf hnd
    go_enter Tryz.func39, Tryz.ntmps39
    obtain ⟨⟨q0, q1, q2, q3, q4⟩, qf⟩ := Ite.five24 Z1.out
    have hqlt := lt_of_block Z1.out
    go_wp2_with fail
    rw [← HWA.out, ← HWB.out, ← HWC.out, ← HG.out]
    refine (show Calls _ _ _ _ _ from KC.out).mono ?_
    rintro e w1 ⟨rfl, hb1⟩
    have HB1 := hid2 (HBc.out.trans (hb1.mono HBc.out.size))
    have Z01 := hid2 (Z0.out.stays hb1)
    have Z11 := hid2 (heap_stays Z1.out hb1)
    have Z21 := hid2 (Z2'.out.stays hb1)
    have HE1 := hid2 (HE.out.stays hb1)
    have HX1 := hid2 (HX.out.stays hb1)
    clear hb1 KC q0 q1 q2 q3 q4 qf hqlt
    obtain ⟨⟨q0, q1, q2, q3, q4⟩, qf⟩ := Ite.five24 Z11.out
    have hqlt := lt_of_block Z11.out
    rw [HC0.out]
    go_wp2_with fail
    refine (show Calls _ _ _ _ _ from KL.out _).mono ?_
    rintro e w2 ⟨rfl, hb2⟩
    have HB2 := hid2 (HB1.out.trans (hb2.mono HB1.out.size))
    have Z02 := hid2 (Z01.out.stays hb2)
    have Z12 := hid2 (heap_stays Z11.out hb2)
    have Z22 := hid2 (Z21.out.stays hb2)
    have HE2 := hid2 (HE1.out.stays hb2)
    have HX2 := hid2 (HX1.out.stays hb2)
    obtain ⟨⟨q0, q1, q2, q3, q4⟩, qf⟩ := Ite.five24 Z12.out
    have hqlt := lt_of_block Z12.out
    clear hb2
    obtain ⟨z0, z1, z2, z3⟩ := Z02.out.cells
    go_wp2_with fail
    refine (rfits_t x HC0.out HX2.out.bs).mono ?_
    rintro e w3 ⟨rfl, hb3⟩
    rw [hfx]
    have HB3 := hid2 (HB2.out.trans (hb3.mono HB2.out.size))
    have Z03 := hid2 (Z02.out.stays hb3)
    have Z13 := hid2 (heap_stays Z12.out hb3)
    have Z23 := hid2 (Z22.out.stays hb3)
    have HE3 := hid2 (HE2.out.stays hb3)
    have HX3 := hid2 (HX2.out.stays hb3)
    obtain ⟨⟨q0, q1, q2, q3, q4⟩, qf⟩ := Ite.five24 Z13.out
    have hqlt := lt_of_block Z13.out
    clear hb3
    clear hfx
    obtain ⟨z0, z1, z2, z3⟩ := Z03.out.cells
    obtain ⟨ob, hob⟩ : ∃ ob, ob = w3.heap.size := ⟨_, rfl⟩
    have YO := hid2 (heap_alloc_new w3 (.cells #[.int .i64 0, .slice none 0 0] 37))
    have BA : Hid (Below w3.heap.size w3 (w3.alloc (.cells #[.int .i64 0, .slice none 0 0] 37))) := by show Below _ _ _; go_grown
    have HB3B : Hid (B ≤ w3.heap.size) := by have := HB3.out.size; have := HG.out; show _ ≤ _; omega
    have HG3 : Hid (g + 2 < w3.heap.size) := Z23.out.tag.lt
    have HOB : Hid (w3.heap.size ≤ ob) := Nat.le_of_eq hob.symm
    have HOBE := hid2 hob
    clear hob
    go_wp2_with (refine st37 rfl (.tmp 10) (.tmp 30) rfl w3.heap.size rfl _ _ _ YO.out rfl rfl ⟨rfl, rfl⟩ ?_; intro w4 hz4 hg4; rw [← HOBE.out] at hz4 hg4 ⊢; have B4 : Hid (Below w3.heap.size w3 w4) := BA.out.grown hg4 BA.out.size (fun j hj => by (cases hj; exact HOB.out)); have ZO4 := hid2 hz4; have HE4 := hid2 (HE3.out.stays B4.out); obtain ⟨s0, s1, s2, s3⟩ := (Z03.out.stays B4.out).cells; obtain ⟨⟨u0, u1, u2, u3, u4⟩, uf⟩ := Ite.five24 (heap_stays Z13.out B4.out); have hult := lt_of_block (heap_stays Z13.out B4.out); clear hz4 hg4 q0 q1 q2 q3 q4 qf hqlt z0 z1 z2 z3)
    refine (KFI.out _ HE4.out).mono ?_
    rintro e w5 ⟨rfl, hw5⟩
    subst hw5
    go_wp2_with fail
    go_loopg [12] D.length (fun gi gv wr => Rnd w3 B ob lim D now (tk x) gi gv wr)
    case atStart => exact ⟨D.length, p, D.length, cap, [], D, Nat.le_refl _, rfl, List.take_length.symm, rfl, ZO4.out, HE4.out, HZ.out, by rw [goneL_all]; exact ⟨rfl, .inl ⟨rfl, rfl⟩⟩, by rw [goneL_all]; exact rfl, fun a _ => by simp [Value.ownBlock], B4.out, rfl⟩
    case round =>
      obtain ⟨k, pp, m, cc, cs, Lk, hkD, hgi, hLk, hm, zo, he, hzp, ho, hq, hne, hbr, hcut⟩ := hrel
      have HGI := hid2 hgi
      have HLK := hid2 hLk
      have HM := hid2 hm
      have ZO := hid2 zo
      have HEr := hid2 he
      have HZP := hid2 hzp
      have HO := hid2 ho
      have HQ := hid2 hq
      have HNE := hid2 hne
      have HBr := hid2 hbr
      have X1 := hid2 (heap_stays Z13.out hbr)
      have HXr := hid2 (HX3.out.stays hbr)
      have hfk : ∀ y ∈ Lk, checkE y = 0 := fun y hy => HFD.out y (by rw [hLk] at hy; exact List.mem_of_mem_take hy)
      have hm1 : m ≤ 1000 := by rw [hm, hLk, List.length_take]; omega
      have KU := hid2 (fun W (h1 : Es W B (.slice pp m cc) Lk) => rused_m (lim := lim) hm h1 hfk hm1)
      have hu0 := usedL_nonneg Lk
      have hu1 := usedL_le hfk
      rw [← hm] at hu1
      have hus : usedL (D.take k) = usedL Lk := by rw [hLk]
      have hwrap : IntKind.i64.wrap (lim - usedL Lk) = lim - usedL Lk := by rw [IntKind.wrap_i64]; omega
      have hgml := gone_len (L := D) (k := k) (now := now)
      by_cases hfit : tk x ≤ lim - usedL (D.take k)
      · rw [cutJ_stop hfit] at hcut
        rw [hus] at hfit
        have HCUT := hid2 hcut
        have hgt : ¬ lim - usedL Lk < tk x := by omega
        generalize hus2 : usedL Lk = us at *
        clear hgi hLk hm zo he hzp ho hq hne hbr hcut hfk hus hus2 hfit
        go_wp2_with fail
        refine wp_region_held_drew (S := fun W => Two W ob (.int .i64 lim) (.slice pp m cc) ∧ W.heap[g + 1]? = some (.cells #[.string x.key, .int .i64 x.ver, .int .i64 x.asof, .int .i64 x.ends, .slice q x.val.length c] 25 (0, 0))) (by kernel_rfl) (⟨ZO.out, X1.out⟩) (fun hS => ?_)
        change wpAnyH _ _ _ _ _ _ _ _ (World.drew _)
        refine wpAnyH_take (i := 0) (v := .agg #[.string x.key, .int .i64 x.ver, .int .i64 x.asof, .int .i64 x.ends, .slice q x.val.length c]) rfl (by kernel_rfl) (by kernel_rfl) (by kernel_rfl) (fun _ _ _ h => h) (yieldsIf_load_mid (by kernel_rfl) 25 (.tmp 4) rfl (g + 1) 0 rfl ([.string x.key, .int .i64 x.ver, .int .i64 x.asof, .int .i64 x.ends, .slice q x.val.length c]) _ (fun W hw => box_range hw.2) Ite.Tryz.und24.choose_spec rfl (Ite.Tryz.size24)) hS ?_
        change wpAnyH _ _ _ _ _ _ _ (Act.put _ (some 41) _) _
        simp only [Act.put, List.setIfInBounds_toArray, List.set_cons_succ, List.set_cons_zero]
        refine wpAnyH_take (i := 2) (v := .pointer (some ⟨ob, 0, none⟩)) rfl (by kernel_rfl) (by kernel_rfl) (by kernel_rfl) (fun _ _ _ h => h) (Or.inl ⟨by kernel_rfl, ?_⟩) hS ?_
        · intro w hw; clear hw; go_simp
        change wpAnyH _ _ _ _ _ _ _ (Act.put _ (some 43) _) _
        simp only [Act.put, List.setIfInBounds_toArray, List.set_cons_succ, List.set_cons_zero]
        refine wpAnyH_take (i := 3) (v := .int .i64 lim) rfl (by kernel_rfl) (by kernel_rfl) (by kernel_rfl) (fun _ _ _ h => h) (Or.inl ⟨by kernel_rfl, ?_⟩) hS ?_
        · intro w hw
          obtain ⟨e0, e1, e2, e3⟩ := hw.1.cells
          go_simp
        change wpAnyH _ _ _ _ _ _ _ (Act.put _ (some 44) _) _
        simp only [Act.put, List.setIfInBounds_toArray, List.set_cons_succ, List.set_cons_zero]
        refine wpAnyH_take (i := 4) (v := .agg #[.int .i64 lim, .slice pp m cc]) rfl (by kernel_rfl) (by kernel_rfl) (by kernel_rfl) (fun _ _ _ h => h) (yieldsIf_load_mid (by kernel_rfl) 37 (.tmp 10) rfl ob 0 rfl ([.int .i64 lim, .slice pp m cc]) _ (fun W hw => two_range hw.1) und_rm.choose_spec rfl (size_rm)) hS ?_
        change wpAnyH _ _ _ _ _ _ _ (Act.put _ (some 45) _) _
        simp only [Act.put, List.setIfInBounds_toArray, List.set_cons_succ, List.set_cons_zero]
        refine wpAnyH_ready (rs := [1]) (by kernel_rfl) (by simp) ?_
        refine AllReadyH.cons rfl (fun K hK => ?_) AllReadyH.nil
        go_simp
        go_wp2_with fail
        refine (takes_t x q c wr.drew HC0.out (HXr.out.stays (drew_below_m wr 1 _)).bs).mono ?_
        rintro e v8 ⟨rfl, hb8⟩
        have HV8 := hid2 ((drew_below_m wr 1 wr.heap.size).trans (hb8.mono (Nat.le_refl _)))
        refine hK.out _ _ (⟨Two.stays hS.1 hb8, heap_stays hS.2 hb8⟩) (fun hS => ?_)
        clear hK K
        skip
        refine wpAnyH_ready (rs := [5]) (by kernel_rfl) (by simp) ?_
        refine AllReadyH.cons rfl (fun K hK => ?_) AllReadyH.nil
        go_simp
        go_wp2_with fail
        refine (show Calls _ _ _ _ _ from KU.out _ (HEr.out.stays HV8.out)).mono ?_
        rintro e v9 ⟨rfl, hb9⟩
        have HV9 := hid2 (HV8.out.trans (hb9.mono HV8.out.size))
        refine hK.out _ _ (⟨Two.stays hS.1 hb9, heap_stays hS.2 hb9⟩) (fun hS => ?_)
        clear hK K
        skip
        refine wpAnyH_take (i := 6) (v := .int .i64 (lim - us)) rfl (by kernel_rfl) (by kernel_rfl) (by kernel_rfl) (fun _ _ _ h => h) (Or.inl ⟨by kernel_rfl, ?_⟩) hS ?_
        · intro w hw; clear hw; go_simp
        change wpAnyH _ _ _ _ _ _ _ (Act.put _ (some 47) _) _
        simp only [Act.put, List.setIfInBounds_toArray, List.set_cons_succ, List.set_cons_zero]
        refine wpAnyH_take (i := 7) (v := .bool false) rfl (by kernel_rfl) (by kernel_rfl) (by kernel_rfl) (fun _ _ _ h => h) (Or.inl ⟨by kernel_rfl, ?_⟩) hS ?_
        · intro w hw; clear hw; go_simp
        change wpAnyH _ _ _ _ _ _ _ (Act.put _ (some 48) _) _
        simp only [Act.put, List.setIfInBounds_toArray, List.set_cons_succ, List.set_cons_zero]
        refine wpAnyH_done (by kernel_rfl) ?_ _
        skip
        clear hS
        have HB9 := hid2 (HBr.out.trans (HV9.out.mono HBr.out.size))
        have ZO9 := hid2 (ZO.out.stays HV9.out)
        have HE9 := hid2 (HEr.out.stays HV9.out)
        have HO9 := hid2 (own_fr (B := B) HO.out (.of HV9.out))
        have HQ9 := hid2 (HQ.out.stays HV9.out)
        have X19 := hid2 (heap_stays X1.out HV9.out)
        have HX9 := hid2 (HXr.out.stays HV9.out)
        obtain ⟨o0, o1, o2, o3⟩ := ZO9.out.cells
        clear HV8
        have KAH := hid2 (rahead_m (lim := lim) HM.out HE9.out HZP.out hm1 x HX9.out)
        obtain ⟨⟨r0, r1, r2, r3, r4⟩, rf⟩ := Ite.five24 X19.out
        have hrl := lt_of_block X19.out
        go_wp2_with fail
        refine (show Calls _ _ _ _ _ from KAH.out).mono ?_
        rintro e v10 ⟨p10, c10, rfl, he10, hz10, hn10, hb10⟩
        have HB10 := hid2 (HB9.out.trans (hb10.mono HB9.out.size))
        have Z210 := hid2 (heap_stays (o := .cells #[.int .i64 0, .slice none 0 0] 37 (0, 0)) Z23.out HB10.out)
        have HBX := hid2 (HB3.out.trans (HB10.out.mono HB3.out.size))
        have HE10 := hid2 he10
        have HGS := hid2 ((Es.own (B := B) HO9.out rfl HQ9.out).stays hb10)
        have HZ10 := hid2 hz10
        have HN10 := hid2 hn10
        have H39 : Hid (w3.heap.size ≤ v9.heap.size) := HB9.out.size
        clear he10 hz10 hn10 hb10 KAH o0 o1 o2 o3 r0 r1 r2 r3 r4 rf hrl
        go_wp2_with (refine st37 rfl (.tmp 6) (.tmp 73) rfl (g + 2) rfl _ _ _ Z210.out rfl rfl ⟨rfl, rfl⟩ ?_; intro wz hzz hgz)
        have BZ : Below w.heap.size w wz := HBX.out.grown hgz HBX.out.size (fun j hj => by cases hj; have := HG.out; omega)
        have tg10 : Tag v10 (g + 2) 37 := ⟨_, _, Z210.out⟩
        have hgB : B ≤ g + 2 := by have := HG.out; omega
        have EZ := HE10.out.boxed hgz hgB tg10 (by decide) (fun _ _ _ _ _ e => by have h5 := HN10.out _ (Value.slice.inj e).1; have := H39.out; have := HG3.out; simp at h5; omega)
        have GZ := HGS.out.boxed hgz hgB tg10 (by decide) (fun _ _ _ b _ e => by have := own_low HO9.out b (by rw [e]; rfl); have := HG3.out; omega)
        rw [HCUT.out]
        have hm2 : m + 1 = (x :: D.take k).length := by rw [List.length_cons, ← HLK.out, ← HM.out]
        rw [HLK.out] at EZ
        refine bodyPost_ret (v := .tuple #[.agg #[.int .i64 lim, .slice p10 (m + 1) c10], u12, .int .i64 0]) ?_ rfl ⟨p10, c10, u12, by rw [hm2]; rfl, by rw [show (D.take k).length + 1 = m + 1 from hm2.symm]; exact EZ, HZ10.out, GZ, BZ⟩
        exact results_set Tryz.results39 _ _ (g + 2) rfl _ _ _ _ hzz rfl rfl
      · cases k with
        | zero =>
          exfalso
          simp [usedL_nil] at hfit
          omega
        | succ k1 =>
          rw [cutJ_go hfit] at hcut
          have HCUT := hid2 hcut
          have hgt : lim - usedL Lk < tk x := by rw [hus] at hfit; omega
          have hk1m : k1 + 1 = m := by rw [hm, hLk, List.length_take]; omega
          obtain ⟨y, hy⟩ : ∃ y, D[k1]? = some y := ⟨_, List.getElem?_eq_getElem (by omega)⟩
          have hyk0 := hy
          have hyk : Lk[k1]? = some y := by rw [hLk, List.getElem?_take_of_lt (Nat.lt_succ_self k1)]; exact hy
          have hm0 : Lk ≠ [] := fun e => by rw [e] at hyk; simp at hyk
          have HD := hid2 hkD
          have hI : (0 : Int) ≤ (k1 : Int) ∧ (k1 : Int) < (m : Int) := by omega
          have htn : ((k1 : Int)).toNat = k1 := by omega
          have hsub : (m : Int) - 1 = (k1 : Int) := by omega
          have hsubw : IntKind.i64.wrap ((m : Int) - 1) = (k1 : Int) := by rw [IntKind.wrap_i64]; omega
          generalize hus2 : usedL Lk = us at *
          clear hgi hLk hm zo he hzp ho hq hne hbr hcut hfk hus hus2 hfit hy
          go_wp2_with fail
          refine wp_region_held_drew (S := fun W => Two W ob (.int .i64 lim) (.slice pp m cc) ∧ W.heap[g + 1]? = some (.cells #[.string x.key, .int .i64 x.ver, .int .i64 x.asof, .int .i64 x.ends, .slice q x.val.length c] 25 (0, 0))) (by kernel_rfl) (⟨ZO.out, X1.out⟩) (fun hS => ?_)
          change wpAnyH _ _ _ _ _ _ _ _ (World.drew _)
          refine wpAnyH_take (i := 0) (v := .agg #[.string x.key, .int .i64 x.ver, .int .i64 x.asof, .int .i64 x.ends, .slice q x.val.length c]) rfl (by kernel_rfl) (by kernel_rfl) (by kernel_rfl) (fun _ _ _ h => h) (yieldsIf_load_mid (by kernel_rfl) 25 (.tmp 4) rfl (g + 1) 0 rfl ([.string x.key, .int .i64 x.ver, .int .i64 x.asof, .int .i64 x.ends, .slice q x.val.length c]) _ (fun W hw => box_range hw.2) Ite.Tryz.und24.choose_spec rfl (Ite.Tryz.size24)) hS ?_
          change wpAnyH _ _ _ _ _ _ _ (Act.put _ (some 41) _) _
          simp only [Act.put, List.setIfInBounds_toArray, List.set_cons_succ, List.set_cons_zero]
          refine wpAnyH_take (i := 2) (v := .pointer (some ⟨ob, 0, none⟩)) rfl (by kernel_rfl) (by kernel_rfl) (by kernel_rfl) (fun _ _ _ h => h) (Or.inl ⟨by kernel_rfl, ?_⟩) hS ?_
          · intro w hw; clear hw; go_simp
          change wpAnyH _ _ _ _ _ _ _ (Act.put _ (some 43) _) _
          simp only [Act.put, List.setIfInBounds_toArray, List.set_cons_succ, List.set_cons_zero]
          refine wpAnyH_take (i := 3) (v := .int .i64 lim) rfl (by kernel_rfl) (by kernel_rfl) (by kernel_rfl) (fun _ _ _ h => h) (Or.inl ⟨by kernel_rfl, ?_⟩) hS ?_
          · intro w hw
            obtain ⟨e0, e1, e2, e3⟩ := hw.1.cells
            go_simp
          change wpAnyH _ _ _ _ _ _ _ (Act.put _ (some 44) _) _
          simp only [Act.put, List.setIfInBounds_toArray, List.set_cons_succ, List.set_cons_zero]
          refine wpAnyH_take (i := 4) (v := .agg #[.int .i64 lim, .slice pp m cc]) rfl (by kernel_rfl) (by kernel_rfl) (by kernel_rfl) (fun _ _ _ h => h) (yieldsIf_load_mid (by kernel_rfl) 37 (.tmp 10) rfl ob 0 rfl ([.int .i64 lim, .slice pp m cc]) _ (fun W hw => two_range hw.1) und_rm.choose_spec rfl (size_rm)) hS ?_
          change wpAnyH _ _ _ _ _ _ _ (Act.put _ (some 45) _) _
          simp only [Act.put, List.setIfInBounds_toArray, List.set_cons_succ, List.set_cons_zero]
          refine wpAnyH_ready (rs := [1]) (by kernel_rfl) (by simp) ?_
          refine AllReadyH.cons rfl (fun K hK => ?_) AllReadyH.nil
          go_simp
          go_wp2_with fail
          refine (takes_t x q c wr.drew HC0.out (HXr.out.stays (drew_below_m wr 1 _)).bs).mono ?_
          rintro e v8 ⟨rfl, hb8⟩
          have HV8 := hid2 ((drew_below_m wr 1 wr.heap.size).trans (hb8.mono (Nat.le_refl _)))
          refine hK.out _ _ (⟨Two.stays hS.1 hb8, heap_stays hS.2 hb8⟩) (fun hS => ?_)
          clear hK K
          skip
          refine wpAnyH_ready (rs := [5]) (by kernel_rfl) (by simp) ?_
          refine AllReadyH.cons rfl (fun K hK => ?_) AllReadyH.nil
          go_simp
          go_wp2_with fail
          refine (show Calls _ _ _ _ _ from KU.out _ (HEr.out.stays HV8.out)).mono ?_
          rintro e v9 ⟨rfl, hb9⟩
          have HV9 := hid2 (HV8.out.trans (hb9.mono HV8.out.size))
          refine hK.out _ _ (⟨Two.stays hS.1 hb9, heap_stays hS.2 hb9⟩) (fun hS => ?_)
          clear hK K
          skip
          refine wpAnyH_take (i := 6) (v := .int .i64 (lim - us)) rfl (by kernel_rfl) (by kernel_rfl) (by kernel_rfl) (fun _ _ _ h => h) (Or.inl ⟨by kernel_rfl, ?_⟩) hS ?_
          · intro w hw; clear hw; go_simp
          change wpAnyH _ _ _ _ _ _ _ (Act.put _ (some 47) _) _
          simp only [Act.put, List.setIfInBounds_toArray, List.set_cons_succ, List.set_cons_zero]
          refine wpAnyH_take (i := 7) (v := .bool true) rfl (by kernel_rfl) (by kernel_rfl) (by kernel_rfl) (fun _ _ _ h => h) (Or.inl ⟨by kernel_rfl, ?_⟩) hS ?_
          · intro w hw; clear hw; go_simp
          change wpAnyH _ _ _ _ _ _ _ (Act.put _ (some 48) _) _
          simp only [Act.put, List.setIfInBounds_toArray, List.set_cons_succ, List.set_cons_zero]
          refine wpAnyH_done (by kernel_rfl) ?_ _
          skip
          clear hS
          have HB9 := hid2 (HBr.out.trans (HV9.out.mono HBr.out.size))
          have ZO9 := hid2 (ZO.out.stays HV9.out)
          have HE9 := hid2 (HEr.out.stays HV9.out)
          have HO9 := hid2 (own_fr (B := B) HO.out (.of HV9.out))
          have HQ9 := hid2 (HQ.out.stays HV9.out)
          have X19 := hid2 (heap_stays X1.out HV9.out)
          have HX9 := hid2 (HXr.out.stays HV9.out)
          obtain ⟨o0, o1, o2, o3⟩ := ZO9.out.cells
          clear HV8
          obtain ⟨b, off, qy, cy, rfl, hrange, hbq⟩ := HE9.out.cells hyk
          have HR9 := hid2 hrange
          have HBQ9 := hid2 hbq
          have hblt9 := World.block_lt_of_cell? _ _ (hrange 0 _ rfl)
          have KLy := hid2 (fun W => Ite.rlive_any y.key y.ver y.asof y.ends now qy y.val.length cy W)
          rw [show Ite.liveB y.ends now = lv y now from rfl] at KLy
          clear hrange hbq
          go_wp2_with (refine wpList_load_mid rfl 25 (.tmp 56) rfl b (off + k1 * 5) rfl _ _ HR9.out Ite.Tryz.und24.choose_spec rfl Ite.Tryz.size24 ?_)
          refine (show Calls _ _ _ _ _ from KLy.out _).mono ?_
          rintro e v10 ⟨rfl, hb10⟩
          have HB10 := hid2 (HB9.out.trans (hb10.mono HB9.out.size))
          have ZO10 := hid2 (ZO9.out.stays hb10)
          have HE10 := hid2 (HE9.out.stays hb10)
          have HO10 := hid2 (own_fr (B := B) HO9.out (.of hb10))
          have HQ10 := hid2 (HQ9.out.stays hb10)
          have HBQ10 := hid2 (HBQ9.out.stays hb10)
          have HR10 : Hid (v10.rangeAt b (off + k1 * 5) [.string y.key, .int .i64 y.ver, .int .i64 y.asof, .int .i64 y.ends, .slice qy y.val.length cy]) := fun i u hu => (hb10.cell (p := ⟨b, off + k1 * 5 + i, none⟩) hblt9).trans (HR9.out i u hu)
          have H310 : Hid (w3.heap.size ≤ v10.heap.size) := HB10.out.size
          clear hb10 o0 o1 o2 o3 KLy hblt9
          obtain ⟨o0, o1, o2, o3⟩ := ZO10.out.cells
          cases hly : lv y now with
          | false =>
            have HLY := hid2 hly
            clear hly
            have KB := hid2 (rbut_m (lim := lim) HM.out HE10.out hk1m hm1)
            go_wp2_with fail
            refine (show Calls _ _ _ _ _ from KB.out).mono ?_
            rintro e v11 ⟨p11, c11, rfl, he11, hz11, hn11, hb11⟩
            have HB11 := hid2 (HB10.out.trans (hb11.mono HB10.out.size))
            have ZO11 := hid2 (ZO10.out.stays hb11)
            have HE11 := hid2 he11
            have HZ11 := hid2 hz11
            have HN11 := hid2 hn11
            have HO11 := hid2 (own_fr (B := B) HO10.out (.of hb11))
            have HQ11 := hid2 (HQ10.out.stays hb11)
            have HGB := hid2 (own_lt HO10.out)
            clear he11 hz11 hn11 hb11 KB o0 o1 o2 o3
            go_wp2_with (refine st37 rfl (.tmp 10) (.tmp 70) rfl ob rfl _ _ _ ZO11.out rfl rfl ⟨rfl, rfl⟩ ?_; intro w12 hz12 hg12)
            go_roundg k1
            case measure => rw [HGI.out]; exact Nat.lt_succ_self k1
            case rel => exact loop_end (gn := []) HD.out HLK.out hyk0 HOB.out HB11.out ZO11.out HE11.out HZ11.out HB3B.out (fun a e => Nat.lt_of_lt_of_le ZO10.out.tag.lt (HN11.out a e)) (by rw [List.append_nil]; exact HO11.out) (by simpa using HQ11.out) (fun a e => by have h1 := HN11.out a e; exact fun e2 => by have := HGB.out _ e2; omega) (by rw [HLY.out]; rfl) HCUT.out hz12 hg12
          | true =>
            have HLY := hid2 hly
            clear hly
            generalize hgm : (goneL D (k1 + 1) now).length = gm at *
            have HGM := hid2 hgm
            clear hgm
            have KB := hid2 (fun W (h1 : Es W B (.slice (some ⟨b, off, none⟩) m cc) Lk) => rbut_m (lim := lim) HM.out h1 hk1m hm1)
            go_wp2_with (first
              | (refine wpList_load_mid rfl 25 (.tmp 64) rfl b (off + k1 * 5) rfl _ _ HR10.out Ite.Tryz.und24.choose_spec rfl Ite.Tryz.size24 ?_)
              | (at_builtin; refine wpList_append_own _ rfl (.tmp 60) (.tmp 66) 35 rfl w3.heap.size 25 i0 (.agg #[.string ⟨#[]⟩, .int .i64 0, .int .i64 0, .int .i64 0, .slice none 0 0]) 5 64 Tryz.underlying35 hi0 hz0 hz1 hz2 rfl (by decide) _ gm cs rfl (HO10.out.alloc _) ⟨v10.heap.size, 0, none⟩ 1 1 [.string y.key, .int .i64 y.ver, .int .i64 y.asof, .int .i64 y.ends, .slice qy y.val.length cy] rfl rfl (cell_five_new _ _ _ _ _ _ _) (by intro u hu; simp at hu; rcases hu with rfl | rfl | rfl | rfl | rfl <;> rfl) (by unfold maxLen; omega) (by omega) (by have := H310.out; simp; omega) ?_; intro v6 w6 hown6 hgrow6 hnil6; have GR := row_grown (w0 := w3) (show Below v10.heap.size v10 (v10.alloc (.cells #[.string y.key, .int .i64 y.ver, .int .i64 y.asof, .int .i64 y.ends, .slice qy y.val.length cy] 25)) by (go_grown)) HO10.out hgrow6 (Fr.of (B := B) HB10.out) (Nat.le_refl _) HB3B.out; have RG6 := hid2 GR.2; have HB6 := hid2 (below_row HB10.out (show Below v10.heap.size v10 (v10.alloc (.cells #[.string y.key, .int .i64 y.ver, .int .i64 y.asof, .int .i64 y.ends, .slice qy y.val.length cy] 25)) by (go_grown)) HO10.out hgrow6); have O6 := hid2 hown6; have ZO6 := hid2 (show Two w6 ob (.int .i64 lim) (.slice (some ⟨b, off, none⟩) m cc) from by (unfold Two; rw [RG6.out.tag ZO10.out.tag (by decide)]; exact ZO10.out)); have HE6 := hid2 (HE10.out.rg RG6.out (fun a e => by (cases e; exact row_other (show Below v10.heap.size v10 (v10.alloc (.cells #[.string y.key, .int .i64 y.ver, .int .i64 y.asof, .int .i64 y.ends, .slice qy y.val.length cy] 25)) by (go_grown)) hgrow6 (HNE.out _ rfl) HE10.out hm0))); have Q6 := hid2 ((HQ10.out.keep (RG6.out.bq (by decide))).snoc (RG6.out.bq (by decide) _ _ HBQ10.out)); have KB6 := hid2 (KB.out _ HE6.out); clear hown6 hgrow6 hnil6 GR KB o0 o1 o2 o3; obtain ⟨o0, o1, o2, o3⟩ := ZO6.out.cells))
            refine (show Calls _ _ _ _ _ from KB6.out).mono ?_
            rintro e v11 ⟨p11, c11, rfl, he11, hz11, hn11, hb11⟩
            have HB11 := hid2 (HB6.out.trans (hb11.mono HB6.out.size))
            have ZO11 := hid2 (ZO6.out.stays hb11)
            have HE11 := hid2 he11
            have HZ11 := hid2 hz11
            have HN11 := hid2 hn11
            have HO11 := hid2 (own_fr (B := B) O6.out (.of hb11))
            have HQ11 := hid2 (Q6.out.stays hb11)
            have HGB := hid2 (own_lt O6.out)
            have H36 : Hid (w3.heap.size ≤ w6.heap.size) := HB6.out.size
            clear he11 hz11 hn11 hb11 KB6 o0 o1 o2 o3
            go_wp2_with (refine st37 rfl (.tmp 10) (.tmp 70) rfl ob rfl _ _ _ ZO11.out rfl rfl ⟨rfl, rfl⟩ ?_; intro w12 hz12 hg12)
            go_roundg k1
            case measure => rw [HGI.out]; exact Nat.lt_succ_self k1
            case rel => exact loop_end (gn := [y]) HD.out HLK.out hyk0 HOB.out HB11.out ZO11.out HE11.out HZ11.out HB3B.out (fun a e => Nat.lt_of_lt_of_le ZO6.out.tag.lt (HN11.out a e)) (by rw [List.length_append, HGM.out]; exact HO11.out) HQ11.out (fun a e => by have h1 := HN11.out a e; exact fun e2 => by have := HGB.out _ e2; omega) (by rw [HLY.out]; rfl) HCUT.out hz12 hg12
  | some i =>
    have hDL : D = butE L i := by rw [hDD]; unfold dropE; rw [hi]
    have hfe : findE L x.key = (i : Int) := by unfold findE; rw [hi]
    rw [hfe] at KFI
    have hil := idx_lt hi
    have hDl : D.length ≤ 1000 := by rw [hDL]; unfold butE; rw [List.length_append, List.length_take, List.length_drop]; omega
    have HDL := hid2 hDL
    clear hlv hfe hi hDD hc0 hDL
    clear h hx hz A1 A2 A3 Za Zb Zc Bc hwa hwb hwc hg hf hnd
    go_enter Tryz.func39, Tryz.ntmps39
    obtain ⟨⟨q0, q1, q2, q3, q4⟩, qf⟩ := Ite.five24 Z1.out
    have hqlt := lt_of_block Z1.out
    go_wp2_with fail
    rw [← HWA.out, ← HWB.out, ← HWC.out, ← HG.out]
    refine (show Calls _ _ _ _ _ from KC.out).mono ?_
    rintro e w1 ⟨rfl, hb1⟩
    have HB1 := hid2 (HBc.out.trans (hb1.mono HBc.out.size))
    have Z01 := hid2 (Z0.out.stays hb1)
    have Z11 := hid2 (heap_stays Z1.out hb1)
    have Z21 := hid2 (Z2'.out.stays hb1)
    have HE1 := hid2 (HE.out.stays hb1)
    have HX1 := hid2 (HX.out.stays hb1)
    clear hb1 KC q0 q1 q2 q3 q4 qf hqlt
    obtain ⟨⟨q0, q1, q2, q3, q4⟩, qf⟩ := Ite.five24 Z11.out
    have hqlt := lt_of_block Z11.out
    rw [HC0.out]
    go_wp2_with fail
    refine (show Calls _ _ _ _ _ from KL.out _).mono ?_
    rintro e w2 ⟨rfl, hb2⟩
    have HB2 := hid2 (HB1.out.trans (hb2.mono HB1.out.size))
    have Z02 := hid2 (Z01.out.stays hb2)
    have Z12 := hid2 (heap_stays Z11.out hb2)
    have Z22 := hid2 (Z21.out.stays hb2)
    have HE2 := hid2 (HE1.out.stays hb2)
    have HX2 := hid2 (HX1.out.stays hb2)
    obtain ⟨⟨q0, q1, q2, q3, q4⟩, qf⟩ := Ite.five24 Z12.out
    have hqlt := lt_of_block Z12.out
    clear hb2
    obtain ⟨z0, z1, z2, z3⟩ := Z02.out.cells
    go_wp2_with fail
    refine (rfits_t x HC0.out HX2.out.bs).mono ?_
    rintro e w3 ⟨rfl, hb3⟩
    rw [hfx]
    have HB3 := hid2 (HB2.out.trans (hb3.mono HB2.out.size))
    have Z03 := hid2 (Z02.out.stays hb3)
    have Z13 := hid2 (heap_stays Z12.out hb3)
    have Z23 := hid2 (Z22.out.stays hb3)
    have HE3 := hid2 (HE2.out.stays hb3)
    have HX3 := hid2 (HX2.out.stays hb3)
    obtain ⟨⟨q0, q1, q2, q3, q4⟩, qf⟩ := Ite.five24 Z13.out
    have hqlt := lt_of_block Z13.out
    clear hb3
    clear hfx
    obtain ⟨z0, z1, z2, z3⟩ := Z03.out.cells
    obtain ⟨ob, hob⟩ : ∃ ob, ob = w3.heap.size := ⟨_, rfl⟩
    have YO := hid2 (heap_alloc_new w3 (.cells #[.int .i64 0, .slice none 0 0] 37))
    have BA : Hid (Below w3.heap.size w3 (w3.alloc (.cells #[.int .i64 0, .slice none 0 0] 37))) := by show Below _ _ _; go_grown
    have HB3B : Hid (B ≤ w3.heap.size) := by have := HB3.out.size; have := HG.out; show _ ≤ _; omega
    have HG3 : Hid (g + 2 < w3.heap.size) := Z23.out.tag.lt
    have HOB : Hid (w3.heap.size ≤ ob) := Nat.le_of_eq hob.symm
    have HOBE := hid2 hob
    clear hob
    go_wp2_with (refine st37 rfl (.tmp 10) (.tmp 30) rfl w3.heap.size rfl _ _ _ YO.out rfl rfl ⟨rfl, rfl⟩ ?_; intro w4 hz4 hg4; rw [← HOBE.out] at hz4 hg4 ⊢; have B4 : Hid (Below w3.heap.size w3 w4) := BA.out.grown hg4 BA.out.size (fun j hj => by (cases hj; exact HOB.out)); have ZO4 := hid2 hz4; have HE4 := hid2 (HE3.out.stays B4.out); obtain ⟨s0, s1, s2, s3⟩ := (Z03.out.stays B4.out).cells; obtain ⟨⟨u0, u1, u2, u3, u4⟩, uf⟩ := Ite.five24 (heap_stays Z13.out B4.out); have hult := lt_of_block (heap_stays Z13.out B4.out); clear hz4 hg4 q0 q1 q2 q3 q4 qf hqlt z0 z1 z2 z3)
    refine (KFI.out _ HE4.out).mono ?_
    rintro e w5 ⟨rfl, hw5⟩
    subst hw5
    have KB4 := hid2 (KBU.out _ i HE4.out hil)
    go_wp2_with fail
    refine (show Calls _ _ _ _ _ from KB4.out).mono ?_
    rintro e w6 ⟨p6, c6, rfl, he6, hz6, hn6, hb6⟩
    have HE6 := hid2 he6
    have HZ6 := hid2 hz6
    have HN6 := hid2 hn6
    have ZO6 := hid2 (ZO4.out.stays hb6)
    have B6 := hid2 (B4.out.trans (hb6.mono B4.out.size))
    have HS6 := hid2 (show w5.heap.size ≤ w6.heap.size from hb6.size)
    clear he6 hz6 hn6 hb6 KB4
    go_wp2_with (refine st37 rfl (.tmp 10) (.tmp 40) rfl ob rfl _ _ _ ZO6.out rfl rfl ⟨rfl, rfl⟩ ?_; intro w7 hz7 hg7; have HZ7 := hid2 hz7; have HG7 := hid2 hg7; clear hz7 hg7)
    go_loopg [12] D.length (fun gi gv wr => Rnd w3 B ob lim D now (tk x) gi gv wr)
    case atStart => exact start_some HDL.out HOB.out HB3B.out B6.out ZO6.out HE6.out HZ6.out (fun a e => Nat.lt_of_lt_of_le ZO4.out.tag.lt (HN6.out a e)) HZ7.out HG7.out
    case round =>
      obtain ⟨k, pp, m, cc, cs, Lk, hkD, hgi, hLk, hm, zo, he, hzp, ho, hq, hne, hbr, hcut⟩ := hrel
      have HGI := hid2 hgi
      have HLK := hid2 hLk
      have HM := hid2 hm
      have ZO := hid2 zo
      have HEr := hid2 he
      have HZP := hid2 hzp
      have HO := hid2 ho
      have HQ := hid2 hq
      have HNE := hid2 hne
      have HBr := hid2 hbr
      have X1 := hid2 (heap_stays Z13.out hbr)
      have HXr := hid2 (HX3.out.stays hbr)
      have hfk : ∀ y ∈ Lk, checkE y = 0 := fun y hy => HFD.out y (by rw [hLk] at hy; exact List.mem_of_mem_take hy)
      have hm1 : m ≤ 1000 := by rw [hm, hLk, List.length_take]; omega
      have KU := hid2 (fun W (h1 : Es W B (.slice pp m cc) Lk) => rused_m (lim := lim) hm h1 hfk hm1)
      have hu0 := usedL_nonneg Lk
      have hu1 := usedL_le hfk
      rw [← hm] at hu1
      have hus : usedL (D.take k) = usedL Lk := by rw [hLk]
      have hwrap : IntKind.i64.wrap (lim - usedL Lk) = lim - usedL Lk := by rw [IntKind.wrap_i64]; omega
      have hgml := gone_len (L := D) (k := k) (now := now)
      by_cases hfit : tk x ≤ lim - usedL (D.take k)
      · rw [cutJ_stop hfit] at hcut
        rw [hus] at hfit
        have HCUT := hid2 hcut
        have hgt : ¬ lim - usedL Lk < tk x := by omega
        generalize hus2 : usedL Lk = us at *
        clear hgi hLk hm zo he hzp ho hq hne hbr hcut hfk hus hus2 hfit
        go_wp2_with fail
        refine wp_region_held_drew (S := fun W => Two W ob (.int .i64 lim) (.slice pp m cc) ∧ W.heap[g + 1]? = some (.cells #[.string x.key, .int .i64 x.ver, .int .i64 x.asof, .int .i64 x.ends, .slice q x.val.length c] 25 (0, 0))) (by kernel_rfl) (⟨ZO.out, X1.out⟩) (fun hS => ?_)
        change wpAnyH _ _ _ _ _ _ _ _ (World.drew _)
        refine wpAnyH_take (i := 0) (v := .agg #[.string x.key, .int .i64 x.ver, .int .i64 x.asof, .int .i64 x.ends, .slice q x.val.length c]) rfl (by kernel_rfl) (by kernel_rfl) (by kernel_rfl) (fun _ _ _ h => h) (yieldsIf_load_mid (by kernel_rfl) 25 (.tmp 4) rfl (g + 1) 0 rfl ([.string x.key, .int .i64 x.ver, .int .i64 x.asof, .int .i64 x.ends, .slice q x.val.length c]) _ (fun W hw => box_range hw.2) Ite.Tryz.und24.choose_spec rfl (Ite.Tryz.size24)) hS ?_
        change wpAnyH _ _ _ _ _ _ _ (Act.put _ (some 41) _) _
        simp only [Act.put, List.setIfInBounds_toArray, List.set_cons_succ, List.set_cons_zero]
        refine wpAnyH_take (i := 2) (v := .pointer (some ⟨ob, 0, none⟩)) rfl (by kernel_rfl) (by kernel_rfl) (by kernel_rfl) (fun _ _ _ h => h) (Or.inl ⟨by kernel_rfl, ?_⟩) hS ?_
        · intro w hw; clear hw; go_simp
        change wpAnyH _ _ _ _ _ _ _ (Act.put _ (some 43) _) _
        simp only [Act.put, List.setIfInBounds_toArray, List.set_cons_succ, List.set_cons_zero]
        refine wpAnyH_take (i := 3) (v := .int .i64 lim) rfl (by kernel_rfl) (by kernel_rfl) (by kernel_rfl) (fun _ _ _ h => h) (Or.inl ⟨by kernel_rfl, ?_⟩) hS ?_
        · intro w hw
          obtain ⟨e0, e1, e2, e3⟩ := hw.1.cells
          go_simp
        change wpAnyH _ _ _ _ _ _ _ (Act.put _ (some 44) _) _
        simp only [Act.put, List.setIfInBounds_toArray, List.set_cons_succ, List.set_cons_zero]
        refine wpAnyH_take (i := 4) (v := .agg #[.int .i64 lim, .slice pp m cc]) rfl (by kernel_rfl) (by kernel_rfl) (by kernel_rfl) (fun _ _ _ h => h) (yieldsIf_load_mid (by kernel_rfl) 37 (.tmp 10) rfl ob 0 rfl ([.int .i64 lim, .slice pp m cc]) _ (fun W hw => two_range hw.1) und_rm.choose_spec rfl (size_rm)) hS ?_
        change wpAnyH _ _ _ _ _ _ _ (Act.put _ (some 45) _) _
        simp only [Act.put, List.setIfInBounds_toArray, List.set_cons_succ, List.set_cons_zero]
        refine wpAnyH_ready (rs := [1]) (by kernel_rfl) (by simp) ?_
        refine AllReadyH.cons rfl (fun K hK => ?_) AllReadyH.nil
        go_simp
        go_wp2_with fail
        refine (takes_t x q c wr.drew HC0.out (HXr.out.stays (drew_below_m wr 1 _)).bs).mono ?_
        rintro e v8 ⟨rfl, hb8⟩
        have HV8 := hid2 ((drew_below_m wr 1 wr.heap.size).trans (hb8.mono (Nat.le_refl _)))
        refine hK.out _ _ (⟨Two.stays hS.1 hb8, heap_stays hS.2 hb8⟩) (fun hS => ?_)
        clear hK K
        skip
        refine wpAnyH_ready (rs := [5]) (by kernel_rfl) (by simp) ?_
        refine AllReadyH.cons rfl (fun K hK => ?_) AllReadyH.nil
        go_simp
        go_wp2_with fail
        refine (show Calls _ _ _ _ _ from KU.out _ (HEr.out.stays HV8.out)).mono ?_
        rintro e v9 ⟨rfl, hb9⟩
        have HV9 := hid2 (HV8.out.trans (hb9.mono HV8.out.size))
        refine hK.out _ _ (⟨Two.stays hS.1 hb9, heap_stays hS.2 hb9⟩) (fun hS => ?_)
        clear hK K
        skip
        refine wpAnyH_take (i := 6) (v := .int .i64 (lim - us)) rfl (by kernel_rfl) (by kernel_rfl) (by kernel_rfl) (fun _ _ _ h => h) (Or.inl ⟨by kernel_rfl, ?_⟩) hS ?_
        · intro w hw; clear hw; go_simp
        change wpAnyH _ _ _ _ _ _ _ (Act.put _ (some 47) _) _
        simp only [Act.put, List.setIfInBounds_toArray, List.set_cons_succ, List.set_cons_zero]
        refine wpAnyH_take (i := 7) (v := .bool false) rfl (by kernel_rfl) (by kernel_rfl) (by kernel_rfl) (fun _ _ _ h => h) (Or.inl ⟨by kernel_rfl, ?_⟩) hS ?_
        · intro w hw; clear hw; go_simp
        change wpAnyH _ _ _ _ _ _ _ (Act.put _ (some 48) _) _
        simp only [Act.put, List.setIfInBounds_toArray, List.set_cons_succ, List.set_cons_zero]
        refine wpAnyH_done (by kernel_rfl) ?_ _
        skip
        clear hS
        have HB9 := hid2 (HBr.out.trans (HV9.out.mono HBr.out.size))
        have ZO9 := hid2 (ZO.out.stays HV9.out)
        have HE9 := hid2 (HEr.out.stays HV9.out)
        have HO9 := hid2 (own_fr (B := B) HO.out (.of HV9.out))
        have HQ9 := hid2 (HQ.out.stays HV9.out)
        have X19 := hid2 (heap_stays X1.out HV9.out)
        have HX9 := hid2 (HXr.out.stays HV9.out)
        obtain ⟨o0, o1, o2, o3⟩ := ZO9.out.cells
        clear HV8
        have KAH := hid2 (rahead_m (lim := lim) HM.out HE9.out HZP.out hm1 x HX9.out)
        obtain ⟨⟨r0, r1, r2, r3, r4⟩, rf⟩ := Ite.five24 X19.out
        have hrl := lt_of_block X19.out
        go_wp2_with fail
        refine (show Calls _ _ _ _ _ from KAH.out).mono ?_
        rintro e v10 ⟨p10, c10, rfl, he10, hz10, hn10, hb10⟩
        have HB10 := hid2 (HB9.out.trans (hb10.mono HB9.out.size))
        have Z210 := hid2 (heap_stays (o := .cells #[.int .i64 0, .slice none 0 0] 37 (0, 0)) Z23.out HB10.out)
        have HBX := hid2 (HB3.out.trans (HB10.out.mono HB3.out.size))
        have HE10 := hid2 he10
        have HGS := hid2 ((Es.own (B := B) HO9.out rfl HQ9.out).stays hb10)
        have HZ10 := hid2 hz10
        have HN10 := hid2 hn10
        have H39 : Hid (w3.heap.size ≤ v9.heap.size) := HB9.out.size
        clear he10 hz10 hn10 hb10 KAH o0 o1 o2 o3 r0 r1 r2 r3 r4 rf hrl
        go_wp2_with (refine st37 rfl (.tmp 6) (.tmp 73) rfl (g + 2) rfl _ _ _ Z210.out rfl rfl ⟨rfl, rfl⟩ ?_; intro wz hzz hgz)
        have BZ : Below w.heap.size w wz := HBX.out.grown hgz HBX.out.size (fun j hj => by cases hj; have := HG.out; omega)
        have tg10 : Tag v10 (g + 2) 37 := ⟨_, _, Z210.out⟩
        have hgB : B ≤ g + 2 := by have := HG.out; omega
        have EZ := HE10.out.boxed hgz hgB tg10 (by decide) (fun _ _ _ _ _ e => by have h5 := HN10.out _ (Value.slice.inj e).1; have := H39.out; have := HG3.out; simp at h5; omega)
        have GZ := HGS.out.boxed hgz hgB tg10 (by decide) (fun _ _ _ b _ e => by have := own_low HO9.out b (by rw [e]; rfl); have := HG3.out; omega)
        rw [HCUT.out]
        have hm2 : m + 1 = (x :: D.take k).length := by rw [List.length_cons, ← HLK.out, ← HM.out]
        rw [HLK.out] at EZ
        refine bodyPost_ret (v := .tuple #[.agg #[.int .i64 lim, .slice p10 (m + 1) c10], u12, .int .i64 0]) ?_ rfl ⟨p10, c10, u12, by rw [hm2]; rfl, by rw [show (D.take k).length + 1 = m + 1 from hm2.symm]; exact EZ, HZ10.out, GZ, BZ⟩
        exact results_set Tryz.results39 _ _ (g + 2) rfl _ _ _ _ hzz rfl rfl
      · cases k with
        | zero =>
          exfalso
          simp [usedL_nil] at hfit
          omega
        | succ k1 =>
          rw [cutJ_go hfit] at hcut
          have HCUT := hid2 hcut
          have hgt : lim - usedL Lk < tk x := by rw [hus] at hfit; omega
          have hk1m : k1 + 1 = m := by rw [hm, hLk, List.length_take]; omega
          obtain ⟨y, hy⟩ : ∃ y, D[k1]? = some y := ⟨_, List.getElem?_eq_getElem (by omega)⟩
          have hyk0 := hy
          have hyk : Lk[k1]? = some y := by rw [hLk, List.getElem?_take_of_lt (Nat.lt_succ_self k1)]; exact hy
          have hm0 : Lk ≠ [] := fun e => by rw [e] at hyk; simp at hyk
          have HD := hid2 hkD
          have hI : (0 : Int) ≤ (k1 : Int) ∧ (k1 : Int) < (m : Int) := by omega
          have htn : ((k1 : Int)).toNat = k1 := by omega
          have hsub : (m : Int) - 1 = (k1 : Int) := by omega
          have hsubw : IntKind.i64.wrap ((m : Int) - 1) = (k1 : Int) := by rw [IntKind.wrap_i64]; omega
          generalize hus2 : usedL Lk = us at *
          clear hgi hLk hm zo he hzp ho hq hne hbr hcut hfk hus hus2 hfit hy
          go_wp2_with fail
          refine wp_region_held_drew (S := fun W => Two W ob (.int .i64 lim) (.slice pp m cc) ∧ W.heap[g + 1]? = some (.cells #[.string x.key, .int .i64 x.ver, .int .i64 x.asof, .int .i64 x.ends, .slice q x.val.length c] 25 (0, 0))) (by kernel_rfl) (⟨ZO.out, X1.out⟩) (fun hS => ?_)
          change wpAnyH _ _ _ _ _ _ _ _ (World.drew _)
          refine wpAnyH_take (i := 0) (v := .agg #[.string x.key, .int .i64 x.ver, .int .i64 x.asof, .int .i64 x.ends, .slice q x.val.length c]) rfl (by kernel_rfl) (by kernel_rfl) (by kernel_rfl) (fun _ _ _ h => h) (yieldsIf_load_mid (by kernel_rfl) 25 (.tmp 4) rfl (g + 1) 0 rfl ([.string x.key, .int .i64 x.ver, .int .i64 x.asof, .int .i64 x.ends, .slice q x.val.length c]) _ (fun W hw => box_range hw.2) Ite.Tryz.und24.choose_spec rfl (Ite.Tryz.size24)) hS ?_
          change wpAnyH _ _ _ _ _ _ _ (Act.put _ (some 41) _) _
          simp only [Act.put, List.setIfInBounds_toArray, List.set_cons_succ, List.set_cons_zero]
          refine wpAnyH_take (i := 2) (v := .pointer (some ⟨ob, 0, none⟩)) rfl (by kernel_rfl) (by kernel_rfl) (by kernel_rfl) (fun _ _ _ h => h) (Or.inl ⟨by kernel_rfl, ?_⟩) hS ?_
          · intro w hw; clear hw; go_simp
          change wpAnyH _ _ _ _ _ _ _ (Act.put _ (some 43) _) _
          simp only [Act.put, List.setIfInBounds_toArray, List.set_cons_succ, List.set_cons_zero]
          refine wpAnyH_take (i := 3) (v := .int .i64 lim) rfl (by kernel_rfl) (by kernel_rfl) (by kernel_rfl) (fun _ _ _ h => h) (Or.inl ⟨by kernel_rfl, ?_⟩) hS ?_
          · intro w hw
            obtain ⟨e0, e1, e2, e3⟩ := hw.1.cells
            go_simp
          change wpAnyH _ _ _ _ _ _ _ (Act.put _ (some 44) _) _
          simp only [Act.put, List.setIfInBounds_toArray, List.set_cons_succ, List.set_cons_zero]
          refine wpAnyH_take (i := 4) (v := .agg #[.int .i64 lim, .slice pp m cc]) rfl (by kernel_rfl) (by kernel_rfl) (by kernel_rfl) (fun _ _ _ h => h) (yieldsIf_load_mid (by kernel_rfl) 37 (.tmp 10) rfl ob 0 rfl ([.int .i64 lim, .slice pp m cc]) _ (fun W hw => two_range hw.1) und_rm.choose_spec rfl (size_rm)) hS ?_
          change wpAnyH _ _ _ _ _ _ _ (Act.put _ (some 45) _) _
          simp only [Act.put, List.setIfInBounds_toArray, List.set_cons_succ, List.set_cons_zero]
          refine wpAnyH_ready (rs := [1]) (by kernel_rfl) (by simp) ?_
          refine AllReadyH.cons rfl (fun K hK => ?_) AllReadyH.nil
          go_simp
          go_wp2_with fail
          refine (takes_t x q c wr.drew HC0.out (HXr.out.stays (drew_below_m wr 1 _)).bs).mono ?_
          rintro e v8 ⟨rfl, hb8⟩
          have HV8 := hid2 ((drew_below_m wr 1 wr.heap.size).trans (hb8.mono (Nat.le_refl _)))
          refine hK.out _ _ (⟨Two.stays hS.1 hb8, heap_stays hS.2 hb8⟩) (fun hS => ?_)
          clear hK K
          skip
          refine wpAnyH_ready (rs := [5]) (by kernel_rfl) (by simp) ?_
          refine AllReadyH.cons rfl (fun K hK => ?_) AllReadyH.nil
          go_simp
          go_wp2_with fail
          refine (show Calls _ _ _ _ _ from KU.out _ (HEr.out.stays HV8.out)).mono ?_
          rintro e v9 ⟨rfl, hb9⟩
          have HV9 := hid2 (HV8.out.trans (hb9.mono HV8.out.size))
          refine hK.out _ _ (⟨Two.stays hS.1 hb9, heap_stays hS.2 hb9⟩) (fun hS => ?_)
          clear hK K
          skip
          refine wpAnyH_take (i := 6) (v := .int .i64 (lim - us)) rfl (by kernel_rfl) (by kernel_rfl) (by kernel_rfl) (fun _ _ _ h => h) (Or.inl ⟨by kernel_rfl, ?_⟩) hS ?_
          · intro w hw; clear hw; go_simp
          change wpAnyH _ _ _ _ _ _ _ (Act.put _ (some 47) _) _
          simp only [Act.put, List.setIfInBounds_toArray, List.set_cons_succ, List.set_cons_zero]
          refine wpAnyH_take (i := 7) (v := .bool true) rfl (by kernel_rfl) (by kernel_rfl) (by kernel_rfl) (fun _ _ _ h => h) (Or.inl ⟨by kernel_rfl, ?_⟩) hS ?_
          · intro w hw; clear hw; go_simp
          change wpAnyH _ _ _ _ _ _ _ (Act.put _ (some 48) _) _
          simp only [Act.put, List.setIfInBounds_toArray, List.set_cons_succ, List.set_cons_zero]
          refine wpAnyH_done (by kernel_rfl) ?_ _
          skip
          clear hS
          have HB9 := hid2 (HBr.out.trans (HV9.out.mono HBr.out.size))
          have ZO9 := hid2 (ZO.out.stays HV9.out)
          have HE9 := hid2 (HEr.out.stays HV9.out)
          have HO9 := hid2 (own_fr (B := B) HO.out (.of HV9.out))
          have HQ9 := hid2 (HQ.out.stays HV9.out)
          have X19 := hid2 (heap_stays X1.out HV9.out)
          have HX9 := hid2 (HXr.out.stays HV9.out)
          obtain ⟨o0, o1, o2, o3⟩ := ZO9.out.cells
          clear HV8
          obtain ⟨b, off, qy, cy, rfl, hrange, hbq⟩ := HE9.out.cells hyk
          have HR9 := hid2 hrange
          have HBQ9 := hid2 hbq
          have hblt9 := World.block_lt_of_cell? _ _ (hrange 0 _ rfl)
          have KLy := hid2 (fun W => Ite.rlive_any y.key y.ver y.asof y.ends now qy y.val.length cy W)
          rw [show Ite.liveB y.ends now = lv y now from rfl] at KLy
          clear hrange hbq
          go_wp2_with (refine wpList_load_mid rfl 25 (.tmp 56) rfl b (off + k1 * 5) rfl _ _ HR9.out Ite.Tryz.und24.choose_spec rfl Ite.Tryz.size24 ?_)
          refine (show Calls _ _ _ _ _ from KLy.out _).mono ?_
          rintro e v10 ⟨rfl, hb10⟩
          have HB10 := hid2 (HB9.out.trans (hb10.mono HB9.out.size))
          have ZO10 := hid2 (ZO9.out.stays hb10)
          have HE10 := hid2 (HE9.out.stays hb10)
          have HO10 := hid2 (own_fr (B := B) HO9.out (.of hb10))
          have HQ10 := hid2 (HQ9.out.stays hb10)
          have HBQ10 := hid2 (HBQ9.out.stays hb10)
          have HR10 : Hid (v10.rangeAt b (off + k1 * 5) [.string y.key, .int .i64 y.ver, .int .i64 y.asof, .int .i64 y.ends, .slice qy y.val.length cy]) := fun i u hu => (hb10.cell (p := ⟨b, off + k1 * 5 + i, none⟩) hblt9).trans (HR9.out i u hu)
          have H310 : Hid (w3.heap.size ≤ v10.heap.size) := HB10.out.size
          clear hb10 o0 o1 o2 o3 KLy hblt9
          obtain ⟨o0, o1, o2, o3⟩ := ZO10.out.cells
          cases hly : lv y now with
          | false =>
            have HLY := hid2 hly
            clear hly
            have KB := hid2 (rbut_m (lim := lim) HM.out HE10.out hk1m hm1)
            go_wp2_with fail
            refine (show Calls _ _ _ _ _ from KB.out).mono ?_
            rintro e v11 ⟨p11, c11, rfl, he11, hz11, hn11, hb11⟩
            have HB11 := hid2 (HB10.out.trans (hb11.mono HB10.out.size))
            have ZO11 := hid2 (ZO10.out.stays hb11)
            have HE11 := hid2 he11
            have HZ11 := hid2 hz11
            have HN11 := hid2 hn11
            have HO11 := hid2 (own_fr (B := B) HO10.out (.of hb11))
            have HQ11 := hid2 (HQ10.out.stays hb11)
            have HGB := hid2 (own_lt HO10.out)
            clear he11 hz11 hn11 hb11 KB o0 o1 o2 o3
            go_wp2_with (refine st37 rfl (.tmp 10) (.tmp 70) rfl ob rfl _ _ _ ZO11.out rfl rfl ⟨rfl, rfl⟩ ?_; intro w12 hz12 hg12)
            go_roundg k1
            case measure => rw [HGI.out]; exact Nat.lt_succ_self k1
            case rel => exact loop_end (gn := []) HD.out HLK.out hyk0 HOB.out HB11.out ZO11.out HE11.out HZ11.out HB3B.out (fun a e => Nat.lt_of_lt_of_le ZO10.out.tag.lt (HN11.out a e)) (by rw [List.append_nil]; exact HO11.out) (by simpa using HQ11.out) (fun a e => by have h1 := HN11.out a e; exact fun e2 => by have := HGB.out _ e2; omega) (by rw [HLY.out]; rfl) HCUT.out hz12 hg12
          | true =>
            have HLY := hid2 hly
            clear hly
            generalize hgm : (goneL D (k1 + 1) now).length = gm at *
            have HGM := hid2 hgm
            clear hgm
            have KB := hid2 (fun W (h1 : Es W B (.slice (some ⟨b, off, none⟩) m cc) Lk) => rbut_m (lim := lim) HM.out h1 hk1m hm1)
            go_wp2_with (first
              | (refine wpList_load_mid rfl 25 (.tmp 64) rfl b (off + k1 * 5) rfl _ _ HR10.out Ite.Tryz.und24.choose_spec rfl Ite.Tryz.size24 ?_)
              | (at_builtin; refine wpList_append_own _ rfl (.tmp 60) (.tmp 66) 35 rfl w3.heap.size 25 i0 (.agg #[.string ⟨#[]⟩, .int .i64 0, .int .i64 0, .int .i64 0, .slice none 0 0]) 5 64 Tryz.underlying35 hi0 hz0 hz1 hz2 rfl (by decide) _ gm cs rfl (HO10.out.alloc _) ⟨v10.heap.size, 0, none⟩ 1 1 [.string y.key, .int .i64 y.ver, .int .i64 y.asof, .int .i64 y.ends, .slice qy y.val.length cy] rfl rfl (cell_five_new _ _ _ _ _ _ _) (by intro u hu; simp at hu; rcases hu with rfl | rfl | rfl | rfl | rfl <;> rfl) (by unfold maxLen; omega) (by omega) (by have := H310.out; simp; omega) ?_; intro v6 w6 hown6 hgrow6 hnil6; have GR := row_grown (w0 := w3) (show Below v10.heap.size v10 (v10.alloc (.cells #[.string y.key, .int .i64 y.ver, .int .i64 y.asof, .int .i64 y.ends, .slice qy y.val.length cy] 25)) by (go_grown)) HO10.out hgrow6 (Fr.of (B := B) HB10.out) (Nat.le_refl _) HB3B.out; have RG6 := hid2 GR.2; have HB6 := hid2 (below_row HB10.out (show Below v10.heap.size v10 (v10.alloc (.cells #[.string y.key, .int .i64 y.ver, .int .i64 y.asof, .int .i64 y.ends, .slice qy y.val.length cy] 25)) by (go_grown)) HO10.out hgrow6); have O6 := hid2 hown6; have ZO6 := hid2 (show Two w6 ob (.int .i64 lim) (.slice (some ⟨b, off, none⟩) m cc) from by (unfold Two; rw [RG6.out.tag ZO10.out.tag (by decide)]; exact ZO10.out)); have HE6 := hid2 (HE10.out.rg RG6.out (fun a e => by (cases e; exact row_other (show Below v10.heap.size v10 (v10.alloc (.cells #[.string y.key, .int .i64 y.ver, .int .i64 y.asof, .int .i64 y.ends, .slice qy y.val.length cy] 25)) by (go_grown)) hgrow6 (HNE.out _ rfl) HE10.out hm0))); have Q6 := hid2 ((HQ10.out.keep (RG6.out.bq (by decide))).snoc (RG6.out.bq (by decide) _ _ HBQ10.out)); have KB6 := hid2 (KB.out _ HE6.out); clear hown6 hgrow6 hnil6 GR KB o0 o1 o2 o3; obtain ⟨o0, o1, o2, o3⟩ := ZO6.out.cells))
            refine (show Calls _ _ _ _ _ from KB6.out).mono ?_
            rintro e v11 ⟨p11, c11, rfl, he11, hz11, hn11, hb11⟩
            have HB11 := hid2 (HB6.out.trans (hb11.mono HB6.out.size))
            have ZO11 := hid2 (ZO6.out.stays hb11)
            have HE11 := hid2 he11
            have HZ11 := hid2 hz11
            have HN11 := hid2 hn11
            have HO11 := hid2 (own_fr (B := B) O6.out (.of hb11))
            have HQ11 := hid2 (Q6.out.stays hb11)
            have HGB := hid2 (own_lt O6.out)
            have H36 : Hid (w3.heap.size ≤ w6.heap.size) := HB6.out.size
            clear he11 hz11 hn11 hb11 KB6 o0 o1 o2 o3
            go_wp2_with (refine st37 rfl (.tmp 10) (.tmp 70) rfl ob rfl _ _ _ ZO11.out rfl rfl ⟨rfl, rfl⟩ ?_; intro w12 hz12 hg12)
            go_roundg k1
            case measure => rw [HGI.out]; exact Nat.lt_succ_self k1
            case rel => exact loop_end (gn := [y]) HD.out HLK.out hyk0 HOB.out HB11.out ZO11.out HE11.out HZ11.out HB3B.out (fun a e => Nat.lt_of_lt_of_le ZO6.out.tag.lt (HN11.out a e)) (by rw [List.length_append, HGM.out]; exact HO11.out) HQ11.out (fun a e => by have h1 := HN11.out a e; exact fun e2 => by have := HGB.out _ e2; omega) (by rw [HLY.out]; rfl) HCUT.out hz12 hg12
end Go.Proofs.YtkgecpplgjfhiaaGreatDoor
