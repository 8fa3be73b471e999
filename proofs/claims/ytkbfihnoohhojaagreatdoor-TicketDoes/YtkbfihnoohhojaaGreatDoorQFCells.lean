/-
  Cells.
-/
import Derived.Test.YtkbfihnoohhojaaGreatDoorQFFlush
import Derived.Laws.Externs
import GoSem.Extern.MapsClone
namespace Go.Proofs.YtkbfihnoohhojaaGreatDoor.Fla
open Go.RowKit

theorem Tryz.und62 : Tryz.prog.underlying 71 = some (.map 3 99) := by kernel_rfl
theorem run_clone {w : World} {r : Nat} {es : Array MapEntry} {clock : Nat} (t : TypeId) (hb : w.heap[r]? = some (.map es clock)) :
    (Extern.MapsClone.clone #[.iface t (.map (some r))]).run Tryz.prog w = .ok (.iface t (.map (some w.heap.size))) (w.alloc (.map es clock)) := by
  have e : Extern.MapsClone.clone #[.iface t (.map (some r))] = (getObj r >>= fun o => match o with
      | .map entries clock => (newObj (.map entries clock) >>= fun n => pure (.iface t (.map (some n))))
      | _ => stuck "maps.clone: a map expected") := rfl
  rw [e]
  simp [MapKept.run_getObj_map hb, Result.andThen, go_sem]
theorem run_assert62 (w : World) (v : Value) : (Instr.typeAssert (.iface 71 v) 20 71 false).run Tryz.prog w = .ok v w := by
  simp [Instr.typeAssert, run_underlying Tryz.und62, go_sem, Result.andThen]

set_option maxHeartbeats 1000000 in
theorem clone_any {w : World} {m n : Nat} {pg : Pg} (h : MapAt w m n pg) : Calls Tryz.prog 51 #[.map (some m)] w fun e w' => e = .returned (.map (some w.heap.size)) ∧ MapAt w' w.heap.size n pg ∧ Below w.heap.size w w' := by
  obtain ⟨D, ⟨es, clock, hb, F, hs, hD⟩, h2⟩ := h
  have hq := fun w => run_eql_map_nil (P := Tryz.prog) w 71 3 99 (some m) Tryz.und62
  have hcl : (callFunc 74 #[.iface 71 (.map (some m))]).run Tryz.prog w = .ok (.value (.iface 71 (.map (some w.heap.size)))) (w.alloc (.map es clock)) := by
    rw [run_callFunc_extern Tryz.func74 (by kernel_rfl) (by kernel_rfl) (by kernel_rfl) (e := Extern.MapsClone.clone) (by kernel_rfl), run_clone 71 hb]
    rfl
  have hta := run_assert62
  have HF : Hid (MapAt (w.alloc (.map es clock)) w.heap.size n pg) := ⟨D, ⟨es, clock, heap_alloc_last w _, F, hs, hD⟩, h2⟩
  clear F h2 hD hs hb
  go_enter Tryz.func51, Tryz.ntmps51
  go_wp2_with (go_at_call 74; go_in)
  go_ret
  exact ⟨rfl, HF.out, by go_grown⟩

/-- Pages that lie in blocks of their own. -/
def PgsAt (w : World) (l : List Cl) : Prop := ∀ x ∈ l, ∃ b, x.2.1 = .slice (some ⟨b, 0, none⟩) 256 256 ∧ w.heap[b]? = some (.cells (pgV x.2.2) 99 (0, 0)) ∧ x.2.2.length = 256
theorem PgsAt.bat {w : World} {l : List Cl} (h : PgsAt w l) : ∀ x ∈ l, BAt w x.2.1 x.2.2 := by
  intro x hx
  obtain ⟨b, h1, h2, h3⟩ := h x hx
  rw [h1]
  exact page_row h2 h3
theorem PgsAt.below {w w' : World} {l : List Cl} (h : PgsAt w l) (hb : Below w.heap.size w w') : PgsAt w' l := fun x hx => by
  obtain ⟨b, h1, h2, h3⟩ := h x hx
  exact ⟨b, h1, heap_stays h2 hb, h3⟩
theorem PgsAt.own {w w' : World} {l : List Cl} (h : PgsAt w l) {B : Nat} {v : Value} {n : Nat} {xs : List Value} (ho : w.ownsRow B 79 2 v n xs) (hg : w.grownBy w' v.ownBlock) : PgsAt w' l := fun x hx => by
  obtain ⟨b, h1, h2, h3⟩ := h x hx
  exact ⟨b, h1, heap_grown h2 hg (own_ne ho h2 (by decide)), h3⟩
theorem map_ne_own89 {w : World} {B m n k : Nat} {pg : Pg} {v : Value} {xs : List Value} (hm : MapAt w m n pg) (h : w.ownsRow B 79 2 v k xs) : some m ≠ v.ownBlock := by
  obtain ⟨D, ⟨es, clock, h1, _⟩, _⟩ := hm
  rcases h.2 with ⟨rfl, _⟩ | ⟨g', cap, cur, rfl, _, hh, _⟩
  · simp [Value.ownBlock]
  · intro e
    simp only [Value.ownBlock, Option.some.injEq] at e
    subst e
    rw [hh] at h1
    cases h1
theorem cell_two_new' (w : World) (x y : Value) (e : TypeId) : ∀ j u, [x, y][j]? = some u → (w.alloc (.cells #[x, y] e)).cell? ((⟨w.heap.size, 0, none⟩ : Addr).add j) = some u := by
  intro j u hu
  rcases j with _ | _ | j <;> simp_all [Addr.add]

set_option maxHeartbeats 4000000 in
set_option maxRecDepth 10000 in
theorem cells_any {w : World} {B g N : Nat} {d : Dev} (hF : Fl w B g N d) (hN : N ≤ 900) :
    Calls Tryz.prog 27 #[.pointer (some ⟨g, 0, none⟩)] w fun e w' => ∃ v l, e = .returned v ∧ CellsAt w' v l ∧ plainC l = allP d ∧ Below w.heap.size w w' := by
  have hglt := hF.lt.2
  obtain ⟨hok, ⟨b1, b2, b3, b4⟩, m, wv, n, h6, h7, h8, h9, h10, h11⟩ := hF
  obtain ⟨⟨c0, c1, c2, c3, c4, c5⟩, hf⟩ := six h6
  obtain ⟨p, cap, rfl⟩ := own_len h8
  obtain ⟨i0, hi, hz0, hz1, hz2⟩ := info_of Tryz.info89m
  have hlen : d.waits.length ≤ 900 := by omega
  have hp0 := hok.pages0
  have hp1 := hok.pages1
  have H6 : Hid (w.heap[g]? = some (.cells #[.int .i64 d.pages, .map (some m), .slice p d.waits.length cap, .int .i64 d.fuse, .bool d.down, .int .i64 d.done] 74 (0, 0))) := h6
  have H8 : Hid (w.ownsRow B 101 258 (.slice p d.waits.length cap) d.waits.length (chgsL d.waits)) := h8
  have H7 : Hid (MapAt w m n d.pg) := h7
  have HOK : Hid (DevOk d) := hok
  clear h6 h7 h8 hok
  go_enter Tryz.func27, Tryz.ntmps27
  go_wp2_with (go_at_call 51; refine (clone_any H7.out).mono ?_; rintro e w1 ⟨rfl, hm1, hb1⟩; obtain ⟨hcx, hfx⟩ := bcell hb1)
  have HB1 : Hid (Below w.heap.size w w1) := hb1
  have HM1 : Hid (MapAt w1 w.heap.size n d.pg) := hm1
  clear hm1 hb1
  go_loopw [20] (fun i wr => ∃ k : Nat, i = .int .i64 (k : Int) ∧ k ≤ d.waits.length ∧ MapAt wr w.heap.size (n + k) (layN d.pg d.waits (fun _ => 256) k) ∧ Below w.heap.size w wr) (fun i _ => d.waits.length - (intOf i).toNat)
  case atStart => exact ⟨0, rfl, Nat.zero_le _, HM1.out, HB1.out⟩
  case round =>
    obtain ⟨k, rfl, hk, hmr, hbr⟩ := hrel
    clear c0 c1 c2 c3 c4 c5 hf hcx hfx
    have h6r := heap_stays H6.out hbr
    have h8r := own_below H8.out hbr
    obtain ⟨⟨c0, c1, c2, c3, c4, c5⟩, hf⟩ := six h6r
    have hgl : g < wr.heap.size := (Array.getElem?_eq_some_iff.1 h6r).1
    have HMR : Hid (MapAt wr w.heap.size (n + k) (layN d.pg d.waits (fun _ => 256) k)) := hmr
    have HBR : Hid (Below w.heap.size w wr) := hbr
    by_cases hlt : k < d.waits.length
    · obtain ⟨c, hcj⟩ : ∃ c, d.waits[k]? = some c := ⟨_, List.getElem?_eq_getElem (by omega)⟩
      have hcw := HOK.out.wlen c (List.mem_of_getElem? hcj)
      obtain ⟨gr, rfl, hcap, hcapm, hgrl, _, hcell⟩ := own_pos h8r (by omega)
      obtain ⟨_, _, a2⟩ := chg_range (fun c hc => (HOK.out.wlen c hc).1) hcell hcj
      have HA2 : Hid (wr.rangeAt gr (k * 258) (chgL c)) := a2
      have HCP : Hid (c.p.length = 256) := hcw.1
      have hat0 := hcw.2.2.2.1
      have hat1 : c.at_ < 4096 := by have := hcw.2.2.2.2; omega
      have HLN : Hid (∀ j, (layN d.pg d.waits (fun _ => 256) k j).length = 256) := fun j => (layN_ok (cs := d.waits) (fun _ => 256) (fun c hc => ⟨(HOK.out.wlen c hc).1, (HOK.out.wlen c hc).2.1⟩) (fun k => ⟨HOK.out.len k, HOK.out.byt k⟩) k j).1
      have HCJ : Hid (d.waits[k]? = some c) := hcj
      have hz := Tryz.zero101
      unfold maxLen at hcapm
      have hji : (k : Int) < (d.waits.length : Int) := by omega
      have HM2 : Hid (MapAt (wr.alloc (.cells (chgV c) 101)) w.heap.size (n + k) (layN d.pg d.waits (fun _ => 256) k)) := HMR.out.below (by go_grown)
      clear hcell a2 hcw hcj h6r h8r hmr hbr
      go_wp2_with (first | (refine ld81 rfl (.tmp 22) rfl gr (k * 258) rfl c HCP.out HA2.out ?_) | (refine st81 wr rfl (.tmp 5) (.tmp 23) rfl _ rfl rfl c ⟨0, false, zeros⟩ rfl rfl zeros_length HCP.out ?_) | (refine ldB81 rfl (.tmp 5) rfl wr.heap.size rfl c HCP.out 101 (0, 0) (heap_alloc_last _ _) ?_) | (go_at_call 46; refine (lay_any c 256 HM2.out HCP.out HLN.out hat0 hat1 (by omega)).mono ?_; rintro e w3 ⟨rfl, hm3, hg3⟩))
      have HM3 : Hid (MapAt w3 w.heap.size (n + k + 1) (layP (layN d.pg d.waits (fun _ => 256) k) c 256)) := hm3
      have HB3 : Hid (Below w.heap.size w w3) := (HBR.out.alloc HBR.out.size _).trans (grown_below hg3 (Nat.le_refl _) (by have := HBR.out.size; simp; omega))
      clear hm3 hg3
      go_roundw
      case rel => exact ⟨k + 1, by go_num, by omega, by rw [layN_succ _ _ _ HCJ.out]; exact HM3.out, HB3.out⟩
      case measure => simp [intOf]; omega
    · obtain rfl : k = d.waits.length := by omega
      have hnl : ¬ ((d.waits.length : Int) < (d.waits.length : Int)) := by omega
      have HLF : Hid (∀ j, (layN d.pg d.waits (fun _ => 256) d.waits.length j).length = 256) := fun j => (layN_ok (cs := d.waits) (fun _ => 256) (fun c hc => ⟨(HOK.out.wlen c hc).1, (HOK.out.wlen c hc).2.1⟩) (fun k => ⟨HOK.out.len k, HOK.out.byt k⟩) d.waits.length j).1
      have HALL : Hid (allP d = cellsP (layN d.pg d.waits (fun _ => 256) d.waits.length) d.pages.toNat) := rfl
      generalize layN d.pg d.waits (fun _ => 256) d.waits.length = pf at *
      generalize n + d.waits.length = nn at *
      have HBR' : Hid (Below w.heap.size w wr) := hbr
      clear h6r h8r hmr hbr hk hlt
      go_wp2_with fail
      have HMS : Hid (MapAt wr w.heap.size nn pf) := HMR.out
      clear HMR c0 c1 c2 c3 c4 c5 hf
      go_loopw [6, 32] (fun cv i wr => ∃ a : Nat, i = .int .i64 (a : Int) ∧ (a : Int) ≤ d.pages ∧ ∃ l : List Cl, plainC l = cellsP pf a ∧ l.length ≤ a ∧ wr.ownsRow w.heap.size 79 2 cv l.length (clL l) ∧ PgsAt wr l ∧ MapAt wr w.heap.size nn pf ∧ Below w.heap.size w wr) (fun _ i _ => (d.pages - intOf i).toNat)
      case atStart => exact ⟨0, rfl, by omega, [], rfl, Nat.le_refl _, World.ownsRow_nil _ _ _ _, by simp [PgsAt], HMS.out, HBR.out⟩
      case round =>
        obtain ⟨a, rfl, ha, l, hl1, hl2, hown, hpg, hmq, hbq⟩ := hrel
        have hsz := hbq.size
        have HL1 : Hid (plainC l = cellsP pf a) := hl1
        have HOW : Hid (wr.ownsRow w.heap.size 79 2 u6 l.length (clL l)) := hown
        have HPG : Hid (PgsAt wr l) := hpg
        have HMQ : Hid (MapAt wr w.heap.size nn pf) := hmq
        have HBQ : Hid (Below w.heap.size w wr) := hbq
        clear hl1 hown hpg hmq hbq
        by_cases hlt : (a : Int) < d.pages
        · have hz := Tryz.zero99
          have hsl := sl79all
          by_cases hzz : pf (a : Int) = zeros
          · have hd : decide (pf (a : Int) = zeros) = true := by simpa using hzz
            have HZ : Hid (pf (a : Int) = zeros) := hzz
            clear hzz
            go_wp2_with (first | (at_lookup; refine wl_lookok rfl (.tmp 36) (.tmp 37) rfl w.heap.size nn pf HMQ.out a (by omega) (by omega) rfl rfl ?_) | (refine st79 wr rfl (.tmp 8) (.tmp 39) rfl _ rfl rfl (pf (a : Int)) zeros rfl rfl zeros_length (HLF.out _) ?_))
            go_roundw
            case rel => exact ⟨a + 1, by go_num, by omega, l, by rw [cellsP_succ, if_pos HZ.out, List.append_nil]; exact HL1.out, by omega, HOW.out.alloc _, HPG.out.below (by go_grown), HMQ.out.below (by go_grown), HBQ.out.alloc hsz _⟩
            case measure => simp [intOf]; omega
          · have hd : decide (pf (a : Int) = zeros) = false := by simpa using hzz
            have HZ : Hid (¬ pf (a : Int) = zeros) := hzz
            have HO2 : Hid (((wr.alloc (.cells (pgV (pf (a : Int))) 99)).alloc (.cells #[.int .i64 (a : Int), .slice (some ⟨wr.heap.size, 0, none⟩) 256 256] 79)).ownsRow w.heap.size 79 2 u6 l.length (clL l)) := (HOW.out.alloc _).alloc _
            have HNW : Hid (∀ j u, [Value.int .i64 (a : Int), .slice (some ⟨wr.heap.size, 0, none⟩) 256 256][j]? = some u → ((wr.alloc (.cells (pgV (pf (a : Int))) 99)).alloc (.cells #[.int .i64 (a : Int), .slice (some ⟨wr.heap.size, 0, none⟩) 256 256] 79)).cell? ((⟨wr.heap.size + 1, 0, none⟩ : Addr).add j) = some u) := by
              have := cell_two_new' (wr.alloc (.cells (pgV (pf (a : Int))) 99)) (.int .i64 (a : Int)) (.slice (some ⟨wr.heap.size, 0, none⟩) 256 256) 79
              show ∀ j u, _ → _
              simpa using this
            clear hzz
            go_wp2_with (first | (at_lookup; refine wl_lookok rfl (.tmp 36) (.tmp 37) rfl w.heap.size nn pf HMQ.out a (by omega) (by omega) rfl rfl ?_) | (refine st79 wr rfl (.tmp 8) (.tmp 39) rfl _ rfl rfl (pf (a : Int)) zeros rfl rfl zeros_length (HLF.out _) ?_) | (at_builtin; refine wpList_append_own _ rfl (.tmp 42) (.tmp 46) 33 rfl w.heap.size 79 i0 (.agg #[.int .i64 0, .slice none 0 0]) 2 32 Tryz.underlying33 hi hz0 hz1 hz2 rfl (by decide) _ _ _ rfl HO2.out ⟨wr.heap.size + 1, 0, none⟩ 1 1 [.int .i64 (a : Int), .slice (some ⟨wr.heap.size, 0, none⟩) 256 256] rfl rfl HNW.out (by intro x hx; simp at hx; rcases hx with rfl | rfl <;> rfl) (by unfold maxLen; omega) (by omega) (by simp; omega) ?_; intro v3 w3 hown3 hgrow3 hnil3))
            have HM3 : Hid (MapAt w3 w.heap.size nn pf) := (HMQ.out.below (by go_grown) : MapAt ((wr.alloc (.cells (pgV (pf (a : Int))) 99)).alloc (.cells #[.int .i64 (a : Int), .slice (some ⟨wr.heap.size, 0, none⟩) 256 256] 79)) w.heap.size nn pf).grown hgrow3 (map_ne_own89 (HMQ.out.below (by go_grown)) HO2.out)
            have HP3 : Hid (PgsAt w3 (l ++ [((a : Int), .slice (some ⟨wr.heap.size, 0, none⟩) 256 256, pf (a : Int))])) := by
              have h1 : PgsAt ((wr.alloc (.cells (pgV (pf (a : Int))) 99)).alloc (.cells #[.int .i64 (a : Int), .slice (some ⟨wr.heap.size, 0, none⟩) 256 256] 79)) (l ++ [((a : Int), .slice (some ⟨wr.heap.size, 0, none⟩) 256 256, pf (a : Int))]) := by
                intro x hx
                rcases List.mem_append.1 hx with hx | hx
                · exact HPG.out.below (by go_grown) x hx
                · simp at hx
                  subst hx
                  exact ⟨wr.heap.size, rfl, heap_alloc_old (heap_alloc_last _ _) _, HLF.out _⟩
              exact h1.own HO2.out hgrow3
            have HB3 : Hid (Below w.heap.size w w3) := ((HBQ.out.alloc hsz _).alloc (by simp; omega) _).grown hgrow3 (by simp; omega) (fun k hk => (HO2.out.lt k hk).1)
            have HO3 : Hid (w3.ownsRow w.heap.size 79 2 v3 (l.length + 1) (clL l ++ [.int .i64 (a : Int), .slice (some ⟨wr.heap.size, 0, none⟩) 256 256])) := hown3
            clear hown3 hgrow3 hnil3
            go_wp2
            go_roundw
            case rel => exact ⟨a + 1, by go_num, by omega, l ++ [((a : Int), .slice (some ⟨wr.heap.size, 0, none⟩) 256 256, pf (a : Int))], by rw [cellsP_succ, if_neg HZ.out, ← HL1.out]; simp [plainC], by simp; omega, by rw [clL_append, List.length_append]; exact HO3.out, HP3.out, HM3.out, HB3.out⟩
            case measure => simp [intOf]; omega
        · have hd : decide ((a : Int) < d.pages) = false := by simpa using hlt
          have HE : Hid (a = d.pages.toNat) := by show _ = _; omega
          go_wp2
          go_ret
          exact ⟨_, rfl, l, ⟨own_row HOW.out (by decide) (by decide), HPG.out.bat⟩, by rw [HALL.out, ← HE.out]; exact HL1.out, HBQ.out⟩
end Go.Proofs.YtkbfihnoohhojaaGreatDoor.Fla
