/-
  A change put over the pages of a map.
-/
import Derived.Test.YtfogocappakbdaaDoorOver
import Derived.Test.YtfogocappakbdaaDoorMapL
namespace Go.Proofs.YtfogocappakbdaaDoor
open Go.RowKit
theorem Tryd.guard79 : Tryd.prog.eqGuardType Tryd.prog.depth 79 = false := by kernel_rfl

set_option maxHeartbeats 2000000 in
set_option maxRecDepth 10000 in
theorem lay_any {w : World} {m n : Nat} {pg : Pg} (c : Chg) (z : Int) (hm : MapAt w m n pg) (hc : c.p.length = 256) (hl : ∀ k, (pg k).length = 256) (h0 : 0 ≤ c.at_) (h1 : c.at_ < 4096) (hn : n ≤ 1000) :
    Calls Tryd.prog 38 #[.map (some m), .agg (chgV c), .int .i64 z] w fun e w' => e = .returned (.tuple #[]) ∧ MapAt w' m (n + 1) (layP pg c z) ∧ w.grownBy w' (some m) := by
  have hz := Tryd.zero79
  have hgd := Tryd.guard79
  have k0 := chgV_0 c
  have hlp := overP_length hc (hl c.at_) z
  have hq1 : w.heap.size < w.heap.size + 1 := by omega
  have hb1 : Below w.heap.size w (w.alloc (.cells (chgV c) 81)) := by go_grown
  have hm1 := hm.below hb1
  have hB1 : Hid ((w.alloc (.cells (chgV c) 81)).heap[w.heap.size]? = some (.cells (chgV c) 81 (0, 0))) := heap_alloc_last w _
  have HM1 : Hid (MapAt (w.alloc (.cells (chgV c) 81)) m n pg) := hm1
  have HM : Hid (MapAt w m n pg) := hm
  have HL : Hid (∀ k, (pg k).length = 256) := hl
  have HLP : Hid ((overP c (pg c.at_) z).length = 256) := hlp
  have hmlt := hm.lt
  have HC : Hid ((w.alloc (.cells (chgV c) 81)).cell? ⟨w.heap.size, 0, none⟩ = some (.int .i64 c.at_)) := by show _ = _; simp [k0]
  clear hm hl hm1 hlp
  have heq := fun w => eq79 w (overP c (pg c.at_) z) zeros HLP.out zeros_length
  by_cases hP : overP c (pg c.at_) z = zeros
  · have hd : decide (overP c (pg c.at_) z = zeros) = true := by simpa using hP
    simp only [hd] at heq
    have HE : Hid (layP pg c z = upd pg c.at_ zeros) := by show _ = _; unfold layP; rw [hP]
    clear hP hd
    go_enter Tryd.func38, Tryd.ntmps38
    go_wp2_with (first | (refine ldB81 rfl (.tmp 4) rfl w.heap.size rfl c hc 81 (0, 0) hB1.out ?_) | (at_lookup; refine wl_look rfl (.tmp 8) (.tmp 10) rfl m n pg HM1.out c.at_ (by omega) (by omega) rfl rfl ?_) | (go_at_call 50; refine (over_any c (pg c.at_) z _ hc (HL.out _)).mono ?_; rintro e w2 ⟨rfl, hb2⟩; have HM2 : Hid (MapAt w2 m n pg) := HM1.out.below hb2; have hcc : w2.cell? ⟨w.heap.size, 0, none⟩ = some (.int .i64 c.at_) := (hb2.cell (p := ⟨w.heap.size, 0, none⟩) (by simp)).trans HC.out; have hs2 : w.heap.size < w2.heap.size := by have := hb2.size; simp at this; omega) | (refine st79 w2 rfl (.tmp 6) (.tmp 13) rfl _ rfl rfl (overP c (pg c.at_) z) zeros rfl rfl zeros_length HLP.out ?_) | (refine ldB79 rfl (.tmp 6) rfl w2.heap.size rfl (overP c (pg c.at_) z) HLP.out 79 (0, 0) (heap_alloc_last _ _) ?_) | (refine bd79 rfl rfl ?_) | (at_delete; refine wl_del rfl (.tmp 17) (.tmp 19) rfl m n pg (HM2.out.below (by go_grown)) c.at_ (by omega) (by omega) rfl rfl ?_; intro w4 hm4 hg4) | fail)
    refine bodyPost_ret (v := .tuple #[]) (results_none rfl _ _ _) rfl ⟨rfl, ?_, ?_⟩
    · rw [HE.out]; exact hm4.mono (by omega)
    · exact grown_trans (grown_trans (below_grown hb1 _) (below_grown hb2 _)) (grown_trans (below_grown (by go_grown) _) hg4)
  · have hd : decide (overP c (pg c.at_) z = zeros) = false := by simpa using hP
    simp only [hd] at heq
    have HP : Hid (overP c (pg c.at_) z ≠ zeros) := hP
    clear hP hd
    go_enter Tryd.func38, Tryd.ntmps38
    go_wp2_with (first | (refine ldB81 rfl (.tmp 4) rfl w.heap.size rfl c hc 81 (0, 0) hB1.out ?_) | (at_lookup; refine wl_look rfl (.tmp 8) (.tmp 10) rfl m n pg HM1.out c.at_ (by omega) (by omega) rfl rfl ?_) | (go_at_call 50; refine (over_any c (pg c.at_) z _ hc (HL.out _)).mono ?_; rintro e w2 ⟨rfl, hb2⟩; have HM2 : Hid (MapAt w2 m n pg) := HM1.out.below hb2; have hcc : w2.cell? ⟨w.heap.size, 0, none⟩ = some (.int .i64 c.at_) := (hb2.cell (p := ⟨w.heap.size, 0, none⟩) (by simp)).trans HC.out; have hs2 : w.heap.size < w2.heap.size := by have := hb2.size; simp at this; omega) | (refine st79 w2 rfl (.tmp 6) (.tmp 13) rfl _ rfl rfl (overP c (pg c.at_) z) zeros rfl rfl zeros_length HLP.out ?_) | (refine ldB79 rfl (.tmp 6) rfl w2.heap.size rfl (overP c (pg c.at_) z) HLP.out 79 (0, 0) (heap_alloc_last _ _) ?_) | (refine bd79 rfl rfl ?_) | (at_mapUpdate; refine wl_put rfl (.tmp 20) (.tmp 22) (.tmp 23) rfl m n pg (HM2.out.below (by go_grown)) c.at_ (by omega) (by omega) (by omega) (overP c (pg c.at_) z) HP.out rfl rfl rfl ?_; intro w4 hm4 hg4) | fail)
    go_end0
    refine ⟨rfl, hm4, ?_⟩
    exact grown_trans (grown_trans (below_grown hb1 _) (below_grown hb2 _)) (grown_trans (below_grown (by go_grown) _) hg4)
end Go.Proofs.YtfogocappakbdaaDoor
