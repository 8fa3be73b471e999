/-
  A device held against the document's; an act of whatever kind.
-/
import Derived.Test.YtkbfihnoohhojaaDoorQFDoC
import Derived.Test.YtkbfihnoohhojaaDoorQFRefJ
namespace Go.Proofs.YtkbfihnoohhojaaDoor.Fla
open Go.RowKit
theorem all_len {d : Dev} (hd : DevOk d) (l : List Cl) (h : plainC l = allP d) : ∀ x ∈ l, x.2.2.length = 256 := by
  intro x hx
  have hm : (x.1, x.2.2) ∈ allP d := by rw [← h]; exact List.mem_map.2 ⟨x, hx, rfl⟩
  unfold allP cellsP at hm
  obtain ⟨a, _, ha⟩ := List.mem_filterMap.1 hm
  split at ha
  · cases ha
  · simp at ha
    rw [← ha.2]
    exact layN_len _ (fun c hc => (hd.wlen c hc).1) hd.len _ _

/-- A device behind an act. -/
def doP (d : Dev) (o : Act4) : Dev :=
  if o.kind = 0 then (writeP d o.at_ ((bytP o.a o.b).take (if o.n.tmod 16 = 5 then 255 else 256))).1 else if o.kind = 1 then (trimP d o.at_).1 else if o.kind = 2 then d else if o.kind = 3 then (flushP d).1 else if o.kind = 4 then fuseP d o.n else if o.kind = 5 then crashP d o.keep else d
theorem do_any {w : World} {B g N : Nat} {d : Dev} {r : Rf} {rv : Value} (hF : Fl w B g N d) (hR : RfAt w rv r N) (hS : Sim d r) (hE : ErrT w) (hB : 0 < B) (hN : N < 900) (o : Act4) (hO : ActOk w B o) :
    Calls Tryd.prog 9 #[.pointer (some ⟨g, 0, none⟩), rv, .agg #[.int .i64 o.kind, .int .i64 o.at_, .int .u8 (o.a : Int), .int .u8 (o.b : Int), .int .i64 o.n, o.kv]] w fun e w' => ∃ x0 x1 x2 x3 x4 x5, e = .returned (.tuple #[.agg #[x0, x1, x2, x3, x4, x5], .bool true]) ∧ DoneAt w w' B g (N + 1) (doP d o) (.agg #[x0, x1, x2, x3, x4, x5]) := by
  obtain ⟨y0, y1, y2, y3, y4, y5, rfl, hone⟩ := hR.parts
  obtain ⟨kind, at_, a, b, n, keep, kv⟩ := o
  obtain ⟨hK, ha, hb, hk, hat, hn⟩ := hO
  dsimp only at *
  have hK' := hK
  obtain ⟨kp, kc, rfl, _⟩ := hK
  unfold doP
  dsimp only
  by_cases k0 : kind = 0
  · subst k0
    rw [if_pos rfl]
    by_cases hm : n.tmod 16 = 5
    · rw [if_pos hm]
      exact do_write_cut hF hR hS hE hB hN hone at_ n a b kp keep.length kc ⟨ha, hb⟩ (by simpa using hm)
    · rw [if_neg hm]
      exact do_write hF hR hS hE hB hN hone at_ n a b kp keep.length kc ⟨ha, hb⟩ (by simpa using hm)
  · rw [if_neg k0]
    by_cases k1 : kind = 1
    · subst k1; rw [if_pos rfl]; exact do_trim hF hR hS hE hB hN hone at_ n a b kp keep.length kc
    · rw [if_neg k1]
      by_cases k2 : kind = 2
      · subst k2; rw [if_pos rfl]; exact do_read hF hR hS hE hB hN hone at_ n a b kp keep.length kc
      · rw [if_neg k2]
        by_cases k3 : kind = 3
        · subst k3; rw [if_pos rfl]; exact do_flush hF hR hS hE hB hN hone at_ n a b kp keep.length kc
        · rw [if_neg k3]
          by_cases k4 : kind = 4
          · subst k4; rw [if_pos rfl]; exact do_fuse hF hR hS hE hB hN hone at_ n a b kp keep.length kc hn.1 hn.2
          · rw [if_neg k4]
            by_cases k5 : kind = 5
            · subst k5; rw [if_pos rfl]; exact do_crash hF hR hS hE hB hN hone at_ n a b kp keep.length kc keep hK'
            · rw [if_neg k5]
              exact do_other hF hR hS hE hB hN hone at_ n a b kp keep.length kc kind k0 k1 k2 k3 k4 k5
end Go.Proofs.YtkbfihnoohhojaaDoor.Fla
