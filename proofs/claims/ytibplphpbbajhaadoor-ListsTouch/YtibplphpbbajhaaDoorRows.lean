/-
  NARROWER THAN 'FOR EVERY INPUT', by the rows' own cells (each row's printed sentence says how): ListsDoes: laid · ListsSound: laid · ListsTouch: laid.
  DERIVED. THE GIVEN ROWS OF THIS SEAT. 3 by the template 'for every input the law returns true; each argument reads behind the call as it read before'; 0 by the template 'total and deterministic' (their statements: YtibplphpbbajhaaDoorTotals.lean).
  GIVEN WITH THE SEED: the statements are not yours to turn. If you find one false, say at which input.
  Laid BY PROGRAM, IN A SANDBOX (cutbox-rows.mjs): the forced cells as the released guide's own fill.sh prints them over the translation c5cd09343958c8eb… (all of the seat's roots in one cut). By AI agents, Wed Nov 11 2026. No macro, syntax, notation, axiom, sorry.
-/
import Derived.Test.YtibplphpbbajhaaDoorChecked
import GoSem.Claim
import GoSem.ClaimJoined
import GoSem.ClaimMapViews
import Derived.JoinedTies
import Derived.KernelRfl
namespace Go.Proofs.YtibplphpbbajhaaDoor
/- THE CELL 'sum', in the pinned program and in every row, IS THE sha256 OF THE DUMP (.gsa) THAT YtibplphpbbajhaaDoorProg.lean LOADS. Nothing in Lean hashes anything: it is a label: what it is worth is what the hold of that sum in a sandbox is worth. -/
noncomputable def Tryd.pinned : Pinned := { name := "ytibplphpbbajhaadoor", sum := "c5cd09343958c8ebcea78f134431644723d55ca3302d60051dbec3b7f8cc9fab", checked := Tryd.checked }
namespace Rows
def none {H : Type} : Left H := { results := [], args := [] }

/- WHAT THE LISTED PACKAGE-LEVEL VARIABLES READ AS WHEN THE CALL BEGINS. Each datum BY PROGRAM (the guide's laid-datum.mjs) off the statement by which the dump's own 'gosem.cut.vars' lays the variable. In a bare row this is a premise. The card (YtibplphpbbajhaaDoorCards.lean) ties it to the program's text. -/
def laid_errors_errorType {H : Type} : DataW H := .iface "internal/reflectlite.rtype" (.agg [.ptr (.lit (.string [101, 114, 114, 111, 114]))])

/-- 'butterylaw09.ListsDoes': WHATEVER THE INPUT: true; the input reads as it did. -/
def listsDoesSpec : ChangeSpec := { name := "listsDoes", fn := fun _ => fun
  | [d1, d2, d3, d4] => { results := [.lit (.bool true)], args := [d1, d2, d3, d4] }
  | _ => none }
def listsDoesRow : OpenClaim := { program := "ytibplphpbbajhaadoor", sum := "c5cd09343958c8ebcea78f134431644723d55ca3302d60051dbec3b7f8cc9fab", func := "buttery/butterylaw09.ListsDoes", spec := "listsDoes", inPlace := ["internal/reflectlite.ValueOf", "(internal/reflectlite.Value).Type", "(internal/reflectlite.Value).IsNil", "internal/reflectlite.TypeOf", "(internal/reflectlite.Value).Elem", "(internal/reflectlite.Value).Set"], unfollowed := true, recurses := true, named := ["errors.errorType"], apart := false, laid := [("errors.errorType", laid_errors_errorType)] }
def ListsDoesSaid : Prop := listsDoesRow.holds Tryd.pinned (OpenSpec.ofChange listsDoesSpec)

/-- ITS FALSE NEIGHBOUR: 'it returns false'. Refute it at one input. -/
def listsDoesWrong : ChangeSpec := { name := "listsDoes", fn := fun _ => fun
  | [d1, d2, d3, d4] => { results := [.lit (.bool false)], args := [d1, d2, d3, d4] }
  | _ => none }
def ListsDoesWrongFalsely : Prop := listsDoesRow.holds Tryd.pinned (OpenSpec.ofChange listsDoesWrong)

/-- 'butterylaw09.ListsSound': WHATEVER THE INPUT: true; the input reads as it did. -/
def listsSoundSpec : ChangeSpec := { name := "listsSound", fn := fun _ => fun
  | [d1, d2, d3] => { results := [.lit (.bool true)], args := [d1, d2, d3] }
  | _ => none }
def listsSoundRow : OpenClaim := { program := "ytibplphpbbajhaadoor", sum := "c5cd09343958c8ebcea78f134431644723d55ca3302d60051dbec3b7f8cc9fab", func := "buttery/butterylaw09.ListsSound", spec := "listsSound", inPlace := ["internal/reflectlite.ValueOf", "(internal/reflectlite.Value).Type", "(internal/reflectlite.Value).IsNil", "internal/reflectlite.TypeOf", "(internal/reflectlite.Value).Elem", "(internal/reflectlite.Value).Set"], unfollowed := true, recurses := true, named := ["errors.errorType"], apart := false, laid := [("errors.errorType", laid_errors_errorType)] }
def ListsSoundSaid : Prop := listsSoundRow.holds Tryd.pinned (OpenSpec.ofChange listsSoundSpec)

/-- ITS FALSE NEIGHBOUR: 'it returns false'. Refute it at one input. -/
def listsSoundWrong : ChangeSpec := { name := "listsSound", fn := fun _ => fun
  | [d1, d2, d3] => { results := [.lit (.bool false)], args := [d1, d2, d3] }
  | _ => none }
def ListsSoundWrongFalsely : Prop := listsSoundRow.holds Tryd.pinned (OpenSpec.ofChange listsSoundWrong)

/-- 'butterylaw09.ListsTouch': WHATEVER THE INPUT: true; the input reads as it did. -/
def listsTouchSpec : ChangeSpec := { name := "listsTouch", fn := fun _ => fun
  | [d1, d2] => { results := [.lit (.bool true)], args := [d1, d2] }
  | _ => none }
def listsTouchRow : OpenClaim := { program := "ytibplphpbbajhaadoor", sum := "c5cd09343958c8ebcea78f134431644723d55ca3302d60051dbec3b7f8cc9fab", func := "buttery/butterylaw09.ListsTouch", spec := "listsTouch", inPlace := ["internal/reflectlite.ValueOf", "(internal/reflectlite.Value).Type", "(internal/reflectlite.Value).IsNil", "internal/reflectlite.TypeOf", "(internal/reflectlite.Value).Elem", "(internal/reflectlite.Value).Set"], unfollowed := true, recurses := true, named := ["errors.errorType"], apart := false, laid := [("errors.errorType", laid_errors_errorType)] }
def ListsTouchSaid : Prop := listsTouchRow.holds Tryd.pinned (OpenSpec.ofChange listsTouchSpec)

/-- ITS FALSE NEIGHBOUR: 'it returns false'. Refute it at one input. -/
def listsTouchWrong : ChangeSpec := { name := "listsTouch", fn := fun _ => fun
  | [d1, d2] => { results := [.lit (.bool false)], args := [d1, d2] }
  | _ => none }
def ListsTouchWrongFalsely : Prop := listsTouchRow.holds Tryd.pinned (OpenSpec.ofChange listsTouchWrong)

/- THE SECOND FORM. 'bulk': how many values and letters a reading holds, each counted each time it is reached (what is shared counts as often as it is met; a slice's spare places count too). A statement '..UptoSaid' is the law's where the arguments, and the package variables that the reading takes, are together of bulk at most 1048576: NARROWER than '..Said'. Prove '..Said' where nothing that the law and all that it calls make is longer than what came in: it says more and counts as full. Else prove '..UptoSaid'. A law counts once. -/
mutual
def uptoBulk {H : Type} : DataW H → Nat
  | .lit (.string bytes) => bytes.length + 1
  | .lit _ => 1
  | .nil => 1
  | .ptr d => uptoBulk d + 1
  | .slice elems spare => uptoBulkAll elems + uptoBulkAll spare + 1
  | .agg parts => uptoBulkAll parts + 1
  | .iface _ d => uptoBulk d + 1
  | .map entries => uptoBulkEntries entries + 1
  | .held _ => 1
def uptoBulkAll {H : Type} : List (DataW H) → Nat
  | [] => 0
  | d :: r => uptoBulk d + uptoBulkAll r
def uptoBulkEntries {H : Type} : List (Lit × DataW H) → Nat
  | [] => 0
  | x :: r => uptoBulkEntry x + uptoBulkEntries r
def uptoBulkEntry {H : Type} : Lit × DataW H → Nat
  | (.string bytes, d) => bytes.length + uptoBulk d + 1
  | (_, d) => uptoBulk d + 1
 end
def uptoSmall : (H : Type) → List (DataW H) → Bool := fun _ ds => decide (uptoBulkAll ds ≤ 1048576)
def OpenSpec.upto (s : _root_.Go.ChangeSpec) : _root_.Go.OpenSpec := { _root_.Go.OpenSpec.ofChange s with cond := some uptoSmall }

/-- 'butterylaw09.ListsDoes', WHERE WHAT IT READS IS OF BULK AT MOST 1048576: true; the input reads as it did. -/
def listsDoesUptoRow : OpenClaim := { program := "ytibplphpbbajhaadoor", sum := "c5cd09343958c8ebcea78f134431644723d55ca3302d60051dbec3b7f8cc9fab", func := "buttery/butterylaw09.ListsDoes", spec := "listsDoes", inPlace := ["internal/reflectlite.ValueOf", "(internal/reflectlite.Value).Type", "(internal/reflectlite.Value).IsNil", "internal/reflectlite.TypeOf", "(internal/reflectlite.Value).Elem", "(internal/reflectlite.Value).Set"], unfollowed := true, recurses := true, named := ["errors.errorType"], apart := false, laid := [("errors.errorType", laid_errors_errorType)], narrowed := true }
def ListsDoesUptoSaid : Prop := listsDoesUptoRow.holds Tryd.pinned (OpenSpec.upto listsDoesSpec)

/-- 'butterylaw09.ListsSound', WHERE WHAT IT READS IS OF BULK AT MOST 1048576: true; the input reads as it did. -/
def listsSoundUptoRow : OpenClaim := { program := "ytibplphpbbajhaadoor", sum := "c5cd09343958c8ebcea78f134431644723d55ca3302d60051dbec3b7f8cc9fab", func := "buttery/butterylaw09.ListsSound", spec := "listsSound", inPlace := ["internal/reflectlite.ValueOf", "(internal/reflectlite.Value).Type", "(internal/reflectlite.Value).IsNil", "internal/reflectlite.TypeOf", "(internal/reflectlite.Value).Elem", "(internal/reflectlite.Value).Set"], unfollowed := true, recurses := true, named := ["errors.errorType"], apart := false, laid := [("errors.errorType", laid_errors_errorType)], narrowed := true }
def ListsSoundUptoSaid : Prop := listsSoundUptoRow.holds Tryd.pinned (OpenSpec.upto listsSoundSpec)

/-- 'butterylaw09.ListsTouch', WHERE WHAT IT READS IS OF BULK AT MOST 1048576: true; the input reads as it did. -/
def listsTouchUptoRow : OpenClaim := { program := "ytibplphpbbajhaadoor", sum := "c5cd09343958c8ebcea78f134431644723d55ca3302d60051dbec3b7f8cc9fab", func := "buttery/butterylaw09.ListsTouch", spec := "listsTouch", inPlace := ["internal/reflectlite.ValueOf", "(internal/reflectlite.Value).Type", "(internal/reflectlite.Value).IsNil", "internal/reflectlite.TypeOf", "(internal/reflectlite.Value).Elem", "(internal/reflectlite.Value).Set"], unfollowed := true, recurses := true, named := ["errors.errorType"], apart := false, laid := [("errors.errorType", laid_errors_errorType)], narrowed := true }
def ListsTouchUptoSaid : Prop := listsTouchUptoRow.holds Tryd.pinned (OpenSpec.upto listsTouchSpec)

end Rows
end Go.Proofs.YtibplphpbbajhaaDoor
