/-
  No cell of these rows narrows 'for every input' (looked for: loops, veiled, ifaces, maps, wideKeys, modest, calm, conditions, laid).
  DERIVED. THE GIVEN ROWS OF THIS SEAT. 12 by the template 'for every input the law returns true; each argument reads behind the call as it read before'; 0 by the template 'total and deterministic' (their statements: YtainekjcdmabbaaTotals.lean).
  GIVEN WITH THE SEED: the statements are not yours to turn. If you find one false, say at which input.
  Laid BY PROGRAM, IN A SANDBOX (cutbox-rows.mjs): the forced cells as the released guide's own fill.sh prints them over the translation 228f4d21b9a3ace7… (all of the seat's roots in one cut). By AI agents, Wed Nov 11 2026. No macro, syntax, notation, axiom, sorry.
-/
import Derived.Test.YtainekjcdmabbaaChecked
import GoSem.Claim
import GoSem.ClaimJoined
import GoSem.ClaimMapViews
import Derived.JoinedTies
import Derived.KernelRfl
namespace Go.Proofs.Ytainekjcdmabbaa
/- THE CELL 'sum', in the pinned program and in every row, IS THE sha256 OF THE DUMP (.gsa) THAT YtainekjcdmabbaaProg.lean LOADS. Nothing in Lean hashes anything: it is a label: what it is worth is what the hold of that sum in a sandbox is worth. -/
noncomputable def Try.pinned : Pinned := { name := "ytainekjcdmabbaa", sum := "228f4d21b9a3ace732a3678c15f56078b59fef61713e1ac9a0ed07298a983f5c", checked := Try.checked }
namespace Rows
def none {H : Type} : Left H := { results := [], args := [] }

/-- 'vaultagelaw.ChainDoes': WHATEVER THE INPUT: true; the input reads as it did. -/
def chainDoesSpec : ChangeSpec := { name := "chainDoes", fn := fun _ => fun
  | [d1, d2, d3, d4] => { results := [.lit (.bool true)], args := [d1, d2, d3, d4] }
  | _ => none }
def chainDoesRow : OpenClaim := { program := "ytainekjcdmabbaa", sum := "228f4d21b9a3ace732a3678c15f56078b59fef61713e1ac9a0ed07298a983f5c", func := "vaultage/vaultagelaw.ChainDoes", spec := "chainDoes", unfollowed := true, recurses := true, apart := false }
def ChainDoesSaid : Prop := chainDoesRow.holds Try.pinned (OpenSpec.ofChange chainDoesSpec)

/-- ITS FALSE NEIGHBOUR: 'it returns false'. Refute it at one input. -/
def chainDoesWrong : ChangeSpec := { name := "chainDoes", fn := fun _ => fun
  | [d1, d2, d3, d4] => { results := [.lit (.bool false)], args := [d1, d2, d3, d4] }
  | _ => none }
def ChainDoesWrongFalsely : Prop := chainDoesRow.holds Try.pinned (OpenSpec.ofChange chainDoesWrong)

/-- 'vaultagelaw.ChainReads': WHATEVER THE INPUT: true; the input reads as it did. -/
def chainReadsSpec : ChangeSpec := { name := "chainReads", fn := fun _ => fun
  | [d1, d2, d3] => { results := [.lit (.bool true)], args := [d1, d2, d3] }
  | _ => none }
def chainReadsRow : OpenClaim := { program := "ytainekjcdmabbaa", sum := "228f4d21b9a3ace732a3678c15f56078b59fef61713e1ac9a0ed07298a983f5c", func := "vaultage/vaultagelaw.ChainReads", spec := "chainReads", unfollowed := true, recurses := true, apart := false }
def ChainReadsSaid : Prop := chainReadsRow.holds Try.pinned (OpenSpec.ofChange chainReadsSpec)

/-- ITS FALSE NEIGHBOUR: 'it returns false'. Refute it at one input. -/
def chainReadsWrong : ChangeSpec := { name := "chainReads", fn := fun _ => fun
  | [d1, d2, d3] => { results := [.lit (.bool false)], args := [d1, d2, d3] }
  | _ => none }
def ChainReadsWrongFalsely : Prop := chainReadsRow.holds Try.pinned (OpenSpec.ofChange chainReadsWrong)

/-- 'vaultagelaw.ChainClears': WHATEVER THE INPUT: true; the input reads as it did. -/
def chainClearsSpec : ChangeSpec := { name := "chainClears", fn := fun _ => fun
  | [d1, d2, d3] => { results := [.lit (.bool true)], args := [d1, d2, d3] }
  | _ => none }
def chainClearsRow : OpenClaim := { program := "ytainekjcdmabbaa", sum := "228f4d21b9a3ace732a3678c15f56078b59fef61713e1ac9a0ed07298a983f5c", func := "vaultage/vaultagelaw.ChainClears", spec := "chainClears", unfollowed := true, recurses := true, apart := false }
def ChainClearsSaid : Prop := chainClearsRow.holds Try.pinned (OpenSpec.ofChange chainClearsSpec)

/-- ITS FALSE NEIGHBOUR: 'it returns false'. Refute it at one input. -/
def chainClearsWrong : ChangeSpec := { name := "chainClears", fn := fun _ => fun
  | [d1, d2, d3] => { results := [.lit (.bool false)], args := [d1, d2, d3] }
  | _ => none }
def ChainClearsWrongFalsely : Prop := chainClearsRow.holds Try.pinned (OpenSpec.ofChange chainClearsWrong)

/-- 'vaultagelaw.TableDoes': WHATEVER THE INPUT: true; the input reads as it did. -/
def tableDoesSpec : ChangeSpec := { name := "tableDoes", fn := fun _ => fun
  | [d1, d2, d3, d4, d5] => { results := [.lit (.bool true)], args := [d1, d2, d3, d4, d5] }
  | _ => none }
def tableDoesRow : OpenClaim := { program := "ytainekjcdmabbaa", sum := "228f4d21b9a3ace732a3678c15f56078b59fef61713e1ac9a0ed07298a983f5c", func := "vaultage/vaultagelaw.TableDoes", spec := "tableDoes", unfollowed := true, recurses := true, apart := false }
def TableDoesSaid : Prop := tableDoesRow.holds Try.pinned (OpenSpec.ofChange tableDoesSpec)

/-- ITS FALSE NEIGHBOUR: 'it returns false'. Refute it at one input. -/
def tableDoesWrong : ChangeSpec := { name := "tableDoes", fn := fun _ => fun
  | [d1, d2, d3, d4, d5] => { results := [.lit (.bool false)], args := [d1, d2, d3, d4, d5] }
  | _ => none }
def TableDoesWrongFalsely : Prop := tableDoesRow.holds Try.pinned (OpenSpec.ofChange tableDoesWrong)

/-- 'vaultagelaw.TableShots': WHATEVER THE INPUT: true; the input reads as it did. -/
def tableShotsSpec : ChangeSpec := { name := "tableShots", fn := fun _ => fun
  | [d1, d2, d3] => { results := [.lit (.bool true)], args := [d1, d2, d3] }
  | _ => none }
def tableShotsRow : OpenClaim := { program := "ytainekjcdmabbaa", sum := "228f4d21b9a3ace732a3678c15f56078b59fef61713e1ac9a0ed07298a983f5c", func := "vaultage/vaultagelaw.TableShots", spec := "tableShots", unfollowed := true, recurses := true, apart := false }
def TableShotsSaid : Prop := tableShotsRow.holds Try.pinned (OpenSpec.ofChange tableShotsSpec)

/-- ITS FALSE NEIGHBOUR: 'it returns false'. Refute it at one input. -/
def tableShotsWrong : ChangeSpec := { name := "tableShots", fn := fun _ => fun
  | [d1, d2, d3] => { results := [.lit (.bool false)], args := [d1, d2, d3] }
  | _ => none }
def TableShotsWrongFalsely : Prop := tableShotsRow.holds Try.pinned (OpenSpec.ofChange tableShotsWrong)

/-- 'vaultagelaw.TableClears': WHATEVER THE INPUT: true; the input reads as it did. -/
def tableClearsSpec : ChangeSpec := { name := "tableClears", fn := fun _ => fun
  | [d1, d2, d3] => { results := [.lit (.bool true)], args := [d1, d2, d3] }
  | _ => none }
def tableClearsRow : OpenClaim := { program := "ytainekjcdmabbaa", sum := "228f4d21b9a3ace732a3678c15f56078b59fef61713e1ac9a0ed07298a983f5c", func := "vaultage/vaultagelaw.TableClears", spec := "tableClears", unfollowed := true, recurses := true, apart := false }
def TableClearsSaid : Prop := tableClearsRow.holds Try.pinned (OpenSpec.ofChange tableClearsSpec)

/-- ITS FALSE NEIGHBOUR: 'it returns false'. Refute it at one input. -/
def tableClearsWrong : ChangeSpec := { name := "tableClears", fn := fun _ => fun
  | [d1, d2, d3] => { results := [.lit (.bool false)], args := [d1, d2, d3] }
  | _ => none }
def TableClearsWrongFalsely : Prop := tableClearsRow.holds Try.pinned (OpenSpec.ofChange tableClearsWrong)

/-- 'vaultagelaw.TableLists': WHATEVER THE INPUT: true; the input reads as it did. -/
def tableListsSpec : ChangeSpec := { name := "tableLists", fn := fun _ => fun
  | [d1, d2, d3] => { results := [.lit (.bool true)], args := [d1, d2, d3] }
  | _ => none }
def tableListsRow : OpenClaim := { program := "ytainekjcdmabbaa", sum := "228f4d21b9a3ace732a3678c15f56078b59fef61713e1ac9a0ed07298a983f5c", func := "vaultage/vaultagelaw.TableLists", spec := "tableLists", unfollowed := true, recurses := true, apart := false }
def TableListsSaid : Prop := tableListsRow.holds Try.pinned (OpenSpec.ofChange tableListsSpec)

/-- ITS FALSE NEIGHBOUR: 'it returns false'. Refute it at one input. -/
def tableListsWrong : ChangeSpec := { name := "tableLists", fn := fun _ => fun
  | [d1, d2, d3] => { results := [.lit (.bool false)], args := [d1, d2, d3] }
  | _ => none }
def TableListsWrongFalsely : Prop := tableListsRow.holds Try.pinned (OpenSpec.ofChange tableListsWrong)

/-- 'vaultagelaw.TableSince': WHATEVER THE INPUT: true; the input reads as it did. -/
def tableSinceSpec : ChangeSpec := { name := "tableSince", fn := fun _ => fun
  | [d1, d2] => { results := [.lit (.bool true)], args := [d1, d2] }
  | _ => none }
def tableSinceRow : OpenClaim := { program := "ytainekjcdmabbaa", sum := "228f4d21b9a3ace732a3678c15f56078b59fef61713e1ac9a0ed07298a983f5c", func := "vaultage/vaultagelaw.TableSince", spec := "tableSince", unfollowed := true, recurses := true, apart := false }
def TableSinceSaid : Prop := tableSinceRow.holds Try.pinned (OpenSpec.ofChange tableSinceSpec)

/-- ITS FALSE NEIGHBOUR: 'it returns false'. Refute it at one input. -/
def tableSinceWrong : ChangeSpec := { name := "tableSince", fn := fun _ => fun
  | [d1, d2] => { results := [.lit (.bool false)], args := [d1, d2] }
  | _ => none }
def TableSinceWrongFalsely : Prop := tableSinceRow.holds Try.pinned (OpenSpec.ofChange tableSinceWrong)

/-- 'vaultagelaw.DeedDoes': WHATEVER THE INPUT: true; the input reads as it did. -/
def deedDoesSpec : ChangeSpec := { name := "deedDoes", fn := fun _ => fun
  | [d1, d2, d3, d4] => { results := [.lit (.bool true)], args := [d1, d2, d3, d4] }
  | _ => none }
def deedDoesRow : OpenClaim := { program := "ytainekjcdmabbaa", sum := "228f4d21b9a3ace732a3678c15f56078b59fef61713e1ac9a0ed07298a983f5c", func := "vaultage/vaultagelaw.DeedDoes", spec := "deedDoes", unfollowed := true, recurses := true, apart := false }
def DeedDoesSaid : Prop := deedDoesRow.holds Try.pinned (OpenSpec.ofChange deedDoesSpec)

/-- ITS FALSE NEIGHBOUR: 'it returns false'. Refute it at one input. -/
def deedDoesWrong : ChangeSpec := { name := "deedDoes", fn := fun _ => fun
  | [d1, d2, d3, d4] => { results := [.lit (.bool false)], args := [d1, d2, d3, d4] }
  | _ => none }
def DeedDoesWrongFalsely : Prop := deedDoesRow.holds Try.pinned (OpenSpec.ofChange deedDoesWrong)

/-- 'vaultagelaw.DeedSees': WHATEVER THE INPUT: true; the input reads as it did. -/
def deedSeesSpec : ChangeSpec := { name := "deedSees", fn := fun _ => fun
  | [d1, d2, d3] => { results := [.lit (.bool true)], args := [d1, d2, d3] }
  | _ => none }
def deedSeesRow : OpenClaim := { program := "ytainekjcdmabbaa", sum := "228f4d21b9a3ace732a3678c15f56078b59fef61713e1ac9a0ed07298a983f5c", func := "vaultage/vaultagelaw.DeedSees", spec := "deedSees", unfollowed := true, recurses := true, apart := false }
def DeedSeesSaid : Prop := deedSeesRow.holds Try.pinned (OpenSpec.ofChange deedSeesSpec)

/-- ITS FALSE NEIGHBOUR: 'it returns false'. Refute it at one input. -/
def deedSeesWrong : ChangeSpec := { name := "deedSees", fn := fun _ => fun
  | [d1, d2, d3] => { results := [.lit (.bool false)], args := [d1, d2, d3] }
  | _ => none }
def DeedSeesWrongFalsely : Prop := deedSeesRow.holds Try.pinned (OpenSpec.ofChange deedSeesWrong)

/-- 'vaultagelaw.DeedMay': WHATEVER THE INPUT: true; the input reads as it did. -/
def deedMaySpec : ChangeSpec := { name := "deedMay", fn := fun _ => fun
  | [d1, d2, d3, d4] => { results := [.lit (.bool true)], args := [d1, d2, d3, d4] }
  | _ => none }
def deedMayRow : OpenClaim := { program := "ytainekjcdmabbaa", sum := "228f4d21b9a3ace732a3678c15f56078b59fef61713e1ac9a0ed07298a983f5c", func := "vaultage/vaultagelaw.DeedMay", spec := "deedMay", unfollowed := true, recurses := true, apart := false }
def DeedMaySaid : Prop := deedMayRow.holds Try.pinned (OpenSpec.ofChange deedMaySpec)

/-- ITS FALSE NEIGHBOUR: 'it returns false'. Refute it at one input. -/
def deedMayWrong : ChangeSpec := { name := "deedMay", fn := fun _ => fun
  | [d1, d2, d3, d4] => { results := [.lit (.bool false)], args := [d1, d2, d3, d4] }
  | _ => none }
def DeedMayWrongFalsely : Prop := deedMayRow.holds Try.pinned (OpenSpec.ofChange deedMayWrong)

/-- 'vaultagelaw.DeedReads': WHATEVER THE INPUT: true; the input reads as it did. -/
def deedReadsSpec : ChangeSpec := { name := "deedReads", fn := fun _ => fun
  | [d1, d2, d3] => { results := [.lit (.bool true)], args := [d1, d2, d3] }
  | _ => none }
def deedReadsRow : OpenClaim := { program := "ytainekjcdmabbaa", sum := "228f4d21b9a3ace732a3678c15f56078b59fef61713e1ac9a0ed07298a983f5c", func := "vaultage/vaultagelaw.DeedReads", spec := "deedReads", unfollowed := true, recurses := true, apart := false }
def DeedReadsSaid : Prop := deedReadsRow.holds Try.pinned (OpenSpec.ofChange deedReadsSpec)

/-- ITS FALSE NEIGHBOUR: 'it returns false'. Refute it at one input. -/
def deedReadsWrong : ChangeSpec := { name := "deedReads", fn := fun _ => fun
  | [d1, d2, d3] => { results := [.lit (.bool false)], args := [d1, d2, d3] }
  | _ => none }
def DeedReadsWrongFalsely : Prop := deedReadsRow.holds Try.pinned (OpenSpec.ofChange deedReadsWrong)

/- THE SECOND FORM. 'bulk': how many values and letters a reading holds, each counted each time it is reached (what is shared counts as often as it is met; a slice's spare places count too). A statement '..UptoSaid' is the law's where the arguments, and the package variables that the reading takes, are together of bulk at most 1048576: NARROWER than '..Said'. Prove '..Said' where nothing that the law and all that it calls make is longer than what came in: it says more and counts as full. Else prove '..UptoSaid'. A law counts once. -/
mutual
def uptoBulk {H : Type} : DataW H → Nat
  | .lit (.string bytes) => bytes.length + 1
  | .lit _ => 1
  | .nil => 1
  | .ptr d => uptoBulk d + 1
  | .slice elems spare => uptoBulkAll elems + uptoBulkAll spare + 1
  | .agg parts => uptoBulkAll parts + 1
  | .iface _ d => uptoBulk d + 1
  | .map entries => uptoBulkEntries entries + 1
  | .held _ => 1
def uptoBulkAll {H : Type} : List (DataW H) → Nat
  | [] => 0
  | d :: r => uptoBulk d + uptoBulkAll r
def uptoBulkEntries {H : Type} : List (Lit × DataW H) → Nat
  | [] => 0
  | x :: r => uptoBulkEntry x + uptoBulkEntries r
def uptoBulkEntry {H : Type} : Lit × DataW H → Nat
  | (.string bytes, d) => bytes.length + uptoBulk d + 1
  | (_, d) => uptoBulk d + 1
 end
def uptoSmall : (H : Type) → List (DataW H) → Bool := fun _ ds => decide (uptoBulkAll ds ≤ 1048576)
def OpenSpec.upto (s : _root_.Go.ChangeSpec) : _root_.Go.OpenSpec := { _root_.Go.OpenSpec.ofChange s with cond := some uptoSmall }

/-- 'vaultagelaw.ChainDoes', WHERE WHAT IT READS IS OF BULK AT MOST 1048576: true; the input reads as it did. -/
def chainDoesUptoRow : OpenClaim := { program := "ytainekjcdmabbaa", sum := "228f4d21b9a3ace732a3678c15f56078b59fef61713e1ac9a0ed07298a983f5c", func := "vaultage/vaultagelaw.ChainDoes", spec := "chainDoes", unfollowed := true, recurses := true, apart := false, narrowed := true }
def ChainDoesUptoSaid : Prop := chainDoesUptoRow.holds Try.pinned (OpenSpec.upto chainDoesSpec)

/-- 'vaultagelaw.ChainReads', WHERE WHAT IT READS IS OF BULK AT MOST 1048576: true; the input reads as it did. -/
def chainReadsUptoRow : OpenClaim := { program := "ytainekjcdmabbaa", sum := "228f4d21b9a3ace732a3678c15f56078b59fef61713e1ac9a0ed07298a983f5c", func := "vaultage/vaultagelaw.ChainReads", spec := "chainReads", unfollowed := true, recurses := true, apart := false, narrowed := true }
def ChainReadsUptoSaid : Prop := chainReadsUptoRow.holds Try.pinned (OpenSpec.upto chainReadsSpec)

/-- 'vaultagelaw.ChainClears', WHERE WHAT IT READS IS OF BULK AT MOST 1048576: true; the input reads as it did. -/
def chainClearsUptoRow : OpenClaim := { program := "ytainekjcdmabbaa", sum := "228f4d21b9a3ace732a3678c15f56078b59fef61713e1ac9a0ed07298a983f5c", func := "vaultage/vaultagelaw.ChainClears", spec := "chainClears", unfollowed := true, recurses := true, apart := false, narrowed := true }
def ChainClearsUptoSaid : Prop := chainClearsUptoRow.holds Try.pinned (OpenSpec.upto chainClearsSpec)

/-- 'vaultagelaw.TableDoes', WHERE WHAT IT READS IS OF BULK AT MOST 1048576: true; the input reads as it did. -/
def tableDoesUptoRow : OpenClaim := { program := "ytainekjcdmabbaa", sum := "228f4d21b9a3ace732a3678c15f56078b59fef61713e1ac9a0ed07298a983f5c", func := "vaultage/vaultagelaw.TableDoes", spec := "tableDoes", unfollowed := true, recurses := true, apart := false, narrowed := true }
def TableDoesUptoSaid : Prop := tableDoesUptoRow.holds Try.pinned (OpenSpec.upto tableDoesSpec)

/-- 'vaultagelaw.TableShots', WHERE WHAT IT READS IS OF BULK AT MOST 1048576: true; the input reads as it did. -/
def tableShotsUptoRow : OpenClaim := { program := "ytainekjcdmabbaa", sum := "228f4d21b9a3ace732a3678c15f56078b59fef61713e1ac9a0ed07298a983f5c", func := "vaultage/vaultagelaw.TableShots", spec := "tableShots", unfollowed := true, recurses := true, apart := false, narrowed := true }
def TableShotsUptoSaid : Prop := tableShotsUptoRow.holds Try.pinned (OpenSpec.upto tableShotsSpec)

/-- 'vaultagelaw.TableClears', WHERE WHAT IT READS IS OF BULK AT MOST 1048576: true; the input reads as it did. -/
def tableClearsUptoRow : OpenClaim := { program := "ytainekjcdmabbaa", sum := "228f4d21b9a3ace732a3678c15f56078b59fef61713e1ac9a0ed07298a983f5c", func := "vaultage/vaultagelaw.TableClears", spec := "tableClears", unfollowed := true, recurses := true, apart := false, narrowed := true }
def TableClearsUptoSaid : Prop := tableClearsUptoRow.holds Try.pinned (OpenSpec.upto tableClearsSpec)

/-- 'vaultagelaw.TableLists', WHERE WHAT IT READS IS OF BULK AT MOST 1048576: true; the input reads as it did. -/
def tableListsUptoRow : OpenClaim := { program := "ytainekjcdmabbaa", sum := "228f4d21b9a3ace732a3678c15f56078b59fef61713e1ac9a0ed07298a983f5c", func := "vaultage/vaultagelaw.TableLists", spec := "tableLists", unfollowed := true, recurses := true, apart := false, narrowed := true }
def TableListsUptoSaid : Prop := tableListsUptoRow.holds Try.pinned (OpenSpec.upto tableListsSpec)

/-- 'vaultagelaw.TableSince', WHERE WHAT IT READS IS OF BULK AT MOST 1048576: true; the input reads as it did. -/
def tableSinceUptoRow : OpenClaim := { program := "ytainekjcdmabbaa", sum := "228f4d21b9a3ace732a3678c15f56078b59fef61713e1ac9a0ed07298a983f5c", func := "vaultage/vaultagelaw.TableSince", spec := "tableSince", unfollowed := true, recurses := true, apart := false, narrowed := true }
def TableSinceUptoSaid : Prop := tableSinceUptoRow.holds Try.pinned (OpenSpec.upto tableSinceSpec)

/-- 'vaultagelaw.DeedDoes', WHERE WHAT IT READS IS OF BULK AT MOST 1048576: true; the input reads as it did. -/
def deedDoesUptoRow : OpenClaim := { program := "ytainekjcdmabbaa", sum := "228f4d21b9a3ace732a3678c15f56078b59fef61713e1ac9a0ed07298a983f5c", func := "vaultage/vaultagelaw.DeedDoes", spec := "deedDoes", unfollowed := true, recurses := true, apart := false, narrowed := true }
def DeedDoesUptoSaid : Prop := deedDoesUptoRow.holds Try.pinned (OpenSpec.upto deedDoesSpec)

/-- 'vaultagelaw.DeedSees', WHERE WHAT IT READS IS OF BULK AT MOST 1048576: true; the input reads as it did. -/
def deedSeesUptoRow : OpenClaim := { program := "ytainekjcdmabbaa", sum := "228f4d21b9a3ace732a3678c15f56078b59fef61713e1ac9a0ed07298a983f5c", func := "vaultage/vaultagelaw.DeedSees", spec := "deedSees", unfollowed := true, recurses := true, apart := false, narrowed := true }
def DeedSeesUptoSaid : Prop := deedSeesUptoRow.holds Try.pinned (OpenSpec.upto deedSeesSpec)

/-- 'vaultagelaw.DeedMay', WHERE WHAT IT READS IS OF BULK AT MOST 1048576: true; the input reads as it did. -/
def deedMayUptoRow : OpenClaim := { program := "ytainekjcdmabbaa", sum := "228f4d21b9a3ace732a3678c15f56078b59fef61713e1ac9a0ed07298a983f5c", func := "vaultage/vaultagelaw.DeedMay", spec := "deedMay", unfollowed := true, recurses := true, apart := false, narrowed := true }
def DeedMayUptoSaid : Prop := deedMayUptoRow.holds Try.pinned (OpenSpec.upto deedMaySpec)

/-- 'vaultagelaw.DeedReads', WHERE WHAT IT READS IS OF BULK AT MOST 1048576: true; the input reads as it did. -/
def deedReadsUptoRow : OpenClaim := { program := "ytainekjcdmabbaa", sum := "228f4d21b9a3ace732a3678c15f56078b59fef61713e1ac9a0ed07298a983f5c", func := "vaultage/vaultagelaw.DeedReads", spec := "deedReads", unfollowed := true, recurses := true, apart := false, narrowed := true }
def DeedReadsUptoSaid : Prop := deedReadsUptoRow.holds Try.pinned (OpenSpec.upto deedReadsSpec)

end Rows
end Go.Proofs.Ytainekjcdmabbaa
