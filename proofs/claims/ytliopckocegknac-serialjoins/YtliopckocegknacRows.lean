/-
  No cell of these rows narrows 'for every input' (looked for: loops, veiled, ifaces, maps, wideKeys, modest, calm, conditions, laid).
  DERIVED. THE GIVEN ROWS OF THIS SEAT. 11 by the template 'for every input the law returns true; each argument reads behind the call as it read before'; 0 by the template 'total and deterministic' (their statements: YtliopckocegknacTotals.lean).
  GIVEN WITH THE SEED: the statements are not yours to turn. If you find one false, say at which input.
  Laid BY PROGRAM, IN A SANDBOX (cutbox-rows.mjs): the forced cells as the released guide's own fill.sh prints them over the translation c058a841abd60ca4… (all of the seat's roots in one cut). By AI agents, Wed Nov 11 2026. No macro, syntax, notation, axiom, sorry.
-/
import Derived.Test.YtliopckocegknacChecked
import GoSem.Claim
import GoSem.ClaimJoined
import GoSem.ClaimMapViews
import Derived.JoinedTies
import Derived.KernelRfl
namespace Go.Proofs.Ytliopckocegknac
/- THE CELL 'sum', in the pinned program and in every row, IS THE sha256 OF THE DUMP (.gsa) THAT YtliopckocegknacProg.lean LOADS. Nothing in Lean hashes anything: it is a label: what it is worth is what the hold of that sum in a sandbox is worth. -/
noncomputable def Try.pinned : Pinned := { name := "ytliopckocegknac", sum := "c058a841abd60ca4d2bbdf7adf9ba3852e6d2d61973a06bc0d09f4cefccc5667", checked := Try.checked }
namespace Rows
def none {H : Type} : Left H := { results := [], args := [] }

/-- 'vaultagelaw.HallDoes': WHATEVER THE INPUT: true; the input reads as it did. -/
def hallDoesSpec : ChangeSpec := { name := "hallDoes", fn := fun _ => fun
  | [d] => { results := [.lit (.bool true)], args := [d] }
  | _ => none }
def hallDoesRow : OpenClaim := { program := "ytliopckocegknac", sum := "c058a841abd60ca4d2bbdf7adf9ba3852e6d2d61973a06bc0d09f4cefccc5667", func := "vaultage/vaultagelaw.HallDoes", spec := "hallDoes", unfollowed := true, recurses := true, apart := false }
def HallDoesSaid : Prop := hallDoesRow.holds Try.pinned (OpenSpec.ofChange hallDoesSpec)

/-- ITS FALSE NEIGHBOUR: 'it returns false'. Refute it at one input. -/
def hallDoesWrong : ChangeSpec := { name := "hallDoes", fn := fun _ => fun
  | [d] => { results := [.lit (.bool false)], args := [d] }
  | _ => none }
def HallDoesWrongFalsely : Prop := hallDoesRow.holds Try.pinned (OpenSpec.ofChange hallDoesWrong)

/-- 'vaultagelaw.HallShots': WHATEVER THE INPUT: true; the input reads as it did. -/
def hallShotsSpec : ChangeSpec := { name := "hallShots", fn := fun _ => fun
  | [d] => { results := [.lit (.bool true)], args := [d] }
  | _ => none }
def hallShotsRow : OpenClaim := { program := "ytliopckocegknac", sum := "c058a841abd60ca4d2bbdf7adf9ba3852e6d2d61973a06bc0d09f4cefccc5667", func := "vaultage/vaultagelaw.HallShots", spec := "hallShots", unfollowed := true, recurses := true, apart := false }
def HallShotsSaid : Prop := hallShotsRow.holds Try.pinned (OpenSpec.ofChange hallShotsSpec)

/-- ITS FALSE NEIGHBOUR: 'it returns false'. Refute it at one input. -/
def hallShotsWrong : ChangeSpec := { name := "hallShots", fn := fun _ => fun
  | [d] => { results := [.lit (.bool false)], args := [d] }
  | _ => none }
def HallShotsWrongFalsely : Prop := hallShotsRow.holds Try.pinned (OpenSpec.ofChange hallShotsWrong)

/-- 'vaultagelaw.HallFirst': WHATEVER THE INPUT: true; the input reads as it did. -/
def hallFirstSpec : ChangeSpec := { name := "hallFirst", fn := fun _ => fun
  | [d] => { results := [.lit (.bool true)], args := [d] }
  | _ => none }
def hallFirstRow : OpenClaim := { program := "ytliopckocegknac", sum := "c058a841abd60ca4d2bbdf7adf9ba3852e6d2d61973a06bc0d09f4cefccc5667", func := "vaultage/vaultagelaw.HallFirst", spec := "hallFirst", unfollowed := true, recurses := true, apart := false }
def HallFirstSaid : Prop := hallFirstRow.holds Try.pinned (OpenSpec.ofChange hallFirstSpec)

/-- ITS FALSE NEIGHBOUR: 'it returns false'. Refute it at one input. -/
def hallFirstWrong : ChangeSpec := { name := "hallFirst", fn := fun _ => fun
  | [d] => { results := [.lit (.bool false)], args := [d] }
  | _ => none }
def HallFirstWrongFalsely : Prop := hallFirstRow.holds Try.pinned (OpenSpec.ofChange hallFirstWrong)

/-- 'vaultagelaw.HallClears': WHATEVER THE INPUT: true; the input reads as it did. -/
def hallClearsSpec : ChangeSpec := { name := "hallClears", fn := fun _ => fun
  | [d] => { results := [.lit (.bool true)], args := [d] }
  | _ => none }
def hallClearsRow : OpenClaim := { program := "ytliopckocegknac", sum := "c058a841abd60ca4d2bbdf7adf9ba3852e6d2d61973a06bc0d09f4cefccc5667", func := "vaultage/vaultagelaw.HallClears", spec := "hallClears", unfollowed := true, recurses := true, apart := false }
def HallClearsSaid : Prop := hallClearsRow.holds Try.pinned (OpenSpec.ofChange hallClearsSpec)

/-- ITS FALSE NEIGHBOUR: 'it returns false'. Refute it at one input. -/
def hallClearsWrong : ChangeSpec := { name := "hallClears", fn := fun _ => fun
  | [d] => { results := [.lit (.bool false)], args := [d] }
  | _ => none }
def HallClearsWrongFalsely : Prop := hallClearsRow.holds Try.pinned (OpenSpec.ofChange hallClearsWrong)

/-- 'vaultagelaw.HallCrash': WHATEVER THE INPUT: true; the input reads as it did. -/
def hallCrashSpec : ChangeSpec := { name := "hallCrash", fn := fun _ => fun
  | [d] => { results := [.lit (.bool true)], args := [d] }
  | _ => none }
def hallCrashRow : OpenClaim := { program := "ytliopckocegknac", sum := "c058a841abd60ca4d2bbdf7adf9ba3852e6d2d61973a06bc0d09f4cefccc5667", func := "vaultage/vaultagelaw.HallCrash", spec := "hallCrash", unfollowed := true, recurses := true, apart := false }
def HallCrashSaid : Prop := hallCrashRow.holds Try.pinned (OpenSpec.ofChange hallCrashSpec)

/-- ITS FALSE NEIGHBOUR: 'it returns false'. Refute it at one input. -/
def hallCrashWrong : ChangeSpec := { name := "hallCrash", fn := fun _ => fun
  | [d] => { results := [.lit (.bool false)], args := [d] }
  | _ => none }
def HallCrashWrongFalsely : Prop := hallCrashRow.holds Try.pinned (OpenSpec.ofChange hallCrashWrong)

/-- 'vaultagelaw.HallRefuses': WHATEVER THE INPUT: true; the input reads as it did. -/
def hallRefusesSpec : ChangeSpec := { name := "hallRefuses", fn := fun _ => fun
  | [d] => { results := [.lit (.bool true)], args := [d] }
  | _ => none }
def hallRefusesRow : OpenClaim := { program := "ytliopckocegknac", sum := "c058a841abd60ca4d2bbdf7adf9ba3852e6d2d61973a06bc0d09f4cefccc5667", func := "vaultage/vaultagelaw.HallRefuses", spec := "hallRefuses", unfollowed := true, recurses := true, apart := false }
def HallRefusesSaid : Prop := hallRefusesRow.holds Try.pinned (OpenSpec.ofChange hallRefusesSpec)

/-- ITS FALSE NEIGHBOUR: 'it returns false'. Refute it at one input. -/
def hallRefusesWrong : ChangeSpec := { name := "hallRefuses", fn := fun _ => fun
  | [d] => { results := [.lit (.bool false)], args := [d] }
  | _ => none }
def HallRefusesWrongFalsely : Prop := hallRefusesRow.holds Try.pinned (OpenSpec.ofChange hallRefusesWrong)

/-- 'vaultagelaw.HallAlone': WHATEVER THE INPUT: true; the input reads as it did. -/
def hallAloneSpec : ChangeSpec := { name := "hallAlone", fn := fun _ => fun
  | [d] => { results := [.lit (.bool true)], args := [d] }
  | _ => none }
def hallAloneRow : OpenClaim := { program := "ytliopckocegknac", sum := "c058a841abd60ca4d2bbdf7adf9ba3852e6d2d61973a06bc0d09f4cefccc5667", func := "vaultage/vaultagelaw.HallAlone", spec := "hallAlone", unfollowed := true, recurses := true, apart := false }
def HallAloneSaid : Prop := hallAloneRow.holds Try.pinned (OpenSpec.ofChange hallAloneSpec)

/-- ITS FALSE NEIGHBOUR: 'it returns false'. Refute it at one input. -/
def hallAloneWrong : ChangeSpec := { name := "hallAlone", fn := fun _ => fun
  | [d] => { results := [.lit (.bool false)], args := [d] }
  | _ => none }
def HallAloneWrongFalsely : Prop := hallAloneRow.holds Try.pinned (OpenSpec.ofChange hallAloneWrong)

/-- 'vaultagelaw.SerialSure': WHATEVER THE INPUT: true; the input reads as it did. -/
def serialSureSpec : ChangeSpec := { name := "serialSure", fn := fun _ => fun
  | [d] => { results := [.lit (.bool true)], args := [d] }
  | _ => none }
def serialSureRow : OpenClaim := { program := "ytliopckocegknac", sum := "c058a841abd60ca4d2bbdf7adf9ba3852e6d2d61973a06bc0d09f4cefccc5667", func := "vaultage/vaultagelaw.SerialSure", spec := "serialSure", unfollowed := true, recurses := true, apart := false }
def SerialSureSaid : Prop := serialSureRow.holds Try.pinned (OpenSpec.ofChange serialSureSpec)

/-- ITS FALSE NEIGHBOUR: 'it returns false'. Refute it at one input. -/
def serialSureWrong : ChangeSpec := { name := "serialSure", fn := fun _ => fun
  | [d] => { results := [.lit (.bool false)], args := [d] }
  | _ => none }
def SerialSureWrongFalsely : Prop := serialSureRow.holds Try.pinned (OpenSpec.ofChange serialSureWrong)

/-- 'vaultagelaw.SerialWorld': WHATEVER THE INPUT: true; the input reads as it did. -/
def serialWorldSpec : ChangeSpec := { name := "serialWorld", fn := fun _ => fun
  | [d] => { results := [.lit (.bool true)], args := [d] }
  | _ => none }
def serialWorldRow : OpenClaim := { program := "ytliopckocegknac", sum := "c058a841abd60ca4d2bbdf7adf9ba3852e6d2d61973a06bc0d09f4cefccc5667", func := "vaultage/vaultagelaw.SerialWorld", spec := "serialWorld", unfollowed := true, recurses := true, apart := false }
def SerialWorldSaid : Prop := serialWorldRow.holds Try.pinned (OpenSpec.ofChange serialWorldSpec)

/-- ITS FALSE NEIGHBOUR: 'it returns false'. Refute it at one input. -/
def serialWorldWrong : ChangeSpec := { name := "serialWorld", fn := fun _ => fun
  | [d] => { results := [.lit (.bool false)], args := [d] }
  | _ => none }
def SerialWorldWrongFalsely : Prop := serialWorldRow.holds Try.pinned (OpenSpec.ofChange serialWorldWrong)

/-- 'vaultagelaw.SerialJoins': WHATEVER THE INPUT: true; the input reads as it did. -/
def serialJoinsSpec : ChangeSpec := { name := "serialJoins", fn := fun _ => fun
  | [d1, d2, d3] => { results := [.lit (.bool true)], args := [d1, d2, d3] }
  | _ => none }
def serialJoinsRow : OpenClaim := { program := "ytliopckocegknac", sum := "c058a841abd60ca4d2bbdf7adf9ba3852e6d2d61973a06bc0d09f4cefccc5667", func := "vaultage/vaultagelaw.SerialJoins", spec := "serialJoins", unfollowed := true, recurses := true, apart := false }
def SerialJoinsSaid : Prop := serialJoinsRow.holds Try.pinned (OpenSpec.ofChange serialJoinsSpec)

/-- ITS FALSE NEIGHBOUR: 'it returns false'. Refute it at one input. -/
def serialJoinsWrong : ChangeSpec := { name := "serialJoins", fn := fun _ => fun
  | [d1, d2, d3] => { results := [.lit (.bool false)], args := [d1, d2, d3] }
  | _ => none }
def SerialJoinsWrongFalsely : Prop := serialJoinsRow.holds Try.pinned (OpenSpec.ofChange serialJoinsWrong)

/-- 'vaultagelaw.TextDoes': WHATEVER THE INPUT: true; the input reads as it did. -/
def textDoesSpec : ChangeSpec := { name := "textDoes", fn := fun _ => fun
  | [d1, d2, d3] => { results := [.lit (.bool true)], args := [d1, d2, d3] }
  | _ => none }
def textDoesRow : OpenClaim := { program := "ytliopckocegknac", sum := "c058a841abd60ca4d2bbdf7adf9ba3852e6d2d61973a06bc0d09f4cefccc5667", func := "vaultage/vaultagelaw.TextDoes", spec := "textDoes", inPlace := ["internal/bytealg.IndexByteString", "internal/abi.NoEscape"], apart := false }
def TextDoesSaid : Prop := textDoesRow.holds Try.pinned (OpenSpec.ofChange textDoesSpec)

/-- ITS FALSE NEIGHBOUR: 'it returns false'. Refute it at one input. -/
def textDoesWrong : ChangeSpec := { name := "textDoes", fn := fun _ => fun
  | [d1, d2, d3] => { results := [.lit (.bool false)], args := [d1, d2, d3] }
  | _ => none }
def TextDoesWrongFalsely : Prop := textDoesRow.holds Try.pinned (OpenSpec.ofChange textDoesWrong)

/- THE SECOND FORM. 'bulk': how many values and letters a reading holds, each counted each time it is reached (what is shared counts as often as it is met; a slice's spare places count too). A statement '..UptoSaid' is the law's where the arguments, and the package variables that the reading takes, are together of bulk at most 1048576: NARROWER than '..Said'. Prove '..Said' where nothing that the law and all that it calls make is longer than what came in: it says more and counts as full. Else prove '..UptoSaid'. A law counts once. -/
mutual
def uptoBulk {H : Type} : DataW H → Nat
  | .lit (.string bytes) => bytes.length + 1
  | .lit _ => 1
  | .nil => 1
  | .ptr d => uptoBulk d + 1
  | .slice elems spare => uptoBulkAll elems + uptoBulkAll spare + 1
  | .agg parts => uptoBulkAll parts + 1
  | .iface _ d => uptoBulk d + 1
  | .map entries => uptoBulkEntries entries + 1
  | .held _ => 1
def uptoBulkAll {H : Type} : List (DataW H) → Nat
  | [] => 0
  | d :: r => uptoBulk d + uptoBulkAll r
def uptoBulkEntries {H : Type} : List (Lit × DataW H) → Nat
  | [] => 0
  | x :: r => uptoBulkEntry x + uptoBulkEntries r
def uptoBulkEntry {H : Type} : Lit × DataW H → Nat
  | (.string bytes, d) => bytes.length + uptoBulk d + 1
  | (_, d) => uptoBulk d + 1
 end
def uptoSmall : (H : Type) → List (DataW H) → Bool := fun _ ds => decide (uptoBulkAll ds ≤ 1048576)
def OpenSpec.upto (s : _root_.Go.ChangeSpec) : _root_.Go.OpenSpec := { _root_.Go.OpenSpec.ofChange s with cond := some uptoSmall }

/-- 'vaultagelaw.HallDoes', WHERE WHAT IT READS IS OF BULK AT MOST 1048576: true; the input reads as it did. -/
def hallDoesUptoRow : OpenClaim := { program := "ytliopckocegknac", sum := "c058a841abd60ca4d2bbdf7adf9ba3852e6d2d61973a06bc0d09f4cefccc5667", func := "vaultage/vaultagelaw.HallDoes", spec := "hallDoes", unfollowed := true, recurses := true, apart := false, narrowed := true }
def HallDoesUptoSaid : Prop := hallDoesUptoRow.holds Try.pinned (OpenSpec.upto hallDoesSpec)

/-- 'vaultagelaw.HallShots', WHERE WHAT IT READS IS OF BULK AT MOST 1048576: true; the input reads as it did. -/
def hallShotsUptoRow : OpenClaim := { program := "ytliopckocegknac", sum := "c058a841abd60ca4d2bbdf7adf9ba3852e6d2d61973a06bc0d09f4cefccc5667", func := "vaultage/vaultagelaw.HallShots", spec := "hallShots", unfollowed := true, recurses := true, apart := false, narrowed := true }
def HallShotsUptoSaid : Prop := hallShotsUptoRow.holds Try.pinned (OpenSpec.upto hallShotsSpec)

/-- 'vaultagelaw.HallFirst', WHERE WHAT IT READS IS OF BULK AT MOST 1048576: true; the input reads as it did. -/
def hallFirstUptoRow : OpenClaim := { program := "ytliopckocegknac", sum := "c058a841abd60ca4d2bbdf7adf9ba3852e6d2d61973a06bc0d09f4cefccc5667", func := "vaultage/vaultagelaw.HallFirst", spec := "hallFirst", unfollowed := true, recurses := true, apart := false, narrowed := true }
def HallFirstUptoSaid : Prop := hallFirstUptoRow.holds Try.pinned (OpenSpec.upto hallFirstSpec)

/-- 'vaultagelaw.HallClears', WHERE WHAT IT READS IS OF BULK AT MOST 1048576: true; the input reads as it did. -/
def hallClearsUptoRow : OpenClaim := { program := "ytliopckocegknac", sum := "c058a841abd60ca4d2bbdf7adf9ba3852e6d2d61973a06bc0d09f4cefccc5667", func := "vaultage/vaultagelaw.HallClears", spec := "hallClears", unfollowed := true, recurses := true, apart := false, narrowed := true }
def HallClearsUptoSaid : Prop := hallClearsUptoRow.holds Try.pinned (OpenSpec.upto hallClearsSpec)

/-- 'vaultagelaw.HallCrash', WHERE WHAT IT READS IS OF BULK AT MOST 1048576: true; the input reads as it did. -/
def hallCrashUptoRow : OpenClaim := { program := "ytliopckocegknac", sum := "c058a841abd60ca4d2bbdf7adf9ba3852e6d2d61973a06bc0d09f4cefccc5667", func := "vaultage/vaultagelaw.HallCrash", spec := "hallCrash", unfollowed := true, recurses := true, apart := false, narrowed := true }
def HallCrashUptoSaid : Prop := hallCrashUptoRow.holds Try.pinned (OpenSpec.upto hallCrashSpec)

/-- 'vaultagelaw.HallRefuses', WHERE WHAT IT READS IS OF BULK AT MOST 1048576: true; the input reads as it did. -/
def hallRefusesUptoRow : OpenClaim := { program := "ytliopckocegknac", sum := "c058a841abd60ca4d2bbdf7adf9ba3852e6d2d61973a06bc0d09f4cefccc5667", func := "vaultage/vaultagelaw.HallRefuses", spec := "hallRefuses", unfollowed := true, recurses := true, apart := false, narrowed := true }
def HallRefusesUptoSaid : Prop := hallRefusesUptoRow.holds Try.pinned (OpenSpec.upto hallRefusesSpec)

/-- 'vaultagelaw.HallAlone', WHERE WHAT IT READS IS OF BULK AT MOST 1048576: true; the input reads as it did. -/
def hallAloneUptoRow : OpenClaim := { program := "ytliopckocegknac", sum := "c058a841abd60ca4d2bbdf7adf9ba3852e6d2d61973a06bc0d09f4cefccc5667", func := "vaultage/vaultagelaw.HallAlone", spec := "hallAlone", unfollowed := true, recurses := true, apart := false, narrowed := true }
def HallAloneUptoSaid : Prop := hallAloneUptoRow.holds Try.pinned (OpenSpec.upto hallAloneSpec)

/-- 'vaultagelaw.SerialSure', WHERE WHAT IT READS IS OF BULK AT MOST 1048576: true; the input reads as it did. -/
def serialSureUptoRow : OpenClaim := { program := "ytliopckocegknac", sum := "c058a841abd60ca4d2bbdf7adf9ba3852e6d2d61973a06bc0d09f4cefccc5667", func := "vaultage/vaultagelaw.SerialSure", spec := "serialSure", unfollowed := true, recurses := true, apart := false, narrowed := true }
def SerialSureUptoSaid : Prop := serialSureUptoRow.holds Try.pinned (OpenSpec.upto serialSureSpec)

/-- 'vaultagelaw.SerialWorld', WHERE WHAT IT READS IS OF BULK AT MOST 1048576: true; the input reads as it did. -/
def serialWorldUptoRow : OpenClaim := { program := "ytliopckocegknac", sum := "c058a841abd60ca4d2bbdf7adf9ba3852e6d2d61973a06bc0d09f4cefccc5667", func := "vaultage/vaultagelaw.SerialWorld", spec := "serialWorld", unfollowed := true, recurses := true, apart := false, narrowed := true }
def SerialWorldUptoSaid : Prop := serialWorldUptoRow.holds Try.pinned (OpenSpec.upto serialWorldSpec)

/-- 'vaultagelaw.SerialJoins', WHERE WHAT IT READS IS OF BULK AT MOST 1048576: true; the input reads as it did. -/
def serialJoinsUptoRow : OpenClaim := { program := "ytliopckocegknac", sum := "c058a841abd60ca4d2bbdf7adf9ba3852e6d2d61973a06bc0d09f4cefccc5667", func := "vaultage/vaultagelaw.SerialJoins", spec := "serialJoins", unfollowed := true, recurses := true, apart := false, narrowed := true }
def SerialJoinsUptoSaid : Prop := serialJoinsUptoRow.holds Try.pinned (OpenSpec.upto serialJoinsSpec)

/-- 'vaultagelaw.TextDoes', WHERE WHAT IT READS IS OF BULK AT MOST 1048576: true; the input reads as it did. -/
def textDoesUptoRow : OpenClaim := { program := "ytliopckocegknac", sum := "c058a841abd60ca4d2bbdf7adf9ba3852e6d2d61973a06bc0d09f4cefccc5667", func := "vaultage/vaultagelaw.TextDoes", spec := "textDoes", inPlace := ["internal/bytealg.IndexByteString", "internal/abi.NoEscape"], apart := false, narrowed := true }
def TextDoesUptoSaid : Prop := textDoesUptoRow.holds Try.pinned (OpenSpec.upto textDoesSpec)

end Rows
end Go.Proofs.Ytliopckocegknac
