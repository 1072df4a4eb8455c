/-
  No cell of these rows narrows 'for every input' (looked for: loops, veiled, ifaces, maps, wideKeys, modest, calm, conditions, laid).
  DERIVED. THE GIVEN ROWS OF THIS SEAT. 12 by the template 'for every input the law returns true; each argument reads behind the call as it read before'; 0 by the template 'total and deterministic' (their statements: YtcfogkdpkpehaabTotals.lean).
  GIVEN WITH THE SEED: the statements are not yours to turn. If you find one false, say at which input.
  Laid BY PROGRAM, IN A SANDBOX (cutbox-rows.mjs): the forced cells as the released guide's own fill.sh prints them over the translation d10ec32f3bdf4ef6… (all of the seat's roots in one cut). By AI agents, Wed Nov 11 2026. No macro, syntax, notation, axiom, sorry.
-/
import Derived.Test.YtcfogkdpkpehaabChecked
import GoSem.Claim
import GoSem.ClaimJoined
import GoSem.ClaimMapViews
import Derived.JoinedTies
import Derived.KernelRfl
namespace Go.Proofs.Ytcfogkdpkpehaab
/- THE CELL 'sum', in the pinned program and in every row, IS THE sha256 OF THE DUMP (.gsa) THAT YtcfogkdpkpehaabProg.lean LOADS. Nothing in Lean hashes anything: it is a label: what it is worth is what the hold of that sum in a sandbox is worth. -/
noncomputable def Try.pinned : Pinned := { name := "ytcfogkdpkpehaab", sum := "d10ec32f3bdf4ef6c7af45f58c24373eb2396461c6b547086dbe380717d5dd65", checked := Try.checked }
namespace Rows
def none {H : Type} : Left H := { results := [], args := [] }

/-- 'vaultagelaw.CodecDoes': WHATEVER THE INPUT: true; the input reads as it did. -/
def codecDoesSpec : ChangeSpec := { name := "codecDoes", fn := fun _ => fun
  | [d1, d2] => { results := [.lit (.bool true)], args := [d1, d2] }
  | _ => none }
def codecDoesRow : OpenClaim := { program := "ytcfogkdpkpehaab", sum := "d10ec32f3bdf4ef6c7af45f58c24373eb2396461c6b547086dbe380717d5dd65", func := "vaultage/vaultagelaw.CodecDoes", spec := "codecDoes", apart := false }
def CodecDoesSaid : Prop := codecDoesRow.holds Try.pinned (OpenSpec.ofChange codecDoesSpec)

/-- ITS FALSE NEIGHBOUR: 'it returns false'. Refute it at one input. -/
def codecDoesWrong : ChangeSpec := { name := "codecDoes", fn := fun _ => fun
  | [d1, d2] => { results := [.lit (.bool false)], args := [d1, d2] }
  | _ => none }
def CodecDoesWrongFalsely : Prop := codecDoesRow.holds Try.pinned (OpenSpec.ofChange codecDoesWrong)

/-- 'vaultagelaw.CodecBack': WHATEVER THE INPUT: true; the input reads as it did. -/
def codecBackSpec : ChangeSpec := { name := "codecBack", fn := fun _ => fun
  | [d1, d2, d3] => { results := [.lit (.bool true)], args := [d1, d2, d3] }
  | _ => none }
def codecBackRow : OpenClaim := { program := "ytcfogkdpkpehaab", sum := "d10ec32f3bdf4ef6c7af45f58c24373eb2396461c6b547086dbe380717d5dd65", func := "vaultage/vaultagelaw.CodecBack", spec := "codecBack", apart := false }
def CodecBackSaid : Prop := codecBackRow.holds Try.pinned (OpenSpec.ofChange codecBackSpec)

/-- ITS FALSE NEIGHBOUR: 'it returns false'. Refute it at one input. -/
def codecBackWrong : ChangeSpec := { name := "codecBack", fn := fun _ => fun
  | [d1, d2, d3] => { results := [.lit (.bool false)], args := [d1, d2, d3] }
  | _ => none }
def CodecBackWrongFalsely : Prop := codecBackRow.holds Try.pinned (OpenSpec.ofChange codecBackWrong)

/-- 'vaultagelaw.CodecCut': WHATEVER THE INPUT: true; the input reads as it did. -/
def codecCutSpec : ChangeSpec := { name := "codecCut", fn := fun _ => fun
  | [d1, d2, d3] => { results := [.lit (.bool true)], args := [d1, d2, d3] }
  | _ => none }
def codecCutRow : OpenClaim := { program := "ytcfogkdpkpehaab", sum := "d10ec32f3bdf4ef6c7af45f58c24373eb2396461c6b547086dbe380717d5dd65", func := "vaultage/vaultagelaw.CodecCut", spec := "codecCut", apart := false }
def CodecCutSaid : Prop := codecCutRow.holds Try.pinned (OpenSpec.ofChange codecCutSpec)

/-- ITS FALSE NEIGHBOUR: 'it returns false'. Refute it at one input. -/
def codecCutWrong : ChangeSpec := { name := "codecCut", fn := fun _ => fun
  | [d1, d2, d3] => { results := [.lit (.bool false)], args := [d1, d2, d3] }
  | _ => none }
def CodecCutWrongFalsely : Prop := codecCutRow.holds Try.pinned (OpenSpec.ofChange codecCutWrong)

/-- 'vaultagelaw.CodecSize': WHATEVER THE INPUT: true; the input reads as it did. -/
def codecSizeSpec : ChangeSpec := { name := "codecSize", fn := fun _ => fun
  | [d] => { results := [.lit (.bool true)], args := [d] }
  | _ => none }
def codecSizeRow : OpenClaim := { program := "ytcfogkdpkpehaab", sum := "d10ec32f3bdf4ef6c7af45f58c24373eb2396461c6b547086dbe380717d5dd65", func := "vaultage/vaultagelaw.CodecSize", spec := "codecSize", apart := false }
def CodecSizeSaid : Prop := codecSizeRow.holds Try.pinned (OpenSpec.ofChange codecSizeSpec)

/-- ITS FALSE NEIGHBOUR: 'it returns false'. Refute it at one input. -/
def codecSizeWrong : ChangeSpec := { name := "codecSize", fn := fun _ => fun
  | [d] => { results := [.lit (.bool false)], args := [d] }
  | _ => none }
def CodecSizeWrongFalsely : Prop := codecSizeRow.holds Try.pinned (OpenSpec.ofChange codecSizeWrong)

/-- 'vaultagelaw.LogDoes': WHATEVER THE INPUT: true; the input reads as it did. -/
def logDoesSpec : ChangeSpec := { name := "logDoes", fn := fun _ => fun
  | [d1, d2, d3, d4] => { results := [.lit (.bool true)], args := [d1, d2, d3, d4] }
  | _ => none }
def logDoesRow : OpenClaim := { program := "ytcfogkdpkpehaab", sum := "d10ec32f3bdf4ef6c7af45f58c24373eb2396461c6b547086dbe380717d5dd65", func := "vaultage/vaultagelaw.LogDoes", spec := "logDoes", unfollowed := true, recurses := true, apart := false }
def LogDoesSaid : Prop := logDoesRow.holds Try.pinned (OpenSpec.ofChange logDoesSpec)

/-- ITS FALSE NEIGHBOUR: 'it returns false'. Refute it at one input. -/
def logDoesWrong : ChangeSpec := { name := "logDoes", fn := fun _ => fun
  | [d1, d2, d3, d4] => { results := [.lit (.bool false)], args := [d1, d2, d3, d4] }
  | _ => none }
def LogDoesWrongFalsely : Prop := logDoesRow.holds Try.pinned (OpenSpec.ofChange logDoesWrong)

/-- 'vaultagelaw.LogTorn': WHATEVER THE INPUT: true; the input reads as it did. -/
def logTornSpec : ChangeSpec := { name := "logTorn", fn := fun _ => fun
  | [d1, d2, d3] => { results := [.lit (.bool true)], args := [d1, d2, d3] }
  | _ => none }
def logTornRow : OpenClaim := { program := "ytcfogkdpkpehaab", sum := "d10ec32f3bdf4ef6c7af45f58c24373eb2396461c6b547086dbe380717d5dd65", func := "vaultage/vaultagelaw.LogTorn", spec := "logTorn", apart := false }
def LogTornSaid : Prop := logTornRow.holds Try.pinned (OpenSpec.ofChange logTornSpec)

/-- ITS FALSE NEIGHBOUR: 'it returns false'. Refute it at one input. -/
def logTornWrong : ChangeSpec := { name := "logTorn", fn := fun _ => fun
  | [d1, d2, d3] => { results := [.lit (.bool false)], args := [d1, d2, d3] }
  | _ => none }
def LogTornWrongFalsely : Prop := logTornRow.holds Try.pinned (OpenSpec.ofChange logTornWrong)

/-- 'vaultagelaw.LogTable': WHATEVER THE INPUT: true; the input reads as it did. -/
def logTableSpec : ChangeSpec := { name := "logTable", fn := fun _ => fun
  | [d1, d2] => { results := [.lit (.bool true)], args := [d1, d2] }
  | _ => none }
def logTableRow : OpenClaim := { program := "ytcfogkdpkpehaab", sum := "d10ec32f3bdf4ef6c7af45f58c24373eb2396461c6b547086dbe380717d5dd65", func := "vaultage/vaultagelaw.LogTable", spec := "logTable", unfollowed := true, recurses := true, apart := false }
def LogTableSaid : Prop := logTableRow.holds Try.pinned (OpenSpec.ofChange logTableSpec)

/-- ITS FALSE NEIGHBOUR: 'it returns false'. Refute it at one input. -/
def logTableWrong : ChangeSpec := { name := "logTable", fn := fun _ => fun
  | [d1, d2] => { results := [.lit (.bool false)], args := [d1, d2] }
  | _ => none }
def LogTableWrongFalsely : Prop := logTableRow.holds Try.pinned (OpenSpec.ofChange logTableWrong)

/-- 'vaultagelaw.LogRefuses': WHATEVER THE INPUT: true; the input reads as it did. -/
def logRefusesSpec : ChangeSpec := { name := "logRefuses", fn := fun _ => fun
  | [d1, d2, d3] => { results := [.lit (.bool true)], args := [d1, d2, d3] }
  | _ => none }
def logRefusesRow : OpenClaim := { program := "ytcfogkdpkpehaab", sum := "d10ec32f3bdf4ef6c7af45f58c24373eb2396461c6b547086dbe380717d5dd65", func := "vaultage/vaultagelaw.LogRefuses", spec := "logRefuses", apart := false }
def LogRefusesSaid : Prop := logRefusesRow.holds Try.pinned (OpenSpec.ofChange logRefusesSpec)

/-- ITS FALSE NEIGHBOUR: 'it returns false'. Refute it at one input. -/
def logRefusesWrong : ChangeSpec := { name := "logRefuses", fn := fun _ => fun
  | [d1, d2, d3] => { results := [.lit (.bool false)], args := [d1, d2, d3] }
  | _ => none }
def LogRefusesWrongFalsely : Prop := logRefusesRow.holds Try.pinned (OpenSpec.ofChange logRefusesWrong)

/-- 'vaultagelaw.VaultDoes': WHATEVER THE INPUT: true; the input reads as it did. -/
def vaultDoesSpec : ChangeSpec := { name := "vaultDoes", fn := fun _ => fun
  | [d] => { results := [.lit (.bool true)], args := [d] }
  | _ => none }
def vaultDoesRow : OpenClaim := { program := "ytcfogkdpkpehaab", sum := "d10ec32f3bdf4ef6c7af45f58c24373eb2396461c6b547086dbe380717d5dd65", func := "vaultage/vaultagelaw.VaultDoes", spec := "vaultDoes", unfollowed := true, recurses := true, apart := false }
def VaultDoesSaid : Prop := vaultDoesRow.holds Try.pinned (OpenSpec.ofChange vaultDoesSpec)

/-- ITS FALSE NEIGHBOUR: 'it returns false'. Refute it at one input. -/
def vaultDoesWrong : ChangeSpec := { name := "vaultDoes", fn := fun _ => fun
  | [d] => { results := [.lit (.bool false)], args := [d] }
  | _ => none }
def VaultDoesWrongFalsely : Prop := vaultDoesRow.holds Try.pinned (OpenSpec.ofChange vaultDoesWrong)

/-- 'vaultagelaw.VaultAgain': WHATEVER THE INPUT: true; the input reads as it did. -/
def vaultAgainSpec : ChangeSpec := { name := "vaultAgain", fn := fun _ => fun
  | [d] => { results := [.lit (.bool true)], args := [d] }
  | _ => none }
def vaultAgainRow : OpenClaim := { program := "ytcfogkdpkpehaab", sum := "d10ec32f3bdf4ef6c7af45f58c24373eb2396461c6b547086dbe380717d5dd65", func := "vaultage/vaultagelaw.VaultAgain", spec := "vaultAgain", unfollowed := true, recurses := true, apart := false }
def VaultAgainSaid : Prop := vaultAgainRow.holds Try.pinned (OpenSpec.ofChange vaultAgainSpec)

/-- ITS FALSE NEIGHBOUR: 'it returns false'. Refute it at one input. -/
def vaultAgainWrong : ChangeSpec := { name := "vaultAgain", fn := fun _ => fun
  | [d] => { results := [.lit (.bool false)], args := [d] }
  | _ => none }
def VaultAgainWrongFalsely : Prop := vaultAgainRow.holds Try.pinned (OpenSpec.ofChange vaultAgainWrong)

/-- 'vaultagelaw.VaultTears': WHATEVER THE INPUT: true; the input reads as it did. -/
def vaultTearsSpec : ChangeSpec := { name := "vaultTears", fn := fun _ => fun
  | [d1, d2, d3] => { results := [.lit (.bool true)], args := [d1, d2, d3] }
  | _ => none }
def vaultTearsRow : OpenClaim := { program := "ytcfogkdpkpehaab", sum := "d10ec32f3bdf4ef6c7af45f58c24373eb2396461c6b547086dbe380717d5dd65", func := "vaultage/vaultagelaw.VaultTears", spec := "vaultTears", unfollowed := true, recurses := true, apart := false }
def VaultTearsSaid : Prop := vaultTearsRow.holds Try.pinned (OpenSpec.ofChange vaultTearsSpec)

/-- ITS FALSE NEIGHBOUR: 'it returns false'. Refute it at one input. -/
def vaultTearsWrong : ChangeSpec := { name := "vaultTears", fn := fun _ => fun
  | [d1, d2, d3] => { results := [.lit (.bool false)], args := [d1, d2, d3] }
  | _ => none }
def VaultTearsWrongFalsely : Prop := vaultTearsRow.holds Try.pinned (OpenSpec.ofChange vaultTearsWrong)

/-- 'vaultagelaw.VaultLooks': WHATEVER THE INPUT: true; the input reads as it did. -/
def vaultLooksSpec : ChangeSpec := { name := "vaultLooks", fn := fun _ => fun
  | [d1, d2, d3] => { results := [.lit (.bool true)], args := [d1, d2, d3] }
  | _ => none }
def vaultLooksRow : OpenClaim := { program := "ytcfogkdpkpehaab", sum := "d10ec32f3bdf4ef6c7af45f58c24373eb2396461c6b547086dbe380717d5dd65", func := "vaultage/vaultagelaw.VaultLooks", spec := "vaultLooks", unfollowed := true, recurses := true, apart := false }
def VaultLooksSaid : Prop := vaultLooksRow.holds Try.pinned (OpenSpec.ofChange vaultLooksSpec)

/-- ITS FALSE NEIGHBOUR: 'it returns false'. Refute it at one input. -/
def vaultLooksWrong : ChangeSpec := { name := "vaultLooks", fn := fun _ => fun
  | [d1, d2, d3] => { results := [.lit (.bool false)], args := [d1, d2, d3] }
  | _ => none }
def VaultLooksWrongFalsely : Prop := vaultLooksRow.holds Try.pinned (OpenSpec.ofChange vaultLooksWrong)

/- THE SECOND FORM. 'bulk': how many values and letters a reading holds, each counted each time it is reached (what is shared counts as often as it is met; a slice's spare places count too). A statement '..UptoSaid' is the law's where the arguments, and the package variables that the reading takes, are together of bulk at most 1048576: NARROWER than '..Said'. Prove '..Said' where nothing that the law and all that it calls make is longer than what came in: it says more and counts as full. Else prove '..UptoSaid'. A law counts once. -/
mutual
def uptoBulk {H : Type} : DataW H → Nat
  | .lit (.string bytes) => bytes.length + 1
  | .lit _ => 1
  | .nil => 1
  | .ptr d => uptoBulk d + 1
  | .slice elems spare => uptoBulkAll elems + uptoBulkAll spare + 1
  | .agg parts => uptoBulkAll parts + 1
  | .iface _ d => uptoBulk d + 1
  | .map entries => uptoBulkEntries entries + 1
  | .held _ => 1
def uptoBulkAll {H : Type} : List (DataW H) → Nat
  | [] => 0
  | d :: r => uptoBulk d + uptoBulkAll r
def uptoBulkEntries {H : Type} : List (Lit × DataW H) → Nat
  | [] => 0
  | x :: r => uptoBulkEntry x + uptoBulkEntries r
def uptoBulkEntry {H : Type} : Lit × DataW H → Nat
  | (.string bytes, d) => bytes.length + uptoBulk d + 1
  | (_, d) => uptoBulk d + 1
 end
def uptoSmall : (H : Type) → List (DataW H) → Bool := fun _ ds => decide (uptoBulkAll ds ≤ 1048576)
def OpenSpec.upto (s : _root_.Go.ChangeSpec) : _root_.Go.OpenSpec := { _root_.Go.OpenSpec.ofChange s with cond := some uptoSmall }

/-- 'vaultagelaw.CodecDoes', WHERE WHAT IT READS IS OF BULK AT MOST 1048576: true; the input reads as it did. -/
def codecDoesUptoRow : OpenClaim := { program := "ytcfogkdpkpehaab", sum := "d10ec32f3bdf4ef6c7af45f58c24373eb2396461c6b547086dbe380717d5dd65", func := "vaultage/vaultagelaw.CodecDoes", spec := "codecDoes", apart := false, narrowed := true }
def CodecDoesUptoSaid : Prop := codecDoesUptoRow.holds Try.pinned (OpenSpec.upto codecDoesSpec)

/-- 'vaultagelaw.CodecBack', WHERE WHAT IT READS IS OF BULK AT MOST 1048576: true; the input reads as it did. -/
def codecBackUptoRow : OpenClaim := { program := "ytcfogkdpkpehaab", sum := "d10ec32f3bdf4ef6c7af45f58c24373eb2396461c6b547086dbe380717d5dd65", func := "vaultage/vaultagelaw.CodecBack", spec := "codecBack", apart := false, narrowed := true }
def CodecBackUptoSaid : Prop := codecBackUptoRow.holds Try.pinned (OpenSpec.upto codecBackSpec)

/-- 'vaultagelaw.CodecCut', WHERE WHAT IT READS IS OF BULK AT MOST 1048576: true; the input reads as it did. -/
def codecCutUptoRow : OpenClaim := { program := "ytcfogkdpkpehaab", sum := "d10ec32f3bdf4ef6c7af45f58c24373eb2396461c6b547086dbe380717d5dd65", func := "vaultage/vaultagelaw.CodecCut", spec := "codecCut", apart := false, narrowed := true }
def CodecCutUptoSaid : Prop := codecCutUptoRow.holds Try.pinned (OpenSpec.upto codecCutSpec)

/-- 'vaultagelaw.CodecSize', WHERE WHAT IT READS IS OF BULK AT MOST 1048576: true; the input reads as it did. -/
def codecSizeUptoRow : OpenClaim := { program := "ytcfogkdpkpehaab", sum := "d10ec32f3bdf4ef6c7af45f58c24373eb2396461c6b547086dbe380717d5dd65", func := "vaultage/vaultagelaw.CodecSize", spec := "codecSize", apart := false, narrowed := true }
def CodecSizeUptoSaid : Prop := codecSizeUptoRow.holds Try.pinned (OpenSpec.upto codecSizeSpec)

/-- 'vaultagelaw.LogDoes', WHERE WHAT IT READS IS OF BULK AT MOST 1048576: true; the input reads as it did. -/
def logDoesUptoRow : OpenClaim := { program := "ytcfogkdpkpehaab", sum := "d10ec32f3bdf4ef6c7af45f58c24373eb2396461c6b547086dbe380717d5dd65", func := "vaultage/vaultagelaw.LogDoes", spec := "logDoes", unfollowed := true, recurses := true, apart := false, narrowed := true }
def LogDoesUptoSaid : Prop := logDoesUptoRow.holds Try.pinned (OpenSpec.upto logDoesSpec)

/-- 'vaultagelaw.LogTorn', WHERE WHAT IT READS IS OF BULK AT MOST 1048576: true; the input reads as it did. -/
def logTornUptoRow : OpenClaim := { program := "ytcfogkdpkpehaab", sum := "d10ec32f3bdf4ef6c7af45f58c24373eb2396461c6b547086dbe380717d5dd65", func := "vaultage/vaultagelaw.LogTorn", spec := "logTorn", apart := false, narrowed := true }
def LogTornUptoSaid : Prop := logTornUptoRow.holds Try.pinned (OpenSpec.upto logTornSpec)

/-- 'vaultagelaw.LogTable', WHERE WHAT IT READS IS OF BULK AT MOST 1048576: true; the input reads as it did. -/
def logTableUptoRow : OpenClaim := { program := "ytcfogkdpkpehaab", sum := "d10ec32f3bdf4ef6c7af45f58c24373eb2396461c6b547086dbe380717d5dd65", func := "vaultage/vaultagelaw.LogTable", spec := "logTable", unfollowed := true, recurses := true, apart := false, narrowed := true }
def LogTableUptoSaid : Prop := logTableUptoRow.holds Try.pinned (OpenSpec.upto logTableSpec)

/-- 'vaultagelaw.LogRefuses', WHERE WHAT IT READS IS OF BULK AT MOST 1048576: true; the input reads as it did. -/
def logRefusesUptoRow : OpenClaim := { program := "ytcfogkdpkpehaab", sum := "d10ec32f3bdf4ef6c7af45f58c24373eb2396461c6b547086dbe380717d5dd65", func := "vaultage/vaultagelaw.LogRefuses", spec := "logRefuses", apart := false, narrowed := true }
def LogRefusesUptoSaid : Prop := logRefusesUptoRow.holds Try.pinned (OpenSpec.upto logRefusesSpec)

/-- 'vaultagelaw.VaultDoes', WHERE WHAT IT READS IS OF BULK AT MOST 1048576: true; the input reads as it did. -/
def vaultDoesUptoRow : OpenClaim := { program := "ytcfogkdpkpehaab", sum := "d10ec32f3bdf4ef6c7af45f58c24373eb2396461c6b547086dbe380717d5dd65", func := "vaultage/vaultagelaw.VaultDoes", spec := "vaultDoes", unfollowed := true, recurses := true, apart := false, narrowed := true }
def VaultDoesUptoSaid : Prop := vaultDoesUptoRow.holds Try.pinned (OpenSpec.upto vaultDoesSpec)

/-- 'vaultagelaw.VaultAgain', WHERE WHAT IT READS IS OF BULK AT MOST 1048576: true; the input reads as it did. -/
def vaultAgainUptoRow : OpenClaim := { program := "ytcfogkdpkpehaab", sum := "d10ec32f3bdf4ef6c7af45f58c24373eb2396461c6b547086dbe380717d5dd65", func := "vaultage/vaultagelaw.VaultAgain", spec := "vaultAgain", unfollowed := true, recurses := true, apart := false, narrowed := true }
def VaultAgainUptoSaid : Prop := vaultAgainUptoRow.holds Try.pinned (OpenSpec.upto vaultAgainSpec)

/-- 'vaultagelaw.VaultTears', WHERE WHAT IT READS IS OF BULK AT MOST 1048576: true; the input reads as it did. -/
def vaultTearsUptoRow : OpenClaim := { program := "ytcfogkdpkpehaab", sum := "d10ec32f3bdf4ef6c7af45f58c24373eb2396461c6b547086dbe380717d5dd65", func := "vaultage/vaultagelaw.VaultTears", spec := "vaultTears", unfollowed := true, recurses := true, apart := false, narrowed := true }
def VaultTearsUptoSaid : Prop := vaultTearsUptoRow.holds Try.pinned (OpenSpec.upto vaultTearsSpec)

/-- 'vaultagelaw.VaultLooks', WHERE WHAT IT READS IS OF BULK AT MOST 1048576: true; the input reads as it did. -/
def vaultLooksUptoRow : OpenClaim := { program := "ytcfogkdpkpehaab", sum := "d10ec32f3bdf4ef6c7af45f58c24373eb2396461c6b547086dbe380717d5dd65", func := "vaultage/vaultagelaw.VaultLooks", spec := "vaultLooks", unfollowed := true, recurses := true, apart := false, narrowed := true }
def VaultLooksUptoSaid : Prop := vaultLooksUptoRow.holds Try.pinned (OpenSpec.upto vaultLooksSpec)

end Rows
end Go.Proofs.Ytcfogkdpkpehaab
