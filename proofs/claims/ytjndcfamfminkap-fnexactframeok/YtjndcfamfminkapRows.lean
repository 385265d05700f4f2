/-
  No cell of these rows narrows 'for every input' (looked for: loops, veiled, ifaces, maps, wideKeys, modest, calm, conditions, laid).
  DERIVED. THE GIVEN ROWS OF THIS SEAT. 6 by the template 'for every input the law returns true; each argument reads behind the call as it read before'; 0 by the template 'total and deterministic' (their statements: YtjndcfamfminkapTotals.lean).
  GIVEN WITH THE SEED: the statements are not yours to turn. If you find one false, say at which input.
  Laid BY PROGRAM, IN A SANDBOX (cutbox-rows.mjs): the forced cells as the released guide's own fill.sh prints them over the translation 92bf44fe3c001185… (all of the seat's roots in one cut). By AI agents, Wed Nov 11 2026. No macro, syntax, notation, axiom, sorry.
-/
import Derived.Test.YtjndcfamfminkapChecked
import GoSem.Claim
import GoSem.ClaimJoined
import GoSem.ClaimMapViews
import Derived.JoinedTies
import Derived.KernelRfl
namespace Go.Proofs.Ytjndcfamfminkap
/- THE CELL 'sum', in the pinned program and in every row, IS THE sha256 OF THE DUMP (.gsa) THAT YtjndcfamfminkapProg.lean LOADS. Nothing in Lean hashes anything: it is a label: what it is worth is what the hold of that sum in a sandbox is worth. -/
noncomputable def Try.pinned : Pinned := { name := "ytjndcfamfminkap", sum := "92bf44fe3c001185f65070231616e362845b910bc3925439e0681776f6c51f8c", checked := Try.checked }
namespace Rows
def none {H : Type} : Left H := { results := [], args := [] }

/-- 'laws.FnExactEntryOk': WHATEVER THE INPUT: true; the input reads as it did. -/
def fnExactEntryOkSpec : ChangeSpec := { name := "fnExactEntryOk", fn := fun _ => fun
  | [d] => { results := [.lit (.bool true)], args := [d] }
  | _ => none }
def fnExactEntryOkRow : OpenClaim := { program := "ytjndcfamfminkap", sum := "92bf44fe3c001185f65070231616e362845b910bc3925439e0681776f6c51f8c", func := "loop.example/g00491/laws.FnExactEntryOk", spec := "fnExactEntryOk", apart := false }
def FnExactEntryOkSaid : Prop := fnExactEntryOkRow.holds Try.pinned (OpenSpec.ofChange fnExactEntryOkSpec)

/-- ITS FALSE NEIGHBOUR: 'it returns false'. Refute it at one input. -/
def fnExactEntryOkWrong : ChangeSpec := { name := "fnExactEntryOk", fn := fun _ => fun
  | [d] => { results := [.lit (.bool false)], args := [d] }
  | _ => none }
def FnExactEntryOkWrongFalsely : Prop := fnExactEntryOkRow.holds Try.pinned (OpenSpec.ofChange fnExactEntryOkWrong)

/-- 'laws.FnExactEntryOf': WHATEVER THE INPUT: true; the input reads as it did. -/
def fnExactEntryOfSpec : ChangeSpec := { name := "fnExactEntryOf", fn := fun _ => fun
  | [d1, d2] => { results := [.lit (.bool true)], args := [d1, d2] }
  | _ => none }
def fnExactEntryOfRow : OpenClaim := { program := "ytjndcfamfminkap", sum := "92bf44fe3c001185f65070231616e362845b910bc3925439e0681776f6c51f8c", func := "loop.example/g00491/laws.FnExactEntryOf", spec := "fnExactEntryOf", apart := false }
def FnExactEntryOfSaid : Prop := fnExactEntryOfRow.holds Try.pinned (OpenSpec.ofChange fnExactEntryOfSpec)

/-- ITS FALSE NEIGHBOUR: 'it returns false'. Refute it at one input. -/
def fnExactEntryOfWrong : ChangeSpec := { name := "fnExactEntryOf", fn := fun _ => fun
  | [d1, d2] => { results := [.lit (.bool false)], args := [d1, d2] }
  | _ => none }
def FnExactEntryOfWrongFalsely : Prop := fnExactEntryOfRow.holds Try.pinned (OpenSpec.ofChange fnExactEntryOfWrong)

/-- 'laws.FnExactEntryAdd': WHATEVER THE INPUT: true; the input reads as it did. -/
def fnExactEntryAddSpec : ChangeSpec := { name := "fnExactEntryAdd", fn := fun _ => fun
  | [d1, d2] => { results := [.lit (.bool true)], args := [d1, d2] }
  | _ => none }
def fnExactEntryAddRow : OpenClaim := { program := "ytjndcfamfminkap", sum := "92bf44fe3c001185f65070231616e362845b910bc3925439e0681776f6c51f8c", func := "loop.example/g00491/laws.FnExactEntryAdd", spec := "fnExactEntryAdd", apart := false }
def FnExactEntryAddSaid : Prop := fnExactEntryAddRow.holds Try.pinned (OpenSpec.ofChange fnExactEntryAddSpec)

/-- ITS FALSE NEIGHBOUR: 'it returns false'. Refute it at one input. -/
def fnExactEntryAddWrong : ChangeSpec := { name := "fnExactEntryAdd", fn := fun _ => fun
  | [d1, d2] => { results := [.lit (.bool false)], args := [d1, d2] }
  | _ => none }
def FnExactEntryAddWrongFalsely : Prop := fnExactEntryAddRow.holds Try.pinned (OpenSpec.ofChange fnExactEntryAddWrong)

/-- 'laws.FnExactEntrySize': WHATEVER THE INPUT: true; the input reads as it did. -/
def fnExactEntrySizeSpec : ChangeSpec := { name := "fnExactEntrySize", fn := fun _ => fun
  | [d] => { results := [.lit (.bool true)], args := [d] }
  | _ => none }
def fnExactEntrySizeRow : OpenClaim := { program := "ytjndcfamfminkap", sum := "92bf44fe3c001185f65070231616e362845b910bc3925439e0681776f6c51f8c", func := "loop.example/g00491/laws.FnExactEntrySize", spec := "fnExactEntrySize", apart := false }
def FnExactEntrySizeSaid : Prop := fnExactEntrySizeRow.holds Try.pinned (OpenSpec.ofChange fnExactEntrySizeSpec)

/-- ITS FALSE NEIGHBOUR: 'it returns false'. Refute it at one input. -/
def fnExactEntrySizeWrong : ChangeSpec := { name := "fnExactEntrySize", fn := fun _ => fun
  | [d] => { results := [.lit (.bool false)], args := [d] }
  | _ => none }
def FnExactEntrySizeWrongFalsely : Prop := fnExactEntrySizeRow.holds Try.pinned (OpenSpec.ofChange fnExactEntrySizeWrong)

/-- 'laws.FnExactEntrySame': WHATEVER THE INPUT: true; the input reads as it did. -/
def fnExactEntrySameSpec : ChangeSpec := { name := "fnExactEntrySame", fn := fun _ => fun
  | [d1, d2] => { results := [.lit (.bool true)], args := [d1, d2] }
  | _ => none }
def fnExactEntrySameRow : OpenClaim := { program := "ytjndcfamfminkap", sum := "92bf44fe3c001185f65070231616e362845b910bc3925439e0681776f6c51f8c", func := "loop.example/g00491/laws.FnExactEntrySame", spec := "fnExactEntrySame", unfollowed := true, recurses := true, apart := false }
def FnExactEntrySameSaid : Prop := fnExactEntrySameRow.holds Try.pinned (OpenSpec.ofChange fnExactEntrySameSpec)

/-- ITS FALSE NEIGHBOUR: 'it returns false'. Refute it at one input. -/
def fnExactEntrySameWrong : ChangeSpec := { name := "fnExactEntrySame", fn := fun _ => fun
  | [d1, d2] => { results := [.lit (.bool false)], args := [d1, d2] }
  | _ => none }
def FnExactEntrySameWrongFalsely : Prop := fnExactEntrySameRow.holds Try.pinned (OpenSpec.ofChange fnExactEntrySameWrong)

/-- 'laws.FnExactFrameOk': WHATEVER THE INPUT: true; the input reads as it did. -/
def fnExactFrameOkSpec : ChangeSpec := { name := "fnExactFrameOk", fn := fun _ => fun
  | [d] => { results := [.lit (.bool true)], args := [d] }
  | _ => none }
def fnExactFrameOkRow : OpenClaim := { program := "ytjndcfamfminkap", sum := "92bf44fe3c001185f65070231616e362845b910bc3925439e0681776f6c51f8c", func := "loop.example/g00491/laws.FnExactFrameOk", spec := "fnExactFrameOk", unfollowed := true, recurses := true, apart := false }
def FnExactFrameOkSaid : Prop := fnExactFrameOkRow.holds Try.pinned (OpenSpec.ofChange fnExactFrameOkSpec)

/-- ITS FALSE NEIGHBOUR: 'it returns false'. Refute it at one input. -/
def fnExactFrameOkWrong : ChangeSpec := { name := "fnExactFrameOk", fn := fun _ => fun
  | [d] => { results := [.lit (.bool false)], args := [d] }
  | _ => none }
def FnExactFrameOkWrongFalsely : Prop := fnExactFrameOkRow.holds Try.pinned (OpenSpec.ofChange fnExactFrameOkWrong)

/- THE SECOND FORM. 'bulk': how many values and letters a reading holds, each counted each time it is reached (what is shared counts as often as it is met; a slice's spare places count too). A statement '..UptoSaid' is the law's where the arguments, and the package variables that the reading takes, are together of bulk at most 1048576: NARROWER than '..Said'. Prove '..Said' where nothing that the law and all that it calls make is longer than what came in: it says more and counts as full. Else prove '..UptoSaid'. A law counts once. -/
mutual
def uptoBulk {H : Type} : DataW H → Nat
  | .lit (.string bytes) => bytes.length + 1
  | .lit _ => 1
  | .nil => 1
  | .ptr d => uptoBulk d + 1
  | .slice elems spare => uptoBulkAll elems + uptoBulkAll spare + 1
  | .agg parts => uptoBulkAll parts + 1
  | .iface _ d => uptoBulk d + 1
  | .map entries => uptoBulkEntries entries + 1
  | .held _ => 1
def uptoBulkAll {H : Type} : List (DataW H) → Nat
  | [] => 0
  | d :: r => uptoBulk d + uptoBulkAll r
def uptoBulkEntries {H : Type} : List (Lit × DataW H) → Nat
  | [] => 0
  | x :: r => uptoBulkEntry x + uptoBulkEntries r
def uptoBulkEntry {H : Type} : Lit × DataW H → Nat
  | (.string bytes, d) => bytes.length + uptoBulk d + 1
  | (_, d) => uptoBulk d + 1
 end
def uptoSmall : (H : Type) → List (DataW H) → Bool := fun _ ds => decide (uptoBulkAll ds ≤ 1048576)
def OpenSpec.upto (s : _root_.Go.ChangeSpec) : _root_.Go.OpenSpec := { _root_.Go.OpenSpec.ofChange s with cond := some uptoSmall }

/-- 'laws.FnExactEntryOk', WHERE WHAT IT READS IS OF BULK AT MOST 1048576: true; the input reads as it did. -/
def fnExactEntryOkUptoRow : OpenClaim := { program := "ytjndcfamfminkap", sum := "92bf44fe3c001185f65070231616e362845b910bc3925439e0681776f6c51f8c", func := "loop.example/g00491/laws.FnExactEntryOk", spec := "fnExactEntryOk", apart := false, narrowed := true }
def FnExactEntryOkUptoSaid : Prop := fnExactEntryOkUptoRow.holds Try.pinned (OpenSpec.upto fnExactEntryOkSpec)

/-- 'laws.FnExactEntryOf', WHERE WHAT IT READS IS OF BULK AT MOST 1048576: true; the input reads as it did. -/
def fnExactEntryOfUptoRow : OpenClaim := { program := "ytjndcfamfminkap", sum := "92bf44fe3c001185f65070231616e362845b910bc3925439e0681776f6c51f8c", func := "loop.example/g00491/laws.FnExactEntryOf", spec := "fnExactEntryOf", apart := false, narrowed := true }
def FnExactEntryOfUptoSaid : Prop := fnExactEntryOfUptoRow.holds Try.pinned (OpenSpec.upto fnExactEntryOfSpec)

/-- 'laws.FnExactEntryAdd', WHERE WHAT IT READS IS OF BULK AT MOST 1048576: true; the input reads as it did. -/
def fnExactEntryAddUptoRow : OpenClaim := { program := "ytjndcfamfminkap", sum := "92bf44fe3c001185f65070231616e362845b910bc3925439e0681776f6c51f8c", func := "loop.example/g00491/laws.FnExactEntryAdd", spec := "fnExactEntryAdd", apart := false, narrowed := true }
def FnExactEntryAddUptoSaid : Prop := fnExactEntryAddUptoRow.holds Try.pinned (OpenSpec.upto fnExactEntryAddSpec)

/-- 'laws.FnExactEntrySize', WHERE WHAT IT READS IS OF BULK AT MOST 1048576: true; the input reads as it did. -/
def fnExactEntrySizeUptoRow : OpenClaim := { program := "ytjndcfamfminkap", sum := "92bf44fe3c001185f65070231616e362845b910bc3925439e0681776f6c51f8c", func := "loop.example/g00491/laws.FnExactEntrySize", spec := "fnExactEntrySize", apart := false, narrowed := true }
def FnExactEntrySizeUptoSaid : Prop := fnExactEntrySizeUptoRow.holds Try.pinned (OpenSpec.upto fnExactEntrySizeSpec)

/-- 'laws.FnExactEntrySame', WHERE WHAT IT READS IS OF BULK AT MOST 1048576: true; the input reads as it did. -/
def fnExactEntrySameUptoRow : OpenClaim := { program := "ytjndcfamfminkap", sum := "92bf44fe3c001185f65070231616e362845b910bc3925439e0681776f6c51f8c", func := "loop.example/g00491/laws.FnExactEntrySame", spec := "fnExactEntrySame", unfollowed := true, recurses := true, apart := false, narrowed := true }
def FnExactEntrySameUptoSaid : Prop := fnExactEntrySameUptoRow.holds Try.pinned (OpenSpec.upto fnExactEntrySameSpec)

/-- 'laws.FnExactFrameOk', WHERE WHAT IT READS IS OF BULK AT MOST 1048576: true; the input reads as it did. -/
def fnExactFrameOkUptoRow : OpenClaim := { program := "ytjndcfamfminkap", sum := "92bf44fe3c001185f65070231616e362845b910bc3925439e0681776f6c51f8c", func := "loop.example/g00491/laws.FnExactFrameOk", spec := "fnExactFrameOk", unfollowed := true, recurses := true, apart := false, narrowed := true }
def FnExactFrameOkUptoSaid : Prop := fnExactFrameOkUptoRow.holds Try.pinned (OpenSpec.upto fnExactFrameOkSpec)

end Rows
end Go.Proofs.Ytjndcfamfminkap
