/-
  No cell of these rows narrows 'for every input' (looked for: loops, veiled, ifaces, maps, wideKeys, modest, calm, conditions, laid).
  DERIVED. THE GIVEN ROWS OF THIS SEAT. 5 by the template 'for every input the law returns true; each argument reads behind the call as it read before'; 0 by the template 'total and deterministic' (their statements: YtbmbmnhamogghamTotals.lean).
  GIVEN WITH THE SEED: the statements are not yours to turn. If you find one false, say at which input.
  Laid BY PROGRAM, IN A SANDBOX (cutbox-rows.mjs): the forced cells as the released guide's own fill.sh prints them over the translation 7976268898cb0ac1… (all of the seat's roots in one cut). By AI agents, Wed Nov 11 2026. No macro, syntax, notation, axiom, sorry.
-/
import Derived.Test.YtbmbmnhamogghamChecked
import GoSem.Claim
import GoSem.ClaimJoined
import GoSem.ClaimMapViews
import Derived.JoinedTies
import Derived.KernelRfl
namespace Go.Proofs.Ytbmbmnhamoggham
/- THE CELL 'sum', in the pinned program and in every row, IS THE sha256 OF THE DUMP (.gsa) THAT YtbmbmnhamogghamProg.lean LOADS. Nothing in Lean hashes anything: it is a label: what it is worth is what the hold of that sum in a sandbox is worth. -/
noncomputable def Try.pinned : Pinned := { name := "ytbmbmnhamoggham", sum := "7976268898cb0ac12bef53cabbac163bcf54e7f0e45aaf2a774d2cca19a555a3", checked := Try.checked }
namespace Rows
def none {H : Type} : Left H := { results := [], args := [] }

/-- 'laws.FnExactInsert': WHATEVER THE INPUT: true; the input reads as it did. -/
def fnExactInsertSpec : ChangeSpec := { name := "fnExactInsert", fn := fun _ => fun
  | [d1, d2] => { results := [.lit (.bool true)], args := [d1, d2] }
  | _ => none }
def fnExactInsertRow : OpenClaim := { program := "ytbmbmnhamoggham", sum := "7976268898cb0ac12bef53cabbac163bcf54e7f0e45aaf2a774d2cca19a555a3", func := "loop.example/g00491/laws.FnExactInsert", spec := "fnExactInsert", apart := false }
def FnExactInsertSaid : Prop := fnExactInsertRow.holds Try.pinned (OpenSpec.ofChange fnExactInsertSpec)

/-- ITS FALSE NEIGHBOUR: 'it returns false'. Refute it at one input. -/
def fnExactInsertWrong : ChangeSpec := { name := "fnExactInsert", fn := fun _ => fun
  | [d1, d2] => { results := [.lit (.bool false)], args := [d1, d2] }
  | _ => none }
def FnExactInsertWrongFalsely : Prop := fnExactInsertRow.holds Try.pinned (OpenSpec.ofChange fnExactInsertWrong)

/-- 'laws.FnExactMerge': WHATEVER THE INPUT: true; the input reads as it did. -/
def fnExactMergeSpec : ChangeSpec := { name := "fnExactMerge", fn := fun _ => fun
  | [d1, d2] => { results := [.lit (.bool true)], args := [d1, d2] }
  | _ => none }
def fnExactMergeRow : OpenClaim := { program := "ytbmbmnhamoggham", sum := "7976268898cb0ac12bef53cabbac163bcf54e7f0e45aaf2a774d2cca19a555a3", func := "loop.example/g00491/laws.FnExactMerge", spec := "fnExactMerge", apart := false }
def FnExactMergeSaid : Prop := fnExactMergeRow.holds Try.pinned (OpenSpec.ofChange fnExactMergeSpec)

/-- ITS FALSE NEIGHBOUR: 'it returns false'. Refute it at one input. -/
def fnExactMergeWrong : ChangeSpec := { name := "fnExactMerge", fn := fun _ => fun
  | [d1, d2] => { results := [.lit (.bool false)], args := [d1, d2] }
  | _ => none }
def FnExactMergeWrongFalsely : Prop := fnExactMergeRow.holds Try.pinned (OpenSpec.ofChange fnExactMergeWrong)

/-- 'laws.FnExactSketchSame': WHATEVER THE INPUT: true; the input reads as it did. -/
def fnExactSketchSameSpec : ChangeSpec := { name := "fnExactSketchSame", fn := fun _ => fun
  | [d1, d2] => { results := [.lit (.bool true)], args := [d1, d2] }
  | _ => none }
def fnExactSketchSameRow : OpenClaim := { program := "ytbmbmnhamoggham", sum := "7976268898cb0ac12bef53cabbac163bcf54e7f0e45aaf2a774d2cca19a555a3", func := "loop.example/g00491/laws.FnExactSketchSame", spec := "fnExactSketchSame", unfollowed := true, recurses := true, apart := false }
def FnExactSketchSameSaid : Prop := fnExactSketchSameRow.holds Try.pinned (OpenSpec.ofChange fnExactSketchSameSpec)

/-- ITS FALSE NEIGHBOUR: 'it returns false'. Refute it at one input. -/
def fnExactSketchSameWrong : ChangeSpec := { name := "fnExactSketchSame", fn := fun _ => fun
  | [d1, d2] => { results := [.lit (.bool false)], args := [d1, d2] }
  | _ => none }
def FnExactSketchSameWrongFalsely : Prop := fnExactSketchSameRow.holds Try.pinned (OpenSpec.ofChange fnExactSketchSameWrong)

/-- 'laws.FnExactOften': WHATEVER THE INPUT: true; the input reads as it did. -/
def fnExactOftenSpec : ChangeSpec := { name := "fnExactOften", fn := fun _ => fun
  | [d1, d2] => { results := [.lit (.bool true)], args := [d1, d2] }
  | _ => none }
def fnExactOftenRow : OpenClaim := { program := "ytbmbmnhamoggham", sum := "7976268898cb0ac12bef53cabbac163bcf54e7f0e45aaf2a774d2cca19a555a3", func := "loop.example/g00491/laws.FnExactOften", spec := "fnExactOften", apart := false }
def FnExactOftenSaid : Prop := fnExactOftenRow.holds Try.pinned (OpenSpec.ofChange fnExactOftenSpec)

/-- ITS FALSE NEIGHBOUR: 'it returns false'. Refute it at one input. -/
def fnExactOftenWrong : ChangeSpec := { name := "fnExactOften", fn := fun _ => fun
  | [d1, d2] => { results := [.lit (.bool false)], args := [d1, d2] }
  | _ => none }
def FnExactOftenWrongFalsely : Prop := fnExactOftenRow.holds Try.pinned (OpenSpec.ofChange fnExactOftenWrong)

/-- 'laws.FnExactDifferent': WHATEVER THE INPUT: true; the input reads as it did. -/
def fnExactDifferentSpec : ChangeSpec := { name := "fnExactDifferent", fn := fun _ => fun
  | [d] => { results := [.lit (.bool true)], args := [d] }
  | _ => none }
def fnExactDifferentRow : OpenClaim := { program := "ytbmbmnhamoggham", sum := "7976268898cb0ac12bef53cabbac163bcf54e7f0e45aaf2a774d2cca19a555a3", func := "loop.example/g00491/laws.FnExactDifferent", spec := "fnExactDifferent", apart := false }
def FnExactDifferentSaid : Prop := fnExactDifferentRow.holds Try.pinned (OpenSpec.ofChange fnExactDifferentSpec)

/-- ITS FALSE NEIGHBOUR: 'it returns false'. Refute it at one input. -/
def fnExactDifferentWrong : ChangeSpec := { name := "fnExactDifferent", fn := fun _ => fun
  | [d] => { results := [.lit (.bool false)], args := [d] }
  | _ => none }
def FnExactDifferentWrongFalsely : Prop := fnExactDifferentRow.holds Try.pinned (OpenSpec.ofChange fnExactDifferentWrong)

/- THE SECOND FORM. 'bulk': how many values and letters a reading holds, each counted each time it is reached (what is shared counts as often as it is met; a slice's spare places count too). A statement '..UptoSaid' is the law's where the arguments, and the package variables that the reading takes, are together of bulk at most 1048576: NARROWER than '..Said'. Prove '..Said' where nothing that the law and all that it calls make is longer than what came in: it says more and counts as full. Else prove '..UptoSaid'. A law counts once. -/
mutual
def uptoBulk {H : Type} : DataW H → Nat
  | .lit (.string bytes) => bytes.length + 1
  | .lit _ => 1
  | .nil => 1
  | .ptr d => uptoBulk d + 1
  | .slice elems spare => uptoBulkAll elems + uptoBulkAll spare + 1
  | .agg parts => uptoBulkAll parts + 1
  | .iface _ d => uptoBulk d + 1
  | .map entries => uptoBulkEntries entries + 1
  | .held _ => 1
def uptoBulkAll {H : Type} : List (DataW H) → Nat
  | [] => 0
  | d :: r => uptoBulk d + uptoBulkAll r
def uptoBulkEntries {H : Type} : List (Lit × DataW H) → Nat
  | [] => 0
  | x :: r => uptoBulkEntry x + uptoBulkEntries r
def uptoBulkEntry {H : Type} : Lit × DataW H → Nat
  | (.string bytes, d) => bytes.length + uptoBulk d + 1
  | (_, d) => uptoBulk d + 1
 end
def uptoSmall : (H : Type) → List (DataW H) → Bool := fun _ ds => decide (uptoBulkAll ds ≤ 1048576)
def OpenSpec.upto (s : _root_.Go.ChangeSpec) : _root_.Go.OpenSpec := { _root_.Go.OpenSpec.ofChange s with cond := some uptoSmall }

/-- 'laws.FnExactInsert', WHERE WHAT IT READS IS OF BULK AT MOST 1048576: true; the input reads as it did. -/
def fnExactInsertUptoRow : OpenClaim := { program := "ytbmbmnhamoggham", sum := "7976268898cb0ac12bef53cabbac163bcf54e7f0e45aaf2a774d2cca19a555a3", func := "loop.example/g00491/laws.FnExactInsert", spec := "fnExactInsert", apart := false, narrowed := true }
def FnExactInsertUptoSaid : Prop := fnExactInsertUptoRow.holds Try.pinned (OpenSpec.upto fnExactInsertSpec)

/-- 'laws.FnExactMerge', WHERE WHAT IT READS IS OF BULK AT MOST 1048576: true; the input reads as it did. -/
def fnExactMergeUptoRow : OpenClaim := { program := "ytbmbmnhamoggham", sum := "7976268898cb0ac12bef53cabbac163bcf54e7f0e45aaf2a774d2cca19a555a3", func := "loop.example/g00491/laws.FnExactMerge", spec := "fnExactMerge", apart := false, narrowed := true }
def FnExactMergeUptoSaid : Prop := fnExactMergeUptoRow.holds Try.pinned (OpenSpec.upto fnExactMergeSpec)

/-- 'laws.FnExactSketchSame', WHERE WHAT IT READS IS OF BULK AT MOST 1048576: true; the input reads as it did. -/
def fnExactSketchSameUptoRow : OpenClaim := { program := "ytbmbmnhamoggham", sum := "7976268898cb0ac12bef53cabbac163bcf54e7f0e45aaf2a774d2cca19a555a3", func := "loop.example/g00491/laws.FnExactSketchSame", spec := "fnExactSketchSame", unfollowed := true, recurses := true, apart := false, narrowed := true }
def FnExactSketchSameUptoSaid : Prop := fnExactSketchSameUptoRow.holds Try.pinned (OpenSpec.upto fnExactSketchSameSpec)

/-- 'laws.FnExactOften', WHERE WHAT IT READS IS OF BULK AT MOST 1048576: true; the input reads as it did. -/
def fnExactOftenUptoRow : OpenClaim := { program := "ytbmbmnhamoggham", sum := "7976268898cb0ac12bef53cabbac163bcf54e7f0e45aaf2a774d2cca19a555a3", func := "loop.example/g00491/laws.FnExactOften", spec := "fnExactOften", apart := false, narrowed := true }
def FnExactOftenUptoSaid : Prop := fnExactOftenUptoRow.holds Try.pinned (OpenSpec.upto fnExactOftenSpec)

/-- 'laws.FnExactDifferent', WHERE WHAT IT READS IS OF BULK AT MOST 1048576: true; the input reads as it did. -/
def fnExactDifferentUptoRow : OpenClaim := { program := "ytbmbmnhamoggham", sum := "7976268898cb0ac12bef53cabbac163bcf54e7f0e45aaf2a774d2cca19a555a3", func := "loop.example/g00491/laws.FnExactDifferent", spec := "fnExactDifferent", apart := false, narrowed := true }
def FnExactDifferentUptoSaid : Prop := fnExactDifferentUptoRow.holds Try.pinned (OpenSpec.upto fnExactDifferentSpec)

end Rows
end Go.Proofs.Ytbmbmnhamoggham
