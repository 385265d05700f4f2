/-
  No cell of these rows narrows 'for every input' (looked for: loops, veiled, ifaces, maps, wideKeys, modest, calm, conditions, laid).
  DERIVED. THE GIVEN ROWS OF THIS SEAT. 6 by the template 'for every input the law returns true; each argument reads behind the call as it read before'; 0 by the template 'total and deterministic' (their statements: YtjndcfamfminkaqTotals.lean).
  GIVEN WITH THE SEED: the statements are not yours to turn. If you find one false, say at which input.
  Laid BY PROGRAM, IN A SANDBOX (cutbox-rows.mjs): the forced cells as the released guide's own fill.sh prints them over the translation df3cd7503ae012d3… (all of the seat's roots in one cut). By AI agents, Wed Nov 11 2026. No macro, syntax, notation, axiom, sorry.
-/
import Derived.Test.YtjndcfamfminkaqChecked
import GoSem.Claim
import GoSem.ClaimJoined
import GoSem.ClaimMapViews
import Derived.JoinedTies
import Derived.KernelRfl
namespace Go.Proofs.Ytjndcfamfminkaq
/- THE CELL 'sum', in the pinned program and in every row, IS THE sha256 OF THE DUMP (.gsa) THAT YtjndcfamfminkaqProg.lean LOADS. Nothing in Lean hashes anything: it is a label: what it is worth is what the hold of that sum in a sandbox is worth. -/
noncomputable def Try.pinned : Pinned := { name := "ytjndcfamfminkaq", sum := "df3cd7503ae012d306f7df08f5dc52308c9a96424e3ca89707eb5a94980ef683", checked := Try.checked }
namespace Rows
def none {H : Type} : Left H := { results := [], args := [] }

/-- 'laws.FnExactSketchBytes': WHATEVER THE INPUT: true; the input reads as it did. -/
def fnExactSketchBytesSpec : ChangeSpec := { name := "fnExactSketchBytes", fn := fun _ => fun
  | [d] => { results := [.lit (.bool true)], args := [d] }
  | _ => none }
def fnExactSketchBytesRow : OpenClaim := { program := "ytjndcfamfminkaq", sum := "df3cd7503ae012d306f7df08f5dc52308c9a96424e3ca89707eb5a94980ef683", func := "loop.example/g00491/laws.FnExactSketchBytes", spec := "fnExactSketchBytes", apart := false }
def FnExactSketchBytesSaid : Prop := fnExactSketchBytesRow.holds Try.pinned (OpenSpec.ofChange fnExactSketchBytesSpec)

/-- ITS FALSE NEIGHBOUR: 'it returns false'. Refute it at one input. -/
def fnExactSketchBytesWrong : ChangeSpec := { name := "fnExactSketchBytes", fn := fun _ => fun
  | [d] => { results := [.lit (.bool false)], args := [d] }
  | _ => none }
def FnExactSketchBytesWrongFalsely : Prop := fnExactSketchBytesRow.holds Try.pinned (OpenSpec.ofChange fnExactSketchBytesWrong)

/-- 'laws.FnExactSketchOf': WHATEVER THE INPUT: true; the input reads as it did. -/
def fnExactSketchOfSpec : ChangeSpec := { name := "fnExactSketchOf", fn := fun _ => fun
  | [d] => { results := [.lit (.bool true)], args := [d] }
  | _ => none }
def fnExactSketchOfRow : OpenClaim := { program := "ytjndcfamfminkaq", sum := "df3cd7503ae012d306f7df08f5dc52308c9a96424e3ca89707eb5a94980ef683", func := "loop.example/g00491/laws.FnExactSketchOf", spec := "fnExactSketchOf", unfollowed := true, recurses := true, apart := false }
def FnExactSketchOfSaid : Prop := fnExactSketchOfRow.holds Try.pinned (OpenSpec.ofChange fnExactSketchOfSpec)

/-- ITS FALSE NEIGHBOUR: 'it returns false'. Refute it at one input. -/
def fnExactSketchOfWrong : ChangeSpec := { name := "fnExactSketchOf", fn := fun _ => fun
  | [d] => { results := [.lit (.bool false)], args := [d] }
  | _ => none }
def FnExactSketchOfWrongFalsely : Prop := fnExactSketchOfRow.holds Try.pinned (OpenSpec.ofChange fnExactSketchOfWrong)

/-- 'laws.FnExactFrameBytes': WHATEVER THE INPUT: true; the input reads as it did. -/
def fnExactFrameBytesSpec : ChangeSpec := { name := "fnExactFrameBytes", fn := fun _ => fun
  | [d] => { results := [.lit (.bool true)], args := [d] }
  | _ => none }
def fnExactFrameBytesRow : OpenClaim := { program := "ytjndcfamfminkaq", sum := "df3cd7503ae012d306f7df08f5dc52308c9a96424e3ca89707eb5a94980ef683", func := "loop.example/g00491/laws.FnExactFrameBytes", spec := "fnExactFrameBytes", unfollowed := true, recurses := true, apart := false }
def FnExactFrameBytesSaid : Prop := fnExactFrameBytesRow.holds Try.pinned (OpenSpec.ofChange fnExactFrameBytesSpec)

/-- ITS FALSE NEIGHBOUR: 'it returns false'. Refute it at one input. -/
def fnExactFrameBytesWrong : ChangeSpec := { name := "fnExactFrameBytes", fn := fun _ => fun
  | [d] => { results := [.lit (.bool false)], args := [d] }
  | _ => none }
def FnExactFrameBytesWrongFalsely : Prop := fnExactFrameBytesRow.holds Try.pinned (OpenSpec.ofChange fnExactFrameBytesWrong)

/-- 'laws.FnExactFrameOf': WHATEVER THE INPUT: true; the input reads as it did. -/
def fnExactFrameOfSpec : ChangeSpec := { name := "fnExactFrameOf", fn := fun _ => fun
  | [d] => { results := [.lit (.bool true)], args := [d] }
  | _ => none }
def fnExactFrameOfRow : OpenClaim := { program := "ytjndcfamfminkaq", sum := "df3cd7503ae012d306f7df08f5dc52308c9a96424e3ca89707eb5a94980ef683", func := "loop.example/g00491/laws.FnExactFrameOf", spec := "fnExactFrameOf", unfollowed := true, recurses := true, apart := false }
def FnExactFrameOfSaid : Prop := fnExactFrameOfRow.holds Try.pinned (OpenSpec.ofChange fnExactFrameOfSpec)

/-- ITS FALSE NEIGHBOUR: 'it returns false'. Refute it at one input. -/
def fnExactFrameOfWrong : ChangeSpec := { name := "fnExactFrameOf", fn := fun _ => fun
  | [d] => { results := [.lit (.bool false)], args := [d] }
  | _ => none }
def FnExactFrameOfWrongFalsely : Prop := fnExactFrameOfRow.holds Try.pinned (OpenSpec.ofChange fnExactFrameOfWrong)

/-- 'laws.FnExactFrameSame': WHATEVER THE INPUT: true; the input reads as it did. -/
def fnExactFrameSameSpec : ChangeSpec := { name := "fnExactFrameSame", fn := fun _ => fun
  | [d1, d2] => { results := [.lit (.bool true)], args := [d1, d2] }
  | _ => none }
def fnExactFrameSameRow : OpenClaim := { program := "ytjndcfamfminkaq", sum := "df3cd7503ae012d306f7df08f5dc52308c9a96424e3ca89707eb5a94980ef683", func := "loop.example/g00491/laws.FnExactFrameSame", spec := "fnExactFrameSame", unfollowed := true, recurses := true, apart := false }
def FnExactFrameSameSaid : Prop := fnExactFrameSameRow.holds Try.pinned (OpenSpec.ofChange fnExactFrameSameSpec)

/-- ITS FALSE NEIGHBOUR: 'it returns false'. Refute it at one input. -/
def fnExactFrameSameWrong : ChangeSpec := { name := "fnExactFrameSame", fn := fun _ => fun
  | [d1, d2] => { results := [.lit (.bool false)], args := [d1, d2] }
  | _ => none }
def FnExactFrameSameWrongFalsely : Prop := fnExactFrameSameRow.holds Try.pinned (OpenSpec.ofChange fnExactFrameSameWrong)

/-- 'laws.FnExactAgentOk': WHATEVER THE INPUT: true; the input reads as it did. -/
def fnExactAgentOkSpec : ChangeSpec := { name := "fnExactAgentOk", fn := fun _ => fun
  | [d] => { results := [.lit (.bool true)], args := [d] }
  | _ => none }
def fnExactAgentOkRow : OpenClaim := { program := "ytjndcfamfminkaq", sum := "df3cd7503ae012d306f7df08f5dc52308c9a96424e3ca89707eb5a94980ef683", func := "loop.example/g00491/laws.FnExactAgentOk", spec := "fnExactAgentOk", apart := false }
def FnExactAgentOkSaid : Prop := fnExactAgentOkRow.holds Try.pinned (OpenSpec.ofChange fnExactAgentOkSpec)

/-- ITS FALSE NEIGHBOUR: 'it returns false'. Refute it at one input. -/
def fnExactAgentOkWrong : ChangeSpec := { name := "fnExactAgentOk", fn := fun _ => fun
  | [d] => { results := [.lit (.bool false)], args := [d] }
  | _ => none }
def FnExactAgentOkWrongFalsely : Prop := fnExactAgentOkRow.holds Try.pinned (OpenSpec.ofChange fnExactAgentOkWrong)

/- THE SECOND FORM. 'bulk': how many values and letters a reading holds, each counted each time it is reached (what is shared counts as often as it is met; a slice's spare places count too). A statement '..UptoSaid' is the law's where the arguments, and the package variables that the reading takes, are together of bulk at most 1048576: NARROWER than '..Said'. Prove '..Said' where nothing that the law and all that it calls make is longer than what came in: it says more and counts as full. Else prove '..UptoSaid'. A law counts once. -/
mutual
def uptoBulk {H : Type} : DataW H → Nat
  | .lit (.string bytes) => bytes.length + 1
  | .lit _ => 1
  | .nil => 1
  | .ptr d => uptoBulk d + 1
  | .slice elems spare => uptoBulkAll elems + uptoBulkAll spare + 1
  | .agg parts => uptoBulkAll parts + 1
  | .iface _ d => uptoBulk d + 1
  | .map entries => uptoBulkEntries entries + 1
  | .held _ => 1
def uptoBulkAll {H : Type} : List (DataW H) → Nat
  | [] => 0
  | d :: r => uptoBulk d + uptoBulkAll r
def uptoBulkEntries {H : Type} : List (Lit × DataW H) → Nat
  | [] => 0
  | x :: r => uptoBulkEntry x + uptoBulkEntries r
def uptoBulkEntry {H : Type} : Lit × DataW H → Nat
  | (.string bytes, d) => bytes.length + uptoBulk d + 1
  | (_, d) => uptoBulk d + 1
 end
def uptoSmall : (H : Type) → List (DataW H) → Bool := fun _ ds => decide (uptoBulkAll ds ≤ 1048576)
def OpenSpec.upto (s : _root_.Go.ChangeSpec) : _root_.Go.OpenSpec := { _root_.Go.OpenSpec.ofChange s with cond := some uptoSmall }

/-- 'laws.FnExactSketchBytes', WHERE WHAT IT READS IS OF BULK AT MOST 1048576: true; the input reads as it did. -/
def fnExactSketchBytesUptoRow : OpenClaim := { program := "ytjndcfamfminkaq", sum := "df3cd7503ae012d306f7df08f5dc52308c9a96424e3ca89707eb5a94980ef683", func := "loop.example/g00491/laws.FnExactSketchBytes", spec := "fnExactSketchBytes", apart := false, narrowed := true }
def FnExactSketchBytesUptoSaid : Prop := fnExactSketchBytesUptoRow.holds Try.pinned (OpenSpec.upto fnExactSketchBytesSpec)

/-- 'laws.FnExactSketchOf', WHERE WHAT IT READS IS OF BULK AT MOST 1048576: true; the input reads as it did. -/
def fnExactSketchOfUptoRow : OpenClaim := { program := "ytjndcfamfminkaq", sum := "df3cd7503ae012d306f7df08f5dc52308c9a96424e3ca89707eb5a94980ef683", func := "loop.example/g00491/laws.FnExactSketchOf", spec := "fnExactSketchOf", unfollowed := true, recurses := true, apart := false, narrowed := true }
def FnExactSketchOfUptoSaid : Prop := fnExactSketchOfUptoRow.holds Try.pinned (OpenSpec.upto fnExactSketchOfSpec)

/-- 'laws.FnExactFrameBytes', WHERE WHAT IT READS IS OF BULK AT MOST 1048576: true; the input reads as it did. -/
def fnExactFrameBytesUptoRow : OpenClaim := { program := "ytjndcfamfminkaq", sum := "df3cd7503ae012d306f7df08f5dc52308c9a96424e3ca89707eb5a94980ef683", func := "loop.example/g00491/laws.FnExactFrameBytes", spec := "fnExactFrameBytes", unfollowed := true, recurses := true, apart := false, narrowed := true }
def FnExactFrameBytesUptoSaid : Prop := fnExactFrameBytesUptoRow.holds Try.pinned (OpenSpec.upto fnExactFrameBytesSpec)

/-- 'laws.FnExactFrameOf', WHERE WHAT IT READS IS OF BULK AT MOST 1048576: true; the input reads as it did. -/
def fnExactFrameOfUptoRow : OpenClaim := { program := "ytjndcfamfminkaq", sum := "df3cd7503ae012d306f7df08f5dc52308c9a96424e3ca89707eb5a94980ef683", func := "loop.example/g00491/laws.FnExactFrameOf", spec := "fnExactFrameOf", unfollowed := true, recurses := true, apart := false, narrowed := true }
def FnExactFrameOfUptoSaid : Prop := fnExactFrameOfUptoRow.holds Try.pinned (OpenSpec.upto fnExactFrameOfSpec)

/-- 'laws.FnExactFrameSame', WHERE WHAT IT READS IS OF BULK AT MOST 1048576: true; the input reads as it did. -/
def fnExactFrameSameUptoRow : OpenClaim := { program := "ytjndcfamfminkaq", sum := "df3cd7503ae012d306f7df08f5dc52308c9a96424e3ca89707eb5a94980ef683", func := "loop.example/g00491/laws.FnExactFrameSame", spec := "fnExactFrameSame", unfollowed := true, recurses := true, apart := false, narrowed := true }
def FnExactFrameSameUptoSaid : Prop := fnExactFrameSameUptoRow.holds Try.pinned (OpenSpec.upto fnExactFrameSameSpec)

/-- 'laws.FnExactAgentOk', WHERE WHAT IT READS IS OF BULK AT MOST 1048576: true; the input reads as it did. -/
def fnExactAgentOkUptoRow : OpenClaim := { program := "ytjndcfamfminkaq", sum := "df3cd7503ae012d306f7df08f5dc52308c9a96424e3ca89707eb5a94980ef683", func := "loop.example/g00491/laws.FnExactAgentOk", spec := "fnExactAgentOk", apart := false, narrowed := true }
def FnExactAgentOkUptoSaid : Prop := fnExactAgentOkUptoRow.holds Try.pinned (OpenSpec.upto fnExactAgentOkSpec)

end Rows
end Go.Proofs.Ytjndcfamfminkaq
