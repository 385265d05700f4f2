/-
  No cell of these rows narrows 'for every input' (looked for: loops, veiled, ifaces, maps, wideKeys, modest, calm, conditions, laid).
  DERIVED. THE GIVEN ROWS OF THIS SEAT. 4 by the template 'for every input the law returns true; each argument reads behind the call as it read before'; 0 by the template 'total and deterministic' (their statements: YtgkbhhlkaifnoabTotals.lean).
  GIVEN WITH THE SEED: the statements are not yours to turn. If you find one false, say at which input.
  Laid BY PROGRAM, IN A SANDBOX (cutbox-rows.mjs): the forced cells as the released guide's own fill.sh prints them over the translation f647af0762dfc9a3… (all of the seat's roots in one cut). By AI agents, Wed Nov 11 2026. No macro, syntax, notation, axiom, sorry.
-/
import Derived.Test.YtgkbhhlkaifnoabChecked
import GoSem.Claim
import GoSem.ClaimJoined
import GoSem.ClaimMapViews
import Derived.JoinedTies
import Derived.KernelRfl
namespace Go.Proofs.Ytgkbhhlkaifnoab
/- THE CELL 'sum', in the pinned program and in every row, IS THE sha256 OF THE DUMP (.gsa) THAT YtgkbhhlkaifnoabProg.lean LOADS. Nothing in Lean hashes anything: it is a label: what it is worth is what the hold of that sum in a sandbox is worth. -/
noncomputable def Try.pinned : Pinned := { name := "ytgkbhhlkaifnoab", sum := "f647af0762dfc9a3bd04140f4827fb7c311e51246486f67c08acc2e83302e7cf", checked := Try.checked }
namespace Rows
def none {H : Type} : Left H := { results := [], args := [] }

/-- 'laws.FnExactSeatGrant': WHATEVER THE INPUT: true; the input reads as it did. -/
def fnExactSeatGrantSpec : ChangeSpec := { name := "fnExactSeatGrant", fn := fun _ => fun
  | [d1, d2] => { results := [.lit (.bool true)], args := [d1, d2] }
  | _ => none }
def fnExactSeatGrantRow : OpenClaim := { program := "ytgkbhhlkaifnoab", sum := "f647af0762dfc9a3bd04140f4827fb7c311e51246486f67c08acc2e83302e7cf", func := "loop.example/g00491/laws.FnExactSeatGrant", spec := "fnExactSeatGrant", apart := false }
def FnExactSeatGrantSaid : Prop := fnExactSeatGrantRow.holds Try.pinned (OpenSpec.ofChange fnExactSeatGrantSpec)

/-- ITS FALSE NEIGHBOUR: 'it returns false'. Refute it at one input. -/
def fnExactSeatGrantWrong : ChangeSpec := { name := "fnExactSeatGrant", fn := fun _ => fun
  | [d1, d2] => { results := [.lit (.bool false)], args := [d1, d2] }
  | _ => none }
def FnExactSeatGrantWrongFalsely : Prop := fnExactSeatGrantRow.holds Try.pinned (OpenSpec.ofChange fnExactSeatGrantWrong)

/-- 'laws.FnExactSeatMerge': WHATEVER THE INPUT: true; the input reads as it did. -/
def fnExactSeatMergeSpec : ChangeSpec := { name := "fnExactSeatMerge", fn := fun _ => fun
  | [d1, d2, d3] => { results := [.lit (.bool true)], args := [d1, d2, d3] }
  | _ => none }
def fnExactSeatMergeRow : OpenClaim := { program := "ytgkbhhlkaifnoab", sum := "f647af0762dfc9a3bd04140f4827fb7c311e51246486f67c08acc2e83302e7cf", func := "loop.example/g00491/laws.FnExactSeatMerge", spec := "fnExactSeatMerge", apart := false }
def FnExactSeatMergeSaid : Prop := fnExactSeatMergeRow.holds Try.pinned (OpenSpec.ofChange fnExactSeatMergeSpec)

/-- ITS FALSE NEIGHBOUR: 'it returns false'. Refute it at one input. -/
def fnExactSeatMergeWrong : ChangeSpec := { name := "fnExactSeatMerge", fn := fun _ => fun
  | [d1, d2, d3] => { results := [.lit (.bool false)], args := [d1, d2, d3] }
  | _ => none }
def FnExactSeatMergeWrongFalsely : Prop := fnExactSeatMergeRow.holds Try.pinned (OpenSpec.ofChange fnExactSeatMergeWrong)

/-- 'laws.FnExactSeatReclaim': WHATEVER THE INPUT: true; the input reads as it did. -/
def fnExactSeatReclaimSpec : ChangeSpec := { name := "fnExactSeatReclaim", fn := fun _ => fun
  | [d1, d2] => { results := [.lit (.bool true)], args := [d1, d2] }
  | _ => none }
def fnExactSeatReclaimRow : OpenClaim := { program := "ytgkbhhlkaifnoab", sum := "f647af0762dfc9a3bd04140f4827fb7c311e51246486f67c08acc2e83302e7cf", func := "loop.example/g00491/laws.FnExactSeatReclaim", spec := "fnExactSeatReclaim", apart := false }
def FnExactSeatReclaimSaid : Prop := fnExactSeatReclaimRow.holds Try.pinned (OpenSpec.ofChange fnExactSeatReclaimSpec)

/-- ITS FALSE NEIGHBOUR: 'it returns false'. Refute it at one input. -/
def fnExactSeatReclaimWrong : ChangeSpec := { name := "fnExactSeatReclaim", fn := fun _ => fun
  | [d1, d2] => { results := [.lit (.bool false)], args := [d1, d2] }
  | _ => none }
def FnExactSeatReclaimWrongFalsely : Prop := fnExactSeatReclaimRow.holds Try.pinned (OpenSpec.ofChange fnExactSeatReclaimWrong)

/-- 'laws.FnExactOwed': WHATEVER THE INPUT: true; the input reads as it did. -/
def fnExactOwedSpec : ChangeSpec := { name := "fnExactOwed", fn := fun _ => fun
  | [d] => { results := [.lit (.bool true)], args := [d] }
  | _ => none }
def fnExactOwedRow : OpenClaim := { program := "ytgkbhhlkaifnoab", sum := "f647af0762dfc9a3bd04140f4827fb7c311e51246486f67c08acc2e83302e7cf", func := "loop.example/g00491/laws.FnExactOwed", spec := "fnExactOwed", apart := false }
def FnExactOwedSaid : Prop := fnExactOwedRow.holds Try.pinned (OpenSpec.ofChange fnExactOwedSpec)

/-- ITS FALSE NEIGHBOUR: 'it returns false'. Refute it at one input. -/
def fnExactOwedWrong : ChangeSpec := { name := "fnExactOwed", fn := fun _ => fun
  | [d] => { results := [.lit (.bool false)], args := [d] }
  | _ => none }
def FnExactOwedWrongFalsely : Prop := fnExactOwedRow.holds Try.pinned (OpenSpec.ofChange fnExactOwedWrong)

/- THE SECOND FORM. 'bulk': how many values and letters a reading holds, each counted each time it is reached (what is shared counts as often as it is met; a slice's spare places count too). A statement '..UptoSaid' is the law's where the arguments, and the package variables that the reading takes, are together of bulk at most 1048576: NARROWER than '..Said'. Prove '..Said' where nothing that the law and all that it calls make is longer than what came in: it says more and counts as full. Else prove '..UptoSaid'. A law counts once. -/
mutual
def uptoBulk {H : Type} : DataW H → Nat
  | .lit (.string bytes) => bytes.length + 1
  | .lit _ => 1
  | .nil => 1
  | .ptr d => uptoBulk d + 1
  | .slice elems spare => uptoBulkAll elems + uptoBulkAll spare + 1
  | .agg parts => uptoBulkAll parts + 1
  | .iface _ d => uptoBulk d + 1
  | .map entries => uptoBulkEntries entries + 1
  | .held _ => 1
def uptoBulkAll {H : Type} : List (DataW H) → Nat
  | [] => 0
  | d :: r => uptoBulk d + uptoBulkAll r
def uptoBulkEntries {H : Type} : List (Lit × DataW H) → Nat
  | [] => 0
  | x :: r => uptoBulkEntry x + uptoBulkEntries r
def uptoBulkEntry {H : Type} : Lit × DataW H → Nat
  | (.string bytes, d) => bytes.length + uptoBulk d + 1
  | (_, d) => uptoBulk d + 1
 end
def uptoSmall : (H : Type) → List (DataW H) → Bool := fun _ ds => decide (uptoBulkAll ds ≤ 1048576)
def OpenSpec.upto (s : _root_.Go.ChangeSpec) : _root_.Go.OpenSpec := { _root_.Go.OpenSpec.ofChange s with cond := some uptoSmall }

/-- 'laws.FnExactSeatGrant', WHERE WHAT IT READS IS OF BULK AT MOST 1048576: true; the input reads as it did. -/
def fnExactSeatGrantUptoRow : OpenClaim := { program := "ytgkbhhlkaifnoab", sum := "f647af0762dfc9a3bd04140f4827fb7c311e51246486f67c08acc2e83302e7cf", func := "loop.example/g00491/laws.FnExactSeatGrant", spec := "fnExactSeatGrant", apart := false, narrowed := true }
def FnExactSeatGrantUptoSaid : Prop := fnExactSeatGrantUptoRow.holds Try.pinned (OpenSpec.upto fnExactSeatGrantSpec)

/-- 'laws.FnExactSeatMerge', WHERE WHAT IT READS IS OF BULK AT MOST 1048576: true; the input reads as it did. -/
def fnExactSeatMergeUptoRow : OpenClaim := { program := "ytgkbhhlkaifnoab", sum := "f647af0762dfc9a3bd04140f4827fb7c311e51246486f67c08acc2e83302e7cf", func := "loop.example/g00491/laws.FnExactSeatMerge", spec := "fnExactSeatMerge", apart := false, narrowed := true }
def FnExactSeatMergeUptoSaid : Prop := fnExactSeatMergeUptoRow.holds Try.pinned (OpenSpec.upto fnExactSeatMergeSpec)

/-- 'laws.FnExactSeatReclaim', WHERE WHAT IT READS IS OF BULK AT MOST 1048576: true; the input reads as it did. -/
def fnExactSeatReclaimUptoRow : OpenClaim := { program := "ytgkbhhlkaifnoab", sum := "f647af0762dfc9a3bd04140f4827fb7c311e51246486f67c08acc2e83302e7cf", func := "loop.example/g00491/laws.FnExactSeatReclaim", spec := "fnExactSeatReclaim", apart := false, narrowed := true }
def FnExactSeatReclaimUptoSaid : Prop := fnExactSeatReclaimUptoRow.holds Try.pinned (OpenSpec.upto fnExactSeatReclaimSpec)

/-- 'laws.FnExactOwed', WHERE WHAT IT READS IS OF BULK AT MOST 1048576: true; the input reads as it did. -/
def fnExactOwedUptoRow : OpenClaim := { program := "ytgkbhhlkaifnoab", sum := "f647af0762dfc9a3bd04140f4827fb7c311e51246486f67c08acc2e83302e7cf", func := "loop.example/g00491/laws.FnExactOwed", spec := "fnExactOwed", apart := false, narrowed := true }
def FnExactOwedUptoSaid : Prop := fnExactOwedUptoRow.holds Try.pinned (OpenSpec.upto fnExactOwedSpec)

end Rows
end Go.Proofs.Ytgkbhhlkaifnoab
