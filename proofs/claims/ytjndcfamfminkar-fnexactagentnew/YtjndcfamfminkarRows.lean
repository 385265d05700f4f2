/-
  No cell of these rows narrows 'for every input' (looked for: loops, veiled, ifaces, maps, wideKeys, modest, calm, conditions, laid).
  DERIVED. THE GIVEN ROWS OF THIS SEAT. 5 by the template 'for every input the law returns true; each argument reads behind the call as it read before'; 0 by the template 'total and deterministic' (their statements: YtjndcfamfminkarTotals.lean).
  GIVEN WITH THE SEED: the statements are not yours to turn. If you find one false, say at which input.
  Laid BY PROGRAM, IN A SANDBOX (cutbox-rows.mjs): the forced cells as the released guide's own fill.sh prints them over the translation 5a472e2d138d9bde… (all of the seat's roots in one cut). By AI agents, Wed Nov 11 2026. No macro, syntax, notation, axiom, sorry.
-/
import Derived.Test.YtjndcfamfminkarChecked
import GoSem.Claim
import GoSem.ClaimJoined
import GoSem.ClaimMapViews
import Derived.JoinedTies
import Derived.KernelRfl
namespace Go.Proofs.Ytjndcfamfminkar
/- THE CELL 'sum', in the pinned program and in every row, IS THE sha256 OF THE DUMP (.gsa) THAT YtjndcfamfminkarProg.lean LOADS. Nothing in Lean hashes anything: it is a label: what it is worth is what the hold of that sum in a sandbox is worth. -/
noncomputable def Try.pinned : Pinned := { name := "ytjndcfamfminkar", sum := "5a472e2d138d9bde3353733f31fc1de2d5278233ca5bf2369f30b7f2e866c99c", checked := Try.checked }
namespace Rows
def none {H : Type} : Left H := { results := [], args := [] }

/-- 'laws.FnExactAgentNew': WHATEVER THE INPUT: true; the input reads as it did. -/
def fnExactAgentNewSpec : ChangeSpec := { name := "fnExactAgentNew", fn := fun _ => fun
  | [d] => { results := [.lit (.bool true)], args := [d] }
  | _ => none }
def fnExactAgentNewRow : OpenClaim := { program := "ytjndcfamfminkar", sum := "5a472e2d138d9bde3353733f31fc1de2d5278233ca5bf2369f30b7f2e866c99c", func := "loop.example/g00491/laws.FnExactAgentNew", spec := "fnExactAgentNew", apart := false }
def FnExactAgentNewSaid : Prop := fnExactAgentNewRow.holds Try.pinned (OpenSpec.ofChange fnExactAgentNewSpec)

/-- ITS FALSE NEIGHBOUR: 'it returns false'. Refute it at one input. -/
def fnExactAgentNewWrong : ChangeSpec := { name := "fnExactAgentNew", fn := fun _ => fun
  | [d] => { results := [.lit (.bool false)], args := [d] }
  | _ => none }
def FnExactAgentNewWrongFalsely : Prop := fnExactAgentNewRow.holds Try.pinned (OpenSpec.ofChange fnExactAgentNewWrong)

/-- 'laws.FnExactSeal': WHATEVER THE INPUT: true; the input reads as it did. -/
def fnExactSealSpec : ChangeSpec := { name := "fnExactSeal", fn := fun _ => fun
  | [d1, d2, d3, d4, d5] => { results := [.lit (.bool true)], args := [d1, d2, d3, d4, d5] }
  | _ => none }
def fnExactSealRow : OpenClaim := { program := "ytjndcfamfminkar", sum := "5a472e2d138d9bde3353733f31fc1de2d5278233ca5bf2369f30b7f2e866c99c", func := "loop.example/g00491/laws.FnExactSeal", spec := "fnExactSeal", apart := false }
def FnExactSealSaid : Prop := fnExactSealRow.holds Try.pinned (OpenSpec.ofChange fnExactSealSpec)

/-- ITS FALSE NEIGHBOUR: 'it returns false'. Refute it at one input. -/
def fnExactSealWrong : ChangeSpec := { name := "fnExactSeal", fn := fun _ => fun
  | [d1, d2, d3, d4, d5] => { results := [.lit (.bool false)], args := [d1, d2, d3, d4, d5] }
  | _ => none }
def FnExactSealWrongFalsely : Prop := fnExactSealRow.holds Try.pinned (OpenSpec.ofChange fnExactSealWrong)

/-- 'laws.FnExactWaiting': WHATEVER THE INPUT: true; the input reads as it did. -/
def fnExactWaitingSpec : ChangeSpec := { name := "fnExactWaiting", fn := fun _ => fun
  | [d] => { results := [.lit (.bool true)], args := [d] }
  | _ => none }
def fnExactWaitingRow : OpenClaim := { program := "ytjndcfamfminkar", sum := "5a472e2d138d9bde3353733f31fc1de2d5278233ca5bf2369f30b7f2e866c99c", func := "loop.example/g00491/laws.FnExactWaiting", spec := "fnExactWaiting", apart := false }
def FnExactWaitingSaid : Prop := fnExactWaitingRow.holds Try.pinned (OpenSpec.ofChange fnExactWaitingSpec)

/-- ITS FALSE NEIGHBOUR: 'it returns false'. Refute it at one input. -/
def fnExactWaitingWrong : ChangeSpec := { name := "fnExactWaiting", fn := fun _ => fun
  | [d] => { results := [.lit (.bool false)], args := [d] }
  | _ => none }
def FnExactWaitingWrongFalsely : Prop := fnExactWaitingRow.holds Try.pinned (OpenSpec.ofChange fnExactWaitingWrong)

/-- 'laws.FnExactAgentSend': WHATEVER THE INPUT: true; the input reads as it did. -/
def fnExactAgentSendSpec : ChangeSpec := { name := "fnExactAgentSend", fn := fun _ => fun
  | [d] => { results := [.lit (.bool true)], args := [d] }
  | _ => none }
def fnExactAgentSendRow : OpenClaim := { program := "ytjndcfamfminkar", sum := "5a472e2d138d9bde3353733f31fc1de2d5278233ca5bf2369f30b7f2e866c99c", func := "loop.example/g00491/laws.FnExactAgentSend", spec := "fnExactAgentSend", apart := false }
def FnExactAgentSendSaid : Prop := fnExactAgentSendRow.holds Try.pinned (OpenSpec.ofChange fnExactAgentSendSpec)

/-- ITS FALSE NEIGHBOUR: 'it returns false'. Refute it at one input. -/
def fnExactAgentSendWrong : ChangeSpec := { name := "fnExactAgentSend", fn := fun _ => fun
  | [d] => { results := [.lit (.bool false)], args := [d] }
  | _ => none }
def FnExactAgentSendWrongFalsely : Prop := fnExactAgentSendRow.holds Try.pinned (OpenSpec.ofChange fnExactAgentSendWrong)

/-- 'laws.FnExactAgentHear': WHATEVER THE INPUT: true; the input reads as it did. -/
def fnExactAgentHearSpec : ChangeSpec := { name := "fnExactAgentHear", fn := fun _ => fun
  | [d1, d2] => { results := [.lit (.bool true)], args := [d1, d2] }
  | _ => none }
def fnExactAgentHearRow : OpenClaim := { program := "ytjndcfamfminkar", sum := "5a472e2d138d9bde3353733f31fc1de2d5278233ca5bf2369f30b7f2e866c99c", func := "loop.example/g00491/laws.FnExactAgentHear", spec := "fnExactAgentHear", unfollowed := true, recurses := true, apart := false }
def FnExactAgentHearSaid : Prop := fnExactAgentHearRow.holds Try.pinned (OpenSpec.ofChange fnExactAgentHearSpec)

/-- ITS FALSE NEIGHBOUR: 'it returns false'. Refute it at one input. -/
def fnExactAgentHearWrong : ChangeSpec := { name := "fnExactAgentHear", fn := fun _ => fun
  | [d1, d2] => { results := [.lit (.bool false)], args := [d1, d2] }
  | _ => none }
def FnExactAgentHearWrongFalsely : Prop := fnExactAgentHearRow.holds Try.pinned (OpenSpec.ofChange fnExactAgentHearWrong)

/- THE SECOND FORM. 'bulk': how many values and letters a reading holds, each counted each time it is reached (what is shared counts as often as it is met; a slice's spare places count too). A statement '..UptoSaid' is the law's where the arguments, and the package variables that the reading takes, are together of bulk at most 1048576: NARROWER than '..Said'. Prove '..Said' where nothing that the law and all that it calls make is longer than what came in: it says more and counts as full. Else prove '..UptoSaid'. A law counts once. -/
mutual
def uptoBulk {H : Type} : DataW H → Nat
  | .lit (.string bytes) => bytes.length + 1
  | .lit _ => 1
  | .nil => 1
  | .ptr d => uptoBulk d + 1
  | .slice elems spare => uptoBulkAll elems + uptoBulkAll spare + 1
  | .agg parts => uptoBulkAll parts + 1
  | .iface _ d => uptoBulk d + 1
  | .map entries => uptoBulkEntries entries + 1
  | .held _ => 1
def uptoBulkAll {H : Type} : List (DataW H) → Nat
  | [] => 0
  | d :: r => uptoBulk d + uptoBulkAll r
def uptoBulkEntries {H : Type} : List (Lit × DataW H) → Nat
  | [] => 0
  | x :: r => uptoBulkEntry x + uptoBulkEntries r
def uptoBulkEntry {H : Type} : Lit × DataW H → Nat
  | (.string bytes, d) => bytes.length + uptoBulk d + 1
  | (_, d) => uptoBulk d + 1
 end
def uptoSmall : (H : Type) → List (DataW H) → Bool := fun _ ds => decide (uptoBulkAll ds ≤ 1048576)
def OpenSpec.upto (s : _root_.Go.ChangeSpec) : _root_.Go.OpenSpec := { _root_.Go.OpenSpec.ofChange s with cond := some uptoSmall }

/-- 'laws.FnExactAgentNew', WHERE WHAT IT READS IS OF BULK AT MOST 1048576: true; the input reads as it did. -/
def fnExactAgentNewUptoRow : OpenClaim := { program := "ytjndcfamfminkar", sum := "5a472e2d138d9bde3353733f31fc1de2d5278233ca5bf2369f30b7f2e866c99c", func := "loop.example/g00491/laws.FnExactAgentNew", spec := "fnExactAgentNew", apart := false, narrowed := true }
def FnExactAgentNewUptoSaid : Prop := fnExactAgentNewUptoRow.holds Try.pinned (OpenSpec.upto fnExactAgentNewSpec)

/-- 'laws.FnExactSeal', WHERE WHAT IT READS IS OF BULK AT MOST 1048576: true; the input reads as it did. -/
def fnExactSealUptoRow : OpenClaim := { program := "ytjndcfamfminkar", sum := "5a472e2d138d9bde3353733f31fc1de2d5278233ca5bf2369f30b7f2e866c99c", func := "loop.example/g00491/laws.FnExactSeal", spec := "fnExactSeal", apart := false, narrowed := true }
def FnExactSealUptoSaid : Prop := fnExactSealUptoRow.holds Try.pinned (OpenSpec.upto fnExactSealSpec)

/-- 'laws.FnExactWaiting', WHERE WHAT IT READS IS OF BULK AT MOST 1048576: true; the input reads as it did. -/
def fnExactWaitingUptoRow : OpenClaim := { program := "ytjndcfamfminkar", sum := "5a472e2d138d9bde3353733f31fc1de2d5278233ca5bf2369f30b7f2e866c99c", func := "loop.example/g00491/laws.FnExactWaiting", spec := "fnExactWaiting", apart := false, narrowed := true }
def FnExactWaitingUptoSaid : Prop := fnExactWaitingUptoRow.holds Try.pinned (OpenSpec.upto fnExactWaitingSpec)

/-- 'laws.FnExactAgentSend', WHERE WHAT IT READS IS OF BULK AT MOST 1048576: true; the input reads as it did. -/
def fnExactAgentSendUptoRow : OpenClaim := { program := "ytjndcfamfminkar", sum := "5a472e2d138d9bde3353733f31fc1de2d5278233ca5bf2369f30b7f2e866c99c", func := "loop.example/g00491/laws.FnExactAgentSend", spec := "fnExactAgentSend", apart := false, narrowed := true }
def FnExactAgentSendUptoSaid : Prop := fnExactAgentSendUptoRow.holds Try.pinned (OpenSpec.upto fnExactAgentSendSpec)

/-- 'laws.FnExactAgentHear', WHERE WHAT IT READS IS OF BULK AT MOST 1048576: true; the input reads as it did. -/
def fnExactAgentHearUptoRow : OpenClaim := { program := "ytjndcfamfminkar", sum := "5a472e2d138d9bde3353733f31fc1de2d5278233ca5bf2369f30b7f2e866c99c", func := "loop.example/g00491/laws.FnExactAgentHear", spec := "fnExactAgentHear", unfollowed := true, recurses := true, apart := false, narrowed := true }
def FnExactAgentHearUptoSaid : Prop := fnExactAgentHearUptoRow.holds Try.pinned (OpenSpec.upto fnExactAgentHearSpec)

end Rows
end Go.Proofs.Ytjndcfamfminkar
