/-
  No cell of these rows narrows 'for every input' (looked for: loops, veiled, ifaces, maps, wideKeys, modest, calm, conditions, laid).
  DERIVED. THE GIVEN ROWS OF THIS SEAT. 4 by the template 'for every input the law returns true; each argument reads behind the call as it read before'; 0 by the template 'total and deterministic' (their statements: YtgkbhhlkaifnoaaTotals.lean).
  GIVEN WITH THE SEED: the statements are not yours to turn. If you find one false, say at which input.
  Laid BY PROGRAM, IN A SANDBOX (cutbox-rows.mjs): the forced cells as the released guide's own fill.sh prints them over the translation cb907f61e191f5ac… (all of the seat's roots in one cut). By AI agents, Wed Nov 11 2026. No macro, syntax, notation, axiom, sorry.
-/
import Derived.Test.YtgkbhhlkaifnoaaChecked
import GoSem.Claim
import GoSem.ClaimJoined
import GoSem.ClaimMapViews
import Derived.JoinedTies
import Derived.KernelRfl
namespace Go.Proofs.Ytgkbhhlkaifnoaa
/- THE CELL 'sum', in the pinned program and in every row, IS THE sha256 OF THE DUMP (.gsa) THAT YtgkbhhlkaifnoaaProg.lean LOADS. Nothing in Lean hashes anything: it is a label: what it is worth is what the hold of that sum in a sandbox is worth. -/
noncomputable def Try.pinned : Pinned := { name := "ytgkbhhlkaifnoaa", sum := "cb907f61e191f5ac4cf36ebd070fa91b7ffc8bfbcd1bda7d926032cebf281125", checked := Try.checked }
namespace Rows
def none {H : Type} : Left H := { results := [], args := [] }

/-- 'laws.FnSent': WHATEVER THE INPUT: true; the input reads as it did. -/
def fnSentSpec : ChangeSpec := { name := "fnSent", fn := fun _ => fun
  | [d] => { results := [.lit (.bool true)], args := [d] }
  | _ => none }
def fnSentRow : OpenClaim := { program := "ytgkbhhlkaifnoaa", sum := "cb907f61e191f5ac4cf36ebd070fa91b7ffc8bfbcd1bda7d926032cebf281125", func := "loop.example/g00491/laws.FnSent", spec := "fnSent", unfollowed := true, recurses := true, apart := false }
def FnSentSaid : Prop := fnSentRow.holds Try.pinned (OpenSpec.ofChange fnSentSpec)

/-- ITS FALSE NEIGHBOUR: 'it returns false'. Refute it at one input. -/
def fnSentWrong : ChangeSpec := { name := "fnSent", fn := fun _ => fun
  | [d] => { results := [.lit (.bool false)], args := [d] }
  | _ => none }
def FnSentWrongFalsely : Prop := fnSentRow.holds Try.pinned (OpenSpec.ofChange fnSentWrong)

/-- 'laws.FnSealed': WHATEVER THE INPUT: true; the input reads as it did. -/
def fnSealedSpec : ChangeSpec := { name := "fnSealed", fn := fun _ => fun
  | [d] => { results := [.lit (.bool true)], args := [d] }
  | _ => none }
def fnSealedRow : OpenClaim := { program := "ytgkbhhlkaifnoaa", sum := "cb907f61e191f5ac4cf36ebd070fa91b7ffc8bfbcd1bda7d926032cebf281125", func := "loop.example/g00491/laws.FnSealed", spec := "fnSealed", unfollowed := true, recurses := true, apart := false }
def FnSealedSaid : Prop := fnSealedRow.holds Try.pinned (OpenSpec.ofChange fnSealedSpec)

/-- ITS FALSE NEIGHBOUR: 'it returns false'. Refute it at one input. -/
def fnSealedWrong : ChangeSpec := { name := "fnSealed", fn := fun _ => fun
  | [d] => { results := [.lit (.bool false)], args := [d] }
  | _ => none }
def FnSealedWrongFalsely : Prop := fnSealedRow.holds Try.pinned (OpenSpec.ofChange fnSealedWrong)

/-- 'laws.FnSeatMerged': WHATEVER THE INPUT: true; the input reads as it did. -/
def fnSeatMergedSpec : ChangeSpec := { name := "fnSeatMerged", fn := fun _ => fun
  | [d] => { results := [.lit (.bool true)], args := [d] }
  | _ => none }
def fnSeatMergedRow : OpenClaim := { program := "ytgkbhhlkaifnoaa", sum := "cb907f61e191f5ac4cf36ebd070fa91b7ffc8bfbcd1bda7d926032cebf281125", func := "loop.example/g00491/laws.FnSeatMerged", spec := "fnSeatMerged", apart := false }
def FnSeatMergedSaid : Prop := fnSeatMergedRow.holds Try.pinned (OpenSpec.ofChange fnSeatMergedSpec)

/-- ITS FALSE NEIGHBOUR: 'it returns false'. Refute it at one input. -/
def fnSeatMergedWrong : ChangeSpec := { name := "fnSeatMerged", fn := fun _ => fun
  | [d] => { results := [.lit (.bool false)], args := [d] }
  | _ => none }
def FnSeatMergedWrongFalsely : Prop := fnSeatMergedRow.holds Try.pinned (OpenSpec.ofChange fnSeatMergedWrong)

/-- 'laws.FnExactSeatOk': WHATEVER THE INPUT: true; the input reads as it did. -/
def fnExactSeatOkSpec : ChangeSpec := { name := "fnExactSeatOk", fn := fun _ => fun
  | [d1, d2] => { results := [.lit (.bool true)], args := [d1, d2] }
  | _ => none }
def fnExactSeatOkRow : OpenClaim := { program := "ytgkbhhlkaifnoaa", sum := "cb907f61e191f5ac4cf36ebd070fa91b7ffc8bfbcd1bda7d926032cebf281125", func := "loop.example/g00491/laws.FnExactSeatOk", spec := "fnExactSeatOk", apart := false }
def FnExactSeatOkSaid : Prop := fnExactSeatOkRow.holds Try.pinned (OpenSpec.ofChange fnExactSeatOkSpec)

/-- ITS FALSE NEIGHBOUR: 'it returns false'. Refute it at one input. -/
def fnExactSeatOkWrong : ChangeSpec := { name := "fnExactSeatOk", fn := fun _ => fun
  | [d1, d2] => { results := [.lit (.bool false)], args := [d1, d2] }
  | _ => none }
def FnExactSeatOkWrongFalsely : Prop := fnExactSeatOkRow.holds Try.pinned (OpenSpec.ofChange fnExactSeatOkWrong)

/- THE SECOND FORM. 'bulk': how many values and letters a reading holds, each counted each time it is reached (what is shared counts as often as it is met; a slice's spare places count too). A statement '..UptoSaid' is the law's where the arguments, and the package variables that the reading takes, are together of bulk at most 1048576: NARROWER than '..Said'. Prove '..Said' where nothing that the law and all that it calls make is longer than what came in: it says more and counts as full. Else prove '..UptoSaid'. A law counts once. -/
mutual
def uptoBulk {H : Type} : DataW H → Nat
  | .lit (.string bytes) => bytes.length + 1
  | .lit _ => 1
  | .nil => 1
  | .ptr d => uptoBulk d + 1
  | .slice elems spare => uptoBulkAll elems + uptoBulkAll spare + 1
  | .agg parts => uptoBulkAll parts + 1
  | .iface _ d => uptoBulk d + 1
  | .map entries => uptoBulkEntries entries + 1
  | .held _ => 1
def uptoBulkAll {H : Type} : List (DataW H) → Nat
  | [] => 0
  | d :: r => uptoBulk d + uptoBulkAll r
def uptoBulkEntries {H : Type} : List (Lit × DataW H) → Nat
  | [] => 0
  | x :: r => uptoBulkEntry x + uptoBulkEntries r
def uptoBulkEntry {H : Type} : Lit × DataW H → Nat
  | (.string bytes, d) => bytes.length + uptoBulk d + 1
  | (_, d) => uptoBulk d + 1
 end
def uptoSmall : (H : Type) → List (DataW H) → Bool := fun _ ds => decide (uptoBulkAll ds ≤ 1048576)
def OpenSpec.upto (s : _root_.Go.ChangeSpec) : _root_.Go.OpenSpec := { _root_.Go.OpenSpec.ofChange s with cond := some uptoSmall }

/-- 'laws.FnSent', WHERE WHAT IT READS IS OF BULK AT MOST 1048576: true; the input reads as it did. -/
def fnSentUptoRow : OpenClaim := { program := "ytgkbhhlkaifnoaa", sum := "cb907f61e191f5ac4cf36ebd070fa91b7ffc8bfbcd1bda7d926032cebf281125", func := "loop.example/g00491/laws.FnSent", spec := "fnSent", unfollowed := true, recurses := true, apart := false, narrowed := true }
def FnSentUptoSaid : Prop := fnSentUptoRow.holds Try.pinned (OpenSpec.upto fnSentSpec)

/-- 'laws.FnSealed', WHERE WHAT IT READS IS OF BULK AT MOST 1048576: true; the input reads as it did. -/
def fnSealedUptoRow : OpenClaim := { program := "ytgkbhhlkaifnoaa", sum := "cb907f61e191f5ac4cf36ebd070fa91b7ffc8bfbcd1bda7d926032cebf281125", func := "loop.example/g00491/laws.FnSealed", spec := "fnSealed", unfollowed := true, recurses := true, apart := false, narrowed := true }
def FnSealedUptoSaid : Prop := fnSealedUptoRow.holds Try.pinned (OpenSpec.upto fnSealedSpec)

/-- 'laws.FnSeatMerged', WHERE WHAT IT READS IS OF BULK AT MOST 1048576: true; the input reads as it did. -/
def fnSeatMergedUptoRow : OpenClaim := { program := "ytgkbhhlkaifnoaa", sum := "cb907f61e191f5ac4cf36ebd070fa91b7ffc8bfbcd1bda7d926032cebf281125", func := "loop.example/g00491/laws.FnSeatMerged", spec := "fnSeatMerged", apart := false, narrowed := true }
def FnSeatMergedUptoSaid : Prop := fnSeatMergedUptoRow.holds Try.pinned (OpenSpec.upto fnSeatMergedSpec)

/-- 'laws.FnExactSeatOk', WHERE WHAT IT READS IS OF BULK AT MOST 1048576: true; the input reads as it did. -/
def fnExactSeatOkUptoRow : OpenClaim := { program := "ytgkbhhlkaifnoaa", sum := "cb907f61e191f5ac4cf36ebd070fa91b7ffc8bfbcd1bda7d926032cebf281125", func := "loop.example/g00491/laws.FnExactSeatOk", spec := "fnExactSeatOk", apart := false, narrowed := true }
def FnExactSeatOkUptoSaid : Prop := fnExactSeatOkUptoRow.holds Try.pinned (OpenSpec.upto fnExactSeatOkSpec)

end Rows
end Go.Proofs.Ytgkbhhlkaifnoaa
