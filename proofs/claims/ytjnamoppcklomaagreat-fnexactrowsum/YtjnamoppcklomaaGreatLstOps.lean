/- Operations on a slice of structs: a whole element is loaded. No statement of the seat is proved here. -/
import Derived.Test.YtjnamoppcklomaaGreatLst
import Derived.Test.YtjnamoppcklomaaGreatPart
import Derived.Test.YtjnamoppcklomaaGreatArrEq
namespace Go.Proofs.YtjnamoppcklomaaGreat
open Go.RowKit
section
variable {P : Program} {ops : Array Oper} {Q : Exit → Act → World → Prop} {rest : List Oper} {a : Act} {w : World} {x y : Operand} {o : Oper} {S : World → Prop}
theorem run_loadVar_at (w : World) (g off n : Nat) (ty : TypeId) (cs : Array Value) (d : TypeDesc) (hc : ∀ j, j < n → w.cell? ⟨g, off + j, none⟩ = cs[j]?) (hn : cs.size = n) (hu : P.underlying ty = some d) (hd : (match d with | .struct _ | .array _ _ => true | _ => false) = true) (hi : (P.info? ty).map (·.size) = some n) :
    (loadVar ty ⟨g, off, none⟩).run P w = .ok (.agg cs) w := by
  have hlen : cs.toList.length = n := by rw [Array.length_toList, hn]
  have hl := run_loadCells_list (P := P) w ⟨g, off, none⟩ cs.toList (fun j v hv => by
      have hadd : (⟨g, off, none⟩ : Addr).add j = ⟨g, off + j, none⟩ := by unfold Addr.add; split <;> simp_all
      have hj : j < n := by rw [← hlen]; exact (List.getElem?_eq_some_iff.1 hv).1
      rw [hadd, hc j hj, ← hv, Array.getElem?_toList])
  rw [hlen] at hl
  cases hq : P.info? ty with
  | none => simp [hq] at hi
  | some i =>
    have hs : i.size = n := by simpa [hq] using hi
    have hagg : (isAgg ty).run P w = .ok true w := by
      unfold isAgg
      rw [Sem.run_bind, run_underlying hu w]
      cases d <;> simp_all
    simp only [loadVar, Sem.run_bind, hagg, sizeOf, typeInfo, Result.andThen_ok, if_true]
    simp [hq, hs, hl]
/-- A whole element out of memory, plain or guarded. -/
theorem load_at (ty : TypeId) (g off n : Nat) (cs : Array Value) (d : TypeDesc) (hc : ∀ j, j < n → w.cell? ⟨g, off + j, none⟩ = cs[j]?) (hn : cs.size = n) (hw : Region.wanted o (yielded ops a.tmps) = true) (ho : o.op = .load ty x) (hx : a.eval x = .pointer (some ⟨g, off, none⟩))
    (hu : P.underlying ty = some d) (hd : (match d with | .struct _ | .array _ _ => true | _ => false) = true) (hi : (P.info? ty).map (·.size) = some n)
    (h : wpList P ops Q rest (a.put o.dst (.agg cs)) w) : Stop (wpList P ops Q (o :: rest) a w) := by
  refine wpList_wanted hw fun K hK => ?_
  unfold Oper.wp execOp
  simp only [ho, hx, Instr.loadAt, Instr.sureAddr, Sem.run_bind, Sem.run_pure, Result.andThen_ok, run_loadVar_at w g off n ty cs d hc hn hu hd hi]
  exact hK _ _ h
/-- The same within a region that draws its order. -/
theorem yields_at (ty : TypeId) (g off n : Nat) (cs : Array Value) (d : TypeDesc) (hw : Region.wanted o (yielded ops a.tmps) = true) (ho : o.op = .load ty x) (hx : a.eval x = .pointer (some ⟨g, off, none⟩)) (hu : P.underlying ty = some d) (hd : (match d with | .struct _ | .array _ _ => true | _ => false) = true)
    (hi : (P.info? ty).map (·.size) = some n) (hn : cs.size = n) (hS : ∀ W, S W → ∀ j, j < n → W.cell? ⟨g, off + j, none⟩ = cs[j]?) : YieldsIf P ops S o (.agg cs) a :=
  .inl ⟨hw, fun W hW => by
    unfold execOp
    simp only [ho, hx, Instr.loadAt, Instr.sureAddr, Sem.run_bind, Sem.run_pure, Result.andThen_ok, run_loadVar_at W g off n ty cs d (hS W hW) hn hu hd hi]⟩
end
end Go.Proofs.YtjnamoppcklomaaGreat
