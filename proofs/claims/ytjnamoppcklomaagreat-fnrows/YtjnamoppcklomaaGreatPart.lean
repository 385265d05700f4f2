/- A part of a whole struct, out of memory and into it. No statement of the seat is proved here. -/
import Derived.Test.YtjnamoppcklomaaGreatWhole
import Derived.Laws.CopyRow
namespace Go.Proofs.YtjnamoppcklomaaGreat
open Go.RowKit
def cutOf (cs : Array Value) (off n : Nat) : Array Value := ((cs.toList.drop off).take n).toArray
def cutIn (cs : Array Value) (off : Nat) (ds : Array Value) : Array Value := (cs.toList.take off ++ ds.toList ++ cs.toList.drop (off + ds.size)).toArray
section
variable {P : Program} {ops : Array Oper} {Q : Exit → Act → World → Prop} {rest : List Oper} {a : Act} {w : World} {x y : Operand} {o : Oper}
theorem run_loadVar_cut (w : World) (g off n : Nat) (t ty : TypeId) (cs : Array Value) (d : TypeDesc) (hg : Blk w g cs t) (hu : P.underlying ty = some d) (hd : (match d with | .struct _ | .array _ _ => true | _ => false) = true) (hi : (P.info? ty).map (·.size) = some n) (hfit : off + n ≤ cs.size) :
 (loadVar ty ⟨g, off, none⟩).run P w = .ok (.agg (cutOf cs off n)) w := by
 have hlen : ((cs.toList.drop off).take n).length = n := by simp; omega
 have hl := run_loadCells_list (P := P) w ⟨g, off, none⟩ ((cs.toList.drop off).take n) (fun j v hv => by
     have hadd : (⟨g, off, none⟩ : Addr).add j = ⟨g, off + j, none⟩ := by unfold Addr.add; split <;> simp_all
     have hj : j < n := by rw [← hlen]; exact (List.getElem?_eq_some_iff.1 hv).1
     rw [hadd, hg.cell]
     rw [List.getElem?_take, if_pos hj, List.getElem?_drop] at hv
     simpa using hv)
 rw [hlen] at hl
 cases hq : P.info? ty with
 | none => simp [hq] at hi
 | some i =>
  have hs : i.size = n := by simpa [hq] using hi
  have hagg : (isAgg ty).run P w = .ok true w := by
   unfold isAgg
   rw [Sem.run_bind, run_underlying hu w]
   cases d <;> simp_all
  simp only [loadVar, Sem.run_bind, hagg, sizeOf, typeInfo, Result.andThen_ok, if_true]
  simp [cutOf, hq, hs, hl]
theorem load_cutw (ty : TypeId) (g off n : Nat) (cs ds : Array Value) (t : TypeId) (d : TypeDesc) (hg : Blk w g cs t) (hw : Region.wanted o (yielded ops a.tmps) = true) (ho : o.op = .load ty x) (hx : a.eval x = .pointer (some ⟨g, off, none⟩))
 (hu : P.underlying ty = some d) (hd : (match d with | .struct _ | .array _ _ => true | _ => false) = true) (hi : (P.info? ty).map (·.size) = some n) (hfit : off + n ≤ cs.size) (hds : cutOf cs off n = ds)
 (h : wpList P ops Q rest (a.put o.dst (.agg ds)) w) : Stop (wpList P ops Q (o :: rest) a w) := by
 subst hds
 refine wpList_step fun K hK => ?_
 rw [if_pos hw]
 unfold Oper.wp execOp
 simp only [ho, hx, Instr.loadAt, Instr.sureAddr, Sem.run_bind, Sem.run_pure, Result.andThen_ok, run_loadVar_cut w g off n t ty cs d hg hu hd hi hfit]
 exact hK _ _ h
theorem run_storeVar_cut (w : World) (g off : Nat) (t ty : TypeId) (cs ds : Array Value) (hg : Blk w g cs t) (hi : (P.info? ty).map (·.size) = some ds.size) (hfit : off + ds.size ≤ cs.size) (h1 : ds.all (·.oneCell') = true) :
 (storeVar ty ⟨g, off, none⟩ (.agg ds)).run P w = .ok () (w.setRow g (cutIn cs off ds)) := by
 have := run_storeCells_at P g off t ds.toList 0 cs w hg (by simpa using hfit) (fun v hv => (Array.all_eq_true_iff_forall_mem.1 h1) v (by simpa using hv))
 cases hq : P.info? ty with
 | none => simp [hq] at hi
 | some i =>
  have hs : i.size = ds.size := by simpa [hq] using hi
  simp [storeVar, Value.cells, sizeOf, typeInfo, hq, hs, this, cutIn]
theorem store_cut (ty : TypeId) (g off : Nat) (cs ds es : Array Value) (t : TypeId) (hg : Blk w g cs t) (hgd : o.guard = none) (ho : o.op = .store ty x y) (hx : a.eval x = .pointer (some ⟨g, off, none⟩)) (hy : a.eval y = .agg ds)
 (hi : (P.info? ty).map (·.size) = some ds.size) (hfit : off + ds.size ≤ cs.size) (h1 : ds.all (·.oneCell') = true) (hes : cutIn cs off ds = es)
 (h : wpList P ops Q rest (a.put o.dst undef) (w.setRow g es)) : Stop (wpList P ops Q (o :: rest) a w) := by
 subst hes
 refine wpList_plain hgd fun K hK => ?_
 unfold Oper.wp execOp
 simp only [ho, hx, hy, Instr.storeAt, Instr.sureAddr, Sem.run_bind, Sem.run_pure, Result.andThen_ok, run_storeVar_cut w g off t ty cs ds hg hi hfit h1]
 exact hK _ _ h
variable {S : World → Prop}
theorem yields_cut (ty : TypeId) (g off n : Nat) (cs ds : Array Value) (t : TypeId) (d : TypeDesc) (hw : Region.wanted o (yielded ops a.tmps) = true) (ho : o.op = .load ty x) (hx : a.eval x = .pointer (some ⟨g, off, none⟩)) (hu : P.underlying ty = some d) (hd : (match d with | .struct _ | .array _ _ => true | _ => false) = true)
 (hi : (P.info? ty).map (·.size) = some n) (hfit : off + n ≤ cs.size) (hds : cutOf cs off n = ds) (hS : ∀ W, S W → Blk W g cs t) : YieldsIf P ops S o (.agg ds) a :=
 .inl ⟨hw, fun W hW => by
   subst hds
   unfold execOp
   simp only [ho, hx, Instr.loadAt, Instr.sureAddr, Sem.run_bind, Sem.run_pure, Result.andThen_ok, run_loadVar_cut W g off n t ty cs d (hS W hW) hu hd hi hfit]⟩
end
end Go.Proofs.YtjnamoppcklomaaGreat
