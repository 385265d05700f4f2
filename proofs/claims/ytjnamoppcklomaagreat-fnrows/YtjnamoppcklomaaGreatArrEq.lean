/- Arrays of numbers compared as wholes. No statement of the seat is proved here. -/
import Derived.Test.YtjnamoppcklomaaGreatSkMath
import Derived.Test.YtjnamoppcklomaaGreatWhole
import Derived.Laws.StructEq
namespace Go.Proofs.YtjnamoppcklomaaGreat
open Go.RowKit
def eqAt (d : Nat) (e : TypeId) (n : Nat) (xs ys : Array Value) : List Nat → Sem Bool
 | [] => pure true
 | i :: is => do
  let a ← part e xs (i * n)
  let b ← part e ys (i * n)
  let r ← Op.equalIn d e a b
  if (!r) = true then pure false else eqAt d e n xs ys is
theorem run_equalIn_array {P : Program} (w : World) (d : Nat) (t e : TypeId) (len n : Nat) (xs ys : Array Value) (ht : P.underlying t = some (.array len e)) (hn : ∀ w, (sizeOf e).run P w = .ok n w) :
 (Op.equalIn (d + 1) t (.agg xs) (.agg ys)).run P w = (eqAt d e n xs ys (List.range' 0 len 1)).run P w := by
 simp only [Op.equalIn, Sem.run_bind, run_underlying ht, Result.andThen_ok, hn]
 rw [Std.Legacy.Range.forIn_eq_forIn_range']
 simp only [Std.Legacy.Range.size, Nat.sub_zero, Nat.add_sub_cancel, Nat.div_one]
 generalize List.range' 0 len 1 = is
 induction is generalizing w with
 | nil => simp [eqAt]
 | cons i is ih =>
  simp only [List.forIn_cons, eqAt, Sem.run_bind]
  generalize (part e xs (i * n)).run P w = r1
  cases r1 with
  | ok a w1 =>
   simp only [Result.andThen_ok]
   generalize (part e ys (i * n)).run P w1 = r2
   cases r2 with
   | ok b w2 =>
    simp only [Result.andThen_ok]
    generalize (Op.equalIn d e a b).run P w2 = r3
    cases r3 with
    | ok r w3 =>
     cases r
     ·
      simp only [Result.andThen_ok, Bool.not_false, if_true, Sem.run_pure]
     ·
      simp only [Result.andThen_ok, Bool.not_true, Bool.false_eq_true, if_false, Sem.run_pure]
      exact ih w3
    | halt x w3 => simp [Result.andThen]
   | halt x w2 => simp [Result.andThen]
  | halt x w1 => simp [Result.andThen]
theorem run_part_tc {P : Program} (w : World) (e : TypeId) (xs : List Int) (i : Nat) (hu : P.underlying e = some (.int .i64)) (hi : i < xs.length) : (part e (tc xs) i).run P w = .ok (.int .i64 (xs.getD i 0)) w := by
 have h1 : (tc xs)[i]? = some (.int .i64 (xs.getD i 0)) := by rw [tc_at, List.getElem?_eq_getElem hi]; simp [List.getElem?_eq_getElem hi]
 have hagg : (isAgg e).run P w = .ok false w := by unfold isAgg; rw [Sem.run_bind, run_underlying hu w]; simp
 unfold part
 simp [Sem.run_bind, hagg, h1]
theorem eqAt_ints {P : Program} (d : Nat) (e : TypeId) (xs ys : List Int) (hu : P.underlying e = some (.int .i64)) : ∀ (is : List Nat) (w : World), (∀ i ∈ is, i < xs.length ∧ i < ys.length) →
 (eqAt (d + 1) e 1 (tc xs) (tc ys) is).run P w = .ok (is.all fun i => decide (xs.getD i 0 = ys.getD i 0)) w
 | [], w, _ => by simp [eqAt]
 | i :: is, w, h => by
  have ⟨h1, h2⟩ := h i List.mem_cons_self
  have ih := eqAt_ints d e xs ys hu is w (fun j hj => h j (List.mem_cons_of_mem _ hj))
  rw [eqAt, Sem.run_bind, Nat.mul_one, run_part_tc w e xs i hu h1, Result.andThen_ok, Sem.run_bind, run_part_tc w e ys i hu h2, Result.andThen_ok, Sem.run_bind, run_equalIn_int w d e .i64 .i64 _ _ hu, Result.andThen_ok, List.all_cons]
  by_cases q : xs.getD i 0 = ys.getD i 0
  ·
   rw [q]
   simp only [beq_self_eq_true, Bool.not_true, Bool.false_eq_true, if_false, decide_true, Bool.true_and]
   exact ih
  ·
   have q2 : (xs.getD i 0 == ys.getD i 0) = false := by simpa using q
   rw [q2, dec_false q]
   simp
theorem all_range_eq (xs ys : List Int) (n : Nat) (hx : xs.length = n) (hy : ys.length = n) : ((List.range' 0 n 1).all fun i => decide (xs.getD i 0 = ys.getD i 0)) = decide (xs = ys) := by
 by_cases q : xs = ys
 ·
  subst q; simp
 ·
  rw [dec_false q]
  rw [List.all_eq_false]
  refine Classical.byContradiction fun hc => q ?_
  apply List.ext_getElem (by omega)
  intro i h1 h2
  refine Classical.byContradiction fun hne => hc ⟨i, by simp [List.mem_range'_1]; omega, ?_⟩
  simpa [List.getElem?_eq_getElem h1, List.getElem?_eq_getElem h2] using hne
theorem run_eq_ints {P : Program} (w : World) (d : Nat) (t e : TypeId) (n : Nat) (xs ys : List Int) (ht : P.underlying t = some (.array n e)) (hu : P.underlying e = some (.int .i64)) (hn : ∀ w, (sizeOf e).run P w = .ok 1 w) (hx : xs.length = n) (hy : ys.length = n) :
 (Op.equalIn (d + 2) t (.agg (tc xs)) (.agg (tc ys))).run P w = .ok (decide (xs = ys)) w := by
 rw [run_equalIn_array w (d + 1) t e n 1 _ _ ht hn, eqAt_ints d e xs ys hu _ w (fun i hi => by simp [List.mem_range'_1] at hi; omega), all_range_eq xs ys n hx hy]
theorem tc_extract (xs : List Int) (a b : Nat) : (tc xs).extract a (a + b) = tc ((xs.drop a).take b) := by
 apply Array.ext'
 simp [tc, List.extract_eq_take_drop, List.map_take, List.map_drop]
theorem run_eq_rows {P : Program} (w : World) (d : Nat) (t u e : TypeId) (xs ys : List Int) (ht : P.underlying t = some (.array 2 u)) (hu : P.underlying u = some (.array 4 e)) (he : P.underlying e = some (.int .i64)) (hn : ∀ w, (sizeOf e).run P w = .ok 1 w) (hn4 : ∀ w, (sizeOf u).run P w = .ok 4 w) (hx : xs.length = 8) (hy : ys.length = 8) :
 (Op.equalIn (d + 3) t (.agg (tc xs)) (.agg (tc ys))).run P w = .ok (decide (xs = ys)) w := by
 have hagg : (isAgg u).run P w = .ok true w := by unfold isAgg; rw [Sem.run_bind, run_underlying hu w]; simp
 have hp : ∀ (zs : List Int) i, (part u (tc zs) i).run P w = .ok (.agg (tc ((zs.drop i).take 4))) w := by
  intro zs i
  unfold part
  simp only [Sem.run_bind, hagg, Result.andThen_ok, if_true, hn4, Sem.run_pure]
  rw [tc_extract]
 have h4 : ∀ i, i + 4 ≤ 8 → (Op.equalIn (d + 2) u (.agg (tc ((xs.drop i).take 4))) (.agg (tc ((ys.drop i).take 4)))).run P w = .ok (decide ((xs.drop i).take 4 = (ys.drop i).take 4)) w := fun i hi =>
  run_eq_ints w d u e 4 _ _ hu he hn (by simp; omega) (by simp; omega)
 rw [run_equalIn_array w (d + 2) t u 2 4 _ _ ht hn4]
 show (eqAt (d + 2) u 4 (tc xs) (tc ys) [0, 1]).run P w = _
 rw [eqAt, Sem.run_bind, hp, Result.andThen_ok, Sem.run_bind, hp, Result.andThen_ok, Sem.run_bind, h4 (0 * 4) (by omega), Result.andThen_ok]
 have ex : xs = (xs.drop 0).take 4 ++ (xs.drop 4).take 4 := by
  rw [List.drop_zero, List.take_of_length_le (l := xs.drop 4) (by simp; omega), List.take_append_drop]
 have ey : ys = (ys.drop 0).take 4 ++ (ys.drop 4).take 4 := by
  rw [List.drop_zero, List.take_of_length_le (l := ys.drop 4) (by simp; omega), List.take_append_drop]
 by_cases q0 : (xs.drop (0 * 4)).take 4 = (ys.drop (0 * 4)).take 4
 ·
  rw [dec_true q0]
  simp only [Bool.not_true, Bool.false_eq_true, if_false]
  rw [eqAt, Sem.run_bind, hp, Result.andThen_ok, Sem.run_bind, hp, Result.andThen_ok, Sem.run_bind, h4 (1 * 4) (by omega), Result.andThen_ok]
  by_cases q1 : (xs.drop (1 * 4)).take 4 = (ys.drop (1 * 4)).take 4
  ·
   rw [dec_true q1, dec_true (p := xs = ys) (by rw [ex, ey]; rw [show xs.drop 0 = xs.drop (0 * 4) from rfl, q0, show xs.drop 4 = xs.drop (1 * 4) from rfl, q1])]
   simp [eqAt]
  ·
   rw [dec_false q1, dec_false (p := xs = ys) (fun e => q1 (by rw [e]))]
   simp
 ·
  rw [dec_false q0, dec_false (p := xs = ys) (fun e => q0 (by rw [e]))]
  simp
section
variable {P : Program} {ops : Array Oper} {Q : Exit → Act → World → Prop} {rest : List Oper} {a : Act} {w : World} {x y : Operand} {o : Oper}
theorem wpList_wanted (hw : Region.wanted o (yielded ops a.tmps) = true) (h : ∀ K : Act → World → Prop, (∀ a w, wpList P ops Q rest a w → K a w) → o.wp P a w K Q) : wpList P ops Q (o :: rest) a w :=
 wpList_step fun K hK => by rw [if_pos hw]; exact h K hK
theorem run_loadVar_part (w : World) (g off n : Nat) (t ty : TypeId) (xs : List Int) (d : TypeDesc) (hg : Blk w g (tc xs) t) (hu : P.underlying ty = some d) (hd : (match d with | .struct _ | .array _ _ => true | _ => false) = true) (hi : (P.info? ty).map (·.size) = some n) (hfit : off + n ≤ xs.length) :
 (loadVar ty ⟨g, off, none⟩).run P w = .ok (.agg (tc ((xs.drop off).take n))) w := by
 have hlen : (((xs.drop off).take n).map (Value.int .i64)).length = n := by simp; omega
 have hl := run_loadCells_list (P := P) w ⟨g, off, none⟩ (((xs.drop off).take n).map (Value.int .i64)) (fun j v hv => by
     have hadd : (⟨g, off, none⟩ : Addr).add j = ⟨g, off + j, none⟩ := by unfold Addr.add; split <;> simp_all
     have hj : j < n := by rw [← hlen]; exact (List.getElem?_eq_some_iff.1 hv).1
     rw [hadd, hg.cell, tc_at]
     rw [List.getElem?_map, List.getElem?_take, if_pos hj, List.getElem?_drop] at hv
     exact hv)
 rw [hlen] at hl
 cases hq : P.info? ty with
 | none => simp [hq] at hi
 | some i =>
  have hs : i.size = n := by simpa [hq] using hi
  have hagg : (isAgg ty).run P w = .ok true w := by
   unfold isAgg
   rw [Sem.run_bind, run_underlying hu w]
   cases d <;> simp_all
  simp only [loadVar, Sem.run_bind, hagg, sizeOf, typeInfo, Result.andThen_ok, if_true]
  simp [tc, hq, hs, hl]
theorem load_part (ty : TypeId) (g off n : Nat) (xs : List Int) (t : TypeId) (d : TypeDesc) (hg : Blk w g (tc xs) t) (hw : Region.wanted o (yielded ops a.tmps) = true) (ho : o.op = .load ty x) (hx : a.eval x = .pointer (some ⟨g, off, none⟩))
 (hu : P.underlying ty = some d) (hd : (match d with | .struct _ | .array _ _ => true | _ => false) = true) (hi : (P.info? ty).map (·.size) = some n) (hfit : off + n ≤ xs.length)
 (h : wpList P ops Q rest (a.put o.dst (.agg (tc ((xs.drop off).take n)))) w) : Stop (wpList P ops Q (o :: rest) a w) := by
 refine wpList_wanted hw fun K hK => ?_
 unfold Oper.wp execOp
 simp only [ho, hx, Instr.loadAt, Instr.sureAddr, Sem.run_bind, Sem.run_pure, Result.andThen_ok, run_loadVar_part w g off n t ty xs d hg hu hd hi hfit]
 exact hK _ _ h
end
end Go.Proofs.YtjnamoppcklomaaGreat
