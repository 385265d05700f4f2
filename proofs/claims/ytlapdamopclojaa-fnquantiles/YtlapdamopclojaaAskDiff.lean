/- The walks through Different, of the program and of the model. No statement of the seat is proved here. -/
import Derived.Test.YtlapdamopclojaaAskMean
namespace Go.Proofs.Ytlapdamopclojaa
open Go.RowKit
theorem run_index_int {P : Program} (w : World) (t e : TypeId) (zs : List Int) (m k : Nat) (hm : zs.length = m) (hk : k < m) (ht : P.underlying t = some (.array m e)) (he : P.underlying e = some (.int .i64)) (hs : ∀ w, (sizeOf e).run P w = .ok 1 w) :
    (Instr.index t (.agg (tc zs)) (.int .i64 k)).run P w = .ok (.int .i64 (zs[k]?.getD 0)) w := by
  have hagg : ∀ w, (isAgg e).run P w = .ok false w := fun w => by unfold isAgg; rw [Sem.run_bind, run_underlying he w]; simp
  have h3 : (0 : Int) ≤ k ∧ (k : Int) < m := by omega
  unfold Instr.index part
  simp [asIntOf, run_underlying ht, Sem.run_bind, h3, hs, hagg, tc]
  rw [List.getElem?_eq_getElem (by omega)]
  simp
  intro h; omega
def cntPos (l : List Int) : Int := ((l.filter (fun x => decide (0 < x))).length : Nat)
theorem cntPos_range (l : List Int) : 0 ≤ cntPos l ∧ cntPos l ≤ l.length := by
  unfold cntPos
  have := List.length_filter_le (fun x : Int => decide (0 < x)) l
  omega
theorem cntPos_yes {l : List Int} {k : Nat} (hk : k < l.length) (h : 0 < l[k]?.getD 0) : cntPos (l.take (k + 1)) = cntPos (l.take k) + 1 := by
  rw [take_succ' l k hk]
  unfold cntPos
  simp [h]
theorem cntPos_no {l : List Int} {k : Nat} (hk : k < l.length) (h : ¬ 0 < l[k]?.getD 0) : cntPos (l.take (k + 1)) = cntPos (l.take k) := by
  rw [take_succ' l k hk]
  unfold cntPos
  simp [h]
def diffN (s : Sk) : Int := if s.ok = true then cntPos s.regs else 0
theorem diffN_not {s : Sk} (h : s.ok = false) : diffN s = 0 := by unfold diffN; rw [h]; rfl
theorem diffN_ok {s : Sk} (h : s.ok = true) : diffN s = cntPos s.regs := by unfold diffN; rw [if_pos h]
theorem tl_regs {s : Sk} (h : s.ok = true) : (s.tl.drop 12).take 8 = s.regs ∧ s.regs.length = 8 := by
  obtain ⟨e1, e2, x, y, e3, e4, e5⟩ := Sk.shaped_parts (Sk.ok_shaped h)
  obtain ⟨h0, h1, h2, h3, h4, h5, h6, h7, eh⟩ := len8 e1
  obtain ⟨r0, r1, r2, r3, r4, r5, r6, r7, er⟩ := len8 e2
  unfold Sk.tl
  rw [eh, er]
  exact ⟨rfl, rfl⟩
theorem tl_hist {s : Sk} (h : s.ok = true) : (s.tl.drop 4).take 8 = s.hist ∧ s.hist.length = 8 := by
  obtain ⟨e1, e2, x, y, e3, e4, e5⟩ := Sk.shaped_parts (Sk.ok_shaped h)
  obtain ⟨h0, h1, h2, h3, h4, h5, h6, h7, eh⟩ := len8 e1
  unfold Sk.tl
  rw [eh]
  exact ⟨rfl, rfl⟩
end Go.Proofs.Ytlapdamopclojaa
