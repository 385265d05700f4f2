/- Appending a slice of numbers, whatever its length, onto an empty literal. No statement of the seat is proved here. -/
import Derived.Test.YtjnamoppcklomaaGreatOpGrows
import Derived.Test.YtjnamoppcklomaaGreatSkCopy
namespace Go.Proofs.YtjnamoppcklomaaGreat
open Go.RowKit
theorem run_append_zero {P : Program} {w : World} (t ty e : TypeId) (i : TypeInfo) (ht : P.underlying t = some (.slice e)) (hi : P.info? e = some i) (ao ax : Option Addr) (c : Nat) :
 (Builtin.append_ #[t, t] ty #[.slice ao 0 0, .slice ax 0 c]).run P w = .ok (.slice ao 0 0) w := by
 have hl : ∀ ad : Addr, (loadCells ad 0).run P w = .ok #[] w := fun ad => by
  have := run_loadCells_list (P := P) w ad [] (fun j v hj => by simp at hj)
  simpa using this
 cases ao <;> cases ax <;> simp [Builtin.append_, run_underlying ht, sizeOf, typeInfo, hi, Builtin.lenOf, Builtin.firstCells, storeCells, hl]
section
variable {P : Program} {ops : Array Oper} {Q : Exit → Act → World → Prop} {a : Act} {w : World} {o : Oper} {K : Act → World → Prop}
theorem op_growsI (s x : Operand) (t : TypeId) (hg : o.guard = none) (hop : o.op = .call { callee := .builtin .append, args := #[s, x], argTypes := #[t, t] })
 (e : TypeId) (i : TypeInfo) (h1 : P.underlying t = some (.slice e)) (h2 : P.info? e = some i) (h3 : i.zero = some (.int .i64 0)) (h4 : i.size = 1) (h5 : i.bytes = 8)
 (ao : Option Addr) (hs : a.eval s = .slice ao 0 0) (ax : Option Addr) (m c : Nat) (zs : List Int) (F : List Nat) (hx : a.eval x = .slice ax m c) (hr : RdI w ax m zs F) (hm : m ≤ 1048576)
 (h : ∀ a' c' F' w', RdI w' a' m zs F' → Own w.heap.size w' F' → Below w.heap.size w w' → (∀ b, a'.map (·.block) = some b → ao.map (·.block) = some b ∨ w.heap.size ≤ b) → (e = 3 → 0 < m → RoomS w' a' m c' F') → ∃ a2, a.put o.dst (.slice a' m c') = a2 ∧ K a2 w') : if Region.wanted o (yielded ops a.tmps) = true then Oper.wp P o a w K Q else K (a.put o.dst undef) w := by
 by_cases h0 : m = 0
 ·
  subst h0
  have hz : zs = [] := List.eq_nil_of_length_eq_zero hr.length
  subst hz
  have hw : Region.wanted o (yielded ops a.tmps) = true := by unfold Region.wanted; rw [hg]
  rw [if_pos hw]
  obtain ⟨_, rfl, k⟩ := h ao 0 [] w ⟨rfl, .inl ⟨rfl, rfl⟩⟩ Own.nil (Below.refl _ _) (fun b hb => .inl hb) (fun _ h => absurd h (Nat.lt_irrefl 0))
  have hrun := run_append_zero (P := P) (w := w) t o.type e i h1 h2 ao ax c
  unfold Oper.wp
  simp [execOp, hop, resolve, invoke, builtin, hs, hx, hrun, Result.andThen]
  exact k
 ·
  obtain ⟨b, off, rfl⟩ := hr.addr (by omega)
  refine op_grows s x t hg hop e i (.int .i64 0) 1 8 h1 h2 h3 h4 h5 rfl (by decide) ao hs ⟨b, off, none⟩ m c (zs.map (Value.int .i64)) hx (by rw [List.length_map, hr.length]; omega) (hr.from (Below.refl _ _) (by omega)) (ints_one _) (by omega) (by unfold maxLen; omega) (by omega) ?_
  intro v' w' hown hb
  obtain ⟨a', c', F', rfl, hr', ho'⟩ := rdI_of_own hown
  refine h a' c' F' w' hr' ho' hb (fun g hg => ?_) (fun he _ => by subst he; exact room_of_own hown hr' (by omega))
  rcases hr'.cells with ⟨q, _⟩ | ⟨b', off', _, e', hF, _⟩
  ·
   omega
  ·
   subst e'
   right
   simp at hg
   subst hg
   exact ho'.ge _ (by rw [hF]; simp)
end
end Go.Proofs.YtjnamoppcklomaaGreat
