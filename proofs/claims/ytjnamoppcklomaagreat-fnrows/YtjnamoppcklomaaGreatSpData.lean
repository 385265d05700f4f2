/- Slices of spans, as plain data: pairs of numbers, in memory one behind the other. No statement of the seat is proved here. -/
import Derived.Test.YtjnamoppcklomaaGreatMarkMath
namespace Go.Proofs.YtjnamoppcklomaaGreat
open Go.RowKit
abbrev Sp := List (Int × Int)
def flat : Sp → List Int
 | [] => []
 | p :: ps => p.1 :: p.2 :: flat ps
theorem flat_length : ∀ ps : Sp, (flat ps).length = 2 * ps.length
 | [] => rfl
 | p :: ps => by simp [flat, flat_length ps]; omega
theorem flat_lo : ∀ (ps : Sp) (i : Nat), (flat ps)[2 * i]?.getD 0 = (ps[i]?.getD (0, 0)).1
 | [], i => by simp [flat]
 | p :: ps, 0 => by simp [flat]
 | p :: ps, i + 1 => by rw [show 2 * (i + 1) = 2 * i + 1 + 1 by omega, flat]; simpa using flat_lo ps i
theorem flat_hi : ∀ (ps : Sp) (i : Nat), (flat ps)[2 * i + 1]?.getD 0 = (ps[i]?.getD (0, 0)).2
 | [], i => by simp [flat]
 | p :: ps, 0 => by simp [flat]
 | p :: ps, i + 1 => by rw [show 2 * (i + 1) + 1 = 2 * i + 1 + 1 + 1 by omega, flat]; simpa using flat_hi ps i
theorem flat_append : ∀ (ps qs : Sp), flat (ps ++ qs) = flat ps ++ flat qs
 | [], qs => rfl
 | p :: ps, qs => by simp [flat, flat_append ps qs]
structure RdP (w : World) (a : Option Addr) (len : Nat) (ps : Sp) (F : List Nat) : Prop where
 length : ps.length = len
 rd : RdI w a (2 * len) (flat ps) F
theorem RdP.below {w w' : World} {a : Option Addr} {len : Nat} {ps : Sp} {F : List Nat} (h : RdP w a len ps F) (hb : Below w.heap.size w w') : RdP w' a len ps F := ⟨h.length, h.rd.below hb⟩
theorem RdP.agree {w w' : World} {a : Option Addr} {len : Nat} {ps : Sp} {F : List Nat} (h : RdP w a len ps F) (hb : Agree w w' F) : RdP w' a len ps F := ⟨h.length, h.rd.agree hb⟩
theorem RdP.lt {w : World} {a : Option Addr} {len : Nat} {ps : Sp} {F : List Nat} (h : RdP w a len ps F) : ∀ b ∈ F, b < w.heap.size := h.rd.lt
theorem RdP.cells {w : World} {a : Option Addr} {len : Nat} {ps : Sp} {F : List Nat} (h : RdP w a len ps F) : (len = 0 ∧ F = [] ∧ ps = []) ∨ ∃ b off, 0 < len ∧ a = some ⟨b, off, none⟩ ∧ F = [b] ∧ ∀ i, i < len → w.cell? ⟨b, off + i * 2, none⟩ = some (.int .i64 (ps[i]?.getD (0, 0)).1) ∧ w.cell? ⟨b, off + i * 2 + 1, none⟩ = some (.int .i64 (ps[i]?.getD (0, 0)).2) := by
 rcases h.rd.cells with ⟨h0, hF⟩ | ⟨b, off, hp, ha, hF, hc⟩
 ·
  left
  have hl := h.length
  refine ⟨by omega, hF, List.eq_nil_of_length_eq_zero (by omega)⟩
 ·
  right
  refine ⟨b, off, by omega, ha, hF, fun i hi => ?_⟩
  have e1 := hc (2 * i) (by omega)
  have e2 := hc (2 * i + 1) (by omega)
  rw [List.getD_eq_getElem?_getD, flat_lo] at e1
  rw [List.getD_eq_getElem?_getD, flat_hi] at e2
  rw [show off + i * 2 = off + 2 * i by omega]
  exact ⟨e1, by rw [show off + 2 * i + 1 = off + (2 * i + 1) by omega]; exact e2⟩
theorem RdP.nil {w : World} {a : Option Addr} : RdP w a 0 [] [] := ⟨rfl, rfl, .inl ⟨rfl, rfl⟩⟩
theorem RdP.of_own {w : World} {B e len cap g : Nat} {ps : Sp} (h : w.ownsRow B e 2 (.slice (some ⟨g, 0, none⟩) len cap) len ((flat ps).map (Value.int .i64))) : ∃ F, RdP w (some ⟨g, 0, none⟩) len ps F ∧ Own B w F ∧ ∀ b ∈ F, b = g := by
 have hl : (flat ps).length = len * 2 := by simpa using h.1
 rw [flat_length] at hl
 by_cases h0 : len = 0
 ·
  exact ⟨[], ⟨by omega, by rw [flat_length]; omega, .inl ⟨by omega, rfl⟩⟩, Own.nil, by simp⟩
 ·
  have hlt := h.lt g rfl
  refine ⟨[g], ⟨by omega, by rw [flat_length]; omega, .inr ⟨g, 0, by omega, rfl, rfl, fun i hi => ?_⟩⟩, ⟨by simp, fun b hb o => ?_, fun b hb => ?_⟩, by simp⟩
  ·
   rw [Nat.zero_add, h.cellAt i (by omega)]
   simp [List.getElem?_eq_getElem (show i < (flat ps).length by rw [flat_length]; omega)]
  ·
   obtain rfl : b = g := by simpa using hb
   exact h.frozenAt o
  ·
   obtain rfl : b = g := by simpa using hb
   exact hlt.1
abbrev Capd (a : Option Addr) (l c : Nat) : Prop := (a = none → c = 0) ∧ l ≤ c
def NewP (w : World) (ps : Sp) (e : Ending) (w' : World) : Prop :=
 ∃ a len cap F, e = .returned (.slice a len cap) ∧ RdP w' a len ps F ∧ Own w.heap.size w' F ∧ Below w.heap.size w w' ∧ Capd a len cap
theorem infoSpan : (Tryz.prog.info? 74).map (fun i => (i.zero, i.size, i.bytes)) = some (some (.agg #[.int .i64 0, .int .i64 0]), 2, 16) := by kernel_rfl
def tcv (xs : List Int) : Array Value := (xs.map (Value.int .i64)).toArray
theorem tcv_get {xs : List Int} {i : Nat} (h : i < xs.length) : (tcv xs)[i]? = some (.int .i64 (xs.getD i 0)) := by simp [tcv, h]
theorem rdI_tcv {W : World} {g n : Nat} {xs : List Int} {t : TypeId} (h : Blk W g (tcv xs) t) (hn : xs.length = n) (hp : 0 < n) : RdI W (some ⟨g, 0, none⟩) n xs [g] :=
 ⟨hn, .inr ⟨g, 0, hp, rfl, rfl, fun i hi => by rw [Nat.zero_add, h.cell, tcv_get (by omega)]⟩⟩
theorem own_blk {w : World} {B e s n g : Nat} {xs : List Value} (h : w.ownsRow B e s (.slice (some ⟨g, 0, none⟩) n n) n xs) (hn : 0 < n) : Blk w g xs.toArray e := by
 rcases h.2 with ⟨_, h0⟩ | ⟨g', cap, cur, e1, _, hg, h1, h2, h3, h4⟩
 ·
  omega
 ·
  cases e1
  have e2 : cur.toList = xs := by
   have e3 : cur.toList.take (n * s) = cur.toList := List.take_of_length_le (by rw [Array.length_toList]; omega)
   rw [e3] at h4
   exact h4
  rw [← e2]
  exact hg
theorem takeP_succ (ps : Sp) (k : Nat) (hk : k < ps.length) : ps.take (k + 1) = ps.take k ++ [ps[k]?.getD (0, 0)] := by
 rw [List.take_add_one, List.getElem?_eq_getElem hk]; rfl
theorem made_flat (len : Nat) : (madeCells (Value.agg #[Value.int IntKind.i64 0, Value.int IntKind.i64 0]).cells (len * 2)).toList.toArray = tcv (List.replicate (2 * len) 0) := by
 have hz : ∀ j, (Value.agg #[Value.int IntKind.i64 0, Value.int IntKind.i64 0]).cells[j % (Value.agg #[Value.int IntKind.i64 0, Value.int IntKind.i64 0]).cells.size]! = Value.int .i64 0 := fun j => by
  have hj : j % 2 = 0 ∨ j % 2 = 1 := by omega
  rcases hj with e | e <;> simp [Value.cells, e]
 apply Array.ext
 ·
  simp [madeCells, tcv]; omega
 ·
  intro i h1 h2
  simp only [madeCells, tcv] at h1 h2 ⊢
  simp only [List.getElem_toArray, Array.getElem_toList, Array.getElem_map, List.getElem_map, List.getElem_replicate]
  exact hz _
end Go.Proofs.YtjnamoppcklomaaGreat
