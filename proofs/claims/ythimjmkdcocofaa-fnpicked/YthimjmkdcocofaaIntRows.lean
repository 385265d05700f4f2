/- The walks through the helpers of the laws over slices of slices of numbers. No statement of the seat is proved here. -/
import Derived.Test.YthimjmkdcocofaaIntLists
import Derived.Deep.RegionWith
namespace Go.Proofs.Ythimjmkdcocofaa
open Go.RowKit

theorem take_snoc {α : Type} (l : List α) (d : α) (k : Nat) (h : k < l.length) : l.take (k + 1) = l.take k ++ [l.getD k d] := by
  rw [List.take_add_one, List.getElem?_eq_getElem h, List.getD_eq_getElem?_getD, List.getElem?_eq_getElem h]; rfl
theorem set_next {α : Type} (vs : List α) (z v : α) (k len : Nat) (hk : vs.length = k) (hl : k < len) : (vs ++ List.replicate (len - k) z).set k v = (vs ++ [v]) ++ List.replicate (len - (k + 1)) z := by
  rw [List.set_append_right k _ (by omega), hk, Nat.sub_self, show len - k = (len - (k + 1)) + 1 by omega]
  simp [List.replicate_succ]
theorem Agree.set {w : World} {F : List Nat} {g : Nat} (h : g ∉ F) (j : Nat) (v : Value) : Agree w (w.setCell ⟨g, j, none⟩ v) F := fun b hb => Below.heap_setCell w ⟨g, j, none⟩ v b (fun e => h (by have e2 : b = g := e; rw [← e2]; exact hb))

/-- A copy of a row of rows, behind k rounds. -/
structure CopyII (w : World) (g : Nat) (zss : List (List Int)) (k len : Nat) (vs : List Value) (G : List Nat) (wr : World) : Prop where
  own : wr.ownsRow w.heap.size 24 1 (.slice (some ⟨g, 0, none⟩) len len) len (vs ++ List.replicate (len - k) (.slice none 0 0))
  rd : RdS wr ((zss.take k).map ints) vs G
  mine : Own (w.heap.size + 1) wr G
  bel : Below w.heap.size w wr
theorem CopyII.step {w wr w2 : World} {zss : List (List Int)} {k len : Nat} {vs : List Value} {G F : List Nat} {a : Option Addr} {n cap : Nat}
    (h : CopyII w w.heap.size zss k len vs G wr) (hk : k < len) (hl : zss.length = len) (hr : RdI w2 a n (zss.getD k []) F) (ho : Own wr.heap.size w2 F) (hb : Below wr.heap.size wr w2) :
    CopyII w w.heap.size zss (k + 1) len (vs ++ [.slice a n cap]) (G ++ F) (w2.setCell ⟨w.heap.size, k, none⟩ (.slice a n cap)) := by
  have hg := (h.own.lt w.heap.size rfl).2
  have hGlt := h.rd.lt
  have hv : vs.length = k := by rw [h.rd.length]; simp; omega
  have hG : w.heap.size ∉ G := fun hx => by have := h.mine.ge _ hx; omega
  have hF : w.heap.size ∉ F := fun hx => by have := ho.ge _ hx; omega
  have own2 := (ownsRow_below h.own hb).stored k (.slice a n cap)
  rw [set_next vs _ _ k len hv hk] at own2
  refine ⟨own2.1, ?_, ?_, (h.bel.trans (hb.mono (by omega))).setCell (Nat.le_refl _) _⟩
  · rw [take_snoc zss [] k (by omega), List.map_append]
    exact RdS.snoc ((h.rd.below hb).agree (.set hG _ _)) (rd_ints.2 ⟨a, n, cap, rfl, hr.agree (.set hF _ _)⟩)
  · have := (h.mine.below hGlt hb).join ho hGlt (by omega)
    exact this.agree (.set (fun hx => (List.mem_append.1 hx).elim hG hF) _ _)
theorem CopyII.done {w wr : World} {zss : List (List Int)} {len : Nat} {vs : List Value} {G : List Nat} (h : CopyII w w.heap.size zss len len vs G wr) (hl : zss.length = len) :
    ∃ F, RdII wr (some ⟨w.heap.size, 0, none⟩) len zss F ∧ Own w.heap.size wr F := by
  by_cases h0 : len = 0
  · exact ⟨[], ⟨hl, .inl ⟨h0, rfl⟩⟩, Own.nil⟩
  · have rd := h.rd
    rw [List.take_of_length_le (Nat.le_of_eq hl)] at rd
    have hv : vs.length = len := by rw [rd.length]; simpa using hl
    have own := h.own
    rw [Nat.sub_self, List.replicate_zero, List.append_nil] at own
    refine ⟨w.heap.size :: G, ⟨hl, .inr ⟨_, 0, G, by omega, rfl, rfl, rdM_of_own 0 rd (fun i hi => ?_)⟩⟩, ⟨?_, fun b hb o => ?_, fun b hb => ?_⟩⟩
    · rw [Nat.zero_add]; exact own.cellAt i (by omega)
    · exact List.nodup_cons.2 ⟨fun hx => by have := h.mine.ge _ hx; omega, h.mine.nodup⟩
    · rcases List.mem_cons.1 hb with rfl | hb
      · exact own.frozenAt o
      · exact h.mine.free b hb o
    · rcases List.mem_cons.1 hb with rfl | hb
      · omega
      · have := h.mine.ge b hb; omega
def NewII (w : World) (zss : List (List Int)) (e : Ending) (w' : World) : Prop :=
  ∃ a len cap F, e = .returned (.slice a len cap) ∧ RdII w' a len zss F ∧ Own w.heap.size w' F ∧ Below w.heap.size w w'
theorem infoInts : (Try.prog.info? 24).map (fun i => (i.zero, i.size, i.bytes)) = some (some (.slice none 0 0), 1, 24) := by kernel_rfl
theorem eqII_step {xs ys : List (List Int)} {k : Nat} (hl : xs.length = ys.length) (hk : k < xs.length) (h : xs.take k = ys.take k) (he : xs.getD k [] = ys.getD k []) : xs.take (k + 1) = ys.take (k + 1) := by
  rw [take_snoc xs [] k hk, take_snoc ys [] k (by omega), h, he]
theorem neII_of_at {xs ys : List (List Int)} {k : Nat} (he : ¬ xs.getD k [] = ys.getD k []) : decide (xs = ys) = false := by
  rw [decide_eq_false_iff_not]; intro e; subst e; exact he rfl
theorem eqII_end {xs ys : List (List Int)} {k : Nat} (hx : xs.length = k) (hy : ys.length = k) (h : xs.take k = ys.take k) : decide (xs = ys) = true := by
  rw [decide_eq_true_iff]
  rw [List.take_of_length_le (Nat.le_of_eq hx), List.take_of_length_le (Nat.le_of_eq hy)] at h
  exact h
theorem RdI.heap {w w' : World} {a : Option Addr} {len : Nat} {zs : List Int} {F : List Nat} (h : RdI w a len zs F) (e : w'.heap = w.heap) : RdI w' a len zs F := h.agree (fun b _ => by rw [e])
theorem mem_getD {α : Type} {l : List α} {d : α} {k : Nat} (h : k < l.length) : l.getD k d ∈ l := by
  rw [List.getD_eq_getElem?_getD, List.getElem?_eq_getElem h]; exact List.getElem_mem _
/-- What rows weigh: one each, and their numbers. -/
def sumLen (l : List (List Int)) : Int := (l.map (fun z => (z.length : Int))).sum
theorem sumLen_snoc (l : List (List Int)) (k : Nat) (h : k < l.length) : sumLen (l.take (k + 1)) = sumLen (l.take k) + ((l.getD k []).length : Int) := by
  unfold sumLen
  rw [take_snoc l [] k h]; simp
theorem sumLen_nonneg (l : List (List Int)) : 0 ≤ sumLen l := by
  unfold sumLen
  induction l with
  | nil => simp
  | cons a l ih => simp; omega
theorem sumLen_le (l : List (List Int)) (k : Nat) : sumLen (l.take k) ≤ sumLen l := by
  have e : sumLen l = sumLen (l.take k) + sumLen (l.drop k) := by
    unfold sumLen
    rw [← List.sum_append, ← List.map_append, List.take_append_drop]
  have := sumLen_nonneg (l.drop k)
  omega
theorem sumLen_mem (l : List (List Int)) (z : List Int) (h : z ∈ l) : (z.length : Int) ≤ sumLen l := by
  unfold sumLen
  induction l with
  | nil => simp at h
  | cons a l ih =>
    have h0 : (0 : Int) ≤ sumLen l := sumLen_nonneg l
    unfold sumLen at h0
    rcases List.mem_cons.1 h with rfl | h
    · simp; omega
    · have := ih h; simp; omega
end Go.Proofs.Ythimjmkdcocofaa
