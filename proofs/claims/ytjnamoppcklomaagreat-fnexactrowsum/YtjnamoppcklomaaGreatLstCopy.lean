/- A slice of structs that is made and filled, element by element. No statement of the seat is proved here. -/
import Derived.Test.YtjnamoppcklomaaGreatLstOps
import Derived.Test.YtjnamoppcklomaaGreatIntRows
import Derived.Test.YtjnamoppcklomaaGreatSpData
import Derived.Test.YtjnamoppcklomaaGreatItHelp
namespace Go.Proofs.YtjnamoppcklomaaGreat
open Go.RowKit
section
variable {α : Type} {K : ElK α}
/-- A copy behind k rounds: what is filled, and the zeros behind it. -/
structure CopyL (K : ElK α) (w : World) (T : TypeId) (zs : List Value) (xs : List α) (k : Nat) (vs : List Value) (G : List Nat) (wr : World) : Prop where
  blk : Blk wr w.heap.size (vs ++ zs.drop (k * K.n)).toArray T
  rd : RdC K wr (xs.take k) vs G
  mine : Own (w.heap.size + 1) wr G
  bel : Below w.heap.size w wr
theorem take_snoc_at {xs : List α} {k : Nat} {x : α} (h : xs[k]? = some x) : xs.take (k + 1) = xs.take k ++ [x] := by
  rw [List.take_add_one, h]; rfl
theorem cut_fill {vs zs ds : List Value} {k n : Nat} (hv : vs.length = k * n) (hd : ds.length = n) : cutIn (vs ++ zs.drop (k * n)).toArray (k * n) ds.toArray = ((vs ++ ds) ++ zs.drop ((k + 1) * n)).toArray := by
  unfold cutIn
  simp only [List.size_toArray]
  rw [List.take_left' hv, hd, List.drop_append, hv, List.drop_drop, List.drop_of_length_le (by omega)]
  congr 1
  rw [List.nil_append]
  congr 2
  rw [Nat.succ_mul]; omega
theorem CopyL.step {w wr w2 : World} {T : TypeId} {zs : List Value} {xs : List α} {k : Nat} {vs : List Value} {G F : List Nat} {cs : Array Value} {x : α}
    (h : CopyL K w T zs xs k vs G wr) (hx : xs[k]? = some x) (hr : K.R w2 (.agg cs) x F) (hn : cs.size = K.n) (ho : Own wr.heap.size w2 F) (hb : Below wr.heap.size wr w2) :
    Blk w2 w.heap.size (vs ++ zs.drop (k * K.n)).toArray T ∧ cutIn (vs ++ zs.drop (k * K.n)).toArray (k * K.n) cs = ((vs ++ cs.toList) ++ zs.drop ((k + 1) * K.n)).toArray ∧
      CopyL K w T zs xs (k + 1) (vs ++ cs.toList) (G ++ F) (w2.setRow w.heap.size ((vs ++ cs.toList) ++ zs.drop ((k + 1) * K.n)).toArray) := by
  have hg := h.blk.lt
  have hk : k < xs.length := (List.getElem?_eq_some_iff.1 hx).1
  have hGlt := h.rd.lt
  have hv : vs.length = k * K.n := by rw [h.rd.length, List.length_take, Nat.min_eq_left (by omega)]
  have hG : w.heap.size ∉ G := fun hx => by have := h.mine.ge _ hx; omega
  have hF : w.heap.size ∉ F := fun hx => by have := ho.ge _ hx; omega
  have b2 := h.blk.below hb
  refine ⟨b2, ?_, ⟨b2.setRow, ?_, ?_, below_setRow (h.bel.trans (hb.mono (by omega))) (Nat.le_refl _) _⟩⟩
  · have := cut_fill (vs := vs) (zs := zs) (ds := cs.toList) (k := k) hv (by rw [Array.length_toList, hn])
    simpa using this
  · rw [take_snoc_at hx]
    exact RdC.snoc ((h.rd.below hb).agree (Agree.row hG _)) (K.agree hr (Agree.row hF _)) hn
  · have := (h.mine.below hGlt hb).join ho hGlt (by omega)
    exact this.agree (Agree.row (fun hx => (List.mem_append.1 hx).elim hG hF) _)
theorem CopyL.done {w wr : World} {T : TypeId} {zs : List Value} {xs : List α} {len : Nat} {vs : List Value} {G : List Nat} (h : CopyL K w T zs xs len vs G wr) (hl : xs.length = len) (hz : zs.length = len * K.n) :
    ∃ F, RdL K wr (some ⟨w.heap.size, 0, none⟩) len xs F ∧ Own w.heap.size wr F := by
  by_cases h0 : len = 0
  · subst h0
    obtain rfl : xs = [] := List.eq_nil_of_length_eq_zero hl
    exact ⟨[], RdL.zero, Own.nil⟩
  · have rd := h.rd
    rw [List.take_of_length_le (Nat.le_of_eq hl)] at rd
    have bk := h.blk
    rw [← hz, List.drop_length, List.append_nil] at bk
    refine ⟨w.heap.size :: G, ⟨hl, .inr ⟨_, 0, G, by omega, rfl, rfl, rdEls_of 0 rd (fun i hi => ?_)⟩⟩, ⟨?_, fun b hb o => ?_, fun b hb => ?_⟩⟩
    · rw [Nat.zero_add, bk.cell]; simp
    · exact List.nodup_cons.2 ⟨fun hx => by have := h.mine.ge _ hx; omega, h.mine.nodup⟩
    · rcases List.mem_cons.1 hb with rfl | hb
      · exact h.blk.frozen o
      · exact h.mine.free b hb o
    · rcases List.mem_cons.1 hb with rfl | hb
      · omega
      · have := h.mine.ge b hb; omega
def NewL (K : ElK α) (w : World) (xs : List α) (e : Ending) (w' : World) : Prop :=
  ∃ a len cap F, e = .returned (.slice a len cap) ∧ RdL K w' a len xs F ∧ Own w.heap.size w' F ∧ Below w.heap.size w w' ∧ Capd a len cap
/-- The kind of an element's own weight, summed up. -/
def sumOfL (f : α → Int) : List α → Int
  | [] => 0
  | x :: xs => f x + sumOfL f xs
theorem sumOfL_take {f : α → Int} {xs : List α} {k : Nat} {x : α} (h : xs[k]? = some x) : sumOfL f (xs.take (k + 1)) = sumOfL f (xs.take k) + f x := by
  rw [take_snoc_at h]
  generalize xs.take k = ys
  induction ys with
  | nil => simp [sumOfL]
  | cons y ys ih => simp only [List.cons_append, sumOfL, ih]; omega
theorem sumOfL_nonneg {f : α → Int} (hf : ∀ x, 0 ≤ f x) : ∀ xs : List α, 0 ≤ sumOfL f xs
  | [] => by simp [sumOfL]
  | x :: xs => by have := hf x; have := sumOfL_nonneg hf xs; simp only [sumOfL]; omega
theorem sumOfL_mem {f : α → Int} (hf : ∀ x, 0 ≤ f x) : ∀ (xs : List α) (x : α), x ∈ xs → f x ≤ sumOfL f xs
  | [], x, h => by cases h
  | y :: ys, x, h => by
    have h1 := hf y
    have h2 := sumOfL_nonneg hf ys
    rcases List.mem_cons.1 h with rfl | h
    · simp only [sumOfL]; omega
    · have := sumOfL_mem hf ys x h; simp only [sumOfL]; omega
theorem sumOfL_split {f : α → Int} : ∀ (xs ys : List α), sumOfL f (xs ++ ys) = sumOfL f xs + sumOfL f ys
  | [], ys => by simp [sumOfL]
  | x :: xs, ys => by simp only [List.cons_append, sumOfL, sumOfL_split xs ys]; omega
theorem sumOfL_le_take {f : α → Int} (hf : ∀ x, 0 ≤ f x) (xs : List α) (k : Nat) : sumOfL f (xs.take k) ≤ sumOfL f xs := by
  have h := sumOfL_split (f := f) (xs.take k) (xs.drop k)
  rw [List.take_append_drop] at h
  have := sumOfL_nonneg hf (xs.drop k)
  omega
end
end Go.Proofs.YtjnamoppcklomaaGreat
