/- Slices of structs, whatever an element holds, as plain data. No statement of the seat is proved here. -/
import Derived.Test.YtjnamoppcklomaaGreatOwn
namespace Go.Proofs.YtjnamoppcklomaaGreat
open Go.RowKit
/-- What an element is: how many cells it has, and how its value is read. -/
structure ElK (α : Type) where
  n : Nat
  R : World → Value → α → List Nat → Prop
  agree : ∀ {w w' : World} {v : Value} {x : α} {F : List Nat}, R w v x F → Agree w w' F → R w' v x F
  lt : ∀ {w : World} {v : Value} {x : α} {F : List Nat}, R w v x F → ∀ b ∈ F, b < w.heap.size
  cells : ∀ {w : World} {v : Value} {x : α} {F : List Nat}, R w v x F → ∃ cs : Array Value, v = .agg cs ∧ cs.size = n ∧ cs.all (·.oneCell') = true
  pos : 0 < n
section
variable {α : Type} (K : ElK α)
/-- From off on block b holds these elements. -/
def RdEls (w : World) (b : Nat) : List α → Nat → List Nat → Prop
  | [], _, F => F = []
  | x :: xs, off, F => ∃ (cs : Array Value) (F1 F2 : List Nat), cs.size = K.n ∧ (∀ j, j < K.n → w.cell? ⟨b, off + j, none⟩ = cs[j]?) ∧ K.R w (.agg cs) x F1 ∧ RdEls w b xs (off + K.n) F2 ∧ F = F1 ++ F2
/-- The cells of several elements, one behind the other. -/
def RdC (w : World) : List α → List Value → List Nat → Prop
  | [], vs, F => vs = [] ∧ F = []
  | x :: xs, vs, F => ∃ (cs : Array Value) (vs' : List Value) (F1 F2 : List Nat), vs = cs.toList ++ vs' ∧ cs.size = K.n ∧ K.R w (.agg cs) x F1 ∧ RdC w xs vs' F2 ∧ F = F1 ++ F2
/-- A slice of such elements that can be read; F: its block, and theirs. -/
structure RdL (w : World) (a : Option Addr) (len : Nat) (xs : List α) (F : List Nat) : Prop where
  length : xs.length = len
  cells : (len = 0 ∧ F = []) ∨ ∃ b off F', 0 < len ∧ a = some ⟨b, off, none⟩ ∧ F = b :: F' ∧ RdEls K w b xs off F'
end
section
variable {α : Type} {K : ElK α} {w w' : World}
theorem RdEls.agree : ∀ {xs : List α} {b off : Nat} {F : List Nat}, RdEls K w b xs off F → w'.heap[b]? = w.heap[b]? → Agree w w' F → RdEls K w' b xs off F
  | [], b, off, F, h, _, _ => h
  | x :: xs, b, off, F, h, hb, ha => by
    obtain ⟨cs, F1, F2, h1, h2, h3, h4, rfl⟩ := h
    exact ⟨cs, F1, F2, h1, fun j hj => (World.cell?_of_block (w := w) (a := ⟨b, off + j, none⟩) hb).trans (h2 j hj), K.agree h3 ha.left, RdEls.agree h4 hb ha.right, rfl⟩
theorem RdEls.lt : ∀ {xs : List α} {b off : Nat} {F : List Nat}, RdEls K w b xs off F → ∀ x ∈ F, x < w.heap.size
  | [], b, off, F, h => by rw [RdEls] at h; simp [h]
  | x :: xs, b, off, F, h => by
    obtain ⟨cs, F1, F2, h1, h2, h3, h4, rfl⟩ := h
    intro y hy
    rcases List.mem_append.1 hy with hy | hy
    · exact K.lt h3 y hy
    · exact RdEls.lt h4 y hy
theorem RdEls.get : ∀ {xs : List α} {b off : Nat} {F : List Nat}, RdEls K w b xs off F → ∀ (i : Nat) (hi : i < xs.length), ∃ (cs : Array Value) (Fi : List Nat), cs.size = K.n ∧ (∀ j, j < K.n → w.cell? ⟨b, off + i * K.n + j, none⟩ = cs[j]?) ∧ K.R w (.agg cs) xs[i] Fi ∧ ∀ y ∈ Fi, y ∈ F
  | [], b, off, F, h, i, hi => by simp at hi
  | x :: xs, b, off, F, h, i, hi => by
    obtain ⟨cs, F1, F2, h1, h2, h3, h4, rfl⟩ := h
    cases i with
    | zero => exact ⟨cs, F1, h1, fun j hj => by rw [Nat.zero_mul, Nat.add_zero]; exact h2 j hj, h3, fun y hy => List.mem_append_left _ hy⟩
    | succ i =>
      obtain ⟨ds, Fi, k1, k2, k3, k4⟩ := RdEls.get h4 i (by simpa using hi)
      refine ⟨ds, Fi, k1, fun j hj => ?_, k3, fun y hy => List.mem_append_right _ (k4 y hy)⟩
      rw [show off + (i + 1) * K.n + j = off + K.n + i * K.n + j by rw [Nat.succ_mul]; omega]
      exact k2 j hj
theorem RdEls.first {x : α} {xs : List α} {b off : Nat} {F : List Nat} (h : RdEls K w b (x :: xs) off F) : b < w.heap.size := by
  obtain ⟨cs, F1, F2, h1, h2, _⟩ := h
  have c := h2 0 K.pos
  rw [Array.getElem?_eq_getElem (by rw [h1]; exact K.pos)] at c
  exact World.block_lt_of_cell? _ _ c
theorem RdL.agree {a : Option Addr} {len : Nat} {xs : List α} {F : List Nat} (h : RdL K w a len xs F) (ha : Agree w w' F) : RdL K w' a len xs F := by
  refine ⟨h.length, ?_⟩
  rcases h.cells with h0 | ⟨b, off, F', hp, e, rfl, hm⟩
  · exact .inl h0
  · exact .inr ⟨b, off, F', hp, e, rfl, hm.agree (ha b List.mem_cons_self) (fun x hx => ha x (List.mem_cons_of_mem _ hx))⟩
theorem RdL.lt {a : Option Addr} {len : Nat} {xs : List α} {F : List Nat} (h : RdL K w a len xs F) : ∀ b ∈ F, b < w.heap.size := by
  rcases h.cells with ⟨_, rfl⟩ | ⟨b, off, F', hp, e, rfl, hm⟩
  · simp
  · intro x hx
    rcases List.mem_cons.1 hx with rfl | hx
    · cases xs with
      | nil => have := h.length; simp at this; omega
      | cons y ys => exact hm.first
    · exact hm.lt x hx
theorem RdL.below {a : Option Addr} {len : Nat} {xs : List α} {F : List Nat} (h : RdL K w a len xs F) (hb : Below w.heap.size w w') : RdL K w' a len xs F := h.agree (.below hb h.lt)
theorem RdL.nil : RdL K w none 0 [] [] := ⟨rfl, .inl ⟨rfl, rfl⟩⟩
theorem RdL.zero {a : Option Addr} : RdL K w a 0 [] [] := ⟨rfl, .inl ⟨rfl, rfl⟩⟩
/-- One of its elements: its cells, what they hold. -/
theorem RdL.get {a : Option Addr} {len : Nat} {xs : List α} {F : List Nat} (h : RdL K w a len xs F) (i : Nat) (hi : i < len) : ∃ b off, a = some ⟨b, off, none⟩ ∧ b ∈ F ∧ ∃ (cs : Array Value) (Fi : List Nat), cs.size = K.n ∧ (∀ j, j < K.n → w.cell? ⟨b, off + i * K.n + j, none⟩ = cs[j]?) ∧ (∀ x, xs[i]? = some x → K.R w (.agg cs) x Fi) ∧ ∀ y ∈ Fi, y ∈ F := by
  rcases h.cells with ⟨h0, _⟩ | ⟨b, off, F', hp, e, rfl, hm⟩
  · omega
  · obtain ⟨cs, Fi, k1, k2, k3, k4⟩ := hm.get i (by rw [h.length]; exact hi)
    refine ⟨b, off, e, List.mem_cons_self, cs, Fi, k1, k2, fun x hx => ?_, fun y hy => List.mem_cons_of_mem _ (k4 y hy)⟩
    rw [List.getElem?_eq_getElem (by rw [h.length]; exact hi)] at hx
    cases hx
    exact k3
theorem RdC.agree : ∀ {xs : List α} {vs : List Value} {F : List Nat}, RdC K w xs vs F → Agree w w' F → RdC K w' xs vs F
  | [], vs, F, h, _ => h
  | x :: xs, vs, F, h, ha => by
    obtain ⟨cs, vs', F1, F2, h1, h2, h3, h4, rfl⟩ := h
    exact ⟨cs, vs', F1, F2, h1, h2, K.agree h3 ha.left, RdC.agree h4 ha.right, rfl⟩
theorem RdC.lt : ∀ {xs : List α} {vs : List Value} {F : List Nat}, RdC K w xs vs F → ∀ x ∈ F, x < w.heap.size
  | [], vs, F, h => by rw [RdC] at h; simp [h.2]
  | x :: xs, vs, F, h => by
    obtain ⟨cs, vs', F1, F2, h1, h2, h3, h4, rfl⟩ := h
    intro y hy
    rcases List.mem_append.1 hy with hy | hy
    · exact K.lt h3 y hy
    · exact RdC.lt h4 y hy
theorem RdC.below {xs : List α} {vs : List Value} {F : List Nat} (h : RdC K w xs vs F) (hb : Below w.heap.size w w') : RdC K w' xs vs F := h.agree (.below hb h.lt)
theorem RdC.length : ∀ {xs : List α} {vs : List Value} {F : List Nat}, RdC K w xs vs F → vs.length = xs.length * K.n
  | [], vs, F, h => by rw [RdC] at h; simp [h.1]
  | x :: xs, vs, F, h => by
    obtain ⟨cs, vs', F1, F2, h1, h2, h3, h4, rfl⟩ := h
    rw [h1, List.length_append, Array.length_toList, h2, RdC.length h4, List.length_cons, Nat.succ_mul]; omega
theorem RdC.nil : RdC K w [] [] [] := ⟨rfl, rfl⟩
theorem RdC.snoc : ∀ {xs : List α} {vs : List Value} {F : List Nat} {x : α} {cs : Array Value} {G : List Nat}, RdC K w xs vs F → K.R w (.agg cs) x G → cs.size = K.n → RdC K w (xs ++ [x]) (vs ++ cs.toList) (F ++ G)
  | [], vs, F, x, cs, G, h, k, hs => by
    rw [RdC] at h
    obtain ⟨rfl, rfl⟩ := h
    exact ⟨cs, [], G, [], by simp, hs, k, RdC.nil, by simp⟩
  | y :: xs, vs, F, x, cs, G, h, k, hs => by
    obtain ⟨ds, vs', F1, F2, rfl, h2, h3, h4, rfl⟩ := h
    exact ⟨ds, vs' ++ cs.toList, F1, F2 ++ G, by simp, h2, h3, RdC.snoc h4 k hs, by simp⟩
/-- The cells lie in a block: the elements are read there. -/
theorem rdEls_of : ∀ {xs : List α} {vs : List Value} {F : List Nat} {g : Nat} (off : Nat), RdC K w xs vs F → (∀ i, i < vs.length → w.cell? ⟨g, off + i, none⟩ = vs[i]?) → RdEls K w g xs off F
  | [], vs, F, g, off, h, _ => by rw [RdC] at h; exact h.2
  | x :: xs, vs, F, g, off, h, hc => by
    obtain ⟨cs, vs', F1, F2, rfl, h2, h3, h4, rfl⟩ := h
    refine ⟨cs, F1, F2, h2, fun j hj => ?_, h3, rdEls_of (off + K.n) h4 (fun i hi => ?_), rfl⟩
    · have hl : j < cs.toList.length := by rw [Array.length_toList, h2]; exact hj
      rw [hc j (by rw [List.length_append]; omega), List.getElem?_append_left hl, Array.getElem?_toList]
    · have := hc (K.n + i) (by rw [List.length_append, Array.length_toList, h2]; omega)
      rw [show off + K.n + i = off + (K.n + i) by omega, this, List.getElem?_append_right (by rw [Array.length_toList, h2]; omega), Array.length_toList, h2, Nat.add_sub_cancel_left]
/-- A row that the call made, each of its elements with its own reading. -/
theorem rdL_of_own {B e m : Nat} {v : Value} {xs : List α} {vs : List Value} {G : List Nat} (h : w.ownsRow B e K.n v m vs) (hr : RdC K w xs vs G) (hG : Own B w G) (hd : ∀ g, v.ownBlock = some g → g ∉ G) : ∃ a cap F, v = .slice a m cap ∧ RdL K w a m xs F ∧ Own B w F ∧ (a = none → cap = 0) ∧ m ≤ cap := by
  have hl : xs.length = m := by
    have h1 := hr.length
    have h2 := h.1
    exact Nat.eq_of_mul_eq_mul_right K.pos (h1.symm.trans h2)
  rcases h.2 with ⟨e1, e2⟩ | ⟨g, cap, cur, e1, h1, h2, h3, h4, h5, h6⟩
  · subst e1
    subst e2
    obtain rfl : xs = [] := List.eq_nil_of_length_eq_zero hl
    exact ⟨_, 0, [], rfl, RdL.nil, Own.nil, fun _ => rfl, Nat.le_refl _⟩
  · subst e1
    by_cases h0 : m = 0
    · subst h0
      obtain rfl : xs = [] := List.eq_nil_of_length_eq_zero hl
      exact ⟨_, cap, [], rfl, RdL.zero, Own.nil, (fun e => by cases e), h3⟩
    · refine ⟨_, cap, g :: G, rfl, ⟨hl, .inr ⟨g, 0, G, by omega, rfl, rfl, rdEls_of 0 hr (fun i hi => ?_)⟩⟩, ⟨?_, fun b hb o => ?_, fun b hb => ?_⟩, (fun e => by cases e), h3⟩
      · rw [Nat.zero_add]; exact h.cellAt i (by rw [← h.1]; exact hi)
      · exact List.nodup_cons.2 ⟨hd g rfl, hG.nodup⟩
      · rcases List.mem_cons.1 hb with rfl | hb
        · exact h.frozenAt o
        · exact hG.free b hb o
      · rcases List.mem_cons.1 hb with rfl | hb
        · exact h1
        · exact hG.ge b hb
end
end Go.Proofs.YtjnamoppcklomaaGreat
