/- Several texts of mine, laid together. No statement of the seat is proved here. -/
import Derived.Test.YtgkbhhlkaifnoaaGreatDoorB1
import Derived.Test.YtgkbhhlkaifnoaaGreatDoorOwn
import Derived.Test.YtgkbhhlkaifnoaaGreatDoorPart
import Derived.Test.YtgkbhhlkaifnoaaGreatDoorArrEq
import Derived.Test.YtgkbhhlkaifnoaaGreatDoorIntRows
import Derived.Test.YtgkbhhlkaifnoaaGreatDoorSpData
import Derived.Test.YtgkbhhlkaifnoaaGreatDoorItHelp
import Derived.Test.YtgkbhhlkaifnoaaGreatDoorItHelp2
import Derived.Test.YtgkbhhlkaifnoaaGreatDoorItOf
import Derived.Test.YtgkbhhlkaifnoaaGreatDoorItModel
import Derived.Test.YtgkbhhlkaifnoaaGreatDoorSpModel
import Derived.WalkKit
import Derived.Test.YtgkbhhlkaifnoaaGreatDoorBase
import Derived.Test.YtgkbhhlkaifnoaaGreatDoorInOf
import Derived.Test.YtgkbhhlkaifnoaaGreatDoorSkCopy
import Derived.Laws.BitsAllLaws
import Derived.Defers
import Derived.Recover
import Derived.Laws.Pointers
import Derived.Lib.SlBytesConst
import Derived.ArgAppend
import Derived.Test.YtgkbhhlkaifnoaaGreatDoorTallyS
import Derived.Deep.RegionLawGrows
/- The walks through the model's drawing of two sets, and of a set and a number. No statement of the seat is proved here. -/
namespace Go.Proofs.YtgkbhhlkaifnoaaGreatDoor
open Go.RowKit
theorem cur_agree5 {w w' : World} {g : Nat} {a : Option Addr} {len cap : Nat} {zs : List Int} {i h : Int} (C : Cur w g a len cap zs i h) (_hg : g < w.heap.size) (e : w'.heap[g]? = w.heap[g]?) (hb : ∀ b, b < w.heap.size → (∃ off, a = some ⟨b, off, none⟩ ∧ 0 < len) → w'.heap[b]? = w.heap[b]?) : Cur w' g a len cap zs i h := by
  refine ⟨(World.cell?_of_block (w := w) (a := ⟨g, 0, none⟩) e).trans C.c0, (World.cell?_of_block (w := w) (a := ⟨g, 1, none⟩) e).trans C.c1, (World.cell?_of_block (w := w) (a := ⟨g, 2, none⟩) e).trans C.c2, (World.frozen?_of_block (w := w) (a := ⟨g, 1, none⟩) e).trans C.f1, (World.frozen?_of_block (w := w) (a := ⟨g, 2, none⟩) e).trans C.f2, C.i0, C.i1, ?_, C.ap⟩
  refine ⟨C.rd.length, C.rd.range, ?_⟩
  rcases C.rd.cells with h0 | ⟨b, off, ha, hc⟩
  · exact .inl h0
  · by_cases hl : len = 0
    · exact .inl hl
    · have hlt : b < w.heap.size := World.block_lt_of_cell? _ _ (hc 0 (by omega))
      exact .inr ⟨b, off, ha, fun j hj => (World.cell?_of_block (w := w) (a := ⟨b, off + j, none⟩) (hb b hlt ⟨off, ha, by omega⟩)).trans (hc j hj)⟩
theorem cur_lt5 {w : World} {q : Nat} {a : Option Addr} {len cap : Nat} {zs : List Int} {i h : Int} (C : Cur w q a len cap zs i h) (b : Nat) (hb : ∃ off, a = some ⟨b, off, none⟩ ∧ 0 < len) : b < w.heap.size := by
  obtain ⟨off, ha, hp⟩ := hb
  rcases C.rd.cells with h0 | ⟨b', off', ha', hc⟩
  · omega
  · rw [ha] at ha'
    cases ha'
    exact World.block_lt_of_cell? _ _ (hc 0 hp)
theorem DrP.app {w : World} {q : Nat} {a : Option Addr} {len cap : Nat} {zs : List Int} {v v' : Value} {ps : Sp} {W W' : World} {y z : Int} {ob : Obj} (D : DrP w q a len cap zs v ps W) (ha : ∀ b, (∃ off, a = some ⟨b, off, none⟩ ∧ 0 < len) → b < w.heap.size) (hown : W'.ownsRow w.heap.size 62 2 v' (ps.length + 1) ((flat ps).map (Value.int .i64) ++ [.int .i64 y, .int .i64 z])) (hgrow : (W.alloc ob).grownBy W' v.ownBlock) : DrP w q a len cap zs v' (ps ++ [(y, z)]) W' := by
  have D' := D.alloc ob
  obtain ⟨i, h, C⟩ := D'.cur
  have hne : ∀ k, k < w.heap.size → some k ≠ v.ownBlock := fun k hk e => by have := (D'.own.lt k e.symm).1; omega
  have hs := D'.grown.size
  have hq := D'.lt
  refine ⟨?_, ⟨i, h, ?_⟩, ⟨hgrow.os.trans D'.grown.os, hgrow.tape.trans D'.grown.tape, hgrow.output.trans D'.grown.output, Nat.le_trans D'.grown.size hgrow.size, fun k hk hn => (hgrow.block k (by omega) (hne k hk)).trans (D'.grown.block k hk hn)⟩, D.lt⟩
  · rw [flat_append, List.map_append, List.length_append]
    exact hown
  · exact cur_agree5 C (by omega) (hgrow.block q (by omega) (hne q hq)) (fun b hb hx => hgrow.block b hb (hne b (ha b hx)))
set_option maxRecDepth 100000 in
set_option maxHeartbeats 4000000 in
theorem l5Draw_any (q : Nat) (a : Option Addr) (len cap : Nat) (zs : List Int) (i h : Int) (w : World) (C : Cur w q a len cap zs i h) (hlen : len ≤ 1048576) :
    Calls Tryz.prog 61 #[.pointer (some ⟨q, 0, none⟩)] w fun e w' => DrewP w q a len cap zs 8 e w' := by
  obtain ⟨t0, hi, hz0, hz1, hz2⟩ := info_parts infoSpan
  have HC : Hid (Cur w q a len cap zs i h) := C
  have HA : Hid (∀ b, (∃ off, a = some ⟨b, off, none⟩ ∧ 0 < len) → b < w.heap.size) := cur_lt5 C
  clear C
  go_enter Tryz.func61, Tryz.ntmps61
  go_wp2_with fail
  refine (l5Right_any q a len cap zs i h _ HC.out hlen).mono ?_
  rintro e w1 ⟨v, ps, rfl, D1, hl1, hne1, hf1⟩
  have HF1 : Hid ps.fit := hf1
  have HD1 : Hid (DrP w q a len cap zs v ps w1 ∧ v ≠ .slice none 0 0) := ⟨D1, hne1⟩
  clear D1 hne1 hf1 HC
  obtain ⟨i1, h1, C1⟩ := HD1.out.1.cur
  go_wp2_with fail
  refine (once_any q a len cap zs i1 h1 8 _ C1 hlen (by omega) (by omega)).mono ?_
  rintro e w2 ⟨b, i2, h2, rfl, C2, g2⟩
  have HD2 : Hid (DrP w q a len cap zs v ps w2) := HD1.out.1.next C2 g2
  have HC2 : Hid (Cur w2 q a len cap zs i2 h2) := C2
  clear C1 C2 g2
  cases b
  · go_wp2
    go_ret
    exact ⟨_, ps, rfl, HD2.out, by omega, HD1.out.2, HF1.out⟩
  go_wp2_with fail
  have hqw2 : q < w2.heap.size := World.block_lt_of_cell? _ _ HC2.out.c0
  refine (pickInt_cur q w2.heap.size 3 a len cap zs i2 h2 [-1, 3, 10000] _ (HC2.out.alloc _) hlen (fun j hj => lit_ints w2 [-1, 3, 10000] _ j hj) (by omega) 3 rfl (by omega) (by omega)).mono ?_
  rintro e w3 ⟨y, i3, h3, hy, rfl, C3, g3⟩
  have HY : Hid (Fit64 y) := by rcases list3 hy with rfl | rfl | rfl <;> exact ⟨by omega, by omega⟩
  clear hy
  have HD3 : Hid (DrP w q a len cap zs v ps w3) := (HD2.out.alloc _).next C3 g3
  have HC3 : Hid (Cur w3 q a len cap zs i3 h3) := C3
  clear C3 g3 HD2 HC2 hqw2
  go_wp2_with fail
  have hqw3 : q < w3.heap.size := World.block_lt_of_cell? _ _ HC3.out.c0
  refine (pickInt_cur q w3.heap.size 3 a len cap zs i3 h3 [5, 10000, 9223372036854775807] _ (HC3.out.alloc _) hlen (fun j hj => lit_ints w3 [5, 10000, 9223372036854775807] _ j hj) (by omega) 3 rfl (by omega) (by omega)).mono ?_
  rintro e w4 ⟨z, i4, h4, hz, rfl, C4, g4⟩
  have HZ : Hid (Fit64 z) := by rcases list3 hz with rfl | rfl | rfl <;> exact ⟨by omega, by omega⟩
  clear hz
  have HD4 : Hid (DrP w q a len cap zs v ps w4) := (HD3.out.alloc _).next C4 g4
  clear C4 g4 HD3 HC3 hqw3
  have hsz : w.heap.size ≤ w4.heap.size := HD4.out.grown.size
  go_wp2_with (first | go_skip | (with_reducible refine stopAppend2 rfl ?_))
  refine Stop.intro (wpList_append_own _ rfl _ _ 25 rfl w.heap.size 62 t0 (.agg #[.int .i64 0, .int .i64 0]) 2 16 Tryz.underlying25 hi hz0 hz1 hz2 rfl (by decide) _ ps.length ((flat ps).map (Value.int .i64)) rfl (HD4.out.own.alloc _) ⟨w4.heap.size, 0, none⟩ 1 1 [.int .i64 y, .int .i64 z] rfl rfl (cell_new2 _ _ _ _) (by intro u hu; simp at hu; rcases hu with rfl | rfl <;> rfl) (by unfold maxLen; omega) (by omega) (by simp; omega) ?_)
  intro v5 w5 hown hgrow _
  have HD5 : Hid (DrP w q a len cap zs v5 (ps ++ [(y, z)]) w5 ∧ v5 ≠ .slice none 0 0) := ⟨HD4.out.app HA.out hown hgrow, put_ne _ _ _ _ _ _ hown (by omega)⟩
  clear hown hgrow HD4
  go_wp2
  go_ret
  exact ⟨_, ps ++ [(y, z)], rfl, HD5.out.1, by simp; omega, HD5.out.2, fun p hp => (List.mem_append.1 hp).elim (HF1.out p) (fun hp => by rw [List.mem_singleton.1 hp]; exact ⟨HY.out, HZ.out⟩)⟩
/-- A drawn set, as the law has it. -/
structure SetAt (W : World) (a : Option Addr) (l c : Nat) (ps : Sp) : Prop where
  rd : ∃ F, RdP W a l ps F
  len : l ≤ 8
  cap : l ≤ c
  some : a = none → c = 0
theorem SetAt.below {W W' : World} {a : Option Addr} {l c : Nat} {ps : Sp} (h : SetAt W a l c ps) (b : Below W.heap.size W W') : SetAt W' a l c ps := by
  obtain ⟨F, hF⟩ := h.rd
  exact ⟨⟨F, hF.below b⟩, h.len, h.cap, h.some⟩
theorem DrP.at {w : World} {q : Nat} {a : Option Addr} {len cap : Nat} {zs : List Int} {v : Value} {ps : Sp} {W : World} (D : DrP w q a len cap zs v ps W) (hn : ps.length ≤ 8) (hne : v ≠ .slice none 0 0) : ∃ g c, v = .slice (some ⟨g, 0, none⟩) ps.length c ∧ SetAt W (some ⟨g, 0, none⟩) ps.length c ps ∧ ∃ F, RdP W (some ⟨g, 0, none⟩) ps.length ps F ∧ ∀ b ∈ F, w.heap.size ≤ b := by
  obtain ⟨a', c', F, e, hr, ho, _⟩ := rdP_of_own D.own
  rcases D.own.2 with ⟨e2, _⟩ | ⟨g, cp, cur, e2, h2, h3, h4, _⟩
  · exact absurd e2 hne
  · rw [e2] at e
    cases e
    exact ⟨g, c', e2, ⟨⟨F, hr⟩, hn, h4, fun e => by cases e⟩, F, hr, ho.ge⟩
end Go.Proofs.YtgkbhhlkaifnoaaGreatDoor
/- Slices of structs, whatever an element holds, as plain data. No statement of the seat is proved here. -/
namespace Go.Proofs.YtgkbhhlkaifnoaaGreatDoor
open Go.RowKit
/-- What an element is: how many cells it has, and how its value is read. -/
structure ElK (α : Type) where
  n : Nat
  R : World → Value → α → List Nat → Prop
  agree : ∀ {w w' : World} {v : Value} {x : α} {F : List Nat}, R w v x F → Agree w w' F → R w' v x F
  lt : ∀ {w : World} {v : Value} {x : α} {F : List Nat}, R w v x F → ∀ b ∈ F, b < w.heap.size
  cells : ∀ {w : World} {v : Value} {x : α} {F : List Nat}, R w v x F → ∃ cs : Array Value, v = .agg cs ∧ cs.size = n ∧ cs.all (·.oneCell') = true
  pos : 0 < n
section
variable {α : Type} (K : ElK α)
/-- From off on block b holds these elements. -/
def RdEls (w : World) (b : Nat) : List α → Nat → List Nat → Prop
  | [], _, F => F = []
  | x :: xs, off, F => ∃ (cs : Array Value) (F1 F2 : List Nat), cs.size = K.n ∧ (∀ j, j < K.n → w.cell? ⟨b, off + j, none⟩ = cs[j]?) ∧ K.R w (.agg cs) x F1 ∧ RdEls w b xs (off + K.n) F2 ∧ F = F1 ++ F2
/-- The cells of several elements, one behind the other. -/
def RdC (w : World) : List α → List Value → List Nat → Prop
  | [], vs, F => vs = [] ∧ F = []
  | x :: xs, vs, F => ∃ (cs : Array Value) (vs' : List Value) (F1 F2 : List Nat), vs = cs.toList ++ vs' ∧ cs.size = K.n ∧ K.R w (.agg cs) x F1 ∧ RdC w xs vs' F2 ∧ F = F1 ++ F2
/-- A slice of such elements that can be read; F: its block, and theirs. -/
structure RdL (w : World) (a : Option Addr) (len : Nat) (xs : List α) (F : List Nat) : Prop where
  length : xs.length = len
  cells : (len = 0 ∧ F = []) ∨ ∃ b off F', 0 < len ∧ a = some ⟨b, off, none⟩ ∧ F = b :: F' ∧ RdEls K w b xs off F'
end
section
variable {α : Type} {K : ElK α} {w w' : World}
theorem RdEls.agree : ∀ {xs : List α} {b off : Nat} {F : List Nat}, RdEls K w b xs off F → w'.heap[b]? = w.heap[b]? → Agree w w' F → RdEls K w' b xs off F
  | [], b, off, F, h, _, _ => h
  | x :: xs, b, off, F, h, hb, ha => by
    obtain ⟨cs, F1, F2, h1, h2, h3, h4, rfl⟩ := h
    exact ⟨cs, F1, F2, h1, fun j hj => (World.cell?_of_block (w := w) (a := ⟨b, off + j, none⟩) hb).trans (h2 j hj), K.agree h3 ha.left, RdEls.agree h4 hb ha.right, rfl⟩
theorem RdEls.lt : ∀ {xs : List α} {b off : Nat} {F : List Nat}, RdEls K w b xs off F → ∀ x ∈ F, x < w.heap.size
  | [], b, off, F, h => by rw [RdEls] at h; simp [h]
  | x :: xs, b, off, F, h => by
    obtain ⟨cs, F1, F2, h1, h2, h3, h4, rfl⟩ := h
    intro y hy
    rcases List.mem_append.1 hy with hy | hy
    · exact K.lt h3 y hy
    · exact RdEls.lt h4 y hy
theorem RdEls.get : ∀ {xs : List α} {b off : Nat} {F : List Nat}, RdEls K w b xs off F → ∀ (i : Nat) (hi : i < xs.length), ∃ (cs : Array Value) (Fi : List Nat), cs.size = K.n ∧ (∀ j, j < K.n → w.cell? ⟨b, off + i * K.n + j, none⟩ = cs[j]?) ∧ K.R w (.agg cs) xs[i] Fi ∧ ∀ y ∈ Fi, y ∈ F
  | [], b, off, F, h, i, hi => by simp at hi
  | x :: xs, b, off, F, h, i, hi => by
    obtain ⟨cs, F1, F2, h1, h2, h3, h4, rfl⟩ := h
    cases i with
    | zero => exact ⟨cs, F1, h1, fun j hj => by rw [Nat.zero_mul, Nat.add_zero]; exact h2 j hj, h3, fun y hy => List.mem_append_left _ hy⟩
    | succ i =>
      obtain ⟨ds, Fi, k1, k2, k3, k4⟩ := RdEls.get h4 i (by simpa using hi)
      refine ⟨ds, Fi, k1, fun j hj => ?_, k3, fun y hy => List.mem_append_right _ (k4 y hy)⟩
      rw [show off + (i + 1) * K.n + j = off + K.n + i * K.n + j by rw [Nat.succ_mul]; omega]
      exact k2 j hj
theorem RdEls.first {x : α} {xs : List α} {b off : Nat} {F : List Nat} (h : RdEls K w b (x :: xs) off F) : b < w.heap.size := by
  obtain ⟨cs, F1, F2, h1, h2, _⟩ := h
  have c := h2 0 K.pos
  rw [Array.getElem?_eq_getElem (by rw [h1]; exact K.pos)] at c
  exact World.block_lt_of_cell? _ _ c
theorem RdL.agree {a : Option Addr} {len : Nat} {xs : List α} {F : List Nat} (h : RdL K w a len xs F) (ha : Agree w w' F) : RdL K w' a len xs F := by
  refine ⟨h.length, ?_⟩
  rcases h.cells with h0 | ⟨b, off, F', hp, e, rfl, hm⟩
  · exact .inl h0
  · exact .inr ⟨b, off, F', hp, e, rfl, hm.agree (ha b List.mem_cons_self) (fun x hx => ha x (List.mem_cons_of_mem _ hx))⟩
theorem RdL.lt {a : Option Addr} {len : Nat} {xs : List α} {F : List Nat} (h : RdL K w a len xs F) : ∀ b ∈ F, b < w.heap.size := by
  rcases h.cells with ⟨_, rfl⟩ | ⟨b, off, F', hp, e, rfl, hm⟩
  · simp
  · intro x hx
    rcases List.mem_cons.1 hx with rfl | hx
    · cases xs with
      | nil => have := h.length; simp at this; omega
      | cons y ys => exact hm.first
    · exact hm.lt x hx
theorem RdL.below {a : Option Addr} {len : Nat} {xs : List α} {F : List Nat} (h : RdL K w a len xs F) (hb : Below w.heap.size w w') : RdL K w' a len xs F := h.agree (.below hb h.lt)
theorem RdL.nil : RdL K w none 0 [] [] := ⟨rfl, .inl ⟨rfl, rfl⟩⟩
theorem RdL.zero {a : Option Addr} : RdL K w a 0 [] [] := ⟨rfl, .inl ⟨rfl, rfl⟩⟩
/-- One of its elements: its cells, what they hold. -/
theorem RdL.get {a : Option Addr} {len : Nat} {xs : List α} {F : List Nat} (h : RdL K w a len xs F) (i : Nat) (hi : i < len) : ∃ b off, a = some ⟨b, off, none⟩ ∧ b ∈ F ∧ ∃ (cs : Array Value) (Fi : List Nat), cs.size = K.n ∧ (∀ j, j < K.n → w.cell? ⟨b, off + i * K.n + j, none⟩ = cs[j]?) ∧ (∀ x, xs[i]? = some x → K.R w (.agg cs) x Fi) ∧ ∀ y ∈ Fi, y ∈ F := by
  rcases h.cells with ⟨h0, _⟩ | ⟨b, off, F', hp, e, rfl, hm⟩
  · omega
  · obtain ⟨cs, Fi, k1, k2, k3, k4⟩ := hm.get i (by rw [h.length]; exact hi)
    refine ⟨b, off, e, List.mem_cons_self, cs, Fi, k1, k2, fun x hx => ?_, fun y hy => List.mem_cons_of_mem _ (k4 y hy)⟩
    rw [List.getElem?_eq_getElem (by rw [h.length]; exact hi)] at hx
    cases hx
    exact k3
theorem RdC.agree : ∀ {xs : List α} {vs : List Value} {F : List Nat}, RdC K w xs vs F → Agree w w' F → RdC K w' xs vs F
  | [], vs, F, h, _ => h
  | x :: xs, vs, F, h, ha => by
    obtain ⟨cs, vs', F1, F2, h1, h2, h3, h4, rfl⟩ := h
    exact ⟨cs, vs', F1, F2, h1, h2, K.agree h3 ha.left, RdC.agree h4 ha.right, rfl⟩
theorem RdC.lt : ∀ {xs : List α} {vs : List Value} {F : List Nat}, RdC K w xs vs F → ∀ x ∈ F, x < w.heap.size
  | [], vs, F, h => by rw [RdC] at h; simp [h.2]
  | x :: xs, vs, F, h => by
    obtain ⟨cs, vs', F1, F2, h1, h2, h3, h4, rfl⟩ := h
    intro y hy
    rcases List.mem_append.1 hy with hy | hy
    · exact K.lt h3 y hy
    · exact RdC.lt h4 y hy
theorem RdC.below {xs : List α} {vs : List Value} {F : List Nat} (h : RdC K w xs vs F) (hb : Below w.heap.size w w') : RdC K w' xs vs F := h.agree (.below hb h.lt)
theorem RdC.length : ∀ {xs : List α} {vs : List Value} {F : List Nat}, RdC K w xs vs F → vs.length = xs.length * K.n
  | [], vs, F, h => by rw [RdC] at h; simp [h.1]
  | x :: xs, vs, F, h => by
    obtain ⟨cs, vs', F1, F2, h1, h2, h3, h4, rfl⟩ := h
    rw [h1, List.length_append, Array.length_toList, h2, RdC.length h4, List.length_cons, Nat.succ_mul]; omega
theorem RdC.nil : RdC K w [] [] [] := ⟨rfl, rfl⟩
theorem RdC.snoc : ∀ {xs : List α} {vs : List Value} {F : List Nat} {x : α} {cs : Array Value} {G : List Nat}, RdC K w xs vs F → K.R w (.agg cs) x G → cs.size = K.n → RdC K w (xs ++ [x]) (vs ++ cs.toList) (F ++ G)
  | [], vs, F, x, cs, G, h, k, hs => by
    rw [RdC] at h
    obtain ⟨rfl, rfl⟩ := h
    exact ⟨cs, [], G, [], by simp, hs, k, RdC.nil, by simp⟩
  | y :: xs, vs, F, x, cs, G, h, k, hs => by
    obtain ⟨ds, vs', F1, F2, rfl, h2, h3, h4, rfl⟩ := h
    exact ⟨ds, vs' ++ cs.toList, F1, F2 ++ G, by simp, h2, h3, RdC.snoc h4 k hs, by simp⟩
/-- The cells lie in a block: the elements are read there. -/
theorem rdEls_of : ∀ {xs : List α} {vs : List Value} {F : List Nat} {g : Nat} (off : Nat), RdC K w xs vs F → (∀ i, i < vs.length → w.cell? ⟨g, off + i, none⟩ = vs[i]?) → RdEls K w g xs off F
  | [], vs, F, g, off, h, _ => by rw [RdC] at h; exact h.2
  | x :: xs, vs, F, g, off, h, hc => by
    obtain ⟨cs, vs', F1, F2, rfl, h2, h3, h4, rfl⟩ := h
    refine ⟨cs, F1, F2, h2, fun j hj => ?_, h3, rdEls_of (off + K.n) h4 (fun i hi => ?_), rfl⟩
    · have hl : j < cs.toList.length := by rw [Array.length_toList, h2]; exact hj
      rw [hc j (by rw [List.length_append]; omega), List.getElem?_append_left hl, Array.getElem?_toList]
    · have := hc (K.n + i) (by rw [List.length_append, Array.length_toList, h2]; omega)
      rw [show off + K.n + i = off + (K.n + i) by omega, this, List.getElem?_append_right (by rw [Array.length_toList, h2]; omega), Array.length_toList, h2, Nat.add_sub_cancel_left]
/-- A row that the call made, each of its elements with its own reading. -/
theorem rdL_of_own {B e m : Nat} {v : Value} {xs : List α} {vs : List Value} {G : List Nat} (h : w.ownsRow B e K.n v m vs) (hr : RdC K w xs vs G) (hG : Own B w G) (hd : ∀ g, v.ownBlock = some g → g ∉ G) : ∃ a cap F, v = .slice a m cap ∧ RdL K w a m xs F ∧ Own B w F ∧ (a = none → cap = 0) ∧ m ≤ cap := by
  have hl : xs.length = m := by
    have h1 := hr.length
    have h2 := h.1
    exact Nat.eq_of_mul_eq_mul_right K.pos (h1.symm.trans h2)
  rcases h.2 with ⟨e1, e2⟩ | ⟨g, cap, cur, e1, h1, h2, h3, h4, h5, h6⟩
  · subst e1
    subst e2
    obtain rfl : xs = [] := List.eq_nil_of_length_eq_zero hl
    exact ⟨_, 0, [], rfl, RdL.nil, Own.nil, fun _ => rfl, Nat.le_refl _⟩
  · subst e1
    by_cases h0 : m = 0
    · subst h0
      obtain rfl : xs = [] := List.eq_nil_of_length_eq_zero hl
      exact ⟨_, cap, [], rfl, RdL.zero, Own.nil, (fun e => by cases e), h3⟩
    · refine ⟨_, cap, g :: G, rfl, ⟨hl, .inr ⟨g, 0, G, by omega, rfl, rfl, rdEls_of 0 hr (fun i hi => ?_)⟩⟩, ⟨?_, fun b hb o => ?_, fun b hb => ?_⟩, (fun e => by cases e), h3⟩
      · rw [Nat.zero_add]; exact h.cellAt i (by rw [← h.1]; exact hi)
      · exact List.nodup_cons.2 ⟨hd g rfl, hG.nodup⟩
      · rcases List.mem_cons.1 hb with rfl | hb
        · exact h.frozenAt o
        · exact hG.free b hb o
      · rcases List.mem_cons.1 hb with rfl | hb
        · exact h1
        · exact hG.ge b hb
end
end Go.Proofs.YtgkbhhlkaifnoaaGreatDoor
/- Operations on a slice of structs: a whole element is loaded. No statement of the seat is proved here. -/
namespace Go.Proofs.YtgkbhhlkaifnoaaGreatDoor
open Go.RowKit
section
variable {P : Program} {ops : Array Oper} {Q : Exit → Act → World → Prop} {rest : List Oper} {a : Act} {w : World} {x y : Operand} {o : Oper} {S : World → Prop}
theorem run_loadVar_at (w : World) (g off n : Nat) (ty : TypeId) (cs : Array Value) (d : TypeDesc) (hc : ∀ j, j < n → w.cell? ⟨g, off + j, none⟩ = cs[j]?) (hn : cs.size = n) (hu : P.underlying ty = some d) (hd : (match d with | .struct _ | .array _ _ => true | _ => false) = true) (hi : (P.info? ty).map (·.size) = some n) :
    (loadVar ty ⟨g, off, none⟩).run P w = .ok (.agg cs) w := by
  have hlen : cs.toList.length = n := by rw [Array.length_toList, hn]
  have hl := run_loadCells_list (P := P) w ⟨g, off, none⟩ cs.toList (fun j v hv => by
      have hadd : (⟨g, off, none⟩ : Addr).add j = ⟨g, off + j, none⟩ := by unfold Addr.add; split <;> simp_all
      have hj : j < n := by rw [← hlen]; exact (List.getElem?_eq_some_iff.1 hv).1
      rw [hadd, hc j hj, ← hv, Array.getElem?_toList])
  rw [hlen] at hl
  cases hq : P.info? ty with
  | none => simp [hq] at hi
  | some i =>
    have hs : i.size = n := by simpa [hq] using hi
    have hagg : (isAgg ty).run P w = .ok true w := by
      unfold isAgg
      rw [Sem.run_bind, run_underlying hu w]
      cases d <;> simp_all
    simp only [loadVar, Sem.run_bind, hagg, sizeOf, typeInfo, Result.andThen_ok, if_true]
    simp [hq, hs, hl]
/-- A whole element out of memory, plain or guarded. -/
theorem load_at (ty : TypeId) (g off n : Nat) (cs : Array Value) (d : TypeDesc) (hc : ∀ j, j < n → w.cell? ⟨g, off + j, none⟩ = cs[j]?) (hn : cs.size = n) (hw : Region.wanted o (yielded ops a.tmps) = true) (ho : o.op = .load ty x) (hx : a.eval x = .pointer (some ⟨g, off, none⟩))
    (hu : P.underlying ty = some d) (hd : (match d with | .struct _ | .array _ _ => true | _ => false) = true) (hi : (P.info? ty).map (·.size) = some n)
    (h : wpList P ops Q rest (a.put o.dst (.agg cs)) w) : Stop (wpList P ops Q (o :: rest) a w) := by
  refine wpList_wanted hw fun K hK => ?_
  unfold Oper.wp execOp
  simp only [ho, hx, Instr.loadAt, Instr.sureAddr, Sem.run_bind, Sem.run_pure, Result.andThen_ok, run_loadVar_at w g off n ty cs d hc hn hu hd hi]
  exact hK _ _ h
/-- The same within a region that draws its order. -/
theorem yields_at (ty : TypeId) (g off n : Nat) (cs : Array Value) (d : TypeDesc) (hw : Region.wanted o (yielded ops a.tmps) = true) (ho : o.op = .load ty x) (hx : a.eval x = .pointer (some ⟨g, off, none⟩)) (hu : P.underlying ty = some d) (hd : (match d with | .struct _ | .array _ _ => true | _ => false) = true)
    (hi : (P.info? ty).map (·.size) = some n) (hn : cs.size = n) (hS : ∀ W, S W → ∀ j, j < n → W.cell? ⟨g, off + j, none⟩ = cs[j]?) : YieldsIf P ops S o (.agg cs) a :=
  .inl ⟨hw, fun W hW => by
    unfold execOp
    simp only [ho, hx, Instr.loadAt, Instr.sureAddr, Sem.run_bind, Sem.run_pure, Result.andThen_ok, run_loadVar_at W g off n ty cs d (hS W hW) hn hu hd hi]⟩
end
end Go.Proofs.YtgkbhhlkaifnoaaGreatDoor
/- A slice of structs that is made and filled, element by element. No statement of the seat is proved here. -/
namespace Go.Proofs.YtgkbhhlkaifnoaaGreatDoor
open Go.RowKit
section
variable {α : Type} {K : ElK α}
/-- A copy behind k rounds: what is filled, and the zeros behind it. -/
structure CopyL (K : ElK α) (w : World) (T : TypeId) (zs : List Value) (xs : List α) (k : Nat) (vs : List Value) (G : List Nat) (wr : World) : Prop where
  blk : Blk wr w.heap.size (vs ++ zs.drop (k * K.n)).toArray T
  rd : RdC K wr (xs.take k) vs G
  mine : Own (w.heap.size + 1) wr G
  bel : Below w.heap.size w wr
theorem take_snoc_at {xs : List α} {k : Nat} {x : α} (h : xs[k]? = some x) : xs.take (k + 1) = xs.take k ++ [x] := by
  rw [List.take_add_one, h]; rfl
theorem cut_fill {vs zs ds : List Value} {k n : Nat} (hv : vs.length = k * n) (hd : ds.length = n) : cutIn (vs ++ zs.drop (k * n)).toArray (k * n) ds.toArray = ((vs ++ ds) ++ zs.drop ((k + 1) * n)).toArray := by
  unfold cutIn
  simp only [List.size_toArray]
  rw [List.take_left' hv, hd, List.drop_append, hv, List.drop_drop, List.drop_of_length_le (by omega)]
  congr 1
  rw [List.nil_append]
  congr 2
  rw [Nat.succ_mul]; omega
theorem CopyL.step {w wr w2 : World} {T : TypeId} {zs : List Value} {xs : List α} {k : Nat} {vs : List Value} {G F : List Nat} {cs : Array Value} {x : α}
    (h : CopyL K w T zs xs k vs G wr) (hx : xs[k]? = some x) (hr : K.R w2 (.agg cs) x F) (hn : cs.size = K.n) (ho : Own wr.heap.size w2 F) (hb : Below wr.heap.size wr w2) :
    Blk w2 w.heap.size (vs ++ zs.drop (k * K.n)).toArray T ∧ cutIn (vs ++ zs.drop (k * K.n)).toArray (k * K.n) cs = ((vs ++ cs.toList) ++ zs.drop ((k + 1) * K.n)).toArray ∧
      CopyL K w T zs xs (k + 1) (vs ++ cs.toList) (G ++ F) (w2.setRow w.heap.size ((vs ++ cs.toList) ++ zs.drop ((k + 1) * K.n)).toArray) := by
  have hg := h.blk.lt
  have hk : k < xs.length := (List.getElem?_eq_some_iff.1 hx).1
  have hGlt := h.rd.lt
  have hv : vs.length = k * K.n := by rw [h.rd.length, List.length_take, Nat.min_eq_left (by omega)]
  have hG : w.heap.size ∉ G := fun hx => by have := h.mine.ge _ hx; omega
  have hF : w.heap.size ∉ F := fun hx => by have := ho.ge _ hx; omega
  have b2 := h.blk.below hb
  refine ⟨b2, ?_, ⟨b2.setRow, ?_, ?_, below_setRow (h.bel.trans (hb.mono (by omega))) (Nat.le_refl _) _⟩⟩
  · have := cut_fill (vs := vs) (zs := zs) (ds := cs.toList) (k := k) hv (by rw [Array.length_toList, hn])
    simpa using this
  · rw [take_snoc_at hx]
    exact RdC.snoc ((h.rd.below hb).agree (Agree.row hG _)) (K.agree hr (Agree.row hF _)) hn
  · have := (h.mine.below hGlt hb).join ho hGlt (by omega)
    exact this.agree (Agree.row (fun hx => (List.mem_append.1 hx).elim hG hF) _)
theorem CopyL.done {w wr : World} {T : TypeId} {zs : List Value} {xs : List α} {len : Nat} {vs : List Value} {G : List Nat} (h : CopyL K w T zs xs len vs G wr) (hl : xs.length = len) (hz : zs.length = len * K.n) :
    ∃ F, RdL K wr (some ⟨w.heap.size, 0, none⟩) len xs F ∧ Own w.heap.size wr F := by
  by_cases h0 : len = 0
  · subst h0
    obtain rfl : xs = [] := List.eq_nil_of_length_eq_zero hl
    exact ⟨[], RdL.zero, Own.nil⟩
  · have rd := h.rd
    rw [List.take_of_length_le (Nat.le_of_eq hl)] at rd
    have bk := h.blk
    rw [← hz, List.drop_length, List.append_nil] at bk
    refine ⟨w.heap.size :: G, ⟨hl, .inr ⟨_, 0, G, by omega, rfl, rfl, rdEls_of 0 rd (fun i hi => ?_)⟩⟩, ⟨?_, fun b hb o => ?_, fun b hb => ?_⟩⟩
    · rw [Nat.zero_add, bk.cell]; simp
    · exact List.nodup_cons.2 ⟨fun hx => by have := h.mine.ge _ hx; omega, h.mine.nodup⟩
    · rcases List.mem_cons.1 hb with rfl | hb
      · exact h.blk.frozen o
      · exact h.mine.free b hb o
    · rcases List.mem_cons.1 hb with rfl | hb
      · omega
      · have := h.mine.ge b hb; omega
end
end Go.Proofs.YtgkbhhlkaifnoaaGreatDoor
/- Frames, as plain data. No statement of the seat is proved here. -/
namespace Go.Proofs.YtgkbhhlkaifnoaaGreatDoor
open Go.RowKit
structure Fr where
  kind : Int
  agent : Int
  epoch : Int
  granted : Int
  taken : Sp
  item : It
  deriving DecidableEq
/-- A frame's value that can be read; F: its set's block, G: its item's. -/
def RdFr (w : World) (v : Value) (e : Fr) (F G : List Nat) : Prop :=
  ∃ b l c a1 n1 c1 a2 n2 c2 a3 n3 c3, v = .agg #[.int .i64 e.kind, .int .i64 e.agent, .int .i64 e.epoch, .int .i64 e.granted, .slice b l c, .int .i64 e.item.seq, .int .i64 e.item.cls, .int .i64 e.item.key, .int .i64 e.item.window, .int .i64 e.item.sk.count, .int .i64 e.item.sk.sum, .int .i64 e.item.sk.min, .int .i64 e.item.sk.max, .slice a1 n1 c1, .slice a2 n2 c2, .slice a3 n3 c3] ∧
    RdP w b l e.taken F ∧ RdIt w (.agg #[.int .i64 e.item.seq, .int .i64 e.item.cls, .int .i64 e.item.key, .int .i64 e.item.window, .int .i64 e.item.sk.count, .int .i64 e.item.sk.sum, .int .i64 e.item.sk.min, .int .i64 e.item.sk.max, .slice a1 n1 c1, .slice a2 n2 c2, .slice a3 n3 c3]) e.item G ∧ Capd b l c
theorem RdFr.agree {w w' : World} {v : Value} {e : Fr} {F G : List Nat} (h : RdFr w v e F G) (ha : Agree w w' F) (hg : Agree w w' G) : RdFr w' v e F G := by
  obtain ⟨b, l, c, a1, n1, c1, a2, n2, c2, a3, n3, c3, hv, hp, hr, hcp⟩ := h
  exact ⟨b, l, c, a1, n1, c1, a2, n2, c2, a3, n3, c3, hv, hp.agree ha, hr.agree hg, hcp⟩
theorem RdFr.lt1 {w : World} {v : Value} {e : Fr} {F G : List Nat} (h : RdFr w v e F G) : ∀ b ∈ F, b < w.heap.size := by
  obtain ⟨b, l, c, a1, n1, c1, a2, n2, c2, a3, n3, c3, hv, hp, hr, _⟩ := h
  exact hp.lt
theorem RdFr.lt2 {w : World} {v : Value} {e : Fr} {F G : List Nat} (h : RdFr w v e F G) : ∀ b ∈ G, b < w.heap.size := by
  obtain ⟨b, l, c, a1, n1, c1, a2, n2, c2, a3, n3, c3, hv, hp, hr, _⟩ := h
  exact hr.lt
theorem RdFr.below {w w' : World} {v : Value} {e : Fr} {F G : List Nat} (h : RdFr w v e F G) (hb : Below w.heap.size w w') : RdFr w' v e F G := h.agree (.below hb h.lt1) (.below hb h.lt2)
theorem Fr.eq_of {x y : Fr} (h1 : x.kind = y.kind) (h2 : x.agent = y.agent) (h3 : x.epoch = y.epoch) (h4 : x.granted = y.granted) (h5 : x.taken = y.taken) (h6 : x.item = y.item) : x = y := by
  cases x; cases y; simp_all
theorem RdIt.cells11 {w : World} {v : Value} {x : It} {F : List Nat} (h : RdIt w v x F) : ∃ a1 n1 c1 a2 n2 c2 a3 n3 c3, v = .agg #[.int .i64 x.seq, .int .i64 x.cls, .int .i64 x.key, .int .i64 x.window, .int .i64 x.sk.count, .int .i64 x.sk.sum, .int .i64 x.sk.min, .int .i64 x.sk.max, .slice a1 n1 c1, .slice a2 n2 c2, .slice a3 n3 c3] := by
  obtain ⟨a1, n1, c1, a2, n2, c2, a3, n3, c3, rfl, _⟩ := h
  exact ⟨a1, n1, c1, a2, n2, c2, a3, n3, c3, rfl⟩
theorem one11 (p q r s p' q' r' s' : Int) (a1 : Option Addr) (n1 c1 : Nat) (a2 : Option Addr) (n2 c2 : Nat) (a3 : Option Addr) (n3 c3 : Nat) : (#[Value.int .i64 p, .int .i64 q, .int .i64 r, .int .i64 s, .int .i64 p', .int .i64 q', .int .i64 r', .int .i64 s', .slice a1 n1 c1, .slice a2 n2 c2, .slice a3 n3 c3]).all (·.oneCell') = true := by
  simp [Value.oneCell']
theorem infoItA7 : (Tryz.prog.info? 33).map (·.size) = some 11 := by kernel_rfl
end Go.Proofs.YtgkbhhlkaifnoaaGreatDoor
/- Agents, as plain data. No statement of the seat is proved here. -/
namespace Go.Proofs.YtgkbhhlkaifnoaaGreatDoor
open Go.RowKit
/-- An item as an element of a slice. -/
def itK : ElK It where
  n := 11
  R := RdIt
  agree := fun h ha => RdIt.agree h ha
  lt := fun h => RdIt.lt h
  cells := fun h => by
    obtain ⟨a1, n1, c1, a2, n2, c2, a3, n3, c3, rfl⟩ := RdIt.cells11 h
    exact ⟨_, rfl, rfl, by simp [Value.oneCell']⟩
  pos := by decide
structure Ag where
  id : Int
  epoch : Int
  live : Bool
  granted : Int
  sealed : List It
  taken : Sp
  next : Int
  deriving DecidableEq
/-- An agent's value that can be read; F: its items' blocks, G: its set's. -/
def RdAg (w : World) (v : Value) (x : Ag) (F G : List Nat) : Prop :=
  ∃ a1 n1 c1 a2 n2 c2, v = .agg #[.int .i64 x.id, .int .i64 x.epoch, .bool x.live, .int .i64 x.granted, .slice a1 n1 c1, .slice a2 n2 c2, .int .i64 x.next] ∧
    RdL itK w a1 n1 x.sealed F ∧ RdP w a2 n2 x.taken G ∧ Capd a1 n1 c1 ∧ Capd a2 n2 c2
theorem RdAg.agree {w w' : World} {v : Value} {x : Ag} {F G : List Nat} (h : RdAg w v x F G) (ha : Agree w w' F) (hg : Agree w w' G) : RdAg w' v x F G := by
  obtain ⟨a1, n1, c1, a2, n2, c2, hv, h1, h2, k1, k2⟩ := h
  exact ⟨a1, n1, c1, a2, n2, c2, hv, h1.agree ha, h2.agree hg, k1, k2⟩
theorem RdAg.lt1 {w : World} {v : Value} {x : Ag} {F G : List Nat} (h : RdAg w v x F G) : ∀ b ∈ F, b < w.heap.size := by
  obtain ⟨a1, n1, c1, a2, n2, c2, hv, h1, h2, _⟩ := h
  exact h1.lt
theorem RdAg.lt2 {w : World} {v : Value} {x : Ag} {F G : List Nat} (h : RdAg w v x F G) : ∀ b ∈ G, b < w.heap.size := by
  obtain ⟨a1, n1, c1, a2, n2, c2, hv, h1, h2, _⟩ := h
  exact h2.lt
theorem RdAg.below {w w' : World} {v : Value} {x : Ag} {F G : List Nat} (h : RdAg w v x F G) (hb : Below w.heap.size w w') : RdAg w' v x F G := h.agree (.below hb h.lt1) (.below hb h.lt2)
theorem RdAg.cells {w : World} {v : Value} {x : Ag} {F G : List Nat} (h : RdAg w v x F G) : ∃ cs : Array Value, v = .agg cs ∧ cs.size = 7 ∧ cs.all (·.oneCell') = true := by
  obtain ⟨a1, n1, c1, a2, n2, c2, rfl, _⟩ := h
  exact ⟨_, rfl, rfl, by simp [Value.oneCell']⟩
def NewAg (w : World) (x : Ag) (e : Ending) (w' : World) : Prop := ∃ v F G, e = .returned v ∧ RdAg w' v x F G ∧ Own w.heap.size w' F ∧ Own w.heap.size w' G ∧ (∀ b ∈ F, b ∉ G) ∧ Below w.heap.size w w'
theorem Ag.eq_of {x y : Ag} (h1 : x.id = y.id) (h2 : x.epoch = y.epoch) (h3 : x.live = y.live) (h4 : x.granted = y.granted) (h5 : x.sealed = y.sealed) (h6 : x.taken = y.taken) (h7 : x.next = y.next) : x = y := by
  cases x; cases y; simp_all
end Go.Proofs.YtgkbhhlkaifnoaaGreatDoor
/- The walks through the model's l7Zero and FrameOk. No statement of the seat is proved here. -/
namespace Go.Proofs.YtgkbhhlkaifnoaaGreatDoor
open Go.RowKit
def It.zero : It := ⟨0, 0, 0, 0, Sk.zero⟩
/-- All of a set lies from 1 to m. -/
def Sp.under (ps : Sp) (m : Int) : Bool := (List.range ps.length).all fun k => decide (1 ≤ (ps.at k).1 ∧ (ps.at k).2 ≤ m)
theorem Sp.under_not {ps : Sp} {m : Int} {k : Nat} (hk : k < ps.length) (h : ¬ (1 ≤ (ps.at k).1 ∧ (ps.at k).2 ≤ m)) : ps.under m = false := by
  rw [Bool.eq_false_iff]
  intro e
  unfold Sp.under at e
  rw [List.all_eq_true] at e
  exact h (of_decide_eq_true (e k (List.mem_range.mpr hk)))
theorem Sp.under_all {ps : Sp} {m : Int} (h : ∀ k, k < ps.length → 1 ≤ (ps.at k).1 ∧ (ps.at k).2 ≤ m) : ps.under m = true := by
  unfold Sp.under
  rw [List.all_eq_true]
  exact fun k hk => decide_eq_true (h k (List.mem_range.mp hk))
def Sp.taken (ps : Sp) : Bool := (List.range ps.length).all fun k => decide (1 ≤ (ps.at k).1 ∧ (ps.at k).2 ≤ 60)
def Fr.ok (x : Fr) : Bool := decide (0 ≤ x.kind ∧ x.kind ≤ 3) && decide (0 ≤ x.agent ∧ x.agent ≤ 2) && decide (0 ≤ x.epoch ∧ x.epoch ≤ 1000) && decide (0 ≤ x.granted ∧ x.granted ≤ 60) && x.taken.ok && x.taken.taken && (if x.kind = 1 then x.item.ok else decide (x.item = It.zero))
theorem It.zero_iff {x : It} : x = It.zero ↔ x.seq = 0 ∧ x.cls = 0 ∧ x.key = 0 ∧ x.window = 0 ∧ x.sk.count = 0 ∧ x.sk.sum = 0 ∧ x.sk.min = 0 ∧ x.sk.max = 0 ∧ x.sk.hist.length = 0 ∧ x.sk.regs.length = 0 ∧ x.sk.rows.length = 0 := by
  constructor
  · rintro rfl
    exact ⟨rfl, rfl, rfl, rfl, rfl, rfl, rfl, rfl, rfl, rfl, rfl⟩
  · rcases x with ⟨p, q, r, s, ⟨c, u, m, n, h, g, o⟩⟩
    rintro ⟨h1, h2, h3, h4, h5, h6, h7, h8, h9, h10, h11⟩
    simp only at h1 h2 h3 h4 h5 h6 h7 h8 h9 h10 h11
    subst h1 h2 h3 h4 h5 h6 h7 h8
    rw [List.length_eq_zero_iff] at h9 h10 h11
    subst h9 h10 h11
    rfl
theorem RdSk.lens {w : World} {p q r s : Int} {a1 a2 a3 : Option Addr} {n1 n2 n3 c1 c2 c3 : Nat} {x : Sk} {F : List Nat} (h : RdSk w (.agg #[.int .i64 p, .int .i64 q, .int .i64 r, .int .i64 s, .slice a1 n1 c1, .slice a2 n2 c2, .slice a3 n3 c3]) x F) : x.hist.length = n1 ∧ x.regs.length = n2 ∧ x.rows.length = n3 := by
  obtain ⟨_, _, _, _, _, _, _, _, _, _, _, _, hv, h1, h2, h3, _⟩ := h
  simp only [Value.agg.injEq] at hv
  cases hv
  exact ⟨h1.length, h2.length, h3.length⟩
set_option maxRecDepth 100000 in
set_option maxHeartbeats 4000000 in
theorem l7Zero_any (v : Value) (x : It) (F : List Nat) (w : World) (h : RdIt w v x F) :
    Calls Tryz.prog 72 #[v] w fun e w' => e = .returned (.bool (decide (x = It.zero))) ∧ Below w.heap.size w w' := by
  obtain ⟨a1, n1, c1, a2, n2, c2, a3, n3, c3, rfl, hr⟩ := h
  have HL : Hid (x.sk.hist.length = n1 ∧ x.sk.regs.length = n2 ∧ x.sk.rows.length = n3) := hr.lens
  have HA : Hid (Blk (w.alloc (.cells #[.int .i64 x.seq, .int .i64 x.cls, .int .i64 x.key, .int .i64 x.window, .int .i64 x.sk.count, .int .i64 x.sk.sum, .int .i64 x.sk.min, .int .i64 x.sk.max, .slice a1 n1 c1, .slice a2 n2 c2, .slice a3 n3 c3] 33)) w.heap.size #[.int .i64 x.seq, .int .i64 x.cls, .int .i64 x.key, .int .i64 x.window, .int .i64 x.sk.count, .int .i64 x.sk.sum, .int .i64 x.sk.min, .int .i64 x.sk.max, .slice a1 n1 c1, .slice a2 n2 c2, .slice a3 n3 c3] 33) := Blk.made _ _ _
  have HB : Hid (Blk ((w.alloc (.cells #[.int .i64 x.seq, .int .i64 x.cls, .int .i64 x.key, .int .i64 x.window, .int .i64 x.sk.count, .int .i64 x.sk.sum, .int .i64 x.sk.min, .int .i64 x.sk.max, .slice a1 n1 c1, .slice a2 n2 c2, .slice a3 n3 c3] 33)).alloc (.cells #[.int .i64 0, .int .i64 0, .int .i64 0, .int .i64 0, .slice none 0 0, .slice none 0 0, .slice none 0 0] 31)) w.heap.size #[.int .i64 x.seq, .int .i64 x.cls, .int .i64 x.key, .int .i64 x.window, .int .i64 x.sk.count, .int .i64 x.sk.sum, .int .i64 x.sk.min, .int .i64 x.sk.max, .slice a1 n1 c1, .slice a2 n2 c2, .slice a3 n3 c3] 33 ∧ Blk ((w.alloc (.cells #[.int .i64 x.seq, .int .i64 x.cls, .int .i64 x.key, .int .i64 x.window, .int .i64 x.sk.count, .int .i64 x.sk.sum, .int .i64 x.sk.min, .int .i64 x.sk.max, .slice a1 n1 c1, .slice a2 n2 c2, .slice a3 n3 c3] 33)).alloc (.cells #[.int .i64 0, .int .i64 0, .int .i64 0, .int .i64 0, .slice none 0 0, .slice none 0 0, .slice none 0 0] 31)) (w.heap.size + 1) #[.int .i64 0, .int .i64 0, .int .i64 0, .int .i64 0, .slice none 0 0, .slice none 0 0, .slice none 0 0] 31 ∧ Below w.heap.size w ((w.alloc (.cells #[.int .i64 x.seq, .int .i64 x.cls, .int .i64 x.key, .int .i64 x.window, .int .i64 x.sk.count, .int .i64 x.sk.sum, .int .i64 x.sk.min, .int .i64 x.sk.max, .slice a1 n1 c1, .slice a2 n2 c2, .slice a3 n3 c3] 33)).alloc (.cells #[.int .i64 0, .int .i64 0, .int .i64 0, .int .i64 0, .slice none 0 0, .slice none 0 0, .slice none 0 0] 31))) := by
    refine ⟨(Blk.made _ _ _).below (Below.allocW _ (Below.refl _ _) (Nat.le_refl _)), ?_, Below.allocW _ (Below.allocW _ (Below.refl _ _) (Nat.le_refl _)) (by simp)⟩
    have e := Blk.made (w.alloc (.cells #[.int .i64 x.seq, .int .i64 x.cls, .int .i64 x.key, .int .i64 x.window, .int .i64 x.sk.count, .int .i64 x.sk.sum, .int .i64 x.sk.min, .int .i64 x.sk.max, .slice a1 n1 c1, .slice a2 n2 c2, .slice a3 n3 c3] 33)) #[.int .i64 0, .int .i64 0, .int .i64 0, .int .i64 0, .slice none 0 0, .slice none 0 0, .slice none 0 0] 31
    rw [World.size_alloc] at e
    exact e
  clear hr
  go_enter Tryz.func72, Tryz.ntmps72
  go_wp2_with (first | go_skip | (with_reducible refine stopLoad 31 rfl ?_))
  refine load_cut 31 w.heap.size 4 7 _ #[.int .i64 x.sk.count, .int .i64 x.sk.sum, .int .i64 x.sk.min, .int .i64 x.sk.max, .slice a1 n1 c1, .slice a2 n2 c2, .slice a3 n3 c3] 33 _ HA.out rfl rfl rfl Tryz.underlying31 rfl infoSkI (by simp) rfl ?_
  go_wp2_with (first | go_skip | (with_reducible refine stopStore 31 rfl ?_))
  refine store_known 31 (w.heap.size + 1) _ #[.int .i64 x.sk.count, .int .i64 x.sk.sum, .int .i64 x.sk.min, .int .i64 x.sk.max, .slice a1 n1 c1, .slice a2 n2 c2, .slice a3 n3 c3] 31 HB.out.2.1 rfl rfl rfl rfl (by kernel_rfl) rfl (one7 ..) ?_
  obtain ⟨W, hW⟩ : ∃ W, W = ((w.alloc (.cells #[.int .i64 x.seq, .int .i64 x.cls, .int .i64 x.key, .int .i64 x.window, .int .i64 x.sk.count, .int .i64 x.sk.sum, .int .i64 x.sk.min, .int .i64 x.sk.max, .slice a1 n1 c1, .slice a2 n2 c2, .slice a3 n3 c3] 33)).alloc (.cells #[.int .i64 0, .int .i64 0, .int .i64 0, .int .i64 0, .slice none 0 0, .slice none 0 0, .slice none 0 0] 31)).setRow (w.heap.size + 1) #[.int .i64 x.sk.count, .int .i64 x.sk.sum, .int .i64 x.sk.min, .int .i64 x.sk.max, .slice a1 n1 c1, .slice a2 n2 c2, .slice a3 n3 c3] := ⟨_, rfl⟩
  have HW : Hid (Blk W w.heap.size #[.int .i64 x.seq, .int .i64 x.cls, .int .i64 x.key, .int .i64 x.window, .int .i64 x.sk.count, .int .i64 x.sk.sum, .int .i64 x.sk.min, .int .i64 x.sk.max, .slice a1 n1 c1, .slice a2 n2 c2, .slice a3 n3 c3] 33 ∧ Blk W (w.heap.size + 1) #[.int .i64 x.sk.count, .int .i64 x.sk.sum, .int .i64 x.sk.min, .int .i64 x.sk.max, .slice a1 n1 c1, .slice a2 n2 c2, .slice a3 n3 c3] 31 ∧ Below w.heap.size w W) := by
    rw [hW]
    exact ⟨HB.out.1.setRowOther (by omega), HB.out.2.1.setRow, below_setRow HB.out.2.2 (by omega) _⟩
  rw [← hW]
  clear hW HB
  have d0 := HW.out.1.cell 0
  have f0 := HW.out.1.frozen 0
  have d1 := HW.out.1.cell 1
  have f1 := HW.out.1.frozen 1
  have d2 := HW.out.1.cell 2
  have f2 := HW.out.1.frozen 2
  have d3 := HW.out.1.cell 3
  have f3 := HW.out.1.frozen 3
  have g0 := HW.out.2.1.cell 0
  have y0 := HW.out.2.1.frozen 0
  have g1 := HW.out.2.1.cell 1
  have y1 := HW.out.2.1.frozen 1
  have g2 := HW.out.2.1.cell 2
  have y2 := HW.out.2.1.frozen 2
  have g3 := HW.out.2.1.cell 3
  have y3 := HW.out.2.1.frozen 3
  have g4 := HW.out.2.1.cell 4
  have y4 := HW.out.2.1.frozen 4
  have g5 := HW.out.2.1.cell 5
  have y5 := HW.out.2.1.frozen 5
  have g6 := HW.out.2.1.cell 6
  have y6 := HW.out.2.1.frozen 6
  simp only [aT, aZ, List.getElem?_cons_succ] at d0 d1 d2 d3 g0 g1 g2 g3 g4 g5 g6
  by_cases h0 : x.seq = 0
  rotate_left
  · have e0 : (x.seq == 0) = false := by simpa using h0
    have HV : Hid (decide (x = It.zero) = false) := decF (fun e => h0 (It.zero_iff.mp e).1)
    clear h0
    go_wp2
    go_ret
    exact ⟨ret_bool HV.out.symm, HW.out.2.2⟩
  have e0 : (x.seq == 0) = true := by simpa using h0
  have H0 : Hid (x.seq = 0) := h0
  clear h0
  by_cases h1 : x.cls = 0
  rotate_left
  · have e1 : (x.cls == 0) = false := by simpa using h1
    have HV : Hid (decide (x = It.zero) = false) := decF (fun e => h1 (It.zero_iff.mp e).2.1)
    clear h1
    go_wp2
    go_ret
    exact ⟨ret_bool HV.out.symm, HW.out.2.2⟩
  have e1 : (x.cls == 0) = true := by simpa using h1
  have H1 : Hid (x.cls = 0) := h1
  clear h1
  by_cases h2 : x.key = 0
  rotate_left
  · have e2 : (x.key == 0) = false := by simpa using h2
    have HV : Hid (decide (x = It.zero) = false) := decF (fun e => h2 (It.zero_iff.mp e).2.2.1)
    clear h2
    go_wp2
    go_ret
    exact ⟨ret_bool HV.out.symm, HW.out.2.2⟩
  have e2 : (x.key == 0) = true := by simpa using h2
  have H2 : Hid (x.key = 0) := h2
  clear h2
  by_cases h3 : x.window = 0
  rotate_left
  · have e3 : (x.window == 0) = false := by simpa using h3
    have HV : Hid (decide (x = It.zero) = false) := decF (fun e => h3 (It.zero_iff.mp e).2.2.2.1)
    clear h3
    go_wp2
    go_ret
    exact ⟨ret_bool HV.out.symm, HW.out.2.2⟩
  have e3 : (x.window == 0) = true := by simpa using h3
  have H3 : Hid (x.window = 0) := h3
  clear h3
  by_cases h4 : x.sk.count = 0
  rotate_left
  · have e4 : (x.sk.count == 0) = false := by simpa using h4
    have HV : Hid (decide (x = It.zero) = false) := decF (fun e => h4 (It.zero_iff.mp e).2.2.2.2.1)
    clear h4
    go_wp2
    go_ret
    exact ⟨ret_bool HV.out.symm, HW.out.2.2⟩
  have e4 : (x.sk.count == 0) = true := by simpa using h4
  have H4 : Hid (x.sk.count = 0) := h4
  clear h4
  by_cases h5 : x.sk.sum = 0
  rotate_left
  · have e5 : (x.sk.sum == 0) = false := by simpa using h5
    have HV : Hid (decide (x = It.zero) = false) := decF (fun e => h5 (It.zero_iff.mp e).2.2.2.2.2.1)
    clear h5
    go_wp2
    go_ret
    exact ⟨ret_bool HV.out.symm, HW.out.2.2⟩
  have e5 : (x.sk.sum == 0) = true := by simpa using h5
  have H5 : Hid (x.sk.sum = 0) := h5
  clear h5
  by_cases h6 : x.sk.min = 0
  rotate_left
  · have e6 : (x.sk.min == 0) = false := by simpa using h6
    have HV : Hid (decide (x = It.zero) = false) := decF (fun e => h6 (It.zero_iff.mp e).2.2.2.2.2.2.1)
    clear h6
    go_wp2
    go_ret
    exact ⟨ret_bool HV.out.symm, HW.out.2.2⟩
  have e6 : (x.sk.min == 0) = true := by simpa using h6
  have H6 : Hid (x.sk.min = 0) := h6
  clear h6
  by_cases h7 : x.sk.max = 0
  rotate_left
  · have e7 : (x.sk.max == 0) = false := by simpa using h7
    have HV : Hid (decide (x = It.zero) = false) := decF (fun e => h7 (It.zero_iff.mp e).2.2.2.2.2.2.2.1)
    clear h7
    go_wp2
    go_ret
    exact ⟨ret_bool HV.out.symm, HW.out.2.2⟩
  have e7 : (x.sk.max == 0) = true := by simpa using h7
  have H7 : Hid (x.sk.max = 0) := h7
  clear h7
  by_cases h8 : n1 = 0
  rotate_left
  · have e8 : ((((n1 : Nat) : Int)) == 0) = false := by simpa using h8
    have HV : Hid (decide (x = It.zero) = false) := decF (fun e => h8 (by rw [← HL.out.1]; exact (It.zero_iff.mp e).2.2.2.2.2.2.2.2.1))
    clear h8
    go_wp2
    go_ret
    exact ⟨ret_bool HV.out.symm, HW.out.2.2⟩
  have e8 : ((((n1 : Nat) : Int)) == 0) = true := by simpa using h8
  have H8 : Hid (n1 = 0) := h8
  clear h8
  by_cases h9 : n2 = 0
  rotate_left
  · have e9 : ((((n2 : Nat) : Int)) == 0) = false := by simpa using h9
    have HV : Hid (decide (x = It.zero) = false) := decF (fun e => h9 (by rw [← HL.out.2.1]; exact (It.zero_iff.mp e).2.2.2.2.2.2.2.2.2.1))
    clear h9
    go_wp2
    go_ret
    exact ⟨ret_bool HV.out.symm, HW.out.2.2⟩
  have e9 : ((((n2 : Nat) : Int)) == 0) = true := by simpa using h9
  have H9 : Hid (n2 = 0) := h9
  clear h9
  by_cases h10 : n3 = 0
  rotate_left
  · have e10 : ((((n3 : Nat) : Int)) == 0) = false := by simpa using h10
    have HV : Hid (decide (x = It.zero) = false) := decF (fun e => h10 (by rw [← HL.out.2.2]; exact (It.zero_iff.mp e).2.2.2.2.2.2.2.2.2.2))
    clear h10
    go_wp2
    go_ret
    exact ⟨ret_bool HV.out.symm, HW.out.2.2⟩
  have e10 : ((((n3 : Nat) : Int)) == 0) = true := by simpa using h10
  have H10 : Hid (n3 = 0) := h10
  clear h10
  have HV : Hid (decide (x = It.zero) = true) := decT (It.zero_iff.mpr ⟨H0.out, H1.out, H2.out, H3.out, H4.out, H5.out, H6.out, H7.out, HL.out.1.trans H8.out, HL.out.2.1.trans H9.out, HL.out.2.2.trans H10.out⟩)
  go_wp2
  go_ret
  exact ⟨ret_bool HV.out.symm, HW.out.2.2⟩
theorem Sp.taken_not {ps : Sp} {k : Nat} (hk : k < ps.length) (h : ¬ (1 ≤ (ps.at k).1 ∧ (ps.at k).2 ≤ 60)) : ps.taken = false := by
  rw [Bool.eq_false_iff]
  intro e
  unfold Sp.taken at e
  rw [List.all_eq_true] at e
  exact h (of_decide_eq_true (e k (List.mem_range.mpr hk)))
theorem Sp.taken_all {ps : Sp} (h : ∀ k, k < ps.length → 1 ≤ (ps.at k).1 ∧ (ps.at k).2 ≤ 60) : ps.taken = true := by
  unfold Sp.taken
  rw [List.all_eq_true]
  exact fun k hk => decide_eq_true (h k (List.mem_range.mp hk))
set_option maxRecDepth 100000 in
set_option maxHeartbeats 4000000 in
theorem frameOkSpec_any (v : Value) (x : Fr) (F G : List Nat) (w : World) (h : RdFr w v x F G) (hw : x.item.sk.wide) (hl : x.taken.length ≤ 140737488355328) :
    Calls Tryz.prog 35 #[v] w fun e w' => e = .returned (.bool x.ok) ∧ Below w.heap.size w w' := by
  obtain ⟨b, l, c, a1, n1, c1, a2, n2, c2, a3, n3, c3, rfl, hp, hr, _⟩ := h
  have HR : Hid (RdIt w (.agg #[.int .i64 x.item.seq, .int .i64 x.item.cls, .int .i64 x.item.key, .int .i64 x.item.window, .int .i64 x.item.sk.count, .int .i64 x.item.sk.sum, .int .i64 x.item.sk.min, .int .i64 x.item.sk.max, .slice a1 n1 c1, .slice a2 n2 c2, .slice a3 n3 c3]) x.item G ∧ x.item.sk.wide) := ⟨hr, hw⟩
  have HP : Hid (RdP w b l x.taken F ∧ l ≤ 140737488355328 ∧ x.taken.length = l) := ⟨hp, by rw [← hp.length]; exact hl, hp.length⟩
  have hl' : l ≤ 140737488355328 := HP.out.2.1
  have HB : Hid (Below w.heap.size w (w.alloc (.cells #[.int .i64 x.kind, .int .i64 x.agent, .int .i64 x.epoch, .int .i64 x.granted, .slice b l c, .int .i64 x.item.seq, .int .i64 x.item.cls, .int .i64 x.item.key, .int .i64 x.item.window, .int .i64 x.item.sk.count, .int .i64 x.item.sk.sum, .int .i64 x.item.sk.min, .int .i64 x.item.sk.max, .slice a1 n1 c1, .slice a2 n2 c2, .slice a3 n3 c3] 35)) ∧ Blk (w.alloc (.cells #[.int .i64 x.kind, .int .i64 x.agent, .int .i64 x.epoch, .int .i64 x.granted, .slice b l c, .int .i64 x.item.seq, .int .i64 x.item.cls, .int .i64 x.item.key, .int .i64 x.item.window, .int .i64 x.item.sk.count, .int .i64 x.item.sk.sum, .int .i64 x.item.sk.min, .int .i64 x.item.sk.max, .slice a1 n1 c1, .slice a2 n2 c2, .slice a3 n3 c3] 35)) w.heap.size #[.int .i64 x.kind, .int .i64 x.agent, .int .i64 x.epoch, .int .i64 x.granted, .slice b l c, .int .i64 x.item.seq, .int .i64 x.item.cls, .int .i64 x.item.key, .int .i64 x.item.window, .int .i64 x.item.sk.count, .int .i64 x.item.sk.sum, .int .i64 x.item.sk.min, .int .i64 x.item.sk.max, .slice a1 n1 c1, .slice a2 n2 c2, .slice a3 n3 c3] 35) := ⟨Below.allocW _ (Below.refl _ _) (Nat.le_refl _), Blk.made _ _ _⟩
  clear hr hw hp hl
  go_enter Tryz.func35, Tryz.ntmps35
  go_wp2_with fail
  refine (l1In_any _ _ _ _).mono ?_
  rintro e w2 ⟨rfl, hw2⟩
  have hw2' := hw2.symm
  subst hw2'
  clear hw2
  obtain ⟨d1, hd1⟩ : ∃ d, d = decide (0 ≤ x.kind ∧ x.kind ≤ 3) := ⟨_, rfl⟩
  rw [← hd1]
  have HD1 : Hid (d1 = decide (0 ≤ x.kind ∧ x.kind ≤ 3)) := hd1
  clear hd1
  cases d1
  · have HV : Hid (x.ok = false) := by show _ = _; unfold Fr.ok; rw [← HD1.out]; rfl
    go_wp2
    go_ret
    exact ⟨ret_bool HV.out.symm, HB.out.1⟩
  go_wp2_with fail
  refine (l6Agent_any _ _).mono ?_
  rintro e w2 ⟨rfl, hw2⟩
  have hw2' := hw2.symm
  subst hw2'
  clear hw2
  obtain ⟨d2, hd2⟩ : ∃ d, d = decide (0 ≤ x.agent ∧ x.agent ≤ 2) := ⟨_, rfl⟩
  rw [← hd2]
  have HD2 : Hid (d2 = decide (0 ≤ x.agent ∧ x.agent ≤ 2)) := hd2
  clear hd2
  cases d2
  · have HV : Hid (x.ok = false) := by show _ = _; unfold Fr.ok; rw [← HD1.out, ← HD2.out]; rfl
    go_wp2
    go_ret
    exact ⟨ret_bool HV.out.symm, HB.out.1⟩
  go_wp2_with fail
  refine (l1In_any _ _ _ _).mono ?_
  rintro e w2 ⟨rfl, hw2⟩
  have hw2' := hw2.symm
  subst hw2'
  clear hw2
  obtain ⟨d3, hd3⟩ : ∃ d, d = decide (0 ≤ x.epoch ∧ x.epoch ≤ 1000) := ⟨_, rfl⟩
  rw [← hd3]
  have HD3 : Hid (d3 = decide (0 ≤ x.epoch ∧ x.epoch ≤ 1000)) := hd3
  clear hd3
  cases d3
  · have HV : Hid (x.ok = false) := by show _ = _; unfold Fr.ok; rw [← HD1.out, ← HD2.out, ← HD3.out]; rfl
    go_wp2
    go_ret
    exact ⟨ret_bool HV.out.symm, HB.out.1⟩
  go_wp2_with fail
  refine (l1In_any _ _ _ _).mono ?_
  rintro e w2 ⟨rfl, hw2⟩
  have hw2' := hw2.symm
  subst hw2'
  clear hw2
  obtain ⟨d4, hd4⟩ : ∃ d, d = decide (0 ≤ x.granted ∧ x.granted ≤ 60) := ⟨_, rfl⟩
  rw [← hd4]
  have HD4 : Hid (d4 = decide (0 ≤ x.granted ∧ x.granted ≤ 60)) := hd4
  clear hd4
  cases d4
  · have HV : Hid (x.ok = false) := by show _ = _; unfold Fr.ok; rw [← HD1.out, ← HD2.out, ← HD3.out, ← HD4.out]; rfl
    go_wp2
    go_ret
    exact ⟨ret_bool HV.out.symm, HB.out.1⟩
  have HOK : Hid (x.ok = (x.taken.ok && x.taken.taken && (if x.kind = 1 then x.item.ok else decide (x.item = It.zero)))) := by show _ = _; unfold Fr.ok; rw [← HD1.out, ← HD2.out, ← HD3.out, ← HD4.out]; rfl
  clear HD1 HD2 HD3 HD4
  go_wp2_with fail
  refine (setOkSpec_any b l c x.taken F _ (HP.out.1.below HB.out.1) HP.out.2.1).mono ?_
  rintro e w2 ⟨rfl, hq⟩
  have HB2 : Hid (Below w.heap.size w w2 ∧ Blk w2 w.heap.size #[.int .i64 x.kind, .int .i64 x.agent, .int .i64 x.epoch, .int .i64 x.granted, .slice b l c, .int .i64 x.item.seq, .int .i64 x.item.cls, .int .i64 x.item.key, .int .i64 x.item.window, .int .i64 x.item.sk.count, .int .i64 x.item.sk.sum, .int .i64 x.item.sk.min, .int .i64 x.item.sk.max, .slice a1 n1 c1, .slice a2 n2 c2, .slice a3 n3 c3] 35) := ⟨Below.next HB.out.1 (quiet_below hq), HB.out.2.below (quiet_below hq)⟩
  obtain ⟨d5, hd5⟩ : ∃ d, d = x.taken.ok := ⟨_, rfl⟩
  rw [← hd5]
  have HD5 : Hid (d5 = x.taken.ok) := hd5
  clear hd5 hq HB
  cases d5
  · have HV : Hid (x.ok = false) := by show _ = _; rw [HOK.out, ← HD5.out]; rfl
    go_wp2
    go_ret
    exact ⟨ret_bool HV.out.symm, HB2.out.1⟩
  have c0 := HB2.out.2.cell 0
  have c4 := HB2.out.2.cell 4
  have f0 := HB2.out.2.frozen 0
  have f4 := HB2.out.2.frozen 4
  simp only [aT, aZ, List.getElem?_cons_succ] at c0 c4
  go_wp2
  go_loopw [3] (fun i wr => ∃ (k : Nat), k ≤ l ∧ i = .int .i64 k ∧ wr = w2 ∧ Hid (∀ j, j < k → 1 ≤ (x.taken.at j).1 ∧ (x.taken.at j).2 ≤ 60)) (fun i _ => l - (intOf i).toNat)
  case atStart => exact ⟨0, by omega, rfl, rfl, fun j hj => by omega⟩
  case round =>
    obtain ⟨k, hk, rfl, hwr, HN⟩ := hrel
    have hwr' := hwr.symm
    subst hwr'
    clear hwr
    by_cases hlt : k < l
    · rcases (HP.out.1.below HB2.out.1).cells with ⟨h0, _, _⟩ | ⟨b0, off, hp0, hb0, _, hc⟩
      · omega
      have hb0' := hb0.symm
      subst hb0'
      clear hb0
      obtain ⟨p, hp⟩ : ∃ p, p = (x.taken.at k).1 := ⟨_, rfl⟩
      obtain ⟨q, hq⟩ : ∃ p, p = (x.taken.at k).2 := ⟨_, rfl⟩
      have e := hc k hlt
      have HX : Hid (p = (x.taken.at k).1 ∧ q = (x.taken.at k).2) := ⟨hp, hq⟩
      have d1 : w2.cell? ⟨b0, off + k * 2, none⟩ = some (.int .i64 p) := by rw [hp]; exact e.1
      have d2 : w2.cell? ⟨b0, off + k * 2 + 1, none⟩ = some (.int .i64 q) := by rw [hq]; exact e.2
      have hI : (k : Int) < (l : Int) := by omega
      clear e hp hq hc hp0
      by_cases h1 : p < 1
      · have HV : Hid (x.ok = false) := by show _ = _; rw [HOK.out, Sp.taken_not (by rw [HP.out.2.2]; exact hlt) (fun e => absurd e.1 (by rw [← HX.out.1]; omega))]; simp
        go_wp2
        go_ret
        exact ⟨ret_bool HV.out.symm, HB2.out.1⟩
      by_cases h2 : 60 < q
      · have HV : Hid (x.ok = false) := by show _ = _; rw [HOK.out, Sp.taken_not (by rw [HP.out.2.2]; exact hlt) (fun e => absurd e.2 (by rw [← HX.out.2]; omega))]; simp
        go_wp2
        go_ret
        exact ⟨ret_bool HV.out.symm, HB2.out.1⟩
      have HN2 : Hid (∀ j, j < k + 1 → 1 ≤ (x.taken.at j).1 ∧ (x.taken.at j).2 ≤ 60) := all_up HN.out ⟨by rw [← HX.out.1]; omega, by rw [← HX.out.2]; omega⟩
      go_wp2
      go_roundw
      case rel => exact ⟨k + 1, by omega, by go_num, trivial, HN2⟩
      case measure => simp [intOf]; omega
    · have HOK2 : Hid (x.ok = (if x.kind = 1 then x.item.ok else decide (x.item = It.zero))) := by
        show _ = _
        rw [HOK.out, ← HD5.out, Sp.taken_all (fun j hj => HN.out j (by have := HP.out.2.2; omega))]
        rfl
      by_cases h1 : x.kind = 1
      · have e1 : (x.kind == 1) = true := by simpa using h1
        have HV : Hid (x.ok = x.item.ok) := by show _ = _; rw [HOK2.out, if_pos h1]
        clear h1
        go_wp2_with (first | go_skip | (with_reducible refine stopLoad 33 rfl ?_))
        refine load_cut 33 w.heap.size 5 11 _ #[.int .i64 x.item.seq, .int .i64 x.item.cls, .int .i64 x.item.key, .int .i64 x.item.window, .int .i64 x.item.sk.count, .int .i64 x.item.sk.sum, .int .i64 x.item.sk.min, .int .i64 x.item.sk.max, .slice a1 n1 c1, .slice a2 n2 c2, .slice a3 n3 c3] 35 _ HB2.out.2 rfl rfl rfl Tryz.underlying33 rfl infoItA (by simp) rfl ?_
        go_wp2_with fail
        refine (itemOkSpec_any _ x.item G _ (HR.out.1.below HB2.out.1) HR.out.2).mono ?_
        rintro e w3 ⟨rfl, hb3⟩
        have HB3 : Hid (Below w.heap.size w w3) := Below.next HB2.out.1 hb3
        clear hb3
        obtain ⟨d, hd⟩ : ∃ d, d = x.item.ok := ⟨_, rfl⟩
        rw [← hd] at HV ⊢
        clear hd
        go_wp2
        go_ret
        exact ⟨ret_bool HV.out.symm, HB3.out⟩
      · have e1 : (x.kind == 1) = false := by simpa using h1
        have HV : Hid (x.ok = decide (x.item = It.zero)) := by show _ = _; rw [HOK2.out, if_neg h1]
        clear h1
        go_wp2_with (first | go_skip | (with_reducible refine stopLoad 33 rfl ?_))
        refine load_cut 33 w.heap.size 5 11 _ #[.int .i64 x.item.seq, .int .i64 x.item.cls, .int .i64 x.item.key, .int .i64 x.item.window, .int .i64 x.item.sk.count, .int .i64 x.item.sk.sum, .int .i64 x.item.sk.min, .int .i64 x.item.sk.max, .slice a1 n1 c1, .slice a2 n2 c2, .slice a3 n3 c3] 35 _ HB2.out.2 rfl rfl rfl Tryz.underlying33 rfl infoItA (by simp) rfl ?_
        go_wp2_with fail
        refine (l7Zero_any _ x.item G _ (HR.out.1.below HB2.out.1)).mono ?_
        rintro e w3 ⟨rfl, hb3⟩
        have HB3 : Hid (Below w.heap.size w w3) := Below.next HB2.out.1 hb3
        clear hb3
        obtain ⟨d, hd⟩ : ∃ d, d = decide (x.item = It.zero) := ⟨_, rfl⟩
        rw [← hd] at HV ⊢
        clear hd
        go_wp2
        go_ret
        exact ⟨ret_bool HV.out.symm, HB3.out⟩
end Go.Proofs.YtgkbhhlkaifnoaaGreatDoor
/- The walks through the model's l8Below and AgentOk. No statement of the seat is proved here. -/
namespace Go.Proofs.YtgkbhhlkaifnoaaGreatDoor
open Go.RowKit
/-- Each item is right, and bears the number of its place. -/
def itsOk (xs : List It) : Bool := (List.range xs.length).all fun k => (xs.getD k It.zero).ok && decide ((xs.getD k It.zero).seq = (k : Int) + 1)
theorem getD_at {xs : List It} {k : Nat} {y : It} (h : xs[k]? = some y) : xs.getD k It.zero = y := by rw [List.getD_eq_getElem?_getD, h]; rfl
theorem itsOk_not {xs : List It} {k : Nat} {y : It} (hy : xs[k]? = some y) (h : y.ok = false ∨ ¬ y.seq = (k : Int) + 1) : itsOk xs = false := by
  have hk : k < xs.length := (List.getElem?_eq_some_iff.1 hy).1
  rw [Bool.eq_false_iff]
  intro e
  unfold itsOk at e
  rw [List.all_eq_true] at e
  have := e k (List.mem_range.mpr hk)
  rw [getD_at hy, Bool.and_eq_true] at this
  rcases h with h | h
  · rw [h] at this; cases this.1
  · exact h (of_decide_eq_true this.2)
theorem itsOk_all {xs : List It} (h : ∀ (k : Nat) (y : It), xs[k]? = some y → y.ok = true ∧ y.seq = (k : Int) + 1) : itsOk xs = true := by
  unfold itsOk
  rw [List.all_eq_true]
  intro k hk
  have hk' : k < xs.length := List.mem_range.mp hk
  have q := h k _ (List.getElem?_eq_getElem hk')
  rw [getD_at (List.getElem?_eq_getElem hk'), q.1, decide_eq_true q.2]
  rfl
theorem itsOk_at {xs : List It} (h : itsOk xs = true) {k : Nat} {y : It} (hy : xs[k]? = some y) : y.ok = true ∧ y.seq = (k : Int) + 1 := by
  refine ⟨?_, ?_⟩
  · by_cases q : y.ok = true
    · exact q
    · rw [itsOk_not hy (.inl (by simpa using q))] at h; cases h
  · by_cases q : y.seq = (k : Int) + 1
    · exact q
    · rw [itsOk_not hy (.inr q)] at h; cases h
/-- An agent that is right. -/
def Ag.ok (x : Ag) : Bool := decide (0 ≤ x.id ∧ x.id ≤ 2) && decide (0 ≤ x.epoch ∧ x.epoch ≤ 1000) && decide (0 ≤ x.granted ∧ x.granted ≤ 60) && decide (x.sealed.length ≤ 60) && decide (0 ≤ x.next ∧ x.next ≤ 60) && (x.taken.ok && x.taken.under x.sealed.length) && (x.live || decide (x.granted ≤ 0)) && itsOk x.sealed
theorem RdIt.first {w : World} {cs : Array Value} {y : It} {F : List Nat} (h : RdIt w (.agg cs) y F) : cs[0]? = some (.int .i64 y.seq) := by
  obtain ⟨a1, n1, c1, a2, n2, c2, a3, n3, c3, e⟩ := h.cells11
  injection e with e
  rw [e]
  rfl
set_option maxRecDepth 200000 in
set_option maxHeartbeats 4000000 in
theorem l8Below_any (a : Option Addr) (len cap : Nat) (m : Int) (ps : Sp) (F : List Nat) (w : World) (h : RdP w a len ps F) (hlen : len ≤ 140737488355328) :
    Calls Tryz.prog 36 #[.slice a len cap, .int .i64 m] w fun e w' => e = .returned (.bool (ps.ok && ps.under m)) ∧ Below w.heap.size w w' := by
  have HP : Hid (RdP w a len ps F) := h
  clear h
  go_enter Tryz.func36, Tryz.ntmps36
  go_wp2_with fail
  refine (setOkSpec_any a len cap ps F _ HP.out hlen).mono ?_
  rintro e w2 ⟨rfl, hq⟩
  have HB2 : Hid (Below w.heap.size w w2) := quiet_below hq
  obtain ⟨d5, hd5⟩ : ∃ d, d = ps.ok := ⟨_, rfl⟩
  rw [← hd5]
  have HD5 : Hid (d5 = ps.ok) := hd5
  clear hd5 hq
  cases d5
  · have HV : Hid ((ps.ok && ps.under m) = false) := by show _ = _; rw [← HD5.out]; rfl
    go_wp2
    go_ret
    exact ⟨ret_bool HV.out.symm, HB2.out⟩
  go_wp2
  go_loopw [5] (fun i wr => ∃ (k : Nat), k ≤ len ∧ i = .int .i64 k ∧ wr = w2 ∧ Hid (∀ j, j < k → 1 ≤ (ps.at j).1 ∧ (ps.at j).2 ≤ m)) (fun i _ => len - (intOf i).toNat)
  case atStart => exact ⟨0, by omega, rfl, rfl, fun j hj => by omega⟩
  case round =>
    obtain ⟨k, hk, rfl, hwr, HN⟩ := hrel
    have hwr' := hwr.symm
    subst hwr'
    clear hwr
    by_cases hlt : k < len
    · rcases (HP.out.below HB2.out).cells with ⟨h0, _, _⟩ | ⟨b0, off, hp0, hb0, _, hc⟩
      · omega
      have hb0' := hb0.symm
      subst hb0'
      clear hb0
      obtain ⟨p, hp⟩ : ∃ p, p = (ps.at k).1 := ⟨_, rfl⟩
      obtain ⟨q, hq⟩ : ∃ p, p = (ps.at k).2 := ⟨_, rfl⟩
      have e := hc k hlt
      have HX : Hid (p = (ps.at k).1 ∧ q = (ps.at k).2 ∧ k < ps.length) := ⟨hp, hq, by rw [HP.out.length]; exact hlt⟩
      have d1 : w2.cell? ⟨b0, off + k * 2, none⟩ = some (.int .i64 p) := by rw [hp]; exact e.1
      have d2 : w2.cell? ⟨b0, off + k * 2 + 1, none⟩ = some (.int .i64 q) := by rw [hq]; exact e.2
      have hI : (k : Int) < (len : Int) := by omega
      clear e hp hq hc hp0
      by_cases h1 : p < 1
      · have HV : Hid (ps.under m = false) := Sp.under_not HX.out.2.2 (fun e => absurd e.1 (by rw [← HX.out.1]; omega))
        go_wp2
        go_ret
        exact ⟨ret_bool (by rw [HV.out]; simp), HB2.out⟩
      by_cases h2 : m < q
      · have HV : Hid (ps.under m = false) := Sp.under_not HX.out.2.2 (fun e => absurd e.2 (by rw [← HX.out.2.1]; omega))
        go_wp2
        go_ret
        exact ⟨ret_bool (by rw [HV.out]; simp), HB2.out⟩
      have HN2 : Hid (∀ j, j < k + 1 → 1 ≤ (ps.at j).1 ∧ (ps.at j).2 ≤ m) := all_up HN.out ⟨by rw [← HX.out.1]; omega, by rw [← HX.out.2.1]; omega⟩
      go_wp2
      go_roundw
      case rel => exact ⟨k + 1, by omega, by go_num, trivial, HN2⟩
      case measure => simp [intOf]; omega
    · have HV : Hid (ps.under m = true) := Sp.under_all (fun j hj => HN.out j (by have := HP.out.length; omega))
      go_wp2
      go_ret
      exact ⟨ret_bool (by rw [HV.out, ← HD5.out]; rfl), HB2.out⟩
theorem infoItG : (Tryz.prog.info? 33).map (·.size) = some 11 := by kernel_rfl
set_option maxRecDepth 200000 in
set_option maxHeartbeats 8000000 in
theorem agentOkSpec_any (v : Value) (x : Ag) (F G : List Nat) (w : World) (h : RdAg w v x F G) (hw : ∀ y ∈ x.sealed, y.sk.wide) (hs : x.sealed.length ≤ 140737488355328) (hl : x.taken.length ≤ 140737488355328) :
    Calls Tryz.prog 34 #[v] w fun e w' => e = .returned (.bool x.ok) ∧ Below w.heap.size w w' := by
  obtain ⟨a1, n1, c1, a2, n2, c2, rfl, hL, hP, _, _⟩ := h
  obtain ⟨lx, hlx⟩ : ∃ b, b = x.live := ⟨_, rfl⟩
  rw [← hlx]
  have HLX : Hid (lx = x.live) := hlx
  have HL : Hid (RdL itK w a1 n1 x.sealed F ∧ (∀ y ∈ x.sealed, y.sk.wide) ∧ x.sealed.length = n1) := ⟨hL, hw, hL.length⟩
  have HP : Hid (RdP w a2 n2 x.taken G ∧ n2 ≤ 140737488355328) := ⟨hP, by rw [← hP.length]; exact hl⟩
  have hn1 : n1 ≤ 140737488355328 := by rw [← hL.length]; exact hs
  have HB : Hid (Below w.heap.size w (w.alloc (.cells #[.int .i64 x.id, .int .i64 x.epoch, .bool lx, .int .i64 x.granted, .slice a1 n1 c1, .slice a2 n2 c2, .int .i64 x.next] 27)) ∧ Blk (w.alloc (.cells #[.int .i64 x.id, .int .i64 x.epoch, .bool lx, .int .i64 x.granted, .slice a1 n1 c1, .slice a2 n2 c2, .int .i64 x.next] 27)) w.heap.size #[.int .i64 x.id, .int .i64 x.epoch, .bool lx, .int .i64 x.granted, .slice a1 n1 c1, .slice a2 n2 c2, .int .i64 x.next] 27) := ⟨Below.allocW _ (Below.refl _ _) (Nat.le_refl _), Blk.made _ _ _⟩
  have HOK0 : Hid (x.ok = (decide (0 ≤ x.id ∧ x.id ≤ 2) && decide (0 ≤ x.epoch ∧ x.epoch ≤ 1000) && decide (0 ≤ x.granted ∧ x.granted ≤ 60) && decide (n1 ≤ 60) && decide (0 ≤ x.next ∧ x.next ≤ 60) && (x.taken.ok && x.taken.under n1) && (lx || decide (x.granted ≤ 0)) && itsOk x.sealed)) := by
    show _ = _
    unfold Ag.ok
    rw [hL.length, hlx]
  clear hL hP hw hs hl hlx
  go_enter Tryz.func34, Tryz.ntmps34
  go_wp2_with fail
  refine (l6Agent_any _ _).mono ?_
  rintro e w2 ⟨rfl, hw2⟩
  have hw2' := hw2.symm
  subst hw2'
  clear hw2
  obtain ⟨d1, hd1⟩ : ∃ d, d = decide (0 ≤ x.id ∧ x.id ≤ 2) := ⟨_, rfl⟩
  rw [← hd1]
  have HD1 : Hid (d1 = decide (0 ≤ x.id ∧ x.id ≤ 2)) := hd1
  clear hd1
  cases d1
  · have HV : Hid (x.ok = false) := by show _ = _; rw [HOK0.out, ← HD1.out]; simp
    go_wp2
    go_ret
    exact ⟨ret_bool HV.out.symm, HB.out.1⟩
  go_wp2_with fail
  refine (l1In_any _ _ _ _).mono ?_
  rintro e w2 ⟨rfl, hw2⟩
  have hw2' := hw2.symm
  subst hw2'
  clear hw2
  obtain ⟨d2, hd2⟩ : ∃ d, d = decide (0 ≤ x.epoch ∧ x.epoch ≤ 1000) := ⟨_, rfl⟩
  rw [← hd2]
  have HD2 : Hid (d2 = decide (0 ≤ x.epoch ∧ x.epoch ≤ 1000)) := hd2
  clear hd2
  cases d2
  · have HV : Hid (x.ok = false) := by show _ = _; rw [HOK0.out, ← HD1.out, ← HD2.out]; simp
    go_wp2
    go_ret
    exact ⟨ret_bool HV.out.symm, HB.out.1⟩
  go_wp2_with fail
  refine (l1In_any _ _ _ _).mono ?_
  rintro e w2 ⟨rfl, hw2⟩
  have hw2' := hw2.symm
  subst hw2'
  clear hw2
  obtain ⟨d3, hd3⟩ : ∃ d, d = decide (0 ≤ x.granted ∧ x.granted ≤ 60) := ⟨_, rfl⟩
  rw [← hd3]
  have HD3 : Hid (d3 = decide (0 ≤ x.granted ∧ x.granted ≤ 60)) := hd3
  clear hd3
  cases d3
  · have HV : Hid (x.ok = false) := by show _ = _; rw [HOK0.out, ← HD1.out, ← HD2.out, ← HD3.out]; simp
    go_wp2
    go_ret
    exact ⟨ret_bool HV.out.symm, HB.out.1⟩
  by_cases h60 : 60 < n1
  · have hd : decide ((60 : Int) < (n1 : Int)) = true := dec_true (by omega)
    have HV : Hid (x.ok = false) := by show _ = _; rw [HOK0.out, decide_eq_false (by omega : ¬ n1 ≤ 60)]; simp
    go_wp2
    go_ret
    exact ⟨ret_bool HV.out.symm, HB.out.1⟩
  have hd60 : decide ((60 : Int) < (n1 : Int)) = false := dec_false (by omega)
  go_wp2_with fail
  refine (l1In_any _ _ _ _).mono ?_
  rintro e w2 ⟨rfl, hw2⟩
  have hw2' := hw2.symm
  subst hw2'
  clear hw2
  obtain ⟨d4, hd4⟩ : ∃ d, d = decide (0 ≤ x.next ∧ x.next ≤ 60) := ⟨_, rfl⟩
  rw [← hd4]
  have HD4 : Hid (d4 = decide (0 ≤ x.next ∧ x.next ≤ 60)) := hd4
  clear hd4
  cases d4
  · have HV : Hid (x.ok = false) := by show _ = _; rw [HOK0.out, ← HD1.out, ← HD2.out, ← HD3.out, ← HD4.out]; simp
    go_wp2
    go_ret
    exact ⟨ret_bool HV.out.symm, HB.out.1⟩
  have HOK : Hid (x.ok = ((x.taken.ok && x.taken.under n1) && (lx || decide (x.granted ≤ 0)) && itsOk x.sealed)) := by
    show _ = _
    rw [HOK0.out, ← HD1.out, ← HD2.out, ← HD3.out, ← HD4.out, decide_eq_true (by omega : n1 ≤ 60)]
    rfl
  clear HOK0 HD1 HD2 HD3 HD4
  go_wp2_with fail
  refine (l8Below_any a2 n2 c2 n1 x.taken G _ (HP.out.1.below HB.out.1) HP.out.2).mono ?_
  rintro e w3 ⟨rfl, hb3⟩
  have HB3 : Hid (Below w.heap.size w w3 ∧ Blk w3 w.heap.size #[.int .i64 x.id, .int .i64 x.epoch, .bool lx, .int .i64 x.granted, .slice a1 n1 c1, .slice a2 n2 c2, .int .i64 x.next] 27) := ⟨Below.next HB.out.1 hb3, HB.out.2.below hb3⟩
  obtain ⟨d5, hd5⟩ : ∃ d, d = (x.taken.ok && x.taken.under n1) := ⟨_, rfl⟩
  rw [← hd5]
  have HD5 : Hid (d5 = (x.taken.ok && x.taken.under n1)) := hd5
  clear hd5 hb3 HB
  have c2' := HB3.out.2.cell 2
  have c3' := HB3.out.2.cell 3
  have c4' := HB3.out.2.cell 4
  simp only [aT, aZ, List.getElem?_cons_succ] at c2' c3' c4'
  cases d5
  · have HV : Hid (x.ok = false) := by show _ = _; rw [HOK.out, ← HD5.out]; rfl
    go_wp2
    go_ret
    exact ⟨ret_bool HV.out.symm, HB3.out.1⟩
  have HLIVE : Hid ((lx || decide (x.granted ≤ 0)) = true → x.ok = itsOk x.sealed) := fun e => by rw [HOK.out, ← HD5.out, e]; rfl
  have HDEAD : Hid ((lx || decide (x.granted ≤ 0)) = false → x.ok = false) := fun e => by rw [HOK.out, ← HD5.out, e]; rfl
  clear HOK HD5
  cases lx
  · by_cases hg : 0 < x.granted
    · have hgd : decide (0 < x.granted) = true := dec_true hg
      have HV : Hid (x.ok = false) := HDEAD.out (by rw [decide_eq_false (by omega : ¬ x.granted ≤ 0)]; rfl)
      go_wp2
      go_ret
      exact ⟨ret_bool HV.out.symm, HB3.out.1⟩
    have hgd : decide (0 < x.granted) = false := dec_false hg
    have HOKF : Hid (x.ok = itsOk x.sealed) := HLIVE.out (by rw [decide_eq_true (by omega : x.granted ≤ 0)]; rfl)
    go_wp2_with fail
    go_loopw [3] (fun i wr => ∃ (k : Nat), k ≤ n1 ∧ i = .int .i64 k ∧ Hid (Below w.heap.size w wr ∧ Blk wr w.heap.size #[.int .i64 x.id, .int .i64 x.epoch, .bool false, .int .i64 x.granted, .slice a1 n1 c1, .slice a2 n2 c2, .int .i64 x.next] 27 ∧ ∀ j y, j < k → x.sealed[j]? = some y → y.ok = true ∧ y.seq = (j : Int) + 1)) (fun i _ => n1 - (intOf i).toNat)
    case atStart => exact ⟨0, by omega, rfl, HB3.out.1, HB3.out.2, fun j y hj => by omega⟩
    case round =>
      obtain ⟨k, hk, rfl, HR⟩ := hrel
      have c4' := HR.out.2.1.cell 4
      simp only [aT, aZ, List.getElem?_cons_succ] at c4'
      by_cases hlt : k < n1
      · have hI : (k : Int) < (n1 : Int) := by omega
        obtain ⟨b, off, ha, hbF, cs, Fi, hcs, hcc, hr, _⟩ := HL.out.1.get k hlt
        have ha' := ha.symm
        subst ha'
        have hbw : b < w.heap.size := HL.out.1.lt b hbF
        obtain ⟨y, hy⟩ : ∃ y, x.sealed[k]? = some y := ⟨_, List.getElem?_eq_getElem (by rw [HL.out.2.2]; exact hlt)⟩
        have HY : Hid (x.sealed[k]? = some y ∧ y.sk.wide ∧ cs.size = 11 ∧ RdIt w (.agg cs) y Fi) := ⟨hy, HL.out.2.1 y (List.mem_of_getElem? hy), hcs, hr y hy⟩
        have HCW : Hid (∀ W, Below w.heap.size w W → (∀ j, j < 11 → W.cell? ⟨b, off + k * 11 + j, none⟩ = cs[j]?) ∧ RdIt W (.agg cs) y Fi) := fun W hB => ⟨fun j hj => by
          have q := hcc j hj
          have q2 : W.cell? ⟨b, off + k * 11 + j, none⟩ = w.cell? ⟨b, off + k * 11 + j, none⟩ := hB.cell (p := ⟨b, off + k * 11 + j, none⟩) hbw
          exact q2.trans q, HY.out.2.2.2.below hB⟩
        clear ha hbF hcs hcc hr hy
        go_wp2_with (first | go_skip | (with_reducible refine stopLoad 33 rfl ?_))
        refine load_at 33 b (off + k * 11) 11 cs _ (HCW.out _ HR.out.1).1 HY.out.2.2.1 rfl rfl rfl Tryz.underlying33 rfl infoItG ?_
        go_wp2_with fail
        refine (itemOkSpec_any _ y Fi _ (HCW.out _ HR.out.1).2 HY.out.2.1).mono ?_
        rintro e w4 ⟨rfl, hb4⟩
        have HR4 : Hid (Below w.heap.size w w4 ∧ Blk w4 w.heap.size #[.int .i64 x.id, .int .i64 x.epoch, .bool false, .int .i64 x.granted, .slice (some ⟨b, off, none⟩) n1 c1, .slice a2 n2 c2, .int .i64 x.next] 27) := ⟨Below.next HR.out.1 hb4, HR.out.2.1.below hb4⟩
        obtain ⟨d, hd⟩ : ∃ d, d = y.ok := ⟨_, rfl⟩
        rw [← hd]
        have HD : Hid (d = y.ok) := hd
        clear hd hb4 c4'
        cases d
        · have HV : Hid (x.ok = false) := by show _ = _; rw [HOKF.out]; exact itsOk_not HY.out.1 (.inl HD.out.symm)
          go_wp2
          go_ret
          exact ⟨ret_bool HV.out.symm, HR4.out.1⟩
        have c4' := HR4.out.2.cell 4
        simp only [aT, aZ, List.getElem?_cons_succ] at c4'
        have cq : w4.cell? ⟨b, off + k * 11, none⟩ = some (.int .i64 y.seq) := by
          have := (HCW.out _ HR4.out.1).1 0 (by omega)
          rw [Nat.add_zero] at this
          rw [this]
          exact RdIt.first HY.out.2.2.2
        by_cases hq : y.seq = (k : Int) + 1
        · have hqb : (y.seq != (k : Int) + 1) = false := by simpa using hq
          have HN2 : Hid (∀ j z, j < k + 1 → x.sealed[j]? = some z → z.ok = true ∧ z.seq = (j : Int) + 1) := fun j z hj hz => by
            by_cases e : j = k
            · subst e
              rw [HY.out.1] at hz
              cases hz
              exact ⟨HD.out.symm, hq⟩
            · exact HR.out.2.2 j z (by omega) hz
          clear hq HR
          go_wp2
          go_roundw
          case rel => exact ⟨k + 1, by omega, by go_num, HR4.out.1, HR4.out.2, HN2.out⟩
          case measure => simp [intOf]; omega
        · have hqb : (y.seq != (k : Int) + 1) = true := by simpa using hq
          have HV : Hid (x.ok = false) := by show _ = _; rw [HOKF.out]; exact itsOk_not HY.out.1 (.inr hq)
          clear hq
          go_wp2
          go_ret
          exact ⟨ret_bool HV.out.symm, HR4.out.1⟩
      · have HV : Hid (x.ok = true) := by
          show _ = _
          rw [HOKF.out]
          exact itsOk_all (fun j z hz => HR.out.2.2 j z (by have := (List.getElem?_eq_some_iff.1 hz).1; have := HL.out.2.2; omega) hz)
        go_wp2
        go_ret
        exact ⟨ret_bool HV.out.symm, HR.out.1⟩
  have HOKF : Hid (x.ok = itsOk x.sealed) := HLIVE.out (by rfl)
  go_wp2_with fail
  go_loopw [3] (fun i wr => ∃ (k : Nat), k ≤ n1 ∧ i = .int .i64 k ∧ Hid (Below w.heap.size w wr ∧ Blk wr w.heap.size #[.int .i64 x.id, .int .i64 x.epoch, .bool true, .int .i64 x.granted, .slice a1 n1 c1, .slice a2 n2 c2, .int .i64 x.next] 27 ∧ ∀ j y, j < k → x.sealed[j]? = some y → y.ok = true ∧ y.seq = (j : Int) + 1)) (fun i _ => n1 - (intOf i).toNat)
  case atStart => exact ⟨0, by omega, rfl, HB3.out.1, HB3.out.2, fun j y hj => by omega⟩
  case round =>
    obtain ⟨k, hk, rfl, HR⟩ := hrel
    have c4' := HR.out.2.1.cell 4
    simp only [aT, aZ, List.getElem?_cons_succ] at c4'
    by_cases hlt : k < n1
    · have hI : (k : Int) < (n1 : Int) := by omega
      obtain ⟨b, off, ha, hbF, cs, Fi, hcs, hcc, hr, _⟩ := HL.out.1.get k hlt
      have ha' := ha.symm
      subst ha'
      have hbw : b < w.heap.size := HL.out.1.lt b hbF
      obtain ⟨y, hy⟩ : ∃ y, x.sealed[k]? = some y := ⟨_, List.getElem?_eq_getElem (by rw [HL.out.2.2]; exact hlt)⟩
      have HY : Hid (x.sealed[k]? = some y ∧ y.sk.wide ∧ cs.size = 11 ∧ RdIt w (.agg cs) y Fi) := ⟨hy, HL.out.2.1 y (List.mem_of_getElem? hy), hcs, hr y hy⟩
      have HCW : Hid (∀ W, Below w.heap.size w W → (∀ j, j < 11 → W.cell? ⟨b, off + k * 11 + j, none⟩ = cs[j]?) ∧ RdIt W (.agg cs) y Fi) := fun W hB => ⟨fun j hj => by
        have q := hcc j hj
        have q2 : W.cell? ⟨b, off + k * 11 + j, none⟩ = w.cell? ⟨b, off + k * 11 + j, none⟩ := hB.cell (p := ⟨b, off + k * 11 + j, none⟩) hbw
        exact q2.trans q, HY.out.2.2.2.below hB⟩
      clear ha hbF hcs hcc hr hy
      go_wp2_with (first | go_skip | (with_reducible refine stopLoad 33 rfl ?_))
      refine load_at 33 b (off + k * 11) 11 cs _ (HCW.out _ HR.out.1).1 HY.out.2.2.1 rfl rfl rfl Tryz.underlying33 rfl infoItG ?_
      go_wp2_with fail
      refine (itemOkSpec_any _ y Fi _ (HCW.out _ HR.out.1).2 HY.out.2.1).mono ?_
      rintro e w4 ⟨rfl, hb4⟩
      have HR4 : Hid (Below w.heap.size w w4 ∧ Blk w4 w.heap.size #[.int .i64 x.id, .int .i64 x.epoch, .bool true, .int .i64 x.granted, .slice (some ⟨b, off, none⟩) n1 c1, .slice a2 n2 c2, .int .i64 x.next] 27) := ⟨Below.next HR.out.1 hb4, HR.out.2.1.below hb4⟩
      obtain ⟨d, hd⟩ : ∃ d, d = y.ok := ⟨_, rfl⟩
      rw [← hd]
      have HD : Hid (d = y.ok) := hd
      clear hd hb4 c4'
      cases d
      · have HV : Hid (x.ok = false) := by show _ = _; rw [HOKF.out]; exact itsOk_not HY.out.1 (.inl HD.out.symm)
        go_wp2
        go_ret
        exact ⟨ret_bool HV.out.symm, HR4.out.1⟩
      have c4' := HR4.out.2.cell 4
      simp only [aT, aZ, List.getElem?_cons_succ] at c4'
      have cq : w4.cell? ⟨b, off + k * 11, none⟩ = some (.int .i64 y.seq) := by
        have := (HCW.out _ HR4.out.1).1 0 (by omega)
        rw [Nat.add_zero] at this
        rw [this]
        exact RdIt.first HY.out.2.2.2
      by_cases hq : y.seq = (k : Int) + 1
      · have hqb : (y.seq != (k : Int) + 1) = false := by simpa using hq
        have HN2 : Hid (∀ j z, j < k + 1 → x.sealed[j]? = some z → z.ok = true ∧ z.seq = (j : Int) + 1) := fun j z hj hz => by
          by_cases e : j = k
          · subst e
            rw [HY.out.1] at hz
            cases hz
            exact ⟨HD.out.symm, hq⟩
          · exact HR.out.2.2 j z (by omega) hz
        clear hq HR
        go_wp2
        go_roundw
        case rel => exact ⟨k + 1, by omega, by go_num, HR4.out.1, HR4.out.2, HN2.out⟩
        case measure => simp [intOf]; omega
      · have hqb : (y.seq != (k : Int) + 1) = true := by simpa using hq
        have HV : Hid (x.ok = false) := by show _ = _; rw [HOKF.out]; exact itsOk_not HY.out.1 (.inr hq)
        clear hq
        go_wp2
        go_ret
        exact ⟨ret_bool HV.out.symm, HR4.out.1⟩
    · have HV : Hid (x.ok = true) := by
        show _ = _
        rw [HOKF.out]
        exact itsOk_all (fun j z hz => HR.out.2.2 j z (by have := (List.getElem?_eq_some_iff.1 hz).1; have := HL.out.2.2; omega) hz)
      go_wp2
      go_ret
      exact ⟨ret_bool HV.out.symm, HR.out.1⟩
end Go.Proofs.YtgkbhhlkaifnoaaGreatDoor
/- How chapter 1 writes a number as bytes, over natural numbers. No statement of the seat is proved here. -/
namespace Go.Proofs.YtgkbhhlkaifnoaaGreatDoor
open Go.RowKit

/-- Seven bits a byte, the low ones first, 128 more in each byte but the last. -/
def encN (n : Nat) : List Int := if n < 128 then [(n : Int)] else ((n : Int) % 128 + 128) :: encN (n / 128)
  termination_by n
  decreasing_by omega

/-- The bytes of a number: none of one that is not in 0 .. 2147483647. -/
def encOf (n : Int) : List Int := if 0 ≤ n ∧ n ≤ 2147483647 then encN n.toNat else []


/-- What a marked slice of n bytes holds: k, k + 1, .. each by 256. -/
def marks (k : Int) (n : Nat) : List Int := (List.range n).map fun i : Nat => (k + (i : Int)) % 256
/-- Marked up to i, the rest as it was. -/
def marked (k : Int) (i : Nat) (xs : List Value) : List Value := (marks k i).map (Value.int .u8) ++ xs.drop i
end Go.Proofs.YtgkbhhlkaifnoaaGreatDoor
/- The walks through PutNum, the program's and the model's. No statement of the seat is proved here. -/
namespace Go.Proofs.YtgkbhhlkaifnoaaGreatDoor
open Go.RowKit




end Go.Proofs.YtgkbhhlkaifnoaaGreatDoor
/- The walks through the model's l7Put, l7Nums and SketchBytes. No statement of the seat is proved here. -/
namespace Go.Proofs.YtgkbhhlkaifnoaaGreatDoor
open Go.RowKit
def putAll (zs : List Int) : List Int := (zs.map encOf).flatten
end Go.Proofs.YtgkbhhlkaifnoaaGreatDoor
/- The walks through the model's l7Nums and SketchBytes. No statement of the seat is proved here. -/
namespace Go.Proofs.YtgkbhhlkaifnoaaGreatDoor
open Go.RowKit
def Sk.nums (s : Sk) : List Int := [s.count, s.sum, s.min, s.max] ++ s.hist ++ s.regs ++ s.rows.flatten
/-- A list that grows beside a box. -/
structure NumSt (w : World) (cs : Array Value) (t : TypeId) (v : Value) (xs : List Int) (W : World) : Prop where
  box : Blk W w.heap.size cs t
  own : W.ownsRow (w.heap.size + 1) 3 1 v xs.length (xs.map (Value.int .i64))
  bel : Below w.heap.size w W
theorem NumSt.size {w W : World} {cs : Array Value} {t : TypeId} {v : Value} {xs : List Int} (h : NumSt w cs t v xs W) : w.heap.size + 1 ≤ W.heap.size := h.box.lt
theorem NumSt.app {w W W' : World} {cs : Array Value} {t : TypeId} {v v' : Value} {xs ys : List Int} {m : Nat} (h : NumSt w cs t v xs W) (hm : ys.length = m) (hown : W'.ownsRow (w.heap.size + 1) 3 1 v' (xs.length + m) (xs.map (Value.int .i64) ++ ys.map (Value.int .i64))) (hg : W.grownBy W' v.ownBlock) : NumSt w cs t v' (xs ++ ys) W' := by
  have b : Below (w.heap.size + 1) W W' := (Below.refl _ _).grown hg h.size (fun g e => (h.own.lt g e).1)
  refine ⟨h.box.agree (b.block _ (Nat.lt_succ_self _)), ?_, h.bel.trans (b.mono (by omega))⟩
  rw [List.length_append, List.map_append, hm]
  exact hown
end Go.Proofs.YtgkbhhlkaifnoaaGreatDoor
/- How chapter 1 reads a number off bytes, over whole numbers. No statement of the seat is proved here. -/
namespace Go.Proofs.YtgkbhhlkaifnoaaGreatDoor
open Go.RowKit

/-- The number that the bytes begin with, k of its bytes being read already (together acc): it and how many bytes it takes. -/
def dg : List Int → Nat → Int → Option (Int × Nat)
  | [], _, _ => none
  | c :: r, k, acc => if k = 5 then none else if c < 128 then (if (0 < k ∧ c = 0) ∨ 2147483647 < acc + c % 128 * 128 ^ k then none else some (acc + c % 128 * 128 ^ k, k + 1)) else dg r (k + 1) (acc + c % 128 * 128 ^ k)

/-- The number that begins at that place. -/
def res (zs : List Int) (p : Int) : Option (Int × Nat) := if 0 ≤ p ∧ p ≤ zs.length then dg (zs.drop p.toNat) 0 0 else none


section
variable {zs : List Int} {q k : Nat} {X c Y : Int} {r : Option (Int × Nat)}
end
end Go.Proofs.YtgkbhhlkaifnoaaGreatDoor
/- The walks through GetNum, the program's and the model's. No statement of the seat is proved here. -/
namespace Go.Proofs.YtgkbhhlkaifnoaaGreatDoor
open Go.RowKit


end Go.Proofs.YtgkbhhlkaifnoaaGreatDoor
/- The walks through readNum and GetNum of the program: what is no number panics inside and is recovered at the face. No statement of the seat is proved here. -/
namespace Go.Proofs.YtgkbhhlkaifnoaaGreatDoor
open Go.RowKit





end Go.Proofs.YtgkbhhlkaifnoaaGreatDoor
/- The walk through the model's l7Get. No statement of the seat is proved here. -/
namespace Go.Proofs.YtgkbhhlkaifnoaaGreatDoor
open Go.RowKit
theorem cell_one7 (w : World) (x : Value) (t : TypeId) : ∀ j u, [x][j]? = some u → (w.alloc (.cells #[x] t)).cell? ((⟨w.heap.size, 0, none⟩ : Addr).add j) = some u
  | 0, u, hx => by
    obtain rfl : x = u := by simpa using hx
    simp [Addr.add]
  | j + 1, u, hx => by simp at hx
end Go.Proofs.YtgkbhhlkaifnoaaGreatDoor
/- The walk through the model's SketchBytes. No statement of the seat is proved here. -/
namespace Go.Proofs.YtgkbhhlkaifnoaaGreatDoor
open Go.RowKit
def Sk.bytes (s : Sk) : List Int := if s.ok = true then putAll s.nums else []
end Go.Proofs.YtgkbhhlkaifnoaaGreatDoor
/- The check sum of chapter 1 over whole numbers: one step of it on 32 bits and on 64 bits is the same number. No statement of the seat is proved here. -/
namespace Go.Proofs.YtgkbhhlkaifnoaaGreatDoor
open Go.RowKit

/-- Half, and, where it was odd, exclusive or with the number of the check sum: on 64 bits with a sign; on 32 bits without one. -/
def hb64 (x : Int) : Int := if x % 2 = 1 then bits .xor .i64 (x / 2) 3988292384 else x / 2
def it64 : Nat → Int → Int | 0, x => x | k + 1, x => hb64 (it64 k x)
def crc64 (l : List Int) : Int := l.foldl (fun x b => it64 8 (bits .xor .i64 x b)) 4294967295


theorem takes (zs : List Int) (k : Nat) (hk : k < zs.length) : zs.take (k + 1) = zs.take k ++ [zs[k]?.getD 0] := by
  rw [List.take_add_one, List.getElem?_eq_getElem hk]; rfl
end Go.Proofs.YtgkbhhlkaifnoaaGreatDoor
/- The walks through the two check sums (the model's and the program's), through the copying and the comparing of byte slices. No statement of the seat is proved here. -/
namespace Go.Proofs.YtgkbhhlkaifnoaaGreatDoor
open Go.RowKit



end Go.Proofs.YtgkbhhlkaifnoaaGreatDoor
/- The walk through the model's l7Sum. No statement of the seat is proved here. -/
namespace Go.Proofs.YtgkbhhlkaifnoaaGreatDoor
open Go.RowKit
def crcOf (zs : List Int) : Int := bits .xor .i64 (crc64 zs) 4294967295
def sumOf (zs : List Int) : List Int := [crcOf zs / 16777216, crcOf zs / 65536 % 256, crcOf zs / 256 % 256, crcOf zs % 256]
end Go.Proofs.YtgkbhhlkaifnoaaGreatDoor
/- What a right frame's numbers are, and its bytes. No statement of the seat is proved here. -/
namespace Go.Proofs.YtgkbhhlkaifnoaaGreatDoor
open Go.RowKit
structure Fr.Right (x : Fr) : Prop where
  kind : 0 ≤ x.kind ∧ x.kind ≤ 3
  agent : 0 ≤ x.agent ∧ x.agent ≤ 2
  epoch : 0 ≤ x.epoch ∧ x.epoch ≤ 1000
  granted : 0 ≤ x.granted ∧ x.granted ≤ 60
  ok : x.taken.ok = true
  span : ∀ k, k < x.taken.length → 1 ≤ (x.taken.at k).1 ∧ (x.taken.at k).1 ≤ (x.taken.at k).2 ∧ (x.taken.at k).2 ≤ 60
  many : x.taken.length ≤ 30
  item : if x.kind = 1 then x.item.ok = true else x.item = It.zero
theorem Sp.taken_at {ps : Sp} (h : ps.taken = true) (k : Nat) (hk : k < ps.length) : 1 ≤ (ps.at k).1 ∧ (ps.at k).2 ≤ 60 := by
  unfold Sp.taken at h
  rw [List.all_eq_true] at h
  exact of_decide_eq_true (h k (List.mem_range.mpr hk))
theorem Sp.taken_lo {ps : Sp} (h : ps.ok = true) (ht : ps.taken = true) : ∀ k, k < ps.length → (2 * k + 1 : Int) ≤ (ps.at k).1
  | 0, hk => by have := Sp.taken_at ht 0 hk; omega
  | k + 1, hk => by
    have i := Sp.taken_lo h ht k (by omega)
    have a := (Sp.okAt_parts (Sp.ok_at h k (by omega))).1
    have b := (Sp.okAt_parts (Sp.ok_at h (k + 1) hk)).2 (by omega)
    rw [Nat.add_sub_cancel] at b
    omega
theorem Sp.taken_many {ps : Sp} (h : ps.ok = true) (ht : ps.taken = true) : ps.length ≤ 30 := by
  by_cases q : ps.length ≤ 30
  · exact q
  · have a := Sp.taken_lo h ht 30 (by omega)
    have b := Sp.taken_at ht 30 (by omega)
    have c := (Sp.okAt_parts (Sp.ok_at h 30 (by omega))).1
    omega
theorem Fr.ok_right {x : Fr} (h : x.ok = true) : x.Right := by
  unfold Fr.ok at h
  simp only [Bool.and_eq_true, decide_eq_true_eq] at h
  obtain ⟨⟨⟨⟨⟨⟨h1, h2⟩, h3⟩, h4⟩, h5⟩, h6⟩, h7⟩ := h
  refine ⟨h1, h2, h3, h4, h5, fun k hk => ?_, Sp.taken_many h5 h6, ?_⟩
  · have a := Sp.taken_at h6 k hk
    have b := (Sp.okAt_parts (Sp.ok_at h5 k hk)).1
    exact ⟨a.1, b.2.1, a.2⟩
  · by_cases q : x.kind = 1
    · rw [if_pos q] at h7 ⊢
      exact h7
    · rw [if_neg q] at h7 ⊢
      exact of_decide_eq_true h7
def Fr.body (x : Fr) : List Int := [87, 82] ++ putAll [x.kind, x.agent, x.epoch, x.granted, (x.taken.length : Int)] ++ putAll (flat x.taken) ++ (if x.kind = 1 then putAll [x.item.seq, x.item.cls, x.item.key, x.item.window] ++ x.item.sk.bytes else [])
def Fr.bytes (x : Fr) : List Int := if x.ok = true then x.body ++ sumOf x.body else []
end Go.Proofs.YtgkbhhlkaifnoaaGreatDoor
/- The walk through the model's l7Body. No statement of the seat is proved here. -/
namespace Go.Proofs.YtgkbhhlkaifnoaaGreatDoor
open Go.RowKit
/-- Bytes that grow beside a box. -/
structure ByteSt (w : World) (cs : Array Value) (t : TypeId) (v : Value) (xs : List Int) (W : World) : Prop where
  box : Blk W w.heap.size cs t
  own : W.ownsRow (w.heap.size + 1) 5 1 v xs.length (xs.map (Value.int .u8))
  bel : Below w.heap.size w W
theorem ByteSt.size {w W : World} {cs : Array Value} {t : TypeId} {v : Value} {xs : List Int} (h : ByteSt w cs t v xs W) : w.heap.size + 1 ≤ W.heap.size := h.box.lt
theorem ByteSt.below {w W W' : World} {cs : Array Value} {t : TypeId} {v : Value} {xs : List Int} (h : ByteSt w cs t v xs W) (b : Below W.heap.size W W') : ByteSt w cs t v xs W' := ⟨h.box.below b, ownsRow_below h.own b, Below.next h.bel b⟩
theorem ByteSt.app {w W W' : World} {cs : Array Value} {t : TypeId} {v v' : Value} {xs ys : List Int} {m : Nat} (h : ByteSt w cs t v xs W) (hm : ys.length = m) (hown : W'.ownsRow (w.heap.size + 1) 5 1 v' (xs.length + m) (xs.map (Value.int .u8) ++ ys.map (Value.int .u8))) (hg : W.grownBy W' v.ownBlock) : ByteSt w cs t v' (xs ++ ys) W' := by
  have b : Below (w.heap.size + 1) W W' := (Below.refl _ _).grown hg h.size (fun g e => (h.own.lt g e).1)
  refine ⟨h.box.agree (b.block _ (Nat.lt_succ_self _)), ?_, h.bel.trans (b.mono (by omega))⟩
  rw [List.length_append, List.map_append, hm]
  exact hown
end Go.Proofs.YtgkbhhlkaifnoaaGreatDoor
/- The walk through the helper of the laws that compares two byte slices. No statement of the seat is proved here. -/
namespace Go.Proofs.YtgkbhhlkaifnoaaGreatDoor
open Go.RowKit



end Go.Proofs.YtgkbhhlkaifnoaaGreatDoor
/- The walk through the model's FrameBytes. No statement of the seat is proved here. -/
namespace Go.Proofs.YtgkbhhlkaifnoaaGreatDoor
open Go.RowKit
end Go.Proofs.YtgkbhhlkaifnoaaGreatDoor
/- What is written is read as it was: the numbers of a frame. No statement of the seat is proved here. -/
namespace Go.Proofs.YtgkbhhlkaifnoaaGreatDoor
open Go.RowKit

end Go.Proofs.YtgkbhhlkaifnoaaGreatDoor
/- What is read is what was written: numbers out of their bytes. No statement of the seat is proved here. -/
namespace Go.Proofs.YtgkbhhlkaifnoaaGreatDoor
open Go.RowKit
/-! ### summaries -/
end Go.Proofs.YtgkbhhlkaifnoaaGreatDoor
/- What is read is what was written: summaries and frames out of their numbers. No statement of the seat is proved here. -/
namespace Go.Proofs.YtgkbhhlkaifnoaaGreatDoor
open Go.RowKit
/-! ### frames -/
def Fr.numbers (x : Fr) : List Int := [x.kind, x.agent, x.epoch, x.granted, (x.taken.length : Int)] ++ flat x.taken ++ (if x.kind = 1 then [x.item.seq, x.item.cls, x.item.key, x.item.window] ++ x.item.sk.nums else [])
def Fr.zero : Fr := ⟨0, 0, 0, 0, [], It.zero⟩
end Go.Proofs.YtgkbhhlkaifnoaaGreatDoor
/- What is read out of bytes, as a result; appends that grow, within a region. No statement of the seat is proved here. -/
namespace Go.Proofs.YtgkbhhlkaifnoaaGreatDoor
open Go.RowKit
/-- A part of a list that is read. -/
theorem RdI.part {W : World} {b off m : Nat} {l : List Int} {F : List Nat} (h : RdI W (some ⟨b, off, none⟩) m l F) {k n : Nat} (hkn : k + n ≤ m) (hn : 0 < n) : RdI W (some ⟨b, off + k, none⟩) n ((l.drop k).take n) F := by
  rcases h.cells with ⟨h0, _⟩ | ⟨b', off', _, e, hF, hc⟩
  · omega
  · cases e
    refine ⟨by have := h.length; simp; omega, .inr ⟨b, off + k, hn, rfl, hF, fun i hi => ?_⟩⟩
    rw [Nat.add_assoc, hc (k + i) (by omega)]
    simp [hi]
section
variable {P : Program} {ops : Array Oper} {Q : Exit → Act → World → Prop} {a : Act} {w : World} {o : Oper} {K : Act → World → Prop}
theorem op_grows (s x : Operand) (t : TypeId) (hg : o.guard = none) (hop : o.op = .call { callee := .builtin .append, args := #[s, x], argTypes := #[t, t] })
    (e : TypeId) (i : TypeInfo) (z : Value) (size bytes : Nat) (h1 : P.underlying t = some (.slice e)) (h2 : P.info? e = some i) (h3 : i.zero = some z) (h4 : i.size = size) (h5 : i.bytes = bytes) (h6 : z.cells.size = size) (h7 : 0 < size)
    (ao : Option Addr) (hs : a.eval s = .slice ao 0 0)
    (ad : Addr) (m c : Nat) (news : List Value) (hx : a.eval x = .slice (some ad) m c) (hn : news.length = m * size) (hc : ∀ j u, news[j]? = some u → w.cell? (ad.add j) = some u) (h1c : ∀ u ∈ news, u.oneCell' = true)
    (hm : 0 < m) (b1 : m ≤ maxLen) (b2 : m * bytes ≤ 140737488355328)
    (h : ∀ v' w', w'.ownsRow w.heap.size e size v' m news → Below w.heap.size w w' → ∃ a', a.put o.dst v' = a' ∧ K a' w') : if Region.wanted o (yielded ops a.tmps) = true then Oper.wp P o a w K Q else K (a.put o.dst undef) w := by
  refine step_append_grows hg s x t hop e i z size bytes h1 h2 h3 h4 h5 h6 h7 ao 0 0 [] hs (fun _ => ⟨rfl, rfl⟩) (by simp) (fun _ _ j u hj => by simp at hj) ad m c news hx hn hc h1c (by omega) (by omega) (by simpa using b2) ?_
  intro v' w' k1 k2
  obtain ⟨_, rfl, k3⟩ := h v' w' (by simpa using k1) ((Below.refl _ _).grown k2 (Nat.le_refl _) (fun g e => by cases e))
  exact k3
end
end Go.Proofs.YtgkbhhlkaifnoaaGreatDoor
/- Appending a slice of numbers, whatever its length, onto an empty literal. No statement of the seat is proved here. -/
namespace Go.Proofs.YtgkbhhlkaifnoaaGreatDoor
open Go.RowKit
theorem run_append_zero {P : Program} {w : World} (t ty e : TypeId) (i : TypeInfo) (ht : P.underlying t = some (.slice e)) (hi : P.info? e = some i) (ao ax : Option Addr) (c : Nat) :
    (Builtin.append_ #[t, t] ty #[.slice ao 0 0, .slice ax 0 c]).run P w = .ok (.slice ao 0 0) w := by
  have hl : ∀ ad : Addr, (loadCells ad 0).run P w = .ok #[] w := fun ad => by
    have := run_loadCells_list (P := P) w ad [] (fun j v hj => by simp at hj)
    simpa using this
  cases ao <;> cases ax <;> simp [Builtin.append_, run_underlying ht, sizeOf, typeInfo, hi, Builtin.lenOf, Builtin.firstCells, storeCells, hl]
section
variable {P : Program} {ops : Array Oper} {Q : Exit → Act → World → Prop} {a : Act} {w : World} {o : Oper} {K : Act → World → Prop}
theorem op_growsI (s x : Operand) (t : TypeId) (hg : o.guard = none) (hop : o.op = .call { callee := .builtin .append, args := #[s, x], argTypes := #[t, t] })
    (e : TypeId) (i : TypeInfo) (h1 : P.underlying t = some (.slice e)) (h2 : P.info? e = some i) (h3 : i.zero = some (.int .i64 0)) (h4 : i.size = 1) (h5 : i.bytes = 8)
    (ao : Option Addr) (hs : a.eval s = .slice ao 0 0) (ax : Option Addr) (m c : Nat) (zs : List Int) (F : List Nat) (hx : a.eval x = .slice ax m c) (hr : RdI w ax m zs F) (hm : m ≤ 1048576)
    (h : ∀ a' c' F' w', RdI w' a' m zs F' → Own w.heap.size w' F' → Below w.heap.size w w' → (∀ b, a'.map (·.block) = some b → ao.map (·.block) = some b ∨ w.heap.size ≤ b) → ∃ a2, a.put o.dst (.slice a' m c') = a2 ∧ K a2 w') : if Region.wanted o (yielded ops a.tmps) = true then Oper.wp P o a w K Q else K (a.put o.dst undef) w := by
  by_cases h0 : m = 0
  · subst h0
    have hz : zs = [] := List.eq_nil_of_length_eq_zero hr.length
    subst hz
    have hw : Region.wanted o (yielded ops a.tmps) = true := by unfold Region.wanted; rw [hg]
    rw [if_pos hw]
    obtain ⟨_, rfl, k⟩ := h ao 0 [] w ⟨rfl, .inl ⟨rfl, rfl⟩⟩ Own.nil (Below.refl _ _) (fun b hb => .inl hb)
    have hrun := run_append_zero (P := P) (w := w) t o.type e i h1 h2 ao ax c
    unfold Oper.wp
    simp [execOp, hop, resolve, invoke, builtin, hs, hx, hrun, Result.andThen]
    exact k
  · obtain ⟨b, off, rfl⟩ := hr.addr (by omega)
    refine op_grows s x t hg hop e i (.int .i64 0) 1 8 h1 h2 h3 h4 h5 rfl (by decide) ao hs ⟨b, off, none⟩ m c (zs.map (Value.int .i64)) hx (by rw [List.length_map, hr.length]; omega) (hr.from (Below.refl _ _) (by omega)) (ints_one _) (by omega) (by unfold maxLen; omega) (by omega) ?_
    intro v' w' hown hb
    obtain ⟨a', c', F', rfl, hr', ho'⟩ := rdI_of_own hown
    refine h a' c' F' w' hr' ho' hb (fun g hg => ?_)
    rcases hr'.cells with ⟨q, _⟩ | ⟨b', off', _, e', hF, _⟩
    · omega
    · subst e'
      right
      simp at hg
      subst hg
      exact ho'.ge _ (by rw [hF]; simp)
end
end Go.Proofs.YtgkbhhlkaifnoaaGreatDoor
/- The walk through the model's copying of a summary, whatever lists it has. No statement of the seat is proved here. -/
namespace Go.Proofs.YtgkbhhlkaifnoaaGreatDoor
open Go.RowKit
/-- What is copied behind k rows. -/
structure CopyA (w : World) (A : Array Value) (s : Sk) (a1 a2 : Option Addr) (n1 n2 d1 d2 : Nat) (F1 F2 : List Nat) (lo k : Nat) (v : Value) (vs : List Value) (G : List Nat) (W : World) : Prop where
  three : Three w A 31 #[.int .i64 0, .int .i64 0, .int .i64 0, .int .i64 0, .slice none 0 0, .slice none 0 0, .slice none 0 0] #[.int .i64 s.count, .int .i64 s.sum, .int .i64 s.min, .int .i64 s.max, .slice a1 n1 d1, .slice a2 n2 d2, v] 31 W
  r1 : RdI W a1 n1 s.hist F1
  r2 : RdI W a2 n2 s.regs F2
  own : Own (w.heap.size + 3) W (F1 ++ F2)
  lt : ∀ b ∈ F1 ++ F2, b < lo
  row : W.ownsRow lo 28 1 v k vs
  rd : RdS W ((s.rows.take k).map ints) vs G
  og : Own lo W G
  ap : ∀ b, v.ownBlock = some b → b ∉ G
  big : w.heap.size + 3 ≤ lo
  lw : lo ≤ W.heap.size
section
variable {w W W' : World} {A : Array Value} {s : Sk} {a1 a2 : Option Addr} {n1 n2 d1 d2 : Nat} {F1 F2 : List Nat} {lo k : Nat} {v : Value} {vs : List Value} {G : List Nat}
theorem CopyA.below (h : CopyA w A s a1 a2 n1 n2 d1 d2 F1 F2 lo k v vs G W) (b : Below W.heap.size W W') : CopyA w A s a1 a2 n1 n2 d1 d2 F1 F2 lo k v vs G W' :=
  ⟨h.three.below b, h.r1.below b, h.r2.below b, h.own.below (fun x hx => (List.mem_append.1 hx).elim (h.r1.lt x) (h.r2.lt x)) b, h.lt, ownsRow_below h.row b, h.rd.below b, h.og.below h.rd.lt b, h.ap, h.big, Nat.le_trans h.lw b.size⟩
theorem CopyA.step (h : CopyA w A s a1 a2 n1 n2 d1 d2 F1 F2 lo k v vs G W) {ak : Option Addr} {nk cp3 g4 cp4 L : Nat} {Fk : List Nat} (rk : RdI W ak nk (s.rows.getD k []) Fk) (ok : Own L W Fk) (ltG : ∀ b ∈ G, b < L) (ltv : ∀ b, v.ownBlock = some b → b < L) (hL : lo ≤ L)
    (hown : W'.ownsRow lo 28 1 (.slice (some ⟨g4, 0, none⟩) (k + 1) cp4) (k + 1) (vs ++ [.slice ak nk cp3])) (hgrow : W.grownBy W' v.ownBlock) (hat : v.ownBlock = some g4 ∨ g4 = W.heap.size) (hk : k < s.rows.length) :
    CopyA w A s a1 a2 n1 n2 d1 d2 F1 F2 lo (k + 1) (.slice (some ⟨g4, 0, none⟩) (k + 1) cp4) (vs ++ [.slice ak nk cp3]) (G ++ Fk) (W'.setCell ⟨w.heap.size + 1 + 1, 6, none⟩ (.slice (some ⟨g4, 0, none⟩) (k + 1) cp4)) ∧ CopyS w A W' ∧
      W'.cell? ⟨w.heap.size + 1 + 1, 6, none⟩ = some v ∧ W'.frozen? ⟨w.heap.size + 1 + 1, 6, none⟩ = false := by
  have big := h.big
  have blk : ∀ b, b < W.heap.size → ¬ v.ownBlock = some b → W'.heap[b]? = W.heap[b]? := fun b hb hn => hgrow.block b hb (fun e => hn e.symm)
  have vge : ∀ b, v.ownBlock = some b → lo ≤ b := fun b hb => (h.row.lt b hb).1
  have bx := h.three.box.agree (blk _ h.three.box.lt (fun e => by have := vge _ e; omega))
  have rs := h.three.res.agree (blk _ h.three.res.lt (fun e => by have := vge _ e; omega))
  have lc := h.three.loc.agree (blk _ h.three.loc.lt (fun e => by have := vge _ e; omega))
  have bel : Below w.heap.size w W' := h.three.bel.grown hgrow h.three.bel.size (fun b hb => by have := vge b hb; omega)
  have T : Three w A 31 #[.int .i64 0, .int .i64 0, .int .i64 0, .int .i64 0, .slice none 0 0, .slice none 0 0, .slice none 0 0] #[.int .i64 s.count, .int .i64 s.sum, .int .i64 s.min, .int .i64 s.max, .slice a1 n1 d1, .slice a2 n2 d2, v] 31 W' := ⟨bx, rs, lc, bel⟩
  have no : ∀ b ∈ F1 ++ F2 ++ (G ++ Fk), b ≠ w.heap.size + 1 + 1 := fun b hb e => by
    rcases List.mem_append.1 hb with hb | hb
    · have := h.own.ge b hb; omega
    · rcases List.mem_append.1 hb with hb | hb
      · have := h.og.ge b hb; omega
      · have := ok.ge b hb; omega
  have agF : Agree W (W'.setCell ⟨w.heap.size + 1 + 1, 6, none⟩ (.slice (some ⟨g4, 0, none⟩) (k + 1) cp4)) (F1 ++ F2) := Agree.thenSet (fun b hb => blk b ((List.mem_append.1 hb).elim (h.r1.lt b) (h.r2.lt b)) (fun e => by have := vge _ e; have := h.lt b hb; omega)) (fun hx => no _ (List.mem_append_left _ hx) rfl) _ _
  have agG : Agree W (W'.setCell ⟨w.heap.size + 1 + 1, 6, none⟩ (.slice (some ⟨g4, 0, none⟩) (k + 1) cp4)) (G ++ Fk) := Agree.thenSet (fun b hb => blk b ((List.mem_append.1 hb).elim (h.rd.lt b) (rk.lt b)) (fun e => (List.mem_append.1 hb).elim (h.ap b e) (fun hf => by have := ok.ge b hf; have := ltv b e; omega))) (fun hx => no _ (List.mem_append_right _ hx) rfl) _ _
  have hgw : w.heap.size + 1 + 1 < W'.heap.size := lc.lt
  have rowS : (W'.setCell ⟨w.heap.size + 1 + 1, 6, none⟩ (.slice (some ⟨g4, 0, none⟩) (k + 1) cp4)).ownsRow lo 28 1 (.slice (some ⟨g4, 0, none⟩) (k + 1) cp4) (k + 1) (vs ++ [.slice ak nk cp3]) :=
    own_keep hown (grown_set W' (w.heap.size + 1 + 1) 6 _) (by omega)
  refine ⟨⟨T.set 6 _, h.r1.agree agF.left, h.r2.agree agF.right, h.own.agree agF, h.lt, rowS, ?_, ?_, ?_, h.big, ?_⟩, ⟨bx, bel⟩, by rw [lc.cell]; rfl, lc.frozen 6⟩
  · rw [take_snoc s.rows [] k hk, List.map_append]
    exact (h.rd.agree agG.left).snoc (rd_ints.2 ⟨_, _, _, rfl, rk.agree agG.right⟩)
  · exact (h.og.agree agG.left).join (ok.agree agG.right) ltG hL
  · intro b hb hx
    have hb' : b = g4 := by simpa [Value.ownBlock] using hb.symm
    subst hb'
    rcases hat with e | e
    · rcases List.mem_append.1 hx with hx | hx
      · exact h.ap _ e hx
      · have := ok.ge _ hx; have := ltv _ e; omega
    · rcases List.mem_append.1 hx with hx | hx
      · have := h.rd.lt _ hx; omega
      · have := rk.lt _ hx; omega
  · have := hgrow.size; have := h.lw; simp; omega
theorem CopyA.rows (h : CopyA w A s a1 a2 n1 n2 d1 d2 F1 F2 lo k v vs G W) : ∃ a c F, v = .slice a k c ∧ RdII W a k (s.rows.take k) F ∧ Own (w.heap.size + 3) W (F1 ++ (F2 ++ F)) ∧ k ≤ c := by
  have big := h.big
  rcases h.row.2 with ⟨e, e'⟩ | ⟨g, cap, cur, e, e2, e3, e4⟩
  · subst e'
    exact ⟨none, 0, [], e, ⟨by simp, .inl ⟨rfl, rfl⟩⟩, by simpa using h.own, by omega⟩
  · subst e
    have hl : vs.length = k := by simpa using h.row.1
    have hlen := h.rd.length
    by_cases h0 : k = 0
    · subst h0
      exact ⟨_, cap, [], rfl, ⟨by simp, .inl ⟨rfl, rfl⟩⟩, by simpa using h.own, by omega⟩
    · have hm : RdM W ((s.rows.take k).map ints) g 0 G := rdM_of_own 0 h.rd (fun i hi => by rw [Nat.zero_add]; exact h.row.cellAt i (by omega))
      have hg : lo ≤ g := (h.row.lt g rfl).1
      have hgG : g ∉ G := h.ap g rfl
      have og : Own lo W (g :: G) := ⟨List.nodup_cons.2 ⟨hgG, h.og.nodup⟩, fun b hb o => (List.mem_cons.1 hb).elim (fun e => by subst e; exact h.row.frozenAt o) (fun hb => h.og.free b hb o), fun b hb => (List.mem_cons.1 hb).elim (fun e => by omega) (h.og.ge b)⟩
      refine ⟨_, cap, g :: G, rfl, ⟨by rw [List.length_map] at hlen; omega, .inr ⟨g, 0, G, by omega, rfl, rfl, hm⟩⟩, ?_, e4.1⟩
      rw [← List.append_assoc]
      exact h.own.join og h.lt h.big
end
set_option maxRecDepth 200000 in
set_option maxHeartbeats 8000000 in
theorem l3Copy_all (v : Value) (s : Sk) (F : List Nat) (w : World) (h : RdSk w v s F) (hf : s.fits) :
    Calls Tryz.prog 96 #[v] w fun e w' => NewSk w s e w' := by
  obtain ⟨i0, hi, hz0, hz1, hz2⟩ := info_parts infoInt
  obtain ⟨j0, hj, hy0, hy1, hy2⟩ := info_parts infoInts
  obtain ⟨a1, n1, c1, a2, n2, c2, a3, n3, c3, F1, F2, F3, rfl, h1, h2, h3, _⟩ := h
  have l1 := h1.length
  have l2 := h2.length
  have l3 := h3.length
  have hn1 : n1 ≤ 1048576 := by rw [← l1]; exact hf.hist
  have hn2 : n2 ≤ 1048576 := by rw [← l2]; exact hf.regs
  have hn3 : n3 ≤ 1048576 := by rw [← l3]; exact hf.rows
  have HR : Hid (RdI w a1 n1 s.hist F1 ∧ RdI w a2 n2 s.regs F2 ∧ RdII w a3 n3 s.rows F3 ∧ s.fits) := ⟨h1, h2, h3, hf⟩
  have HL : Hid (s.hist.length = n1 ∧ s.regs.length = n2 ∧ s.rows.length = n3) := ⟨l1, l2, l3⟩
  clear h1 h2 h3 hf l1 l2 l3
  have HT0 : Hid (Three w _ _ _ _ _ _) := Three.made w #[.int .i64 s.count, .int .i64 s.sum, .int .i64 s.min, .int .i64 s.max, .slice a1 n1 c1, .slice a2 n2 c2, .slice a3 n3 c3] 31 #[.int .i64 0, .int .i64 0, .int .i64 0, .int .i64 0, .slice none 0 0, .slice none 0 0, .slice none 0 0] #[.int .i64 s.count, .int .i64 s.sum, .int .i64 s.min, .int .i64 s.max, .slice a1 n1 c1, .slice a2 n2 c2, .slice a3 n3 c3] 31
  go_enter Tryz.func96, Tryz.ntmps96
  go_wp2_with (with_reducible refine stopAppend rfl ?_)
  obtain ⟨W2, hW2⟩ : ∃ W2, W2 = ((w.alloc (.cells #[.int .i64 s.count, .int .i64 s.sum, .int .i64 s.min, .int .i64 s.max, .slice a1 n1 c1, .slice a2 n2 c2, .slice a3 n3 c3] 31)).alloc (.cells #[.int .i64 0, .int .i64 0, .int .i64 0, .int .i64 0, .slice none 0 0, .slice none 0 0, .slice none 0 0] 31)).alloc (.cells #[.int .i64 s.count, .int .i64 s.sum, .int .i64 s.min, .int .i64 s.max, .slice a1 n1 c1, .slice a2 n2 c2, .slice a3 n3 c3] 31) := ⟨_, rfl⟩
  have hs2 : W2.heap.size = w.heap.size + 3 := by rw [hW2]; simp
  rw [← hW2] at HT0 ⊢
  clear hW2
  have bE2 : Below W2.heap.size W2 (W2.alloc (.cells #[] 3)) := (Below.refl _ _).alloc (Nat.le_refl _) _
  have HT1 : Hid (Three w #[.int .i64 s.count, .int .i64 s.sum, .int .i64 s.min, .int .i64 s.max, .slice a1 n1 c1, .slice a2 n2 c2, .slice a3 n3 c3] 31 #[.int .i64 0, .int .i64 0, .int .i64 0, .int .i64 0, .slice none 0 0, .slice none 0 0, .slice none 0 0] #[.int .i64 s.count, .int .i64 s.sum, .int .i64 s.min, .int .i64 s.max, .slice a1 n1 c1, .slice a2 n2 c2, .slice a3 n3 c3] 31 (W2.alloc (.cells #[] 3))) := HT0.out.below bE2
  refine Stop.intro (wpList_step fun K hK => op_growsI _ _ 28 rfl rfl 3 i0 Tryz.underlying28 hi hz0 hz1 hz2 (some _) rfl a1 n1 c1 s.hist F1 rfl (HR.out.1.below HT1.out.bel) hn1 ?_)
  intro b1 d1 G1 w3 r1 o1 hb1 _
  have HT3 : Hid (Three w #[.int .i64 s.count, .int .i64 s.sum, .int .i64 s.min, .int .i64 s.max, .slice a1 n1 c1, .slice a2 n2 c2, .slice a3 n3 c3] 31 #[.int .i64 0, .int .i64 0, .int .i64 0, .int .i64 0, .slice none 0 0, .slice none 0 0, .slice none 0 0] #[.int .i64 s.count, .int .i64 s.sum, .int .i64 s.min, .int .i64 s.max, .slice a1 n1 c1, .slice a2 n2 c2, .slice a3 n3 c3] 31 w3) := HT1.out.below hb1
  have HQ3 : Hid (RdI w3 b1 n1 s.hist G1 ∧ Own (w.heap.size + 3) w3 G1) := ⟨r1, o1.mono (by have := bE2.size; omega)⟩
  refine ⟨_, by simp [Act.put]; rfl, hK _ _ ?_⟩
  clear hK r1 o1 hb1 bE2 HT1 HT0 hs2
  have c4 := HT3.out.loc.cell 4
  have f4 := HT3.out.loc.frozen 4
  have e5 := HT3.out.box.cell 5
  simp only [aT, aS, aZ] at c4 e5
  have sz3 := HT3.out.size
  have ne3 : ¬ w.heap.size = w3.heap.size := by omega
  have ne3' : ¬ w3.heap.size = w.heap.size := by omega
  have lt3 : w.heap.size < w3.heap.size := by omega
  go_wp2_with (with_reducible refine stopAppend rfl ?_)
  clear ne3 ne3' lt3 sz3
  have ng1 : w.heap.size + 1 + 1 ∉ G1 := fun hx => by have := HQ3.out.2.ge _ hx; omega
  have HT4 : Hid (Three w #[.int .i64 s.count, .int .i64 s.sum, .int .i64 s.min, .int .i64 s.max, .slice a1 n1 c1, .slice a2 n2 c2, .slice a3 n3 c3] 31 #[.int .i64 0, .int .i64 0, .int .i64 0, .int .i64 0, .slice none 0 0, .slice none 0 0, .slice none 0 0] #[.int .i64 s.count, .int .i64 s.sum, .int .i64 s.min, .int .i64 s.max, .slice b1 n1 d1, .slice a2 n2 c2, .slice a3 n3 c3] 31 (w3.setCell ⟨w.heap.size + 1 + 1, 4, none⟩ (.slice b1 n1 d1))) := HT3.out.set 4 _
  have HQ4 : Hid (RdI (w3.setCell ⟨w.heap.size + 1 + 1, 4, none⟩ (.slice b1 n1 d1)) b1 n1 s.hist G1 ∧ Own (w.heap.size + 3) (w3.setCell ⟨w.heap.size + 1 + 1, 4, none⟩ (.slice b1 n1 d1)) G1) := ⟨HQ3.out.1.agree (.set ng1 4 _), HQ3.out.2.agree (.set ng1 4 _)⟩
  obtain ⟨W4, hW4⟩ : ∃ W, W = w3.setCell ⟨w.heap.size + 1 + 1, 4, none⟩ (.slice b1 n1 d1) := ⟨_, rfl⟩
  try rw [show w3.heap.size = W4.heap.size from by rw [hW4]; simp]
  rw [← hW4] at HT4 HQ4 ⊢
  clear hW4 ng1 c4 f4 e5 HT3 HQ3
  have bE4 : Below W4.heap.size W4 (W4.alloc (.cells #[] 3)) := (Below.refl _ _).alloc (Nat.le_refl _) _
  have HT5 : Hid (Three w #[.int .i64 s.count, .int .i64 s.sum, .int .i64 s.min, .int .i64 s.max, .slice a1 n1 c1, .slice a2 n2 c2, .slice a3 n3 c3] 31 #[.int .i64 0, .int .i64 0, .int .i64 0, .int .i64 0, .slice none 0 0, .slice none 0 0, .slice none 0 0] #[.int .i64 s.count, .int .i64 s.sum, .int .i64 s.min, .int .i64 s.max, .slice b1 n1 d1, .slice a2 n2 c2, .slice a3 n3 c3] 31 (W4.alloc (.cells #[] 3))) := HT4.out.below bE4
  have HQ5 : Hid (RdI (W4.alloc (.cells #[] 3)) b1 n1 s.hist G1 ∧ Own (w.heap.size + 3) (W4.alloc (.cells #[] 3)) G1 ∧ (∀ b ∈ G1, b < W4.heap.size) ∧ w.heap.size + 3 ≤ W4.heap.size) := ⟨HQ4.out.1.below bE4, HQ4.out.2.below HQ4.out.1.lt bE4, HQ4.out.1.lt, HT4.out.size⟩
  refine Stop.intro (wpList_step fun K hK => op_growsI _ _ 28 rfl rfl 3 i0 Tryz.underlying28 hi hz0 hz1 hz2 (some _) rfl a2 n2 c2 s.regs F2 rfl (HR.out.2.1.below HT5.out.bel) hn2 ?_)
  intro b2 d2 G2 w5 r2 o2 hb2 _
  have HT6 : Hid (Three w #[.int .i64 s.count, .int .i64 s.sum, .int .i64 s.min, .int .i64 s.max, .slice a1 n1 c1, .slice a2 n2 c2, .slice a3 n3 c3] 31 #[.int .i64 0, .int .i64 0, .int .i64 0, .int .i64 0, .slice none 0 0, .slice none 0 0, .slice none 0 0] #[.int .i64 s.count, .int .i64 s.sum, .int .i64 s.min, .int .i64 s.max, .slice b1 n1 d1, .slice a2 n2 c2, .slice a3 n3 c3] 31 w5) := HT5.out.below hb2
  have HQ6 : Hid (RdI w5 b1 n1 s.hist G1 ∧ RdI w5 b2 n2 s.regs G2 ∧ Own (w.heap.size + 3) w5 (G1 ++ G2)) := ⟨HQ5.out.1.below hb2, r2, (HQ5.out.2.1.below HQ5.out.1.lt hb2).join o2 (fun b hb => by have := HQ5.out.2.2.1 b hb; have := bE4.size; omega) (by have := HQ5.out.2.2.2; have := bE4.size; omega)⟩
  refine ⟨_, by simp [Act.put]; rfl, hK _ _ ?_⟩
  clear hK r2 o2 hb2 bE4 HT5 HT4 HQ4 HQ5
  have c5 := HT6.out.loc.cell 5
  have f5 := HT6.out.loc.frozen 5
  have c6 := HT6.out.loc.cell 6
  have f6 := HT6.out.loc.frozen 6
  simp only [aT, aS, aZ] at c5 c6
  have hz5 : w.heap.size + 3 ≤ w5.heap.size := HT6.out.size
  go_wp2
  clear c5 f5 c6 f6
  go_loopw [4] (fun i wr => ∃ (k : Nat) (v : Value) (vs : List Value) (GG : List Nat), k ≤ n3 ∧ i = .int .i64 k ∧ Hid (CopyA w #[.int .i64 s.count, .int .i64 s.sum, .int .i64 s.min, .int .i64 s.max, .slice a1 n1 c1, .slice a2 n2 c2, .slice a3 n3 c3] s b1 b2 n1 n2 d1 d2 G1 G2 w5.heap.size k v vs GG wr)) (fun i _ => n3 - (intOf i).toNat)
  case atStart =>
    have nG : w.heap.size + 1 + 1 ∉ G1 ++ G2 := fun hx => by have := HQ6.out.2.2.ge _ hx; omega
    have ag := ((Agree.refl w5 (G1 ++ G2)).thenSet nG 5 (.slice b2 n2 d2)).thenSet nG 6 (.slice none 0 0)
    have T := (HT6.out.set 5 (.slice b2 n2 d2)).set 6 (.slice none 0 0)
    exact ⟨0, .slice none 0 0, [], [], by omega, rfl, ⟨T, HQ6.out.1.agree ag.left, HQ6.out.2.1.agree ag.right, HQ6.out.2.2.agree ag, fun b hb => (List.mem_append.1 hb).elim (HQ6.out.1.lt b) (HQ6.out.2.1.lt b), ⟨rfl, .inl ⟨rfl, rfl⟩⟩, by simp [RdS], Own.nil, fun b hb => (by cases hb), hz5, by simp⟩⟩
  case round =>
    clear HQ6 HT6
    obtain ⟨k, v, vs, GG, hk, rfl, CSS⟩ := hrel
    have e6 := CSS.out.three.box.cell 6
    simp only [aT, aS, aZ] at e6
    by_cases hlt : k < n3
    · have hI : (k : Int) < (n3 : Int) := by omega
      obtain ⟨p3, o3, F3', rfl, hm3⟩ : ∃ b off F', a3 = some ⟨b, off, none⟩ ∧ RdM w (s.rows.map ints) b off F' := by
        rcases HR.out.2.2.1.cells with ⟨h0, _⟩ | ⟨b, off, F', _, e, _, hm⟩
        · omega
        · exact ⟨b, off, F', e, hm⟩
      obtain ⟨ak, nk, ck, Yk, hck, hrk, _⟩ := RdII.row hm3 HL.out.2.2 k hlt
      have hnk : nk ≤ 1048576 := by rw [← hrk.length]; exact HR.out.2.2.2.row _ (mem_getD (d := []) (by rw [HL.out.2.2]; exact hlt))
      have hp3 : p3 < w.heap.size := World.block_lt_of_cell? _ _ hck
      have HQ : Hid (RdI w ak nk (s.rows.getD k []) Yk ∧ k < s.rows.length) := ⟨hrk, by rw [HL.out.2.2]; exact hlt⟩
      have HC : Hid (∀ W, CopyS w #[.int .i64 s.count, .int .i64 s.sum, .int .i64 s.min, .int .i64 s.max, .slice a1 n1 c1, .slice a2 n2 c2, .slice (some ⟨p3, o3, none⟩) n3 c3] W → W.cell? ⟨w.heap.size, 6, none⟩ = some (.slice (some ⟨p3, o3, none⟩) n3 c3) ∧ W.cell? ⟨p3, o3 + k, none⟩ = some (.slice ak nk ck)) := fun W hW => ⟨by rw [hW.1.cell]; rfl, by
        have q : W.cell? ⟨p3, o3 + k, none⟩ = w.cell? ⟨p3, o3 + k, none⟩ := hW.2.cell (p := ⟨p3, o3 + k, none⟩) hp3
        exact q.trans hck⟩
      have HB0 : Hid (∀ b, b < w.heap.size → b < wr.heap.size) := fun b hb => by have := CSS.out.three.bel.size; omega
      clear hck hrk hm3
      go_wp2_with fail
      clear e6
      have CSd : Hid (CopyA w #[.int .i64 s.count, .int .i64 s.sum, .int .i64 s.min, .int .i64 s.max, .slice a1 n1 c1, .slice a2 n2 c2, .slice (some ⟨p3, o3, none⟩) n3 c3] s b1 b2 n1 n2 d1 d2 G1 G2 w5.heap.size k v vs GG wr.drew) := CSS.out.below (Below.refl _ _).drew
      obtain ⟨Y0, hY0⟩ : ∃ Y, Y = wr.drew := ⟨_, rfl⟩
      rw [← hY0] at CSd
      have HLim : Hid ((∀ b ∈ GG, b < Y0.heap.size) ∧ (∀ b, v.ownBlock = some b → b < Y0.heap.size) ∧ w5.heap.size ≤ Y0.heap.size) := ⟨CSd.out.rd.lt, fun b hb => (CSd.out.row.lt b hb).2, CSd.out.lw⟩
      clear CSS HB0
      refine wp_region_held (S := CopyS w #[.int .i64 s.count, .int .i64 s.sum, .int .i64 s.min, .int .i64 s.max, .slice a1 n1 c1, .slice a2 n2 c2, .slice (some ⟨p3, o3, none⟩) n3 c3]) (by kernel_rfl) ?_
      change wpAnyH _ _ _ _ _ _ _ _ (World.drew _)
      rw [← hY0]
      clear hY0
      refine takeH (o := ?o1) 0 (.pointer (some ⟨w.heap.size + 1 + 1, 6, none⟩)) ?h1 ?r1
      case h1 => simp only [aT, aZ]; rfl
      refine ⟨_, by simp [Act.put]; rfl, by kernel_rfl, by kernel_rfl, by kernel_rfl, fun _ _ _ h => h, (.inl ⟨rfl, fun W _ => by kernel_rfl⟩), ⟨CSd.out.three.box, CSd.out.three.bel⟩, ?_⟩
      refine takeH (o := ?o2) 3 (.pointer (some ⟨w.heap.size, 6, none⟩)) ?h2 ?r2
      case h2 => simp only [aT, aS, aZ]; rfl
      refine ⟨_, by simp [Act.put]; rfl, by kernel_rfl, by kernel_rfl, by kernel_rfl, fun _ _ _ h => h, (.inl ⟨rfl, fun W _ => by kernel_rfl⟩), ⟨CSd.out.three.box, CSd.out.three.bel⟩, ?_⟩
      refine takeH (o := ?o3) 4 (.slice (some ⟨p3, o3, none⟩) n3 c3) ?h3 ?r3
      case h3 => simp only [aT, aS, aZ]; rfl
      refine ⟨_, by simp [Act.put]; rfl, by kernel_rfl, by kernel_rfl, by kernel_rfl, fun _ _ _ h => h, (.inl ⟨rfl, fun W hW => by have c := (HC.out W hW).1; go_simp⟩), ⟨CSd.out.three.box, CSd.out.three.bel⟩, ?_⟩
      refine takeH (o := ?o4) 5 (.int .i64 k) ?h4 ?r4
      case h4 => simp only [aT, aS, aZ]; rfl
      refine ⟨_, by simp [Act.put]; rfl, by kernel_rfl, by kernel_rfl, by kernel_rfl, fun _ _ _ h => h, (.inl ⟨rfl, fun W _ => by kernel_rfl⟩), ⟨CSd.out.three.box, CSd.out.three.bel⟩, ?_⟩
      refine takeH (o := ?o5) 6 (.pointer (some ⟨p3, o3 + k, none⟩)) ?h5 ?r5
      case h5 => simp only [aT, aS, aZ]; rfl
      refine ⟨_, by simp [Act.put]; rfl, by kernel_rfl, by kernel_rfl, by kernel_rfl, fun _ _ _ h => h, (.inl ⟨rfl, fun W _ => by go_simp⟩), ⟨CSd.out.three.box, CSd.out.three.bel⟩, ?_⟩
      refine takeH (o := ?o6) 7 (.slice ak nk ck) ?h6 ?r6
      case h6 => simp only [aT, aS, aZ]; rfl
      refine ⟨_, by simp [Act.put]; rfl, by kernel_rfl, by kernel_rfl, by kernel_rfl, fun _ _ _ h => h, (.inl ⟨rfl, fun W hW => by have c := (HC.out W hW).2; go_simp⟩), ⟨CSd.out.three.box, CSd.out.three.bel⟩, ?_⟩
      refine twoH (o := ?o7) (o' := ?p7) 1 2 (by kernel_rfl) ?h7 ?g7 ?r7 ?s7
      case h7 => simp only [aT, aS, aZ]; rfl
      case g7 => simp only [aT, aS, aZ]; rfl
      case r7 =>
        intro K hK
        have co := CSd.out.three.loc.cell 6
        simp only [aT, aS, aZ] at co
        refine op_value v rfl (by go_simp) ⟨_, by simp [Act.put]; rfl, hK _ _ ⟨⟨CSd.out.three.box, CSd.out.three.bel⟩, ?_⟩⟩
        clear hK co
        refine onlyH (o := ?o8) 2 (by kernel_rfl) ?h8 ?r8
        case h8 => simp only [aT, aS, aZ]; rfl
        intro K hK
        have bl : Below Y0.heap.size Y0 (Y0.alloc (.cells #[] 3)) := (Below.refl _ _).alloc (Nat.le_refl _) _
        have CS1 : Hid (CopyA w #[.int .i64 s.count, .int .i64 s.sum, .int .i64 s.min, .int .i64 s.max, .slice a1 n1 c1, .slice a2 n2 c2, .slice (some ⟨p3, o3, none⟩) n3 c3] s b1 b2 n1 n2 d1 d2 G1 G2 w5.heap.size k v vs GG (Y0.alloc (.cells #[] 3)) ∧ Y0.heap.size ≤ Y0.heap.size) := ⟨CSd.out.below bl, (Nat.le_refl _)⟩
        refine op_turn (.slice (some ⟨Y0.heap.size, 0, none⟩) 0 0) (Y0.alloc (.cells #[] 3)) rfl (by kernel_rfl) ⟨_, by simp [Act.put]; rfl, hK _ _ ⟨⟨CS1.out.1.three.box, CS1.out.1.three.bel⟩, ?_⟩⟩
        clear hK bl
        obtain ⟨Y1, hY1⟩ : ∃ Z, Z = Y0.alloc (.cells #[] 3) := ⟨_, rfl⟩
        have g1 : Hid (Y0.heap.size ≤ Y1.heap.size) := by have := CS1.out.2; show _ ≤ _; rw [hY1]; exact Nat.le_trans this (by simp)
        rw [← hY1] at CS1 ⊢
        have CS1 : Hid (CopyA w #[.int .i64 s.count, .int .i64 s.sum, .int .i64 s.min, .int .i64 s.max, .slice a1 n1 c1, .slice a2 n2 c2, .slice (some ⟨p3, o3, none⟩) n3 c3] s b1 b2 n1 n2 d1 d2 G1 G2 w5.heap.size k v vs GG Y1) := CS1.out.1
        clear hY1
        refine onlyH (o := ?o9) 8 (by kernel_rfl) ?h9 ?r9
        case h9 => simp only [aT, aS, aZ]; rfl
        intro K hK
        refine op_growsI _ _ 28 rfl rfl 3 i0 Tryz.underlying28 hi hz0 hz1 hz2 (some _) rfl ak nk ck (s.rows.getD k []) Yk rfl (HQ.out.1.below CS1.out.three.bel) hnk ?_
        intro ar cr Fr Y2 rr ro rb _
        have g2 : Hid (Y0.heap.size ≤ Y2.heap.size) := Nat.le_trans g1.out rb.size
        have RR2 : Hid (RdI Y2 ar nk (s.rows.getD k []) Fr ∧ Own Y0.heap.size Y2 Fr) := ⟨rr, ro.mono g1.out⟩
        have CS2 : Hid (CopyA w #[.int .i64 s.count, .int .i64 s.sum, .int .i64 s.min, .int .i64 s.max, .slice a1 n1 c1, .slice a2 n2 c2, .slice (some ⟨p3, o3, none⟩) n3 c3] s b1 b2 n1 n2 d1 d2 G1 G2 w5.heap.size k v vs GG Y2) := CS1.out.below rb
        refine ⟨_, by simp [Act.put]; rfl, hK _ _ ⟨⟨CS2.out.three.box, CS2.out.three.bel⟩, ?_⟩⟩
        clear hK rr ro rb
        refine onlyH (o := ?o10) 9 (by kernel_rfl) ?h10 ?r10
        case h10 => simp only [aT, aS, aZ]; rfl
        intro K hK
        have bl : Below Y2.heap.size Y2 (Y2.alloc (.cells #[.slice ar nk cr] 28)) := (Below.refl _ _).alloc (Nat.le_refl _) _
        have CS3 : Hid (CopyA w #[.int .i64 s.count, .int .i64 s.sum, .int .i64 s.min, .int .i64 s.max, .slice a1 n1 c1, .slice a2 n2 c2, .slice (some ⟨p3, o3, none⟩) n3 c3] s b1 b2 n1 n2 d1 d2 G1 G2 w5.heap.size k v vs GG (Y2.alloc (.cells #[.slice ar nk cr] 28))) := CS2.out.below bl
        have RR3 : Hid (RdI (Y2.alloc (.cells #[.slice ar nk cr] 28)) ar nk (s.rows.getD k []) Fr ∧ Own Y0.heap.size (Y2.alloc (.cells #[.slice ar nk cr] 28)) Fr) := ⟨RR2.out.1.below bl, RR2.out.2.below RR2.out.1.lt bl⟩
        have NW3 : Hid (∀ j u, [Value.slice ar nk cr][j]? = some u → ((Y2.alloc (.cells #[.slice ar nk cr] 28))).cell? ((⟨Y2.heap.size, 0, none⟩ : Addr).add j) = some u) := cell_one7 _ _ _
        refine op_turn (.slice (some ⟨Y2.heap.size, 0, none⟩) 1 1) (Y2.alloc (.cells #[.slice ar nk cr] 28)) rfl (by kernel_rfl) ⟨_, by simp [Act.put]; rfl, hK _ _ ⟨⟨CS3.out.three.box, CS3.out.three.bel⟩, ?_⟩⟩
        clear hK bl
        obtain ⟨L3, hL3⟩ : ∃ z, z = Y2.heap.size := ⟨_, rfl⟩
        obtain ⟨Y3, hY3⟩ : ∃ Z, Z = (Y2.alloc (.cells #[.slice ar nk cr] 28)) := ⟨_, rfl⟩
        rw [← hY3, ← hL3] at NW3
        rw [← hY3] at CS3 RR3 ⊢
        rw [← hL3]
        clear hY3 hL3
        refine onlyH (o := ?o11) 10 (by kernel_rfl) ?h11 ?r11
        case h11 => simp only [aT, aS, aZ]; rfl
        intro K hK
        refine op_append Y3 rfl _ _ 29 rfl w5.heap.size 28 j0 (.slice none 0 0) 1 24 Tryz.underlying29 hj hy0 hy1 hy2 rfl (by decide) v k vs rfl CS3.out.row ⟨L3, 0, none⟩ 1 1 [.slice ar nk cr] rfl rfl NW3.out (by intro u hu; simp at hu; rw [hu]; rfl) (by decide) (by unfold maxLen; omega) (by omega) CS3.out.lw _ rfl ?_
        intro g4 cp4 Y4 hown hgrow hat _
        have ST := CS3.out.step RR3.out.1 RR3.out.2 HLim.out.1 HLim.out.2.1 HLim.out.2.2 hown hgrow hat HQ.out.2
        have CS4 : Hid (CopyA w #[.int .i64 s.count, .int .i64 s.sum, .int .i64 s.min, .int .i64 s.max, .slice a1 n1 c1, .slice a2 n2 c2, .slice (some ⟨p3, o3, none⟩) n3 c3] s b1 b2 n1 n2 d1 d2 G1 G2 w5.heap.size (k + 1) (.slice (some ⟨g4, 0, none⟩) (k + 1) cp4) (vs ++ [.slice ar nk cr]) (GG ++ Fr) (Y4.setCell ⟨w.heap.size + 1 + 1, 6, none⟩ (.slice (some ⟨g4, 0, none⟩) (k + 1) cp4)) ∧ CopyS w #[.int .i64 s.count, .int .i64 s.sum, .int .i64 s.min, .int .i64 s.max, .slice a1 n1 c1, .slice a2 n2 c2, .slice (some ⟨p3, o3, none⟩) n3 c3] Y4) := ⟨ST.1, ST.2.1⟩
        have co := ST.2.2.1
        have fo := ST.2.2.2
        refine ⟨_, by simp [Act.put]; rfl, hK _ _ ⟨CS4.out.2, ?_⟩⟩
        clear hK hown hgrow hat ST
        refine takeH (o := ?o12) 11 (.pointer (some ⟨w.heap.size + 1 + 1, 6, none⟩)) ?h12 ?r12
        case h12 => simp only [aT, aS, aZ]; rfl
        refine ⟨_, by simp [Act.put]; rfl, by kernel_rfl, by kernel_rfl, by kernel_rfl, fun _ _ _ h => h, (.inl ⟨rfl, fun W _ => by kernel_rfl⟩), CS4.out.2, ?_⟩
        refine onlyH (o := ?o13) 12 (by kernel_rfl) ?h13 ?r13
        case h13 => simp only [aT, aS, aZ]; rfl
        intro K hK
        refine op_skip (Y4.setCell ⟨w.heap.size + 1 + 1, 6, none⟩ (.slice (some ⟨g4, 0, none⟩) (k + 1) cp4)) rfl (by go_simp) ⟨_, by simp [Act.put]; rfl, hK _ _ ⟨⟨CS4.out.1.three.box, CS4.out.1.three.bel⟩, ?_⟩⟩
        clear hK co fo
        refine wpAnyH_done (by kernel_rfl) ?_ _
        have HF : Hid (CopyA w #[.int .i64 s.count, .int .i64 s.sum, .int .i64 s.min, .int .i64 s.max, .slice a1 n1 c1, .slice a2 n2 c2, .slice (some ⟨p3, o3, none⟩) n3 c3] s b1 b2 n1 n2 d1 d2 G1 G2 w5.heap.size (k + 1) (.slice (some ⟨g4, 0, none⟩) (k + 1) cp4) (vs ++ [.slice ar nk cr]) (GG ++ Fr) (Y4.setCell ⟨w.heap.size + 1 + 1, 6, none⟩ (.slice (some ⟨g4, 0, none⟩) (k + 1) cp4))) := CS4.out.1
        obtain ⟨YZ, hYZ⟩ : ∃ Z, Z = Y4.setCell ⟨w.heap.size + 1 + 1, 6, none⟩ (.slice (some ⟨g4, 0, none⟩) (k + 1) cp4) := ⟨_, rfl⟩
        rw [← hYZ] at HF ⊢
        clear hYZ CS4
        go_wp2
        go_roundw
        case rel => exact ⟨k + 1, _, _, _, by omega, by go_num, HF.out⟩
        case measure => simp [intOf]; omega
      case s7 =>
        intro K hK
        have bl : Below Y0.heap.size Y0 (Y0.alloc (.cells #[] 3)) := (Below.refl _ _).alloc (Nat.le_refl _) _
        have CS5 : Hid (CopyA w #[.int .i64 s.count, .int .i64 s.sum, .int .i64 s.min, .int .i64 s.max, .slice a1 n1 c1, .slice a2 n2 c2, .slice (some ⟨p3, o3, none⟩) n3 c3] s b1 b2 n1 n2 d1 d2 G1 G2 w5.heap.size k v vs GG (Y0.alloc (.cells #[] 3)) ∧ Y0.heap.size ≤ Y0.heap.size) := ⟨CSd.out.below bl, (Nat.le_refl _)⟩
        refine op_turn (.slice (some ⟨Y0.heap.size, 0, none⟩) 0 0) (Y0.alloc (.cells #[] 3)) rfl (by kernel_rfl) ⟨_, by simp [Act.put]; rfl, hK _ _ ⟨⟨CS5.out.1.three.box, CS5.out.1.three.bel⟩, ?_⟩⟩
        clear hK bl
        obtain ⟨Y5, hY5⟩ : ∃ Z, Z = Y0.alloc (.cells #[] 3) := ⟨_, rfl⟩
        have g5 : Hid (Y0.heap.size ≤ Y5.heap.size) := by have := CS5.out.2; show _ ≤ _; rw [hY5]; exact Nat.le_trans this (by simp)
        rw [← hY5] at CS5 ⊢
        have CS5 : Hid (CopyA w #[.int .i64 s.count, .int .i64 s.sum, .int .i64 s.min, .int .i64 s.max, .slice a1 n1 c1, .slice a2 n2 c2, .slice (some ⟨p3, o3, none⟩) n3 c3] s b1 b2 n1 n2 d1 d2 G1 G2 w5.heap.size k v vs GG Y5) := CS5.out.1
        clear hY5
        refine twoH (o := ?o14) (o' := ?p14) 1 8 (by kernel_rfl) ?h14 ?g14 ?r14 ?s14
        case h14 => simp only [aT, aS, aZ]; rfl
        case g14 => simp only [aT, aS, aZ]; rfl
        case r14 =>
          intro K hK
          have co := CS5.out.three.loc.cell 6
          simp only [aT, aS, aZ] at co
          refine op_value v rfl (by go_simp) ⟨_, by simp [Act.put]; rfl, hK _ _ ⟨⟨CS5.out.three.box, CS5.out.three.bel⟩, ?_⟩⟩
          clear hK co
          refine onlyH (o := ?o15) 8 (by kernel_rfl) ?h15 ?r15
          case h15 => simp only [aT, aS, aZ]; rfl
          intro K hK
          refine op_growsI _ _ 28 rfl rfl 3 i0 Tryz.underlying28 hi hz0 hz1 hz2 (some _) rfl ak nk ck (s.rows.getD k []) Yk rfl (HQ.out.1.below CS5.out.three.bel) hnk ?_
          intro ar cr Fr Y6 rr ro rb _
          have g6 : Hid (Y0.heap.size ≤ Y6.heap.size) := Nat.le_trans g5.out rb.size
          have RR6 : Hid (RdI Y6 ar nk (s.rows.getD k []) Fr ∧ Own Y0.heap.size Y6 Fr) := ⟨rr, ro.mono g5.out⟩
          have CS6 : Hid (CopyA w #[.int .i64 s.count, .int .i64 s.sum, .int .i64 s.min, .int .i64 s.max, .slice a1 n1 c1, .slice a2 n2 c2, .slice (some ⟨p3, o3, none⟩) n3 c3] s b1 b2 n1 n2 d1 d2 G1 G2 w5.heap.size k v vs GG Y6) := CS5.out.below rb
          refine ⟨_, by simp [Act.put]; rfl, hK _ _ ⟨⟨CS6.out.three.box, CS6.out.three.bel⟩, ?_⟩⟩
          clear hK rr ro rb
          refine onlyH (o := ?o16) 9 (by kernel_rfl) ?h16 ?r16
          case h16 => simp only [aT, aS, aZ]; rfl
          intro K hK
          have bl : Below Y6.heap.size Y6 (Y6.alloc (.cells #[.slice ar nk cr] 28)) := (Below.refl _ _).alloc (Nat.le_refl _) _
          have CS7 : Hid (CopyA w #[.int .i64 s.count, .int .i64 s.sum, .int .i64 s.min, .int .i64 s.max, .slice a1 n1 c1, .slice a2 n2 c2, .slice (some ⟨p3, o3, none⟩) n3 c3] s b1 b2 n1 n2 d1 d2 G1 G2 w5.heap.size k v vs GG (Y6.alloc (.cells #[.slice ar nk cr] 28))) := CS6.out.below bl
          have RR7 : Hid (RdI (Y6.alloc (.cells #[.slice ar nk cr] 28)) ar nk (s.rows.getD k []) Fr ∧ Own Y0.heap.size (Y6.alloc (.cells #[.slice ar nk cr] 28)) Fr) := ⟨RR6.out.1.below bl, RR6.out.2.below RR6.out.1.lt bl⟩
          have NW7 : Hid (∀ j u, [Value.slice ar nk cr][j]? = some u → ((Y6.alloc (.cells #[.slice ar nk cr] 28))).cell? ((⟨Y6.heap.size, 0, none⟩ : Addr).add j) = some u) := cell_one7 _ _ _
          refine op_turn (.slice (some ⟨Y6.heap.size, 0, none⟩) 1 1) (Y6.alloc (.cells #[.slice ar nk cr] 28)) rfl (by kernel_rfl) ⟨_, by simp [Act.put]; rfl, hK _ _ ⟨⟨CS7.out.three.box, CS7.out.three.bel⟩, ?_⟩⟩
          clear hK bl
          obtain ⟨L7, hL7⟩ : ∃ z, z = Y6.heap.size := ⟨_, rfl⟩
          obtain ⟨Y7, hY7⟩ : ∃ Z, Z = (Y6.alloc (.cells #[.slice ar nk cr] 28)) := ⟨_, rfl⟩
          rw [← hY7, ← hL7] at NW7
          rw [← hY7] at CS7 RR7 ⊢
          rw [← hL7]
          clear hY7 hL7
          refine onlyH (o := ?o17) 10 (by kernel_rfl) ?h17 ?r17
          case h17 => simp only [aT, aS, aZ]; rfl
          intro K hK
          refine op_append Y7 rfl _ _ 29 rfl w5.heap.size 28 j0 (.slice none 0 0) 1 24 Tryz.underlying29 hj hy0 hy1 hy2 rfl (by decide) v k vs rfl CS7.out.row ⟨L7, 0, none⟩ 1 1 [.slice ar nk cr] rfl rfl NW7.out (by intro u hu; simp at hu; rw [hu]; rfl) (by decide) (by unfold maxLen; omega) (by omega) CS7.out.lw _ rfl ?_
          intro g4 cp4 Y8 hown hgrow hat _
          have ST := CS7.out.step RR7.out.1 RR7.out.2 HLim.out.1 HLim.out.2.1 HLim.out.2.2 hown hgrow hat HQ.out.2
          have CS8 : Hid (CopyA w #[.int .i64 s.count, .int .i64 s.sum, .int .i64 s.min, .int .i64 s.max, .slice a1 n1 c1, .slice a2 n2 c2, .slice (some ⟨p3, o3, none⟩) n3 c3] s b1 b2 n1 n2 d1 d2 G1 G2 w5.heap.size (k + 1) (.slice (some ⟨g4, 0, none⟩) (k + 1) cp4) (vs ++ [.slice ar nk cr]) (GG ++ Fr) (Y8.setCell ⟨w.heap.size + 1 + 1, 6, none⟩ (.slice (some ⟨g4, 0, none⟩) (k + 1) cp4)) ∧ CopyS w #[.int .i64 s.count, .int .i64 s.sum, .int .i64 s.min, .int .i64 s.max, .slice a1 n1 c1, .slice a2 n2 c2, .slice (some ⟨p3, o3, none⟩) n3 c3] Y8) := ⟨ST.1, ST.2.1⟩
          have co := ST.2.2.1
          have fo := ST.2.2.2
          refine ⟨_, by simp [Act.put]; rfl, hK _ _ ⟨CS8.out.2, ?_⟩⟩
          clear hK hown hgrow hat ST
          refine takeH (o := ?o18) 11 (.pointer (some ⟨w.heap.size + 1 + 1, 6, none⟩)) ?h18 ?r18
          case h18 => simp only [aT, aS, aZ]; rfl
          refine ⟨_, by simp [Act.put]; rfl, by kernel_rfl, by kernel_rfl, by kernel_rfl, fun _ _ _ h => h, (.inl ⟨rfl, fun W _ => by kernel_rfl⟩), CS8.out.2, ?_⟩
          refine onlyH (o := ?o19) 12 (by kernel_rfl) ?h19 ?r19
          case h19 => simp only [aT, aS, aZ]; rfl
          intro K hK
          refine op_skip (Y8.setCell ⟨w.heap.size + 1 + 1, 6, none⟩ (.slice (some ⟨g4, 0, none⟩) (k + 1) cp4)) rfl (by go_simp) ⟨_, by simp [Act.put]; rfl, hK _ _ ⟨⟨CS8.out.1.three.box, CS8.out.1.three.bel⟩, ?_⟩⟩
          clear hK co fo
          refine wpAnyH_done (by kernel_rfl) ?_ _
          have HF : Hid (CopyA w #[.int .i64 s.count, .int .i64 s.sum, .int .i64 s.min, .int .i64 s.max, .slice a1 n1 c1, .slice a2 n2 c2, .slice (some ⟨p3, o3, none⟩) n3 c3] s b1 b2 n1 n2 d1 d2 G1 G2 w5.heap.size (k + 1) (.slice (some ⟨g4, 0, none⟩) (k + 1) cp4) (vs ++ [.slice ar nk cr]) (GG ++ Fr) (Y8.setCell ⟨w.heap.size + 1 + 1, 6, none⟩ (.slice (some ⟨g4, 0, none⟩) (k + 1) cp4))) := CS8.out.1
          obtain ⟨YZ, hYZ⟩ : ∃ Z, Z = Y8.setCell ⟨w.heap.size + 1 + 1, 6, none⟩ (.slice (some ⟨g4, 0, none⟩) (k + 1) cp4) := ⟨_, rfl⟩
          rw [← hYZ] at HF ⊢
          clear hYZ CS8
          go_wp2
          go_roundw
          case rel => exact ⟨k + 1, _, _, _, by omega, by go_num, HF.out⟩
          case measure => simp [intOf]; omega
        case s14 =>
          intro K hK
          refine op_growsI _ _ 28 rfl rfl 3 i0 Tryz.underlying28 hi hz0 hz1 hz2 (some _) rfl ak nk ck (s.rows.getD k []) Yk rfl (HQ.out.1.below CS5.out.three.bel) hnk ?_
          intro ar cr Fr Y9 rr ro rb _
          have g9 : Hid (Y0.heap.size ≤ Y9.heap.size) := Nat.le_trans g5.out rb.size
          have RR9 : Hid (RdI Y9 ar nk (s.rows.getD k []) Fr ∧ Own Y0.heap.size Y9 Fr) := ⟨rr, ro.mono g5.out⟩
          have CS9 : Hid (CopyA w #[.int .i64 s.count, .int .i64 s.sum, .int .i64 s.min, .int .i64 s.max, .slice a1 n1 c1, .slice a2 n2 c2, .slice (some ⟨p3, o3, none⟩) n3 c3] s b1 b2 n1 n2 d1 d2 G1 G2 w5.heap.size k v vs GG Y9) := CS5.out.below rb
          refine ⟨_, by simp [Act.put]; rfl, hK _ _ ⟨⟨CS9.out.three.box, CS9.out.three.bel⟩, ?_⟩⟩
          clear hK rr ro rb
          refine twoH (o := ?o20) (o' := ?p20) 1 9 (by kernel_rfl) ?h20 ?g20 ?r20 ?s20
          case h20 => simp only [aT, aS, aZ]; rfl
          case g20 => simp only [aT, aS, aZ]; rfl
          case r20 =>
            intro K hK
            have co := CS9.out.three.loc.cell 6
            simp only [aT, aS, aZ] at co
            refine op_value v rfl (by go_simp) ⟨_, by simp [Act.put]; rfl, hK _ _ ⟨⟨CS9.out.three.box, CS9.out.three.bel⟩, ?_⟩⟩
            clear hK co
            refine onlyH (o := ?o21) 9 (by kernel_rfl) ?h21 ?r21
            case h21 => simp only [aT, aS, aZ]; rfl
            intro K hK
            have bl : Below Y9.heap.size Y9 (Y9.alloc (.cells #[.slice ar nk cr] 28)) := (Below.refl _ _).alloc (Nat.le_refl _) _
            have CS10 : Hid (CopyA w #[.int .i64 s.count, .int .i64 s.sum, .int .i64 s.min, .int .i64 s.max, .slice a1 n1 c1, .slice a2 n2 c2, .slice (some ⟨p3, o3, none⟩) n3 c3] s b1 b2 n1 n2 d1 d2 G1 G2 w5.heap.size k v vs GG (Y9.alloc (.cells #[.slice ar nk cr] 28))) := CS9.out.below bl
            have RR10 : Hid (RdI (Y9.alloc (.cells #[.slice ar nk cr] 28)) ar nk (s.rows.getD k []) Fr ∧ Own Y0.heap.size (Y9.alloc (.cells #[.slice ar nk cr] 28)) Fr) := ⟨RR9.out.1.below bl, RR9.out.2.below RR9.out.1.lt bl⟩
            have NW10 : Hid (∀ j u, [Value.slice ar nk cr][j]? = some u → ((Y9.alloc (.cells #[.slice ar nk cr] 28))).cell? ((⟨Y9.heap.size, 0, none⟩ : Addr).add j) = some u) := cell_one7 _ _ _
            refine op_turn (.slice (some ⟨Y9.heap.size, 0, none⟩) 1 1) (Y9.alloc (.cells #[.slice ar nk cr] 28)) rfl (by kernel_rfl) ⟨_, by simp [Act.put]; rfl, hK _ _ ⟨⟨CS10.out.three.box, CS10.out.three.bel⟩, ?_⟩⟩
            clear hK bl
            obtain ⟨L10, hL10⟩ : ∃ z, z = Y9.heap.size := ⟨_, rfl⟩
            obtain ⟨Y10, hY10⟩ : ∃ Z, Z = (Y9.alloc (.cells #[.slice ar nk cr] 28)) := ⟨_, rfl⟩
            rw [← hY10, ← hL10] at NW10
            rw [← hY10] at CS10 RR10 ⊢
            rw [← hL10]
            clear hY10 hL10
            refine onlyH (o := ?o22) 10 (by kernel_rfl) ?h22 ?r22
            case h22 => simp only [aT, aS, aZ]; rfl
            intro K hK
            refine op_append Y10 rfl _ _ 29 rfl w5.heap.size 28 j0 (.slice none 0 0) 1 24 Tryz.underlying29 hj hy0 hy1 hy2 rfl (by decide) v k vs rfl CS10.out.row ⟨L10, 0, none⟩ 1 1 [.slice ar nk cr] rfl rfl NW10.out (by intro u hu; simp at hu; rw [hu]; rfl) (by decide) (by unfold maxLen; omega) (by omega) CS10.out.lw _ rfl ?_
            intro g4 cp4 Y11 hown hgrow hat _
            have ST := CS10.out.step RR10.out.1 RR10.out.2 HLim.out.1 HLim.out.2.1 HLim.out.2.2 hown hgrow hat HQ.out.2
            have CS11 : Hid (CopyA w #[.int .i64 s.count, .int .i64 s.sum, .int .i64 s.min, .int .i64 s.max, .slice a1 n1 c1, .slice a2 n2 c2, .slice (some ⟨p3, o3, none⟩) n3 c3] s b1 b2 n1 n2 d1 d2 G1 G2 w5.heap.size (k + 1) (.slice (some ⟨g4, 0, none⟩) (k + 1) cp4) (vs ++ [.slice ar nk cr]) (GG ++ Fr) (Y11.setCell ⟨w.heap.size + 1 + 1, 6, none⟩ (.slice (some ⟨g4, 0, none⟩) (k + 1) cp4)) ∧ CopyS w #[.int .i64 s.count, .int .i64 s.sum, .int .i64 s.min, .int .i64 s.max, .slice a1 n1 c1, .slice a2 n2 c2, .slice (some ⟨p3, o3, none⟩) n3 c3] Y11) := ⟨ST.1, ST.2.1⟩
            have co := ST.2.2.1
            have fo := ST.2.2.2
            refine ⟨_, by simp [Act.put]; rfl, hK _ _ ⟨CS11.out.2, ?_⟩⟩
            clear hK hown hgrow hat ST
            refine takeH (o := ?o23) 11 (.pointer (some ⟨w.heap.size + 1 + 1, 6, none⟩)) ?h23 ?r23
            case h23 => simp only [aT, aS, aZ]; rfl
            refine ⟨_, by simp [Act.put]; rfl, by kernel_rfl, by kernel_rfl, by kernel_rfl, fun _ _ _ h => h, (.inl ⟨rfl, fun W _ => by kernel_rfl⟩), CS11.out.2, ?_⟩
            refine onlyH (o := ?o24) 12 (by kernel_rfl) ?h24 ?r24
            case h24 => simp only [aT, aS, aZ]; rfl
            intro K hK
            refine op_skip (Y11.setCell ⟨w.heap.size + 1 + 1, 6, none⟩ (.slice (some ⟨g4, 0, none⟩) (k + 1) cp4)) rfl (by go_simp) ⟨_, by simp [Act.put]; rfl, hK _ _ ⟨⟨CS11.out.1.three.box, CS11.out.1.three.bel⟩, ?_⟩⟩
            clear hK co fo
            refine wpAnyH_done (by kernel_rfl) ?_ _
            have HF : Hid (CopyA w #[.int .i64 s.count, .int .i64 s.sum, .int .i64 s.min, .int .i64 s.max, .slice a1 n1 c1, .slice a2 n2 c2, .slice (some ⟨p3, o3, none⟩) n3 c3] s b1 b2 n1 n2 d1 d2 G1 G2 w5.heap.size (k + 1) (.slice (some ⟨g4, 0, none⟩) (k + 1) cp4) (vs ++ [.slice ar nk cr]) (GG ++ Fr) (Y11.setCell ⟨w.heap.size + 1 + 1, 6, none⟩ (.slice (some ⟨g4, 0, none⟩) (k + 1) cp4))) := CS11.out.1
            obtain ⟨YZ, hYZ⟩ : ∃ Z, Z = Y11.setCell ⟨w.heap.size + 1 + 1, 6, none⟩ (.slice (some ⟨g4, 0, none⟩) (k + 1) cp4) := ⟨_, rfl⟩
            rw [← hYZ] at HF ⊢
            clear hYZ CS11
            go_wp2
            go_roundw
            case rel => exact ⟨k + 1, _, _, _, by omega, by go_num, HF.out⟩
            case measure => simp [intOf]; omega
          case s20 =>
            intro K hK
            have bl : Below Y9.heap.size Y9 (Y9.alloc (.cells #[.slice ar nk cr] 28)) := (Below.refl _ _).alloc (Nat.le_refl _) _
            have CS12 : Hid (CopyA w #[.int .i64 s.count, .int .i64 s.sum, .int .i64 s.min, .int .i64 s.max, .slice a1 n1 c1, .slice a2 n2 c2, .slice (some ⟨p3, o3, none⟩) n3 c3] s b1 b2 n1 n2 d1 d2 G1 G2 w5.heap.size k v vs GG (Y9.alloc (.cells #[.slice ar nk cr] 28))) := CS9.out.below bl
            have RR12 : Hid (RdI (Y9.alloc (.cells #[.slice ar nk cr] 28)) ar nk (s.rows.getD k []) Fr ∧ Own Y0.heap.size (Y9.alloc (.cells #[.slice ar nk cr] 28)) Fr) := ⟨RR9.out.1.below bl, RR9.out.2.below RR9.out.1.lt bl⟩
            have NW12 : Hid (∀ j u, [Value.slice ar nk cr][j]? = some u → ((Y9.alloc (.cells #[.slice ar nk cr] 28))).cell? ((⟨Y9.heap.size, 0, none⟩ : Addr).add j) = some u) := cell_one7 _ _ _
            refine op_turn (.slice (some ⟨Y9.heap.size, 0, none⟩) 1 1) (Y9.alloc (.cells #[.slice ar nk cr] 28)) rfl (by kernel_rfl) ⟨_, by simp [Act.put]; rfl, hK _ _ ⟨⟨CS12.out.three.box, CS12.out.three.bel⟩, ?_⟩⟩
            clear hK bl
            obtain ⟨L12, hL12⟩ : ∃ z, z = Y9.heap.size := ⟨_, rfl⟩
            obtain ⟨Y12, hY12⟩ : ∃ Z, Z = (Y9.alloc (.cells #[.slice ar nk cr] 28)) := ⟨_, rfl⟩
            rw [← hY12, ← hL12] at NW12
            rw [← hY12] at CS12 RR12 ⊢
            rw [← hL12]
            clear hY12 hL12
            refine onlyH (o := ?o25) 1 (by kernel_rfl) ?h25 ?r25
            case h25 => simp only [aT, aS, aZ]; rfl
            intro K hK
            have co := CS12.out.three.loc.cell 6
            simp only [aT, aS, aZ] at co
            refine op_value v rfl (by go_simp) ⟨_, by simp [Act.put]; rfl, hK _ _ ⟨⟨CS12.out.three.box, CS12.out.three.bel⟩, ?_⟩⟩
            clear hK co
            refine onlyH (o := ?o26) 10 (by kernel_rfl) ?h26 ?r26
            case h26 => simp only [aT, aS, aZ]; rfl
            intro K hK
            refine op_append Y12 rfl _ _ 29 rfl w5.heap.size 28 j0 (.slice none 0 0) 1 24 Tryz.underlying29 hj hy0 hy1 hy2 rfl (by decide) v k vs rfl CS12.out.row ⟨L12, 0, none⟩ 1 1 [.slice ar nk cr] rfl rfl NW12.out (by intro u hu; simp at hu; rw [hu]; rfl) (by decide) (by unfold maxLen; omega) (by omega) CS12.out.lw _ rfl ?_
            intro g4 cp4 Y13 hown hgrow hat _
            have ST := CS12.out.step RR12.out.1 RR12.out.2 HLim.out.1 HLim.out.2.1 HLim.out.2.2 hown hgrow hat HQ.out.2
            have CS13 : Hid (CopyA w #[.int .i64 s.count, .int .i64 s.sum, .int .i64 s.min, .int .i64 s.max, .slice a1 n1 c1, .slice a2 n2 c2, .slice (some ⟨p3, o3, none⟩) n3 c3] s b1 b2 n1 n2 d1 d2 G1 G2 w5.heap.size (k + 1) (.slice (some ⟨g4, 0, none⟩) (k + 1) cp4) (vs ++ [.slice ar nk cr]) (GG ++ Fr) (Y13.setCell ⟨w.heap.size + 1 + 1, 6, none⟩ (.slice (some ⟨g4, 0, none⟩) (k + 1) cp4)) ∧ CopyS w #[.int .i64 s.count, .int .i64 s.sum, .int .i64 s.min, .int .i64 s.max, .slice a1 n1 c1, .slice a2 n2 c2, .slice (some ⟨p3, o3, none⟩) n3 c3] Y13) := ⟨ST.1, ST.2.1⟩
            have co := ST.2.2.1
            have fo := ST.2.2.2
            refine ⟨_, by simp [Act.put]; rfl, hK _ _ ⟨CS13.out.2, ?_⟩⟩
            clear hK hown hgrow hat ST
            refine takeH (o := ?o27) 11 (.pointer (some ⟨w.heap.size + 1 + 1, 6, none⟩)) ?h27 ?r27
            case h27 => simp only [aT, aS, aZ]; rfl
            refine ⟨_, by simp [Act.put]; rfl, by kernel_rfl, by kernel_rfl, by kernel_rfl, fun _ _ _ h => h, (.inl ⟨rfl, fun W _ => by kernel_rfl⟩), CS13.out.2, ?_⟩
            refine onlyH (o := ?o28) 12 (by kernel_rfl) ?h28 ?r28
            case h28 => simp only [aT, aS, aZ]; rfl
            intro K hK
            refine op_skip (Y13.setCell ⟨w.heap.size + 1 + 1, 6, none⟩ (.slice (some ⟨g4, 0, none⟩) (k + 1) cp4)) rfl (by go_simp) ⟨_, by simp [Act.put]; rfl, hK _ _ ⟨⟨CS13.out.1.three.box, CS13.out.1.three.bel⟩, ?_⟩⟩
            clear hK co fo
            refine wpAnyH_done (by kernel_rfl) ?_ _
            have HF : Hid (CopyA w #[.int .i64 s.count, .int .i64 s.sum, .int .i64 s.min, .int .i64 s.max, .slice a1 n1 c1, .slice a2 n2 c2, .slice (some ⟨p3, o3, none⟩) n3 c3] s b1 b2 n1 n2 d1 d2 G1 G2 w5.heap.size (k + 1) (.slice (some ⟨g4, 0, none⟩) (k + 1) cp4) (vs ++ [.slice ar nk cr]) (GG ++ Fr) (Y13.setCell ⟨w.heap.size + 1 + 1, 6, none⟩ (.slice (some ⟨g4, 0, none⟩) (k + 1) cp4))) := CS13.out.1
            obtain ⟨YZ, hYZ⟩ : ∃ Z, Z = Y13.setCell ⟨w.heap.size + 1 + 1, 6, none⟩ (.slice (some ⟨g4, 0, none⟩) (k + 1) cp4) := ⟨_, rfl⟩
            rw [← hYZ] at HF ⊢
            clear hYZ CS13
            go_wp2
            go_roundw
            case rel => exact ⟨k + 1, _, _, _, by omega, by go_num, HF.out⟩
            case measure => simp [intOf]; omega
    · obtain rfl : k = n3 := by omega
      obtain ⟨b3, d3, F4, rfl, rII, oA, _⟩ := CSS.out.rows
      have HE : Hid (Three w #[.int .i64 s.count, .int .i64 s.sum, .int .i64 s.min, .int .i64 s.max, .slice a1 n1 c1, .slice a2 n2 c2, .slice a3 k c3] 31 #[.int .i64 0, .int .i64 0, .int .i64 0, .int .i64 0, .slice none 0 0, .slice none 0 0, .slice none 0 0] #[.int .i64 s.count, .int .i64 s.sum, .int .i64 s.min, .int .i64 s.max, .slice b1 n1 d1, .slice b2 n2 d2, .slice b3 k d3] 31 wr ∧ RdSk wr (.agg #[.int .i64 s.count, .int .i64 s.sum, .int .i64 s.min, .int .i64 s.max, .slice b1 n1 d1, .slice b2 n2 d2, .slice b3 k d3]) s (G1 ++ (G2 ++ F4)) ∧ Own (w.heap.size + 3) wr (G1 ++ (G2 ++ F4))) := by
        rw [List.take_of_length_le (by rw [HL.out.2.2]; exact Nat.le_refl _)] at rII
        exact ⟨CSS.out.three, ⟨b1, n1, d1, b2, n2, d2, b3, k, d3, G1, G2, F4, rfl, CSS.out.r1, CSS.out.r2, rII, rfl⟩, oA⟩
      clear rII oA CSS e6
      have hI : ¬ (k : Int) < (k : Int) := by omega
      have e6 := HE.out.1.box.cell 6
      simp only [aT, aS, aZ] at e6
      go_wp2_with (first | go_skip | (with_reducible refine stopLoad 31 rfl ?_))
      refine load_known 31 (w.heap.size + 1 + 1) _ 31 _ HE.out.1.loc rfl rfl rfl Tryz.underlying31 rfl infoSkI ?_
      go_wp2_with (first | go_skip | (with_reducible refine stopStore 31 rfl ?_))
      refine store_known 31 (w.heap.size + 1) _ #[.int .i64 s.count, .int .i64 s.sum, .int .i64 s.min, .int .i64 s.max, .slice b1 n1 d1, .slice b2 n2 d2, .slice b3 k d3] 31 HE.out.1.res rfl rfl rfl rfl infoSkI rfl (by simp [Value.oneCell']) ?_
      go_wp2
      refine bodyPost_ret (results_cell_row Tryz.results96 _ _ (w.heap.size + 1) _ _ (0, 0) _ rfl HE.out.1.res.setRow Tryz.underlying31 rfl infoSkI) rfl ?_
      have nr : w.heap.size + 1 ∉ G1 ++ (G2 ++ F4) := fun hx => by have := HE.out.2.2.ge _ hx; omega
      exact ⟨_, _, rfl, HE.out.2.1.agree (Agree.row nr _), (HE.out.2.2.agree (Agree.row nr _)).mono (by omega), below_setRow HE.out.1.bel (by omega) _⟩
end Go.Proofs.YtgkbhhlkaifnoaaGreatDoor
/- A slice of structs that grows by appending, element by element. No statement of the seat is proved here. -/
namespace Go.Proofs.YtgkbhhlkaifnoaaGreatDoor
open Go.RowKit
section
variable {α : Type} {K : ElK α} {e : TypeId} {xs : List α} {lo k : Nat} {v : Value} {vs : List Value} {G : List Nat} {W W' : World}
/-- What has been appended behind k rounds. -/
structure GrowL (K : ElK α) (e : TypeId) (xs : List α) (lo k : Nat) (v : Value) (vs : List Value) (G : List Nat) (W : World) : Prop where
  row : W.ownsRow lo e K.n v k vs
  rd : RdC K W (xs.take k) vs G
  og : Own lo W G
  ap : ∀ b, v.ownBlock = some b → b ∉ G
  lw : lo ≤ W.heap.size
theorem GrowL.start (hw : lo ≤ W.heap.size) : GrowL K e xs lo 0 (.slice none 0 0) [] [] W := ⟨World.ownsRow_nil _ _ _ _, by rw [List.take_zero]; exact RdC.nil, Own.nil, (fun b hb => by cases hb), hw⟩
theorem GrowL.below (h : GrowL K e xs lo k v vs G W) (b : Below W.heap.size W W') : GrowL K e xs lo k v vs G W' := by
  refine ⟨?_, h.rd.below b, h.og.below h.rd.lt b, h.ap, Nat.le_trans h.lw b.size⟩
  refine ⟨h.row.1, ?_⟩
  rcases h.row.2 with q | ⟨g, cap, cur, h1, h2, h3, h4⟩
  · exact .inl q
  · refine .inr ⟨g, cap, cur, h1, h2, ?_, h4⟩
    rw [b.block g (h.row.lt g (by rw [h1]; rfl)).2]
    exact h3
theorem GrowL.set {g j : Nat} {u : Value} (h : GrowL K e xs lo k v vs G W) (hg : g < lo) : GrowL K e xs lo k v vs G (W.setCell ⟨g, j, none⟩ u) := by
  have nG : g ∉ G := fun hx => by have := h.og.ge _ hx; omega
  refine ⟨⟨h.row.1, ?_⟩, h.rd.agree (.set nG _ _), h.og.agree (.set nG _ _), h.ap, by simpa using h.lw⟩
  rcases h.row.2 with q | ⟨g', cap, cur, h1, h2, h3, h4⟩
  · exact .inl q
  · exact .inr ⟨g', cap, cur, h1, h2, by rw [Below.heap_setCell W ⟨g, j, none⟩ u g' (by show g' ≠ g; omega)]; exact h3, h4⟩
theorem GrowL.setRow {g : Nat} {ds : Array Value} (h : GrowL K e xs lo k v vs G W) (hg : g < lo) : GrowL K e xs lo k v vs G (W.setRow g ds) := by
  have nG : g ∉ G := fun hx => by have := h.og.ge _ hx; omega
  refine ⟨⟨h.row.1, ?_⟩, h.rd.agree (Agree.row nG _), h.og.agree (Agree.row nG _), h.ap, ?_⟩
  · rcases h.row.2 with q | ⟨g', cap, cur, h1, h2, h3, h4⟩
    · exact .inl q
    · exact .inr ⟨g', cap, cur, h1, h2, by rw [setRow_other W g g' ds (by omega)]; exact h3, h4⟩
  · have := (below_setRow (Below.refl 0 W) (Nat.zero_le g) ds).size
    exact Nat.le_trans h.lw this
theorem GrowL.lts (h : GrowL K e xs lo k v vs G W) : (∀ b ∈ G, b < W.heap.size) ∧ (∀ b, v.ownBlock = some b → b < W.heap.size) ∧ lo ≤ W.heap.size := ⟨h.rd.lt, fun b hb => (h.row.lt b hb).2, h.lw⟩
theorem GrowL.step (h : GrowL K e xs lo k v vs G W) {x : α} {cs : Array Value} {Fk : List Nat} {L g4 cp4 : Nat} (hx : xs[k]? = some x) (rk : K.R W (.agg cs) x Fk) (hn : cs.size = K.n) (ok : Own L W Fk) (ltG : ∀ b ∈ G, b < L) (ltv : ∀ b, v.ownBlock = some b → b < L) (hL : lo ≤ L)
    (hown : W'.ownsRow lo e K.n (.slice (some ⟨g4, 0, none⟩) (k + 1) cp4) (k + 1) (vs ++ cs.toList)) (hgrow : W.grownBy W' v.ownBlock) (hat : v.ownBlock = some g4 ∨ g4 = W.heap.size) :
    GrowL K e xs lo (k + 1) (.slice (some ⟨g4, 0, none⟩) (k + 1) cp4) (vs ++ cs.toList) (G ++ Fk) W' := by
  have blk : ∀ b, b < W.heap.size → ¬ v.ownBlock = some b → W'.heap[b]? = W.heap[b]? := fun b hb hn => hgrow.block b hb (fun e => hn e.symm)
  have agG : Agree W W' G := fun b hb => blk b (h.rd.lt b hb) (fun e => h.ap b e hb)
  have agF : Agree W W' Fk := fun b hb => blk b (K.lt rk b hb) (fun e => by have := ok.ge b hb; have := ltv b e; omega)
  refine ⟨hown, ?_, ?_, ?_, Nat.le_trans h.lw hgrow.size⟩
  · rw [take_snoc_at hx]
    exact (h.rd.agree agG).snoc (K.agree rk agF) hn
  · exact (h.og.agree agG).join (ok.agree agF) ltG hL
  · intro b hb hx
    have hb' : b = g4 := by simpa [Value.ownBlock] using hb.symm
    subst hb'
    rcases hat with q | q
    · rcases List.mem_append.1 hx with hx | hx
      · exact h.ap _ q hx
      · have := ok.ge _ hx; have := ltv _ q; omega
    · rcases List.mem_append.1 hx with hx | hx
      · have := h.rd.lt _ hx; omega
      · have := K.lt rk _ hx; omega
/-- What lies elsewhere stays, where only the growing row is written. -/
theorem GrowL.other (h : GrowL K e xs lo k v vs G W) (hgrow : W.grownBy W' v.ownBlock) {b : Nat} (hb : b < lo) : W'.heap[b]? = W.heap[b]? := hgrow.block b (Nat.lt_of_lt_of_le hb h.lw) (fun e => by have := (h.row.lt b e.symm).1; omega)
theorem GrowL.done (h : GrowL K e xs lo k v vs G W) (hk : xs.length = k) : ∃ a cap F, v = .slice a k cap ∧ RdL K W a k xs F ∧ Own lo W F ∧ Capd a k cap := by
  have rd := h.rd
  rw [List.take_of_length_le (Nat.le_of_eq hk)] at rd
  exact rdL_of_own h.row rd h.og h.ap
/-- The same, and where its blocks lie. -/
theorem GrowL.done2 (h : GrowL K e xs lo k v vs G W) (hk : xs.length = k) : ∃ a cap F, v = .slice a k cap ∧ RdL K W a k xs F ∧ Own lo W F ∧ Capd a k cap ∧ ∀ b ∈ F, v.ownBlock = some b ∨ b ∈ G := by
  have rd := h.rd
  rw [List.take_of_length_le (Nat.le_of_eq hk)] at rd
  have hr := h.row
  have hl : xs.length = k := hk
  rcases hr.2 with ⟨e1, e2⟩ | ⟨g, cap, cur, e1, h1, h2, h3, h4, h5, h6⟩
  · subst e2
    obtain rfl : xs = [] := List.eq_nil_of_length_eq_zero hl
    exact ⟨_, 0, [], e1, RdL.nil, Own.nil, ⟨fun _ => rfl, Nat.le_refl _⟩, fun b hb => by cases hb⟩
  · by_cases h0 : k = 0
    · subst h0
      obtain rfl : xs = [] := List.eq_nil_of_length_eq_zero hl
      exact ⟨_, cap, [], e1, RdL.zero, Own.nil, ⟨fun e => (by cases e), h3⟩, fun b hb => by cases hb⟩
    · subst e1
      refine ⟨_, cap, g :: G, rfl, ⟨hl, .inr ⟨g, 0, G, by omega, rfl, rfl, rdEls_of 0 rd (fun i hi => ?_)⟩⟩, ⟨?_, fun b hb o => ?_, fun b hb => ?_⟩, ⟨(fun e => by cases e), h3⟩, fun b hb => ?_⟩
      · rw [Nat.zero_add]; exact hr.cellAt i (by rw [← hr.1]; exact hi)
      · exact List.nodup_cons.2 ⟨h.ap g rfl, h.og.nodup⟩
      · rcases List.mem_cons.1 hb with rfl | hb
        · exact hr.frozenAt o
        · exact h.og.free b hb o
      · rcases List.mem_cons.1 hb with rfl | hb
        · exact h1
        · exact h.og.ge b hb
      · rcases List.mem_cons.1 hb with rfl | hb
        · exact .inl rfl
        · exact .inr hb
end
theorem news_lit (w : World) (cs : Array Value) (t : TypeId) : ∀ j u, cs.toList[j]? = some u → (w.alloc (.cells cs t)).cell? ((⟨w.heap.size, 0, none⟩ : Addr).add j) = some u := by
  intro j u hu
  have ea : ((⟨w.heap.size, 0, none⟩ : Addr).add j) = ⟨w.heap.size, j, none⟩ := by simp [Addr.add]; try (intro h; omega)
  rw [ea, (Blk.made w cs t).cell j, ← Array.getElem?_toList]
  exact hu
end Go.Proofs.YtgkbhhlkaifnoaaGreatDoor
/- The walks through the model's copying of an item and of an agent. No statement of the seat is proved here. -/
namespace Go.Proofs.YtgkbhhlkaifnoaaGreatDoor
open Go.RowKit
theorem infoItC8 : (Tryz.prog.info? 33).map (·.size) = some 11 := by kernel_rfl
set_option maxRecDepth 200000 in
set_option maxHeartbeats 2000000 in
theorem l6Item_all (v : Value) (x : It) (F : List Nat) (w : World) (h : RdIt w v x F) (hf : x.sk.fits) :
    Calls Tryz.prog 68 #[v] w fun e w' => NewIt w x e w' := by
  obtain ⟨a1, n1, c1, a2, n2, c2, a3, n3, c3, rfl, hr⟩ := h
  have HR : Hid (RdSk w (.agg #[.int .i64 x.sk.count, .int .i64 x.sk.sum, .int .i64 x.sk.min, .int .i64 x.sk.max, .slice a1 n1 c1, .slice a2 n2 c2, .slice a3 n3 c3]) x.sk F ∧ x.sk.fits) := ⟨hr, hf⟩
  clear hr hf
  have HT0 : Hid (Three w #[.int .i64 x.seq, .int .i64 x.cls, .int .i64 x.key, .int .i64 x.window, .int .i64 x.sk.count, .int .i64 x.sk.sum, .int .i64 x.sk.min, .int .i64 x.sk.max, .slice a1 n1 c1, .slice a2 n2 c2, .slice a3 n3 c3] 33 #[.int .i64 0, .int .i64 0, .int .i64 0, .int .i64 0, .int .i64 0, .int .i64 0, .int .i64 0, .int .i64 0, .slice none 0 0, .slice none 0 0, .slice none 0 0] #[.int .i64 x.seq, .int .i64 x.cls, .int .i64 x.key, .int .i64 x.window, .int .i64 x.sk.count, .int .i64 x.sk.sum, .int .i64 x.sk.min, .int .i64 x.sk.max, .slice a1 n1 c1, .slice a2 n2 c2, .slice a3 n3 c3] 33 _) := Three.made w #[.int .i64 x.seq, .int .i64 x.cls, .int .i64 x.key, .int .i64 x.window, .int .i64 x.sk.count, .int .i64 x.sk.sum, .int .i64 x.sk.min, .int .i64 x.sk.max, .slice a1 n1 c1, .slice a2 n2 c2, .slice a3 n3 c3] 33 #[.int .i64 0, .int .i64 0, .int .i64 0, .int .i64 0, .int .i64 0, .int .i64 0, .int .i64 0, .int .i64 0, .slice none 0 0, .slice none 0 0, .slice none 0 0] #[.int .i64 x.seq, .int .i64 x.cls, .int .i64 x.key, .int .i64 x.window, .int .i64 x.sk.count, .int .i64 x.sk.sum, .int .i64 x.sk.min, .int .i64 x.sk.max, .slice a1 n1 c1, .slice a2 n2 c2, .slice a3 n3 c3] 33
  go_enter Tryz.func68, Tryz.ntmps68
  go_wp2_with (first | go_skip | (with_reducible refine stopLoad 31 rfl ?_))
  obtain ⟨W0, hW0⟩ : ∃ W, W = ((w.alloc (.cells #[.int .i64 x.seq, .int .i64 x.cls, .int .i64 x.key, .int .i64 x.window, .int .i64 x.sk.count, .int .i64 x.sk.sum, .int .i64 x.sk.min, .int .i64 x.sk.max, .slice a1 n1 c1, .slice a2 n2 c2, .slice a3 n3 c3] 33)).alloc (.cells #[.int .i64 0, .int .i64 0, .int .i64 0, .int .i64 0, .int .i64 0, .int .i64 0, .int .i64 0, .int .i64 0, .slice none 0 0, .slice none 0 0, .slice none 0 0] 33)).alloc (.cells #[.int .i64 x.seq, .int .i64 x.cls, .int .i64 x.key, .int .i64 x.window, .int .i64 x.sk.count, .int .i64 x.sk.sum, .int .i64 x.sk.min, .int .i64 x.sk.max, .slice a1 n1 c1, .slice a2 n2 c2, .slice a3 n3 c3] 33) := ⟨_, rfl⟩
  rw [← hW0] at HT0 ⊢
  clear hW0
  refine load_cut 31 w.heap.size 4 7 _ #[.int .i64 x.sk.count, .int .i64 x.sk.sum, .int .i64 x.sk.min, .int .i64 x.sk.max, .slice a1 n1 c1, .slice a2 n2 c2, .slice a3 n3 c3] 33 _ HT0.out.box rfl rfl rfl Tryz.underlying31 rfl infoSkI (by simp) rfl ?_
  go_wp2_with fail
  refine (l3Copy_all _ x.sk F _ (HR.out.1.below HT0.out.bel) HR.out.2).mono ?_
  rintro e w1 ⟨v1, G, rfl, r1, o1, hb1⟩
  obtain ⟨b1, m1, d1, b2, m2, d2, b3, m3, d3, rfl⟩ := r1.cells7
  have HT1 : Hid (Three w #[.int .i64 x.seq, .int .i64 x.cls, .int .i64 x.key, .int .i64 x.window, .int .i64 x.sk.count, .int .i64 x.sk.sum, .int .i64 x.sk.min, .int .i64 x.sk.max, .slice a1 n1 c1, .slice a2 n2 c2, .slice a3 n3 c3] 33 #[.int .i64 0, .int .i64 0, .int .i64 0, .int .i64 0, .int .i64 0, .int .i64 0, .int .i64 0, .int .i64 0, .slice none 0 0, .slice none 0 0, .slice none 0 0] #[.int .i64 x.seq, .int .i64 x.cls, .int .i64 x.key, .int .i64 x.window, .int .i64 x.sk.count, .int .i64 x.sk.sum, .int .i64 x.sk.min, .int .i64 x.sk.max, .slice a1 n1 c1, .slice a2 n2 c2, .slice a3 n3 c3] 33 w1) := HT0.out.below hb1
  have HG : Hid (RdSk w1 (.agg #[.int .i64 x.sk.count, .int .i64 x.sk.sum, .int .i64 x.sk.min, .int .i64 x.sk.max, .slice b1 m1 d1, .slice b2 m2 d2, .slice b3 m3 d3]) x.sk G ∧ Own (w.heap.size + 3) w1 G) := ⟨r1, o1.mono HT0.out.size⟩
  clear HT0 hb1 r1 o1 HR
  go_wp2_with (first | go_skip | (with_reducible refine stopStore 31 rfl ?_))
  refine store_cut 31 (w.heap.size + 1 + 1) 4 _ #[.int .i64 x.sk.count, .int .i64 x.sk.sum, .int .i64 x.sk.min, .int .i64 x.sk.max, .slice b1 m1 d1, .slice b2 m2 d2, .slice b3 m3 d3] #[.int .i64 x.seq, .int .i64 x.cls, .int .i64 x.key, .int .i64 x.window, .int .i64 x.sk.count, .int .i64 x.sk.sum, .int .i64 x.sk.min, .int .i64 x.sk.max, .slice b1 m1 d1, .slice b2 m2 d2, .slice b3 m3 d3] 33 HT1.out.loc rfl rfl rfl rfl infoSkI (by exact Nat.le_refl 11) (by simp [Value.oneCell']) rfl ?_
  obtain ⟨E, hE⟩ : ∃ E : Array Value, E = #[.int .i64 x.seq, .int .i64 x.cls, .int .i64 x.key, .int .i64 x.window, .int .i64 x.sk.count, .int .i64 x.sk.sum, .int .i64 x.sk.min, .int .i64 x.sk.max, .slice b1 m1 d1, .slice b2 m2 d2, .slice b3 m3 d3] := ⟨_, rfl⟩
  rw [← hE]
  have HE : Hid (E = #[.int .i64 x.seq, .int .i64 x.cls, .int .i64 x.key, .int .i64 x.window, .int .i64 x.sk.count, .int .i64 x.sk.sum, .int .i64 x.sk.min, .int .i64 x.sk.max, .slice b1 m1 d1, .slice b2 m2 d2, .slice b3 m3 d3]) := hE
  have hE11 : E.size = 11 := by rw [hE]; rfl
  have hEone : E.all (·.oneCell') = true := by rw [hE]; simp [Value.oneCell']
  have nl : w.heap.size + 1 + 1 ∉ G := fun hx => by have := HG.out.2.ge _ hx; omega
  have HT2 : Hid (Three w #[.int .i64 x.seq, .int .i64 x.cls, .int .i64 x.key, .int .i64 x.window, .int .i64 x.sk.count, .int .i64 x.sk.sum, .int .i64 x.sk.min, .int .i64 x.sk.max, .slice a1 n1 c1, .slice a2 n2 c2, .slice a3 n3 c3] 33 #[.int .i64 0, .int .i64 0, .int .i64 0, .int .i64 0, .int .i64 0, .int .i64 0, .int .i64 0, .int .i64 0, .slice none 0 0, .slice none 0 0, .slice none 0 0] E 33 (w1.setRow (w.heap.size + 1 + 1) E)) := ⟨HT1.out.box.setRowOther (by omega), HT1.out.res.setRowOther (by omega), HT1.out.loc.setRow, below_setRow HT1.out.bel (by omega) _⟩
  have HG2 : Hid (RdSk (w1.setRow (w.heap.size + 1 + 1) E) (.agg #[.int .i64 x.sk.count, .int .i64 x.sk.sum, .int .i64 x.sk.min, .int .i64 x.sk.max, .slice b1 m1 d1, .slice b2 m2 d2, .slice b3 m3 d3]) x.sk G ∧ Own (w.heap.size + 3) (w1.setRow (w.heap.size + 1 + 1) E) G) := ⟨HG.out.1.agree (Agree.row nl E), HG.out.2.agree (Agree.row nl E)⟩
  obtain ⟨w2, hw2⟩ : ∃ W, W = w1.setRow (w.heap.size + 1 + 1) E := ⟨_, rfl⟩
  rw [← hw2] at HT2 HG2 ⊢
  clear hw2 HT1 HG nl hE
  go_wp2_with (first | go_skip | (with_reducible refine stopLoad 33 rfl ?_))
  refine load_known 33 (w.heap.size + 1 + 1) E 33 _ HT2.out.loc rfl rfl rfl Tryz.underlying33 rfl (by rw [hE11]; exact infoItC8) ?_
  go_wp2_with (first | go_skip | (with_reducible refine stopStore 33 rfl ?_))
  refine store_known 33 (w.heap.size + 1) _ E 33 HT2.out.res rfl rfl rfl rfl (by rw [hE11]; exact infoItC8) (by rw [hE11]; rfl) hEone ?_
  have nr : w.heap.size + 1 ∉ G := fun hx => by have := HG2.out.2.ge _ hx; omega
  have HF : Hid (RdSk (w2.setRow (w.heap.size + 1) E) (.agg #[.int .i64 x.sk.count, .int .i64 x.sk.sum, .int .i64 x.sk.min, .int .i64 x.sk.max, .slice b1 m1 d1, .slice b2 m2 d2, .slice b3 m3 d3]) x.sk G ∧ Own w.heap.size (w2.setRow (w.heap.size + 1) E) G ∧ Below w.heap.size w (w2.setRow (w.heap.size + 1) E) ∧ Blk (w2.setRow (w.heap.size + 1) E) (w.heap.size + 1) E 33) := ⟨HG2.out.1.agree (Agree.row nr E), (HG2.out.2.agree (Agree.row nr E)).mono (by omega), below_setRow HT2.out.bel (by omega) _, HT2.out.res.setRow⟩
  clear HT2 HG2 nr
  go_wp2
  refine bodyPost_ret (results_cell_row Tryz.results68 _ _ (w.heap.size + 1) _ _ (0, 0) _ rfl HF.out.2.2.2 Tryz.underlying33 rfl (by rw [hE11]; exact infoItC8)) rfl ?_
  exact ⟨_, G, rfl, ⟨b1, m1, d1, b2, m2, d2, b3, m3, d3, by rw [HE.out], HF.out.1⟩, HF.out.2.1, HF.out.2.2.1⟩
theorem infoAgC8 : (Tryz.prog.info? 27).map (·.size) = some 7 := by kernel_rfl
theorem infoItsC8 : (Tryz.prog.info? 33).map (fun i => (i.zero, i.size, i.bytes)) = some (some (.agg #[.int .i64 0, .int .i64 0, .int .i64 0, .int .i64 0, .int .i64 0, .int .i64 0, .int .i64 0, .int .i64 0, .slice none 0 0, .slice none 0 0, .slice none 0 0]), 11, 136) := by kernel_rfl
/-- An agent's copy, behind k items. -/
structure CopyG (w : World) (A : Array Value) (x : Ag) (p2 : Option Addr) (l2 k2 : Nat) (G2 : List Nat) (lo k : Nat) (v : Value) (vs : List Value) (G : List Nat) (W : World) : Prop where
  three : Three w A 27 #[.int .i64 0, .int .i64 0, .bool false, .int .i64 0, .slice none 0 0, .slice none 0 0, .int .i64 0] #[.int .i64 x.id, .int .i64 x.epoch, .bool x.live, .int .i64 x.granted, v, .slice p2 l2 k2, .int .i64 x.next] 27 W
  r2 : RdP W p2 l2 x.taken G2
  o2 : Own (w.heap.size + 3) W G2
  lt : ∀ b ∈ G2, b < lo
  grow : GrowL itK 33 x.sealed lo k v vs G W
  big : w.heap.size + 3 ≤ lo
theorem CopyG.below {w W W' : World} {A : Array Value} {x : Ag} {p2 : Option Addr} {l2 k2 : Nat} {G2 : List Nat} {lo k : Nat} {v : Value} {vs : List Value} {G : List Nat} (h : CopyG w A x p2 l2 k2 G2 lo k v vs G W) (b : Below W.heap.size W W') : CopyG w A x p2 l2 k2 G2 lo k v vs G W' :=
  ⟨h.three.below b, h.r2.below b, h.o2.below h.r2.lt b, h.lt, h.grow.below b, h.big⟩
theorem CopyG.step {w W W' : World} {A : Array Value} {x : Ag} {p2 : Option Addr} {l2 k2 : Nat} {G2 : List Nat} {lo k : Nat} {v v' : Value} {vs vs' : List Value} {G G' : List Nat} (h : CopyG w A x p2 l2 k2 G2 lo k v vs G W) (hgrow : W.grownBy W' v.ownBlock) (hg : GrowL itK 33 x.sealed lo (k + 1) v' vs' G' W') :
    CopyG w A x p2 l2 k2 G2 lo (k + 1) v' vs' G' (W'.setCell ⟨w.heap.size + 1 + 1, 4, none⟩ v') ∧ Blk W' w.heap.size A 27 ∧ Below w.heap.size w W' ∧ Blk W' (w.heap.size + 1 + 1) #[.int .i64 x.id, .int .i64 x.epoch, .bool x.live, .int .i64 x.granted, v, .slice p2 l2 k2, .int .i64 x.next] 27 := by
  have big := h.big
  have ot : ∀ b, b < lo → W'.heap[b]? = W.heap[b]? := fun b hb => h.grow.other hgrow hb
  have bx := h.three.box.agree (ot _ (by omega))
  have rs := h.three.res.agree (ot _ (by omega))
  have lc := h.three.loc.agree (ot _ (by omega))
  have bel : Below w.heap.size w W' := h.three.bel.grown hgrow h.three.bel.size (fun b hb => by have := (h.grow.row.lt b hb).1; omega)
  have T : Three w A 27 #[.int .i64 0, .int .i64 0, .bool false, .int .i64 0, .slice none 0 0, .slice none 0 0, .int .i64 0] #[.int .i64 x.id, .int .i64 x.epoch, .bool x.live, .int .i64 x.granted, v, .slice p2 l2 k2, .int .i64 x.next] 27 W' := ⟨bx, rs, lc, bel⟩
  have n2 : w.heap.size + 1 + 1 ∉ G2 := fun hx => by have := h.o2.ge _ hx; omega
  have ag : Agree W (W'.setCell ⟨w.heap.size + 1 + 1, 4, none⟩ v') G2 := Agree.thenSet (fun b hb => ot b (h.lt b hb)) n2 _ _
  exact ⟨⟨T.set 4 v', h.r2.agree ag, h.o2.agree ag, h.lt, hg.set (by omega), h.big⟩, bx, bel, lc⟩
/-- A new agent whose list can grow. -/
def NewAgG (w : World) (x : Ag) (e : Ending) (w' : World) : Prop := ∃ (q1 : Option Addr) (k1 : Nat) (q2 : Option Addr) (l2 k2 : Nat) (F G : List Nat) (lo : Nat) (vs : List Value) (GG : List Nat),
  e = .returned (.agg #[.int .i64 x.id, .int .i64 x.epoch, .bool x.live, .int .i64 x.granted, .slice q1 x.sealed.length k1, .slice q2 l2 k2, .int .i64 x.next]) ∧ RdL itK w' q1 x.sealed.length x.sealed F ∧ RdP w' q2 l2 x.taken G ∧ Capd q1 x.sealed.length k1 ∧ Capd q2 l2 k2 ∧ Own w.heap.size w' F ∧ Own w.heap.size w' G ∧ (∀ b ∈ F, b ∉ G) ∧ Below w.heap.size w w' ∧
  GrowL itK 33 x.sealed lo x.sealed.length (.slice q1 x.sealed.length k1) vs GG w' ∧ w.heap.size ≤ lo ∧ ∀ b ∈ G, b < lo
set_option maxRecDepth 200000 in
set_option maxHeartbeats 8000000 in
theorem l8Copy_grow (v : Value) (x : Ag) (F0 G0 : List Nat) (w : World) (h : RdAg w v x F0 G0) (hf : ∀ y ∈ x.sealed, y.sk.fits) (hs : x.sealed.length ≤ 1048576) (hp : x.taken.length ≤ 1048576) :
    Calls Tryz.prog 33 #[v] w fun e w' => NewAgG w x e w' := by
  obtain ⟨j0, hj, hy0, hy1, hy2⟩ := info_parts infoItsC8
  obtain ⟨a1, n1, c1, a2, n2, c2, rfl, hL, hP, hc1, hc2⟩ := h
  have hn1 : n1 ≤ 1048576 := by rw [← hL.length]; exact hs
  have HL : Hid (RdL itK w a1 n1 x.sealed F0 ∧ (∀ y ∈ x.sealed, y.sk.fits) ∧ x.sealed.length = n1) := ⟨hL, hf, hL.length⟩
  have HP : Hid (RdP w a2 n2 x.taken G0 ∧ n2 ≤ 2097152 ∧ (a2 = none → c2 = 0)) := ⟨hP, by rw [← hP.length]; omega, hc2.1⟩
  clear hL hP hf hs hp hc1 hc2
  have HT0 : Hid (Three w #[.int .i64 x.id, .int .i64 x.epoch, .bool x.live, .int .i64 x.granted, .slice a1 n1 c1, .slice a2 n2 c2, .int .i64 x.next] 27 #[.int .i64 0, .int .i64 0, .bool false, .int .i64 0, .slice none 0 0, .slice none 0 0, .int .i64 0] #[.int .i64 x.id, .int .i64 x.epoch, .bool x.live, .int .i64 x.granted, .slice a1 n1 c1, .slice a2 n2 c2, .int .i64 x.next] 27 _) := Three.made w #[.int .i64 x.id, .int .i64 x.epoch, .bool x.live, .int .i64 x.granted, .slice a1 n1 c1, .slice a2 n2 c2, .int .i64 x.next] 27 #[.int .i64 0, .int .i64 0, .bool false, .int .i64 0, .slice none 0 0, .slice none 0 0, .int .i64 0] #[.int .i64 x.id, .int .i64 x.epoch, .bool x.live, .int .i64 x.granted, .slice a1 n1 c1, .slice a2 n2 c2, .int .i64 x.next] 27
  go_enter Tryz.func33, Tryz.ntmps33
  go_wp2_with fail
  obtain ⟨W0, hW0⟩ : ∃ W, W = ((w.alloc (.cells #[.int .i64 x.id, .int .i64 x.epoch, .bool x.live, .int .i64 x.granted, .slice a1 n1 c1, .slice a2 n2 c2, .int .i64 x.next] 27)).alloc (.cells #[.int .i64 0, .int .i64 0, .bool false, .int .i64 0, .slice none 0 0, .slice none 0 0, .int .i64 0] 27)).alloc (.cells #[.int .i64 x.id, .int .i64 x.epoch, .bool x.live, .int .i64 x.granted, .slice a1 n1 c1, .slice a2 n2 c2, .int .i64 x.next] 27) := ⟨_, rfl⟩
  rw [← hW0] at HT0 ⊢
  clear hW0
  refine (l5Copy_any a2 n2 c2 x.taken G0 _ (HP.out.1.below HT0.out.bel) HP.out.2.1 HP.out.2.2).mono ?_
  rintro e w1 ⟨p2, l2, k2, G2, rfl, r2, o2, hb1, hc2⟩
  have HT1 : Hid (Three w #[.int .i64 x.id, .int .i64 x.epoch, .bool x.live, .int .i64 x.granted, .slice a1 n1 c1, .slice a2 n2 c2, .int .i64 x.next] 27 #[.int .i64 0, .int .i64 0, .bool false, .int .i64 0, .slice none 0 0, .slice none 0 0, .int .i64 0] #[.int .i64 x.id, .int .i64 x.epoch, .bool x.live, .int .i64 x.granted, .slice a1 n1 c1, .slice a2 n2 c2, .int .i64 x.next] 27 w1) := HT0.out.below hb1
  have HG1 : Hid (RdP w1 p2 l2 x.taken G2 ∧ Own (w.heap.size + 3) w1 G2 ∧ Capd p2 l2 k2) := ⟨r2, o2.mono HT0.out.size, hc2⟩
  clear HT0 hb1 r2 o2 hc2
  have c5 := HT1.out.loc.cell 5
  have f5 := HT1.out.loc.frozen 5
  have c4 := HT1.out.loc.cell 4
  have f4 := HT1.out.loc.frozen 4
  simp only [aT, aS, aZ] at c5 c4
  go_wp2
  clear c5 f5 c4 f4
  have hz1 : w.heap.size + 3 ≤ w1.heap.size := HT1.out.size
  go_loopw [4] (fun i wr => ∃ (k : Nat) (v : Value) (vs : List Value) (GG : List Nat), k ≤ n1 ∧ i = .int .i64 k ∧ Hid (CopyG w #[.int .i64 x.id, .int .i64 x.epoch, .bool x.live, .int .i64 x.granted, .slice a1 n1 c1, .slice a2 n2 c2, .int .i64 x.next] x p2 l2 k2 G2 w1.heap.size k v vs GG wr)) (fun i _ => n1 - (intOf i).toNat)
  case atStart =>
    have nG : w.heap.size + 1 + 1 ∉ G2 := fun hx => by have := HG1.out.2.1.ge _ hx; omega
    have ag := ((Agree.refl w1 G2).thenSet nG 5 (.slice p2 l2 k2)).thenSet nG 4 (.slice none 0 0)
    have T := (HT1.out.set 5 (.slice p2 l2 k2)).set 4 (.slice none 0 0)
    exact ⟨0, .slice none 0 0, [], [], by omega, rfl, ⟨T, HG1.out.1.agree ag, HG1.out.2.1.agree ag, HG1.out.1.lt, GrowL.start (by simp), hz1⟩⟩
  case round =>
    obtain ⟨k, v, vs, GG, hk, rfl, CSS⟩ := hrel
    have e4 := CSS.out.three.box.cell 4
    simp only [aT, aS, aZ] at e4
    by_cases hlt : k < n1
    · have hI : (k : Int) < (n1 : Int) := by omega
      obtain ⟨b, off, ha, hbF, cs, Fi, hcs, hcc, hr, _⟩ := HL.out.1.get k hlt
      have ha' := ha.symm
      subst ha'
      have hbw : b < w.heap.size := HL.out.1.lt b hbF
      obtain ⟨y, hy⟩ : ∃ y, x.sealed[k]? = some y := ⟨_, List.getElem?_eq_getElem (by rw [HL.out.2.2]; exact hlt)⟩
      have HY : Hid (x.sealed[k]? = some y ∧ y.sk.fits ∧ cs.size = 11 ∧ RdIt w (.agg cs) y Fi) := ⟨hy, HL.out.2.1 y (List.mem_of_getElem? hy), hcs, hr y hy⟩
      have HC : Hid (∀ W, Blk W w.heap.size #[.int .i64 x.id, .int .i64 x.epoch, .bool x.live, .int .i64 x.granted, .slice (some ⟨b, off, none⟩) n1 c1, .slice a2 n2 c2, .int .i64 x.next] 27 ∧ Below w.heap.size w W → W.cell? ⟨w.heap.size, 4, none⟩ = some (.slice (some ⟨b, off, none⟩) n1 c1) ∧ ∀ j, j < 11 → W.cell? ⟨b, off + k * 11 + j, none⟩ = cs[j]?) := fun W hW => ⟨by rw [hW.1.cell]; rfl, fun j hj => by
        have q : W.cell? ⟨b, off + k * 11 + j, none⟩ = w.cell? ⟨b, off + k * 11 + j, none⟩ := hW.2.cell (p := ⟨b, off + k * 11 + j, none⟩) hbw
        exact q.trans (hcc j hj)⟩
      clear ha hbF hcs hcc hr hy
      go_wp2_with fail
      clear e4
      have CSd : Hid (CopyG w #[.int .i64 x.id, .int .i64 x.epoch, .bool x.live, .int .i64 x.granted, .slice (some ⟨b, off, none⟩) n1 c1, .slice a2 n2 c2, .int .i64 x.next] x p2 l2 k2 G2 w1.heap.size k v vs GG wr.drew) := CSS.out.below (Below.refl _ _).drew
      obtain ⟨Y0, hY0⟩ : ∃ Y, Y = wr.drew := ⟨_, rfl⟩
      rw [← hY0] at CSd
      have HLim : Hid ((∀ b ∈ GG, b < Y0.heap.size) ∧ (∀ b, v.ownBlock = some b → b < Y0.heap.size) ∧ w1.heap.size ≤ Y0.heap.size) := CSd.out.grow.lts
      clear CSS
      refine wp_region_held (S := fun W => Blk W w.heap.size #[.int .i64 x.id, .int .i64 x.epoch, .bool x.live, .int .i64 x.granted, .slice (some ⟨b, off, none⟩) n1 c1, .slice a2 n2 c2, .int .i64 x.next] 27 ∧ Below w.heap.size w W) (by kernel_rfl) ?_
      change wpAnyH _ _ _ _ _ _ _ _ (World.drew _)
      rw [← hY0]
      clear hY0
      refine takeH (o := ?o1) 0 (.pointer (some ⟨w.heap.size + 1 + 1, 4, none⟩)) ?h1 ?r1
      case h1 => simp only [aT, aZ]; rfl
      refine ⟨_, by simp [Act.put]; rfl, by kernel_rfl, by kernel_rfl, by kernel_rfl, fun _ _ _ h => h, (.inl ⟨rfl, fun W _ => by kernel_rfl⟩), ⟨CSd.out.three.box, CSd.out.three.bel⟩, ?_⟩
      refine takeH (o := ?o2) 2 (.pointer (some ⟨w.heap.size, 4, none⟩)) ?h2 ?r2
      case h2 => simp only [aT, aS, aZ]; rfl
      refine ⟨_, by simp [Act.put]; rfl, by kernel_rfl, by kernel_rfl, by kernel_rfl, fun _ _ _ h => h, (.inl ⟨rfl, fun W _ => by kernel_rfl⟩), ⟨CSd.out.three.box, CSd.out.three.bel⟩, ?_⟩
      refine takeH (o := ?o3) 3 (.slice (some ⟨b, off, none⟩) n1 c1) ?h3 ?r3
      case h3 => simp only [aT, aS, aZ]; rfl
      refine ⟨_, by simp [Act.put]; rfl, by kernel_rfl, by kernel_rfl, by kernel_rfl, fun _ _ _ h => h, (.inl ⟨rfl, fun W hW => by have c := (HC.out W hW).1; go_simp⟩), ⟨CSd.out.three.box, CSd.out.three.bel⟩, ?_⟩
      refine takeH (o := ?o4) 4 (.int .i64 k) ?h4 ?r4
      case h4 => simp only [aT, aS, aZ]; rfl
      refine ⟨_, by simp [Act.put]; rfl, by kernel_rfl, by kernel_rfl, by kernel_rfl, fun _ _ _ h => h, (.inl ⟨rfl, fun W _ => by kernel_rfl⟩), ⟨CSd.out.three.box, CSd.out.three.bel⟩, ?_⟩
      refine takeH (o := ?o5) 5 (.pointer (some ⟨b, off + k * 11, none⟩)) ?h5 ?r5
      case h5 => simp only [aT, aS, aZ]; rfl
      refine ⟨_, by simp [Act.put]; rfl, by kernel_rfl, by kernel_rfl, by kernel_rfl, fun _ _ _ h => h, (.inl ⟨rfl, fun W _ => by go_simp; first | done | (intro h; omega) | (rw [if_pos (by omega)]; rfl)⟩), ⟨CSd.out.three.box, CSd.out.three.bel⟩, ?_⟩
      refine takeH (o := ?o6) 6 (.agg cs) ?h6 ?r6
      case h6 => simp only [aT, aS, aZ]; rfl
      refine ⟨_, by simp [Act.put]; rfl, by kernel_rfl, by kernel_rfl, by kernel_rfl, fun _ _ _ h => h, (yields_at 33 b (off + k * 11) 11 cs _ rfl rfl rfl Tryz.underlying33 rfl infoItC8 HY.out.2.2.1 (fun W hW => (HC.out W hW).2)), ⟨CSd.out.three.box, CSd.out.three.bel⟩, ?_⟩
      refine twoH (o := ?o7) (o' := ?p7) 1 7 (by kernel_rfl) ?h7 ?g7 ?r7 ?s7
      case h7 => simp only [aT, aS, aZ]; rfl
      case g7 => simp only [aT, aS, aZ]; rfl
      case r7 =>
        intro K hK
        have co := CSd.out.three.loc.cell 4
        simp only [aT, aS, aZ] at co
        refine op_value v rfl (by go_simp) ⟨_, by simp [Act.put]; rfl, hK _ _ ⟨⟨CSd.out.three.box, CSd.out.three.bel⟩, ?_⟩⟩
        clear hK co
        refine onlyH (o := ?o8) 7 (by kernel_rfl) ?h8 ?r8
        case h8 => simp only [aT, aS, aZ]; rfl
        intro K hK
        refine op_call1 68 _ _ Tryz.f68 (fun v w' => ∃ F, RdIt w' v y F ∧ Own Y0.heap.size w' F ∧ Below Y0.heap.size Y0 w') rfl rfl Tryz.func68 (by kernel_rfl) (by kernel_rfl) ((l6Item_all (.agg cs) y Fi Y0 (HY.out.2.2.2.below CSd.out.three.bel) HY.out.2.1).mono (by rintro e w' ⟨v, F, rfl, k1, k2, k3⟩; exact ⟨_, rfl, F, k1, k2, k3⟩)) ?_
        rintro vr Y1 ⟨Fr, rr, ro, rb⟩
        obtain ⟨ds, rfl, hd11, hd1⟩ := itK.cells (w := Y1) rr
        have RR1 : Hid (RdIt Y1 (.agg ds) y Fr ∧ Own Y0.heap.size Y1 Fr ∧ ds.size = 11 ∧ ds.all (·.oneCell') = true) := ⟨rr, ro.mono (Nat.le_refl _), hd11, hd1⟩
        have CS1 : Hid (CopyG w #[.int .i64 x.id, .int .i64 x.epoch, .bool x.live, .int .i64 x.granted, .slice (some ⟨b, off, none⟩) n1 c1, .slice a2 n2 c2, .int .i64 x.next] x p2 l2 k2 G2 w1.heap.size k v vs GG Y1) := CSd.out.below rb
        refine ⟨_, by simp [Act.put]; rfl, hK _ _ ⟨⟨CS1.out.three.box, CS1.out.three.bel⟩, ?_⟩⟩
        clear hK rr ro rb hd11 hd1
        refine onlyH (o := ?o9) 8 (by kernel_rfl) ?h9 ?r9
        case h9 => simp only [aT, aS, aZ]; rfl
        intro K hK
        have bl : Below Y1.heap.size Y1 (Y1.alloc (.cells ds 33)) := (Below.refl _ _).alloc (Nat.le_refl _) _
        have CS2 : Hid (CopyG w #[.int .i64 x.id, .int .i64 x.epoch, .bool x.live, .int .i64 x.granted, .slice (some ⟨b, off, none⟩) n1 c1, .slice a2 n2 c2, .int .i64 x.next] x p2 l2 k2 G2 w1.heap.size k v vs GG (Y1.alloc (.cells ds 33))) := CS1.out.below bl
        have RR2 : Hid (RdIt (Y1.alloc (.cells ds 33)) (.agg ds) y Fr ∧ Own Y0.heap.size (Y1.alloc (.cells ds 33)) Fr ∧ ds.size = 11 ∧ ds.all (·.oneCell') = true) := ⟨RR1.out.1.below bl, RR1.out.2.1.below RR1.out.1.lt bl, RR1.out.2.2⟩
        have NW2 : Hid (∀ j u, ds.toList[j]? = some u → ((Y1.alloc (.cells ds 33))).cell? ((⟨Y1.heap.size, 0, none⟩ : Addr).add j) = some u) := news_lit _ _ _
        refine op_turn (.slice (some ⟨Y1.heap.size, 0, none⟩) 1 1) (Y1.alloc (.cells ds 33)) rfl (by obtain ⟨_, _, _, _, _, _, _, _, _, ev⟩ := RdIt.cells11 RR2.out.1; injection ev with ev; rw [ev]; kernel_rfl) ⟨_, by simp [Act.put]; rfl, hK _ _ ⟨⟨CS2.out.three.box, CS2.out.three.bel⟩, ?_⟩⟩
        clear hK bl
        obtain ⟨L2, hL2⟩ : ∃ z, z = Y1.heap.size := ⟨_, rfl⟩
        obtain ⟨Y2, hY2⟩ : ∃ Z, Z = (Y1.alloc (.cells ds 33)) := ⟨_, rfl⟩
        rw [← hY2, ← hL2] at NW2
        rw [← hY2] at CS2 RR2 ⊢
        rw [← hL2]
        clear hY2 hL2
        refine onlyH (o := ?o10) 9 (by kernel_rfl) ?h10 ?r10
        case h10 => simp only [aT, aS, aZ]; rfl
        intro K hK
        refine op_append Y2 rfl _ _ 24 rfl w1.heap.size 33 j0 (.agg #[.int .i64 0, .int .i64 0, .int .i64 0, .int .i64 0, .int .i64 0, .int .i64 0, .int .i64 0, .int .i64 0, .slice none 0 0, .slice none 0 0, .slice none 0 0]) 11 136 Tryz.underlying24 hj hy0 hy1 hy2 rfl (by decide) v k vs rfl CS2.out.grow.row ⟨L2, 0, none⟩ 1 1 ds.toList rfl (by rw [Array.length_toList, RR2.out.2.2.1]) NW2.out (fun u hu => (Array.all_eq_true_iff_forall_mem.1 RR2.out.2.2.2) u (by simpa using hu)) (by decide) (by unfold maxLen; omega) (by omega) CS2.out.grow.lw _ rfl ?_
        intro g4 cp4 Y3 hown hgrow hat _
        have GS := CS2.out.grow.step HY.out.1 RR2.out.1 RR2.out.2.2.1 RR2.out.2.1 HLim.out.1 HLim.out.2.1 HLim.out.2.2 hown hgrow hat
        have ST := CS2.out.step hgrow GS
        have CS3 : Hid (CopyG w #[.int .i64 x.id, .int .i64 x.epoch, .bool x.live, .int .i64 x.granted, .slice (some ⟨b, off, none⟩) n1 c1, .slice a2 n2 c2, .int .i64 x.next] x p2 l2 k2 G2 w1.heap.size (k + 1) (.slice (some ⟨g4, 0, none⟩) (k + 1) cp4) (vs ++ ds.toList) (GG ++ Fr) (Y3.setCell ⟨w.heap.size + 1 + 1, 4, none⟩ (.slice (some ⟨g4, 0, none⟩) (k + 1) cp4)) ∧ Blk Y3 w.heap.size #[.int .i64 x.id, .int .i64 x.epoch, .bool x.live, .int .i64 x.granted, .slice (some ⟨b, off, none⟩) n1 c1, .slice a2 n2 c2, .int .i64 x.next] 27 ∧ Below w.heap.size w Y3) := ⟨ST.1, ST.2.1, ST.2.2.1⟩
        have co := ST.2.2.2.cell 4
        have fo := ST.2.2.2.frozen 4
        simp only [aT, aS, aZ] at co
        refine ⟨_, by simp [Act.put]; rfl, hK _ _ ⟨CS3.out.2, ?_⟩⟩
        clear hK hown hgrow hat ST GS
        refine takeH (o := ?o11) 10 (.pointer (some ⟨w.heap.size + 1 + 1, 4, none⟩)) ?h11 ?r11
        case h11 => simp only [aT, aS, aZ]; rfl
        refine ⟨_, by simp [Act.put]; rfl, by kernel_rfl, by kernel_rfl, by kernel_rfl, fun _ _ _ h => h, (.inl ⟨rfl, fun W _ => by kernel_rfl⟩), CS3.out.2, ?_⟩
        refine onlyH (o := ?o12) 11 (by kernel_rfl) ?h12 ?r12
        case h12 => simp only [aT, aS, aZ]; rfl
        intro K hK
        refine op_skip (Y3.setCell ⟨w.heap.size + 1 + 1, 4, none⟩ (.slice (some ⟨g4, 0, none⟩) (k + 1) cp4)) rfl (by go_simp) ⟨_, by simp [Act.put]; rfl, hK _ _ ⟨⟨CS3.out.1.three.box, CS3.out.1.three.bel⟩, ?_⟩⟩
        clear hK co fo
        refine wpAnyH_done (by kernel_rfl) ?_ _
        have HF : Hid (CopyG w #[.int .i64 x.id, .int .i64 x.epoch, .bool x.live, .int .i64 x.granted, .slice (some ⟨b, off, none⟩) n1 c1, .slice a2 n2 c2, .int .i64 x.next] x p2 l2 k2 G2 w1.heap.size (k + 1) (.slice (some ⟨g4, 0, none⟩) (k + 1) cp4) (vs ++ ds.toList) (GG ++ Fr) (Y3.setCell ⟨w.heap.size + 1 + 1, 4, none⟩ (.slice (some ⟨g4, 0, none⟩) (k + 1) cp4))) := CS3.out.1
        obtain ⟨YZ, hYZ⟩ : ∃ Z, Z = Y3.setCell ⟨w.heap.size + 1 + 1, 4, none⟩ (.slice (some ⟨g4, 0, none⟩) (k + 1) cp4) := ⟨_, rfl⟩
        rw [← hYZ] at HF ⊢
        clear hYZ CS3
        go_wp2
        go_roundw
        case rel => exact ⟨k + 1, _, _, _, by omega, by go_num, HF.out⟩
        case measure => simp [intOf]; omega
      case s7 =>
        intro K hK
        refine op_call1 68 _ _ Tryz.f68 (fun v w' => ∃ F, RdIt w' v y F ∧ Own Y0.heap.size w' F ∧ Below Y0.heap.size Y0 w') rfl rfl Tryz.func68 (by kernel_rfl) (by kernel_rfl) ((l6Item_all (.agg cs) y Fi Y0 (HY.out.2.2.2.below CSd.out.three.bel) HY.out.2.1).mono (by rintro e w' ⟨v, F, rfl, k1, k2, k3⟩; exact ⟨_, rfl, F, k1, k2, k3⟩)) ?_
        rintro vr Y4 ⟨Fr, rr, ro, rb⟩
        obtain ⟨ds, rfl, hd11, hd1⟩ := itK.cells (w := Y4) rr
        have RR4 : Hid (RdIt Y4 (.agg ds) y Fr ∧ Own Y0.heap.size Y4 Fr ∧ ds.size = 11 ∧ ds.all (·.oneCell') = true) := ⟨rr, ro.mono (Nat.le_refl _), hd11, hd1⟩
        have CS4 : Hid (CopyG w #[.int .i64 x.id, .int .i64 x.epoch, .bool x.live, .int .i64 x.granted, .slice (some ⟨b, off, none⟩) n1 c1, .slice a2 n2 c2, .int .i64 x.next] x p2 l2 k2 G2 w1.heap.size k v vs GG Y4) := CSd.out.below rb
        refine ⟨_, by simp [Act.put]; rfl, hK _ _ ⟨⟨CS4.out.three.box, CS4.out.three.bel⟩, ?_⟩⟩
        clear hK rr ro rb hd11 hd1
        refine twoH (o := ?o13) (o' := ?p13) 1 8 (by kernel_rfl) ?h13 ?g13 ?r13 ?s13
        case h13 => simp only [aT, aS, aZ]; rfl
        case g13 => simp only [aT, aS, aZ]; rfl
        case r13 =>
          intro K hK
          have co := CS4.out.three.loc.cell 4
          simp only [aT, aS, aZ] at co
          refine op_value v rfl (by go_simp) ⟨_, by simp [Act.put]; rfl, hK _ _ ⟨⟨CS4.out.three.box, CS4.out.three.bel⟩, ?_⟩⟩
          clear hK co
          refine onlyH (o := ?o14) 8 (by kernel_rfl) ?h14 ?r14
          case h14 => simp only [aT, aS, aZ]; rfl
          intro K hK
          have bl : Below Y4.heap.size Y4 (Y4.alloc (.cells ds 33)) := (Below.refl _ _).alloc (Nat.le_refl _) _
          have CS5 : Hid (CopyG w #[.int .i64 x.id, .int .i64 x.epoch, .bool x.live, .int .i64 x.granted, .slice (some ⟨b, off, none⟩) n1 c1, .slice a2 n2 c2, .int .i64 x.next] x p2 l2 k2 G2 w1.heap.size k v vs GG (Y4.alloc (.cells ds 33))) := CS4.out.below bl
          have RR5 : Hid (RdIt (Y4.alloc (.cells ds 33)) (.agg ds) y Fr ∧ Own Y0.heap.size (Y4.alloc (.cells ds 33)) Fr ∧ ds.size = 11 ∧ ds.all (·.oneCell') = true) := ⟨RR4.out.1.below bl, RR4.out.2.1.below RR4.out.1.lt bl, RR4.out.2.2⟩
          have NW5 : Hid (∀ j u, ds.toList[j]? = some u → ((Y4.alloc (.cells ds 33))).cell? ((⟨Y4.heap.size, 0, none⟩ : Addr).add j) = some u) := news_lit _ _ _
          refine op_turn (.slice (some ⟨Y4.heap.size, 0, none⟩) 1 1) (Y4.alloc (.cells ds 33)) rfl (by obtain ⟨_, _, _, _, _, _, _, _, _, ev⟩ := RdIt.cells11 RR5.out.1; injection ev with ev; rw [ev]; kernel_rfl) ⟨_, by simp [Act.put]; rfl, hK _ _ ⟨⟨CS5.out.three.box, CS5.out.three.bel⟩, ?_⟩⟩
          clear hK bl
          obtain ⟨L5, hL5⟩ : ∃ z, z = Y4.heap.size := ⟨_, rfl⟩
          obtain ⟨Y5, hY5⟩ : ∃ Z, Z = (Y4.alloc (.cells ds 33)) := ⟨_, rfl⟩
          rw [← hY5, ← hL5] at NW5
          rw [← hY5] at CS5 RR5 ⊢
          rw [← hL5]
          clear hY5 hL5
          refine onlyH (o := ?o15) 9 (by kernel_rfl) ?h15 ?r15
          case h15 => simp only [aT, aS, aZ]; rfl
          intro K hK
          refine op_append Y5 rfl _ _ 24 rfl w1.heap.size 33 j0 (.agg #[.int .i64 0, .int .i64 0, .int .i64 0, .int .i64 0, .int .i64 0, .int .i64 0, .int .i64 0, .int .i64 0, .slice none 0 0, .slice none 0 0, .slice none 0 0]) 11 136 Tryz.underlying24 hj hy0 hy1 hy2 rfl (by decide) v k vs rfl CS5.out.grow.row ⟨L5, 0, none⟩ 1 1 ds.toList rfl (by rw [Array.length_toList, RR5.out.2.2.1]) NW5.out (fun u hu => (Array.all_eq_true_iff_forall_mem.1 RR5.out.2.2.2) u (by simpa using hu)) (by decide) (by unfold maxLen; omega) (by omega) CS5.out.grow.lw _ rfl ?_
          intro g4 cp4 Y6 hown hgrow hat _
          have GS := CS5.out.grow.step HY.out.1 RR5.out.1 RR5.out.2.2.1 RR5.out.2.1 HLim.out.1 HLim.out.2.1 HLim.out.2.2 hown hgrow hat
          have ST := CS5.out.step hgrow GS
          have CS6 : Hid (CopyG w #[.int .i64 x.id, .int .i64 x.epoch, .bool x.live, .int .i64 x.granted, .slice (some ⟨b, off, none⟩) n1 c1, .slice a2 n2 c2, .int .i64 x.next] x p2 l2 k2 G2 w1.heap.size (k + 1) (.slice (some ⟨g4, 0, none⟩) (k + 1) cp4) (vs ++ ds.toList) (GG ++ Fr) (Y6.setCell ⟨w.heap.size + 1 + 1, 4, none⟩ (.slice (some ⟨g4, 0, none⟩) (k + 1) cp4)) ∧ Blk Y6 w.heap.size #[.int .i64 x.id, .int .i64 x.epoch, .bool x.live, .int .i64 x.granted, .slice (some ⟨b, off, none⟩) n1 c1, .slice a2 n2 c2, .int .i64 x.next] 27 ∧ Below w.heap.size w Y6) := ⟨ST.1, ST.2.1, ST.2.2.1⟩
          have co := ST.2.2.2.cell 4
          have fo := ST.2.2.2.frozen 4
          simp only [aT, aS, aZ] at co
          refine ⟨_, by simp [Act.put]; rfl, hK _ _ ⟨CS6.out.2, ?_⟩⟩
          clear hK hown hgrow hat ST GS
          refine takeH (o := ?o16) 10 (.pointer (some ⟨w.heap.size + 1 + 1, 4, none⟩)) ?h16 ?r16
          case h16 => simp only [aT, aS, aZ]; rfl
          refine ⟨_, by simp [Act.put]; rfl, by kernel_rfl, by kernel_rfl, by kernel_rfl, fun _ _ _ h => h, (.inl ⟨rfl, fun W _ => by kernel_rfl⟩), CS6.out.2, ?_⟩
          refine onlyH (o := ?o17) 11 (by kernel_rfl) ?h17 ?r17
          case h17 => simp only [aT, aS, aZ]; rfl
          intro K hK
          refine op_skip (Y6.setCell ⟨w.heap.size + 1 + 1, 4, none⟩ (.slice (some ⟨g4, 0, none⟩) (k + 1) cp4)) rfl (by go_simp) ⟨_, by simp [Act.put]; rfl, hK _ _ ⟨⟨CS6.out.1.three.box, CS6.out.1.three.bel⟩, ?_⟩⟩
          clear hK co fo
          refine wpAnyH_done (by kernel_rfl) ?_ _
          have HF : Hid (CopyG w #[.int .i64 x.id, .int .i64 x.epoch, .bool x.live, .int .i64 x.granted, .slice (some ⟨b, off, none⟩) n1 c1, .slice a2 n2 c2, .int .i64 x.next] x p2 l2 k2 G2 w1.heap.size (k + 1) (.slice (some ⟨g4, 0, none⟩) (k + 1) cp4) (vs ++ ds.toList) (GG ++ Fr) (Y6.setCell ⟨w.heap.size + 1 + 1, 4, none⟩ (.slice (some ⟨g4, 0, none⟩) (k + 1) cp4))) := CS6.out.1
          obtain ⟨YZ, hYZ⟩ : ∃ Z, Z = Y6.setCell ⟨w.heap.size + 1 + 1, 4, none⟩ (.slice (some ⟨g4, 0, none⟩) (k + 1) cp4) := ⟨_, rfl⟩
          rw [← hYZ] at HF ⊢
          clear hYZ CS6
          go_wp2
          go_roundw
          case rel => exact ⟨k + 1, _, _, _, by omega, by go_num, HF.out⟩
          case measure => simp [intOf]; omega
        case s13 =>
          intro K hK
          have bl : Below Y4.heap.size Y4 (Y4.alloc (.cells ds 33)) := (Below.refl _ _).alloc (Nat.le_refl _) _
          have CS7 : Hid (CopyG w #[.int .i64 x.id, .int .i64 x.epoch, .bool x.live, .int .i64 x.granted, .slice (some ⟨b, off, none⟩) n1 c1, .slice a2 n2 c2, .int .i64 x.next] x p2 l2 k2 G2 w1.heap.size k v vs GG (Y4.alloc (.cells ds 33))) := CS4.out.below bl
          have RR7 : Hid (RdIt (Y4.alloc (.cells ds 33)) (.agg ds) y Fr ∧ Own Y0.heap.size (Y4.alloc (.cells ds 33)) Fr ∧ ds.size = 11 ∧ ds.all (·.oneCell') = true) := ⟨RR4.out.1.below bl, RR4.out.2.1.below RR4.out.1.lt bl, RR4.out.2.2⟩
          have NW7 : Hid (∀ j u, ds.toList[j]? = some u → ((Y4.alloc (.cells ds 33))).cell? ((⟨Y4.heap.size, 0, none⟩ : Addr).add j) = some u) := news_lit _ _ _
          refine op_turn (.slice (some ⟨Y4.heap.size, 0, none⟩) 1 1) (Y4.alloc (.cells ds 33)) rfl (by obtain ⟨_, _, _, _, _, _, _, _, _, ev⟩ := RdIt.cells11 RR7.out.1; injection ev with ev; rw [ev]; kernel_rfl) ⟨_, by simp [Act.put]; rfl, hK _ _ ⟨⟨CS7.out.three.box, CS7.out.three.bel⟩, ?_⟩⟩
          clear hK bl
          obtain ⟨L7, hL7⟩ : ∃ z, z = Y4.heap.size := ⟨_, rfl⟩
          obtain ⟨Y7, hY7⟩ : ∃ Z, Z = (Y4.alloc (.cells ds 33)) := ⟨_, rfl⟩
          rw [← hY7, ← hL7] at NW7
          rw [← hY7] at CS7 RR7 ⊢
          rw [← hL7]
          clear hY7 hL7
          refine onlyH (o := ?o18) 1 (by kernel_rfl) ?h18 ?r18
          case h18 => simp only [aT, aS, aZ]; rfl
          intro K hK
          have co := CS7.out.three.loc.cell 4
          simp only [aT, aS, aZ] at co
          refine op_value v rfl (by go_simp) ⟨_, by simp [Act.put]; rfl, hK _ _ ⟨⟨CS7.out.three.box, CS7.out.three.bel⟩, ?_⟩⟩
          clear hK co
          refine onlyH (o := ?o19) 9 (by kernel_rfl) ?h19 ?r19
          case h19 => simp only [aT, aS, aZ]; rfl
          intro K hK
          refine op_append Y7 rfl _ _ 24 rfl w1.heap.size 33 j0 (.agg #[.int .i64 0, .int .i64 0, .int .i64 0, .int .i64 0, .int .i64 0, .int .i64 0, .int .i64 0, .int .i64 0, .slice none 0 0, .slice none 0 0, .slice none 0 0]) 11 136 Tryz.underlying24 hj hy0 hy1 hy2 rfl (by decide) v k vs rfl CS7.out.grow.row ⟨L7, 0, none⟩ 1 1 ds.toList rfl (by rw [Array.length_toList, RR7.out.2.2.1]) NW7.out (fun u hu => (Array.all_eq_true_iff_forall_mem.1 RR7.out.2.2.2) u (by simpa using hu)) (by decide) (by unfold maxLen; omega) (by omega) CS7.out.grow.lw _ rfl ?_
          intro g4 cp4 Y8 hown hgrow hat _
          have GS := CS7.out.grow.step HY.out.1 RR7.out.1 RR7.out.2.2.1 RR7.out.2.1 HLim.out.1 HLim.out.2.1 HLim.out.2.2 hown hgrow hat
          have ST := CS7.out.step hgrow GS
          have CS8 : Hid (CopyG w #[.int .i64 x.id, .int .i64 x.epoch, .bool x.live, .int .i64 x.granted, .slice (some ⟨b, off, none⟩) n1 c1, .slice a2 n2 c2, .int .i64 x.next] x p2 l2 k2 G2 w1.heap.size (k + 1) (.slice (some ⟨g4, 0, none⟩) (k + 1) cp4) (vs ++ ds.toList) (GG ++ Fr) (Y8.setCell ⟨w.heap.size + 1 + 1, 4, none⟩ (.slice (some ⟨g4, 0, none⟩) (k + 1) cp4)) ∧ Blk Y8 w.heap.size #[.int .i64 x.id, .int .i64 x.epoch, .bool x.live, .int .i64 x.granted, .slice (some ⟨b, off, none⟩) n1 c1, .slice a2 n2 c2, .int .i64 x.next] 27 ∧ Below w.heap.size w Y8) := ⟨ST.1, ST.2.1, ST.2.2.1⟩
          have co := ST.2.2.2.cell 4
          have fo := ST.2.2.2.frozen 4
          simp only [aT, aS, aZ] at co
          refine ⟨_, by simp [Act.put]; rfl, hK _ _ ⟨CS8.out.2, ?_⟩⟩
          clear hK hown hgrow hat ST GS
          refine takeH (o := ?o20) 10 (.pointer (some ⟨w.heap.size + 1 + 1, 4, none⟩)) ?h20 ?r20
          case h20 => simp only [aT, aS, aZ]; rfl
          refine ⟨_, by simp [Act.put]; rfl, by kernel_rfl, by kernel_rfl, by kernel_rfl, fun _ _ _ h => h, (.inl ⟨rfl, fun W _ => by kernel_rfl⟩), CS8.out.2, ?_⟩
          refine onlyH (o := ?o21) 11 (by kernel_rfl) ?h21 ?r21
          case h21 => simp only [aT, aS, aZ]; rfl
          intro K hK
          refine op_skip (Y8.setCell ⟨w.heap.size + 1 + 1, 4, none⟩ (.slice (some ⟨g4, 0, none⟩) (k + 1) cp4)) rfl (by go_simp) ⟨_, by simp [Act.put]; rfl, hK _ _ ⟨⟨CS8.out.1.three.box, CS8.out.1.three.bel⟩, ?_⟩⟩
          clear hK co fo
          refine wpAnyH_done (by kernel_rfl) ?_ _
          have HF : Hid (CopyG w #[.int .i64 x.id, .int .i64 x.epoch, .bool x.live, .int .i64 x.granted, .slice (some ⟨b, off, none⟩) n1 c1, .slice a2 n2 c2, .int .i64 x.next] x p2 l2 k2 G2 w1.heap.size (k + 1) (.slice (some ⟨g4, 0, none⟩) (k + 1) cp4) (vs ++ ds.toList) (GG ++ Fr) (Y8.setCell ⟨w.heap.size + 1 + 1, 4, none⟩ (.slice (some ⟨g4, 0, none⟩) (k + 1) cp4))) := CS8.out.1
          obtain ⟨YZ, hYZ⟩ : ∃ Z, Z = Y8.setCell ⟨w.heap.size + 1 + 1, 4, none⟩ (.slice (some ⟨g4, 0, none⟩) (k + 1) cp4) := ⟨_, rfl⟩
          rw [← hYZ] at HF ⊢
          clear hYZ CS8
          go_wp2
          go_roundw
          case rel => exact ⟨k + 1, _, _, _, by omega, by go_num, HF.out⟩
          case measure => simp [intOf]; omega
    · obtain rfl : k = n1 := by omega
      obtain ⟨q1, d1, F1, rfl, rL, oL, hcp⟩ := CSS.out.grow.done HL.out.2.2
      have HE : Hid (Three w #[.int .i64 x.id, .int .i64 x.epoch, .bool x.live, .int .i64 x.granted, .slice a1 k c1, .slice a2 n2 c2, .int .i64 x.next] 27 #[.int .i64 0, .int .i64 0, .bool false, .int .i64 0, .slice none 0 0, .slice none 0 0, .int .i64 0] #[.int .i64 x.id, .int .i64 x.epoch, .bool x.live, .int .i64 x.granted, .slice q1 k d1, .slice p2 l2 k2, .int .i64 x.next] 27 wr ∧ RdL itK wr q1 k x.sealed F1 ∧ Own w1.heap.size wr F1 ∧ RdP wr p2 l2 x.taken G2 ∧ Own (w.heap.size + 3) wr G2 ∧ (∀ b ∈ F1, b ∉ G2) ∧ Capd q1 k d1 ∧ Capd p2 l2 k2) := ⟨CSS.out.three, rL, oL, CSS.out.r2, CSS.out.o2, fun b hb hx => by have h1 := oL.ge b hb; have h2 := CSS.out.lt b hx; omega, hcp, HG1.out.2.2⟩
      have HGW : Hid (GrowL itK 33 x.sealed w1.heap.size k (.slice q1 k d1) vs GG wr ∧ w.heap.size + 3 ≤ w1.heap.size ∧ ∀ b ∈ G2, b < w1.heap.size) := ⟨CSS.out.grow, hz1, CSS.out.lt⟩
      clear rL oL hcp CSS
      have hI : ¬ (k : Int) < (k : Int) := by omega
      go_wp2_with (first | go_skip | (with_reducible refine stopLoad 27 rfl ?_))
      refine load_known 27 (w.heap.size + 1 + 1) _ 27 _ HE.out.1.loc rfl rfl rfl Tryz.underlying27 rfl infoAgC8 ?_
      go_wp2_with (first | go_skip | (with_reducible refine stopStore 27 rfl ?_))
      refine store_known 27 (w.heap.size + 1) _ #[.int .i64 x.id, .int .i64 x.epoch, .bool x.live, .int .i64 x.granted, .slice q1 k d1, .slice p2 l2 k2, .int .i64 x.next] 27 HE.out.1.res rfl rfl rfl rfl infoAgC8 rfl (by simp [Value.oneCell']) ?_
      go_wp2
      refine bodyPost_ret (results_cell_row Tryz.results33 _ _ (w.heap.size + 1) _ _ (0, 0) _ rfl HE.out.1.res.setRow Tryz.underlying27 rfl infoAgC8) rfl ?_
      have nr : w.heap.size + 1 ∉ F1 := fun hx => by have := HE.out.2.2.1.ge _ hx; omega
      have mr : w.heap.size + 1 ∉ G2 := fun hx => by have := HE.out.2.2.2.2.1.ge _ hx; omega
      have hk' := HL.out.2.2
      subst hk'
      exact ⟨q1, d1, p2, l2, k2, F1, G2, w1.heap.size, vs, GG, rfl, HE.out.2.1.agree (Agree.row nr _), HE.out.2.2.2.1.agree (Agree.row mr _), HE.out.2.2.2.2.2.2.1, HE.out.2.2.2.2.2.2.2, (HE.out.2.2.1.agree (Agree.row nr _)).mono (by omega), (HE.out.2.2.2.2.1.agree (Agree.row mr _)).mono (by omega), HE.out.2.2.2.2.2.1, below_setRow HE.out.1.bel (by omega) _, HGW.out.1.setRow (by have := HGW.out.2.1; omega), by have := HGW.out.2.1; omega, HGW.out.2.2⟩
set_option maxRecDepth 200000 in
theorem l8Copy_any (v : Value) (x : Ag) (F0 G0 : List Nat) (w : World) (h : RdAg w v x F0 G0) (hf : ∀ y ∈ x.sealed, y.sk.fits) (hs : x.sealed.length ≤ 1048576) (hp : x.taken.length ≤ 1048576) :
    Calls Tryz.prog 33 #[v] w fun e w' => NewAg w x e w' :=
  (l8Copy_grow v x F0 G0 w h hf hs hp).mono fun e w' h => by
    obtain ⟨q1, k1, q2, l2, k2, F, G, lo, vs, GG, rfl, r1, r2, c1, c2, o1, o2, ap, b, _⟩ := h
    exact ⟨_, F, G, rfl, ⟨q1, _, k1, q2, l2, k2, rfl, r1, r2, c1, c2⟩, o1, o2, ap, b⟩
end Go.Proofs.YtgkbhhlkaifnoaaGreatDoor
