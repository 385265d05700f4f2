/- Several texts of mine, laid together. No statement of the seat is proved here. -/
import Derived.Test.YtbmbmnhamogghapRows
import Derived.WalkKit
import Derived.WalkSpells
import Derived.WalkLawsBesides
import Derived.Below
import Derived.OwnWalk
import Derived.Laws.OwnMore
import Derived.Deep.Draws
import Derived.Outline
import Derived.Deep.RegionWith
/- What a call may read: slices of bytes, and how such a reading stays as it was while a later call makes memory of its own. No statement of the seat is proved here. -/
namespace Go.Proofs.Ytbmbmnhamogghap
open Go.RowKit

def intOf : Value → Int | .int _ q => q | _ => 0

/-- A slice of bytes that can be read: its 'len' elements are 'zs'. -/
structure RdB (w : World) (a : Option Addr) (len : Nat) (zs : List Int) : Prop where
  length : zs.length = len
  range : ∀ n ∈ zs, 0 ≤ n ∧ n ≤ 255
  cells : len = 0 ∨ ∃ b off, a = some ⟨b, off, none⟩ ∧ ∀ i, i < len → w.cell? ⟨b, off + i, none⟩ = some (.int .u8 (zs.getD i 0))

theorem getD_range {zs : List Int} (h : ∀ n ∈ zs, 0 ≤ n ∧ n ≤ 255) (i : Nat) : 0 ≤ zs[i]?.getD 0 ∧ zs[i]?.getD 0 ≤ 255 := by
  by_cases hi : i < zs.length
  · rw [List.getElem?_eq_getElem hi]
    exact h _ (List.getElem_mem hi)
  · rw [List.getElem?_eq_none (by omega)]
    simp

theorem RdB.below {w w' : World} {a : Option Addr} {len : Nat} {zs : List Int} (h : RdB w a len zs) (hb : Below w.heap.size w w') : RdB w' a len zs := by
  refine ⟨h.length, h.range, ?_⟩
  rcases h.cells with h0 | ⟨b, off, ha, hc⟩
  · exact .inl h0
  · refine .inr ⟨b, off, ha, fun i hi => ?_⟩
    have h1 := hc i hi
    have h2 : b < w.heap.size := World.block_lt_of_cell? _ _ h1
    rw [hb.cell (p := ⟨b, off + i, none⟩) h2]
    exact h1

theorem RdB.of_own {w : World} {base e len cap g : Nat} {zs : List Int} (h : w.ownsRow base e 1 (.slice (some ⟨g, 0, none⟩) len cap) len (zs.map (Value.int .u8))) (hr : ∀ n ∈ zs, 0 ≤ n ∧ n ≤ 255) : RdB w (some ⟨g, 0, none⟩) len zs := by
  have hl : zs.length = len := by simpa using h.1
  refine ⟨hl, hr, .inr ⟨g, 0, rfl, fun i hi => ?_⟩⟩
  rw [Nat.zero_add, h.cellAt i (by omega)]
  simp [List.getElem?_eq_getElem (show i < zs.length by omega)]

theorem RdB.nil {w : World} {a : Option Addr} : RdB w a 0 [] := ⟨rfl, by simp, .inl rfl⟩

theorem ownsRow_below {w w' : World} {base e size : Nat} {v : Value} {n : Nat} {xs : List Value} (h : w.ownsRow base e size v n xs) (hb : Below w.heap.size w w') : w'.ownsRow base e size v n xs := by
  refine ⟨h.1, ?_⟩
  rcases h.2 with h' | ⟨g, cap, cur, h1, h2, h3, h4⟩
  · exact .inl h'
  · have hg : g < w.heap.size := (h.lt g (by rw [h1]; rfl)).2
    exact .inr ⟨g, cap, cur, h1, h2, by rw [hb.block g hg]; exact h3, h4⟩

theorem own_some {w : World} {base e n cap g : Nat} {xs : List Value} (h : w.ownsRow base e 1 (.slice (some ⟨g, 0, none⟩) n cap) n xs) (j : Nat) (hj : j < n) : ∃ v, w.cell? ⟨g, j, none⟩ = some v := by
  have hl := h.1
  rw [h.cellAt j (by omega), List.getElem?_eq_getElem (by omega)]
  exact ⟨_, rfl⟩

theorem own_apart {w1 w2 : World} {B e s e' s' n m : Nat} {v1 v2 : Value} {xs ys : List Value} (h1 : w1.ownsRow B e s v1 n xs) (h2 : w2.ownsRow w1.heap.size e' s' v2 m ys) : v1.ownBlock = none ∨ v1.ownBlock ≠ v2.ownBlock := by
  cases h : v1.ownBlock with
  | none => exact .inl rfl
  | some k =>
    refine .inr fun e => ?_
    have a := (h1.lt k h).2
    have b := (h2.lt k e.symm).1
    omega

theorem byte_wf {n : Int} (h : (Lit.int .u8 n).wf = true) : 0 ≤ n ∧ n ≤ 255 := by
  have h1 : IntKind.u8.min = 0 := rfl
  have h2 : IntKind.u8.max = 255 := rfl
  simp only [Lit.wf, Bool.and_eq_true, decide_eq_true_eq] at h
  omega

theorem int_wf {n : Int} (h : (Lit.int .i64 n).wf = true) : -9223372036854775808 ≤ n ∧ n ≤ 9223372036854775807 := by
  have h1 : IntKind.i64.min = -9223372036854775808 := rfl
  have h2 : IntKind.i64.max = 9223372036854775807 := rfl
  simp only [Lit.wf, Bool.and_eq_true, decide_eq_true_eq] at h
  omega

theorem ret_int {k : IntKind} {a b : Int} (h : a = b) : Ending.returned (.int k a) = .returned (.int k b) := by rw [h]
theorem ret_bool {a b : Bool} (h : a = b) : Ending.returned (.bool a) = .returned (.bool b) := by rw [h]

theorem take_succ' (zs : List Int) (k : Nat) (hk : k < zs.length) : zs.take (k + 1) = zs.take k ++ [zs[k]?.getD 0] := by
  rw [List.take_add_one, List.getElem?_eq_getElem hk]; rfl

theorem Try.info5 : (Try.prog.info? 5).map (fun i => (i.zero, i.size, i.bytes)) = some (some (.int .u8 0), 1, 1) := by kernel_rfl
end Go.Proofs.Ytbmbmnhamogghap
/- What memory holds, as plain data: numbers, texts, rows of them, rows of rows; which blocks a reading goes through; how it stays. No statement of the seat is proved here. -/
namespace Go.Proofs.Ytbmbmnhamogghap
open Go.RowKit

/-- A cell's content as plain data; a row: how many cells an element has, and all cells, one behind the other. -/
inductive Cl where
  | int (k : IntKind) (n : Int)
  | bool (b : Bool)
  | str (s : ByteArray)
  | row (s : Nat) (cs : List Cl)

mutual
/-- In w the cell's value v holds c; F: the blocks that are gone through. -/
def Rd (w : World) : Cl → Value → List Nat → Prop
  | .int k n, v, F => v = .int k n ∧ F = []
  | .bool b, v, F => v = .bool b ∧ F = []
  | .str s, v, F => v = .string s ∧ F = []
  | .row s cs, v, F => ∃ a len cap, v = .slice a len cap ∧ cs.length = s * len ∧ ((cs = [] ∧ F = []) ∨ ∃ b off F', cs ≠ [] ∧ a = some ⟨b, off, none⟩ ∧ F = b :: F' ∧ RdM w cs b off F')
/-- From off on block b holds these cells. -/
def RdM (w : World) : List Cl → Nat → Nat → List Nat → Prop
  | [], _, _, F => F = []
  | c :: cs, b, off, F => ∃ v F1 F2, w.cell? ⟨b, off, none⟩ = some v ∧ Rd w c v F1 ∧ RdM w cs b (off + 1) F2 ∧ F = F1 ++ F2
end
/-- The cells of a struct's value. -/
def RdS (w : World) : List Cl → List Value → List Nat → Prop
  | [], vs, F => vs = [] ∧ F = []
  | c :: cs, vs, F => ∃ v vs' F1 F2, vs = v :: vs' ∧ Rd w c v F1 ∧ RdS w cs vs' F2 ∧ F = F1 ++ F2

/-- Of these blocks w' has what w has. -/
def Agree (w w' : World) (F : List Nat) : Prop := ∀ b ∈ F, w'.heap[b]? = w.heap[b]?
theorem Agree.left {w w' : World} {F G : List Nat} (h : Agree w w' (F ++ G)) : Agree w w' F := fun b hb => h b (List.mem_append_left _ hb)
theorem Agree.right {w w' : World} {F G : List Nat} (h : Agree w w' (F ++ G)) : Agree w w' G := fun b hb => h b (List.mem_append_right _ hb)

mutual
theorem Rd.agree {w w' : World} : ∀ {c : Cl} {v : Value} {F : List Nat}, Rd w c v F → Agree w w' F → Rd w' c v F
  | .int k n, v, F, h, _ => by simpa [Rd] using h
  | .bool b, v, F, h, _ => by simpa [Rd] using h
  | .str s, v, F, h, _ => by simpa [Rd] using h
  | .row s cs, v, F, h, ha => by
    rw [Rd] at h ⊢
    obtain ⟨a, len, cap, hv, hl, h0 | ⟨b, off, F', hn, e, rfl, hm⟩⟩ := h
    · exact ⟨a, len, cap, hv, hl, .inl h0⟩
    · exact ⟨a, len, cap, hv, hl, .inr ⟨b, off, F', hn, e, rfl, RdM.agree hm (ha b List.mem_cons_self) (fun x hx => ha x (List.mem_cons_of_mem _ hx))⟩⟩
theorem RdM.agree {w w' : World} : ∀ {cs : List Cl} {b off : Nat} {F : List Nat}, RdM w cs b off F → w'.heap[b]? = w.heap[b]? → Agree w w' F → RdM w' cs b off F
  | [], b, off, F, h, _, _ => by simpa [RdM] using h
  | c :: cs, b, off, F, h, hb, ha => by
    rw [RdM] at h ⊢
    obtain ⟨v, F1, F2, hc, h1, h2, rfl⟩ := h
    exact ⟨v, F1, F2, (World.cell?_of_block (w := w) (a := ⟨b, off, none⟩) hb).trans hc, Rd.agree h1 ha.left, RdM.agree h2 hb ha.right, rfl⟩
end
theorem RdS.agree {w w' : World} : ∀ {cs : List Cl} {vs : List Value} {F : List Nat}, RdS w cs vs F → Agree w w' F → RdS w' cs vs F
  | [], vs, F, h, _ => by simpa [RdS] using h
  | c :: cs, vs, F, h, ha => by
    rw [RdS] at h ⊢
    obtain ⟨v, vs', F1, F2, hc, h1, h2, rfl⟩ := h
    exact ⟨v, vs', F1, F2, hc, Rd.agree h1 ha.left, RdS.agree h2 ha.right, rfl⟩

mutual
theorem Rd.lt {w : World} : ∀ {c : Cl} {v : Value} {F : List Nat}, Rd w c v F → ∀ b ∈ F, b < w.heap.size
  | .int k n, v, F, h => by rw [Rd] at h; simp [h.2]
  | .bool b, v, F, h => by rw [Rd] at h; simp [h.2]
  | .str s, v, F, h => by rw [Rd] at h; simp [h.2]
  | .row s cs, v, F, h => by
    rw [Rd] at h
    obtain ⟨a, len, cap, hv, hl, h0 | ⟨b, off, F', hn, e, rfl, hm⟩⟩ := h
    · simp [h0.2]
    · intro x hx
      rcases List.mem_cons.1 hx with rfl | hx
      · match cs, hn, hm with
        | c :: cs, _, hm =>
          rw [RdM] at hm
          obtain ⟨v, F1, F2, hc, _, _, _⟩ := hm
          exact World.block_lt_of_cell? _ _ hc
      · exact RdM.lt hm x hx
theorem RdM.lt {w : World} : ∀ {cs : List Cl} {b off : Nat} {F : List Nat}, RdM w cs b off F → ∀ x ∈ F, x < w.heap.size
  | [], b, off, F, h => by rw [RdM] at h; simp [h]
  | c :: cs, b, off, F, h => by
    rw [RdM] at h
    obtain ⟨v, F1, F2, hc, h1, h2, rfl⟩ := h
    intro x hx
    rcases List.mem_append.1 hx with hx | hx
    · exact Rd.lt h1 x hx
    · exact RdM.lt h2 x hx
end
theorem RdS.lt {w : World} : ∀ {cs : List Cl} {vs : List Value} {F : List Nat}, RdS w cs vs F → ∀ x ∈ F, x < w.heap.size
  | [], vs, F, h => by rw [RdS] at h; simp [h.2]
  | c :: cs, vs, F, h => by
    rw [RdS] at h
    obtain ⟨v, vs', F1, F2, hc, h1, h2, rfl⟩ := h
    intro x hx
    rcases List.mem_append.1 hx with hx | hx
    · exact Rd.lt h1 x hx
    · exact RdS.lt h2 x hx
theorem Agree.below {w w' : World} {F : List Nat} (hb : Below w.heap.size w w') (h : ∀ b ∈ F, b < w.heap.size) : Agree w w' F := fun b hm => hb.block b (h b hm)
theorem Rd.below {w w' : World} {c : Cl} {v : Value} {F : List Nat} (h : Rd w c v F) (hb : Below w.heap.size w w') : Rd w' c v F := h.agree (.below hb h.lt)
theorem RdM.below {w w' : World} {cs : List Cl} {b off : Nat} {F : List Nat} (h : RdM w cs b off F) (hlt : b < w.heap.size) (hb : Below w.heap.size w w') : RdM w' cs b off F := h.agree (hb.block b hlt) (.below hb h.lt)
theorem RdS.below {w w' : World} {cs : List Cl} {vs : List Value} {F : List Nat} (h : RdS w cs vs F) (hb : Below w.heap.size w w') : RdS w' cs vs F := h.agree (.below hb h.lt)

/-! ### an element of a row -/
theorem RdM.get {w : World} : ∀ {cs : List Cl} {b off : Nat} {F : List Nat}, RdM w cs b off F → ∀ (i : Nat) (hi : i < cs.length), ∃ v Fi, w.cell? ⟨b, off + i, none⟩ = some v ∧ Rd w cs[i] v Fi ∧ ∀ x ∈ Fi, x ∈ F
  | [], b, off, F, h, i, hi => by simp at hi
  | c :: cs, b, off, F, h, i, hi => by
    rw [RdM] at h
    obtain ⟨v, F1, F2, hc, h1, h2, rfl⟩ := h
    cases i with
    | zero => exact ⟨v, F1, hc, h1, fun x hx => List.mem_append_left _ hx⟩
    | succ i =>
      obtain ⟨v', Fi, hc', hr, hs⟩ := RdM.get h2 i (by simpa using hi)
      refine ⟨v', Fi, ?_, hr, fun x hx => List.mem_append_right _ (hs x hx)⟩
      rw [show off + (i + 1) = off + 1 + i by omega]; exact hc'

/-! ### rows of numbers, rows of rows of numbers -/
def ints (l : List Int) : Cl := .row 1 (l.map (.int .i64))
def intss (l : List (List Int)) : Cl := .row 1 (l.map ints)

/-- A slice of numbers that can be read: its elements are 'zs'; F: its block. -/
structure RdI (w : World) (a : Option Addr) (len : Nat) (zs : List Int) (F : List Nat) : Prop where
  length : zs.length = len
  cells : (len = 0 ∧ F = []) ∨ ∃ b off, 0 < len ∧ a = some ⟨b, off, none⟩ ∧ F = [b] ∧ ∀ i, i < len → w.cell? ⟨b, off + i, none⟩ = some (.int .i64 (zs.getD i 0))
theorem rdM_ints {w : World} : ∀ {l : List Int} {b off : Nat} {F : List Nat}, RdM w (l.map (.int .i64)) b off F ↔ F = [] ∧ ∀ i, i < l.length → w.cell? ⟨b, off + i, none⟩ = some (.int .i64 (l.getD i 0))
  | [], b, off, F => by simp [RdM]
  | n :: l, b, off, F => by
    rw [List.map_cons, RdM]
    constructor
    · rintro ⟨v, F1, F2, hc, h1, h2, rfl⟩
      rw [Rd] at h1
      obtain ⟨rfl, rfl⟩ := h1
      obtain ⟨rfl, h⟩ := rdM_ints.1 h2
      refine ⟨rfl, fun i hi => ?_⟩
      cases i with
      | zero => simpa using hc
      | succ i =>
        have := h i (by simpa using hi)
        rw [show off + (i + 1) = off + 1 + i by omega, this]; simp
    · rintro ⟨rfl, h⟩
      refine ⟨.int .i64 n, [], [], by simpa using h 0 (by simp), by simp [Rd], rdM_ints.2 ⟨rfl, fun i hi => ?_⟩, rfl⟩
      have := h (i + 1) (by simpa using hi)
      rw [show off + (i + 1) = off + 1 + i by omega] at this; simpa using this
theorem rd_ints {w : World} {l : List Int} {v : Value} {F : List Nat} : Rd w (ints l) v F ↔ ∃ a len cap, v = .slice a len cap ∧ RdI w a len l F := by
  rw [ints, Rd]
  constructor
  · rintro ⟨a, len, cap, rfl, hl, h0 | ⟨b, off, F', hn, rfl, rfl, hm⟩⟩
    · simp at hl h0
      exact ⟨a, len, cap, rfl, by omega, .inl ⟨by simp [h0.1] at hl; omega, h0.2⟩⟩
    · obtain ⟨rfl, h⟩ := rdM_ints.1 hm
      simp at hl hn
      refine ⟨_, len, cap, rfl, by omega, .inr ⟨b, off, ?_, rfl, rfl, fun i hi => h i (by omega)⟩⟩
      have : l.length ≠ 0 := fun e => hn (List.eq_nil_of_length_eq_zero e)
      omega
  · rintro ⟨a, len, cap, rfl, hl, ⟨h0, hF⟩ | ⟨b, off, hp, rfl, rfl, h⟩⟩
    · exact ⟨a, len, cap, rfl, by simp [hl], .inl ⟨by simp; exact List.eq_nil_of_length_eq_zero (by omega), hF⟩⟩
    · refine ⟨_, len, cap, rfl, by simp [hl], .inr ⟨b, off, [], ?_, rfl, rfl, rdM_ints.2 ⟨rfl, fun i hi => h i (by omega)⟩⟩⟩
      intro e; simp at e; subst e; simp at hl; omega
theorem RdI.below {w w' : World} {a : Option Addr} {len : Nat} {zs : List Int} {F : List Nat} (h : RdI w a len zs F) (hb : Below w.heap.size w w') : RdI w' a len zs F := by
  refine ⟨h.length, ?_⟩
  rcases h.cells with h0 | ⟨b, off, hp, ha, hF, hc⟩
  · exact .inl h0
  · refine .inr ⟨b, off, hp, ha, hF, fun i hi => ?_⟩
    have h1 := hc i hi
    rw [hb.cell (p := ⟨b, off + i, none⟩) (World.block_lt_of_cell? _ _ h1)]
    exact h1
theorem RdI.agree {w w' : World} {a : Option Addr} {len : Nat} {zs : List Int} {F : List Nat} (h : RdI w a len zs F) (hb : Agree w w' F) : RdI w' a len zs F := by
  refine ⟨h.length, ?_⟩
  rcases h.cells with h0 | ⟨b, off, hp, ha, rfl, hc⟩
  · exact .inl h0
  · exact .inr ⟨b, off, hp, ha, rfl, fun i hi => (World.cell?_of_block (w := w) (a := ⟨b, off + i, none⟩) (hb b (by simp))).trans (hc i hi)⟩

/-- A slice of slices of numbers that can be read. -/
structure RdII (w : World) (a : Option Addr) (len : Nat) (zss : List (List Int)) (F : List Nat) : Prop where
  length : zss.length = len
  cells : (len = 0 ∧ F = []) ∨ ∃ b off F', 0 < len ∧ a = some ⟨b, off, none⟩ ∧ F = b :: F' ∧ RdM w (zss.map ints) b off F'
theorem rd_intss {w : World} {l : List (List Int)} {v : Value} {F : List Nat} : Rd w (intss l) v F ↔ ∃ a len cap, v = .slice a len cap ∧ RdII w a len l F := by
  rw [intss, Rd]
  constructor
  · rintro ⟨a, len, cap, rfl, hl, h0 | ⟨b, off, F', hn, rfl, rfl, hm⟩⟩
    · simp at hl h0
      exact ⟨a, len, cap, rfl, by omega, .inl ⟨by simp [h0.1] at hl; omega, h0.2⟩⟩
    · simp at hl hn
      refine ⟨_, len, cap, rfl, by omega, .inr ⟨b, off, F', ?_, rfl, rfl, hm⟩⟩
      have : l.length ≠ 0 := fun e => hn (List.eq_nil_of_length_eq_zero e)
      omega
  · rintro ⟨a, len, cap, rfl, hl, ⟨h0, hF⟩ | ⟨b, off, F', hp, rfl, rfl, h⟩⟩
    · exact ⟨a, len, cap, rfl, by simp [hl], .inl ⟨by simp; exact List.eq_nil_of_length_eq_zero (by omega), hF⟩⟩
    · refine ⟨_, len, cap, rfl, by simp [hl], .inr ⟨b, off, F', ?_, rfl, rfl, h⟩⟩
      intro e; simp at e; subst e; simp at hl; omega
theorem RdII.row {w : World} {b off len : Nat} {zss : List (List Int)} {F : List Nat} (h : RdM w (zss.map ints) b off F) (hl : zss.length = len) (i : Nat) (hi : i < len) :
    ∃ a n cap Fi, w.cell? ⟨b, off + i, none⟩ = some (.slice a n cap) ∧ RdI w a n (zss.getD i []) Fi ∧ ∀ x ∈ Fi, x ∈ F := by
  obtain ⟨v, Fi, hc, hr, hs⟩ := h.get i (by simpa using (by omega : i < zss.length))
  rw [List.getElem_map] at hr
  obtain ⟨a, n, cap, rfl, hr2⟩ := rd_ints.1 hr
  have e : zss.getD i [] = zss[i]'(by omega) := by rw [List.getD_eq_getElem?_getD, List.getElem?_eq_getElem (by omega)]; rfl
  exact ⟨a, n, cap, Fi, hc, by rw [e]; exact hr2, hs⟩
end Go.Proofs.Ytbmbmnhamogghap
/- Blocks that a reading goes through and that are the holder's own: pairwise unlike, none frozen, none elder than B. No statement of the seat is proved here. -/
namespace Go.Proofs.Ytbmbmnhamogghap
open Go.RowKit

structure Own (B : Nat) (w : World) (F : List Nat) : Prop where
  nodup : F.Nodup
  free : ∀ b ∈ F, ∀ o, w.frozen? ⟨b, o, none⟩ = false
  ge : ∀ b ∈ F, B ≤ b
theorem Own.agree {B : Nat} {w w' : World} {F : List Nat} (h : Own B w F) (ha : Agree w w' F) : Own B w' F :=
  ⟨h.nodup, fun b hb o => (World.frozen?_of_block (w := w) (a := ⟨b, o, none⟩) (ha b hb)).trans (h.free b hb o), h.ge⟩
theorem Own.below {B : Nat} {w w' : World} {F : List Nat} (h : Own B w F) (hlt : ∀ b ∈ F, b < w.heap.size) (hb : Below w.heap.size w w') : Own B w' F := h.agree (.below hb hlt)
theorem Own.mono {B B' : Nat} {w : World} {F : List Nat} (h : Own B w F) (hB : B' ≤ B) : Own B' w F := ⟨h.nodup, h.free, fun b hb => Nat.le_trans hB (h.ge b hb)⟩
theorem Own.nil {B : Nat} {w : World} : Own B w [] := ⟨List.nodup_nil, by simp, by simp⟩
theorem Own.left {B : Nat} {w : World} {F G : List Nat} (h : Own B w (F ++ G)) : Own B w F :=
  ⟨(List.nodup_append.1 h.nodup).1, fun b hb => h.free b (List.mem_append_left _ hb), fun b hb => h.ge b (List.mem_append_left _ hb)⟩
theorem Own.right {B : Nat} {w : World} {F G : List Nat} (h : Own B w (F ++ G)) : Own B w G :=
  ⟨(List.nodup_append.1 h.nodup).2.1, fun b hb => h.free b (List.mem_append_right _ hb), fun b hb => h.ge b (List.mem_append_right _ hb)⟩
theorem Own.apart {B : Nat} {w : World} {F G : List Nat} (h : Own B w (F ++ G)) : ∀ b ∈ F, b ∉ G := fun b hb hg => (List.nodup_append.1 h.nodup).2.2 b hb b hg rfl
theorem Own.join {B C : Nat} {w : World} {F G : List Nat} (h : Own B w F) (k : Own C w G) (hlt : ∀ b ∈ F, b < C) (hB : B ≤ C) : Own B w (F ++ G) := by
  refine ⟨List.nodup_append.2 ⟨h.nodup, k.nodup, fun a ha b hb e => ?_⟩, fun b hb => ?_, fun b hb => ?_⟩
  · subst e; have := hlt a ha; have := k.ge a hb; omega
  · rcases List.mem_append.1 hb with h1 | h1
    · exact h.free b h1
    · exact k.free b h1
  · rcases List.mem_append.1 hb with h1 | h1
    · exact h.ge b h1
    · exact Nat.le_trans hB (k.ge b h1)

theorem Own.app {B : Nat} {w : World} {F G : List Nat} (h : Own B w F) (k : Own B w G) (hd : ∀ b ∈ F, b ∉ G) : Own B w (F ++ G) :=
  ⟨List.nodup_append.2 ⟨h.nodup, k.nodup, fun a ha _ hb e => hd a ha (e ▸ hb)⟩, fun b hb => (List.mem_append.1 hb).elim (h.free b) (k.free b), fun b hb => (List.mem_append.1 hb).elim (h.ge b) (k.ge b)⟩

/-- Only these blocks are written; new ones may have been made. -/
structure Only (F : List Nat) (w w' : World) : Prop where
  os : w'.os = w.os
  tape : w'.tape = w.tape
  output : w'.output = w.output
  size : w.heap.size ≤ w'.heap.size
  block : ∀ k, k < w.heap.size → k ∉ F → w'.heap[k]? = w.heap[k]?
theorem Only.refl (F : List Nat) (w : World) : Only F w w := ⟨rfl, rfl, rfl, Nat.le_refl _, fun _ _ _ => rfl⟩
theorem Only.trans {F : List Nat} {a b c : World} (h : Only F a b) (k : Only F b c) : Only F a c :=
  ⟨k.os.trans h.os, k.tape.trans h.tape, k.output.trans h.output, Nat.le_trans h.size k.size, fun i hi hf => (k.block i (Nat.lt_of_lt_of_le hi h.size) hf).trans (h.block i hi hf)⟩
theorem Only.mono {F G : List Nat} {a b : World} (h : Only F a b) (hs : ∀ x ∈ F, x ∈ G) : Only G a b := ⟨h.os, h.tape, h.output, h.size, fun i hi hf => h.block i hi (fun hx => hf (hs i hx))⟩
theorem Only.of_below {F : List Nat} {a b : World} (h : Below a.heap.size a b) : Only F a b := ⟨h.os, h.tape, h.output, h.size, fun i hi _ => h.block i hi⟩
theorem Only.of_grown {g : Nat} {a b : World} (h : a.grownBy b (some g)) : Only [g] a b := ⟨h.os, h.tape, h.output, h.size, fun i hi hf => h.block i hi (fun e => hf (by cases e; simp))⟩
theorem Only.agree {F G : List Nat} {w w' : World} (h : Only F w w') (hlt : ∀ b ∈ G, b < w.heap.size) (ha : ∀ b ∈ G, b ∉ F) : Agree w w' G := fun b hb => h.block b (hlt b hb) (ha b hb)
theorem Only.below {F : List Nat} {B : Nat} {w0 w w' : World} (h : Only F w w') (hb : Below B w0 w) (hB : B ≤ w.heap.size) (hF : ∀ b ∈ F, B ≤ b) : Below B w0 w' :=
  hb.trans ⟨h.os, h.tape, h.output, h.size, fun k hk => h.block k (by omega) (fun hx => by have := hF k hx; omega)⟩

/-! ### out of a row that the call made -/
theorem RdI.of_own {w : World} {B e len cap g : Nat} {zs : List Int} (h : w.ownsRow B e 1 (.slice (some ⟨g, 0, none⟩) len cap) len (zs.map (Value.int .i64))) : ∃ F, RdI w (some ⟨g, 0, none⟩) len zs F ∧ Own B w F ∧ ∀ b ∈ F, b = g := by
  have hl : zs.length = len := by simpa using h.1
  by_cases h0 : len = 0
  · exact ⟨[], ⟨hl, .inl ⟨h0, rfl⟩⟩, Own.nil, by simp⟩
  · have hlt := h.lt g rfl
    refine ⟨[g], ⟨hl, .inr ⟨g, 0, by omega, rfl, rfl, fun i hi => ?_⟩⟩, ⟨by simp, fun b hb o => ?_, fun b hb => ?_⟩, by simp⟩
    · rw [Nat.zero_add, h.cellAt i (by omega)]
      simp [List.getElem?_eq_getElem (show i < zs.length by omega)]
    · obtain rfl : b = g := by simpa using hb
      exact h.frozenAt o
    · obtain rfl : b = g := by simpa using hb
      exact hlt.1
theorem RdI.lt {w : World} {a : Option Addr} {len : Nat} {zs : List Int} {F : List Nat} (h : RdI w a len zs F) : ∀ b ∈ F, b < w.heap.size := by
  rcases h.cells with ⟨_, rfl⟩ | ⟨b, off, hp, _, rfl, hc⟩
  · simp
  · intro x hx
    obtain rfl : x = b := by simpa using hx
    exact World.block_lt_of_cell? _ _ (hc 0 hp)
theorem RdII.lt {w : World} {a : Option Addr} {len : Nat} {zss : List (List Int)} {F : List Nat} (h : RdII w a len zss F) : ∀ b ∈ F, b < w.heap.size :=
  (rd_intss.2 ⟨a, len, 0, rfl, h⟩ : Rd w (intss zss) (.slice a len 0) F).lt
theorem RdII.agree {w w' : World} {a : Option Addr} {len : Nat} {zss : List (List Int)} {F : List Nat} (h : RdII w a len zss F) (ha : Agree w w' F) : RdII w' a len zss F := by
  refine ⟨h.length, ?_⟩
  rcases h.cells with h0 | ⟨b, off, F', hp, e, rfl, hm⟩
  · exact .inl h0
  · exact .inr ⟨b, off, F', hp, e, rfl, hm.agree (ha b List.mem_cons_self) (fun x hx => ha x (List.mem_cons_of_mem _ hx))⟩
theorem RdII.below {w w' : World} {a : Option Addr} {len : Nat} {zss : List (List Int)} {F : List Nat} (h : RdII w a len zss F) (hb : Below w.heap.size w w') : RdII w' a len zss F := h.agree (.below hb h.lt)

/-- A row that the call made, its values each with its own reading: the row's cells, read. -/
theorem rdM_of_own {w : World} {g : Nat} : ∀ {cs : List Cl} {vs : List Value} {F : List Nat} (off : Nat), RdS w cs vs F → (∀ i, i < vs.length → w.cell? ⟨g, off + i, none⟩ = vs[i]?) → RdM w cs g off F
  | [], vs, F, off, h, _ => by rw [RdS] at h; rw [RdM]; exact h.2
  | c :: cs, vs, F, off, h, hc => by
    rw [RdS] at h
    obtain ⟨v, vs', F1, F2, rfl, h1, h2, rfl⟩ := h
    rw [RdM]
    refine ⟨v, F1, F2, by simpa using hc 0 (by simp), h1, rdM_of_own (off + 1) h2 (fun i hi => ?_), rfl⟩
    have := hc (i + 1) (by simpa using hi)
    rw [show off + 1 + i = off + (i + 1) by omega]; simpa using this
theorem RdS.length {w : World} : ∀ {cs : List Cl} {vs : List Value} {F : List Nat}, RdS w cs vs F → vs.length = cs.length
  | [], vs, F, h => by rw [RdS] at h; simp [h.1]
  | c :: cs, vs, F, h => by
    rw [RdS] at h
    obtain ⟨v, vs', F1, F2, rfl, h1, h2, rfl⟩ := h
    simp [RdS.length h2]
theorem RdS.snoc {w : World} : ∀ {cs : List Cl} {vs : List Value} {F : List Nat} {c : Cl} {v : Value} {G : List Nat}, RdS w cs vs F → Rd w c v G → RdS w (cs ++ [c]) (vs ++ [v]) (F ++ G)
  | [], vs, F, c, v, G, h, k => by
    rw [RdS] at h
    obtain ⟨rfl, rfl⟩ := h
    simp only [List.nil_append]
    rw [RdS]
    exact ⟨v, [], G, [], rfl, k, by simp [RdS], by simp⟩
  | c0 :: cs, vs, F, c, v, G, h, k => by
    rw [RdS] at h
    obtain ⟨v0, vs', F1, F2, rfl, h1, h2, rfl⟩ := h
    simp only [List.cons_append]
    rw [RdS]
    exact ⟨v0, vs' ++ [v], F1, F2 ++ G, rfl, h1, RdS.snoc h2 k, by simp⟩
end Go.Proofs.Ytbmbmnhamogghap
/- The walks through the helpers of the laws over slices of numbers, and over slices of such: copying, comparing, weighing. No statement of the seat is proved here. -/
namespace Go.Proofs.Ytbmbmnhamogghap
open Go.RowKit

/-- What a copy holds behind k rounds. -/
def halfI (zs : List Int) (k len : Nat) : List Int := zs.take k ++ List.replicate (len - k) 0
theorem halfI_zero (zs : List Int) (len : Nat) : halfI zs 0 len = List.replicate len 0 := by simp [halfI]
theorem halfI_end (zs : List Int) (len : Nat) (h : zs.length = len) : halfI zs len len = zs := by
  simp [halfI, List.take_of_length_le (Nat.le_of_eq h)]
theorem halfI_step (zs : List Int) (k len : Nat) (h : zs.length = len) (hk : k < len) : ((halfI zs k len).map (Value.int .i64)).set k (.int .i64 (zs[k]?.getD 0)) = (halfI zs (k + 1) len).map (Value.int .i64) := by
  have e : (halfI zs k len).set k (zs[k]?.getD 0) = halfI zs (k + 1) len := by
    unfold halfI
    have hkl : (zs.take k).length = k := by simp; omega
    rw [List.set_append_right k _ (by omega), hkl, Nat.sub_self, take_succ' zs k (by omega)]
    have e : List.replicate (len - k) (0 : Int) = 0 :: List.replicate (len - (k + 1)) 0 := by
      rw [show len - k = (len - (k + 1)) + 1 by omega]; rfl
    rw [e]
    simp
  rw [← e, List.map_set]

theorem infoInt : (Try.prog.info? 3).map (fun i => (i.zero, i.size, i.bytes)) = some (some (.int .i64 0), 1, 8) := by kernel_rfl
def NewI (w : World) (zs : List Int) (e : Ending) (w' : World) : Prop :=
  ∃ a len cap F, e = .returned (.slice a len cap) ∧ RdI w' a len zs F ∧ Own w.heap.size w' F ∧ Below w.heap.size w w'
set_option maxRecDepth 200000 in
set_option maxHeartbeats 400000 in
theorem toIntS_own (a : Option Addr) (len cap : Nat) (zs : List Int) (F : List Nat) (w : World) (h : RdI w a len zs F) (hlen : len ≤ 1048576) :
    Calls Try.prog 73 #[.slice a len cap] w fun e w' => e = .returned (.slice (some ⟨w.heap.size, 0, none⟩) len len) ∧
      w'.ownsRow w.heap.size 3 1 (.slice (some ⟨w.heap.size, 0, none⟩) len len) len (zs.map (Value.int .i64)) ∧ Below w.heap.size w w' := by
  obtain ⟨i0, hi, hz0, hz1, hz2⟩ := info_parts infoInt
  have HL : Hid (zs.length = len) := h.length
  have hbase : w.heap.size ≤ w.heap.size := Nat.le_refl _
  rcases h.cells with ⟨h0, _⟩ | ⟨b, off, _, rfl, _, hc⟩
  · subst h0
    have hz : zs = [] := List.eq_nil_of_length_eq_zero h.length
    subst hz
    clear h
    go_enter Try.func73, Try.ntmps73
    go_wp2_with (at_make; refine wpList_make_full _ rfl _ _ 23 rfl w.heap.size 3 i0 (.int .i64 0) 1 Try.underlying23 hi hz0 hz1 .i64 .i64 _ _ 0 rfl rfl (by simp) (by simp) (by omega) (by unfold maxLen; omega) (Nat.le_refl _) ?_; intro w1 hown hgrow)
    refine wp_loop_rounds 1 ?_
    rw [rounds_succ]
    go_wp2
    go_ret
    exact ⟨rfl, by simpa [Value.cells, toList_madeCells_one] using hown, (Below.refl _ _).grown hgrow (Nat.le_refl _) (fun k hk => by cases hk)⟩
  · have hb : 0 < len → b < w.heap.size := fun h0 => World.block_lt_of_cell? _ _ (hc 0 h0)
    clear h
    go_enter Try.func73, Try.ntmps73
    go_wp2_with (at_make; refine wpList_make_full _ rfl _ _ 23 rfl w.heap.size 3 i0 (.int .i64 0) 1 Try.underlying23 hi hz0 hz1 .i64 .i64 _ _ len rfl rfl rfl rfl (by rw [hz2]; omega) (by unfold maxLen; omega) (Nat.le_refl _) ?_; intro w1 hown hgrow)
    go_loopw [4] (fun i wr => ∃ k : Nat, k ≤ len ∧ i = .int .i64 k ∧ wr.ownsRow w.heap.size 3 1 (.slice (some ⟨w.heap.size, 0, none⟩) len len) len ((halfI zs k len).map (Value.int .i64)) ∧ Below w.heap.size w wr) (fun i _ => len - (intOf i).toNat)
    case atStart =>
      refine ⟨0, by omega, rfl, ?_, (Below.refl _ _).grown hgrow (Nat.le_refl _) (fun k hk => by cases hk)⟩
      rw [halfI_zero]
      simpa [Value.cells, toList_madeCells_one] using hown
    case round =>
      obtain ⟨k, hk, rfl, hown', hbel⟩ := hrel
      by_cases hlt : k < len
      · have hck : wr.cell? ⟨b, off + k, none⟩ = some (.int .i64 (zs.getD k 0)) := (hbel.cell (by exact hb (by omega))).trans (hc k hlt)
        obtain ⟨v0, hcg⟩ := own_some hown' k hlt
        have hcf := hown'.frozenAt k
        have R := hown'.stored k (.int .i64 (zs[k]?.getD 0))
        rw [halfI_step zs k len HL.out hlt] at R
        obtain ⟨R1, R2⟩ := R
        clear hown'
        go_wp2
        go_roundw
        case rel => exact ⟨k + 1, by omega, by go_num, R1, hbel.setCell (Nat.le_refl _) _⟩
        case measure => simp [intOf]; omega
      · obtain rfl : k = len := by omega
        rw [halfI_end zs k HL.out] at hown'
        go_wp2
        go_ret
        exact ⟨rfl, hown', hbel⟩
set_option maxRecDepth 200000 in
/-- What a copy of a slice of numbers tells. -/
theorem toIntS_any (a : Option Addr) (len cap : Nat) (zs : List Int) (F : List Nat) (w : World) (h : RdI w a len zs F) (hlen : len ≤ 1048576) :
    Calls Try.prog 73 #[.slice a len cap] w fun e w' => NewI w zs e w' :=
  (toIntS_own a len cap zs F w h hlen).mono fun _ _ ⟨he, ho, hb⟩ => by
    obtain ⟨G, hr, hg, _⟩ := RdI.of_own ho
    exact ⟨_, _, _, G, he, hr, hg, hb⟩

theorem eqI_step {xs ys : List Int} {k : Nat} (hl : xs.length = ys.length) (hk : k < xs.length) (h : xs.take k = ys.take k) (he : xs[k]?.getD 0 = ys[k]?.getD 0) : xs.take (k + 1) = ys.take (k + 1) := by
  rw [take_succ' xs k hk, take_succ' ys k (by omega), h, he]
theorem neI_of_at {xs ys : List Int} {k : Nat} (he : ¬ xs[k]?.getD 0 = ys[k]?.getD 0) : decide (xs = ys) = false := by
  rw [decide_eq_false_iff_not]; intro e; subst e; exact he rfl
theorem eqI_end {xs ys : List Int} {k : Nat} (hx : xs.length = k) (hy : ys.length = k) (h : xs.take k = ys.take k) : decide (xs = ys) = true := by
  rw [decide_eq_true_iff]
  rw [List.take_of_length_le (Nat.le_of_eq hx), List.take_of_length_le (Nat.le_of_eq hy)] at h
  exact h
set_option maxRecDepth 200000 in
set_option maxHeartbeats 400000 in
theorem eqIntS_any (a b : Option Addr) (la lb ca cb : Nat) (xs ys : List Int) (F G : List Nat) (w : World) (ha : RdI w a la xs F) (hb : RdI w b lb ys G) (hla : la ≤ 140737488355328) (hlb : lb ≤ 140737488355328) :
    Calls Try.prog 79 #[.slice a la ca, .slice b lb cb] w fun e w' => e = .returned (.bool (decide (xs = ys))) ∧ Below w.heap.size w w' := by
  have Hx : Hid (xs.length = la) := ha.length
  have Hy : Hid (ys.length = lb) := hb.length
  by_cases hl : la = lb
  · subst hl
    have hbne : ((la : Int) != (la : Int)) = false := by simp
    by_cases h0 : la = 0
    · subst h0
      have ex : xs = [] := List.eq_nil_of_length_eq_zero ha.length
      have ey : ys = [] := List.eq_nil_of_length_eq_zero hb.length
      clear ha hb
      go_enter Try.func79, Try.ntmps79
      go_wp2
      refine wp_loop_rounds 1 ?_
      rw [rounds_succ]
      go_wp2
      go_ret
      exact ⟨ret_bool (by rw [ex, ey]; rfl), Below.refl _ _⟩
    · obtain ⟨b1, o1, rfl, hc1⟩ : ∃ b off, a = some ⟨b, off, none⟩ ∧ ∀ i, i < la → w.cell? ⟨b, off + i, none⟩ = some (.int .i64 (xs.getD i 0)) := by
        rcases ha.cells with h | ⟨b, off, _, h1, _, h2⟩
        · exact absurd h.1 h0
        · exact ⟨b, off, h1, h2⟩
      obtain ⟨b2, o2, rfl, hc2⟩ : ∃ b' off, b = some ⟨b', off, none⟩ ∧ ∀ i, i < la → w.cell? ⟨b', off + i, none⟩ = some (.int .i64 (ys.getD i 0)) := by
        rcases hb.cells with h | ⟨b, off, _, h1, _, h2⟩
        · exact absurd h.1 h0
        · exact ⟨b, off, h1, h2⟩
      have hb1 : b1 < w.heap.size := World.block_lt_of_cell? _ _ (hc1 0 (by omega))
      have hb2 : b2 < w.heap.size := World.block_lt_of_cell? _ _ (hc2 0 (by omega))
      clear ha hb
      go_enter Try.func79, Try.ntmps79
      go_wp2
      go_loopw [5] (fun i wr => ∃ k : Nat, k ≤ la ∧ i = .int .i64 k ∧ Hid (xs.take k = ys.take k) ∧ Below w.heap.size w wr) (fun i _ => la - (intOf i).toNat)
      case atStart => exact ⟨0, by omega, rfl, rfl, Below.refl _ _⟩
      case round =>
        obtain ⟨k, hk, rfl, HT, hbel⟩ := hrel
        by_cases hlt : k < la
        · have d1 : wr.cell? ⟨b1, o1 + k, none⟩ = some (.int .i64 (xs.getD k 0)) := (hbel.cell (by exact hb1)).trans (hc1 k hlt)
          have d2 : wr.cell? ⟨b2, o2 + k, none⟩ = some (.int .i64 (ys.getD k 0)) := (hbel.cell (by exact hb2)).trans (hc2 k hlt)
          by_cases he : xs[k]?.getD 0 = ys[k]?.getD 0
          · have hne : (xs[k]?.getD 0 != ys[k]?.getD 0) = false := by simp [he]
            have HE : Hid (xs[k]?.getD 0 = ys[k]?.getD 0) := he
            clear he hc1 hc2
            go_wp2
            go_region
            all_goals (try go_wp2)
            all_goals
              go_roundw
              case rel => exact ⟨k + 1, by omega, by go_num, eqI_step (by rw [Hx.out, Hy.out]) (by rw [Hx.out]; exact hlt) HT.out HE.out, by repeat (first | exact hbel | apply Below.drew)⟩
              case measure => simp [intOf]; omega
          · have hne : (xs[k]?.getD 0 != ys[k]?.getD 0) = true := by simp [he]
            have HE : Hid (¬ xs[k]?.getD 0 = ys[k]?.getD 0) := he
            clear he hc1 hc2
            go_wp2
            go_region
            all_goals (try go_wp2)
            all_goals
              go_ret
              exact ⟨ret_bool (neI_of_at HE.out).symm, by repeat (first | exact hbel | apply Below.drew)⟩
        · obtain rfl : k = la := by omega
          go_wp2
          go_ret
          exact ⟨ret_bool (eqI_end Hx.out Hy.out HT.out).symm, hbel⟩
  · have hbne : ((la : Int) != (lb : Int)) = true := by simp; omega
    have e : decide (xs = ys) = false := by
      rw [decide_eq_false_iff_not]; intro e; subst e; exact hl (Hx.out.symm.trans Hy.out)
    clear ha hb
    go_enter Try.func79, Try.ntmps79
    go_wp2
    go_ret
    exact ⟨ret_bool e.symm, Below.refl _ _⟩
/-- What a weighing tells: below 0 where there was too much; else what is left. -/
def Weighed (left n : Int) (e : Ending) : Prop := ∃ r, e = .returned (.int .i64 r) ∧ r ≤ left ∧ (0 ≤ r → r = left - n) ∧ (r < 0 → left < n)
set_option maxRecDepth 200000 in
theorem szIntS_any (a : Option Addr) (len cap : Nat) (left : Int) (w : World) (hlen : len ≤ 140737488355328) (hl0 : 0 ≤ left) (hl1 : left ≤ 1048576) :
    Calls Try.prog 69 #[.slice a len cap, .int .i64 left] w fun e w' => Weighed left len e ∧ w' = w := by
  by_cases h : left < (len : Int)
  · go_enter Try.func69, Try.ntmps69
    go_wp2
    go_ret
    exact ⟨⟨-1, rfl, by omega, by omega, by omega⟩, rfl⟩
  · go_enter Try.func69, Try.ntmps69
    go_wp2
    go_ret
    exact ⟨⟨left - len, rfl, by omega, by omega, by omega⟩, rfl⟩
end Go.Proofs.Ytbmbmnhamogghap
/- The walks through the helpers of the laws over slices of slices of numbers. No statement of the seat is proved here. -/
namespace Go.Proofs.Ytbmbmnhamogghap
open Go.RowKit

theorem take_snoc {α : Type} (l : List α) (d : α) (k : Nat) (h : k < l.length) : l.take (k + 1) = l.take k ++ [l.getD k d] := by
  rw [List.take_add_one, List.getElem?_eq_getElem h, List.getD_eq_getElem?_getD, List.getElem?_eq_getElem h]; rfl
theorem set_next {α : Type} (vs : List α) (z v : α) (k len : Nat) (hk : vs.length = k) (hl : k < len) : (vs ++ List.replicate (len - k) z).set k v = (vs ++ [v]) ++ List.replicate (len - (k + 1)) z := by
  rw [List.set_append_right k _ (by omega), hk, Nat.sub_self, show len - k = (len - (k + 1)) + 1 by omega]
  simp [List.replicate_succ]
theorem Agree.set {w : World} {F : List Nat} {g : Nat} (h : g ∉ F) (j : Nat) (v : Value) : Agree w (w.setCell ⟨g, j, none⟩ v) F := fun b hb => Below.heap_setCell w ⟨g, j, none⟩ v b (fun e => h (by have e2 : b = g := e; rw [← e2]; exact hb))

/-- A copy of a row of rows, behind k rounds. -/
structure CopyII (w : World) (g : Nat) (zss : List (List Int)) (k len : Nat) (vs : List Value) (G : List Nat) (wr : World) : Prop where
  own : wr.ownsRow w.heap.size 23 1 (.slice (some ⟨g, 0, none⟩) len len) len (vs ++ List.replicate (len - k) (.slice none 0 0))
  rd : RdS wr ((zss.take k).map ints) vs G
  mine : Own (w.heap.size + 1) wr G
  bel : Below w.heap.size w wr
theorem CopyII.step {w wr w2 : World} {zss : List (List Int)} {k len : Nat} {vs : List Value} {G F : List Nat} {a : Option Addr} {n cap : Nat}
    (h : CopyII w w.heap.size zss k len vs G wr) (hk : k < len) (hl : zss.length = len) (hr : RdI w2 a n (zss.getD k []) F) (ho : Own wr.heap.size w2 F) (hb : Below wr.heap.size wr w2) :
    CopyII w w.heap.size zss (k + 1) len (vs ++ [.slice a n cap]) (G ++ F) (w2.setCell ⟨w.heap.size, k, none⟩ (.slice a n cap)) := by
  have hg := (h.own.lt w.heap.size rfl).2
  have hGlt := h.rd.lt
  have hv : vs.length = k := by rw [h.rd.length]; simp; omega
  have hG : w.heap.size ∉ G := fun hx => by have := h.mine.ge _ hx; omega
  have hF : w.heap.size ∉ F := fun hx => by have := ho.ge _ hx; omega
  have own2 := (ownsRow_below h.own hb).stored k (.slice a n cap)
  rw [set_next vs _ _ k len hv hk] at own2
  refine ⟨own2.1, ?_, ?_, (h.bel.trans (hb.mono (by omega))).setCell (Nat.le_refl _) _⟩
  · rw [take_snoc zss [] k (by omega), List.map_append]
    exact RdS.snoc ((h.rd.below hb).agree (.set hG _ _)) (rd_ints.2 ⟨a, n, cap, rfl, hr.agree (.set hF _ _)⟩)
  · have := (h.mine.below hGlt hb).join ho hGlt (by omega)
    exact this.agree (.set (fun hx => (List.mem_append.1 hx).elim hG hF) _ _)
theorem CopyII.done {w wr : World} {zss : List (List Int)} {len : Nat} {vs : List Value} {G : List Nat} (h : CopyII w w.heap.size zss len len vs G wr) (hl : zss.length = len) :
    ∃ F, RdII wr (some ⟨w.heap.size, 0, none⟩) len zss F ∧ Own w.heap.size wr F := by
  by_cases h0 : len = 0
  · exact ⟨[], ⟨hl, .inl ⟨h0, rfl⟩⟩, Own.nil⟩
  · have rd := h.rd
    rw [List.take_of_length_le (Nat.le_of_eq hl)] at rd
    have hv : vs.length = len := by rw [rd.length]; simpa using hl
    have own := h.own
    rw [Nat.sub_self, List.replicate_zero, List.append_nil] at own
    refine ⟨w.heap.size :: G, ⟨hl, .inr ⟨_, 0, G, by omega, rfl, rfl, rdM_of_own 0 rd (fun i hi => ?_)⟩⟩, ⟨?_, fun b hb o => ?_, fun b hb => ?_⟩⟩
    · rw [Nat.zero_add]; exact own.cellAt i (by omega)
    · exact List.nodup_cons.2 ⟨fun hx => by have := h.mine.ge _ hx; omega, h.mine.nodup⟩
    · rcases List.mem_cons.1 hb with rfl | hb
      · exact own.frozenAt o
      · exact h.mine.free b hb o
    · rcases List.mem_cons.1 hb with rfl | hb
      · omega
      · have := h.mine.ge b hb; omega
def NewII (w : World) (zss : List (List Int)) (e : Ending) (w' : World) : Prop :=
  ∃ a len cap F, e = .returned (.slice a len cap) ∧ RdII w' a len zss F ∧ Own w.heap.size w' F ∧ Below w.heap.size w w'
theorem infoInts : (Try.prog.info? 23).map (fun i => (i.zero, i.size, i.bytes)) = some (some (.slice none 0 0), 1, 24) := by kernel_rfl
set_option maxRecDepth 200000 in
set_option maxHeartbeats 1000000 in
theorem toIntSS_any (a : Option Addr) (len cap : Nat) (zss : List (List Int)) (F : List Nat) (w : World) (h : RdII w a len zss F) (hlen : len ≤ 1048576) (hrow : ∀ zs ∈ zss, zs.length ≤ 1048576) :
    Calls Try.prog 74 #[.slice a len cap] w fun e w' => NewII w zss e w' := by
  obtain ⟨i0, hi, hz0, hz1, hz2⟩ := info_parts infoInts
  have HL : Hid (zss.length = len) := h.length
  have HRow : Hid (∀ zs ∈ zss, zs.length ≤ 1048576) := hrow
  have hbase : w.heap.size ≤ w.heap.size := Nat.le_refl _
  clear hrow
  rcases h.cells with ⟨h0, _⟩ | ⟨b, off, F', hp, rfl, _, hm⟩
  · subst h0
    have hz : zss = [] := List.eq_nil_of_length_eq_zero h.length
    subst hz
    clear h
    go_enter Try.func74, Try.ntmps74
    go_wp2_with (at_make; refine wpList_make_full _ rfl _ _ 24 rfl w.heap.size 23 i0 (.slice none 0 0) 1 Try.underlying24 hi hz0 hz1 .i64 .i64 _ _ 0 rfl rfl (by simp) (by simp) (by omega) (by unfold maxLen; omega) (Nat.le_refl _) ?_; intro w1 hown hgrow)
    refine wp_loop_rounds 1 ?_
    rw [rounds_succ]
    go_wp2
    go_ret
    exact ⟨_, 0, 0, [], rfl, ⟨rfl, .inl ⟨rfl, rfl⟩⟩, Own.nil, (Below.refl _ _).grown hgrow (Nat.le_refl _) (fun k hk => by cases hk)⟩
  · have HM : Hid (RdM w (zss.map ints) b off F') := hm
    clear h hm
    go_enter Try.func74, Try.ntmps74
    go_wp2_with (at_make; refine wpList_make_full _ rfl _ _ 24 rfl w.heap.size 23 i0 (.slice none 0 0) 1 Try.underlying24 hi hz0 hz1 .i64 .i64 _ _ len rfl rfl rfl rfl (by rw [hz2]; omega) (by unfold maxLen; omega) (Nat.le_refl _) ?_; intro w1 hown hgrow)
    go_loopw [4] (fun i wr => ∃ (k : Nat) (vs : List Value) (G : List Nat), k ≤ len ∧ i = .int .i64 k ∧ Hid (CopyII w w.heap.size zss k len vs G wr)) (fun i _ => len - (intOf i).toNat)
    case atStart =>
      refine ⟨0, [], [], by omega, rfl, ⟨?_, ?_, Own.nil, (Below.refl _ _).grown hgrow (Nat.le_refl _) (fun k hk => by cases hk)⟩⟩
      · simpa [Value.cells, toList_madeCells_one] using hown
      · simp [RdS]
    case round =>
      obtain ⟨k, vs, G, hk, rfl, HC⟩ := hrel
      by_cases hlt : k < len
      · obtain ⟨ar, nr, cr, Fr, hcr, hrr, _⟩ := RdII.row HM.out HL.out k hlt
        have hblt : b < w.heap.size := World.block_lt_of_cell? _ _ hcr
        have hck : wr.cell? ⟨b, off + k, none⟩ = some (.slice ar nr cr) := (HC.out.bel.cell (by exact hblt)).trans hcr
        have hrr2 := hrr.below HC.out.bel
        have HRR : Hid (RdI wr ar nr (zss.getD k []) Fr) := hrr2
        have hnr : nr ≤ 1048576 := by
          rw [← hrr.length]
          refine HRow.out _ ?_
          rw [List.getD_eq_getElem?_getD, List.getElem?_eq_getElem (by rw [HL.out]; exact hlt)]
          exact List.getElem_mem _
        clear hrr hrr2 hcr
        go_wp2_with fail
        refine (toIntS_any ar nr cr (zss.getD k []) Fr _ HRR.out hnr).mono ?_
        rintro e w2 ⟨a2, n2, c2, F2, rfl, hr2, ho2, hb2⟩
        have HC2 := HC.out.step (cap := c2) hlt HL.out hr2 ho2 hb2
        have own2 := ownsRow_below HC.out.own hb2
        obtain ⟨v0, hcg⟩ := own_some own2 k hlt
        have hcf := own2.frozenAt k
        have HC3 : Hid (CopyII w w.heap.size zss (k + 1) len (vs ++ [.slice a2 n2 c2]) (G ++ F2) (w2.setCell ⟨w.heap.size, k, none⟩ (.slice a2 n2 c2))) := HC2
        clear HC HC2 own2 hr2 ho2 hb2 hck HRR
        go_wp2
        go_roundw
        case rel => exact ⟨k + 1, _, _, by omega, by go_num, HC3⟩
        case measure => simp [intOf]; omega
      · obtain rfl : k = len := by omega
        obtain ⟨F2, hr, ho⟩ := HC.out.done HL.out
        have HR : Hid (RdII wr (some ⟨w.heap.size, 0, none⟩) k zss F2 ∧ Own w.heap.size wr F2) := ⟨hr, ho⟩
        clear hr ho
        go_wp2
        go_ret
        exact ⟨_, _, _, F2, rfl, HR.out.1, HR.out.2, HC.out.bel⟩
theorem eqII_step {xs ys : List (List Int)} {k : Nat} (hl : xs.length = ys.length) (hk : k < xs.length) (h : xs.take k = ys.take k) (he : xs.getD k [] = ys.getD k []) : xs.take (k + 1) = ys.take (k + 1) := by
  rw [take_snoc xs [] k hk, take_snoc ys [] k (by omega), h, he]
theorem neII_of_at {xs ys : List (List Int)} {k : Nat} (he : ¬ xs.getD k [] = ys.getD k []) : decide (xs = ys) = false := by
  rw [decide_eq_false_iff_not]; intro e; subst e; exact he rfl
theorem eqII_end {xs ys : List (List Int)} {k : Nat} (hx : xs.length = k) (hy : ys.length = k) (h : xs.take k = ys.take k) : decide (xs = ys) = true := by
  rw [decide_eq_true_iff]
  rw [List.take_of_length_le (Nat.le_of_eq hx), List.take_of_length_le (Nat.le_of_eq hy)] at h
  exact h
theorem RdI.heap {w w' : World} {a : Option Addr} {len : Nat} {zs : List Int} {F : List Nat} (h : RdI w a len zs F) (e : w'.heap = w.heap) : RdI w' a len zs F := h.agree (fun b _ => by rw [e])
theorem mem_getD {α : Type} {l : List α} {d : α} {k : Nat} (h : k < l.length) : l.getD k d ∈ l := by
  rw [List.getD_eq_getElem?_getD, List.getElem?_eq_getElem h]; exact List.getElem_mem _
set_option maxRecDepth 200000 in
set_option maxHeartbeats 1000000 in
theorem eqIntSS_any (a b : Option Addr) (la lb ca cb : Nat) (xs ys : List (List Int)) (F G : List Nat) (w : World) (ha : RdII w a la xs F) (hb : RdII w b lb ys G) (hla : la ≤ 140737488355328) (hlb : lb ≤ 140737488355328)
    (hxr : ∀ z ∈ xs, z.length ≤ 140737488355328) (hyr : ∀ z ∈ ys, z.length ≤ 140737488355328) :
    Calls Try.prog 80 #[.slice a la ca, .slice b lb cb] w fun e w' => e = .returned (.bool (decide (xs = ys))) ∧ Below w.heap.size w w' := by
  have Hx : Hid (xs.length = la) := ha.length
  have Hy : Hid (ys.length = lb) := hb.length
  have Hxr : Hid (∀ z ∈ xs, z.length ≤ 140737488355328) := hxr
  have Hyr : Hid (∀ z ∈ ys, z.length ≤ 140737488355328) := hyr
  clear hxr hyr
  by_cases hl : la = lb
  · subst hl
    have hbne : ((la : Int) != (la : Int)) = false := by simp
    by_cases h0 : la = 0
    · subst h0
      have ex : xs = [] := List.eq_nil_of_length_eq_zero ha.length
      have ey : ys = [] := List.eq_nil_of_length_eq_zero hb.length
      clear ha hb
      go_enter Try.func80, Try.ntmps80
      go_wp2
      refine wp_loop_rounds 1 ?_
      rw [rounds_succ]
      go_wp2
      go_ret
      exact ⟨ret_bool (by rw [ex, ey]; rfl), Below.refl _ _⟩
    · obtain ⟨b1, o1, F1, rfl, hm1⟩ : ∃ b off F', a = some ⟨b, off, none⟩ ∧ RdM w (xs.map ints) b off F' := by
        rcases ha.cells with h | ⟨b, off, F', _, h1, _, h2⟩
        · exact absurd h.1 h0
        · exact ⟨b, off, F', h1, h2⟩
      obtain ⟨b2, o2, F2, rfl, hm2⟩ : ∃ b' off F', b = some ⟨b', off, none⟩ ∧ RdM w (ys.map ints) b' off F' := by
        rcases hb.cells with h | ⟨b, off, F', _, h1, _, h2⟩
        · exact absurd h.1 h0
        · exact ⟨b, off, F', h1, h2⟩
      have HM1 : Hid (RdM w (xs.map ints) b1 o1 F1) := hm1
      have HM2 : Hid (RdM w (ys.map ints) b2 o2 F2) := hm2
      clear ha hb hm1 hm2
      go_enter Try.func80, Try.ntmps80
      go_wp2
      go_loopw [5] (fun i wr => ∃ k : Nat, k ≤ la ∧ i = .int .i64 k ∧ Hid (xs.take k = ys.take k) ∧ Below w.heap.size w wr) (fun i _ => la - (intOf i).toNat)
      case atStart => exact ⟨0, by omega, rfl, rfl, Below.refl _ _⟩
      case round =>
        obtain ⟨k, hk, rfl, HT, hbel⟩ := hrel
        by_cases hlt : k < la
        · obtain ⟨a1, n1, c1, G1, hc1, hr1, _⟩ := RdII.row HM1.out Hx.out k hlt
          obtain ⟨a2, n2, c2, G2, hc2, hr2, _⟩ := RdII.row HM2.out Hy.out k hlt
          have hb1 : b1 < w.heap.size := World.block_lt_of_cell? _ _ hc1
          have hb2 : b2 < w.heap.size := World.block_lt_of_cell? _ _ hc2
          have d1 : wr.cell? ⟨b1, o1 + k, none⟩ = some (.slice a1 n1 c1) := (hbel.cell (by exact hb1)).trans hc1
          have d2 : wr.cell? ⟨b2, o2 + k, none⟩ = some (.slice a2 n2 c2) := (hbel.cell (by exact hb2)).trans hc2
          have hn1 : n1 ≤ 140737488355328 := by rw [← hr1.length]; exact Hxr.out _ (mem_getD (by rw [Hx.out]; exact hlt))
          have hn2 : n2 ≤ 140737488355328 := by rw [← hr2.length]; exact Hyr.out _ (mem_getD (by rw [Hy.out]; exact hlt))
          have HQ : Hid (∀ wx, Below w.heap.size w wx → Calls Try.prog 79 #[.slice a1 n1 c1, .slice a2 n2 c2] wx fun e w' => e = .returned (.bool (decide (xs.getD k [] = ys.getD k []))) ∧ Below w.heap.size w w') :=
            fun wx hx => (eqIntS_any a1 a2 n1 n2 c1 c2 _ _ _ _ wx (hr1.below hx) (hr2.below hx) hn1 hn2).mono fun _ _ ⟨he, hb⟩ => ⟨he, hx.trans (hb.mono hx.size)⟩
          clear hr1 hr2 hc1 hc2
          by_cases he : xs.getD k [] = ys.getD k []
          · have HE : Hid (xs.getD k [] = ys.getD k []) := he
            have hd : decide (xs.getD k [] = ys.getD k []) = true := by simpa using he
            rw [hd] at HQ
            clear he hd
            go_wp2
            go_region_with (go_at_call 79; refine (HQ.out _ (by repeat (first | exact hbel | apply Below.drew))).mono ?_; rintro e w1 ⟨rfl, hb1⟩)
            all_goals
              go_wp2
              go_roundw
              case rel => exact ⟨k + 1, by omega, by go_num, eqII_step (by rw [Hx.out, Hy.out]) (by rw [Hx.out]; exact hlt) HT.out HE.out, by repeat (first | assumption | apply Below.drew)⟩
              case measure => simp [intOf]; omega
          · have HE : Hid (¬ xs.getD k [] = ys.getD k []) := he
            have hd : decide (xs.getD k [] = ys.getD k []) = false := by simpa using he
            rw [hd] at HQ
            clear he hd
            go_wp2
            go_region_with (go_at_call 79; refine (HQ.out _ (by repeat (first | exact hbel | apply Below.drew))).mono ?_; rintro e w1 ⟨rfl, hb1⟩)
            all_goals
              go_wp2
              go_ret
              exact ⟨ret_bool (neII_of_at HE.out).symm, by repeat (first | assumption | apply Below.drew)⟩
        · obtain rfl : k = la := by omega
          go_wp2
          go_ret
          exact ⟨ret_bool (eqII_end Hx.out Hy.out HT.out).symm, hbel⟩
  · have hbne : ((la : Int) != (lb : Int)) = true := by simp; omega
    have e : decide (xs = ys) = false := by
      rw [decide_eq_false_iff_not]; intro e; subst e; exact hl (Hx.out.symm.trans Hy.out)
    clear ha hb
    go_enter Try.func80, Try.ntmps80
    go_wp2
    go_ret
    exact ⟨ret_bool e.symm, Below.refl _ _⟩
/-- What rows weigh: one each, and their numbers. -/
def sumLen (l : List (List Int)) : Int := (l.map (fun z => (z.length : Int))).sum
theorem sumLen_snoc (l : List (List Int)) (k : Nat) (h : k < l.length) : sumLen (l.take (k + 1)) = sumLen (l.take k) + ((l.getD k []).length : Int) := by
  unfold sumLen
  rw [take_snoc l [] k h]; simp
theorem sumLen_nonneg (l : List (List Int)) : 0 ≤ sumLen l := by
  unfold sumLen
  induction l with
  | nil => simp
  | cons a l ih => simp; omega
theorem sumLen_le (l : List (List Int)) (k : Nat) : sumLen (l.take k) ≤ sumLen l := by
  have e : sumLen l = sumLen (l.take k) + sumLen (l.drop k) := by
    unfold sumLen
    rw [← List.sum_append, ← List.map_append, List.take_append_drop]
  have := sumLen_nonneg (l.drop k)
  omega
theorem sumLen_mem (l : List (List Int)) (z : List Int) (h : z ∈ l) : (z.length : Int) ≤ sumLen l := by
  unfold sumLen
  induction l with
  | nil => simp at h
  | cons a l ih =>
    have h0 : (0 : Int) ≤ sumLen l := sumLen_nonneg l
    unfold sumLen at h0
    rcases List.mem_cons.1 h with rfl | h
    · simp; omega
    · have := ih h; simp; omega
set_option maxRecDepth 200000 in
set_option maxHeartbeats 1000000 in
theorem szIntSS_any (a : Option Addr) (len cap : Nat) (zss : List (List Int)) (F : List Nat) (left : Int) (w : World) (h : RdII w a len zss F) (hlen : len ≤ 140737488355328) (hrow : ∀ z ∈ zss, z.length ≤ 140737488355328) (hl0 : 0 ≤ left) (hl1 : left ≤ 1048576) :
    Calls Try.prog 70 #[.slice a len cap, .int .i64 left] w fun e w' => Weighed left (len + sumLen zss) e ∧ w' = w := by
  have HL : Hid (zss.length = len) := h.length
  have HRow : Hid (∀ zs ∈ zss, zs.length ≤ 140737488355328) := hrow
  have hs0 := sumLen_nonneg zss
  clear hrow
  by_cases hbig : left < (len : Int)
  · clear h
    have HS : Hid (0 ≤ sumLen zss) := hs0
    clear hs0
    go_enter Try.func70, Try.ntmps70
    go_wp2
    go_ret
    have := HS.out
    exact ⟨⟨-1, rfl, by omega, by omega, by omega⟩, rfl⟩
  · rcases h.cells with ⟨h0, _⟩ | ⟨b, off, F', hp, rfl, _, hm⟩
    · subst h0
      have hz : zss = [] := List.eq_nil_of_length_eq_zero h.length
      subst hz
      clear h hs0
      go_enter Try.func70, Try.ntmps70
      go_wp2
      refine wp_loop_rounds 1 ?_
      rw [rounds_succ]
      go_wp2
      go_ret
      exact ⟨⟨left, ret_int (by simp), by omega, by simp [sumLen], by omega⟩, rfl⟩
    · have HM : Hid (RdM w (zss.map ints) b off F') := hm
      have HS : Hid (0 ≤ sumLen zss) := hs0
      have hsub0 : 0 ≤ left - (len : Int) := by omega
      clear h hm hs0
      go_enter Try.func70, Try.ntmps70
      go_wp2
      go_loop [1, 5] (fun s i => ∃ (k : Nat) (y : Int), k ≤ len ∧ 0 ≤ y ∧ y ≤ 1048576 ∧ i = .int .i64 k ∧ s = .int .i64 y ∧ Hid (y = left - len - sumLen (zss.take k))) (fun _ i => len - (intOf i).toNat)
      case atStart => exact ⟨0, _, by omega, hsub0, by omega, rfl, rfl, show _ = _ by simp [sumLen]⟩
      case round =>
        obtain ⟨k, y, hk, hy0, hy1, rfl, rfl, HY⟩ := hrel
        by_cases hlt : k < len
        · obtain ⟨a1, n1, c1, G1, hc1, hr1, _⟩ := RdII.row HM.out HL.out k hlt
          have hn1 : n1 ≤ 140737488355328 := by rw [← hr1.length]; exact HRow.out _ (mem_getD (by rw [HL.out]; exact hlt))
          have HN : Hid ((zss.getD k []).length = n1) := hr1.length
          clear hr1
          go_wp2_with fail
          refine (szIntS_any a1 n1 c1 y _ hn1 hy0 hy1).mono ?_
          rintro e w1 ⟨⟨r, rfl, hr1, hr2, hr3⟩, hw1⟩
          have hw1' := hw1.symm
          subst hw1'
          clear hw1
          have hsn := sumLen_snoc zss k (by rw [HL.out]; exact hlt)
          have hle := sumLen_le zss (k + 1)
          have HF : Hid (sumLen (zss.take (k + 1)) = sumLen (zss.take k) + (n1 : Int) ∧ sumLen (zss.take (k + 1)) ≤ sumLen zss) := ⟨by rw [hsn, HN.out], hle⟩
          have HR : Hid (r ≤ y ∧ (0 ≤ r → r = y - n1) ∧ (r < 0 → y < n1)) := ⟨hr1, hr2, hr3⟩
          clear hsn hle hr1 hr2 hr3
          by_cases hneg : r < 0
          · go_wp2
            go_ret
            have h1 := HY.out; have h2 := HF.out; have h3 := HR.out
            exact ⟨⟨-1, rfl, by omega, by omega, by omega⟩, rfl⟩
          · have hr0 : 0 ≤ r := by omega
            go_wp2
            go_round
            case rel => exact ⟨k + 1, r, by omega, hr0, by have := HR.out; omega, by go_num, rfl, show r = _ by have h1 := HY.out; have h2 := HF.out; have h3 := HR.out; omega⟩
            case measure => simp [intOf]; omega
        · obtain rfl : k = len := by omega
          go_wp2
          go_ret
          have h1 := HY.out
          rw [List.take_of_length_le (Nat.le_of_eq HL.out)] at h1
          have h2 := HS.out
          exact ⟨⟨y, rfl, by omega, by omega, by omega⟩, rfl⟩
end Go.Proofs.Ytbmbmnhamogghap
