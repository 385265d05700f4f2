/- Several texts of mine, laid together. No statement of the seat is proved here. -/
import Derived.Test.YtbmbmnhamogghabRows
import Derived.WalkKit
import Derived.WalkSpells
import Derived.WalkLawsBesides
import Derived.Below
import Derived.OwnWalk
import Derived.Laws.OwnMore
import Derived.Deep.Draws
import Derived.Outline
import Derived.ProofKit
import Derived.Deep.RegionWith
import Derived.Laws.Rows
import Derived.OpenShut
import Derived.ChangeSlices
import Derived.WideShapes
import Derived.Deep.Matrix
/- What a call may read: slices of bytes, and how such a reading stays as it was while a later call makes memory of its own. No statement of the seat is proved here. -/
namespace Go.Proofs.Ytbmbmnhamogghab
open Go.RowKit

def intOf : Value → Int | .int _ q => q | _ => 0

/-- A slice of bytes that can be read: its 'len' elements are 'zs'. -/
structure RdB (w : World) (a : Option Addr) (len : Nat) (zs : List Int) : Prop where
  length : zs.length = len
  range : ∀ n ∈ zs, 0 ≤ n ∧ n ≤ 255
  cells : len = 0 ∨ ∃ b off, a = some ⟨b, off, none⟩ ∧ ∀ i, i < len → w.cell? ⟨b, off + i, none⟩ = some (.int .u8 (zs.getD i 0))

theorem getD_range {zs : List Int} (h : ∀ n ∈ zs, 0 ≤ n ∧ n ≤ 255) (i : Nat) : 0 ≤ zs[i]?.getD 0 ∧ zs[i]?.getD 0 ≤ 255 := by
  by_cases hi : i < zs.length
  · rw [List.getElem?_eq_getElem hi]
    exact h _ (List.getElem_mem hi)
  · rw [List.getElem?_eq_none (by omega)]
    simp

theorem RdB.below {w w' : World} {a : Option Addr} {len : Nat} {zs : List Int} (h : RdB w a len zs) (hb : Below w.heap.size w w') : RdB w' a len zs := by
  refine ⟨h.length, h.range, ?_⟩
  rcases h.cells with h0 | ⟨b, off, ha, hc⟩
  · exact .inl h0
  · refine .inr ⟨b, off, ha, fun i hi => ?_⟩
    have h1 := hc i hi
    have h2 : b < w.heap.size := World.block_lt_of_cell? _ _ h1
    rw [hb.cell (p := ⟨b, off + i, none⟩) h2]
    exact h1

theorem RdB.of_own {w : World} {base e len cap g : Nat} {zs : List Int} (h : w.ownsRow base e 1 (.slice (some ⟨g, 0, none⟩) len cap) len (zs.map (Value.int .u8))) (hr : ∀ n ∈ zs, 0 ≤ n ∧ n ≤ 255) : RdB w (some ⟨g, 0, none⟩) len zs := by
  have hl : zs.length = len := by simpa using h.1
  refine ⟨hl, hr, .inr ⟨g, 0, rfl, fun i hi => ?_⟩⟩
  rw [Nat.zero_add, h.cellAt i (by omega)]
  simp [List.getElem?_eq_getElem (show i < zs.length by omega)]

theorem RdB.nil {w : World} {a : Option Addr} : RdB w a 0 [] := ⟨rfl, by simp, .inl rfl⟩

theorem ownsRow_below {w w' : World} {base e size : Nat} {v : Value} {n : Nat} {xs : List Value} (h : w.ownsRow base e size v n xs) (hb : Below w.heap.size w w') : w'.ownsRow base e size v n xs := by
  refine ⟨h.1, ?_⟩
  rcases h.2 with h' | ⟨g, cap, cur, h1, h2, h3, h4⟩
  · exact .inl h'
  · have hg : g < w.heap.size := (h.lt g (by rw [h1]; rfl)).2
    exact .inr ⟨g, cap, cur, h1, h2, by rw [hb.block g hg]; exact h3, h4⟩

theorem own_some {w : World} {base e n cap g : Nat} {xs : List Value} (h : w.ownsRow base e 1 (.slice (some ⟨g, 0, none⟩) n cap) n xs) (j : Nat) (hj : j < n) : ∃ v, w.cell? ⟨g, j, none⟩ = some v := by
  have hl := h.1
  rw [h.cellAt j (by omega), List.getElem?_eq_getElem (by omega)]
  exact ⟨_, rfl⟩

theorem own_apart {w1 w2 : World} {B e s e' s' n m : Nat} {v1 v2 : Value} {xs ys : List Value} (h1 : w1.ownsRow B e s v1 n xs) (h2 : w2.ownsRow w1.heap.size e' s' v2 m ys) : v1.ownBlock = none ∨ v1.ownBlock ≠ v2.ownBlock := by
  cases h : v1.ownBlock with
  | none => exact .inl rfl
  | some k =>
    refine .inr fun e => ?_
    have a := (h1.lt k h).2
    have b := (h2.lt k e.symm).1
    omega

theorem byte_wf {n : Int} (h : (Lit.int .u8 n).wf = true) : 0 ≤ n ∧ n ≤ 255 := by
  have h1 : IntKind.u8.min = 0 := rfl
  have h2 : IntKind.u8.max = 255 := rfl
  simp only [Lit.wf, Bool.and_eq_true, decide_eq_true_eq] at h
  omega

theorem int_wf {n : Int} (h : (Lit.int .i64 n).wf = true) : -9223372036854775808 ≤ n ∧ n ≤ 9223372036854775807 := by
  have h1 : IntKind.i64.min = -9223372036854775808 := rfl
  have h2 : IntKind.i64.max = 9223372036854775807 := rfl
  simp only [Lit.wf, Bool.and_eq_true, decide_eq_true_eq] at h
  omega

theorem ret_int {k : IntKind} {a b : Int} (h : a = b) : Ending.returned (.int k a) = .returned (.int k b) := by rw [h]
theorem ret_bool {a b : Bool} (h : a = b) : Ending.returned (.bool a) = .returned (.bool b) := by rw [h]

theorem take_succ' (zs : List Int) (k : Nat) (hk : k < zs.length) : zs.take (k + 1) = zs.take k ++ [zs[k]?.getD 0] := by
  rw [List.take_add_one, List.getElem?_eq_getElem hk]; rfl

theorem Try.info5 : (Try.prog.info? 5).map (fun i => (i.zero, i.size, i.bytes)) = some (some (.int .u8 0), 1, 1) := by kernel_rfl
end Go.Proofs.Ytbmbmnhamogghab
/- What the laws of all chapters share: their argument as it can be read, its size, its tail. No statement of the seat is proved here. -/
namespace Go.Proofs.Ytbmbmnhamogghab
open Go.RowKit Go.WideShapes

/-- What the opening of a law's byte slice tells. -/
theorem rdOf {w : World} {a : Option Addr} {len cap : Nat} {zs : List Int} (h : (a = none ∧ len = 0 ∧ cap = 0 ∧ zs = []) ∨
    ∃ x, a = some x ∧ len ≤ cap ∧ cap ≤ maxLen ∧ zs.length = cap ∧ (∀ i, i < zs.length → w.cell? (x.add i) = some (.int .u8 (zs.getD i 0))) ∧ ∀ n ∈ zs, (Lit.int .u8 n).wf = true) :
    RdB w a len (zs.take len) ∧ len ≤ cap ∧ cap ≤ maxLen := by
  rcases h with ⟨rfl, rfl, rfl, rfl⟩ | ⟨x, rfl, hl, hm, hz, hcell, hwz⟩
  · exact ⟨RdB.nil, Nat.le_refl _, by simp⟩
  · refine ⟨⟨by simp; omega, fun n hn => byte_wf (hwz n (List.mem_of_mem_take hn)), ?_⟩, hl, hm⟩
    by_cases h0 : len = 0
    · exact .inl h0
    · obtain ⟨b, off, spot⟩ := x
      have hspot : spot = none := by simpa [Addr.add] using World.cell?_spot (hcell 0 (by omega))
      subst hspot
      refine .inr ⟨b, off, rfl, fun i hi => ?_⟩
      have := hcell i (by omega)
      rw [add_plain] at this
      simpa [List.getElem?_take, hi] using this
set_option maxRecDepth 200000 in
theorem big_any (a : Option Addr) (len cap : Nat) (w : World) : Calls Try.prog 5 #[.slice a len cap] w fun e w' => e = .returned (.bool (decide ((1048576 : Int) < (len : Int)))) ∧ w' = w := by
  go_enter Try.func5, Try.ntmps5
  go_wp2
  go_ret
  exact ⟨rfl, rfl⟩
end Go.Proofs.Ytbmbmnhamogghab
/- What memory holds, as plain data: numbers, texts, rows of them, rows of rows; which blocks a reading goes through; how it stays. No statement of the seat is proved here. -/
namespace Go.Proofs.Ytbmbmnhamogghab
open Go.RowKit

/-- A cell's content as plain data; a row: how many cells an element has, and all cells, one behind the other. -/
inductive Cl where
  | int (k : IntKind) (n : Int)
  | bool (b : Bool)
  | str (s : ByteArray)
  | row (s : Nat) (cs : List Cl)

mutual
/-- In w the cell's value v holds c; F: the blocks that are gone through. -/
def Rd (w : World) : Cl → Value → List Nat → Prop
  | .int k n, v, F => v = .int k n ∧ F = []
  | .bool b, v, F => v = .bool b ∧ F = []
  | .str s, v, F => v = .string s ∧ F = []
  | .row s cs, v, F => ∃ a len cap, v = .slice a len cap ∧ cs.length = s * len ∧ ((cs = [] ∧ F = []) ∨ ∃ b off F', cs ≠ [] ∧ a = some ⟨b, off, none⟩ ∧ F = b :: F' ∧ RdM w cs b off F')
/-- From off on block b holds these cells. -/
def RdM (w : World) : List Cl → Nat → Nat → List Nat → Prop
  | [], _, _, F => F = []
  | c :: cs, b, off, F => ∃ v F1 F2, w.cell? ⟨b, off, none⟩ = some v ∧ Rd w c v F1 ∧ RdM w cs b (off + 1) F2 ∧ F = F1 ++ F2
end
/-- The cells of a struct's value. -/
def RdS (w : World) : List Cl → List Value → List Nat → Prop
  | [], vs, F => vs = [] ∧ F = []
  | c :: cs, vs, F => ∃ v vs' F1 F2, vs = v :: vs' ∧ Rd w c v F1 ∧ RdS w cs vs' F2 ∧ F = F1 ++ F2

/-- Of these blocks w' has what w has. -/
def Agree (w w' : World) (F : List Nat) : Prop := ∀ b ∈ F, w'.heap[b]? = w.heap[b]?
theorem Agree.left {w w' : World} {F G : List Nat} (h : Agree w w' (F ++ G)) : Agree w w' F := fun b hb => h b (List.mem_append_left _ hb)
theorem Agree.right {w w' : World} {F G : List Nat} (h : Agree w w' (F ++ G)) : Agree w w' G := fun b hb => h b (List.mem_append_right _ hb)

mutual
theorem Rd.agree {w w' : World} : ∀ {c : Cl} {v : Value} {F : List Nat}, Rd w c v F → Agree w w' F → Rd w' c v F
  | .int k n, v, F, h, _ => by simpa [Rd] using h
  | .bool b, v, F, h, _ => by simpa [Rd] using h
  | .str s, v, F, h, _ => by simpa [Rd] using h
  | .row s cs, v, F, h, ha => by
    rw [Rd] at h ⊢
    obtain ⟨a, len, cap, hv, hl, h0 | ⟨b, off, F', hn, e, rfl, hm⟩⟩ := h
    · exact ⟨a, len, cap, hv, hl, .inl h0⟩
    · exact ⟨a, len, cap, hv, hl, .inr ⟨b, off, F', hn, e, rfl, RdM.agree hm (ha b List.mem_cons_self) (fun x hx => ha x (List.mem_cons_of_mem _ hx))⟩⟩
theorem RdM.agree {w w' : World} : ∀ {cs : List Cl} {b off : Nat} {F : List Nat}, RdM w cs b off F → w'.heap[b]? = w.heap[b]? → Agree w w' F → RdM w' cs b off F
  | [], b, off, F, h, _, _ => by simpa [RdM] using h
  | c :: cs, b, off, F, h, hb, ha => by
    rw [RdM] at h ⊢
    obtain ⟨v, F1, F2, hc, h1, h2, rfl⟩ := h
    exact ⟨v, F1, F2, (World.cell?_of_block (w := w) (a := ⟨b, off, none⟩) hb).trans hc, Rd.agree h1 ha.left, RdM.agree h2 hb ha.right, rfl⟩
end
theorem RdS.agree {w w' : World} : ∀ {cs : List Cl} {vs : List Value} {F : List Nat}, RdS w cs vs F → Agree w w' F → RdS w' cs vs F
  | [], vs, F, h, _ => by simpa [RdS] using h
  | c :: cs, vs, F, h, ha => by
    rw [RdS] at h ⊢
    obtain ⟨v, vs', F1, F2, hc, h1, h2, rfl⟩ := h
    exact ⟨v, vs', F1, F2, hc, Rd.agree h1 ha.left, RdS.agree h2 ha.right, rfl⟩

mutual
theorem Rd.lt {w : World} : ∀ {c : Cl} {v : Value} {F : List Nat}, Rd w c v F → ∀ b ∈ F, b < w.heap.size
  | .int k n, v, F, h => by rw [Rd] at h; simp [h.2]
  | .bool b, v, F, h => by rw [Rd] at h; simp [h.2]
  | .str s, v, F, h => by rw [Rd] at h; simp [h.2]
  | .row s cs, v, F, h => by
    rw [Rd] at h
    obtain ⟨a, len, cap, hv, hl, h0 | ⟨b, off, F', hn, e, rfl, hm⟩⟩ := h
    · simp [h0.2]
    · intro x hx
      rcases List.mem_cons.1 hx with rfl | hx
      · match cs, hn, hm with
        | c :: cs, _, hm =>
          rw [RdM] at hm
          obtain ⟨v, F1, F2, hc, _, _, _⟩ := hm
          exact World.block_lt_of_cell? _ _ hc
      · exact RdM.lt hm x hx
theorem RdM.lt {w : World} : ∀ {cs : List Cl} {b off : Nat} {F : List Nat}, RdM w cs b off F → ∀ x ∈ F, x < w.heap.size
  | [], b, off, F, h => by rw [RdM] at h; simp [h]
  | c :: cs, b, off, F, h => by
    rw [RdM] at h
    obtain ⟨v, F1, F2, hc, h1, h2, rfl⟩ := h
    intro x hx
    rcases List.mem_append.1 hx with hx | hx
    · exact Rd.lt h1 x hx
    · exact RdM.lt h2 x hx
end
theorem RdS.lt {w : World} : ∀ {cs : List Cl} {vs : List Value} {F : List Nat}, RdS w cs vs F → ∀ x ∈ F, x < w.heap.size
  | [], vs, F, h => by rw [RdS] at h; simp [h.2]
  | c :: cs, vs, F, h => by
    rw [RdS] at h
    obtain ⟨v, vs', F1, F2, hc, h1, h2, rfl⟩ := h
    intro x hx
    rcases List.mem_append.1 hx with hx | hx
    · exact Rd.lt h1 x hx
    · exact RdS.lt h2 x hx
theorem Agree.below {w w' : World} {F : List Nat} (hb : Below w.heap.size w w') (h : ∀ b ∈ F, b < w.heap.size) : Agree w w' F := fun b hm => hb.block b (h b hm)
theorem Rd.below {w w' : World} {c : Cl} {v : Value} {F : List Nat} (h : Rd w c v F) (hb : Below w.heap.size w w') : Rd w' c v F := h.agree (.below hb h.lt)
theorem RdM.below {w w' : World} {cs : List Cl} {b off : Nat} {F : List Nat} (h : RdM w cs b off F) (hlt : b < w.heap.size) (hb : Below w.heap.size w w') : RdM w' cs b off F := h.agree (hb.block b hlt) (.below hb h.lt)
theorem RdS.below {w w' : World} {cs : List Cl} {vs : List Value} {F : List Nat} (h : RdS w cs vs F) (hb : Below w.heap.size w w') : RdS w' cs vs F := h.agree (.below hb h.lt)

/-! ### an element of a row -/
theorem RdM.get {w : World} : ∀ {cs : List Cl} {b off : Nat} {F : List Nat}, RdM w cs b off F → ∀ (i : Nat) (hi : i < cs.length), ∃ v Fi, w.cell? ⟨b, off + i, none⟩ = some v ∧ Rd w cs[i] v Fi ∧ ∀ x ∈ Fi, x ∈ F
  | [], b, off, F, h, i, hi => by simp at hi
  | c :: cs, b, off, F, h, i, hi => by
    rw [RdM] at h
    obtain ⟨v, F1, F2, hc, h1, h2, rfl⟩ := h
    cases i with
    | zero => exact ⟨v, F1, hc, h1, fun x hx => List.mem_append_left _ hx⟩
    | succ i =>
      obtain ⟨v', Fi, hc', hr, hs⟩ := RdM.get h2 i (by simpa using hi)
      refine ⟨v', Fi, ?_, hr, fun x hx => List.mem_append_right _ (hs x hx)⟩
      rw [show off + (i + 1) = off + 1 + i by omega]; exact hc'

/-! ### rows of numbers, rows of rows of numbers -/
def ints (l : List Int) : Cl := .row 1 (l.map (.int .i64))
def intss (l : List (List Int)) : Cl := .row 1 (l.map ints)

/-- A slice of numbers that can be read: its elements are 'zs'; F: its block. -/
structure RdI (w : World) (a : Option Addr) (len : Nat) (zs : List Int) (F : List Nat) : Prop where
  length : zs.length = len
  cells : (len = 0 ∧ F = []) ∨ ∃ b off, 0 < len ∧ a = some ⟨b, off, none⟩ ∧ F = [b] ∧ ∀ i, i < len → w.cell? ⟨b, off + i, none⟩ = some (.int .i64 (zs.getD i 0))
theorem rdM_ints {w : World} : ∀ {l : List Int} {b off : Nat} {F : List Nat}, RdM w (l.map (.int .i64)) b off F ↔ F = [] ∧ ∀ i, i < l.length → w.cell? ⟨b, off + i, none⟩ = some (.int .i64 (l.getD i 0))
  | [], b, off, F => by simp [RdM]
  | n :: l, b, off, F => by
    rw [List.map_cons, RdM]
    constructor
    · rintro ⟨v, F1, F2, hc, h1, h2, rfl⟩
      rw [Rd] at h1
      obtain ⟨rfl, rfl⟩ := h1
      obtain ⟨rfl, h⟩ := rdM_ints.1 h2
      refine ⟨rfl, fun i hi => ?_⟩
      cases i with
      | zero => simpa using hc
      | succ i =>
        have := h i (by simpa using hi)
        rw [show off + (i + 1) = off + 1 + i by omega, this]; simp
    · rintro ⟨rfl, h⟩
      refine ⟨.int .i64 n, [], [], by simpa using h 0 (by simp), by simp [Rd], rdM_ints.2 ⟨rfl, fun i hi => ?_⟩, rfl⟩
      have := h (i + 1) (by simpa using hi)
      rw [show off + (i + 1) = off + 1 + i by omega] at this; simpa using this
theorem rd_ints {w : World} {l : List Int} {v : Value} {F : List Nat} : Rd w (ints l) v F ↔ ∃ a len cap, v = .slice a len cap ∧ RdI w a len l F := by
  rw [ints, Rd]
  constructor
  · rintro ⟨a, len, cap, rfl, hl, h0 | ⟨b, off, F', hn, rfl, rfl, hm⟩⟩
    · simp at hl h0
      exact ⟨a, len, cap, rfl, by omega, .inl ⟨by simp [h0.1] at hl; omega, h0.2⟩⟩
    · obtain ⟨rfl, h⟩ := rdM_ints.1 hm
      simp at hl hn
      refine ⟨_, len, cap, rfl, by omega, .inr ⟨b, off, ?_, rfl, rfl, fun i hi => h i (by omega)⟩⟩
      have : l.length ≠ 0 := fun e => hn (List.eq_nil_of_length_eq_zero e)
      omega
  · rintro ⟨a, len, cap, rfl, hl, ⟨h0, hF⟩ | ⟨b, off, hp, rfl, rfl, h⟩⟩
    · exact ⟨a, len, cap, rfl, by simp [hl], .inl ⟨by simp; exact List.eq_nil_of_length_eq_zero (by omega), hF⟩⟩
    · refine ⟨_, len, cap, rfl, by simp [hl], .inr ⟨b, off, [], ?_, rfl, rfl, rdM_ints.2 ⟨rfl, fun i hi => h i (by omega)⟩⟩⟩
      intro e; simp at e; subst e; simp at hl; omega
theorem RdI.below {w w' : World} {a : Option Addr} {len : Nat} {zs : List Int} {F : List Nat} (h : RdI w a len zs F) (hb : Below w.heap.size w w') : RdI w' a len zs F := by
  refine ⟨h.length, ?_⟩
  rcases h.cells with h0 | ⟨b, off, hp, ha, hF, hc⟩
  · exact .inl h0
  · refine .inr ⟨b, off, hp, ha, hF, fun i hi => ?_⟩
    have h1 := hc i hi
    rw [hb.cell (p := ⟨b, off + i, none⟩) (World.block_lt_of_cell? _ _ h1)]
    exact h1
theorem RdI.agree {w w' : World} {a : Option Addr} {len : Nat} {zs : List Int} {F : List Nat} (h : RdI w a len zs F) (hb : Agree w w' F) : RdI w' a len zs F := by
  refine ⟨h.length, ?_⟩
  rcases h.cells with h0 | ⟨b, off, hp, ha, rfl, hc⟩
  · exact .inl h0
  · exact .inr ⟨b, off, hp, ha, rfl, fun i hi => (World.cell?_of_block (w := w) (a := ⟨b, off + i, none⟩) (hb b (by simp))).trans (hc i hi)⟩

/-- A slice of slices of numbers that can be read. -/
structure RdII (w : World) (a : Option Addr) (len : Nat) (zss : List (List Int)) (F : List Nat) : Prop where
  length : zss.length = len
  cells : (len = 0 ∧ F = []) ∨ ∃ b off F', 0 < len ∧ a = some ⟨b, off, none⟩ ∧ F = b :: F' ∧ RdM w (zss.map ints) b off F'
theorem rd_intss {w : World} {l : List (List Int)} {v : Value} {F : List Nat} : Rd w (intss l) v F ↔ ∃ a len cap, v = .slice a len cap ∧ RdII w a len l F := by
  rw [intss, Rd]
  constructor
  · rintro ⟨a, len, cap, rfl, hl, h0 | ⟨b, off, F', hn, rfl, rfl, hm⟩⟩
    · simp at hl h0
      exact ⟨a, len, cap, rfl, by omega, .inl ⟨by simp [h0.1] at hl; omega, h0.2⟩⟩
    · simp at hl hn
      refine ⟨_, len, cap, rfl, by omega, .inr ⟨b, off, F', ?_, rfl, rfl, hm⟩⟩
      have : l.length ≠ 0 := fun e => hn (List.eq_nil_of_length_eq_zero e)
      omega
  · rintro ⟨a, len, cap, rfl, hl, ⟨h0, hF⟩ | ⟨b, off, F', hp, rfl, rfl, h⟩⟩
    · exact ⟨a, len, cap, rfl, by simp [hl], .inl ⟨by simp; exact List.eq_nil_of_length_eq_zero (by omega), hF⟩⟩
    · refine ⟨_, len, cap, rfl, by simp [hl], .inr ⟨b, off, F', ?_, rfl, rfl, h⟩⟩
      intro e; simp at e; subst e; simp at hl; omega
theorem RdII.row {w : World} {b off len : Nat} {zss : List (List Int)} {F : List Nat} (h : RdM w (zss.map ints) b off F) (hl : zss.length = len) (i : Nat) (hi : i < len) :
    ∃ a n cap Fi, w.cell? ⟨b, off + i, none⟩ = some (.slice a n cap) ∧ RdI w a n (zss.getD i []) Fi ∧ ∀ x ∈ Fi, x ∈ F := by
  obtain ⟨v, Fi, hc, hr, hs⟩ := h.get i (by simpa using (by omega : i < zss.length))
  rw [List.getElem_map] at hr
  obtain ⟨a, n, cap, rfl, hr2⟩ := rd_ints.1 hr
  have e : zss.getD i [] = zss[i]'(by omega) := by rw [List.getD_eq_getElem?_getD, List.getElem?_eq_getElem (by omega)]; rfl
  exact ⟨a, n, cap, Fi, hc, by rw [e]; exact hr2, hs⟩
end Go.Proofs.Ytbmbmnhamogghab
/- Blocks that a reading goes through and that are the holder's own: pairwise unlike, none frozen, none elder than B. No statement of the seat is proved here. -/
namespace Go.Proofs.Ytbmbmnhamogghab
open Go.RowKit

structure Own (B : Nat) (w : World) (F : List Nat) : Prop where
  nodup : F.Nodup
  free : ∀ b ∈ F, ∀ o, w.frozen? ⟨b, o, none⟩ = false
  ge : ∀ b ∈ F, B ≤ b
theorem Own.agree {B : Nat} {w w' : World} {F : List Nat} (h : Own B w F) (ha : Agree w w' F) : Own B w' F :=
  ⟨h.nodup, fun b hb o => (World.frozen?_of_block (w := w) (a := ⟨b, o, none⟩) (ha b hb)).trans (h.free b hb o), h.ge⟩
theorem Own.below {B : Nat} {w w' : World} {F : List Nat} (h : Own B w F) (hlt : ∀ b ∈ F, b < w.heap.size) (hb : Below w.heap.size w w') : Own B w' F := h.agree (.below hb hlt)
theorem Own.mono {B B' : Nat} {w : World} {F : List Nat} (h : Own B w F) (hB : B' ≤ B) : Own B' w F := ⟨h.nodup, h.free, fun b hb => Nat.le_trans hB (h.ge b hb)⟩
theorem Own.nil {B : Nat} {w : World} : Own B w [] := ⟨List.nodup_nil, by simp, by simp⟩
theorem Own.left {B : Nat} {w : World} {F G : List Nat} (h : Own B w (F ++ G)) : Own B w F :=
  ⟨(List.nodup_append.1 h.nodup).1, fun b hb => h.free b (List.mem_append_left _ hb), fun b hb => h.ge b (List.mem_append_left _ hb)⟩
theorem Own.right {B : Nat} {w : World} {F G : List Nat} (h : Own B w (F ++ G)) : Own B w G :=
  ⟨(List.nodup_append.1 h.nodup).2.1, fun b hb => h.free b (List.mem_append_right _ hb), fun b hb => h.ge b (List.mem_append_right _ hb)⟩
theorem Own.apart {B : Nat} {w : World} {F G : List Nat} (h : Own B w (F ++ G)) : ∀ b ∈ F, b ∉ G := fun b hb hg => (List.nodup_append.1 h.nodup).2.2 b hb b hg rfl
theorem Own.join {B C : Nat} {w : World} {F G : List Nat} (h : Own B w F) (k : Own C w G) (hlt : ∀ b ∈ F, b < C) (hB : B ≤ C) : Own B w (F ++ G) := by
  refine ⟨List.nodup_append.2 ⟨h.nodup, k.nodup, fun a ha b hb e => ?_⟩, fun b hb => ?_, fun b hb => ?_⟩
  · subst e; have := hlt a ha; have := k.ge a hb; omega
  · rcases List.mem_append.1 hb with h1 | h1
    · exact h.free b h1
    · exact k.free b h1
  · rcases List.mem_append.1 hb with h1 | h1
    · exact h.ge b h1
    · exact Nat.le_trans hB (k.ge b h1)

theorem Own.app {B : Nat} {w : World} {F G : List Nat} (h : Own B w F) (k : Own B w G) (hd : ∀ b ∈ F, b ∉ G) : Own B w (F ++ G) :=
  ⟨List.nodup_append.2 ⟨h.nodup, k.nodup, fun a ha _ hb e => hd a ha (e ▸ hb)⟩, fun b hb => (List.mem_append.1 hb).elim (h.free b) (k.free b), fun b hb => (List.mem_append.1 hb).elim (h.ge b) (k.ge b)⟩

/-- Only these blocks are written; new ones may have been made. -/
structure Only (F : List Nat) (w w' : World) : Prop where
  os : w'.os = w.os
  tape : w'.tape = w.tape
  output : w'.output = w.output
  size : w.heap.size ≤ w'.heap.size
  block : ∀ k, k < w.heap.size → k ∉ F → w'.heap[k]? = w.heap[k]?
theorem Only.refl (F : List Nat) (w : World) : Only F w w := ⟨rfl, rfl, rfl, Nat.le_refl _, fun _ _ _ => rfl⟩
theorem Only.trans {F : List Nat} {a b c : World} (h : Only F a b) (k : Only F b c) : Only F a c :=
  ⟨k.os.trans h.os, k.tape.trans h.tape, k.output.trans h.output, Nat.le_trans h.size k.size, fun i hi hf => (k.block i (Nat.lt_of_lt_of_le hi h.size) hf).trans (h.block i hi hf)⟩
theorem Only.mono {F G : List Nat} {a b : World} (h : Only F a b) (hs : ∀ x ∈ F, x ∈ G) : Only G a b := ⟨h.os, h.tape, h.output, h.size, fun i hi hf => h.block i hi (fun hx => hf (hs i hx))⟩
theorem Only.of_below {F : List Nat} {a b : World} (h : Below a.heap.size a b) : Only F a b := ⟨h.os, h.tape, h.output, h.size, fun i hi _ => h.block i hi⟩
theorem Only.of_grown {g : Nat} {a b : World} (h : a.grownBy b (some g)) : Only [g] a b := ⟨h.os, h.tape, h.output, h.size, fun i hi hf => h.block i hi (fun e => hf (by cases e; simp))⟩
theorem Only.agree {F G : List Nat} {w w' : World} (h : Only F w w') (hlt : ∀ b ∈ G, b < w.heap.size) (ha : ∀ b ∈ G, b ∉ F) : Agree w w' G := fun b hb => h.block b (hlt b hb) (ha b hb)
theorem Only.below {F : List Nat} {B : Nat} {w0 w w' : World} (h : Only F w w') (hb : Below B w0 w) (hB : B ≤ w.heap.size) (hF : ∀ b ∈ F, B ≤ b) : Below B w0 w' :=
  hb.trans ⟨h.os, h.tape, h.output, h.size, fun k hk => h.block k (by omega) (fun hx => by have := hF k hx; omega)⟩

/-! ### out of a row that the call made -/
theorem RdI.of_own {w : World} {B e len cap g : Nat} {zs : List Int} (h : w.ownsRow B e 1 (.slice (some ⟨g, 0, none⟩) len cap) len (zs.map (Value.int .i64))) : ∃ F, RdI w (some ⟨g, 0, none⟩) len zs F ∧ Own B w F ∧ ∀ b ∈ F, b = g := by
  have hl : zs.length = len := by simpa using h.1
  by_cases h0 : len = 0
  · exact ⟨[], ⟨hl, .inl ⟨h0, rfl⟩⟩, Own.nil, by simp⟩
  · have hlt := h.lt g rfl
    refine ⟨[g], ⟨hl, .inr ⟨g, 0, by omega, rfl, rfl, fun i hi => ?_⟩⟩, ⟨by simp, fun b hb o => ?_, fun b hb => ?_⟩, by simp⟩
    · rw [Nat.zero_add, h.cellAt i (by omega)]
      simp [List.getElem?_eq_getElem (show i < zs.length by omega)]
    · obtain rfl : b = g := by simpa using hb
      exact h.frozenAt o
    · obtain rfl : b = g := by simpa using hb
      exact hlt.1
theorem RdI.lt {w : World} {a : Option Addr} {len : Nat} {zs : List Int} {F : List Nat} (h : RdI w a len zs F) : ∀ b ∈ F, b < w.heap.size := by
  rcases h.cells with ⟨_, rfl⟩ | ⟨b, off, hp, _, rfl, hc⟩
  · simp
  · intro x hx
    obtain rfl : x = b := by simpa using hx
    exact World.block_lt_of_cell? _ _ (hc 0 hp)
theorem RdII.lt {w : World} {a : Option Addr} {len : Nat} {zss : List (List Int)} {F : List Nat} (h : RdII w a len zss F) : ∀ b ∈ F, b < w.heap.size :=
  (rd_intss.2 ⟨a, len, 0, rfl, h⟩ : Rd w (intss zss) (.slice a len 0) F).lt
theorem RdII.agree {w w' : World} {a : Option Addr} {len : Nat} {zss : List (List Int)} {F : List Nat} (h : RdII w a len zss F) (ha : Agree w w' F) : RdII w' a len zss F := by
  refine ⟨h.length, ?_⟩
  rcases h.cells with h0 | ⟨b, off, F', hp, e, rfl, hm⟩
  · exact .inl h0
  · exact .inr ⟨b, off, F', hp, e, rfl, hm.agree (ha b List.mem_cons_self) (fun x hx => ha x (List.mem_cons_of_mem _ hx))⟩
theorem RdII.below {w w' : World} {a : Option Addr} {len : Nat} {zss : List (List Int)} {F : List Nat} (h : RdII w a len zss F) (hb : Below w.heap.size w w') : RdII w' a len zss F := h.agree (.below hb h.lt)

/-- A row that the call made, its values each with its own reading: the row's cells, read. -/
theorem rdM_of_own {w : World} {g : Nat} : ∀ {cs : List Cl} {vs : List Value} {F : List Nat} (off : Nat), RdS w cs vs F → (∀ i, i < vs.length → w.cell? ⟨g, off + i, none⟩ = vs[i]?) → RdM w cs g off F
  | [], vs, F, off, h, _ => by rw [RdS] at h; rw [RdM]; exact h.2
  | c :: cs, vs, F, off, h, hc => by
    rw [RdS] at h
    obtain ⟨v, vs', F1, F2, rfl, h1, h2, rfl⟩ := h
    rw [RdM]
    refine ⟨v, F1, F2, by simpa using hc 0 (by simp), h1, rdM_of_own (off + 1) h2 (fun i hi => ?_), rfl⟩
    have := hc (i + 1) (by simpa using hi)
    rw [show off + 1 + i = off + (i + 1) by omega]; simpa using this
theorem RdS.length {w : World} : ∀ {cs : List Cl} {vs : List Value} {F : List Nat}, RdS w cs vs F → vs.length = cs.length
  | [], vs, F, h => by rw [RdS] at h; simp [h.1]
  | c :: cs, vs, F, h => by
    rw [RdS] at h
    obtain ⟨v, vs', F1, F2, rfl, h1, h2, rfl⟩ := h
    simp [RdS.length h2]
theorem RdS.snoc {w : World} : ∀ {cs : List Cl} {vs : List Value} {F : List Nat} {c : Cl} {v : Value} {G : List Nat}, RdS w cs vs F → Rd w c v G → RdS w (cs ++ [c]) (vs ++ [v]) (F ++ G)
  | [], vs, F, c, v, G, h, k => by
    rw [RdS] at h
    obtain ⟨rfl, rfl⟩ := h
    simp only [List.nil_append]
    rw [RdS]
    exact ⟨v, [], G, [], rfl, k, by simp [RdS], by simp⟩
  | c0 :: cs, vs, F, c, v, G, h, k => by
    rw [RdS] at h
    obtain ⟨v0, vs', F1, F2, rfl, h1, h2, rfl⟩ := h
    simp only [List.cons_append]
    rw [RdS]
    exact ⟨v0, vs' ++ [v], F1, F2 ++ G, rfl, h1, RdS.snoc h2 k, by simp⟩
end Go.Proofs.Ytbmbmnhamogghab
/- The walks through the helpers of the laws over slices of numbers, and over slices of such: copying, comparing, weighing. No statement of the seat is proved here. -/
namespace Go.Proofs.Ytbmbmnhamogghab
open Go.RowKit

/-- What a copy holds behind k rounds. -/
def halfI (zs : List Int) (k len : Nat) : List Int := zs.take k ++ List.replicate (len - k) 0
theorem halfI_zero (zs : List Int) (len : Nat) : halfI zs 0 len = List.replicate len 0 := by simp [halfI]
theorem halfI_end (zs : List Int) (len : Nat) (h : zs.length = len) : halfI zs len len = zs := by
  simp [halfI, List.take_of_length_le (Nat.le_of_eq h)]
theorem halfI_step (zs : List Int) (k len : Nat) (h : zs.length = len) (hk : k < len) : ((halfI zs k len).map (Value.int .i64)).set k (.int .i64 (zs[k]?.getD 0)) = (halfI zs (k + 1) len).map (Value.int .i64) := by
  have e : (halfI zs k len).set k (zs[k]?.getD 0) = halfI zs (k + 1) len := by
    unfold halfI
    have hkl : (zs.take k).length = k := by simp; omega
    rw [List.set_append_right k _ (by omega), hkl, Nat.sub_self, take_succ' zs k (by omega)]
    have e : List.replicate (len - k) (0 : Int) = 0 :: List.replicate (len - (k + 1)) 0 := by
      rw [show len - k = (len - (k + 1)) + 1 by omega]; rfl
    rw [e]
    simp
  rw [← e, List.map_set]

theorem infoInt : (Try.prog.info? 3).map (fun i => (i.zero, i.size, i.bytes)) = some (some (.int .i64 0), 1, 8) := by kernel_rfl
def NewI (w : World) (zs : List Int) (e : Ending) (w' : World) : Prop :=
  ∃ a len cap F, e = .returned (.slice a len cap) ∧ RdI w' a len zs F ∧ Own w.heap.size w' F ∧ Below w.heap.size w w'

theorem eqI_step {xs ys : List Int} {k : Nat} (hl : xs.length = ys.length) (hk : k < xs.length) (h : xs.take k = ys.take k) (he : xs[k]?.getD 0 = ys[k]?.getD 0) : xs.take (k + 1) = ys.take (k + 1) := by
  rw [take_succ' xs k hk, take_succ' ys k (by omega), h, he]
theorem neI_of_at {xs ys : List Int} {k : Nat} (he : ¬ xs[k]?.getD 0 = ys[k]?.getD 0) : decide (xs = ys) = false := by
  rw [decide_eq_false_iff_not]; intro e; subst e; exact he rfl
theorem eqI_end {xs ys : List Int} {k : Nat} (hx : xs.length = k) (hy : ys.length = k) (h : xs.take k = ys.take k) : decide (xs = ys) = true := by
  rw [decide_eq_true_iff]
  rw [List.take_of_length_le (Nat.le_of_eq hx), List.take_of_length_le (Nat.le_of_eq hy)] at h
  exact h
end Go.Proofs.Ytbmbmnhamogghab
/- The walks through the helpers of the laws over slices of slices of numbers. No statement of the seat is proved here. -/
namespace Go.Proofs.Ytbmbmnhamogghab
open Go.RowKit

theorem take_snoc {α : Type} (l : List α) (d : α) (k : Nat) (h : k < l.length) : l.take (k + 1) = l.take k ++ [l.getD k d] := by
  rw [List.take_add_one, List.getElem?_eq_getElem h, List.getD_eq_getElem?_getD, List.getElem?_eq_getElem h]; rfl
theorem set_next {α : Type} (vs : List α) (z v : α) (k len : Nat) (hk : vs.length = k) (hl : k < len) : (vs ++ List.replicate (len - k) z).set k v = (vs ++ [v]) ++ List.replicate (len - (k + 1)) z := by
  rw [List.set_append_right k _ (by omega), hk, Nat.sub_self, show len - k = (len - (k + 1)) + 1 by omega]
  simp [List.replicate_succ]
theorem Agree.set {w : World} {F : List Nat} {g : Nat} (h : g ∉ F) (j : Nat) (v : Value) : Agree w (w.setCell ⟨g, j, none⟩ v) F := fun b hb => Below.heap_setCell w ⟨g, j, none⟩ v b (fun e => h (by have e2 : b = g := e; rw [← e2]; exact hb))

/-- A copy of a row of rows, behind k rounds. -/
structure CopyII (w : World) (g : Nat) (zss : List (List Int)) (k len : Nat) (vs : List Value) (G : List Nat) (wr : World) : Prop where
  own : wr.ownsRow w.heap.size 25 1 (.slice (some ⟨g, 0, none⟩) len len) len (vs ++ List.replicate (len - k) (.slice none 0 0))
  rd : RdS wr ((zss.take k).map ints) vs G
  mine : Own (w.heap.size + 1) wr G
  bel : Below w.heap.size w wr
theorem CopyII.step {w wr w2 : World} {zss : List (List Int)} {k len : Nat} {vs : List Value} {G F : List Nat} {a : Option Addr} {n cap : Nat}
    (h : CopyII w w.heap.size zss k len vs G wr) (hk : k < len) (hl : zss.length = len) (hr : RdI w2 a n (zss.getD k []) F) (ho : Own wr.heap.size w2 F) (hb : Below wr.heap.size wr w2) :
    CopyII w w.heap.size zss (k + 1) len (vs ++ [.slice a n cap]) (G ++ F) (w2.setCell ⟨w.heap.size, k, none⟩ (.slice a n cap)) := by
  have hg := (h.own.lt w.heap.size rfl).2
  have hGlt := h.rd.lt
  have hv : vs.length = k := by rw [h.rd.length]; simp; omega
  have hG : w.heap.size ∉ G := fun hx => by have := h.mine.ge _ hx; omega
  have hF : w.heap.size ∉ F := fun hx => by have := ho.ge _ hx; omega
  have own2 := (ownsRow_below h.own hb).stored k (.slice a n cap)
  rw [set_next vs _ _ k len hv hk] at own2
  refine ⟨own2.1, ?_, ?_, (h.bel.trans (hb.mono (by omega))).setCell (Nat.le_refl _) _⟩
  · rw [take_snoc zss [] k (by omega), List.map_append]
    exact RdS.snoc ((h.rd.below hb).agree (.set hG _ _)) (rd_ints.2 ⟨a, n, cap, rfl, hr.agree (.set hF _ _)⟩)
  · have := (h.mine.below hGlt hb).join ho hGlt (by omega)
    exact this.agree (.set (fun hx => (List.mem_append.1 hx).elim hG hF) _ _)
theorem CopyII.done {w wr : World} {zss : List (List Int)} {len : Nat} {vs : List Value} {G : List Nat} (h : CopyII w w.heap.size zss len len vs G wr) (hl : zss.length = len) :
    ∃ F, RdII wr (some ⟨w.heap.size, 0, none⟩) len zss F ∧ Own w.heap.size wr F := by
  by_cases h0 : len = 0
  · exact ⟨[], ⟨hl, .inl ⟨h0, rfl⟩⟩, Own.nil⟩
  · have rd := h.rd
    rw [List.take_of_length_le (Nat.le_of_eq hl)] at rd
    have hv : vs.length = len := by rw [rd.length]; simpa using hl
    have own := h.own
    rw [Nat.sub_self, List.replicate_zero, List.append_nil] at own
    refine ⟨w.heap.size :: G, ⟨hl, .inr ⟨_, 0, G, by omega, rfl, rfl, rdM_of_own 0 rd (fun i hi => ?_)⟩⟩, ⟨?_, fun b hb o => ?_, fun b hb => ?_⟩⟩
    · rw [Nat.zero_add]; exact own.cellAt i (by omega)
    · exact List.nodup_cons.2 ⟨fun hx => by have := h.mine.ge _ hx; omega, h.mine.nodup⟩
    · rcases List.mem_cons.1 hb with rfl | hb
      · exact own.frozenAt o
      · exact h.mine.free b hb o
    · rcases List.mem_cons.1 hb with rfl | hb
      · omega
      · have := h.mine.ge b hb; omega
def NewII (w : World) (zss : List (List Int)) (e : Ending) (w' : World) : Prop :=
  ∃ a len cap F, e = .returned (.slice a len cap) ∧ RdII w' a len zss F ∧ Own w.heap.size w' F ∧ Below w.heap.size w w'
theorem infoInts : (Try.prog.info? 25).map (fun i => (i.zero, i.size, i.bytes)) = some (some (.slice none 0 0), 1, 24) := by kernel_rfl
theorem eqII_step {xs ys : List (List Int)} {k : Nat} (hl : xs.length = ys.length) (hk : k < xs.length) (h : xs.take k = ys.take k) (he : xs.getD k [] = ys.getD k []) : xs.take (k + 1) = ys.take (k + 1) := by
  rw [take_snoc xs [] k hk, take_snoc ys [] k (by omega), h, he]
theorem neII_of_at {xs ys : List (List Int)} {k : Nat} (he : ¬ xs.getD k [] = ys.getD k []) : decide (xs = ys) = false := by
  rw [decide_eq_false_iff_not]; intro e; subst e; exact he rfl
theorem eqII_end {xs ys : List (List Int)} {k : Nat} (hx : xs.length = k) (hy : ys.length = k) (h : xs.take k = ys.take k) : decide (xs = ys) = true := by
  rw [decide_eq_true_iff]
  rw [List.take_of_length_le (Nat.le_of_eq hx), List.take_of_length_le (Nat.le_of_eq hy)] at h
  exact h
theorem RdI.heap {w w' : World} {a : Option Addr} {len : Nat} {zs : List Int} {F : List Nat} (h : RdI w a len zs F) (e : w'.heap = w.heap) : RdI w' a len zs F := h.agree (fun b _ => by rw [e])
theorem mem_getD {α : Type} {l : List α} {d : α} {k : Nat} (h : k < l.length) : l.getD k d ∈ l := by
  rw [List.getD_eq_getElem?_getD, List.getElem?_eq_getElem h]; exact List.getElem_mem _
/-- What rows weigh: one each, and their numbers. -/
def sumLen (l : List (List Int)) : Int := (l.map (fun z => (z.length : Int))).sum
theorem sumLen_snoc (l : List (List Int)) (k : Nat) (h : k < l.length) : sumLen (l.take (k + 1)) = sumLen (l.take k) + ((l.getD k []).length : Int) := by
  unfold sumLen
  rw [take_snoc l [] k h]; simp
theorem sumLen_nonneg (l : List (List Int)) : 0 ≤ sumLen l := by
  unfold sumLen
  induction l with
  | nil => simp
  | cons a l ih => simp; omega
theorem sumLen_le (l : List (List Int)) (k : Nat) : sumLen (l.take k) ≤ sumLen l := by
  have e : sumLen l = sumLen (l.take k) + sumLen (l.drop k) := by
    unfold sumLen
    rw [← List.sum_append, ← List.map_append, List.take_append_drop]
  have := sumLen_nonneg (l.drop k)
  omega
theorem sumLen_mem (l : List (List Int)) (z : List Int) (h : z ∈ l) : (z.length : Int) ≤ sumLen l := by
  unfold sumLen
  induction l with
  | nil => simp at h
  | cons a l ih =>
    have h0 : (0 : Int) ≤ sumLen l := sumLen_nonneg l
    unfold sumLen at h0
    rcases List.mem_cons.1 h with rfl | h
    · simp; omega
    · have := ih h; simp; omega
end Go.Proofs.Ytbmbmnhamogghab
/- A block's cells as a whole: structs that a call lays in memory of its own. No statement of the seat is proved here. -/
namespace Go.Proofs.Ytbmbmnhamogghab
open Go.RowKit

/-- Block g is these cells, none frozen. -/
def Blk (w : World) (g : Nat) (cs : Array Value) (t : TypeId) : Prop := w.heap[g]? = some (.cells cs t (0, 0))
theorem Blk.cell {w : World} {g : Nat} {cs : Array Value} {t : TypeId} (h : Blk w g cs t) (i : Nat) : w.cell? ⟨g, i, none⟩ = cs[i]? := by
  have h' : w.heap[g]? = some (.cells cs t (0, 0)) := h
  simp [World.cell?, h']
theorem Blk.frozen {w : World} {g : Nat} {cs : Array Value} {t : TypeId} (h : Blk w g cs t) (i : Nat) : w.frozen? ⟨g, i, none⟩ = false := by
  have h' : w.heap[g]? = some (.cells cs t (0, 0)) := h
  simp [World.frozen?, h']
theorem Blk.lt {w : World} {g : Nat} {cs : Array Value} {t : TypeId} (h : Blk w g cs t) : g < w.heap.size := by
  have h' : w.heap[g]? = some (.cells cs t (0, 0)) := h
  by_cases hg : g < w.heap.size
  · exact hg
  · rw [Array.getElem?_eq_none (by omega)] at h'; cases h'
theorem Blk.agree {w w' : World} {g : Nat} {cs : Array Value} {t : TypeId} (h : Blk w g cs t) (e : w'.heap[g]? = w.heap[g]?) : Blk w' g cs t := e.trans h
theorem Blk.below {w w' : World} {g : Nat} {cs : Array Value} {t : TypeId} (h : Blk w g cs t) (hb : Below w.heap.size w w') : Blk w' g cs t := h.agree (hb.block g h.lt)
theorem Blk.alloc {w : World} {g : Nat} {cs : Array Value} {t : TypeId} (h : Blk w g cs t) (o : Obj) : Blk (w.alloc o) g cs t := h.agree (Below.heap_alloc w o g h.lt)
theorem Blk.made (w : World) (cs : Array Value) (t : TypeId) : Blk (w.alloc (.cells cs t)) w.heap.size cs t := by
  show (w.heap.push _)[w.heap.size]? = _
  simp
theorem Blk.setOther {w : World} {g g' : Nat} {cs : Array Value} {t : TypeId} (h : Blk w g cs t) (hne : g ≠ g') (j : Nat) (v : Value) : Blk (w.setCell ⟨g', j, none⟩ v) g cs t := h.agree (Below.heap_setCell w ⟨g', j, none⟩ v g hne)
theorem Blk.set {w : World} {g : Nat} {cs : Array Value} {t : TypeId} (h : Blk w g cs t) (j : Nat) (v : Value) : Blk (w.setCell ⟨g, j, none⟩ v) g (cs.setIfInBounds j v) t := by
  have h' : w.heap[g]? = some (.cells cs t (0, 0)) := h
  unfold Blk
  simp only [World.setCell, Array.getElem?_modify, if_true]
  rw [h']
  simp

/-- What a copying of a struct has laid: the argument's box, the result's place, the new struct. -/
structure Three (w : World) (A : Array Value) (tA : TypeId) (B : Array Value) (C : Array Value) (tC : TypeId) (W : World) : Prop where
  box : Blk W w.heap.size A tA
  res : Blk W (w.heap.size + 1) B tC
  loc : Blk W (w.heap.size + 1 + 1) C tC
  bel : Below w.heap.size w W
theorem Three.made (w : World) (A : Array Value) (tA : TypeId) (B C : Array Value) (tC : TypeId) : Three w A tA B C tC (((w.alloc (.cells A tA)).alloc (.cells B tC)).alloc (.cells C tC)) := by
  have s1 : (w.alloc (.cells A tA)).heap.size = w.heap.size + 1 := by simp
  have s2 : ((w.alloc (.cells A tA)).alloc (.cells B tC)).heap.size = w.heap.size + 1 + 1 := by simp
  refine ⟨((Blk.made w A tA).alloc _).alloc _, ?_, ?_, (((Below.refl _ _).alloc (Nat.le_refl _) _).alloc (by omega) _).alloc (by omega) _⟩
  · have := Blk.made (w.alloc (.cells A tA)) B tC
    rw [s1] at this
    exact this.alloc _
  · have := Blk.made ((w.alloc (.cells A tA)).alloc (.cells B tC)) C tC
    rw [s2] at this
    exact this
theorem Three.size {w W : World} {A B C : Array Value} {tA tC : TypeId} (h : Three w A tA B C tC W) : w.heap.size + 3 ≤ W.heap.size := h.loc.lt
theorem Three.below {w W W' : World} {A B C : Array Value} {tA tC : TypeId} (h : Three w A tA B C tC W) (hb : Below W.heap.size W W') : Three w A tA B C tC W' :=
  ⟨h.box.below hb, h.res.below hb, h.loc.below hb, h.bel.trans (hb.mono h.bel.size)⟩
theorem Three.set {w W : World} {A B C : Array Value} {tA tC : TypeId} (h : Three w A tA B C tC W) (j : Nat) (v : Value) : Three w A tA B (C.setIfInBounds j v) tC (W.setCell ⟨w.heap.size + 1 + 1, j, none⟩ v) :=
  ⟨h.box.setOther (by omega) j v, h.res.setOther (by omega) j v, h.loc.set j v, h.bel.setCell (by show w.heap.size ≤ w.heap.size + 1 + 1; omega) v⟩
theorem Three.setRes {w W : World} {A B C : Array Value} {tA tC : TypeId} (h : Three w A tA B C tC W) (j : Nat) (v : Value) : Three w A tA (B.setIfInBounds j v) C tC (W.setCell ⟨w.heap.size + 1, j, none⟩ v) :=
  ⟨h.box.setOther (by omega) j v, h.res.set j v, h.loc.setOther (by omega) j v, h.bel.setCell (by show w.heap.size ≤ w.heap.size + 1; omega) v⟩
theorem Agree.refl (w : World) (F : List Nat) : Agree w w F := fun _ _ => rfl
theorem Agree.trans {a b c : World} {F : List Nat} (h : Agree a b F) (k : Agree b c F) : Agree a c F := fun x hx => (k x hx).trans (h x hx)
theorem Agree.mono {a b : World} {F G : List Nat} (h : Agree a b G) (hs : ∀ x ∈ F, x ∈ G) : Agree a b F := fun x hx => h x (hs x hx)
theorem Agree.thenSet {w w' : World} {F : List Nat} {g : Nat} (h : Agree w w' F) (hg : g ∉ F) (j : Nat) (v : Value) : Agree w (w'.setCell ⟨g, j, none⟩ v) F :=
  h.trans (fun b hb => Below.heap_setCell w' ⟨g, j, none⟩ v b (fun e => hg (by have e2 : b = g := e; rw [← e2]; exact hb)))
/-! ### blocks one behind the other, as a walk writes them out: 'blk', 'bel' -/
theorem Blk.made_eq {w : World} {cs : Array Value} {t : TypeId} {g : Nat} (h : g = w.heap.size) : Blk (w.alloc (.cells cs t)) g cs t := by subst h; exact Blk.made w cs t
theorem Blk.drew {w : World} {g : Nat} {cs : Array Value} {t : TypeId} (h : Blk w g cs t) : Blk w.drew g cs t := h
theorem Below.allocW {B : Nat} {a w : World} (o : Obj) (h : Below B a w) (hB : B ≤ a.heap.size) : Below B a (w.alloc o) := h.alloc (Nat.le_trans hB h.size) o
theorem Below.next {w0 wx w1 : World} (h : Below w0.heap.size w0 wx) (hb : Below wx.heap.size wx w1) : Below w0.heap.size w0 w1 := h.trans (hb.mono h.size)
theorem Below.sets7 {B : Nat} {a w : World} {g : Nat} {v0 v1 v2 v3 v4 v5 v6 : Value} (h : Below B a w) (hg : B ≤ g) :
    Below B a (((((((w.setCell ⟨g, 0, none⟩ v0).setCell ⟨g, 1, none⟩ v1).setCell ⟨g, 2, none⟩ v2).setCell ⟨g, 3, none⟩ v3).setCell ⟨g, 4, none⟩ v4).setCell ⟨g, 5, none⟩ v5).setCell ⟨g, 6, none⟩ v6) :=
  ((((((h.setCell hg v0).setCell hg v1).setCell hg v2).setCell hg v3).setCell hg v4).setCell hg v5).setCell hg v6
end Go.Proofs.Ytbmbmnhamogghab
/- A summary (chapter 3) as plain data; the walks through the helpers of the laws over it. No statement of the seat is proved here. -/
namespace Go.Proofs.Ytbmbmnhamogghab
open Go.RowKit

structure Sk where
  count : Int
  sum : Int
  min : Int
  max : Int
  hist : List Int
  regs : List Int
  rows : List (List Int)
  deriving DecidableEq

/-- A summary's value that can be read. -/
def RdSk (w : World) (v : Value) (s : Sk) (F : List Nat) : Prop :=
  ∃ a1 n1 c1 a2 n2 c2 a3 n3 c3 F1 F2 F3, v = .agg #[.int .i64 s.count, .int .i64 s.sum, .int .i64 s.min, .int .i64 s.max, .slice a1 n1 c1, .slice a2 n2 c2, .slice a3 n3 c3] ∧
    RdI w a1 n1 s.hist F1 ∧ RdI w a2 n2 s.regs F2 ∧ RdII w a3 n3 s.rows F3 ∧ F = F1 ++ (F2 ++ F3)
theorem RdSk.agree {w w' : World} {v : Value} {s : Sk} {F : List Nat} (h : RdSk w v s F) (ha : Agree w w' F) : RdSk w' v s F := by
  obtain ⟨a1, n1, c1, a2, n2, c2, a3, n3, c3, F1, F2, F3, hv, h1, h2, h3, rfl⟩ := h
  exact ⟨a1, n1, c1, a2, n2, c2, a3, n3, c3, F1, F2, F3, hv, h1.agree ha.left, h2.agree ha.right.left, h3.agree ha.right.right, rfl⟩
theorem RdSk.lt {w : World} {v : Value} {s : Sk} {F : List Nat} (h : RdSk w v s F) : ∀ b ∈ F, b < w.heap.size := by
  obtain ⟨a1, n1, c1, a2, n2, c2, a3, n3, c3, F1, F2, F3, hv, h1, h2, h3, rfl⟩ := h
  intro b hb
  rcases List.mem_append.1 hb with hb | hb
  · exact h1.lt b hb
  · rcases List.mem_append.1 hb with hb | hb
    · exact h2.lt b hb
    · exact h3.lt b hb
theorem RdSk.below {w w' : World} {v : Value} {s : Sk} {F : List Nat} (h : RdSk w v s F) (hb : Below w.heap.size w w') : RdSk w' v s F := h.agree (.below hb h.lt)
/-- What a summary weighs, and that each of its lists is no longer than this. -/
def Sk.size (s : Sk) : Int := s.hist.length + s.regs.length + (s.rows.length + sumLen s.rows)
def NewSk (w : World) (s : Sk) (e : Ending) (w' : World) : Prop :=
  ∃ v F, e = .returned v ∧ RdSk w' v s F ∧ Own w.heap.size w' F ∧ Below w.heap.size w w'
structure Sk.fits (s : Sk) : Prop where
  hist : s.hist.length ≤ 1048576
  regs : s.regs.length ≤ 1048576
  rows : s.rows.length ≤ 1048576
  row : ∀ z ∈ s.rows, z.length ≤ 1048576
/-- Each list is no longer than memory allows. -/
structure Sk.wide (s : Sk) : Prop where
  hist : s.hist.length ≤ 140737488355328
  regs : s.regs.length ≤ 140737488355328
  rows : s.rows.length ≤ 140737488355328
  row : ∀ z ∈ s.rows, z.length ≤ 140737488355328
theorem Sk.fits.wide {s : Sk} (h : s.fits) : s.wide := ⟨by have := h.hist; omega, by have := h.regs; omega, by have := h.rows; omega, fun z hz => by have := h.row z hz; omega⟩
theorem Sk.fits_of {s : Sk} (h : s.size ≤ 1048576) : s.fits := by
  have h0 := sumLen_nonneg s.rows
  unfold Sk.size at h
  exact ⟨by omega, by omega, by omega, fun z hz => by have := sumLen_mem s.rows z hz; omega⟩
/-- Two boxes. -/
structure Two (w : World) (A B : Array Value) (t : TypeId) (W : World) : Prop where
  fst : Blk W w.heap.size A t
  snd : Blk W (w.heap.size + 1) B t
  bel : Below w.heap.size w W
theorem Two.made (w : World) (A B : Array Value) (t : TypeId) : Two w A B t ((w.alloc (.cells A t)).alloc (.cells B t)) := by
  have s1 : (w.alloc (.cells A t)).heap.size = w.heap.size + 1 := by simp
  refine ⟨(Blk.made w A t).alloc _, ?_, ((Below.refl _ _).alloc (Nat.le_refl _) _).alloc (by omega) _⟩
  have := Blk.made (w.alloc (.cells A t)) B t
  rw [s1] at this
  exact this
theorem Two.below {w W W' : World} {A B : Array Value} {t : TypeId} (h : Two w A B t W) (hb : Below W.heap.size W W') : Two w A B t W' :=
  ⟨h.fst.below hb, h.snd.below hb, h.bel.trans (hb.mono h.bel.size)⟩
theorem Sk.eq_of {s t : Sk} (h1 : s.count = t.count) (h2 : s.sum = t.sum) (h3 : s.min = t.min) (h4 : s.max = t.max) (h5 : s.hist = t.hist) (h6 : s.regs = t.regs) (h7 : s.rows = t.rows) : s = t := by
  cases s; cases t; simp_all
theorem dec_false {p : Prop} [Decidable p] (h : ¬ p) : decide p = false := by simpa using h
theorem dec_true {p : Prop} [Decidable p] (h : p) : decide p = true := by simpa using h
def Sk.zero : Sk := ⟨0, 0, 0, 0, [], [], []⟩
end Go.Proofs.Ytbmbmnhamogghab
/- What a summary that comes in weighs, however long its lists are. No statement of the seat is proved here. -/
namespace Go.Proofs.Ytbmbmnhamogghab
open Go.RowKit
/-- Each list is no longer than a length can say. -/
structure Sk.vast (s : Sk) : Prop where
  hist : s.hist.length ≤ 9223372036854775807
  regs : s.regs.length ≤ 9223372036854775807
  rows : s.rows.length ≤ 9223372036854775807
  row : ∀ z ∈ s.rows, z.length ≤ 9223372036854775807
end Go.Proofs.Ytbmbmnhamogghab
/- A summary that comes in as an argument: what it holds. No statement of the seat is proved here. -/
namespace Go.Proofs.Ytbmbmnhamogghab
open Go.RowKit Go.WideShapes Go.ChangeShapes Go.ChangeAt Go.Deep
theorem addr_plain {w : World} {x : Addr} {v : Value} (h : w.cell? (x.add 0) = some v) : ∃ b off, x = ⟨b, off, none⟩ := by
  obtain ⟨b, off, spot⟩ := x
  have hspot : spot = none := by simpa [Addr.add] using World.cell?_spot h
  subst hspot
  exact ⟨b, off, rfl⟩
theorem add_none (b off i : Nat) : (⟨b, off, none⟩ : Addr).add i = ⟨b, off + i, none⟩ := by unfold Addr.add; split <;> simp_all
theorem rdI_open {w : World} {a : Option Addr} {len cap : Nat} {zs : List Int} (hz : zs.length = cap) (hl : len ≤ cap) (hc : ∀ x, a = some x → ∀ i, i < cap → w.cell? (x.add i) = some (.int .i64 (zs.getD i 0))) (hn : a = none → cap = 0) : ∃ F, RdI w a len (zs.take len) F := by
  by_cases h0 : len = 0
  · subst h0
    exact ⟨[], by simp, .inl ⟨rfl, rfl⟩⟩
  · cases a with
    | none => have := hn rfl; omega
    | some x =>
      have hc := hc x rfl
      obtain ⟨b, off, rfl⟩ := addr_plain (hc 0 (by omega))
      refine ⟨[b], by simp; omega, .inr ⟨b, off, by omega, rfl, rfl, fun i hi => ?_⟩⟩
      have := hc i (by omega)
      rw [add_none] at this
      rw [this]
      simp [hi]
theorem rdM_open {w : World} {b : Nat} : ∀ (n off : Nat) (V : Nat → Value) (zs : Nat → List Int), (∀ r, r < n → w.cell? ⟨b, off + r, none⟩ = some (V r) ∧ ∃ F, Rd w (ints (zs r)) (V r) F) → ∃ F, RdM w (((List.range n).map zs).map ints) b off F
  | 0, off, V, zs, _ => ⟨[], by simp [RdM]⟩
  | n + 1, off, V, zs, h => by
    obtain ⟨F2, h2⟩ := rdM_open (w := w) (b := b) n (off + 1) (fun r => V (r + 1)) (fun r => zs (r + 1)) (fun r hr => by
      have := h (r + 1) (by omega)
      rw [show off + 1 + r = off + (r + 1) by omega]; exact this)
    obtain ⟨hc, F1, h1⟩ := h 0 (by omega)
    refine ⟨F1 ++ F2, ?_⟩
    rw [List.range_succ_eq_map, List.map_cons, List.map_cons, RdM]
    refine ⟨V 0, F1, F2, hc, h1, ?_, rfl⟩
    simpa [Function.comp_def] using h2
end Go.Proofs.Ytbmbmnhamogghab
/- Marks in a row of numbers, as plain data. No statement of the seat is proved here. -/
namespace Go.Proofs.Ytbmbmnhamogghab
open Go.RowKit

def marksI (k : Int) : Nat → List Int
  | 0 => []
  | n + 1 => marksI k n ++ [k + n]
theorem marksI_length (k : Int) (n : Nat) : (marksI k n).length = n := by
  induction n with
  | zero => rfl
  | succ n ih => simp [marksI, ih]
theorem marksI_getD (k : Int) (n i : Nat) (h : i < n) : (marksI k n).getD i 0 = k + i := by
  induction n with
  | zero => omega
  | succ n ih =>
    rw [marksI, List.getD_eq_getElem?_getD]
    by_cases hi : i < n
    · rw [List.getElem?_append_left (by rw [marksI_length]; exact hi), ← List.getD_eq_getElem?_getD]; exact ih hi
    · obtain rfl : i = n := by omega
      rw [List.getElem?_append_right (by rw [marksI_length]; omega), marksI_length]; simp
def markedI (k : Int) (j : Nat) (zs : List Int) : List Int := marksI k j ++ zs.drop j
theorem markedI_length (k : Int) (j : Nat) (zs : List Int) (h : j ≤ zs.length) : (markedI k j zs).length = zs.length := by
  simp [markedI, marksI_length]; omega
theorem markedI_step (k : Int) (j : Nat) (zs : List Int) (h : j < zs.length) : (markedI k j zs).set j (k + j) = markedI k (j + 1) zs := by
  unfold markedI
  rw [List.set_append_right j _ (by rw [marksI_length]; omega), marksI_length, Nat.sub_self, List.drop_eq_getElem_cons h, List.set_cons_zero]
  simp [marksI]
theorem markedI_end (k : Int) (n : Nat) (zs : List Int) (h : zs.length = n) : markedI k n zs = marksI k n := by
  simp [markedI, List.drop_of_length_le (Nat.le_of_eq h)]
theorem RdI.set {w : World} {b off len : Nat} {zs : List Int} (h : RdI w (some ⟨b, off, none⟩) len zs [b]) (hp : 0 < len) (j : Nat) (hj : j < len) (n : Int) : RdI (w.setCell ⟨b, off + j, none⟩ (.int .i64 n)) (some ⟨b, off, none⟩) len (zs.set j n) [b] := by
  have hl := h.length
  rcases h.cells with ⟨h0, _⟩ | ⟨b', off', _, he, _, hc⟩
  · omega
  · obtain ⟨rfl, rfl⟩ : b = b' ∧ off = off' := by simpa using he
    refine ⟨by simp [hl], .inr ⟨b, off, hp, rfl, rfl, fun i hi => ?_⟩⟩
    by_cases hij : i = j
    · subst hij
      rw [World.cell?_setCell_same _ _ _ (hc i hi)]
      simp [hl, hi]
    · rw [World.cell?_setCell_other _ _ _ _ (by intro e; simp only [Addr.mk.injEq] at e; omega), hc i hi]
      simp [Ne.symm hij]
theorem Only.set {F : List Nat} {w w' : World} {g : Nat} (h : Only F w w') (hg : g ∈ F) (j : Nat) (v : Value) : Only F w (w'.setCell ⟨g, j, none⟩ v) :=
  h.trans ⟨rfl, rfl, rfl, by simp [World.setCell], fun k _ hf => Below.heap_setCell w' ⟨g, j, none⟩ v k (fun e => hf (by have e2 : k = g := e; rw [e2]; exact hg))⟩
theorem Own.set {B : Nat} {w : World} {F : List Nat} (h : Own B w F) (g j : Nat) (v : Value) : Own B (w.setCell ⟨g, j, none⟩ v) F :=
  ⟨h.nodup, fun b hb o => (World.frozen?_setCell _ _ _ _).trans (h.free b hb o), h.ge⟩

/-- What a marking tells: how far it came, what is held now, that nothing else was written. -/
structure MarkedI (B : Nat) (w : World) (a : Option Addr) (len : Nat) (k : Int) (F : List Nat) (w' : World) : Prop where
  rd : RdI w' a len (marksI k len) F
  own : Own B w' F
  only : Only F w w'
structure MarkingI (B : Nat) (w : World) (a : Option Addr) (len : Nat) (k : Int) (zs : List Int) (j : Nat) (F : List Nat) (w' : World) : Prop where
  rd : RdI w' a len (markedI k j zs) F
  own : Own B w' F
  only : Only F w w'
theorem MarkingI.step {B : Nat} {w wr : World} {b off len : Nat} {k : Int} {zs : List Int} {j : Nat} (h : MarkingI B w (some ⟨b, off, none⟩) len k zs j [b] wr) (hl : zs.length = len) (hj : j < len) :
    MarkingI B w (some ⟨b, off, none⟩) len k zs (j + 1) [b] (wr.setCell ⟨b, off + j, none⟩ (.int .i64 (k + j))) := by
  refine ⟨?_, h.own.set _ _ _, h.only.set (by simp) _ _⟩
  have := h.rd.set (by omega) j hj (k + j)
  rwa [markedI_step k j zs (by omega)] at this
end Go.Proofs.Ytbmbmnhamogghab
/- The walks through the helpers of the laws that mark slices of numbers (and slices of such) and look whether the marks still stand. No statement of the seat is proved here. -/
namespace Go.Proofs.Ytbmbmnhamogghab
open Go.RowKit

/-! ### rows of rows -/
theorem rdM_append {w : World} : ∀ {cs ds : List Cl} {b off : Nat} {F : List Nat}, RdM w (cs ++ ds) b off F ↔ ∃ F1 F2, RdM w cs b off F1 ∧ RdM w ds b (off + cs.length) F2 ∧ F = F1 ++ F2
  | [], ds, b, off, F => by
    constructor
    · intro h; exact ⟨[], F, by simp [RdM], by simpa using h, rfl⟩
    · rintro ⟨F1, F2, h1, h2, rfl⟩; rw [RdM] at h1; subst h1; simpa using h2
  | c :: cs, ds, b, off, F => by
    rw [List.cons_append, RdM]
    constructor
    · rintro ⟨v, F1, F2, hc, h1, h2, rfl⟩
      obtain ⟨G1, G2, k1, k2, rfl⟩ := rdM_append.1 h2
      refine ⟨F1 ++ G1, G2, ?_, ?_, by simp⟩
      · rw [RdM]; exact ⟨v, F1, G1, hc, h1, k1, rfl⟩
      · rw [List.length_cons, show off + (cs.length + 1) = off + 1 + cs.length by omega]; exact k2
    · rintro ⟨F1, F2, h1, h2, rfl⟩
      rw [RdM] at h1
      obtain ⟨v, G1, G2, hc, k1, k2, rfl⟩ := h1
      refine ⟨v, G1, G2 ++ F2, hc, k1, rdM_append.2 ⟨G2, F2, k2, ?_, rfl⟩, by simp⟩
      rw [List.length_cons, show off + (cs.length + 1) = off + 1 + cs.length by omega] at h2; exact h2
def marksII : Int → List (List Int) → List (List Int)
  | _, [] => []
  | k, z :: zs => marksI k z.length :: marksII (k + z.length) zs
theorem marksII_length (k : Int) (zs : List (List Int)) : (marksII k zs).length = zs.length := by
  induction zs generalizing k with
  | nil => rfl
  | cons z zs ih => simp [marksII, ih]
theorem marksII_append (k : Int) (xs ys : List (List Int)) : marksII k (xs ++ ys) = marksII k xs ++ marksII (k + sumLen xs) ys := by
  induction xs generalizing k with
  | nil => simp [marksII, sumLen]
  | cons x xs ih =>
    rw [List.cons_append, marksII, marksII, ih]
    simp [sumLen, Int.add_assoc]
theorem marksII_snoc (k : Int) (zs : List (List Int)) (j : Nat) (h : j < zs.length) : marksII k (zs.take (j + 1)) = marksII k (zs.take j) ++ [marksI (k + sumLen (zs.take j)) (zs.getD j []).length] := by
  rw [take_snoc zs [] j h, marksII_append]; rfl
theorem marksII_getD (k : Int) (zs : List (List Int)) (j : Nat) (h : j < zs.length) : (marksII k zs).getD j [] = marksI (k + sumLen (zs.take j)) (zs.getD j []).length := by
  have e : zs = zs.take j ++ (zs.getD j [] :: zs.drop (j + 1)) := by
    rw [List.getD_eq_getElem?_getD, List.getElem?_eq_getElem h]; simp
  conv => lhs; rw [e, marksII_append]
  rw [List.getD_eq_getElem?_getD, List.getElem?_append_right (by rw [marksII_length]; simp; omega), marksII_length, marksII]
  have : j - (zs.take j).length = 0 := by simp; omega
  rw [this]; simp
structure MarkedII (B : Nat) (w : World) (a : Option Addr) (len : Nat) (k : Int) (zss : List (List Int)) (F : List Nat) (w' : World) : Prop where
  rd : RdII w' a len (marksII k zss) F
  own : Own B w' F
  only : Only F w w'
structure MarkingII (B : Nat) (w : World) (b off : Nat) (k : Int) (zss : List (List Int)) (j : Nat) (F : List Nat) (w' : World) : Prop where
  rd : RdM w' ((marksII k (zss.take j) ++ zss.drop j).map ints) b off F
  own : Own B w' (b :: F)
  only : Only (b :: F) w w'
  lt : b < w'.heap.size
theorem MarkingII.row {B : Nat} {w wr : World} {b off : Nat} {k : Int} {zss : List (List Int)} {j : Nat} {F : List Nat} (h : MarkingII B w b off k zss j F wr) (hj : j < zss.length) :
    ∃ a n cap G, wr.cell? ⟨b, off + j, none⟩ = some (.slice a n cap) ∧ n = (zss.getD j []).length ∧ RdI wr a n (zss.getD j []) G ∧ Own B wr G ∧
      ∀ w2, MarkedI B wr a n (k + sumLen (zss.take j)) G w2 → MarkingII B w b off k zss (j + 1) F w2 := by
  have hd : zss.drop j = zss.getD j [] :: zss.drop (j + 1) := by
    rw [List.getD_eq_getElem?_getD, List.getElem?_eq_getElem hj]; simp
  have rd := h.rd
  rw [hd, List.map_append, List.map_cons] at rd
  obtain ⟨F1, F2, m1, m2, rfl⟩ := rdM_append.1 rd
  rw [RdM] at m2
  obtain ⟨v, G, F3, hc, hv, m3, rfl⟩ := m2
  obtain ⟨a, n, cap, rfl, hr⟩ := rd_ints.1 hv
  have hlen : (List.map ints (marksII k (zss.take j))).length = j := by simp [marksII_length]; omega
  rw [hlen] at hc m3
  have hb : b ∉ F1 ++ (G ++ F3) := (List.nodup_cons.1 h.own.nodup).1
  have nd := (List.nodup_cons.1 h.own.nodup).2
  have nd1 := List.nodup_append.1 nd
  have nd2 := List.nodup_append.1 nd1.2.1
  have hoG : Own B wr G := ⟨nd2.1, fun x hx => h.own.free x (by simp [hx]), fun x hx => h.own.ge x (by simp [hx])⟩
  refine ⟨a, n, cap, G, hc, hr.length.symm, hr, hoG, fun w2 hm => ?_⟩
  have lt1 := m1.lt
  have lt3 := m3.lt
  have ag1 : Agree wr w2 F1 := hm.only.agree lt1 (fun x hx hg => nd1.2.2 x hx x (by simp [hg]) rfl)
  have ag3 : Agree wr w2 F3 := hm.only.agree lt3 (fun x hx hg => nd2.2.2 x hg x hx rfl)
  have agb : w2.heap[b]? = wr.heap[b]? := hm.only.block b h.lt (fun hx => hb (by simp [hx]))
  refine ⟨?_, ⟨h.own.nodup, fun x hx o => ?_, h.own.ge⟩, h.only.trans (hm.only.mono (fun x hx => by simp [hx])), Nat.lt_of_lt_of_le h.lt hm.only.size⟩
  · rw [marksII_snoc k zss j hj, List.append_assoc, List.map_append, List.singleton_append, List.map_cons]
    refine rdM_append.2 ⟨F1, G ++ F3, m1.agree agb ag1, ?_, rfl⟩
    rw [RdM, hlen]
    refine ⟨.slice a n cap, G, F3, (World.cell?_of_block (w := wr) (a := ⟨b, off + j, none⟩) agb).trans hc, ?_, m3.agree agb ag3, rfl⟩
    rw [← hr.length] at hm
    refine rd_ints.2 ⟨a, n, cap, rfl, ?_⟩
    have := hm.rd
    rwa [hr.length] at this ⊢
  · rcases List.mem_cons.1 hx with rfl | hx
    · exact (World.frozen?_of_block (w := wr) (a := ⟨x, o, none⟩) agb).trans (h.own.free x (by simp) o)
    · rcases List.mem_append.1 hx with hx | hx
      · exact (World.frozen?_of_block (w := wr) (a := ⟨x, o, none⟩) (ag1 x hx)).trans (h.own.free x (by simp [hx]) o)
      · rcases List.mem_append.1 hx with hx | hx
        · exact hm.own.free x hx o
        · exact (World.frozen?_of_block (w := wr) (a := ⟨x, o, none⟩) (ag3 x hx)).trans (h.own.free x (by simp [hx]) o)
end Go.Proofs.Ytbmbmnhamogghab
