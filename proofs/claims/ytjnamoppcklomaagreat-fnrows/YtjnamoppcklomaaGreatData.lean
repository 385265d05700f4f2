/- What memory holds, as plain data: numbers, texts, rows of them, rows of rows; which blocks a reading goes through; how it stays. No statement of the seat is proved here. -/
import Derived.Test.YtjnamoppcklomaaGreatBase
namespace Go.Proofs.YtjnamoppcklomaaGreat
open Go.RowKit
inductive Cl where
 | int (k : IntKind) (n : Int)
 | bool (b : Bool)
 | str (s : ByteArray)
 | row (s : Nat) (cs : List Cl)
mutual
def Rd (w : World) : Cl → Value → List Nat → Prop
 | .int k n, v, F => v = .int k n ∧ F = []
 | .bool b, v, F => v = .bool b ∧ F = []
 | .str s, v, F => v = .string s ∧ F = []
 | .row s cs, v, F => ∃ a len cap, v = .slice a len cap ∧ cs.length = s * len ∧ ((cs = [] ∧ F = []) ∨ ∃ b off F', cs ≠ [] ∧ a = some ⟨b, off, none⟩ ∧ F = b :: F' ∧ RdM w cs b off F')
def RdM (w : World) : List Cl → Nat → Nat → List Nat → Prop
 | [], _, _, F => F = []
 | c :: cs, b, off, F => ∃ v F1 F2, w.cell? ⟨b, off, none⟩ = some v ∧ Rd w c v F1 ∧ RdM w cs b (off + 1) F2 ∧ F = F1 ++ F2
end
def RdS (w : World) : List Cl → List Value → List Nat → Prop
 | [], vs, F => vs = [] ∧ F = []
 | c :: cs, vs, F => ∃ v vs' F1 F2, vs = v :: vs' ∧ Rd w c v F1 ∧ RdS w cs vs' F2 ∧ F = F1 ++ F2
def Agree (w w' : World) (F : List Nat) : Prop := ∀ b ∈ F, w'.heap[b]? = w.heap[b]?
theorem Agree.left {w w' : World} {F G : List Nat} (h : Agree w w' (F ++ G)) : Agree w w' F := fun b hb => h b (List.mem_append_left _ hb)
theorem Agree.right {w w' : World} {F G : List Nat} (h : Agree w w' (F ++ G)) : Agree w w' G := fun b hb => h b (List.mem_append_right _ hb)
mutual
theorem Rd.agree {w w' : World} : ∀ {c : Cl} {v : Value} {F : List Nat}, Rd w c v F → Agree w w' F → Rd w' c v F
 | .int k n, v, F, h, _ => by simpa [Rd] using h
 | .bool b, v, F, h, _ => by simpa [Rd] using h
 | .str s, v, F, h, _ => by simpa [Rd] using h
 | .row s cs, v, F, h, ha => by
  rw [Rd] at h ⊢
  obtain ⟨a, len, cap, hv, hl, h0 | ⟨b, off, F', hn, e, rfl, hm⟩⟩ := h
  ·
   exact ⟨a, len, cap, hv, hl, .inl h0⟩
  ·
   exact ⟨a, len, cap, hv, hl, .inr ⟨b, off, F', hn, e, rfl, RdM.agree hm (ha b List.mem_cons_self) (fun x hx => ha x (List.mem_cons_of_mem _ hx))⟩⟩
theorem RdM.agree {w w' : World} : ∀ {cs : List Cl} {b off : Nat} {F : List Nat}, RdM w cs b off F → w'.heap[b]? = w.heap[b]? → Agree w w' F → RdM w' cs b off F
 | [], b, off, F, h, _, _ => by simpa [RdM] using h
 | c :: cs, b, off, F, h, hb, ha => by
  rw [RdM] at h ⊢
  obtain ⟨v, F1, F2, hc, h1, h2, rfl⟩ := h
  exact ⟨v, F1, F2, (World.cell?_of_block (w := w) (a := ⟨b, off, none⟩) hb).trans hc, Rd.agree h1 ha.left, RdM.agree h2 hb ha.right, rfl⟩
end
theorem RdS.agree {w w' : World} : ∀ {cs : List Cl} {vs : List Value} {F : List Nat}, RdS w cs vs F → Agree w w' F → RdS w' cs vs F
 | [], vs, F, h, _ => by simpa [RdS] using h
 | c :: cs, vs, F, h, ha => by
  rw [RdS] at h ⊢
  obtain ⟨v, vs', F1, F2, hc, h1, h2, rfl⟩ := h
  exact ⟨v, vs', F1, F2, hc, Rd.agree h1 ha.left, RdS.agree h2 ha.right, rfl⟩
mutual
theorem Rd.lt {w : World} : ∀ {c : Cl} {v : Value} {F : List Nat}, Rd w c v F → ∀ b ∈ F, b < w.heap.size
 | .int k n, v, F, h => by rw [Rd] at h; simp [h.2]
 | .bool b, v, F, h => by rw [Rd] at h; simp [h.2]
 | .str s, v, F, h => by rw [Rd] at h; simp [h.2]
 | .row s cs, v, F, h => by
  rw [Rd] at h
  obtain ⟨a, len, cap, hv, hl, h0 | ⟨b, off, F', hn, e, rfl, hm⟩⟩ := h
  ·
   simp [h0.2]
  ·
   intro x hx
   rcases List.mem_cons.1 hx with rfl | hx
   ·
    match cs, hn, hm with
    | c :: cs, _, hm =>
     rw [RdM] at hm
     obtain ⟨v, F1, F2, hc, _, _, _⟩ := hm
     exact World.block_lt_of_cell? _ _ hc
   ·
    exact RdM.lt hm x hx
theorem RdM.lt {w : World} : ∀ {cs : List Cl} {b off : Nat} {F : List Nat}, RdM w cs b off F → ∀ x ∈ F, x < w.heap.size
 | [], b, off, F, h => by rw [RdM] at h; simp [h]
 | c :: cs, b, off, F, h => by
  rw [RdM] at h
  obtain ⟨v, F1, F2, hc, h1, h2, rfl⟩ := h
  intro x hx
  rcases List.mem_append.1 hx with hx | hx
  ·
   exact Rd.lt h1 x hx
  ·
   exact RdM.lt h2 x hx
end
theorem RdS.lt {w : World} : ∀ {cs : List Cl} {vs : List Value} {F : List Nat}, RdS w cs vs F → ∀ x ∈ F, x < w.heap.size
 | [], vs, F, h => by rw [RdS] at h; simp [h.2]
 | c :: cs, vs, F, h => by
  rw [RdS] at h
  obtain ⟨v, vs', F1, F2, hc, h1, h2, rfl⟩ := h
  intro x hx
  rcases List.mem_append.1 hx with hx | hx
  ·
   exact Rd.lt h1 x hx
  ·
   exact RdS.lt h2 x hx
theorem Agree.below {w w' : World} {F : List Nat} (hb : Below w.heap.size w w') (h : ∀ b ∈ F, b < w.heap.size) : Agree w w' F := fun b hm => hb.block b (h b hm)
theorem RdS.below {w w' : World} {cs : List Cl} {vs : List Value} {F : List Nat} (h : RdS w cs vs F) (hb : Below w.heap.size w w') : RdS w' cs vs F := h.agree (.below hb h.lt)
theorem RdM.get {w : World} : ∀ {cs : List Cl} {b off : Nat} {F : List Nat}, RdM w cs b off F → ∀ (i : Nat) (hi : i < cs.length), ∃ v Fi, w.cell? ⟨b, off + i, none⟩ = some v ∧ Rd w cs[i] v Fi ∧ ∀ x ∈ Fi, x ∈ F
 | [], b, off, F, h, i, hi => by simp at hi
 | c :: cs, b, off, F, h, i, hi => by
  rw [RdM] at h
  obtain ⟨v, F1, F2, hc, h1, h2, rfl⟩ := h
  cases i with
  | zero => exact ⟨v, F1, hc, h1, fun x hx => List.mem_append_left _ hx⟩
  | succ i =>
   obtain ⟨v', Fi, hc', hr, hs⟩ := RdM.get h2 i (by simpa using hi)
   refine ⟨v', Fi, ?_, hr, fun x hx => List.mem_append_right _ (hs x hx)⟩
   rw [show off + (i + 1) = off + 1 + i by omega]; exact hc'
def ints (l : List Int) : Cl := .row 1 (l.map (.int .i64))
def intss (l : List (List Int)) : Cl := .row 1 (l.map ints)
structure RdI (w : World) (a : Option Addr) (len : Nat) (zs : List Int) (F : List Nat) : Prop where
 length : zs.length = len
 cells : (len = 0 ∧ F = []) ∨ ∃ b off, 0 < len ∧ a = some ⟨b, off, none⟩ ∧ F = [b] ∧ ∀ i, i < len → w.cell? ⟨b, off + i, none⟩ = some (.int .i64 (zs.getD i 0))
theorem rdM_ints {w : World} : ∀ {l : List Int} {b off : Nat} {F : List Nat}, RdM w (l.map (.int .i64)) b off F ↔ F = [] ∧ ∀ i, i < l.length → w.cell? ⟨b, off + i, none⟩ = some (.int .i64 (l.getD i 0))
 | [], b, off, F => by simp [RdM]
 | n :: l, b, off, F => by
  rw [List.map_cons, RdM]
  constructor
  ·
   rintro ⟨v, F1, F2, hc, h1, h2, rfl⟩
   rw [Rd] at h1
   obtain ⟨rfl, rfl⟩ := h1
   obtain ⟨rfl, h⟩ := rdM_ints.1 h2
   refine ⟨rfl, fun i hi => ?_⟩
   cases i with
   | zero => simpa using hc
   | succ i =>
    have := h i (by simpa using hi)
    rw [show off + (i + 1) = off + 1 + i by omega, this]; simp
  ·
   rintro ⟨rfl, h⟩
   refine ⟨.int .i64 n, [], [], by simpa using h 0 (by simp), by simp [Rd], rdM_ints.2 ⟨rfl, fun i hi => ?_⟩, rfl⟩
   have := h (i + 1) (by simpa using hi)
   rw [show off + (i + 1) = off + 1 + i by omega] at this; simpa using this
theorem rd_ints {w : World} {l : List Int} {v : Value} {F : List Nat} : Rd w (ints l) v F ↔ ∃ a len cap, v = .slice a len cap ∧ RdI w a len l F := by
 rw [ints, Rd]
 constructor
 ·
  rintro ⟨a, len, cap, rfl, hl, h0 | ⟨b, off, F', hn, rfl, rfl, hm⟩⟩
  ·
   simp at hl h0
   exact ⟨a, len, cap, rfl, by omega, .inl ⟨by simp [h0.1] at hl; omega, h0.2⟩⟩
  ·
   obtain ⟨rfl, h⟩ := rdM_ints.1 hm
   simp at hl hn
   refine ⟨_, len, cap, rfl, by omega, .inr ⟨b, off, ?_, rfl, rfl, fun i hi => h i (by omega)⟩⟩
   have : l.length ≠ 0 := fun e => hn (List.eq_nil_of_length_eq_zero e)
   omega
 ·
  rintro ⟨a, len, cap, rfl, hl, ⟨h0, hF⟩ | ⟨b, off, hp, rfl, rfl, h⟩⟩
  ·
   exact ⟨a, len, cap, rfl, by simp [hl], .inl ⟨by simp; exact List.eq_nil_of_length_eq_zero (by omega), hF⟩⟩
  ·
   refine ⟨_, len, cap, rfl, by simp [hl], .inr ⟨b, off, [], ?_, rfl, rfl, rdM_ints.2 ⟨rfl, fun i hi => h i (by omega)⟩⟩⟩
   intro e; simp at e; subst e; simp at hl; omega
theorem RdI.below {w w' : World} {a : Option Addr} {len : Nat} {zs : List Int} {F : List Nat} (h : RdI w a len zs F) (hb : Below w.heap.size w w') : RdI w' a len zs F := by
 refine ⟨h.length, ?_⟩
 rcases h.cells with h0 | ⟨b, off, hp, ha, hF, hc⟩
 ·
  exact .inl h0
 ·
  refine .inr ⟨b, off, hp, ha, hF, fun i hi => ?_⟩
  have h1 := hc i hi
  rw [hb.cell (p := ⟨b, off + i, none⟩) (World.block_lt_of_cell? _ _ h1)]
  exact h1
theorem RdI.agree {w w' : World} {a : Option Addr} {len : Nat} {zs : List Int} {F : List Nat} (h : RdI w a len zs F) (hb : Agree w w' F) : RdI w' a len zs F := by
 refine ⟨h.length, ?_⟩
 rcases h.cells with h0 | ⟨b, off, hp, ha, rfl, hc⟩
 ·
  exact .inl h0
 ·
  exact .inr ⟨b, off, hp, ha, rfl, fun i hi => (World.cell?_of_block (w := w) (a := ⟨b, off + i, none⟩) (hb b (by simp))).trans (hc i hi)⟩
structure RdII (w : World) (a : Option Addr) (len : Nat) (zss : List (List Int)) (F : List Nat) : Prop where
 length : zss.length = len
 cells : (len = 0 ∧ F = []) ∨ ∃ b off F', 0 < len ∧ a = some ⟨b, off, none⟩ ∧ F = b :: F' ∧ RdM w (zss.map ints) b off F'
theorem rd_intss {w : World} {l : List (List Int)} {v : Value} {F : List Nat} : Rd w (intss l) v F ↔ ∃ a len cap, v = .slice a len cap ∧ RdII w a len l F := by
 rw [intss, Rd]
 constructor
 ·
  rintro ⟨a, len, cap, rfl, hl, h0 | ⟨b, off, F', hn, rfl, rfl, hm⟩⟩
  ·
   simp at hl h0
   exact ⟨a, len, cap, rfl, by omega, .inl ⟨by simp [h0.1] at hl; omega, h0.2⟩⟩
  ·
   simp at hl hn
   refine ⟨_, len, cap, rfl, by omega, .inr ⟨b, off, F', ?_, rfl, rfl, hm⟩⟩
   have : l.length ≠ 0 := fun e => hn (List.eq_nil_of_length_eq_zero e)
   omega
 ·
  rintro ⟨a, len, cap, rfl, hl, ⟨h0, hF⟩ | ⟨b, off, F', hp, rfl, rfl, h⟩⟩
  ·
   exact ⟨a, len, cap, rfl, by simp [hl], .inl ⟨by simp; exact List.eq_nil_of_length_eq_zero (by omega), hF⟩⟩
  ·
   refine ⟨_, len, cap, rfl, by simp [hl], .inr ⟨b, off, F', ?_, rfl, rfl, h⟩⟩
   intro e; simp at e; subst e; simp at hl; omega
theorem RdII.row {w : World} {b off len : Nat} {zss : List (List Int)} {F : List Nat} (h : RdM w (zss.map ints) b off F) (hl : zss.length = len) (i : Nat) (hi : i < len) :
 ∃ a n cap Fi, w.cell? ⟨b, off + i, none⟩ = some (.slice a n cap) ∧ RdI w a n (zss.getD i []) Fi ∧ ∀ x ∈ Fi, x ∈ F := by
 obtain ⟨v, Fi, hc, hr, hs⟩ := h.get i (by simpa using (by omega : i < zss.length))
 rw [List.getElem_map] at hr
 obtain ⟨a, n, cap, rfl, hr2⟩ := rd_ints.1 hr
 have e : zss.getD i [] = zss[i]'(by omega) := by rw [List.getD_eq_getElem?_getD, List.getElem?_eq_getElem (by omega)]; rfl
 exact ⟨a, n, cap, Fi, hc, by rw [e]; exact hr2, hs⟩
end Go.Proofs.YtjnamoppcklomaaGreat
