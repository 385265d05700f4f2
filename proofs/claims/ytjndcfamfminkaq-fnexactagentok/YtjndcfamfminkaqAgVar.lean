/- Agents as the laws take them: their blocks in one list, marked, in a variable. No statement of the seat is proved here. -/
import Derived.Test.YtjndcfamfminkaqAgHelp
import Derived.Test.YtjndcfamfminkaqAgOpen
import Derived.Test.YtjndcfamfminkaqItsMark
import Derived.Test.YtjndcfamfminkaqFrVar
namespace Go.Proofs.Ytjndcfamfminkaq
open Go.RowKit Go.WideShapes Go.ChangeShapes Go.ChangeAt
/-- An agent's value that can be read; F: its blocks. -/
def RdA (w : World) (v : Value) (x : Ag) (F : List Nat) : Prop := ∃ F1 F2, F = F1 ++ F2 ∧ RdAg w v x F1 F2
theorem RdA.agree {w w' : World} {v : Value} {x : Ag} {F : List Nat} (h : RdA w v x F) (ha : Agree w w' F) : RdA w' v x F := by
  obtain ⟨F1, F2, rfl, h⟩ := h
  exact ⟨F1, F2, rfl, h.agree (fun b hb => ha b (List.mem_append_left _ hb)) (fun b hb => ha b (List.mem_append_right _ hb))⟩
theorem RdA.lt {w : World} {v : Value} {x : Ag} {F : List Nat} (h : RdA w v x F) : ∀ b ∈ F, b < w.heap.size := by
  obtain ⟨F1, F2, rfl, h⟩ := h
  exact fun b hb => (List.mem_append.1 hb).elim (h.lt1 b) (h.lt2 b)
theorem RdA.below {w w' : World} {v : Value} {x : Ag} {F : List Nat} (h : RdA w v x F) (hb : Below w.heap.size w w') : RdA w' v x F := h.agree (.below hb h.lt)
theorem RdA.cells {w : World} {v : Value} {x : Ag} {F : List Nat} (h : RdA w v x F) : ∃ cs : Array Value, v = .agg cs ∧ cs.size = 7 ∧ cs.all (·.oneCell') = true := by
  obtain ⟨F1, F2, rfl, h⟩ := h
  exact h.cells
def Ag.vast (x : Ag) : Prop := (∀ y ∈ x.sealed, y.sk.vast) ∧ x.sealed.length ≤ 9223372036854775807 ∧ x.taken.length ≤ 9223372036854775807
def Ag.fits (x : Ag) : Prop := x.size ≤ 1048576
def Ag.wide (x : Ag) : Prop := (∀ y ∈ x.sealed, y.sk.wide) ∧ x.sealed.length ≤ 1048576 ∧ x.taken.length ≤ 2097152
theorem Ag.fits.len {x : Ag} (h : x.fits) : x.sealed.length ≤ 1048576 ∧ x.taken.length ≤ 1048576 := by
  have := itsSize_nonneg x.sealed
  unfold Ag.fits Ag.size at h
  omega
theorem Ag.fits.each {x : Ag} (h : x.fits) : ∀ y ∈ x.sealed, y.sk.fits := fun y hy => by
  have := itsSize_mem hy
  unfold Ag.fits Ag.size at h
  exact Sk.fits_of (by omega)
theorem Ag.fits.wide {x : Ag} (h : x.fits) : x.wide := ⟨fun y hy => (h.each y hy).wide, h.len.1, by have := h.len.2; omega⟩
def Ag.many (x : Ag) : Int := itsMany x.sealed + 2 * x.taken.length
def Ag.marked (k : Int) (x : Ag) : Ag := ⟨x.id, x.epoch, x.live, x.granted, itsMark k x.sealed, markP (k + itsMany x.sealed) x.taken.length, x.next⟩
theorem Ag.many_nonneg (x : Ag) : 0 ≤ x.many := by have := itsMany_nonneg x.sealed; unfold Ag.many; omega
theorem itsMany_size : ∀ xs : List It, itsMany xs ≤ 8 * xs.length + itsSize xs
  | [] => by simp [itsMany, itsSize, sumOfL]
  | y :: xs => by
    have h := itsMany_size xs
    have h0 := sumLen_nonneg y.sk.rows
    have h1 : y.sk.many ≤ y.sk.size := by unfold Sk.size Sk.many; omega
    unfold itsSize at h ⊢
    simp only [itsMany, sumOfL, List.length_cons, It.manyS]
    omega
theorem Ag.fits.many {x : Ag} (h : x.fits) : x.many ≤ 8388608 := by
  have h1 := itsMany_size x.sealed
  have h2 := itsSize_nonneg x.sealed
  unfold Ag.fits Ag.size at h
  unfold Ag.many
  omega
structure MarkedA (B : Nat) (w : World) (v : Value) (k : Int) (x : Ag) (F : List Nat) (w' : World) : Prop where
  rd : RdA w' v (x.marked k) F
  own : Own B w' F
  only : Only F w w'
theorem agSize {cs : Array Value} (h : cs.size = 7) : (Try.prog.info? 66).map (·.size) = some cs.size := by rw [h]; kernel_rfl
theorem lagSize {cs : Array Value} (h : cs.size = 7) : (Try.prog.info? 61).map (·.size) = some cs.size := by rw [h]; kernel_rfl
def AgTwo (g : Nat) (cs : Array Value) (k : Nat) (ds : Array Value) (W : World) : Prop := Blk W g cs 61 ∧ Blk W k ds 66
set_option maxRecDepth 200000 in
theorem toA_any (v : Value) (x : Ag) (F : List Nat) (w : World) (h : RdA w v x F) (hf : x.fits) :
    Calls Try.prog 35 #[v] w fun e w' => ∃ v' G, e = .returned v' ∧ RdA w' v' x G ∧ Own w.heap.size w' G ∧ Below w.heap.size w w' := by
  obtain ⟨F1, F2, rfl, h⟩ := h
  refine (toAgent_any v x F1 F2 w h hf.len.1 hf.each hf.len.2).mono ?_
  rintro e w' ⟨v', F', G', he, hr, ho, ho', hd, hb⟩
  exact ⟨v', F' ++ G', he, ⟨F', G', rfl, hr⟩, ho.app ho' hd, hb⟩
set_option maxRecDepth 100000 in
theorem open_A {H : Type} {enc : TypeId × Value → H} {W : World} {base : Nat} {v : Value} {d : DataW H} {p : List MemPlace} (hv : Value.okWide Try.prog W .any base 61 v) (h : DataW.Trod enc Try.prog W 0 (fun _ => true) true 61 v d p) :
    ∃ x F, RdA W v x F ∧ x.vast := by
  obtain ⟨x, F, G, h1, h2, h3, h4⟩ := open_agent hv h
  exact ⟨x, F ++ G, ⟨F, G, rfl, h1⟩, h2, h3, h4⟩
set_option maxRecDepth 200000 in
theorem szA_vast (v : Value) (x : Ag) (F : List Nat) (left : Int) (w : World) (h : RdA w v x F) (hw : x.vast) (hl0 : 0 ≤ left) (hl1 : left ≤ 1048576) :
    Calls Try.prog 33 #[v, .int .i64 left] w fun e w' => (∃ r, e = .returned (.int .i64 r) ∧ r ≤ left ∧ (0 ≤ r → r = left - x.size ∧ x.size ≤ left) ∧ (r < 0 → left < x.size)) ∧ Below w.heap.size w w' := by
  obtain ⟨F1, F2, rfl, h⟩ := h
  exact szAgent_vast v x F1 F2 left w h hw.1 hw.2.1 hw.2.2 hl0 hl1
set_option maxRecDepth 200000 in
theorem eqA_any (v u : Value) (x y : Ag) (F G : List Nat) (w : World) (h : RdA w v x F) (k : RdA w u y G) (hw : x.wide) (kw : y.wide) :
    Calls Try.prog 37 #[v, u] w fun e w' => e = .returned (.bool (decide (x = y))) ∧ Below w.heap.size w w' := by
  obtain ⟨F1, F2, rfl, h⟩ := h
  obtain ⟨G1, G2, rfl, k⟩ := k
  exact eqAgent_any v u x y F1 F2 G1 G2 w h k hw.1 kw.1 (by have := hw.2.1; omega) (by have := kw.2.1; omega) (by have := hw.2.2; omega) (by have := kw.2.2; omega)
end Go.Proofs.Ytjndcfamfminkaq
