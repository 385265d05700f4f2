/- What the laws over frames share. No statement of the seat is proved here. -/
import Derived.Test.YtjndcfamfminkarFrOpen
import Derived.Test.YtjndcfamfminkarItLaw
namespace Go.Proofs.Ytjndcfamfminkar
open Go.RowKit Go.WideShapes Go.ChangeShapes Go.ChangeAt
/-- A frame's value that can be read; F: its blocks. -/
def RdF (w : World) (v : Value) (x : Fr) (F : List Nat) : Prop := ∃ F1 F2, F = F1 ++ F2 ∧ RdFr w v x F1 F2
theorem RdF.agree {w w' : World} {v : Value} {x : Fr} {F : List Nat} (h : RdF w v x F) (ha : Agree w w' F) : RdF w' v x F := by
  obtain ⟨F1, F2, rfl, h⟩ := h
  exact ⟨F1, F2, rfl, h.agree (fun b hb => ha b (List.mem_append_left _ hb)) (fun b hb => ha b (List.mem_append_right _ hb))⟩
theorem RdF.lt {w : World} {v : Value} {x : Fr} {F : List Nat} (h : RdF w v x F) : ∀ b ∈ F, b < w.heap.size := by
  obtain ⟨F1, F2, rfl, h⟩ := h
  exact fun b hb => (List.mem_append.1 hb).elim (h.lt1 b) (h.lt2 b)
theorem RdF.below {w w' : World} {v : Value} {x : Fr} {F : List Nat} (h : RdF w v x F) (hb : Below w.heap.size w w') : RdF w' v x F := h.agree (.below hb h.lt)
theorem RdF.cells {w : World} {v : Value} {x : Fr} {F : List Nat} (h : RdF w v x F) : ∃ cs : Array Value, v = .agg cs ∧ cs.size = 16 ∧ cs.all (·.oneCell') = true := by
  obtain ⟨F1, F2, rfl, b, l, c, a1, n1, c1, a2, n2, c2, a3, n3, c3, rfl, _⟩ := h
  exact ⟨_, rfl, rfl, by simp [Value.oneCell']⟩
def Fr.vast (x : Fr) : Prop := x.item.sk.vast ∧ x.taken.length ≤ 9223372036854775807
def Fr.fits (x : Fr) : Prop := x.item.sk.fits ∧ x.taken.length ≤ 1048576
def Fr.wide (x : Fr) : Prop := x.item.sk.wide ∧ x.taken.length ≤ 1048576
theorem Fr.fits.wide {x : Fr} (h : x.fits) : x.wide := ⟨h.1.wide, h.2⟩
theorem Fr.fits_of {x : Fr} {r left : Int} (h : r = left - x.taken.length - x.item.sk.size ∧ (x.taken.length : Int) ≤ left ∧ x.item.sk.size ≤ left) (_h0 : 0 ≤ r) (hl : left ≤ 1048576) : x.fits := ⟨Sk.fits_of (by omega), by omega⟩
theorem frSize {cs : Array Value} (h : cs.size = 16) : (Try.prog.info? 56).map (·.size) = some cs.size := by rw [h]; kernel_rfl
theorem lfrSize {cs : Array Value} (h : cs.size = 16) : (Try.prog.info? 64).map (·.size) = some cs.size := by rw [h]; kernel_rfl
set_option maxRecDepth 200000 in
theorem toF_any (v : Value) (x : Fr) (F : List Nat) (w : World) (h : RdF w v x F) (hf : x.fits) :
    Calls Try.prog 33 #[v] w fun e w' => ∃ v' G, e = .returned v' ∧ RdF w' v' x G ∧ Own w.heap.size w' G ∧ Below w.heap.size w w' := by
  obtain ⟨F1, F2, rfl, h⟩ := h
  refine (toFrame_any v x F1 F2 w h hf.1 hf.2).mono ?_
  rintro e w' ⟨v', F', G', he, hr, ho, ho', hd, hb⟩
  exact ⟨v', F' ++ G', he, ⟨F', G', rfl, hr⟩, ho.app ho' hd, hb⟩
set_option maxRecDepth 100000 in
theorem open_F {H : Type} {enc : TypeId × Value → H} {W : World} {base : Nat} {v : Value} {d : DataW H} {p : List MemPlace} (hv : Value.okWide Try.prog W .any base 64 v) (h : DataW.Trod enc Try.prog W 0 (fun _ => true) true 64 v d p) :
    ∃ x F, RdF W v x F ∧ x.vast := by
  obtain ⟨x, F, G, h1, h2, h3⟩ := open_frame hv h
  exact ⟨x, F ++ G, ⟨F, G, rfl, h1⟩, h2, h3⟩
set_option maxRecDepth 200000 in
theorem szF_vast (v : Value) (x : Fr) (F : List Nat) (left : Int) (w : World) (h : RdF w v x F) (hw : x.vast) (hl0 : 0 ≤ left) (hl1 : left ≤ 1048576) :
    Calls Try.prog 31 #[v, .int .i64 left] w fun e w' => (∃ r, e = .returned (.int .i64 r) ∧ r ≤ left ∧ (0 ≤ r → r = left - x.taken.length - x.item.sk.size ∧ (x.taken.length : Int) ≤ left ∧ x.item.sk.size ≤ left) ∧ (r < 0 → left < x.taken.length + x.item.sk.size)) ∧ Below w.heap.size w w' := by
  obtain ⟨F1, F2, rfl, h⟩ := h
  exact szFrame_vast v x F1 F2 left w h hw.1 hw.2 hl0 hl1
set_option maxRecDepth 200000 in
theorem eqF_any (v u : Value) (x y : Fr) (F G : List Nat) (w : World) (h : RdF w v x F) (k : RdF w u y G) (hw : x.wide) (kw : y.wide) :
    Calls Try.prog 28 #[v, u] w fun e w' => e = .returned (.bool (decide (x = y))) ∧ Below w.heap.size w w' := by
  obtain ⟨F1, F2, rfl, h⟩ := h
  obtain ⟨G1, G2, rfl, k⟩ := k
  exact eqFrame_any v u x y F1 F2 G1 G2 w h k hw.1 kw.1 (by have := hw.2; omega) (by have := kw.2; omega)
end Go.Proofs.Ytjndcfamfminkar
