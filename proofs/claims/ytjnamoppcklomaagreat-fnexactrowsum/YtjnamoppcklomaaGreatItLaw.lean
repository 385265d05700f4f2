/- What the laws over items and entries share. No statement of the seat is proved here. -/
import Derived.Test.YtjnamoppcklomaaGreatItOpen
import Derived.Test.YtjnamoppcklomaaGreatItModel
namespace Go.Proofs.YtjnamoppcklomaaGreat
open Go.RowKit Go.WideShapes Go.ChangeShapes Go.ChangeAt
theorem RdIt.cells {w : World} {v : Value} {x : It} {F : List Nat} (h : RdIt w v x F) : ∃ cs : Array Value, v = .agg cs ∧ cs.size = 11 ∧ cs.all (·.oneCell') = true := by
  obtain ⟨a1, n1, c1, a2, n2, c2, a3, n3, c3, rfl, _⟩ := h
  exact ⟨_, rfl, rfl, by simp [Value.oneCell']⟩
/-- An entry's value that can be read; F: its blocks. -/
def RdE (w : World) (v : Value) (x : En) (F : List Nat) : Prop := ∃ F1 F2, F = F1 ++ F2 ∧ RdEn w v x F1 F2
theorem RdE.agree {w w' : World} {v : Value} {x : En} {F : List Nat} (h : RdE w v x F) (ha : Agree w w' F) : RdE w' v x F := by
  obtain ⟨F1, F2, rfl, h⟩ := h
  exact ⟨F1, F2, rfl, h.agree (fun b hb => ha b (List.mem_append_left _ hb)) (fun b hb => ha b (List.mem_append_right _ hb))⟩
theorem RdE.lt {w : World} {v : Value} {x : En} {F : List Nat} (h : RdE w v x F) : ∀ b ∈ F, b < w.heap.size := by
  obtain ⟨F1, F2, rfl, h⟩ := h
  exact fun b hb => (List.mem_append.1 hb).elim (h.lt1 b) (h.lt2 b)
theorem RdE.below {w w' : World} {v : Value} {x : En} {F : List Nat} (h : RdE w v x F) (hb : Below w.heap.size w w') : RdE w' v x F := h.agree (.below hb h.lt)
theorem RdE.cells {w : World} {v : Value} {x : En} {F : List Nat} (h : RdE w v x F) : ∃ cs : Array Value, v = .agg cs ∧ cs.size = 10 ∧ cs.all (·.oneCell') = true := by
  obtain ⟨F1, F2, rfl, b, l, c, a1, n1, c1, a2, n2, c2, a3, n3, c3, rfl, _⟩ := h
  exact ⟨_, rfl, rfl, by simp [Value.oneCell']⟩
def It.vast (x : It) : Prop := x.sk.vast
def It.fits (x : It) : Prop := x.sk.fits
def It.wide (x : It) : Prop := x.sk.wide
theorem It.fits.wide {x : It} (h : x.fits) : x.wide := Sk.fits.wide h
def En.vast (x : En) : Prop := x.sk.vast ∧ x.ids.length ≤ 9223372036854775807
def En.fits (x : En) : Prop := x.sk.fits ∧ x.ids.length ≤ 1048576
def En.wide (x : En) : Prop := x.sk.wide ∧ x.ids.length ≤ 1048576
theorem En.fits.wide {x : En} (h : x.fits) : x.wide := ⟨h.1.wide, h.2⟩
theorem It.fits_of {x : It} {r left : Int} (h : r = left - x.sk.size) (h0 : 0 ≤ r) (hl : left ≤ 1048576) : x.fits := Sk.fits_of (by omega)
theorem En.fits_of {x : En} {r left : Int} (h : r = left - x.ids.length - x.sk.size ∧ (x.ids.length : Int) ≤ left ∧ x.sk.size ≤ left) (_h0 : 0 ≤ r) (hl : left ≤ 1048576) : x.fits := ⟨Sk.fits_of (by omega), by omega⟩
theorem enSize {cs : Array Value} (h : cs.size = 10) : (Tryz.prog.info? 33).map (·.size) = some cs.size := by rw [h]; kernel_rfl
set_option maxRecDepth 200000 in
theorem toE_any (v : Value) (x : En) (F : List Nat) (w : World) (h : RdE w v x F) (hf : x.fits) :
    Calls Tryz.prog 92 #[v] w fun e w' => ∃ v' G, e = .returned v' ∧ RdE w' v' x G ∧ Own w.heap.size w' G ∧ Below w.heap.size w w' := by
  obtain ⟨F1, F2, rfl, h⟩ := h
  refine (toEntry_any v x F1 F2 w h hf.1 hf.2).mono ?_
  rintro e w' ⟨v', F', G', he, hr, ho, ho', hd, hb⟩
  exact ⟨v', F' ++ G', he, ⟨F', G', rfl, hr⟩, ho.app ho' hd, hb⟩
set_option maxRecDepth 200000 in
theorem szE_vast (v : Value) (x : En) (F : List Nat) (left : Int) (w : World) (h : RdE w v x F) (hw : x.vast) (hl0 : 0 ≤ left) (hl1 : left ≤ 1048576) :
    Calls Tryz.prog 91 #[v, .int .i64 left] w fun e w' => (∃ r, e = .returned (.int .i64 r) ∧ r ≤ left ∧ (0 ≤ r → r = left - x.ids.length - x.sk.size ∧ (x.ids.length : Int) ≤ left ∧ x.sk.size ≤ left) ∧ (r < 0 → left < x.ids.length + x.sk.size)) ∧ Below w.heap.size w w' := by
  obtain ⟨F1, F2, rfl, h⟩ := h
  exact szEntry_vast v x F1 F2 left w h hw.1 hw.2 hl0 hl1
set_option maxRecDepth 200000 in
theorem eqE_any (v u : Value) (x y : En) (F G : List Nat) (w : World) (h : RdE w v x F) (k : RdE w u y G) (hw : x.wide) (kw : y.wide) :
    Calls Tryz.prog 49 #[v, u] w fun e w' => e = .returned (.bool (decide (x = y))) ∧ Below w.heap.size w w' := by
  obtain ⟨F1, F2, rfl, h⟩ := h
  obtain ⟨G1, G2, rfl, k⟩ := k
  exact eqEntry_any v u x y F1 F2 G1 G2 w h k hw.1 kw.1 (by have := hw.2; omega) (by have := kw.2; omega)
set_option maxRecDepth 200000 in
theorem entryOkE_any (v : Value) (x : En) (F : List Nat) (w : World) (h : RdE w v x F) (hw : x.wide) :
    Calls Tryz.prog 32 #[v] w fun e w' => e = .returned (.bool x.ok) ∧ Below w.heap.size w w' := by
  obtain ⟨F1, F2, rfl, h⟩ := h
  exact entryOkSpec_any v x F1 F2 w h hw.1 (by have := hw.2; omega)
end Go.Proofs.YtjnamoppcklomaaGreat
