/- Agents as the laws take them: their blocks in one list, marked, in a variable. No statement of the seat is proved here. -/
import Derived.Test.YtjndcfamfminkarAgHelp
import Derived.Test.YtjndcfamfminkarAgOpen
import Derived.Test.YtjndcfamfminkarItsMark
import Derived.Test.YtjndcfamfminkarFrVar
namespace Go.Proofs.Ytjndcfamfminkar
open Go.RowKit Go.WideShapes Go.ChangeShapes Go.ChangeAt
/-- An agent's value that can be read; F: its blocks. -/
def RdA (w : World) (v : Value) (x : Ag) (F : List Nat) : Prop := ∃ F1 F2, F = F1 ++ F2 ∧ RdAg w v x F1 F2
theorem RdA.agree {w w' : World} {v : Value} {x : Ag} {F : List Nat} (h : RdA w v x F) (ha : Agree w w' F) : RdA w' v x F := by
  obtain ⟨F1, F2, rfl, h⟩ := h
  exact ⟨F1, F2, rfl, h.agree (fun b hb => ha b (List.mem_append_left _ hb)) (fun b hb => ha b (List.mem_append_right _ hb))⟩
theorem RdA.lt {w : World} {v : Value} {x : Ag} {F : List Nat} (h : RdA w v x F) : ∀ b ∈ F, b < w.heap.size := by
  obtain ⟨F1, F2, rfl, h⟩ := h
  exact fun b hb => (List.mem_append.1 hb).elim (h.lt1 b) (h.lt2 b)
theorem RdA.below {w w' : World} {v : Value} {x : Ag} {F : List Nat} (h : RdA w v x F) (hb : Below w.heap.size w w') : RdA w' v x F := h.agree (.below hb h.lt)
theorem RdA.cells {w : World} {v : Value} {x : Ag} {F : List Nat} (h : RdA w v x F) : ∃ cs : Array Value, v = .agg cs ∧ cs.size = 7 ∧ cs.all (·.oneCell') = true := by
  obtain ⟨F1, F2, rfl, h⟩ := h
  exact h.cells
def Ag.vast (x : Ag) : Prop := (∀ y ∈ x.sealed, y.sk.vast) ∧ x.sealed.length ≤ 9223372036854775807 ∧ x.taken.length ≤ 9223372036854775807
def Ag.fits (x : Ag) : Prop := x.size ≤ 1048576
def Ag.wide (x : Ag) : Prop := (∀ y ∈ x.sealed, y.sk.wide) ∧ x.sealed.length ≤ 1048576 ∧ x.taken.length ≤ 2097152
theorem Ag.fits.len {x : Ag} (h : x.fits) : x.sealed.length ≤ 1048576 ∧ x.taken.length ≤ 1048576 := by
  have := itsSize_nonneg x.sealed
  unfold Ag.fits Ag.size at h
  omega
theorem Ag.fits.each {x : Ag} (h : x.fits) : ∀ y ∈ x.sealed, y.sk.fits := fun y hy => by
  have := itsSize_mem hy
  unfold Ag.fits Ag.size at h
  exact Sk.fits_of (by omega)
theorem Ag.fits.wide {x : Ag} (h : x.fits) : x.wide := ⟨fun y hy => (h.each y hy).wide, h.len.1, by have := h.len.2; omega⟩
def Ag.many (x : Ag) : Int := itsMany x.sealed + 2 * x.taken.length
def Ag.marked (k : Int) (x : Ag) : Ag := ⟨x.id, x.epoch, x.live, x.granted, itsMark k x.sealed, markP (k + itsMany x.sealed) x.taken.length, x.next⟩
theorem Ag.many_nonneg (x : Ag) : 0 ≤ x.many := by have := itsMany_nonneg x.sealed; unfold Ag.many; omega
theorem itsMany_size : ∀ xs : List It, itsMany xs ≤ 8 * xs.length + itsSize xs
  | [] => by simp [itsMany, itsSize, sumOfL]
  | y :: xs => by
    have h := itsMany_size xs
    have h0 := sumLen_nonneg y.sk.rows
    have h1 : y.sk.many ≤ y.sk.size := by unfold Sk.size Sk.many; omega
    unfold itsSize at h ⊢
    simp only [itsMany, sumOfL, List.length_cons, It.manyS]
    omega
theorem Ag.fits.many {x : Ag} (h : x.fits) : x.many ≤ 8388608 := by
  have h1 := itsMany_size x.sealed
  have h2 := itsSize_nonneg x.sealed
  unfold Ag.fits Ag.size at h
  unfold Ag.many
  omega
structure MarkedA (B : Nat) (w : World) (v : Value) (k : Int) (x : Ag) (F : List Nat) (w' : World) : Prop where
  rd : RdA w' v (x.marked k) F
  own : Own B w' F
  only : Only F w w'
theorem agSize {cs : Array Value} (h : cs.size = 7) : (Try.prog.info? 25).map (·.size) = some cs.size := by rw [h]; kernel_rfl
theorem lagSize {cs : Array Value} (h : cs.size = 7) : (Try.prog.info? 34).map (·.size) = some cs.size := by rw [h]; kernel_rfl
set_option maxRecDepth 200000 in
theorem toA_any (v : Value) (x : Ag) (F : List Nat) (w : World) (h : RdA w v x F) (hf : x.fits) :
    Calls Try.prog 16 #[v] w fun e w' => ∃ v' G, e = .returned v' ∧ RdA w' v' x G ∧ Own w.heap.size w' G ∧ Below w.heap.size w w' := by
  obtain ⟨F1, F2, rfl, h⟩ := h
  refine (toAgent_any v x F1 F2 w h hf.len.1 hf.each hf.len.2).mono ?_
  rintro e w' ⟨v', F', G', he, hr, ho, ho', hd, hb⟩
  exact ⟨v', F' ++ G', he, ⟨F', G', rfl, hr⟩, ho.app ho' hd, hb⟩
set_option maxRecDepth 100000 in
theorem open_A {H : Type} {enc : TypeId × Value → H} {W : World} {base : Nat} {v : Value} {d : DataW H} {p : List MemPlace} (hv : Value.okWide Try.prog W .any base 34 v) (h : DataW.Trod enc Try.prog W 0 (fun _ => true) true 34 v d p) :
    ∃ x F, RdA W v x F ∧ x.vast := by
  obtain ⟨x, F, G, h1, h2, h3, h4⟩ := open_agent hv h
  exact ⟨x, F ++ G, ⟨F, G, rfl, h1⟩, h2, h3, h4⟩
set_option maxRecDepth 200000 in
theorem szA_vast (v : Value) (x : Ag) (F : List Nat) (left : Int) (w : World) (h : RdA w v x F) (hw : x.vast) (hl0 : 0 ≤ left) (hl1 : left ≤ 1048576) :
    Calls Try.prog 13 #[v, .int .i64 left] w fun e w' => (∃ r, e = .returned (.int .i64 r) ∧ r ≤ left ∧ (0 ≤ r → r = left - x.size ∧ x.size ≤ left) ∧ (r < 0 → left < x.size)) ∧ Below w.heap.size w w' := by
  obtain ⟨F1, F2, rfl, h⟩ := h
  exact szAgent_vast v x F1 F2 left w h hw.1 hw.2.1 hw.2.2 hl0 hl1
set_option maxRecDepth 200000 in
theorem eqA_any (v u : Value) (x y : Ag) (F G : List Nat) (w : World) (h : RdA w v x F) (k : RdA w u y G) (hw : x.wide) (kw : y.wide) :
    Calls Try.prog 10 #[v, u] w fun e w' => e = .returned (.bool (decide (x = y))) ∧ Below w.heap.size w w' := by
  obtain ⟨F1, F2, rfl, h⟩ := h
  obtain ⟨G1, G2, rfl, k⟩ := k
  exact eqAgent_any v u x y F1 F2 G1 G2 w h k hw.1 kw.1 (by have := hw.2.1; omega) (by have := kw.2.1; omega) (by have := hw.2.2; omega) (by have := kw.2.2; omega)
set_option maxRecDepth 200000 in
set_option maxHeartbeats 1000000 in
theorem markA_any (B : Nat) (v : Value) (x : Ag) (F : List Nat) (k : Int) (w : World) (h : RdA w v x F) (ho : Own B w F) (hw : x.wide) (hk0 : 0 ≤ k) (hk1 : k + x.many ≤ 1000000000000) :
    Calls Try.prog 11 #[v, .int .i64 k] w fun e w' => e = .returned (.int .i64 (k + x.many)) ∧ MarkedA B w v k x F w' := by
  obtain ⟨F1, F2, rfl, a1, n1, c1, a2, n2, c2, rfl, hL, hP, hc1, hc2⟩ := h
  have hm0 := itsMany_nonneg x.sealed
  have HM : Hid (x.many = itsMany x.sealed + 2 * (n2 : Int) ∧ k + x.many ≤ 1000000000000 ∧ 0 ≤ itsMany x.sealed) := ⟨by unfold Ag.many; rw [hP.length], hk1, hm0⟩
  have HW : Hid (∀ y ∈ x.sealed, y.sk.wide) := hw.1
  have hl1 : n1 ≤ 1048576 := by rw [← hL.length]; exact hw.2.1
  have hl2 : n2 ≤ 2097152 := by rw [← hP.length]; exact hw.2.2
  have HCP : Hid (Capd a1 n1 c1 ∧ Capd a2 n2 c2) := ⟨hc1, hc2⟩
  have HB : Hid (Below w.heap.size w (w.alloc (.cells #[.int .i64 x.id, .int .i64 x.epoch, .bool x.live, .int .i64 x.granted, .slice a1 n1 c1, .slice a2 n2 c2, .int .i64 x.next] 25)) ∧ Blk (w.alloc (.cells #[.int .i64 x.id, .int .i64 x.epoch, .bool x.live, .int .i64 x.granted, .slice a1 n1 c1, .slice a2 n2 c2, .int .i64 x.next] 25)) w.heap.size #[.int .i64 x.id, .int .i64 x.epoch, .bool x.live, .int .i64 x.granted, .slice a1 n1 c1, .slice a2 n2 c2, .int .i64 x.next] 25) := ⟨Below.allocW _ (Below.refl _ _) (Nat.le_refl _), Blk.made _ _ _⟩
  have HR : Hid (RdL itK w a1 n1 x.sealed F1 ∧ RdP w a2 n2 x.taken F2) := ⟨hL, hP⟩
  have HO : Hid (Own B w F1 ∧ Own B w F2 ∧ ∀ b ∈ F1, b ∉ F2) := ⟨ho.left, ho.right, ho.apart⟩
  clear hL hP ho hw hk1 hm0 hc1 hc2
  go_enter Try.func11, Try.ntmps11
  go_wp2_with fail
  refine (markItemS_any B a1 n1 c1 x.sealed F1 k _ (HR.out.1.below HB.out.1) (HO.out.1.below HR.out.1.lt HB.out.1) HW.out hl1 hk0 (by have := HM.out; omega)).mono ?_
  rintro e w1 ⟨rfl, m1⟩
  have H1 : Hid (MarkedL B (w.alloc (.cells #[.int .i64 x.id, .int .i64 x.epoch, .bool x.live, .int .i64 x.granted, .slice a1 n1 c1, .slice a2 n2 c2, .int .i64 x.next] 25)) a1 n1 k x.sealed F1 w1) := m1
  have HX1 : Hid (Blk w1 w.heap.size #[.int .i64 x.id, .int .i64 x.epoch, .bool x.live, .int .i64 x.granted, .slice a1 n1 c1, .slice a2 n2 c2, .int .i64 x.next] 25) := m1.only.blk HB.out.2 (fun hx => by have := HR.out.1.lt _ hx; omega)
  have a2' := m1.only.agree (fun b hb => Nat.lt_of_lt_of_le (HR.out.2.lt b hb) HB.out.1.size) (fun b hb hx => HO.out.2.2 b hx hb)
  have HR2 : Hid (RdP w1 a2 n2 x.taken F2 ∧ Own B w1 F2) := ⟨(HR.out.2.below HB.out.1).agree a2', (HO.out.2.1.below HR.out.2.lt HB.out.1).agree a2'⟩
  have c5 := HX1.out.cell 5
  simp only [aT, aS, aZ] at c5
  clear m1 a2'
  obtain ⟨y1, hy1⟩ : ∃ y, y = k + itsMany x.sealed := ⟨_, rfl⟩
  rw [← hy1]
  have HY1 : Hid (y1 = k + itsMany x.sealed) := hy1
  have y10 : 0 ≤ y1 := by have := HM.out.2.2; omega
  clear hy1
  go_wp2_with fail
  refine (markSpanS_any B a2 n2 c2 (flat x.taken) F2 y1 _ HR2.out.1.rd HR2.out.2 y10 (by have := HM.out; have := HY1.out; omega)).mono ?_
  rintro e w2 ⟨rfl, m2⟩
  have H2 : Hid (MarkedP B w1 a2 n2 y1 F2 w2) := m2
  clear m2
  obtain ⟨y2, hy2⟩ : ∃ y, y = y1 + 2 * (n2 : Int) := ⟨_, rfl⟩
  rw [← hy2]
  have HY2 : Hid (y2 = y1 + 2 * (n2 : Int)) := hy2
  clear hy2
  go_wp2
  go_ret
  have ag1 := H2.out.only.agree H1.out.rd.lt (fun b hb hx => HO.out.2.2 b hb hx)
  have hlen := HR.out.2.length
  refine ⟨ret_int (by have := HM.out; have := HY1.out; have := HY2.out; omega), ⟨⟨F1, F2, rfl, a1, n1, c1, a2, n2, c2, rfl, H1.out.rd.agree ag1, ⟨by show (markP (k + itsMany x.sealed) x.taken.length).length = n2; rw [markP_length]; exact hlen, ?_⟩, HCP.out.1, HCP.out.2⟩, ?_, ?_⟩⟩
  · show RdI w2 a2 (2 * n2) (flat (markP (k + itsMany x.sealed) x.taken.length)) F2
    rw [flat_markP, hlen, ← HY1.out]
    exact H2.out.rd
  · exact (H1.out.own.agree ag1).app H2.out.own HO.out.2.2
  · exact (((Only.of_below HB.out.1).trans (H1.out.only.mono (fun x hx => List.mem_append_left _ hx))).trans (H2.out.only.mono (fun x hx => List.mem_append_right _ hx)))
set_option maxRecDepth 200000 in
set_option maxHeartbeats 1000000 in
theorem heldA_any (v : Value) (x : Ag) (F : List Nat) (k : Int) (w : World) (h : RdA w v (x.marked k) F) (hw : x.wide) (hk0 : 0 ≤ k) (hk1 : k + x.many ≤ 1000000000000) :
    Calls Try.prog 12 #[v, .int .i64 k] w fun e w' => e = .returned (.int .i64 (k + x.many)) ∧ Below w.heap.size w w' := by
  obtain ⟨F1, F2, rfl, a1, n1, c1, a2, n2, c2, rfl, hL, hP, hc1, hc2⟩ := h
  have hm0 := itsMany_nonneg x.sealed
  have hlen : x.taken.length = n2 := by have := hP.length; unfold Ag.marked at this; rw [markP_length] at this; exact this
  have hlen1 : x.sealed.length = n1 := by have := hL.length; unfold Ag.marked at this; rw [itsMark_length] at this; exact this
  have HM : Hid (x.many = itsMany x.sealed + 2 * (n2 : Int) ∧ k + x.many ≤ 1000000000000 ∧ 0 ≤ itsMany x.sealed) := ⟨by unfold Ag.many; rw [hlen], hk1, hm0⟩
  have HW : Hid (∀ y ∈ x.sealed, y.sk.wide) := hw.1
  have hl1 : n1 ≤ 1048576 := by rw [← hlen1]; exact hw.2.1
  have hl2 : n2 ≤ 2097152 := by rw [← hlen]; exact hw.2.2
  have hp2 : RdI w a2 (2 * n2) (marksI (k + itsMany x.sealed) (2 * n2)) F2 := by
    have := hP.rd
    unfold Ag.marked at this
    rw [flat_markP, hlen] at this
    exact this
  have HB : Hid (Below w.heap.size w (w.alloc (.cells #[.int .i64 (x.marked k).id, .int .i64 (x.marked k).epoch, .bool (x.marked k).live, .int .i64 (x.marked k).granted, .slice a1 n1 c1, .slice a2 n2 c2, .int .i64 (x.marked k).next] 25)) ∧ Blk (w.alloc (.cells #[.int .i64 (x.marked k).id, .int .i64 (x.marked k).epoch, .bool (x.marked k).live, .int .i64 (x.marked k).granted, .slice a1 n1 c1, .slice a2 n2 c2, .int .i64 (x.marked k).next] 25)) w.heap.size #[.int .i64 (x.marked k).id, .int .i64 (x.marked k).epoch, .bool (x.marked k).live, .int .i64 (x.marked k).granted, .slice a1 n1 c1, .slice a2 n2 c2, .int .i64 (x.marked k).next] 25) := ⟨Below.allocW _ (Below.refl _ _) (Nat.le_refl _), Blk.made _ _ _⟩
  have HR : Hid (RdL itK w a1 n1 (itsMark k x.sealed) F1 ∧ RdI w a2 (2 * n2) (marksI (k + itsMany x.sealed) (2 * n2)) F2) := ⟨hL, hp2⟩
  clear hL hP hw hk1 hm0 hc1 hc2 hlen hlen1 hp2
  go_enter Try.func12, Try.ntmps12
  go_wp2_with fail
  refine (heldItemS_any a1 n1 c1 x.sealed F1 k _ (HR.out.1.below HB.out.1) HW.out hl1 hk0 (by have := HM.out; omega)).mono ?_
  rintro e w1 ⟨rfl, hb1⟩
  have HB1 : Hid (Below w.heap.size w w1 ∧ Blk w1 w.heap.size #[.int .i64 (x.marked k).id, .int .i64 (x.marked k).epoch, .bool (x.marked k).live, .int .i64 (x.marked k).granted, .slice a1 n1 c1, .slice a2 n2 c2, .int .i64 (x.marked k).next] 25) := ⟨Below.next HB.out.1 hb1, HB.out.2.below hb1⟩
  have c5 := HB1.out.2.cell 5
  simp only [aT, aS, aZ] at c5
  obtain ⟨y1, hy1⟩ : ∃ y, y = k + itsMany x.sealed := ⟨_, rfl⟩
  rw [← hy1]
  have HY1 : Hid (y1 = k + itsMany x.sealed) := hy1
  have y10 : 0 ≤ y1 := by have := HM.out.2.2; omega
  have y1n : decide (y1 < 0) = false := dec_false (by omega)
  clear hy1 hb1
  go_wp2_with fail
  refine (heldSpanS_any a2 n2 c2 F2 y1 _ (by rw [HY1.out]; exact HR.out.2.below HB1.out.1) y10 (by have := HM.out; have := HY1.out; omega)).mono ?_
  rintro e w2 ⟨rfl, hb2⟩
  have HB2 : Hid (Below w.heap.size w w2) := Below.next HB1.out.1 hb2
  obtain ⟨y2, hy2⟩ : ∃ y, y = y1 + 2 * (n2 : Int) := ⟨_, rfl⟩
  rw [← hy2]
  have HY2 : Hid (y2 = k + x.many) := by have := HM.out.1; have := HY1.out; show _ = _; omega
  have y20 : 0 ≤ y2 := by omega
  have y2n : decide (y2 < 0) = false := dec_false (by omega)
  clear hy2 hb2
  go_wp2
  go_ret
  exact ⟨ret_int HY2.out, HB2.out⟩
structure VarA (W : World) (lo hi g : Nat) (cs : Array Value) (s : Ag) (F : List Nat) : Prop where
  blk : Blk W g cs 25
  rd : RdA W (.agg cs) s F
  sz : cs.size = 7
  own : Own lo W F
  lt : ∀ b ∈ F, b < hi
  ge : lo ≤ g
  glt : g < hi
  apart : g ∉ F
theorem VarA.below {W W' : World} {lo hi g : Nat} {cs : Array Value} {s : Ag} {F : List Nat} (h : VarA W lo hi g cs s F) (b : Below W.heap.size W W') : VarA W' lo hi g cs s F :=
  ⟨h.blk.below b, h.rd.below b, h.sz, h.own.below h.rd.lt b, h.lt, h.ge, h.glt, h.apart⟩
theorem VarA.fresh {w0 w1 W : World} {cs : Array Value} {s : Ag} {F : List Nat} (r : RdA w1 (.agg cs) s F) (o : Own w0.heap.size w1 F) (b : Below w0.heap.size w0 w1) (sz : cs.size = 7) (k : Blk W w1.heap.size cs 25) (b2 : Below w1.heap.size w1 W) : VarA W w0.heap.size W.heap.size w1.heap.size cs s F :=
  ⟨k, r.below b2, sz, o.below r.lt b2, fun x hx => by have := r.lt x hx; have := b2.size; omega, b.size, k.lt, fun hx => by have := r.lt _ hx; omega⟩
theorem VarA.only {W W' : World} {lo hi g lo' hi' g' : Nat} {cs ds : Array Value} {s t : Ag} {F G : List Nat} (h : VarA W lo hi g cs s F) (k : VarA W lo' hi' g' ds t G) (o : Only G W W') (hd : hi ≤ lo' ∨ hi' ≤ lo) : VarA W' lo hi g cs s F := by
  have d : ∀ b ∈ F, b ∉ G := fun b hb hg => by have := h.lt b hb; have := h.own.ge b hb; have := k.lt b hg; have := k.own.ge b hg; omega
  have e : g ∉ G := fun hg => by have := h.ge; have := h.glt; have := k.lt g hg; have := k.own.ge g hg; omega
  exact ⟨h.blk.agree (o.block g h.blk.lt e), h.rd.agree (o.agree h.rd.lt d), h.sz, h.own.agree (o.agree h.rd.lt d), h.lt, h.ge, h.glt, h.apart⟩
theorem VarA.only' {W W' : World} {lo hi g lo' hi' : Nat} {cs : Array Value} {s : Ag} {F G : List Nat} (h : VarA W lo hi g cs s F) (o : Only G W W') (kl : ∀ b ∈ G, b < hi') (kg : ∀ b ∈ G, lo' ≤ b) (hd : hi ≤ lo' ∨ hi' ≤ lo) : VarA W' lo hi g cs s F := by
  have d : ∀ b ∈ F, b ∉ G := fun b hb hg => by have := h.lt b hb; have := h.own.ge b hb; have := kl b hg; have := kg b hg; omega
  have e : g ∉ G := fun hg => by have := h.ge; have := h.glt; have := kl g hg; have := kg g hg; omega
  exact ⟨h.blk.agree (o.block g h.blk.lt e), h.rd.agree (o.agree h.rd.lt d), h.sz, h.own.agree (o.agree h.rd.lt d), h.lt, h.ge, h.glt, h.apart⟩
theorem VarA.bel {w W W' : World} {lo' hi' g' : Nat} {ds : Array Value} {t : Ag} {G : List Nat} (k : VarA W lo' hi' g' ds t G) (o : Only G W W') (h : Below w.heap.size w W) (hb : w.heap.size ≤ lo') : Below w.heap.size w W' :=
  o.below h h.size (fun b hg => by have := k.own.ge b hg; omega)
theorem varA_stored {W : World} {lo g : Nat} {old rr : Array Value} {s : Ag} {X : List Nat} (k : Blk W g old 25) (r : RdA W (.agg rr) s X) (sz : rr.size = 7) (o : Own lo W X) (lt : ∀ b ∈ X, b < W.heap.size) (ge : lo ≤ g) (ap : g ∉ X) : VarA (W.setRow g rr) lo (W.setRow g rr).heap.size g rr s X := by
  have ag : Agree W (W.setRow g rr) X := fun b hb => setRow_other W _ b _ (fun e => ap (e ▸ hb))
  have hs : (W.setRow g rr).heap.size = W.heap.size := by simp
  exact ⟨k.setRow, r.agree ag, sz, o.agree ag, by rw [hs]; exact lt, ge, by rw [hs]; exact k.lt, ap⟩
theorem VarA.mark {W W' : World} {lo hi g : Nat} {cs : Array Value} {s : Ag} {F : List Nat} {k : Int} (h : VarA W lo hi g cs s F) (m : MarkedA lo W (.agg cs) k s F W') : VarA W' lo hi g cs (s.marked k) F :=
  ⟨h.blk.agree (m.only.block g h.blk.lt h.apart), m.rd, h.sz, m.own, h.lt, h.ge, h.glt, h.apart⟩
end Go.Proofs.Ytjndcfamfminkar
