/- Turns that came in, that are marked; a turn in a variable of the law's own; slices of numbers that came in. No statement of the seat is proved here. -/
import Derived.Test.YthimjmkdcocofaaTuHelp
import Derived.Test.YthimjmkdcocofaaSkOpen
import Derived.Deep.Slices
namespace Go.Proofs.Ythimjmkdcocofaa
open Go.RowKit Go.WideShapes Go.ChangeShapes Go.ChangeAt Go.Deep
def Tu.marked (k : Int) (x : Tu) : Tu := { x with left := marksI k x.left.length }
theorem Tu.many_fits {x : Tu} (h : x.fits) : 0 ≤ x.many ∧ x.many ≤ 4194304 := by unfold Tu.fits at h; unfold Tu.many; omega
theorem Tu.many_wide {x : Tu} (h : x.wide) : 0 ≤ x.many ∧ x.many ≤ 4194304 := by unfold Tu.wide at h; unfold Tu.many; omega
theorem tu_laidOut : laidOutB Try.prog = true := by kernel_rfl
structure MarkedTu (B : Nat) (w : World) (v : Value) (k : Int) (x : Tu) (F : List Nat) (w' : World) : Prop where
  rd : RdTu w' v (x.marked k) F
  own : Own B w' F
  only : Only F w w'
set_option maxRecDepth 100000 in
set_option maxHeartbeats 1000000 in
theorem open_nums {H : Type} {enc : TypeId × Value → H} {W : World} {v : Value} {fuel : Nat} {z : DataW H × List MemPlace} (g : DataW.trod enc Try.prog W 0 (fun _ => true) true fuel 24 [v] = some z) :
    ∃ a n k zs F, v = .slice a n k ∧ RdI W a n zs F ∧ n ≤ 9223372036854775807 := by
  have c3 : Try.prog.cellsOf 3 = 1 := by kernel_rfl
  rcases open_ints Try.underlying24 Try.underlying3 c3 g with ⟨q, _⟩ | ⟨x, l, c, zs, q, _, hl, hm, hz, _, hcell, _⟩
  · simp at q; subst q
    exact ⟨none, 0, 0, [], [], rfl, ⟨rfl, .inl ⟨rfl, rfl⟩⟩, by omega⟩
  · simp at q; subst q
    have hz' : zs.length = c := by simpa using hz
    obtain ⟨F, hF⟩ := rdI_open (w := W) (a := some x) hz' hl (fun x' e i hi => by cases e; exact hcell i (by omega)) (fun e => by cases e)
    exact ⟨_, _, _, _, F, rfl, hF, by unfold maxLen at hm; omega⟩
theorem open_numsA {H : Type} {enc : TypeId × Value → H} {W : World} {base : Nat} {v : Value} {d : DataW H} {p : List MemPlace} (hv : Value.okWide Try.prog W .any base 24 v) (h : DataW.Trod enc Try.prog W 0 (fun _ => true) true 24 v d p) :
    ∃ a n k zs F, v = .slice a n k ∧ RdI W a n zs F ∧ n ≤ 9223372036854775807 := by
  obtain ⟨a0, len0, cap0, rfl⟩ := okWide_slice Try.underlying24 hv
  obtain ⟨fuel, hf⟩ := h
  exact open_nums hf
set_option maxRecDepth 100000 in
set_option maxHeartbeats 1000000 in
theorem open_Tu {H : Type} {enc : TypeId × Value → H} {W : World} {base : Nat} {v : Value} {d : DataW H} {p : List MemPlace} (hv : Value.okWide Try.prog W .any base 33 v) (h : DataW.Trod enc Try.prog W 0 (fun _ => true) true 33 v d p) :
    ∃ x F, RdTu W v x F ∧ x.vast := by
  obtain ⟨cs, rfl, hsz⟩ := okWide_struct Try.underlying33 hv
  have hC : Try.prog.cellsOf 33 = 3 := by kernel_rfl
  have c3 : Try.prog.cellsOf 3 = 1 := by kernel_rfl
  have c4 : Try.prog.cellsOf 24 = 1 := by kernel_rfl
  have c5 : Try.prog.cellsOf 4 = 1 := by kernel_rfl
  rw [hC] at hsz
  obtain ⟨l⟩ := cs
  match l, hsz with
  | [e0, e1, e2], _ =>
    obtain ⟨fuel, hf⟩ := h
    obtain ⟨xs, n, _, _, _, hlen, hx⟩ := DataW.trod_struct Try.underlying33 hf
    match xs, hlen with
    | [y0, y1, y2], _ =>
      have g0 := hx 0 _ rfl
      have g1 := hx 1 _ rfl
      have g2 := hx 2 _ rfl
      simp [Value.cells, c3, c4, c5] at g0 g1 g2
      clear hx
      obtain ⟨i0, q0, _, _⟩ := DataW.trod_int Try.underlying3 g0
      obtain ⟨i1, q1, _⟩ := DataW.trod_bool Try.underlying4 g1
      simp at q0 q1
      subst q0 q1
      obtain ⟨a, len, cap, ps, F, rfl, hp, hb⟩ := open_nums g2
      exact ⟨⟨i0, i1, ps⟩, F, ⟨a, len, cap, rfl, hp⟩, by show ps.length ≤ _; rw [hp.length]; exact hb⟩
set_option maxRecDepth 200000 in
set_option maxHeartbeats 1000000 in
theorem markTu_any (B : Nat) (v : Value) (x : Tu) (F : List Nat) (k : Int) (w : World) (h : RdTu w v x F) (ho : Own B w F) (hw : x.wide) (hk0 : 0 ≤ k) (hk1 : k + x.many ≤ 1000000000000) :
    Calls Try.prog 19 #[v, .int .i64 k] w fun e w' => e = .returned (.int .i64 (k + x.many)) ∧ MarkedTu B w v k x F w' := by
  obtain ⟨b, l, c, rfl, hP⟩ := h
  have HM : Hid (x.many = (l : Int) ∧ k + x.many ≤ 1000000000000) := ⟨by unfold Tu.many; rw [hP.length], hk1⟩
  have hl : l ≤ 2097152 := by rw [← hP.length]; exact hw
  have HB : Hid (Below w.heap.size w (w.alloc (.cells #[.int .i64 x.who, .bool x.fresh, .slice b l c] 26)) ∧ Blk (w.alloc (.cells #[.int .i64 x.who, .bool x.fresh, .slice b l c] 26)) w.heap.size #[.int .i64 x.who, .bool x.fresh, .slice b l c] 26) := ⟨Below.allocW _ (Below.refl _ _) (Nat.le_refl _), Blk.made _ _ _⟩
  have HR : Hid (RdI w b l x.left F ∧ Own B w F) := ⟨hP, ho⟩
  clear hP ho hw hk1
  go_enter Try.func19, Try.ntmps19
  go_wp2_with fail
  refine (markIntS_any B b l c x.left F k _ (HR.out.1.below HB.out.1) (HR.out.2.below HR.out.1.lt HB.out.1) hk0 (by have := HM.out; omega)).mono ?_
  rintro e w2 ⟨rfl, m2⟩
  have H2 : Hid (MarkedI B (w.alloc (.cells #[.int .i64 x.who, .bool x.fresh, .slice b l c] 26)) b l k F w2) := m2
  clear m2
  obtain ⟨y2, hy2⟩ : ∃ y, y = k + (l : Int) := ⟨_, rfl⟩
  rw [← hy2]
  have HY2 : Hid (y2 = k + (l : Int)) := hy2
  clear hy2
  go_wp2
  go_ret
  have hlen := HR.out.1.length
  refine ⟨ret_int (by have := HM.out; have := HY2.out; omega), ⟨⟨b, l, c, rfl, by show RdI _ _ _ (marksI k x.left.length) _; rw [hlen]; exact H2.out.rd⟩, H2.out.own, (Only.of_below HB.out.1).trans H2.out.only⟩⟩
set_option maxRecDepth 200000 in
set_option maxHeartbeats 1000000 in
theorem heldTu_any (v : Value) (x : Tu) (F : List Nat) (k : Int) (w : World) (h : RdTu w v (x.marked k) F) (hw : x.wide) (hk0 : 0 ≤ k) (hk1 : k + x.many ≤ 1000000000000) :
    Calls Try.prog 20 #[v, .int .i64 k] w fun e w' => e = .returned (.int .i64 (k + x.many)) ∧ Below w.heap.size w w' := by
  obtain ⟨b, l, c, rfl, hP⟩ := h
  have hlen : x.left.length = l := by have := hP.length; rw [← this]; exact (marksI_length k x.left.length).symm
  have hp' : RdI w b l (marksI k l) F := by have := hP; rw [show (x.marked k).left = marksI k x.left.length from rfl, hlen] at this; exact this
  have HM : Hid (x.many = (l : Int) ∧ k + x.many ≤ 1000000000000) := ⟨by unfold Tu.many; rw [hlen], hk1⟩
  have hl : l ≤ 2097152 := by rw [← hlen]; exact hw
  have HB : Hid (Below w.heap.size w (w.alloc (.cells #[.int .i64 x.who, .bool x.fresh, .slice b l c] 26)) ∧ Blk (w.alloc (.cells #[.int .i64 x.who, .bool x.fresh, .slice b l c] 26)) w.heap.size #[.int .i64 x.who, .bool x.fresh, .slice b l c] 26) := ⟨(Below.refl _ _).alloc (Nat.le_refl _) _, Blk.made _ _ _⟩
  have HR : Hid (RdI w b l (marksI k l) F) := hp'
  clear hP hw hk1 hp'
  show Calls _ _ #[.agg #[.int .i64 x.who, .bool x.fresh, .slice b l c], .int .i64 k] w _
  go_enter Try.func20, Try.ntmps20
  go_wp2_with fail
  refine (heldIntS_any b l c F k _ (HR.out.below HB.out.1) hk0 (by have := HM.out; omega)).mono ?_
  rintro e w1 ⟨rfl, b1⟩
  have HB1 : Hid (Below w.heap.size w w1) := Below.next HB.out.1 b1
  clear b1
  obtain ⟨y1, hy1⟩ : ∃ y, y = k + (l : Int) := ⟨_, rfl⟩
  rw [← hy1]
  have HY1 : Hid (y1 = k + (l : Int)) := hy1
  have y10 : 0 ≤ y1 := by omega
  clear hy1
  go_wp2
  go_ret
  exact ⟨ret_int (by have := HM.out; have := HY1.out; omega), HB1.out⟩
structure VarTu (W : World) (lo hi g : Nat) (cs : Array Value) (s : Tu) (F : List Nat) : Prop where
  blk : Blk W g cs 26
  rd : RdTu W (.agg cs) s F
  sz : cs.size = 3
  own : Own lo W F
  lt : ∀ b ∈ F, b < hi
  ge : lo ≤ g
  glt : g < hi
  apart : g ∉ F
theorem VarTu.below {W W' : World} {lo hi g : Nat} {cs : Array Value} {s : Tu} {F : List Nat} (h : VarTu W lo hi g cs s F) (b : Below W.heap.size W W') : VarTu W' lo hi g cs s F :=
  ⟨h.blk.below b, h.rd.below b, h.sz, h.own.below h.rd.lt b, h.lt, h.ge, h.glt, h.apart⟩
theorem VarTu.fresh {w0 w1 W : World} {cs : Array Value} {s : Tu} {F : List Nat} (r : RdTu w1 (.agg cs) s F) (o : Own w0.heap.size w1 F) (b : Below w0.heap.size w0 w1) (sz : cs.size = 3) (k : Blk W w1.heap.size cs 26) (b2 : Below w1.heap.size w1 W) : VarTu W w0.heap.size W.heap.size w1.heap.size cs s F :=
  ⟨k, r.below b2, sz, o.below r.lt b2, fun x hx => by have := r.lt x hx; have := b2.size; omega, b.size, k.lt, fun hx => by have := r.lt _ hx; omega⟩
theorem VarTu.only {W W' : World} {lo hi g lo' hi' g' : Nat} {cs ds : Array Value} {s t : Tu} {F G : List Nat} (h : VarTu W lo hi g cs s F) (k : VarTu W lo' hi' g' ds t G) (o : Only G W W') (hd : hi ≤ lo' ∨ hi' ≤ lo) : VarTu W' lo hi g cs s F := by
  have d : ∀ b ∈ F, b ∉ G := fun b hb hg => by have := h.lt b hb; have := h.own.ge b hb; have := k.lt b hg; have := k.own.ge b hg; omega
  have e : g ∉ G := fun hg => by have := h.ge; have := h.glt; have := k.lt g hg; have := k.own.ge g hg; omega
  exact ⟨h.blk.agree (o.block g h.blk.lt e), h.rd.agree (o.agree h.rd.lt d), h.sz, h.own.agree (o.agree h.rd.lt d), h.lt, h.ge, h.glt, h.apart⟩
theorem VarTu.only' {W W' : World} {lo hi g lo' hi' : Nat} {cs : Array Value} {s : Tu} {F G : List Nat} (h : VarTu W lo hi g cs s F) (o : Only G W W') (kl : ∀ b ∈ G, b < hi') (kg : ∀ b ∈ G, lo' ≤ b) (hd : hi ≤ lo' ∨ hi' ≤ lo) : VarTu W' lo hi g cs s F := by
  have d : ∀ b ∈ F, b ∉ G := fun b hb hg => by have := h.lt b hb; have := h.own.ge b hb; have := kl b hg; have := kg b hg; omega
  have e : g ∉ G := fun hg => by have := h.ge; have := h.glt; have := kl g hg; have := kg g hg; omega
  exact ⟨h.blk.agree (o.block g h.blk.lt e), h.rd.agree (o.agree h.rd.lt d), h.sz, h.own.agree (o.agree h.rd.lt d), h.lt, h.ge, h.glt, h.apart⟩
theorem VarTu.keep {W W' : World} {lo' hi' g' : Nat} {ds : Array Value} {t : Tu} {G : List Nat} {b : Nat} {cs : Array Value} {ty : TypeId} (k : VarTu W lo' hi' g' ds t G) (o : Only G W W') (h : Blk W b cs ty) (hb : b < lo') : Blk W' b cs ty :=
  h.agree (o.block b h.lt (fun hg => by have := k.own.ge b hg; omega))
theorem VarTu.bel {w W W' : World} {lo' hi' g' : Nat} {ds : Array Value} {t : Tu} {G : List Nat} (k : VarTu W lo' hi' g' ds t G) (o : Only G W W') (h : Below w.heap.size w W) (hb : w.heap.size ≤ lo') : Below w.heap.size w W' :=
  o.below h h.size (fun b hg => by have := k.own.ge b hg; omega)
theorem varTu_stored {W : World} {lo g : Nat} {old rr : Array Value} {s : Tu} {X : List Nat} (k : Blk W g old 26) (r : RdTu W (.agg rr) s X) (sz : rr.size = 3) (o : Own lo W X) (lt : ∀ b ∈ X, b < W.heap.size) (ge : lo ≤ g) (ap : g ∉ X) : VarTu (W.setRow g rr) lo (W.setRow g rr).heap.size g rr s X := by
  have ag : Agree W (W.setRow g rr) X := fun b hb => setRow_other W _ b _ (fun e => ap (e ▸ hb))
  have hs : (W.setRow g rr).heap.size = W.heap.size := by simp
  exact ⟨k.setRow, r.agree ag, sz, o.agree ag, by rw [hs]; exact lt, ge, by rw [hs]; exact k.lt, ap⟩
theorem VarTu.mark {W W' : World} {lo hi g : Nat} {cs : Array Value} {s : Tu} {F : List Nat} {k : Int} (h : VarTu W lo hi g cs s F) (m : MarkedTu lo W (.agg cs) k s F W') : VarTu W' lo hi g cs (s.marked k) F :=
  ⟨h.blk.agree (m.only.block g h.blk.lt h.apart), m.rd, h.sz, m.own, h.lt, h.ge, h.glt, h.apart⟩
end Go.Proofs.Ythimjmkdcocofaa
