/- Several texts of mine, laid together. No statement of the seat is proved here. -/
import Derived.Test.YtgkbhhlkaifnoabDoorItHelp2
import Derived.Test.YtgkbhhlkaifnoabDoorItModel
import Derived.Test.YtgkbhhlkaifnoabDoorSkLaw
import Derived.Test.YtgkbhhlkaifnoabDoorSeHelp
import Derived.Test.YtgkbhhlkaifnoabDoorSpOpen
import Derived.Deep.Slices
/- Items and entries that came in. No statement of the seat is proved here. -/
namespace Go.Proofs.YtgkbhhlkaifnoabDoor
open Go.RowKit Go.WideShapes Go.ChangeShapes Go.ChangeAt Go.Deep
end Go.Proofs.YtgkbhhlkaifnoabDoor
/- What the laws over items and entries share. No statement of the seat is proved here. -/
namespace Go.Proofs.YtgkbhhlkaifnoabDoor
open Go.RowKit Go.WideShapes Go.ChangeShapes Go.ChangeAt
theorem RdIt.cells {w : World} {v : Value} {x : It} {F : List Nat} (h : RdIt w v x F) : ∃ cs : Array Value, v = .agg cs ∧ cs.size = 11 ∧ cs.all (·.oneCell') = true := by
  obtain ⟨a1, n1, c1, a2, n2, c2, a3, n3, c3, rfl, _⟩ := h
  exact ⟨_, rfl, rfl, by simp [Value.oneCell']⟩
/-- An entry's value that can be read; F: its blocks. -/
def RdE (w : World) (v : Value) (x : En) (F : List Nat) : Prop := ∃ F1 F2, F = F1 ++ F2 ∧ RdEn w v x F1 F2
theorem RdE.agree {w w' : World} {v : Value} {x : En} {F : List Nat} (h : RdE w v x F) (ha : Agree w w' F) : RdE w' v x F := by
  obtain ⟨F1, F2, rfl, h⟩ := h
  exact ⟨F1, F2, rfl, h.agree (fun b hb => ha b (List.mem_append_left _ hb)) (fun b hb => ha b (List.mem_append_right _ hb))⟩
theorem RdE.lt {w : World} {v : Value} {x : En} {F : List Nat} (h : RdE w v x F) : ∀ b ∈ F, b < w.heap.size := by
  obtain ⟨F1, F2, rfl, h⟩ := h
  exact fun b hb => (List.mem_append.1 hb).elim (h.lt1 b) (h.lt2 b)
theorem RdE.below {w w' : World} {v : Value} {x : En} {F : List Nat} (h : RdE w v x F) (hb : Below w.heap.size w w') : RdE w' v x F := h.agree (.below hb h.lt)
theorem RdE.cells {w : World} {v : Value} {x : En} {F : List Nat} (h : RdE w v x F) : ∃ cs : Array Value, v = .agg cs ∧ cs.size = 10 ∧ cs.all (·.oneCell') = true := by
  obtain ⟨F1, F2, rfl, b, l, c, a1, n1, c1, a2, n2, c2, a3, n3, c3, rfl, _⟩ := h
  exact ⟨_, rfl, rfl, by simp [Value.oneCell']⟩
def It.vast (x : It) : Prop := x.sk.vast
def It.fits (x : It) : Prop := x.sk.fits
def It.wide (x : It) : Prop := x.sk.wide
theorem It.fits.wide {x : It} (h : x.fits) : x.wide := Sk.fits.wide h
def En.vast (x : En) : Prop := x.sk.vast ∧ x.ids.length ≤ 9223372036854775807
def En.fits (x : En) : Prop := x.sk.fits ∧ x.ids.length ≤ 1048576
def En.wide (x : En) : Prop := x.sk.wide ∧ x.ids.length ≤ 1048576
theorem En.fits.wide {x : En} (h : x.fits) : x.wide := ⟨h.1.wide, h.2⟩
theorem It.fits_of {x : It} {r left : Int} (h : r = left - x.sk.size) (h0 : 0 ≤ r) (hl : left ≤ 1048576) : x.fits := Sk.fits_of (by omega)
theorem En.fits_of {x : En} {r left : Int} (h : r = left - x.ids.length - x.sk.size ∧ (x.ids.length : Int) ≤ left ∧ x.sk.size ≤ left) (_h0 : 0 ≤ r) (hl : left ≤ 1048576) : x.fits := ⟨Sk.fits_of (by omega), by omega⟩
end Go.Proofs.YtgkbhhlkaifnoabDoor
/- Entries and items that are marked; an entry in a variable of the law's own. No statement of the seat is proved here. -/
namespace Go.Proofs.YtgkbhhlkaifnoabDoor
open Go.RowKit
/-- The pairs that a marked set bears. -/
def markP (k : Int) (n : Nat) : Sp := (List.range n).map fun i : Nat => (k + 2 * (i : Int), k + 2 * (i : Int) + 1)
theorem flat_markP (k : Int) (n : Nat) : flat (markP k n) = marksI k (2 * n) := by
  induction n with
  | zero => rfl
  | succ n ih =>
    have e : markP k (n + 1) = markP k n ++ [(k + 2 * (n : Int), k + 2 * (n : Int) + 1)] := by unfold markP; rw [List.range_succ, List.map_append]; rfl
    rw [e, flat_append, ih, show 2 * (n + 1) = 2 * n + 1 + 1 by omega, marksI, marksI, List.append_assoc]
    have e1 : k + ((2 * n : Nat) : Int) = k + 2 * (n : Int) := by omega
    have e2 : k + ((2 * n + 1 : Nat) : Int) = k + 2 * (n : Int) + 1 := by omega
    rw [e1, e2]
    rfl
theorem markP_length (k : Int) (n : Nat) : (markP k n).length = n := by unfold markP; simp
def En.many (x : En) : Int := 2 * x.ids.length + x.sk.many
def En.marked (k : Int) (x : En) : En := ⟨x.key, x.window, markP k x.ids.length, x.sk.marked (k + 2 * x.ids.length)⟩
structure MarkedE (B : Nat) (w : World) (v : Value) (k : Int) (x : En) (F : List Nat) (w' : World) : Prop where
  rd : RdE w' v (x.marked k) F
  own : Own B w' F
  only : Only F w w'
theorem Sk.many_nonneg (s : Sk) : 0 ≤ s.many := by
  have := sumLen_nonneg s.rows
  unfold Sk.many
  omega
theorem Sk.size_nonneg (s : Sk) : 0 ≤ s.size := by
  have h0 := sumLen_nonneg s.rows
  unfold Sk.size
  omega
theorem En.fits_sz {x : En} (h : x.ids.length + x.sk.size ≤ 1048576) : x.fits := by
  have := Sk.size_nonneg x.sk
  exact ⟨Sk.fits_of (by omega), by omega⟩
theorem En.many_fits {x : En} (h : x.ids.length + x.sk.size ≤ 1048576) : 0 ≤ x.many ∧ x.many ≤ 4194304 := by
  have h1 := Sk.many_nonneg x.sk
  have h2 : x.sk.many ≤ x.sk.size := by
    have h0 := sumLen_nonneg x.sk.rows
    unfold Sk.size Sk.many
    omega
  unfold En.many
  omega
end Go.Proofs.YtgkbhhlkaifnoabDoor
/- Seats that came in, that are marked; a seat in a variable of the law's own. No statement of the seat is proved here. -/
namespace Go.Proofs.YtgkbhhlkaifnoabDoor
open Go.RowKit Go.WideShapes Go.ChangeShapes Go.ChangeAt Go.Deep
def Se.marked (k : Int) (x : Se) : Se := { x with taken := markP k x.taken.length }
theorem Se.many_fits {x : Se} (h : x.fits) : 0 ≤ x.many ∧ x.many ≤ 4194304 := by unfold Se.fits at h; unfold Se.many; omega
theorem Se.many_wide {x : Se} (h : x.wide) : 0 ≤ x.many ∧ x.many ≤ 4194304 := by unfold Se.wide at h; unfold Se.many; omega
structure MarkedSe (B : Nat) (w : World) (v : Value) (k : Int) (x : Se) (F : List Nat) (w' : World) : Prop where
  rd : RdSe w' v (x.marked k) F
  own : Own B w' F
  only : Only F w w'
set_option maxRecDepth 100000 in
set_option maxHeartbeats 1000000 in
theorem open_spsS {H : Type} {enc : TypeId × Value → H} {W : World} {v : Value} {fuel : Nat} {z : DataW H × List MemPlace} (g : DataW.trod enc Tryd.prog W 0 (fun _ => true) true fuel 22 [v] = some z) :
    ∃ a len cap ps F, v = .slice a len cap ∧ RdP W a len ps F ∧ len ≤ 9223372036854775807 ∧ Capd a len cap := by
  have c3 : Tryd.prog.cellsOf 3 = 1 := by kernel_rfl
  have c2 : Tryd.prog.cellsOf 60 = 2 := by kernel_rfl
  rcases open_slice_pairs Tryd.underlying22 Tryd.underlying60 c2 rfl rfl c3 c3 g with ⟨q, _⟩ | ⟨x, len, cap, m, n, V0, V1, D0, D1, P0, P1, q, _, hl, hm, hmm, _, hx⟩
  · simp at q
    subst q
    exact ⟨none, 0, 0, [], [], rfl, RdP.nil, by omega, fun _ => rfl, Nat.le_refl _⟩
  · simp at q
    subst q
    have hm2 : m = cap := by rw [hmm]; simp
    subst hm2
    have hb : len ≤ 9223372036854775807 := by unfold maxLen at hm; omega
    have ints : ∀ i, i < m → ∃ y z : Int, V0 i = .int .i64 y ∧ V1 i = .int .i64 z ∧ (Lit.int .i64 y).wf = true ∧ (Lit.int .i64 z).wf = true := fun i hi => by
      obtain ⟨_, _, h3, h4⟩ := hx i hi
      obtain ⟨y, q0, _, w0⟩ := DataW.trod_int Tryd.underlying3 h3
      obtain ⟨z, q1, _, w1⟩ := DataW.trod_int Tryd.underlying3 h4
      simp at q0 q1
      exact ⟨y, z, q0, q1, w0, w1⟩
    have hN : ∀ i, i < m → V0 i = .int .i64 (intOf (V0 i)) ∧ V1 i = .int .i64 (intOf (V1 i)) ∧ Fit64 (intOf (V0 i)) ∧ Fit64 (intOf (V1 i)) := fun i hi => by
      obtain ⟨y, z, e0, e1, w0, w1⟩ := ints i hi
      rw [e0, e1]
      exact ⟨rfl, rfl, int_wf w0, int_wf w1⟩
    by_cases h0 : len = 0
    · subst h0
      exact ⟨_, 0, _, [], [], rfl, RdP.nil, by omega, fun e => (by cases e), hl⟩
    · obtain ⟨b, off, rfl⟩ := sp_addr (hx 0 (by omega)).1
      refine ⟨_, len, m, (List.range len).map fun i => (intOf (V0 i), intOf (V1 i)), [b], rfl, rdP_mk _ (by simp) (by omega) (fun i hi => ?_), hb, fun e => (by cases e), hl⟩
      · rw [flat_range len _ _ i hi]
        have h1 := (hx i (by omega)).1
        have h2 := (hx i (by omega)).2.1
        rw [sp_add] at h1 h2
        rw [(hN i (by omega)).1] at h1
        rw [(hN i (by omega)).2.1] at h2
        exact ⟨h1, by rw [show off + i * 2 + 1 = off + (i * 2 + 1) by omega]; exact h2⟩
set_option maxRecDepth 100000 in
set_option maxHeartbeats 1000000 in
theorem open_Se {H : Type} {enc : TypeId × Value → H} {W : World} {base : Nat} {v : Value} {d : DataW H} {p : List MemPlace} (hv : Value.okWide Tryd.prog W .any base 24 v) (h : DataW.Trod enc Tryd.prog W 0 (fun _ => true) true 24 v d p) :
    ∃ x F, RdSe W v x F ∧ x.vast := by
  obtain ⟨cs, rfl, hsz⟩ := okWide_struct Tryd.underlying24 hv
  have hC : Tryd.prog.cellsOf 24 = 5 := by kernel_rfl
  have c3 : Tryd.prog.cellsOf 3 = 1 := by kernel_rfl
  have c4 : Tryd.prog.cellsOf 22 = 1 := by kernel_rfl
  rw [hC] at hsz
  obtain ⟨l⟩ := cs
  match l, hsz with
  | [e0, e1, e2, e3, e4], _ =>
    obtain ⟨fuel, hf⟩ := h
    obtain ⟨xs, n, _, _, _, hlen, hx⟩ := DataW.trod_struct Tryd.underlying24 hf
    match xs, hlen with
    | [y0, y1, y2, y3, y4], _ =>
      have g0 := hx 0 _ rfl
      have g1 := hx 1 _ rfl
      have g2 := hx 2 _ rfl
      have g3 := hx 3 _ rfl
      have g4 := hx 4 _ rfl
      simp [Value.cells, c3, c4] at g0 g1 g2 g3 g4
      clear hx
      obtain ⟨i0, q0, _, _⟩ := DataW.trod_int Tryd.underlying3 g0
      obtain ⟨i1, q1, _, _⟩ := DataW.trod_int Tryd.underlying3 g1
      obtain ⟨i3, q3, _, _⟩ := DataW.trod_int Tryd.underlying3 g3
      obtain ⟨i4, q4, _, _⟩ := DataW.trod_int Tryd.underlying3 g4
      simp at q0 q1 q3 q4
      subst q0 q1 q3 q4
      obtain ⟨a, len, cap, ps, F, rfl, hp, hb, hcp⟩ := open_spsS g2
      exact ⟨⟨i0, i1, ps, i3, i4⟩, F, ⟨a, len, cap, rfl, hp, hcp⟩, by show ps.length ≤ _; rw [hp.length]; exact hb⟩
set_option maxRecDepth 200000 in
set_option maxHeartbeats 1000000 in
theorem markSe_any (B : Nat) (v : Value) (x : Se) (F : List Nat) (k : Int) (w : World) (h : RdSe w v x F) (ho : Own B w F) (hw : x.wide) (hk0 : 0 ≤ k) (hk1 : k + x.many ≤ 1000000000000) :
    Calls Tryd.prog 9 #[v, .int .i64 k] w fun e w' => e = .returned (.int .i64 (k + x.many)) ∧ MarkedSe B w v k x F w' := by
  obtain ⟨b, l, c, rfl, hP, hc⟩ := h
  have HM : Hid (x.many = 2 * (l : Int) ∧ k + x.many ≤ 1000000000000) := ⟨by unfold Se.many; rw [hP.length], hk1⟩
  have hl : l ≤ 2097152 := by rw [← hP.length]; exact hw
  have HCP : Hid (Capd b l c) := hc
  have HB : Hid (Below w.heap.size w (w.alloc (.cells #[.int .i64 x.epoch, .int .i64 x.granted, .slice b l c, .int .i64 x.merged, .int .i64 x.last] 28)) ∧ Blk (w.alloc (.cells #[.int .i64 x.epoch, .int .i64 x.granted, .slice b l c, .int .i64 x.merged, .int .i64 x.last] 28)) w.heap.size #[.int .i64 x.epoch, .int .i64 x.granted, .slice b l c, .int .i64 x.merged, .int .i64 x.last] 28) := ⟨Below.allocW _ (Below.refl _ _) (Nat.le_refl _), Blk.made _ _ _⟩
  have HR : Hid (RdP w b l x.taken F ∧ Own B w F) := ⟨hP, ho⟩
  clear hP ho hw hk1 hc
  go_enter Tryd.func9, Tryd.ntmps9
  go_wp2_with fail
  refine (markSpanS_any B b l c (flat x.taken) F k _ (HR.out.1.below HB.out.1).rd (HR.out.2.below HR.out.1.lt HB.out.1) hk0 (by have := HM.out; omega)).mono ?_
  rintro e w2 ⟨rfl, m2⟩
  have H2 : Hid (MarkedP B (w.alloc (.cells #[.int .i64 x.epoch, .int .i64 x.granted, .slice b l c, .int .i64 x.merged, .int .i64 x.last] 28)) b l k F w2) := m2
  clear m2
  obtain ⟨y2, hy2⟩ : ∃ y, y = k + 2 * (l : Int) := ⟨_, rfl⟩
  rw [← hy2]
  have HY2 : Hid (y2 = k + 2 * (l : Int)) := hy2
  clear hy2
  go_wp2
  go_ret
  have hlen := HR.out.1.length
  refine ⟨ret_int (by have := HM.out; have := HY2.out; omega), ⟨⟨b, l, c, rfl, ⟨by show (markP k x.taken.length).length = l; rw [markP_length]; exact hlen, ?_⟩, HCP.out⟩, H2.out.own, (Only.of_below HB.out.1).trans H2.out.only⟩⟩
  show RdI w2 b (2 * l) (flat (markP k x.taken.length)) F
  rw [flat_markP, hlen]
  exact H2.out.rd
set_option maxRecDepth 200000 in
set_option maxHeartbeats 1000000 in
theorem heldSe_any (v : Value) (x : Se) (F : List Nat) (k : Int) (w : World) (h : RdSe w v (x.marked k) F) (hw : x.wide) (hk0 : 0 ≤ k) (hk1 : k + x.many ≤ 1000000000000) :
    Calls Tryd.prog 10 #[v, .int .i64 k] w fun e w' => e = .returned (.int .i64 (k + x.many)) ∧ Below w.heap.size w w' := by
  obtain ⟨b, l, c, rfl, hP, hc⟩ := h
  have hlen : x.taken.length = l := by have := hP.length; rw [← this]; exact (markP_length k x.taken.length).symm
  have hp' : RdI w b (2 * l) (marksI k (2 * l)) F := by have := hP.rd; rw [show (x.marked k).taken = markP k x.taken.length from rfl, flat_markP, hlen] at this; exact this
  have HM : Hid (x.many = 2 * (l : Int) ∧ k + x.many ≤ 1000000000000) := ⟨by unfold Se.many; rw [hlen], hk1⟩
  have hl : l ≤ 2097152 := by rw [← hlen]; exact hw
  have HB : Hid (Below w.heap.size w (w.alloc (.cells #[.int .i64 x.epoch, .int .i64 x.granted, .slice b l c, .int .i64 x.merged, .int .i64 x.last] 28)) ∧ Blk (w.alloc (.cells #[.int .i64 x.epoch, .int .i64 x.granted, .slice b l c, .int .i64 x.merged, .int .i64 x.last] 28)) w.heap.size #[.int .i64 x.epoch, .int .i64 x.granted, .slice b l c, .int .i64 x.merged, .int .i64 x.last] 28) := ⟨(Below.refl _ _).alloc (Nat.le_refl _) _, Blk.made _ _ _⟩
  have HR : Hid (RdI w b (2 * l) (marksI k (2 * l)) F) := hp'
  clear hP hw hk1 hp' hc
  show Calls _ _ #[.agg #[.int .i64 x.epoch, .int .i64 x.granted, .slice b l c, .int .i64 x.merged, .int .i64 x.last], .int .i64 k] w _
  go_enter Tryd.func10, Tryd.ntmps10
  go_wp2_with fail
  refine (heldSpanS_any b l c F k _ (HR.out.below HB.out.1) hk0 (by have := HM.out; omega)).mono ?_
  rintro e w1 ⟨rfl, b1⟩
  have HB1 : Hid (Below w.heap.size w w1) := Below.next HB.out.1 b1
  clear b1
  obtain ⟨y1, hy1⟩ : ∃ y, y = k + 2 * (l : Int) := ⟨_, rfl⟩
  rw [← hy1]
  have HY1 : Hid (y1 = k + 2 * (l : Int)) := hy1
  have y10 : 0 ≤ y1 := by omega
  clear hy1
  go_wp2
  go_ret
  exact ⟨ret_int (by have := HM.out; have := HY1.out; omega), HB1.out⟩
structure VarSe (W : World) (lo hi g : Nat) (cs : Array Value) (s : Se) (F : List Nat) : Prop where
  blk : Blk W g cs 28
  rd : RdSe W (.agg cs) s F
  sz : cs.size = 5
  own : Own lo W F
  lt : ∀ b ∈ F, b < hi
  ge : lo ≤ g
  glt : g < hi
  apart : g ∉ F
theorem VarSe.below {W W' : World} {lo hi g : Nat} {cs : Array Value} {s : Se} {F : List Nat} (h : VarSe W lo hi g cs s F) (b : Below W.heap.size W W') : VarSe W' lo hi g cs s F :=
  ⟨h.blk.below b, h.rd.below b, h.sz, h.own.below h.rd.lt b, h.lt, h.ge, h.glt, h.apart⟩
theorem VarSe.fresh {w0 w1 W : World} {cs : Array Value} {s : Se} {F : List Nat} (r : RdSe w1 (.agg cs) s F) (o : Own w0.heap.size w1 F) (b : Below w0.heap.size w0 w1) (sz : cs.size = 5) (k : Blk W w1.heap.size cs 28) (b2 : Below w1.heap.size w1 W) : VarSe W w0.heap.size W.heap.size w1.heap.size cs s F :=
  ⟨k, r.below b2, sz, o.below r.lt b2, fun x hx => by have := r.lt x hx; have := b2.size; omega, b.size, k.lt, fun hx => by have := r.lt _ hx; omega⟩
theorem VarSe.only {W W' : World} {lo hi g lo' hi' g' : Nat} {cs ds : Array Value} {s t : Se} {F G : List Nat} (h : VarSe W lo hi g cs s F) (k : VarSe W lo' hi' g' ds t G) (o : Only G W W') (hd : hi ≤ lo' ∨ hi' ≤ lo) : VarSe W' lo hi g cs s F := by
  have d : ∀ b ∈ F, b ∉ G := fun b hb hg => by have := h.lt b hb; have := h.own.ge b hb; have := k.lt b hg; have := k.own.ge b hg; omega
  have e : g ∉ G := fun hg => by have := h.ge; have := h.glt; have := k.lt g hg; have := k.own.ge g hg; omega
  exact ⟨h.blk.agree (o.block g h.blk.lt e), h.rd.agree (o.agree h.rd.lt d), h.sz, h.own.agree (o.agree h.rd.lt d), h.lt, h.ge, h.glt, h.apart⟩
theorem VarSe.only' {W W' : World} {lo hi g lo' hi' : Nat} {cs : Array Value} {s : Se} {F G : List Nat} (h : VarSe W lo hi g cs s F) (o : Only G W W') (kl : ∀ b ∈ G, b < hi') (kg : ∀ b ∈ G, lo' ≤ b) (hd : hi ≤ lo' ∨ hi' ≤ lo) : VarSe W' lo hi g cs s F := by
  have d : ∀ b ∈ F, b ∉ G := fun b hb hg => by have := h.lt b hb; have := h.own.ge b hb; have := kl b hg; have := kg b hg; omega
  have e : g ∉ G := fun hg => by have := h.ge; have := h.glt; have := kl g hg; have := kg g hg; omega
  exact ⟨h.blk.agree (o.block g h.blk.lt e), h.rd.agree (o.agree h.rd.lt d), h.sz, h.own.agree (o.agree h.rd.lt d), h.lt, h.ge, h.glt, h.apart⟩
theorem VarSe.keep {W W' : World} {lo' hi' g' : Nat} {ds : Array Value} {t : Se} {G : List Nat} {b : Nat} {cs : Array Value} {ty : TypeId} (k : VarSe W lo' hi' g' ds t G) (o : Only G W W') (h : Blk W b cs ty) (hb : b < lo') : Blk W' b cs ty :=
  h.agree (o.block b h.lt (fun hg => by have := k.own.ge b hg; omega))
theorem VarSe.bel {w W W' : World} {lo' hi' g' : Nat} {ds : Array Value} {t : Se} {G : List Nat} (k : VarSe W lo' hi' g' ds t G) (o : Only G W W') (h : Below w.heap.size w W) (hb : w.heap.size ≤ lo') : Below w.heap.size w W' :=
  o.below h h.size (fun b hg => by have := k.own.ge b hg; omega)
theorem varSe_stored {W : World} {lo g : Nat} {old rr : Array Value} {s : Se} {X : List Nat} (k : Blk W g old 28) (r : RdSe W (.agg rr) s X) (sz : rr.size = 5) (o : Own lo W X) (lt : ∀ b ∈ X, b < W.heap.size) (ge : lo ≤ g) (ap : g ∉ X) : VarSe (W.setRow g rr) lo (W.setRow g rr).heap.size g rr s X := by
  have ag : Agree W (W.setRow g rr) X := fun b hb => setRow_other W _ b _ (fun e => ap (e ▸ hb))
  have hs : (W.setRow g rr).heap.size = W.heap.size := by simp
  exact ⟨k.setRow, r.agree ag, sz, o.agree ag, by rw [hs]; exact lt, ge, by rw [hs]; exact k.lt, ap⟩
theorem VarSe.mark {W W' : World} {lo hi g : Nat} {cs : Array Value} {s : Se} {F : List Nat} {k : Int} (h : VarSe W lo hi g cs s F) (m : MarkedSe lo W (.agg cs) k s F W') : VarSe W' lo hi g cs (s.marked k) F :=
  ⟨h.blk.agree (m.only.block g h.blk.lt h.apart), m.rd, h.sz, m.own, h.lt, h.ge, h.glt, h.apart⟩
end Go.Proofs.YtgkbhhlkaifnoabDoor
