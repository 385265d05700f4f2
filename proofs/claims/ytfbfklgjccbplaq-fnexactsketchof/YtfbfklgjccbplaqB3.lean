/- Several texts of mine, laid together. No statement of the seat is proved here. -/
import Derived.Test.YtfbfklgjccbplaqB2
import Derived.Test.YtfbfklgjccbplaqBase
import Derived.Test.YtfbfklgjccbplaqNumMath
import Derived.Test.YtfbfklgjccbplaqB1
import Derived.Test.YtfbfklgjccbplaqSkLaw
/- Frames that are marked; a frame in a variable of the law's own. No statement of the seat is proved here. -/
namespace Go.Proofs.Ytfbfklgjccbplaq
open Go.RowKit
def It.marked (k : Int) (x : It) : It := { x with sk := x.sk.marked k }
structure MarkedIt (B : Nat) (w : World) (v : Value) (k : Int) (x : It) (F : List Nat) (w' : World) : Prop where
  rd : RdIt w' v (x.marked k) F
  own : Own B w' F
  only : Only F w w'
set_option maxRecDepth 200000 in
set_option maxHeartbeats 1000000 in
theorem markItem_any (B : Nat) (v : Value) (x : It) (F : List Nat) (k : Int) (w : World) (h : RdIt w v x F) (ho : Own B w F) (hw : x.wide) (hk0 : 0 ≤ k) (hk1 : k + x.sk.many ≤ 1000000000000) :
    Calls Try.prog 64 #[v, .int .i64 k] w fun e w' => e = .returned (.int .i64 (k + x.sk.many)) ∧ MarkedIt B w v k x F w' := by
  obtain ⟨a1, n1, c1, a2, n2, c2, a3, n3, c3, rfl, hr⟩ := h
  have hm0 := Sk.many_nonneg x.sk
  have HM : Hid (k + x.sk.many ≤ 1000000000000 ∧ 0 ≤ x.sk.many) := ⟨hk1, hm0⟩
  have HW : Hid (x.sk.wide) := hw
  have HB : Hid (Below w.heap.size w (w.alloc (.cells #[.int .i64 x.seq, .int .i64 x.cls, .int .i64 x.key, .int .i64 x.window, .int .i64 x.sk.count, .int .i64 x.sk.sum, .int .i64 x.sk.min, .int .i64 x.sk.max, .slice a1 n1 c1, .slice a2 n2 c2, .slice a3 n3 c3] 49)) ∧ Blk (w.alloc (.cells #[.int .i64 x.seq, .int .i64 x.cls, .int .i64 x.key, .int .i64 x.window, .int .i64 x.sk.count, .int .i64 x.sk.sum, .int .i64 x.sk.min, .int .i64 x.sk.max, .slice a1 n1 c1, .slice a2 n2 c2, .slice a3 n3 c3] 49)) w.heap.size #[.int .i64 x.seq, .int .i64 x.cls, .int .i64 x.key, .int .i64 x.window, .int .i64 x.sk.count, .int .i64 x.sk.sum, .int .i64 x.sk.min, .int .i64 x.sk.max, .slice a1 n1 c1, .slice a2 n2 c2, .slice a3 n3 c3] 49) := ⟨(Below.refl _ _).alloc (Nat.le_refl _) _, Blk.made _ _ _⟩
  have HR : Hid (RdSk w (.agg #[.int .i64 x.sk.count, .int .i64 x.sk.sum, .int .i64 x.sk.min, .int .i64 x.sk.max, .slice a1 n1 c1, .slice a2 n2 c2, .slice a3 n3 c3]) x.sk F ∧ Own B w F) := ⟨hr, ho⟩
  clear hr ho hw hk1 hm0
  go_enter Try.func64, Try.ntmps64
  go_wp2_with (first | go_skip | (with_reducible refine stopLoad 29 rfl ?_))
  refine load_cutw 29 w.heap.size 4 7 _ #[.int .i64 x.sk.count, .int .i64 x.sk.sum, .int .i64 x.sk.min, .int .i64 x.sk.max, .slice a1 n1 c1, .slice a2 n2 c2, .slice a3 n3 c3] 49 _ HB.out.2 rfl rfl rfl Try.underlying29 rfl infoSkI (by simp) rfl ?_
  go_wp2_with fail
  refine (markSketch_any B _ x.sk F k _ (HR.out.1.below HB.out.1) (HR.out.2.below HR.out.1.lt HB.out.1) HW.out hk0 HM.out.1).mono ?_
  rintro e w2 ⟨rfl, m2⟩
  have H2 : Hid (RdSk w2 (.agg #[.int .i64 x.sk.count, .int .i64 x.sk.sum, .int .i64 x.sk.min, .int .i64 x.sk.max, .slice a1 n1 c1, .slice a2 n2 c2, .slice a3 n3 c3]) (x.sk.marked k) F ∧ Own B w2 F ∧ Only F w w2) := ⟨m2.rd, m2.own, (Only.of_below HB.out.1).trans m2.only⟩
  clear m2
  obtain ⟨y2, hy2⟩ : ∃ y, y = k + x.sk.many := ⟨_, rfl⟩
  rw [← hy2]
  have HY2 : Hid (y2 = k + x.sk.many) := hy2
  clear hy2
  go_wp2
  go_ret
  exact ⟨ret_int HY2.out, ⟨⟨a1, n1, c1, a2, n2, c2, a3, n3, c3, rfl, H2.out.1⟩, H2.out.2.1, H2.out.2.2⟩⟩
set_option maxRecDepth 200000 in
set_option maxHeartbeats 1000000 in
theorem heldItem_any (v : Value) (x : It) (F : List Nat) (k : Int) (w : World) (h : RdIt w v (x.marked k) F) (hw : x.wide) (hk0 : 0 ≤ k) (hk1 : k + x.sk.many ≤ 1000000000000) :
    Calls Try.prog 69 #[v, .int .i64 k] w fun e w' => e = .returned (.int .i64 (k + x.sk.many)) ∧ Below w.heap.size w w' := by
  obtain ⟨a1, n1, c1, a2, n2, c2, a3, n3, c3, rfl, hr⟩ := h
  have hr' : RdSk w (.agg #[.int .i64 x.sk.count, .int .i64 x.sk.sum, .int .i64 x.sk.min, .int .i64 x.sk.max, .slice a1 n1 c1, .slice a2 n2 c2, .slice a3 n3 c3]) (x.sk.marked k) F := hr
  have hm0 := Sk.many_nonneg x.sk
  have HM : Hid (k + x.sk.many ≤ 1000000000000 ∧ 0 ≤ x.sk.many) := ⟨hk1, hm0⟩
  have HR : Hid (RdSk w (.agg #[.int .i64 x.sk.count, .int .i64 x.sk.sum, .int .i64 x.sk.min, .int .i64 x.sk.max, .slice a1 n1 c1, .slice a2 n2 c2, .slice a3 n3 c3]) (x.sk.marked k) F ∧ x.sk.wide) := ⟨hr', hw⟩
  have HB : Hid (Below w.heap.size w (w.alloc (.cells #[.int .i64 x.seq, .int .i64 x.cls, .int .i64 x.key, .int .i64 x.window, .int .i64 x.sk.count, .int .i64 x.sk.sum, .int .i64 x.sk.min, .int .i64 x.sk.max, .slice a1 n1 c1, .slice a2 n2 c2, .slice a3 n3 c3] 49)) ∧ Blk (w.alloc (.cells #[.int .i64 x.seq, .int .i64 x.cls, .int .i64 x.key, .int .i64 x.window, .int .i64 x.sk.count, .int .i64 x.sk.sum, .int .i64 x.sk.min, .int .i64 x.sk.max, .slice a1 n1 c1, .slice a2 n2 c2, .slice a3 n3 c3] 49)) w.heap.size #[.int .i64 x.seq, .int .i64 x.cls, .int .i64 x.key, .int .i64 x.window, .int .i64 x.sk.count, .int .i64 x.sk.sum, .int .i64 x.sk.min, .int .i64 x.sk.max, .slice a1 n1 c1, .slice a2 n2 c2, .slice a3 n3 c3] 49) := ⟨(Below.refl _ _).alloc (Nat.le_refl _) _, Blk.made _ _ _⟩
  clear hr hr' hw hk1 hm0
  show Calls _ _ #[.agg #[.int .i64 x.seq, .int .i64 x.cls, .int .i64 x.key, .int .i64 x.window, .int .i64 x.sk.count, .int .i64 x.sk.sum, .int .i64 x.sk.min, .int .i64 x.sk.max, .slice a1 n1 c1, .slice a2 n2 c2, .slice a3 n3 c3], .int .i64 k] w _
  go_enter Try.func69, Try.ntmps69
  go_wp2_with (first | go_skip | (with_reducible refine stopLoad 29 rfl ?_))
  refine load_cutw 29 w.heap.size 4 7 _ #[.int .i64 x.sk.count, .int .i64 x.sk.sum, .int .i64 x.sk.min, .int .i64 x.sk.max, .slice a1 n1 c1, .slice a2 n2 c2, .slice a3 n3 c3] 49 _ HB.out.2 rfl rfl rfl Try.underlying29 rfl infoSkI (by simp) rfl ?_
  go_wp2_with fail
  refine (heldSketch_any _ x.sk F k _ (HR.out.1.below HB.out.1) HR.out.2 hk0 HM.out.1).mono ?_
  rintro e w2 ⟨rfl, b2⟩
  have HB2 : Hid (Below w.heap.size w w2) := Below.next HB.out.1 b2
  clear b2
  obtain ⟨y2, hy2⟩ : ∃ y, y = k + x.sk.many := ⟨_, rfl⟩
  rw [← hy2]
  have HY2 : Hid (y2 = k + x.sk.many) := hy2
  have y20 : 0 ≤ y2 := by have := HM.out; omega
  clear hy2
  go_wp2
  go_ret
  exact ⟨ret_int HY2.out, HB2.out⟩
def Fr.many (x : Fr) : Int := 2 * x.taken.length + x.item.sk.many
def Fr.marked (k : Int) (x : Fr) : Fr := ⟨x.kind, x.agent, x.epoch, x.granted, markP k x.taken.length, x.item.marked (k + 2 * x.taken.length)⟩
structure MarkedF (B : Nat) (w : World) (v : Value) (k : Int) (x : Fr) (F : List Nat) (w' : World) : Prop where
  rd : RdF w' v (x.marked k) F
  own : Own B w' F
  only : Only F w w'
theorem Fr.fits_sz {x : Fr} (h : x.taken.length + x.item.sk.size ≤ 1048576) : x.fits := by
  have := Sk.size_nonneg x.item.sk
  exact ⟨Sk.fits_of (by omega), by omega⟩
theorem Fr.many_fits {x : Fr} (h : x.taken.length + x.item.sk.size ≤ 1048576) : 0 ≤ x.many ∧ x.many ≤ 4194304 := by
  have h1 := Sk.many_nonneg x.item.sk
  have h2 : x.item.sk.many ≤ x.item.sk.size := by
    have h0 := sumLen_nonneg x.item.sk.rows
    unfold Sk.size Sk.many
    omega
  unfold Fr.many
  omega
set_option maxRecDepth 200000 in
set_option maxHeartbeats 1000000 in
theorem markF_any (B : Nat) (v : Value) (x : Fr) (F : List Nat) (k : Int) (w : World) (h : RdF w v x F) (ho : Own B w F) (hw : x.wide) (hk0 : 0 ≤ k) (hk1 : k + x.many ≤ 1000000000000) :
    Calls Try.prog 26 #[v, .int .i64 k] w fun e w' => e = .returned (.int .i64 (k + x.many)) ∧ MarkedF B w v k x F w' := by
  obtain ⟨F1, F2, rfl, b, l, c, a1, n1, c1, a2, n2, c2, a3, n3, c3, rfl, hp, hr, hcp⟩ := h
  obtain ⟨cs, hcs⟩ : ∃ cs : Array Value, cs = #[.int .i64 x.kind, .int .i64 x.agent, .int .i64 x.epoch, .int .i64 x.granted, .slice b l c, .int .i64 x.item.seq, .int .i64 x.item.cls, .int .i64 x.item.key, .int .i64 x.item.window, .int .i64 x.item.sk.count, .int .i64 x.item.sk.sum, .int .i64 x.item.sk.min, .int .i64 x.item.sk.max, .slice a1 n1 c1, .slice a2 n2 c2, .slice a3 n3 c3] := ⟨_, rfl⟩
  have bw : Below w.heap.size w (w.alloc (.cells #[.int .i64 x.kind, .int .i64 x.agent, .int .i64 x.epoch, .int .i64 x.granted, .slice b l c, .int .i64 x.item.seq, .int .i64 x.item.cls, .int .i64 x.item.key, .int .i64 x.item.window, .int .i64 x.item.sk.count, .int .i64 x.item.sk.sum, .int .i64 x.item.sk.min, .int .i64 x.item.sk.max, .slice a1 n1 c1, .slice a2 n2 c2, .slice a3 n3 c3] 51)) := (Below.refl _ _).alloc (Nat.le_refl _) _
  have hm0 := Sk.many_nonneg x.item.sk
  have HM : Hid (x.many = 2 * (l : Int) + x.item.sk.many ∧ k + x.many ≤ 1000000000000 ∧ 0 ≤ x.item.sk.many) := ⟨by unfold Fr.many; rw [hp.length], hk1, hm0⟩
  have HW : Hid (x.item.sk.wide) := hw.1
  have hl : l ≤ 1048576 := by rw [← hp.length]; exact hw.2
  have HCP : Hid (Capd b l c) := hcp
  have HB : Hid (Below w.heap.size w (w.alloc (.cells #[.int .i64 x.kind, .int .i64 x.agent, .int .i64 x.epoch, .int .i64 x.granted, .slice b l c, .int .i64 x.item.seq, .int .i64 x.item.cls, .int .i64 x.item.key, .int .i64 x.item.window, .int .i64 x.item.sk.count, .int .i64 x.item.sk.sum, .int .i64 x.item.sk.min, .int .i64 x.item.sk.max, .slice a1 n1 c1, .slice a2 n2 c2, .slice a3 n3 c3] 51)) ∧ Blk (w.alloc (.cells #[.int .i64 x.kind, .int .i64 x.agent, .int .i64 x.epoch, .int .i64 x.granted, .slice b l c, .int .i64 x.item.seq, .int .i64 x.item.cls, .int .i64 x.item.key, .int .i64 x.item.window, .int .i64 x.item.sk.count, .int .i64 x.item.sk.sum, .int .i64 x.item.sk.min, .int .i64 x.item.sk.max, .slice a1 n1 c1, .slice a2 n2 c2, .slice a3 n3 c3] 51)) w.heap.size #[.int .i64 x.kind, .int .i64 x.agent, .int .i64 x.epoch, .int .i64 x.granted, .slice b l c, .int .i64 x.item.seq, .int .i64 x.item.cls, .int .i64 x.item.key, .int .i64 x.item.window, .int .i64 x.item.sk.count, .int .i64 x.item.sk.sum, .int .i64 x.item.sk.min, .int .i64 x.item.sk.max, .slice a1 n1 c1, .slice a2 n2 c2, .slice a3 n3 c3] 51) := ⟨bw, Blk.made _ _ _⟩
  have HR : Hid (RdP w b l x.taken F1 ∧ RdIt w (.agg #[.int .i64 x.item.seq, .int .i64 x.item.cls, .int .i64 x.item.key, .int .i64 x.item.window, .int .i64 x.item.sk.count, .int .i64 x.item.sk.sum, .int .i64 x.item.sk.min, .int .i64 x.item.sk.max, .slice a1 n1 c1, .slice a2 n2 c2, .slice a3 n3 c3]) x.item F2) := ⟨hp, hr⟩
  have HO : Hid (Own B w F1 ∧ Own B w F2 ∧ ∀ b ∈ F1, b ∉ F2) := ⟨ho.left, ho.right, ho.apart⟩
  clear hp hr ho hw hk1 hm0 bw hcs cs hcp
  go_enter Try.func26, Try.ntmps26
  go_wp2_with fail
  refine (markSpanS_any B b l c (flat x.taken) F1 k _ (HR.out.1.below HB.out.1).rd (HO.out.1.below HR.out.1.lt HB.out.1) hk0 (by have := HM.out; omega)).mono ?_
  rintro e w1 ⟨rfl, m1⟩
  have H1 : Hid (MarkedP B (w.alloc (.cells #[.int .i64 x.kind, .int .i64 x.agent, .int .i64 x.epoch, .int .i64 x.granted, .slice b l c, .int .i64 x.item.seq, .int .i64 x.item.cls, .int .i64 x.item.key, .int .i64 x.item.window, .int .i64 x.item.sk.count, .int .i64 x.item.sk.sum, .int .i64 x.item.sk.min, .int .i64 x.item.sk.max, .slice a1 n1 c1, .slice a2 n2 c2, .slice a3 n3 c3] 51)) b l k F1 w1) := m1
  have HX1 : Hid (Blk w1 w.heap.size #[.int .i64 x.kind, .int .i64 x.agent, .int .i64 x.epoch, .int .i64 x.granted, .slice b l c, .int .i64 x.item.seq, .int .i64 x.item.cls, .int .i64 x.item.key, .int .i64 x.item.window, .int .i64 x.item.sk.count, .int .i64 x.item.sk.sum, .int .i64 x.item.sk.min, .int .i64 x.item.sk.max, .slice a1 n1 c1, .slice a2 n2 c2, .slice a3 n3 c3] 51) := m1.only.blk HB.out.2 (fun hx => by have := HR.out.1.lt _ hx; omega)
  have a2' := m1.only.agree (fun b hb => Nat.lt_of_lt_of_le (HR.out.2.lt b hb) HB.out.1.size) (fun b hb hx => HO.out.2.2 b hx hb)
  have HR2 : Hid (RdIt w1 (.agg #[.int .i64 x.item.seq, .int .i64 x.item.cls, .int .i64 x.item.key, .int .i64 x.item.window, .int .i64 x.item.sk.count, .int .i64 x.item.sk.sum, .int .i64 x.item.sk.min, .int .i64 x.item.sk.max, .slice a1 n1 c1, .slice a2 n2 c2, .slice a3 n3 c3]) x.item F2 ∧ Own B w1 F2) := ⟨(HR.out.2.below HB.out.1).agree a2', (HO.out.2.1.below HR.out.2.lt HB.out.1).agree a2'⟩
  clear m1 a2'
  obtain ⟨y1, hy1⟩ : ∃ y, y = k + 2 * (l : Int) := ⟨_, rfl⟩
  rw [← hy1]
  have HY1 : Hid (y1 = k + 2 * (l : Int)) := hy1
  have y10 : 0 ≤ y1 := by omega
  clear hy1
  go_wp2_with (first | go_skip | (with_reducible refine stopLoad 49 rfl ?_))
  refine load_cutw 49 w.heap.size 5 11 _ #[.int .i64 x.item.seq, .int .i64 x.item.cls, .int .i64 x.item.key, .int .i64 x.item.window, .int .i64 x.item.sk.count, .int .i64 x.item.sk.sum, .int .i64 x.item.sk.min, .int .i64 x.item.sk.max, .slice a1 n1 c1, .slice a2 n2 c2, .slice a3 n3 c3] 51 _ HX1.out rfl rfl rfl Try.underlying49 rfl infoItA7 (by simp) rfl ?_
  go_wp2_with fail
  refine (markItem_any B _ x.item F2 y1 _ HR2.out.1 HR2.out.2 HW.out y10 (by have := HM.out; have := HY1.out; omega)).mono ?_
  rintro e w2 ⟨rfl, m2⟩
  have H2 : Hid (MarkedIt B w1 (.agg #[.int .i64 x.item.seq, .int .i64 x.item.cls, .int .i64 x.item.key, .int .i64 x.item.window, .int .i64 x.item.sk.count, .int .i64 x.item.sk.sum, .int .i64 x.item.sk.min, .int .i64 x.item.sk.max, .slice a1 n1 c1, .slice a2 n2 c2, .slice a3 n3 c3]) y1 x.item F2 w2) := m2
  clear m2
  obtain ⟨y2, hy2⟩ : ∃ y, y = y1 + x.item.sk.many := ⟨_, rfl⟩
  rw [← hy2]
  have HY2 : Hid (y2 = y1 + x.item.sk.many) := hy2
  clear hy2
  go_wp2
  go_ret
  have ag1 := H2.out.only.agree H1.out.rd.lt (fun b hb hx => HO.out.2.2 b hb hx)
  have hlen := HR.out.1.length
  refine ⟨ret_int (by have := HM.out; have := HY1.out; have := HY2.out; omega), ⟨⟨F1, F2, rfl, b, l, c, a1, n1, c1, a2, n2, c2, a3, n3, c3, rfl, ⟨by show (markP k x.taken.length).length = l; rw [markP_length]; exact hlen, ?_⟩, ?_, HCP.out⟩, ?_, ?_⟩⟩
  · show RdI w2 b (2 * l) (flat (markP k x.taken.length)) F1
    rw [flat_markP, hlen]
    exact H1.out.rd.agree ag1
  · show RdIt w2 _ (x.item.marked (k + 2 * x.taken.length)) F2
    rw [hlen, ← HY1.out]
    exact H2.out.rd
  · exact (H1.out.own.agree ag1).app H2.out.own HO.out.2.2
  · exact (((Only.of_below HB.out.1).trans (H1.out.only.mono (fun x hx => List.mem_append_left _ hx))).trans (H2.out.only.mono (fun x hx => List.mem_append_right _ hx)))
set_option maxRecDepth 200000 in
set_option maxHeartbeats 1000000 in
theorem heldF_any (v : Value) (x : Fr) (F : List Nat) (k : Int) (w : World) (h : RdF w v (x.marked k) F) (hw : x.wide) (hk0 : 0 ≤ k) (hk1 : k + x.many ≤ 1000000000000) :
    Calls Try.prog 29 #[v, .int .i64 k] w fun e w' => e = .returned (.int .i64 (k + x.many)) ∧ Below w.heap.size w w' := by
  obtain ⟨F1, F2, rfl, b, l, c, a1, n1, c1, a2, n2, c2, a3, n3, c3, rfl, hp, hr, hcp⟩ := h
  have hlen : x.taken.length = l := by have := hp.length; rw [← this]; exact (markP_length k x.taken.length).symm
  have hp' : RdI w b (2 * l) (marksI k (2 * l)) F1 := by have := hp.rd; rw [show (x.marked k).taken = markP k x.taken.length from rfl, flat_markP, hlen] at this; exact this
  have hr' : RdIt w (.agg #[.int .i64 x.item.seq, .int .i64 x.item.cls, .int .i64 x.item.key, .int .i64 x.item.window, .int .i64 x.item.sk.count, .int .i64 x.item.sk.sum, .int .i64 x.item.sk.min, .int .i64 x.item.sk.max, .slice a1 n1 c1, .slice a2 n2 c2, .slice a3 n3 c3]) (x.item.marked (k + 2 * l)) F2 := by have := hr; rw [show (x.marked k).item = x.item.marked (k + 2 * x.taken.length) from rfl, hlen] at this; exact this
  have hm0 := Sk.many_nonneg x.item.sk
  have HM : Hid (x.many = 2 * (l : Int) + x.item.sk.many ∧ k + x.many ≤ 1000000000000 ∧ 0 ≤ x.item.sk.many) := ⟨by unfold Fr.many; rw [hlen], hk1, hm0⟩
  have HW : Hid (x.item.sk.wide) := hw.1
  have hl : l ≤ 1048576 := by rw [← hlen]; exact hw.2
  have HB : Hid (Below w.heap.size w (w.alloc (.cells #[.int .i64 x.kind, .int .i64 x.agent, .int .i64 x.epoch, .int .i64 x.granted, .slice b l c, .int .i64 x.item.seq, .int .i64 x.item.cls, .int .i64 x.item.key, .int .i64 x.item.window, .int .i64 x.item.sk.count, .int .i64 x.item.sk.sum, .int .i64 x.item.sk.min, .int .i64 x.item.sk.max, .slice a1 n1 c1, .slice a2 n2 c2, .slice a3 n3 c3] 51)) ∧ Blk (w.alloc (.cells #[.int .i64 x.kind, .int .i64 x.agent, .int .i64 x.epoch, .int .i64 x.granted, .slice b l c, .int .i64 x.item.seq, .int .i64 x.item.cls, .int .i64 x.item.key, .int .i64 x.item.window, .int .i64 x.item.sk.count, .int .i64 x.item.sk.sum, .int .i64 x.item.sk.min, .int .i64 x.item.sk.max, .slice a1 n1 c1, .slice a2 n2 c2, .slice a3 n3 c3] 51)) w.heap.size #[.int .i64 x.kind, .int .i64 x.agent, .int .i64 x.epoch, .int .i64 x.granted, .slice b l c, .int .i64 x.item.seq, .int .i64 x.item.cls, .int .i64 x.item.key, .int .i64 x.item.window, .int .i64 x.item.sk.count, .int .i64 x.item.sk.sum, .int .i64 x.item.sk.min, .int .i64 x.item.sk.max, .slice a1 n1 c1, .slice a2 n2 c2, .slice a3 n3 c3] 51) := ⟨(Below.refl _ _).alloc (Nat.le_refl _) _, Blk.made _ _ _⟩
  have HR : Hid (RdI w b (2 * l) (marksI k (2 * l)) F1 ∧ RdIt w (.agg #[.int .i64 x.item.seq, .int .i64 x.item.cls, .int .i64 x.item.key, .int .i64 x.item.window, .int .i64 x.item.sk.count, .int .i64 x.item.sk.sum, .int .i64 x.item.sk.min, .int .i64 x.item.sk.max, .slice a1 n1 c1, .slice a2 n2 c2, .slice a3 n3 c3]) (x.item.marked (k + 2 * l)) F2) := ⟨hp', hr'⟩
  clear hp hr hw hk1 hm0 hp' hr' hcp
  show Calls _ _ #[.agg #[.int .i64 x.kind, .int .i64 x.agent, .int .i64 x.epoch, .int .i64 x.granted, .slice b l c, .int .i64 x.item.seq, .int .i64 x.item.cls, .int .i64 x.item.key, .int .i64 x.item.window, .int .i64 x.item.sk.count, .int .i64 x.item.sk.sum, .int .i64 x.item.sk.min, .int .i64 x.item.sk.max, .slice a1 n1 c1, .slice a2 n2 c2, .slice a3 n3 c3], .int .i64 k] w _
  go_enter Try.func29, Try.ntmps29
  go_wp2_with fail
  refine (heldSpanS_any b l c F1 k _ (HR.out.1.below HB.out.1) hk0 (by have := HM.out; omega)).mono ?_
  rintro e w1 ⟨rfl, b1⟩
  have HB1 : Hid (Below w.heap.size w w1 ∧ Blk w1 w.heap.size #[.int .i64 x.kind, .int .i64 x.agent, .int .i64 x.epoch, .int .i64 x.granted, .slice b l c, .int .i64 x.item.seq, .int .i64 x.item.cls, .int .i64 x.item.key, .int .i64 x.item.window, .int .i64 x.item.sk.count, .int .i64 x.item.sk.sum, .int .i64 x.item.sk.min, .int .i64 x.item.sk.max, .slice a1 n1 c1, .slice a2 n2 c2, .slice a3 n3 c3] 51) := ⟨Below.next HB.out.1 b1, HB.out.2.below b1⟩
  clear b1
  obtain ⟨y1, hy1⟩ : ∃ y, y = k + 2 * (l : Int) := ⟨_, rfl⟩
  rw [← hy1] at HR ⊢
  have HY1 : Hid (y1 = k + 2 * (l : Int)) := hy1
  have y10 : 0 ≤ y1 := by omega
  clear hy1
  go_wp2_with (first | go_skip | (with_reducible refine stopLoad 49 rfl ?_))
  refine load_cutw 49 w.heap.size 5 11 _ #[.int .i64 x.item.seq, .int .i64 x.item.cls, .int .i64 x.item.key, .int .i64 x.item.window, .int .i64 x.item.sk.count, .int .i64 x.item.sk.sum, .int .i64 x.item.sk.min, .int .i64 x.item.sk.max, .slice a1 n1 c1, .slice a2 n2 c2, .slice a3 n3 c3] 51 _ HB1.out.2 rfl rfl rfl Try.underlying49 rfl infoItA7 (by simp) rfl ?_
  go_wp2_with fail
  refine (heldItem_any _ x.item F2 y1 _ (HR.out.2.below HB1.out.1) HW.out y10 (by have := HM.out; have := HY1.out; omega)).mono ?_
  rintro e w2 ⟨rfl, b2⟩
  have HB2 : Hid (Below w.heap.size w w2) := Below.next HB1.out.1 b2
  clear b2
  obtain ⟨y2, hy2⟩ : ∃ y, y = y1 + x.item.sk.many := ⟨_, rfl⟩
  rw [← hy2]
  have HY2 : Hid (y2 = y1 + x.item.sk.many) := hy2
  have y20 : 0 ≤ y2 := by have := HM.out; omega
  clear hy2
  go_wp2
  go_ret
  exact ⟨ret_int (by have := HM.out; have := HY1.out; have := HY2.out; omega), HB2.out⟩
/-- An entry in a variable of the call's own: its struct lies in block g, its lists in memory between lo and hi. -/
structure VarF (W : World) (lo hi g : Nat) (cs : Array Value) (s : Fr) (F : List Nat) : Prop where
  blk : Blk W g cs 51
  rd : RdF W (.agg cs) s F
  sz : cs.size = 16
  own : Own lo W F
  lt : ∀ b ∈ F, b < hi
  ge : lo ≤ g
  glt : g < hi
  apart : g ∉ F
theorem VarF.below {W W' : World} {lo hi g : Nat} {cs : Array Value} {s : Fr} {F : List Nat} (h : VarF W lo hi g cs s F) (b : Below W.heap.size W W') : VarF W' lo hi g cs s F :=
  ⟨h.blk.below b, h.rd.below b, h.sz, h.own.below h.rd.lt b, h.lt, h.ge, h.glt, h.apart⟩
theorem VarF.fresh {w0 w1 W : World} {cs : Array Value} {s : Fr} {F : List Nat} (r : RdF w1 (.agg cs) s F) (o : Own w0.heap.size w1 F) (b : Below w0.heap.size w0 w1) (sz : cs.size = 16) (k : Blk W w1.heap.size cs 51) (b2 : Below w1.heap.size w1 W) : VarF W w0.heap.size W.heap.size w1.heap.size cs s F :=
  ⟨k, r.below b2, sz, o.below r.lt b2, fun x hx => by have := r.lt x hx; have := b2.size; omega, b.size, k.lt, fun hx => by have := r.lt _ hx; omega⟩
theorem VarF.only {W W' : World} {lo hi g lo' hi' g' : Nat} {cs ds : Array Value} {s t : Fr} {F G : List Nat} (h : VarF W lo hi g cs s F) (k : VarF W lo' hi' g' ds t G) (o : Only G W W') (hd : hi ≤ lo' ∨ hi' ≤ lo) : VarF W' lo hi g cs s F := by
  have d : ∀ b ∈ F, b ∉ G := fun b hb hg => by have := h.lt b hb; have := h.own.ge b hb; have := k.lt b hg; have := k.own.ge b hg; omega
  have e : g ∉ G := fun hg => by have := h.ge; have := h.glt; have := k.lt g hg; have := k.own.ge g hg; omega
  exact ⟨h.blk.agree (o.block g h.blk.lt e), h.rd.agree (o.agree h.rd.lt d), h.sz, h.own.agree (o.agree h.rd.lt d), h.lt, h.ge, h.glt, h.apart⟩
theorem VarF.only' {W W' : World} {lo hi g lo' hi' : Nat} {cs : Array Value} {s : Fr} {F G : List Nat} (h : VarF W lo hi g cs s F) (o : Only G W W') (kl : ∀ b ∈ G, b < hi') (kg : ∀ b ∈ G, lo' ≤ b) (hd : hi ≤ lo' ∨ hi' ≤ lo) : VarF W' lo hi g cs s F := by
  have d : ∀ b ∈ F, b ∉ G := fun b hb hg => by have := h.lt b hb; have := h.own.ge b hb; have := kl b hg; have := kg b hg; omega
  have e : g ∉ G := fun hg => by have := h.ge; have := h.glt; have := kl g hg; have := kg g hg; omega
  exact ⟨h.blk.agree (o.block g h.blk.lt e), h.rd.agree (o.agree h.rd.lt d), h.sz, h.own.agree (o.agree h.rd.lt d), h.lt, h.ge, h.glt, h.apart⟩
theorem VarF.keep {W W' : World} {lo' hi' g' : Nat} {ds : Array Value} {t : Fr} {G : List Nat} {b : Nat} {cs : Array Value} {ty : TypeId} (k : VarF W lo' hi' g' ds t G) (o : Only G W W') (h : Blk W b cs ty) (hb : b < lo') : Blk W' b cs ty :=
  h.agree (o.block b h.lt (fun hg => by have := k.own.ge b hg; omega))
theorem VarF.bel {w W W' : World} {lo' hi' g' : Nat} {ds : Array Value} {t : Fr} {G : List Nat} (k : VarF W lo' hi' g' ds t G) (o : Only G W W') (h : Below w.heap.size w W) (hb : w.heap.size ≤ lo') : Below w.heap.size w W' :=
  o.below h h.size (fun b hg => by have := k.own.ge b hg; omega)
theorem varF_stored {W : World} {lo g : Nat} {old rr : Array Value} {s : Fr} {X : List Nat} (k : Blk W g old 51) (r : RdF W (.agg rr) s X) (sz : rr.size = 16) (o : Own lo W X) (lt : ∀ b ∈ X, b < W.heap.size) (ge : lo ≤ g) (ap : g ∉ X) : VarF (W.setRow g rr) lo (W.setRow g rr).heap.size g rr s X := by
  have ag : Agree W (W.setRow g rr) X := fun b hb => setRow_other W _ b _ (fun e => ap (e ▸ hb))
  have hs : (W.setRow g rr).heap.size = W.heap.size := by simp
  exact ⟨k.setRow, r.agree ag, sz, o.agree ag, by rw [hs]; exact lt, ge, by rw [hs]; exact k.lt, ap⟩
theorem VarF.mark {W W' : World} {lo hi g : Nat} {cs : Array Value} {s : Fr} {F : List Nat} {k : Int} (h : VarF W lo hi g cs s F) (m : MarkedF lo W (.agg cs) k s F W') : VarF W' lo hi g cs (s.marked k) F :=
  ⟨h.blk.agree (m.only.block g h.blk.lt h.apart), m.rd, h.sz, m.own, h.lt, h.ge, h.glt, h.apart⟩
/-- The boxes of two arguments lie there. -/
def FrBoxes (g : Nat) (cs ds : Array Value) (W : World) : Prop := Blk W g cs 44 ∧ Blk W (g + 1) ds 44
theorem FrBoxes.below {g : Nat} {cs ds : Array Value} {W W' : World} (h : FrBoxes g cs ds W) (b : Below W.heap.size W W') : FrBoxes g cs ds W' := ⟨h.1.below b, h.2.below b⟩
theorem FrBoxes.setRow {g k : Nat} {cs ds es : Array Value} {W : World} (h : FrBoxes g cs ds W) (hk : g + 1 < k) : FrBoxes g cs ds (W.setRow k es) := ⟨h.1.setRowOther (by omega), h.2.setRowOther (by omega)⟩
end Go.Proofs.Ytfbfklgjccbplaq
/- The walk through the helper of the laws that copies a byte slice. No statement of the seat is proved here. -/
namespace Go.Proofs.Ytfbfklgjccbplaq
open Go.RowKit

/-- What a copy holds behind k rounds. -/
def half (zs : List Int) (k len : Nat) : List Int := zs.take k ++ List.replicate (len - k) 0
theorem half_zero (zs : List Int) (len : Nat) : half zs 0 len = List.replicate len 0 := by simp [half]
theorem half_end (zs : List Int) (len : Nat) (h : zs.length = len) : half zs len len = zs := by
  simp [half, List.take_of_length_le (Nat.le_of_eq h)]
theorem half_step (zs : List Int) (k len : Nat) (h : zs.length = len) (hk : k < len) : (half zs k len).set k (zs[k]?.getD 0) = half zs (k + 1) len := by
  unfold half
  have hkl : (zs.take k).length = k := by simp; omega
  rw [List.set_append_right k _ (by omega), hkl, Nat.sub_self, take_succ' zs k (by omega)]
  have e : List.replicate (len - k) (0 : Int) = 0 :: List.replicate (len - (k + 1)) 0 := by
    rw [show len - k = (len - (k + 1)) + 1 by omega]; rfl
  rw [e]
  simp
theorem half_map_step (zs : List Int) (k len : Nat) (h : zs.length = len) (hk : k < len) : ((half zs k len).map (Value.int .u8)).set k (.int .u8 (zs[k]?.getD 0)) = (half zs (k + 1) len).map (Value.int .u8) := by
  rw [← half_step zs k len h hk, List.map_set]

set_option maxRecDepth 200000 in
set_option maxHeartbeats 400000 in
theorem toByteS_any (a : Option Addr) (len cap : Nat) (zs : List Int) (w : World) (h : RdB w a len zs) (hlen : len ≤ 1048576) :
    Calls Try.prog 18 #[.slice a len cap] w fun e w' => e = .returned (.slice (some ⟨w.heap.size, 0, none⟩) len len) ∧
      w'.ownsRow w.heap.size 5 1 (.slice (some ⟨w.heap.size, 0, none⟩) len len) len (zs.map (Value.int .u8)) ∧ Below w.heap.size w w' := by
  obtain ⟨i0, hi, hz0, hz1, hz2⟩ := info_parts Try.info5
  have HL : Hid (zs.length = len) := h.length
  have hbase : w.heap.size ≤ w.heap.size := Nat.le_refl _
  rcases h.cells with h0 | ⟨b, off, rfl, hc⟩
  · subst h0
    have hz : zs = [] := List.eq_nil_of_length_eq_zero h.length
    subst hz
    clear h
    go_enter Try.func18, Try.ntmps18
    go_wp2_with (at_make; refine wpList_make_full _ rfl _ _ 27 rfl w.heap.size 5 i0 (.int .u8 0) 1 Try.underlying27 hi hz0 hz1 .i64 .i64 _ _ 0 rfl rfl (by simp) (by simp) (by omega) (by unfold maxLen; omega) (Nat.le_refl _) ?_; intro w1 hown hgrow)
    refine wp_loop_rounds 1 ?_
    rw [rounds_succ]
    go_wp2
    go_ret
    exact ⟨rfl, by simpa [Value.cells, toList_madeCells_one] using hown, (Below.refl _ _).grown hgrow (Nat.le_refl _) (fun k hk => by cases hk)⟩
  · have hb : 0 < len → b < w.heap.size := fun h0 => World.block_lt_of_cell? _ _ (hc 0 h0)
    clear h
    go_enter Try.func18, Try.ntmps18
    go_wp2_with (at_make; refine wpList_make_full _ rfl _ _ 27 rfl w.heap.size 5 i0 (.int .u8 0) 1 Try.underlying27 hi hz0 hz1 .i64 .i64 _ _ len rfl rfl rfl rfl (by rw [hz2]; omega) (by unfold maxLen; omega) (Nat.le_refl _) ?_; intro w1 hown hgrow)
    go_loopw [4] (fun i wr => ∃ k : Nat, k ≤ len ∧ i = .int .i64 k ∧ wr.ownsRow w.heap.size 5 1 (.slice (some ⟨w.heap.size, 0, none⟩) len len) len ((half zs k len).map (Value.int .u8)) ∧ Below w.heap.size w wr) (fun i _ => len - (intOf i).toNat)
    case atStart =>
      refine ⟨0, by omega, rfl, ?_, (Below.refl _ _).grown hgrow (Nat.le_refl _) (fun k hk => by cases hk)⟩
      rw [half_zero]
      simpa [Value.cells, toList_madeCells_one] using hown
    case round =>
      obtain ⟨k, hk, rfl, hown', hbel⟩ := hrel
      by_cases hlt : k < len
      · have hck : wr.cell? ⟨b, off + k, none⟩ = some (.int .u8 (zs.getD k 0)) := (hbel.cell (by exact hb (by omega))).trans (hc k hlt)
        obtain ⟨v0, hcg⟩ := own_some hown' k hlt
        have hcf := hown'.frozenAt k
        have R := hown'.stored k (.int .u8 (zs[k]?.getD 0))
        rw [half_map_step zs k len HL.out hlt] at R
        obtain ⟨R1, R2⟩ := R
        clear hown'
        go_wp2
        go_roundw
        case rel => exact ⟨k + 1, by omega, by go_num, R1, hbel.setCell (Nat.le_refl _) _⟩
        case measure => simp [intOf]; omega
      · obtain rfl : k = len := by omega
        rw [half_end zs k HL.out] at hown'
        go_wp2
        go_ret
        exact ⟨rfl, hown', hbel⟩
end Go.Proofs.Ytfbfklgjccbplaq
/- The walks through the helpers that mark a byte slice and look whether the marks still stand. No statement of the seat is proved here. -/
namespace Go.Proofs.Ytfbfklgjccbplaq
open Go.RowKit

theorem grownBy_trans {a b c : World} {row : Option Nat} (h : a.grownBy b row) (k : b.grownBy c row) : a.grownBy c row :=
  ⟨k.os.trans h.os, k.tape.trans h.tape, k.output.trans h.output, Nat.le_trans h.size k.size, fun j hj hr => (k.block j (Nat.lt_of_lt_of_le hj h.size) hr).trans (h.block j hj hr)⟩
theorem u8_conv (x : Int) : IntKind.u8.wrap x = x % 256 := by simp [IntKind.wrap, IntKind.bits, IntKind.signed]

set_option maxRecDepth 200000 in
set_option maxHeartbeats 400000 in
theorem markByteS_any (base n : Nat) (v : Value) (xs : List Value) (k : Int) (w : World) (hown : w.ownsRow base 5 1 v n xs) (hk0 : 0 ≤ k) (hk1 : k + n ≤ 1000000000000) :
    Calls Try.prog 15 #[v, .int .i64 k] w fun e w' => e = .returned (.int .i64 (k + n)) ∧ w'.ownsRow base 5 1 v n ((marks k n).map (Value.int .u8)) ∧ w.grownBy w' v.ownBlock := by
  have HX : Hid (xs.length = n) := by show xs.length = n; simpa using hown.1
  rcases hown.2 with ⟨rfl, rfl⟩ | ⟨g, cap, cur, rfl, hbg, _⟩
  · have hx : xs = [] := List.eq_nil_of_length_eq_zero HX.out
    subst hx
    go_enter Try.func15, Try.ntmps15
    go_wp2
    refine wp_loop_rounds 1 ?_
    rw [rounds_succ]
    go_wp2
    go_ret
    exact ⟨ret_int (by simp), hown, World.grownBy.refl _ _⟩
  · have HO : Hid (w.ownsRow base 5 1 (.slice (some ⟨g, 0, none⟩) n cap) n xs) := hown
    clear hown
    go_enter Try.func15, Try.ntmps15
    go_wp2
    go_loopw [1, 5] (fun q i wr => ∃ j : Nat, j ≤ n ∧ i = .int .i64 j ∧ q = .int .i64 (k + j) ∧ Hid (wr.ownsRow base 5 1 (.slice (some ⟨g, 0, none⟩) n cap) n (marked k j xs)) ∧ w.grownBy wr (some g)) (fun _ i _ => n - (intOf i).toNat)
    case atStart => exact ⟨0, by omega, rfl, by go_num, by show World.ownsRow _ _ _ _ _ _ _; rw [marked_zero]; exact HO.out, World.grownBy.refl _ _⟩
    case round =>
      obtain ⟨j, hj, rfl, rfl, HOj, hgr⟩ := hrel
      by_cases hlt : j < n
      · obtain ⟨v0, hcg⟩ := own_some HOj.out j hlt
        have hcf := HOj.out.frozenAt j
        have R := HOj.out.stored j (.int .u8 ((k + (j : Int)) % 256))
        rw [marked_step k j n xs HX.out hlt] at R
        have R1 : Hid ((wr.setCell ⟨g, j, none⟩ (.int .u8 ((k + (j : Int)) % 256))).ownsRow base 5 1 (.slice (some ⟨g, 0, none⟩) n cap) n (marked k (j + 1) xs)) := R.1
        have R2 := grownBy_trans hgr R.2
        clear R HOj hgr
        go_wp2
        go_roundw
        case rel => exact ⟨j + 1, by omega, by go_num, by go_num, R1, R2⟩
        case measure => simp [intOf]; omega
      · obtain rfl : j = n := by omega
        go_wp2
        go_ret
        exact ⟨rfl, by rw [← marked_end k j xs HX.out]; exact HOj.out, hgr⟩

set_option maxRecDepth 200000 in
set_option maxHeartbeats 400000 in
theorem heldByteS_any (base n : Nat) (v : Value) (k : Int) (w : World) (hown : w.ownsRow base 5 1 v n ((marks k n).map (Value.int .u8))) (hk0 : 0 ≤ k) (hk1 : k + n ≤ 1000000000000) :
    Calls Try.prog 16 #[v, .int .i64 k] w fun e w' => e = .returned (.int .i64 (k + n)) ∧ Below w.heap.size w w' := by
  rcases hown.2 with ⟨rfl, rfl⟩ | ⟨g, cap, cur, rfl, hbg, _⟩
  · clear hown
    go_enter Try.func16, Try.ntmps16
    go_wp2
    refine wp_loop_rounds 1 ?_
    rw [rounds_succ]
    go_wp2
    go_ret
    exact ⟨ret_int (by simp), Below.refl _ _⟩
  · have R := RdB.of_own hown (marks_range k n)
    have HC : Hid (∀ i, i < n → w.cell? ⟨g, i, none⟩ = some (.int .u8 ((k + (i : Int)) % 256))) := by
      intro i hi
      rcases R.cells with h0 | ⟨b, off, hb, hc⟩
      · omega
      · simp only [Option.some.injEq, Addr.mk.injEq, and_true] at hb
        obtain ⟨rfl, rfl⟩ := hb
        have := hc i hi
        rw [Nat.zero_add] at this
        rw [this, List.getD_eq_getElem?_getD, marks_at k n i hi]
    clear hown R
    go_enter Try.func16, Try.ntmps16
    go_wp2
    go_loop [1, 5] (fun q i => ∃ j : Nat, j ≤ n ∧ i = .int .i64 j ∧ q = .int .i64 (k + j)) (fun _ i => n - (intOf i).toNat)
    case atStart => exact ⟨0, by omega, rfl, by go_num⟩
    case round =>
      obtain ⟨j, hj, rfl, rfl⟩ := hrel
      by_cases hlt : j < n
      · have hcg := HC.out j hlt
        go_wp2
        go_round
        case rel => exact ⟨j + 1, by omega, by go_num, by go_num⟩
        case measure => simp [intOf]; omega
      · obtain rfl : j = n := by omega
        go_wp2
        go_ret
        exact ⟨rfl, Below.refl _ _⟩
end Go.Proofs.Ytfbfklgjccbplaq
/- Rows of bytes that a call made, while others write. No statement of the seat is proved here. -/
namespace Go.Proofs.Ytfbfklgjccbplaq
open Go.RowKit
/-- A row of bytes of the call's own, in memory between lo and hi. -/
structure RowB (W : World) (lo hi : Nat) (v : Value) (L : List Int) : Prop where
  own : W.ownsRow lo 5 1 v L.length (L.map (Value.int .u8))
  lt : ∀ g, v.ownBlock = some g → g < hi
theorem RowB.fresh {w0 w1 : World} {v : Value} {L : List Int} (h : w1.ownsRow w0.heap.size 5 1 v L.length (L.map (Value.int .u8))) : RowB w1 w0.heap.size w1.heap.size v L := ⟨h, fun g hg => (h.lt g hg).2⟩
theorem RowB.below {W W' : World} {lo hi : Nat} {v : Value} {L : List Int} (h : RowB W lo hi v L) (b : Below W.heap.size W W') : RowB W' lo hi v L := ⟨ownsRow_below h.own b, h.lt⟩
theorem ownsRow_only {w w' : World} {base e size n : Nat} {v : Value} {xs : List Value} {G : List Nat} (h : w.ownsRow base e size v n xs) (o : Only G w w') (hg : ∀ g, v.ownBlock = some g → g ∉ G) : w'.ownsRow base e size v n xs := by
  refine ⟨h.1, ?_⟩
  rcases h.2 with h' | ⟨g, cap, cur, h1, h2, h3, h4⟩
  · exact .inl h'
  · have e : v.ownBlock = some g := by rw [h1]; rfl
    exact .inr ⟨g, cap, cur, h1, h2, by rw [o.block g (h.lt g e).2 (hg g e)]; exact h3, h4⟩
theorem RowB.only' {W W' : World} {lo hi lo' hi' : Nat} {v : Value} {L : List Int} {G : List Nat} (h : RowB W lo hi v L) (o : Only G W W') (kl : ∀ b ∈ G, b < hi') (kg : ∀ b ∈ G, lo' ≤ b) (hd : hi ≤ lo' ∨ hi' ≤ lo) : RowB W' lo hi v L :=
  ⟨ownsRow_only h.own o (fun g hg hx => by have := h.lt g hg; have := (h.own.lt g hg).1; have := kl g hx; have := kg g hx; omega), h.lt⟩
theorem only_grown {a b : World} {row : Option Nat} (h : a.grownBy b row) : Only row.toList a b := ⟨h.os, h.tape, h.output, h.size, fun i hi hf => h.block i hi (fun e => hf (by rw [← e]; simp))⟩
theorem RowB.geRow {W : World} {lo hi : Nat} {v : Value} {L : List Int} (h : RowB W lo hi v L) : ∀ b ∈ v.ownBlock.toList, lo ≤ b := fun b hb => (h.own.lt b (by simpa using hb)).1
theorem RowB.ltRow {W : World} {lo hi : Nat} {v : Value} {L : List Int} (h : RowB W lo hi v L) : ∀ b ∈ v.ownBlock.toList, b < hi := fun b hb => h.lt b (by simpa using hb)
theorem Blk.only {W W' : World} {G : List Nat} {g lo : Nat} {cs : Array Value} {t : TypeId} (h : Blk W g cs t) (o : Only G W W') (kg : ∀ b ∈ G, lo ≤ b) (hg : g < lo) : Blk W' g cs t :=
  h.agree (o.block g h.lt (fun hb => by have := kg g hb; omega))
theorem Only.belowOf {F : List Nat} {w0 w w' : World} {lo : Nat} (o : Only F w w') (hb : Below w0.heap.size w0 w) (kg : ∀ b ∈ F, lo ≤ b) (hl : w0.heap.size ≤ lo) : Below w0.heap.size w0 w' :=
  o.below hb hb.size (fun b hx => by have := kg b hx; omega)
end Go.Proofs.Ytfbfklgjccbplaq
/- What is read is no longer than it may be. No statement of the seat is proved here. -/
namespace Go.Proofs.Ytfbfklgjccbplaq
open Go.RowKit
theorem Var.only' {W W' : World} {lo hi g lo' hi' : Nat} {cs : Array Value} {s : Sk} {F G : List Nat} (h : Var W lo hi g cs s F) (o : Only G W W') (kl : ∀ b ∈ G, b < hi') (kg : ∀ b ∈ G, lo' ≤ b) (hd : hi ≤ lo' ∨ hi' ≤ lo) : Var W' lo hi g cs s F := by
  have ap : ∀ b ∈ F, b ∉ G := fun b hb hg => by have := h.lt b hb; have := h.own.ge b hb; have := kl b hg; have := kg b hg; omega
  exact ⟨h.blk.agree (o.block g h.blk.lt (fun hg => by have := h.ge; have := h.glt; have := kl g hg; have := kg g hg; omega)), h.rd.agree (o.agree h.rd.lt ap), h.sz, h.own.agree (o.agree h.rd.lt ap), h.lt, h.ge, h.glt, h.apart⟩
theorem ok_size {s : Sk} (h : s.ok = true) : s.size = 26 := by
  have l := (Sk.ok_lens h).1
  unfold Sk.size sumLen
  rw [two_rows7 l.rows, l.hist, l.regs]
  have r1 := l.row (s.rows.getD 0 []) (mem_getD (d := []) (by rw [l.rows]; omega))
  have r2 := l.row (s.rows.getD 1 []) (mem_getD (d := []) (by rw [l.rows]; omega))
  simp only [List.map_cons, List.map_nil, List.sum_cons, List.sum_nil, List.length_cons, List.length_nil, r1, r2]
  omega
theorem zero_size : Sk.zero.size = 0 := by simp [Sk.size, Sk.zero, sumLen]
theorem skIs_size {zs : List Int} {s : Sk} {d : Bool} (h : SkIs zs s d) : s.size ≤ 1048576 := by
  unfold SkIs at h
  cases d <;> simp only [if_true, Bool.false_eq_true, if_false] at h
  · rw [h.1, zero_size]; omega
  · rw [ok_size h.1]; omega
theorem Fr.ok_sizes {f : Fr} (h : f.ok = true) : f.taken.length + f.item.sk.size ≤ 56 := by
  have r := Fr.ok_right h
  have m := r.many
  have i := r.item
  by_cases q : f.kind = 1
  · rw [if_pos q] at i
    rw [ok_size (It.ok_nums i).2.2.2.2]
    omega
  · rw [if_neg q] at i
    rw [i, show It.zero.sk = Sk.zero from rfl, zero_size]
    omega
theorem frIs_size {zs : List Int} {f : Fr} {d : Bool} (h : FrIs zs f d) : f.taken.length + f.item.sk.size ≤ 1048576 := by
  unfold FrIs at h
  cases d <;> simp only [if_true, Bool.false_eq_true, if_false] at h
  · rw [h.1, show Fr.zero.item.sk = Sk.zero from rfl, zero_size]
    simp [Fr.zero]
  · have := Fr.ok_sizes h.1
    omega
end Go.Proofs.Ytfbfklgjccbplaq
