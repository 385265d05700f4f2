/- Several texts of mine, laid together. No statement of the seat is proved here. -/
import Derived.Test.YtbmbmnhamogghapB6
import Derived.Test.YtbmbmnhamogghapB3
import Derived.Laws.CopyOwn
/- Entries and items that are marked; an entry in a variable of the law's own. No statement of the seat is proved here. -/
namespace Go.Proofs.Ytbmbmnhamogghap
open Go.RowKit
/-- The pairs that a marked set bears. -/
def markP (k : Int) (n : Nat) : Sp := (List.range n).map fun i : Nat => (k + 2 * (i : Int), k + 2 * (i : Int) + 1)
theorem flat_markP (k : Int) (n : Nat) : flat (markP k n) = marksI k (2 * n) := by
  induction n with
  | zero => rfl
  | succ n ih =>
    have e : markP k (n + 1) = markP k n ++ [(k + 2 * (n : Int), k + 2 * (n : Int) + 1)] := by unfold markP; rw [List.range_succ, List.map_append]; rfl
    rw [e, flat_append, ih, show 2 * (n + 1) = 2 * n + 1 + 1 by omega, marksI, marksI, List.append_assoc]
    have e1 : k + ((2 * n : Nat) : Int) = k + 2 * (n : Int) := by omega
    have e2 : k + ((2 * n + 1 : Nat) : Int) = k + 2 * (n : Int) + 1 := by omega
    rw [e1, e2]
    rfl
theorem markP_length (k : Int) (n : Nat) : (markP k n).length = n := by unfold markP; simp
def En.many (x : En) : Int := 2 * x.ids.length + x.sk.many
def En.marked (k : Int) (x : En) : En := ⟨x.key, x.window, markP k x.ids.length, x.sk.marked (k + 2 * x.ids.length)⟩
structure MarkedE (B : Nat) (w : World) (v : Value) (k : Int) (x : En) (F : List Nat) (w' : World) : Prop where
  rd : RdE w' v (x.marked k) F
  own : Own B w' F
  only : Only F w w'
theorem Sk.many_nonneg (s : Sk) : 0 ≤ s.many := by
  have := sumLen_nonneg s.rows
  unfold Sk.many
  omega
theorem Sk.size_nonneg (s : Sk) : 0 ≤ s.size := by
  have h0 := sumLen_nonneg s.rows
  unfold Sk.size
  omega
theorem En.fits_sz {x : En} (h : x.ids.length + x.sk.size ≤ 1048576) : x.fits := by
  have := Sk.size_nonneg x.sk
  exact ⟨Sk.fits_of (by omega), by omega⟩
theorem En.many_fits {x : En} (h : x.ids.length + x.sk.size ≤ 1048576) : 0 ≤ x.many ∧ x.many ≤ 4194304 := by
  have h1 := Sk.many_nonneg x.sk
  have h2 : x.sk.many ≤ x.sk.size := by
    have h0 := sumLen_nonneg x.sk.rows
    unfold Sk.size Sk.many
    omega
  unfold En.many
  omega
set_option maxRecDepth 200000 in
set_option maxHeartbeats 1000000 in
theorem markE_any (B : Nat) (v : Value) (x : En) (F : List Nat) (k : Int) (w : World) (h : RdE w v x F) (ho : Own B w F) (hw : x.wide) (hk0 : 0 ≤ k) (hk1 : k + x.many ≤ 1000000000000) :
    Calls Try.prog 20 #[v, .int .i64 k] w fun e w' => e = .returned (.int .i64 (k + x.many)) ∧ MarkedE B w v k x F w' := by
  obtain ⟨F1, F2, rfl, b, l, c, a1, n1, c1, a2, n2, c2, a3, n3, c3, rfl, hp, hr, hcp⟩ := h
  obtain ⟨cs, hcs⟩ : ∃ cs : Array Value, cs = #[.int .i64 x.key, .int .i64 x.window, .slice b l c, .int .i64 x.sk.count, .int .i64 x.sk.sum, .int .i64 x.sk.min, .int .i64 x.sk.max, .slice a1 n1 c1, .slice a2 n2 c2, .slice a3 n3 c3] := ⟨_, rfl⟩
  have bw : Below w.heap.size w (w.alloc (.cells #[.int .i64 x.key, .int .i64 x.window, .slice b l c, .int .i64 x.sk.count, .int .i64 x.sk.sum, .int .i64 x.sk.min, .int .i64 x.sk.max, .slice a1 n1 c1, .slice a2 n2 c2, .slice a3 n3 c3] 34)) := (Below.refl _ _).alloc (Nat.le_refl _) _
  have hm0 := Sk.many_nonneg x.sk
  have HM : Hid (x.many = 2 * (l : Int) + x.sk.many ∧ k + x.many ≤ 1000000000000 ∧ 0 ≤ x.sk.many) := ⟨by unfold En.many; rw [hp.length], hk1, hm0⟩
  have HW : Hid (x.sk.wide) := hw.1
  have hl : l ≤ 1048576 := by rw [← hp.length]; exact hw.2
  have HCP : Hid (Capd b l c) := hcp
  have HB : Hid (Below w.heap.size w (w.alloc (.cells #[.int .i64 x.key, .int .i64 x.window, .slice b l c, .int .i64 x.sk.count, .int .i64 x.sk.sum, .int .i64 x.sk.min, .int .i64 x.sk.max, .slice a1 n1 c1, .slice a2 n2 c2, .slice a3 n3 c3] 34)) ∧ Blk (w.alloc (.cells #[.int .i64 x.key, .int .i64 x.window, .slice b l c, .int .i64 x.sk.count, .int .i64 x.sk.sum, .int .i64 x.sk.min, .int .i64 x.sk.max, .slice a1 n1 c1, .slice a2 n2 c2, .slice a3 n3 c3] 34)) w.heap.size #[.int .i64 x.key, .int .i64 x.window, .slice b l c, .int .i64 x.sk.count, .int .i64 x.sk.sum, .int .i64 x.sk.min, .int .i64 x.sk.max, .slice a1 n1 c1, .slice a2 n2 c2, .slice a3 n3 c3] 34) := ⟨bw, Blk.made _ _ _⟩
  have HR : Hid (RdP w b l x.ids F1 ∧ RdSk w (.agg #[.int .i64 x.sk.count, .int .i64 x.sk.sum, .int .i64 x.sk.min, .int .i64 x.sk.max, .slice a1 n1 c1, .slice a2 n2 c2, .slice a3 n3 c3]) x.sk F2) := ⟨hp, hr⟩
  have HO : Hid (Own B w F1 ∧ Own B w F2 ∧ ∀ b ∈ F1, b ∉ F2) := ⟨ho.left, ho.right, ho.apart⟩
  clear hp hr ho hw hk1 hm0 bw hcs cs hcp
  go_enter Try.func20, Try.ntmps20
  go_wp2_with fail
  refine (markSpanS_any B b l c (flat x.ids) F1 k _ (HR.out.1.below HB.out.1).rd (HO.out.1.below HR.out.1.lt HB.out.1) hk0 (by have := HM.out; omega)).mono ?_
  rintro e w1 ⟨rfl, m1⟩
  have H1 : Hid (MarkedP B (w.alloc (.cells #[.int .i64 x.key, .int .i64 x.window, .slice b l c, .int .i64 x.sk.count, .int .i64 x.sk.sum, .int .i64 x.sk.min, .int .i64 x.sk.max, .slice a1 n1 c1, .slice a2 n2 c2, .slice a3 n3 c3] 34)) b l k F1 w1) := m1
  have HX1 : Hid (Blk w1 w.heap.size #[.int .i64 x.key, .int .i64 x.window, .slice b l c, .int .i64 x.sk.count, .int .i64 x.sk.sum, .int .i64 x.sk.min, .int .i64 x.sk.max, .slice a1 n1 c1, .slice a2 n2 c2, .slice a3 n3 c3] 34) := m1.only.blk HB.out.2 (fun hx => by have := HR.out.1.lt _ hx; omega)
  have a2' := m1.only.agree (fun b hb => Nat.lt_of_lt_of_le (HR.out.2.lt b hb) HB.out.1.size) (fun b hb hx => HO.out.2.2 b hx hb)
  have HR2 : Hid (RdSk w1 (.agg #[.int .i64 x.sk.count, .int .i64 x.sk.sum, .int .i64 x.sk.min, .int .i64 x.sk.max, .slice a1 n1 c1, .slice a2 n2 c2, .slice a3 n3 c3]) x.sk F2 ∧ Own B w1 F2) := ⟨(HR.out.2.below HB.out.1).agree a2', (HO.out.2.1.below HR.out.2.lt HB.out.1).agree a2'⟩
  clear m1 a2'
  obtain ⟨y1, hy1⟩ : ∃ y, y = k + 2 * (l : Int) := ⟨_, rfl⟩
  rw [← hy1]
  have HY1 : Hid (y1 = k + 2 * (l : Int)) := hy1
  have y10 : 0 ≤ y1 := by omega
  clear hy1
  go_wp2_with (first | go_skip | (with_reducible refine stopLoad 32 rfl ?_))
  refine load_cutw 32 w.heap.size 3 7 _ #[.int .i64 x.sk.count, .int .i64 x.sk.sum, .int .i64 x.sk.min, .int .i64 x.sk.max, .slice a1 n1 c1, .slice a2 n2 c2, .slice a3 n3 c3] 34 _ HX1.out rfl rfl rfl Try.underlying32 rfl infoSkI (by simp) rfl ?_
  go_wp2_with fail
  refine (markSketch_any B _ x.sk F2 y1 _ HR2.out.1 HR2.out.2 HW.out y10 (by have := HM.out; have := HY1.out; omega)).mono ?_
  rintro e w2 ⟨rfl, m2⟩
  have H2 : Hid (MarkedSk B w1 (.agg #[.int .i64 x.sk.count, .int .i64 x.sk.sum, .int .i64 x.sk.min, .int .i64 x.sk.max, .slice a1 n1 c1, .slice a2 n2 c2, .slice a3 n3 c3]) y1 x.sk F2 w2) := m2
  clear m2
  obtain ⟨y2, hy2⟩ : ∃ y, y = y1 + x.sk.many := ⟨_, rfl⟩
  rw [← hy2]
  have HY2 : Hid (y2 = y1 + x.sk.many) := hy2
  clear hy2
  go_wp2
  go_ret
  have ag1 := H2.out.only.agree H1.out.rd.lt (fun b hb hx => HO.out.2.2 b hb hx)
  have hlen := HR.out.1.length
  refine ⟨ret_int (by have := HM.out; have := HY1.out; have := HY2.out; omega), ⟨⟨F1, F2, rfl, b, l, c, a1, n1, c1, a2, n2, c2, a3, n3, c3, rfl, ⟨by show (markP k x.ids.length).length = l; rw [markP_length]; exact hlen, ?_⟩, ?_, HCP.out⟩, ?_, ?_⟩⟩
  · show RdI w2 b (2 * l) (flat (markP k x.ids.length)) F1
    rw [flat_markP, hlen]
    exact H1.out.rd.agree ag1
  · show RdSk w2 _ (x.sk.marked (k + 2 * x.ids.length)) F2
    rw [hlen, ← HY1.out]
    exact H2.out.rd
  · exact (H1.out.own.agree ag1).app H2.out.own HO.out.2.2
  · exact (((Only.of_below HB.out.1).trans (H1.out.only.mono (fun x hx => List.mem_append_left _ hx))).trans (H2.out.only.mono (fun x hx => List.mem_append_right _ hx)))
set_option maxRecDepth 200000 in
set_option maxHeartbeats 1000000 in
theorem heldE_any (v : Value) (x : En) (F : List Nat) (k : Int) (w : World) (h : RdE w v (x.marked k) F) (hw : x.wide) (hk0 : 0 ≤ k) (hk1 : k + x.many ≤ 1000000000000) :
    Calls Try.prog 21 #[v, .int .i64 k] w fun e w' => e = .returned (.int .i64 (k + x.many)) ∧ Below w.heap.size w w' := by
  obtain ⟨F1, F2, rfl, b, l, c, a1, n1, c1, a2, n2, c2, a3, n3, c3, rfl, hp, hr, hcp⟩ := h
  have hlen : x.ids.length = l := by have := hp.length; rw [← this]; exact (markP_length k x.ids.length).symm
  have hp' : RdI w b (2 * l) (marksI k (2 * l)) F1 := by have := hp.rd; rw [show (x.marked k).ids = markP k x.ids.length from rfl, flat_markP, hlen] at this; exact this
  have hr' : RdSk w (.agg #[.int .i64 x.sk.count, .int .i64 x.sk.sum, .int .i64 x.sk.min, .int .i64 x.sk.max, .slice a1 n1 c1, .slice a2 n2 c2, .slice a3 n3 c3]) (x.sk.marked (k + 2 * l)) F2 := by have := hr; rw [show (x.marked k).sk = x.sk.marked (k + 2 * x.ids.length) from rfl, hlen] at this; exact this
  have hm0 := Sk.many_nonneg x.sk
  have HM : Hid (x.many = 2 * (l : Int) + x.sk.many ∧ k + x.many ≤ 1000000000000 ∧ 0 ≤ x.sk.many) := ⟨by unfold En.many; rw [hlen], hk1, hm0⟩
  have HW : Hid (x.sk.wide) := hw.1
  have hl : l ≤ 1048576 := by rw [← hlen]; exact hw.2
  have HB : Hid (Below w.heap.size w (w.alloc (.cells #[.int .i64 x.key, .int .i64 x.window, .slice b l c, .int .i64 x.sk.count, .int .i64 x.sk.sum, .int .i64 x.sk.min, .int .i64 x.sk.max, .slice a1 n1 c1, .slice a2 n2 c2, .slice a3 n3 c3] 34)) ∧ Blk (w.alloc (.cells #[.int .i64 x.key, .int .i64 x.window, .slice b l c, .int .i64 x.sk.count, .int .i64 x.sk.sum, .int .i64 x.sk.min, .int .i64 x.sk.max, .slice a1 n1 c1, .slice a2 n2 c2, .slice a3 n3 c3] 34)) w.heap.size #[.int .i64 x.key, .int .i64 x.window, .slice b l c, .int .i64 x.sk.count, .int .i64 x.sk.sum, .int .i64 x.sk.min, .int .i64 x.sk.max, .slice a1 n1 c1, .slice a2 n2 c2, .slice a3 n3 c3] 34) := ⟨(Below.refl _ _).alloc (Nat.le_refl _) _, Blk.made _ _ _⟩
  have HR : Hid (RdI w b (2 * l) (marksI k (2 * l)) F1 ∧ RdSk w (.agg #[.int .i64 x.sk.count, .int .i64 x.sk.sum, .int .i64 x.sk.min, .int .i64 x.sk.max, .slice a1 n1 c1, .slice a2 n2 c2, .slice a3 n3 c3]) (x.sk.marked (k + 2 * l)) F2) := ⟨hp', hr'⟩
  clear hp hr hw hk1 hm0 hp' hr' hcp
  show Calls _ _ #[.agg #[.int .i64 x.key, .int .i64 x.window, .slice b l c, .int .i64 x.sk.count, .int .i64 x.sk.sum, .int .i64 x.sk.min, .int .i64 x.sk.max, .slice a1 n1 c1, .slice a2 n2 c2, .slice a3 n3 c3], .int .i64 k] w _
  go_enter Try.func21, Try.ntmps21
  go_wp2_with fail
  refine (heldSpanS_any b l c F1 k _ (HR.out.1.below HB.out.1) hk0 (by have := HM.out; omega)).mono ?_
  rintro e w1 ⟨rfl, b1⟩
  have HB1 : Hid (Below w.heap.size w w1 ∧ Blk w1 w.heap.size #[.int .i64 x.key, .int .i64 x.window, .slice b l c, .int .i64 x.sk.count, .int .i64 x.sk.sum, .int .i64 x.sk.min, .int .i64 x.sk.max, .slice a1 n1 c1, .slice a2 n2 c2, .slice a3 n3 c3] 34) := ⟨Below.next HB.out.1 b1, HB.out.2.below b1⟩
  clear b1
  obtain ⟨y1, hy1⟩ : ∃ y, y = k + 2 * (l : Int) := ⟨_, rfl⟩
  rw [← hy1] at HR ⊢
  have HY1 : Hid (y1 = k + 2 * (l : Int)) := hy1
  have y10 : 0 ≤ y1 := by omega
  clear hy1
  go_wp2_with (first | go_skip | (with_reducible refine stopLoad 32 rfl ?_))
  refine load_cutw 32 w.heap.size 3 7 _ #[.int .i64 x.sk.count, .int .i64 x.sk.sum, .int .i64 x.sk.min, .int .i64 x.sk.max, .slice a1 n1 c1, .slice a2 n2 c2, .slice a3 n3 c3] 34 _ HB1.out.2 rfl rfl rfl Try.underlying32 rfl infoSkI (by simp) rfl ?_
  go_wp2_with fail
  refine (heldSketch_any _ x.sk F2 y1 _ (HR.out.2.below HB1.out.1) HW.out y10 (by have := HM.out; have := HY1.out; omega)).mono ?_
  rintro e w2 ⟨rfl, b2⟩
  have HB2 : Hid (Below w.heap.size w w2) := Below.next HB1.out.1 b2
  clear b2
  obtain ⟨y2, hy2⟩ : ∃ y, y = y1 + x.sk.many := ⟨_, rfl⟩
  rw [← hy2]
  have HY2 : Hid (y2 = y1 + x.sk.many) := hy2
  have y20 : 0 ≤ y2 := by have := HM.out; omega
  clear hy2
  go_wp2
  go_ret
  exact ⟨ret_int (by have := HM.out; have := HY1.out; have := HY2.out; omega), HB2.out⟩
set_option maxRecDepth 200000 in
set_option maxHeartbeats 1000000 in
theorem markIt_any (B : Nat) (v : Value) (x : It) (F : List Nat) (k : Int) (w : World) (h : RdIt w v x F) (ho : Own B w F) (hw : x.wide) (hk0 : 0 ≤ k) (hk1 : k + x.sk.many ≤ 1000000000000) :
    Calls Try.prog 19 #[v, .int .i64 k] w fun e w' => e = .returned (.int .i64 (k + x.sk.many)) ∧ (∃ y, RdIt w' v y F) ∧ Own B w' F ∧ Only F w w' := by
  obtain ⟨a1, n1, c1, a2, n2, c2, a3, n3, c3, rfl, hr⟩ := h
  have hm0 := Sk.many_nonneg x.sk
  have HM : Hid (k + x.sk.many ≤ 1000000000000 ∧ 0 ≤ x.sk.many) := ⟨hk1, hm0⟩
  have HW : Hid (x.sk.wide) := hw
  have HB : Hid (Below w.heap.size w (w.alloc (.cells #[.int .i64 x.seq, .int .i64 x.cls, .int .i64 x.key, .int .i64 x.window, .int .i64 x.sk.count, .int .i64 x.sk.sum, .int .i64 x.sk.min, .int .i64 x.sk.max, .slice a1 n1 c1, .slice a2 n2 c2, .slice a3 n3 c3] 44)) ∧ Blk (w.alloc (.cells #[.int .i64 x.seq, .int .i64 x.cls, .int .i64 x.key, .int .i64 x.window, .int .i64 x.sk.count, .int .i64 x.sk.sum, .int .i64 x.sk.min, .int .i64 x.sk.max, .slice a1 n1 c1, .slice a2 n2 c2, .slice a3 n3 c3] 44)) w.heap.size #[.int .i64 x.seq, .int .i64 x.cls, .int .i64 x.key, .int .i64 x.window, .int .i64 x.sk.count, .int .i64 x.sk.sum, .int .i64 x.sk.min, .int .i64 x.sk.max, .slice a1 n1 c1, .slice a2 n2 c2, .slice a3 n3 c3] 44) := ⟨(Below.refl _ _).alloc (Nat.le_refl _) _, Blk.made _ _ _⟩
  have HR : Hid (RdSk w (.agg #[.int .i64 x.sk.count, .int .i64 x.sk.sum, .int .i64 x.sk.min, .int .i64 x.sk.max, .slice a1 n1 c1, .slice a2 n2 c2, .slice a3 n3 c3]) x.sk F ∧ Own B w F) := ⟨hr, ho⟩
  clear hr ho hw hk1 hm0
  go_enter Try.func19, Try.ntmps19
  go_wp2_with (first | go_skip | (with_reducible refine stopLoad 32 rfl ?_))
  refine load_cutw 32 w.heap.size 4 7 _ #[.int .i64 x.sk.count, .int .i64 x.sk.sum, .int .i64 x.sk.min, .int .i64 x.sk.max, .slice a1 n1 c1, .slice a2 n2 c2, .slice a3 n3 c3] 44 _ HB.out.2 rfl rfl rfl Try.underlying32 rfl infoSkI (by simp) rfl ?_
  go_wp2_with fail
  refine (markSketch_any B _ x.sk F k _ (HR.out.1.below HB.out.1) (HR.out.2.below HR.out.1.lt HB.out.1) HW.out hk0 HM.out.1).mono ?_
  rintro e w2 ⟨rfl, m2⟩
  have H2 : Hid (RdSk w2 (.agg #[.int .i64 x.sk.count, .int .i64 x.sk.sum, .int .i64 x.sk.min, .int .i64 x.sk.max, .slice a1 n1 c1, .slice a2 n2 c2, .slice a3 n3 c3]) (x.sk.marked k) F ∧ Own B w2 F ∧ Only F w w2) := ⟨m2.rd, m2.own, (Only.of_below HB.out.1).trans m2.only⟩
  clear m2
  obtain ⟨y2, hy2⟩ : ∃ y, y = k + x.sk.many := ⟨_, rfl⟩
  rw [← hy2]
  have HY2 : Hid (y2 = k + x.sk.many) := hy2
  clear hy2
  go_wp2
  go_ret
  exact ⟨ret_int HY2.out, ⟨⟨x.seq, x.cls, x.key, x.window, x.sk.marked k⟩, a1, n1, c1, a2, n2, c2, a3, n3, c3, rfl, H2.out.1⟩, H2.out.2.1, H2.out.2.2⟩
/-- An entry in a variable of the call's own: its struct lies in block g, its lists in memory between lo and hi. -/
structure VarE (W : World) (lo hi g : Nat) (cs : Array Value) (s : En) (F : List Nat) : Prop where
  blk : Blk W g cs 34
  rd : RdE W (.agg cs) s F
  sz : cs.size = 10
  own : Own lo W F
  lt : ∀ b ∈ F, b < hi
  ge : lo ≤ g
  glt : g < hi
  apart : g ∉ F
theorem VarE.below {W W' : World} {lo hi g : Nat} {cs : Array Value} {s : En} {F : List Nat} (h : VarE W lo hi g cs s F) (b : Below W.heap.size W W') : VarE W' lo hi g cs s F :=
  ⟨h.blk.below b, h.rd.below b, h.sz, h.own.below h.rd.lt b, h.lt, h.ge, h.glt, h.apart⟩
theorem VarE.fresh {w0 w1 W : World} {cs : Array Value} {s : En} {F : List Nat} (r : RdE w1 (.agg cs) s F) (o : Own w0.heap.size w1 F) (b : Below w0.heap.size w0 w1) (sz : cs.size = 10) (k : Blk W w1.heap.size cs 34) (b2 : Below w1.heap.size w1 W) : VarE W w0.heap.size W.heap.size w1.heap.size cs s F :=
  ⟨k, r.below b2, sz, o.below r.lt b2, fun x hx => by have := r.lt x hx; have := b2.size; omega, b.size, k.lt, fun hx => by have := r.lt _ hx; omega⟩
theorem VarE.only {W W' : World} {lo hi g lo' hi' g' : Nat} {cs ds : Array Value} {s t : En} {F G : List Nat} (h : VarE W lo hi g cs s F) (k : VarE W lo' hi' g' ds t G) (o : Only G W W') (hd : hi ≤ lo' ∨ hi' ≤ lo) : VarE W' lo hi g cs s F := by
  have d : ∀ b ∈ F, b ∉ G := fun b hb hg => by have := h.lt b hb; have := h.own.ge b hb; have := k.lt b hg; have := k.own.ge b hg; omega
  have e : g ∉ G := fun hg => by have := h.ge; have := h.glt; have := k.lt g hg; have := k.own.ge g hg; omega
  exact ⟨h.blk.agree (o.block g h.blk.lt e), h.rd.agree (o.agree h.rd.lt d), h.sz, h.own.agree (o.agree h.rd.lt d), h.lt, h.ge, h.glt, h.apart⟩
theorem VarE.only' {W W' : World} {lo hi g lo' hi' : Nat} {cs : Array Value} {s : En} {F G : List Nat} (h : VarE W lo hi g cs s F) (o : Only G W W') (kl : ∀ b ∈ G, b < hi') (kg : ∀ b ∈ G, lo' ≤ b) (hd : hi ≤ lo' ∨ hi' ≤ lo) : VarE W' lo hi g cs s F := by
  have d : ∀ b ∈ F, b ∉ G := fun b hb hg => by have := h.lt b hb; have := h.own.ge b hb; have := kl b hg; have := kg b hg; omega
  have e : g ∉ G := fun hg => by have := h.ge; have := h.glt; have := kl g hg; have := kg g hg; omega
  exact ⟨h.blk.agree (o.block g h.blk.lt e), h.rd.agree (o.agree h.rd.lt d), h.sz, h.own.agree (o.agree h.rd.lt d), h.lt, h.ge, h.glt, h.apart⟩
theorem VarE.keep {W W' : World} {lo' hi' g' : Nat} {ds : Array Value} {t : En} {G : List Nat} {b : Nat} {cs : Array Value} {ty : TypeId} (k : VarE W lo' hi' g' ds t G) (o : Only G W W') (h : Blk W b cs ty) (hb : b < lo') : Blk W' b cs ty :=
  h.agree (o.block b h.lt (fun hg => by have := k.own.ge b hg; omega))
theorem VarE.bel {w W W' : World} {lo' hi' g' : Nat} {ds : Array Value} {t : En} {G : List Nat} (k : VarE W lo' hi' g' ds t G) (o : Only G W W') (h : Below w.heap.size w W) (hb : w.heap.size ≤ lo') : Below w.heap.size w W' :=
  o.below h h.size (fun b hg => by have := k.own.ge b hg; omega)
theorem varE_stored {W : World} {lo g : Nat} {old rr : Array Value} {s : En} {X : List Nat} (k : Blk W g old 34) (r : RdE W (.agg rr) s X) (sz : rr.size = 10) (o : Own lo W X) (lt : ∀ b ∈ X, b < W.heap.size) (ge : lo ≤ g) (ap : g ∉ X) : VarE (W.setRow g rr) lo (W.setRow g rr).heap.size g rr s X := by
  have ag : Agree W (W.setRow g rr) X := fun b hb => setRow_other W _ b _ (fun e => ap (e ▸ hb))
  have hs : (W.setRow g rr).heap.size = W.heap.size := by simp
  exact ⟨k.setRow, r.agree ag, sz, o.agree ag, by rw [hs]; exact lt, ge, by rw [hs]; exact k.lt, ap⟩
theorem VarE.mark {W W' : World} {lo hi g : Nat} {cs : Array Value} {s : En} {F : List Nat} {k : Int} (h : VarE W lo hi g cs s F) (m : MarkedE lo W (.agg cs) k s F W') : VarE W' lo hi g cs (s.marked k) F :=
  ⟨h.blk.agree (m.only.block g h.blk.lt h.apart), m.rd, h.sz, m.own, h.lt, h.ge, h.glt, h.apart⟩
/-- The boxes of two arguments lie there. -/
def EnBoxes (g : Nat) (cs ds : Array Value) (W : World) : Prop := Blk W g cs 28 ∧ Blk W (g + 1) ds 28
theorem EnBoxes.below {g : Nat} {cs ds : Array Value} {W W' : World} (h : EnBoxes g cs ds W) (b : Below W.heap.size W W') : EnBoxes g cs ds W' := ⟨h.1.below b, h.2.below b⟩
theorem EnBoxes.setRow {g k : Nat} {cs ds es : Array Value} {W : World} (h : EnBoxes g cs ds W) (hk : g + 1 < k) : EnBoxes g cs ds (W.setRow k es) := ⟨h.1.setRowOther (by omega), h.2.setRowOther (by omega)⟩
end Go.Proofs.Ytbmbmnhamogghap
/- The walks through the program's looks at numbers and lists of a summary. No statement of the seat is proved here. -/
namespace Go.Proofs.Ytbmbmnhamogghap
open Go.RowKit
set_option maxRecDepth 200000 in
theorem inRange_any (x hi : Int) (w : World) : Calls Try.prog 81 #[.int .i64 x, .int .i64 hi] w fun e w' => e = .returned (.bool (decide (0 ≤ x ∧ x ≤ hi))) ∧ w' = w := by
  have hd : ∀ d : Bool, d = decide (0 ≤ x ∧ x ≤ hi) → (d = true ↔ 0 ≤ x ∧ x ≤ hi) := by rintro d rfl; simp
  generalize decide (0 ≤ x ∧ x ≤ hi) = d at *
  have hd := hd d rfl
  by_cases h : 0 ≤ x
  · by_cases h2 : x ≤ hi
    · have e : Hid (d = true) := hd.2 ⟨h, h2⟩
      clear hd
      go_enter Try.func81, Try.ntmps81
      go_wp2
      go_ret
      rw [e.out]; exact ⟨rfl, rfl⟩
    · have e : Hid (d = false) := show d = false by cases d; rfl; exact absurd (hd.1 rfl).2 h2
      clear hd
      go_enter Try.func81, Try.ntmps81
      go_wp2
      go_ret
      rw [e.out]; exact ⟨rfl, rfl⟩
  · have e : Hid (d = false) := show d = false by cases d; rfl; exact absurd (hd.1 rfl).1 h
    clear hd
    go_enter Try.func81, Try.ntmps81
    go_wp2
    go_ret
    rw [e.out]; exact ⟨rfl, rfl⟩
set_option maxRecDepth 200000 in
set_option maxHeartbeats 1000000 in
theorem allInRange_any (a : Option Addr) (len cap : Nat) (zs : List Int) (F : List Nat) (most : Int) (w : World) (h : RdI w a len zs F) (hlen : len ≤ 140737488355328) :
    Calls Try.prog 117 #[.slice a len cap, .int .i64 most] w fun e w' => e = .returned (.bool (zs.all (okN most false))) ∧ w' = w := by
  obtain ⟨d, hd⟩ : ∃ d, d = zs.all (okN most false) := ⟨_, rfl⟩
  rw [← hd]
  have HL : Hid (zs.length = len) := h.length
  have HD : Hid (d = zs.all (okN most false)) := hd
  clear hd
  rcases h.cells with ⟨h0, _⟩ | ⟨b, off, hp, rfl, _, hc⟩
  · subst h0
    have hz : zs = [] := List.eq_nil_of_length_eq_zero h.length
    subst hz
    clear h
    go_enter Try.func117, Try.ntmps117
    go_wp2
    refine wp_loop_rounds 1 ?_
    rw [rounds_succ]
    go_wp2
    go_ret
    exact ⟨ret_bool (by rw [HD.out]; rfl), rfl⟩
  · have HC : Hid (∀ i, i < len → w.cell? ⟨b, off + i, none⟩ = some (.int .i64 (zs.getD i 0))) := hc
    clear h hc
    go_enter Try.func117, Try.ntmps117
    go_wp2
    go_loop [9] (fun i => ∃ k : Nat, k ≤ len ∧ i = .int .i64 k ∧ Hid ((zs.take k).all (okN most false) = true)) (fun i => len - (intOf i).toNat)
    case atStart => exact ⟨0, by omega, rfl, show _ = true by simp⟩
    case round =>
      obtain ⟨k, hk, rfl, HA⟩ := hrel
      by_cases hlt : k < len
      · have hck := HC.out k hlt
        obtain ⟨x, hx⟩ : ∃ x, x = zs[k]?.getD 0 := ⟨_, rfl⟩
        have hck2 : w.cell? ⟨b, off + k, none⟩ = some (.int .i64 x) := by rw [hx, hck]; simp
        have HX : Hid (x = zs[k]?.getD 0) := hx
        clear hck hx
        by_cases hin : 0 ≤ x ∧ x ≤ most
        · have HA2 : Hid ((zs.take (k + 1)).all (okN most false) = true) := all_snoc (by rw [HL.out]; exact hlt) HA.out (by
            rw [← HX.out]; unfold okN; rw [dec_true hin]; rfl)
          have hdec : decide (0 ≤ x ∧ x ≤ most) = true := by simpa using hin
          clear hin
          go_wp2_with fail
          refine (inRange_any _ _ _).mono ?_
          rintro e w1 ⟨rfl, hw1⟩
          have hw1' := hw1.symm
          subst hw1'
          rw [hdec]
          clear hw1 hdec
          go_wp2
          go_round
          case rel => exact ⟨k + 1, by omega, by go_num, HA2⟩
          case measure => simp [intOf]; omega
        · have HN : Hid (zs.all (okN most false) = false) := all_not (by rw [HL.out]; exact hlt) (by rw [← HX.out]; unfold okN; rw [dec_false hin]; rfl)
          have hdec : decide (0 ≤ x ∧ x ≤ most) = false := by simpa using hin
          clear hin
          go_wp2_with fail
          refine (inRange_any _ _ _).mono ?_
          rintro e w1 ⟨rfl, hw1⟩
          have hw1' := hw1.symm
          subst hw1'
          rw [hdec]
          clear hw1 hdec
          go_wp2
          go_ret
          exact ⟨ret_bool (by rw [HD.out, HN.out]), rfl⟩
      · obtain rfl : k = len := by omega
        have HF : Hid (zs.all (okN most false) = true) := by have := HA.out; rw [List.take_of_length_le (Nat.le_of_eq HL.out)] at this; exact this
        go_wp2
        go_ret
        exact ⟨ret_bool (by rw [HD.out, HF.out]), rfl⟩
/-- Lists as long as told. -/
def Sk.shaped (s : Sk) : Bool := s.rows.all (fun z => decide (z.length = 4)) && decide (s.hist.length = 8) && decide (s.regs.length = 8) && decide (s.rows.length = 2)
theorem allL_snoc {p : List Int → Bool} {l : List (List Int)} {k : Nat} (hk : k < l.length) (h : (l.take k).all p = true) (hx : p (l.getD k []) = true) : (l.take (k + 1)).all p = true := by
  rw [take_snoc l [] k hk, List.all_append, h]; simpa using hx
theorem allL_not {p : List Int → Bool} {l : List (List Int)} {k : Nat} (hk : k < l.length) (hx : p (l.getD k []) = false) : l.all p = false := by
  cases e : l.all p
  · rfl
  · rw [List.all_eq_true] at e
    rw [e _ (mem_getD hk)] at hx; cases hx
set_option maxRecDepth 200000 in
set_option maxHeartbeats 1000000 in
theorem isShaped_any (v : Value) (s : Sk) (F : List Nat) (w : World) (h : RdSk w v s F) (hw : s.wide) :
    Calls Try.prog 114 #[v] w fun e w' => e = .returned (.bool s.shaped) ∧ Below w.heap.size w w' := by
  obtain ⟨a1, n1, c1, a2, n2, c2, a3, n3, c3, F1, F2, F3, rfl, h1, h2, h3, _⟩ := h
  have hn1 : n1 ≤ 140737488355328 := by rw [← h1.length]; exact hw.hist
  have hn2 : n2 ≤ 140737488355328 := by rw [← h2.length]; exact hw.regs
  have hn3 : n3 ≤ 140737488355328 := by rw [← h3.length]; exact hw.rows
  have HW : Hid s.wide := hw
  have HB : Hid (Below w.heap.size w (w.alloc (.cells #[.int .i64 s.count, .int .i64 s.sum, .int .i64 s.min, .int .i64 s.max, .slice a1 n1 c1, .slice a2 n2 c2, .slice a3 n3 c3] 32))) := (Below.refl w.heap.size w).alloc (Nat.le_refl _) _
  have L1 : Hid (s.hist.length = n1) := h1.length
  have L2 : Hid (s.regs.length = n2) := h2.length
  have L3 : Hid (s.rows.length = n3) := h3.length
  obtain ⟨d, hd⟩ : ∃ d, d = s.shaped := ⟨_, rfl⟩
  rw [← hd]
  have HD : Hid (d = s.shaped) := hd
  clear h1 h2 hw hd
  have tailOk : Hid (s.rows.all (fun z => decide (z.length = 4)) = true → d = (decide (n1 = 8) && decide (n2 = 8) && decide (n3 = 2))) := fun e => by
    rw [HD.out]; unfold Sk.shaped; rw [e, L1.out, L2.out, L3.out]; rfl
  by_cases h0 : n3 = 0
  · subst h0
    have hz : s.rows = [] := List.eq_nil_of_length_eq_zero L3.out
    have HF : Hid (d = false) := by show d = _; rw [tailOk.out (by rw [hz]; rfl)]; simp
    clear h3 hz tailOk
    go_enter Try.func114, Try.ntmps114
    go_wp2
    refine wp_loop_rounds 1 ?_
    rw [rounds_succ]
    by_cases q1 : n1 = 8
    · subst q1
      by_cases q2 : n2 = 8
      · subst q2
        go_wp2
        go_ret
        exact ⟨ret_bool HF.out.symm, HB.out⟩
      · have q2' : ((n2 : Int) == 8) = false := by simp; omega
        clear q2
        go_wp2
        go_ret
        exact ⟨ret_bool HF.out.symm, HB.out⟩
    · have q1' : ((n1 : Int) == 8) = false := by simp; omega
      clear q1
      go_wp2
      go_ret
      exact ⟨ret_bool HF.out.symm, HB.out⟩
  · obtain ⟨b3, o3, F3', ha3, hm3⟩ : ∃ b off F', a3 = some ⟨b, off, none⟩ ∧ RdM w (s.rows.map ints) b off F' := by
      rcases h3.cells with ⟨h0', _⟩ | ⟨b, off, F', _, e, _, hm⟩
      · exact absurd h0' h0
      · exact ⟨b, off, F', e, hm⟩
    subst ha3
    have HM : Hid (RdM w (s.rows.map ints) b3 o3 F3') := hm3
    clear h3 hm3
    go_enter Try.func114, Try.ntmps114
    go_wp2
    go_loop [8] (fun i => ∃ k : Nat, k ≤ n3 ∧ i = .int .i64 k ∧ Hid ((s.rows.take k).all (fun z => decide (z.length = 4)) = true)) (fun i => n3 - (intOf i).toNat)
    case atStart => exact ⟨0, by omega, rfl, show _ = true by simp⟩
    case round =>
      obtain ⟨k, hk, rfl, HA⟩ := hrel
      by_cases hlt : k < n3
      · obtain ⟨r, m, c, G, hc, hr, _⟩ := RdII.row HM.out L3.out k hlt
        have hcb : b3 < w.heap.size := World.block_lt_of_cell? _ _ hc
        have hc2 : (w.alloc (.cells #[.int .i64 s.count, .int .i64 s.sum, .int .i64 s.min, .int .i64 s.max, .slice a1 n1 c1, .slice a2 n2 c2, .slice (some ⟨b3, o3, none⟩) n3 c3] 32)).cell? ⟨b3, o3 + k, none⟩ = some (.slice r m c) := (HB.out.cell (by exact hcb)).trans hc
        have HM4 : Hid ((s.rows.getD k []).length = m) := hr.length
        have hm : m ≤ 140737488355328 := by rw [← hr.length]; exact HW.out.row _ (mem_getD (by rw [L3.out]; exact hlt))
        clear hc hr
        by_cases q : m = 4
        · subst q
          have HA2 : Hid ((s.rows.take (k + 1)).all (fun z => decide (z.length = 4)) = true) := allL_snoc (by rw [L3.out]; exact hlt) HA.out (by rw [HM4.out]; rfl)
          go_wp2
          go_round
          case rel => exact ⟨k + 1, by omega, by go_num, HA2⟩
          case measure => simp [intOf]; omega
        · have q' : ((m : Int) != 4) = true := by simp; omega
          have HN : Hid (s.rows.all (fun z => decide (z.length = 4)) = false) := allL_not (by rw [L3.out]; exact hlt) (by rw [HM4.out]; exact dec_false q)
          clear q
          go_wp2
          go_ret
          exact ⟨ret_bool (by rw [HD.out]; unfold Sk.shaped; rw [HN.out]; rfl), HB.out⟩
      · obtain rfl : k = n3 := by omega
        have HF : Hid (s.rows.all (fun z => decide (z.length = 4)) = true) := by have := HA.out; rw [List.take_of_length_le (Nat.le_of_eq L3.out)] at this; exact this
        have HT : Hid (d = (decide (n1 = 8) && decide (n2 = 8) && decide (k = 2))) := tailOk.out HF.out
        clear tailOk hlt
        by_cases q1 : n1 = 8
        · subst q1
          by_cases q2 : n2 = 8
          · subst q2
            by_cases q3 : k = 2
            · subst q3
              go_wp2
              go_ret
              exact ⟨ret_bool (by rw [HT.out]; rfl), HB.out⟩
            · have q3' : ((k : Int) == 2) = false := by simp; omega
              have Q3 : Hid (decide (k = 2) = false) := dec_false q3
              clear q3
              go_wp2
              go_ret
              exact ⟨ret_bool (by rw [HT.out, Q3.out]; rfl), HB.out⟩
          · have q2' : ((n2 : Int) == 8) = false := by simp; omega
            have Q2 : Hid (decide (n2 = 8) = false) := dec_false q2
            clear q2
            go_wp2
            go_ret
            exact ⟨ret_bool (by rw [HT.out, Q2.out]; simp), HB.out⟩
        · have q1' : ((n1 : Int) == 8) = false := by simp; omega
          have Q1 : Hid (decide (n1 = 8) = false) := dec_false q1
          clear q1
          go_wp2
          go_ret
          exact ⟨ret_bool (by rw [HT.out, Q1.out]; rfl), HB.out⟩
end Go.Proofs.Ytbmbmnhamogghap
/- A summary's numbers in one row, as plain data. No statement of the seat is proved here. -/
namespace Go.Proofs.Ytbmbmnhamogghap
open Go.RowKit
def tc (xs : List Int) : Array Value := (xs.map (Value.int .i64)).toArray
theorem tc_size (xs : List Int) : (tc xs).size = xs.length := by simp [tc]
theorem tc_one (xs : List Int) : (tc xs).all (·.oneCell') = true := by
  rw [Array.all_eq_true_iff_forall_mem]
  intro v hv
  simp only [tc, List.mem_toArray, List.mem_map] at hv
  obtain ⟨x, _, rfl⟩ := hv
  rfl
theorem tc_at (xs : List Int) (i : Nat) : (tc xs)[i]? = xs[i]?.map (Value.int .i64) := by simp [tc]
/-- All numbers of a summary, one behind the other. -/
def Sk.tl (s : Sk) : List Int := [s.count, s.sum, s.min, s.max] ++ (s.hist ++ (s.regs ++ (s.rows.getD 0 [] ++ s.rows.getD 1 [])))
theorem len4 {α : Type} {l : List α} (h : l.length = 4) : ∃ a b c d, l = [a, b, c, d] := by
  match l, h with
  | [a, b, c, d], _ => exact ⟨a, b, c, d, rfl⟩
theorem len8 {α : Type} {l : List α} (h : l.length = 8) : ∃ a b c d e f g i, l = [a, b, c, d, e, f, g, i] := by
  match l, h with
  | [a, b, c, d, e, f, g, i], _ => exact ⟨a, b, c, d, e, f, g, i, rfl⟩
theorem tl_splices {α : Type} (a b c d z : α) (H R P Q : List α) (hH : H.length = 8) (hR : R.length = 8) (hP : P.length = 4) (hQ : Q.length = 4) :
    splice (splice (splice (splice ([a, b, c, d] ++ List.replicate 24 z) 4 H) 12 R) 20 P) 24 Q = [a, b, c, d] ++ (H ++ (R ++ (P ++ Q))) := by
  obtain ⟨h0, h1, h2, h3, h4, h5, h6, h7, rfl⟩ := len8 hH
  obtain ⟨r0, r1, r2, r3, r4, r5, r6, r7, rfl⟩ := len8 hR
  obtain ⟨p0, p1, p2, p3, rfl⟩ := len4 hP
  obtain ⟨q0, q1, q2, q3, rfl⟩ := len4 hQ
  rfl
theorem Sk.shaped_parts {s : Sk} (h : s.shaped = true) : s.hist.length = 8 ∧ s.regs.length = 8 ∧ ∃ x y, s.rows = [x, y] ∧ x.length = 4 ∧ y.length = 4 := by
  unfold Sk.shaped at h
  simp only [Bool.and_eq_true, decide_eq_true_eq] at h
  obtain ⟨⟨⟨h1, h2⟩, h3⟩, h4⟩ := h
  refine ⟨h2, h3, ?_⟩
  obtain ⟨x, y, e⟩ : ∃ x y, s.rows = [x, y] := by
    match s.rows, h4 with
    | [x, y], _ => exact ⟨x, y, rfl⟩
  rw [e] at h1
  simp at h1
  exact ⟨x, y, e, h1.1, h1.2⟩
theorem tl_map (s : Sk) (h1 : s.hist.length = 8) (h2 : s.regs.length = 8) (h3 : (s.rows.getD 0 []).length = 4) (h4 : (s.rows.getD 1 []).length = 4) :
    splice (splice (splice (splice (([s.count, s.sum, s.min, s.max] ++ List.replicate 24 0).map (Value.int .i64)) 4 (s.hist.map (Value.int .i64))) 12 (s.regs.map (Value.int .i64))) 20 ((s.rows.getD 0 []).map (Value.int .i64))) 24 ((s.rows.getD 1 []).map (Value.int .i64)) = s.tl.map (Value.int .i64) := by
  have := tl_splices (Value.int .i64 s.count) (Value.int .i64 s.sum) (Value.int .i64 s.min) (Value.int .i64 s.max) (Value.int .i64 0) (s.hist.map (Value.int .i64)) (s.regs.map (Value.int .i64)) ((s.rows.getD 0 []).map (Value.int .i64)) ((s.rows.getD 1 []).map (Value.int .i64)) (by rw [List.length_map]; exact h1) (by rw [List.length_map]; exact h2) (by rw [List.length_map]; exact h3) (by rw [List.length_map]; exact h4)
  refine Eq.trans ?_ (this.trans ?_)
  · rfl
  · simp [Sk.tl]
theorem Sk.tl_length {s : Sk} (h : s.shaped = true) : s.tl.length = 28 := by
  obtain ⟨h1, h2, x, y, e, h3, h4⟩ := Sk.shaped_parts h
  simp [Sk.tl, h1, h2, e, h3, h4]
theorem split28 {xs : List Int} (h : xs.length = 28) : xs = [xs.getD 0 0, xs.getD 1 0, xs.getD 2 0, xs.getD 3 0] ++ ((xs.drop 4).take 8 ++ ((xs.drop 12).take 8 ++ (xs.drop 20).take 8)) := by
  have e4 : (xs.drop 20).take 8 = xs.drop 20 := List.take_of_length_le (by simp; omega)
  have e3 : (xs.drop 12).take 8 ++ xs.drop 20 = xs.drop 12 := by
    have := List.take_append_drop 8 (xs.drop 12)
    rw [List.drop_drop] at this; exact this
  have e2 : (xs.drop 4).take 8 ++ xs.drop 12 = xs.drop 4 := by
    have := List.take_append_drop 8 (xs.drop 4)
    rw [List.drop_drop] at this; exact this
  rw [e4, e3, e2]
  have e1 : xs.take 4 = [xs.getD 0 0, xs.getD 1 0, xs.getD 2 0, xs.getD 3 0] := by
    obtain ⟨a, b, c, d, e⟩ := len4 (l := xs.take 4) (by simp; omega)
    have g : ∀ i, i < 4 → xs.getD i 0 = (xs.take 4).getD i 0 := fun i hi => by simp [hi]
    rw [g 0 (by omega), g 1 (by omega), g 2 (by omega), g 3 (by omega), e]
    rfl
  rw [← e1, List.take_append_drop]
theorem eq28 {xs ys : List Int} (hx : xs.length = 28) (hy : ys.length = 28) (h0 : xs.getD 0 0 = ys.getD 0 0) (h1 : xs.getD 1 0 = ys.getD 1 0) (h2 : xs.getD 2 0 = ys.getD 2 0) (h3 : xs.getD 3 0 = ys.getD 3 0)
    (h4 : (xs.drop 4).take 8 = (ys.drop 4).take 8) (h5 : (xs.drop 12).take 8 = (ys.drop 12).take 8) (h6 : (xs.drop 20).take 8 = (ys.drop 20).take 8) : xs = ys := by
  rw [split28 hx, split28 hy, h0, h1, h2, h3, h4, h5, h6]
theorem tc_get {xs : List Int} {i : Nat} (h : i < xs.length) : (tc xs)[i]? = some (.int .i64 (xs.getD i 0)) := by
  rw [tc_at, List.getElem?_eq_getElem h]; simp [List.getElem?_eq_getElem h]
end Go.Proofs.Ytbmbmnhamogghap
/- A summary's numbers in one row (the program's own kind): how they are laid out of it. No statement of the seat is proved here. -/
namespace Go.Proofs.Ytbmbmnhamogghap
open Go.RowKit
/-- Two blocks of their own, one behind the other. -/
theorem two_made (w : World) (A B : Array Value) (tA tB : TypeId) : Blk ((w.alloc (.cells A tA)).alloc (.cells B tB)) w.heap.size A tA ∧ Blk ((w.alloc (.cells A tA)).alloc (.cells B tB)) (w.heap.size + 1) B tB ∧ Below w.heap.size w ((w.alloc (.cells A tA)).alloc (.cells B tB)) :=
  ⟨(Blk.made _ _ _).alloc _, Blk.made_eq (by simp), Below.allocW _ (Below.allocW _ (Below.refl _ _) (Nat.le_refl _)) (Nat.le_refl _)⟩
theorem RdI.src {w W : World} {a : Option Addr} {n : Nat} {zs : List Int} {F : List Nat} (h : RdI w a n zs F) (hb : Below w.heap.size w W) (hp : 0 < n) : ∃ ad, a = some ad ∧ ∀ j v, (zs.map (Value.int .i64))[j]? = some v → W.cell? (ad.add j) = some v := by
  have h' := h.below hb
  rcases h'.cells with ⟨h0, _⟩ | ⟨b, off, _, rfl, _, hc⟩
  · omega
  · refine ⟨_, rfl, fun j v hv => ?_⟩
    rw [List.getElem?_map] at hv
    obtain ⟨z, hz, rfl⟩ := Option.map_eq_some_iff.1 hv
    have hj : j < zs.length := (List.getElem?_eq_some_iff.1 hz).1
    have := hc j (by rw [← h'.length]; exact hj)
    have e : (⟨b, off, none⟩ : Addr).add j = ⟨b, off + j, none⟩ := by unfold Addr.add; split <;> simp_all
    rw [e, this]
    simp [hz]
theorem ints_one (zs : List Int) : ∀ v ∈ zs.map (Value.int .i64), v.oneCell' = true := by
  intro v hv
  obtain ⟨x, _, rfl⟩ := List.mem_map.1 hv
  rfl
theorem infoTally : (Try.prog.info? 75).map (·.size) = some 28 := by kernel_rfl
theorem tallySize {xs : List Int} (h : xs.length = 28) : (Try.prog.info? 75).map (·.size) = some (tc xs).size := by rw [tc_size, h]; exact infoTally
theorem infoInt1 : (Try.prog.info? 3).map (·.size) = some 1 := by kernel_rfl
set_option maxRecDepth 200000 in
set_option maxHeartbeats 1000000 in
theorem tallyOf_any (v : Value) (s : Sk) (F : List Nat) (w : World) (h : RdSk w v s F) (hw : s.wide) :
    Calls Try.prog 100 #[v] w fun e w' => ∃ xs : List Int, e = .returned (.tuple #[.agg (tc xs), .bool s.shaped]) ∧ xs.length = 28 ∧ (s.shaped = true → xs = s.tl) ∧ Below w.heap.size w w' := by
  have HH : Hid (RdSk w v s F ∧ s.wide) := ⟨h, hw⟩
  obtain ⟨a1, n1, c1, a2, n2, c2, a3, n3, c3, F1, F2, F3, rfl, h1, h2, h3, _⟩ := h
  have HR : Hid (RdI w a1 n1 s.hist F1 ∧ RdI w a2 n2 s.regs F2 ∧ RdII w a3 n3 s.rows F3) := ⟨h1, h2, h3⟩
  clear h1 h2 h3 hw
  have Z28 := two_made w #[.int .i64 s.count, .int .i64 s.sum, .int .i64 s.min, .int .i64 s.max, .slice a1 n1 c1, .slice a2 n2 c2, .slice a3 n3 c3] (tc (List.replicate 28 0)) 32 75
  have HZ : Hid (_ ∧ _ ∧ _) := Z28
  clear Z28
  go_enter Try.func100, Try.ntmps100
  go_wp2_with fail
  refine (isShaped_any _ s F _ (HH.out.1.below HZ.out.2.2) HH.out.2).mono ?_
  rintro e w1 ⟨rfl, hb1⟩
  have HB : Hid (Blk w1 w.heap.size #[.int .i64 s.count, .int .i64 s.sum, .int .i64 s.min, .int .i64 s.max, .slice a1 n1 c1, .slice a2 n2 c2, .slice a3 n3 c3] 32 ∧ Blk w1 (w.heap.size + 1) (tc (List.replicate 28 0)) 75 ∧ Below w.heap.size w w1) := ⟨HZ.out.1.below hb1, HZ.out.2.1.below hb1, Below.next HZ.out.2.2 hb1⟩
  clear hb1 HZ
  cases es : s.shaped
  · have ES : Hid (s.shaped = false) := es
    clear es
    go_wp2_with (with_reducible refine stopStore 75 rfl ?_)
    refine store_known 75 (w.heap.size + 1) _ (tc (List.replicate 28 0)) 75 HB.out.2.1 rfl rfl rfl rfl infoTally rfl (tc_one _) ?_
    go_wp2
    refine bodyPost_ret (results_row_tmp Try.results100 _ _ (w.heap.size + 1) _ _ _ _ rfl HB.out.2.1.setRow Try.underlying75 rfl infoTally) rfl ?_
    exact ⟨List.replicate 28 0, by rw [ES.out]; rfl, rfl, fun e => by (rw [ES.out] at e; cases e), below_setRow HB.out.2.2 (by omega) _⟩
  have ES : Hid (s.shaped = true) := es
  obtain ⟨e1, e2, x, y, er, ex, ey⟩ := Sk.shaped_parts es
  obtain rfl : n1 = 8 := by rw [← HR.out.1.length]; exact e1
  obtain rfl : n2 = 8 := by rw [← HR.out.2.1.length]; exact e2
  obtain rfl : n3 = 2 := by rw [← HR.out.2.2.length, er]; rfl
  obtain ⟨p, po, F', ha3, hm⟩ : ∃ p po F', a3 = some ⟨p, po, none⟩ ∧ RdM w (s.rows.map ints) p po F' := by
    rcases HR.out.2.2.cells with ⟨h0, _⟩ | ⟨p, po, F', _, e, _, hm⟩
    · omega
    · exact ⟨p, po, F', e, hm⟩
  subst ha3
  obtain ⟨r0, m0, k0, G0, x0, q0, _⟩ := RdII.row hm HR.out.2.2.length 0 (by omega)
  obtain ⟨r1, m1, k1, G1, x1, q1, _⟩ := RdII.row hm HR.out.2.2.length 1 (by omega)
  obtain rfl : m0 = 4 := by rw [← q0.length, er]; exact ex
  obtain rfl : m1 = 4 := by rw [← q1.length, er]; exact ey
  have hpw : p < w.heap.size := World.block_lt_of_cell? _ _ x0
  have HX : Hid (w.cell? ⟨p, po, none⟩ = some (.slice r0 4 k0) ∧ w.cell? ⟨p, po + 1, none⟩ = some (.slice r1 4 k1) ∧ RdI w r0 4 (s.rows.getD 0 []) G0 ∧ RdI w r1 4 (s.rows.getD 1 []) G1) := ⟨x0, x1, q0, q1⟩
  have HE : Hid (s.hist.length = 8 ∧ s.regs.length = 8 ∧ (s.rows.getD 0 []).length = 4 ∧ (s.rows.getD 1 []).length = 4) := ⟨e1, e2, q0.length, q1.length⟩
  clear e1 e2 er ex ey hm x0 x1 q0 q1 es x y
  have y0 := HB.out.1.cell 0
  have y1 := HB.out.1.cell 1
  have y2 := HB.out.1.cell 2
  have y3 := HB.out.1.cell 3
  simp only [List.getElem?_toArray, List.getElem?_cons_succ, List.getElem?_cons_zero] at y0 y1 y2 y3
  go_wp2_with (with_reducible refine stopStore 75 rfl ?_)
  refine store_fresh 75 w1.heap.size rfl (tc (List.replicate 28 0)) (tc ([s.count, s.sum, s.min, s.max] ++ List.replicate 24 0)) 75 rfl rfl rfl rfl (tallySize rfl) rfl (tc_one _) ?_
  intro W2 hg2 hb2
  obtain ⟨L0, hL0⟩ : ∃ L, L = ([s.count, s.sum, s.min, s.max] ++ List.replicate 24 0).map (Value.int .i64) := ⟨_, rfl⟩
  have HG2 : Hid (W2.heap[w1.heap.size]? = some (.cells L0.toArray 75 (0, 0)) ∧ L0.length = 28) := ⟨by rw [hL0]; exact hg2, by rw [hL0]; rfl⟩
  have HL0 : Hid (L0 = ([s.count, s.sum, s.min, s.max] ++ List.replicate 24 0).map (Value.int .i64)) := hL0
  have hlt1 : w.heap.size + 1 < w1.heap.size := HB.out.2.1.lt
  have HB2 : Hid (Below w1.heap.size w1 W2) := hb2
  clear y0 y1 y2 y3 hg2 hL0 hb2
  obtain ⟨H1, hH1⟩ : ∃ L, L = s.hist.map (Value.int .i64) := ⟨_, rfl⟩
  obtain ⟨H2, hH2⟩ : ∃ L, L = s.regs.map (Value.int .i64) := ⟨_, rfl⟩
  obtain ⟨H3, hH3⟩ : ∃ L, L = (s.rows.getD 0 []).map (Value.int .i64) := ⟨_, rfl⟩
  obtain ⟨H4, hH4⟩ : ∃ L, L = (s.rows.getD 1 []).map (Value.int .i64) := ⟨_, rfl⟩
  have HS : Hid (H1 = s.hist.map (Value.int .i64) ∧ H2 = s.regs.map (Value.int .i64) ∧ H3 = (s.rows.getD 0 []).map (Value.int .i64) ∧ H4 = (s.rows.getD 1 []).map (Value.int .i64)) := ⟨hH1, hH2, hH3, hH4⟩
  have HL : Hid (H1.length = 8 ∧ H2.length = 8 ∧ H3.length = 4 ∧ H4.length = 4) := ⟨by rw [hH1, List.length_map]; exact HE.out.1, by rw [hH2, List.length_map]; exact HE.out.2.1, by rw [hH3, List.length_map]; exact HE.out.2.2.1, by rw [hH4, List.length_map]; exact HE.out.2.2.2⟩
  have HO : Hid ((∀ v ∈ H1, v.oneCell' = true) ∧ (∀ v ∈ H2, v.oneCell' = true) ∧ (∀ v ∈ H3, v.oneCell' = true) ∧ (∀ v ∈ H4, v.oneCell' = true)) := ⟨by rw [hH1]; exact ints_one _, by rw [hH2]; exact ints_one _, by rw [hH3]; exact ints_one _, by rw [hH4]; exact ints_one _⟩
  have HK : Hid (∀ W, Below w1.heap.size w1 W → (∃ ad, a1 = some ad ∧ ∀ j v, H1[j]? = some v → W.cell? (ad.add j) = some v) ∧ (∃ ad, a2 = some ad ∧ ∀ j v, H2[j]? = some v → W.cell? (ad.add j) = some v) ∧ (∃ ad, r0 = some ad ∧ ∀ j v, H3[j]? = some v → W.cell? (ad.add j) = some v) ∧ (∃ ad, r1 = some ad ∧ ∀ j v, H4[j]? = some v → W.cell? (ad.add j) = some v)) := by
    intro W hb
    have hb' := Below.next HB.out.2.2 hb
    rw [hH1, hH2, hH3, hH4]
    exact ⟨HR.out.1.src hb' (by omega), HR.out.2.1.src hb' (by omega), HX.out.2.2.1.src hb' (by omega), HX.out.2.2.2.src hb' (by omega)⟩
  have HC : Hid (∀ W, Below w1.heap.size w1 W → W.cell? ⟨w.heap.size, 4, none⟩ = some (.slice a1 8 c1) ∧ W.cell? ⟨w.heap.size, 5, none⟩ = some (.slice a2 8 c2) ∧ W.cell? ⟨w.heap.size, 6, none⟩ = some (.slice (some ⟨p, po, none⟩) 2 c3) ∧ W.cell? ⟨p, po, none⟩ = some (.slice r0 4 k0) ∧ W.cell? ⟨p, po + 1, none⟩ = some (.slice r1 4 k1)) := by
    intro W hb
    have b := HB.out.1.below hb
    have hb' := Below.next HB.out.2.2 hb
    exact ⟨by rw [b.cell]; rfl, by rw [b.cell]; rfl, by rw [b.cell]; rfl, (hb'.cell (by exact hpw)).trans HX.out.1, (hb'.cell (by exact hpw)).trans HX.out.2.1⟩
  clear hH1 hH2 hH3 hH4
  have z4 := (HC.out W2 HB2.out).1
  go_wp2
  go_region_law (refine step_copy_splice rfl _ _ 23 23 rfl 3 Try.underlying23 infoInt1 _ _ _ _ _ _ rfl rfl w1.heap.size 4 L0 75 HG2.out.1 H1 (by rw [HL.out.1]; rfl) (fun _ => ⟨rfl, (HK.out _ HB2.out.drew).1⟩) (by rw [HL.out.1, HG2.out.2]; omega) HO.out.1 w1.heap.size w1 HB2.out.drew (Nat.le_refl _) ?_; intro W3 hg3 hb3)
  have z5 := (HC.out W3 hb3).2.1
  have HB3 : Hid (Below w1.heap.size w1 W3) := hb3
  clear hb3 z4
  obtain ⟨L1, hL1⟩ : ∃ L, L = splice L0 4 H1 := ⟨_, rfl⟩
  have HG3 : Hid (W3.heap[w1.heap.size]? = some (.cells L1.toArray 75 (0, 0)) ∧ L1.length = 28 ∧ L1 = splice L0 4 H1) := ⟨by rw [hL1]; exact hg3.out, by rw [hL1, length_splice _ _ _ (by rw [HL.out.1, HG2.out.2]; omega)]; exact HG2.out.2, hL1⟩
  clear hg3 hL1
  go_wp2
  go_region_law (refine step_copy_splice rfl _ _ 23 23 rfl 3 Try.underlying23 infoInt1 _ _ _ _ _ _ rfl rfl w1.heap.size 12 L1 75 HG3.out.1 H2 (by rw [HL.out.2.1]; rfl) (fun _ => ⟨rfl, (HK.out _ HB3.out.drew).2.1⟩) (by rw [HL.out.2.1, HG3.out.2.1]; omega) HO.out.2.1 w1.heap.size w1 HB3.out.drew (Nat.le_refl _) ?_; intro W4 hg4 hb4)
  have z6 := (HC.out W4 hb4).2.2.1
  have u0 := (HC.out W4 hb4).2.2.2.1
  have HB4 : Hid (Below w1.heap.size w1 W4) := hb4
  clear hb4 z5
  obtain ⟨L2, hL2⟩ : ∃ L, L = splice L1 12 H2 := ⟨_, rfl⟩
  have HG4 : Hid (W4.heap[w1.heap.size]? = some (.cells L2.toArray 75 (0, 0)) ∧ L2.length = 28 ∧ L2 = splice L1 12 H2) := ⟨by rw [hL2]; exact hg4.out, by rw [hL2, length_splice _ _ _ (by rw [HL.out.2.1, HG3.out.2.1]; omega)]; exact HG3.out.2.1, hL2⟩
  clear hg4 hL2
  go_wp2
  refine wp_loop_rounds 3 ?_
  rw [rounds_succ]
  go_wp2_with (with_reducible refine stopCopy rfl ?_)
  refine Stop.intro (wpList_copy_splice rfl _ _ 23 23 rfl 3 Try.underlying23 infoInt1 _ _ _ _ _ _ rfl rfl w1.heap.size 20 L2 75 HG4.out.1 H3 (by rw [HL.out.2.2.1]; rfl) (fun _ => ⟨rfl, (HK.out _ HB4.out).2.2.1⟩) (by rw [HL.out.2.2.1, HG4.out.2.1]; omega) HO.out.2.2.1 w1.heap.size w1 HB4.out (Nat.le_refl _) ?_)
  intro W5 hg5 hb5
  have u1 := (HC.out W5 hb5).2.2.2.2
  have HB5 : Hid (Below w1.heap.size w1 W5) := hb5
  clear hb5 u0 z6
  obtain ⟨L3, hL3⟩ : ∃ L, L = splice L2 20 H3 := ⟨_, rfl⟩
  have HG5 : Hid (W5.heap[w1.heap.size]? = some (.cells L3.toArray 75 (0, 0)) ∧ L3.length = 28 ∧ L3 = splice L2 20 H3) := ⟨by rw [hL3]; exact hg5.out, by rw [hL3, length_splice _ _ _ (by rw [HL.out.2.2.1, HG4.out.2.1]; omega)]; exact HG4.out.2.1, hL3⟩
  clear hg5 hL3
  go_wp2_with fail
  rw [rounds_succ]
  go_wp2_with (with_reducible refine stopCopy rfl ?_)
  refine Stop.intro (wpList_copy_splice rfl _ _ 23 23 rfl 3 Try.underlying23 infoInt1 _ _ _ _ _ _ rfl rfl w1.heap.size 24 L3 75 HG5.out.1 H4 (by rw [HL.out.2.2.2]; rfl) (fun _ => ⟨rfl, (HK.out _ HB5.out).2.2.2⟩) (by rw [HL.out.2.2.2, HG5.out.2.1]; omega) HO.out.2.2.2 w1.heap.size w1 HB5.out (Nat.le_refl _) ?_)
  intro W6 hg6 hb6
  have HB6 : Hid (Below w1.heap.size w1 W6) := hb6
  have HG6 : Hid (Blk W6 w1.heap.size (tc s.tl) 75) := by
    have e : splice L3 24 H4 = s.tl.map (Value.int .i64) := by
      rw [HG5.out.2.2, HG4.out.2.2, HG3.out.2.2, HL0.out, HS.out.1, HS.out.2.1, HS.out.2.2.1, HS.out.2.2.2]
      exact tl_map s HE.out.1 HE.out.2.1 HE.out.2.2.1 HE.out.2.2.2
    have := hg6.out
    rw [e] at this
    exact this
  have HRes : Hid (Blk W6 (w.heap.size + 1) (tc (List.replicate 28 0)) 75 ∧ Below w.heap.size w W6) := ⟨HB.out.2.1.below hb6, Below.next HB.out.2.2 hb6⟩
  clear hb6 hg6 u1
  go_wp2_with fail
  rw [rounds_succ]
  go_wp2_with (first | (with_reducible refine stopLoad 75 rfl ?_) | (with_reducible refine stopStore 75 rfl ?_))
  refine load_known 75 w1.heap.size (tc s.tl) 75 _ HG6.out rfl rfl rfl Try.underlying75 rfl (tallySize (Sk.tl_length ES.out)) ?_
  go_wp2_with (first | (with_reducible refine stopLoad 75 rfl ?_) | (with_reducible refine stopStore 75 rfl ?_))
  refine store_known 75 (w.heap.size + 1) _ (tc s.tl) 75 HRes.out.1 rfl rfl rfl rfl (tallySize (Sk.tl_length ES.out)) (by rw [tc_size, tc_size, Sk.tl_length ES.out]; rfl) (tc_one _) ?_
  go_wp2
  refine bodyPost_ret (results_row_tmp Try.results100 _ _ (w.heap.size + 1) _ _ _ _ rfl HRes.out.1.setRow Try.underlying75 rfl (tallySize (Sk.tl_length ES.out))) rfl ?_
  exact ⟨s.tl, by rw [ES.out]; rfl, Sk.tl_length ES.out, fun _ => rfl, below_setRow HRes.out.2 (by omega) _⟩
end Go.Proofs.Ytbmbmnhamogghap
