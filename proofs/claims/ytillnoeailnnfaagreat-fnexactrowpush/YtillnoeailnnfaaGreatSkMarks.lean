/- The walks through the helpers of the laws that mark a summary and look whether the marks still stand. No statement of the seat is proved here. -/
import Derived.Test.YtillnoeailnnfaaGreatSk
import Derived.Test.YtillnoeailnnfaaGreatIntMarks
namespace Go.Proofs.YtillnoeailnnfaaGreat
open Go.RowKit

/-- How many numbers its lists have. -/
def Sk.many (s : Sk) : Int := s.hist.length + s.regs.length + sumLen s.rows
def Sk.marked (k : Int) (s : Sk) : Sk := { s with hist := marksI k s.hist.length, regs := marksI (k + s.hist.length) s.regs.length, rows := marksII (k + s.hist.length + s.regs.length) s.rows }
structure MarkedSk (B : Nat) (w : World) (v : Value) (k : Int) (s : Sk) (F : List Nat) (w' : World) : Prop where
  rd : RdSk w' v (s.marked k) F
  own : Own B w' F
  only : Only F w w'
theorem Only.blk {F : List Nat} {w w' : World} {g : Nat} {cs : Array Value} {t : TypeId} (h : Only F w w') (hb : Blk w g cs t) (hg : g ∉ F) : Blk w' g cs t := hb.agree (h.block g hb.lt hg)
theorem Own.only {B : Nat} {w w' : World} {F G : List Nat} (h : Own B w F) (ho : Only G w w') (hlt : ∀ b ∈ F, b < w.heap.size) (hd : ∀ b ∈ F, b ∉ G) : Own B w' F := h.agree (ho.agree hlt hd)
/-- Three lists of a summary in the midst of a marking. -/
structure MkSk (B : Nat) (w : World) (A : Array Value) (t : TypeId) (a1 : Option Addr) (n1 : Nat) (z1 : List Int) (F1 : List Nat) (a2 : Option Addr) (n2 : Nat) (z2 : List Int) (F2 : List Nat) (a3 : Option Addr) (n3 : Nat) (z3 : List (List Int)) (F3 : List Nat) (W : World) : Prop where
  r1 : RdI W a1 n1 z1 F1
  r2 : RdI W a2 n2 z2 F2
  r3 : RdII W a3 n3 z3 F3
  o1 : Own B W F1
  o2 : Own B W F2
  o3 : Own B W F3
  d12 : ∀ b ∈ F1, b ∉ F2
  d13 : ∀ b ∈ F1, b ∉ F3
  d23 : ∀ b ∈ F2, b ∉ F3
  lt : ∀ b ∈ F1 ++ (F2 ++ F3), b < w.heap.size
  box : Blk W w.heap.size A t
  only : Only (F1 ++ (F2 ++ F3)) w W
section
variable {B : Nat} {w W W' : World} {A : Array Value} {t : TypeId} {a1 a2 a3 : Option Addr} {n1 n2 n3 : Nat} {z1 z2 : List Int} {z3 : List (List Int)} {F1 F2 F3 : List Nat} {k : Int}
theorem MkSk.one (h : MkSk B w A t a1 n1 z1 F1 a2 n2 z2 F2 a3 n3 z3 F3 W) (m : MarkedI B W a1 n1 k F1 W') : MkSk B w A t a1 n1 (marksI k n1) F1 a2 n2 z2 F2 a3 n3 z3 F3 W' := by
  have g2 := m.only.agree h.r2.lt (fun b hb hx => h.d12 b hx hb)
  have g3 := m.only.agree h.r3.lt (fun b hb hx => h.d13 b hx hb)
  exact ⟨m.rd, h.r2.agree g2, h.r3.agree g3, m.own, h.o2.agree g2, h.o3.agree g3, h.d12, h.d13, h.d23, h.lt,
    m.only.blk h.box (fun hx => by have := h.lt _ (List.mem_append_left _ hx); omega), h.only.trans (m.only.mono (fun x hx => List.mem_append_left _ hx))⟩
theorem MkSk.two (h : MkSk B w A t a1 n1 z1 F1 a2 n2 z2 F2 a3 n3 z3 F3 W) (m : MarkedI B W a2 n2 k F2 W') : MkSk B w A t a1 n1 z1 F1 a2 n2 (marksI k n2) F2 a3 n3 z3 F3 W' := by
  have g1 := m.only.agree h.r1.lt (fun b hb hx => h.d12 b hb hx)
  have g3 := m.only.agree h.r3.lt (fun b hb hx => h.d23 b hx hb)
  exact ⟨h.r1.agree g1, m.rd, h.r3.agree g3, h.o1.agree g1, m.own, h.o3.agree g3, h.d12, h.d13, h.d23, h.lt,
    m.only.blk h.box (fun hx => by have := h.lt _ (List.mem_append_right _ (List.mem_append_left _ hx)); omega), h.only.trans (m.only.mono (fun x hx => List.mem_append_right _ (List.mem_append_left _ hx)))⟩
theorem MkSk.three (h : MkSk B w A t a1 n1 z1 F1 a2 n2 z2 F2 a3 n3 z3 F3 W) (m : MarkedII B W a3 n3 k z3 F3 W') : MkSk B w A t a1 n1 z1 F1 a2 n2 z2 F2 a3 n3 (marksII k z3) F3 W' := by
  have g1 := m.only.agree h.r1.lt (fun b hb hx => h.d13 b hb hx)
  have g2 := m.only.agree h.r2.lt (fun b hb hx => h.d23 b hb hx)
  exact ⟨h.r1.agree g1, h.r2.agree g2, m.rd, h.o1.agree g1, h.o2.agree g2, m.own, h.d12, h.d13, h.d23, h.lt,
    m.only.blk h.box (fun hx => by have := h.lt _ (List.mem_append_right _ (List.mem_append_right _ hx)); omega), h.only.trans (m.only.mono (fun x hx => List.mem_append_right _ (List.mem_append_right _ hx)))⟩
theorem MkSk.own (h : MkSk B w A t a1 n1 z1 F1 a2 n2 z2 F2 a3 n3 z3 F3 W) : Own B W (F1 ++ (F2 ++ F3)) :=
  h.o1.app (h.o2.app h.o3 h.d23) (fun b hb hx => (List.mem_append.1 hx).elim (h.d12 b hb) (h.d13 b hb))
end
theorem MkSk.made (B : Nat) (w : World) (A : Array Value) (t : TypeId) {a1 a2 a3 : Option Addr} {n1 n2 n3 : Nat} {z1 z2 : List Int} {z3 : List (List Int)} {F1 F2 F3 : List Nat} (h1 : RdI w a1 n1 z1 F1) (h2 : RdI w a2 n2 z2 F2) (h3 : RdII w a3 n3 z3 F3) (ho : Own B w (F1 ++ (F2 ++ F3))) :
    MkSk B w A t a1 n1 z1 F1 a2 n2 z2 F2 a3 n3 z3 F3 (w.alloc (.cells A t)) := by
  have bw := (Below.refl w.heap.size w).alloc (Nat.le_refl _) (.cells A t)
  have lt : ∀ b ∈ F1 ++ (F2 ++ F3), b < w.heap.size := fun b hb => (List.mem_append.1 hb).elim (h1.lt b) (fun hb => (List.mem_append.1 hb).elim (h2.lt b) (h3.lt b))
  have ho' := ho.below lt bw
  have d1 := ho.apart
  exact ⟨h1.below bw, h2.below bw, h3.below bw, ho'.left, ho'.right.left, ho'.right.right, fun b hb hx => d1 b hb (List.mem_append_left _ hx), fun b hb hx => d1 b hb (List.mem_append_right _ hx), ho.right.apart, lt, Blk.made w A t, Only.of_below bw⟩
set_option maxRecDepth 200000 in
set_option maxHeartbeats 1000000 in
theorem markSketch_any (B : Nat) (v : Value) (s : Sk) (F : List Nat) (k : Int) (w : World) (h : RdSk w v s F) (ho : Own B w F) (hw : s.wide) (hk0 : 0 ≤ k) (hk1 : k + s.many ≤ 1000000000000) :
    Calls Tryz.prog 61 #[v, .int .i64 k] w fun e w' => e = .returned (.int .i64 (k + s.many)) ∧ MarkedSk B w v k s F w' := by
  obtain ⟨a1, n1, c1, a2, n2, c2, a3, n3, c3, F1, F2, F3, rfl, h1, h2, h3, rfl⟩ := h
  have HS0 : Hid (0 ≤ sumLen s.rows) := sumLen_nonneg s.rows
  have e1 := h1.length
  have e2 := h2.length
  have HM : Hid (s.many = n1 + n2 + sumLen s.rows ∧ s.many + k ≤ 1000000000000 ∧ 0 ≤ k) := ⟨by unfold Sk.many; omega, by omega, hk0⟩
  have HE : Hid (s.hist.length = n1 ∧ s.regs.length = n2) := ⟨e1, e2⟩
  have hn3 : n3 ≤ 140737488355328 := by rw [← h3.length]; exact hw.rows
  have M0 := MkSk.made B w #[.int .i64 s.count, .int .i64 s.sum, .int .i64 s.min, .int .i64 s.max, .slice a1 n1 c1, .slice a2 n2 c2, .slice a3 n3 c3] 31 h1 h2 h3 ho
  have HM0 : Hid (MkSk B w _ _ a1 n1 s.hist F1 a2 n2 s.regs F2 a3 n3 s.rows F3 _) := M0
  clear h1 h2 h3 ho hw hk1 M0 e1 e2
  go_enter Tryz.func61, Tryz.ntmps61
  go_wp2_with fail
  refine (markIntS_any B a1 n1 c1 s.hist F1 k _ HM0.out.r1 HM0.out.o1 hk0 (by have := HM.out; have := HS0.out; omega)).mono ?_
  rintro e w1 ⟨rfl, m1⟩
  have M1 := HM0.out.one m1
  have HM1 : Hid (MkSk B w _ _ a1 n1 (marksI k n1) F1 a2 n2 s.regs F2 a3 n3 s.rows F3 w1) := M1
  have x5 := M1.box.cell 5
  simp only [aT, aS, aZ] at x5
  obtain ⟨y1, hy1⟩ : ∃ y, y = k + (n1 : Int) := ⟨_, rfl⟩
  rw [← hy1]
  have HY1 : Hid (y1 = k + (n1 : Int)) := hy1
  have y10 : 0 ≤ y1 := by omega
  clear M1 m1 HM0 hy1
  go_wp2_with fail
  refine (markIntS_any B a2 n2 c2 s.regs F2 y1 _ HM1.out.r2 HM1.out.o2 y10 (by have := HM.out; have := HS0.out; have := HY1.out; omega)).mono ?_
  rintro e w2 ⟨rfl, m2⟩
  have M2 := HM1.out.two m2
  have HM2 : Hid (MkSk B w _ _ a1 n1 (marksI k n1) F1 a2 n2 (marksI y1 n2) F2 a3 n3 s.rows F3 w2) := M2
  have x6 := M2.box.cell 6
  simp only [aT, aS, aZ] at x6
  obtain ⟨y2, hy2⟩ : ∃ y, y = y1 + (n2 : Int) := ⟨_, rfl⟩
  rw [← hy2]
  have HY2 : Hid (y2 = y1 + (n2 : Int)) := hy2
  have y20 : 0 ≤ y2 := by omega
  clear M2 m2 HM1 hy2 x5
  go_wp2_with fail
  refine (markIntSS_any B a3 n3 c3 s.rows F3 y2 _ HM2.out.r3 HM2.out.o3 y20 (by have := HM.out; have := HS0.out; have := HY1.out; have := HY2.out; omega) hn3).mono ?_
  rintro e w3 ⟨rfl, m3⟩
  have HM3 : Hid (MkSk B w _ _ a1 n1 (marksI k n1) F1 a2 n2 (marksI y1 n2) F2 a3 n3 (marksII y2 s.rows) F3 w3) := HM2.out.three m3
  clear m3 HM2 x6
  go_wp2
  go_ret
  refine ⟨ret_int (by have := HM.out; have := HY1.out; have := HY2.out; omega), ⟨⟨a1, n1, c1, a2, n2, c2, a3, n3, c3, F1, F2, F3, rfl, ?_, ?_, ?_, rfl⟩, HM3.out.own, HM3.out.only⟩⟩
  · show RdI w3 a1 n1 (marksI k s.hist.length) F1
    rw [HE.out.1]; exact HM3.out.r1
  · show RdI w3 a2 n2 (marksI (k + s.hist.length) s.regs.length) F2
    rw [HE.out.1, HE.out.2, ← HY1.out]; exact HM3.out.r2
  · show RdII w3 a3 n3 (marksII (k + s.hist.length + s.regs.length) s.rows) F3
    rw [HE.out.1, HE.out.2, ← HY1.out, ← HY2.out]; exact HM3.out.r3
end Go.Proofs.YtillnoeailnnfaaGreat
