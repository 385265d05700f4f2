/- The walks through the helpers of the laws that mark a summary and look whether the marks still stand. No statement of the seat is proved here. -/
import Derived.Test.YtjnamoppcklomaaGreatSk
import Derived.Test.YtjnamoppcklomaaGreatIntMarks
namespace Go.Proofs.YtjnamoppcklomaaGreat
open Go.RowKit

/-- How many numbers its lists have. -/
def Sk.many (s : Sk) : Int := s.hist.length + s.regs.length + sumLen s.rows
def Sk.marked (k : Int) (s : Sk) : Sk := { s with hist := marksI k s.hist.length, regs := marksI (k + s.hist.length) s.regs.length, rows := marksII (k + s.hist.length + s.regs.length) s.rows }
theorem Only.blk {F : List Nat} {w w' : World} {g : Nat} {cs : Array Value} {t : TypeId} (h : Only F w w') (hb : Blk w g cs t) (hg : g ∉ F) : Blk w' g cs t := hb.agree (h.block g hb.lt hg)
theorem Own.only {B : Nat} {w w' : World} {F G : List Nat} (h : Own B w F) (ho : Only G w w') (hlt : ∀ b ∈ F, b < w.heap.size) (hd : ∀ b ∈ F, b ∉ G) : Own B w' F := h.agree (ho.agree hlt hd)
/-- Three lists of a summary in the midst of a marking. -/
structure MkSk (B : Nat) (w : World) (A : Array Value) (t : TypeId) (a1 : Option Addr) (n1 : Nat) (z1 : List Int) (F1 : List Nat) (a2 : Option Addr) (n2 : Nat) (z2 : List Int) (F2 : List Nat) (a3 : Option Addr) (n3 : Nat) (z3 : List (List Int)) (F3 : List Nat) (W : World) : Prop where
  r1 : RdI W a1 n1 z1 F1
  r2 : RdI W a2 n2 z2 F2
  r3 : RdII W a3 n3 z3 F3
  o1 : Own B W F1
  o2 : Own B W F2
  o3 : Own B W F3
  d12 : ∀ b ∈ F1, b ∉ F2
  d13 : ∀ b ∈ F1, b ∉ F3
  d23 : ∀ b ∈ F2, b ∉ F3
  lt : ∀ b ∈ F1 ++ (F2 ++ F3), b < w.heap.size
  box : Blk W w.heap.size A t
  only : Only (F1 ++ (F2 ++ F3)) w W
section
variable {B : Nat} {w W W' : World} {A : Array Value} {t : TypeId} {a1 a2 a3 : Option Addr} {n1 n2 n3 : Nat} {z1 z2 : List Int} {z3 : List (List Int)} {F1 F2 F3 : List Nat} {k : Int}
theorem MkSk.one (h : MkSk B w A t a1 n1 z1 F1 a2 n2 z2 F2 a3 n3 z3 F3 W) (m : MarkedI B W a1 n1 k F1 W') : MkSk B w A t a1 n1 (marksI k n1) F1 a2 n2 z2 F2 a3 n3 z3 F3 W' := by
  have g2 := m.only.agree h.r2.lt (fun b hb hx => h.d12 b hx hb)
  have g3 := m.only.agree h.r3.lt (fun b hb hx => h.d13 b hx hb)
  exact ⟨m.rd, h.r2.agree g2, h.r3.agree g3, m.own, h.o2.agree g2, h.o3.agree g3, h.d12, h.d13, h.d23, h.lt,
    m.only.blk h.box (fun hx => by have := h.lt _ (List.mem_append_left _ hx); omega), h.only.trans (m.only.mono (fun x hx => List.mem_append_left _ hx))⟩
theorem MkSk.two (h : MkSk B w A t a1 n1 z1 F1 a2 n2 z2 F2 a3 n3 z3 F3 W) (m : MarkedI B W a2 n2 k F2 W') : MkSk B w A t a1 n1 z1 F1 a2 n2 (marksI k n2) F2 a3 n3 z3 F3 W' := by
  have g1 := m.only.agree h.r1.lt (fun b hb hx => h.d12 b hb hx)
  have g3 := m.only.agree h.r3.lt (fun b hb hx => h.d23 b hx hb)
  exact ⟨h.r1.agree g1, m.rd, h.r3.agree g3, h.o1.agree g1, m.own, h.o3.agree g3, h.d12, h.d13, h.d23, h.lt,
    m.only.blk h.box (fun hx => by have := h.lt _ (List.mem_append_right _ (List.mem_append_left _ hx)); omega), h.only.trans (m.only.mono (fun x hx => List.mem_append_right _ (List.mem_append_left _ hx)))⟩
theorem MkSk.three (h : MkSk B w A t a1 n1 z1 F1 a2 n2 z2 F2 a3 n3 z3 F3 W) (m : MarkedII B W a3 n3 k z3 F3 W') : MkSk B w A t a1 n1 z1 F1 a2 n2 z2 F2 a3 n3 (marksII k z3) F3 W' := by
  have g1 := m.only.agree h.r1.lt (fun b hb hx => h.d13 b hb hx)
  have g2 := m.only.agree h.r2.lt (fun b hb hx => h.d23 b hb hx)
  exact ⟨h.r1.agree g1, h.r2.agree g2, m.rd, h.o1.agree g1, h.o2.agree g2, m.own, h.d12, h.d13, h.d23, h.lt,
    m.only.blk h.box (fun hx => by have := h.lt _ (List.mem_append_right _ (List.mem_append_right _ hx)); omega), h.only.trans (m.only.mono (fun x hx => List.mem_append_right _ (List.mem_append_right _ hx)))⟩
theorem MkSk.own (h : MkSk B w A t a1 n1 z1 F1 a2 n2 z2 F2 a3 n3 z3 F3 W) : Own B W (F1 ++ (F2 ++ F3)) :=
  h.o1.app (h.o2.app h.o3 h.d23) (fun b hb hx => (List.mem_append.1 hx).elim (h.d12 b hb) (h.d13 b hb))
end
theorem MkSk.made (B : Nat) (w : World) (A : Array Value) (t : TypeId) {a1 a2 a3 : Option Addr} {n1 n2 n3 : Nat} {z1 z2 : List Int} {z3 : List (List Int)} {F1 F2 F3 : List Nat} (h1 : RdI w a1 n1 z1 F1) (h2 : RdI w a2 n2 z2 F2) (h3 : RdII w a3 n3 z3 F3) (ho : Own B w (F1 ++ (F2 ++ F3))) :
    MkSk B w A t a1 n1 z1 F1 a2 n2 z2 F2 a3 n3 z3 F3 (w.alloc (.cells A t)) := by
  have bw := (Below.refl w.heap.size w).alloc (Nat.le_refl _) (.cells A t)
  have lt : ∀ b ∈ F1 ++ (F2 ++ F3), b < w.heap.size := fun b hb => (List.mem_append.1 hb).elim (h1.lt b) (fun hb => (List.mem_append.1 hb).elim (h2.lt b) (h3.lt b))
  have ho' := ho.below lt bw
  have d1 := ho.apart
  exact ⟨h1.below bw, h2.below bw, h3.below bw, ho'.left, ho'.right.left, ho'.right.right, fun b hb hx => d1 b hb (List.mem_append_left _ hx), fun b hb hx => d1 b hb (List.mem_append_right _ hx), ho.right.apart, lt, Blk.made w A t, Only.of_below bw⟩
end Go.Proofs.YtjnamoppcklomaaGreat
