/- A summary (chapter 3) as plain data; the walks through the helpers of the laws over it. No statement of the seat is proved here. -/
import Derived.Test.YtjnamoppcklomaaGreatIntRows
import Derived.Test.YtjnamoppcklomaaGreatBlocks
import Derived.Laws.Rows
namespace Go.Proofs.YtjnamoppcklomaaGreat
open Go.RowKit
structure Sk where
 count : Int
 sum : Int
 min : Int
 max : Int
 hist : List Int
 regs : List Int
 rows : List (List Int)
 deriving DecidableEq
def RdSk (w : World) (v : Value) (s : Sk) (F : List Nat) : Prop :=
 ∃ a1 n1 c1 a2 n2 c2 a3 n3 c3 F1 F2 F3, v = .agg #[.int .i64 s.count, .int .i64 s.sum, .int .i64 s.min, .int .i64 s.max, .slice a1 n1 c1, .slice a2 n2 c2, .slice a3 n3 c3] ∧
  RdI w a1 n1 s.hist F1 ∧ RdI w a2 n2 s.regs F2 ∧ RdII w a3 n3 s.rows F3 ∧ F = F1 ++ (F2 ++ F3)
theorem RdSk.agree {w w' : World} {v : Value} {s : Sk} {F : List Nat} (h : RdSk w v s F) (ha : Agree w w' F) : RdSk w' v s F := by
 obtain ⟨a1, n1, c1, a2, n2, c2, a3, n3, c3, F1, F2, F3, hv, h1, h2, h3, rfl⟩ := h
 exact ⟨a1, n1, c1, a2, n2, c2, a3, n3, c3, F1, F2, F3, hv, h1.agree ha.left, h2.agree ha.right.left, h3.agree ha.right.right, rfl⟩
theorem RdSk.lt {w : World} {v : Value} {s : Sk} {F : List Nat} (h : RdSk w v s F) : ∀ b ∈ F, b < w.heap.size := by
 obtain ⟨a1, n1, c1, a2, n2, c2, a3, n3, c3, F1, F2, F3, hv, h1, h2, h3, rfl⟩ := h
 intro b hb
 rcases List.mem_append.1 hb with hb | hb
 ·
  exact h1.lt b hb
 ·
  rcases List.mem_append.1 hb with hb | hb
  ·
   exact h2.lt b hb
  ·
   exact h3.lt b hb
theorem RdSk.below {w w' : World} {v : Value} {s : Sk} {F : List Nat} (h : RdSk w v s F) (hb : Below w.heap.size w w') : RdSk w' v s F := h.agree (.below hb h.lt)
def Sk.size (s : Sk) : Int := s.hist.length + s.regs.length + (s.rows.length + sumLen s.rows)
def NewSk (w : World) (s : Sk) (e : Ending) (w' : World) : Prop :=
 ∃ v F, e = .returned v ∧ RdSk w' v s F ∧ Own w.heap.size w' F ∧ Below w.heap.size w w'
structure Sk.fits (s : Sk) : Prop where
 hist : s.hist.length ≤ 1048576
 regs : s.regs.length ≤ 1048576
 rows : s.rows.length ≤ 1048576
 row : ∀ z ∈ s.rows, z.length ≤ 1048576
structure Sk.wide (s : Sk) : Prop where
 hist : s.hist.length ≤ 140737488355328
 regs : s.regs.length ≤ 140737488355328
 rows : s.rows.length ≤ 140737488355328
 row : ∀ z ∈ s.rows, z.length ≤ 140737488355328
theorem Sk.fits.wide {s : Sk} (h : s.fits) : s.wide := ⟨by have := h.hist; omega, by have := h.regs; omega, by have := h.rows; omega, fun z hz => by have := h.row z hz; omega⟩
theorem Sk.fits_of {s : Sk} (h : s.size ≤ 1048576) : s.fits := by
 have h0 := sumLen_nonneg s.rows
 unfold Sk.size at h
 exact ⟨by omega, by omega, by omega, fun z hz => by have := sumLen_mem s.rows z hz; omega⟩
structure Two (w : World) (A B : Array Value) (t : TypeId) (W : World) : Prop where
 fst : Blk W w.heap.size A t
 snd : Blk W (w.heap.size + 1) B t
 bel : Below w.heap.size w W
theorem Two.made (w : World) (A B : Array Value) (t : TypeId) : Two w A B t ((w.alloc (.cells A t)).alloc (.cells B t)) := by
 have s1 : (w.alloc (.cells A t)).heap.size = w.heap.size + 1 := by simp
 refine ⟨(Blk.made w A t).alloc _, ?_, ((Below.refl _ _).alloc (Nat.le_refl _) _).alloc (by omega) _⟩
 have := Blk.made (w.alloc (.cells A t)) B t
 rw [s1] at this
 exact this
theorem Sk.eq_of {s t : Sk} (h1 : s.count = t.count) (h2 : s.sum = t.sum) (h3 : s.min = t.min) (h4 : s.max = t.max) (h5 : s.hist = t.hist) (h6 : s.regs = t.regs) (h7 : s.rows = t.rows) : s = t := by
 cases s; cases t; simp_all
theorem dec_false {p : Prop} [Decidable p] (h : ¬ p) : decide p = false := by simpa using h
theorem dec_true {p : Prop} [Decidable p] (h : p) : decide p = true := by simpa using h
def Sk.zero : Sk := ⟨0, 0, 0, 0, [], [], []⟩
end Go.Proofs.YtjnamoppcklomaaGreat
