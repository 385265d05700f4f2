/- Several texts of mine, laid together. No statement of the seat is proved here. -/
import Derived.Test.YthimjmkdcocofaaTallyD
import Derived.Test.YthimjmkdcocofaaSkCopy
import Derived.Test.YthimjmkdcocofaaSkOk
import Derived.Test.YthimjmkdcocofaaSkLaw
import Derived.Deep.DeepCutAuto
import Derived.Test.YthimjmkdcocofaaTuDraw
import Derived.Maps.AppendAt
import Derived.Test.YthimjmkdcocofaaItHelp
import Derived.Test.YthimjmkdcocofaaSpModel
import Derived.Test.YthimjmkdcocofaaTuMath
import Derived.Test.YthimjmkdcocofaaTuHelp
import Derived.Test.YthimjmkdcocofaaInOf
import Derived.Test.YthimjmkdcocofaaTallyA
import Derived.Test.YthimjmkdcocofaaSkNew
import Derived.Deep.RegionLawGrows
import Derived.Test.YthimjmkdcocofaaWhole
import Derived.Test.YthimjmkdcocofaaSkRoom
import Derived.OrdersHeld
import Derived.Test.YthimjmkdcocofaaTallyS
import Derived.Deep.AppendLies
import Derived.Deep.LoopGhost
/- A summary that is right, by the program. No statement of the seat is proved here. -/
namespace Go.Proofs.Ythimjmkdcocofaa
open Go.RowKit
end Go.Proofs.Ythimjmkdcocofaa
/- What the program's row of numbers comes to: right just where the summary is; the sum is the merged summary. No statement of the seat is proved here. -/
namespace Go.Proofs.Ythimjmkdcocofaa
open Go.RowKit
/-- A summary whose lists are as long as told, written out. -/
theorem Sk.written {s : Sk} (h : s.shaped = true) : ∃ h0 h1 h2 h3 h4 h5 h6 h7 r0 r1 r2 r3 r4 r5 r6 r7 p0 p1 p2 p3 q0 q1 q2 q3, s = ⟨s.count, s.sum, s.min, s.max, [h0, h1, h2, h3, h4, h5, h6, h7], [r0, r1, r2, r3, r4, r5, r6, r7], [[p0, p1, p2, p3], [q0, q1, q2, q3]]⟩ := by
  obtain ⟨e1, e2, x, y, e3, e4, e5⟩ := Sk.shaped_parts h
  obtain ⟨h0, h1, h2, h3, h4, h5, h6, h7, eh⟩ := len8 e1
  obtain ⟨r0, r1, r2, r3, r4, r5, r6, r7, er⟩ := len8 e2
  obtain ⟨p0, p1, p2, p3, rfl⟩ := len4 e4
  obtain ⟨q0, q1, q2, q3, rfl⟩ := len4 e5
  refine ⟨h0, h1, h2, h3, h4, h5, h6, h7, r0, r1, r2, r3, r4, r5, r6, r7, p0, p1, p2, p3, q0, q1, q2, q3, ?_⟩
  cases s
  simp_all
theorem okL_shape {l : List Int} {n : Nat} {m : Int} {z : Bool} (h : okL l n m z = true) : l.length = n := by
  unfold okL at h; simp at h; exact h.1
theorem Sk.ok_shaped {s : Sk} (h : s.ok = true) : s.shaped = true := by
  unfold Sk.ok okHead okLists at h
  simp only [Bool.and_eq_true, decide_eq_true_eq] at h
  obtain ⟨⟨⟨_, hr⟩, _⟩, ⟨⟨⟨l1, l2⟩, l3⟩, l4⟩⟩ := h
  have e1 := okL_shape l1; have e2 := okL_shape l2; have e3 := okL_shape l3; have e4 := okL_shape l4
  obtain ⟨x, y, e⟩ : ∃ x y, s.rows = [x, y] := by
    match s.rows, hr with
    | [x, y], _ => exact ⟨x, y, rfl⟩
  unfold Sk.shaped
  rw [e] at e3 e4 ⊢
  simp at e3 e4
  simp [e1, e2, e3, e4]
end Go.Proofs.Ythimjmkdcocofaa
/- The walk through the model's Insert, of a summary whose lists are as long as told: what comes of it is such a one again. No statement of the seat is proved here. -/
namespace Go.Proofs.Ythimjmkdcocofaa
open Go.RowKit
section
variable {w : World} {lo g : Nat} {c sm mn mx : Int} {b1 o1 k1 b2 o2 k2 p po k3 b3 o3 j0 b4 o4 j1 : Nat} {l1 l2 x y : List Int} {W : World}
theorem cell_keep {u : Value} (h : W.cell? ⟨p, po, none⟩ = some u) {q j : Nat} {n : Value} (hq : p ≠ q) : (W.setCell ⟨q, j, none⟩ n).cell? ⟨p, po, none⟩ = some u :=
  (World.cell?_of_block (w := W) (a := ⟨p, po, none⟩) (Below.heap_setCell W ⟨q, j, none⟩ n p hq)).trans h
end
theorem RdI.single {w : World} {a : Option Addr} {n : Nat} {zs : List Int} {F : List Nat} (h : RdI w a n zs F) (hp : 0 < n) : ∃ b off, a = some ⟨b, off, none⟩ ∧ F = [b] := by
  rcases h.cells with ⟨h0, _⟩ | ⟨b, off, _, e, f, _⟩
  · omega
  · exact ⟨b, off, e, f⟩
theorem shaped_full {s : Sk} (h : s.shaped = true) : s.full := by
  obtain ⟨e1, e2, x, y, e3, e4, e5⟩ := Sk.shaped_parts h
  refine ⟨by omega, by omega, by rw [e3]; simp, fun z hz => ?_⟩
  rw [e3] at hz
  simp at hz
  rcases hz with rfl | rfl <;> omega
theorem shaped_wide {s : Sk} (h : s.shaped = true) : s.wide := by
  obtain ⟨e1, e2, x, y, e3, e4, e5⟩ := Sk.shaped_parts h
  refine ⟨by omega, by omega, by rw [e3]; simp, fun z hz => ?_⟩
  rw [e3] at hz
  simp at hz
  rcases hz with rfl | rfl <;> omega
end Go.Proofs.Ythimjmkdcocofaa
/- The walk through the model's DrawPick. No statement of the seat is proved here. -/
namespace Go.Proofs.Ythimjmkdcocofaa
open Go.RowKit
/-- Midway in a drawing: the turn in its variable X, two lists that grow behind it. -/
structure DrK (w : World) (q : Nat) (a : Option Addr) (len cap : Nat) (zs : List Int) (X : Nat) (cx : Array Value) (x : Tu) (F : List Nat) (u v : Value) (k1 k2 : Nat) (ss ws : List Int) (W : World) : Prop where
  res : Blk W w.heap.size #[.int .i64 0, .bool false, .slice none 0 0] 26
  cur : ∃ i h, Cur W q a len cap zs i h
  bel : Below w.heap.size w W
  s1 : W.ownsRow (X + 1) 3 1 u k1 (ss.map (Value.int .i64))
  s2 : W.ownsRow (X + 1) 3 1 v k2 (ws.map (Value.int .i64))
  ne : ∀ b, u.ownBlock = some b → v.ownBlock = some b → False
  blk : Blk W X cx 26
  rd : RdTu W (.agg cx) x F
  ff : ∀ b ∈ F, b < X
  fq : ∀ b ∈ F, b ≠ q
  gq : w.heap.size < q
  qx : q < X
  ha : ∀ b off, a = some ⟨b, off, none⟩ → 0 < len → b < w.heap.size
theorem own_turn {w w' : World} {B e size n : Nat} {v : Value} {xs : List Value} (h : w.ownsRow B e size v n xs) (k : ∀ b, v.ownBlock = some b → b < w.heap.size → w'.heap[b]? = w.heap[b]?) : w'.ownsRow B e size v n xs := by
  refine ⟨h.1, ?_⟩
  rcases h.2 with e | ⟨b, cap, cur, h1, h2, h3, h4⟩
  · exact .inl e
  · refine .inr ⟨b, cap, cur, h1, h2, ?_, h4⟩
    have hb : b < w.heap.size := by
      by_cases hb : b < w.heap.size
      · exact hb
      · rw [Array.getElem?_eq_none (by omega)] at h3; cases h3
    rw [k b (by rw [h1]; rfl) hb]
    exact h3
theorem own_mono8' {w : World} {B B' e size n : Nat} {v : Value} {xs : List Value} (h : w.ownsRow B e size v n xs) (hB : B' ≤ B) : w.ownsRow B' e size v n xs := by
  refine ⟨h.1, ?_⟩
  rcases h.2 with q | ⟨g, cap, cur, h1, h2, h3⟩
  · exact .inl q
  · exact .inr ⟨g, cap, cur, h1, by omega, h3⟩
/-- What is turned lies at the cursor or behind X and is neither list's. -/
theorem DrK.turn {w : World} {q : Nat} {a : Option Addr} {len cap : Nat} {zs : List Int} {X : Nat} {cx : Array Value} {x : Tu} {F : List Nat} {u v : Value} {k1 k2 : Nat} {ss ws : List Int} {W W' : World} (h : DrK w q a len cap zs X cx x F u v k1 k2 ss ws W) (hb : Below w.heap.size w W') (hs : ∀ b, b < W.heap.size → b ≠ q → (b ≤ X ∨ u.ownBlock = some b ∨ v.ownBlock = some b) → W'.heap[b]? = W.heap[b]?) (hc : ∃ i h, Cur W' q a len cap zs i h) : DrK w q a len cap zs X cx x F u v k1 k2 ss ws W' := by
  refine ⟨h.res.agree (hs _ h.res.lt (by have := h.gq; omega) (.inl (by have := h.gq; have := h.qx; omega))), hc, hb, own_turn h.s1 (fun b e hb => hs b hb (fun e2 => by have := (h.s1.lt b e).1; have := h.qx; omega) (.inr (.inl e))), own_turn h.s2 (fun b e hb => hs b hb (fun e2 => by have := (h.s2.lt b e).1; have := h.qx; omega) (.inr (.inr e))), h.ne, h.blk.agree (hs _ h.blk.lt (by have := h.qx; omega) (.inl (Nat.le_refl _))), h.rd.agree (fun b hb => hs b (h.rd.lt b hb) (h.fq b hb) (.inl (by have := h.ff b hb; omega))), h.ff, h.fq, h.gq, h.qx, h.ha⟩
theorem DrK.next {w : World} {q : Nat} {a : Option Addr} {len cap : Nat} {zs : List Int} {X : Nat} {cx : Array Value} {x : Tu} {F : List Nat} {u v : Value} {k1 k2 : Nat} {ss ws : List Int} {W W' : World} {i j : Int} (h : DrK w q a len cap zs X cx x F u v k1 k2 ss ws W) (C : Cur W' q a len cap zs i j) (g : W.grownBy W' (some q)) : DrK w q a len cap zs X cx x F u v k1 k2 ss ws W' :=
  h.turn ⟨g.os.trans h.bel.os, g.tape.trans h.bel.tape, g.output.trans h.bel.output, Nat.le_trans h.bel.size g.size, fun b hb => (g.block b (by have := h.bel.size; omega) (fun e => by have := h.gq; simp at e; omega)).trans (h.bel.block b hb)⟩ (fun b hb hn _ => g.block b hb (fun e => hn (by simp at e; exact e))) ⟨i, j, C⟩
theorem DrK.below {w : World} {q : Nat} {a : Option Addr} {len cap : Nat} {zs : List Int} {X : Nat} {cx : Array Value} {x : Tu} {F : List Nat} {u v : Value} {k1 k2 : Nat} {ss ws : List Int} {W W' : World} (h : DrK w q a len cap zs X cx x F u v k1 k2 ss ws W) (g : Below W.heap.size W W') : DrK w q a len cap zs X cx x F u v k1 k2 ss ws W' := by
  obtain ⟨i, j, C⟩ := h.cur
  exact h.turn (Below.next h.bel g) (fun b hb _ _ => g.block b hb) ⟨i, j, C.keep g⟩
theorem DrK.cur' {w : World} {q : Nat} {a : Option Addr} {len cap : Nat} {zs : List Int} {X : Nat} {cx : Array Value} {x : Tu} {F : List Nat} {u v : Value} {k1 k2 : Nat} {ss ws : List Int} {W W' : World} (h : DrK w q a len cap zs X cx x F u v k1 k2 ss ws W) (hs : ∀ b, b < W.heap.size → b ≤ X → W'.heap[b]? = W.heap[b]?) : ∃ i j, Cur W' q a len cap zs i j := by
  obtain ⟨i, j, C⟩ := h.cur
  have hl := World.block_lt_of_cell? _ _ C.c0
  exact ⟨i, j, cur_agree C hl (hs q hl (by have := h.qx; omega)) (fun b hb ⟨off, e, hp⟩ => hs b hb (by have := h.ha b off e hp; have := h.gq; have := h.qx; omega))⟩
theorem DrK.app1 {w : World} {q : Nat} {a : Option Addr} {len cap : Nat} {zs : List Int} {X : Nat} {cx : Array Value} {x : Tu} {F : List Nat} {u v : Value} {k1 k2 : Nat} {ss ws : List Int} {W W' : World} {u' : Value} {y : Int} (h : DrK w q a len cap zs X cx x F u v k1 k2 ss ws W) (ho : W'.ownsRow (X + 1) 3 1 u' (k1 + 1) (ss.map (Value.int .i64) ++ [.int .i64 y])) (g : W.grownBy W' u.ownBlock) (hat : u'.ownBlock = u.ownBlock ∨ u'.ownBlock = some W.heap.size) : DrK w q a len cap zs X cx x F u' v (k1 + 1) k2 (ss ++ [y]) ws W' := by
  have hs : ∀ b, b < W.heap.size → u.ownBlock ≠ some b → W'.heap[b]? = W.heap[b]? := fun b hb hn => g.block b hb (fun e => hn e.symm)
  have lo : ∀ b, b ≤ X → u.ownBlock ≠ some b := fun b hb e => by have := (h.s1.lt b e).1; omega
  have lx := h.blk.lt
  refine ⟨h.res.agree (hs _ h.res.lt (lo _ (by have := h.gq; have := h.qx; omega))), h.cur' (fun b hb hx => hs b hb (lo b hx)), ⟨g.os.trans h.bel.os, g.tape.trans h.bel.tape, g.output.trans h.bel.output, Nat.le_trans h.bel.size g.size, fun b hb => (hs b (by have := h.bel.size; omega) (lo b (by have := h.gq; have := h.qx; omega))).trans (h.bel.block b hb)⟩, by rw [List.map_append]; exact ho, own_turn h.s2 (fun b e hb => hs b hb (fun e2 => h.ne b e2 e)), fun b e1 e2 => ?_, h.blk.agree (hs _ lx (lo _ (Nat.le_refl _))), h.rd.agree (fun b hb => hs b (h.rd.lt b hb) (lo b (by have := h.ff b hb; omega))), h.ff, h.fq, h.gq, h.qx, h.ha⟩
  rcases hat with q1 | q1
  · exact h.ne b (q1 ▸ e1) e2
  · rw [q1] at e1; injection e1 with e1; have := (h.s2.lt b e2).2; omega
theorem DrK.app2 {w : World} {q : Nat} {a : Option Addr} {len cap : Nat} {zs : List Int} {X : Nat} {cx : Array Value} {x : Tu} {F : List Nat} {u v : Value} {k1 k2 : Nat} {ss ws : List Int} {W W' : World} {v' : Value} {y : Int} (h : DrK w q a len cap zs X cx x F u v k1 k2 ss ws W) (ho : W'.ownsRow (X + 1) 3 1 v' (k2 + 1) (ws.map (Value.int .i64) ++ [.int .i64 y])) (g : W.grownBy W' v.ownBlock) (hat : v'.ownBlock = v.ownBlock ∨ v'.ownBlock = some W.heap.size) : DrK w q a len cap zs X cx x F u v' k1 (k2 + 1) ss (ws ++ [y]) W' := by
  have hs : ∀ b, b < W.heap.size → v.ownBlock ≠ some b → W'.heap[b]? = W.heap[b]? := fun b hb hn => g.block b hb (fun e => hn e.symm)
  have lo : ∀ b, b ≤ X → v.ownBlock ≠ some b := fun b hb e => by have := (h.s2.lt b e).1; omega
  have lx := h.blk.lt
  refine ⟨h.res.agree (hs _ h.res.lt (lo _ (by have := h.gq; have := h.qx; omega))), h.cur' (fun b hb hx => hs b hb (lo b hx)), ⟨g.os.trans h.bel.os, g.tape.trans h.bel.tape, g.output.trans h.bel.output, Nat.le_trans h.bel.size g.size, fun b hb => (hs b (by have := h.bel.size; omega) (lo b (by have := h.gq; have := h.qx; omega))).trans (h.bel.block b hb)⟩, own_turn h.s1 (fun b e hb => hs b hb (fun e2 => h.ne b e e2)), by rw [List.map_append]; exact ho, fun b e1 e2 => ?_, h.blk.agree (hs _ lx (lo _ (Nat.le_refl _))), h.rd.agree (fun b hb => hs b (h.rd.lt b hb) (lo b (by have := h.ff b hb; omega))), h.ff, h.fq, h.gq, h.qx, h.ha⟩
  rcases hat with q1 | q1
  · exact h.ne b e1 (q1 ▸ e2)
  · rw [q1] at e2; injection e2 with e2; have := (h.s1.lt b e1).2; omega
structure DrZ (w : World) (q : Nat) (a : Option Addr) (len cap : Nat) (zs : List Int) (X : Nat) (cx : Array Value) (x : Tu) (F : List Nat) (g1 p1 g2 p2 : Nat) (ss ws : List Int) (W : World) : Prop where
  res : Blk W w.heap.size #[.int .i64 0, .bool false, .slice none 0 0] 26
  cur : ∃ i h, Cur W q a len cap zs i h
  bel : Below w.heap.size w W
  r1 : RdI W (some ⟨g1, p1, none⟩) 3 ss [g1]
  r2 : RdI W (some ⟨g2, p2, none⟩) 3 ws [g2]
  f1 : ∀ o, W.frozen? ⟨g1, o, none⟩ = false
  f2 : ∀ o, W.frozen? ⟨g2, o, none⟩ = false
  ne : g1 ≠ g2
  x1 : X < g1
  x2 : X < g2
  blk : Blk W X cx 26
  rd : RdTu W (.agg cx) x F
  ff : ∀ b ∈ F, b < X
  fq : ∀ b ∈ F, b ≠ q
  gq : w.heap.size < q
  qx : q < X
  ha : ∀ b off, a = some ⟨b, off, none⟩ → 0 < len → b < w.heap.size
theorem frozen_of {w w' : World} {g o : Nat} (h : w'.heap[g]? = w.heap[g]?) : w'.frozen? ⟨g, o, none⟩ = w.frozen? ⟨g, o, none⟩ := World.frozen?_of_block (w := w) (a := ⟨g, o, none⟩) h
theorem DrZ.turn {w : World} {q : Nat} {a : Option Addr} {len cap : Nat} {zs : List Int} {X : Nat} {cx : Array Value} {x : Tu} {F : List Nat} {g1 p1 g2 p2 : Nat} {ss ws : List Int} {W W' : World} (h : DrZ w q a len cap zs X cx x F g1 p1 g2 p2 ss ws W) (hb : Below w.heap.size w W') (hs : ∀ b, b < W.heap.size → b ≠ q → W'.heap[b]? = W.heap[b]?) (hc : ∃ i h, Cur W' q a len cap zs i h) : DrZ w q a len cap zs X cx x F g1 p1 g2 p2 ss ws W' := by
  have l1 := h.r1.lt g1 (by simp)
  have l2 := h.r2.lt g2 (by simp)
  have e1 := hs g1 l1 (by have := h.qx; have := h.x1; omega)
  have e2 := hs g2 l2 (by have := h.qx; have := h.x2; omega)
  exact ⟨h.res.agree (hs _ h.res.lt (by have := h.gq; omega)), hc, hb, h.r1.agree (fun b hb => by simp at hb; subst hb; exact e1), h.r2.agree (fun b hb => by simp at hb; subst hb; exact e2), fun o => (frozen_of e1).trans (h.f1 o), fun o => (frozen_of e2).trans (h.f2 o), h.ne, h.x1, h.x2, h.blk.agree (hs _ h.blk.lt (by have := h.qx; omega)), h.rd.agree (fun b hb => hs b (h.rd.lt b hb) (h.fq b hb)), h.ff, h.fq, h.gq, h.qx, h.ha⟩
theorem DrZ.next {w : World} {q : Nat} {a : Option Addr} {len cap : Nat} {zs : List Int} {X : Nat} {cx : Array Value} {x : Tu} {F : List Nat} {g1 p1 g2 p2 : Nat} {ss ws : List Int} {W W' : World} {i j : Int} (h : DrZ w q a len cap zs X cx x F g1 p1 g2 p2 ss ws W) (C : Cur W' q a len cap zs i j) (g : W.grownBy W' (some q)) : DrZ w q a len cap zs X cx x F g1 p1 g2 p2 ss ws W' :=
  h.turn ⟨g.os.trans h.bel.os, g.tape.trans h.bel.tape, g.output.trans h.bel.output, Nat.le_trans h.bel.size g.size, fun b hb => (g.block b (by have := h.bel.size; omega) (fun e => by have := h.gq; simp at e; omega)).trans (h.bel.block b hb)⟩ (fun b hb hn => g.block b hb (fun e => hn (by simp at e; exact e))) ⟨i, j, C⟩
theorem DrZ.below {w : World} {q : Nat} {a : Option Addr} {len cap : Nat} {zs : List Int} {X : Nat} {cx : Array Value} {x : Tu} {F : List Nat} {g1 p1 g2 p2 : Nat} {ss ws : List Int} {W W' : World} (h : DrZ w q a len cap zs X cx x F g1 p1 g2 p2 ss ws W) (g : Below W.heap.size W W') : DrZ w q a len cap zs X cx x F g1 p1 g2 p2 ss ws W' := by
  obtain ⟨i, j, C⟩ := h.cur
  exact h.turn (Below.next h.bel g) (fun b hb _ => g.block b hb) ⟨i, j, C.keep g⟩
theorem DrZ.curSet {w : World} {q : Nat} {a : Option Addr} {len cap : Nat} {zs : List Int} {X : Nat} {cx : Array Value} {x : Tu} {F : List Nat} {g1 p1 g2 p2 : Nat} {ss ws : List Int} {W : World} (h : DrZ w q a len cap zs X cx x F g1 p1 g2 p2 ss ws W) {g : Nat} (hg : X < g) (o : Nat) (v : Value) : ∃ i j, Cur (W.setCell ⟨g, o, none⟩ v) q a len cap zs i j := by
  obtain ⟨i, j, C⟩ := h.cur
  have hl := World.block_lt_of_cell? _ _ C.c0
  have hs : ∀ b, b ≠ g → (W.setCell ⟨g, o, none⟩ v).heap[b]? = W.heap[b]? := fun b hb => Below.heap_setCell _ _ _ b hb
  exact ⟨i, j, cur_agree C hl (hs q (by have := h.qx; omega)) (fun b hb ⟨off, e, hp⟩ => hs b (by have := h.ha b off e hp; have := h.gq; have := h.qx; omega))⟩
theorem DrZ.set1 {w : World} {q : Nat} {a : Option Addr} {len cap : Nat} {zs : List Int} {X : Nat} {cx : Array Value} {x : Tu} {F : List Nat} {g1 p1 g2 p2 : Nat} {ss ws : List Int} {W : World} (h : DrZ w q a len cap zs X cx x F g1 p1 g2 p2 ss ws W) (k : Nat) (hk : k < 3) (n : Int) : DrZ w q a len cap zs X cx x F g1 p1 g2 p2 (ss.set k n) ws (W.setCell ⟨g1, p1 + k, none⟩ (.int .i64 n)) := by
  have hs : ∀ b, b ≠ g1 → (W.setCell ⟨g1, p1 + k, none⟩ (.int .i64 n)).heap[b]? = W.heap[b]? := fun b hb => Below.heap_setCell _ _ _ b hb
  have x1 := h.x1
  exact ⟨h.res.agree (hs _ (by have := h.gq; have := h.qx; omega)), h.curSet h.x1 _ _, h.bel.setCell (by have := h.gq; have := h.qx; show w.heap.size ≤ g1; omega) _, h.r1.set (by omega) k hk n, h.r2.agree (fun b hb => by simp at hb; subst hb; exact hs _ (fun e => h.ne e.symm)), fun o => by rw [World.frozen?_setCell]; exact h.f1 o, fun o => (frozen_of (hs _ (fun e => h.ne e.symm))).trans (h.f2 o), h.ne, h.x1, h.x2, h.blk.agree (hs _ (by omega)), h.rd.agree (fun b hb => hs b (by have := h.ff b hb; omega)), h.ff, h.fq, h.gq, h.qx, h.ha⟩
theorem DrZ.set2 {w : World} {q : Nat} {a : Option Addr} {len cap : Nat} {zs : List Int} {X : Nat} {cx : Array Value} {x : Tu} {F : List Nat} {g1 p1 g2 p2 : Nat} {ss ws : List Int} {W : World} (h : DrZ w q a len cap zs X cx x F g1 p1 g2 p2 ss ws W) (k : Nat) (hk : k < 3) (n : Int) : DrZ w q a len cap zs X cx x F g1 p1 g2 p2 ss (ws.set k n) (W.setCell ⟨g2, p2 + k, none⟩ (.int .i64 n)) := by
  have hs : ∀ b, b ≠ g2 → (W.setCell ⟨g2, p2 + k, none⟩ (.int .i64 n)).heap[b]? = W.heap[b]? := fun b hb => Below.heap_setCell _ _ _ b hb
  have x2 := h.x2
  exact ⟨h.res.agree (hs _ (by have := h.gq; have := h.qx; omega)), h.curSet h.x2 _ _, h.bel.setCell (by have := h.gq; have := h.qx; show w.heap.size ≤ g2; omega) _, h.r1.agree (fun b hb => by simp at hb; subst hb; exact hs _ h.ne), h.r2.set (by omega) k hk n, fun o => (frozen_of (hs _ h.ne)).trans (h.f1 o), fun o => by rw [World.frozen?_setCell]; exact h.f2 o, h.ne, h.x1, h.x2, h.blk.agree (hs _ (by omega)), h.rd.agree (fun b hb => hs b (by have := h.ff b hb; omega)), h.ff, h.fq, h.gq, h.qx, h.ha⟩
/-- What DrawPick tells. -/
def DrewPk (w : World) (e : Ending) (w' : World) : Prop := ∃ a1 k1 ss F1 a2 k2 ws F2 c v x F, e = .returned (.tuple #[.slice a1 3 k1, .slice a2 3 k2, .int .i64 c, v]) ∧ RdI w' a1 3 ss F1 ∧ RdI w' a2 3 ws F2 ∧ RdTu w' v x F ∧ x.left.length ≤ 3 ∧ Below w.heap.size w w'
theorem results_tmp3_row {P : Program} {fn : Func} {p r s t : Tmp} {ty : TypeId} (h : fn.results = #[.tmp r, .tmp s, .tmp t, .cell p ty]) (tmps : Array Value) (w : World) (g : Nat) (t1 : TypeId) (cs : Array Value) (fr : Nat × Nat) (d : TypeDesc)
    (hp : tmps.getD p undef = .pointer (some ⟨g, 0, none⟩)) (hg : w.heap[g]? = some (.cells cs t1 fr))
    (hu : P.underlying ty = some d) (hd : (match d with | .struct _ | .array _ _ => true | _ => false) = true) (hi : (P.info? ty).map (·.size) = some cs.size) :
    (results fn tmps).run P w = .ok (.tuple #[tmps.getD r undef, tmps.getD s undef, tmps.getD t undef, .agg cs]) w := by
  have e : (results fn tmps).run P w = ((asAddr (tmps.getD p undef)).run P w).andThen fun a w₁ => ((loadVar ty a).run P w₁).andThen fun v w₂ => .ok (.tuple #[tmps.getD r undef, tmps.getD s undef, tmps.getD t undef, v]) w₂ := by
    simp only [results, h]
    simp [Sem.run_bind, Result.andThen]
  rw [e, hp]
  simp [asAddr, run_loadVar_row w g t1 ty cs fr d hg hu hd hi, Result.andThen]
set_option maxRecDepth 200000 in
set_option maxHeartbeats 8000000 in
theorem drawPick_any (a : Option Addr) (len cap : Nat) (zs : List Int) (w : World) (hR : RdB w a len zs) (hlen : len ≤ 1048576) :
    Calls Try.prog 8 #[.slice a len cap] w fun e w' => DrewPk w e w' := by
  obtain ⟨i0, hi, hz0, hz1, hz2⟩ := info_parts infoInt
  have HR : Hid (RdB w a len zs) := hR
  have HA : Hid (∀ b off, a = some ⟨b, off, none⟩ → 0 < len → b < w.heap.size) := fun b off e hp => by
    rcases hR.cells with h0 | ⟨b', off', ha, hc⟩
    · omega
    · rw [e] at ha; cases ha; exact World.block_lt_of_cell? _ _ (hc 0 hp)
  have HB : Hid (Blk (w.alloc (.cells #[.int .i64 0, .bool false, .slice none 0 0] 26)) w.heap.size #[.int .i64 0, .bool false, .slice none 0 0] 26 ∧ Below w.heap.size w (w.alloc (.cells #[.int .i64 0, .bool false, .slice none 0 0] 26)) ∧ (w.alloc (.cells #[.int .i64 0, .bool false, .slice none 0 0] 26)).heap.size = w.heap.size + 1) := ⟨Blk.made _ _ _, Below.allocW _ (Below.refl _ _) (Nat.le_refl _), by simp⟩
  clear hR
  go_enter Try.func8, Try.ntmps8
  go_wp2_with fail
  refine (l1New_any a len cap zs _ (HR.out.below HB.out.2.1) hlen).mono ?_
  rintro e w1 ⟨rfl, ⟨h0, C1⟩, b1⟩
  obtain ⟨q, hq⟩ : ∃ q, q = (w.alloc (.cells #[.int .i64 0, .bool false, .slice none 0 0] 26)).heap.size := ⟨_, rfl⟩
  rw [← hq] at C1
  have HC1 : Hid (Cur w1 q a len cap zs 0 h0 ∧ Blk w1 w.heap.size #[.int .i64 0, .bool false, .slice none 0 0] 26 ∧ Below w.heap.size w w1 ∧ q = w.heap.size + 1) := ⟨C1, HB.out.1.below b1, Below.next HB.out.2.1 b1, by rw [hq]; exact HB.out.2.2⟩
  try rw [← hq]
  have hqe : w.heap.size + 1 = q := HC1.out.2.2.2.symm
  try rw [hqe]
  clear C1 b1 hq HB hqe
  go_wp2_with fail
  refine (l11Turn_any q a len cap zs 0 h0 _ HC1.out.1 hlen).mono ?_
  rintro e w2 ⟨vx, x, F, i2, h2, rfl, rx, lx, ox, C2, g2⟩
  obtain ⟨cx, rfl, zx, nx⟩ := rx.cells
  have hq1 : q < w1.heap.size := World.block_lt_of_cell? _ _ HC1.out.1.c0
  have HC2 : Hid (Cur w2 q a len cap zs i2 h2 ∧ Blk w2 w.heap.size #[.int .i64 0, .bool false, .slice none 0 0] 26 ∧ Below w.heap.size w w2 ∧ q = w.heap.size + 1 ∧ RdTu w2 (.agg cx) x F ∧ (∀ b ∈ F, b ≠ q) ∧ q < w2.heap.size) := ⟨C2, HC1.out.2.1.agree (g2.block _ HC1.out.2.1.lt (fun e => by have := HC1.out.2.2.2; simp at e; omega)), ⟨g2.os.trans HC1.out.2.2.1.os, g2.tape.trans HC1.out.2.2.1.tape, g2.output.trans HC1.out.2.2.1.output, Nat.le_trans HC1.out.2.2.1.size g2.size, fun b hb => (g2.block b (by have := HC1.out.2.2.1.size; omega) (fun e => by have := HC1.out.2.2.2; simp at e; omega)).trans (HC1.out.2.2.1.block b hb)⟩, HC1.out.2.2.2, rx, fun b hb e => by have := ox.ge b hb; omega, Nat.lt_of_lt_of_le hq1 g2.size⟩
  have HX : Hid (x.left.length ≤ 3 ∧ cx.size = 3 ∧ cx.all (·.oneCell') = true) := ⟨lx, zx, nx⟩
  have HFW : Hid (∀ b ∈ F, w.heap.size < b) := fun b hb => by have := ox.ge b hb; have := HC1.out.2.2.2; omega
  clear rx lx ox C2 g2 zx nx hq1 HC1
  go_wp2_with (first | go_skip | (with_reducible refine stopLoad 26 rfl ?_) | (with_reducible refine stopStore 26 rfl ?_))
  refine store_fresh 26 w2.heap.size rfl #[.int .i64 0, .bool false, .slice none 0 0] cx 26 rfl rfl rfl rfl (tuSize HX.out.2.1) HX.out.2.1.symm HX.out.2.2 ?_
  intro w3 hgX hbX
  obtain ⟨X, hX⟩ : ∃ X, X = w2.heap.size := ⟨_, rfl⟩
  have HD3 : Hid (Cur w3 q a len cap zs i2 h2 ∧ Blk w3 w.heap.size #[.int .i64 0, .bool false, .slice none 0 0] 26 ∧ Below w.heap.size w w3 ∧ q = w.heap.size + 1 ∧ RdTu w3 (.agg cx) x F ∧ (∀ b ∈ F, b ≠ q) ∧ q < X ∧ Blk w3 X cx 26 ∧ (∀ b ∈ F, b < X) ∧ X < w3.heap.size) := ⟨HC2.out.1.keep hbX, HC2.out.2.1.below hbX, Below.next HC2.out.2.2.1 hbX, HC2.out.2.2.2.1, HC2.out.2.2.2.2.1.below hbX, HC2.out.2.2.2.2.2.1, by rw [hX]; exact HC2.out.2.2.2.2.2.2, by rw [hX]; exact hgX, fun b hb => by rw [hX]; exact HC2.out.2.2.2.2.1.lt b hb, by rw [hX]; exact hgX.lt⟩
  rw [← hX]
  clear hgX hbX HC2 hX
  have hs4 : (w3.alloc (.cells #[] 3)).heap.size = w3.heap.size + 1 := by simp
  have own1 := own_empty w3 3
  have own2 := own_empty (w3.alloc (.cells #[] 3)) 3
  rw [hs4] at own2
  have b4 : Below w3.heap.size w3 ((w3.alloc (.cells #[] 3)).alloc (.cells #[] 3)) := Below.allocW _ (Below.allocW _ (Below.refl _ _) (Nat.le_refl _)) (Nat.le_refl _)
  have HD : Hid (DrK w q a len cap zs X cx x F (.slice (some ⟨w3.heap.size, 0, none⟩) 0 0) (.slice (some ⟨w3.heap.size + 1, 0, none⟩) 0 0) 0 0 [] [] ((w3.alloc (.cells #[] 3)).alloc (.cells #[] 3))) :=
    ⟨HD3.out.2.1.below b4, ⟨i2, h2, HD3.out.1.keep b4⟩, Below.next HD3.out.2.2.1 b4, own_mono8' (ownsBelow own1 (Below.allocW _ (Below.refl _ _) (Nat.le_refl _))) (by have := HD3.out.2.2.2.2.2.2.2.2.2; omega), own_mono8' own2 (by have := HD3.out.2.2.2.2.2.2.2.2.2; omega), fun b e1 e2 => by simp [Value.ownBlock] at e1 e2; omega, HD3.out.2.2.2.2.2.2.2.1.below b4, HD3.out.2.2.2.2.1.below b4, HD3.out.2.2.2.2.2.2.2.2.1, HD3.out.2.2.2.2.2.1, by have := HD3.out.2.2.2.1; omega, HD3.out.2.2.2.2.2.2.1, HA.out⟩
  clear HD3 own1 own2 b4
  go_wp2
  go_loopw [8, 9, 10] (fun u v i wr => ∃ (k : Nat) (ss ws : List Int), k ≤ 3 ∧ i = .int .i64 k ∧ Hid (DrK w q a len cap zs X cx x F u v k k ss ws wr)) (fun _ _ i _ => 3 - (intOf i).toNat)
  case atStart => exact ⟨0, [], [], by omega, rfl, HD⟩
  case round =>
    clear HD hs4
    obtain ⟨k, ss, ws, hk, rfl, HD⟩ := hrel
    obtain ⟨i5, h5, C5⟩ := HD.out.cur
    by_cases hlt : k < 3
    · have hI : (k : Int) < 3 := by omega
      go_wp2_with fail
      refine (pickInt_cur q wr.heap.size _ a len cap zs i5 h5 [0, 6, 10, 25, 40, 12] _ (C5.keep ((Below.refl _ _).alloc (Nat.le_refl _) _)) hlen (fun j hj => lit_ints wr [0, 6, 10, 25, 40, 12] 3 j hj) (by have := HD.out.qx; have := HD.out.blk.lt; omega) _ rfl (by simp) (by simp)).mono ?_
      rintro e w5 ⟨y, i6, h6, _, rfl, C6, g6⟩
      have HD5 : Hid (DrK w q a len cap zs X cx x F u8 u9 k k ss ws w5) := (HD.out.below ((Below.refl _ _).alloc (Nat.le_refl _) _)).next C6 g6
      clear C5 C6 g6 HD
      have HD6 : Hid (DrK w q a len cap zs X cx x F u8 u9 k k ss ws (w5.alloc (.cells #[.int .i64 y] 3))) := HD5.out.below ((Below.refl _ _).alloc (Nat.le_refl _) _)
      go_wp2_with (at_builtin; (refine wpList_append_own_at _ rfl _ _ 24 rfl (X + 1) 3 i0 (.int .i64 0) 1 8 Try.underlying24 hi hz0 hz1 hz2 rfl (by decide) _ k (ss.map (Value.int .i64)) rfl HD6.out.s1 ⟨w5.heap.size, 0, none⟩ 1 1 [.int .i64 y] rfl rfl (cell_new1 _ _ _) (by intro u hu; simp at hu; subst hu; rfl) (by unfold maxLen; omega) (by omega) (by have := HD6.out.blk.lt; omega) ?_))
      intro u' w7 hown hgrow _ hat
      have HD7 : Hid (DrK w q a len cap zs X cx x F u' u9 (k + 1) k (ss ++ [y]) ws w7) := HD6.out.app1 hown hgrow (by simpa using hat)
      clear hown hgrow hat HD5 HD6
      obtain ⟨i8, h8, C8⟩ := HD7.out.cur
      go_wp2_with fail
      refine (l1Below_any q a len cap zs i8 h8 4 _ C8 hlen (by omega) (by omega)).mono ?_
      rintro e w8 ⟨z, i9, h9, rfl, z0, z1, C9, g9⟩
      have HD8 : Hid (DrK w q a len cap zs X cx x F u' u9 (k + 1) k (ss ++ [y]) ws w8) := HD7.out.next C9 g9
      clear C8 C9 g9 HD7
      have HD9 : Hid (DrK w q a len cap zs X cx x F u' u9 (k + 1) k (ss ++ [y]) ws (w8.alloc (.cells #[.int .i64 (1 + z)] 3))) := HD8.out.below ((Below.refl _ _).alloc (Nat.le_refl _) _)
      go_wp2_with (at_builtin; (refine wpList_append_own_at _ rfl _ _ 24 rfl (X + 1) 3 i0 (.int .i64 0) 1 8 Try.underlying24 hi hz0 hz1 hz2 rfl (by decide) _ k (ws.map (Value.int .i64)) rfl HD9.out.s2 ⟨w8.heap.size, 0, none⟩ 1 1 [.int .i64 (1 + z)] rfl rfl (cell_new1 _ _ _) (by intro u hu; simp at hu; subst hu; rfl) (by unfold maxLen; omega) (by omega) (by have := HD9.out.blk.lt; omega) ?_))
      intro v' w10 hown hgrow _ hat
      have HD10 : Hid (DrK w q a len cap zs X cx x F u' v' (k + 1) (k + 1) (ss ++ [y]) (ws ++ [1 + z]) w10) := HD9.out.app2 hown hgrow (by simpa using hat)
      clear hown hgrow hat HD8 HD9
      go_wp2
      go_roundw
      case rel => exact ⟨k + 1, ss ++ [y], ws ++ [1 + z], by omega, by go_num, HD10⟩
      case measure => simp [intOf]; omega
    · obtain rfl : k = 3 := by omega
      have hI : ¬ ((3 : Nat) : Int) < 3 := by omega
      clear C5
      obtain ⟨a1, c1, F1, rfl, r1, oo1⟩ := rdI_of_own HD.out.s1
      obtain ⟨a2, c2, F2, rfl, r2, oo2⟩ := rdI_of_own HD.out.s2
      obtain ⟨g1, p1, rfl, rfl⟩ := r1.single (by omega)
      obtain ⟨g2, p2, rfl, rfl⟩ := r2.single (by omega)
      have HZ : Hid (DrZ w q a len cap zs X cx x F g1 p1 g2 p2 ss ws wr) := ⟨HD.out.res, HD.out.cur, HD.out.bel, r1, r2, fun o => oo1.free g1 (by simp) o, fun o => oo2.free g2 (by simp) o, fun e => HD.out.ne g1 (by simp [Value.ownBlock]) (by simp [Value.ownBlock, e]), oo1.ge g1 (by simp), oo2.ge g2 (by simp), HD.out.blk, HD.out.rd, HD.out.ff, HD.out.fq, HD.out.gq, HD.out.qx, HD.out.ha⟩
      clear HD
      clear r1 r2 oo1 oo2
      obtain ⟨i5, h5, C5⟩ := HZ.out.cur
      go_wp2_with fail
      refine (l1Below_any q a len cap zs i5 h5 16 _ C5 hlen (by omega) (by omega)).mono ?_
      rintro e w6 ⟨n, i7, h7, rfl, n0, n1, C7, g7⟩
      have HE : Hid (DrZ w q a len cap zs X cx x F g1 p1 g2 p2 ss ws w6 ∧ Cur w6 q a len cap zs i7 h7) := ⟨HZ.out.next C7 g7, C7⟩
      clear C5 C7 g7 HZ
      by_cases z0 : n = 0
      · subst z0
        skip
        go_wp2_with fail
        refine (pickInt_cur q w6.heap.size _ a len cap zs i7 h7 [-1, 200, 201] _ (HE.out.2.keep ((Below.refl _ _).alloc (Nat.le_refl _) _)) hlen (fun j hj => lit_ints w6 [-1, 200, 201] 3 j hj) (by have := HE.out.1.qx; have := HE.out.1.blk.lt; omega) _ rfl (by simp) (by simp)).mono ?_
        rintro e w8 ⟨y, i8, h8, _, rfl, C8, g8⟩
        have H8 : Hid (DrZ w q a len cap zs X cx x F g1 p1 g2 p2 ss ws w8) := (HE.out.1.below ((Below.refl _ _).alloc (Nat.le_refl _) _)).next C8 g8
        clear C8 g8 HE
        have cc := H8.out.r1.at 0 (by omega)
        have cf := H8.out.f1 (p1 + 0)
        have H9 : Hid (DrZ w q a len cap zs X cx x F g1 p1 g2 p2 (ss.set 0 y) ws (w8.setCell ⟨g1, p1 + 0, none⟩ (.int .i64 y))) := H8.out.set1 0 (by omega) y
        try simp only [Nat.add_zero] at cc cf H9
        go_wp2_with fail
        obtain ⟨w9, hw9⟩ : ∃ W, W = w8.setCell ⟨g1, p1, none⟩ (.int .i64 y) := ⟨_, rfl⟩
        rw [← hw9] at H9 ⊢
        clear hw9 H8 cc cf
        refine wp_region_held (S := fun W => Blk W X cx 26) (by kernel_rfl) ?_
        change wpAnyH _ _ _ _ _ _ _ _ (World.drew _)
        have BD := (Below.refl w9.heap.size w9).drew
        obtain ⟨Y0, hY0⟩ : ∃ Y, Y = w9.drew := ⟨_, rfl⟩
        rw [← hY0] at BD ⊢
        have HY : Hid (DrZ w q a len cap zs X cx x F g1 p1 g2 p2 (ss.set 0 y) ws Y0) := H9.out.below BD
        have HS : Hid (Blk Y0 X cx 26) := HY.out.blk
        obtain ⟨i7, h7, C7⟩ := HY.out.cur
        have HC7 : Hid (Cur Y0 q a len cap zs i7 h7) := C7
        clear C7 hY0 BD H9
        refine takeH (o := ?o1) 0 (.slice (some ⟨g1, p1, none⟩) 3 c1) ?h1 ?r1
        case h1 => simp only [aT, aZ]; rfl
        refine ⟨_, by simp [Act.put]; rfl, by kernel_rfl, by kernel_rfl, by kernel_rfl, fun _ _ _ h => h, (.inl ⟨rfl, fun W _ => by kernel_rfl⟩), HS.out, ?_⟩
        refine takeH (o := ?o2) 1 (.slice (some ⟨g2, p2, none⟩) 3 c2) ?h2 ?r2
        case h2 => simp only [aT, aS, aZ]; rfl
        refine ⟨_, by simp [Act.put]; rfl, by kernel_rfl, by kernel_rfl, by kernel_rfl, fun _ _ _ h => h, (.inl ⟨rfl, fun W _ => by kernel_rfl⟩), HS.out, ?_⟩
        refine takeH (o := ?o3) 2 (.pointer (some ⟨q, 0, none⟩)) ?h3 ?r3
        case h3 => simp only [aT, aS, aZ]; rfl
        refine ⟨_, by simp [Act.put]; rfl, by kernel_rfl, by kernel_rfl, by kernel_rfl, fun _ _ _ h => h, (.inl ⟨rfl, fun W _ => by kernel_rfl⟩), HS.out, ?_⟩
        refine takeH (o := ?o4) 5 (.agg cx) ?h4 ?r4
        case h4 => simp only [aT, aS, aZ]; rfl
        refine ⟨_, by simp [Act.put]; rfl, by kernel_rfl, by kernel_rfl, by kernel_rfl, fun _ _ _ h => h, (yields_whole 26 _ cx 26 _ rfl rfl rfl Try.underlying26 rfl (tuSize HX.out.2.1) (fun W hW => hW)), HS.out, ?_⟩
        refine onlyH (o := ?o5) 3 (by kernel_rfl) ?h5 ?r5
        case h5 => simp only [aT, aS, aZ]; rfl
        intro K hK
        have HSA : Hid (Blk (Y0.alloc (.cells #[.int .i64 1, .int .i64 5, .int .i64 20, .int .i64 60, .int .i64 20, .int .i64 0, .int .i64 61] 3)) X cx 26) := HY.out.blk.alloc _
        refine op_turn (.slice (some ⟨Y0.heap.size, 0, none⟩) 7 7) (Y0.alloc (.cells #[.int .i64 1, .int .i64 5, .int .i64 20, .int .i64 60, .int .i64 20, .int .i64 0, .int .i64 61] 3)) rfl (by go_simp) ⟨_, by simp [Act.put]; rfl, hK _ _ ⟨HSA.out, ?_⟩⟩
        clear hK
        refine onlyH (o := ?o6) 4 (by kernel_rfl) ?h6 ?r6
        case h6 => simp only [aT, aS, aZ]; rfl
        intro K hK
        refine op_call2' 26 _ _ _ Try.f26 (fun v w' => ∃ y i' h', v = .int .i64 y ∧ Cur w' q a len cap zs i' h' ∧ (Y0.alloc (.cells #[.int .i64 1, .int .i64 5, .int .i64 20, .int .i64 60, .int .i64 20, .int .i64 0, .int .i64 61] 3)).grownBy w' (some q)) rfl rfl Try.func26 (by kernel_rfl) (by kernel_rfl) ((pickInt_cur q Y0.heap.size _ a len cap zs i7 h7 [1, 5, 20, 60, 20, 0, 61] _ (HC7.out.keep ((Below.refl _ _).alloc (Nat.le_refl _) _)) hlen (fun j hj => lit_ints Y0 [1, 5, 20, 60, 20, 0, 61] 3 j hj) (by have := HY.out.qx; have := HY.out.blk.lt; omega) 7 rfl (by simp) (by simp)).mono (by rintro e w' ⟨y, i', h', _, rfl, c, g⟩; exact ⟨_, rfl, y, i', h', rfl, c, g⟩)) ?_
        rintro _ Y2 ⟨yq, i8, h8, rfl, C8, g8⟩
        have HY2 : Hid (DrZ w q a len cap zs X cx x F g1 p1 g2 p2 (ss.set 0 y) ws Y2) := (HY.out.below ((Below.refl _ _).alloc (Nat.le_refl _) _)).next C8 g8
        have HS2 : Hid (Blk Y2 X cx 26) := HY2.out.blk
        refine ⟨_, by simp [Act.put]; rfl, hK _ _ ⟨HS2.out, ?_⟩⟩
        clear hK C8 g8 HY HS HSA HC7
        refine takeH (o := ?o7) 6 (.slice (some ⟨g1, p1, none⟩) 3 c1) ?h7 ?r7
        case h7 => simp only [aT, aS, aZ]; rfl
        refine ⟨_, by simp [Act.put]; rfl, by kernel_rfl, by kernel_rfl, by kernel_rfl, fun _ _ _ h => h, (.inl ⟨rfl, fun W _ => by kernel_rfl⟩), HS2.out, ?_⟩
        refine takeH (o := ?o8) 7 (.slice (some ⟨g2, p2, none⟩) 3 c2) ?h8 ?r8
        case h8 => simp only [aT, aS, aZ]; rfl
        refine ⟨_, by simp [Act.put]; rfl, by kernel_rfl, by kernel_rfl, by kernel_rfl, fun _ _ _ h => h, (.inl ⟨rfl, fun W _ => by kernel_rfl⟩), HS2.out, ?_⟩
        refine takeH (o := ?o9) 8 (.int .i64 yq) ?h9 ?r9
        case h9 => simp only [aT, aS, aZ]; rfl
        refine ⟨_, by simp [Act.put]; rfl, by kernel_rfl, by kernel_rfl, by kernel_rfl, fun _ _ _ h => h, (.inl ⟨rfl, fun W _ => by kernel_rfl⟩), HS2.out, ?_⟩
        refine onlyH (o := ?o10) 9 (by kernel_rfl) ?h10 ?r10
        case h10 => simp only [aT, aS, aZ]; rfl
        intro K hK
        refine op_store 26 w.heap.size #[.int .i64 0, .bool false, .slice none 0 0] cx 26 rfl rfl rfl rfl HY2.out.res (tuSize HX.out.2.1) HX.out.2.1.symm HX.out.2.2 ⟨_, by simp [Act.put]; rfl, hK _ _ ⟨HS2.out.setRowOther (by have := HY2.out.gq; have := HY2.out.qx; omega), ?_⟩⟩
        clear hK
        refine wpAnyH_done (by kernel_rfl) ?_ _
        go_wp2
        refine bodyPost_ret (results_tmp3_row Try.results8 _ _ w.heap.size _ _ (0, 0) _ rfl HY2.out.res.setRow Try.underlying26 rfl (tuSize HX.out.2.1)) rfl ?_
        have aw : ∀ H : List Nat, (∀ b ∈ H, b ≠ w.heap.size) → Agree Y2 (Y2.setRow w.heap.size cx) H := fun H hh => Agree.row (fun hx => hh _ hx rfl) _
        exact ⟨_, _, _, [g1], _, _, _, [g2], _, _, x, F, rfl, HY2.out.r1.agree (aw _ (fun b hb e => by have := HY2.out.gq; have := HY2.out.qx; have := HY2.out.x1; simp at hb; omega)), HY2.out.r2.agree (aw _ (fun b hb e => by have := HY2.out.gq; have := HY2.out.qx; have := HY2.out.x2; simp at hb; omega)), HY2.out.rd.agree (aw _ (fun b hb e => by have := HFW.out b hb; omega)), HX.out.1, below_setRow HY2.out.bel (Nat.le_refl _) _⟩
      have z0b : (n == 0) = false := by simpa using z0
      by_cases z1 : n = 1
      · subst z1
        clear z0
        go_wp2_with fail
        refine (pickInt_cur q w6.heap.size _ a len cap zs i7 h7 [0, 5] _ (HE.out.2.keep ((Below.refl _ _).alloc (Nat.le_refl _) _)) hlen (fun j hj => lit_ints w6 [0, 5] 3 j hj) (by have := HE.out.1.qx; have := HE.out.1.blk.lt; omega) _ rfl (by simp) (by simp)).mono ?_
        rintro e w8 ⟨y, i8, h8, _, rfl, C8, g8⟩
        have H8 : Hid (DrZ w q a len cap zs X cx x F g1 p1 g2 p2 ss ws w8) := (HE.out.1.below ((Below.refl _ _).alloc (Nat.le_refl _) _)).next C8 g8
        clear C8 g8 HE
        have cc := H8.out.r2.at 2 (by omega)
        have cf := H8.out.f2 (p2 + 2)
        have H9 : Hid (DrZ w q a len cap zs X cx x F g1 p1 g2 p2 ss (ws.set 2 y) (w8.setCell ⟨g2, p2 + 2, none⟩ (.int .i64 y))) := H8.out.set2 2 (by omega) y
        skip
        go_wp2_with fail
        obtain ⟨w9, hw9⟩ : ∃ W, W = w8.setCell ⟨g2, p2 + 2, none⟩ (.int .i64 y) := ⟨_, rfl⟩
        rw [← hw9] at H9 ⊢
        clear hw9 H8 cc cf
        refine wp_region_held (S := fun W => Blk W X cx 26) (by kernel_rfl) ?_
        change wpAnyH _ _ _ _ _ _ _ _ (World.drew _)
        have BD := (Below.refl w9.heap.size w9).drew
        obtain ⟨Y0, hY0⟩ : ∃ Y, Y = w9.drew := ⟨_, rfl⟩
        rw [← hY0] at BD ⊢
        have HY : Hid (DrZ w q a len cap zs X cx x F g1 p1 g2 p2 ss (ws.set 2 y) Y0) := H9.out.below BD
        have HS : Hid (Blk Y0 X cx 26) := HY.out.blk
        obtain ⟨i7, h7, C7⟩ := HY.out.cur
        have HC7 : Hid (Cur Y0 q a len cap zs i7 h7) := C7
        clear C7 hY0 BD H9
        refine takeH (o := ?o11) 0 (.slice (some ⟨g1, p1, none⟩) 3 c1) ?h11 ?r11
        case h11 => simp only [aT, aZ]; rfl
        refine ⟨_, by simp [Act.put]; rfl, by kernel_rfl, by kernel_rfl, by kernel_rfl, fun _ _ _ h => h, (.inl ⟨rfl, fun W _ => by kernel_rfl⟩), HS.out, ?_⟩
        refine takeH (o := ?o12) 1 (.slice (some ⟨g2, p2, none⟩) 3 c2) ?h12 ?r12
        case h12 => simp only [aT, aS, aZ]; rfl
        refine ⟨_, by simp [Act.put]; rfl, by kernel_rfl, by kernel_rfl, by kernel_rfl, fun _ _ _ h => h, (.inl ⟨rfl, fun W _ => by kernel_rfl⟩), HS.out, ?_⟩
        refine takeH (o := ?o13) 2 (.pointer (some ⟨q, 0, none⟩)) ?h13 ?r13
        case h13 => simp only [aT, aS, aZ]; rfl
        refine ⟨_, by simp [Act.put]; rfl, by kernel_rfl, by kernel_rfl, by kernel_rfl, fun _ _ _ h => h, (.inl ⟨rfl, fun W _ => by kernel_rfl⟩), HS.out, ?_⟩
        refine takeH (o := ?o14) 5 (.agg cx) ?h14 ?r14
        case h14 => simp only [aT, aS, aZ]; rfl
        refine ⟨_, by simp [Act.put]; rfl, by kernel_rfl, by kernel_rfl, by kernel_rfl, fun _ _ _ h => h, (yields_whole 26 _ cx 26 _ rfl rfl rfl Try.underlying26 rfl (tuSize HX.out.2.1) (fun W hW => hW)), HS.out, ?_⟩
        refine onlyH (o := ?o15) 3 (by kernel_rfl) ?h15 ?r15
        case h15 => simp only [aT, aS, aZ]; rfl
        intro K hK
        have HSA : Hid (Blk (Y0.alloc (.cells #[.int .i64 1, .int .i64 5, .int .i64 20, .int .i64 60, .int .i64 20, .int .i64 0, .int .i64 61] 3)) X cx 26) := HY.out.blk.alloc _
        refine op_turn (.slice (some ⟨Y0.heap.size, 0, none⟩) 7 7) (Y0.alloc (.cells #[.int .i64 1, .int .i64 5, .int .i64 20, .int .i64 60, .int .i64 20, .int .i64 0, .int .i64 61] 3)) rfl (by go_simp) ⟨_, by simp [Act.put]; rfl, hK _ _ ⟨HSA.out, ?_⟩⟩
        clear hK
        refine onlyH (o := ?o16) 4 (by kernel_rfl) ?h16 ?r16
        case h16 => simp only [aT, aS, aZ]; rfl
        intro K hK
        refine op_call2' 26 _ _ _ Try.f26 (fun v w' => ∃ y i' h', v = .int .i64 y ∧ Cur w' q a len cap zs i' h' ∧ (Y0.alloc (.cells #[.int .i64 1, .int .i64 5, .int .i64 20, .int .i64 60, .int .i64 20, .int .i64 0, .int .i64 61] 3)).grownBy w' (some q)) rfl rfl Try.func26 (by kernel_rfl) (by kernel_rfl) ((pickInt_cur q Y0.heap.size _ a len cap zs i7 h7 [1, 5, 20, 60, 20, 0, 61] _ (HC7.out.keep ((Below.refl _ _).alloc (Nat.le_refl _) _)) hlen (fun j hj => lit_ints Y0 [1, 5, 20, 60, 20, 0, 61] 3 j hj) (by have := HY.out.qx; have := HY.out.blk.lt; omega) 7 rfl (by simp) (by simp)).mono (by rintro e w' ⟨y, i', h', _, rfl, c, g⟩; exact ⟨_, rfl, y, i', h', rfl, c, g⟩)) ?_
        rintro _ Y2 ⟨yq, i8, h8, rfl, C8, g8⟩
        have HY2 : Hid (DrZ w q a len cap zs X cx x F g1 p1 g2 p2 ss (ws.set 2 y) Y2) := (HY.out.below ((Below.refl _ _).alloc (Nat.le_refl _) _)).next C8 g8
        have HS2 : Hid (Blk Y2 X cx 26) := HY2.out.blk
        refine ⟨_, by simp [Act.put]; rfl, hK _ _ ⟨HS2.out, ?_⟩⟩
        clear hK C8 g8 HY HS HSA HC7
        refine takeH (o := ?o17) 6 (.slice (some ⟨g1, p1, none⟩) 3 c1) ?h17 ?r17
        case h17 => simp only [aT, aS, aZ]; rfl
        refine ⟨_, by simp [Act.put]; rfl, by kernel_rfl, by kernel_rfl, by kernel_rfl, fun _ _ _ h => h, (.inl ⟨rfl, fun W _ => by kernel_rfl⟩), HS2.out, ?_⟩
        refine takeH (o := ?o18) 7 (.slice (some ⟨g2, p2, none⟩) 3 c2) ?h18 ?r18
        case h18 => simp only [aT, aS, aZ]; rfl
        refine ⟨_, by simp [Act.put]; rfl, by kernel_rfl, by kernel_rfl, by kernel_rfl, fun _ _ _ h => h, (.inl ⟨rfl, fun W _ => by kernel_rfl⟩), HS2.out, ?_⟩
        refine takeH (o := ?o19) 8 (.int .i64 yq) ?h19 ?r19
        case h19 => simp only [aT, aS, aZ]; rfl
        refine ⟨_, by simp [Act.put]; rfl, by kernel_rfl, by kernel_rfl, by kernel_rfl, fun _ _ _ h => h, (.inl ⟨rfl, fun W _ => by kernel_rfl⟩), HS2.out, ?_⟩
        refine onlyH (o := ?o20) 9 (by kernel_rfl) ?h20 ?r20
        case h20 => simp only [aT, aS, aZ]; rfl
        intro K hK
        refine op_store 26 w.heap.size #[.int .i64 0, .bool false, .slice none 0 0] cx 26 rfl rfl rfl rfl HY2.out.res (tuSize HX.out.2.1) HX.out.2.1.symm HX.out.2.2 ⟨_, by simp [Act.put]; rfl, hK _ _ ⟨HS2.out.setRowOther (by have := HY2.out.gq; have := HY2.out.qx; omega), ?_⟩⟩
        clear hK
        refine wpAnyH_done (by kernel_rfl) ?_ _
        go_wp2
        refine bodyPost_ret (results_tmp3_row Try.results8 _ _ w.heap.size _ _ (0, 0) _ rfl HY2.out.res.setRow Try.underlying26 rfl (tuSize HX.out.2.1)) rfl ?_
        have aw : ∀ H : List Nat, (∀ b ∈ H, b ≠ w.heap.size) → Agree Y2 (Y2.setRow w.heap.size cx) H := fun H hh => Agree.row (fun hx => hh _ hx rfl) _
        exact ⟨_, _, _, [g1], _, _, _, [g2], _, _, x, F, rfl, HY2.out.r1.agree (aw _ (fun b hb e => by have := HY2.out.gq; have := HY2.out.qx; have := HY2.out.x1; simp at hb; omega)), HY2.out.r2.agree (aw _ (fun b hb e => by have := HY2.out.gq; have := HY2.out.qx; have := HY2.out.x2; simp at hb; omega)), HY2.out.rd.agree (aw _ (fun b hb e => by have := HFW.out b hb; omega)), HX.out.1, below_setRow HY2.out.bel (Nat.le_refl _) _⟩
      have z1b : (n == 1) = false := by simpa using z1
      clear z0 z1
      have H9 : Hid (DrZ w q a len cap zs X cx x F g1 p1 g2 p2 ss ws w6) := HE.out.1
      clear HE
      go_wp2_with fail
      refine wp_region_held (S := fun W => Blk W X cx 26) (by kernel_rfl) ?_
      change wpAnyH _ _ _ _ _ _ _ _ (World.drew _)
      have BD := (Below.refl w6.heap.size w6).drew
      obtain ⟨Y0, hY0⟩ : ∃ Y, Y = w6.drew := ⟨_, rfl⟩
      rw [← hY0] at BD ⊢
      have HY : Hid (DrZ w q a len cap zs X cx x F g1 p1 g2 p2 ss ws Y0) := H9.out.below BD
      have HS : Hid (Blk Y0 X cx 26) := HY.out.blk
      obtain ⟨i7, h7, C7⟩ := HY.out.cur
      have HC7 : Hid (Cur Y0 q a len cap zs i7 h7) := C7
      clear C7 hY0 BD H9
      refine takeH (o := ?o21) 0 (.slice (some ⟨g1, p1, none⟩) 3 c1) ?h21 ?r21
      case h21 => simp only [aT, aZ]; rfl
      refine ⟨_, by simp [Act.put]; rfl, by kernel_rfl, by kernel_rfl, by kernel_rfl, fun _ _ _ h => h, (.inl ⟨rfl, fun W _ => by kernel_rfl⟩), HS.out, ?_⟩
      refine takeH (o := ?o22) 1 (.slice (some ⟨g2, p2, none⟩) 3 c2) ?h22 ?r22
      case h22 => simp only [aT, aS, aZ]; rfl
      refine ⟨_, by simp [Act.put]; rfl, by kernel_rfl, by kernel_rfl, by kernel_rfl, fun _ _ _ h => h, (.inl ⟨rfl, fun W _ => by kernel_rfl⟩), HS.out, ?_⟩
      refine takeH (o := ?o23) 2 (.pointer (some ⟨q, 0, none⟩)) ?h23 ?r23
      case h23 => simp only [aT, aS, aZ]; rfl
      refine ⟨_, by simp [Act.put]; rfl, by kernel_rfl, by kernel_rfl, by kernel_rfl, fun _ _ _ h => h, (.inl ⟨rfl, fun W _ => by kernel_rfl⟩), HS.out, ?_⟩
      refine takeH (o := ?o24) 5 (.agg cx) ?h24 ?r24
      case h24 => simp only [aT, aS, aZ]; rfl
      refine ⟨_, by simp [Act.put]; rfl, by kernel_rfl, by kernel_rfl, by kernel_rfl, fun _ _ _ h => h, (yields_whole 26 _ cx 26 _ rfl rfl rfl Try.underlying26 rfl (tuSize HX.out.2.1) (fun W hW => hW)), HS.out, ?_⟩
      refine onlyH (o := ?o25) 3 (by kernel_rfl) ?h25 ?r25
      case h25 => simp only [aT, aS, aZ]; rfl
      intro K hK
      have HSA : Hid (Blk (Y0.alloc (.cells #[.int .i64 1, .int .i64 5, .int .i64 20, .int .i64 60, .int .i64 20, .int .i64 0, .int .i64 61] 3)) X cx 26) := HY.out.blk.alloc _
      refine op_turn (.slice (some ⟨Y0.heap.size, 0, none⟩) 7 7) (Y0.alloc (.cells #[.int .i64 1, .int .i64 5, .int .i64 20, .int .i64 60, .int .i64 20, .int .i64 0, .int .i64 61] 3)) rfl (by go_simp) ⟨_, by simp [Act.put]; rfl, hK _ _ ⟨HSA.out, ?_⟩⟩
      clear hK
      refine onlyH (o := ?o26) 4 (by kernel_rfl) ?h26 ?r26
      case h26 => simp only [aT, aS, aZ]; rfl
      intro K hK
      refine op_call2' 26 _ _ _ Try.f26 (fun v w' => ∃ y i' h', v = .int .i64 y ∧ Cur w' q a len cap zs i' h' ∧ (Y0.alloc (.cells #[.int .i64 1, .int .i64 5, .int .i64 20, .int .i64 60, .int .i64 20, .int .i64 0, .int .i64 61] 3)).grownBy w' (some q)) rfl rfl Try.func26 (by kernel_rfl) (by kernel_rfl) ((pickInt_cur q Y0.heap.size _ a len cap zs i7 h7 [1, 5, 20, 60, 20, 0, 61] _ (HC7.out.keep ((Below.refl _ _).alloc (Nat.le_refl _) _)) hlen (fun j hj => lit_ints Y0 [1, 5, 20, 60, 20, 0, 61] 3 j hj) (by have := HY.out.qx; have := HY.out.blk.lt; omega) 7 rfl (by simp) (by simp)).mono (by rintro e w' ⟨y, i', h', _, rfl, c, g⟩; exact ⟨_, rfl, y, i', h', rfl, c, g⟩)) ?_
      rintro _ Y2 ⟨yq, i8, h8, rfl, C8, g8⟩
      have HY2 : Hid (DrZ w q a len cap zs X cx x F g1 p1 g2 p2 ss ws Y2) := (HY.out.below ((Below.refl _ _).alloc (Nat.le_refl _) _)).next C8 g8
      have HS2 : Hid (Blk Y2 X cx 26) := HY2.out.blk
      refine ⟨_, by simp [Act.put]; rfl, hK _ _ ⟨HS2.out, ?_⟩⟩
      clear hK C8 g8 HY HS HSA HC7
      refine takeH (o := ?o27) 6 (.slice (some ⟨g1, p1, none⟩) 3 c1) ?h27 ?r27
      case h27 => simp only [aT, aS, aZ]; rfl
      refine ⟨_, by simp [Act.put]; rfl, by kernel_rfl, by kernel_rfl, by kernel_rfl, fun _ _ _ h => h, (.inl ⟨rfl, fun W _ => by kernel_rfl⟩), HS2.out, ?_⟩
      refine takeH (o := ?o28) 7 (.slice (some ⟨g2, p2, none⟩) 3 c2) ?h28 ?r28
      case h28 => simp only [aT, aS, aZ]; rfl
      refine ⟨_, by simp [Act.put]; rfl, by kernel_rfl, by kernel_rfl, by kernel_rfl, fun _ _ _ h => h, (.inl ⟨rfl, fun W _ => by kernel_rfl⟩), HS2.out, ?_⟩
      refine takeH (o := ?o29) 8 (.int .i64 yq) ?h29 ?r29
      case h29 => simp only [aT, aS, aZ]; rfl
      refine ⟨_, by simp [Act.put]; rfl, by kernel_rfl, by kernel_rfl, by kernel_rfl, fun _ _ _ h => h, (.inl ⟨rfl, fun W _ => by kernel_rfl⟩), HS2.out, ?_⟩
      refine onlyH (o := ?o30) 9 (by kernel_rfl) ?h30 ?r30
      case h30 => simp only [aT, aS, aZ]; rfl
      intro K hK
      refine op_store 26 w.heap.size #[.int .i64 0, .bool false, .slice none 0 0] cx 26 rfl rfl rfl rfl HY2.out.res (tuSize HX.out.2.1) HX.out.2.1.symm HX.out.2.2 ⟨_, by simp [Act.put]; rfl, hK _ _ ⟨HS2.out.setRowOther (by have := HY2.out.gq; have := HY2.out.qx; omega), ?_⟩⟩
      clear hK
      refine wpAnyH_done (by kernel_rfl) ?_ _
      go_wp2
      refine bodyPost_ret (results_tmp3_row Try.results8 _ _ w.heap.size _ _ (0, 0) _ rfl HY2.out.res.setRow Try.underlying26 rfl (tuSize HX.out.2.1)) rfl ?_
      have aw : ∀ H : List Nat, (∀ b ∈ H, b ≠ w.heap.size) → Agree Y2 (Y2.setRow w.heap.size cx) H := fun H hh => Agree.row (fun hx => hh _ hx rfl) _
      exact ⟨_, _, _, [g1], _, _, _, [g2], _, _, x, F, rfl, HY2.out.r1.agree (aw _ (fun b hb e => by have := HY2.out.gq; have := HY2.out.qx; have := HY2.out.x1; simp at hb; omega)), HY2.out.r2.agree (aw _ (fun b hb e => by have := HY2.out.gq; have := HY2.out.qx; have := HY2.out.x2; simp at hb; omega)), HY2.out.rd.agree (aw _ (fun b hb e => by have := HFW.out b hb; omega)), HX.out.1, below_setRow HY2.out.bel (Nat.le_refl _) _⟩
  end Go.Proofs.Ythimjmkdcocofaa
/- The walks through more helpers of the laws over items and entries. No statement of the seat is proved here. -/
namespace Go.Proofs.Ythimjmkdcocofaa
open Go.RowKit
end Go.Proofs.Ythimjmkdcocofaa
/- The walks through the model's IdOf, ItemOk, EntryOk. No statement of the seat is proved here. -/
namespace Go.Proofs.Ythimjmkdcocofaa
open Go.RowKit
def idOf (a s : Int) : Int := if (0 ≤ a ∧ a ≤ 2) ∧ 1 ≤ s ∧ s ≤ 60 then 100 * a + s else -1
def placeOk (k w : Int) : Bool := decide (0 ≤ k ∧ k ≤ 4) && decide (0 ≤ w ∧ w ≤ 20)
def It.ok (x : It) : Bool := decide (1 ≤ x.seq ∧ x.seq ≤ 60) && decide (0 ≤ x.cls ∧ x.cls ≤ 1) && placeOk x.key x.window && x.sk.ok
def En.ok (x : En) : Bool := placeOk x.key x.window && decide (0 < x.ids.length) && x.ids.ok && x.sk.ok
def En.zero : En := ⟨0, 0, [], Sk.zero⟩
theorem rdEn_zero (W : World) : RdEn W (.agg #[.int .i64 0, .int .i64 0, .slice none 0 0, .int .i64 0, .int .i64 0, .int .i64 0, .int .i64 0, .slice none 0 0, .slice none 0 0, .slice none 0 0]) En.zero [] [] :=
  ⟨none, 0, 0, none, 0, 0, none, 0, 0, none, 0, 0, rfl, RdP.nil, ⟨none, 0, 0, none, 0, 0, none, 0, 0, [], [], [], rfl, ⟨rfl, .inl ⟨rfl, rfl⟩⟩, ⟨rfl, .inl ⟨rfl, rfl⟩⟩, ⟨rfl, .inl ⟨rfl, rfl⟩⟩, rfl⟩, fun _ => rfl, Nat.le_refl _⟩
theorem En.ok_sk {x : En} (h : x.ok = true) : x.sk.ok = true := by
  unfold En.ok at h
  simp only [Bool.and_eq_true] at h
  exact h.2
set_option maxRecDepth 200000 in
theorem l6Agent_any (n : Int) (w : World) : Calls Try.prog 39 #[.int .i64 n] w fun e w' => e = .returned (.bool (decide (0 ≤ n ∧ n ≤ 2))) ∧ w' = w := by
  go_enter Try.func39, Try.ntmps39
  go_wp2_with fail
  refine (l1In_any _ _ _ _).mono ?_
  rintro e w2 ⟨rfl, hw2⟩
  have hw2' := hw2.symm
  subst hw2'
  clear hw2
  obtain ⟨d, hd⟩ : ∃ d, d = decide (0 ≤ n ∧ n ≤ 2) := ⟨_, rfl⟩
  rw [← hd]
  have HD : Hid (d = decide (0 ≤ n ∧ n ≤ 2)) := hd
  clear hd
  go_wp2
  go_ret
  exact ⟨ret_bool HD.out, rfl⟩
end Go.Proofs.Ythimjmkdcocofaa
/- The walks through the model's l11Nums and TurnOk. No statement of the seat is proved here. -/
namespace Go.Proofs.Ythimjmkdcocofaa
open Go.RowKit
def inLH (lo hi : Int) (z : Int) : Bool := decide (lo ≤ z ∧ z ≤ hi)
set_option maxRecDepth 200000 in
set_option maxHeartbeats 1000000 in
theorem l11Nums_any (a : Option Addr) (len cap : Nat) (zs : List Int) (F : List Nat) (lo hi : Int) (w : World) (h : RdI w a len zs F) (hlen : len ≤ 140737488355328) :
    Calls Try.prog 35 #[.slice a len cap, .int .i64 lo, .int .i64 hi] w fun e w' => e = .returned (.bool (nums zs lo hi)) ∧ w' = w := by
  obtain ⟨d, hd⟩ : ∃ d, d = nums zs lo hi := ⟨_, rfl⟩
  rw [← hd]
  have HL : Hid (zs.length = len) := h.length
  by_cases hl : len = 3
  · subst hl
    have HD : Hid (d = zs.all (inLH lo hi)) := by show d = _; rw [hd, nums, HL.out]; rfl
    clear hd
    rcases h.cells with ⟨h0, _⟩ | ⟨b, off, hp, rfl, _, hc⟩
    · cases h0
    · have HC : Hid (∀ i, i < 3 → w.cell? ⟨b, off + i, none⟩ = some (.int .i64 (zs.getD i 0))) := hc
      clear h hc
      go_enter Try.func35, Try.ntmps35
      go_wp2
      go_loop [7] (fun i => ∃ k : Nat, k ≤ 3 ∧ i = .int .i64 k ∧ Hid ((zs.take k).all (inLH lo hi) = true)) (fun i => 3 - (intOf i).toNat)
      case atStart => exact ⟨0, by omega, rfl, show _ = true by simp⟩
      case round =>
        obtain ⟨k, hk, rfl, HA⟩ := hrel
        by_cases hlt : k < 3
        · have hck := HC.out k hlt
          obtain ⟨x, hx⟩ : ∃ x, x = zs[k]?.getD 0 := ⟨_, rfl⟩
          have hck2 : w.cell? ⟨b, off + k, none⟩ = some (.int .i64 x) := by rw [hx, hck]; simp
          have HX : Hid (x = zs[k]?.getD 0) := hx
          clear hck hx
          have hI : (k : Int) < 3 := by omega
          obtain ⟨y, hy⟩ : ∃ y, y = inLH lo hi x := ⟨_, rfl⟩
          have HY : Hid (y = inLH lo hi x) := hy
          have hyd : decide (lo ≤ x ∧ x ≤ hi) = y := by rw [hy]; rfl
          clear hy
          go_wp2_with fail
          refine (l1In_any _ _ _ _).mono ?_
          rintro e w1 ⟨rfl, hw1⟩
          have hw1' := hw1.symm
          subst hw1'
          rw [hyd]
          clear hw1 hyd
          cases y
          · have HN : Hid (zs.all (inLH lo hi) = false) := all_not (by rw [HL.out]; exact hlt) (by rw [← HX.out]; exact HY.out.symm)
            go_wp2
            go_ret
            exact ⟨ret_bool (by rw [HD.out, HN.out]), rfl⟩
          · have HA2 : Hid ((zs.take (k + 1)).all (inLH lo hi) = true) := all_snoc (by rw [HL.out]; exact hlt) HA.out (by rw [← HX.out]; exact HY.out.symm)
            go_wp2
            go_round
            case rel => exact ⟨k + 1, by omega, by go_num, HA2⟩
            case measure => simp [intOf]; omega
        · obtain rfl : k = 3 := by omega
          have HN : Hid (zs.all (inLH lo hi) = true) := by
            have := HA.out
            rw [List.take_of_length_le (by rw [HL.out]; exact Nat.le_refl _)] at this
            exact this
          go_wp2
          go_ret
          exact ⟨ret_bool (by rw [HD.out, HN.out]), rfl⟩
  · have HD : Hid (d = false) := by show d = _; rw [hd, nums, HL.out]; simp [hl]
    have hne : ((len : Int) != 3) = true := by simp; omega
    clear h hd
    go_enter Try.func35, Try.ntmps35
    go_wp2
    go_ret
    exact ⟨ret_bool (by rw [HD.out]), rfl⟩
set_option maxRecDepth 200000 in
set_option maxHeartbeats 1000000 in
theorem turnOkSpec_any (v : Value) (x : Tu) (F : List Nat) (w : World) (h : RdTu w v x F) (hw : x.wide) :
    Calls Try.prog 12 #[v] w fun e w' => e = .returned (.bool x.ok) ∧ Below w.heap.size w w' := by
  obtain ⟨b, l, c, rfl, hP⟩ := h
  have HP : Hid (RdI w b l x.left F ∧ l ≤ 140737488355328) := ⟨hP, by rw [← hP.length]; exact Nat.le_trans hw (by omega)⟩
  have HB : Hid (Below w.heap.size w (w.alloc (.cells #[.int .i64 x.who, .bool x.fresh, .slice b l c] 26)) ∧ Blk (w.alloc (.cells #[.int .i64 x.who, .bool x.fresh, .slice b l c] 26)) w.heap.size #[.int .i64 x.who, .bool x.fresh, .slice b l c] 26) := ⟨Below.allocW _ (Below.refl _ _) (Nat.le_refl _), Blk.made _ _ _⟩
  obtain ⟨p, hp⟩ : ∃ p, p = decide (0 ≤ x.who ∧ x.who ≤ 2) := ⟨_, rfl⟩
  have HV : Hid (x.ok = (p && nums x.left 0 1000)) := by show _ = _; rw [hp]; rfl
  clear hP hw
  go_enter Try.func12, Try.ntmps12
  go_wp2_with fail
  refine (l6Agent_any _ _).mono ?_
  rintro e w1 ⟨rfl, hw1⟩
  have hw1' := hw1.symm
  subst hw1'
  rw [← hp]
  clear hw1 hp
  cases p
  · go_wp2
    go_ret
    exact ⟨ret_bool (by rw [HV.out]; rfl), HB.out.1⟩
  · have c2 := HB.out.2.cell 2
    simp only [aT, aS, aZ] at c2
    go_wp2_with fail
    refine (l11Nums_any _ _ _ x.left F _ _ _ (HP.out.1.below HB.out.1) HP.out.2).mono ?_
    rintro e w2 ⟨rfl, hw2⟩
    have hw2' := hw2.symm
    subst hw2'
    clear hw2 c2
    obtain ⟨r, hr⟩ : ∃ r, r = nums x.left 0 1000 := ⟨_, rfl⟩
    rw [← hr]
    have HR : Hid (r = nums x.left 0 1000) := hr
    clear hr
    go_wp2
    go_ret
    exact ⟨ret_bool (by rw [HV.out, HR.out]; rfl), HB.out.1⟩
end Go.Proofs.Ythimjmkdcocofaa
/- The walks through the program's isPerAgent, TurnOk and TurnNew, and the model's TurnNew. No statement of the seat is proved here. -/
namespace Go.Proofs.Ythimjmkdcocofaa
open Go.RowKit
theorem okN_plain (most : Int) : okN most false = fun z => decide (0 ≤ z ∧ z ≤ most) := by
  funext z; unfold okN; simp
theorem nums_okN (zs : List Int) (most : Int) : nums zs 0 most = (decide (zs.length = 3) && zs.all (okN most false)) := by
  rw [okN_plain]; rfl
set_option maxRecDepth 200000 in
set_option maxHeartbeats 1000000 in
theorem isPerAgent_any (a : Option Addr) (len cap : Nat) (zs : List Int) (F : List Nat) (most : Int) (w : World) (h : RdI w a len zs F) (hlen : len ≤ 140737488355328) :
    Calls Try.prog 29 #[.slice a len cap, .int .i64 most] w fun e w' => e = .returned (.bool (nums zs 0 most)) ∧ w' = w := by
  have HL : Hid (zs.length = len ∧ RdI w a len zs F) := ⟨h.length, h⟩
  obtain ⟨d, hd⟩ : ∃ d, d = nums zs 0 most := ⟨_, rfl⟩
  rw [← hd]
  clear h
  by_cases hl : len = 3
  · subst hl
    have HD : Hid (d = zs.all (okN most false)) := by show d = _; rw [hd, nums_okN, HL.out.1]; rfl
    clear hd
    go_enter Try.func29, Try.ntmps29
    go_wp2_with fail
    refine (allInRange_any _ _ _ zs F _ _ HL.out.2 (by omega)).mono ?_
    rintro e w1 ⟨rfl, hw1⟩
    have hw1' := hw1.symm
    subst hw1'
    rw [← HD.out]
    clear hw1
    go_wp2
    go_ret
    exact ⟨rfl, rfl⟩
  · have HD : Hid (d = false) := by show d = _; rw [hd, nums, HL.out.1]; simp [hl]
    have hne : ((len : Int) == 3) = false := by simp; omega
    clear hd
    go_enter Try.func29, Try.ntmps29
    go_wp2
    go_ret
    exact ⟨ret_bool (by rw [HD.out]), rfl⟩
set_option maxRecDepth 200000 in
set_option maxHeartbeats 1000000 in
theorem turnOkImpl_any (v : Value) (x : Tu) (F : List Nat) (w : World) (h : RdTu w v x F) (hw : x.wide) :
    Calls Try.prog 13 #[v] w fun e w' => e = .returned (.bool x.ok) ∧ Below w.heap.size w w' := by
  obtain ⟨b, l, c, rfl, hP⟩ := h
  have HP : Hid (RdI w b l x.left F ∧ l ≤ 140737488355328) := ⟨hP, by rw [← hP.length]; exact Nat.le_trans hw (by omega)⟩
  have HB : Hid (Below w.heap.size w (w.alloc (.cells #[.int .i64 x.who, .bool x.fresh, .slice b l c] 26)) ∧ Blk (w.alloc (.cells #[.int .i64 x.who, .bool x.fresh, .slice b l c] 26)) w.heap.size #[.int .i64 x.who, .bool x.fresh, .slice b l c] 26) := ⟨Below.allocW _ (Below.refl _ _) (Nat.le_refl _), Blk.made _ _ _⟩
  obtain ⟨p, hp⟩ : ∃ p, p = decide (0 ≤ x.who ∧ x.who ≤ 2) := ⟨_, rfl⟩
  have HV : Hid (x.ok = (p && nums x.left 0 1000)) := by show _ = _; rw [hp]; rfl
  clear hP hw
  go_enter Try.func13, Try.ntmps13
  go_wp2_with fail
  refine (inRange_any _ _ _).mono ?_
  rintro e w1 ⟨rfl, hw1⟩
  have hw1' := hw1.symm
  subst hw1'
  rw [← hp]
  clear hw1 hp
  cases p
  · go_wp2
    go_ret
    exact ⟨ret_bool (by rw [HV.out]; rfl), HB.out.1⟩
  · have c2 := HB.out.2.cell 2
    simp only [aT, aS, aZ] at c2
    go_wp2_with fail
    refine (isPerAgent_any _ _ _ x.left F _ _ (HP.out.1.below HB.out.1) HP.out.2).mono ?_
    rintro e w2 ⟨rfl, hw2⟩
    have hw2' := hw2.symm
    subst hw2'
    clear hw2 c2
    obtain ⟨r, hr⟩ : ∃ r, r = nums x.left 0 1000 := ⟨_, rfl⟩
    rw [← hr]
    have HR : Hid (r = nums x.left 0 1000) := hr
    clear hr
    go_wp2
    go_ret
    exact ⟨ret_bool (by rw [HV.out, HR.out]; rfl), HB.out.1⟩
set_option maxRecDepth 200000 in
set_option maxHeartbeats 1000000 in
theorem turnNewSpec_any (w : World) : Calls Try.prog 17 #[] w fun e w' => NewTu w Tu.new e w' := by
  obtain ⟨z3, hz3⟩ : ∃ z : Array Value, z = madeCells #[.int .i64 0] 3 := ⟨_, rfl⟩
  have hmk3 : ∀ w : World, (Instr.makeSlice 24 (.int .i64 3) (.int .i64 3)).run Try.prog w = .ok (.slice (some ⟨w.heap.size, 0, none⟩) 3 3) (w.alloc (.cells z3 3)) := fun w => by
    rw [hz3]; exact run_make_row' (P := Try.prog) 24 3 (.int .i64 0) 8 Try.underlying24 infoInt rfl .i64 .i64 3 (by omega) (by omega) w
  have HB : Hid (Blk ((w.alloc (.cells #[.int .i64 0, .bool false, .slice none 0 0] 26)).alloc (.cells z3 3)) w.heap.size #[.int .i64 0, .bool false, .slice none 0 0] 26 ∧ Blk ((w.alloc (.cells #[.int .i64 0, .bool false, .slice none 0 0] 26)).alloc (.cells z3 3)) (w.heap.size + 1) z3 3 ∧ Below w.heap.size w ((w.alloc (.cells #[.int .i64 0, .bool false, .slice none 0 0] 26)).alloc (.cells z3 3)) ∧ z3 = madeCells #[.int .i64 0] 3) :=
    ⟨(Blk.made _ _ _).alloc _, Blk.made_eq (by simp), Below.allocW _ (Below.allocW _ (Below.refl _ _) (Nat.le_refl _)) (Nat.le_refl _), hz3⟩
  clear hz3
  go_enter Try.func17, Try.ntmps17
  go_wp2_with (first | go_skip | (with_reducible refine stopStore 26 rfl ?_))
  refine store_known 26 w.heap.size _ #[.int .i64 0, .bool true, .slice (some ⟨w.heap.size + 1, 0, none⟩) 3 3] 26 HB.out.1 rfl rfl rfl rfl infoTuI rfl (by simp [Value.oneCell']) ?_
  go_wp2
  refine bodyPost_ret (results_cell_row Try.results17 _ _ w.heap.size _ _ (0, 0) _ rfl HB.out.1.setRow Try.underlying26 rfl infoTuI) rfl ?_
  have e3 : z3.toList = ([0, 0, 0] : List Int).map (Value.int .i64) := by rw [HB.out.2.2.2]; kernel_rfl
  have hb := HB.out.2.1.setRowOther (k := w.heap.size) (ds := #[.int .i64 0, .bool true, .slice (some ⟨w.heap.size + 1, 0, none⟩) 3 3]) (by omega)
  exact ⟨_, [w.heap.size + 1], rfl, ⟨_, 3, 3, rfl, rdI_blk hb e3 rfl (by omega)⟩, ⟨by simp, fun b hx o => by simp at hx; subst hx; exact hb.frozen o, fun b hx => by simp at hx; omega⟩, below_setRow HB.out.2.2.1 (Nat.le_refl _) _⟩
set_option maxRecDepth 200000 in
set_option maxHeartbeats 1000000 in
theorem turnNewImpl_any (w : World) : Calls Try.prog 18 #[] w fun e w' => NewTu w Tu.new e w' := by
  obtain ⟨z3, hz3⟩ : ∃ z : Array Value, z = madeCells #[.int .i64 0] 3 := ⟨_, rfl⟩
  have hmk3 : ∀ w : World, (Instr.makeSlice 24 (.int .i64 3) (.int .i64 3)).run Try.prog w = .ok (.slice (some ⟨w.heap.size, 0, none⟩) 3 3) (w.alloc (.cells z3 3)) := fun w => by
    rw [hz3]; exact run_make_row' (P := Try.prog) 24 3 (.int .i64 0) 8 Try.underlying24 infoInt rfl .i64 .i64 3 (by omega) (by omega) w
  have HB : Hid (Blk ((w.alloc (.cells #[.int .i64 0, .bool false, .slice none 0 0] 26)).alloc (.cells z3 3)) w.heap.size #[.int .i64 0, .bool false, .slice none 0 0] 26 ∧ Blk ((w.alloc (.cells #[.int .i64 0, .bool false, .slice none 0 0] 26)).alloc (.cells z3 3)) (w.heap.size + 1) z3 3 ∧ Below w.heap.size w ((w.alloc (.cells #[.int .i64 0, .bool false, .slice none 0 0] 26)).alloc (.cells z3 3)) ∧ z3 = madeCells #[.int .i64 0] 3) :=
    ⟨(Blk.made _ _ _).alloc _, Blk.made_eq (by simp), Below.allocW _ (Below.allocW _ (Below.refl _ _) (Nat.le_refl _)) (Nat.le_refl _), hz3⟩
  clear hz3
  go_enter Try.func18, Try.ntmps18
  go_wp2_with (first | go_skip | (with_reducible refine stopStore 26 rfl ?_))
  refine store_known 26 w.heap.size _ #[.int .i64 0, .bool true, .slice (some ⟨w.heap.size + 1, 0, none⟩) 3 3] 26 HB.out.1 rfl rfl rfl rfl infoTuI rfl (by simp [Value.oneCell']) ?_
  go_wp2
  refine bodyPost_ret (results_cell_row Try.results18 _ _ w.heap.size _ _ (0, 0) _ rfl HB.out.1.setRow Try.underlying26 rfl infoTuI) rfl ?_
  have e3 : z3.toList = ([0, 0, 0] : List Int).map (Value.int .i64) := by rw [HB.out.2.2.2]; kernel_rfl
  have hb := HB.out.2.1.setRowOther (k := w.heap.size) (ds := #[.int .i64 0, .bool true, .slice (some ⟨w.heap.size + 1, 0, none⟩) 3 3]) (by omega)
  exact ⟨_, [w.heap.size + 1], rfl, ⟨_, 3, 3, rfl, rdI_blk hb e3 rfl (by omega)⟩, ⟨by simp, fun b hx o => by simp at hx; subst hx; exact hb.frozen o, fun b hx => by simp at hx; omega⟩, below_setRow HB.out.2.2.1 (Nat.le_refl _) _⟩
end Go.Proofs.Ythimjmkdcocofaa
/- An append onto an empty literal within a region that draws. No statement of the seat is proved here. -/
namespace Go.Proofs.Ythimjmkdcocofaa
open Go.RowKit
section
variable {P : Program} {ops : Array Oper} {Q : Exit → Act → World → Prop} {a : Act} {w : World} {o : Oper} {K : Act → World → Prop}
theorem op_grows (s x : Operand) (t : TypeId) (hg : o.guard = none) (hop : o.op = .call { callee := .builtin .append, args := #[s, x], argTypes := #[t, t] })
    (e : TypeId) (i : TypeInfo) (z : Value) (size bytes : Nat) (h1 : P.underlying t = some (.slice e)) (h2 : P.info? e = some i) (h3 : i.zero = some z) (h4 : i.size = size) (h5 : i.bytes = bytes) (h6 : z.cells.size = size) (h7 : 0 < size)
    (ao : Option Addr) (hs : a.eval s = .slice ao 0 0)
    (ad : Addr) (m c : Nat) (news : List Value) (hx : a.eval x = .slice (some ad) m c) (hn : news.length = m * size) (hc : ∀ j u, news[j]? = some u → w.cell? (ad.add j) = some u) (h1c : ∀ u ∈ news, u.oneCell' = true)
    (hm : 0 < m) (b1 : m ≤ maxLen) (b2 : m * bytes ≤ 140737488355328)
    (h : ∀ v' w', w'.ownsRow w.heap.size e size v' m news → Below w.heap.size w w' → ∃ a', a.put o.dst v' = a' ∧ K a' w') : if Region.wanted o (yielded ops a.tmps) = true then Oper.wp P o a w K Q else K (a.put o.dst undef) w := by
  refine step_append_grows hg s x t hop e i z size bytes h1 h2 h3 h4 h5 h6 h7 ao 0 0 [] hs (fun _ => ⟨rfl, rfl⟩) (by simp) (fun _ _ j u hj => by simp at hj) ad m c news hx hn hc h1c (by omega) (by omega) (by simpa using b2) ?_
  intro v' w' k1 k2
  obtain ⟨_, rfl, k3⟩ := h v' w' (by simpa using k1) ((Below.refl _ _).grown k2 (Nat.le_refl _) (fun g e => by cases e))
  exact k3
end
theorem cell_one7 (w : World) (x : Value) (t : TypeId) : ∀ j u, [x][j]? = some u → (w.alloc (.cells #[x] t)).cell? ((⟨w.heap.size, 0, none⟩ : Addr).add j) = some u
  | 0, u, hx => by
    obtain rfl : x = u := by simpa using hx
    simp [Addr.add]
  | j + 1, u, hx => by simp at hx
end Go.Proofs.Ythimjmkdcocofaa
/- Appending a slice of numbers, whatever its length, onto an empty literal. No statement of the seat is proved here. -/
namespace Go.Proofs.Ythimjmkdcocofaa
open Go.RowKit
theorem run_append_zero {P : Program} {w : World} (t ty e : TypeId) (i : TypeInfo) (ht : P.underlying t = some (.slice e)) (hi : P.info? e = some i) (ao ax : Option Addr) (c : Nat) :
    (Builtin.append_ #[t, t] ty #[.slice ao 0 0, .slice ax 0 c]).run P w = .ok (.slice ao 0 0) w := by
  have hl : ∀ ad : Addr, (loadCells ad 0).run P w = .ok #[] w := fun ad => by
    have := run_loadCells_list (P := P) w ad [] (fun j v hj => by simp at hj)
    simpa using this
  cases ao <;> cases ax <;> simp [Builtin.append_, run_underlying ht, sizeOf, typeInfo, hi, Builtin.lenOf, Builtin.firstCells, storeCells, hl]
section
variable {P : Program} {ops : Array Oper} {Q : Exit → Act → World → Prop} {a : Act} {w : World} {o : Oper} {K : Act → World → Prop}
theorem op_growsI (s x : Operand) (t : TypeId) (hg : o.guard = none) (hop : o.op = .call { callee := .builtin .append, args := #[s, x], argTypes := #[t, t] })
    (e : TypeId) (i : TypeInfo) (h1 : P.underlying t = some (.slice e)) (h2 : P.info? e = some i) (h3 : i.zero = some (.int .i64 0)) (h4 : i.size = 1) (h5 : i.bytes = 8)
    (ao : Option Addr) (hs : a.eval s = .slice ao 0 0) (ax : Option Addr) (m c : Nat) (zs : List Int) (F : List Nat) (hx : a.eval x = .slice ax m c) (hr : RdI w ax m zs F) (hm : m ≤ 1048576)
    (h : ∀ a' c' F' w', RdI w' a' m zs F' → Own w.heap.size w' F' → Below w.heap.size w w' → (∀ b, a'.map (·.block) = some b → ao.map (·.block) = some b ∨ w.heap.size ≤ b) → ∃ a2, a.put o.dst (.slice a' m c') = a2 ∧ K a2 w') : if Region.wanted o (yielded ops a.tmps) = true then Oper.wp P o a w K Q else K (a.put o.dst undef) w := by
  by_cases h0 : m = 0
  · subst h0
    have hz : zs = [] := List.eq_nil_of_length_eq_zero hr.length
    subst hz
    have hw : Region.wanted o (yielded ops a.tmps) = true := by unfold Region.wanted; rw [hg]
    rw [if_pos hw]
    obtain ⟨_, rfl, k⟩ := h ao 0 [] w ⟨rfl, .inl ⟨rfl, rfl⟩⟩ Own.nil (Below.refl _ _) (fun b hb => .inl hb)
    have hrun := run_append_zero (P := P) (w := w) t o.type e i h1 h2 ao ax c
    unfold Oper.wp
    simp [execOp, hop, resolve, invoke, builtin, hs, hx, hrun, Result.andThen]
    exact k
  · obtain ⟨b, off, rfl⟩ := hr.addr (by omega)
    refine op_grows s x t hg hop e i (.int .i64 0) 1 8 h1 h2 h3 h4 h5 rfl (by decide) ao hs ⟨b, off, none⟩ m c (zs.map (Value.int .i64)) hx (by rw [List.length_map, hr.length]; omega) (hr.from (Below.refl _ _) (by omega)) (ints_one _) (by omega) (by unfold maxLen; omega) (by omega) ?_
    intro v' w' hown hb
    obtain ⟨a', c', F', rfl, hr', ho'⟩ := rdI_of_own hown
    refine h a' c' F' w' hr' ho' hb (fun g hg => ?_)
    rcases hr'.cells with ⟨q, _⟩ | ⟨b', off', _, e', hF, _⟩
    · omega
    · subst e'
      right
      simp at hg
      subst hg
      exact ho'.ge _ (by rw [hF]; simp)
end
end Go.Proofs.Ythimjmkdcocofaa
/- A turn that is worked on; the model's l11Copy and l11Next. No statement of the seat is proved here. -/
namespace Go.Proofs.Ythimjmkdcocofaa
open Go.RowKit
/-- A turn that is worked on: its variable's block X, its list's block L. -/
structure PV (W : World) (lo X L off cap : Nat) (x : Tu) : Prop where
  blk : Blk W X #[.int .i64 x.who, .bool x.fresh, .slice (some ⟨L, off, none⟩) 3 cap] 26
  rd : RdI W (some ⟨L, off, none⟩) 3 x.left [L]
  own : Own lo W [L]
  ne : X ≠ L
  ge : lo ≤ X
theorem PV.ge2 {W : World} {lo X L off cap : Nat} {x : Tu} (h : PV W lo X L off cap x) : lo ≤ L := h.own.ge L (by simp)
theorem PV.lt {W : World} {lo X L off cap : Nat} {x : Tu} (h : PV W lo X L off cap x) : X < W.heap.size ∧ L < W.heap.size := ⟨h.blk.lt, h.rd.lt L (by simp)⟩
theorem PV.below {W W' : World} {lo X L off cap : Nat} {x : Tu} (h : PV W lo X L off cap x) (b : Below W.heap.size W W') : PV W' lo X L off cap x := ⟨h.blk.below b, h.rd.below b, h.own.below h.rd.lt b, h.ne, h.ge⟩
theorem PV.who {W : World} {lo X L off cap : Nat} {x : Tu} (h : PV W lo X L off cap x) (n : Int) : PV (W.setCell ⟨X, 0, none⟩ (.int .i64 n)) lo X L off cap ⟨n, x.fresh, x.left⟩ := by
  have ag : Agree W (W.setCell ⟨X, 0, none⟩ (.int .i64 n)) [L] := .set (by simp; exact h.ne) 0 _
  exact ⟨h.blk.set 0 _, h.rd.agree ag, h.own.agree ag, h.ne, h.ge⟩
theorem PV.fr {W : World} {lo X L off cap : Nat} {x : Tu} (h : PV W lo X L off cap x) (f : Bool) : PV (W.setCell ⟨X, 1, none⟩ (.bool f)) lo X L off cap ⟨x.who, f, x.left⟩ := by
  have ag : Agree W (W.setCell ⟨X, 1, none⟩ (.bool f)) [L] := .set (by simp; exact h.ne) 1 _
  exact ⟨h.blk.set 1 _, h.rd.agree ag, h.own.agree ag, h.ne, h.ge⟩
theorem PV.el {W : World} {lo X L off cap : Nat} {x : Tu} (h : PV W lo X L off cap x) (k : Nat) (hk : k < 3) (n : Int) : PV (W.setCell ⟨L, off + k, none⟩ (.int .i64 n)) lo X L off cap ⟨x.who, x.fresh, x.left.set k n⟩ :=
  ⟨h.blk.setOther h.ne _ _, h.rd.set (by omega) k hk n, h.own.set _ _ _, h.ne, h.ge⟩
theorem PV.row {W : World} {lo X L off cap : Nat} {x : Tu} (h : PV W lo X L off cap x) (n : Int) (f : Bool) : PV (W.setRow X #[.int .i64 n, .bool f, .slice (some ⟨L, off, none⟩) 3 cap]) lo X L off cap ⟨n, f, x.left⟩ := by
  have ag : Agree W (W.setRow X #[.int .i64 n, .bool f, .slice (some ⟨L, off, none⟩) 3 cap]) [L] := Agree.row (by simp; exact h.ne) _
  exact ⟨h.blk.setRow, h.rd.agree ag, h.own.agree ag, h.ne, h.ge⟩
theorem PV.cellAt {W : World} {lo X L off cap : Nat} {x : Tu} (h : PV W lo X L off cap x) (k : Nat) (hk : k < 3) : W.cell? ⟨L, off + k, none⟩ = some (.int .i64 (x.left.getD k 0)) := h.rd.at k hk
theorem PV.frozenAt {W : World} {lo X L off cap : Nat} {x : Tu} (h : PV W lo X L off cap x) (k : Nat) : W.frozen? ⟨L, off + k, none⟩ = false := h.own.free L (by simp) _
/-- A turn's value out of its variable. -/
theorem PV.value {W : World} {lo X L off cap : Nat} {x : Tu} (h : PV W lo X L off cap x) : RdTu W (.agg #[.int .i64 x.who, .bool x.fresh, .slice (some ⟨L, off, none⟩) 3 cap]) x [L] := ⟨_, _, _, rfl, h.rd⟩
/-- A copy stored into a new variable. -/
theorem PV.start {W1 : World} {v : Value} {x : Tu} {F : List Nat} {lo : Nat} (r : RdTu W1 v x F) (o : Own lo W1 F) (hx : x.left.length = 3) (hlo : lo ≤ W1.heap.size) : ∃ L off cap, v = .agg #[.int .i64 x.who, .bool x.fresh, .slice (some ⟨L, off, none⟩) 3 cap] ∧ ∀ W, Blk W W1.heap.size #[.int .i64 x.who, .bool x.fresh, .slice (some ⟨L, off, none⟩) 3 cap] 26 → Below W1.heap.size W1 W → PV W lo W1.heap.size L off cap x := by
  obtain ⟨b, l, c, rfl, hR⟩ := r
  obtain rfl : l = 3 := by rw [← hR.length]; exact hx
  obtain ⟨L, off, rfl, rfl⟩ := hR.single (by omega)
  exact ⟨L, off, c, rfl, fun W k b => ⟨k, hR.below b, o.below hR.lt b, fun e => by have := hR.lt L (by simp); omega, hlo⟩⟩
set_option maxRecDepth 200000 in
set_option maxHeartbeats 2000000 in
theorem l11Next_any (b : Option Addr) (l c : Nat) (k : Int) (f : Bool) (w : World) (hk : 0 ≤ k ∧ k ≤ 2) :
    Calls Try.prog 37 #[.agg #[.int .i64 k, .bool f, .slice b l c]] w fun e w' => e = .returned (.agg #[.int .i64 ((k + 1) % 3), .bool true, .slice b l c]) ∧ Below w.heap.size w w' := by
  have hm : (k + 1).tmod 3 = (k + 1) % 3 := Int.tmod_eq_emod_of_nonneg (by omega)
  obtain ⟨m, hmm⟩ : ∃ m, m = (k + 1) % 3 := ⟨_, rfl⟩
  rw [← hmm] at hm ⊢
  have hm3 : 0 ≤ m ∧ m ≤ 2 := by omega
  have HT : Hid (Two w #[.int .i64 k, .bool f, .slice b l c] #[.int .i64 0, .bool false, .slice none 0 0] 26 ((w.alloc (.cells #[.int .i64 k, .bool f, .slice b l c] 26)).alloc (.cells #[.int .i64 0, .bool false, .slice none 0 0] 26))) := Two.made w _ _ _
  clear hmm
  go_enter Try.func37, Try.ntmps37
  go_wp2_with (first | go_skip | (with_reducible refine stopLoad 26 rfl ?_) | (with_reducible refine stopStore 26 rfl ?_))
  have T1 := Two.made w #[.int .i64 m, .bool true, .slice b l c] #[.int .i64 0, .bool false, .slice none 0 0] 26
  obtain ⟨W0, hW0⟩ : ∃ W, W = (w.alloc (.cells #[.int .i64 m, .bool true, .slice b l c] 26)).alloc (.cells #[.int .i64 0, .bool false, .slice none 0 0] 26) := ⟨_, rfl⟩
  rw [← hW0] at T1 ⊢
  have H1 : Hid (Blk W0 w.heap.size #[.int .i64 m, .bool true, .slice b l c] 26 ∧ Blk W0 (w.heap.size + 1) #[.int .i64 0, .bool false, .slice none 0 0] 26 ∧ Below w.heap.size w W0) := ⟨T1.fst, T1.snd, T1.bel⟩
  clear hW0 HT T1
  refine load_known 26 w.heap.size #[.int .i64 m, .bool true, .slice b l c] 26 _ H1.out.1 rfl rfl rfl Try.underlying26 rfl infoTuI ?_
  go_wp2_with (first | go_skip | (with_reducible refine stopLoad 26 rfl ?_) | (with_reducible refine stopStore 26 rfl ?_))
  refine store_known 26 (w.heap.size + 1) _ #[.int .i64 m, .bool true, .slice b l c] 26 H1.out.2.1 rfl rfl rfl rfl infoTuI rfl (by simp [Value.oneCell']) ?_
  go_wp2
  refine bodyPost_ret (results_cell_row Try.results37 _ _ (w.heap.size + 1) _ _ (0, 0) _ rfl H1.out.2.1.setRow Try.underlying26 rfl infoTuI) rfl ?_
  exact ⟨rfl, below_setRow H1.out.2.2 (by omega) _⟩
set_option maxRecDepth 200000 in
set_option maxHeartbeats 4000000 in
theorem l11Copy_any (v : Value) (x : Tu) (F : List Nat) (w : World) (h : RdTu w v x F) (hx : x.fits) :
    Calls Try.prog 34 #[v] w fun e w' => NewTu w x e w' := by
  obtain ⟨i0, hi, hz0, hz1, hz2⟩ := info_parts infoInt
  obtain ⟨b, l, c, rfl, hP⟩ := h
  obtain ⟨fx, hfx⟩ : ∃ f, f = x.fresh := ⟨_, rfl⟩
  rw [← hfx]
  have HFX : Hid (fx = x.fresh) := hfx
  have HP : Hid (RdI w b l x.left F ∧ l ≤ 1048576) := ⟨hP, by rw [← hP.length]; exact hx⟩
  have HT : Hid (Two w #[.int .i64 x.who, .bool fx, .slice b l c] #[.int .i64 0, .bool false, .slice none 0 0] 26 ((w.alloc (.cells #[.int .i64 x.who, .bool fx, .slice b l c] 26)).alloc (.cells #[.int .i64 0, .bool false, .slice none 0 0] 26))) := Two.made w _ _ _
  clear hP hx hfx
  go_enter Try.func34, Try.ntmps34
  go_wp2_with fail
  obtain ⟨W0, hW0⟩ : ∃ W, W = (w.alloc (.cells #[.int .i64 x.who, .bool fx, .slice b l c] 26)).alloc (.cells #[.int .i64 0, .bool false, .slice none 0 0] 26) := ⟨_, rfl⟩
  rw [← hW0] at HT ⊢
  clear hW0
  refine wp_region_held (S := fun W => Blk W w.heap.size #[.int .i64 x.who, .bool fx, .slice b l c] 26) (by kernel_rfl) ?_
  change wpAnyH _ _ _ _ _ _ _ _ (World.drew _)
  have BD := (Below.refl W0.heap.size W0).drew
  obtain ⟨Y0, hY0⟩ : ∃ Y, Y = W0.drew := ⟨_, rfl⟩
  rw [← hY0] at BD ⊢
  have HT : Hid (Two w #[.int .i64 x.who, .bool fx, .slice b l c] #[.int .i64 0, .bool false, .slice none 0 0] 26 Y0) := HT.out.below BD
  have HS : Hid (Blk Y0 w.heap.size #[.int .i64 x.who, .bool fx, .slice b l c] 26) := HT.out.fst
  clear hY0 BD
  refine takeH (o := ?o1) 0 (.pointer (some ⟨w.heap.size, 0, none⟩)) ?h1 ?r1
  case h1 => simp only [aT, aZ]; rfl
  refine ⟨_, by simp [Act.put]; rfl, by kernel_rfl, by kernel_rfl, by kernel_rfl, fun _ _ _ h => h, (.inl ⟨rfl, fun W _ => by go_simp⟩), HS.out, ?_⟩
  refine takeH (o := ?o2) 1 (.int .i64 x.who) ?h2 ?r2
  case h2 => simp only [aT, aS, aZ]; rfl
  refine ⟨_, by simp [Act.put]; rfl, by kernel_rfl, by kernel_rfl, by kernel_rfl, fun _ _ _ h => h, (.inl ⟨rfl, fun W hW => by have c := hW.cell 0; simp only [aT, aZ] at c; go_simp⟩), HS.out, ?_⟩
  refine takeH (o := ?o3) 2 (.pointer (some ⟨w.heap.size, 1, none⟩)) ?h3 ?r3
  case h3 => simp only [aT, aS, aZ]; rfl
  refine ⟨_, by simp [Act.put]; rfl, by kernel_rfl, by kernel_rfl, by kernel_rfl, fun _ _ _ h => h, (.inl ⟨rfl, fun W _ => by go_simp⟩), HS.out, ?_⟩
  refine takeH (o := ?o4) 3 (.bool fx) ?h4 ?r4
  case h4 => simp only [aT, aS, aZ]; rfl
  refine ⟨_, by simp [Act.put]; rfl, by kernel_rfl, by kernel_rfl, by kernel_rfl, fun _ _ _ h => h, (.inl ⟨rfl, fun W hW => by have c := hW.cell 1; simp only [aT, aS, aZ] at c; go_simp⟩), HS.out, ?_⟩
  refine takeH (o := ?o5) 5 (.pointer (some ⟨w.heap.size, 2, none⟩)) ?h5 ?r5
  case h5 => simp only [aT, aS, aZ]; rfl
  refine ⟨_, by simp [Act.put]; rfl, by kernel_rfl, by kernel_rfl, by kernel_rfl, fun _ _ _ h => h, (.inl ⟨rfl, fun W _ => by go_simp⟩), HS.out, ?_⟩
  refine takeH (o := ?o6) 6 (.slice b l c) ?h6 ?r6
  case h6 => simp only [aT, aS, aZ]; rfl
  refine ⟨_, by simp [Act.put]; rfl, by kernel_rfl, by kernel_rfl, by kernel_rfl, fun _ _ _ h => h, (.inl ⟨rfl, fun W hW => by have c := hW.cell 2; simp only [aT, aS, aZ] at c; go_simp⟩), HS.out, ?_⟩
  refine onlyH (o := ?o7) 4 (by kernel_rfl) ?h7 ?r7
  case h7 => simp only [aT, aS, aZ]; rfl
  intro K hK
  refine op_turn (.slice (some ⟨Y0.heap.size, 0, none⟩) 0 0) (Y0.alloc (.cells #[] 3)) rfl (by go_simp) ⟨_, by simp [Act.put]; rfl, hK _ _ ⟨HS.out.alloc _, ?_⟩⟩
  have BA : Below Y0.heap.size Y0 (Y0.alloc (.cells #[] 3)) := (Below.refl _ _).alloc (Nat.le_refl _) _
  obtain ⟨Y1, hY1⟩ : ∃ Y, Y = Y0.alloc (.cells #[] 3) := ⟨_, rfl⟩
  rw [← hY1] at BA ⊢
  have HT1 : Hid (Two w #[.int .i64 x.who, .bool fx, .slice b l c] #[.int .i64 0, .bool false, .slice none 0 0] 26 Y1) := HT.out.below BA
  obtain ⟨g, hg⟩ : ∃ g, g = Y0.heap.size := ⟨_, rfl⟩
  have HG : Hid (w.heap.size + 2 ≤ g ∧ g ≤ Y1.heap.size) := ⟨by rw [hg]; exact HT.out.snd.lt, by rw [hg]; exact BA.size⟩
  rw [← hg]
  clear hK hY1 hg BA HS HT
  have HS : Hid (Blk Y1 w.heap.size #[.int .i64 x.who, .bool fx, .slice b l c] 26) := HT1.out.fst
  refine onlyH (o := ?o8) 7 (by kernel_rfl) ?h8 ?r8
  case h8 => simp only [aT, aS, aZ]; rfl
  intro K hK
  refine op_growsI _ _ 24 rfl rfl 3 i0 Try.underlying24 hi hz0 hz1 hz2 (some _) rfl b l c x.left F rfl (HP.out.1.below HT1.out.bel) HP.out.2 ?_
  intro p k G Y2 rG oG bG _
  refine ⟨_, by simp [Act.put]; rfl, hK _ _ ⟨HS.out.below bG, ?_⟩⟩
  have HT2 : Hid (Two w #[.int .i64 x.who, .bool fx, .slice b l c] #[.int .i64 0, .bool false, .slice none 0 0] 26 Y2) := HT1.out.below bG
  have HR : Hid (RdI Y2 p l x.left G ∧ Own (w.heap.size + 2) Y2 G) := ⟨rG, oG.mono (by have := HG.out; omega)⟩
  clear hK rG oG bG HS HT1
  have HS : Hid (Blk Y2 w.heap.size #[.int .i64 x.who, .bool fx, .slice b l c] 26) := HT2.out.fst
  refine takeH (o := ?o9) 8 (.agg #[.int .i64 x.who, .bool fx, .slice p l k]) ?h9 ?r9
  case h9 => simp only [aT, aS, aZ]; rfl
  refine ⟨_, by simp [Act.put]; rfl, by kernel_rfl, by kernel_rfl, by kernel_rfl, fun _ _ _ h => h, (.inl ⟨rfl, fun W _ => by kernel_rfl⟩), HS.out, ?_⟩
  refine onlyH (o := ?o10) 9 (by kernel_rfl) ?h10 ?r10
  case h10 => simp only [aT, aS, aZ]; rfl
  intro K hK
  refine op_store 26 (w.heap.size + 1) #[.int .i64 0, .bool false, .slice none 0 0] #[.int .i64 x.who, .bool fx, .slice p l k] 26 rfl rfl rfl rfl HT2.out.snd infoTuI rfl (by simp [Value.oneCell']) ⟨_, by simp [Act.put]; rfl, hK _ _ ⟨HS.out.setRowOther (by omega), ?_⟩⟩
  clear hK
  refine wpAnyH_done (by kernel_rfl) ?_ _
  go_wp2
  refine bodyPost_ret (results_cell_row Try.results34 _ _ (w.heap.size + 1) _ _ (0, 0) _ rfl HT2.out.snd.setRow Try.underlying26 rfl infoTuI) rfl ?_
  have ag := Agree.row (w := Y2) (g := w.heap.size + 1) (F := G) (fun hx => by have := HR.out.2.ge _ hx; omega) #[.int .i64 x.who, .bool fx, .slice p l k]
  exact ⟨_, G, rfl, ⟨p, l, k, by rw [HFX.out], HR.out.1.agree ag⟩, (HR.out.2.agree ag).mono (by omega), below_setRow HT2.out.bel (by omega) _⟩
end Go.Proofs.Ythimjmkdcocofaa
/- The walk through the program's copying of a summary. No statement of the seat is proved here. -/
namespace Go.Proofs.Ythimjmkdcocofaa
open Go.RowKit
section
variable {w W W' : World} {A B : Array Value} {s : Sk} {a1 a2 : Option Addr} {n1 n2 : Nat} {F1 F2 : List Nat} {lo k : Nat} {v : Value} {vs : List Value} {G : List Nat}
end
theorem Sk.shaped_fits {s : Sk} (hs : s.shaped = true) : s.fits := by
  obtain ⟨s1, s2, x, y, s3, s4, s5⟩ := Sk.shaped_parts hs
  refine ⟨by omega, by omega, by rw [s3]; simp, fun z hz => ?_⟩
  rw [s3] at hz
  simp at hz
  rcases hz with rfl | rfl <;> omega
set_option maxRecDepth 200000 in
set_option maxHeartbeats 400000 in
theorem copiedList_all (a : Option Addr) (len cap : Nat) (zs : List Int) (F : List Nat) (w : World) (h : RdI w a len zs F) (hlen : len ≤ 1048576) :
    Calls Try.prog 45 #[.slice a len cap] w fun e w' => NewI w zs e w' := by
  obtain ⟨i0, hi, hz0, hz1, hz2⟩ := info_parts infoInt
  have HR : Hid (RdI w a len zs F) := h
  clear h
  go_enter Try.func45, Try.ntmps45
  go_wp2_with (with_reducible refine stopAppend rfl ?_)
  refine Stop.intro (wpList_step fun K hK => op_growsI _ _ 24 rfl rfl 3 i0 Try.underlying24 hi hz0 hz1 hz2 none rfl a len cap zs F rfl HR.out hlen ?_)
  intro a' c' F' w' r o b _
  have HN : Hid (RdI w' a' len zs F' ∧ Own w.heap.size w' F' ∧ Below w.heap.size w w') := ⟨r, o, b⟩
  refine ⟨_, by simp [Act.put]; rfl, hK _ _ ?_⟩
  clear hK r o b
  go_wp2
  go_ret
  exact ⟨a', len, c', F', rfl, HN.out.1, HN.out.2.1, HN.out.2.2⟩
end Go.Proofs.Ythimjmkdcocofaa
/- The walks through Mean, of the program and of the model. No statement of the seat is proved here. -/
namespace Go.Proofs.Ythimjmkdcocofaa
open Go.RowKit
theorem okHead_of {s : Sk} (h : s.ok = true) : (0 ≤ s.count ∧ s.count ≤ 1000000000) ∧ (0 ≤ s.sum ∧ s.sum ≤ 1000000000) ∧ (0 ≤ s.min ∧ s.min ≤ 1000000) ∧ (0 ≤ s.max ∧ s.max ≤ 1000000) := by
  unfold Sk.ok okHead at h
  simp only [Bool.and_eq_true, decide_eq_true_eq] at h
  exact ⟨h.1.1.1.1.1.1.1, h.1.1.1.1.1.1.2, h.1.1.1.1.1.2, h.1.1.1.1.2⟩
def meanN (s : Sk) : Int := if s.ok = true ∧ s.count ≠ 0 then s.sum / s.count else 0
theorem meanN_not {s : Sk} (h : s.ok = false) : meanN s = 0 := by unfold meanN; rw [if_neg (by rw [h]; simp)]
theorem meanN_zero {s : Sk} (h : s.count = 0) : meanN s = 0 := by unfold meanN; rw [if_neg (by simp [h])]
theorem meanN_pos {s : Sk} (h : s.ok = true) (h0 : ¬ s.count = 0) : meanN s = s.sum / s.count := by unfold meanN; rw [if_pos ⟨h, h0⟩]
end Go.Proofs.Ythimjmkdcocofaa
/- The walks through Different, of the program and of the model. No statement of the seat is proved here. -/
namespace Go.Proofs.Ythimjmkdcocofaa
open Go.RowKit
theorem run_index_int {P : Program} (w : World) (t e : TypeId) (zs : List Int) (m k : Nat) (hm : zs.length = m) (hk : k < m) (ht : P.underlying t = some (.array m e)) (he : P.underlying e = some (.int .i64)) (hs : ∀ w, (sizeOf e).run P w = .ok 1 w) :
    (Instr.index t (.agg (tc zs)) (.int .i64 k)).run P w = .ok (.int .i64 (zs[k]?.getD 0)) w := by
  have hagg : ∀ w, (isAgg e).run P w = .ok false w := fun w => by unfold isAgg; rw [Sem.run_bind, run_underlying he w]; simp
  have h3 : (0 : Int) ≤ k ∧ (k : Int) < m := by omega
  unfold Instr.index part
  simp [asIntOf, run_underlying ht, Sem.run_bind, h3, hs, hagg, tc]
  rw [List.getElem?_eq_getElem (by omega)]
  simp
  intro h; omega
def cntPos (l : List Int) : Int := ((l.filter (fun x => decide (0 < x))).length : Nat)
theorem cntPos_range (l : List Int) : 0 ≤ cntPos l ∧ cntPos l ≤ l.length := by
  unfold cntPos
  have := List.length_filter_le (fun x : Int => decide (0 < x)) l
  omega
theorem cntPos_yes {l : List Int} {k : Nat} (hk : k < l.length) (h : 0 < l[k]?.getD 0) : cntPos (l.take (k + 1)) = cntPos (l.take k) + 1 := by
  rw [take_succ' l k hk]
  unfold cntPos
  simp [h]
theorem cntPos_no {l : List Int} {k : Nat} (hk : k < l.length) (h : ¬ 0 < l[k]?.getD 0) : cntPos (l.take (k + 1)) = cntPos (l.take k) := by
  rw [take_succ' l k hk]
  unfold cntPos
  simp [h]
def diffN (s : Sk) : Int := if s.ok = true then cntPos s.regs else 0
theorem diffN_not {s : Sk} (h : s.ok = false) : diffN s = 0 := by unfold diffN; rw [h]; rfl
theorem diffN_ok {s : Sk} (h : s.ok = true) : diffN s = cntPos s.regs := by unfold diffN; rw [if_pos h]
theorem tl_regs {s : Sk} (h : s.ok = true) : (s.tl.drop 12).take 8 = s.regs ∧ s.regs.length = 8 := by
  obtain ⟨e1, e2, x, y, e3, e4, e5⟩ := Sk.shaped_parts (Sk.ok_shaped h)
  obtain ⟨h0, h1, h2, h3, h4, h5, h6, h7, eh⟩ := len8 e1
  obtain ⟨r0, r1, r2, r3, r4, r5, r6, r7, er⟩ := len8 e2
  unfold Sk.tl
  rw [eh, er]
  exact ⟨rfl, rfl⟩
theorem tl_hist {s : Sk} (h : s.ok = true) : (s.tl.drop 4).take 8 = s.hist ∧ s.hist.length = 8 := by
  obtain ⟨e1, e2, x, y, e3, e4, e5⟩ := Sk.shaped_parts (Sk.ok_shaped h)
  obtain ⟨h0, h1, h2, h3, h4, h5, h6, h7, eh⟩ := len8 e1
  unfold Sk.tl
  rw [eh]
  exact ⟨rfl, rfl⟩
set_option maxRecDepth 200000 in
set_option maxHeartbeats 1000000 in
theorem aboveZero_any (a : Option Addr) (len cap : Nat) (zs : List Int) (F : List Nat) (w : World) (h : RdI w a len zs F) (hlen : len ≤ 140737488355328) :
    Calls Try.prog 32 #[.slice a len cap] w fun e w' => e = .returned (.int .i64 (cntPos zs)) ∧ w' = w := by
  obtain ⟨n, hn⟩ : ∃ n, n = cntPos zs := ⟨_, rfl⟩
  rw [← hn]
  have HL : Hid (zs.length = len) := h.length
  have HN : Hid (n = cntPos zs) := hn
  clear hn
  rcases h.cells with ⟨h0, _⟩ | ⟨b, off, hp, rfl, _, hc⟩
  · subst h0
    have hz : zs = [] := List.eq_nil_of_length_eq_zero h.length
    subst hz
    clear h
    go_enter Try.func32, Try.ntmps32
    go_wp2
    refine wp_loop_rounds 1 ?_
    rw [rounds_succ]
    go_wp2
    go_ret
    exact ⟨ret_int (by rw [HN.out]; rfl), rfl⟩
  · have HC : Hid (∀ i, i < len → w.cell? ⟨b, off + i, none⟩ = some (.int .i64 (zs.getD i 0))) := hc
    clear h hc
    go_enter Try.func32, Try.ntmps32
    go_wp2
    go_loop [3, 8] (fun c i => ∃ (k : Nat) (m : Int), k ≤ len ∧ i = .int .i64 k ∧ c = .int .i64 m ∧ 0 ≤ m ∧ m ≤ 140737488355328 ∧ Hid (m = cntPos (zs.take k))) (fun _ i => len - (intOf i).toNat)
    case atStart => exact ⟨0, 0, by omega, rfl, rfl, by omega, by omega, show _ = _ by simp [cntPos]⟩
    case round =>
      obtain ⟨k, m, hk, rfl, rfl, m0, m8, HM⟩ := hrel
      by_cases hlt : k < len
      · have hck := HC.out k hlt
        obtain ⟨x, hx⟩ : ∃ x, x = zs[k]?.getD 0 := ⟨_, rfl⟩
        have hck2 : w.cell? ⟨b, off + k, none⟩ = some (.int .i64 x) := by rw [hx, hck]; simp
        have HX : Hid (x = zs[k]?.getD 0) := hx
        clear hck hx
        by_cases hpx : 0 < x
        · have hm7 : m + 1 ≤ 140737488355328 := by
            have e := cntPos_yes (l := zs) (by rw [HL.out]; exact hlt) (by rw [← HX.out]; exact hpx)
            have e2 := cntPos_range (zs.take (k + 1))
            rw [e, ← HM.out] at e2
            have : (zs.take (k + 1)).length ≤ len := by rw [List.length_take]; omega
            omega
          have HM2 : Hid (m + 1 = cntPos (zs.take (k + 1))) := by
            show _ = _
            rw [cntPos_yes (by rw [HL.out]; exact hlt) (by rw [← HX.out]; exact hpx), ← HM.out]
          go_wp2
          go_round
          case rel => exact ⟨k + 1, m + 1, by omega, by go_num, by go_num, by omega, by omega, HM2⟩
          case measure => simp [intOf]; omega
        · have HM2 : Hid (m = cntPos (zs.take (k + 1))) := by
            show _ = _
            rw [cntPos_no (by rw [HL.out]; exact hlt) (by rw [← HX.out]; exact hpx), ← HM.out]
          go_wp2
          go_round
          case rel => exact ⟨k + 1, m, by omega, by go_num, rfl, by omega, by omega, HM2⟩
          case measure => simp [intOf]; omega
      · obtain rfl : k = len := by omega
        have HV : Hid (m = n) := by
          show _ = _
          rw [HN.out, HM.out, List.take_of_length_le (by rw [HL.out]; omega)]
        go_wp2
        go_ret
        exact ⟨ret_int HV.out, rfl⟩
end Go.Proofs.Ythimjmkdcocofaa
/- The walks through the program's copiedTurn, areWeights, isQuantum and takes. No statement of the seat is proved here. -/
namespace Go.Proofs.Ythimjmkdcocofaa
open Go.RowKit
theorem set_same (zs : List Int) (k : Nat) (l : Int) (h : l = zs.getD k 0) : zs.set k l = zs := by
  subst h
  apply List.ext_getElem?
  intro i
  rw [List.getElem?_set]
  by_cases e : k = i
  · subst e
    by_cases hl : k < zs.length
    · simp [hl]
    · simp [hl]
  · simp [e]
set_option maxRecDepth 200000 in
set_option maxHeartbeats 2000000 in
theorem copiedTurn_any (v : Value) (x : Tu) (F : List Nat) (w : World) (h : RdTu w v x F) (hl : x.fits) :
    Calls Try.prog 28 #[v] w fun e w' => NewTu w x e w' := by
  obtain ⟨b, l, c, rfl, hP⟩ := h
  obtain ⟨fx, hfx⟩ : ∃ f, f = x.fresh := ⟨_, rfl⟩
  rw [← hfx]
  have HFX : Hid (fx = x.fresh) := hfx
  have HP : Hid (RdI w b l x.left F ∧ l ≤ 1048576) := ⟨hP, by rw [← hP.length]; exact hl⟩
  have HT : Hid (Two w #[.int .i64 x.who, .bool fx, .slice b l c] #[.int .i64 0, .bool false, .slice none 0 0] 26 ((w.alloc (.cells #[.int .i64 x.who, .bool fx, .slice b l c] 26)).alloc (.cells #[.int .i64 0, .bool false, .slice none 0 0] 26))) := Two.made w _ _ _
  clear hP hl hfx
  have c2' := HT.out.fst.cell 2
  simp only [aT, aS, aZ] at c2'
  go_enter Try.func28, Try.ntmps28
  go_wp2_with fail
  refine (copiedList_all b l c x.left F _ (HP.out.1.below HT.out.bel) HP.out.2).mono ?_
  rintro e w2 ⟨p, n, k, G, rfl, rp, op, bp⟩
  have hlt := HT.out.snd.lt
  have H2 : Hid (Two w #[.int .i64 x.who, .bool fx, .slice b l c] #[.int .i64 0, .bool false, .slice none 0 0] 26 w2 ∧ RdI w2 p n x.left G ∧ Own (w.heap.size + 2) w2 G) := ⟨HT.out.below bp, rp, op.mono (by simp)⟩
  clear rp op bp HT c2' hlt
  have c2' := H2.out.1.fst.cell 2
  have f2' := H2.out.1.fst.frozen 2
  simp only [aT, aS, aZ] at c2'
  go_wp2_with (first | go_skip | (with_reducible refine stopLoad 26 rfl ?_) | (with_reducible refine stopStore 26 rfl ?_))
  have n0 : w.heap.size ∉ G := fun hx => by have := H2.out.2.2.ge _ hx; omega
  have n1 : w.heap.size + 1 ∉ G := fun hx => by have := H2.out.2.2.ge _ hx; omega
  have ag : Agree w2 (w2.setCell ⟨w.heap.size, 2, none⟩ (.slice p n k)) G := .set n0 2 _
  have H3 : Hid (Blk (w2.setCell ⟨w.heap.size, 2, none⟩ (.slice p n k)) w.heap.size #[.int .i64 x.who, .bool fx, .slice p n k] 26 ∧ Blk (w2.setCell ⟨w.heap.size, 2, none⟩ (.slice p n k)) (w.heap.size + 1) #[.int .i64 0, .bool false, .slice none 0 0] 26 ∧ RdI (w2.setCell ⟨w.heap.size, 2, none⟩ (.slice p n k)) p n x.left G ∧ Own (w.heap.size + 2) (w2.setCell ⟨w.heap.size, 2, none⟩ (.slice p n k)) G ∧ Below w.heap.size w (w2.setCell ⟨w.heap.size, 2, none⟩ (.slice p n k)) ∧ w.heap.size + 1 ∉ G) :=
    ⟨H2.out.1.fst.set 2 _, H2.out.1.snd.setOther (by omega) 2 _, H2.out.2.1.agree ag, H2.out.2.2.agree ag, H2.out.1.bel.setCell (by show w.heap.size ≤ w.heap.size; omega) _, n1⟩
  obtain ⟨w3, hw3⟩ : ∃ W, W = w2.setCell ⟨w.heap.size, 2, none⟩ (.slice p n k) := ⟨_, rfl⟩
  rw [← hw3] at H3 ⊢
  clear hw3 c2' f2' H2 n0 n1 ag
  refine load_known 26 w.heap.size #[.int .i64 x.who, .bool fx, .slice p n k] 26 _ H3.out.1 rfl rfl rfl Try.underlying26 rfl infoTuI ?_
  go_wp2_with (first | go_skip | (with_reducible refine stopLoad 26 rfl ?_) | (with_reducible refine stopStore 26 rfl ?_))
  refine store_known 26 (w.heap.size + 1) _ #[.int .i64 x.who, .bool fx, .slice p n k] 26 H3.out.2.1 rfl rfl rfl rfl infoTuI rfl (by simp [Value.oneCell']) ?_
  go_wp2
  refine bodyPost_ret (results_cell_row Try.results28 _ _ (w.heap.size + 1) _ _ (0, 0) _ rfl H3.out.2.1.setRow Try.underlying26 rfl infoTuI) rfl ?_
  have ag := Agree.row (w := w3) H3.out.2.2.2.2.2 #[.int .i64 x.who, .bool fx, .slice p n k]
  exact ⟨_, G, rfl, ⟨p, n, k, by rw [HFX.out], H3.out.2.2.1.agree ag⟩, (H3.out.2.2.2.1.agree ag).mono (by omega), below_setRow H3.out.2.2.2.2.1 (by omega) _⟩
set_option maxRecDepth 200000 in
theorem isQuantum_any (n : Int) (w : World) : Calls Try.prog 31 #[.int .i64 n] w fun e w' => e = .returned (.bool (decide (1 ≤ n ∧ n ≤ 60))) ∧ w' = w := by
  have hd : ∀ d : Bool, d = decide (1 ≤ n ∧ n ≤ 60) → (d = true ↔ 1 ≤ n ∧ n ≤ 60) := by rintro d rfl; simp
  generalize decide (1 ≤ n ∧ n ≤ 60) = d at *
  have hd := hd d rfl
  by_cases h : 1 ≤ n
  · by_cases h2 : n ≤ 60
    · have e : Hid (d = true) := hd.2 ⟨h, h2⟩
      clear hd
      go_enter Try.func31, Try.ntmps31
      go_wp2
      go_ret
      rw [e.out]; exact ⟨rfl, rfl⟩
    · have e : Hid (d = false) := show d = false by cases d; rfl; exact absurd (hd.1 rfl).2 h2
      clear hd
      go_enter Try.func31, Try.ntmps31
      go_wp2
      go_ret
      rw [e.out]; exact ⟨rfl, rfl⟩
  · have e : Hid (d = false) := show d = false by cases d; rfl; exact absurd (hd.1 rfl).1 h
    clear hd
    go_enter Try.func31, Try.ntmps31
    go_wp2
    go_ret
    rw [e.out]; exact ⟨rfl, rfl⟩
theorem cntPos_three {a b c : Int} (ha : 0 ≤ a ∧ a ≤ 4) (hb : 0 ≤ b ∧ b ≤ 4) (hc : 0 ≤ c ∧ c ≤ 4) : decide (cntPos [a, b, c] = 3) = nums [a, b, c] 1 4 := by
  have e : nums [a, b, c] 1 4 = decide (0 < a ∧ 0 < b ∧ 0 < c) := by
    cases k : nums [a, b, c] 1 4
    · symm; rw [decide_eq_false_iff_not]; intro q
      have : nums [a, b, c] 1 4 = true := nums_iff.2 ⟨rfl, fun z hz => by simp at hz; rcases hz with rfl | rfl | rfl <;> omega⟩
      rw [this] at k; cases k
    · symm; rw [decide_eq_true_eq]
      have q := (nums_iff.1 k).2
      have q1 := q a (by simp); have q2 := q b (by simp); have q3 := q c (by simp)
      omega
  rw [e]
  unfold cntPos
  by_cases h1 : 0 < a <;> by_cases h2 : 0 < b <;> by_cases h3 : 0 < c <;> simp [h1, h2, h3]
theorem nums_weaker {zs : List Int} (h : nums zs 0 4 = false) : nums zs 1 4 = false := by
  cases k : nums zs 1 4
  · rfl
  · obtain ⟨h1, h2⟩ := nums_iff.1 k
    rw [nums_iff.2 ⟨h1, fun z hz => ⟨by have := h2 z hz; omega, (h2 z hz).2⟩⟩] at h
    cases h
set_option maxRecDepth 200000 in
set_option maxHeartbeats 1000000 in
theorem areWeights_any (a : Option Addr) (len cap : Nat) (zs : List Int) (F : List Nat) (w : World) (h : RdI w a len zs F) (hlen : len ≤ 140737488355328) :
    Calls Try.prog 30 #[.slice a len cap] w fun e w' => e = .returned (.bool (nums zs 1 4)) ∧ w' = w := by
  have HL : Hid (RdI w a len zs F) := h
  clear h
  go_enter Try.func30, Try.ntmps30
  go_wp2_with fail
  refine (isPerAgent_any _ _ _ zs F _ _ HL.out hlen).mono ?_
  rintro e w1 ⟨rfl, hw1⟩
  have hw1' := hw1.symm
  subst hw1'
  clear hw1
  obtain ⟨d, hd⟩ : ∃ d, d = nums zs 0 4 := ⟨_, rfl⟩
  rw [← hd]
  cases d
  · have HN : Hid (nums zs 1 4 = false) := nums_weaker hd.symm
    clear hd
    go_wp2
    go_ret
    exact ⟨ret_bool HN.out.symm, rfl⟩
  · obtain ⟨x, y, z, rfl, hx, hy, hz⟩ := nums_three hd.symm
    have HN : Hid (decide (cntPos [x, y, z] = 3) = nums [x, y, z] 1 4) := cntPos_three hx hy hz
    clear hd
    go_wp2_with fail
    refine (aboveZero_any _ _ _ [x, y, z] F _ HL.out hlen).mono ?_
    rintro e w2 ⟨rfl, hw2⟩
    have hw2' := hw2.symm
    subst hw2'
    clear hw2
    obtain ⟨n, hn⟩ : ∃ n, n = cntPos [x, y, z] := ⟨_, rfl⟩
    rw [← hn]
    have HM : Hid (decide (n = 3) = nums [x, y, z] 1 4) := by rw [hn]; exact HN.out
    clear hn HN
    by_cases h3 : (n : Int) = 3
    · have h3' : ((n : Int) == 3) = true := by simpa using h3
      have HV : Hid (nums [x, y, z] 1 4 = true) := by have := HM.out; rw [← this]; show decide _ = true; simp; omega
      clear h3
      go_wp2
      go_ret
      exact ⟨ret_bool HV.out.symm, rfl⟩
    · have h3' : ((n : Int) == 3) = false := by simpa using h3
      have HV : Hid (nums [x, y, z] 1 4 = false) := by have := HM.out; rw [← this]; show decide _ = false; simp; omega
      clear h3
      go_wp2
      go_ret
      exact ⟨ret_bool HV.out.symm, rfl⟩
set_option maxRecDepth 200000 in
set_option maxHeartbeats 4000000 in
theorem takes_any (lo X L off cap k : Nat) (fx : Bool) (zs : List Int) (s sh : Int) (W : World) (h : PV W lo X L off cap ⟨k, fx, zs⟩) (hk : k < 3) (hl : 0 ≤ zs.getD k 0 ∧ zs.getD k 0 ≤ 1000) (hs : 0 ≤ s ∧ s ≤ 200) (hsh : 1 ≤ sh ∧ sh ≤ 240) :
    Calls Try.prog 33 #[.pointer (some ⟨X, 0, none⟩), .int .i64 s, .int .i64 sh] W fun e w' => e = .returned (.bool (Tu.step ⟨k, fx, zs⟩ s sh).2) ∧ PV w' lo X L off cap (Tu.step ⟨k, fx, zs⟩ s sh).1 ∧ Below lo W w' := by
  have HPV : Hid (PV W lo X L off cap ⟨k, fx, zs⟩) := h
  obtain ⟨l, hl'⟩ : ∃ l, l = zs.getD k 0 := ⟨_, rfl⟩
  rw [← hl'] at hl
  have HL : Hid (l = zs.getD k 0) := hl'
  have hI : (k : Int) < 3 := by omega
  clear h hl'
  go_enter Try.func33, Try.ntmps33
  go_wp2_with fail
  refine wp_region_held (S := fun W => Blk W X #[.int .i64 (k : Int), .bool fx, .slice (some ⟨L, off, none⟩) 3 cap] 26) (by kernel_rfl) ?_
  change wpAnyH _ _ _ _ _ _ _ _ (World.drew _)
  have BD := (Below.refl W.heap.size W).drew
  obtain ⟨Y0, hY0⟩ : ∃ Y, Y = W.drew := ⟨_, rfl⟩
  have HW : Hid (Below lo W Y0) := by rw [hY0]; exact (Below.refl _ _).drew
  rw [← hY0] at BD ⊢
  have HPV : Hid (PV Y0 lo X L off cap ⟨k, fx, zs⟩) := HPV.out.below BD
  have HS : Hid (Blk Y0 X #[.int .i64 (k : Int), .bool fx, .slice (some ⟨L, off, none⟩) 3 cap] 26) := HPV.out.blk
  clear hY0 BD
  refine takeH (o := ?o11) 0 (.pointer (some ⟨X, 0, none⟩)) ?h11 ?r11
  case h11 => simp only [aT, aZ]; rfl
  refine ⟨_, by simp [Act.put]; rfl, by kernel_rfl, by kernel_rfl, by kernel_rfl, fun _ _ _ h => h, (.inl ⟨rfl, fun W _ => by kernel_rfl⟩), HS.out, ?_⟩
  refine takeH (o := ?o12) 1 (.pointer (some ⟨X, 0, none⟩)) ?h12 ?r12
  case h12 => simp only [aT, aS, aZ]; rfl
  refine ⟨_, by simp [Act.put]; rfl, by kernel_rfl, by kernel_rfl, by kernel_rfl, fun _ _ _ h => h, (.inl ⟨rfl, fun W _ => by go_simp⟩), HS.out, ?_⟩
  refine takeH (o := ?o13) 2 (.pointer (some ⟨X, 2, none⟩)) ?h13 ?r13
  case h13 => simp only [aT, aS, aZ]; rfl
  refine ⟨_, by simp [Act.put]; rfl, by kernel_rfl, by kernel_rfl, by kernel_rfl, fun _ _ _ h => h, (.inl ⟨rfl, fun W _ => by go_simp⟩), HS.out, ?_⟩
  refine takeH (o := ?o14) 3 (.slice (some ⟨L, off, none⟩) 3 cap) ?h14 ?r14
  case h14 => simp only [aT, aS, aZ]; rfl
  refine ⟨_, by simp [Act.put]; rfl, by kernel_rfl, by kernel_rfl, by kernel_rfl, fun _ _ _ h => h, (.inl ⟨rfl, fun W hW => by have c := hW.cell 2; simp only [aT, aS, aZ] at c; go_simp⟩), HS.out, ?_⟩
  refine takeH (o := ?o15) 4 (.pointer (some ⟨X, 0, none⟩)) ?h15 ?r15
  case h15 => simp only [aT, aS, aZ]; rfl
  refine ⟨_, by simp [Act.put]; rfl, by kernel_rfl, by kernel_rfl, by kernel_rfl, fun _ _ _ h => h, (.inl ⟨rfl, fun W _ => by kernel_rfl⟩), HS.out, ?_⟩
  refine takeH (o := ?o16) 5 (.pointer (some ⟨X, 0, none⟩)) ?h16 ?r16
  case h16 => simp only [aT, aS, aZ]; rfl
  refine ⟨_, by simp [Act.put]; rfl, by kernel_rfl, by kernel_rfl, by kernel_rfl, fun _ _ _ h => h, (.inl ⟨rfl, fun W _ => by go_simp⟩), HS.out, ?_⟩
  refine takeH (o := ?o17) 6 (.pointer (some ⟨X, 0, none⟩)) ?h17 ?r17
  case h17 => simp only [aT, aS, aZ]; rfl
  refine ⟨_, by simp [Act.put]; rfl, by kernel_rfl, by kernel_rfl, by kernel_rfl, fun _ _ _ h => h, (.inl ⟨rfl, fun W _ => by go_simp⟩), HS.out, ?_⟩
  refine takeH (o := ?o18) 7 (.int .i64 (k : Int)) ?h18 ?r18
  case h18 => simp only [aT, aS, aZ]; rfl
  refine ⟨_, by simp [Act.put]; rfl, by kernel_rfl, by kernel_rfl, by kernel_rfl, fun _ _ _ h => h, (.inl ⟨rfl, fun W hW => by have c := hW.cell 0; simp only [aT, aZ] at c; go_simp⟩), HS.out, ?_⟩
  refine takeH (o := ?o19) 8 (.pointer (some ⟨L, off + k, none⟩)) ?h19 ?r19
  case h19 => simp only [aT, aS, aZ]; rfl
  refine ⟨_, by simp [Act.put]; rfl, by kernel_rfl, by kernel_rfl, by kernel_rfl, fun _ _ _ h => h, (.inl ⟨rfl, fun W _ => by go_simp; first | done | (intro h; omega) | (rw [if_pos (by omega)]; rfl)⟩), HS.out, ?_⟩
  refine takeH (o := ?o20) 9 (.pointer (some ⟨L, off + k, none⟩)) ?h20 ?r20
  case h20 => simp only [aT, aS, aZ]; rfl
  refine ⟨_, by simp [Act.put]; rfl, by kernel_rfl, by kernel_rfl, by kernel_rfl, fun _ _ _ h => h, (.inl ⟨rfl, fun W _ => by kernel_rfl⟩), HS.out, ?_⟩
  refine wpAnyH_done (by kernel_rfl) ?_ _
  have ca : Y0.cell? ⟨L, off + k, none⟩ = some (.int .i64 l) := by rw [HL.out]; exact HPV.out.cellAt k hk
  have cf := HPV.out.frozenAt k
  by_cases h0 : s = 0
  · have h0' : (s == 0) = true := by simpa using h0
    have HE : Hid (Tu.step ⟨k, fx, zs⟩ s sh = (⟨k, fx, zs.set k 0⟩, false)) := by show _ = _; unfold Tu.step; rw [if_pos h0]; simp
    clear h0
    go_wp2
    go_ret
    exact ⟨ret_bool (by rw [HE.out]), by rw [HE.out]; exact HPV.out.el k hk 0, HW.out.setCell HPV.out.ge2 _⟩
  have h0' : (s == 0) = false := by simpa using h0
  have c1 := HPV.out.blk.cell 1
  have f1 := HPV.out.blk.frozen 1
  simp only [aT, aS, aZ] at c1
  have H0 : Hid (¬ s = 0) := h0
  clear h0
  cases fx
  · by_cases hle : l < s
    · have HE : Hid (Tu.step ⟨k, false, zs⟩ s sh = (⟨k, false, zs⟩, false)) := by
        show _ = _; unfold Tu.step; rw [if_neg H0.out]
        simp only [Int.toNat_natCast, Bool.false_eq_true, if_false]
        rw [← HL.out, if_neg (by omega), set_same zs k l HL.out]
      go_wp2
      go_ret
      exact ⟨ret_bool (by rw [HE.out]), by rw [HE.out]; exact HPV.out, HW.out⟩
    · have HE : Hid (Tu.step ⟨k, false, zs⟩ s sh = (⟨k, false, zs.set k (l - s)⟩, true)) := by
        show _ = _; unfold Tu.step; rw [if_neg H0.out]
        simp only [Int.toNat_natCast, Bool.false_eq_true, if_false]
        rw [← HL.out, if_pos (by omega)]
      go_wp2
      go_ret
      exact ⟨ret_bool (by rw [HE.out]), by rw [HE.out]; exact HPV.out.el k hk _, HW.out.setCell HPV.out.ge2 _⟩
  · obtain ⟨m, hm⟩ : ∃ m, m = min (l + sh) 1000 := ⟨_, rfl⟩
    have HM : Hid (m = min (l + sh) 1000) := hm
    have hmr0 := hm
    clear hm
    have hmr : 0 ≤ m ∧ m ≤ 1000 := by omega
    clear hmr0
    have key : ∀ W2, W2 = (Y0.setCell ⟨L, off + k, none⟩ (.int .i64 m)).setCell ⟨X, 1, none⟩ (.bool false) → PV W2 lo X L off cap ⟨k, false, zs.set k m⟩ ∧ Below lo W W2 := by
      rintro _ rfl
      exact ⟨(HPV.out.el k hk m).fr false, (HW.out.setCell HPV.out.ge2 _).setCell HPV.out.ge _⟩
    have KEY : Hid (∀ W2, W2 = (Y0.setCell ⟨L, off + k, none⟩ (.int .i64 m)).setCell ⟨X, 1, none⟩ (.bool false) → PV W2 lo X L off cap ⟨k, false, zs.set k m⟩ ∧ Below lo W W2) := key
    have HE : Hid (Tu.step ⟨k, true, zs⟩ s sh = if s ≤ m then (⟨k, false, zs.set k (m - s)⟩, true) else (⟨k, false, zs.set k m⟩, false)) := by
      show _ = _; unfold Tu.step; rw [if_neg H0.out]
      simp only [Int.toNat_natCast, if_true]
      rw [← HL.out, ← HM.out]
    have hg : (zs.set k m).getD k 0 = m := by
      have hlen : k < zs.length := by have := HPV.out.rd.length; simp only at this; omega
      simp [hlen]
    have HG : Hid ((zs.set k m).getD k 0 = m) := hg
    clear key hg
    by_cases hc : l + sh ≤ 1000
    · have em : m = l + sh := by have := HM.out; omega
      subst em
      have e1 := HPV.out.el k hk (l + sh)
      have c1b := e1.blk.cell 1
      have f1b := e1.blk.frozen 1
      simp only [aT, aS, aZ] at c1b
      clear e1
      go_upto_region 8 with fail
      obtain ⟨W2, hW2⟩ : ∃ W2, W2 = (Y0.setCell ⟨L, off + k, none⟩ (.int .i64 (l + sh))).setCell ⟨X, 1, none⟩ (.bool false) := ⟨_, rfl⟩
      have K2 := KEY.out W2 hW2
      have H2 : Hid (PV W2 lo X L off cap ⟨k, false, zs.set k (l + sh)⟩ ∧ Below lo W W2) := K2
      rw [← hW2]
      have ca2 : W2.cell? ⟨L, off + k, none⟩ = some (.int .i64 (l + sh)) := by rw [H2.out.1.cellAt k hk]; show some (Value.int .i64 ((zs.set k (l + sh)).getD k 0)) = _; rw [HG.out]
      have cf2 := H2.out.1.frozenAt k
      clear ca cf c1 f1 c1b f1b hW2 K2
      by_cases hle : (l + sh) < s
      · have HV : Hid (Tu.step ⟨k, true, zs⟩ s sh = (⟨k, false, zs.set k (l + sh)⟩, false)) := by show _ = _; rw [HE.out, if_neg (by omega)]
        go_wp2
        go_ret
        exact ⟨ret_bool (by rw [HV.out]), by rw [HV.out]; exact H2.out.1, H2.out.2⟩
      · have HV : Hid (Tu.step ⟨k, true, zs⟩ s sh = (⟨k, false, zs.set k (l + sh - s)⟩, true)) := by show _ = _; rw [HE.out, if_pos (by omega)]
        go_wp2
        go_ret
        refine ⟨ret_bool (by rw [HV.out]), ?_, H2.out.2.setCell H2.out.1.ge2 _⟩
        rw [HV.out]
        have e := H2.out.1.el k hk (l + sh - s)
        simp only [List.set_set] at e
        exact e
    · have em : m = 1000 := by have := HM.out; omega
      subst em
      have e1 := HPV.out.el k hk 1000
      have c1b := e1.blk.cell 1
      have f1b := e1.blk.frozen 1
      simp only [aT, aS, aZ] at c1b
      clear e1
      go_upto_region 8 with fail
      obtain ⟨W2, hW2⟩ : ∃ W2, W2 = (Y0.setCell ⟨L, off + k, none⟩ (.int .i64 (1000))).setCell ⟨X, 1, none⟩ (.bool false) := ⟨_, rfl⟩
      have K2 := KEY.out W2 hW2
      have H2 : Hid (PV W2 lo X L off cap ⟨k, false, zs.set k (1000)⟩ ∧ Below lo W W2) := K2
      rw [← hW2]
      have ca2 : W2.cell? ⟨L, off + k, none⟩ = some (.int .i64 (1000)) := by rw [H2.out.1.cellAt k hk]; show some (Value.int .i64 ((zs.set k (1000)).getD k 0)) = _; rw [HG.out]
      have cf2 := H2.out.1.frozenAt k
      clear ca cf c1 f1 c1b f1b hW2 K2
      by_cases hle : (1000) < s
      · have HV : Hid (Tu.step ⟨k, true, zs⟩ s sh = (⟨k, false, zs.set k (1000)⟩, false)) := by show _ = _; rw [HE.out, if_neg (by omega)]
        go_wp2
        go_ret
        exact ⟨ret_bool (by rw [HV.out]), by rw [HV.out]; exact H2.out.1, H2.out.2⟩
      · have HV : Hid (Tu.step ⟨k, true, zs⟩ s sh = (⟨k, false, zs.set k (1000 - s)⟩, true)) := by show _ = _; rw [HE.out, if_pos (by omega)]
        go_wp2
        go_ret
        refine ⟨ret_bool (by rw [HV.out]), ?_, H2.out.2.setCell H2.out.1.ge2 _⟩
        rw [HV.out]
        have e := H2.out.1.el k hk (1000 - s)
        simp only [List.set_set] at e
        exact e
end Go.Proofs.Ythimjmkdcocofaa
/- Picking: what the model and the program share. No statement of the seat is proved here. -/
namespace Go.Proofs.Ythimjmkdcocofaa
open Go.RowKit
theorem results_tmp_rowT {P : Program} {fn : Func} {p u : Tmp} {ty : TypeId} (h : fn.results = #[.tmp u, .cell p ty]) (tmps : Array Value) (w : World) (g : Nat) (t : TypeId) (cs : Array Value) (fr : Nat × Nat) (d : TypeDesc)
    (hp : tmps.getD p undef = .pointer (some ⟨g, 0, none⟩)) (hg : w.heap[g]? = some (.cells cs t fr))
    (hu : P.underlying ty = some d) (hd : (match d with | .struct _ | .array _ _ => true | _ => false) = true) (hi : (P.info? ty).map (·.size) = some cs.size) :
    (results fn tmps).run P w = .ok (.tuple #[tmps.getD u undef, .agg cs]) w := by
  have e : (results fn tmps).run P w = ((asAddr (tmps.getD p undef)).run P w).andThen fun a w₁ => ((loadVar ty a).run P w₁).andThen fun v w₂ => .ok (.tuple #[tmps.getD u undef, v]) w₂ := by
    simp only [results, h]
    simp [Sem.run_bind, Result.andThen]
  rw [e, hp]
  simp [asAddr, run_loadVar_row w g t ty cs fr d hg hu hd hi, Result.andThen]
section
variable {P : Program} {ops : Array Oper} {Q : Exit → Act → World → Prop} {a : Act} {w : World} {o : Oper} {K : Act → World → Prop}
theorem op_callT3 (f : FuncId) (x y p : Operand) (ts : Array TypeId) (fn : Func) (R : Value → World → Prop) (hw : Region.wanted o (yielded ops a.tmps) = true) (ho : o.op = Op.call { callee := Callee.value (Operand.func f), args := #[x, y, p], argTypes := ts })
    (hfn : P.funcs[f]? = some fn) (hnm : (fn.name == "runtime.NumGoroutine") = false) (hbd : fn.body.isNone = false) (hc : Calls P f #[a.eval x, a.eval y, a.eval p] w fun e w' => ∃ v, e = .returned v ∧ R v w') (h : ∀ v w', R v w' → ∃ a', a.put o.dst v = a' ∧ K a' w') : if Region.wanted o (yielded ops a.tmps) = true then Oper.wp P o a w K Q else K (a.put o.dst undef) w := by
  rw [if_pos hw]
  have hnm' : ¬ fn.name = "runtime.NumGoroutine" := by simpa using hnm
  have hbd' : ¬ fn.body = none := by intro e; rw [e] at hbd; cases hbd
  unfold Oper.wp
  simp only [execOp, ho, resolve, invoke, Oper.upon, go_sem]
  simp [callFunc, hfn, hnm', hbd', go_sem]
  simp [Act.eval, go_sem] at hc
  refine Calls.mono hc ?_
  rintro e w1 ⟨v, rfl, hR⟩
  obtain ⟨_, rfl, hk⟩ := h v w1 hR
  exact hk
end
section
variable {P : Program} {ops : Array Oper} {Q : Exit → Act → World → Prop} {a : Act} {w : World} {o : Oper} {K : Act → World → Prop}
theorem op_callT4 (f : FuncId) (x y z u : Operand) (ts : Array TypeId) (fn : Func) (R : Value → World → Prop) (hw : Region.wanted o (yielded ops a.tmps) = true) (ho : o.op = Op.call { callee := Callee.value (Operand.func f), args := #[x, y, z, u], argTypes := ts })
    (hfn : P.funcs[f]? = some fn) (hnm : (fn.name == "runtime.NumGoroutine") = false) (hbd : fn.body.isNone = false) (hc : Calls P f #[a.eval x, a.eval y, a.eval z, a.eval u] w fun e w' => ∃ v, e = .returned v ∧ R v w') (h : ∀ v w', R v w' → ∃ a', a.put o.dst v = a' ∧ K a' w') : if Region.wanted o (yielded ops a.tmps) = true then Oper.wp P o a w K Q else K (a.put o.dst undef) w := by
  rw [if_pos hw]
  have hnm' : ¬ fn.name = "runtime.NumGoroutine" := by simpa using hnm
  have hbd' : ¬ fn.body = none := by intro e; rw [e] at hbd; cases hbd
  unfold Oper.wp
  simp only [execOp, ho, resolve, invoke, Oper.upon, go_sem]
  simp [callFunc, hfn, hnm', hbd', go_sem]
  simp [Act.eval, go_sem] at hc
  refine Calls.mono hc ?_
  rintro e w' ⟨v, rfl, hr⟩
  obtain ⟨a', ha', hk⟩ := h v w' hr
  rw [← ha'] at hk
  exact hk
theorem op_loadS (ty : TypeId) (g : Nat) (cells : Array Value) (t : TypeId) (d : TypeDesc) {x : Operand} (hg : Blk w g cells t) (hw : Region.wanted o (yielded ops a.tmps) = true) (ho : o.op = .load ty x) (hx : a.eval x = .pointer (some ⟨g, 0, none⟩))
    (hu : P.underlying ty = some d) (hd : (match d with | .struct _ | .array _ _ => true | _ => false) = true) (hi : (P.info? ty).map (·.size) = some cells.size)
    (h : ∃ a', a.put o.dst (.agg cells) = a' ∧ K a' w) : if Region.wanted o (yielded ops a.tmps) = true then Oper.wp P o a w K Q else K (a.put o.dst undef) w := by
  obtain ⟨_, rfl, h⟩ := h
  rw [if_pos hw]
  exact wp_load_row ty x ho g hx t cells (0, 0) d hg hu hd hi h
end
/-- A number and a new turn. -/
def NewPick (w : World) (r : Int × Tu) (e : Ending) (w' : World) : Prop := ∃ v F, e = .returned (.tuple #[.int .i64 r.1, v]) ∧ RdTu w' v r.2 F ∧ Own w.heap.size w' F ∧ Below w.heap.size w w'
theorem pick_bad {ss ws : List Int} {q : Int} {x : Tu} (h : picks ss ws q x = false) : pick ss ws q x = (-1, x) := by unfold pick; rw [if_neg (by rw [h]; decide)]
theorem pick_zero {ss ws : List Int} {q : Int} {x : Tu} (h : picks ss ws q x = true) (k : nums ss 0 0 = true) : pick ss ws q x = (-1, Tu.new) := by unfold pick; rw [if_pos h, if_pos k]
theorem pick_some {ss ws : List Int} {q : Int} {x : Tu} (h : picks ss ws q x = true) (k : nums ss 0 0 = false) : pick ss ws q x = ((pickN ss ws q 20000 x).who, pickN ss ws q 20000 x) := by unfold pick; rw [if_pos h, if_neg (by rw [k]; decide)]
theorem pick_case (ss ws : List Int) (q : Int) (x : Tu) : picks ss ws q x = false ∨ (picks ss ws q x = true ∧ nums ss 0 0 = true) ∨ (picks ss ws q x = true ∧ nums ss 0 0 = false) := by
  cases picks ss ws q x <;> cases nums ss 0 0 <;> simp
theorem picks_all {ss ws : List Int} {q : Int} {x : Tu} (h : picks ss ws q x = true) : nums ss 0 200 = true ∧ nums ws 1 4 = true ∧ decide (1 ≤ q ∧ q ≤ 60) = true ∧ x.ok = true := by
  unfold picks at h; simp only [Bool.and_eq_true] at h; exact ⟨h.1.1.1, h.1.1.2, h.1.2, h.2⟩
theorem cntPos_zero {ss : List Int} (h : nums ss 0 200 = true) : (cntPos ss == 0) = nums ss 0 0 := by
  obtain ⟨a, b, c, rfl, ha, hb, hc⟩ := nums_three h
  have e : nums [a, b, c] 0 0 = decide (¬ 0 < a ∧ ¬ 0 < b ∧ ¬ 0 < c) := by
    cases k : nums [a, b, c] 0 0
    · symm; rw [decide_eq_false_iff_not]; intro q
      have : nums [a, b, c] 0 0 = true := nums_iff.2 ⟨rfl, fun z hz => by simp at hz; rcases hz with rfl | rfl | rfl <;> omega⟩
      rw [this] at k; cases k
    · symm; rw [decide_eq_true_eq]
      have q := (nums_iff.1 k).2
      have q1 := q a (by simp); have q2 := q b (by simp); have q3 := q c (by simp)
      omega
  rw [e]
  unfold cntPos
  by_cases h1 : 0 < a <;> by_cases h2 : 0 < b <;> by_cases h3 : 0 < c <;> simp [h1, h2, h3]
theorem step_who (x : Tu) (s sh : Int) : (x.step s sh).1.who = x.who := by
  unfold Tu.step
  by_cases h : s = 0
  · rw [if_pos h]
  · rw [if_neg h]
    cases x.fresh <;> (simp only [Bool.false_eq_true, if_false, if_true]; split <;> rfl)
/-- Ahead of the tests: the box, the result's place, the copy. -/
structure PkH (w : World) (cs c1 : Array Value) (x : Tu) (X : Nat) (G : List Nat) (W : World) : Prop where
  two : Two w cs #[.int .i64 0, .bool false, .slice none 0 0] 26 W
  blk : Blk W X c1 26
  rd : RdTu W (.agg c1) x G
  own : Own w.heap.size W G
  ge : w.heap.size + 2 ≤ X
  gg : ∀ b ∈ G, w.heap.size + 2 ≤ b
  ne : X ∉ G
theorem PkH.below {w : World} {cs c1 : Array Value} {x : Tu} {X : Nat} {G : List Nat} {W W' : World} (h : PkH w cs c1 x X G W) (b : Below W.heap.size W W') : PkH w cs c1 x X G W' := ⟨h.two.below b, h.blk.below b, h.rd.below b, h.own.below h.rd.lt b, h.ge, h.gg, h.ne⟩
end Go.Proofs.Ythimjmkdcocofaa
/- The walk through the program's Pick. No statement of the seat is proved here. -/
namespace Go.Proofs.Ythimjmkdcocofaa
open Go.RowKit
set_option maxRecDepth 200000 in
set_option maxHeartbeats 8000000 in
theorem pick_impl_bad (a1 a2 : Option Addr) (n1 k1 n2 k2 : Nat) (ss ws : List Int) (F1 F2 : List Nat) (q : Int) (v : Value) (x : Tu) (F : List Nat) (w : World) (h1 : RdI w a1 n1 ss F1) (h2 : RdI w a2 n2 ws F2) (h3 : RdTu w v x F) (hl1 : n1 ≤ 1048576) (hl2 : n2 ≤ 1048576) (hx : x.fits) (hbad : picks ss ws q x = false) :
    Calls Try.prog 9 #[.slice a1 n1 k1, .slice a2 n2 k2, .int .i64 q, v] w fun e w' => NewPick w (pick ss ws q x) e w' := by
  have HS1 : Hid (RdI w a1 n1 ss F1 ∧ n1 ≤ 140737488355328) := ⟨h1, by omega⟩
  have HS2 : Hid (RdI w a2 n2 ws F2 ∧ n2 ≤ 140737488355328) := ⟨h2, by omega⟩
  obtain ⟨cs, rfl, hz, _⟩ := h3.cells
  have HT : Hid (RdTu w (.agg cs) x F ∧ x.fits ∧ cs.size = 3) := ⟨h3, hx, hz⟩
  have HB : Hid (Two w cs #[.int .i64 0, .bool false, .slice none 0 0] 26 ((w.alloc (.cells cs 26)).alloc (.cells #[.int .i64 0, .bool false, .slice none 0 0] 26))) := Two.made w _ _ _
  have HV : Hid (pick ss ws q x = (-1, x) ∧ (nums ss 0 200 && nums ws 1 4 && decide (1 ≤ q ∧ q ≤ 60) && x.ok) = false) := ⟨pick_bad hbad, hbad⟩
  clear hbad
  clear h1 h2 h3 hx hz hl1 hl2
  go_enter Try.func9, Try.ntmps9
  go_wp2_with (first | go_skip | (with_reducible refine stopLoad 26 rfl ?_) | (with_reducible refine stopStore 26 rfl ?_))
  refine load_known 26 w.heap.size cs 26 _ HB.out.fst rfl rfl rfl Try.underlying26 rfl (tuSize HT.out.2.2) ?_
  go_wp2_with fail
  refine (copiedTurn_any _ x F _ (HT.out.1.below HB.out.bel) HT.out.2.1).mono ?_
  rintro e w1 ⟨v1, G, rfl, r1, o1, b1⟩
  obtain ⟨c1, rfl, z1, n1'⟩ := r1.cells
  have H1 : Hid (Two w cs #[.int .i64 0, .bool false, .slice none 0 0] 26 w1 ∧ RdTu w1 (.agg c1) x G ∧ (∀ b ∈ G, w.heap.size + 2 ≤ b) ∧ Own w.heap.size w1 G ∧ w.heap.size + 2 ≤ w1.heap.size) := ⟨HB.out.below b1, r1, fun b hb => Nat.le_trans HB.out.snd.lt (o1.ge b hb), o1.mono HB.out.bel.size, Nat.le_trans HB.out.snd.lt b1.size⟩
  have HC : Hid (c1.size = 3 ∧ c1.all (·.oneCell') = true) := ⟨z1, n1'⟩
  clear r1 o1 b1 z1 n1' HB
  go_wp2_with (first | go_skip | (with_reducible refine stopLoad 26 rfl ?_) | (with_reducible refine stopStore 26 rfl ?_))
  refine store_fresh 26 w1.heap.size rfl #[.int .i64 0, .bool false, .slice none 0 0] c1 26 rfl rfl rfl rfl (tuSize HC.out.1) HC.out.1.symm HC.out.2 ?_
  intro w2 hg hb
  have HK : Hid (PkH w cs c1 x w1.heap.size G w2) := ⟨H1.out.1.below hb, hg, H1.out.2.1.below hb, H1.out.2.2.2.1.below H1.out.2.1.lt hb, H1.out.2.2.2.2, H1.out.2.2.1, fun hx => by have := H1.out.2.1.lt _ hx; omega⟩
  obtain ⟨X, hX⟩ : ∃ X, X = w1.heap.size := ⟨_, rfl⟩
  rw [← hX] at HK ⊢
  clear hg hb H1 hX
  go_wp2_with fail
  refine (isPerAgent_any _ _ _ ss F1 _ _ (HS1.out.1.below HK.out.two.bel) HS1.out.2).mono ?_
  rintro e w' ⟨rfl, hw⟩
  have hw' := hw.symm
  subst hw'
  clear hw
  obtain ⟨d1, hd1⟩ : ∃ d, d = nums ss 0 200 := ⟨_, rfl⟩
  rw [← hd1] at HV ⊢
  clear hd1
  cases d1
  · skip
    go_wp2_with fail
    refine wp_region_held (S := fun W => Blk W X c1 26) (by kernel_rfl) ?_
    change wpAnyH _ _ _ _ _ _ _ _ (World.drew _)
    have BD := (Below.refl w2.heap.size w2).drew
    obtain ⟨Y0, hY0⟩ : ∃ Y, Y = w2.drew := ⟨_, rfl⟩
    rw [← hY0] at BD ⊢
    have HK : Hid (PkH w cs c1 x X G Y0) := HK.out.below BD
    have HS : Hid (Blk Y0 X c1 26) := HK.out.blk
    clear hY0 BD
    refine takeH (o := ?o1) 0 (.agg c1) ?h1 ?r1
    case h1 => simp only [aT, aZ]; rfl
    refine ⟨_, by simp [Act.put]; rfl, by kernel_rfl, by kernel_rfl, by kernel_rfl, fun _ _ _ h => h, (yields_whole 26 _ c1 26 _ rfl rfl rfl Try.underlying26 rfl (tuSize HC.out.1) (fun W hW => hW)), HS.out, ?_⟩
    refine takeH (o := ?o2) 1 (.int .i64 (-1)) ?h2 ?r2
    case h2 => simp only [aT, aS, aZ]; rfl
    refine ⟨_, by simp [Act.put]; rfl, by kernel_rfl, by kernel_rfl, by kernel_rfl, fun _ _ _ h => h, (.inl ⟨rfl, fun W _ => by kernel_rfl⟩), HS.out, ?_⟩
    refine onlyH (o := ?o3) 2 (by kernel_rfl) ?h3 ?r3
    case h3 => simp only [aT, aS, aZ]; rfl
    intro K hK
    refine op_store 26 (w.heap.size + 1) #[.int .i64 0, .bool false, .slice none 0 0] c1 26 rfl rfl rfl rfl HK.out.two.snd (tuSize HC.out.1) HC.out.1.symm HC.out.2 ⟨_, by simp [Act.put]; rfl, hK _ _ ⟨HS.out.setRowOther (by have := HK.out.ge; omega), ?_⟩⟩
    clear hK
    refine wpAnyH_done (by kernel_rfl) ?_ _
    go_wp2
    refine bodyPost_ret (results_tmp_rowT Try.results9 _ _ (w.heap.size + 1) _ _ (0, 0) _ rfl HK.out.two.snd.setRow Try.underlying26 rfl (tuSize HC.out.1)) rfl ?_
    rw [HV.out.1]
    have ag := Agree.row (w := Y0) (g := w.heap.size + 1) (F := G) (fun hx => by have := HK.out.gg _ hx; omega) c1
    exact ⟨_, G, rfl, HK.out.rd.agree ag, HK.out.own.agree ag, below_setRow HK.out.two.bel (by omega) _⟩
  · skip
    go_wp2_with fail
    refine (areWeights_any _ _ _ ws F2 _ (HS2.out.1.below HK.out.two.bel) HS2.out.2).mono ?_
    rintro e w' ⟨rfl, hw⟩
    have hw' := hw.symm
    subst hw'
    clear hw
    obtain ⟨d2, hd2⟩ : ∃ d, d = nums ws 1 4 := ⟨_, rfl⟩
    rw [← hd2] at HV ⊢
    clear hd2
    cases d2
    · skip
      go_wp2_with fail
      refine wp_region_held (S := fun W => Blk W X c1 26) (by kernel_rfl) ?_
      change wpAnyH _ _ _ _ _ _ _ _ (World.drew _)
      have BD := (Below.refl w2.heap.size w2).drew
      obtain ⟨Y0, hY0⟩ : ∃ Y, Y = w2.drew := ⟨_, rfl⟩
      rw [← hY0] at BD ⊢
      have HK : Hid (PkH w cs c1 x X G Y0) := HK.out.below BD
      have HS : Hid (Blk Y0 X c1 26) := HK.out.blk
      clear hY0 BD
      refine takeH (o := ?o4) 0 (.agg c1) ?h4 ?r4
      case h4 => simp only [aT, aZ]; rfl
      refine ⟨_, by simp [Act.put]; rfl, by kernel_rfl, by kernel_rfl, by kernel_rfl, fun _ _ _ h => h, (yields_whole 26 _ c1 26 _ rfl rfl rfl Try.underlying26 rfl (tuSize HC.out.1) (fun W hW => hW)), HS.out, ?_⟩
      refine takeH (o := ?o5) 1 (.int .i64 (-1)) ?h5 ?r5
      case h5 => simp only [aT, aS, aZ]; rfl
      refine ⟨_, by simp [Act.put]; rfl, by kernel_rfl, by kernel_rfl, by kernel_rfl, fun _ _ _ h => h, (.inl ⟨rfl, fun W _ => by kernel_rfl⟩), HS.out, ?_⟩
      refine onlyH (o := ?o6) 2 (by kernel_rfl) ?h6 ?r6
      case h6 => simp only [aT, aS, aZ]; rfl
      intro K hK
      refine op_store 26 (w.heap.size + 1) #[.int .i64 0, .bool false, .slice none 0 0] c1 26 rfl rfl rfl rfl HK.out.two.snd (tuSize HC.out.1) HC.out.1.symm HC.out.2 ⟨_, by simp [Act.put]; rfl, hK _ _ ⟨HS.out.setRowOther (by have := HK.out.ge; omega), ?_⟩⟩
      clear hK
      refine wpAnyH_done (by kernel_rfl) ?_ _
      go_wp2
      refine bodyPost_ret (results_tmp_rowT Try.results9 _ _ (w.heap.size + 1) _ _ (0, 0) _ rfl HK.out.two.snd.setRow Try.underlying26 rfl (tuSize HC.out.1)) rfl ?_
      rw [HV.out.1]
      have ag := Agree.row (w := Y0) (g := w.heap.size + 1) (F := G) (fun hx => by have := HK.out.gg _ hx; omega) c1
      exact ⟨_, G, rfl, HK.out.rd.agree ag, HK.out.own.agree ag, below_setRow HK.out.two.bel (by omega) _⟩
    · skip
      go_wp2_with fail
      refine (isQuantum_any _ _).mono ?_
      rintro e w' ⟨rfl, hw⟩
      have hw' := hw.symm
      subst hw'
      clear hw
      obtain ⟨d3, hd3⟩ : ∃ d, d = decide (1 ≤ q ∧ q ≤ 60) := ⟨_, rfl⟩
      rw [← hd3] at HV ⊢
      clear hd3
      cases d3
      · skip
        go_wp2_with fail
        refine wp_region_held (S := fun W => Blk W X c1 26) (by kernel_rfl) ?_
        change wpAnyH _ _ _ _ _ _ _ _ (World.drew _)
        have BD := (Below.refl w2.heap.size w2).drew
        obtain ⟨Y0, hY0⟩ : ∃ Y, Y = w2.drew := ⟨_, rfl⟩
        rw [← hY0] at BD ⊢
        have HK : Hid (PkH w cs c1 x X G Y0) := HK.out.below BD
        have HS : Hid (Blk Y0 X c1 26) := HK.out.blk
        clear hY0 BD
        refine takeH (o := ?o7) 0 (.agg c1) ?h7 ?r7
        case h7 => simp only [aT, aZ]; rfl
        refine ⟨_, by simp [Act.put]; rfl, by kernel_rfl, by kernel_rfl, by kernel_rfl, fun _ _ _ h => h, (yields_whole 26 _ c1 26 _ rfl rfl rfl Try.underlying26 rfl (tuSize HC.out.1) (fun W hW => hW)), HS.out, ?_⟩
        refine takeH (o := ?o8) 1 (.int .i64 (-1)) ?h8 ?r8
        case h8 => simp only [aT, aS, aZ]; rfl
        refine ⟨_, by simp [Act.put]; rfl, by kernel_rfl, by kernel_rfl, by kernel_rfl, fun _ _ _ h => h, (.inl ⟨rfl, fun W _ => by kernel_rfl⟩), HS.out, ?_⟩
        refine onlyH (o := ?o9) 2 (by kernel_rfl) ?h9 ?r9
        case h9 => simp only [aT, aS, aZ]; rfl
        intro K hK
        refine op_store 26 (w.heap.size + 1) #[.int .i64 0, .bool false, .slice none 0 0] c1 26 rfl rfl rfl rfl HK.out.two.snd (tuSize HC.out.1) HC.out.1.symm HC.out.2 ⟨_, by simp [Act.put]; rfl, hK _ _ ⟨HS.out.setRowOther (by have := HK.out.ge; omega), ?_⟩⟩
        clear hK
        refine wpAnyH_done (by kernel_rfl) ?_ _
        go_wp2
        refine bodyPost_ret (results_tmp_rowT Try.results9 _ _ (w.heap.size + 1) _ _ (0, 0) _ rfl HK.out.two.snd.setRow Try.underlying26 rfl (tuSize HC.out.1)) rfl ?_
        rw [HV.out.1]
        have ag := Agree.row (w := Y0) (g := w.heap.size + 1) (F := G) (fun hx => by have := HK.out.gg _ hx; omega) c1
        exact ⟨_, G, rfl, HK.out.rd.agree ag, HK.out.own.agree ag, below_setRow HK.out.two.bel (by omega) _⟩
      · skip
        go_wp2_with (first | go_skip | (with_reducible refine stopLoad 26 rfl ?_) | (with_reducible refine stopStore 26 rfl ?_))
        refine load_any 26 w.heap.size cs 26 _ HK.out.two.fst rfl rfl rfl Try.underlying26 rfl (tuSize HT.out.2.2) ?_
        go_wp2_with fail
        refine (turnOkImpl_any _ x F _ (HT.out.1.below HK.out.two.bel) HT.out.2.1.wide).mono ?_
        rintro e w3 ⟨rfl, hb⟩
        have HK : Hid (PkH w cs c1 x X G w3) := HK.out.below hb
        clear hb
        obtain ⟨d4, hd4⟩ : ∃ d, d = x.ok := ⟨_, rfl⟩
        rw [← hd4] at HV ⊢
        clear hd4
        cases d4
        · skip
          go_wp2_with fail
          refine wp_region_held (S := fun W => Blk W X c1 26) (by kernel_rfl) ?_
          change wpAnyH _ _ _ _ _ _ _ _ (World.drew _)
          have BD := (Below.refl w3.heap.size w3).drew
          obtain ⟨Y0, hY0⟩ : ∃ Y, Y = w3.drew := ⟨_, rfl⟩
          rw [← hY0] at BD ⊢
          have HK : Hid (PkH w cs c1 x X G Y0) := HK.out.below BD
          have HS : Hid (Blk Y0 X c1 26) := HK.out.blk
          clear hY0 BD
          refine takeH (o := ?o10) 0 (.agg c1) ?h10 ?r10
          case h10 => simp only [aT, aZ]; rfl
          refine ⟨_, by simp [Act.put]; rfl, by kernel_rfl, by kernel_rfl, by kernel_rfl, fun _ _ _ h => h, (yields_whole 26 _ c1 26 _ rfl rfl rfl Try.underlying26 rfl (tuSize HC.out.1) (fun W hW => hW)), HS.out, ?_⟩
          refine takeH (o := ?o11) 1 (.int .i64 (-1)) ?h11 ?r11
          case h11 => simp only [aT, aS, aZ]; rfl
          refine ⟨_, by simp [Act.put]; rfl, by kernel_rfl, by kernel_rfl, by kernel_rfl, fun _ _ _ h => h, (.inl ⟨rfl, fun W _ => by kernel_rfl⟩), HS.out, ?_⟩
          refine onlyH (o := ?o12) 2 (by kernel_rfl) ?h12 ?r12
          case h12 => simp only [aT, aS, aZ]; rfl
          intro K hK
          refine op_store 26 (w.heap.size + 1) #[.int .i64 0, .bool false, .slice none 0 0] c1 26 rfl rfl rfl rfl HK.out.two.snd (tuSize HC.out.1) HC.out.1.symm HC.out.2 ⟨_, by simp [Act.put]; rfl, hK _ _ ⟨HS.out.setRowOther (by have := HK.out.ge; omega), ?_⟩⟩
          clear hK
          refine wpAnyH_done (by kernel_rfl) ?_ _
          go_wp2
          refine bodyPost_ret (results_tmp_rowT Try.results9 _ _ (w.heap.size + 1) _ _ (0, 0) _ rfl HK.out.two.snd.setRow Try.underlying26 rfl (tuSize HC.out.1)) rfl ?_
          rw [HV.out.1]
          have ag := Agree.row (w := Y0) (g := w.heap.size + 1) (F := G) (fun hx => by have := HK.out.gg _ hx; omega) c1
          exact ⟨_, G, rfl, HK.out.rd.agree ag, HK.out.own.agree ag, below_setRow HK.out.two.bel (by omega) _⟩
        · exact absurd HV.out.2 (by simp)
set_option maxRecDepth 200000 in
set_option maxHeartbeats 16000000 in
theorem pick_impl_good (a1 a2 : Option Addr) (n1 k1 n2 k2 : Nat) (ss ws : List Int) (F1 F2 : List Nat) (q : Int) (v : Value) (x : Tu) (F : List Nat) (w : World) (h1 : RdI w a1 n1 ss F1) (h2 : RdI w a2 n2 ws F2) (h3 : RdTu w v x F) (hl1 : n1 ≤ 1048576) (hl2 : n2 ≤ 1048576) (hx : x.fits) (hgood : picks ss ws q x = true) :
    Calls Try.prog 9 #[.slice a1 n1 k1, .slice a2 n2 k2, .int .i64 q, v] w fun e w' => NewPick w (pick ss ws q x) e w' := by
  have HS1 : Hid (RdI w a1 n1 ss F1 ∧ n1 ≤ 140737488355328) := ⟨h1, by omega⟩
  have HS2 : Hid (RdI w a2 n2 ws F2 ∧ n2 ≤ 140737488355328) := ⟨h2, by omega⟩
  obtain ⟨cs, rfl, hz, _⟩ := h3.cells
  have HT : Hid (RdTu w (.agg cs) x F ∧ x.fits ∧ cs.size = 3) := ⟨h3, hx, hz⟩
  have HB : Hid (Two w cs #[.int .i64 0, .bool false, .slice none 0 0] 26 ((w.alloc (.cells cs 26)).alloc (.cells #[.int .i64 0, .bool false, .slice none 0 0] 26))) := Two.made w _ _ _
  obtain ⟨e1, e2, e3, e4⟩ := picks_all hgood
  have hn1 : n1 = 3 := by rw [← h1.length]; exact (nums_iff.1 e1).1
  have hn2 : n2 = 3 := by rw [← h2.length]; exact (nums_iff.1 e2).1
  subst hn1 hn2
  obtain ⟨b1, o1, rfl, rfl⟩ := h1.single (by omega)
  obtain ⟨b2, o2, rfl, rfl⟩ := h2.single (by omega)
  have HE : Hid (nums ss 0 200 = true ∧ nums ws 1 4 = true ∧ decide (1 ≤ q ∧ q ≤ 60) = true ∧ x.ok = true ∧ picks ss ws q x = true) := ⟨e1, e2, e3, e4, hgood⟩
  have hq : 1 ≤ q ∧ q ≤ 60 := of_decide_eq_true e3
  clear e1 e2 e3 e4 hgood
  clear h1 h2 h3 hx hz hl1 hl2
  go_enter Try.func9, Try.ntmps9
  go_wp2_with (first | go_skip | (with_reducible refine stopLoad 26 rfl ?_) | (with_reducible refine stopStore 26 rfl ?_))
  refine load_known 26 w.heap.size cs 26 _ HB.out.fst rfl rfl rfl Try.underlying26 rfl (tuSize HT.out.2.2) ?_
  go_wp2_with fail
  refine (copiedTurn_any _ x F _ (HT.out.1.below HB.out.bel) HT.out.2.1).mono ?_
  rintro e w1 ⟨v1, G, rfl, r1, o1, b1⟩
  obtain ⟨c1, rfl, z1, n1'⟩ := r1.cells
  have H1 : Hid (Two w cs #[.int .i64 0, .bool false, .slice none 0 0] 26 w1 ∧ RdTu w1 (.agg c1) x G ∧ (∀ b ∈ G, w.heap.size + 2 ≤ b) ∧ Own w.heap.size w1 G ∧ w.heap.size + 2 ≤ w1.heap.size) := ⟨HB.out.below b1, r1, fun b hb => Nat.le_trans HB.out.snd.lt (o1.ge b hb), o1.mono HB.out.bel.size, Nat.le_trans HB.out.snd.lt b1.size⟩
  have HC : Hid (c1.size = 3 ∧ c1.all (·.oneCell') = true) := ⟨z1, n1'⟩
  clear r1 o1 b1 z1 n1' HB
  go_wp2_with (first | go_skip | (with_reducible refine stopLoad 26 rfl ?_) | (with_reducible refine stopStore 26 rfl ?_))
  refine store_fresh 26 w1.heap.size rfl #[.int .i64 0, .bool false, .slice none 0 0] c1 26 rfl rfl rfl rfl (tuSize HC.out.1) HC.out.1.symm HC.out.2 ?_
  intro w2 hg hb
  have HK : Hid (PkH w cs c1 x w1.heap.size G w2) := ⟨H1.out.1.below hb, hg, H1.out.2.1.below hb, H1.out.2.2.2.1.below H1.out.2.1.lt hb, H1.out.2.2.2.2, H1.out.2.2.1, fun hx => by have := H1.out.2.1.lt _ hx; omega⟩
  obtain ⟨X, hX⟩ : ∃ X, X = w1.heap.size := ⟨_, rfl⟩
  rw [← hX] at HK ⊢
  clear hg hb H1 hX
  go_wp2_with fail
  refine (isPerAgent_any _ _ _ ss [b1] _ _ (HS1.out.1.below HK.out.two.bel) HS1.out.2).mono ?_
  rintro e w' ⟨rfl, hw⟩
  have hw' := hw.symm
  subst hw'
  clear hw
  rw [HE.out.1]
  go_wp2_with fail
  refine (areWeights_any _ _ _ ws [b2] _ (HS2.out.1.below HK.out.two.bel) HS2.out.2).mono ?_
  rintro e w' ⟨rfl, hw⟩
  have hw' := hw.symm
  subst hw'
  clear hw
  rw [HE.out.2.1]
  go_wp2_with fail
  refine (isQuantum_any _ _).mono ?_
  rintro e w' ⟨rfl, hw⟩
  have hw' := hw.symm
  subst hw'
  clear hw
  rw [HE.out.2.2.1]
  go_wp2_with (first | go_skip | (with_reducible refine stopLoad 26 rfl ?_) | (with_reducible refine stopStore 26 rfl ?_))
  refine load_any 26 w.heap.size cs 26 _ HK.out.two.fst rfl rfl rfl Try.underlying26 rfl (tuSize HT.out.2.2) ?_
  go_wp2_with fail
  refine (turnOkImpl_any _ x F _ (HT.out.1.below HK.out.two.bel) HT.out.2.1.wide).mono ?_
  rintro e w3 ⟨rfl, hb⟩
  have HK : Hid (PkH w cs c1 x X G w3) := HK.out.below hb
  clear hb
  rw [HE.out.2.2.2.1]
  go_wp2_with fail
  refine (aboveZero_any _ _ _ ss [b1] _ (HS1.out.1.below HK.out.two.bel) HS1.out.2).mono ?_
  rintro e w' ⟨rfl, hw⟩
  have hw' := hw.symm
  subst hw'
  clear hw
  obtain ⟨n, hn⟩ : ∃ n, n = cntPos ss := ⟨_, rfl⟩
  obtain ⟨z, hz⟩ : ∃ z, z = nums ss 0 0 := ⟨_, rfl⟩
  have hnz : (n == 0) = z := by rw [hn, hz]; exact cntPos_zero HE.out.1
  rw [← hn]
  have HZ : Hid (z = nums ss 0 0) := hz
  clear hn hz
  cases z
  rotate_left
  · skip
    have HV : Hid (pick ss ws q x = (-1, Tu.new)) := pick_zero HE.out.2.2.2.2 HZ.out.symm
    go_wp2_with fail
    refine (turnNewImpl_any _).mono ?_
    rintro e w5 ⟨v5, G5, rfl, r5, o5, b5⟩
    obtain ⟨c5, rfl, z5, n5⟩ := r5.cells
    have H5 : Hid (Two w cs #[.int .i64 0, .bool false, .slice none 0 0] 26 w5 ∧ RdTu w5 (.agg c5) Tu.new G5 ∧ Own w.heap.size w5 G5 ∧ c5.size = 3 ∧ c5.all (·.oneCell') = true ∧ ∀ b ∈ G5, w.heap.size + 2 ≤ b) := ⟨HK.out.two.below b5, r5, o5.mono HK.out.two.bel.size, z5, n5, fun b hb => Nat.le_trans HK.out.two.snd.lt (o5.ge b hb)⟩
    clear r5 o5 b5 z5 n5
    go_wp2_with (first | go_skip | (with_reducible refine stopLoad 26 rfl ?_) | (with_reducible refine stopStore 26 rfl ?_))
    refine store_known 26 (w.heap.size + 1) _ c5 26 H5.out.1.snd rfl rfl rfl rfl (tuSize H5.out.2.2.2.1) H5.out.2.2.2.1.symm H5.out.2.2.2.2.1 ?_
    go_wp2
    refine bodyPost_ret (results_tmp_rowT Try.results9 _ _ (w.heap.size + 1) _ _ (0, 0) _ rfl H5.out.1.snd.setRow Try.underlying26 rfl (tuSize H5.out.2.2.2.1)) rfl ?_
    rw [HV.out]
    have ag := Agree.row (w := w5) (g := w.heap.size + 1) (F := G5) (fun hx => by have := H5.out.2.2.2.2.2 _ hx; omega) c5
    exact ⟨_, G5, rfl, H5.out.2.1.agree ag, H5.out.2.2.1.agree ag, below_setRow H5.out.1.bel (by omega) _⟩
  have HV : Hid (pick ss ws q x = ((pickN ss ws q 20000 x).who, pickN ss ws q 20000 x)) := pick_some HE.out.2.2.2.2 HZ.out.symm
  have HI : Hid (PickIn ss ws q x) := picks_in HE.out.2.2.2.2 HZ.out.symm
  obtain ⟨l0, l1, l2, hl3, _⟩ := ok_three HE.out.2.2.2.1
  obtain ⟨L, off, cap, hc1, hpv⟩ : ∃ L off cap, c1 = #[.int .i64 x.who, .bool x.fresh, .slice (some ⟨L, off, none⟩) 3 cap] ∧ PV w3 (w.heap.size + 2) X L off cap x := by
    obtain ⟨bb, ll, cc, he, hR⟩ := HK.out.rd
    obtain rfl : ll = 3 := by rw [← hR.length, hl3]; rfl
    obtain ⟨L, off, rfl, rfl⟩ := hR.single (by omega)
    injection he with he
    exact ⟨L, off, cc, he, by have := HK.out.blk; rw [he] at this; exact this, hR, ⟨HK.out.own.nodup, HK.out.own.free, HK.out.gg⟩, fun e => HK.out.ne (e ▸ by simp), HK.out.ge⟩
  have HP : Hid (PV w3 (w.heap.size + 2) X L off cap x ∧ Blk w3 (w.heap.size + 1) #[.int .i64 0, .bool false, .slice none 0 0] 26 ∧ Below w.heap.size w w3) := ⟨hpv, HK.out.two.snd, HK.out.two.bel⟩
  clear hl3 hc1 hpv HC HK HT
  go_wp2_with fail
  go_loopg [36] 20000 (fun g _ wr => ∃ y, Hid (PickIn ss ws q y ∧ y.mu ss < g ∧ pickN ss ws q g y = pickN ss ws q 20000 x ∧ PV wr (w.heap.size + 2) X L off cap y ∧ Below w.heap.size w wr ∧ Blk wr (w.heap.size + 1) #[.int .i64 0, .bool false, .slice none 0 0] 26))
  case atStart => exact ⟨x, HI.out, mu_le HI.out.ok, rfl, HP.out.1, HP.out.2.2, HP.out.2.1⟩
  case round =>
    clear HP HI
    obtain ⟨y, HY⟩ := hrel
    obtain ⟨yk, yf, ys⟩ := y
    obtain ⟨m0, m1, m2, hm, hm0, hm1, hm2, hk0⟩ := ok_three HY.out.1.ok
    obtain ⟨k, rfl⟩ : ∃ k : Nat, yk = k := ⟨yk.toNat, by have := hk0.1; simp only at this; omega⟩
    have hk3 : k < 3 := by have := hk0.2; simp only at this; omega
    have HR : Hid (0 ≤ ys.getD k 0 ∧ ys.getD k 0 ≤ 1000) := by
      have hm' : ys = [m0, m1, m2] := hm
      subst hm'
      show _ ∧ _
      match k, hk3 with
      | 0, _ => exact hm0
      | 1, _ => exact hm1
      | 2, _ => exact hm2
    clear hm hm0 hm1 hm2 hk0
    obtain ⟨s, hs⟩ : ∃ s, s = ss.getD k 0 := ⟨_, rfl⟩
    obtain ⟨wt, hwt⟩ : ∃ s, s = ws.getD k 0 := ⟨_, rfl⟩
    obtain ⟨sh, hsh⟩ : ∃ s, s = q * wt := ⟨_, rfl⟩
    have hsr : 0 ≤ s ∧ s ≤ 200 := by
      obtain ⟨p1, p2⟩ := nums_iff.1 HE.out.1
      rw [hs]; exact p2 _ (mem_getD (by omega))
    have hwr : 1 ≤ wt ∧ wt ≤ 4 := by
      obtain ⟨p1, p2⟩ := nums_iff.1 HE.out.2.1
      rw [hwt]; exact p2 _ (mem_getD (by omega))
    have hshr : 1 ≤ sh ∧ sh ≤ 240 := by rw [hsh]; exact share_range hq hwr
    have hmul : q * wt = sh := hsh.symm
    have hwp : IntKind.i64.wrap sh = sh := by simp [IntKind.wrap, IntKind.bits, IntKind.signed]; omega
    have HQ : Hid (s = ss.getD k 0 ∧ wt = ws.getD k 0 ∧ sh = q * wt) := ⟨hs, hwt, hsh⟩
    have HAT : Hid (Tu.at ⟨(k : Int), yf, ys⟩ ss ws q = Tu.step ⟨(k : Int), yf, ys⟩ s sh) := by
      show _ = _; unfold Tu.at; simp only [Int.toNat_natCast]; rw [← hs, ← hwt, hmul]
    have HCS : Hid (wr.cell? ⟨b1, o1 + k, none⟩ = some (.int .i64 s) ∧ wr.cell? ⟨b2, o2 + k, none⟩ = some (.int .i64 wt)) := ⟨by rw [hs]; exact (HS1.out.1.below HY.out.2.2.2.2.1).at k hk3, by rw [hwt]; exact (HS2.out.1.below HY.out.2.2.2.2.1).at k hk3⟩
    clear hs hwt hsh
    obtain ⟨g, hg⟩ : ∃ g, gk = g + 1 := ⟨gk - 1, by have := HY.out.2.1; omega⟩
    subst hg
    have hI : (k : Int) < 3 := by omega
    go_wp2_with fail
    refine wp_region_held (S := fun W => W.cell? ⟨X, 0, none⟩ = some (.int .i64 (k : Int)) ∧ W.cell? ⟨b1, o1 + k, none⟩ = some (.int .i64 s) ∧ W.cell? ⟨b2, o2 + k, none⟩ = some (.int .i64 wt)) (by kernel_rfl) ?_
    change wpAnyH _ _ _ _ _ _ _ _ (World.drew _)
    have BD := (Below.refl wr.heap.size wr).drew
    obtain ⟨Y0, hY0⟩ : ∃ Y, Y = wr.drew := ⟨_, rfl⟩
    rw [← hY0] at BD ⊢
    have HYY : Hid (PickIn ss ws q ⟨(k : Int), yf, ys⟩ ∧ Tu.mu ⟨(k : Int), yf, ys⟩ ss < g + 1 ∧ pickN ss ws q (g + 1) ⟨(k : Int), yf, ys⟩ = pickN ss ws q 20000 x ∧ PV Y0 (w.heap.size + 2) X L off cap ⟨(k : Int), yf, ys⟩ ∧ Below w.heap.size w Y0 ∧ Blk Y0 (w.heap.size + 1) #[.int .i64 0, .bool false, .slice none 0 0] 26) := ⟨HY.out.1, HY.out.2.1, HY.out.2.2.1, HY.out.2.2.2.1.below BD, Below.next HY.out.2.2.2.2.1 BD, HY.out.2.2.2.2.2.below BD⟩
    have HSS : Hid (Y0.cell? ⟨X, 0, none⟩ = some (.int .i64 (k : Int)) ∧ Y0.cell? ⟨b1, o1 + k, none⟩ = some (.int .i64 s) ∧ Y0.cell? ⟨b2, o2 + k, none⟩ = some (.int .i64 wt)) := by rw [hY0]; exact ⟨HY.out.2.2.2.1.blk.cell 0, HCS.out.1, HCS.out.2⟩
    clear hY0 BD HY
    refine takeH (o := ?o13) 0 (.slice (some ⟨b1, o1, none⟩) 3 k1) ?h13 ?r13
    case h13 => simp only [aT, aZ]; rfl
    refine ⟨_, by simp [Act.put]; rfl, by kernel_rfl, by kernel_rfl, by kernel_rfl, fun _ _ _ h => h, (.inl ⟨rfl, fun W _ => by kernel_rfl⟩), HSS.out, ?_⟩
    refine takeH (o := ?o14) 1 (.pointer (some ⟨X, 0, none⟩)) ?h14 ?r14
    case h14 => simp only [aT, aS, aZ]; rfl
    refine ⟨_, by simp [Act.put]; rfl, by kernel_rfl, by kernel_rfl, by kernel_rfl, fun _ _ _ h => h, (.inl ⟨rfl, fun W _ => by go_simp⟩), HSS.out, ?_⟩
    refine takeH (o := ?o15) 2 (.int .i64 (k : Int)) ?h15 ?r15
    case h15 => simp only [aT, aS, aZ]; rfl
    refine ⟨_, by simp [Act.put]; rfl, by kernel_rfl, by kernel_rfl, by kernel_rfl, fun _ _ _ h => h, (.inl ⟨rfl, fun W hW => by have c := hW.1; go_simp⟩), HSS.out, ?_⟩
    refine takeH (o := ?o16) 3 (.pointer (some ⟨b1, o1 + k, none⟩)) ?h16 ?r16
    case h16 => simp only [aT, aS, aZ]; rfl
    refine ⟨_, by simp [Act.put]; rfl, by kernel_rfl, by kernel_rfl, by kernel_rfl, fun _ _ _ h => h, (.inl ⟨rfl, fun W _ => by go_simp; first | done | (intro h; omega) | (rw [if_pos (by omega)]; rfl)⟩), HSS.out, ?_⟩
    refine takeH (o := ?o17) 4 (.int .i64 s) ?h17 ?r17
    case h17 => simp only [aT, aS, aZ]; rfl
    refine ⟨_, by simp [Act.put]; rfl, by kernel_rfl, by kernel_rfl, by kernel_rfl, fun _ _ _ h => h, (.inl ⟨rfl, fun W hW => by have c := hW.2.1; go_simp⟩), HSS.out, ?_⟩
    refine takeH (o := ?o18) 5 (.int .i64 q) ?h18 ?r18
    case h18 => simp only [aT, aS, aZ]; rfl
    refine ⟨_, by simp [Act.put]; rfl, by kernel_rfl, by kernel_rfl, by kernel_rfl, fun _ _ _ h => h, (.inl ⟨rfl, fun W _ => by kernel_rfl⟩), HSS.out, ?_⟩
    refine takeH (o := ?o19) 6 (.slice (some ⟨b2, o2, none⟩) 3 k2) ?h19 ?r19
    case h19 => simp only [aT, aS, aZ]; rfl
    refine ⟨_, by simp [Act.put]; rfl, by kernel_rfl, by kernel_rfl, by kernel_rfl, fun _ _ _ h => h, (.inl ⟨rfl, fun W _ => by kernel_rfl⟩), HSS.out, ?_⟩
    refine takeH (o := ?o20) 7 (.pointer (some ⟨X, 0, none⟩)) ?h20 ?r20
    case h20 => simp only [aT, aS, aZ]; rfl
    refine ⟨_, by simp [Act.put]; rfl, by kernel_rfl, by kernel_rfl, by kernel_rfl, fun _ _ _ h => h, (.inl ⟨rfl, fun W _ => by go_simp⟩), HSS.out, ?_⟩
    refine takeH (o := ?o21) 8 (.int .i64 (k : Int)) ?h21 ?r21
    case h21 => simp only [aT, aS, aZ]; rfl
    refine ⟨_, by simp [Act.put]; rfl, by kernel_rfl, by kernel_rfl, by kernel_rfl, fun _ _ _ h => h, (.inl ⟨rfl, fun W hW => by have c := hW.1; go_simp⟩), HSS.out, ?_⟩
    refine takeH (o := ?o22) 9 (.pointer (some ⟨b2, o2 + k, none⟩)) ?h22 ?r22
    case h22 => simp only [aT, aS, aZ]; rfl
    refine ⟨_, by simp [Act.put]; rfl, by kernel_rfl, by kernel_rfl, by kernel_rfl, fun _ _ _ h => h, (.inl ⟨rfl, fun W _ => by go_simp; first | done | (intro h; omega) | (rw [if_pos (by omega)]; rfl)⟩), HSS.out, ?_⟩
    refine takeH (o := ?o23) 10 (.int .i64 wt) ?h23 ?r23
    case h23 => simp only [aT, aS, aZ]; rfl
    refine ⟨_, by simp [Act.put]; rfl, by kernel_rfl, by kernel_rfl, by kernel_rfl, fun _ _ _ h => h, (.inl ⟨rfl, fun W hW => by have c := hW.2.2; go_simp⟩), HSS.out, ?_⟩
    refine takeH (o := ?o24) 11 (.int .i64 sh) ?h24 ?r24
    case h24 => simp only [aT, aS, aZ]; rfl
    refine ⟨_, by simp [Act.put]; rfl, by kernel_rfl, by kernel_rfl, by kernel_rfl, fun _ _ _ h => h, (.inl ⟨rfl, fun W _ => by go_simp⟩), HSS.out, ?_⟩
    refine onlyH (o := ?o25) 12 (by kernel_rfl) ?h25 ?r25
    case h25 => simp only [aT, aS, aZ]; rfl
    intro K hK
    refine op_callT3 33 _ _ _ _ Try.f33 (fun v w' => v = .bool (Tu.step ⟨(k : Int), yf, ys⟩ s sh).2 ∧ PV w' (w.heap.size + 2) X L off cap (Tu.step ⟨(k : Int), yf, ys⟩ s sh).1 ∧ Below (w.heap.size + 2) Y0 w') rfl rfl Try.func33 (by kernel_rfl) (by kernel_rfl) ((takes_any _ X L off cap k yf ys s sh Y0 HYY.out.2.2.2.1 hk3 HR.out hsr hshr).mono (by rintro e w' ⟨rfl, h1, h2⟩; exact ⟨_, rfl, rfl, h1, h2⟩)) ?_
    rintro _ Y1 ⟨rfl, pv1, bl1⟩
    obtain ⟨z, hz⟩ : ∃ z, z = Tu.step ⟨(k : Int), yf, ys⟩ s sh := ⟨_, rfl⟩
    have hzw : z.1.who = (k : Int) := by rw [hz]; exact step_who _ _ _
    rw [← hz] at pv1 HAT ⊢
    have H1 : Hid (PV Y1 (w.heap.size + 2) X L off cap z.1 ∧ Below w.heap.size w Y1 ∧ Blk Y1 (w.heap.size + 1) #[.int .i64 0, .bool false, .slice none 0 0] 26 ∧ z.1.who = (k : Int)) := ⟨pv1, HYY.out.2.2.2.2.1.trans (bl1.mono (by omega)), HYY.out.2.2.2.2.2.agree (bl1.block _ (by omega)), hzw⟩
    have HS3 : Hid (Y1.cell? ⟨X, 0, none⟩ = some (.int .i64 (k : Int)) ∧ Y1.cell? ⟨b1, o1 + k, none⟩ = some (.int .i64 s) ∧ Y1.cell? ⟨b2, o2 + k, none⟩ = some (.int .i64 wt)) := by
      refine ⟨by have c := pv1.blk.cell 0; rw [hzw] at c; exact c, (bl1.cell (p := ⟨b1, o1 + k, none⟩) ?_).trans HSS.out.2.1, (bl1.cell (p := ⟨b2, o2 + k, none⟩) ?_).trans HSS.out.2.2⟩
      · have := HS1.out.1.lt b1 (by simp); show b1 < _; omega
      · have := HS2.out.1.lt b2 (by simp); show b2 < _; omega
    refine ⟨_, by simp [Act.put]; rfl, hK _ _ ⟨HS3.out, ?_⟩⟩
    obtain ⟨b, hb⟩ : ∃ b, b = z.2 := ⟨_, rfl⟩
    have HBZ : Hid (b = z.2) := hb
    rw [← hb]
    clear hK pv1 bl1 hzw hz hb HSS
    refine takeH (o := ?o26) 13 (.bool (!b)) ?h26 ?r26
    case h26 => simp only [aT, aS, aZ]; rfl
    refine ⟨_, by simp [Act.put]; rfl, by kernel_rfl, by kernel_rfl, by kernel_rfl, fun _ _ _ h => h, (.inl ⟨rfl, fun W _ => by go_simp⟩), HS3.out, ?_⟩
    refine wpAnyH_done (by kernel_rfl) ?_ _
    cases b
    · skip
      obtain ⟨⟨zk, zf, zs⟩, zb⟩ := z
      obtain rfl : zk = (k : Int) := H1.out.2.2.2
      have hm : ((k : Int) + 1).tmod 3 = ((k : Int) + 1) % 3 := Int.tmod_eq_emod_of_nonneg (by omega)
      obtain ⟨m, hmm⟩ : ∃ m, m = ((k : Int) + 1) % 3 := ⟨_, rfl⟩
      rw [← hmm] at hm
      have hm3 : 0 ≤ m ∧ m ≤ 2 := by omega
      have HM : Hid (m = ((k : Int) + 1) % 3) := hmm
      clear hmm
      have c0 := H1.out.1.blk.cell 0
      have f0 := H1.out.1.blk.frozen 0
      have e1 := H1.out.1.who m
      have c1b := e1.blk.cell 1
      have f1b := e1.blk.frozen 1
      simp only [aT, aS, aZ] at c0 c1b
      have H2 : Hid (PV ((Y1.setCell ⟨X, 0, none⟩ (.int .i64 m)).setCell ⟨X, 1, none⟩ (.bool true)) (w.heap.size + 2) X L off cap ⟨m, true, zs⟩) := e1.fr true
      clear e1
      go_wp2
      go_roundg g
      case measure => omega
      case rel =>
        have hn : (Tu.at ⟨(k : Int), yf, ys⟩ ss ws q).2 = false := by rw [HAT.out]; exact HBZ.out.symm
        have hnx : (Tu.at ⟨(k : Int), yf, ys⟩ ss ws q).1.next = ⟨m, true, zs⟩ := by rw [HAT.out, HM.out]; rfl
        obtain ⟨p1, p2⟩ := step_mu HYY.out.1 hn
        have p3 := HYY.out.2.2.1
        rw [pickN_no hn] at p3
        rw [hnx] at p1 p2 p3
        exact ⟨⟨m, true, zs⟩, p2, by have := HYY.out.2.1; omega, p3, H2.out, (H1.out.2.1.setCell (by have := H1.out.1.ge; show w.heap.size ≤ X; omega) _).setCell (by have := H1.out.1.ge; show w.heap.size ≤ X; omega) _, (H1.out.2.2.1.setOther (by have := H1.out.1.ge; omega) 0 _).setOther (by have := H1.out.1.ge; omega) 1 _⟩
    · skip
      go_wp2_with fail
      obtain ⟨⟨zk, zf, zs⟩, zb⟩ := z
      obtain rfl : zk = (k : Int) := H1.out.2.2.2
      refine wp_region_held (S := fun W => Blk W X #[.int .i64 (k : Int), .bool zf, .slice (some ⟨L, off, none⟩) 3 cap] 26) (by kernel_rfl) ?_
      change wpAnyH _ _ _ _ _ _ _ _ (World.drew _)
      have BD := (Below.refl Y1.heap.size Y1).drew
      obtain ⟨Y2, hY2⟩ : ∃ Y, Y = Y1.drew := ⟨_, rfl⟩
      rw [← hY2] at BD ⊢
      have H2 : Hid (PV Y2 (w.heap.size + 2) X L off cap ⟨(k : Int), zf, zs⟩ ∧ Below w.heap.size w Y2 ∧ Blk Y2 (w.heap.size + 1) #[.int .i64 0, .bool false, .slice none 0 0] 26) := ⟨H1.out.1.below BD, Below.next H1.out.2.1 BD, H1.out.2.2.1.below BD⟩
      have HS : Hid (Blk Y2 X #[.int .i64 (k : Int), .bool zf, .slice (some ⟨L, off, none⟩) 3 cap] 26) := H2.out.1.blk
      clear hY2 BD
      refine takeH (o := ?o27) 0 (.pointer (some ⟨X, 0, none⟩)) ?h27 ?r27
      case h27 => simp only [aT, aZ]; rfl
      refine ⟨_, by simp [Act.put]; rfl, by kernel_rfl, by kernel_rfl, by kernel_rfl, fun _ _ _ h => h, (.inl ⟨rfl, fun W _ => by go_simp⟩), HS.out, ?_⟩
      refine takeH (o := ?o28) 1 (.int .i64 (k : Int)) ?h28 ?r28
      case h28 => simp only [aT, aS, aZ]; rfl
      refine ⟨_, by simp [Act.put]; rfl, by kernel_rfl, by kernel_rfl, by kernel_rfl, fun _ _ _ h => h, (.inl ⟨rfl, fun W hW => by have c := hW.cell 0; simp only [aT, aZ] at c; go_simp⟩), HS.out, ?_⟩
      refine takeH (o := ?o29) 2 (.agg #[.int .i64 (k : Int), .bool zf, .slice (some ⟨L, off, none⟩) 3 cap]) ?h29 ?r29
      case h29 => simp only [aT, aS, aZ]; rfl
      refine ⟨_, by simp [Act.put]; rfl, by kernel_rfl, by kernel_rfl, by kernel_rfl, fun _ _ _ h => h, (yields_whole 26 _ #[.int .i64 (k : Int), .bool zf, .slice (some ⟨L, off, none⟩) 3 cap] 26 _ rfl rfl rfl Try.underlying26 rfl infoTuI (fun W hW => hW)), HS.out, ?_⟩
      refine takeH (o := ?o30) 3 (.int .i64 (k : Int)) ?h30 ?r30
      case h30 => simp only [aT, aS, aZ]; rfl
      refine ⟨_, by simp [Act.put]; rfl, by kernel_rfl, by kernel_rfl, by kernel_rfl, fun _ _ _ h => h, (.inl ⟨rfl, fun W _ => by kernel_rfl⟩), HS.out, ?_⟩
      refine onlyH (o := ?o31) 4 (by kernel_rfl) ?h31 ?r31
      case h31 => simp only [aT, aS, aZ]; rfl
      intro K hK
      refine op_store 26 (w.heap.size + 1) #[.int .i64 0, .bool false, .slice none 0 0] #[.int .i64 (k : Int), .bool zf, .slice (some ⟨L, off, none⟩) 3 cap] 26 rfl rfl rfl rfl H2.out.2.2 infoTuI rfl (by simp [Value.oneCell']) ⟨_, by simp [Act.put]; rfl, hK _ _ ⟨HS.out.setRowOther (by have := H2.out.1.ge; omega), ?_⟩⟩
      clear hK
      refine wpAnyH_done (by kernel_rfl) ?_ _
      go_wp2
      refine bodyPost_ret (results_tmp_rowT Try.results9 _ _ (w.heap.size + 1) _ _ (0, 0) _ rfl H2.out.2.2.setRow Try.underlying26 rfl infoTuI) rfl ?_
      have hy : (Tu.at ⟨(k : Int), yf, ys⟩ ss ws q).2 = true := by rw [HAT.out]; exact HBZ.out.symm
      have p3 := HYY.out.2.2.1
      rw [pickN_yes hy, HAT.out] at p3
      rw [HV.out, ← p3]
      have ag := Agree.row (w := Y2) (g := w.heap.size + 1) (F := [L]) (fun hx => by have := H2.out.1.ge2; simp at hx; omega) #[.int .i64 (k : Int), .bool zf, .slice (some ⟨L, off, none⟩) 3 cap]
      exact ⟨_, [L], rfl, H2.out.1.value.agree ag, (H2.out.1.own.agree ag).mono (by omega), below_setRow H2.out.2.1 (by omega) _⟩
set_option maxRecDepth 200000 in
theorem pick_impl_any (a1 a2 : Option Addr) (n1 k1 n2 k2 : Nat) (ss ws : List Int) (F1 F2 : List Nat) (q : Int) (v : Value) (x : Tu) (F : List Nat) (w : World) (h1 : RdI w a1 n1 ss F1) (h2 : RdI w a2 n2 ws F2) (h3 : RdTu w v x F) (hl1 : n1 ≤ 1048576) (hl2 : n2 ≤ 1048576) (hx : x.fits) :
    Calls Try.prog 9 #[.slice a1 n1 k1, .slice a2 n2 k2, .int .i64 q, v] w fun e w' => NewPick w (pick ss ws q x) e w' := by
  cases h : picks ss ws q x
  · exact pick_impl_bad a1 a2 n1 k1 n2 k2 ss ws F1 F2 q v x F w h1 h2 h3 hl1 hl2 hx h
  · exact pick_impl_good a1 a2 n1 k1 n2 k2 ss ws F1 F2 q v x F w h1 h2 h3 hl1 hl2 hx h
end Go.Proofs.Ythimjmkdcocofaa
