/- Several texts of mine, laid together. No statement of the seat is proved here. -/
import Derived.Test.YtfbfklgjccbplaqB1
import Derived.Maps.AppendAt
import Derived.BigRegion
import Derived.Deep.RegionHeld3
import Derived.Laws.StructEq
import Derived.Test.YtfbfklgjccbplaqItModel
import Derived.Test.YtfbfklgjccbplaqFrModel
import Derived.Test.YtfbfklgjccbplaqSkOk
import Derived.ArgAppend
import Derived.Deep.DeepCutAuto
import Derived.Test.YtfbfklgjccbplaqItHelp2
import Derived.Test.YtfbfklgjccbplaqFrData
import Derived.Test.YtfbfklgjccbplaqSkLaw
/- The walk through the program's laying of spans behind a set that it makes. No statement of the seat is proved here. -/
namespace Go.Proofs.Ytfbfklgjccbplaq
open Go.RowKit
theorem lay1_apart {o : Sp} {x : Int × Int} (h : o = [] ∨ (o.at (o.length - 1)).2 + 1 < x.1) : lay1 o x = o ++ [x] := by unfold lay1; rw [if_pos h]
theorem lay1_widen {o : Sp} {x : Int × Int} (h : ¬ (o = [] ∨ (o.at (o.length - 1)).2 + 1 < x.1)) : lay1 o x = o.take (o.length - 1) ++ [((o.at (o.length - 1)).1, max (o.at (o.length - 1)).2 x.2)] := by unfold lay1; rw [if_neg h]
theorem lay_drop {o xs : Sp} {k : Nat} (hk : k < xs.length) : lay o (xs.drop k) = lay (lay1 o (xs.at k)) (xs.drop (k + 1)) := by rw [drop_at hk]; rfl
theorem lay1_inb {o : Sp} {x : Int × Int} (h : ∀ p ∈ o, InB p) (hx : InB x) : ∀ p ∈ lay1 o x, InB p := by
  intro p hp
  unfold lay1 at hp
  split at hp
  · rcases List.mem_append.1 hp with hp | hp
    · exact h p hp
    · obtain rfl : p = x := by simpa using hp
      exact hx
  · rename_i hc
    rcases List.mem_append.1 hp with hp | hp
    · exact h p (List.mem_of_mem_take hp)
    · have e : p = ((o.at (o.length - 1)).1, max (o.at (o.length - 1)).2 x.2) := by simpa using hp
      have hne : 0 < o.length := List.length_pos_iff.2 (fun e => hc (.inl e))
      have := h _ (Sp.at_mem (ps := o) (k := o.length - 1) (by omega))
      subst e
      unfold InB at this hx ⊢
      simp only
      omega
theorem lay1_length (o : Sp) (x : Int × Int) : (lay1 o x).length ≤ o.length + 1 := by
  unfold lay1
  split
  · simp
  · simp
theorem lay_length : ∀ (xs o : Sp), (lay o xs).length ≤ o.length + xs.length
  | [], o => by simp [lay]
  | x :: xs, o => by
    have h1 := lay_length xs (lay1 o x)
    have h2 := lay1_length o x
    rw [show lay o (x :: xs) = lay (lay1 o x) xs from rfl]
    simp
    omega
theorem lay_inb : ∀ {xs o : Sp}, (∀ p ∈ o, InB p) → (∀ p ∈ xs, InB p) → ∀ p ∈ lay o xs, InB p
  | [], _, h, _ => h
  | x :: xs, o, h, hx => lay_inb (xs := xs) (lay1_inb h (hx x (by simp))) (fun p hp => hx p (by simp [hp]))
theorem flat_widen {o : Sp} {m : Nat} (hm : o.length = m + 1) (z : Int) : flat (o.take m ++ [((o.at m).1, z)]) = (flat o).set (m * 2 + 1) z := by
  have e : o = o.take m ++ [o.at m] := by
    have := takeP_succ o m (by omega)
    rw [List.take_of_length_le (by omega)] at this
    exact this
  have hl : (flat (o.take m)).length = m * 2 := by rw [flat_length]; simp; omega
  conv => rhs; rw [e]
  rw [flat_append, flat_append, List.set_append_right (m * 2 + 1) _ (by omega), hl, show m * 2 + 1 - m * 2 = 1 by omega]
  simp [flat]
/-- The set that is made: what it holds, and that nothing else was written since w. -/
structure LayAt (w : World) (B : Nat) (v0 v : Value) (o : Sp) (W : World) : Prop where
  own : W.ownsRow B 92 2 v o.length ((flat o).map (Value.int .i64))
  grown : w.grownBy W v0.ownBlock
  fresh : v.ownBlock = v0.ownBlock ∨ ∀ g, v.ownBlock = some g → w.heap.size ≤ g
theorem LayAt.alloc {w W : World} {B : Nat} {v0 v : Value} {o : Sp} (h : LayAt w B v0 v o W) (ob : Obj) : LayAt w B v0 v o (W.alloc ob) :=
  ⟨h.own.alloc _, ⟨h.grown.os, h.grown.tape, h.grown.output, by have := h.grown.size; simp; omega, fun k hk hne => (Below.heap_alloc W ob k (by have := h.grown.size; omega)).trans (h.grown.block k hk hne)⟩, h.fresh⟩
theorem LayAt.drewN {w W : World} {B : Nat} {v0 v : Value} {o : Sp} (h : LayAt w B v0 v o W) (m : Nat) : LayAt w B v0 v o (W.drewN m) :=
  ⟨⟨h.own.1, h.own.2⟩, ⟨h.grown.os, h.grown.tape, h.grown.output, h.grown.size, h.grown.block⟩, h.fresh⟩
theorem LayAt.app {w W W6 : World} {B : Nat} {v0 v v' : Value} {o : Sp} {p q : Int} {ob : Obj} (h : LayAt w B v0 v o W) (hown : W6.ownsRow B 92 2 v' (o.length + 1) ((flat o).map (Value.int .i64) ++ [.int .i64 p, .int .i64 q])) (hgrow : (W.alloc ob).grownBy W6 v.ownBlock) (hob : v'.ownBlock = v.ownBlock ∨ v'.ownBlock = some (W.alloc ob).heap.size) : LayAt w B v0 v' (o ++ [(p, q)]) W6 := by
  have ha := h.alloc ob
  refine ⟨?_, ⟨hgrow.os.trans ha.grown.os, hgrow.tape.trans ha.grown.tape, hgrow.output.trans ha.grown.output, Nat.le_trans ha.grown.size hgrow.size, fun k hk hne => ?_⟩, ?_⟩
  · rw [flat_append, List.map_append, List.length_append]
    exact hown
  · refine (hgrow.block k (Nat.lt_of_lt_of_le hk ha.grown.size) (fun e => ?_)).trans (ha.grown.block k hk hne)
    rcases h.fresh with f | f
    · exact hne (e.trans f)
    · have := f k e.symm; omega
  · rcases hob with e | e
    · rw [e]; exact h.fresh
    · right
      intro g hg
      rw [e] at hg
      cases hg
      exact ha.grown.size
theorem LayAt.widen {w W : World} {B g n cap m : Nat} {v0 : Value} {o : Sp} (h : LayAt w B v0 (.slice (some ⟨g, 0, none⟩) n cap) o W) (hm : o.length = m + 1) (z : Int) : LayAt w B v0 (.slice (some ⟨g, 0, none⟩) n cap) (o.take m ++ [((o.at m).1, z)]) (W.setCell ⟨g, m * 2 + 1, none⟩ (.int .i64 z)) := by
  refine ⟨?_, ⟨h.grown.os, h.grown.tape, h.grown.output, by have := h.grown.size; simp; omega, fun k hk hne => ?_⟩, h.fresh⟩
  · have hl : (o.take m ++ [((o.at m).1, z)]).length = o.length := by simp; omega
    rw [hl, flat_widen hm]
    refine ⟨by have := h.own.1; simpa using this, ?_⟩
    rcases h.own.2 with ⟨e, _⟩ | ⟨g', cap', cur, e, h2, h3, h4, h5, h6, h7⟩
    · cases e
    · cases e
      refine .inr ⟨g, cap, cur.setIfInBounds (m * 2 + 1) (.int .i64 z), rfl, h2, ?_, h4, h5, by simpa using h6, ?_⟩
      · exact Blk.set (w := W) (g := g) (cs := cur) h3 (m * 2 + 1) _
      · rw [Array.toList_setIfInBounds, List.take_set, h7]
        simp
  · have hg : k ≠ g := by
      rintro rfl
      rcases h.fresh with f | f
      · exact hne f
      · have := f k rfl; omega
    exact (Below.heap_setCell W ⟨g, m * 2 + 1, none⟩ _ k hg).trans (h.grown.block k hk hne)
theorem LayAt.cells {w W : World} {B g n cap : Nat} {v0 : Value} {o : Sp} (h : LayAt w B v0 (.slice (some ⟨g, 0, none⟩) n cap) o W) {m : Nat} (hm : m < o.length) : W.cell? ⟨g, m * 2, none⟩ = some (.int .i64 (o.at m).1) ∧ W.cell? ⟨g, m * 2 + 1, none⟩ = some (.int .i64 (o.at m).2) ∧ ∀ j, W.frozen? ⟨g, j, none⟩ = false := by
  have hn : o.length = n := by
    rcases h.own.2 with ⟨e, _⟩ | ⟨g', cap', cur, e, _⟩
    · cases e
    · cases e; rfl
  have own := h.own
  rw [hn] at own
  have hl := flat_length o
  have e1 := own.cellAt (m * 2) (by omega)
  have e2 := own.cellAt (m * 2 + 1) (by omega)
  refine ⟨?_, ?_, fun j => own.frozenAt j⟩
  · rw [e1]
    have := flat_lo o m
    rw [show 2 * m = m * 2 by omega, List.getElem?_eq_getElem (by omega)] at this
    simp only [List.getElem?_map, List.getElem?_eq_getElem (show m * 2 < (flat o).length by omega), Option.map_some]
    unfold Sp.at
    rw [← this]; rfl
  · rw [e2]
    have := flat_hi o m
    rw [show 2 * m = m * 2 by omega, List.getElem?_eq_getElem (by omega)] at this
    simp only [List.getElem?_map, List.getElem?_eq_getElem (show m * 2 + 1 < (flat o).length by omega), Option.map_some]
    unfold Sp.at
    rw [← this]; rfl
end Go.Proofs.Ytfbfklgjccbplaq
/- The walk through the program's laying of spans behind a set that it makes. No statement of the seat is proved here. -/
namespace Go.Proofs.Ytfbfklgjccbplaq
open Go.RowKit
/-- A set of the maker's own: not nil. -/
theorem own_cases {W : World} {B e n : Nat} {v : Value} {xs : List Value} (h : W.ownsRow B e 2 v n xs) : (v = .slice none 0 0 ∧ n = 0) ∨ ∃ g cap n', v = .slice (some ⟨g, 0, none⟩) n' cap ∧ n' = n ∧ n ≤ cap := by
  rcases h.2 with e | ⟨g, cap, cur, e, _, _, h4, _⟩
  · exact .inl e
  · exact .inr ⟨g, cap, n, e, rfl, h4⟩
end Go.Proofs.Ytfbfklgjccbplaq
/- The walks through the program's cutting of a set, and its going through two sets. No statement of the seat is proved here. -/
namespace Go.Proofs.Ytfbfklgjccbplaq
open Go.RowKit
theorem flat_take : ∀ (ps : Sp) (k : Nat), flat (ps.take k) = (flat ps).take (2 * k)
  | [], k => by simp [flat]
  | p :: ps, 0 => by simp [flat]
  | p :: ps, k + 1 => by rw [List.take_succ_cons, flat, flat, flat_take ps k, show 2 * (k + 1) = 2 * k + 1 + 1 by omega, List.take_succ_cons, List.take_succ_cons]
theorem flat_drop : ∀ (ps : Sp) (k : Nat), flat (ps.drop k) = (flat ps).drop (2 * k)
  | [], k => by simp [flat]
  | p :: ps, 0 => by simp [flat]
  | p :: ps, k + 1 => by rw [List.drop_succ_cons, flat, flat_drop ps k, show 2 * (k + 1) = 2 * k + 1 + 1 by omega, List.drop_succ_cons, List.drop_succ_cons]
theorem RdP.take {w : World} {a : Option Addr} {len : Nat} {ps : Sp} {F : List Nat} (h : RdP w a len ps F) {k : Nat} (hk : k ≤ len) : ∃ G, RdP w a k (ps.take k) G ∧ ∀ b ∈ G, b ∈ F := by
  have hl := h.length
  by_cases h0 : k = 0
  · subst h0
    exact ⟨[], by simpa using (RdP.nil (w := w) (a := a)), by simp⟩
  · rcases h.rd.cells with ⟨e, _⟩ | ⟨b, off, hp, e, eF, hc⟩
    · omega
    · refine ⟨F, ⟨by simp; omega, ?_, .inr ⟨b, off, by omega, e, eF, fun i hi => ?_⟩⟩, fun b hb => hb⟩
      · rw [flat_length]; simp; omega
      · rw [hc i (by omega), flat_take]
        simp [List.getD_eq_getElem?_getD, hi]
theorem RdP.drop {w : World} {b off len : Nat} {ps : Sp} {F : List Nat} (h : RdP w (some ⟨b, off, none⟩) len ps F) {k : Nat} (hk : k < len) : RdP w (some ⟨b, off + k * 2, none⟩) (len - k) (ps.drop k) F := by
  have hl := h.length
  rcases h.rd.cells with ⟨e, _⟩ | ⟨b', off', hp, e, eF, hc⟩
  · omega
  · obtain ⟨rfl, rfl⟩ : b = b' ∧ off = off' := by simpa using e
    refine ⟨by simp; omega, ?_, .inr ⟨b, off + k * 2, by omega, rfl, eF, fun i hi => ?_⟩⟩
    · rw [flat_length]; simp; omega
    · rw [show off + k * 2 + i = off + (2 * k + i) by omega, hc (2 * k + i) (by omega), flat_drop]
      simp [List.getD_eq_getElem?_getD]
theorem cutN_at {ps : Sp} {k : Nat} {n : Int} (hk : k < ps.length) (h : (ps.at k).1 ≤ n) : cutN (ps.drop k) n = cutN (ps.drop (k + 1)) n + 1 := by rw [drop_at hk, cutN, if_pos h]
theorem cutN_stop {ps : Sp} {k : Nat} {n : Int} (hk : k < ps.length) (h : ¬ (ps.at k).1 ≤ n) : cutN (ps.drop k) n = 0 := by rw [drop_at hk, cutN, if_neg h]
/-- What a cut tells: the part ahead, the part behind, both out of what was there. -/
def CutTo (w : World) (ps : Sp) (F : List Nat) (k : Nat) (e : Ending) (w' : World) : Prop :=
  ∃ a1 l1 c1 a2 l2 c2 F1 F2, e = .returned (.tuple #[.slice a1 l1 c1, .slice a2 l2 c2]) ∧ RdP w a1 l1 (ps.take k) F1 ∧ RdP w a2 l2 (ps.drop k) F2 ∧ (∀ b ∈ F1, b ∈ F) ∧ (∀ b ∈ F2, b ∈ F) ∧ l2 ≤ c2 ∧ QuietTo w w'
end Go.Proofs.Ytfbfklgjccbplaq
/- The walk through the program's going through two sets. No statement of the seat is proved here. -/
namespace Go.Proofs.Ytfbfklgjccbplaq
open Go.RowKit
theorem RdP.move {w W : World} {B : Nat} {a : Option Addr} {len : Nat} {ps : Sp} {F : List Nat} (h : RdP w a len ps F) (hF : ∀ b ∈ F, b < B) (h1 : Below B w W) : RdP W a len ps F := h.agree (fun b hb => h1.block b (hF b hb))
theorem RdP.back {w W : World} {B : Nat} {a : Option Addr} {len : Nat} {ps : Sp} {F : List Nat} (h : RdP W a len ps F) (hF : ∀ b ∈ F, b < B) (h1 : Below B w W) : RdP w a len ps F := h.agree (fun b hb => (h1.block b (hF b hb)).symm)
theorem LayAt.below {w W : World} {B n : Nat} {v0 v : Value} {o : Sp} {xs : List Value} (h : LayAt w B v0 v o W) (h0 : w.ownsRow B 92 2 v0 n xs) (hB : B ≤ w.heap.size) : Below B w W :=
  ⟨h.grown.os, h.grown.tape, h.grown.output, h.grown.size, fun k hk => h.grown.block k (by omega) (fun e => by have := (h0.lt k e.symm).1; omega)⟩
/-- Midway in a round: the set that is made, the span's box. -/
structure MidB (w : World) (nb : Nat) (x y : Int) (v : Value) (o : Sp) (W : World) : Prop where
  own : W.ownsRow w.heap.size 92 2 v o.length ((flat o).map (Value.int .i64))
  bel : Below w.heap.size w W
  box : Blk W nb #[.int .i64 x, .int .i64 y] 92
  ne : some nb ≠ v.ownBlock
theorem MidB.alloc {w : World} {nb : Nat} {x y : Int} {v : Value} {o : Sp} {W : World} (h : MidB w nb x y v o W) (ob : Obj) : MidB w nb x y v o (W.alloc ob) := ⟨h.own.alloc _, Below.allocW _ h.bel (Nat.le_refl _), h.box.alloc _, h.ne⟩
theorem MidB.drew {w : World} {nb : Nat} {x y : Int} {v : Value} {o : Sp} {W : World} (h : MidB w nb x y v o W) : MidB w nb x y v o W.drew := ⟨⟨h.own.1, h.own.2⟩, h.bel.drew, h.box, h.ne⟩
/-- Behind the first laying: what lay beside lies there still. -/
structure AftB (w : World) (nb : Nat) (x y : Int) (v v' : Value) (o' : Sp) (W W' : World) : Prop where
  mid : MidB w nb x y v' o' W'
  old : ∀ g cs t, Blk W g cs t → some g ≠ v.ownBlock → Blk W' g cs t ∧ some g ≠ v'.ownBlock
theorem AftB.of {w : World} {nb : Nat} {x y : Int} {v v' : Value} {o o' : Sp} {W W' : World} (h : MidB w nb x y v o W) (k : LayAt W w.heap.size v v' o' W') : AftB w nb x y v v' o' W W' := by
  have hold : ∀ g cs t, Blk W g cs t → some g ≠ v.ownBlock → Blk W' g cs t ∧ some g ≠ v'.ownBlock := fun g cs t hb hne => by
    refine ⟨hb.agree (k.grown.block g hb.lt hne), ?_⟩
    rcases k.fresh with e | e
    · rw [e]; exact hne
    · intro e2; have := e g e2.symm; have := hb.lt; omega
  obtain ⟨h1, h2⟩ := hold _ _ _ h.box h.ne
  exact ⟨⟨k.own, h.bel.trans (k.below h.own h.bel.size), h1, h2⟩, hold⟩
/-- Ahead of the second laying: the one span's slice. -/
structure TwoB (w : World) (nb : Nat) (x y : Int) (v' : Value) (o' : Sp) (g : Nat) (W : World) : Prop where
  mid : MidB w nb x y v' o' W
  one : Blk W g #[.int .i64 x, .int .i64 y] 92
  ne : some g ≠ v'.ownBlock
theorem AftB.two {w : World} {nb : Nat} {x y : Int} {v v' : Value} {o o' : Sp} {W W' : World} (h : AftB w nb x y v v' o' (W.alloc (.cells #[.int .i64 x, .int .i64 y] 92)).drew W') (k : MidB w nb x y v o W) : TwoB w nb x y v' o' W.heap.size W' := by
  obtain ⟨h1, h2⟩ := h.old _ _ _ (Blk.made W _ _) (fun e => by have := (k.own.lt _ e.symm).2; omega)
  exact ⟨h.mid, h1, h2⟩
theorem AftB.new {w : World} {nb : Nat} {x y : Int} {v v' : Value} {o' : Sp} {W W' : World} (h : AftB w nb x y v v' o' W W') : TwoB w nb x y v' o' W'.heap.size (W'.alloc (.cells #[.int .i64 x, .int .i64 y] 92)) :=
  ⟨h.mid.alloc _, Blk.made _ _ _, fun e => by have := (h.mid.own.lt _ e.symm).2; omega⟩
theorem rdP_one {W : World} {g : Nat} {x y : Int} {t : TypeId} (h : Blk W g #[.int .i64 x, .int .i64 y] t) : RdP W (some ⟨g, 0, none⟩) 1 [(x, y)] [g] :=
  ⟨rfl, rdI_tcv (xs := flat [(x, y)]) (by simpa [tcv, flat] using h) (by simp [flat]) (by omega)⟩
/-- Ahead of a round. -/
structure BInv (w : World) (ps qs : Sp) (k : Nat) (o rs : Sp) (aa : Option Addr) (la ca : Nat) (F : List Nat) (v : Value) (wr : World) : Prop where
  own : wr.ownsRow w.heap.size 92 2 v o.length ((flat o).map (Value.int .i64))
  bel : Below w.heap.size w wr
  rd : RdP w aa la rs F
  lt : ∀ b ∈ F, b < w.heap.size
  cap : la ≤ ca
  len : o.length + rs.length ≤ ps.length + k
  ino : ∀ p ∈ o, InB p
  ina : ∀ p ∈ rs, InB p
  eq : both rs (qs.drop k) o = both ps qs []
end Go.Proofs.Ytfbfklgjccbplaq
/- The walks through the program's copying of a set, and the library's comparing of two. No statement of the seat is proved here. -/
namespace Go.Proofs.Ytfbfklgjccbplaq
open Go.RowKit
theorem run_copy_row2 {P : Program} (w : World) (dT sT ty elem : TypeId) (g len dCap : Nat) (a : Addr) (sCap : Nat) (cur : Array Value) (t : TypeId) (cs : List Value)
    (hu : P.underlying dT = some (.slice elem)) (hs : (P.info? elem).map (·.size) = some 2)
    (hg : w.heap[g]? = some (.cells cur t (0, 0))) (hn : cs.length = len * 2)
    (hsrc : ∀ j v, cs[j]? = some v → w.cell? (a.add j) = some v) (hfit : cs.length ≤ cur.size) (h1 : ∀ v ∈ cs, v.oneCell' = true) :
    (Builtin.copy_ #[dT, sT] ty #[.slice (some ⟨g, 0, none⟩) len dCap, .slice (some a) len sCap]).run P w =
      .ok (goInt len) (w.setRow g (cs ++ cur.toList.drop cs.length).toArray) := by
  have hl := run_loadCells_list (P := P) w a cs hsrc
  have hst := run_storeCells_at P g 0 t cs 0 cur w hg (by simpa using hfit) h1
  rw [hn] at hl
  cases hq : P.info? elem with
  | none => simp [hq] at hs
  | some i =>
    have hi : i.size = 2 := by simpa [hq] using hs
    simp [Builtin.copy_, run_underlying hu, Builtin.lenOf, Builtin.firstCells, sizeOf, typeInfo, hq, hi, hl, hst]
theorem run_copy_none2 {P : Program} (w : World) (dT sT ty elem : TypeId) (d a : Option Addr) (dCap sCap : Nat) (hu : P.underlying dT = some (.slice elem)) (hs : (P.info? elem).map (·.size) = some 2) :
    (Builtin.copy_ #[dT, sT] ty #[.slice d 0 dCap, .slice a 0 sCap]).run P w = .ok (goInt 0) w := by
  cases hq : P.info? elem with
  | none => simp [hq] at hs
  | some i =>
    have hl : ∀ (x : Addr), (loadCells x 0).run P w = .ok #[] w := fun x => by simpa using run_loadCells_list (P := P) w x [] (by simp)
    cases d <;> cases a <;> simp [Builtin.copy_, run_underlying hu, Builtin.lenOf, Builtin.firstCells, sizeOf, typeInfo, hq, storeCells, hl]
theorem wpList_copy_none2 {P : Program} {w : World} {ops : Array Oper} {rest : List Oper} {o : Oper} {a : Act} {Q : Exit → Act → World → Prop} (hgd : o.guard = none) (d s : Operand) (dT sT : TypeId)
    (ho : o.op = .call { callee := .builtin .copy, args := #[d, s], argTypes := #[dT, sT] }) (elem : TypeId) (hu : P.underlying dT = some (.slice elem)) (hsz : (P.info? elem).map (·.size) = some 2)
    (dp sp : Option Addr) (dCap sCap : Nat) (hd : a.eval d = .slice dp 0 dCap) (hs : a.eval s = .slice sp 0 sCap)
    (h : wpList P ops Q rest (a.put o.dst (goInt 0)) w) : wpList P ops Q (o :: rest) a w := by
  refine wpList_plain hgd fun K hK => ?_
  have hrun := run_copy_none2 (P := P) w dT sT o.type elem dp sp dCap sCap hu hsz
  unfold Oper.wp
  simp [execOp, ho, resolve, invoke, builtin, hd, hs, hrun, Result.andThen]
  exact hK _ _ h
theorem wpList_copy_own2 {P : Program} {w : World} {ops : Array Oper} {rest : List Oper} {o : Oper} {a : Act} {Q : Exit → Act → World → Prop} (hgd : o.guard = none) (d s : Operand) (dT sT : TypeId)
    (ho : o.op = .call { callee := .builtin .copy, args := #[d, s], argTypes := #[dT, sT] }) (elem : TypeId) (hu : P.underlying dT = some (.slice elem)) (hsz : (P.info? elem).map (·.size) = some 2)
    (g len dCap : Nat) (ad : Addr) (sCap : Nat) (hd : a.eval d = .slice (some ⟨g, 0, none⟩) len dCap) (hs : a.eval s = .slice (some ad) len sCap)
    (cur : Array Value) (t : TypeId) (hg : w.heap[g]? = some (.cells cur t (0, 0))) (cs : List Value) (hn : cs.length = len * 2)
    (hsrc : ∀ j v, cs[j]? = some v → w.cell? (ad.add j) = some v) (hfit : cs.length ≤ cur.size) (h1 : ∀ v ∈ cs, v.oneCell' = true)
    (h : wpList P ops Q rest (a.put o.dst (goInt len)) (w.setRow g (cs ++ cur.toList.drop cs.length).toArray)) : wpList P ops Q (o :: rest) a w := by
  refine wpList_plain hgd fun K hK => ?_
  have hrun := run_copy_row2 (P := P) w dT sT o.type elem g len dCap ad sCap cur t cs hu hsz hg hn hsrc hfit h1
  unfold Oper.wp
  simp [execOp, ho, resolve, invoke, builtin, hd, hs, hrun, Result.andThen]
  exact hK _ _ h
theorem infoSpan2 : (Try.prog.info? 92).map (·.size) = some 2 := by kernel_rfl
theorem flat_one {ps : Sp} : ∀ v ∈ (flat ps).map (Value.int .i64), v.oneCell' = true := by
  intro v hv
  obtain ⟨x, _, rfl⟩ := List.mem_map.1 hv
  rfl
theorem sp_eta (p : Int × Int) : p = (p.1, p.2) := rfl
set_option maxRecDepth 200000 in
set_option maxHeartbeats 2000000 in
theorem slEqualP_any (a b : Option Addr) (la lb ca cb : Nat) (xs ys : Sp) (F G : List Nat) (w : World) (ha : RdP w a la xs F) (hb : RdP w b lb ys G) (hla : la ≤ 140737488355328) (hlb : lb ≤ 140737488355328) :
    Calls Try.prog 72 #[.slice a la ca, .slice b lb cb] w fun e w' => e = .returned (.bool (decide (xs = ys))) ∧ QuietTo w w' := by
  have Hx : Hid (xs.length = la) := ha.length
  have Hy : Hid (ys.length = lb) := hb.length
  by_cases hl : la = lb
  · subst hl
    have hbne : ((la : Int) != (la : Int)) = false := by simp
    have HCA : Hid (la = 0 ∨ ∃ b1 o1, a = some ⟨b1, o1, none⟩ ∧ b1 < w.heap.size ∧ SpCells w b1 o1 la xs) := cells_of ha
    have HCB : Hid (la = 0 ∨ ∃ b1 o1, b = some ⟨b1, o1, none⟩ ∧ b1 < w.heap.size ∧ SpCells w b1 o1 la ys) := cells_of hb
    clear ha hb
    go_enter Try.func72, Try.ntmps72
    go_wp2
    go_loopw [13] (fun i wr => ∃ k : Nat, k ≤ la ∧ i = .int .i64 k ∧ Hid (xs.take k = ys.take k) ∧ Hid (QuietTo w wr)) (fun i _ => la - (intOf i).toNat)
    case atStart => exact ⟨0, by omega, rfl, rfl, QuietTo.refl _⟩
    case round =>
      obtain ⟨k, hk, rfl, HT, HQ⟩ := hrel
      by_cases hlt : k < la
      · rcases HCA.out with h0 | ⟨b1, o1, rfl, hbw1, hc1⟩
        · omega
        rcases HCB.out with h0 | ⟨b2, o2, rfl, hbw2, hc2⟩
        · omega
        obtain ⟨x, hx⟩ : ∃ x, x = (xs.at k).1 := ⟨_, rfl⟩
        obtain ⟨y, hy⟩ : ∃ x, x = (xs.at k).2 := ⟨_, rfl⟩
        obtain ⟨x', hx'⟩ : ∃ x, x = (ys.at k).1 := ⟨_, rfl⟩
        obtain ⟨y', hy'⟩ : ∃ x, x = (ys.at k).2 := ⟨_, rfl⟩
        have e1 := hc1 k hlt
        have e2 := hc2 k hlt
        rw [← hx, ← hy] at e1
        rw [← hx', ← hy'] at e2
        have d1 : wr.cell? ⟨b1, o1 + k * 2, none⟩ = some (.int .i64 x) := (HQ.out.cell _).trans e1.1
        have d2 : wr.cell? ⟨b1, o1 + k * 2 + 1, none⟩ = some (.int .i64 y) := (HQ.out.cell _).trans e1.2
        have d3 : wr.cell? ⟨b2, o2 + k * 2, none⟩ = some (.int .i64 x') := (HQ.out.cell _).trans e2.1
        have d4 : wr.cell? ⟨b2, o2 + k * 2 + 1, none⟩ = some (.int .i64 y') := (HQ.out.cell _).trans e2.2
        have HE : Hid ((x = x' ∧ y = y') ↔ xs[k]?.getD (0, 0) = ys[k]?.getD (0, 0)) := by rw [hx, hy, hx', hy']; exact Prod.ext_iff.symm
        have hI : (k : Int) < (la : Int) := by omega
        clear e1 e2 hx hy hx' hy' hc1 hc2
        by_cases c : x = x' ∧ y = y'
        · have e1 : (x == x') = true := by simp [c.1]
          have e2 : (y == y') = true := by simp [c.2]
          have HT2 : Hid (xs.take (k + 1) = ys.take (k + 1)) := eqP_step (by rw [Hx.out, Hy.out]) (by rw [Hx.out]; exact hlt) HT.out (HE.out.1 c)
          clear c
          go_wp2
          go_quiet (fail)
          go_wp2
          go_roundw
          case rel => exact ⟨k + 1, by omega, by go_num, HT2, HQ.out.drewN _⟩
          case measure => simp [intOf]; omega
        have HV : Hid (decide (xs = ys) = false) := neP_of_at (fun e => c (HE.out.2 e))
        by_cases c1 : x = x'
        · have e1 : (x == x') = true := by simp [c1]
          have e2 : (y == y') = false := by simpa using (fun e => c ⟨c1, e⟩)
          clear c c1
          go_wp2
          go_quiet (fail)
          go_wp2
          go_ret
          exact ⟨ret_bool HV.out.symm, HQ.out.drewN _⟩
        · have e1 : (x == x') = false := by simpa using c1
          clear c c1
          go_wp2
          go_quiet (fail)
          go_wp2
          go_ret
          exact ⟨ret_bool HV.out.symm, HQ.out.drewN _⟩
      · obtain rfl : k = la := by omega
        go_wp2
        go_ret
        exact ⟨ret_bool (eqP_end Hx.out Hy.out HT.out).symm, HQ.out⟩
  · have hbne : ((la : Int) != (lb : Int)) = true := by simp; omega
    have e : decide (xs = ys) = false := by
      rw [decide_eq_false_iff_not]; intro e; subst e; exact hl (Hx.out.symm.trans Hy.out)
    clear ha hb
    go_enter Try.func72, Try.ntmps72
    go_wp2
    go_ret
    exact ⟨ret_bool e.symm, QuietTo.refl _⟩
end Go.Proofs.Ytfbfklgjccbplaq
/- The walks through the program's IdOf, ItemOk and the reading of an entry. No statement of the seat is proved here. -/
namespace Go.Proofs.Ytfbfklgjccbplaq
open Go.RowKit
set_option maxRecDepth 200000 in
theorem isSeq_any (n : Int) (w : World) : Calls Try.prog 109 #[.int .i64 n] w fun e w' => e = .returned (.bool (decide (1 ≤ n ∧ n ≤ 60))) ∧ w' = w := by
  have hd : ∀ d : Bool, d = decide (1 ≤ n ∧ n ≤ 60) → (d = true ↔ 1 ≤ n ∧ n ≤ 60) := by rintro d rfl; simp
  generalize decide (1 ≤ n ∧ n ≤ 60) = d at *
  have hd := hd d rfl
  by_cases h : 1 ≤ n
  · by_cases h2 : n ≤ 60
    · have e : Hid (d = true) := hd.2 ⟨h, h2⟩
      clear hd
      go_enter Try.func109, Try.ntmps109
      go_wp2
      go_ret
      rw [e.out]; exact ⟨rfl, rfl⟩
    · have e : Hid (d = false) := show d = false by cases d; rfl; exact absurd (hd.1 rfl).2 h2
      clear hd
      go_enter Try.func109, Try.ntmps109
      go_wp2
      go_ret
      rw [e.out]; exact ⟨rfl, rfl⟩
  · have e : Hid (d = false) := show d = false by cases d; rfl; exact absurd (hd.1 rfl).1 h
    clear hd
    go_enter Try.func109, Try.ntmps109
    go_wp2
    go_ret
    rw [e.out]; exact ⟨rfl, rfl⟩
set_option maxRecDepth 200000 in
theorem isPlace_any (k p : Int) (w : World) : Calls Try.prog 116 #[.agg #[.int .i64 k, .int .i64 p]] w fun e w' => e = .returned (.bool (placeOk k p)) ∧ Below w.heap.size w w' := by
  have HB : Hid (Below w.heap.size w (w.alloc (.cells #[.int .i64 k, .int .i64 p] 126))) := (Below.refl _ _).alloc (Nat.le_refl _) _
  go_enter Try.func116, Try.ntmps116
  go_wp2_with fail
  refine (inRange_any _ _ _).mono ?_
  rintro e w2 ⟨rfl, hw2⟩
  have hw2' := hw2.symm
  subst hw2'
  clear hw2
  obtain ⟨d1, hd1⟩ : ∃ d, d = decide (0 ≤ k ∧ k ≤ 4) := ⟨_, rfl⟩
  rw [← hd1]
  have HD1 : Hid (d1 = decide (0 ≤ k ∧ k ≤ 4)) := hd1
  clear hd1
  cases d1
  · have HV : Hid (placeOk k p = false) := by show _ = _; unfold placeOk; rw [← HD1.out]; rfl
    go_wp2
    go_ret
    exact ⟨ret_bool HV.out.symm, HB.out⟩
  go_wp2_with fail
  refine (inRange_any _ _ _).mono ?_
  rintro e w2 ⟨rfl, hw2⟩
  have hw2' := hw2.symm
  subst hw2'
  clear hw2
  obtain ⟨d2, hd2⟩ : ∃ d, d = decide (0 ≤ p ∧ p ≤ 20) := ⟨_, rfl⟩
  rw [← hd2]
  have HV : Hid (d2 = placeOk k p) := by show _ = _; unfold placeOk; rw [← HD1.out, ← hd2]; rfl
  clear hd2
  go_wp2
  go_ret
  exact ⟨ret_bool HV.out, HB.out⟩
set_option maxRecDepth 200000 in
set_option maxHeartbeats 2000000 in
theorem itemOkImpl_any (v : Value) (x : It) (F : List Nat) (w : World) (h : RdIt w v x F) (hw : x.sk.wide) :
    Calls Try.prog 111 #[v] w fun e w' => e = .returned (.bool x.ok) ∧ Below w.heap.size w w' := by
  obtain ⟨a1, n1, c1, a2, n2, c2, a3, n3, c3, rfl, hr⟩ := h
  have HR : Hid (RdSk w (.agg #[.int .i64 x.sk.count, .int .i64 x.sk.sum, .int .i64 x.sk.min, .int .i64 x.sk.max, .slice a1 n1 c1, .slice a2 n2 c2, .slice a3 n3 c3]) x.sk F ∧ x.sk.wide) := ⟨hr, hw⟩
  have HB : Hid (Below w.heap.size w (w.alloc (.cells #[.int .i64 x.seq, .int .i64 x.cls, .int .i64 x.key, .int .i64 x.window, .int .i64 x.sk.count, .int .i64 x.sk.sum, .int .i64 x.sk.min, .int .i64 x.sk.max, .slice a1 n1 c1, .slice a2 n2 c2, .slice a3 n3 c3] 49)) ∧ Blk (w.alloc (.cells #[.int .i64 x.seq, .int .i64 x.cls, .int .i64 x.key, .int .i64 x.window, .int .i64 x.sk.count, .int .i64 x.sk.sum, .int .i64 x.sk.min, .int .i64 x.sk.max, .slice a1 n1 c1, .slice a2 n2 c2, .slice a3 n3 c3] 49)) w.heap.size #[.int .i64 x.seq, .int .i64 x.cls, .int .i64 x.key, .int .i64 x.window, .int .i64 x.sk.count, .int .i64 x.sk.sum, .int .i64 x.sk.min, .int .i64 x.sk.max, .slice a1 n1 c1, .slice a2 n2 c2, .slice a3 n3 c3] 49) := ⟨Below.allocW _ (Below.refl _ _) (Nat.le_refl _), Blk.made _ _ _⟩
  clear hr hw
  go_enter Try.func111, Try.ntmps111
  go_wp2_with fail
  refine (isSeq_any _ _).mono ?_
  rintro e w2 ⟨rfl, hw2⟩
  have hw2' := hw2.symm
  subst hw2'
  clear hw2
  obtain ⟨d1, hd1⟩ : ∃ d, d = decide (1 ≤ x.seq ∧ x.seq ≤ 60) := ⟨_, rfl⟩
  rw [← hd1]
  have HD1 : Hid (d1 = decide (1 ≤ x.seq ∧ x.seq ≤ 60)) := hd1
  clear hd1
  cases d1
  · have HV : Hid (x.ok = false) := by show _ = _; unfold It.ok; rw [← HD1.out]; rfl
    go_wp2
    go_ret
    exact ⟨ret_bool HV.out.symm, HB.out.1⟩
  go_wp2_with fail
  refine (inRange_any _ _ _).mono ?_
  rintro e w2 ⟨rfl, hw2⟩
  have hw2' := hw2.symm
  subst hw2'
  clear hw2
  obtain ⟨d2, hd2⟩ : ∃ d, d = decide (0 ≤ x.cls ∧ x.cls ≤ 1) := ⟨_, rfl⟩
  rw [← hd2]
  have HD2 : Hid (d2 = decide (0 ≤ x.cls ∧ x.cls ≤ 1)) := hd2
  clear hd2
  cases d2
  · have HV : Hid (x.ok = false) := by show _ = _; unfold It.ok; rw [← HD1.out, ← HD2.out]; rfl
    go_wp2
    go_ret
    exact ⟨ret_bool HV.out.symm, HB.out.1⟩
  go_wp2_with fail
  refine (isPlace_any _ _ _).mono ?_
  rintro e w2 ⟨rfl, hb2⟩
  have HB2 : Hid (Below w.heap.size w w2 ∧ Blk w2 w.heap.size #[.int .i64 x.seq, .int .i64 x.cls, .int .i64 x.key, .int .i64 x.window, .int .i64 x.sk.count, .int .i64 x.sk.sum, .int .i64 x.sk.min, .int .i64 x.sk.max, .slice a1 n1 c1, .slice a2 n2 c2, .slice a3 n3 c3] 49) := ⟨Below.next HB.out.1 hb2, HB.out.2.below hb2⟩
  clear hb2
  obtain ⟨d3, hd3⟩ : ∃ d, d = placeOk x.key x.window := ⟨_, rfl⟩
  rw [← hd3]
  have HD3 : Hid (d3 = placeOk x.key x.window) := hd3
  clear hd3
  cases d3
  · have HV : Hid (x.ok = false) := by show _ = _; unfold It.ok; rw [← HD1.out, ← HD2.out, ← HD3.out]; rfl
    go_wp2
    go_ret
    exact ⟨ret_bool HV.out.symm, HB2.out.1⟩
  go_wp2_with (first | go_skip | (with_reducible refine stopLoad 29 rfl ?_))
  refine load_cutw 29 w.heap.size 4 7 _ #[.int .i64 x.sk.count, .int .i64 x.sk.sum, .int .i64 x.sk.min, .int .i64 x.sk.max, .slice a1 n1 c1, .slice a2 n2 c2, .slice a3 n3 c3] 49 _ HB2.out.2 rfl rfl rfl Try.underlying29 rfl infoSkI (by simp) rfl ?_
  go_wp2_with fail
  refine (okImpl_any _ x.sk F _ (HR.out.1.below HB2.out.1) HR.out.2).mono ?_
  rintro e w3 ⟨rfl, hb3⟩
  have HB3 : Hid (Below w.heap.size w w3) := Below.next HB2.out.1 hb3
  have HV : Hid (x.ok = x.sk.ok) := by show _ = _; unfold It.ok; rw [← HD1.out, ← HD2.out, ← HD3.out]; rfl
  clear hb3
  obtain ⟨d4, hd4⟩ : ∃ d, d = x.sk.ok := ⟨_, rfl⟩
  rw [← hd4] at HV ⊢
  clear hd4
  go_wp2
  go_ret
  exact ⟨ret_bool HV.out.symm, HB3.out⟩
/-- The cells of an entry as the program holds it. -/
def hc (k p : Int) (a : Option Addr) (l c : Nat) (ys : List Int) : Array Value := (.int .i64 k :: .int .i64 p :: .slice a l c :: ys.map (Value.int .i64)).toArray
theorem hc_size {k p : Int} {a : Option Addr} {l c : Nat} {ys : List Int} (h : ys.length = 28) : (hc k p a l c ys).size = 31 := by
  unfold hc; simp [h]
theorem hc_one (k p : Int) (a : Option Addr) (l c : Nat) (ys : List Int) : (hc k p a l c ys).all (·.oneCell') = true := by
  unfold hc
  simp [Value.oneCell']
section
variable {P : Program} {ops : Array Oper} {Q : Exit → Act → World → Prop} {rest : List Oper} {a : Act} {w : World} {o : Oper}
theorem stopBuild (ty : TypeId) {fs : Array (Nat × Operand)} (_ho : o.op = .build ty fs) (h : Stop (wpList P ops Q (o :: rest) a w)) : wpList P ops Q (o :: rest) a w := h
/-- A value that is put together, by a law of its own. -/
theorem built_any {ty : TypeId} {fs : Array (Nat × Operand)} (v : Value) (hw : Region.wanted o (yielded ops a.tmps) = true) (ho : o.op = .build ty fs) (hr : (Instr.build ty (fs.map fun p => (p.1, a.eval p.2))).run P w = .ok v w) (h : wpList P ops Q rest (a.put o.dst v) w) : Stop (wpList P ops Q (o :: rest) a w) :=
  wpList_step fun K hK => by
    rw [if_pos hw]
    unfold Oper.wp execOp
    simp only [ho]
    simp [hr]
    exact hK _ _ h
end
end Go.Proofs.Ytfbfklgjccbplaq
/- The walks through the program's itemSame, FrameSame, areSeqs, itemFits and FrameOk. No statement of the seat is proved here. -/
namespace Go.Proofs.Ytfbfklgjccbplaq
open Go.RowKit
def Sp.seqTo (ps : Sp) (k : Nat) : Bool := (List.range k).all fun k => decide (1 ≤ (ps.at k).1 ∧ (ps.at k).1 ≤ 60) && decide (1 ≤ (ps.at k).2 ∧ (ps.at k).2 ≤ 60)
set_option maxRecDepth 200000 in
set_option maxHeartbeats 4000000 in
theorem itemSame_any (v u : Value) (x y : It) (F G : List Nat) (w : World) (h : RdIt w v x F) (k : RdIt w u y G) (hx : x.sk.wide) (hy : y.sk.wide) :
    Calls Try.prog 73 #[v, u] w fun e w' => e = .returned (.bool (decide (x = y))) ∧ Below w.heap.size w w' := by
  obtain ⟨a1, n1, nc1, a2, n2, nc2, a3, n3, nc3, rfl, sx⟩ := h
  obtain ⟨b1, m1, mc1, b2, m2, mc2, b3, m3, mc3, rfl, sy⟩ := k
  have HX : Hid (RdSk w (.agg #[.int .i64 x.sk.count, .int .i64 x.sk.sum, .int .i64 x.sk.min, .int .i64 x.sk.max, .slice a1 n1 nc1, .slice a2 n2 nc2, .slice a3 n3 nc3]) x.sk F ∧ RdSk w (.agg #[.int .i64 y.sk.count, .int .i64 y.sk.sum, .int .i64 y.sk.min, .int .i64 y.sk.max, .slice b1 m1 mc1, .slice b2 m2 mc2, .slice b3 m3 mc3]) y.sk G ∧ x.sk.wide ∧ y.sk.wide) := ⟨sx, sy, hx, hy⟩
  have HT : Hid (_ ∧ _ ∧ _) := two_made w #[.int .i64 x.seq, .int .i64 x.cls, .int .i64 x.key, .int .i64 x.window, .int .i64 x.sk.count, .int .i64 x.sk.sum, .int .i64 x.sk.min, .int .i64 x.sk.max, .slice a1 n1 nc1, .slice a2 n2 nc2, .slice a3 n3 nc3] #[.int .i64 y.seq, .int .i64 y.cls, .int .i64 y.key, .int .i64 y.window, .int .i64 y.sk.count, .int .i64 y.sk.sum, .int .i64 y.sk.min, .int .i64 y.sk.max, .slice b1 m1 mc1, .slice b2 m2 mc2, .slice b3 m3 mc3] 49 49
  obtain ⟨d, hd⟩ : ∃ d, d = decide (x = y) := ⟨_, rfl⟩
  rw [← hd]
  have HD : Hid (d = decide (x = y)) := hd
  clear sx sy hx hy hd
  have k0 := HT.out.1.cell 0
  have j0 := HT.out.2.1.cell 0
  have k1 := HT.out.1.cell 1
  have j1 := HT.out.2.1.cell 1
  have k2 := HT.out.1.cell 2
  have j2 := HT.out.2.1.cell 2
  have k3 := HT.out.1.cell 3
  have j3 := HT.out.2.1.cell 3
  simp only [List.getElem?_toArray, List.getElem?_cons_succ, List.getElem?_cons_zero] at k0 j0 k1 j1 k2 j2 k3 j3
  by_cases c1 : x.seq = y.seq
  rotate_left
  · have HV : Hid (d = false) := by show d = _; rw [HD.out]; exact dec_false (fun e => c1 (by rw [e]))
    have z1 : (x.seq == y.seq) = false := by simpa using c1
    clear c1
    go_enter Try.func73, Try.ntmps73
    go_wp2
    go_ret
    exact ⟨ret_bool HV.out.symm, HT.out.2.2⟩
  have z1 : (x.seq == y.seq) = true := by simpa using c1
  by_cases c2 : x.cls = y.cls
  rotate_left
  · have HV : Hid (d = false) := by show d = _; rw [HD.out]; exact dec_false (fun e => c2 (by rw [e]))
    have z2 : (x.cls == y.cls) = false := by simpa using c2
    clear c1 c2
    go_enter Try.func73, Try.ntmps73
    go_wp2
    go_ret
    exact ⟨ret_bool HV.out.symm, HT.out.2.2⟩
  have z2 : (x.cls == y.cls) = true := by simpa using c2
  by_cases c3 : x.key = y.key
  rotate_left
  · have HV : Hid (d = false) := by show d = _; rw [HD.out]; exact dec_false (fun e => c3 (by rw [e]))
    have z3 : (x.key == y.key) = false := by simpa using c3
    clear c1 c2 c3
    go_enter Try.func73, Try.ntmps73
    go_wp2
    go_ret
    exact ⟨ret_bool HV.out.symm, HT.out.2.2⟩
  have z3 : (x.key == y.key) = true := by simpa using c3
  by_cases c4 : x.window = y.window
  rotate_left
  · have HV : Hid (d = false) := by show d = _; rw [HD.out]; exact dec_false (fun e => c4 (by rw [e]))
    have z4 : (x.window == y.window) = false := by simpa using c4
    clear c1 c2 c3 c4
    go_enter Try.func73, Try.ntmps73
    go_wp2
    go_ret
    exact ⟨ret_bool HV.out.symm, HT.out.2.2⟩
  have z4 : (x.window == y.window) = true := by simpa using c4
  have HC : Hid (x.seq = y.seq ∧ x.cls = y.cls ∧ x.key = y.key ∧ x.window = y.window) := ⟨c1, c2, c3, c4⟩
  clear c1 c2 c3 c4
  go_enter Try.func73, Try.ntmps73
  go_wp2_with (first | go_skip | (with_reducible refine stopLoad 29 rfl ?_))
  refine load_cutw 29 w.heap.size 4 7 _ #[.int .i64 x.sk.count, .int .i64 x.sk.sum, .int .i64 x.sk.min, .int .i64 x.sk.max, .slice a1 n1 nc1, .slice a2 n2 nc2, .slice a3 n3 nc3] 49 _ HT.out.1 rfl rfl rfl Try.underlying29 rfl infoSkI (by simp) rfl ?_
  go_wp2_with (first | go_skip | (with_reducible refine stopLoad 29 rfl ?_))
  refine load_cutw 29 (w.heap.size + 1) 4 7 _ #[.int .i64 y.sk.count, .int .i64 y.sk.sum, .int .i64 y.sk.min, .int .i64 y.sk.max, .slice b1 m1 mc1, .slice b2 m2 mc2, .slice b3 m3 mc3] 49 _ HT.out.2.1 rfl rfl rfl Try.underlying29 rfl infoSkI (by simp) rfl ?_
  go_wp2_with fail
  refine (sameImpl_any _ _ x.sk y.sk F G _ (HX.out.1.below HT.out.2.2) (HX.out.2.1.below HT.out.2.2) HX.out.2.2.1 HX.out.2.2.2).mono ?_
  rintro e w2 ⟨rfl, b2⟩
  have HB2 : Hid (Below w.heap.size w w2) := Below.next HT.out.2.2 b2
  clear b2
  obtain ⟨d2, hd2⟩ : ∃ d, d = decide (x.sk = y.sk) := ⟨_, rfl⟩
  rw [← hd2]
  have HV : Hid (d2 = d) := by
    show _ = _
    rw [hd2, HD.out]
    by_cases e : x.sk = y.sk
    · rw [dec_true e, dec_true (It.eq_of HC.out.1 HC.out.2.1 HC.out.2.2.1 HC.out.2.2.2 e)]
    · rw [dec_false e, dec_false (fun q => e (by rw [q]))]
  clear hd2
  go_wp2
  go_ret
  exact ⟨ret_bool HV.out, HB2.out⟩
set_option maxRecDepth 200000 in
set_option maxHeartbeats 4000000 in
theorem frameSameImpl_any (v u : Value) (x y : Fr) (F F' G G' : List Nat) (w : World) (h : RdFr w v x F F') (k : RdFr w u y G G') (hx : x.item.sk.wide) (hy : y.item.sk.wide) (hlx : x.taken.length ≤ 2097152) (hly : y.taken.length ≤ 2097152) :
    Calls Try.prog 31 #[v, u] w fun e w' => e = .returned (.bool (decide (x = y))) ∧ Below w.heap.size w w' := by
  obtain ⟨p, l, g, a1, n1, nc1, a2, n2, nc2, a3, n3, nc3, rfl, px, sx, _⟩ := h
  obtain ⟨q, k, j, b1, m1, mc1, b2, m2, mc2, b3, m3, mc3, rfl, py, sy, _⟩ := k
  have HX : Hid (RdIt w (.agg #[.int .i64 x.item.seq, .int .i64 x.item.cls, .int .i64 x.item.key, .int .i64 x.item.window, .int .i64 x.item.sk.count, .int .i64 x.item.sk.sum, .int .i64 x.item.sk.min, .int .i64 x.item.sk.max, .slice a1 n1 nc1, .slice a2 n2 nc2, .slice a3 n3 nc3]) x.item F' ∧ RdIt w (.agg #[.int .i64 y.item.seq, .int .i64 y.item.cls, .int .i64 y.item.key, .int .i64 y.item.window, .int .i64 y.item.sk.count, .int .i64 y.item.sk.sum, .int .i64 y.item.sk.min, .int .i64 y.item.sk.max, .slice b1 m1 mc1, .slice b2 m2 mc2, .slice b3 m3 mc3]) y.item G' ∧ x.item.sk.wide ∧ y.item.sk.wide) := ⟨sx, sy, hx, hy⟩
  have HP : Hid (RdP w p l x.taken F ∧ RdP w q k y.taken G ∧ l ≤ 2097152 ∧ k ≤ 2097152) := ⟨px, py, by rw [← px.length]; exact hlx, by rw [← py.length]; exact hly⟩
  have HT : Hid (_ ∧ _ ∧ _) := two_made w #[.int .i64 x.kind, .int .i64 x.agent, .int .i64 x.epoch, .int .i64 x.granted, .slice p l g, .int .i64 x.item.seq, .int .i64 x.item.cls, .int .i64 x.item.key, .int .i64 x.item.window, .int .i64 x.item.sk.count, .int .i64 x.item.sk.sum, .int .i64 x.item.sk.min, .int .i64 x.item.sk.max, .slice a1 n1 nc1, .slice a2 n2 nc2, .slice a3 n3 nc3] #[.int .i64 y.kind, .int .i64 y.agent, .int .i64 y.epoch, .int .i64 y.granted, .slice q k j, .int .i64 y.item.seq, .int .i64 y.item.cls, .int .i64 y.item.key, .int .i64 y.item.window, .int .i64 y.item.sk.count, .int .i64 y.item.sk.sum, .int .i64 y.item.sk.min, .int .i64 y.item.sk.max, .slice b1 m1 mc1, .slice b2 m2 mc2, .slice b3 m3 mc3] 51 51
  obtain ⟨d, hd⟩ : ∃ d, d = decide (x = y) := ⟨_, rfl⟩
  rw [← hd]
  have HD : Hid (d = decide (x = y)) := hd
  clear px py sx sy hx hy hlx hly hd
  have k0 := HT.out.1.cell 0
  have j0 := HT.out.2.1.cell 0
  have k1 := HT.out.1.cell 1
  have j1 := HT.out.2.1.cell 1
  have k2 := HT.out.1.cell 2
  have j2 := HT.out.2.1.cell 2
  have k3 := HT.out.1.cell 3
  have j3 := HT.out.2.1.cell 3
  have k4 := HT.out.1.cell 4
  have j4 := HT.out.2.1.cell 4
  simp only [List.getElem?_toArray, List.getElem?_cons_succ, List.getElem?_cons_zero] at k0 j0 k1 j1 k2 j2 k3 j3 k4 j4
  by_cases c1 : x.kind = y.kind
  rotate_left
  · have HV : Hid (d = false) := by show d = _; rw [HD.out]; exact dec_false (fun e => c1 (by rw [e]))
    have z1 : (x.kind == y.kind) = false := by simpa using c1
    clear c1
    go_enter Try.func31, Try.ntmps31
    go_wp2
    go_ret
    exact ⟨ret_bool HV.out.symm, HT.out.2.2⟩
  have z1 : (x.kind == y.kind) = true := by simpa using c1
  by_cases c2 : x.agent = y.agent
  rotate_left
  · have HV : Hid (d = false) := by show d = _; rw [HD.out]; exact dec_false (fun e => c2 (by rw [e]))
    have z2 : (x.agent == y.agent) = false := by simpa using c2
    clear c1 c2
    go_enter Try.func31, Try.ntmps31
    go_wp2
    go_ret
    exact ⟨ret_bool HV.out.symm, HT.out.2.2⟩
  have z2 : (x.agent == y.agent) = true := by simpa using c2
  by_cases c3 : x.epoch = y.epoch
  rotate_left
  · have HV : Hid (d = false) := by show d = _; rw [HD.out]; exact dec_false (fun e => c3 (by rw [e]))
    have z3 : (x.epoch == y.epoch) = false := by simpa using c3
    clear c1 c2 c3
    go_enter Try.func31, Try.ntmps31
    go_wp2
    go_ret
    exact ⟨ret_bool HV.out.symm, HT.out.2.2⟩
  have z3 : (x.epoch == y.epoch) = true := by simpa using c3
  by_cases c4 : x.granted = y.granted
  rotate_left
  · have HV : Hid (d = false) := by show d = _; rw [HD.out]; exact dec_false (fun e => c4 (by rw [e]))
    have z4 : (x.granted == y.granted) = false := by simpa using c4
    clear c1 c2 c3 c4
    go_enter Try.func31, Try.ntmps31
    go_wp2
    go_ret
    exact ⟨ret_bool HV.out.symm, HT.out.2.2⟩
  have z4 : (x.granted == y.granted) = true := by simpa using c4
  have HC : Hid (x.kind = y.kind ∧ x.agent = y.agent ∧ x.epoch = y.epoch ∧ x.granted = y.granted) := ⟨c1, c2, c3, c4⟩
  clear c1 c2 c3 c4
  go_enter Try.func31, Try.ntmps31
  go_wp2_with fail
  refine (slEqualP_any p q l k g j x.taken y.taken F G _ (HP.out.1.below HT.out.2.2) (HP.out.2.1.below HT.out.2.2) (by have := HP.out.2.2; omega) (by have := HP.out.2.2; omega)).mono ?_
  rintro e w1 ⟨rfl, hq⟩
  have HB1 : Hid (Blk w1 w.heap.size #[.int .i64 x.kind, .int .i64 x.agent, .int .i64 x.epoch, .int .i64 x.granted, .slice p l g, .int .i64 x.item.seq, .int .i64 x.item.cls, .int .i64 x.item.key, .int .i64 x.item.window, .int .i64 x.item.sk.count, .int .i64 x.item.sk.sum, .int .i64 x.item.sk.min, .int .i64 x.item.sk.max, .slice a1 n1 nc1, .slice a2 n2 nc2, .slice a3 n3 nc3] 51 ∧ Blk w1 (w.heap.size + 1) #[.int .i64 y.kind, .int .i64 y.agent, .int .i64 y.epoch, .int .i64 y.granted, .slice q k j, .int .i64 y.item.seq, .int .i64 y.item.cls, .int .i64 y.item.key, .int .i64 y.item.window, .int .i64 y.item.sk.count, .int .i64 y.item.sk.sum, .int .i64 y.item.sk.min, .int .i64 y.item.sk.max, .slice b1 m1 mc1, .slice b2 m2 mc2, .slice b3 m3 mc3] 51 ∧ Below w.heap.size w w1) := ⟨HT.out.1.below (quiet_below hq), HT.out.2.1.below (quiet_below hq), Below.next HT.out.2.2 (quiet_below hq)⟩
  clear hq HT k0 k1 k2 k3 k4 j0 j1 j2 j3 j4 z1 z2 z3 z4
  by_cases c5 : x.taken = y.taken
  rotate_left
  · rw [dec_false c5]
    have HV : Hid (d = false) := by show d = _; rw [HD.out]; exact dec_false (fun e => c5 (by rw [e]))
    clear c5
    go_wp2
    go_ret
    exact ⟨ret_bool HV.out.symm, HB1.out.2.2⟩
  rw [dec_true c5]
  have HC5 : Hid (x.taken = y.taken) := c5
  clear c5
  go_wp2_with (first | go_skip | (with_reducible refine stopLoad 49 rfl ?_))
  refine load_cutw 49 w.heap.size 5 11 _ #[.int .i64 x.item.seq, .int .i64 x.item.cls, .int .i64 x.item.key, .int .i64 x.item.window, .int .i64 x.item.sk.count, .int .i64 x.item.sk.sum, .int .i64 x.item.sk.min, .int .i64 x.item.sk.max, .slice a1 n1 nc1, .slice a2 n2 nc2, .slice a3 n3 nc3] 51 _ HB1.out.1 rfl rfl rfl Try.underlying49 rfl infoItA7 (by simp) rfl ?_
  go_wp2_with (first | go_skip | (with_reducible refine stopLoad 49 rfl ?_))
  refine load_cutw 49 (w.heap.size + 1) 5 11 _ #[.int .i64 y.item.seq, .int .i64 y.item.cls, .int .i64 y.item.key, .int .i64 y.item.window, .int .i64 y.item.sk.count, .int .i64 y.item.sk.sum, .int .i64 y.item.sk.min, .int .i64 y.item.sk.max, .slice b1 m1 mc1, .slice b2 m2 mc2, .slice b3 m3 mc3] 51 _ HB1.out.2.1 rfl rfl rfl Try.underlying49 rfl infoItA7 (by simp) rfl ?_
  go_wp2_with fail
  refine (itemSame_any _ _ x.item y.item F' G' _ (HX.out.1.below HB1.out.2.2) (HX.out.2.1.below HB1.out.2.2) HX.out.2.2.1 HX.out.2.2.2).mono ?_
  rintro e w2 ⟨rfl, b2⟩
  have HB2 : Hid (Below w.heap.size w w2) := Below.next HB1.out.2.2 b2
  clear b2
  obtain ⟨d2, hd2⟩ : ∃ d, d = decide (x.item = y.item) := ⟨_, rfl⟩
  rw [← hd2]
  have HV : Hid (d2 = d) := by
    show _ = _
    rw [hd2, HD.out]
    by_cases e : x.item = y.item
    · rw [dec_true e, dec_true (Fr.eq_of HC.out.1 HC.out.2.1 HC.out.2.2.1 HC.out.2.2.2 HC5.out e)]
    · rw [dec_false e, dec_false (fun q => e (by rw [q]))]
  clear hd2
  go_wp2
  go_ret
  exact ⟨ret_bool HV.out, HB2.out⟩
theorem seqs_step {ps : Sp} {k : Nat} (hk : k < ps.length) : ps.seqTo (k + 1) = (ps.seqTo k && (decide (1 ≤ (ps.at k).1 ∧ (ps.at k).1 ≤ 60) && decide (1 ≤ (ps.at k).2 ∧ (ps.at k).2 ≤ 60))) := by
  have _ := hk
  unfold Sp.seqTo
  rw [List.range_succ, List.all_append]
  simp
theorem seqs_bad {ps : Sp} {k : Nat} (h : ps.seqTo k = false) : ∀ {m : Nat}, k ≤ m → ps.seqTo m = false := by
  intro m hm
  unfold Sp.seqTo at h ⊢
  rw [List.all_eq_false] at h ⊢
  obtain ⟨y, hy, e⟩ := h
  exact ⟨y, List.mem_range.2 (Nat.lt_of_lt_of_le (List.mem_range.1 hy) hm), e⟩
set_option maxRecDepth 200000 in
set_option maxHeartbeats 2000000 in
theorem areSeqs_any (a : Option Addr) (len cap : Nat) (ps : Sp) (F : List Nat) (w : World) (h : RdP w a len ps F) (hlen : len ≤ 2097152) :
    Calls Try.prog 92 #[.slice a len cap] w fun e w' => e = .returned (.bool (ps.seqTo len && ps.ok)) ∧ Below w.heap.size w w' := by
  have HL : Hid (ps.length = len ∧ RdP w a len ps F) := ⟨h.length, h⟩
  have HC : Hid (len = 0 ∨ ∃ b off, a = some ⟨b, off, none⟩ ∧ b < w.heap.size ∧ SpCells w b off len ps) := cells_of h
  clear h
  go_enter Try.func92, Try.ntmps92
  go_wp2
  go_loopw [7] (fun i wr => ∃ (k : Nat), k ≤ len ∧ i = .int .i64 k ∧ Hid (Below w.heap.size w wr) ∧ Hid (ps.seqTo k = true)) (fun i _ => len - (intOf i).toNat)
  case atStart => exact ⟨0, by omega, rfl, Below.refl _ _, rfl⟩
  case round =>
    obtain ⟨k, hk, rfl, HB, HN⟩ := hrel
    by_cases hlt : k < len
    · have hca := HC.out
      rcases hca with h0 | ⟨b, off, rfl, hbw, hc⟩
      · omega
      obtain ⟨x, hx⟩ : ∃ x, x = (ps.at k).1 := ⟨_, rfl⟩
      obtain ⟨y, hy⟩ : ∃ x, x = (ps.at k).2 := ⟨_, rfl⟩
      have e := hc k hlt
      rw [← hx, ← hy] at e
      have d1 : wr.cell? ⟨b, off + k * 2, none⟩ = some (.int .i64 x) := (HB.out.cell (by exact hbw)).trans e.1
      have d2 : wr.cell? ⟨b, off + k * 2 + 1, none⟩ = some (.int .i64 y) := (HB.out.cell (by exact hbw)).trans e.2
      have HX : Hid (ps.seqTo (k + 1) = (decide (1 ≤ x ∧ x ≤ 60) && decide (1 ≤ y ∧ y ≤ 60))) := by
        show _ = _
        rw [seqs_step (by rw [HL.out.1]; exact hlt), HN.out, ← hx, ← hy]; rfl
      have HB2 : Hid (Below w.heap.size w (wr.alloc (.cells #[.int .i64 x, .int .i64 y] 92))) := Below.allocW _ HB.out (Nat.le_refl _)
      have hI : (k : Int) < (len : Int) := by omega
      clear e hx hy hc HB
      go_wp2_with fail
      refine (isSeq_any _ _).mono ?_
      rintro e w2 ⟨rfl, hw2⟩
      have hw2' := hw2.symm
      subst hw2'
      clear hw2
      obtain ⟨p1, hp1⟩ : ∃ d, d = decide (1 ≤ x ∧ x ≤ 60) := ⟨_, rfl⟩
      rw [← hp1] at HX ⊢
      clear hp1
      cases p1
      · have HV : Hid (ps.seqTo len = false) := seqs_bad (k := k + 1) (by rw [HX.out]; rfl) (by omega)
        go_wp2
        go_ret
        rw [HV.out]
        exact ⟨rfl, HB2.out⟩
      go_wp2_with fail
      refine (isSeq_any _ _).mono ?_
      rintro e w2 ⟨rfl, hw2⟩
      have hw2' := hw2.symm
      subst hw2'
      clear hw2
      obtain ⟨p2, hp2⟩ : ∃ d, d = decide (1 ≤ y ∧ y ≤ 60) := ⟨_, rfl⟩
      rw [← hp2] at HX ⊢
      clear hp2
      cases p2
      · have HV : Hid (ps.seqTo len = false) := seqs_bad (k := k + 1) (by rw [HX.out]; rfl) (by omega)
        go_wp2
        go_ret
        rw [HV.out]
        exact ⟨rfl, HB2.out⟩
      have HN2 : Hid (ps.seqTo (k + 1) = true) := by show _ = _; rw [HX.out]; rfl
      go_wp2
      go_roundw
      case rel => exact ⟨k + 1, by omega, by go_num, HB2, HN2⟩
      case measure => simp [intOf]; omega
    · obtain rfl : k = len := by omega
      go_wp2_with fail
      refine (setOkImpl_any a k cap ps F _ (HL.out.2.below HB.out) hlen).mono ?_
      rintro e w2 ⟨rfl, hb2⟩
      have HB2 : Hid (Below w.heap.size w w2) := Below.next HB.out hb2
      clear hb2
      obtain ⟨d, hd⟩ : ∃ d, d = ps.ok := ⟨_, rfl⟩
      rw [← hd]
      have HD : Hid (d = ps.ok) := hd
      clear hd
      go_wp2
      go_ret
      rw [HN.out]
      exact ⟨ret_bool HD.out, HB2.out⟩
theorem infoFrF7 : (Try.prog.info? 51).map (·.size) = some 16 := by kernel_rfl
theorem rdIt_zero (w : World) : RdIt w (.agg #[.int .i64 0, .int .i64 0, .int .i64 0, .int .i64 0, .int .i64 0, .int .i64 0, .int .i64 0, .int .i64 0, .slice none 0 0, .slice none 0 0, .slice none 0 0]) It.zero [] := by
  refine ⟨none, 0, 0, none, 0, 0, none, 0, 0, rfl, ?_⟩
  exact ⟨none, 0, 0, none, 0, 0, none, 0, 0, [], [], [], rfl, ⟨rfl, .inl ⟨rfl, rfl⟩⟩, ⟨rfl, .inl ⟨rfl, rfl⟩⟩, ⟨rfl, .inl ⟨rfl, rfl⟩⟩, rfl⟩
theorem It.zero_wide : It.zero.sk.wide := ⟨by simp [It.zero, Sk.zero], by simp [It.zero, Sk.zero], by simp [It.zero, Sk.zero], by simp [It.zero, Sk.zero]⟩
set_option maxRecDepth 200000 in
set_option maxHeartbeats 2000000 in
theorem itemFits_any (v : Value) (x : Fr) (F G : List Nat) (w : World) (h : RdFr w v x F G) (hw : x.item.sk.wide) :
    Calls Try.prog 93 #[v] w fun e w' => e = .returned (.bool (if x.kind = 1 then x.item.ok else decide (x.item = It.zero))) ∧ Below w.heap.size w w' := by
  obtain ⟨b, l, c, a1, n1, c1, a2, n2, c2, a3, n3, c3, rfl, _, hr, _⟩ := h
  have HR : Hid (RdIt w (.agg #[.int .i64 x.item.seq, .int .i64 x.item.cls, .int .i64 x.item.key, .int .i64 x.item.window, .int .i64 x.item.sk.count, .int .i64 x.item.sk.sum, .int .i64 x.item.sk.min, .int .i64 x.item.sk.max, .slice a1 n1 c1, .slice a2 n2 c2, .slice a3 n3 c3]) x.item G ∧ x.item.sk.wide) := ⟨hr, hw⟩
  have HB : Hid (Below w.heap.size w (w.alloc (.cells #[.int .i64 x.kind, .int .i64 x.agent, .int .i64 x.epoch, .int .i64 x.granted, .slice b l c, .int .i64 x.item.seq, .int .i64 x.item.cls, .int .i64 x.item.key, .int .i64 x.item.window, .int .i64 x.item.sk.count, .int .i64 x.item.sk.sum, .int .i64 x.item.sk.min, .int .i64 x.item.sk.max, .slice a1 n1 c1, .slice a2 n2 c2, .slice a3 n3 c3] 51)) ∧ Blk (w.alloc (.cells #[.int .i64 x.kind, .int .i64 x.agent, .int .i64 x.epoch, .int .i64 x.granted, .slice b l c, .int .i64 x.item.seq, .int .i64 x.item.cls, .int .i64 x.item.key, .int .i64 x.item.window, .int .i64 x.item.sk.count, .int .i64 x.item.sk.sum, .int .i64 x.item.sk.min, .int .i64 x.item.sk.max, .slice a1 n1 c1, .slice a2 n2 c2, .slice a3 n3 c3] 51)) w.heap.size #[.int .i64 x.kind, .int .i64 x.agent, .int .i64 x.epoch, .int .i64 x.granted, .slice b l c, .int .i64 x.item.seq, .int .i64 x.item.cls, .int .i64 x.item.key, .int .i64 x.item.window, .int .i64 x.item.sk.count, .int .i64 x.item.sk.sum, .int .i64 x.item.sk.min, .int .i64 x.item.sk.max, .slice a1 n1 c1, .slice a2 n2 c2, .slice a3 n3 c3] 51) := ⟨Below.allocW _ (Below.refl _ _) (Nat.le_refl _), Blk.made _ _ _⟩
  have k0 := HB.out.2.cell 0
  simp only [List.getElem?_toArray, List.getElem?_cons_zero] at k0
  clear hr hw
  obtain ⟨z, hz⟩ : ∃ z, z = (if x.kind = 1 then x.item.ok else decide (x.item = It.zero)) := ⟨_, rfl⟩
  rw [← hz]
  by_cases h1 : x.kind = 1
  · have e1 : (x.kind == 1) = true := by simpa using h1
    have HV : Hid (z = x.item.ok) := hz.trans (if_pos h1)
    clear hz
    clear h1
    go_enter Try.func93, Try.ntmps93
    go_wp2_with (first | go_skip | (with_reducible refine stopLoad 49 rfl ?_))
    refine load_cut 49 w.heap.size 5 11 _ #[.int .i64 x.item.seq, .int .i64 x.item.cls, .int .i64 x.item.key, .int .i64 x.item.window, .int .i64 x.item.sk.count, .int .i64 x.item.sk.sum, .int .i64 x.item.sk.min, .int .i64 x.item.sk.max, .slice a1 n1 c1, .slice a2 n2 c2, .slice a3 n3 c3] 51 _ HB.out.2 rfl rfl rfl Try.underlying49 rfl infoItA7 (by simp) rfl ?_
    go_wp2_with fail
    refine (itemOkImpl_any _ x.item G _ (HR.out.1.below HB.out.1) HR.out.2).mono ?_
    rintro e w3 ⟨rfl, hb3⟩
    have HB3 : Hid (Below w.heap.size w w3) := Below.next HB.out.1 hb3
    clear hb3
    obtain ⟨d, hd⟩ : ∃ d, d = x.item.ok := ⟨_, rfl⟩
    rw [← hd] at HV ⊢
    clear hd
    go_wp2
    go_ret
    exact ⟨ret_bool HV.out.symm, HB3.out⟩
  · have e1 : (x.kind == 1) = false := by simpa using h1
    have HV : Hid (z = decide (x.item = It.zero)) := hz.trans (if_neg h1)
    clear hz
    clear h1
    go_enter Try.func93, Try.ntmps93
    go_wp2_with (first | go_skip | (with_reducible refine stopLoad 49 rfl ?_))
    refine load_cut 49 w.heap.size 5 11 _ #[.int .i64 x.item.seq, .int .i64 x.item.cls, .int .i64 x.item.key, .int .i64 x.item.window, .int .i64 x.item.sk.count, .int .i64 x.item.sk.sum, .int .i64 x.item.sk.min, .int .i64 x.item.sk.max, .slice a1 n1 c1, .slice a2 n2 c2, .slice a3 n3 c3] 51 _ HB.out.2 rfl rfl rfl Try.underlying49 rfl infoItA7 (by simp) rfl ?_
    go_wp2_with fail
    refine (itemSame_any _ _ x.item It.zero G [] _ (HR.out.1.below HB.out.1) (rdIt_zero _) HR.out.2 It.zero_wide).mono ?_
    rintro e w3 ⟨rfl, hb3⟩
    have HB3 : Hid (Below w.heap.size w w3) := Below.next HB.out.1 hb3
    clear hb3
    obtain ⟨d, hd⟩ : ∃ d, d = decide (x.item = It.zero) := ⟨_, rfl⟩
    rw [← hd] at HV ⊢
    clear hd
    go_wp2
    go_ret
    exact ⟨ret_bool HV.out.symm, HB3.out⟩
theorem seq_taken {ps : Sp} (h : ps.ok = true) : ps.seqTo ps.length = ps.taken := by
  unfold Sp.seqTo Sp.taken
  rw [Bool.eq_iff_iff, List.all_eq_true, List.all_eq_true]
  refine ⟨fun q k hk => ?_, fun q k hk => ?_⟩
  · have e := q k hk
    simp only [Bool.and_eq_true, decide_eq_true_eq] at e ⊢
    omega
  · have e := q k hk
    have o := (Sp.okAt_parts (Sp.ok_at h k (List.mem_range.1 hk))).1
    simp only [Bool.and_eq_true, decide_eq_true_eq] at e ⊢
    omega
set_option maxRecDepth 200000 in
set_option maxHeartbeats 4000000 in
theorem frameOkImpl_any (v : Value) (x : Fr) (F G : List Nat) (w : World) (h : RdFr w v x F G) (hw : x.item.sk.wide) (hl : x.taken.length ≤ 2097152) :
    Calls Try.prog 58 #[v] w fun e w' => e = .returned (.bool x.ok) ∧ Below w.heap.size w w' := by
  have HH : Hid (RdFr w v x F G ∧ x.item.sk.wide) := ⟨h, hw⟩
  obtain ⟨b, l, c, a1, n1, c1, a2, n2, c2, a3, n3, c3, rfl, hp, hr, _⟩ := h
  have HP : Hid (RdP w b l x.taken F ∧ l ≤ 2097152 ∧ x.taken.length = l) := ⟨hp, by rw [← hp.length]; exact hl, hp.length⟩
  have HB : Hid (Below w.heap.size w (w.alloc (.cells #[.int .i64 x.kind, .int .i64 x.agent, .int .i64 x.epoch, .int .i64 x.granted, .slice b l c, .int .i64 x.item.seq, .int .i64 x.item.cls, .int .i64 x.item.key, .int .i64 x.item.window, .int .i64 x.item.sk.count, .int .i64 x.item.sk.sum, .int .i64 x.item.sk.min, .int .i64 x.item.sk.max, .slice a1 n1 c1, .slice a2 n2 c2, .slice a3 n3 c3] 51)) ∧ Blk (w.alloc (.cells #[.int .i64 x.kind, .int .i64 x.agent, .int .i64 x.epoch, .int .i64 x.granted, .slice b l c, .int .i64 x.item.seq, .int .i64 x.item.cls, .int .i64 x.item.key, .int .i64 x.item.window, .int .i64 x.item.sk.count, .int .i64 x.item.sk.sum, .int .i64 x.item.sk.min, .int .i64 x.item.sk.max, .slice a1 n1 c1, .slice a2 n2 c2, .slice a3 n3 c3] 51)) w.heap.size #[.int .i64 x.kind, .int .i64 x.agent, .int .i64 x.epoch, .int .i64 x.granted, .slice b l c, .int .i64 x.item.seq, .int .i64 x.item.cls, .int .i64 x.item.key, .int .i64 x.item.window, .int .i64 x.item.sk.count, .int .i64 x.item.sk.sum, .int .i64 x.item.sk.min, .int .i64 x.item.sk.max, .slice a1 n1 c1, .slice a2 n2 c2, .slice a3 n3 c3] 51) := ⟨Below.allocW _ (Below.refl _ _) (Nat.le_refl _), Blk.made _ _ _⟩
  clear hr hw hp hl
  go_enter Try.func58, Try.ntmps58
  go_wp2_with fail
  refine (inRange_any _ _ _).mono ?_
  rintro e w2 ⟨rfl, hw2⟩
  have hw2' := hw2.symm
  subst hw2'
  clear hw2
  obtain ⟨d1, hd1⟩ : ∃ d, d = decide (0 ≤ x.kind ∧ x.kind ≤ 3) := ⟨_, rfl⟩
  rw [← hd1]
  have HD1 : Hid (d1 = decide (0 ≤ x.kind ∧ x.kind ≤ 3)) := hd1
  clear hd1
  cases d1
  · have HV : Hid (x.ok = false) := by show _ = _; unfold Fr.ok; rw [← HD1.out]; rfl
    go_wp2
    go_ret
    exact ⟨ret_bool HV.out.symm, HB.out.1⟩
  go_wp2_with fail
  refine (inRange_any _ _ _).mono ?_
  rintro e w2 ⟨rfl, hw2⟩
  have hw2' := hw2.symm
  subst hw2'
  clear hw2
  obtain ⟨d2, hd2⟩ : ∃ d, d = decide (0 ≤ x.agent ∧ x.agent ≤ 2) := ⟨_, rfl⟩
  rw [← hd2]
  have HD2 : Hid (d2 = decide (0 ≤ x.agent ∧ x.agent ≤ 2)) := hd2
  clear hd2
  cases d2
  · have HV : Hid (x.ok = false) := by show _ = _; unfold Fr.ok; rw [← HD1.out, ← HD2.out]; rfl
    go_wp2
    go_ret
    exact ⟨ret_bool HV.out.symm, HB.out.1⟩
  go_wp2_with fail
  refine (inRange_any _ _ _).mono ?_
  rintro e w2 ⟨rfl, hw2⟩
  have hw2' := hw2.symm
  subst hw2'
  clear hw2
  obtain ⟨d3, hd3⟩ : ∃ d, d = decide (0 ≤ x.epoch ∧ x.epoch ≤ 1000) := ⟨_, rfl⟩
  rw [← hd3]
  have HD3 : Hid (d3 = decide (0 ≤ x.epoch ∧ x.epoch ≤ 1000)) := hd3
  clear hd3
  cases d3
  · have HV : Hid (x.ok = false) := by show _ = _; unfold Fr.ok; rw [← HD1.out, ← HD2.out, ← HD3.out]; rfl
    go_wp2
    go_ret
    exact ⟨ret_bool HV.out.symm, HB.out.1⟩
  go_wp2_with fail
  refine (inRange_any _ _ _).mono ?_
  rintro e w2 ⟨rfl, hw2⟩
  have hw2' := hw2.symm
  subst hw2'
  clear hw2
  obtain ⟨d4, hd4⟩ : ∃ d, d = decide (0 ≤ x.granted ∧ x.granted ≤ 60) := ⟨_, rfl⟩
  rw [← hd4]
  have HD4 : Hid (d4 = decide (0 ≤ x.granted ∧ x.granted ≤ 60)) := hd4
  clear hd4
  cases d4
  · have HV : Hid (x.ok = false) := by show _ = _; unfold Fr.ok; rw [← HD1.out, ← HD2.out, ← HD3.out, ← HD4.out]; rfl
    go_wp2
    go_ret
    exact ⟨ret_bool HV.out.symm, HB.out.1⟩
  go_wp2_with fail
  refine (areSeqs_any b l c x.taken F _ (HP.out.1.below HB.out.1) HP.out.2.1).mono ?_
  rintro e w2 ⟨rfl, hb2⟩
  have HB2 : Hid (Below w.heap.size w w2 ∧ Blk w2 w.heap.size #[.int .i64 x.kind, .int .i64 x.agent, .int .i64 x.epoch, .int .i64 x.granted, .slice b l c, .int .i64 x.item.seq, .int .i64 x.item.cls, .int .i64 x.item.key, .int .i64 x.item.window, .int .i64 x.item.sk.count, .int .i64 x.item.sk.sum, .int .i64 x.item.sk.min, .int .i64 x.item.sk.max, .slice a1 n1 c1, .slice a2 n2 c2, .slice a3 n3 c3] 51) := ⟨Below.next HB.out.1 hb2, HB.out.2.below hb2⟩
  clear hb2
  obtain ⟨d5, hd5⟩ : ∃ d, d = (x.taken.seqTo l && x.taken.ok) := ⟨_, rfl⟩
  rw [← hd5]
  have HD5 : Hid (d5 = (x.taken.ok && x.taken.taken)) := by
    show _ = _
    rw [hd5]
    cases q : x.taken.ok
    · simp
    · rw [← HP.out.2.2, seq_taken q, Bool.and_true, Bool.true_and]
  clear hd5
  cases d5
  · have HV : Hid (x.ok = false) := by
      show _ = _
      unfold Fr.ok
      rw [Bool.and_assoc _ x.taken.ok x.taken.taken, ← HD1.out, ← HD2.out, ← HD3.out, ← HD4.out, ← HD5.out]; rfl
    go_wp2
    go_ret
    exact ⟨ret_bool HV.out.symm, HB2.out.1⟩
  have HV : Hid (x.ok = (if x.kind = 1 then x.item.ok else decide (x.item = It.zero))) := by
    show _ = _
    unfold Fr.ok
    rw [Bool.and_assoc _ x.taken.ok x.taken.taken, ← HD1.out, ← HD2.out, ← HD3.out, ← HD4.out, ← HD5.out]; rfl
  go_wp2_with (first | go_skip | (with_reducible refine stopLoad 51 rfl ?_))
  refine load_cutw 51 w.heap.size 0 16 _ #[.int .i64 x.kind, .int .i64 x.agent, .int .i64 x.epoch, .int .i64 x.granted, .slice b l c, .int .i64 x.item.seq, .int .i64 x.item.cls, .int .i64 x.item.key, .int .i64 x.item.window, .int .i64 x.item.sk.count, .int .i64 x.item.sk.sum, .int .i64 x.item.sk.min, .int .i64 x.item.sk.max, .slice a1 n1 c1, .slice a2 n2 c2, .slice a3 n3 c3] 51 _ HB2.out.2 rfl rfl rfl Try.underlying51 rfl infoFrF7 (by simp) rfl ?_
  go_wp2_with fail
  refine (itemFits_any _ x F G _ (HH.out.1.below HB2.out.1) HH.out.2).mono ?_
  rintro e w3 ⟨rfl, hb3⟩
  have HB3 : Hid (Below w.heap.size w w3) := Below.next HB2.out.1 hb3
  clear hb3
  obtain ⟨d, hd⟩ : ∃ d, d = (if x.kind = 1 then x.item.ok else decide (x.item = It.zero)) := ⟨_, rfl⟩
  rw [← hd] at HV ⊢
  clear hd
  go_wp2
  go_ret
  exact ⟨ret_bool HV.out.symm, HB3.out⟩
end Go.Proofs.Ytfbfklgjccbplaq
/- The walks through the program's SketchBytes, numbersOfItem, crcBytes. No statement of the seat is proved here. -/
namespace Go.Proofs.Ytfbfklgjccbplaq
open Go.RowKit
theorem tl_nums {s : Sk} (h : s.lens7) : s.tl = s.nums := by
  unfold Sk.tl Sk.nums
  conv => rhs; rw [two_rows7 h.rows]
  simp
theorem ok_shaped {s : Sk} (h : s.ok = true) : s.shaped = true := by
  have l := (Sk.ok_lens h).1
  cases q : s.shaped
  · have e : okT s s.tl = false := by unfold okT; rw [q]; rfl
    rw [okT_ok (fun _ => rfl), h] at e
    cases e
  · rfl
set_option maxRecDepth 100000 in
set_option maxHeartbeats 4000000 in
theorem sketchBytesImpl_any (v : Value) (s : Sk) (F : List Nat) (w : World) (h : RdSk w v s F) (hw : s.wide) :
    Calls Try.prog 11 #[v] w fun e w' => ∃ u, e = .returned u ∧ w'.ownsRow w.heap.size 5 1 u s.bytes.length (s.bytes.map (Value.int .u8)) ∧ Below w.heap.size w w' := by
  obtain ⟨cs, rfl, hc7⟩ : ∃ cs, v = .agg cs ∧ cs.size = 7 := by
    obtain ⟨a1, n1, c1, a2, n2, c2, a3, n3, c3, F1, F2, F3, rfl, _⟩ := h
    exact ⟨_, rfl, rfl⟩
  have HH : Hid (RdSk w (.agg cs) s F ∧ s.wide) := ⟨h, hw⟩
  have HT : Hid (Blk (w.alloc (.cells cs 29)) w.heap.size cs 29 ∧ Below w.heap.size w (w.alloc (.cells cs 29))) := ⟨Blk.made _ _ _, (Below.refl _ _).alloc (Nat.le_refl _) _⟩
  have hsz : (Try.prog.info? 29).map (·.size) = some cs.size := by rw [hc7]; exact infoSkI
  clear h hw
  go_enter Try.func11, Try.ntmps11
  go_wp2_with (first | go_skip | (with_reducible refine stopLoad 29 rfl ?_))
  refine load_known 29 w.heap.size cs 29 _ HT.out.1 rfl rfl rfl Try.underlying29 rfl hsz ?_
  go_wp2_with fail
  refine (okTally_any _ s F _ (HH.out.1.below HT.out.2) HH.out.2).mono ?_
  rintro e w1 ⟨xs, ys, rfl, _, hy, hx, hxy, hb1⟩
  obtain ⟨d, hd⟩ : ∃ d, d = okT s xs := ⟨_, rfl⟩
  have HB : Hid (ys.length = 28 ∧ d = s.ok ∧ (s.ok = true → ys = s.nums) ∧ Below w.heap.size w w1) := ⟨hy, hd.trans (okT_ok hx), fun e => by rw [hxy (by rw [okT_ok hx]; exact e), hx (ok_shaped e), tl_nums (Sk.ok_lens e).1], Below.next HT.out.2 hb1⟩
  rw [← hd]
  clear hb1 hy hx hxy hd HT hsz
  go_wp2_with (with_reducible refine stopStore 70 rfl ?_)
  refine store_fresh 70 w1.heap.size rfl (tc (List.replicate 28 0)) (tc ys) 70 rfl rfl rfl rfl (tallySize HB.out.1) (by rw [tc_size, tc_size, HB.out.1]; rfl) (tc_one _) ?_
  intro W2 hg2 hb2
  have HB2 : Hid (Blk W2 w1.heap.size (tc ys) 70 ∧ Below w.heap.size w W2) := ⟨hg2, Below.next HB.out.2.2.2 hb2⟩
  clear hb2 hg2
  cases d
  · have HV : Hid (s.bytes = []) := by show _ = _; unfold Sk.bytes; rw [← HB.out.2.1]; rfl
    go_wp2
    go_ret
    rw [HV.out]
    exact ⟨_, rfl, World.ownsRow_nil _ _ _ _, HB2.out.2⟩
  have HV : Hid (s.bytes = putAll ys ∧ ∀ x ∈ ys, InN x) := by
    have e := HB.out.2.1.symm
    rw [HB.out.2.2.1 e]
    exact ⟨Sk.bytes_ok e, (Sk.ok_lens e).2⟩
  go_wp2_with (first | go_skip | (with_reducible refine stopLoad 70 rfl ?_))
  refine load_part 70 w1.heap.size 0 28 ys 70 _ HB2.out.1 rfl rfl rfl Try.underlying70 rfl infoTally (by rw [HB.out.1]; omega) ?_
  rw [List.drop_zero, List.take_of_length_le (Nat.le_of_eq HB.out.1)]
  go_wp2_with fail
  refine (numbers_any ys _ HB.out.1).mono ?_
  rintro e w3 ⟨u, rfl, hown, hb3⟩
  obtain ⟨a, cap, G, rfl, hr, _⟩ := rdI_of_own hown
  have HR3 : Hid (RdI w3 a ys.length ys G ∧ Below w.heap.size w w3) := ⟨hr, Below.next HB2.out.2 hb3⟩
  clear hown hb3 hr
  rw [HB.out.1] at HR3 ⊢
  go_wp2_with fail
  refine (bytesOfNumbers_any a 28 cap ys G _ HR3.out.1 HV.out.2 (by omega)).mono ?_
  rintro e w4 ⟨u4, rfl, hown, hb4⟩
  have h4 : w4.ownsRow w.heap.size 5 1 u4 s.bytes.length (s.bytes.map (Value.int .u8)) := by
    rw [HV.out.1]
    exact own_mono7 hown HR3.out.2.size
  have HR4 : Hid (w4.ownsRow w.heap.size 5 1 u4 s.bytes.length (s.bytes.map (Value.int .u8)) ∧ Below w.heap.size w w4) := ⟨h4, Below.next HR3.out.2 hb4⟩
  clear hown hb4 h4
  go_wp2
  go_ret
  exact ⟨_, rfl, HR4.out⟩
def ItHeld (g : Nat) (cs : Array Value) (k : Nat) (ys : List Int) (W : World) : Prop := Blk W g cs 49 ∧ Blk W k (tc ys) 70
set_option maxRecDepth 200000 in
set_option maxHeartbeats 4000000 in
theorem numbersOfItem_any (v : Value) (x : It) (F : List Nat) (w : World) (h : RdIt w v x F) (hok : x.sk.ok = true) (hw : x.sk.wide) :
    Calls Try.prog 94 #[v] w fun e w' => ∃ u, e = .returned u ∧ w'.ownsRow w.heap.size 3 1 u 32 (([x.seq, x.cls, x.key, x.window] ++ x.sk.nums).map (Value.int .i64)) ∧ Below w.heap.size w w' := by
  obtain ⟨i0, hi, hz0, hz1, hz2⟩ := info_parts infoInt
  obtain ⟨a1, n1, c1, a2, n2, c2, a3, n3, c3, rfl, hr⟩ := h
  have HR : Hid (RdSk w (.agg #[.int .i64 x.sk.count, .int .i64 x.sk.sum, .int .i64 x.sk.min, .int .i64 x.sk.max, .slice a1 n1 c1, .slice a2 n2 c2, .slice a3 n3 c3]) x.sk F ∧ x.sk.wide ∧ x.sk.ok = true) := ⟨hr, hw, hok⟩
  have HT : Hid (Blk (w.alloc (.cells #[.int .i64 x.seq, .int .i64 x.cls, .int .i64 x.key, .int .i64 x.window, .int .i64 x.sk.count, .int .i64 x.sk.sum, .int .i64 x.sk.min, .int .i64 x.sk.max, .slice a1 n1 c1, .slice a2 n2 c2, .slice a3 n3 c3] 49)) w.heap.size #[.int .i64 x.seq, .int .i64 x.cls, .int .i64 x.key, .int .i64 x.window, .int .i64 x.sk.count, .int .i64 x.sk.sum, .int .i64 x.sk.min, .int .i64 x.sk.max, .slice a1 n1 c1, .slice a2 n2 c2, .slice a3 n3 c3] 49 ∧ Below w.heap.size w (w.alloc (.cells #[.int .i64 x.seq, .int .i64 x.cls, .int .i64 x.key, .int .i64 x.window, .int .i64 x.sk.count, .int .i64 x.sk.sum, .int .i64 x.sk.min, .int .i64 x.sk.max, .slice a1 n1 c1, .slice a2 n2 c2, .slice a3 n3 c3] 49))) := ⟨Blk.made _ _ _, (Below.refl _ _).alloc (Nat.le_refl _) _⟩
  clear hr hw hok
  go_enter Try.func94, Try.ntmps94
  go_wp2_with (first | go_skip | (with_reducible refine stopLoad 29 rfl ?_))
  refine load_cut 29 w.heap.size 4 7 _ #[.int .i64 x.sk.count, .int .i64 x.sk.sum, .int .i64 x.sk.min, .int .i64 x.sk.max, .slice a1 n1 c1, .slice a2 n2 c2, .slice a3 n3 c3] 49 _ HT.out.1 rfl rfl rfl Try.underlying29 rfl infoSkI (by simp) rfl ?_
  go_wp2_with fail
  refine (okTally_any _ x.sk F _ (HR.out.1.below HT.out.2) HR.out.2.1).mono ?_
  rintro e w1 ⟨xs, ys, rfl, _, hy, hx, hxy, hb1⟩
  obtain ⟨d, hd⟩ : ∃ d, d = okT x.sk xs := ⟨_, rfl⟩
  have HB : Hid (ys.length = 28 ∧ ys = x.sk.nums ∧ Below w.heap.size w w1 ∧ Blk w1 w.heap.size #[.int .i64 x.seq, .int .i64 x.cls, .int .i64 x.key, .int .i64 x.window, .int .i64 x.sk.count, .int .i64 x.sk.sum, .int .i64 x.sk.min, .int .i64 x.sk.max, .slice a1 n1 c1, .slice a2 n2 c2, .slice a3 n3 c3] 49) := ⟨hy, by rw [hxy (by rw [okT_ok hx]; exact HR.out.2.2), hx (ok_shaped HR.out.2.2), tl_nums (Sk.ok_lens HR.out.2.2).1], Below.next HT.out.2 hb1, HT.out.1.below hb1⟩
  rw [← hd]
  clear hb1 hy hx hxy hd HT
  go_wp2_with (with_reducible refine stopStore 70 rfl ?_)
  refine store_fresh 70 w1.heap.size rfl (tc (List.replicate 28 0)) (tc ys) 70 rfl rfl rfl rfl (tallySize HB.out.1) (by rw [tc_size, tc_size, HB.out.1]; rfl) (tc_one _) ?_
  intro W2 hg2 hb2
  have HB2 : Hid (ItHeld w.heap.size #[.int .i64 x.seq, .int .i64 x.cls, .int .i64 x.key, .int .i64 x.window, .int .i64 x.sk.count, .int .i64 x.sk.sum, .int .i64 x.sk.min, .int .i64 x.sk.max, .slice a1 n1 c1, .slice a2 n2 c2, .slice a3 n3 c3] w1.heap.size ys W2.drew ∧ Below w.heap.size w W2.drew) := ⟨⟨(HB.out.2.2.2.below hb2).drew, hg2.drew⟩, (Below.next HB.out.2.2.1 hb2).drew⟩
  clear hb2 hg2
  go_wp2
  refine wp_region_held (S := ItHeld w.heap.size #[.int .i64 x.seq, .int .i64 x.cls, .int .i64 x.key, .int .i64 x.window, .int .i64 x.sk.count, .int .i64 x.sk.sum, .int .i64 x.sk.min, .int .i64 x.sk.max, .slice a1 n1 c1, .slice a2 n2 c2, .slice a3 n3 c3] w1.heap.size ys) (by kernel_rfl) ?_
  change wpAnyH _ _ _ _ _ _ _ _ (World.drew _)
  refine takeH (o := ?o1) 0 (.pointer (some ⟨w.heap.size, 0, none⟩)) ?h1 ?r1
  case h1 => simp only [List.getElem?_toArray, List.getElem?_cons_zero]; rfl
  refine ⟨_, by simp [Act.put]; rfl, by kernel_rfl, by kernel_rfl, by kernel_rfl, fun _ _ _ h => h, (.inl ⟨rfl, fun W _ => by go_simp⟩), HB2.out.1, ?_⟩
  refine takeH (o := ?o2) 1 (.int .i64 x.seq) ?h2 ?r2
  case h2 => simp only [List.getElem?_toArray, List.getElem?_cons_succ, List.getElem?_cons_zero]; rfl
  refine ⟨_, by simp [Act.put]; rfl, by kernel_rfl, by kernel_rfl, by kernel_rfl, fun _ _ _ h => h, (.inl ⟨rfl, fun W hW => by have c := hW.1.cell 0; simp only [List.getElem?_toArray, List.getElem?_cons_zero] at c; go_simp⟩), HB2.out.1, ?_⟩
  refine takeH (o := ?o3) 2 (.pointer (some ⟨w.heap.size, 1, none⟩)) ?h3 ?r3
  case h3 => simp only [List.getElem?_toArray, List.getElem?_cons_succ, List.getElem?_cons_zero]; rfl
  refine ⟨_, by simp [Act.put]; rfl, by kernel_rfl, by kernel_rfl, by kernel_rfl, fun _ _ _ h => h, (.inl ⟨rfl, fun W _ => by go_simp⟩), HB2.out.1, ?_⟩
  refine takeH (o := ?o4) 3 (.int .i64 x.cls) ?h4 ?r4
  case h4 => simp only [List.getElem?_toArray, List.getElem?_cons_succ, List.getElem?_cons_zero]; rfl
  refine ⟨_, by simp [Act.put]; rfl, by kernel_rfl, by kernel_rfl, by kernel_rfl, fun _ _ _ h => h, (.inl ⟨rfl, fun W hW => by have c := hW.1.cell 1; simp only [List.getElem?_toArray, List.getElem?_cons_succ, List.getElem?_cons_zero] at c; go_simp⟩), HB2.out.1, ?_⟩
  refine takeH (o := ?o5) 4 (.pointer (some ⟨w.heap.size, 2, none⟩)) ?h5 ?r5
  case h5 => simp only [List.getElem?_toArray, List.getElem?_cons_succ, List.getElem?_cons_zero]; rfl
  refine ⟨_, by simp [Act.put]; rfl, by kernel_rfl, by kernel_rfl, by kernel_rfl, fun _ _ _ h => h, (.inl ⟨rfl, fun W _ => by go_simp⟩), HB2.out.1, ?_⟩
  refine takeH (o := ?o6) 5 (.int .i64 x.key) ?h6 ?r6
  case h6 => simp only [List.getElem?_toArray, List.getElem?_cons_succ, List.getElem?_cons_zero]; rfl
  refine ⟨_, by simp [Act.put]; rfl, by kernel_rfl, by kernel_rfl, by kernel_rfl, fun _ _ _ h => h, (.inl ⟨rfl, fun W hW => by have c := hW.1.cell 2; simp only [List.getElem?_toArray, List.getElem?_cons_succ, List.getElem?_cons_zero] at c; go_simp⟩), HB2.out.1, ?_⟩
  refine takeH (o := ?o7) 6 (.pointer (some ⟨w.heap.size, 3, none⟩)) ?h7 ?r7
  case h7 => simp only [List.getElem?_toArray, List.getElem?_cons_succ, List.getElem?_cons_zero]; rfl
  refine ⟨_, by simp [Act.put]; rfl, by kernel_rfl, by kernel_rfl, by kernel_rfl, fun _ _ _ h => h, (.inl ⟨rfl, fun W _ => by go_simp⟩), HB2.out.1, ?_⟩
  refine takeH (o := ?o8) 7 (.int .i64 x.window) ?h8 ?r8
  case h8 => simp only [List.getElem?_toArray, List.getElem?_cons_succ, List.getElem?_cons_zero]; rfl
  refine ⟨_, by simp [Act.put]; rfl, by kernel_rfl, by kernel_rfl, by kernel_rfl, fun _ _ _ h => h, (.inl ⟨rfl, fun W hW => by have c := hW.1.cell 3; simp only [List.getElem?_toArray, List.getElem?_cons_succ, List.getElem?_cons_zero] at c; go_simp⟩), HB2.out.1, ?_⟩
  refine takeH (o := ?o9) 9 (.agg (tc ys)) ?h9 ?r9
  case h9 => simp only [List.getElem?_toArray, List.getElem?_cons_succ, List.getElem?_cons_zero]; rfl
  refine ⟨_, by simp [Act.put]; rfl, by kernel_rfl, by kernel_rfl, by kernel_rfl, fun _ _ _ h => h, (yields_whole 70 w1.heap.size (tc ys) 70 _ rfl rfl rfl Try.underlying70 rfl (tallySize HB.out.1) (fun W hW => hW.2)), HB2.out.1, ?_⟩
  obtain ⟨Y, hY⟩ : ∃ Y, Y = W2.drew := ⟨_, rfl⟩
  rw [← hY] at HB2 ⊢
  clear hY
  refine twoH (o := ?o10) (o' := ?p10) 8 10 (by kernel_rfl) ?h10 ?g10 ?r10 ?s10
  case h10 => simp only [List.getElem?_toArray, List.getElem?_cons_succ, List.getElem?_cons_zero]; rfl
  case g10 => simp only [List.getElem?_toArray, List.getElem?_cons_succ, List.getElem?_cons_zero]; rfl
  case r10 =>
    intro K hK
    have hY1 : w.heap.size < Y.heap.size := HB2.out.1.1.lt
    have hY2 : w1.heap.size < Y.heap.size := HB2.out.1.2.lt
    have HL : Hid ((Y.alloc (.cells #[.int .i64 x.seq, .int .i64 x.cls, .int .i64 x.key, .int .i64 x.window] 3)).ownsRow w.heap.size 3 1 (.slice (some ⟨Y.heap.size, 0, none⟩) 4 4) 4 ([x.seq, x.cls, x.key, x.window].map (Value.int .i64))) := World.ownsRow_lit Y #[.int .i64 x.seq, .int .i64 x.cls, .int .i64 x.key, .int .i64 x.window] 4 HB2.out.2.size (by unfold maxLen; omega) rfl
    have bY : Below Y.heap.size Y (Y.alloc (.cells #[.int .i64 x.seq, .int .i64 x.cls, .int .i64 x.key, .int .i64 x.window] 3)) := (Below.refl _ _).alloc (Nat.le_refl _) _
    have HS3 : Hid (ItHeld w.heap.size #[.int .i64 x.seq, .int .i64 x.cls, .int .i64 x.key, .int .i64 x.window, .int .i64 x.sk.count, .int .i64 x.sk.sum, .int .i64 x.sk.min, .int .i64 x.sk.max, .slice a1 n1 c1, .slice a2 n2 c2, .slice a3 n3 c3] w1.heap.size ys (Y.alloc (.cells #[.int .i64 x.seq, .int .i64 x.cls, .int .i64 x.key, .int .i64 x.window] 3)) ∧ Below w.heap.size w (Y.alloc (.cells #[.int .i64 x.seq, .int .i64 x.cls, .int .i64 x.key, .int .i64 x.window] 3))) := ⟨⟨HB2.out.1.1.below bY, HB2.out.1.2.below bY⟩, Below.next HB2.out.2 bY⟩
    refine op_turn (.slice (some ⟨Y.heap.size, 0, none⟩) 4 4) (Y.alloc (.cells #[.int .i64 x.seq, .int .i64 x.cls, .int .i64 x.key, .int .i64 x.window] 3)) rfl (by go_simp) ⟨_, by simp [Act.put]; rfl, hK _ _ ⟨HS3.out.1, ?_⟩⟩
    clear hK bY
    obtain ⟨Z, hZ⟩ : ∃ Z, Z = Y.alloc (.cells #[.int .i64 x.seq, .int .i64 x.cls, .int .i64 x.key, .int .i64 x.window] 3) := ⟨_, rfl⟩
    rw [← hZ] at HL HS3 ⊢
    clear hZ
    refine onlyH (o := ?o11) 10 (by kernel_rfl) ?h11 ?r11
    case h11 => simp only [List.getElem?_toArray, List.getElem?_cons_succ, List.getElem?_cons_zero]; rfl
    intro K hK
    refine op_call1 41 _ _ Try.f41 (fun v w' => w'.ownsRow Z.heap.size 3 1 v ys.length (ys.map (Value.int .i64)) ∧ Below Z.heap.size Z w') rfl rfl Try.func41 (by kernel_rfl) (by kernel_rfl) ((numbers_any ys Z HB.out.1).mono (by rintro e w' ⟨u, rfl, h1, h2⟩; exact ⟨_, rfl, h1, h2⟩)) ?_
    rintro u W4 ⟨hu, hb4⟩
    obtain ⟨gu, cu, rfl, _⟩ := own_shape7 hu (by rw [HB.out.1]; omega)
    rw [HB.out.1] at hu ⊢
    have HO : Hid (W4.ownsRow w.heap.size 3 1 (.slice (some ⟨Y.heap.size, 0, none⟩) 4 4) 4 ([x.seq, x.cls, x.key, x.window].map (Value.int .i64)) ∧ (∀ j u, (ys.map (Value.int .i64))[j]? = some u → W4.cell? ((⟨gu, 0, none⟩ : Addr).add j) = some u) ∧ Below w.heap.size w W4) := ⟨ownsRow_below HL.out hb4, own_news hu, Below.next HS3.out.2 hb4⟩
    refine ⟨_, by simp [Act.put]; rfl, hK _ _ ⟨⟨HS3.out.1.1.below hb4, HS3.out.1.2.below hb4⟩, ?_⟩⟩
    have HSS : Hid (ItHeld w.heap.size #[.int .i64 x.seq, .int .i64 x.cls, .int .i64 x.key, .int .i64 x.window, .int .i64 x.sk.count, .int .i64 x.sk.sum, .int .i64 x.sk.min, .int .i64 x.sk.max, .slice a1 n1 c1, .slice a2 n2 c2, .slice a3 n3 c3] w1.heap.size ys W4) := ⟨HS3.out.1.1.below hb4, HS3.out.1.2.below hb4⟩
    clear hK hu hb4 HL HS3 HB2
    refine onlyH (o := ?o12) 11 (by kernel_rfl) ?h12 ?r12
    case h12 => simp only [List.getElem?_toArray, List.getElem?_cons_succ, List.getElem?_cons_zero]; rfl
    intro K hK
    refine op_append7 _ _ 22 rfl rfl w.heap.size 3 i0 (.int .i64 0) 1 8 Try.underlying22 hi hz0 hz1 hz2 rfl (by decide) _ _ _ rfl HO.out.1 ⟨gu, 0, none⟩ 28 cu (ys.map (Value.int .i64)) rfl (by simp [HB.out.1]) HO.out.2.1 (ints_one _) (by unfold maxLen; simp) (by simp) HO.out.2.2.size ?_
    intro v8 w8 hown hgrow
    have HF : Hid (w8.ownsRow w.heap.size 3 1 v8 32 (([x.seq, x.cls, x.key, x.window] ++ ys).map (Value.int .i64)) ∧ Below w.heap.size w w8) := ⟨by rw [List.map_append]; exact hown, HO.out.2.2.grown hgrow HO.out.2.2.size (fun g hg => (HO.out.1.lt g hg).1)⟩
    have bg : Below Y.heap.size W4 w8 := (Below.refl _ _).grown hgrow (by have := HO.out.1.lt Y.heap.size rfl; omega) (fun g hg => by cases hg; exact Nat.le_refl _)
    have HSX : Hid (ItHeld w.heap.size #[.int .i64 x.seq, .int .i64 x.cls, .int .i64 x.key, .int .i64 x.window, .int .i64 x.sk.count, .int .i64 x.sk.sum, .int .i64 x.sk.min, .int .i64 x.sk.max, .slice a1 n1 c1, .slice a2 n2 c2, .slice a3 n3 c3] w1.heap.size ys w8) := ⟨HSS.out.1.agree (bg.block _ hY1), HSS.out.2.agree (bg.block _ hY2)⟩
    clear hown hgrow HO bg
    refine ⟨_, by simp [Act.put]; rfl, hK _ _ ⟨HSX.out, ?_⟩⟩
    clear hK
    refine onlyH (o := ?o13) 12 (by kernel_rfl) ?h13 ?r13
    case h13 => simp only [List.getElem?_toArray, List.getElem?_cons_succ, List.getElem?_cons_zero]; rfl
    intro K hK
    refine op_value v8 rfl (by go_simp) ⟨_, by simp [Act.put]; rfl, hK _ _ ⟨HSX.out, ?_⟩⟩
    clear hK
    refine wpAnyH_done (by kernel_rfl) ?_ _
    go_wp2
    go_ret
    rw [← HB.out.2.1]
    exact ⟨_, rfl, HF.out⟩
  case s10 =>
    intro K hK
    refine op_call1 41 _ _ Try.f41 (fun v w' => w'.ownsRow Y.heap.size 3 1 v ys.length (ys.map (Value.int .i64)) ∧ Below Y.heap.size Y w') rfl rfl Try.func41 (by kernel_rfl) (by kernel_rfl) ((numbers_any ys Y HB.out.1).mono (by rintro e w' ⟨u, rfl, h1, h2⟩; exact ⟨_, rfl, h1, h2⟩)) ?_
    rintro u W4 ⟨hu, hb4⟩
    obtain ⟨gu, cu, rfl, _⟩ := own_shape7 hu (by rw [HB.out.1]; omega)
    rw [HB.out.1] at hu ⊢
    have HS3 : Hid (ItHeld w.heap.size #[.int .i64 x.seq, .int .i64 x.cls, .int .i64 x.key, .int .i64 x.window, .int .i64 x.sk.count, .int .i64 x.sk.sum, .int .i64 x.sk.min, .int .i64 x.sk.max, .slice a1 n1 c1, .slice a2 n2 c2, .slice a3 n3 c3] w1.heap.size ys W4 ∧ Below w.heap.size w W4 ∧ W4.ownsRow Y.heap.size 3 1 (.slice (some ⟨gu, 0, none⟩) 28 cu) 28 (ys.map (Value.int .i64))) := ⟨⟨HB2.out.1.1.below hb4, HB2.out.1.2.below hb4⟩, Below.next HB2.out.2 hb4, hu⟩
    refine ⟨_, by simp [Act.put]; rfl, hK _ _ ⟨HS3.out.1, ?_⟩⟩
    clear hK hu hb4 HB2
    refine onlyH (o := ?o14) 8 (by kernel_rfl) ?h14 ?r14
    case h14 => simp only [List.getElem?_toArray, List.getElem?_cons_succ, List.getElem?_cons_zero]; rfl
    intro K hK
    have hY1 : w.heap.size < W4.heap.size := HS3.out.1.1.lt
    have hY2 : w1.heap.size < W4.heap.size := HS3.out.1.2.lt
    have HL : Hid ((W4.alloc (.cells #[.int .i64 x.seq, .int .i64 x.cls, .int .i64 x.key, .int .i64 x.window] 3)).ownsRow w.heap.size 3 1 (.slice (some ⟨W4.heap.size, 0, none⟩) 4 4) 4 ([x.seq, x.cls, x.key, x.window].map (Value.int .i64))) := World.ownsRow_lit W4 #[.int .i64 x.seq, .int .i64 x.cls, .int .i64 x.key, .int .i64 x.window] 4 HS3.out.2.1.size (by unfold maxLen; omega) rfl
    have bY : Below W4.heap.size W4 (W4.alloc (.cells #[.int .i64 x.seq, .int .i64 x.cls, .int .i64 x.key, .int .i64 x.window] 3)) := (Below.refl _ _).alloc (Nat.le_refl _) _
    have HO : Hid ((W4.alloc (.cells #[.int .i64 x.seq, .int .i64 x.cls, .int .i64 x.key, .int .i64 x.window] 3)).ownsRow w.heap.size 3 1 (.slice (some ⟨W4.heap.size, 0, none⟩) 4 4) 4 ([x.seq, x.cls, x.key, x.window].map (Value.int .i64)) ∧ (∀ j u, (ys.map (Value.int .i64))[j]? = some u → (W4.alloc (.cells #[.int .i64 x.seq, .int .i64 x.cls, .int .i64 x.key, .int .i64 x.window] 3)).cell? ((⟨gu, 0, none⟩ : Addr).add j) = some u) ∧ Below w.heap.size w (W4.alloc (.cells #[.int .i64 x.seq, .int .i64 x.cls, .int .i64 x.key, .int .i64 x.window] 3))) := ⟨HL.out, own_news (ownsRow_below HS3.out.2.2 bY), Below.next HS3.out.2.1 bY⟩
    have HSS : Hid (ItHeld w.heap.size #[.int .i64 x.seq, .int .i64 x.cls, .int .i64 x.key, .int .i64 x.window, .int .i64 x.sk.count, .int .i64 x.sk.sum, .int .i64 x.sk.min, .int .i64 x.sk.max, .slice a1 n1 c1, .slice a2 n2 c2, .slice a3 n3 c3] w1.heap.size ys (W4.alloc (.cells #[.int .i64 x.seq, .int .i64 x.cls, .int .i64 x.key, .int .i64 x.window] 3))) := ⟨HS3.out.1.1.below bY, HS3.out.1.2.below bY⟩
    refine op_turn (.slice (some ⟨W4.heap.size, 0, none⟩) 4 4) (W4.alloc (.cells #[.int .i64 x.seq, .int .i64 x.cls, .int .i64 x.key, .int .i64 x.window] 3)) rfl (by go_simp) ⟨_, by simp [Act.put]; rfl, hK _ _ ⟨HSS.out, ?_⟩⟩
    clear hK bY HL HS3
    obtain ⟨Z, hZ⟩ : ∃ Z, Z = W4.alloc (.cells #[.int .i64 x.seq, .int .i64 x.cls, .int .i64 x.key, .int .i64 x.window] 3) := ⟨_, rfl⟩
    rw [← hZ] at HO HSS ⊢
    clear hZ
    refine onlyH (o := ?o15) 11 (by kernel_rfl) ?h15 ?r15
    case h15 => simp only [List.getElem?_toArray, List.getElem?_cons_succ, List.getElem?_cons_zero]; rfl
    intro K hK
    refine op_append7 _ _ 22 rfl rfl w.heap.size 3 i0 (.int .i64 0) 1 8 Try.underlying22 hi hz0 hz1 hz2 rfl (by decide) _ _ _ rfl HO.out.1 ⟨gu, 0, none⟩ 28 cu (ys.map (Value.int .i64)) rfl (by simp [HB.out.1]) HO.out.2.1 (ints_one _) (by unfold maxLen; simp) (by simp) HO.out.2.2.size ?_
    intro v8 w8 hown hgrow
    have HF : Hid (w8.ownsRow w.heap.size 3 1 v8 32 (([x.seq, x.cls, x.key, x.window] ++ ys).map (Value.int .i64)) ∧ Below w.heap.size w w8) := ⟨by rw [List.map_append]; exact hown, HO.out.2.2.grown hgrow HO.out.2.2.size (fun g hg => (HO.out.1.lt g hg).1)⟩
    have bg : Below W4.heap.size Z w8 := (Below.refl _ _).grown hgrow (by have := HO.out.1.lt W4.heap.size rfl; omega) (fun g hg => by cases hg; exact Nat.le_refl _)
    have HSX : Hid (ItHeld w.heap.size #[.int .i64 x.seq, .int .i64 x.cls, .int .i64 x.key, .int .i64 x.window, .int .i64 x.sk.count, .int .i64 x.sk.sum, .int .i64 x.sk.min, .int .i64 x.sk.max, .slice a1 n1 c1, .slice a2 n2 c2, .slice a3 n3 c3] w1.heap.size ys w8) := ⟨HSS.out.1.agree (bg.block _ hY1), HSS.out.2.agree (bg.block _ hY2)⟩
    clear hown hgrow HO bg
    refine ⟨_, by simp [Act.put]; rfl, hK _ _ ⟨HSX.out, ?_⟩⟩
    clear hK
    refine onlyH (o := ?o16) 12 (by kernel_rfl) ?h16 ?r16
    case h16 => simp only [List.getElem?_toArray, List.getElem?_cons_succ, List.getElem?_cons_zero]; rfl
    intro K hK
    refine op_value v8 rfl (by go_simp) ⟨_, by simp [Act.put]; rfl, hK _ _ ⟨HSX.out, ?_⟩⟩
    clear hK
    refine wpAnyH_done (by kernel_rfl) ?_ _
    go_wp2
    go_ret
    rw [← HB.out.2.1]
    exact ⟨_, rfl, HF.out⟩
set_option maxRecDepth 100000 in
set_option maxHeartbeats 4000000 in
theorem crcBytes_any (a : Option Addr) (len cap : Nat) (zs : List Int) (w : World) (h : RdB w a len zs) (hlen : len ≤ 1048576) :
    Calls Try.prog 60 #[.slice a len cap] w fun e w' => e = .returned (.slice (some ⟨w.heap.size, 0, none⟩) 4 4) ∧ w' = w.alloc (.cells ((sumOf zs).map (Value.int .u8)).toArray 5) := by
  have HR : Hid (RdB w a len zs) := h
  have hc := crcOf_range zs h.range
  clear h
  go_enter Try.func60, Try.ntmps60
  go_wp2_with fail
  refine (crcImpl_any a len cap zs _ HR.out hlen).mono ?_
  rintro e w1 ⟨rfl, hw1⟩
  have hw1' := hw1.symm
  subst hw1'
  clear hw1
  obtain ⟨c, hcc⟩ : ∃ c, c = crcOf zs := ⟨_, rfl⟩
  rw [show bits .xor .i64 (crc64 zs) 4294967295 = c from hcc.symm]
  rw [← hcc] at hc
  have HC : Hid (c = crcOf zs) := hcc
  clear hcc
  go_wp2
  go_ret
  refine ⟨rfl, ?_⟩
  unfold sumOf
  rw [← HC.out]
  simp
end Go.Proofs.Ytfbfklgjccbplaq
/- The walks through the program's sketchOfNumbers and SketchOf. No statement of the seat is proved here. -/
namespace Go.Proofs.Ytfbfklgjccbplaq
open Go.RowKit
/-- These numbers are that summary's; or no summary's. -/
def SkN (l : List Int) (s : Sk) (d : Bool) : Prop := if d = true then l.length = 28 ∧ s = skOf l ∧ s.ok = true else s = Sk.zero ∧ ¬ (l.length = 28 ∧ (skOf l).ok = true)
theorem rdI_own_cap {w : World} {B e n : Nat} {v : Value} {zs : List Int} (h : w.ownsRow B e 1 v n (zs.map (Value.int .i64))) : ∃ a cap F, v = .slice a n cap ∧ RdI w a n zs F ∧ n ≤ cap := by
  obtain ⟨a, cap, F, rfl, hr, _⟩ := rdI_of_own h
  refine ⟨a, cap, F, rfl, hr, ?_⟩
  rcases h.2 with ⟨_, h0⟩ | ⟨g, c, cur, h1, _, _, h2, _⟩
  · omega
  · cases h1; exact h2
theorem skN_bad {l : List Int} (h : ¬ (l.length = 28 ∧ (skOf l).ok = true)) : SkN l Sk.zero false := (if_neg (by simp)).mpr ⟨rfl, h⟩
theorem skN_yes {l : List Int} (h1 : l.length = 28) (h2 : (skOf l).ok = true) : SkN l (skOf l) true := (if_pos rfl).mpr ⟨h1, rfl, h2⟩
theorem num_splice {l : List Int} (h : l.length = 28) : splice (splice (splice (splice (([l.getD 0 0, l.getD 1 0, l.getD 2 0, l.getD 3 0] ++ List.replicate 24 0).map (Value.int .i64)) 4 (((l.drop 4).take 8).map (Value.int .i64))) 12 (((l.drop 12).take 8).map (Value.int .i64))) 20 (((l.drop 20).take 4).map (Value.int .i64))) 24 (((l.drop 24).take 4).map (Value.int .i64)) = l.map (Value.int .i64) := by
  have e := tl_map (skOf l) (by simp [skOf]; omega) (by simp [skOf]; omega) (by simp [skOf]; omega) (by simp [skOf]; omega)
  have t : (skOf l).tl = l := by rw [tl_nums (skOf_lens h), skOf_nums h]
  rw [t] at e
  exact e
set_option maxRecDepth 200000 in
set_option maxHeartbeats 8000000 in
theorem sketchOfNumbers_any (a : Option Addr) (len cap : Nat) (l : List Int) (F : List Nat) (w : World) (h : RdI w a len l F) (hlen : len ≤ 1048576) (hcap : len ≤ cap) :
    Calls Try.prog 48 #[.slice a len cap] w fun e w' => NewSk2 w (SkN l) e w' := by
  have HL : Hid (l.length = len) := h.length
  have bR : Below w.heap.size w (w.alloc (.cells #[.int .i64 0, .int .i64 0, .int .i64 0, .int .i64 0, .slice none 0 0, .slice none 0 0, .slice none 0 0] 29)) := (Below.refl _ _).alloc (Nat.le_refl _) _
  have HT : Hid (Blk (w.alloc (.cells #[.int .i64 0, .int .i64 0, .int .i64 0, .int .i64 0, .slice none 0 0, .slice none 0 0, .slice none 0 0] 29)) w.heap.size #[.int .i64 0, .int .i64 0, .int .i64 0, .int .i64 0, .slice none 0 0, .slice none 0 0, .slice none 0 0] 29 ∧ Below w.heap.size w (w.alloc (.cells #[.int .i64 0, .int .i64 0, .int .i64 0, .int .i64 0, .slice none 0 0, .slice none 0 0, .slice none 0 0] 29))) := ⟨Blk.made _ _ _, bR⟩
  clear bR
  by_cases hne : len = 28
  rotate_left
  · have hneb : ((len : Int) != 28) = true := by simpa using (by omega : ¬ (len : Int) = 28)
    have HV : Hid (SkN l Sk.zero false) := skN_bad (by rw [HL.out]; omega)
    clear h hne
    go_enter Try.func48, Try.ntmps48
    go_wp2_with (first | go_skip | (with_reducible refine stopStore 29 rfl ?_))
    refine store_known 29 w.heap.size _ #[.int .i64 0, .int .i64 0, .int .i64 0, .int .i64 0, .slice none 0 0, .slice none 0 0, .slice none 0 0] 29 HT.out.1 rfl rfl rfl rfl infoSkI rfl (by simp [Value.oneCell']) ?_
    go_wp2
    refine bodyPost_ret (results_row_tmp Try.results48 _ _ w.heap.size _ _ _ _ rfl HT.out.1.setRow Try.underlying29 rfl infoSkI) rfl ?_
    exact ⟨_, Sk.zero, false, [], rfl, rdSk_zero7 _, Own.nil, below_setRow HT.out.2 (Nat.le_refl _) _, HV.out⟩
  subst hne
  have hneb : (((28 : Nat) : Int) != 28) = false := by simp
  obtain ⟨b, off, rfl⟩ := h.addr (by omega)
  have HR : Hid (RdI w (some ⟨b, off, none⟩) 28 l F) := h
  obtain ⟨x0, hx0⟩ : ∃ x, x = l.getD 0 0 := ⟨_, rfl⟩
  obtain ⟨x1, hx1⟩ : ∃ x, x = l.getD 1 0 := ⟨_, rfl⟩
  obtain ⟨x2, hx2⟩ : ∃ x, x = l.getD 2 0 := ⟨_, rfl⟩
  obtain ⟨x3, hx3⟩ : ∃ x, x = l.getD 3 0 := ⟨_, rfl⟩
  have HX : Hid (x0 = l.getD 0 0 ∧ x1 = l.getD 1 0 ∧ x2 = l.getD 2 0 ∧ x3 = l.getD 3 0) := ⟨hx0, hx1, hx2, hx3⟩
  have HB0 : Hid (∀ W, Below w.heap.size w W → NumHeld b off x0 x1 x2 x3 W) := by
    intro W hb
    have r := HR.out.below hb
    rcases r.cells with ⟨h0, _⟩ | ⟨b', off', _, e, _, hc⟩
    · omega
    · cases e
      exact ⟨by rw [hx0]; exact hc 0 (by omega), by rw [hx1]; exact hc 1 (by omega), by rw [hx2]; exact hc 2 (by omega), by rw [hx3]; exact hc 3 (by omega)⟩
  have HK : Hid (∀ W, Below w.heap.size w W → ∀ k n, k + n ≤ 28 → 0 < n → ∃ ad, (some ⟨b, off + k, none⟩ : Option Addr) = some ad ∧ ∀ j v, (((l.drop k).take n).map (Value.int .i64))[j]? = some v → W.cell? (ad.add j) = some v) := by
    intro W hb k n hkn hn
    refine ⟨_, rfl, fun j v hj => ?_⟩
    have r := HR.out.below hb
    rcases r.cells with ⟨h0, _⟩ | ⟨b', off', _, e, _, hc⟩
    · omega
    · cases e
      rw [List.getElem?_map, Option.map_eq_some_iff] at hj
      obtain ⟨x, hj, rfl⟩ := hj
      have hjn : j < n := by
        have := (List.getElem?_eq_some_iff.1 hj).1
        rw [List.length_take] at this
        omega
      rw [List.getElem?_take, if_pos hjn, List.getElem?_drop] at hj
      rw [show (⟨b, off + k, none⟩ : Addr).add j = ⟨b, off + (k + j), none⟩ from by cases j <;> simp [Addr.add, Nat.add_assoc], hc (k + j) (by omega)]
      simp [hj]
  clear h hx0 hx1 hx2 hx3
  go_enter Try.func48, Try.ntmps48
  go_wp2
  obtain ⟨W0, hW0⟩ : ∃ W, W = w.alloc (.cells #[.int .i64 0, .int .i64 0, .int .i64 0, .int .i64 0, .slice none 0 0, .slice none 0 0, .slice none 0 0] 29) := ⟨_, rfl⟩
  rw [← hW0] at HT ⊢
  clear hW0
  have HS : Hid (NumHeld b off x0 x1 x2 x3 W0.drew ∧ Below w.heap.size w W0.drew ∧ Blk W0.drew w.heap.size #[.int .i64 0, .int .i64 0, .int .i64 0, .int .i64 0, .slice none 0 0, .slice none 0 0, .slice none 0 0] 29) := ⟨HB0.out _ HT.out.2.drew, HT.out.2.drew, HT.out.1.drew⟩
  refine wp_region_held (S := NumHeld b off x0 x1 x2 x3) (by kernel_rfl) ?_
  change wpAnyH _ _ _ _ _ _ _ _ (World.drew _)
  refine takeH (o := ?o1) 0 (.slice (some ⟨b, off, none⟩) 28 cap) ?h1 ?r1
  case h1 => simp only [List.getElem?_toArray, List.getElem?_cons_zero]; rfl
  refine ⟨_, by simp [Act.put]; rfl, by kernel_rfl, by kernel_rfl, by kernel_rfl, fun _ _ _ h => h, (.inl ⟨rfl, fun W _ => by go_simp⟩), HS.out.1, ?_⟩
  refine takeH (o := ?o2) 1 (.pointer (some ⟨b, off, none⟩)) ?h2 ?r2
  case h2 => simp only [List.getElem?_toArray, List.getElem?_cons_succ, List.getElem?_cons_zero]; rfl
  refine ⟨_, by simp [Act.put]; rfl, by kernel_rfl, by kernel_rfl, by kernel_rfl, fun _ _ _ h => h, (.inl ⟨rfl, fun W _ => by go_simp⟩), HS.out.1, ?_⟩
  refine takeH (o := ?o3) 2 (.int .i64 x0) ?h3 ?r3
  case h3 => simp only [List.getElem?_toArray, List.getElem?_cons_succ, List.getElem?_cons_zero]; rfl
  refine ⟨_, by simp [Act.put]; rfl, by kernel_rfl, by kernel_rfl, by kernel_rfl, fun _ _ _ h => h, (.inl ⟨rfl, fun W hW => by have c := hW.1; go_simp⟩), HS.out.1, ?_⟩
  refine takeH (o := ?o4) 3 (.slice (some ⟨b, off, none⟩) 28 cap) ?h4 ?r4
  case h4 => simp only [List.getElem?_toArray, List.getElem?_cons_succ, List.getElem?_cons_zero]; rfl
  refine ⟨_, by simp [Act.put]; rfl, by kernel_rfl, by kernel_rfl, by kernel_rfl, fun _ _ _ h => h, (.inl ⟨rfl, fun W _ => by go_simp⟩), HS.out.1, ?_⟩
  refine takeH (o := ?o5) 4 (.pointer (some ⟨b, off + 1, none⟩)) ?h5 ?r5
  case h5 => simp only [List.getElem?_toArray, List.getElem?_cons_succ, List.getElem?_cons_zero]; rfl
  refine ⟨_, by simp [Act.put]; rfl, by kernel_rfl, by kernel_rfl, by kernel_rfl, fun _ _ _ h => h, (.inl ⟨rfl, fun W _ => by go_simp⟩), HS.out.1, ?_⟩
  refine takeH (o := ?o6) 5 (.int .i64 x1) ?h6 ?r6
  case h6 => simp only [List.getElem?_toArray, List.getElem?_cons_succ, List.getElem?_cons_zero]; rfl
  refine ⟨_, by simp [Act.put]; rfl, by kernel_rfl, by kernel_rfl, by kernel_rfl, fun _ _ _ h => h, (.inl ⟨rfl, fun W hW => by have c := hW.2.1; go_simp⟩), HS.out.1, ?_⟩
  refine takeH (o := ?o7) 6 (.slice (some ⟨b, off, none⟩) 28 cap) ?h7 ?r7
  case h7 => simp only [List.getElem?_toArray, List.getElem?_cons_succ, List.getElem?_cons_zero]; rfl
  refine ⟨_, by simp [Act.put]; rfl, by kernel_rfl, by kernel_rfl, by kernel_rfl, fun _ _ _ h => h, (.inl ⟨rfl, fun W _ => by go_simp⟩), HS.out.1, ?_⟩
  refine takeH (o := ?o8) 7 (.pointer (some ⟨b, off + 2, none⟩)) ?h8 ?r8
  case h8 => simp only [List.getElem?_toArray, List.getElem?_cons_succ, List.getElem?_cons_zero]; rfl
  refine ⟨_, by simp [Act.put]; rfl, by kernel_rfl, by kernel_rfl, by kernel_rfl, fun _ _ _ h => h, (.inl ⟨rfl, fun W _ => by go_simp⟩), HS.out.1, ?_⟩
  refine takeH (o := ?o9) 8 (.int .i64 x2) ?h9 ?r9
  case h9 => simp only [List.getElem?_toArray, List.getElem?_cons_succ, List.getElem?_cons_zero]; rfl
  refine ⟨_, by simp [Act.put]; rfl, by kernel_rfl, by kernel_rfl, by kernel_rfl, fun _ _ _ h => h, (.inl ⟨rfl, fun W hW => by have c := hW.2.2.1; go_simp⟩), HS.out.1, ?_⟩
  refine takeH (o := ?o10) 9 (.slice (some ⟨b, off, none⟩) 28 cap) ?h10 ?r10
  case h10 => simp only [List.getElem?_toArray, List.getElem?_cons_succ, List.getElem?_cons_zero]; rfl
  refine ⟨_, by simp [Act.put]; rfl, by kernel_rfl, by kernel_rfl, by kernel_rfl, fun _ _ _ h => h, (.inl ⟨rfl, fun W _ => by go_simp⟩), HS.out.1, ?_⟩
  refine takeH (o := ?o11) 10 (.pointer (some ⟨b, off + 3, none⟩)) ?h11 ?r11
  case h11 => simp only [List.getElem?_toArray, List.getElem?_cons_succ, List.getElem?_cons_zero]; rfl
  refine ⟨_, by simp [Act.put]; rfl, by kernel_rfl, by kernel_rfl, by kernel_rfl, fun _ _ _ h => h, (.inl ⟨rfl, fun W _ => by go_simp⟩), HS.out.1, ?_⟩
  refine takeH (o := ?o12) 11 (.int .i64 x3) ?h12 ?r12
  case h12 => simp only [List.getElem?_toArray, List.getElem?_cons_succ, List.getElem?_cons_zero]; rfl
  refine ⟨_, by simp [Act.put]; rfl, by kernel_rfl, by kernel_rfl, by kernel_rfl, fun _ _ _ h => h, (.inl ⟨rfl, fun W hW => by have c := hW.2.2.2; go_simp⟩), HS.out.1, ?_⟩
  refine takeH (o := ?o13) 12 (.agg (tc ([x0, x1, x2, x3] ++ List.replicate 24 0))) ?h13 ?r13
  case h13 => simp only [List.getElem?_toArray, List.getElem?_cons_succ, List.getElem?_cons_zero]; rfl
  refine ⟨_, by simp [Act.put]; rfl, by kernel_rfl, by kernel_rfl, by kernel_rfl, fun _ _ _ h => h, (.inl ⟨rfl, fun W _ => by go_simp; rfl⟩), HS.out.1, ?_⟩
  refine onlyH (o := ?o14) 13 (by kernel_rfl) ?h14 ?r14
  case h14 => simp only [List.getElem?_toArray, List.getElem?_cons_succ, List.getElem?_cons_zero]; rfl
  intro K hK
  have bA : Below W0.drew.heap.size W0.drew (W0.drew.alloc (.cells (tc (List.replicate 28 0)) 70)) := (Below.refl _ _).alloc (Nat.le_refl _) _
  have HA : Hid (Below w.heap.size w (W0.drew.alloc (.cells (tc (List.replicate 28 0)) 70)) ∧ Blk (W0.drew.alloc (.cells (tc (List.replicate 28 0)) 70)) w.heap.size #[.int .i64 0, .int .i64 0, .int .i64 0, .int .i64 0, .slice none 0 0, .slice none 0 0, .slice none 0 0] 29 ∧ Blk (W0.drew.alloc (.cells (tc (List.replicate 28 0)) 70)) W0.heap.size (tc (List.replicate 28 0)) 70) := ⟨Below.next HS.out.2.1 bA, HS.out.2.2.below bA, Blk.made W0.drew _ _⟩
  refine op_turn (.pointer (some ⟨W0.heap.size, 0, none⟩)) (W0.drew.alloc (.cells (tc (List.replicate 28 0)) 70)) rfl (by go_simp; rfl) ⟨_, by simp [Act.put]; rfl, hK _ _ ⟨HB0.out _ HA.out.1, ?_⟩⟩
  clear hK bA
  refine onlyH (o := ?o15) 14 (by kernel_rfl) ?h15 ?r15
  case h15 => simp only [List.getElem?_toArray, List.getElem?_cons_succ, List.getElem?_cons_zero]; rfl
  intro K hK
  have lt0 : w.heap.size < W0.heap.size := HT.out.1.lt
  have hbS : Below w.heap.size w ((W0.drew.alloc (.cells (tc (List.replicate 28 0)) 70)).setRow W0.heap.size (tc ([x0, x1, x2, x3] ++ List.replicate 24 0))) := below_setRow HA.out.1 (by omega) _
  refine op_store 70 W0.heap.size (tc (List.replicate 28 0)) (tc ([x0, x1, x2, x3] ++ List.replicate 24 0)) 70 rfl rfl rfl rfl HA.out.2.2 (tallySize rfl) rfl (tc_one _) ⟨_, by simp [Act.put]; rfl, hK _ _ ⟨HB0.out _ hbS, ?_⟩⟩
  clear hK
  refine wpAnyH_done (by kernel_rfl) ?_ _
  obtain ⟨W1, hW1⟩ : ∃ W, W = (W0.drew.alloc (.cells (tc (List.replicate 28 0)) 70)).setRow W0.heap.size (tc ([x0, x1, x2, x3] ++ List.replicate 24 0)) := ⟨_, rfl⟩
  obtain ⟨L0, hL0⟩ : ∃ L, L = ([x0, x1, x2, x3] ++ List.replicate 24 0).map (Value.int .i64) := ⟨_, rfl⟩
  have HL0 : Hid (L0 = ([x0, x1, x2, x3] ++ List.replicate 24 0).map (Value.int .i64)) := hL0
  have HG1 : Hid (W1.heap[W0.heap.size]? = some (.cells L0.toArray 70 (0, 0)) ∧ L0.length = 28) := ⟨by rw [hW1, hL0]; exact HA.out.2.2.setRow, by rw [hL0]; rfl⟩
  have HQ1 : Hid (Below w.heap.size w W1 ∧ Blk W1 w.heap.size #[.int .i64 0, .int .i64 0, .int .i64 0, .int .i64 0, .slice none 0 0, .slice none 0 0, .slice none 0 0] 29) := ⟨by rw [hW1]; exact hbS, by rw [hW1]; exact HA.out.2.1.setRowOther (by omega)⟩
  rw [← hW1]
  obtain ⟨T, hT⟩ : ∃ T, T = W0.heap.size := ⟨_, rfl⟩
  rw [← hT] at HG1 lt0 ⊢
  clear HA hbS hW1 hL0 HS HT hT
  have HM : Hid (∀ k n, k + n ≤ 28 → (((l.drop k).take n).map (Value.int .i64)).length = n) := by
    intro k n hkn
    have := HL.out
    simp
    omega
  go_wp2_with (first | go_skip | (with_reducible refine stopCopy rfl ?_))
  refine Stop.intro (wpList_copy_splice rfl _ _ 22 22 rfl 3 Try.underlying22 infoInt1 _ _ _ _ _ _ rfl rfl T 4 L0 70 HG1.out.1 (((l.drop 4).take 8).map (Value.int .i64)) (by rw [HM.out 4 8 (by omega)]; rfl) (fun _ => ⟨rfl, HK.out _ HQ1.out.1 4 8 (by omega) (by omega)⟩) (by rw [HM.out 4 8 (by omega), HG1.out.2]; omega) (ints_one _) T W1 (Below.refl _ _) (Nat.le_refl _) ?_)
  intro W2 hg hb
  obtain ⟨L1, hL1⟩ : ∃ L, L = splice L0 4 (((l.drop 4).take 8).map (Value.int .i64)) := ⟨_, rfl⟩
  have HG2 : Hid (W2.heap[T]? = some (.cells L1.toArray 70 (0, 0)) ∧ L1.length = 28) := ⟨by rw [hL1]; exact hg.out, by rw [hL1, length_splice _ _ _ (by rw [HM.out 4 8 (by omega), HG1.out.2]; omega)]; exact HG1.out.2⟩
  have HL1 : Hid (L1 = splice L0 4 (((l.drop 4).take 8).map (Value.int .i64))) := hL1
  have HQ2 : Hid (Below w.heap.size w W2 ∧ Blk W2 w.heap.size #[.int .i64 0, .int .i64 0, .int .i64 0, .int .i64 0, .slice none 0 0, .slice none 0 0, .slice none 0 0] 29) := ⟨HQ1.out.1.trans (hb.mono (by omega)), HQ1.out.2.agree (hb.block _ (by omega))⟩
  rw [HM.out 4 8 (by omega)]
  clear hg hb hL1 HG1 HQ1
  go_wp2_with (first | go_skip | (with_reducible refine stopCopy rfl ?_))
  refine Stop.intro (wpList_copy_splice rfl _ _ 22 22 rfl 3 Try.underlying22 infoInt1 _ _ _ _ _ _ rfl rfl T 12 L1 70 HG2.out.1 (((l.drop 12).take 8).map (Value.int .i64)) (by rw [HM.out 12 8 (by omega)]; rfl) (fun _ => ⟨rfl, HK.out _ HQ2.out.1 12 8 (by omega) (by omega)⟩) (by rw [HM.out 12 8 (by omega), HG2.out.2]; omega) (ints_one _) T W2 (Below.refl _ _) (Nat.le_refl _) ?_)
  intro W3 hg hb
  obtain ⟨L2, hL2⟩ : ∃ L, L = splice L1 12 (((l.drop 12).take 8).map (Value.int .i64)) := ⟨_, rfl⟩
  have HG3 : Hid (W3.heap[T]? = some (.cells L2.toArray 70 (0, 0)) ∧ L2.length = 28) := ⟨by rw [hL2]; exact hg.out, by rw [hL2, length_splice _ _ _ (by rw [HM.out 12 8 (by omega), HG2.out.2]; omega)]; exact HG2.out.2⟩
  have HL2 : Hid (L2 = splice L1 12 (((l.drop 12).take 8).map (Value.int .i64))) := hL2
  have HQ3 : Hid (Below w.heap.size w W3 ∧ Blk W3 w.heap.size #[.int .i64 0, .int .i64 0, .int .i64 0, .int .i64 0, .slice none 0 0, .slice none 0 0, .slice none 0 0] 29) := ⟨HQ2.out.1.trans (hb.mono (by omega)), HQ2.out.2.agree (hb.block _ (by omega))⟩
  rw [HM.out 12 8 (by omega)]
  clear hg hb hL2 HG2 HQ2
  go_wp2
  refine wp_loop_rounds 3 ?_
  rw [rounds_succ]
  go_wp2_with (first | go_skip | (with_reducible refine stopCopy rfl ?_))
  refine Stop.intro (wpList_copy_splice rfl _ _ 22 22 rfl 3 Try.underlying22 infoInt1 _ _ _ _ _ _ rfl rfl T 20 L2 70 HG3.out.1 (((l.drop 20).take 4).map (Value.int .i64)) (by rw [HM.out 20 4 (by omega)]; rfl) (fun _ => ⟨rfl, HK.out _ HQ3.out.1 20 4 (by omega) (by omega)⟩) (by rw [HM.out 20 4 (by omega), HG3.out.2]; omega) (ints_one _) T W3 (Below.refl _ _) (Nat.le_refl _) ?_)
  intro W4 hg hb
  obtain ⟨L3, hL3⟩ : ∃ L, L = splice L2 20 (((l.drop 20).take 4).map (Value.int .i64)) := ⟨_, rfl⟩
  have HG4 : Hid (W4.heap[T]? = some (.cells L3.toArray 70 (0, 0)) ∧ L3.length = 28) := ⟨by rw [hL3]; exact hg.out, by rw [hL3, length_splice _ _ _ (by rw [HM.out 20 4 (by omega), HG3.out.2]; omega)]; exact HG3.out.2⟩
  have HL3 : Hid (L3 = splice L2 20 (((l.drop 20).take 4).map (Value.int .i64))) := hL3
  have HQ4 : Hid (Below w.heap.size w W4 ∧ Blk W4 w.heap.size #[.int .i64 0, .int .i64 0, .int .i64 0, .int .i64 0, .slice none 0 0, .slice none 0 0, .slice none 0 0] 29) := ⟨HQ3.out.1.trans (hb.mono (by omega)), HQ3.out.2.agree (hb.block _ (by omega))⟩
  rw [HM.out 20 4 (by omega)]
  clear hg hb hL3 HG3 HQ3
  go_wp2_with fail
  rw [rounds_succ]
  go_wp2_with (first | go_skip | (with_reducible refine stopCopy rfl ?_))
  refine Stop.intro (wpList_copy_splice rfl _ _ 22 22 rfl 3 Try.underlying22 infoInt1 _ _ _ _ _ _ rfl rfl T 24 L3 70 HG4.out.1 (((l.drop 24).take 4).map (Value.int .i64)) (by rw [HM.out 24 4 (by omega)]; rfl) (fun _ => ⟨rfl, HK.out _ HQ4.out.1 24 4 (by omega) (by omega)⟩) (by rw [HM.out 24 4 (by omega), HG4.out.2]; omega) (ints_one _) T W4 (Below.refl _ _) (Nat.le_refl _) ?_)
  intro W5 hg hb
  obtain ⟨L4, hL4⟩ : ∃ L, L = splice L3 24 (((l.drop 24).take 4).map (Value.int .i64)) := ⟨_, rfl⟩
  have HG5 : Hid (W5.heap[T]? = some (.cells L4.toArray 70 (0, 0)) ∧ L4.length = 28) := ⟨by rw [hL4]; exact hg.out, by rw [hL4, length_splice _ _ _ (by rw [HM.out 24 4 (by omega), HG4.out.2]; omega)]; exact HG4.out.2⟩
  have HL4 : Hid (L4 = splice L3 24 (((l.drop 24).take 4).map (Value.int .i64))) := hL4
  have HQ5 : Hid (Below w.heap.size w W5 ∧ Blk W5 w.heap.size #[.int .i64 0, .int .i64 0, .int .i64 0, .int .i64 0, .slice none 0 0, .slice none 0 0, .slice none 0 0] 29) := ⟨HQ4.out.1.trans (hb.mono (by omega)), HQ4.out.2.agree (hb.block _ (by omega))⟩
  rw [HM.out 24 4 (by omega)]
  clear hg hb hL4 HG4 HQ4
  have HG6 : Hid (Blk W5 T (tc l) 70) := by
    have e : L4 = l.map (Value.int .i64) := by
      rw [HL4.out, HL3.out, HL2.out, HL1.out, HL0.out, HX.out.1, HX.out.2.1, HX.out.2.2.1, HX.out.2.2.2]
      exact num_splice HL.out
    have := HG5.out.1
    rw [e] at this
    exact this
  clear HG5
  go_wp2_with fail
  all_goals
    rw [rounds_succ]
    go_wp2_with (first | go_skip | (with_reducible refine stopLoad 70 rfl ?_))
    refine load_known 70 T (tc l) 70 _ HG6.out rfl rfl rfl Try.underlying70 rfl (tallySize HL.out) ?_
    go_wp2_with fail
    refine (sketch_any l _ HL.out).mono ?_
    rintro e W6 ⟨vs, X, rfl, rs, os, bs⟩
    obtain ⟨ds, rfl, hd7, hdone⟩ := rs.cells
    have HW6 : Hid (RdSk W6 (.agg ds) (skOf l) X ∧ Own W5.heap.size W6 X ∧ Below w.heap.size w W6 ∧ Blk W6 w.heap.size #[.int .i64 0, .int .i64 0, .int .i64 0, .int .i64 0, .slice none 0 0, .slice none 0 0, .slice none 0 0] 29 ∧ ds.size = 7 ∧ ds.all (·.oneCell') = true) := ⟨rs, os, Below.next HQ5.out.1 bs, HQ5.out.2.below bs, hd7, hdone⟩
    have lt5 : w.heap.size < W5.heap.size := HQ5.out.2.lt
    clear rs os bs hd7 hdone HG6 HQ5
    go_wp2_with (first | go_skip | (with_reducible refine stopStore 29 rfl ?_))
    refine store_fresh 29 W6.heap.size rfl #[.int .i64 0, .int .i64 0, .int .i64 0, .int .i64 0, .slice none 0 0, .slice none 0 0, .slice none 0 0] ds 29 rfl rfl rfl rfl (by rw [HW6.out.2.2.2.2.1]; exact infoSkI) (by rw [HW6.out.2.2.2.2.1]; rfl) HW6.out.2.2.2.2.2 ?_
    intro W7 hg7 hb7
    have HW7 : Hid (RdSk W7 (.agg ds) (skOf l) X ∧ Own W5.heap.size W7 X ∧ Below w.heap.size w W7 ∧ Blk W7 w.heap.size #[.int .i64 0, .int .i64 0, .int .i64 0, .int .i64 0, .slice none 0 0, .slice none 0 0, .slice none 0 0] 29 ∧ Blk W7 W6.heap.size ds 29 ∧ ds.size = 7 ∧ ds.all (·.oneCell') = true) := ⟨HW6.out.1.below hb7, HW6.out.2.1.below HW6.out.1.lt hb7, Below.next HW6.out.2.2.1 hb7, HW6.out.2.2.2.1.below hb7, hg7, HW6.out.2.2.2.2⟩
    clear hg7 hb7 HW6
    go_wp2_with (first | go_skip | (with_reducible refine stopLoad 29 rfl ?_))
    refine load_known 29 W6.heap.size ds 29 _ HW7.out.2.2.2.2.1 rfl rfl rfl Try.underlying29 rfl (by rw [HW7.out.2.2.2.2.2.1]; exact infoSkI) ?_
    go_wp2_with fail
    refine (okImpl_any _ (skOf l) X _ HW7.out.1 (wide_skOf HL.out)).mono ?_
    rintro e W8 ⟨rfl, hb8⟩
    have HW8 : Hid (RdSk W8 (.agg ds) (skOf l) X ∧ Own W5.heap.size W8 X ∧ Below w.heap.size w W8 ∧ Blk W8 w.heap.size #[.int .i64 0, .int .i64 0, .int .i64 0, .int .i64 0, .slice none 0 0, .slice none 0 0, .slice none 0 0] 29 ∧ Blk W8 W6.heap.size ds 29 ∧ ds.size = 7 ∧ ds.all (·.oneCell') = true) := ⟨HW7.out.1.below hb8, HW7.out.2.1.below HW7.out.1.lt hb8, Below.next HW7.out.2.2.1 hb8, HW7.out.2.2.2.1.below hb8, HW7.out.2.2.2.2.1.below hb8, HW7.out.2.2.2.2.2⟩
    clear hb8 HW7
    obtain ⟨d, hd⟩ : ∃ d, d = (skOf l).ok := ⟨_, rfl⟩
    rw [← hd]
    have HD : Hid (d = (skOf l).ok) := hd
    clear hd
    cases d
    · have HV : Hid (SkN l Sk.zero false) := skN_bad (fun q => by rw [← HD.out] at q; cases q.2)
      go_wp2_with (first | go_skip | (with_reducible refine stopStore 29 rfl ?_))
      refine store_known 29 w.heap.size _ #[.int .i64 0, .int .i64 0, .int .i64 0, .int .i64 0, .slice none 0 0, .slice none 0 0, .slice none 0 0] 29 HW8.out.2.2.2.1 rfl rfl rfl rfl infoSkI rfl (by simp [Value.oneCell']) ?_
      go_wp2
      refine bodyPost_ret (results_row_tmp Try.results48 _ _ w.heap.size _ _ _ _ rfl HW8.out.2.2.2.1.setRow Try.underlying29 rfl infoSkI) rfl ?_
      exact ⟨_, Sk.zero, false, [], rfl, rdSk_zero7 _, Own.nil, below_setRow HW8.out.2.2.1 (Nat.le_refl _) _, HV.out⟩
    have HV : Hid (SkN l (skOf l) true) := skN_yes HL.out HD.out.symm
    go_wp2_with (first | go_skip | (with_reducible refine stopLoad 29 rfl ?_))
    refine load_known 29 W6.heap.size ds 29 _ HW8.out.2.2.2.2.1 rfl rfl rfl Try.underlying29 rfl (by rw [HW8.out.2.2.2.2.2.1]; exact infoSkI) ?_
    go_wp2_with (first | go_skip | (with_reducible refine stopStore 29 rfl ?_))
    refine store_known 29 w.heap.size _ ds 29 HW8.out.2.2.2.1 rfl rfl rfl rfl (by rw [HW8.out.2.2.2.2.2.1]; exact infoSkI) (by rw [HW8.out.2.2.2.2.2.1]; rfl) HW8.out.2.2.2.2.2.2 ?_
    have nX : w.heap.size ∉ X := fun hx => by have := HW8.out.2.1.ge _ hx; omega
    have HF : Hid (RdSk (W8.setRow w.heap.size ds) (.agg ds) (skOf l) X ∧ Own w.heap.size (W8.setRow w.heap.size ds) X ∧ Below w.heap.size w (W8.setRow w.heap.size ds) ∧ Blk (W8.setRow w.heap.size ds) w.heap.size ds 29) := ⟨HW8.out.1.agree (Agree.row nX ds), (HW8.out.2.1.agree (Agree.row nX ds)).mono (by omega), below_setRow HW8.out.2.2.1 (Nat.le_refl _) _, HW8.out.2.2.2.1.setRow⟩
    have hds : (Try.prog.info? 29).map (·.size) = some ds.size := by rw [HW8.out.2.2.2.2.2.1]; exact infoSkI
    clear HW8 nX
    go_wp2
    refine bodyPost_ret (results_row_tmp Try.results48 _ _ w.heap.size _ _ _ _ rfl HF.out.2.2.2 Try.underlying29 rfl hds) rfl ?_
    exact ⟨_, skOf l, true, X, rfl, HF.out.1, HF.out.2.1, HF.out.2.2.1, HV.out⟩
theorem skIs_of {zs l : List Int} {s : Sk} {d : Bool} (h : AllIs zs l true) (k : SkN l s d) : SkIs zs s d := by
  unfold AllIs at h
  rw [if_pos rfl] at h
  unfold SkN at k
  cases d <;> simp only [if_true, Bool.false_eq_true, if_false] at k
  · rw [k.1]
    by_cases q : l.length = 28
    · exact skIs_bad h.2 h.1 (by cases e : (skOf l).ok; rfl; exact absurd ⟨q, e⟩ k.2)
    · exact skIs_long q h.2 h.1
  · rw [k.2.1]
    exact skIs_yes k.1 h.1 (by rw [← k.2.1]; exact k.2.2)
set_option maxRecDepth 200000 in
set_option maxHeartbeats 4000000 in
theorem sketchOfImpl_any (a : Option Addr) (len cap : Nat) (zs : List Int) (w : World) (h : RdB w a len zs) (hlen : len ≤ 1048576) (hcap : len ≤ cap) (ha : a = none → cap = 0) :
    Calls Try.prog 19 #[.slice a len cap] w fun e w' => NewSk2 w (SkIs zs) e w' := by
  have HR : Hid (RdB w a len zs ∧ len ≤ cap ∧ (a = none → cap = 0)) := ⟨h, hcap, ha⟩
  have HT : Hid (Blk (w.alloc (.cells #[.int .i64 0, .int .i64 0, .int .i64 0, .int .i64 0, .slice none 0 0, .slice none 0 0, .slice none 0 0] 29)) w.heap.size #[.int .i64 0, .int .i64 0, .int .i64 0, .int .i64 0, .slice none 0 0, .slice none 0 0, .slice none 0 0] 29 ∧ Below w.heap.size w (w.alloc (.cells #[.int .i64 0, .int .i64 0, .int .i64 0, .int .i64 0, .slice none 0 0, .slice none 0 0, .slice none 0 0] 29))) := ⟨Blk.made _ _ _, (Below.refl _ _).alloc (Nat.le_refl _) _⟩
  have hzl := h.length
  clear h hcap ha
  go_enter Try.func19, Try.ntmps19
  go_wp2_with fail
  refine (numbersOfBytes_any a len cap zs _ (HR.out.1.below HT.out.2) hlen HR.out.2.1 HR.out.2.2).mono ?_
  rintro e w1 ⟨⟨v, l, d, rfl, hown, hAll⟩, hb1⟩
  obtain ⟨a1, c1, X1, rfl, hr1, hc1⟩ := rdI_own_cap hown
  have HT1 : Hid (Blk w1 w.heap.size #[.int .i64 0, .int .i64 0, .int .i64 0, .int .i64 0, .slice none 0 0, .slice none 0 0, .slice none 0 0] 29 ∧ Below w.heap.size w w1 ∧ RdI w1 a1 l.length l X1 ∧ l.length ≤ c1 ∧ AllIs zs l d) := ⟨HT.out.1.below hb1, Below.next HT.out.2 hb1, hr1, hc1, hAll⟩
  have hll : l.length ≤ 1048576 := by have := (allIs_len hAll).1; omega
  clear hown hAll hb1 HT hr1 hc1 hzl
  cases d
  · have HV : Hid (SkIs zs Sk.zero false) := skIs_no (by have q := HT1.out.2.2.2.2; unfold AllIs at q; rw [if_neg (by simp)] at q; exact q.2)
    go_wp2_with (first | go_skip | (with_reducible refine stopStore 29 rfl ?_))
    refine store_known 29 w.heap.size _ #[.int .i64 0, .int .i64 0, .int .i64 0, .int .i64 0, .slice none 0 0, .slice none 0 0, .slice none 0 0] 29 HT1.out.1 rfl rfl rfl rfl infoSkI rfl (by simp [Value.oneCell']) ?_
    go_wp2
    refine bodyPost_ret (results_row_tmp Try.results19 _ _ w.heap.size _ _ _ _ rfl HT1.out.1.setRow Try.underlying29 rfl infoSkI) rfl ?_
    exact ⟨_, Sk.zero, false, [], rfl, rdSk_zero7 _, Own.nil, below_setRow HT1.out.2.1 (Nat.le_refl _) _, HV.out⟩
  obtain ⟨n1, hn1⟩ : ∃ n, n = l.length := ⟨_, rfl⟩
  rw [← hn1] at HT1 hll ⊢
  clear hn1
  go_wp2_with fail
  refine (sketchOfNumbers_any a1 n1 c1 l X1 _ HT1.out.2.2.1 hll HT1.out.2.2.2.1).mono ?_
  rintro e w2 ⟨v2, s, d, X, rfl, rs, os, bs, hR⟩
  obtain ⟨ds, rfl, hd7, hdone⟩ := rs.cells
  have HW2 : Hid (RdSk w2 (.agg ds) s X ∧ Own w1.heap.size w2 X ∧ Below w.heap.size w w2 ∧ Blk w2 w.heap.size #[.int .i64 0, .int .i64 0, .int .i64 0, .int .i64 0, .slice none 0 0, .slice none 0 0, .slice none 0 0] 29 ∧ ds.size = 7 ∧ ds.all (·.oneCell') = true ∧ SkIs zs s d) := ⟨rs, os, Below.next HT1.out.2.1 bs, HT1.out.1.below bs, hd7, hdone, skIs_of HT1.out.2.2.2.2 hR⟩
  have lt1 : w.heap.size < w1.heap.size := HT1.out.1.lt
  clear rs os bs hd7 hdone hR HT1
  go_wp2_with (first | go_skip | (with_reducible refine stopStore 29 rfl ?_))
  refine store_known 29 w.heap.size _ ds 29 HW2.out.2.2.2.1 rfl rfl rfl rfl (by rw [HW2.out.2.2.2.2.1]; exact infoSkI) (by rw [HW2.out.2.2.2.2.1]; rfl) HW2.out.2.2.2.2.2.1 ?_
  have nX : w.heap.size ∉ X := fun hx => by have := HW2.out.2.1.ge _ hx; omega
  have HF : Hid (RdSk (w2.setRow w.heap.size ds) (.agg ds) s X ∧ Own w.heap.size (w2.setRow w.heap.size ds) X ∧ Below w.heap.size w (w2.setRow w.heap.size ds) ∧ Blk (w2.setRow w.heap.size ds) w.heap.size ds 29 ∧ SkIs zs s d) := ⟨HW2.out.1.agree (Agree.row nX ds), (HW2.out.2.1.agree (Agree.row nX ds)).mono (by omega), below_setRow HW2.out.2.2.1 (Nat.le_refl _) _, HW2.out.2.2.2.1.setRow, HW2.out.2.2.2.2.2.2⟩
  have hds : (Try.prog.info? 29).map (·.size) = some ds.size := by rw [HW2.out.2.2.2.2.1]; exact infoSkI
  clear HW2 nX
  go_wp2
  refine bodyPost_ret (results_row_tmp Try.results19 _ _ w.heap.size _ _ _ _ rfl HF.out.2.2.2.1 Try.underlying29 rfl hds) rfl ?_
  exact ⟨_, s, d, X, rfl, HF.out.1, HF.out.2.1, HF.out.2.2.1, HF.out.2.2.2.2⟩
end Go.Proofs.Ytfbfklgjccbplaq
/- The walk through the model's SketchOf. No statement of the seat is proved here. -/
namespace Go.Proofs.Ytfbfklgjccbplaq
open Go.RowKit
/-- The place of the result, what is worked on, the list that is read. -/
structure SkW (w : World) (T gn : Nat) (cs : Array Value) (l : List Int) (W : World) : Prop where
  res : Blk W w.heap.size #[.int .i64 0, .int .i64 0, .int .i64 0, .int .i64 0, .slice none 0 0, .slice none 0 0, .slice none 0 0] 29
  loc : Blk W T cs 29
  src : RdI W (some ⟨gn, 0, none⟩) 28 l [gn]
  bel : Below w.heap.size w W
  ord : w.heap.size < gn ∧ gn < T
theorem SkW.below {w W W' : World} {T gn : Nat} {cs : Array Value} {l : List Int} (h : SkW w T gn cs l W) (b : Below W.heap.size W W') : SkW w T gn cs l W' := ⟨h.res.below b, h.loc.below b, h.src.below b, Below.next h.bel b, h.ord⟩
theorem SkW.set {w W : World} {T gn : Nat} {cs : Array Value} {l : List Int} (h : SkW w T gn cs l W) (j : Nat) (v : Value) : SkW w T gn (cs.setIfInBounds j v) l (W.setCell ⟨T, j, none⟩ v) := by
  have o := h.ord
  exact ⟨h.res.setOther (by omega) j v, h.loc.set j v, h.src.agree (.set (by simp; omega) j v), h.bel.setCell (by show w.heap.size ≤ T; omega) v, h.ord⟩
theorem two_lists {W : World} {B : Nat} {F G : List Nat} {s1 : Nat} (hF : Own B W F) (hG : Own s1 W G) (hlt : ∀ b ∈ F, b < s1) (hB : B ≤ s1) : Own B W (F ++ G) ∧ Own B W (G ++ F) :=
  ⟨hF.join hG hlt hB, (hF.join hG hlt hB).perm List.perm_append_comm⟩
set_option maxRecDepth 200000 in
set_option maxHeartbeats 8000000 in
theorem sketchOfSpec_any (a : Option Addr) (len cap : Nat) (zs : List Int) (w : World) (h : RdB w a len zs) (hlen : len ≤ 1048576) :
    Calls Try.prog 17 #[.slice a len cap] w fun e w' => NewSk2 w (SkIs zs) e w' := by
  obtain ⟨i0, hi, hz0, hz1, hz2⟩ := info_parts infoInt
  have HR : Hid (RdB w a len zs) := h
  have HZ : Hid (zs.length = len ∧ ∀ x ∈ zs, 0 ≤ x ∧ x ≤ 255) := ⟨h.length, h.range⟩
  have HT : Hid (Blk (w.alloc (.cells #[.int .i64 0, .int .i64 0, .int .i64 0, .int .i64 0, .slice none 0 0, .slice none 0 0, .slice none 0 0] 29)) w.heap.size #[.int .i64 0, .int .i64 0, .int .i64 0, .int .i64 0, .slice none 0 0, .slice none 0 0, .slice none 0 0] 29 ∧ Below w.heap.size w (w.alloc (.cells #[.int .i64 0, .int .i64 0, .int .i64 0, .int .i64 0, .slice none 0 0, .slice none 0 0, .slice none 0 0] 29))) := ⟨Blk.made _ _ _, (Below.refl _ _).alloc (Nat.le_refl _) _⟩
  clear h
  go_enter Try.func17, Try.ntmps17
  go_wp2_with fail
  refine (l7Get_any a len cap 0 28 zs _ (HR.out.below HT.out.2) hlen (by omega)).mono ?_
  rintro e w1 ⟨⟨v, l, q, rfl, hown, hg⟩, hb1⟩
  have HT1 : Hid (Blk w1 w.heap.size #[.int .i64 0, .int .i64 0, .int .i64 0, .int .i64 0, .slice none 0 0, .slice none 0 0, .slice none 0 0] 29 ∧ Below w.heap.size w w1) := ⟨HT.out.1.below hb1, Below.next HT.out.2 hb1⟩
  clear hb1
  cases hgt : getTo zs 0 28 with
  | none =>
    have HV : Hid (SkIs zs Sk.zero false) := skIs_getNone hgt
    clear hgt hg hown HT
    simp only [Option.isSome]
    go_wp2_with (first | go_skip | (with_reducible refine stopStore 29 rfl ?_))
    refine store_known 29 w.heap.size _ #[.int .i64 0, .int .i64 0, .int .i64 0, .int .i64 0, .slice none 0 0, .slice none 0 0, .slice none 0 0] 29 HT1.out.1 rfl rfl rfl rfl infoSkI rfl (by simp [Value.oneCell']) ?_
    go_wp2
    refine bodyPost_ret (results_row_tmp Try.results17 _ _ w.heap.size _ _ _ _ rfl HT1.out.1.setRow Try.underlying29 rfl infoSkI) rfl ?_
    exact ⟨_, Sk.zero, false, [], rfl, rdSk_zero7 _, Own.nil, below_setRow HT1.out.2 (Nat.le_refl _) _, HV.out⟩
  | some r =>
    obtain ⟨l', q'⟩ := r
    rw [hgt] at hg
    simp only [Option.getD] at hg
    cases hg
    simp only [Option.isSome]
    by_cases hq : q = len
    rotate_left
    · have hqb : (q != (len : Int)) = true := by simpa using hq
      have HV : Hid (SkIs zs Sk.zero false) := skIs_getOff hgt (by rw [HZ.out.1]; exact hq)
      clear hgt hown HT hq
      go_wp2_with (first | go_skip | (with_reducible refine stopStore 29 rfl ?_))
      refine store_known 29 w.heap.size _ #[.int .i64 0, .int .i64 0, .int .i64 0, .int .i64 0, .slice none 0 0, .slice none 0 0, .slice none 0 0] 29 HT1.out.1 rfl rfl rfl rfl infoSkI rfl (by simp [Value.oneCell']) ?_
      go_wp2
      refine bodyPost_ret (results_row_tmp Try.results17 _ _ w.heap.size _ _ _ _ rfl HT1.out.1.setRow Try.underlying29 rfl infoSkI) rfl ?_
      exact ⟨_, Sk.zero, false, [], rfl, rdSk_zero7 _, Own.nil, below_setRow HT1.out.2 (Nat.le_refl _) _, HV.out⟩
    subst hq
    have hqb : ((len : Int) != (len : Int)) = false := by simp
    have HA : Hid (zs = putAll l ∧ (∀ x ∈ l, InN x) ∧ l.length = 28) := skIs_getAll HZ.out.2 (by rw [hgt, HZ.out.1])
    rw [HA.out.2.2] at hown
    obtain ⟨gn, cn, rfl, hcn⟩ := own_shape7 hown (by omega)
    obtain ⟨Fs, hrd, _, hFs⟩ := RdI.of_own hown
    have hgn := (hown.lt gn rfl).1
    have hgn2 := (hown.lt gn rfl).2
    have HS1 : Hid (RdI w1 (some ⟨gn, 0, none⟩) 28 l [gn]) := by
      rcases hrd.cells with ⟨h0, _⟩ | ⟨b', off', hp, e, hF, hc⟩
      · omega
      · cases e; exact ⟨hrd.length, .inr ⟨gn, 0, hp, rfl, rfl, hc⟩⟩
    have hgw : w.heap.size < gn := by simp at hgn; omega
    obtain ⟨x0, hx0⟩ : ∃ x, x = l.getD 0 0 := ⟨_, rfl⟩
    obtain ⟨x1, hx1⟩ : ∃ x, x = l.getD 1 0 := ⟨_, rfl⟩
    obtain ⟨x2, hx2⟩ : ∃ x, x = l.getD 2 0 := ⟨_, rfl⟩
    obtain ⟨x3, hx3⟩ : ∃ x, x = l.getD 3 0 := ⟨_, rfl⟩
    have HX : Hid (x0 = l.getD 0 0 ∧ x1 = l.getD 1 0 ∧ x2 = l.getD 2 0 ∧ x3 = l.getD 3 0) := ⟨hx0, hx1, hx2, hx3⟩
    have HS : Hid (NumHeld gn 0 x0 x1 x2 x3 w1.drew) := by rw [hx0, hx1, hx2, hx3]; exact (HS1.out.below (Below.refl _ _).drew).numHeld (by omega)
    have HKN : Hid (∀ W, RdI W (some ⟨gn, 0, none⟩) 28 l [gn] → NumHeld gn 0 x0 x1 x2 x3 W) := fun W r => by rw [hx0, hx1, hx2, hx3]; exact r.numHeld (by omega)
    clear hown hrd hFs hgt hx0 hx1 hx2 hx3 HT hgn
    go_wp2
    refine wp_region_held (S := NumHeld gn 0 x0 x1 x2 x3) (by kernel_rfl) ?_
    change wpAnyH _ _ _ _ _ _ _ _ (World.drew _)
    refine takeH (o := ?o1) 0 (.slice (some ⟨gn, 0, none⟩) 28 cn) ?h1 ?r1
    case h1 => simp only [List.getElem?_toArray, List.getElem?_cons_zero]; rfl
    refine ⟨_, by simp [Act.put]; rfl, by kernel_rfl, by kernel_rfl, by kernel_rfl, fun _ _ _ h => h, (.inl ⟨rfl, fun W _ => by go_simp⟩), HS.out, ?_⟩
    refine takeH (o := ?o2) 1 (.pointer (some ⟨gn, 0, none⟩)) ?h2 ?r2
    case h2 => simp only [List.getElem?_toArray, List.getElem?_cons_succ, List.getElem?_cons_zero]; rfl
    refine ⟨_, by simp [Act.put]; rfl, by kernel_rfl, by kernel_rfl, by kernel_rfl, fun _ _ _ h => h, (.inl ⟨rfl, fun W _ => by go_simp⟩), HS.out, ?_⟩
    refine takeH (o := ?o3) 2 (.int .i64 x0) ?h3 ?r3
    case h3 => simp only [List.getElem?_toArray, List.getElem?_cons_succ, List.getElem?_cons_zero]; rfl
    refine ⟨_, by simp [Act.put]; rfl, by kernel_rfl, by kernel_rfl, by kernel_rfl, fun _ _ _ h => h, (.inl ⟨rfl, fun W hW => by have c := hW.1; go_simp⟩), HS.out, ?_⟩
    refine takeH (o := ?o4) 3 (.slice (some ⟨gn, 0, none⟩) 28 cn) ?h4 ?r4
    case h4 => simp only [List.getElem?_toArray, List.getElem?_cons_succ, List.getElem?_cons_zero]; rfl
    refine ⟨_, by simp [Act.put]; rfl, by kernel_rfl, by kernel_rfl, by kernel_rfl, fun _ _ _ h => h, (.inl ⟨rfl, fun W _ => by go_simp⟩), HS.out, ?_⟩
    refine takeH (o := ?o5) 4 (.pointer (some ⟨gn, 1, none⟩)) ?h5 ?r5
    case h5 => simp only [List.getElem?_toArray, List.getElem?_cons_succ, List.getElem?_cons_zero]; rfl
    refine ⟨_, by simp [Act.put]; rfl, by kernel_rfl, by kernel_rfl, by kernel_rfl, fun _ _ _ h => h, (.inl ⟨rfl, fun W _ => by go_simp⟩), HS.out, ?_⟩
    refine takeH (o := ?o6) 5 (.int .i64 x1) ?h6 ?r6
    case h6 => simp only [List.getElem?_toArray, List.getElem?_cons_succ, List.getElem?_cons_zero]; rfl
    refine ⟨_, by simp [Act.put]; rfl, by kernel_rfl, by kernel_rfl, by kernel_rfl, fun _ _ _ h => h, (.inl ⟨rfl, fun W hW => by have c := hW.2.1; go_simp⟩), HS.out, ?_⟩
    refine takeH (o := ?o7) 6 (.slice (some ⟨gn, 0, none⟩) 28 cn) ?h7 ?r7
    case h7 => simp only [List.getElem?_toArray, List.getElem?_cons_succ, List.getElem?_cons_zero]; rfl
    refine ⟨_, by simp [Act.put]; rfl, by kernel_rfl, by kernel_rfl, by kernel_rfl, fun _ _ _ h => h, (.inl ⟨rfl, fun W _ => by go_simp⟩), HS.out, ?_⟩
    refine takeH (o := ?o8) 7 (.pointer (some ⟨gn, 2, none⟩)) ?h8 ?r8
    case h8 => simp only [List.getElem?_toArray, List.getElem?_cons_succ, List.getElem?_cons_zero]; rfl
    refine ⟨_, by simp [Act.put]; rfl, by kernel_rfl, by kernel_rfl, by kernel_rfl, fun _ _ _ h => h, (.inl ⟨rfl, fun W _ => by go_simp⟩), HS.out, ?_⟩
    refine takeH (o := ?o9) 8 (.int .i64 x2) ?h9 ?r9
    case h9 => simp only [List.getElem?_toArray, List.getElem?_cons_succ, List.getElem?_cons_zero]; rfl
    refine ⟨_, by simp [Act.put]; rfl, by kernel_rfl, by kernel_rfl, by kernel_rfl, fun _ _ _ h => h, (.inl ⟨rfl, fun W hW => by have c := hW.2.2.1; go_simp⟩), HS.out, ?_⟩
    refine takeH (o := ?o10) 9 (.slice (some ⟨gn, 0, none⟩) 28 cn) ?h10 ?r10
    case h10 => simp only [List.getElem?_toArray, List.getElem?_cons_succ, List.getElem?_cons_zero]; rfl
    refine ⟨_, by simp [Act.put]; rfl, by kernel_rfl, by kernel_rfl, by kernel_rfl, fun _ _ _ h => h, (.inl ⟨rfl, fun W _ => by go_simp⟩), HS.out, ?_⟩
    refine takeH (o := ?o11) 10 (.pointer (some ⟨gn, 3, none⟩)) ?h11 ?r11
    case h11 => simp only [List.getElem?_toArray, List.getElem?_cons_succ, List.getElem?_cons_zero]; rfl
    refine ⟨_, by simp [Act.put]; rfl, by kernel_rfl, by kernel_rfl, by kernel_rfl, fun _ _ _ h => h, (.inl ⟨rfl, fun W _ => by go_simp⟩), HS.out, ?_⟩
    refine takeH (o := ?o12) 11 (.int .i64 x3) ?h12 ?r12
    case h12 => simp only [List.getElem?_toArray, List.getElem?_cons_succ, List.getElem?_cons_zero]; rfl
    refine ⟨_, by simp [Act.put]; rfl, by kernel_rfl, by kernel_rfl, by kernel_rfl, fun _ _ _ h => h, (.inl ⟨rfl, fun W hW => by have c := hW.2.2.2; go_simp⟩), HS.out, ?_⟩
    refine takeH (o := ?o13) 12 (.agg #[.int .i64 x0, .int .i64 x1, .int .i64 x2, .int .i64 x3, .slice none 0 0, .slice none 0 0, .slice none 0 0]) ?h13 ?r13
    case h13 => simp only [List.getElem?_toArray, List.getElem?_cons_succ, List.getElem?_cons_zero]; rfl
    refine ⟨_, by simp [Act.put]; rfl, by kernel_rfl, by kernel_rfl, by kernel_rfl, fun _ _ _ h => h, (.inl ⟨rfl, fun W _ => by go_simp⟩), HS.out, ?_⟩
    refine onlyH (o := ?o14) 13 (by kernel_rfl) ?h14 ?r14
    case h14 => simp only [List.getElem?_toArray, List.getElem?_cons_succ, List.getElem?_cons_zero]; rfl
    intro K hK
    have bA : Below w1.drew.heap.size w1.drew (w1.drew.alloc (.cells #[.int .i64 0, .int .i64 0, .int .i64 0, .int .i64 0, .slice none 0 0, .slice none 0 0, .slice none 0 0] 29)) := (Below.refl _ _).alloc (Nat.le_refl _) _
    have HA1 : Hid (SkW w w1.heap.size gn #[.int .i64 0, .int .i64 0, .int .i64 0, .int .i64 0, .slice none 0 0, .slice none 0 0, .slice none 0 0] l (w1.drew.alloc (.cells #[.int .i64 0, .int .i64 0, .int .i64 0, .int .i64 0, .slice none 0 0, .slice none 0 0, .slice none 0 0] 29))) := ⟨HT1.out.1.drew.below bA, Blk.made w1.drew _ _, (HS1.out.below (Below.refl _ _).drew).below bA, Below.next HT1.out.2.drew bA, hgw, hgn2⟩
    refine op_turn (.pointer (some ⟨w1.heap.size, 0, none⟩)) (w1.drew.alloc (.cells #[.int .i64 0, .int .i64 0, .int .i64 0, .int .i64 0, .slice none 0 0, .slice none 0 0, .slice none 0 0] 29)) rfl (by go_simp) ⟨_, by simp [Act.put]; rfl, hK _ _ ⟨HKN.out _ HA1.out.src, ?_⟩⟩
    clear hK bA
    refine onlyH (o := ?o15) 14 (by kernel_rfl) ?h15 ?r15
    case h15 => simp only [List.getElem?_toArray, List.getElem?_cons_succ, List.getElem?_cons_zero]; rfl
    intro K hK
    have HA2 : Hid (SkW w w1.heap.size gn #[.int .i64 x0, .int .i64 x1, .int .i64 x2, .int .i64 x3, .slice none 0 0, .slice none 0 0, .slice none 0 0] l ((w1.drew.alloc (.cells #[.int .i64 0, .int .i64 0, .int .i64 0, .int .i64 0, .slice none 0 0, .slice none 0 0, .slice none 0 0] 29)).setRow w1.heap.size #[.int .i64 x0, .int .i64 x1, .int .i64 x2, .int .i64 x3, .slice none 0 0, .slice none 0 0, .slice none 0 0])) := by
      have o := HA1.out.ord
      exact ⟨HA1.out.res.setRowOther (by omega), HA1.out.loc.setRow, HA1.out.src.agree (Agree.row (by simp; omega) _), below_setRow HA1.out.bel (by omega) _, o⟩
    refine op_store 29 w1.heap.size #[.int .i64 0, .int .i64 0, .int .i64 0, .int .i64 0, .slice none 0 0, .slice none 0 0, .slice none 0 0] #[.int .i64 x0, .int .i64 x1, .int .i64 x2, .int .i64 x3, .slice none 0 0, .slice none 0 0, .slice none 0 0] 29 rfl rfl rfl rfl HA1.out.loc infoSkI rfl (by simp [Value.oneCell']) ⟨_, by simp [Act.put]; rfl, hK _ _ ⟨HKN.out _ HA2.out.src, ?_⟩⟩
    clear hK HA1
    refine wpAnyH_done (by kernel_rfl) ?_ _
    obtain ⟨W1, hW1⟩ : ∃ W, W = (w1.drew.alloc (.cells #[.int .i64 0, .int .i64 0, .int .i64 0, .int .i64 0, .slice none 0 0, .slice none 0 0, .slice none 0 0] 29)).setRow w1.heap.size #[.int .i64 x0, .int .i64 x1, .int .i64 x2, .int .i64 x3, .slice none 0 0, .slice none 0 0, .slice none 0 0] := ⟨_, rfl⟩
    rw [← hW1] at HA2 ⊢
    obtain ⟨T, hT⟩ : ∃ T, T = w1.heap.size := ⟨_, rfl⟩
    rw [← hT] at HA2 ⊢
    clear hW1 hT HS HS1 HT1 hgn2 hgw HKN
    have bE : Below W1.heap.size W1 (W1.alloc (.cells #[] 3)) := (Below.refl _ _).alloc (Nat.le_refl _) _
    have HE1 : Hid (SkW w T gn #[.int .i64 x0, .int .i64 x1, .int .i64 x2, .int .i64 x3, .slice none 0 0, .slice none 0 0, .slice none 0 0] l (W1.alloc (.cells #[] 3))) := HA2.out.below bE
    have bE1 : Hid (Below W1.heap.size W1 (W1.alloc (.cells #[] 3))) := bE
    clear bE
    go_wp2_with (with_reducible refine stopAppend rfl ?_)
    refine Stop.intro (wpList_append_grows _ rfl _ _ 22 rfl 3 i0 (.int .i64 0) 1 8 Try.underlying22 hi hz0 hz1 hz2 rfl (by decide) (some ⟨W1.heap.size, 0, none⟩) 0 0 [] rfl (by intro h; cases h) (by simp) (fun _ _ j u hj => by simp at hj) ⟨gn, 4, none⟩ 8 (cn - 4) (((l.drop 4).take 8).map (Value.int .i64)) rfl (by have := HA.out.2.2; simp; omega) ((HE1.out.src.part (k := 4) (n := 8) (by omega) (by omega)).from (Below.refl _ _) (by omega)) (ints_one _) (by omega) (by unfold maxLen; omega) (by omega) ?_)
    intro v1 W2 hown hgrow
    have bG : Below (W1.alloc (.cells #[] 3)).heap.size (W1.alloc (.cells #[] 3)) W2 := (Below.refl _ _).grown hgrow (Nat.le_refl _) (fun g e => by cases e)
    obtain ⟨p1, q1, X1, rfl, hr1, ho1⟩ := rdI_of_own (by simpa using hown : W2.ownsRow (W1.alloc (.cells #[] 3)).heap.size 3 1 v1 8 (((l.drop 4).take 8).map (Value.int .i64)))
    have HB1 : Hid (SkW w T gn #[.int .i64 x0, .int .i64 x1, .int .i64 x2, .int .i64 x3, .slice none 0 0, .slice none 0 0, .slice none 0 0] l W2) := HE1.out.below bG
    have lT : T < W1.heap.size := HA2.out.loc.lt
    have hW : W1.heap.size ≤ (W1.alloc (.cells #[] 3)).heap.size := bE1.out.size
    have nT : T ∉ X1 := fun hx => by have := ho1.ge _ hx; omega
    have HP1 : Hid (RdI (W2.setCell ⟨T, 4, none⟩ (.slice p1 8 q1)) p1 8 ((l.drop 4).take 8) X1 ∧ Own (T + 1) (W2.setCell ⟨T, 4, none⟩ (.slice p1 8 q1)) X1) := ⟨hr1.agree (.set nT 4 _), (ho1.mono (by omega)).agree (.set nT 4 _)⟩
    have HA3 : Hid (SkW w T gn #[.int .i64 x0, .int .i64 x1, .int .i64 x2, .int .i64 x3, .slice p1 8 q1, .slice none 0 0, .slice none 0 0] l (W2.setCell ⟨T, 4, none⟩ (.slice p1 8 q1))) := HB1.out.set 4 _
    have c4 := HB1.out.loc.cell 4
    have f4 := HB1.out.loc.frozen 4
    simp only [List.getElem?_toArray, List.getElem?_cons_succ, List.getElem?_cons_zero] at c4
    clear hown hgrow bG hr1 ho1 nT lT hW HB1 HE1 bE1 HA2
    obtain ⟨W3, hW3⟩ : ∃ W, W = W2.setCell ⟨T, 4, none⟩ (.slice p1 8 q1) := ⟨_, rfl⟩
    rw [← hW3] at HA3 HP1
    go_upto_region 8 with fail
    rw [← hW3]
    clear hW3 c4 f4
    have bE : Below W3.heap.size W3 (W3.alloc (.cells #[] 3)) := (Below.refl _ _).alloc (Nat.le_refl _) _
    have HE2 : Hid (SkW w T gn #[.int .i64 x0, .int .i64 x1, .int .i64 x2, .int .i64 x3, .slice p1 8 q1, .slice none 0 0, .slice none 0 0] l (W3.alloc (.cells #[] 3))) := HA3.out.below bE
    have bE2 : Hid (Below W3.heap.size W3 (W3.alloc (.cells #[] 3))) := bE
    clear bE
    go_wp2_with (with_reducible refine stopAppend rfl ?_)
    refine Stop.intro (wpList_append_grows _ rfl _ _ 22 rfl 3 i0 (.int .i64 0) 1 8 Try.underlying22 hi hz0 hz1 hz2 rfl (by decide) (some ⟨W3.heap.size, 0, none⟩) 0 0 [] rfl (by intro h; cases h) (by simp) (fun _ _ j u hj => by simp at hj) ⟨gn, 12, none⟩ 8 (cn - 12) (((l.drop 12).take 8).map (Value.int .i64)) rfl (by have := HA.out.2.2; simp; omega) ((HE2.out.src.part (k := 12) (n := 8) (by omega) (by omega)).from (Below.refl _ _) (by omega)) (ints_one _) (by omega) (by unfold maxLen; omega) (by omega) ?_)
    intro v2 W4 hown hgrow
    have bG : Below (W3.alloc (.cells #[] 3)).heap.size (W3.alloc (.cells #[] 3)) W4 := (Below.refl _ _).grown hgrow (Nat.le_refl _) (fun g e => by cases e)
    obtain ⟨p2, q2, X2, rfl, hr2, ho2⟩ := rdI_of_own (by simpa using hown : W4.ownsRow (W3.alloc (.cells #[] 3)).heap.size 3 1 v2 8 (((l.drop 12).take 8).map (Value.int .i64)))
    have HB2 : Hid (SkW w T gn #[.int .i64 x0, .int .i64 x1, .int .i64 x2, .int .i64 x3, .slice p1 8 q1, .slice none 0 0, .slice none 0 0] l W4) := HE2.out.below bG
    have lT : T < W3.heap.size := HA3.out.loc.lt
    have hW : W3.heap.size ≤ (W3.alloc (.cells #[] 3)).heap.size := bE2.out.size
    have nT : T ∉ X2 := fun hx => by have := ho2.ge _ hx; omega
    have lX1 : ∀ b ∈ X1, b < W3.heap.size := HP1.out.1.lt
    have nT1 : T ∉ X1 := fun hx => by have := HP1.out.2.ge _ hx; omega
    have bb : Below W3.heap.size W3 W4 := bE2.out.trans (bG.mono bE2.out.size)
    have HP2 : Hid (RdI (W4.setCell ⟨T, 5, none⟩ (.slice p2 8 q2)) p1 8 ((l.drop 4).take 8) X1 ∧ RdI (W4.setCell ⟨T, 5, none⟩ (.slice p2 8 q2)) p2 8 ((l.drop 12).take 8) X2 ∧ Own (T + 1) (W4.setCell ⟨T, 5, none⟩ (.slice p2 8 q2)) (X1 ++ X2)) := ⟨(HP1.out.1.below bb).agree (.set nT1 5 _), hr2.agree (.set nT 5 _), ((HP1.out.2.below lX1 bb).agree (.set nT1 5 _)).join (ho2.agree (.set nT 5 _)) (fun b hb => by have := lX1 b hb; omega) (by omega)⟩
    have HA4 : Hid (SkW w T gn #[.int .i64 x0, .int .i64 x1, .int .i64 x2, .int .i64 x3, .slice p1 8 q1, .slice p2 8 q2, .slice none 0 0] l (W4.setCell ⟨T, 5, none⟩ (.slice p2 8 q2))) := HB2.out.set 5 _
    have c5 := HB2.out.loc.cell 5
    have f5 := HB2.out.loc.frozen 5
    simp only [List.getElem?_toArray, List.getElem?_cons_succ, List.getElem?_cons_zero] at c5
    clear hown hgrow bG hr2 ho2 nT nT1 lX1 bb lT hW HB2 HE2 bE2 HA3 HP1
    go_wp2
    obtain ⟨W5, hW5⟩ : ∃ W, W = W4.setCell ⟨T, 5, none⟩ (.slice p2 8 q2) := ⟨_, rfl⟩
    rw [← hW5] at HA4 HP2 ⊢
    clear hW5 c5 f5
    have HD : Hid (SkW w T gn #[.int .i64 x0, .int .i64 x1, .int .i64 x2, .int .i64 x3, .slice p1 8 q1, .slice p2 8 q2, .slice none 0 0] l W5.drew ∧ RdI W5.drew p1 8 ((l.drop 4).take 8) X1 ∧ RdI W5.drew p2 8 ((l.drop 12).take 8) X2 ∧ Own (T + 1) W5.drew (X1 ++ X2)) := ⟨HA4.out.below (Below.refl _ _).drew, HP2.out.1.below (Below.refl _ _).drew, HP2.out.2.1.below (Below.refl _ _).drew, HP2.out.2.2.agree (fun _ _ => rfl)⟩
    clear HA4 HP2
    refine wp_region_held (S := fun _ => True) (by kernel_rfl) ?_
    change wpAnyH _ _ _ _ _ _ _ _ (World.drew _)
    obtain ⟨Y, hY⟩ : ∃ Y, Y = W5.drew := ⟨_, rfl⟩
    rw [← hY] at HD ⊢
    clear hY
    refine takeH (o := ?o16) 1 (.slice (some ⟨gn, 0, none⟩) 28 cn) ?h16 ?r16
    case h16 => simp only [List.getElem?_toArray, List.getElem?_cons_succ, List.getElem?_cons_zero]; rfl
    refine ⟨_, by simp [Act.put]; rfl, by kernel_rfl, by kernel_rfl, by kernel_rfl, fun _ _ _ h => h, (.inl ⟨rfl, fun W _ => by go_simp⟩), trivial, ?_⟩
    refine takeH (o := ?o17) 2 (.int .i64 20) ?h17 ?r17
    case h17 => simp only [List.getElem?_toArray, List.getElem?_cons_succ, List.getElem?_cons_zero]; rfl
    refine ⟨_, by simp [Act.put]; rfl, by kernel_rfl, by kernel_rfl, by kernel_rfl, fun _ _ _ h => h, (.inl ⟨rfl, fun W _ => by go_simp⟩), trivial, ?_⟩
    refine takeH (o := ?o18) 3 (.int .i64 20) ?h18 ?r18
    case h18 => simp only [List.getElem?_toArray, List.getElem?_cons_succ, List.getElem?_cons_zero]; rfl
    refine ⟨_, by simp [Act.put]; rfl, by kernel_rfl, by kernel_rfl, by kernel_rfl, fun _ _ _ h => h, (.inl ⟨rfl, fun W _ => by go_simp⟩), trivial, ?_⟩
    refine takeH (o := ?o19) 4 (.int .i64 24) ?h19 ?r19
    case h19 => simp only [List.getElem?_toArray, List.getElem?_cons_succ, List.getElem?_cons_zero]; rfl
    refine ⟨_, by simp [Act.put]; rfl, by kernel_rfl, by kernel_rfl, by kernel_rfl, fun _ _ _ h => h, (.inl ⟨rfl, fun W _ => by go_simp; rfl⟩), trivial, ?_⟩
    refine takeH (o := ?o20) 5 (.slice (some ⟨gn, 20, none⟩) 4 (cn - 20)) ?h20 ?r20
    case h20 => simp only [List.getElem?_toArray, List.getElem?_cons_succ, List.getElem?_cons_zero]; rfl
    refine ⟨_, by simp [Act.put]; rfl, by kernel_rfl, by kernel_rfl, by kernel_rfl, fun _ _ _ h => h, (.inl ⟨rfl, fun W _ => by go_simp; rw [if_pos (by omega : (24 : Int) ≤ (cn : Int)), if_neg (by omega : ¬ cn = 20)]⟩), trivial, ?_⟩
    refine takeH (o := ?o21) 8 (.slice (some ⟨gn, 0, none⟩) 28 cn) ?h21 ?r21
    case h21 => simp only [List.getElem?_toArray, List.getElem?_cons_succ, List.getElem?_cons_zero]; rfl
    refine ⟨_, by simp [Act.put]; rfl, by kernel_rfl, by kernel_rfl, by kernel_rfl, fun _ _ _ h => h, (.inl ⟨rfl, fun W _ => by go_simp⟩), trivial, ?_⟩
    refine takeH (o := ?o22) 9 (.int .i64 20) ?h22 ?r22
    case h22 => simp only [List.getElem?_toArray, List.getElem?_cons_succ, List.getElem?_cons_zero]; rfl
    refine ⟨_, by simp [Act.put]; rfl, by kernel_rfl, by kernel_rfl, by kernel_rfl, fun _ _ _ h => h, (.inl ⟨rfl, fun W _ => by go_simp⟩), trivial, ?_⟩
    refine takeH (o := ?o23) 10 (.int .i64 24) ?h23 ?r23
    case h23 => simp only [List.getElem?_toArray, List.getElem?_cons_succ, List.getElem?_cons_zero]; rfl
    refine ⟨_, by simp [Act.put]; rfl, by kernel_rfl, by kernel_rfl, by kernel_rfl, fun _ _ _ h => h, (.inl ⟨rfl, fun W _ => by go_simp; rfl⟩), trivial, ?_⟩
    refine takeH (o := ?o24) 11 (.slice (some ⟨gn, 24, none⟩) 4 (cn - 24)) ?h24 ?r24
    case h24 => simp only [List.getElem?_toArray, List.getElem?_cons_succ, List.getElem?_cons_zero]; rfl
    refine ⟨_, by simp [Act.put]; rfl, by kernel_rfl, by kernel_rfl, by kernel_rfl, fun _ _ _ h => h, (.inl ⟨rfl, fun W _ => by go_simp; omega⟩), trivial, ?_⟩
    have BYY : Hid (Below Y.heap.size Y Y) := Below.refl _ _
    refine twoH (o := ?o25) (o' := ?p25) 0 7 (by kernel_rfl) ?h25 ?g25 ?r25 ?s25
    case h25 => simp only [List.getElem?_toArray, List.getElem?_cons_zero]; rfl
    case g25 => simp only [List.getElem?_toArray, List.getElem?_cons_succ, List.getElem?_cons_zero]; rfl
    case r25 =>
      intro K hK
      have bx1 : Hid (Below Y.heap.size Y (Y.alloc (.cells #[] 3))) := (Below.refl _ _).alloc (Nat.le_refl _) _
      refine op_turn (.slice (some ⟨Y.heap.size, 0, none⟩) 0 0) (Y.alloc (.cells #[] 3)) rfl (by go_simp) ⟨_, by simp [Act.put]; rfl, hK _ _ ⟨trivial, ?_⟩⟩
      clear hK
      obtain ⟨Y1, hY1⟩ : ∃ Z, Z = Y.alloc (.cells #[] 3) := ⟨_, rfl⟩
      rw [← hY1] at bx1 ⊢
      clear hY1
      have BYY1 : Hid (Below Y.heap.size Y Y1) := Below.next BYY.out bx1.out
      refine twoH (o := ?o26) (o' := ?p26) 6 7 (by kernel_rfl) ?h26 ?g26 ?r26 ?s26
      case h26 => simp only [List.getElem?_toArray, List.getElem?_cons_succ, List.getElem?_cons_zero]; rfl
      case g26 => simp only [List.getElem?_toArray, List.getElem?_cons_succ, List.getElem?_cons_zero]; rfl
      case r26 =>
        intro K hK
        refine op_grows _ _ 22 rfl rfl 3 i0 (.int .i64 0) 1 8 Try.underlying22 hi hz0 hz1 hz2 rfl (by decide) (some _) rfl ⟨gn, 20, none⟩ 4 (cn - 20) (((l.drop 20).take 4).map (Value.int .i64)) rfl (by have := HA.out.2.2; simp; omega) (((HD.out.1.src.below BYY1.out).part (k := 20) (n := 4) (by omega) (by omega)).from (Below.refl _ _) (by omega)) (ints_one _) (by omega) (by unfold maxLen; omega) (by omega) ?_
        intro vA Y2 hown bx
        obtain ⟨rA, kA, XA, rfl, hr, ho⟩ := rdI_of_own hown
        have RA : Hid (RdI Y2 rA 4 ((l.drop 20).take 4) XA ∧ Own Y1.heap.size Y2 XA) := ⟨hr, ho⟩
        have bx2 : Hid (Below Y1.heap.size Y1 Y2) := bx
        have BYY2 : Hid (Below Y.heap.size Y Y2) := Below.next BYY1.out bx
        refine ⟨_, by simp [Act.put]; rfl, hK _ _ ⟨trivial, ?_⟩⟩
        clear hK hown hr ho bx
        have RA : Hid (RdI Y2 rA 4 ((l.drop 20).take 4) XA ∧ Own Y.heap.size Y2 XA ∧ ∀ b ∈ XA, b < Y2.heap.size) := ⟨RA.out.1, RA.out.2.mono BYY1.out.size, fun b hb => RA.out.1.lt b hb⟩
        refine onlyH (o := ?o27) 7 (by kernel_rfl) ?h27 ?r27
        case h27 => simp only [List.getElem?_toArray, List.getElem?_cons_succ, List.getElem?_cons_zero]; rfl
        intro K hK
        have bx3 : Hid (Below Y2.heap.size Y2 (Y2.alloc (.cells #[] 3))) := (Below.refl _ _).alloc (Nat.le_refl _) _
        refine op_turn (.slice (some ⟨Y2.heap.size, 0, none⟩) 0 0) (Y2.alloc (.cells #[] 3)) rfl (by go_simp) ⟨_, by simp [Act.put]; rfl, hK _ _ ⟨trivial, ?_⟩⟩
        clear hK
        obtain ⟨Y3, hY3⟩ : ∃ Z, Z = Y2.alloc (.cells #[] 3) := ⟨_, rfl⟩
        rw [← hY3] at bx3 ⊢
        clear hY3
        have BYY3 : Hid (Below Y.heap.size Y Y3) := Below.next BYY2.out bx3.out
        have RA : Hid (RdI Y3 rA 4 ((l.drop 20).take 4) XA ∧ Own Y.heap.size Y3 XA ∧ ∀ b ∈ XA, b < Y2.heap.size) := ⟨RA.out.1.below bx3.out, RA.out.2.1.below RA.out.1.lt bx3.out, fun b hb => RA.out.1.lt b hb⟩
        refine onlyH (o := ?o28) 12 (by kernel_rfl) ?h28 ?r28
        case h28 => simp only [List.getElem?_toArray, List.getElem?_cons_succ, List.getElem?_cons_zero]; rfl
        intro K hK
        refine op_grows _ _ 22 rfl rfl 3 i0 (.int .i64 0) 1 8 Try.underlying22 hi hz0 hz1 hz2 rfl (by decide) (some _) rfl ⟨gn, 24, none⟩ 4 (cn - 24) (((l.drop 24).take 4).map (Value.int .i64)) rfl (by have := HA.out.2.2; simp; omega) (((HD.out.1.src.below BYY3.out).part (k := 24) (n := 4) (by omega) (by omega)).from (Below.refl _ _) (by omega)) (ints_one _) (by omega) (by unfold maxLen; omega) (by omega) ?_
        intro vB Y4 hown bx
        obtain ⟨rB, kB, XB, rfl, hr, ho⟩ := rdI_of_own hown
        have RB : Hid (RdI Y4 rB 4 ((l.drop 24).take 4) XB ∧ Own Y3.heap.size Y4 XB) := ⟨hr, ho⟩
        have bx4 : Hid (Below Y3.heap.size Y3 Y4) := bx
        have BYY4 : Hid (Below Y.heap.size Y Y4) := Below.next BYY3.out bx
        refine ⟨_, by simp [Act.put]; rfl, hK _ _ ⟨trivial, ?_⟩⟩
        clear hK hown hr ho bx
        have RA : Hid (RdI Y4 rA 4 ((l.drop 20).take 4) XA ∧ Own Y.heap.size Y4 XA ∧ ∀ b ∈ XA, b < Y3.heap.size) := ⟨RA.out.1.below bx4.out, RA.out.2.1.below RA.out.1.lt bx4.out, fun b hb => RA.out.1.lt b hb⟩
        have JJ := two_lists (B := Y.heap.size) RA.out.2.1 RB.out.2 (fun b hb => RA.out.2.2 b hb) (BYY3.out.size)
        have HRW : Hid (RdI Y4 rA 4 ((l.drop 20).take 4) XA ∧ RdI Y4 rB 4 ((l.drop 24).take 4) XB ∧ Own Y.heap.size Y4 (XA ++ XB)) := ⟨RA.out.1, RB.out.1, JJ.1⟩
        clear JJ RA RB
        refine onlyH (o := ?o29) 13 (by kernel_rfl) ?h29 ?r29
        case h29 => simp only [List.getElem?_toArray, List.getElem?_cons_succ, List.getElem?_cons_zero]; rfl
        intro K hK
        have bV : Below Y4.heap.size Y4 (Y4.alloc (.cells #[.slice rA 4 kA, .slice rB 4 kB] 22)) := (Below.refl _ _).alloc (Nat.le_refl _) _
        have HF : Hid (SkW w T gn #[.int .i64 x0, .int .i64 x1, .int .i64 x2, .int .i64 x3, .slice p1 8 q1, .slice p2 8 q2, .slice none 0 0] l (Y4.alloc (.cells #[.slice rA 4 kA, .slice rB 4 kB] 22)) ∧ RdI (Y4.alloc (.cells #[.slice rA 4 kA, .slice rB 4 kB] 22)) p1 8 ((l.drop 4).take 8) X1 ∧ RdI (Y4.alloc (.cells #[.slice rA 4 kA, .slice rB 4 kB] 22)) p2 8 ((l.drop 12).take 8) X2 ∧ RdII (Y4.alloc (.cells #[.slice rA 4 kA, .slice rB 4 kB] 22)) (some ⟨Y4.heap.size, 0, none⟩) 2 [(l.drop 20).take 4, (l.drop 24).take 4] (Y4.heap.size :: (XA ++ XB)) ∧ Own (T + 1) (Y4.alloc (.cells #[.slice rA 4 kA, .slice rB 4 kB] 22)) (X1 ++ (X2 ++ (Y4.heap.size :: (XA ++ XB))))) := by
          have bY := Below.next BYY4.out bV
          have bl := Blk.made Y4 #[.slice rA 4 kA, .slice rB 4 kB] 22
          have o12 := HD.out.2.2.2.below (fun b hb => (List.mem_append.1 hb).elim (HD.out.2.1.lt b) (HD.out.2.2.1.lt b)) bY
          have lAB : ∀ b ∈ XA ++ XB, b < Y4.heap.size := fun b hb => (List.mem_append.1 hb).elim (HRW.out.1.lt b) (HRW.out.2.1.lt b)
          have oAB := (HRW.out.2.2.below lAB bV).blk bl (fun hx => by have := lAB _ hx; omega) BYY4.out.size
          have lT : T < Y.heap.size := HD.out.1.loc.lt
          refine ⟨HD.out.1.below bY, HD.out.2.1.below bY, HD.out.2.2.1.below bY, two_rows4 bl (HRW.out.1.below bV) (HRW.out.2.1.below bV), ?_⟩
          have j := o12.join (oAB.perm List.perm_append_comm) (fun b hb => (List.mem_append.1 hb).elim (HD.out.2.1.lt b) (HD.out.2.2.1.lt b)) (by omega)
          rw [List.append_assoc] at j
          exact j
        refine op_turn (.slice (some ⟨Y4.heap.size, 0, none⟩) 2 2) (Y4.alloc (.cells #[.slice rA 4 kA, .slice rB 4 kB] 22)) rfl (by go_simp) ⟨_, by simp [Act.put]; rfl, hK _ _ ⟨trivial, ?_⟩⟩
        clear hK bV HRW HD
        obtain ⟨Z, hZ⟩ : ∃ Z, Z = Y4.alloc (.cells #[.slice rA 4 kA, .slice rB 4 kB] 22) := ⟨_, rfl⟩
        rw [← hZ] at HF ⊢
        clear hZ
        have gZ : T + 1 ≤ Y4.heap.size := HF.out.2.2.2.2.ge _ (by simp)
        refine takeH (o := ?o30) 14 (.pointer (some ⟨T, 6, none⟩)) ?h30 ?r30
        case h30 => simp only [List.getElem?_toArray, List.getElem?_cons_succ, List.getElem?_cons_zero]; rfl
        refine ⟨_, by simp [Act.put]; rfl, by kernel_rfl, by kernel_rfl, by kernel_rfl, fun _ _ _ h => h, (.inl ⟨rfl, fun W _ => by go_simp⟩), trivial, ?_⟩
        refine onlyH (o := ?o31) 15 (by kernel_rfl) ?h31 ?r31
        case h31 => simp only [List.getElem?_toArray, List.getElem?_cons_succ, List.getElem?_cons_zero]; rfl
        intro K hK
        have c6 := HF.out.1.loc.cell 6
        have f6 := HF.out.1.loc.frozen 6
        simp only [List.getElem?_toArray, List.getElem?_cons_succ, List.getElem?_cons_zero] at c6
        refine op_skip (Z.setCell ⟨T, 6, none⟩ (.slice (some ⟨Y4.heap.size, 0, none⟩) 2 2)) rfl (by go_simp) ⟨_, by simp [Act.put]; rfl, hK _ _ ⟨trivial, ?_⟩⟩
        clear hK c6 f6
        refine wpAnyH_done (by kernel_rfl) ?_ _
        have nT : T ∉ X1 ++ (X2 ++ (Y4.heap.size :: (XA ++ XB))) := fun hx => by have := HF.out.2.2.2.2.ge _ hx; omega
        have HG : Hid (SkW w T gn #[.int .i64 x0, .int .i64 x1, .int .i64 x2, .int .i64 x3, .slice p1 8 q1, .slice p2 8 q2, .slice (some ⟨Y4.heap.size, 0, none⟩) 2 2] l (Z.setCell ⟨T, 6, none⟩ (.slice (some ⟨Y4.heap.size, 0, none⟩) 2 2)) ∧ RdSk (Z.setCell ⟨T, 6, none⟩ (.slice (some ⟨Y4.heap.size, 0, none⟩) 2 2)) (.agg #[.int .i64 x0, .int .i64 x1, .int .i64 x2, .int .i64 x3, .slice p1 8 q1, .slice p2 8 q2, .slice (some ⟨Y4.heap.size, 0, none⟩) 2 2]) (skOf l) (X1 ++ (X2 ++ (Y4.heap.size :: (XA ++ XB)))) ∧ Own (T + 1) (Z.setCell ⟨T, 6, none⟩ (.slice (some ⟨Y4.heap.size, 0, none⟩) 2 2)) (X1 ++ (X2 ++ (Y4.heap.size :: (XA ++ XB))))) := by
          have ag := Agree.set (w := Z) nT 6 (.slice (some ⟨Y4.heap.size, 0, none⟩) 2 2)
          refine ⟨HF.out.1.set 6 _, ?_, HF.out.2.2.2.2.agree ag⟩
          refine ⟨p1, 8, q1, p2, 8, q2, some ⟨Y4.heap.size, 0, none⟩, 2, 2, X1, X2, Y4.heap.size :: (XA ++ XB), ?_, HF.out.2.1.agree ag.left, HF.out.2.2.1.agree ag.right.left, HF.out.2.2.2.1.agree ag.right.right, rfl⟩
          rw [HX.out.1, HX.out.2.1, HX.out.2.2.1, HX.out.2.2.2]
          rfl
        obtain ⟨W6, hW6⟩ : ∃ W, W = Z.setCell ⟨T, 6, none⟩ (.slice (some ⟨Y4.heap.size, 0, none⟩) 2 2) := ⟨_, rfl⟩
        obtain ⟨ds, hds⟩ : ∃ ds : Array Value, ds = #[.int .i64 x0, .int .i64 x1, .int .i64 x2, .int .i64 x3, .slice p1 8 q1, .slice p2 8 q2, .slice (some ⟨Y4.heap.size, 0, none⟩) 2 2] := ⟨_, rfl⟩
        obtain ⟨X, hX⟩ : ∃ X, X = X1 ++ (X2 ++ (Y4.heap.size :: (XA ++ XB))) := ⟨_, rfl⟩
        have hd7 : ds.size = 7 := by rw [hds]; rfl
        have hdone : ds.all (·.oneCell') = true := by rw [hds]; simp [Value.oneCell']
        rw [← hW6, ← hds, ← hX] at HG
        rw [← hW6]
        have HD7 : Hid (ds.size = 7 ∧ ds.all (·.oneCell') = true) := ⟨hd7, hdone⟩
        clear hW6 hds hX hd7 hdone nT HF gZ
        go_wp2_with (first | go_skip | (with_reducible refine stopLoad 29 rfl ?_))
        refine load_known 29 T ds 29 _ HG.out.1.loc rfl rfl rfl Try.underlying29 rfl (by rw [HD7.out.1]; exact infoSkI) ?_
        go_wp2_with fail
        refine (okSpec_any _ (skOf l) X _ HG.out.2.1 (wide_skOf HA.out.2.2)).mono ?_
        rintro e W8 ⟨rfl, hb8⟩
        have HW8 : Hid (RdSk W8 (.agg ds) (skOf l) X ∧ Own (T + 1) W8 X ∧ SkW w T gn ds l W8) := ⟨HG.out.2.1.below hb8, HG.out.2.2.below HG.out.2.1.lt hb8, HG.out.1.below hb8⟩
        have oT := HG.out.1.ord
        clear hb8 HG
        obtain ⟨d, hd⟩ : ∃ d, d = (skOf l).ok := ⟨_, rfl⟩
        rw [← hd]
        have HDD : Hid (d = (skOf l).ok) := hd
        clear hd
        cases d
        · have HV : Hid (SkIs zs Sk.zero false) := skIs_bad HA.out.2.1 HA.out.1 HDD.out.symm
          go_wp2_with (first | go_skip | (with_reducible refine stopStore 29 rfl ?_))
          refine store_known 29 w.heap.size _ #[.int .i64 0, .int .i64 0, .int .i64 0, .int .i64 0, .slice none 0 0, .slice none 0 0, .slice none 0 0] 29 HW8.out.2.2.res rfl rfl rfl rfl infoSkI rfl (by simp [Value.oneCell']) ?_
          go_wp2
          refine bodyPost_ret (results_row_tmp Try.results17 _ _ w.heap.size _ _ _ _ rfl HW8.out.2.2.res.setRow Try.underlying29 rfl infoSkI) rfl ?_
          exact ⟨_, Sk.zero, false, [], rfl, rdSk_zero7 _, Own.nil, below_setRow HW8.out.2.2.bel (Nat.le_refl _) _, HV.out⟩
        have HV : Hid (SkIs zs (skOf l) true) := skIs_yes HA.out.2.2 HA.out.1 HDD.out.symm
        go_wp2_with (first | go_skip | (with_reducible refine stopLoad 29 rfl ?_))
        refine load_known 29 T ds 29 _ HW8.out.2.2.loc rfl rfl rfl Try.underlying29 rfl (by rw [HD7.out.1]; exact infoSkI) ?_
        go_wp2_with (first | go_skip | (with_reducible refine stopStore 29 rfl ?_))
        refine store_known 29 w.heap.size _ ds 29 HW8.out.2.2.res rfl rfl rfl rfl (by rw [HD7.out.1]; exact infoSkI) (by rw [HD7.out.1]; rfl) HD7.out.2 ?_
        have nX : w.heap.size ∉ X := fun hx => by have := HW8.out.2.1.ge _ hx; omega
        have HF : Hid (RdSk (W8.setRow w.heap.size ds) (.agg ds) (skOf l) X ∧ Own w.heap.size (W8.setRow w.heap.size ds) X ∧ Below w.heap.size w (W8.setRow w.heap.size ds) ∧ Blk (W8.setRow w.heap.size ds) w.heap.size ds 29) := ⟨HW8.out.1.agree (Agree.row nX ds), (HW8.out.2.1.agree (Agree.row nX ds)).mono (by omega), below_setRow HW8.out.2.2.bel (Nat.le_refl _) _, HW8.out.2.2.res.setRow⟩
        have hds : (Try.prog.info? 29).map (·.size) = some ds.size := by rw [HD7.out.1]; exact infoSkI
        clear HW8 nX
        go_wp2
        refine bodyPost_ret (results_row_tmp Try.results17 _ _ w.heap.size _ _ _ _ rfl HF.out.2.2.2 Try.underlying29 rfl hds) rfl ?_
        exact ⟨_, skOf l, true, X, rfl, HF.out.1, HF.out.2.1, HF.out.2.2.1, HV.out⟩
      case s26 =>
        intro K hK
        have bx5 : Hid (Below Y1.heap.size Y1 (Y1.alloc (.cells #[] 3))) := (Below.refl _ _).alloc (Nat.le_refl _) _
        refine op_turn (.slice (some ⟨Y1.heap.size, 0, none⟩) 0 0) (Y1.alloc (.cells #[] 3)) rfl (by go_simp) ⟨_, by simp [Act.put]; rfl, hK _ _ ⟨trivial, ?_⟩⟩
        clear hK
        obtain ⟨Y5, hY5⟩ : ∃ Z, Z = Y1.alloc (.cells #[] 3) := ⟨_, rfl⟩
        rw [← hY5] at bx5 ⊢
        clear hY5
        have BYY5 : Hid (Below Y.heap.size Y Y5) := Below.next BYY1.out bx5.out
        refine onlyH (o := ?o32) 6 (by kernel_rfl) ?h32 ?r32
        case h32 => simp only [List.getElem?_toArray, List.getElem?_cons_succ, List.getElem?_cons_zero]; rfl
        intro K hK
        refine op_grows _ _ 22 rfl rfl 3 i0 (.int .i64 0) 1 8 Try.underlying22 hi hz0 hz1 hz2 rfl (by decide) (some _) rfl ⟨gn, 20, none⟩ 4 (cn - 20) (((l.drop 20).take 4).map (Value.int .i64)) rfl (by have := HA.out.2.2; simp; omega) (((HD.out.1.src.below BYY5.out).part (k := 20) (n := 4) (by omega) (by omega)).from (Below.refl _ _) (by omega)) (ints_one _) (by omega) (by unfold maxLen; omega) (by omega) ?_
        intro vA Y6 hown bx
        obtain ⟨rA, kA, XA, rfl, hr, ho⟩ := rdI_of_own hown
        have RA : Hid (RdI Y6 rA 4 ((l.drop 20).take 4) XA ∧ Own Y5.heap.size Y6 XA) := ⟨hr, ho⟩
        have bx6 : Hid (Below Y5.heap.size Y5 Y6) := bx
        have BYY6 : Hid (Below Y.heap.size Y Y6) := Below.next BYY5.out bx
        refine ⟨_, by simp [Act.put]; rfl, hK _ _ ⟨trivial, ?_⟩⟩
        clear hK hown hr ho bx
        have RA : Hid (RdI Y6 rA 4 ((l.drop 20).take 4) XA ∧ Own Y.heap.size Y6 XA ∧ ∀ b ∈ XA, b < Y6.heap.size) := ⟨RA.out.1, RA.out.2.mono BYY5.out.size, fun b hb => RA.out.1.lt b hb⟩
        refine onlyH (o := ?o33) 12 (by kernel_rfl) ?h33 ?r33
        case h33 => simp only [List.getElem?_toArray, List.getElem?_cons_succ, List.getElem?_cons_zero]; rfl
        intro K hK
        refine op_grows _ _ 22 rfl rfl 3 i0 (.int .i64 0) 1 8 Try.underlying22 hi hz0 hz1 hz2 rfl (by decide) (some _) rfl ⟨gn, 24, none⟩ 4 (cn - 24) (((l.drop 24).take 4).map (Value.int .i64)) rfl (by have := HA.out.2.2; simp; omega) (((HD.out.1.src.below BYY6.out).part (k := 24) (n := 4) (by omega) (by omega)).from (Below.refl _ _) (by omega)) (ints_one _) (by omega) (by unfold maxLen; omega) (by omega) ?_
        intro vB Y7 hown bx
        obtain ⟨rB, kB, XB, rfl, hr, ho⟩ := rdI_of_own hown
        have RB : Hid (RdI Y7 rB 4 ((l.drop 24).take 4) XB ∧ Own Y6.heap.size Y7 XB) := ⟨hr, ho⟩
        have bx7 : Hid (Below Y6.heap.size Y6 Y7) := bx
        have BYY7 : Hid (Below Y.heap.size Y Y7) := Below.next BYY6.out bx
        refine ⟨_, by simp [Act.put]; rfl, hK _ _ ⟨trivial, ?_⟩⟩
        clear hK hown hr ho bx
        have RA : Hid (RdI Y7 rA 4 ((l.drop 20).take 4) XA ∧ Own Y.heap.size Y7 XA ∧ ∀ b ∈ XA, b < Y6.heap.size) := ⟨RA.out.1.below bx7.out, RA.out.2.1.below RA.out.1.lt bx7.out, fun b hb => RA.out.1.lt b hb⟩
        have JJ := two_lists (B := Y.heap.size) RA.out.2.1 RB.out.2 (fun b hb => RA.out.2.2 b hb) (BYY6.out.size)
        have HRW : Hid (RdI Y7 rA 4 ((l.drop 20).take 4) XA ∧ RdI Y7 rB 4 ((l.drop 24).take 4) XB ∧ Own Y.heap.size Y7 (XA ++ XB)) := ⟨RA.out.1, RB.out.1, JJ.1⟩
        clear JJ RA RB
        refine onlyH (o := ?o34) 13 (by kernel_rfl) ?h34 ?r34
        case h34 => simp only [List.getElem?_toArray, List.getElem?_cons_succ, List.getElem?_cons_zero]; rfl
        intro K hK
        have bV : Below Y7.heap.size Y7 (Y7.alloc (.cells #[.slice rA 4 kA, .slice rB 4 kB] 22)) := (Below.refl _ _).alloc (Nat.le_refl _) _
        have HF : Hid (SkW w T gn #[.int .i64 x0, .int .i64 x1, .int .i64 x2, .int .i64 x3, .slice p1 8 q1, .slice p2 8 q2, .slice none 0 0] l (Y7.alloc (.cells #[.slice rA 4 kA, .slice rB 4 kB] 22)) ∧ RdI (Y7.alloc (.cells #[.slice rA 4 kA, .slice rB 4 kB] 22)) p1 8 ((l.drop 4).take 8) X1 ∧ RdI (Y7.alloc (.cells #[.slice rA 4 kA, .slice rB 4 kB] 22)) p2 8 ((l.drop 12).take 8) X2 ∧ RdII (Y7.alloc (.cells #[.slice rA 4 kA, .slice rB 4 kB] 22)) (some ⟨Y7.heap.size, 0, none⟩) 2 [(l.drop 20).take 4, (l.drop 24).take 4] (Y7.heap.size :: (XA ++ XB)) ∧ Own (T + 1) (Y7.alloc (.cells #[.slice rA 4 kA, .slice rB 4 kB] 22)) (X1 ++ (X2 ++ (Y7.heap.size :: (XA ++ XB))))) := by
          have bY := Below.next BYY7.out bV
          have bl := Blk.made Y7 #[.slice rA 4 kA, .slice rB 4 kB] 22
          have o12 := HD.out.2.2.2.below (fun b hb => (List.mem_append.1 hb).elim (HD.out.2.1.lt b) (HD.out.2.2.1.lt b)) bY
          have lAB : ∀ b ∈ XA ++ XB, b < Y7.heap.size := fun b hb => (List.mem_append.1 hb).elim (HRW.out.1.lt b) (HRW.out.2.1.lt b)
          have oAB := (HRW.out.2.2.below lAB bV).blk bl (fun hx => by have := lAB _ hx; omega) BYY7.out.size
          have lT : T < Y.heap.size := HD.out.1.loc.lt
          refine ⟨HD.out.1.below bY, HD.out.2.1.below bY, HD.out.2.2.1.below bY, two_rows4 bl (HRW.out.1.below bV) (HRW.out.2.1.below bV), ?_⟩
          have j := o12.join (oAB.perm List.perm_append_comm) (fun b hb => (List.mem_append.1 hb).elim (HD.out.2.1.lt b) (HD.out.2.2.1.lt b)) (by omega)
          rw [List.append_assoc] at j
          exact j
        refine op_turn (.slice (some ⟨Y7.heap.size, 0, none⟩) 2 2) (Y7.alloc (.cells #[.slice rA 4 kA, .slice rB 4 kB] 22)) rfl (by go_simp) ⟨_, by simp [Act.put]; rfl, hK _ _ ⟨trivial, ?_⟩⟩
        clear hK bV HRW HD
        obtain ⟨Z, hZ⟩ : ∃ Z, Z = Y7.alloc (.cells #[.slice rA 4 kA, .slice rB 4 kB] 22) := ⟨_, rfl⟩
        rw [← hZ] at HF ⊢
        clear hZ
        have gZ : T + 1 ≤ Y7.heap.size := HF.out.2.2.2.2.ge _ (by simp)
        refine takeH (o := ?o35) 14 (.pointer (some ⟨T, 6, none⟩)) ?h35 ?r35
        case h35 => simp only [List.getElem?_toArray, List.getElem?_cons_succ, List.getElem?_cons_zero]; rfl
        refine ⟨_, by simp [Act.put]; rfl, by kernel_rfl, by kernel_rfl, by kernel_rfl, fun _ _ _ h => h, (.inl ⟨rfl, fun W _ => by go_simp⟩), trivial, ?_⟩
        refine onlyH (o := ?o36) 15 (by kernel_rfl) ?h36 ?r36
        case h36 => simp only [List.getElem?_toArray, List.getElem?_cons_succ, List.getElem?_cons_zero]; rfl
        intro K hK
        have c6 := HF.out.1.loc.cell 6
        have f6 := HF.out.1.loc.frozen 6
        simp only [List.getElem?_toArray, List.getElem?_cons_succ, List.getElem?_cons_zero] at c6
        refine op_skip (Z.setCell ⟨T, 6, none⟩ (.slice (some ⟨Y7.heap.size, 0, none⟩) 2 2)) rfl (by go_simp) ⟨_, by simp [Act.put]; rfl, hK _ _ ⟨trivial, ?_⟩⟩
        clear hK c6 f6
        refine wpAnyH_done (by kernel_rfl) ?_ _
        have nT : T ∉ X1 ++ (X2 ++ (Y7.heap.size :: (XA ++ XB))) := fun hx => by have := HF.out.2.2.2.2.ge _ hx; omega
        have HG : Hid (SkW w T gn #[.int .i64 x0, .int .i64 x1, .int .i64 x2, .int .i64 x3, .slice p1 8 q1, .slice p2 8 q2, .slice (some ⟨Y7.heap.size, 0, none⟩) 2 2] l (Z.setCell ⟨T, 6, none⟩ (.slice (some ⟨Y7.heap.size, 0, none⟩) 2 2)) ∧ RdSk (Z.setCell ⟨T, 6, none⟩ (.slice (some ⟨Y7.heap.size, 0, none⟩) 2 2)) (.agg #[.int .i64 x0, .int .i64 x1, .int .i64 x2, .int .i64 x3, .slice p1 8 q1, .slice p2 8 q2, .slice (some ⟨Y7.heap.size, 0, none⟩) 2 2]) (skOf l) (X1 ++ (X2 ++ (Y7.heap.size :: (XA ++ XB)))) ∧ Own (T + 1) (Z.setCell ⟨T, 6, none⟩ (.slice (some ⟨Y7.heap.size, 0, none⟩) 2 2)) (X1 ++ (X2 ++ (Y7.heap.size :: (XA ++ XB))))) := by
          have ag := Agree.set (w := Z) nT 6 (.slice (some ⟨Y7.heap.size, 0, none⟩) 2 2)
          refine ⟨HF.out.1.set 6 _, ?_, HF.out.2.2.2.2.agree ag⟩
          refine ⟨p1, 8, q1, p2, 8, q2, some ⟨Y7.heap.size, 0, none⟩, 2, 2, X1, X2, Y7.heap.size :: (XA ++ XB), ?_, HF.out.2.1.agree ag.left, HF.out.2.2.1.agree ag.right.left, HF.out.2.2.2.1.agree ag.right.right, rfl⟩
          rw [HX.out.1, HX.out.2.1, HX.out.2.2.1, HX.out.2.2.2]
          rfl
        obtain ⟨W6, hW6⟩ : ∃ W, W = Z.setCell ⟨T, 6, none⟩ (.slice (some ⟨Y7.heap.size, 0, none⟩) 2 2) := ⟨_, rfl⟩
        obtain ⟨ds, hds⟩ : ∃ ds : Array Value, ds = #[.int .i64 x0, .int .i64 x1, .int .i64 x2, .int .i64 x3, .slice p1 8 q1, .slice p2 8 q2, .slice (some ⟨Y7.heap.size, 0, none⟩) 2 2] := ⟨_, rfl⟩
        obtain ⟨X, hX⟩ : ∃ X, X = X1 ++ (X2 ++ (Y7.heap.size :: (XA ++ XB))) := ⟨_, rfl⟩
        have hd7 : ds.size = 7 := by rw [hds]; rfl
        have hdone : ds.all (·.oneCell') = true := by rw [hds]; simp [Value.oneCell']
        rw [← hW6, ← hds, ← hX] at HG
        rw [← hW6]
        have HD7 : Hid (ds.size = 7 ∧ ds.all (·.oneCell') = true) := ⟨hd7, hdone⟩
        clear hW6 hds hX hd7 hdone nT HF gZ
        go_wp2_with (first | go_skip | (with_reducible refine stopLoad 29 rfl ?_))
        refine load_known 29 T ds 29 _ HG.out.1.loc rfl rfl rfl Try.underlying29 rfl (by rw [HD7.out.1]; exact infoSkI) ?_
        go_wp2_with fail
        refine (okSpec_any _ (skOf l) X _ HG.out.2.1 (wide_skOf HA.out.2.2)).mono ?_
        rintro e W8 ⟨rfl, hb8⟩
        have HW8 : Hid (RdSk W8 (.agg ds) (skOf l) X ∧ Own (T + 1) W8 X ∧ SkW w T gn ds l W8) := ⟨HG.out.2.1.below hb8, HG.out.2.2.below HG.out.2.1.lt hb8, HG.out.1.below hb8⟩
        have oT := HG.out.1.ord
        clear hb8 HG
        obtain ⟨d, hd⟩ : ∃ d, d = (skOf l).ok := ⟨_, rfl⟩
        rw [← hd]
        have HDD : Hid (d = (skOf l).ok) := hd
        clear hd
        cases d
        · have HV : Hid (SkIs zs Sk.zero false) := skIs_bad HA.out.2.1 HA.out.1 HDD.out.symm
          go_wp2_with (first | go_skip | (with_reducible refine stopStore 29 rfl ?_))
          refine store_known 29 w.heap.size _ #[.int .i64 0, .int .i64 0, .int .i64 0, .int .i64 0, .slice none 0 0, .slice none 0 0, .slice none 0 0] 29 HW8.out.2.2.res rfl rfl rfl rfl infoSkI rfl (by simp [Value.oneCell']) ?_
          go_wp2
          refine bodyPost_ret (results_row_tmp Try.results17 _ _ w.heap.size _ _ _ _ rfl HW8.out.2.2.res.setRow Try.underlying29 rfl infoSkI) rfl ?_
          exact ⟨_, Sk.zero, false, [], rfl, rdSk_zero7 _, Own.nil, below_setRow HW8.out.2.2.bel (Nat.le_refl _) _, HV.out⟩
        have HV : Hid (SkIs zs (skOf l) true) := skIs_yes HA.out.2.2 HA.out.1 HDD.out.symm
        go_wp2_with (first | go_skip | (with_reducible refine stopLoad 29 rfl ?_))
        refine load_known 29 T ds 29 _ HW8.out.2.2.loc rfl rfl rfl Try.underlying29 rfl (by rw [HD7.out.1]; exact infoSkI) ?_
        go_wp2_with (first | go_skip | (with_reducible refine stopStore 29 rfl ?_))
        refine store_known 29 w.heap.size _ ds 29 HW8.out.2.2.res rfl rfl rfl rfl (by rw [HD7.out.1]; exact infoSkI) (by rw [HD7.out.1]; rfl) HD7.out.2 ?_
        have nX : w.heap.size ∉ X := fun hx => by have := HW8.out.2.1.ge _ hx; omega
        have HF : Hid (RdSk (W8.setRow w.heap.size ds) (.agg ds) (skOf l) X ∧ Own w.heap.size (W8.setRow w.heap.size ds) X ∧ Below w.heap.size w (W8.setRow w.heap.size ds) ∧ Blk (W8.setRow w.heap.size ds) w.heap.size ds 29) := ⟨HW8.out.1.agree (Agree.row nX ds), (HW8.out.2.1.agree (Agree.row nX ds)).mono (by omega), below_setRow HW8.out.2.2.bel (Nat.le_refl _) _, HW8.out.2.2.res.setRow⟩
        have hds : (Try.prog.info? 29).map (·.size) = some ds.size := by rw [HD7.out.1]; exact infoSkI
        clear HW8 nX
        go_wp2
        refine bodyPost_ret (results_row_tmp Try.results17 _ _ w.heap.size _ _ _ _ rfl HF.out.2.2.2 Try.underlying29 rfl hds) rfl ?_
        exact ⟨_, skOf l, true, X, rfl, HF.out.1, HF.out.2.1, HF.out.2.2.1, HV.out⟩
    case s25 =>
      intro K hK
      have bx8 : Hid (Below Y.heap.size Y (Y.alloc (.cells #[] 3))) := (Below.refl _ _).alloc (Nat.le_refl _) _
      refine op_turn (.slice (some ⟨Y.heap.size, 0, none⟩) 0 0) (Y.alloc (.cells #[] 3)) rfl (by go_simp) ⟨_, by simp [Act.put]; rfl, hK _ _ ⟨trivial, ?_⟩⟩
      clear hK
      obtain ⟨Y8, hY8⟩ : ∃ Z, Z = Y.alloc (.cells #[] 3) := ⟨_, rfl⟩
      rw [← hY8] at bx8 ⊢
      clear hY8
      have BYY8 : Hid (Below Y.heap.size Y Y8) := Below.next BYY.out bx8.out
      refine onlyH (o := ?o37) 0 (by kernel_rfl) ?h37 ?r37
      case h37 => simp only [List.getElem?_toArray, List.getElem?_cons_zero]; rfl
      intro K hK
      have bx9 : Hid (Below Y8.heap.size Y8 (Y8.alloc (.cells #[] 3))) := (Below.refl _ _).alloc (Nat.le_refl _) _
      refine op_turn (.slice (some ⟨Y8.heap.size, 0, none⟩) 0 0) (Y8.alloc (.cells #[] 3)) rfl (by go_simp) ⟨_, by simp [Act.put]; rfl, hK _ _ ⟨trivial, ?_⟩⟩
      clear hK
      obtain ⟨Y9, hY9⟩ : ∃ Z, Z = Y8.alloc (.cells #[] 3) := ⟨_, rfl⟩
      rw [← hY9] at bx9 ⊢
      clear hY9
      have BYY9 : Hid (Below Y.heap.size Y Y9) := Below.next BYY8.out bx9.out
      refine onlyH (o := ?o38) 6 (by kernel_rfl) ?h38 ?r38
      case h38 => simp only [List.getElem?_toArray, List.getElem?_cons_succ, List.getElem?_cons_zero]; rfl
      intro K hK
      refine op_grows _ _ 22 rfl rfl 3 i0 (.int .i64 0) 1 8 Try.underlying22 hi hz0 hz1 hz2 rfl (by decide) (some _) rfl ⟨gn, 20, none⟩ 4 (cn - 20) (((l.drop 20).take 4).map (Value.int .i64)) rfl (by have := HA.out.2.2; simp; omega) (((HD.out.1.src.below BYY9.out).part (k := 20) (n := 4) (by omega) (by omega)).from (Below.refl _ _) (by omega)) (ints_one _) (by omega) (by unfold maxLen; omega) (by omega) ?_
      intro vA Y10 hown bx
      obtain ⟨rA, kA, XA, rfl, hr, ho⟩ := rdI_of_own hown
      have RA : Hid (RdI Y10 rA 4 ((l.drop 20).take 4) XA ∧ Own Y9.heap.size Y10 XA) := ⟨hr, ho⟩
      have bx10 : Hid (Below Y9.heap.size Y9 Y10) := bx
      have BYY10 : Hid (Below Y.heap.size Y Y10) := Below.next BYY9.out bx
      refine ⟨_, by simp [Act.put]; rfl, hK _ _ ⟨trivial, ?_⟩⟩
      clear hK hown hr ho bx
      have RA : Hid (RdI Y10 rA 4 ((l.drop 20).take 4) XA ∧ Own Y.heap.size Y10 XA ∧ ∀ b ∈ XA, b < Y10.heap.size) := ⟨RA.out.1, RA.out.2.mono BYY9.out.size, fun b hb => RA.out.1.lt b hb⟩
      refine onlyH (o := ?o39) 12 (by kernel_rfl) ?h39 ?r39
      case h39 => simp only [List.getElem?_toArray, List.getElem?_cons_succ, List.getElem?_cons_zero]; rfl
      intro K hK
      refine op_grows _ _ 22 rfl rfl 3 i0 (.int .i64 0) 1 8 Try.underlying22 hi hz0 hz1 hz2 rfl (by decide) (some _) rfl ⟨gn, 24, none⟩ 4 (cn - 24) (((l.drop 24).take 4).map (Value.int .i64)) rfl (by have := HA.out.2.2; simp; omega) (((HD.out.1.src.below BYY10.out).part (k := 24) (n := 4) (by omega) (by omega)).from (Below.refl _ _) (by omega)) (ints_one _) (by omega) (by unfold maxLen; omega) (by omega) ?_
      intro vB Y11 hown bx
      obtain ⟨rB, kB, XB, rfl, hr, ho⟩ := rdI_of_own hown
      have RB : Hid (RdI Y11 rB 4 ((l.drop 24).take 4) XB ∧ Own Y10.heap.size Y11 XB) := ⟨hr, ho⟩
      have bx11 : Hid (Below Y10.heap.size Y10 Y11) := bx
      have BYY11 : Hid (Below Y.heap.size Y Y11) := Below.next BYY10.out bx
      refine ⟨_, by simp [Act.put]; rfl, hK _ _ ⟨trivial, ?_⟩⟩
      clear hK hown hr ho bx
      have RA : Hid (RdI Y11 rA 4 ((l.drop 20).take 4) XA ∧ Own Y.heap.size Y11 XA ∧ ∀ b ∈ XA, b < Y10.heap.size) := ⟨RA.out.1.below bx11.out, RA.out.2.1.below RA.out.1.lt bx11.out, fun b hb => RA.out.1.lt b hb⟩
      have JJ := two_lists (B := Y.heap.size) RA.out.2.1 RB.out.2 (fun b hb => RA.out.2.2 b hb) (BYY10.out.size)
      have HRW : Hid (RdI Y11 rA 4 ((l.drop 20).take 4) XA ∧ RdI Y11 rB 4 ((l.drop 24).take 4) XB ∧ Own Y.heap.size Y11 (XA ++ XB)) := ⟨RA.out.1, RB.out.1, JJ.1⟩
      clear JJ RA RB
      refine onlyH (o := ?o40) 13 (by kernel_rfl) ?h40 ?r40
      case h40 => simp only [List.getElem?_toArray, List.getElem?_cons_succ, List.getElem?_cons_zero]; rfl
      intro K hK
      have bV : Below Y11.heap.size Y11 (Y11.alloc (.cells #[.slice rA 4 kA, .slice rB 4 kB] 22)) := (Below.refl _ _).alloc (Nat.le_refl _) _
      have HF : Hid (SkW w T gn #[.int .i64 x0, .int .i64 x1, .int .i64 x2, .int .i64 x3, .slice p1 8 q1, .slice p2 8 q2, .slice none 0 0] l (Y11.alloc (.cells #[.slice rA 4 kA, .slice rB 4 kB] 22)) ∧ RdI (Y11.alloc (.cells #[.slice rA 4 kA, .slice rB 4 kB] 22)) p1 8 ((l.drop 4).take 8) X1 ∧ RdI (Y11.alloc (.cells #[.slice rA 4 kA, .slice rB 4 kB] 22)) p2 8 ((l.drop 12).take 8) X2 ∧ RdII (Y11.alloc (.cells #[.slice rA 4 kA, .slice rB 4 kB] 22)) (some ⟨Y11.heap.size, 0, none⟩) 2 [(l.drop 20).take 4, (l.drop 24).take 4] (Y11.heap.size :: (XA ++ XB)) ∧ Own (T + 1) (Y11.alloc (.cells #[.slice rA 4 kA, .slice rB 4 kB] 22)) (X1 ++ (X2 ++ (Y11.heap.size :: (XA ++ XB))))) := by
        have bY := Below.next BYY11.out bV
        have bl := Blk.made Y11 #[.slice rA 4 kA, .slice rB 4 kB] 22
        have o12 := HD.out.2.2.2.below (fun b hb => (List.mem_append.1 hb).elim (HD.out.2.1.lt b) (HD.out.2.2.1.lt b)) bY
        have lAB : ∀ b ∈ XA ++ XB, b < Y11.heap.size := fun b hb => (List.mem_append.1 hb).elim (HRW.out.1.lt b) (HRW.out.2.1.lt b)
        have oAB := (HRW.out.2.2.below lAB bV).blk bl (fun hx => by have := lAB _ hx; omega) BYY11.out.size
        have lT : T < Y.heap.size := HD.out.1.loc.lt
        refine ⟨HD.out.1.below bY, HD.out.2.1.below bY, HD.out.2.2.1.below bY, two_rows4 bl (HRW.out.1.below bV) (HRW.out.2.1.below bV), ?_⟩
        have j := o12.join (oAB.perm List.perm_append_comm) (fun b hb => (List.mem_append.1 hb).elim (HD.out.2.1.lt b) (HD.out.2.2.1.lt b)) (by omega)
        rw [List.append_assoc] at j
        exact j
      refine op_turn (.slice (some ⟨Y11.heap.size, 0, none⟩) 2 2) (Y11.alloc (.cells #[.slice rA 4 kA, .slice rB 4 kB] 22)) rfl (by go_simp) ⟨_, by simp [Act.put]; rfl, hK _ _ ⟨trivial, ?_⟩⟩
      clear hK bV HRW HD
      obtain ⟨Z, hZ⟩ : ∃ Z, Z = Y11.alloc (.cells #[.slice rA 4 kA, .slice rB 4 kB] 22) := ⟨_, rfl⟩
      rw [← hZ] at HF ⊢
      clear hZ
      have gZ : T + 1 ≤ Y11.heap.size := HF.out.2.2.2.2.ge _ (by simp)
      refine takeH (o := ?o41) 14 (.pointer (some ⟨T, 6, none⟩)) ?h41 ?r41
      case h41 => simp only [List.getElem?_toArray, List.getElem?_cons_succ, List.getElem?_cons_zero]; rfl
      refine ⟨_, by simp [Act.put]; rfl, by kernel_rfl, by kernel_rfl, by kernel_rfl, fun _ _ _ h => h, (.inl ⟨rfl, fun W _ => by go_simp⟩), trivial, ?_⟩
      refine onlyH (o := ?o42) 15 (by kernel_rfl) ?h42 ?r42
      case h42 => simp only [List.getElem?_toArray, List.getElem?_cons_succ, List.getElem?_cons_zero]; rfl
      intro K hK
      have c6 := HF.out.1.loc.cell 6
      have f6 := HF.out.1.loc.frozen 6
      simp only [List.getElem?_toArray, List.getElem?_cons_succ, List.getElem?_cons_zero] at c6
      refine op_skip (Z.setCell ⟨T, 6, none⟩ (.slice (some ⟨Y11.heap.size, 0, none⟩) 2 2)) rfl (by go_simp) ⟨_, by simp [Act.put]; rfl, hK _ _ ⟨trivial, ?_⟩⟩
      clear hK c6 f6
      refine wpAnyH_done (by kernel_rfl) ?_ _
      have nT : T ∉ X1 ++ (X2 ++ (Y11.heap.size :: (XA ++ XB))) := fun hx => by have := HF.out.2.2.2.2.ge _ hx; omega
      have HG : Hid (SkW w T gn #[.int .i64 x0, .int .i64 x1, .int .i64 x2, .int .i64 x3, .slice p1 8 q1, .slice p2 8 q2, .slice (some ⟨Y11.heap.size, 0, none⟩) 2 2] l (Z.setCell ⟨T, 6, none⟩ (.slice (some ⟨Y11.heap.size, 0, none⟩) 2 2)) ∧ RdSk (Z.setCell ⟨T, 6, none⟩ (.slice (some ⟨Y11.heap.size, 0, none⟩) 2 2)) (.agg #[.int .i64 x0, .int .i64 x1, .int .i64 x2, .int .i64 x3, .slice p1 8 q1, .slice p2 8 q2, .slice (some ⟨Y11.heap.size, 0, none⟩) 2 2]) (skOf l) (X1 ++ (X2 ++ (Y11.heap.size :: (XA ++ XB)))) ∧ Own (T + 1) (Z.setCell ⟨T, 6, none⟩ (.slice (some ⟨Y11.heap.size, 0, none⟩) 2 2)) (X1 ++ (X2 ++ (Y11.heap.size :: (XA ++ XB))))) := by
        have ag := Agree.set (w := Z) nT 6 (.slice (some ⟨Y11.heap.size, 0, none⟩) 2 2)
        refine ⟨HF.out.1.set 6 _, ?_, HF.out.2.2.2.2.agree ag⟩
        refine ⟨p1, 8, q1, p2, 8, q2, some ⟨Y11.heap.size, 0, none⟩, 2, 2, X1, X2, Y11.heap.size :: (XA ++ XB), ?_, HF.out.2.1.agree ag.left, HF.out.2.2.1.agree ag.right.left, HF.out.2.2.2.1.agree ag.right.right, rfl⟩
        rw [HX.out.1, HX.out.2.1, HX.out.2.2.1, HX.out.2.2.2]
        rfl
      obtain ⟨W6, hW6⟩ : ∃ W, W = Z.setCell ⟨T, 6, none⟩ (.slice (some ⟨Y11.heap.size, 0, none⟩) 2 2) := ⟨_, rfl⟩
      obtain ⟨ds, hds⟩ : ∃ ds : Array Value, ds = #[.int .i64 x0, .int .i64 x1, .int .i64 x2, .int .i64 x3, .slice p1 8 q1, .slice p2 8 q2, .slice (some ⟨Y11.heap.size, 0, none⟩) 2 2] := ⟨_, rfl⟩
      obtain ⟨X, hX⟩ : ∃ X, X = X1 ++ (X2 ++ (Y11.heap.size :: (XA ++ XB))) := ⟨_, rfl⟩
      have hd7 : ds.size = 7 := by rw [hds]; rfl
      have hdone : ds.all (·.oneCell') = true := by rw [hds]; simp [Value.oneCell']
      rw [← hW6, ← hds, ← hX] at HG
      rw [← hW6]
      have HD7 : Hid (ds.size = 7 ∧ ds.all (·.oneCell') = true) := ⟨hd7, hdone⟩
      clear hW6 hds hX hd7 hdone nT HF gZ
      go_wp2_with (first | go_skip | (with_reducible refine stopLoad 29 rfl ?_))
      refine load_known 29 T ds 29 _ HG.out.1.loc rfl rfl rfl Try.underlying29 rfl (by rw [HD7.out.1]; exact infoSkI) ?_
      go_wp2_with fail
      refine (okSpec_any _ (skOf l) X _ HG.out.2.1 (wide_skOf HA.out.2.2)).mono ?_
      rintro e W8 ⟨rfl, hb8⟩
      have HW8 : Hid (RdSk W8 (.agg ds) (skOf l) X ∧ Own (T + 1) W8 X ∧ SkW w T gn ds l W8) := ⟨HG.out.2.1.below hb8, HG.out.2.2.below HG.out.2.1.lt hb8, HG.out.1.below hb8⟩
      have oT := HG.out.1.ord
      clear hb8 HG
      obtain ⟨d, hd⟩ : ∃ d, d = (skOf l).ok := ⟨_, rfl⟩
      rw [← hd]
      have HDD : Hid (d = (skOf l).ok) := hd
      clear hd
      cases d
      · have HV : Hid (SkIs zs Sk.zero false) := skIs_bad HA.out.2.1 HA.out.1 HDD.out.symm
        go_wp2_with (first | go_skip | (with_reducible refine stopStore 29 rfl ?_))
        refine store_known 29 w.heap.size _ #[.int .i64 0, .int .i64 0, .int .i64 0, .int .i64 0, .slice none 0 0, .slice none 0 0, .slice none 0 0] 29 HW8.out.2.2.res rfl rfl rfl rfl infoSkI rfl (by simp [Value.oneCell']) ?_
        go_wp2
        refine bodyPost_ret (results_row_tmp Try.results17 _ _ w.heap.size _ _ _ _ rfl HW8.out.2.2.res.setRow Try.underlying29 rfl infoSkI) rfl ?_
        exact ⟨_, Sk.zero, false, [], rfl, rdSk_zero7 _, Own.nil, below_setRow HW8.out.2.2.bel (Nat.le_refl _) _, HV.out⟩
      have HV : Hid (SkIs zs (skOf l) true) := skIs_yes HA.out.2.2 HA.out.1 HDD.out.symm
      go_wp2_with (first | go_skip | (with_reducible refine stopLoad 29 rfl ?_))
      refine load_known 29 T ds 29 _ HW8.out.2.2.loc rfl rfl rfl Try.underlying29 rfl (by rw [HD7.out.1]; exact infoSkI) ?_
      go_wp2_with (first | go_skip | (with_reducible refine stopStore 29 rfl ?_))
      refine store_known 29 w.heap.size _ ds 29 HW8.out.2.2.res rfl rfl rfl rfl (by rw [HD7.out.1]; exact infoSkI) (by rw [HD7.out.1]; rfl) HD7.out.2 ?_
      have nX : w.heap.size ∉ X := fun hx => by have := HW8.out.2.1.ge _ hx; omega
      have HF : Hid (RdSk (W8.setRow w.heap.size ds) (.agg ds) (skOf l) X ∧ Own w.heap.size (W8.setRow w.heap.size ds) X ∧ Below w.heap.size w (W8.setRow w.heap.size ds) ∧ Blk (W8.setRow w.heap.size ds) w.heap.size ds 29) := ⟨HW8.out.1.agree (Agree.row nX ds), (HW8.out.2.1.agree (Agree.row nX ds)).mono (by omega), below_setRow HW8.out.2.2.bel (Nat.le_refl _) _, HW8.out.2.2.res.setRow⟩
      have hds : (Try.prog.info? 29).map (·.size) = some ds.size := by rw [HD7.out.1]; exact infoSkI
      clear HW8 nX
      go_wp2
      refine bodyPost_ret (results_row_tmp Try.results17 _ _ w.heap.size _ _ _ _ rfl HF.out.2.2.2 Try.underlying29 rfl hds) rfl ?_
      exact ⟨_, skOf l, true, X, rfl, HF.out.1, HF.out.2.1, HF.out.2.2.1, HV.out⟩
end Go.Proofs.Ytfbfklgjccbplaq
/- Items and entries that came in. No statement of the seat is proved here. -/
namespace Go.Proofs.Ytfbfklgjccbplaq
open Go.RowKit Go.WideShapes Go.ChangeShapes Go.ChangeAt Go.Deep
set_option maxRecDepth 100000 in
set_option maxHeartbeats 1000000 in
theorem open_item {H : Type} {enc : TypeId × Value → H} {W : World} {base : Nat} {v : Value} {d : DataW H} {p : List MemPlace} (hv : Value.okWide Try.prog W .any base 42 v) (h : DataW.Trod enc Try.prog W 0 (fun _ => true) true 42 v d p) :
    ∃ x F, RdIt W v x F ∧ x.sk.vast := by
  obtain ⟨cs, rfl, hsz⟩ := okWide_struct Try.underlying42 hv
  have hC : Try.prog.cellsOf 42 = 11 := by kernel_rfl
  have c3 : Try.prog.cellsOf 3 = 1 := by kernel_rfl
  have c7 : Try.prog.cellsOf 25 = 7 := by kernel_rfl
  rw [hC] at hsz
  obtain ⟨l⟩ := cs
  match l, hsz with
  | [e0, e1, e2, e3, e4, e5, e6, e7, e8, e9, e10], _ =>
    obtain ⟨fuel, hf⟩ := h
    obtain ⟨xs, n, _, _, _, hlen, hx⟩ := DataW.trod_struct Try.underlying42 hf
    match xs, hlen with
    | [y0, y1, y2, y3, y4], _ =>
      have g0 := hx 0 _ rfl
      have g1 := hx 1 _ rfl
      have g2 := hx 2 _ rfl
      have g3 := hx 3 _ rfl
      have g4 := hx 4 _ rfl
      simp [Value.cells, c3, c7] at g0 g1 g2 g3 g4
      obtain ⟨i0, q0, _, _⟩ := DataW.trod_int Try.underlying3 g0
      obtain ⟨i1, q1, _, _⟩ := DataW.trod_int Try.underlying3 g1
      obtain ⟨i2, q2, _, _⟩ := DataW.trod_int Try.underlying3 g2
      obtain ⟨i3, q3, _, _⟩ := DataW.trod_int Try.underlying3 g3
      simp at q0 q1 q2 q3
      subst q0 q1 q2 q3
      obtain ⟨s, F, hr, hv7⟩ := open_sk7 (e0 := e4) (e1 := e5) (e2 := e6) (e3 := e7) (e4 := e8) (e5 := e9) (e6 := e10) ⟨_, g4⟩
      obtain ⟨a1, n1, c1, a2, n2, c2, a3, n3, c3', ev⟩ := hr.cells7
      simp only [Value.agg.injEq] at ev
      cases ev
      exact ⟨⟨i0, i1, i2, i3, s⟩, F, ⟨a1, n1, c1, a2, n2, c2, a3, n3, c3', rfl, hr⟩, hv7⟩
end Go.Proofs.Ytfbfklgjccbplaq
/- The walks through the helpers of the laws over frames. No statement of the seat is proved here. -/
namespace Go.Proofs.Ytfbfklgjccbplaq
open Go.RowKit
theorem infoFrI : (Try.prog.info? 51).map (·.size) = some 16 := by kernel_rfl
set_option maxRecDepth 200000 in
set_option maxHeartbeats 2000000 in
theorem toFrame_any (v : Value) (x : Fr) (F0 G0 : List Nat) (w : World) (h : RdFr w v x F0 G0) (hf : x.item.sk.fits) (hp : x.taken.length ≤ 1048576) :
    Calls Try.prog 23 #[v] w fun e w' => NewFr w x e w' := by
  obtain ⟨b, l, c, a1, n1, c1, a2, n2, c2, a3, n3, c3, rfl, hpd, hr, _⟩ := h
  have HR : Hid (RdIt w (.agg #[.int .i64 x.item.seq, .int .i64 x.item.cls, .int .i64 x.item.key, .int .i64 x.item.window, .int .i64 x.item.sk.count, .int .i64 x.item.sk.sum, .int .i64 x.item.sk.min, .int .i64 x.item.sk.max, .slice a1 n1 c1, .slice a2 n2 c2, .slice a3 n3 c3]) x.item G0 ∧ x.item.sk.fits) := ⟨hr, hf⟩
  have HP : Hid (RdP w b l x.taken F0 ∧ l ≤ 1048576) := ⟨hpd, by rw [← hpd.length]; exact hp⟩
  clear hr hf hpd hp
  go_enter Try.func23, Try.ntmps23
  go_wp2_with fail
  have T0 := Three.made w #[.int .i64 x.kind, .int .i64 x.agent, .int .i64 x.epoch, .int .i64 x.granted, .slice b l c, .int .i64 x.item.seq, .int .i64 x.item.cls, .int .i64 x.item.key, .int .i64 x.item.window, .int .i64 x.item.sk.count, .int .i64 x.item.sk.sum, .int .i64 x.item.sk.min, .int .i64 x.item.sk.max, .slice a1 n1 c1, .slice a2 n2 c2, .slice a3 n3 c3] 44 #[.int .i64 0, .int .i64 0, .int .i64 0, .int .i64 0, .slice none 0 0, .int .i64 0, .int .i64 0, .int .i64 0, .int .i64 0, .int .i64 0, .int .i64 0, .int .i64 0, .int .i64 0, .slice none 0 0, .slice none 0 0, .slice none 0 0] #[.int .i64 x.kind, .int .i64 x.agent, .int .i64 x.epoch, .int .i64 x.granted, .slice none 0 0, .int .i64 0, .int .i64 0, .int .i64 0, .int .i64 0, .int .i64 0, .int .i64 0, .int .i64 0, .int .i64 0, .slice none 0 0, .slice none 0 0, .slice none 0 0] 51
  refine (toSpanS_any b l c x.taken F0 _ (HP.out.1.below T0.bel) HP.out.2).mono ?_
  rintro e w1 ⟨b', l', c', F, rfl, p1, q1, hb1, hcap⟩
  have HCAP : Hid (Capd b' l' c') := hcap
  clear hcap
  have HT1 : Hid (Three w _ _ _ _ _ w1) := T0.below hb1
  have HF1 : Hid (RdP w1 b' l' x.taken F ∧ Own (w.heap.size + 3) w1 F) := ⟨p1, q1.mono T0.size⟩
  have c12 := HT1.out.loc.cell 4
  have f12 := HT1.out.loc.frozen 4
  simp only [List.getElem?_toArray, List.getElem?_cons_succ, List.getElem?_cons_zero] at c12
  clear T0 hb1 p1 q1 HP
  go_wp2_with (first | go_skip | (with_reducible refine stopLoad 42 rfl ?_))
  have nl1 : w.heap.size + 1 + 1 ∉ F := fun hx => by have := HF1.out.2.ge _ hx; omega
  have HT2 : Hid (Three w _ _ _ _ _ (w1.setCell ⟨w.heap.size + 1 + 1, 4, none⟩ (.slice b' l' c'))) := HT1.out.set 4 (.slice b' l' c')
  have HF2 : Hid (RdP (w1.setCell ⟨w.heap.size + 1 + 1, 4, none⟩ (.slice b' l' c')) b' l' x.taken F ∧ Own (w.heap.size + 3) (w1.setCell ⟨w.heap.size + 1 + 1, 4, none⟩ (.slice b' l' c')) F) := ⟨HF1.out.1.agree (.set nl1 4 (.slice b' l' c')), HF1.out.2.agree (.set nl1 4 (.slice b' l' c'))⟩
  obtain ⟨w2, hw2⟩ : ∃ W, W = w1.setCell ⟨w.heap.size + 1 + 1, 4, none⟩ (.slice b' l' c') := ⟨_, rfl⟩
  rw [← hw2] at HT2 HF2 ⊢
  clear hw2 nl1 c12 f12 HT1 HF1
  refine load_cut 42 w.heap.size 5 11 _ #[.int .i64 x.item.seq, .int .i64 x.item.cls, .int .i64 x.item.key, .int .i64 x.item.window, .int .i64 x.item.sk.count, .int .i64 x.item.sk.sum, .int .i64 x.item.sk.min, .int .i64 x.item.sk.max, .slice a1 n1 c1, .slice a2 n2 c2, .slice a3 n3 c3] 44 _ HT2.out.box rfl rfl rfl Try.underlying42 rfl infoItL7 (by simp) rfl ?_
  go_wp2_with fail
  refine (toItem_any _ x.item G0 _ (HR.out.1.below HT2.out.bel) HR.out.2).mono ?_
  rintro e w3 ⟨v1, G, rfl, r1, o1, hb3⟩
  obtain ⟨b1, m1, d1, b2, m2, d2, b3, m3, d3, rfl⟩ := r1.cells11
  have HT3 : Hid (Three w _ _ _ _ _ w3) := HT2.out.below hb3
  have HG : Hid (RdIt w3 (.agg #[.int .i64 x.item.seq, .int .i64 x.item.cls, .int .i64 x.item.key, .int .i64 x.item.window, .int .i64 x.item.sk.count, .int .i64 x.item.sk.sum, .int .i64 x.item.sk.min, .int .i64 x.item.sk.max, .slice b1 m1 d1, .slice b2 m2 d2, .slice b3 m3 d3]) x.item G ∧ Own (w.heap.size + 3) w3 G ∧ RdP w3 b' l' x.taken F ∧ Own (w.heap.size + 3) w3 F ∧ ∀ b ∈ F, b ∉ G) := ⟨r1, o1.mono HT2.out.size, HF2.out.1.below hb3, HF2.out.2.below HF2.out.1.lt hb3, fun b hb hg => by have := HF2.out.1.lt b hb; have := o1.ge b hg; omega⟩
  clear hb3 r1 o1 HR HT2 HF2
  go_wp2_with (first | go_skip | (with_reducible refine stopStore 49 rfl ?_))
  refine store_cut 49 (w.heap.size + 1 + 1) 5 _ #[.int .i64 x.item.seq, .int .i64 x.item.cls, .int .i64 x.item.key, .int .i64 x.item.window, .int .i64 x.item.sk.count, .int .i64 x.item.sk.sum, .int .i64 x.item.sk.min, .int .i64 x.item.sk.max, .slice b1 m1 d1, .slice b2 m2 d2, .slice b3 m3 d3] #[.int .i64 x.kind, .int .i64 x.agent, .int .i64 x.epoch, .int .i64 x.granted, .slice b' l' c', .int .i64 x.item.seq, .int .i64 x.item.cls, .int .i64 x.item.key, .int .i64 x.item.window, .int .i64 x.item.sk.count, .int .i64 x.item.sk.sum, .int .i64 x.item.sk.min, .int .i64 x.item.sk.max, .slice b1 m1 d1, .slice b2 m2 d2, .slice b3 m3 d3] 51 HT3.out.loc rfl rfl rfl rfl infoItA7 (by simp) (one11 ..) (by simp [cutIn]) ?_
  obtain ⟨E, hE⟩ : ∃ E : Array Value, E = #[.int .i64 x.kind, .int .i64 x.agent, .int .i64 x.epoch, .int .i64 x.granted, .slice b' l' c', .int .i64 x.item.seq, .int .i64 x.item.cls, .int .i64 x.item.key, .int .i64 x.item.window, .int .i64 x.item.sk.count, .int .i64 x.item.sk.sum, .int .i64 x.item.sk.min, .int .i64 x.item.sk.max, .slice b1 m1 d1, .slice b2 m2 d2, .slice b3 m3 d3] := ⟨_, rfl⟩
  rw [← hE]
  have HE : Hid (E = #[.int .i64 x.kind, .int .i64 x.agent, .int .i64 x.epoch, .int .i64 x.granted, .slice b' l' c', .int .i64 x.item.seq, .int .i64 x.item.cls, .int .i64 x.item.key, .int .i64 x.item.window, .int .i64 x.item.sk.count, .int .i64 x.item.sk.sum, .int .i64 x.item.sk.min, .int .i64 x.item.sk.max, .slice b1 m1 d1, .slice b2 m2 d2, .slice b3 m3 d3]) := hE
  have hE10 : E.size = 16 := by rw [hE]; rfl
  have hEone : E.all (·.oneCell') = true := by rw [hE]; simp [Value.oneCell']
  have HB2 : Hid (Blk (w3.setRow (w.heap.size + 1 + 1) E) (w.heap.size + 1 + 1) E 51) := HT3.out.loc.setRow
  have HB3 : Hid (Blk (w3.setRow (w.heap.size + 1 + 1) E) (w.heap.size + 1) _ 51) := HT3.out.res.setRowOther (by omega)
  clear hE
  go_wp2_with (first | go_skip | (with_reducible refine stopLoad 51 rfl ?_))
  refine load_known 51 (w.heap.size + 1 + 1) E 51 _ HB2.out rfl rfl rfl Try.underlying51 rfl (by rw [hE10]; exact infoFrI) ?_
  go_wp2_with (first | go_skip | (with_reducible refine stopStore 51 rfl ?_))
  refine store_known 51 (w.heap.size + 1) _ E 51 HB3.out rfl rfl rfl rfl (by rw [hE10]; exact infoFrI) (by rw [hE10]; rfl) hEone ?_
  have HB4 : Hid (Blk ((w3.setRow (w.heap.size + 1 + 1) E).setRow (w.heap.size + 1) E) (w.heap.size + 1) E 51) := HB3.out.setRow
  have nr : w.heap.size + 1 ∉ G := fun hx => by have := HG.out.2.1.ge _ hx; omega
  have nl : w.heap.size + 1 + 1 ∉ G := fun hx => by have := HG.out.2.1.ge _ hx; omega
  have mr : w.heap.size + 1 ∉ F := fun hx => by have := HG.out.2.2.2.1.ge _ hx; omega
  have ml : w.heap.size + 1 + 1 ∉ F := fun hx => by have := HG.out.2.2.2.1.ge _ hx; omega
  obtain ⟨w4, hw4⟩ : ∃ W, W = (w3.setRow (w.heap.size + 1 + 1) E).setRow (w.heap.size + 1) E := ⟨_, rfl⟩
  have HF : Hid (RdIt w4 (.agg #[.int .i64 x.item.seq, .int .i64 x.item.cls, .int .i64 x.item.key, .int .i64 x.item.window, .int .i64 x.item.sk.count, .int .i64 x.item.sk.sum, .int .i64 x.item.sk.min, .int .i64 x.item.sk.max, .slice b1 m1 d1, .slice b2 m2 d2, .slice b3 m3 d3]) x.item G ∧ RdP w4 b' l' x.taken F ∧ Own w.heap.size w4 F ∧ Own w.heap.size w4 G ∧ (∀ b ∈ F, b ∉ G) ∧ Below w.heap.size w w4) := by
    rw [hw4]
    exact ⟨(HG.out.1.agree (Agree.row nl E)).agree (Agree.row nr E), (HG.out.2.2.1.agree (Agree.row ml E)).agree (Agree.row mr E), ((HG.out.2.2.2.1.agree (Agree.row ml E)).agree (Agree.row mr E)).mono (by omega), ((HG.out.2.1.agree (Agree.row nl E)).agree (Agree.row nr E)).mono (by omega), HG.out.2.2.2.2, below_setRow (below_setRow HT3.out.bel (by omega) _) (by omega) _⟩
  rw [← hw4] at HB4 ⊢
  clear HB2 HB3 HG HT3 nr nl mr ml hw4
  go_wp2
  refine bodyPost_ret (results_cell_row Try.results23 _ _ (w.heap.size + 1) _ _ (0, 0) _ rfl HB4.out Try.underlying51 rfl (by rw [hE10]; exact infoFrI)) rfl ?_
  exact ⟨_, F, G, rfl, ⟨b', l', c', b1, m1, d1, b2, m2, d2, b3, m3, d3, by rw [HE.out], HF.out.2.1, HF.out.1, HCAP.out⟩, HF.out.2.2.1, HF.out.2.2.2.1, HF.out.2.2.2.2.1, HF.out.2.2.2.2.2⟩
set_option maxRecDepth 200000 in
set_option maxHeartbeats 2000000 in
theorem szFrame_vast (v : Value) (x : Fr) (F G : List Nat) (left : Int) (w : World) (h : RdFr w v x F G) (hw : x.item.sk.vast) (hids : x.taken.length ≤ 9223372036854775807) (hl0 : 0 ≤ left) (hl1 : left ≤ 1048576) :
    Calls Try.prog 21 #[v, .int .i64 left] w fun e w' => (∃ r, e = .returned (.int .i64 r) ∧ r ≤ left ∧ (0 ≤ r → r = left - x.taken.length - x.item.sk.size ∧ (x.taken.length : Int) ≤ left ∧ x.item.sk.size ≤ left) ∧ (r < 0 → left < x.taken.length + x.item.sk.size)) ∧ Below w.heap.size w w' := by
  obtain ⟨b, l, c, a1, n1, c1, a2, n2, c2, a3, n3, c3, rfl, hpd, hr, _⟩ := h
  have HR : Hid (RdIt w (.agg #[.int .i64 x.item.seq, .int .i64 x.item.cls, .int .i64 x.item.key, .int .i64 x.item.window, .int .i64 x.item.sk.count, .int .i64 x.item.sk.sum, .int .i64 x.item.sk.min, .int .i64 x.item.sk.max, .slice a1 n1 c1, .slice a2 n2 c2, .slice a3 n3 c3]) x.item G ∧ x.item.sk.vast) := ⟨hr, hw⟩
  have HL : Hid (x.taken.length = l) := hpd.length
  have HB : Hid (Below w.heap.size w (w.alloc (.cells #[.int .i64 x.kind, .int .i64 x.agent, .int .i64 x.epoch, .int .i64 x.granted, .slice b l c, .int .i64 x.item.seq, .int .i64 x.item.cls, .int .i64 x.item.key, .int .i64 x.item.window, .int .i64 x.item.sk.count, .int .i64 x.item.sk.sum, .int .i64 x.item.sk.min, .int .i64 x.item.sk.max, .slice a1 n1 c1, .slice a2 n2 c2, .slice a3 n3 c3] 44)) ∧ Blk (w.alloc (.cells #[.int .i64 x.kind, .int .i64 x.agent, .int .i64 x.epoch, .int .i64 x.granted, .slice b l c, .int .i64 x.item.seq, .int .i64 x.item.cls, .int .i64 x.item.key, .int .i64 x.item.window, .int .i64 x.item.sk.count, .int .i64 x.item.sk.sum, .int .i64 x.item.sk.min, .int .i64 x.item.sk.max, .slice a1 n1 c1, .slice a2 n2 c2, .slice a3 n3 c3] 44)) w.heap.size #[.int .i64 x.kind, .int .i64 x.agent, .int .i64 x.epoch, .int .i64 x.granted, .slice b l c, .int .i64 x.item.seq, .int .i64 x.item.cls, .int .i64 x.item.key, .int .i64 x.item.window, .int .i64 x.item.sk.count, .int .i64 x.item.sk.sum, .int .i64 x.item.sk.min, .int .i64 x.item.sk.max, .slice a1 n1 c1, .slice a2 n2 c2, .slice a3 n3 c3] 44) := ⟨Below.allocW _ (Below.refl _ _) (Nat.le_refl _), Blk.made _ _ _⟩
  have HN : Hid (0 ≤ x.item.sk.size) := by unfold Sk.size; have := sumLen_nonneg x.item.sk.rows; show _ ≤ _; omega
  have hln : l ≤ 9223372036854775807 := by rw [← hpd.length]; exact hids
  clear hr hw hpd hids
  go_enter Try.func21, Try.ntmps21
  go_wp2_with fail
  refine (szSpanS_vast b l c left _ hln hl0 hl1).mono ?_
  rintro e w1 ⟨⟨r, rfl, ra, rb, rc⟩, hw1⟩
  have hw1' := hw1.symm
  subst hw1'
  clear hw1
  by_cases q : r < 0
  · have HV : Hid (left < (x.taken.length : Int) + x.item.sk.size) := by have := rc q; have := HL.out; have := HN.out; show _ < _; omega
    clear ra rb rc
    go_wp2
    go_ret
    exact ⟨⟨-1, rfl, by omega, by omega, fun _ => HV.out⟩, HB.out.1⟩
  have hr0 : 0 ≤ r := by omega
  have HV : Hid (r = left - l ∧ r ≤ left) := ⟨rb hr0, ra⟩
  have hr1 : r ≤ 1048576 := by omega
  clear ra rb rc q
  go_wp2_with (first | go_skip | (with_reducible refine stopLoad 42 rfl ?_))
  refine load_cut 42 w.heap.size 5 11 _ #[.int .i64 x.item.seq, .int .i64 x.item.cls, .int .i64 x.item.key, .int .i64 x.item.window, .int .i64 x.item.sk.count, .int .i64 x.item.sk.sum, .int .i64 x.item.sk.min, .int .i64 x.item.sk.max, .slice a1 n1 c1, .slice a2 n2 c2, .slice a3 n3 c3] 44 _ HB.out.2 rfl rfl rfl Try.underlying42 rfl infoItL7 (by simp) rfl ?_
  go_wp2_with fail
  refine (szItem_vast _ x.item G r _ (HR.out.1.below HB.out.1) HR.out.2 hr0 hr1).mono ?_
  rintro e w2 ⟨⟨s, rfl, sa, sb, sc⟩, hb1⟩
  have HB1 : Hid (Below w.heap.size w w2) := Below.next HB.out.1 hb1
  have HS : Hid (s ≤ r ∧ (0 ≤ s → s = r - x.item.sk.size) ∧ (s < 0 → r < x.item.sk.size)) := ⟨sa, sb, sc⟩
  clear hb1 sa sb sc
  by_cases q : s < 0
  · go_wp2
    go_ret
    exact ⟨⟨-1, rfl, by omega, by omega, fun _ => by have := HS.out.2.2 q; have := HV.out; have := HL.out; omega⟩, HB1.out⟩
  · go_wp2
    go_ret
    exact ⟨⟨s, rfl, by have := HS.out; have := HV.out; omega, fun hs => by have := HS.out.2.1 hs; have := HV.out; have := HL.out; have := HN.out; omega, fun hs => by omega⟩, HB1.out⟩
set_option maxRecDepth 200000 in
set_option maxHeartbeats 4000000 in
theorem eqFrame_any (v u : Value) (x y : Fr) (F F' G G' : List Nat) (w : World) (h : RdFr w v x F F') (k : RdFr w u y G G') (hw : x.item.sk.wide) (kw : y.item.sk.wide) (hl : x.taken.length ≤ 140737488355328) (kl : y.taken.length ≤ 140737488355328) :
    Calls Try.prog 25 #[v, u] w fun e w' => e = .returned (.bool (decide (x = y))) ∧ Below w.heap.size w w' := by
  obtain ⟨p, l, g, a1, n1, c1, a2, n2, c2, a3, n3, c3, rfl, px, hx, _⟩ := h
  obtain ⟨q, k, j, b1, m1, d1, b2, m2, d2, b3, m3, d3, rfl, py, hy, _⟩ := k
  have HPX : Hid (RdP w p l x.taken F ∧ RdP w q k y.taken G ∧ l ≤ 140737488355328 ∧ k ≤ 140737488355328) := ⟨px, py, by rw [← px.length]; exact hl, by rw [← py.length]; exact kl⟩
  clear px py hl kl
  have HR : Hid (RdIt w (.agg #[.int .i64 x.item.seq, .int .i64 x.item.cls, .int .i64 x.item.key, .int .i64 x.item.window, .int .i64 x.item.sk.count, .int .i64 x.item.sk.sum, .int .i64 x.item.sk.min, .int .i64 x.item.sk.max, .slice a1 n1 c1, .slice a2 n2 c2, .slice a3 n3 c3]) x.item F' ∧ x.item.sk.wide) := ⟨hx, hw⟩
  have HY : Hid (RdIt w (.agg #[.int .i64 y.item.seq, .int .i64 y.item.cls, .int .i64 y.item.key, .int .i64 y.item.window, .int .i64 y.item.sk.count, .int .i64 y.item.sk.sum, .int .i64 y.item.sk.min, .int .i64 y.item.sk.max, .slice b1 m1 d1, .slice b2 m2 d2, .slice b3 m3 d3]) y.item G' ∧ y.item.sk.wide) := ⟨hy, kw⟩
  have HT : Hid (Two w #[.int .i64 x.kind, .int .i64 x.agent, .int .i64 x.epoch, .int .i64 x.granted, .slice p l g, .int .i64 x.item.seq, .int .i64 x.item.cls, .int .i64 x.item.key, .int .i64 x.item.window, .int .i64 x.item.sk.count, .int .i64 x.item.sk.sum, .int .i64 x.item.sk.min, .int .i64 x.item.sk.max, .slice a1 n1 c1, .slice a2 n2 c2, .slice a3 n3 c3] #[.int .i64 y.kind, .int .i64 y.agent, .int .i64 y.epoch, .int .i64 y.granted, .slice q k j, .int .i64 y.item.seq, .int .i64 y.item.cls, .int .i64 y.item.key, .int .i64 y.item.window, .int .i64 y.item.sk.count, .int .i64 y.item.sk.sum, .int .i64 y.item.sk.min, .int .i64 y.item.sk.max, .slice b1 m1 d1, .slice b2 m2 d2, .slice b3 m3 d3] 51 ((w.alloc (.cells #[.int .i64 x.kind, .int .i64 x.agent, .int .i64 x.epoch, .int .i64 x.granted, .slice p l g, .int .i64 x.item.seq, .int .i64 x.item.cls, .int .i64 x.item.key, .int .i64 x.item.window, .int .i64 x.item.sk.count, .int .i64 x.item.sk.sum, .int .i64 x.item.sk.min, .int .i64 x.item.sk.max, .slice a1 n1 c1, .slice a2 n2 c2, .slice a3 n3 c3] 51)).alloc (.cells #[.int .i64 y.kind, .int .i64 y.agent, .int .i64 y.epoch, .int .i64 y.granted, .slice q k j, .int .i64 y.item.seq, .int .i64 y.item.cls, .int .i64 y.item.key, .int .i64 y.item.window, .int .i64 y.item.sk.count, .int .i64 y.item.sk.sum, .int .i64 y.item.sk.min, .int .i64 y.item.sk.max, .slice b1 m1 d1, .slice b2 m2 d2, .slice b3 m3 d3] 51))) := Two.made ..
  clear hx hy hw kw
  go_enter Try.func25, Try.ntmps25
  by_cases h0 : x.kind = y.kind
  rotate_left
  · have e0 : (x.kind != y.kind) = true := by simpa using h0
    have HV : Hid (decide (x = y) = false) := dec_false (fun e => h0 (by rw [e]))
    clear h0
    go_wp2
    go_ret
    exact ⟨ret_bool HV.out.symm, HT.out.bel⟩
  have e0 : (x.kind != y.kind) = false := by simpa using h0
  have H0 : Hid (x.kind = y.kind) := h0
  clear h0
  by_cases h1 : x.agent = y.agent
  rotate_left
  · have e1 : (x.agent != y.agent) = true := by simpa using h1
    have HV : Hid (decide (x = y) = false) := dec_false (fun e => h1 (by rw [e]))
    clear h1
    go_wp2
    go_ret
    exact ⟨ret_bool HV.out.symm, HT.out.bel⟩
  have e1 : (x.agent != y.agent) = false := by simpa using h1
  have H1 : Hid (x.agent = y.agent) := h1
  clear h1
  by_cases h2 : x.epoch = y.epoch
  rotate_left
  · have e2 : (x.epoch != y.epoch) = true := by simpa using h2
    have HV : Hid (decide (x = y) = false) := dec_false (fun e => h2 (by rw [e]))
    clear h2
    go_wp2
    go_ret
    exact ⟨ret_bool HV.out.symm, HT.out.bel⟩
  have e2 : (x.epoch != y.epoch) = false := by simpa using h2
  have H2 : Hid (x.epoch = y.epoch) := h2
  clear h2
  by_cases h3 : x.granted = y.granted
  rotate_left
  · have e3 : (x.granted != y.granted) = true := by simpa using h3
    have HV : Hid (decide (x = y) = false) := dec_false (fun e => h3 (by rw [e]))
    clear h3
    go_wp2
    go_ret
    exact ⟨ret_bool HV.out.symm, HT.out.bel⟩
  have e3 : (x.granted != y.granted) = false := by simpa using h3
  have H3 : Hid (x.granted = y.granted) := h3
  clear h3
  go_wp2_with fail
  refine (eqSpanS_any p q l k g j x.taken y.taken F G _ (HPX.out.1.below HT.out.bel) (HPX.out.2.1.below HT.out.bel) HPX.out.2.2.1 HPX.out.2.2.2).mono ?_
  rintro e w1 ⟨rfl, hb1⟩
  have HT1 : Hid (Two w #[.int .i64 x.kind, .int .i64 x.agent, .int .i64 x.epoch, .int .i64 x.granted, .slice p l g, .int .i64 x.item.seq, .int .i64 x.item.cls, .int .i64 x.item.key, .int .i64 x.item.window, .int .i64 x.item.sk.count, .int .i64 x.item.sk.sum, .int .i64 x.item.sk.min, .int .i64 x.item.sk.max, .slice a1 n1 c1, .slice a2 n2 c2, .slice a3 n3 c3] #[.int .i64 y.kind, .int .i64 y.agent, .int .i64 y.epoch, .int .i64 y.granted, .slice q k j, .int .i64 y.item.seq, .int .i64 y.item.cls, .int .i64 y.item.key, .int .i64 y.item.window, .int .i64 y.item.sk.count, .int .i64 y.item.sk.sum, .int .i64 y.item.sk.min, .int .i64 y.item.sk.max, .slice b1 m1 d1, .slice b2 m2 d2, .slice b3 m3 d3] 51 w1) := HT.out.below hb1
  obtain ⟨d, hd⟩ : ∃ d, d = decide (x.taken = y.taken) := ⟨_, rfl⟩
  rw [← hd]
  have HD : Hid (d = decide (x.taken = y.taken)) := hd
  clear hb1 HT hd
  cases d
  · have HV : Hid (decide (x = y) = false) := dec_false (fun e => by have := HD.out.symm; rw [decide_eq_false_iff_not] at this; exact this (by rw [e]))
    go_wp2
    go_ret
    exact ⟨ret_bool HV.out.symm, HT1.out.bel⟩
  have HI : Hid (x.taken = y.taken) := by show x.taken = y.taken; exact of_decide_eq_true HD.out.symm
  go_wp2_with (first | go_skip | (with_reducible refine stopLoad 49 rfl ?_))
  refine load_cut 49 w.heap.size 5 11 _ #[.int .i64 x.item.seq, .int .i64 x.item.cls, .int .i64 x.item.key, .int .i64 x.item.window, .int .i64 x.item.sk.count, .int .i64 x.item.sk.sum, .int .i64 x.item.sk.min, .int .i64 x.item.sk.max, .slice a1 n1 c1, .slice a2 n2 c2, .slice a3 n3 c3] 51 _ HT1.out.fst rfl rfl rfl Try.underlying49 rfl infoItA7 (by simp) rfl ?_
  go_wp2_with (first | go_skip | (with_reducible refine stopLoad 49 rfl ?_))
  refine load_cut 49 (w.heap.size + 1) 5 11 _ #[.int .i64 y.item.seq, .int .i64 y.item.cls, .int .i64 y.item.key, .int .i64 y.item.window, .int .i64 y.item.sk.count, .int .i64 y.item.sk.sum, .int .i64 y.item.sk.min, .int .i64 y.item.sk.max, .slice b1 m1 d1, .slice b2 m2 d2, .slice b3 m3 d3] 51 _ HT1.out.snd rfl rfl rfl Try.underlying49 rfl infoItA7 (by simp) rfl ?_
  go_wp2_with fail
  refine (eqItem_any _ _ x.item y.item F' G' _ (HR.out.1.below HT1.out.bel) (HY.out.1.below HT1.out.bel) HR.out.2 HY.out.2).mono ?_
  rintro e w2 ⟨rfl, hb2⟩
  have HB2 : Hid (Below w.heap.size w w2) := Below.next HT1.out.bel hb2
  obtain ⟨f, hf⟩ : ∃ d, d = decide (x.item = y.item) := ⟨_, rfl⟩
  rw [← hf]
  have HF : Hid (f = decide (x.item = y.item)) := hf
  clear hb2 hf
  cases f
  · have HV : Hid (decide (x = y) = false) := dec_false (fun e => by have := HF.out.symm; rw [decide_eq_false_iff_not] at this; exact this (by rw [e]))
    go_wp2
    go_ret
    exact ⟨ret_bool HV.out.symm, HB2.out⟩
  have HV : Hid (decide (x = y) = true) := dec_true (Fr.eq_of H0.out H1.out H2.out H3.out HI.out (of_decide_eq_true HF.out.symm))
  go_wp2
  go_ret
  exact ⟨ret_bool HV.out.symm, HB2.out⟩
end Go.Proofs.Ytfbfklgjccbplaq
/- Frames that came in. No statement of the seat is proved here. -/
namespace Go.Proofs.Ytfbfklgjccbplaq
open Go.RowKit Go.WideShapes Go.ChangeShapes Go.ChangeAt Go.Deep
set_option maxRecDepth 100000 in
set_option maxHeartbeats 1000000 in
theorem open_it11 {H : Type} {enc : TypeId × Value → H} {W : World} {e0 e1 e2 e3 e4 e5 e6 e7 e8 e9 e10 : Value} {d : DataW H} {p : List MemPlace} (h : DataW.Trod enc Try.prog W 0 (fun _ => true) true 42 (.agg ⟨[e0, e1, e2, e3, e4, e5, e6, e7, e8, e9, e10]⟩) d p) :
    ∃ x F, RdIt W (.agg ⟨[e0, e1, e2, e3, e4, e5, e6, e7, e8, e9, e10]⟩) x F ∧ x.sk.vast := by
  have c3 : Try.prog.cellsOf 3 = 1 := by kernel_rfl
  have c7 : Try.prog.cellsOf 25 = 7 := by kernel_rfl
  obtain ⟨fuel, hf⟩ := h
  obtain ⟨xs, n, _, _, _, hlen, hx⟩ := DataW.trod_struct Try.underlying42 hf
  match xs, hlen with
  | [y0, y1, y2, y3, y4], _ =>
    have g0 := hx 0 _ rfl
    have g1 := hx 1 _ rfl
    have g2 := hx 2 _ rfl
    have g3 := hx 3 _ rfl
    have g4 := hx 4 _ rfl
    simp [Value.cells, c3, c7] at g0 g1 g2 g3 g4
    obtain ⟨i0, q0, _, _⟩ := DataW.trod_int Try.underlying3 g0
    obtain ⟨i1, q1, _, _⟩ := DataW.trod_int Try.underlying3 g1
    obtain ⟨i2, q2, _, _⟩ := DataW.trod_int Try.underlying3 g2
    obtain ⟨i3, q3, _, _⟩ := DataW.trod_int Try.underlying3 g3
    simp at q0 q1 q2 q3
    subst q0 q1 q2 q3
    obtain ⟨s, F, hr, hv7⟩ := open_sk7 (e0 := e4) (e1 := e5) (e2 := e6) (e3 := e7) (e4 := e8) (e5 := e9) (e6 := e10) ⟨_, g4⟩
    obtain ⟨a1, n1, c1, a2, n2, c2, a3, n3, c3', ev⟩ := hr.cells7
    simp only [Value.agg.injEq] at ev
    cases ev
    exact ⟨⟨i0, i1, i2, i3, s⟩, F, ⟨a1, n1, c1, a2, n2, c2, a3, n3, c3', rfl, hr⟩, hv7⟩
set_option maxRecDepth 100000 in
set_option maxHeartbeats 1000000 in
theorem open_frame {H : Type} {enc : TypeId × Value → H} {W : World} {base : Nat} {v : Value} {d : DataW H} {p : List MemPlace} (hv : Value.okWide Try.prog W .any base 44 v) (h : DataW.Trod enc Try.prog W 0 (fun _ => true) true 44 v d p) :
    ∃ x F G, RdFr W v x F G ∧ x.item.sk.vast ∧ x.taken.length ≤ 9223372036854775807 := by
  obtain ⟨cs, rfl, hsz⟩ := okWide_struct Try.underlying44 hv
  have hC : Try.prog.cellsOf 44 = 16 := by kernel_rfl
  have c3 : Try.prog.cellsOf 3 = 1 := by kernel_rfl
  have c4 : Try.prog.cellsOf 40 = 1 := by kernel_rfl
  have c7 : Try.prog.cellsOf 42 = 11 := by kernel_rfl
  rw [hC] at hsz
  obtain ⟨l⟩ := cs
  match l, hsz with
  | [e0, e1, e2, e3, e4, e5, e6, e7, e8, e9, e10, e11, e12, e13, e14, e15], _ =>
    obtain ⟨fuel, hf⟩ := h
    obtain ⟨xs, n, _, _, _, hlen, hx⟩ := DataW.trod_struct Try.underlying44 hf
    match xs, hlen with
    | [y0, y1, y2, y3, y4, y5], _ =>
      have g0 := hx 0 _ rfl
      have g1 := hx 1 _ rfl
      have g2' := hx 2 _ rfl
      have g3' := hx 3 _ rfl
      have g2 := hx 4 _ rfl
      have g3 := hx 5 _ rfl
      simp [Value.cells, c3, c4, c7] at g0 g1 g2' g3' g2 g3
      clear hx
      obtain ⟨i0, q0, _, _⟩ := DataW.trod_int Try.underlying3 g0
      obtain ⟨i1, q1, _, _⟩ := DataW.trod_int Try.underlying3 g1
      obtain ⟨i2, q2, _, _⟩ := DataW.trod_int Try.underlying3 g2'
      obtain ⟨i3, q3, _, _⟩ := DataW.trod_int Try.underlying3 g3'
      simp at q0 q1 q2 q3
      subst q0 q1 q2 q3
      obtain ⟨s, G, hr, hv7⟩ := open_it11 (e0 := e5) (e1 := e6) (e2 := e7) (e3 := e8) (e4 := e9) (e5 := e10) (e6 := e11) (e7 := e12) (e8 := e13) (e9 := e14) (e10 := e15) ⟨_, g3⟩
      obtain ⟨a1, n1, c1, a2, n2, c2', a3, n3, c3', ev⟩ := hr.cells11
      simp only [Value.agg.injEq] at ev
      cases ev
      have c2 : Try.prog.cellsOf 110 = 2 := by kernel_rfl
      obtain ⟨b, l, c, ps, F, rfl, hp, hb, hcp⟩ : ∃ a len cap ps F, e4 = .slice a len cap ∧ RdP W a len ps F ∧ len ≤ 9223372036854775807 ∧ Capd a len cap := by
        rcases open_slice_pairs Try.underlying40 Try.underlying110 c2 rfl rfl c3 c3 g2 with ⟨q, _⟩ | ⟨x, len, cap, m, n, V0, V1, D0, D1, P0, P1, q, _, hl, hm, hmm, _, hx⟩
        · simp at q
          subst q
          exact ⟨none, 0, 0, [], [], rfl, RdP.nil, by omega, fun _ => rfl, Nat.le_refl _⟩
        · simp at q
          subst q
          have hm2 : m = cap := by rw [hmm]; simp
          subst hm2
          have hb : len ≤ 9223372036854775807 := by unfold maxLen at hm; omega
          have ints : ∀ i, i < m → ∃ y z : Int, V0 i = .int .i64 y ∧ V1 i = .int .i64 z ∧ (Lit.int .i64 y).wf = true ∧ (Lit.int .i64 z).wf = true := fun i hi => by
            obtain ⟨_, _, h3, h4⟩ := hx i hi
            obtain ⟨y, q0, _, w0⟩ := DataW.trod_int Try.underlying3 h3
            obtain ⟨z, q1, _, w1⟩ := DataW.trod_int Try.underlying3 h4
            simp at q0 q1
            exact ⟨y, z, q0, q1, w0, w1⟩
          have hN : ∀ i, i < m → V0 i = .int .i64 (intOf (V0 i)) ∧ V1 i = .int .i64 (intOf (V1 i)) ∧ Fit64 (intOf (V0 i)) ∧ Fit64 (intOf (V1 i)) := fun i hi => by
            obtain ⟨y, z, e0, e1, w0, w1⟩ := ints i hi
            rw [e0, e1]
            exact ⟨rfl, rfl, int_wf w0, int_wf w1⟩
          by_cases h0 : len = 0
          · subst h0
            exact ⟨_, 0, _, [], [], rfl, RdP.nil, by omega, fun e => (by cases e), hl⟩
          · obtain ⟨b, off, rfl⟩ := sp_addr (hx 0 (by omega)).1
            refine ⟨_, len, m, (List.range len).map fun i => (intOf (V0 i), intOf (V1 i)), [b], rfl, rdP_mk _ (by simp) (by omega) (fun i hi => ?_), hb, fun e => (by cases e), hl⟩
            · rw [flat_range len _ _ i hi]
              have h1 := (hx i (by omega)).1
              have h2 := (hx i (by omega)).2.1
              rw [sp_add] at h1 h2
              rw [(hN i (by omega)).1] at h1
              rw [(hN i (by omega)).2.1] at h2
              exact ⟨h1, by rw [show off + i * 2 + 1 = off + (i * 2 + 1) by omega]; exact h2⟩
      exact ⟨⟨i0, i1, i2, i3, ps, s⟩, F, G, ⟨b, l, c, a1, n1, c1, a2, n2, c2', a3, n3, c3', rfl, hp, hr, hcp⟩, hv7, by rw [hp.length]; exact hb⟩
end Go.Proofs.Ytfbfklgjccbplaq
/- What the laws over items and entries share. No statement of the seat is proved here. -/
namespace Go.Proofs.Ytfbfklgjccbplaq
open Go.RowKit Go.WideShapes Go.ChangeShapes Go.ChangeAt
theorem RdIt.cells {w : World} {v : Value} {x : It} {F : List Nat} (h : RdIt w v x F) : ∃ cs : Array Value, v = .agg cs ∧ cs.size = 11 ∧ cs.all (·.oneCell') = true := by
  obtain ⟨a1, n1, c1, a2, n2, c2, a3, n3, c3, rfl, _⟩ := h
  exact ⟨_, rfl, rfl, by simp [Value.oneCell']⟩
/-- An entry's value that can be read; F: its blocks. -/
def RdE (w : World) (v : Value) (x : En) (F : List Nat) : Prop := ∃ F1 F2, F = F1 ++ F2 ∧ RdEn w v x F1 F2
theorem RdE.agree {w w' : World} {v : Value} {x : En} {F : List Nat} (h : RdE w v x F) (ha : Agree w w' F) : RdE w' v x F := by
  obtain ⟨F1, F2, rfl, h⟩ := h
  exact ⟨F1, F2, rfl, h.agree (fun b hb => ha b (List.mem_append_left _ hb)) (fun b hb => ha b (List.mem_append_right _ hb))⟩
theorem RdE.lt {w : World} {v : Value} {x : En} {F : List Nat} (h : RdE w v x F) : ∀ b ∈ F, b < w.heap.size := by
  obtain ⟨F1, F2, rfl, h⟩ := h
  exact fun b hb => (List.mem_append.1 hb).elim (h.lt1 b) (h.lt2 b)
theorem RdE.below {w w' : World} {v : Value} {x : En} {F : List Nat} (h : RdE w v x F) (hb : Below w.heap.size w w') : RdE w' v x F := h.agree (.below hb h.lt)
theorem RdE.cells {w : World} {v : Value} {x : En} {F : List Nat} (h : RdE w v x F) : ∃ cs : Array Value, v = .agg cs ∧ cs.size = 10 ∧ cs.all (·.oneCell') = true := by
  obtain ⟨F1, F2, rfl, b, l, c, a1, n1, c1, a2, n2, c2, a3, n3, c3, rfl, _⟩ := h
  exact ⟨_, rfl, rfl, by simp [Value.oneCell']⟩
def It.vast (x : It) : Prop := x.sk.vast
def It.fits (x : It) : Prop := x.sk.fits
def It.wide (x : It) : Prop := x.sk.wide
theorem It.fits.wide {x : It} (h : x.fits) : x.wide := Sk.fits.wide h
def En.vast (x : En) : Prop := x.sk.vast ∧ x.ids.length ≤ 9223372036854775807
def En.fits (x : En) : Prop := x.sk.fits ∧ x.ids.length ≤ 1048576
def En.wide (x : En) : Prop := x.sk.wide ∧ x.ids.length ≤ 1048576
theorem En.fits.wide {x : En} (h : x.fits) : x.wide := ⟨h.1.wide, h.2⟩
theorem It.fits_of {x : It} {r left : Int} (h : r = left - x.sk.size) (h0 : 0 ≤ r) (hl : left ≤ 1048576) : x.fits := Sk.fits_of (by omega)
theorem En.fits_of {x : En} {r left : Int} (h : r = left - x.ids.length - x.sk.size ∧ (x.ids.length : Int) ≤ left ∧ x.sk.size ≤ left) (_h0 : 0 ≤ r) (hl : left ≤ 1048576) : x.fits := ⟨Sk.fits_of (by omega), by omega⟩
theorem itSize {cs : Array Value} (h : cs.size = 11) : (Try.prog.info? 49).map (·.size) = some cs.size := by rw [h]; kernel_rfl
theorem litSize {cs : Array Value} (h : cs.size = 11) : (Try.prog.info? 42).map (·.size) = some cs.size := by rw [h]; kernel_rfl
def ItTwo (g : Nat) (cs : Array Value) (k : Nat) (ds : Array Value) (W : World) : Prop := Blk W g cs 42 ∧ Blk W k ds 49
end Go.Proofs.Ytfbfklgjccbplaq
/- What the laws over frames share. No statement of the seat is proved here. -/
namespace Go.Proofs.Ytfbfklgjccbplaq
open Go.RowKit Go.WideShapes Go.ChangeShapes Go.ChangeAt
/-- A frame's value that can be read; F: its blocks. -/
def RdF (w : World) (v : Value) (x : Fr) (F : List Nat) : Prop := ∃ F1 F2, F = F1 ++ F2 ∧ RdFr w v x F1 F2
theorem RdF.agree {w w' : World} {v : Value} {x : Fr} {F : List Nat} (h : RdF w v x F) (ha : Agree w w' F) : RdF w' v x F := by
  obtain ⟨F1, F2, rfl, h⟩ := h
  exact ⟨F1, F2, rfl, h.agree (fun b hb => ha b (List.mem_append_left _ hb)) (fun b hb => ha b (List.mem_append_right _ hb))⟩
theorem RdF.lt {w : World} {v : Value} {x : Fr} {F : List Nat} (h : RdF w v x F) : ∀ b ∈ F, b < w.heap.size := by
  obtain ⟨F1, F2, rfl, h⟩ := h
  exact fun b hb => (List.mem_append.1 hb).elim (h.lt1 b) (h.lt2 b)
theorem RdF.below {w w' : World} {v : Value} {x : Fr} {F : List Nat} (h : RdF w v x F) (hb : Below w.heap.size w w') : RdF w' v x F := h.agree (.below hb h.lt)
theorem RdF.cells {w : World} {v : Value} {x : Fr} {F : List Nat} (h : RdF w v x F) : ∃ cs : Array Value, v = .agg cs ∧ cs.size = 16 ∧ cs.all (·.oneCell') = true := by
  obtain ⟨F1, F2, rfl, b, l, c, a1, n1, c1, a2, n2, c2, a3, n3, c3, rfl, _⟩ := h
  exact ⟨_, rfl, rfl, by simp [Value.oneCell']⟩
def Fr.vast (x : Fr) : Prop := x.item.sk.vast ∧ x.taken.length ≤ 9223372036854775807
def Fr.fits (x : Fr) : Prop := x.item.sk.fits ∧ x.taken.length ≤ 1048576
def Fr.wide (x : Fr) : Prop := x.item.sk.wide ∧ x.taken.length ≤ 1048576
theorem Fr.fits.wide {x : Fr} (h : x.fits) : x.wide := ⟨h.1.wide, h.2⟩
theorem Fr.fits_of {x : Fr} {r left : Int} (h : r = left - x.taken.length - x.item.sk.size ∧ (x.taken.length : Int) ≤ left ∧ x.item.sk.size ≤ left) (_h0 : 0 ≤ r) (hl : left ≤ 1048576) : x.fits := ⟨Sk.fits_of (by omega), by omega⟩
theorem frSize {cs : Array Value} (h : cs.size = 16) : (Try.prog.info? 51).map (·.size) = some cs.size := by rw [h]; kernel_rfl
theorem lfrSize {cs : Array Value} (h : cs.size = 16) : (Try.prog.info? 44).map (·.size) = some cs.size := by rw [h]; kernel_rfl
def FrTwo (g : Nat) (cs : Array Value) (k : Nat) (ds : Array Value) (W : World) : Prop := Blk W g cs 44 ∧ Blk W k ds 51
set_option maxRecDepth 200000 in
theorem toF_any (v : Value) (x : Fr) (F : List Nat) (w : World) (h : RdF w v x F) (hf : x.fits) :
    Calls Try.prog 23 #[v] w fun e w' => ∃ v' G, e = .returned v' ∧ RdF w' v' x G ∧ Own w.heap.size w' G ∧ Below w.heap.size w w' := by
  obtain ⟨F1, F2, rfl, h⟩ := h
  refine (toFrame_any v x F1 F2 w h hf.1 hf.2).mono ?_
  rintro e w' ⟨v', F', G', he, hr, ho, ho', hd, hb⟩
  exact ⟨v', F' ++ G', he, ⟨F', G', rfl, hr⟩, ho.app ho' hd, hb⟩
set_option maxRecDepth 100000 in
theorem open_F {H : Type} {enc : TypeId × Value → H} {W : World} {base : Nat} {v : Value} {d : DataW H} {p : List MemPlace} (hv : Value.okWide Try.prog W .any base 44 v) (h : DataW.Trod enc Try.prog W 0 (fun _ => true) true 44 v d p) :
    ∃ x F, RdF W v x F ∧ x.vast := by
  obtain ⟨x, F, G, h1, h2, h3⟩ := open_frame hv h
  exact ⟨x, F ++ G, ⟨F, G, rfl, h1⟩, h2, h3⟩
set_option maxRecDepth 200000 in
theorem szF_vast (v : Value) (x : Fr) (F : List Nat) (left : Int) (w : World) (h : RdF w v x F) (hw : x.vast) (hl0 : 0 ≤ left) (hl1 : left ≤ 1048576) :
    Calls Try.prog 21 #[v, .int .i64 left] w fun e w' => (∃ r, e = .returned (.int .i64 r) ∧ r ≤ left ∧ (0 ≤ r → r = left - x.taken.length - x.item.sk.size ∧ (x.taken.length : Int) ≤ left ∧ x.item.sk.size ≤ left) ∧ (r < 0 → left < x.taken.length + x.item.sk.size)) ∧ Below w.heap.size w w' := by
  obtain ⟨F1, F2, rfl, h⟩ := h
  exact szFrame_vast v x F1 F2 left w h hw.1 hw.2 hl0 hl1
set_option maxRecDepth 200000 in
theorem eqF_any (v u : Value) (x y : Fr) (F G : List Nat) (w : World) (h : RdF w v x F) (k : RdF w u y G) (hw : x.wide) (kw : y.wide) :
    Calls Try.prog 25 #[v, u] w fun e w' => e = .returned (.bool (decide (x = y))) ∧ Below w.heap.size w w' := by
  obtain ⟨F1, F2, rfl, h⟩ := h
  obtain ⟨G1, G2, rfl, k⟩ := k
  exact eqFrame_any v u x y F1 F2 G1 G2 w h k hw.1 kw.1 (by have := hw.2; omega) (by have := kw.2; omega)
end Go.Proofs.Ytfbfklgjccbplaq
/- Entries and items that are marked; an entry in a variable of the law's own. No statement of the seat is proved here. -/
namespace Go.Proofs.Ytfbfklgjccbplaq
open Go.RowKit
/-- The pairs that a marked set bears. -/
def markP (k : Int) (n : Nat) : Sp := (List.range n).map fun i : Nat => (k + 2 * (i : Int), k + 2 * (i : Int) + 1)
theorem flat_markP (k : Int) (n : Nat) : flat (markP k n) = marksI k (2 * n) := by
  induction n with
  | zero => rfl
  | succ n ih =>
    have e : markP k (n + 1) = markP k n ++ [(k + 2 * (n : Int), k + 2 * (n : Int) + 1)] := by unfold markP; rw [List.range_succ, List.map_append]; rfl
    rw [e, flat_append, ih, show 2 * (n + 1) = 2 * n + 1 + 1 by omega, marksI, marksI, List.append_assoc]
    have e1 : k + ((2 * n : Nat) : Int) = k + 2 * (n : Int) := by omega
    have e2 : k + ((2 * n + 1 : Nat) : Int) = k + 2 * (n : Int) + 1 := by omega
    rw [e1, e2]
    rfl
theorem markP_length (k : Int) (n : Nat) : (markP k n).length = n := by unfold markP; simp
def En.many (x : En) : Int := 2 * x.ids.length + x.sk.many
def En.marked (k : Int) (x : En) : En := ⟨x.key, x.window, markP k x.ids.length, x.sk.marked (k + 2 * x.ids.length)⟩
structure MarkedE (B : Nat) (w : World) (v : Value) (k : Int) (x : En) (F : List Nat) (w' : World) : Prop where
  rd : RdE w' v (x.marked k) F
  own : Own B w' F
  only : Only F w w'
theorem Sk.many_nonneg (s : Sk) : 0 ≤ s.many := by
  have := sumLen_nonneg s.rows
  unfold Sk.many
  omega
theorem Sk.size_nonneg (s : Sk) : 0 ≤ s.size := by
  have h0 := sumLen_nonneg s.rows
  unfold Sk.size
  omega
theorem En.fits_sz {x : En} (h : x.ids.length + x.sk.size ≤ 1048576) : x.fits := by
  have := Sk.size_nonneg x.sk
  exact ⟨Sk.fits_of (by omega), by omega⟩
theorem En.many_fits {x : En} (h : x.ids.length + x.sk.size ≤ 1048576) : 0 ≤ x.many ∧ x.many ≤ 4194304 := by
  have h1 := Sk.many_nonneg x.sk
  have h2 : x.sk.many ≤ x.sk.size := by
    have h0 := sumLen_nonneg x.sk.rows
    unfold Sk.size Sk.many
    omega
  unfold En.many
  omega
set_option maxRecDepth 200000 in
set_option maxHeartbeats 1000000 in
theorem markIt_any (B : Nat) (v : Value) (x : It) (F : List Nat) (k : Int) (w : World) (h : RdIt w v x F) (ho : Own B w F) (hw : x.wide) (hk0 : 0 ≤ k) (hk1 : k + x.sk.many ≤ 1000000000000) :
    Calls Try.prog 64 #[v, .int .i64 k] w fun e w' => e = .returned (.int .i64 (k + x.sk.many)) ∧ (∃ y, RdIt w' v y F) ∧ Own B w' F ∧ Only F w w' := by
  obtain ⟨a1, n1, c1, a2, n2, c2, a3, n3, c3, rfl, hr⟩ := h
  have hm0 := Sk.many_nonneg x.sk
  have HM : Hid (k + x.sk.many ≤ 1000000000000 ∧ 0 ≤ x.sk.many) := ⟨hk1, hm0⟩
  have HW : Hid (x.sk.wide) := hw
  have HB : Hid (Below w.heap.size w (w.alloc (.cells #[.int .i64 x.seq, .int .i64 x.cls, .int .i64 x.key, .int .i64 x.window, .int .i64 x.sk.count, .int .i64 x.sk.sum, .int .i64 x.sk.min, .int .i64 x.sk.max, .slice a1 n1 c1, .slice a2 n2 c2, .slice a3 n3 c3] 49)) ∧ Blk (w.alloc (.cells #[.int .i64 x.seq, .int .i64 x.cls, .int .i64 x.key, .int .i64 x.window, .int .i64 x.sk.count, .int .i64 x.sk.sum, .int .i64 x.sk.min, .int .i64 x.sk.max, .slice a1 n1 c1, .slice a2 n2 c2, .slice a3 n3 c3] 49)) w.heap.size #[.int .i64 x.seq, .int .i64 x.cls, .int .i64 x.key, .int .i64 x.window, .int .i64 x.sk.count, .int .i64 x.sk.sum, .int .i64 x.sk.min, .int .i64 x.sk.max, .slice a1 n1 c1, .slice a2 n2 c2, .slice a3 n3 c3] 49) := ⟨(Below.refl _ _).alloc (Nat.le_refl _) _, Blk.made _ _ _⟩
  have HR : Hid (RdSk w (.agg #[.int .i64 x.sk.count, .int .i64 x.sk.sum, .int .i64 x.sk.min, .int .i64 x.sk.max, .slice a1 n1 c1, .slice a2 n2 c2, .slice a3 n3 c3]) x.sk F ∧ Own B w F) := ⟨hr, ho⟩
  clear hr ho hw hk1 hm0
  go_enter Try.func64, Try.ntmps64
  go_wp2_with (first | go_skip | (with_reducible refine stopLoad 29 rfl ?_))
  refine load_cutw 29 w.heap.size 4 7 _ #[.int .i64 x.sk.count, .int .i64 x.sk.sum, .int .i64 x.sk.min, .int .i64 x.sk.max, .slice a1 n1 c1, .slice a2 n2 c2, .slice a3 n3 c3] 49 _ HB.out.2 rfl rfl rfl Try.underlying29 rfl infoSkI (by simp) rfl ?_
  go_wp2_with fail
  refine (markSketch_any B _ x.sk F k _ (HR.out.1.below HB.out.1) (HR.out.2.below HR.out.1.lt HB.out.1) HW.out hk0 HM.out.1).mono ?_
  rintro e w2 ⟨rfl, m2⟩
  have H2 : Hid (RdSk w2 (.agg #[.int .i64 x.sk.count, .int .i64 x.sk.sum, .int .i64 x.sk.min, .int .i64 x.sk.max, .slice a1 n1 c1, .slice a2 n2 c2, .slice a3 n3 c3]) (x.sk.marked k) F ∧ Own B w2 F ∧ Only F w w2) := ⟨m2.rd, m2.own, (Only.of_below HB.out.1).trans m2.only⟩
  clear m2
  obtain ⟨y2, hy2⟩ : ∃ y, y = k + x.sk.many := ⟨_, rfl⟩
  rw [← hy2]
  have HY2 : Hid (y2 = k + x.sk.many) := hy2
  clear hy2
  go_wp2
  go_ret
  exact ⟨ret_int HY2.out, ⟨⟨x.seq, x.cls, x.key, x.window, x.sk.marked k⟩, a1, n1, c1, a2, n2, c2, a3, n3, c3, rfl, H2.out.1⟩, H2.out.2.1, H2.out.2.2⟩
end Go.Proofs.Ytfbfklgjccbplaq
