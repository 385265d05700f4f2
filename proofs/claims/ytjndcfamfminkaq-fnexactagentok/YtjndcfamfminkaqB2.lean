/- Several texts of mine, laid together. No statement of the seat is proved here. -/
import Derived.Test.YtjndcfamfminkaqB1
import Derived.Maps.AppendAt
import Derived.BigRegion
import Derived.Deep.RegionHeld3
import Derived.Laws.StructEq
import Derived.Test.YtjndcfamfminkaqItModel
import Derived.Test.YtjndcfamfminkaqFrModel
import Derived.WalkKit
import Derived.Laws.BitsAllLaws
import Derived.Test.YtjndcfamfminkaqBase
import Derived.Defers
import Derived.Recover
import Derived.Laws.Pointers
import Derived.Lib.SlBytesConst
import Derived.ArgAppend
import Derived.Deep.RegionLawGrows
import Derived.Test.YtjndcfamfminkaqItHelp
import Derived.Test.YtjndcfamfminkaqLstCopy
import Derived.Test.YtjndcfamfminkaqAgData
import Derived.Test.YtjndcfamfminkaqAgOk
import Derived.Test.YtjndcfamfminkaqStop
import Derived.Test.YtjndcfamfminkaqAgVar
/- The walk through the program's laying of spans behind a set that it makes. No statement of the seat is proved here. -/
namespace Go.Proofs.Ytjndcfamfminkaq
open Go.RowKit
theorem lay1_apart {o : Sp} {x : Int × Int} (h : o = [] ∨ (o.at (o.length - 1)).2 + 1 < x.1) : lay1 o x = o ++ [x] := by unfold lay1; rw [if_pos h]
theorem lay1_widen {o : Sp} {x : Int × Int} (h : ¬ (o = [] ∨ (o.at (o.length - 1)).2 + 1 < x.1)) : lay1 o x = o.take (o.length - 1) ++ [((o.at (o.length - 1)).1, max (o.at (o.length - 1)).2 x.2)] := by unfold lay1; rw [if_neg h]
theorem lay_drop {o xs : Sp} {k : Nat} (hk : k < xs.length) : lay o (xs.drop k) = lay (lay1 o (xs.at k)) (xs.drop (k + 1)) := by rw [drop_at hk]; rfl
theorem lay1_inb {o : Sp} {x : Int × Int} (h : ∀ p ∈ o, InB p) (hx : InB x) : ∀ p ∈ lay1 o x, InB p := by
  intro p hp
  unfold lay1 at hp
  split at hp
  · rcases List.mem_append.1 hp with hp | hp
    · exact h p hp
    · obtain rfl : p = x := by simpa using hp
      exact hx
  · rename_i hc
    rcases List.mem_append.1 hp with hp | hp
    · exact h p (List.mem_of_mem_take hp)
    · have e : p = ((o.at (o.length - 1)).1, max (o.at (o.length - 1)).2 x.2) := by simpa using hp
      have hne : 0 < o.length := List.length_pos_iff.2 (fun e => hc (.inl e))
      have := h _ (Sp.at_mem (ps := o) (k := o.length - 1) (by omega))
      subst e
      unfold InB at this hx ⊢
      simp only
      omega
theorem lay1_length (o : Sp) (x : Int × Int) : (lay1 o x).length ≤ o.length + 1 := by
  unfold lay1
  split
  · simp
  · simp
theorem lay_length : ∀ (xs o : Sp), (lay o xs).length ≤ o.length + xs.length
  | [], o => by simp [lay]
  | x :: xs, o => by
    have h1 := lay_length xs (lay1 o x)
    have h2 := lay1_length o x
    rw [show lay o (x :: xs) = lay (lay1 o x) xs from rfl]
    simp
    omega
theorem lay_inb : ∀ {xs o : Sp}, (∀ p ∈ o, InB p) → (∀ p ∈ xs, InB p) → ∀ p ∈ lay o xs, InB p
  | [], _, h, _ => h
  | x :: xs, o, h, hx => lay_inb (xs := xs) (lay1_inb h (hx x (by simp))) (fun p hp => hx p (by simp [hp]))
theorem flat_widen {o : Sp} {m : Nat} (hm : o.length = m + 1) (z : Int) : flat (o.take m ++ [((o.at m).1, z)]) = (flat o).set (m * 2 + 1) z := by
  have e : o = o.take m ++ [o.at m] := by
    have := takeP_succ o m (by omega)
    rw [List.take_of_length_le (by omega)] at this
    exact this
  have hl : (flat (o.take m)).length = m * 2 := by rw [flat_length]; simp; omega
  conv => rhs; rw [e]
  rw [flat_append, flat_append, List.set_append_right (m * 2 + 1) _ (by omega), hl, show m * 2 + 1 - m * 2 = 1 by omega]
  simp [flat]
/-- The set that is made: what it holds, and that nothing else was written since w. -/
structure LayAt (w : World) (B : Nat) (v0 v : Value) (o : Sp) (W : World) : Prop where
  own : W.ownsRow B 103 2 v o.length ((flat o).map (Value.int .i64))
  grown : w.grownBy W v0.ownBlock
  fresh : v.ownBlock = v0.ownBlock ∨ ∀ g, v.ownBlock = some g → w.heap.size ≤ g
theorem LayAt.alloc {w W : World} {B : Nat} {v0 v : Value} {o : Sp} (h : LayAt w B v0 v o W) (ob : Obj) : LayAt w B v0 v o (W.alloc ob) :=
  ⟨h.own.alloc _, ⟨h.grown.os, h.grown.tape, h.grown.output, by have := h.grown.size; simp; omega, fun k hk hne => (Below.heap_alloc W ob k (by have := h.grown.size; omega)).trans (h.grown.block k hk hne)⟩, h.fresh⟩
theorem LayAt.drewN {w W : World} {B : Nat} {v0 v : Value} {o : Sp} (h : LayAt w B v0 v o W) (m : Nat) : LayAt w B v0 v o (W.drewN m) :=
  ⟨⟨h.own.1, h.own.2⟩, ⟨h.grown.os, h.grown.tape, h.grown.output, h.grown.size, h.grown.block⟩, h.fresh⟩
theorem LayAt.app {w W W6 : World} {B : Nat} {v0 v v' : Value} {o : Sp} {p q : Int} {ob : Obj} (h : LayAt w B v0 v o W) (hown : W6.ownsRow B 103 2 v' (o.length + 1) ((flat o).map (Value.int .i64) ++ [.int .i64 p, .int .i64 q])) (hgrow : (W.alloc ob).grownBy W6 v.ownBlock) (hob : v'.ownBlock = v.ownBlock ∨ v'.ownBlock = some (W.alloc ob).heap.size) : LayAt w B v0 v' (o ++ [(p, q)]) W6 := by
  have ha := h.alloc ob
  refine ⟨?_, ⟨hgrow.os.trans ha.grown.os, hgrow.tape.trans ha.grown.tape, hgrow.output.trans ha.grown.output, Nat.le_trans ha.grown.size hgrow.size, fun k hk hne => ?_⟩, ?_⟩
  · rw [flat_append, List.map_append, List.length_append]
    exact hown
  · refine (hgrow.block k (Nat.lt_of_lt_of_le hk ha.grown.size) (fun e => ?_)).trans (ha.grown.block k hk hne)
    rcases h.fresh with f | f
    · exact hne (e.trans f)
    · have := f k e.symm; omega
  · rcases hob with e | e
    · rw [e]; exact h.fresh
    · right
      intro g hg
      rw [e] at hg
      cases hg
      exact ha.grown.size
theorem LayAt.widen {w W : World} {B g n cap m : Nat} {v0 : Value} {o : Sp} (h : LayAt w B v0 (.slice (some ⟨g, 0, none⟩) n cap) o W) (hm : o.length = m + 1) (z : Int) : LayAt w B v0 (.slice (some ⟨g, 0, none⟩) n cap) (o.take m ++ [((o.at m).1, z)]) (W.setCell ⟨g, m * 2 + 1, none⟩ (.int .i64 z)) := by
  refine ⟨?_, ⟨h.grown.os, h.grown.tape, h.grown.output, by have := h.grown.size; simp; omega, fun k hk hne => ?_⟩, h.fresh⟩
  · have hl : (o.take m ++ [((o.at m).1, z)]).length = o.length := by simp; omega
    rw [hl, flat_widen hm]
    refine ⟨by have := h.own.1; simpa using this, ?_⟩
    rcases h.own.2 with ⟨e, _⟩ | ⟨g', cap', cur, e, h2, h3, h4, h5, h6, h7⟩
    · cases e
    · cases e
      refine .inr ⟨g, cap, cur.setIfInBounds (m * 2 + 1) (.int .i64 z), rfl, h2, ?_, h4, h5, by simpa using h6, ?_⟩
      · exact Blk.set (w := W) (g := g) (cs := cur) h3 (m * 2 + 1) _
      · rw [Array.toList_setIfInBounds, List.take_set, h7]
        simp
  · have hg : k ≠ g := by
      rintro rfl
      rcases h.fresh with f | f
      · exact hne f
      · have := f k rfl; omega
    exact (Below.heap_setCell W ⟨g, m * 2 + 1, none⟩ _ k hg).trans (h.grown.block k hk hne)
theorem LayAt.cells {w W : World} {B g n cap : Nat} {v0 : Value} {o : Sp} (h : LayAt w B v0 (.slice (some ⟨g, 0, none⟩) n cap) o W) {m : Nat} (hm : m < o.length) : W.cell? ⟨g, m * 2, none⟩ = some (.int .i64 (o.at m).1) ∧ W.cell? ⟨g, m * 2 + 1, none⟩ = some (.int .i64 (o.at m).2) ∧ ∀ j, W.frozen? ⟨g, j, none⟩ = false := by
  have hn : o.length = n := by
    rcases h.own.2 with ⟨e, _⟩ | ⟨g', cap', cur, e, _⟩
    · cases e
    · cases e; rfl
  have own := h.own
  rw [hn] at own
  have hl := flat_length o
  have e1 := own.cellAt (m * 2) (by omega)
  have e2 := own.cellAt (m * 2 + 1) (by omega)
  refine ⟨?_, ?_, fun j => own.frozenAt j⟩
  · rw [e1]
    have := flat_lo o m
    rw [show 2 * m = m * 2 by omega, List.getElem?_eq_getElem (by omega)] at this
    simp only [List.getElem?_map, List.getElem?_eq_getElem (show m * 2 < (flat o).length by omega), Option.map_some]
    unfold Sp.at
    rw [← this]; rfl
  · rw [e2]
    have := flat_hi o m
    rw [show 2 * m = m * 2 by omega, List.getElem?_eq_getElem (by omega)] at this
    simp only [List.getElem?_map, List.getElem?_eq_getElem (show m * 2 + 1 < (flat o).length by omega), Option.map_some]
    unfold Sp.at
    rw [← this]; rfl
end Go.Proofs.Ytjndcfamfminkaq
/- The walk through the program's laying of spans behind a set that it makes. No statement of the seat is proved here. -/
namespace Go.Proofs.Ytjndcfamfminkaq
open Go.RowKit
/-- A set of the maker's own: not nil. -/
theorem own_cases {W : World} {B e n : Nat} {v : Value} {xs : List Value} (h : W.ownsRow B e 2 v n xs) : (v = .slice none 0 0 ∧ n = 0) ∨ ∃ g cap n', v = .slice (some ⟨g, 0, none⟩) n' cap ∧ n' = n ∧ n ≤ cap := by
  rcases h.2 with e | ⟨g, cap, cur, e, _, _, h4, _⟩
  · exact .inl e
  · exact .inr ⟨g, cap, n, e, rfl, h4⟩
end Go.Proofs.Ytjndcfamfminkaq
/- The walks through the program's cutting of a set, and its going through two sets. No statement of the seat is proved here. -/
namespace Go.Proofs.Ytjndcfamfminkaq
open Go.RowKit
theorem flat_take : ∀ (ps : Sp) (k : Nat), flat (ps.take k) = (flat ps).take (2 * k)
  | [], k => by simp [flat]
  | p :: ps, 0 => by simp [flat]
  | p :: ps, k + 1 => by rw [List.take_succ_cons, flat, flat, flat_take ps k, show 2 * (k + 1) = 2 * k + 1 + 1 by omega, List.take_succ_cons, List.take_succ_cons]
theorem flat_drop : ∀ (ps : Sp) (k : Nat), flat (ps.drop k) = (flat ps).drop (2 * k)
  | [], k => by simp [flat]
  | p :: ps, 0 => by simp [flat]
  | p :: ps, k + 1 => by rw [List.drop_succ_cons, flat, flat_drop ps k, show 2 * (k + 1) = 2 * k + 1 + 1 by omega, List.drop_succ_cons, List.drop_succ_cons]
theorem RdP.take {w : World} {a : Option Addr} {len : Nat} {ps : Sp} {F : List Nat} (h : RdP w a len ps F) {k : Nat} (hk : k ≤ len) : ∃ G, RdP w a k (ps.take k) G ∧ ∀ b ∈ G, b ∈ F := by
  have hl := h.length
  by_cases h0 : k = 0
  · subst h0
    exact ⟨[], by simpa using (RdP.nil (w := w) (a := a)), by simp⟩
  · rcases h.rd.cells with ⟨e, _⟩ | ⟨b, off, hp, e, eF, hc⟩
    · omega
    · refine ⟨F, ⟨by simp; omega, ?_, .inr ⟨b, off, by omega, e, eF, fun i hi => ?_⟩⟩, fun b hb => hb⟩
      · rw [flat_length]; simp; omega
      · rw [hc i (by omega), flat_take]
        simp [List.getD_eq_getElem?_getD, hi]
theorem RdP.drop {w : World} {b off len : Nat} {ps : Sp} {F : List Nat} (h : RdP w (some ⟨b, off, none⟩) len ps F) {k : Nat} (hk : k < len) : RdP w (some ⟨b, off + k * 2, none⟩) (len - k) (ps.drop k) F := by
  have hl := h.length
  rcases h.rd.cells with ⟨e, _⟩ | ⟨b', off', hp, e, eF, hc⟩
  · omega
  · obtain ⟨rfl, rfl⟩ : b = b' ∧ off = off' := by simpa using e
    refine ⟨by simp; omega, ?_, .inr ⟨b, off + k * 2, by omega, rfl, eF, fun i hi => ?_⟩⟩
    · rw [flat_length]; simp; omega
    · rw [show off + k * 2 + i = off + (2 * k + i) by omega, hc (2 * k + i) (by omega), flat_drop]
      simp [List.getD_eq_getElem?_getD]
theorem cutN_at {ps : Sp} {k : Nat} {n : Int} (hk : k < ps.length) (h : (ps.at k).1 ≤ n) : cutN (ps.drop k) n = cutN (ps.drop (k + 1)) n + 1 := by rw [drop_at hk, cutN, if_pos h]
theorem cutN_stop {ps : Sp} {k : Nat} {n : Int} (hk : k < ps.length) (h : ¬ (ps.at k).1 ≤ n) : cutN (ps.drop k) n = 0 := by rw [drop_at hk, cutN, if_neg h]
/-- What a cut tells: the part ahead, the part behind, both out of what was there. -/
def CutTo (w : World) (ps : Sp) (F : List Nat) (k : Nat) (e : Ending) (w' : World) : Prop :=
  ∃ a1 l1 c1 a2 l2 c2 F1 F2, e = .returned (.tuple #[.slice a1 l1 c1, .slice a2 l2 c2]) ∧ RdP w a1 l1 (ps.take k) F1 ∧ RdP w a2 l2 (ps.drop k) F2 ∧ (∀ b ∈ F1, b ∈ F) ∧ (∀ b ∈ F2, b ∈ F) ∧ l2 ≤ c2 ∧ QuietTo w w'
end Go.Proofs.Ytjndcfamfminkaq
/- The walk through the program's going through two sets. No statement of the seat is proved here. -/
namespace Go.Proofs.Ytjndcfamfminkaq
open Go.RowKit
theorem RdP.move {w W : World} {B : Nat} {a : Option Addr} {len : Nat} {ps : Sp} {F : List Nat} (h : RdP w a len ps F) (hF : ∀ b ∈ F, b < B) (h1 : Below B w W) : RdP W a len ps F := h.agree (fun b hb => h1.block b (hF b hb))
theorem RdP.back {w W : World} {B : Nat} {a : Option Addr} {len : Nat} {ps : Sp} {F : List Nat} (h : RdP W a len ps F) (hF : ∀ b ∈ F, b < B) (h1 : Below B w W) : RdP w a len ps F := h.agree (fun b hb => (h1.block b (hF b hb)).symm)
theorem LayAt.below {w W : World} {B n : Nat} {v0 v : Value} {o : Sp} {xs : List Value} (h : LayAt w B v0 v o W) (h0 : w.ownsRow B 103 2 v0 n xs) (hB : B ≤ w.heap.size) : Below B w W :=
  ⟨h.grown.os, h.grown.tape, h.grown.output, h.grown.size, fun k hk => h.grown.block k (by omega) (fun e => by have := (h0.lt k e.symm).1; omega)⟩
/-- Midway in a round: the set that is made, the span's box. -/
structure MidB (w : World) (nb : Nat) (x y : Int) (v : Value) (o : Sp) (W : World) : Prop where
  own : W.ownsRow w.heap.size 103 2 v o.length ((flat o).map (Value.int .i64))
  bel : Below w.heap.size w W
  box : Blk W nb #[.int .i64 x, .int .i64 y] 103
  ne : some nb ≠ v.ownBlock
theorem MidB.alloc {w : World} {nb : Nat} {x y : Int} {v : Value} {o : Sp} {W : World} (h : MidB w nb x y v o W) (ob : Obj) : MidB w nb x y v o (W.alloc ob) := ⟨h.own.alloc _, Below.allocW _ h.bel (Nat.le_refl _), h.box.alloc _, h.ne⟩
theorem MidB.drew {w : World} {nb : Nat} {x y : Int} {v : Value} {o : Sp} {W : World} (h : MidB w nb x y v o W) : MidB w nb x y v o W.drew := ⟨⟨h.own.1, h.own.2⟩, h.bel.drew, h.box, h.ne⟩
/-- Behind the first laying: what lay beside lies there still. -/
structure AftB (w : World) (nb : Nat) (x y : Int) (v v' : Value) (o' : Sp) (W W' : World) : Prop where
  mid : MidB w nb x y v' o' W'
  old : ∀ g cs t, Blk W g cs t → some g ≠ v.ownBlock → Blk W' g cs t ∧ some g ≠ v'.ownBlock
theorem AftB.of {w : World} {nb : Nat} {x y : Int} {v v' : Value} {o o' : Sp} {W W' : World} (h : MidB w nb x y v o W) (k : LayAt W w.heap.size v v' o' W') : AftB w nb x y v v' o' W W' := by
  have hold : ∀ g cs t, Blk W g cs t → some g ≠ v.ownBlock → Blk W' g cs t ∧ some g ≠ v'.ownBlock := fun g cs t hb hne => by
    refine ⟨hb.agree (k.grown.block g hb.lt hne), ?_⟩
    rcases k.fresh with e | e
    · rw [e]; exact hne
    · intro e2; have := e g e2.symm; have := hb.lt; omega
  obtain ⟨h1, h2⟩ := hold _ _ _ h.box h.ne
  exact ⟨⟨k.own, h.bel.trans (k.below h.own h.bel.size), h1, h2⟩, hold⟩
/-- Ahead of the second laying: the one span's slice. -/
structure TwoB (w : World) (nb : Nat) (x y : Int) (v' : Value) (o' : Sp) (g : Nat) (W : World) : Prop where
  mid : MidB w nb x y v' o' W
  one : Blk W g #[.int .i64 x, .int .i64 y] 103
  ne : some g ≠ v'.ownBlock
theorem AftB.two {w : World} {nb : Nat} {x y : Int} {v v' : Value} {o o' : Sp} {W W' : World} (h : AftB w nb x y v v' o' (W.alloc (.cells #[.int .i64 x, .int .i64 y] 103)).drew W') (k : MidB w nb x y v o W) : TwoB w nb x y v' o' W.heap.size W' := by
  obtain ⟨h1, h2⟩ := h.old _ _ _ (Blk.made W _ _) (fun e => by have := (k.own.lt _ e.symm).2; omega)
  exact ⟨h.mid, h1, h2⟩
theorem AftB.new {w : World} {nb : Nat} {x y : Int} {v v' : Value} {o' : Sp} {W W' : World} (h : AftB w nb x y v v' o' W W') : TwoB w nb x y v' o' W'.heap.size (W'.alloc (.cells #[.int .i64 x, .int .i64 y] 103)) :=
  ⟨h.mid.alloc _, Blk.made _ _ _, fun e => by have := (h.mid.own.lt _ e.symm).2; omega⟩
theorem rdP_one {W : World} {g : Nat} {x y : Int} {t : TypeId} (h : Blk W g #[.int .i64 x, .int .i64 y] t) : RdP W (some ⟨g, 0, none⟩) 1 [(x, y)] [g] :=
  ⟨rfl, rdI_tcv (xs := flat [(x, y)]) (by simpa [tcv, flat] using h) (by simp [flat]) (by omega)⟩
/-- Ahead of a round. -/
structure BInv (w : World) (ps qs : Sp) (k : Nat) (o rs : Sp) (aa : Option Addr) (la ca : Nat) (F : List Nat) (v : Value) (wr : World) : Prop where
  own : wr.ownsRow w.heap.size 103 2 v o.length ((flat o).map (Value.int .i64))
  bel : Below w.heap.size w wr
  rd : RdP w aa la rs F
  lt : ∀ b ∈ F, b < w.heap.size
  cap : la ≤ ca
  len : o.length + rs.length ≤ ps.length + k
  ino : ∀ p ∈ o, InB p
  ina : ∀ p ∈ rs, InB p
  eq : both rs (qs.drop k) o = both ps qs []
end Go.Proofs.Ytjndcfamfminkaq
/- The walks through the program's copying of a set, and the library's comparing of two. No statement of the seat is proved here. -/
namespace Go.Proofs.Ytjndcfamfminkaq
open Go.RowKit
theorem run_copy_row2 {P : Program} (w : World) (dT sT ty elem : TypeId) (g len dCap : Nat) (a : Addr) (sCap : Nat) (cur : Array Value) (t : TypeId) (cs : List Value)
    (hu : P.underlying dT = some (.slice elem)) (hs : (P.info? elem).map (·.size) = some 2)
    (hg : w.heap[g]? = some (.cells cur t (0, 0))) (hn : cs.length = len * 2)
    (hsrc : ∀ j v, cs[j]? = some v → w.cell? (a.add j) = some v) (hfit : cs.length ≤ cur.size) (h1 : ∀ v ∈ cs, v.oneCell' = true) :
    (Builtin.copy_ #[dT, sT] ty #[.slice (some ⟨g, 0, none⟩) len dCap, .slice (some a) len sCap]).run P w =
      .ok (goInt len) (w.setRow g (cs ++ cur.toList.drop cs.length).toArray) := by
  have hl := run_loadCells_list (P := P) w a cs hsrc
  have hst := run_storeCells_at P g 0 t cs 0 cur w hg (by simpa using hfit) h1
  rw [hn] at hl
  cases hq : P.info? elem with
  | none => simp [hq] at hs
  | some i =>
    have hi : i.size = 2 := by simpa [hq] using hs
    simp [Builtin.copy_, run_underlying hu, Builtin.lenOf, Builtin.firstCells, sizeOf, typeInfo, hq, hi, hl, hst]
theorem run_copy_none2 {P : Program} (w : World) (dT sT ty elem : TypeId) (d a : Option Addr) (dCap sCap : Nat) (hu : P.underlying dT = some (.slice elem)) (hs : (P.info? elem).map (·.size) = some 2) :
    (Builtin.copy_ #[dT, sT] ty #[.slice d 0 dCap, .slice a 0 sCap]).run P w = .ok (goInt 0) w := by
  cases hq : P.info? elem with
  | none => simp [hq] at hs
  | some i =>
    have hl : ∀ (x : Addr), (loadCells x 0).run P w = .ok #[] w := fun x => by simpa using run_loadCells_list (P := P) w x [] (by simp)
    cases d <;> cases a <;> simp [Builtin.copy_, run_underlying hu, Builtin.lenOf, Builtin.firstCells, sizeOf, typeInfo, hq, storeCells, hl]
theorem wpList_copy_none2 {P : Program} {w : World} {ops : Array Oper} {rest : List Oper} {o : Oper} {a : Act} {Q : Exit → Act → World → Prop} (hgd : o.guard = none) (d s : Operand) (dT sT : TypeId)
    (ho : o.op = .call { callee := .builtin .copy, args := #[d, s], argTypes := #[dT, sT] }) (elem : TypeId) (hu : P.underlying dT = some (.slice elem)) (hsz : (P.info? elem).map (·.size) = some 2)
    (dp sp : Option Addr) (dCap sCap : Nat) (hd : a.eval d = .slice dp 0 dCap) (hs : a.eval s = .slice sp 0 sCap)
    (h : wpList P ops Q rest (a.put o.dst (goInt 0)) w) : wpList P ops Q (o :: rest) a w := by
  refine wpList_plain hgd fun K hK => ?_
  have hrun := run_copy_none2 (P := P) w dT sT o.type elem dp sp dCap sCap hu hsz
  unfold Oper.wp
  simp [execOp, ho, resolve, invoke, builtin, hd, hs, hrun, Result.andThen]
  exact hK _ _ h
theorem wpList_copy_own2 {P : Program} {w : World} {ops : Array Oper} {rest : List Oper} {o : Oper} {a : Act} {Q : Exit → Act → World → Prop} (hgd : o.guard = none) (d s : Operand) (dT sT : TypeId)
    (ho : o.op = .call { callee := .builtin .copy, args := #[d, s], argTypes := #[dT, sT] }) (elem : TypeId) (hu : P.underlying dT = some (.slice elem)) (hsz : (P.info? elem).map (·.size) = some 2)
    (g len dCap : Nat) (ad : Addr) (sCap : Nat) (hd : a.eval d = .slice (some ⟨g, 0, none⟩) len dCap) (hs : a.eval s = .slice (some ad) len sCap)
    (cur : Array Value) (t : TypeId) (hg : w.heap[g]? = some (.cells cur t (0, 0))) (cs : List Value) (hn : cs.length = len * 2)
    (hsrc : ∀ j v, cs[j]? = some v → w.cell? (ad.add j) = some v) (hfit : cs.length ≤ cur.size) (h1 : ∀ v ∈ cs, v.oneCell' = true)
    (h : wpList P ops Q rest (a.put o.dst (goInt len)) (w.setRow g (cs ++ cur.toList.drop cs.length).toArray)) : wpList P ops Q (o :: rest) a w := by
  refine wpList_plain hgd fun K hK => ?_
  have hrun := run_copy_row2 (P := P) w dT sT o.type elem g len dCap ad sCap cur t cs hu hsz hg hn hsrc hfit h1
  unfold Oper.wp
  simp [execOp, ho, resolve, invoke, builtin, hd, hs, hrun, Result.andThen]
  exact hK _ _ h
theorem infoSpan2 : (Try.prog.info? 103).map (·.size) = some 2 := by kernel_rfl
theorem flat_one {ps : Sp} : ∀ v ∈ (flat ps).map (Value.int .i64), v.oneCell' = true := by
  intro v hv
  obtain ⟨x, _, rfl⟩ := List.mem_map.1 hv
  rfl
theorem sp_eta (p : Int × Int) : p = (p.1, p.2) := rfl
set_option maxRecDepth 200000 in
set_option maxHeartbeats 2000000 in
theorem slEqualP_any (a b : Option Addr) (la lb ca cb : Nat) (xs ys : Sp) (F G : List Nat) (w : World) (ha : RdP w a la xs F) (hb : RdP w b lb ys G) (hla : la ≤ 140737488355328) (hlb : lb ≤ 140737488355328) :
    Calls Try.prog 78 #[.slice a la ca, .slice b lb cb] w fun e w' => e = .returned (.bool (decide (xs = ys))) ∧ QuietTo w w' := by
  have Hx : Hid (xs.length = la) := ha.length
  have Hy : Hid (ys.length = lb) := hb.length
  by_cases hl : la = lb
  · subst hl
    have hbne : ((la : Int) != (la : Int)) = false := by simp
    have HCA : Hid (la = 0 ∨ ∃ b1 o1, a = some ⟨b1, o1, none⟩ ∧ b1 < w.heap.size ∧ SpCells w b1 o1 la xs) := cells_of ha
    have HCB : Hid (la = 0 ∨ ∃ b1 o1, b = some ⟨b1, o1, none⟩ ∧ b1 < w.heap.size ∧ SpCells w b1 o1 la ys) := cells_of hb
    clear ha hb
    go_enter Try.func78, Try.ntmps78
    go_wp2
    go_loopw [13] (fun i wr => ∃ k : Nat, k ≤ la ∧ i = .int .i64 k ∧ Hid (xs.take k = ys.take k) ∧ Hid (QuietTo w wr)) (fun i _ => la - (intOf i).toNat)
    case atStart => exact ⟨0, by omega, rfl, rfl, QuietTo.refl _⟩
    case round =>
      obtain ⟨k, hk, rfl, HT, HQ⟩ := hrel
      by_cases hlt : k < la
      · rcases HCA.out with h0 | ⟨b1, o1, rfl, hbw1, hc1⟩
        · omega
        rcases HCB.out with h0 | ⟨b2, o2, rfl, hbw2, hc2⟩
        · omega
        obtain ⟨x, hx⟩ : ∃ x, x = (xs.at k).1 := ⟨_, rfl⟩
        obtain ⟨y, hy⟩ : ∃ x, x = (xs.at k).2 := ⟨_, rfl⟩
        obtain ⟨x', hx'⟩ : ∃ x, x = (ys.at k).1 := ⟨_, rfl⟩
        obtain ⟨y', hy'⟩ : ∃ x, x = (ys.at k).2 := ⟨_, rfl⟩
        have e1 := hc1 k hlt
        have e2 := hc2 k hlt
        rw [← hx, ← hy] at e1
        rw [← hx', ← hy'] at e2
        have d1 : wr.cell? ⟨b1, o1 + k * 2, none⟩ = some (.int .i64 x) := (HQ.out.cell _).trans e1.1
        have d2 : wr.cell? ⟨b1, o1 + k * 2 + 1, none⟩ = some (.int .i64 y) := (HQ.out.cell _).trans e1.2
        have d3 : wr.cell? ⟨b2, o2 + k * 2, none⟩ = some (.int .i64 x') := (HQ.out.cell _).trans e2.1
        have d4 : wr.cell? ⟨b2, o2 + k * 2 + 1, none⟩ = some (.int .i64 y') := (HQ.out.cell _).trans e2.2
        have HE : Hid ((x = x' ∧ y = y') ↔ xs[k]?.getD (0, 0) = ys[k]?.getD (0, 0)) := by rw [hx, hy, hx', hy']; exact Prod.ext_iff.symm
        have hI : (k : Int) < (la : Int) := by omega
        clear e1 e2 hx hy hx' hy' hc1 hc2
        by_cases c : x = x' ∧ y = y'
        · have e1 : (x == x') = true := by simp [c.1]
          have e2 : (y == y') = true := by simp [c.2]
          have HT2 : Hid (xs.take (k + 1) = ys.take (k + 1)) := eqP_step (by rw [Hx.out, Hy.out]) (by rw [Hx.out]; exact hlt) HT.out (HE.out.1 c)
          clear c
          go_wp2
          go_quiet (fail)
          go_wp2
          go_roundw
          case rel => exact ⟨k + 1, by omega, by go_num, HT2, HQ.out.drewN _⟩
          case measure => simp [intOf]; omega
        have HV : Hid (decide (xs = ys) = false) := neP_of_at (fun e => c (HE.out.2 e))
        by_cases c1 : x = x'
        · have e1 : (x == x') = true := by simp [c1]
          have e2 : (y == y') = false := by simpa using (fun e => c ⟨c1, e⟩)
          clear c c1
          go_wp2
          go_quiet (fail)
          go_wp2
          go_ret
          exact ⟨ret_bool HV.out.symm, HQ.out.drewN _⟩
        · have e1 : (x == x') = false := by simpa using c1
          clear c c1
          go_wp2
          go_quiet (fail)
          go_wp2
          go_ret
          exact ⟨ret_bool HV.out.symm, HQ.out.drewN _⟩
      · obtain rfl : k = la := by omega
        go_wp2
        go_ret
        exact ⟨ret_bool (eqP_end Hx.out Hy.out HT.out).symm, HQ.out⟩
  · have hbne : ((la : Int) != (lb : Int)) = true := by simp; omega
    have e : decide (xs = ys) = false := by
      rw [decide_eq_false_iff_not]; intro e; subst e; exact hl (Hx.out.symm.trans Hy.out)
    clear ha hb
    go_enter Try.func78, Try.ntmps78
    go_wp2
    go_ret
    exact ⟨ret_bool e.symm, QuietTo.refl _⟩
end Go.Proofs.Ytjndcfamfminkaq
/- The walks through the program's SketchOk. No statement of the seat is proved here. -/
namespace Go.Proofs.Ytjndcfamfminkaq
open Go.RowKit
set_option maxRecDepth 200000 in
set_option maxHeartbeats 1000000 in
theorem okImpl_any (v : Value) (s : Sk) (F : List Nat) (w : World) (h : RdSk w v s F) (hw : s.wide) :
    Calls Try.prog 99 #[v] w fun e w' => e = .returned (.bool s.ok) ∧ Below w.heap.size w w' := by
  have HH : Hid (RdSk w v s F ∧ s.wide) := ⟨h, hw⟩
  obtain ⟨a1, n1, c1, a2, n2, c2, a3, n3, c3, F1, F2, F3, rfl, h1, h2, h3, _⟩ := h
  clear h1 h2 h3 hw
  have HT : Hid (Below w.heap.size w (w.alloc (.cells #[.int .i64 s.count, .int .i64 s.sum, .int .i64 s.min, .int .i64 s.max, .slice a1 n1 c1, .slice a2 n2 c2, .slice a3 n3 c3] 29))) := (Below.refl _ _).alloc (Nat.le_refl _) _
  go_enter Try.func99, Try.ntmps99
  go_wp2_with fail
  refine (okTally_any _ s F _ (HH.out.1.below HT.out) HH.out.2).mono ?_
  rintro e w1 ⟨xs, ys, rfl, _, hy, hx, _, hb1⟩
  have HB : Hid (ys.length = 28 ∧ okT s xs = s.ok ∧ Below w.heap.size w w1) := ⟨hy, okT_ok hx, Below.next HT.out hb1⟩
  clear hb1 hy hx
  go_wp2_with (with_reducible refine stopStore 81 rfl ?_)
  refine store_fresh 81 w1.heap.size rfl (tc (List.replicate 28 0)) (tc ys) 81 rfl rfl rfl rfl (tallySize HB.out.1) (by rw [tc_size, tc_size, HB.out.1]; rfl) (tc_one _) ?_
  intro W2 _ hb2
  have HB2 : Hid (Below w.heap.size w W2) := Below.next HB.out.2.2 hb2
  clear hb2
  go_wp2
  go_ret
  exact ⟨ret_bool HB.out.2.1, HB2.out⟩
end Go.Proofs.Ytjndcfamfminkaq
/- The walks through the program's IdOf, ItemOk and the reading of an entry. No statement of the seat is proved here. -/
namespace Go.Proofs.Ytjndcfamfminkaq
open Go.RowKit
set_option maxRecDepth 200000 in
theorem isSeq_any (n : Int) (w : World) : Calls Try.prog 126 #[.int .i64 n] w fun e w' => e = .returned (.bool (decide (1 ≤ n ∧ n ≤ 60))) ∧ w' = w := by
  have hd : ∀ d : Bool, d = decide (1 ≤ n ∧ n ≤ 60) → (d = true ↔ 1 ≤ n ∧ n ≤ 60) := by rintro d rfl; simp
  generalize decide (1 ≤ n ∧ n ≤ 60) = d at *
  have hd := hd d rfl
  by_cases h : 1 ≤ n
  · by_cases h2 : n ≤ 60
    · have e : Hid (d = true) := hd.2 ⟨h, h2⟩
      clear hd
      go_enter Try.func126, Try.ntmps126
      go_wp2
      go_ret
      rw [e.out]; exact ⟨rfl, rfl⟩
    · have e : Hid (d = false) := show d = false by cases d; rfl; exact absurd (hd.1 rfl).2 h2
      clear hd
      go_enter Try.func126, Try.ntmps126
      go_wp2
      go_ret
      rw [e.out]; exact ⟨rfl, rfl⟩
  · have e : Hid (d = false) := show d = false by cases d; rfl; exact absurd (hd.1 rfl).1 h
    clear hd
    go_enter Try.func126, Try.ntmps126
    go_wp2
    go_ret
    rw [e.out]; exact ⟨rfl, rfl⟩
set_option maxRecDepth 200000 in
theorem isPlace_any (k p : Int) (w : World) : Calls Try.prog 127 #[.agg #[.int .i64 k, .int .i64 p]] w fun e w' => e = .returned (.bool (placeOk k p)) ∧ Below w.heap.size w w' := by
  have HB : Hid (Below w.heap.size w (w.alloc (.cells #[.int .i64 k, .int .i64 p] 142))) := (Below.refl _ _).alloc (Nat.le_refl _) _
  go_enter Try.func127, Try.ntmps127
  go_wp2_with fail
  refine (inRange_any _ _ _).mono ?_
  rintro e w2 ⟨rfl, hw2⟩
  have hw2' := hw2.symm
  subst hw2'
  clear hw2
  obtain ⟨d1, hd1⟩ : ∃ d, d = decide (0 ≤ k ∧ k ≤ 4) := ⟨_, rfl⟩
  rw [← hd1]
  have HD1 : Hid (d1 = decide (0 ≤ k ∧ k ≤ 4)) := hd1
  clear hd1
  cases d1
  · have HV : Hid (placeOk k p = false) := by show _ = _; unfold placeOk; rw [← HD1.out]; rfl
    go_wp2
    go_ret
    exact ⟨ret_bool HV.out.symm, HB.out⟩
  go_wp2_with fail
  refine (inRange_any _ _ _).mono ?_
  rintro e w2 ⟨rfl, hw2⟩
  have hw2' := hw2.symm
  subst hw2'
  clear hw2
  obtain ⟨d2, hd2⟩ : ∃ d, d = decide (0 ≤ p ∧ p ≤ 20) := ⟨_, rfl⟩
  rw [← hd2]
  have HV : Hid (d2 = placeOk k p) := by show _ = _; unfold placeOk; rw [← HD1.out, ← hd2]; rfl
  clear hd2
  go_wp2
  go_ret
  exact ⟨ret_bool HV.out, HB.out⟩
set_option maxRecDepth 200000 in
set_option maxHeartbeats 2000000 in
theorem itemOkImpl_any (v : Value) (x : It) (F : List Nat) (w : World) (h : RdIt w v x F) (hw : x.sk.wide) :
    Calls Try.prog 115 #[v] w fun e w' => e = .returned (.bool x.ok) ∧ Below w.heap.size w w' := by
  obtain ⟨a1, n1, c1, a2, n2, c2, a3, n3, c3, rfl, hr⟩ := h
  have HR : Hid (RdSk w (.agg #[.int .i64 x.sk.count, .int .i64 x.sk.sum, .int .i64 x.sk.min, .int .i64 x.sk.max, .slice a1 n1 c1, .slice a2 n2 c2, .slice a3 n3 c3]) x.sk F ∧ x.sk.wide) := ⟨hr, hw⟩
  have HB : Hid (Below w.heap.size w (w.alloc (.cells #[.int .i64 x.seq, .int .i64 x.cls, .int .i64 x.key, .int .i64 x.window, .int .i64 x.sk.count, .int .i64 x.sk.sum, .int .i64 x.sk.min, .int .i64 x.sk.max, .slice a1 n1 c1, .slice a2 n2 c2, .slice a3 n3 c3] 49)) ∧ Blk (w.alloc (.cells #[.int .i64 x.seq, .int .i64 x.cls, .int .i64 x.key, .int .i64 x.window, .int .i64 x.sk.count, .int .i64 x.sk.sum, .int .i64 x.sk.min, .int .i64 x.sk.max, .slice a1 n1 c1, .slice a2 n2 c2, .slice a3 n3 c3] 49)) w.heap.size #[.int .i64 x.seq, .int .i64 x.cls, .int .i64 x.key, .int .i64 x.window, .int .i64 x.sk.count, .int .i64 x.sk.sum, .int .i64 x.sk.min, .int .i64 x.sk.max, .slice a1 n1 c1, .slice a2 n2 c2, .slice a3 n3 c3] 49) := ⟨Below.allocW _ (Below.refl _ _) (Nat.le_refl _), Blk.made _ _ _⟩
  clear hr hw
  go_enter Try.func115, Try.ntmps115
  go_wp2_with fail
  refine (isSeq_any _ _).mono ?_
  rintro e w2 ⟨rfl, hw2⟩
  have hw2' := hw2.symm
  subst hw2'
  clear hw2
  obtain ⟨d1, hd1⟩ : ∃ d, d = decide (1 ≤ x.seq ∧ x.seq ≤ 60) := ⟨_, rfl⟩
  rw [← hd1]
  have HD1 : Hid (d1 = decide (1 ≤ x.seq ∧ x.seq ≤ 60)) := hd1
  clear hd1
  cases d1
  · have HV : Hid (x.ok = false) := by show _ = _; unfold It.ok; rw [← HD1.out]; rfl
    go_wp2
    go_ret
    exact ⟨ret_bool HV.out.symm, HB.out.1⟩
  go_wp2_with fail
  refine (inRange_any _ _ _).mono ?_
  rintro e w2 ⟨rfl, hw2⟩
  have hw2' := hw2.symm
  subst hw2'
  clear hw2
  obtain ⟨d2, hd2⟩ : ∃ d, d = decide (0 ≤ x.cls ∧ x.cls ≤ 1) := ⟨_, rfl⟩
  rw [← hd2]
  have HD2 : Hid (d2 = decide (0 ≤ x.cls ∧ x.cls ≤ 1)) := hd2
  clear hd2
  cases d2
  · have HV : Hid (x.ok = false) := by show _ = _; unfold It.ok; rw [← HD1.out, ← HD2.out]; rfl
    go_wp2
    go_ret
    exact ⟨ret_bool HV.out.symm, HB.out.1⟩
  go_wp2_with fail
  refine (isPlace_any _ _ _).mono ?_
  rintro e w2 ⟨rfl, hb2⟩
  have HB2 : Hid (Below w.heap.size w w2 ∧ Blk w2 w.heap.size #[.int .i64 x.seq, .int .i64 x.cls, .int .i64 x.key, .int .i64 x.window, .int .i64 x.sk.count, .int .i64 x.sk.sum, .int .i64 x.sk.min, .int .i64 x.sk.max, .slice a1 n1 c1, .slice a2 n2 c2, .slice a3 n3 c3] 49) := ⟨Below.next HB.out.1 hb2, HB.out.2.below hb2⟩
  clear hb2
  obtain ⟨d3, hd3⟩ : ∃ d, d = placeOk x.key x.window := ⟨_, rfl⟩
  rw [← hd3]
  have HD3 : Hid (d3 = placeOk x.key x.window) := hd3
  clear hd3
  cases d3
  · have HV : Hid (x.ok = false) := by show _ = _; unfold It.ok; rw [← HD1.out, ← HD2.out, ← HD3.out]; rfl
    go_wp2
    go_ret
    exact ⟨ret_bool HV.out.symm, HB2.out.1⟩
  go_wp2_with (first | go_skip | (with_reducible refine stopLoad 29 rfl ?_))
  refine load_cutw 29 w.heap.size 4 7 _ #[.int .i64 x.sk.count, .int .i64 x.sk.sum, .int .i64 x.sk.min, .int .i64 x.sk.max, .slice a1 n1 c1, .slice a2 n2 c2, .slice a3 n3 c3] 49 _ HB2.out.2 rfl rfl rfl Try.underlying29 rfl infoSkI (by simp) rfl ?_
  go_wp2_with fail
  refine (okImpl_any _ x.sk F _ (HR.out.1.below HB2.out.1) HR.out.2).mono ?_
  rintro e w3 ⟨rfl, hb3⟩
  have HB3 : Hid (Below w.heap.size w w3) := Below.next HB2.out.1 hb3
  have HV : Hid (x.ok = x.sk.ok) := by show _ = _; unfold It.ok; rw [← HD1.out, ← HD2.out, ← HD3.out]; rfl
  clear hb3
  obtain ⟨d4, hd4⟩ : ∃ d, d = x.sk.ok := ⟨_, rfl⟩
  rw [← hd4] at HV ⊢
  clear hd4
  go_wp2
  go_ret
  exact ⟨ret_bool HV.out.symm, HB3.out⟩
/-- The cells of an entry as the program holds it. -/
def hc (k p : Int) (a : Option Addr) (l c : Nat) (ys : List Int) : Array Value := (.int .i64 k :: .int .i64 p :: .slice a l c :: ys.map (Value.int .i64)).toArray
theorem hc_size {k p : Int} {a : Option Addr} {l c : Nat} {ys : List Int} (h : ys.length = 28) : (hc k p a l c ys).size = 31 := by
  unfold hc; simp [h]
theorem hc_one (k p : Int) (a : Option Addr) (l c : Nat) (ys : List Int) : (hc k p a l c ys).all (·.oneCell') = true := by
  unfold hc
  simp [Value.oneCell']
section
variable {P : Program} {ops : Array Oper} {Q : Exit → Act → World → Prop} {rest : List Oper} {a : Act} {w : World} {o : Oper}
theorem stopBuild (ty : TypeId) {fs : Array (Nat × Operand)} (_ho : o.op = .build ty fs) (h : Stop (wpList P ops Q (o :: rest) a w)) : wpList P ops Q (o :: rest) a w := h
/-- A value that is put together, by a law of its own. -/
theorem built_any {ty : TypeId} {fs : Array (Nat × Operand)} (v : Value) (hw : Region.wanted o (yielded ops a.tmps) = true) (ho : o.op = .build ty fs) (hr : (Instr.build ty (fs.map fun p => (p.1, a.eval p.2))).run P w = .ok v w) (h : wpList P ops Q rest (a.put o.dst v) w) : Stop (wpList P ops Q (o :: rest) a w) :=
  wpList_step fun K hK => by
    rw [if_pos hw]
    unfold Oper.wp execOp
    simp only [ho]
    simp [hr]
    exact hK _ _ h
end
end Go.Proofs.Ytjndcfamfminkaq
/- The walks through the program's itemSame, FrameSame, areSeqs, itemFits and FrameOk. No statement of the seat is proved here. -/
namespace Go.Proofs.Ytjndcfamfminkaq
open Go.RowKit
set_option maxRecDepth 200000 in
set_option maxHeartbeats 4000000 in
theorem itemSame_any (v u : Value) (x y : It) (F G : List Nat) (w : World) (h : RdIt w v x F) (k : RdIt w u y G) (hx : x.sk.wide) (hy : y.sk.wide) :
    Calls Try.prog 79 #[v, u] w fun e w' => e = .returned (.bool (decide (x = y))) ∧ Below w.heap.size w w' := by
  obtain ⟨a1, n1, nc1, a2, n2, nc2, a3, n3, nc3, rfl, sx⟩ := h
  obtain ⟨b1, m1, mc1, b2, m2, mc2, b3, m3, mc3, rfl, sy⟩ := k
  have HX : Hid (RdSk w (.agg #[.int .i64 x.sk.count, .int .i64 x.sk.sum, .int .i64 x.sk.min, .int .i64 x.sk.max, .slice a1 n1 nc1, .slice a2 n2 nc2, .slice a3 n3 nc3]) x.sk F ∧ RdSk w (.agg #[.int .i64 y.sk.count, .int .i64 y.sk.sum, .int .i64 y.sk.min, .int .i64 y.sk.max, .slice b1 m1 mc1, .slice b2 m2 mc2, .slice b3 m3 mc3]) y.sk G ∧ x.sk.wide ∧ y.sk.wide) := ⟨sx, sy, hx, hy⟩
  have HT : Hid (_ ∧ _ ∧ _) := two_made w #[.int .i64 x.seq, .int .i64 x.cls, .int .i64 x.key, .int .i64 x.window, .int .i64 x.sk.count, .int .i64 x.sk.sum, .int .i64 x.sk.min, .int .i64 x.sk.max, .slice a1 n1 nc1, .slice a2 n2 nc2, .slice a3 n3 nc3] #[.int .i64 y.seq, .int .i64 y.cls, .int .i64 y.key, .int .i64 y.window, .int .i64 y.sk.count, .int .i64 y.sk.sum, .int .i64 y.sk.min, .int .i64 y.sk.max, .slice b1 m1 mc1, .slice b2 m2 mc2, .slice b3 m3 mc3] 49 49
  obtain ⟨d, hd⟩ : ∃ d, d = decide (x = y) := ⟨_, rfl⟩
  rw [← hd]
  have HD : Hid (d = decide (x = y)) := hd
  clear sx sy hx hy hd
  have k0 := HT.out.1.cell 0
  have j0 := HT.out.2.1.cell 0
  have k1 := HT.out.1.cell 1
  have j1 := HT.out.2.1.cell 1
  have k2 := HT.out.1.cell 2
  have j2 := HT.out.2.1.cell 2
  have k3 := HT.out.1.cell 3
  have j3 := HT.out.2.1.cell 3
  simp only [aT, aS, aZ] at k0 j0 k1 j1 k2 j2 k3 j3
  by_cases c1 : x.seq = y.seq
  rotate_left
  · have HV : Hid (d = false) := by show d = _; rw [HD.out]; exact dec_false (fun e => c1 (by rw [e]))
    have z1 : (x.seq == y.seq) = false := by simpa using c1
    clear c1
    go_enter Try.func79, Try.ntmps79
    go_wp2
    go_ret
    exact ⟨ret_bool HV.out.symm, HT.out.2.2⟩
  have z1 : (x.seq == y.seq) = true := by simpa using c1
  by_cases c2 : x.cls = y.cls
  rotate_left
  · have HV : Hid (d = false) := by show d = _; rw [HD.out]; exact dec_false (fun e => c2 (by rw [e]))
    have z2 : (x.cls == y.cls) = false := by simpa using c2
    clear c1 c2
    go_enter Try.func79, Try.ntmps79
    go_wp2
    go_ret
    exact ⟨ret_bool HV.out.symm, HT.out.2.2⟩
  have z2 : (x.cls == y.cls) = true := by simpa using c2
  by_cases c3 : x.key = y.key
  rotate_left
  · have HV : Hid (d = false) := by show d = _; rw [HD.out]; exact dec_false (fun e => c3 (by rw [e]))
    have z3 : (x.key == y.key) = false := by simpa using c3
    clear c1 c2 c3
    go_enter Try.func79, Try.ntmps79
    go_wp2
    go_ret
    exact ⟨ret_bool HV.out.symm, HT.out.2.2⟩
  have z3 : (x.key == y.key) = true := by simpa using c3
  by_cases c4 : x.window = y.window
  rotate_left
  · have HV : Hid (d = false) := by show d = _; rw [HD.out]; exact dec_false (fun e => c4 (by rw [e]))
    have z4 : (x.window == y.window) = false := by simpa using c4
    clear c1 c2 c3 c4
    go_enter Try.func79, Try.ntmps79
    go_wp2
    go_ret
    exact ⟨ret_bool HV.out.symm, HT.out.2.2⟩
  have z4 : (x.window == y.window) = true := by simpa using c4
  have HC : Hid (x.seq = y.seq ∧ x.cls = y.cls ∧ x.key = y.key ∧ x.window = y.window) := ⟨c1, c2, c3, c4⟩
  clear c1 c2 c3 c4
  go_enter Try.func79, Try.ntmps79
  go_wp2_with (first | go_skip | (with_reducible refine stopLoad 29 rfl ?_))
  refine load_cutw 29 w.heap.size 4 7 _ #[.int .i64 x.sk.count, .int .i64 x.sk.sum, .int .i64 x.sk.min, .int .i64 x.sk.max, .slice a1 n1 nc1, .slice a2 n2 nc2, .slice a3 n3 nc3] 49 _ HT.out.1 rfl rfl rfl Try.underlying29 rfl infoSkI (by simp) rfl ?_
  go_wp2_with (first | go_skip | (with_reducible refine stopLoad 29 rfl ?_))
  refine load_cutw 29 (w.heap.size + 1) 4 7 _ #[.int .i64 y.sk.count, .int .i64 y.sk.sum, .int .i64 y.sk.min, .int .i64 y.sk.max, .slice b1 m1 mc1, .slice b2 m2 mc2, .slice b3 m3 mc3] 49 _ HT.out.2.1 rfl rfl rfl Try.underlying29 rfl infoSkI (by simp) rfl ?_
  go_wp2_with fail
  refine (sameImpl_any _ _ x.sk y.sk F G _ (HX.out.1.below HT.out.2.2) (HX.out.2.1.below HT.out.2.2) HX.out.2.2.1 HX.out.2.2.2).mono ?_
  rintro e w2 ⟨rfl, b2⟩
  have HB2 : Hid (Below w.heap.size w w2) := Below.next HT.out.2.2 b2
  clear b2
  obtain ⟨d2, hd2⟩ : ∃ d, d = decide (x.sk = y.sk) := ⟨_, rfl⟩
  rw [← hd2]
  have HV : Hid (d2 = d) := by
    show _ = _
    rw [hd2, HD.out]
    by_cases e : x.sk = y.sk
    · rw [dec_true e, dec_true (It.eq_of HC.out.1 HC.out.2.1 HC.out.2.2.1 HC.out.2.2.2 e)]
    · rw [dec_false e, dec_false (fun q => e (by rw [q]))]
  clear hd2
  go_wp2
  go_ret
  exact ⟨ret_bool HV.out, HB2.out⟩
set_option maxRecDepth 200000 in
set_option maxHeartbeats 4000000 in
theorem frameSameImpl_any (v u : Value) (x y : Fr) (F F' G G' : List Nat) (w : World) (h : RdFr w v x F F') (k : RdFr w u y G G') (hx : x.item.sk.wide) (hy : y.item.sk.wide) (hlx : x.taken.length ≤ 2097152) (hly : y.taken.length ≤ 2097152) :
    Calls Try.prog 32 #[v, u] w fun e w' => e = .returned (.bool (decide (x = y))) ∧ Below w.heap.size w w' := by
  obtain ⟨p, l, g, a1, n1, nc1, a2, n2, nc2, a3, n3, nc3, rfl, px, sx, _⟩ := h
  obtain ⟨q, k, j, b1, m1, mc1, b2, m2, mc2, b3, m3, mc3, rfl, py, sy, _⟩ := k
  have HX : Hid (RdIt w (.agg #[.int .i64 x.item.seq, .int .i64 x.item.cls, .int .i64 x.item.key, .int .i64 x.item.window, .int .i64 x.item.sk.count, .int .i64 x.item.sk.sum, .int .i64 x.item.sk.min, .int .i64 x.item.sk.max, .slice a1 n1 nc1, .slice a2 n2 nc2, .slice a3 n3 nc3]) x.item F' ∧ RdIt w (.agg #[.int .i64 y.item.seq, .int .i64 y.item.cls, .int .i64 y.item.key, .int .i64 y.item.window, .int .i64 y.item.sk.count, .int .i64 y.item.sk.sum, .int .i64 y.item.sk.min, .int .i64 y.item.sk.max, .slice b1 m1 mc1, .slice b2 m2 mc2, .slice b3 m3 mc3]) y.item G' ∧ x.item.sk.wide ∧ y.item.sk.wide) := ⟨sx, sy, hx, hy⟩
  have HP : Hid (RdP w p l x.taken F ∧ RdP w q k y.taken G ∧ l ≤ 2097152 ∧ k ≤ 2097152) := ⟨px, py, by rw [← px.length]; exact hlx, by rw [← py.length]; exact hly⟩
  have HT : Hid (_ ∧ _ ∧ _) := two_made w #[.int .i64 x.kind, .int .i64 x.agent, .int .i64 x.epoch, .int .i64 x.granted, .slice p l g, .int .i64 x.item.seq, .int .i64 x.item.cls, .int .i64 x.item.key, .int .i64 x.item.window, .int .i64 x.item.sk.count, .int .i64 x.item.sk.sum, .int .i64 x.item.sk.min, .int .i64 x.item.sk.max, .slice a1 n1 nc1, .slice a2 n2 nc2, .slice a3 n3 nc3] #[.int .i64 y.kind, .int .i64 y.agent, .int .i64 y.epoch, .int .i64 y.granted, .slice q k j, .int .i64 y.item.seq, .int .i64 y.item.cls, .int .i64 y.item.key, .int .i64 y.item.window, .int .i64 y.item.sk.count, .int .i64 y.item.sk.sum, .int .i64 y.item.sk.min, .int .i64 y.item.sk.max, .slice b1 m1 mc1, .slice b2 m2 mc2, .slice b3 m3 mc3] 51 51
  obtain ⟨d, hd⟩ : ∃ d, d = decide (x = y) := ⟨_, rfl⟩
  rw [← hd]
  have HD : Hid (d = decide (x = y)) := hd
  clear px py sx sy hx hy hlx hly hd
  have k0 := HT.out.1.cell 0
  have j0 := HT.out.2.1.cell 0
  have k1 := HT.out.1.cell 1
  have j1 := HT.out.2.1.cell 1
  have k2 := HT.out.1.cell 2
  have j2 := HT.out.2.1.cell 2
  have k3 := HT.out.1.cell 3
  have j3 := HT.out.2.1.cell 3
  have k4 := HT.out.1.cell 4
  have j4 := HT.out.2.1.cell 4
  simp only [aT, aS, aZ] at k0 j0 k1 j1 k2 j2 k3 j3 k4 j4
  by_cases c1 : x.kind = y.kind
  rotate_left
  · have HV : Hid (d = false) := by show d = _; rw [HD.out]; exact dec_false (fun e => c1 (by rw [e]))
    have z1 : (x.kind == y.kind) = false := by simpa using c1
    clear c1
    go_enter Try.func32, Try.ntmps32
    go_wp2
    go_ret
    exact ⟨ret_bool HV.out.symm, HT.out.2.2⟩
  have z1 : (x.kind == y.kind) = true := by simpa using c1
  by_cases c2 : x.agent = y.agent
  rotate_left
  · have HV : Hid (d = false) := by show d = _; rw [HD.out]; exact dec_false (fun e => c2 (by rw [e]))
    have z2 : (x.agent == y.agent) = false := by simpa using c2
    clear c1 c2
    go_enter Try.func32, Try.ntmps32
    go_wp2
    go_ret
    exact ⟨ret_bool HV.out.symm, HT.out.2.2⟩
  have z2 : (x.agent == y.agent) = true := by simpa using c2
  by_cases c3 : x.epoch = y.epoch
  rotate_left
  · have HV : Hid (d = false) := by show d = _; rw [HD.out]; exact dec_false (fun e => c3 (by rw [e]))
    have z3 : (x.epoch == y.epoch) = false := by simpa using c3
    clear c1 c2 c3
    go_enter Try.func32, Try.ntmps32
    go_wp2
    go_ret
    exact ⟨ret_bool HV.out.symm, HT.out.2.2⟩
  have z3 : (x.epoch == y.epoch) = true := by simpa using c3
  by_cases c4 : x.granted = y.granted
  rotate_left
  · have HV : Hid (d = false) := by show d = _; rw [HD.out]; exact dec_false (fun e => c4 (by rw [e]))
    have z4 : (x.granted == y.granted) = false := by simpa using c4
    clear c1 c2 c3 c4
    go_enter Try.func32, Try.ntmps32
    go_wp2
    go_ret
    exact ⟨ret_bool HV.out.symm, HT.out.2.2⟩
  have z4 : (x.granted == y.granted) = true := by simpa using c4
  have HC : Hid (x.kind = y.kind ∧ x.agent = y.agent ∧ x.epoch = y.epoch ∧ x.granted = y.granted) := ⟨c1, c2, c3, c4⟩
  clear c1 c2 c3 c4
  go_enter Try.func32, Try.ntmps32
  go_wp2_with fail
  refine (slEqualP_any p q l k g j x.taken y.taken F G _ (HP.out.1.below HT.out.2.2) (HP.out.2.1.below HT.out.2.2) (by have := HP.out.2.2; omega) (by have := HP.out.2.2; omega)).mono ?_
  rintro e w1 ⟨rfl, hq⟩
  have HB1 : Hid (Blk w1 w.heap.size #[.int .i64 x.kind, .int .i64 x.agent, .int .i64 x.epoch, .int .i64 x.granted, .slice p l g, .int .i64 x.item.seq, .int .i64 x.item.cls, .int .i64 x.item.key, .int .i64 x.item.window, .int .i64 x.item.sk.count, .int .i64 x.item.sk.sum, .int .i64 x.item.sk.min, .int .i64 x.item.sk.max, .slice a1 n1 nc1, .slice a2 n2 nc2, .slice a3 n3 nc3] 51 ∧ Blk w1 (w.heap.size + 1) #[.int .i64 y.kind, .int .i64 y.agent, .int .i64 y.epoch, .int .i64 y.granted, .slice q k j, .int .i64 y.item.seq, .int .i64 y.item.cls, .int .i64 y.item.key, .int .i64 y.item.window, .int .i64 y.item.sk.count, .int .i64 y.item.sk.sum, .int .i64 y.item.sk.min, .int .i64 y.item.sk.max, .slice b1 m1 mc1, .slice b2 m2 mc2, .slice b3 m3 mc3] 51 ∧ Below w.heap.size w w1) := ⟨HT.out.1.below (quiet_below hq), HT.out.2.1.below (quiet_below hq), Below.next HT.out.2.2 (quiet_below hq)⟩
  clear hq HT k0 k1 k2 k3 k4 j0 j1 j2 j3 j4 z1 z2 z3 z4
  by_cases c5 : x.taken = y.taken
  rotate_left
  · rw [dec_false c5]
    have HV : Hid (d = false) := by show d = _; rw [HD.out]; exact dec_false (fun e => c5 (by rw [e]))
    clear c5
    go_wp2
    go_ret
    exact ⟨ret_bool HV.out.symm, HB1.out.2.2⟩
  rw [dec_true c5]
  have HC5 : Hid (x.taken = y.taken) := c5
  clear c5
  go_wp2_with (first | go_skip | (with_reducible refine stopLoad 49 rfl ?_))
  refine load_cutw 49 w.heap.size 5 11 _ #[.int .i64 x.item.seq, .int .i64 x.item.cls, .int .i64 x.item.key, .int .i64 x.item.window, .int .i64 x.item.sk.count, .int .i64 x.item.sk.sum, .int .i64 x.item.sk.min, .int .i64 x.item.sk.max, .slice a1 n1 nc1, .slice a2 n2 nc2, .slice a3 n3 nc3] 51 _ HB1.out.1 rfl rfl rfl Try.underlying49 rfl infoItA7 (by simp) rfl ?_
  go_wp2_with (first | go_skip | (with_reducible refine stopLoad 49 rfl ?_))
  refine load_cutw 49 (w.heap.size + 1) 5 11 _ #[.int .i64 y.item.seq, .int .i64 y.item.cls, .int .i64 y.item.key, .int .i64 y.item.window, .int .i64 y.item.sk.count, .int .i64 y.item.sk.sum, .int .i64 y.item.sk.min, .int .i64 y.item.sk.max, .slice b1 m1 mc1, .slice b2 m2 mc2, .slice b3 m3 mc3] 51 _ HB1.out.2.1 rfl rfl rfl Try.underlying49 rfl infoItA7 (by simp) rfl ?_
  go_wp2_with fail
  refine (itemSame_any _ _ x.item y.item F' G' _ (HX.out.1.below HB1.out.2.2) (HX.out.2.1.below HB1.out.2.2) HX.out.2.2.1 HX.out.2.2.2).mono ?_
  rintro e w2 ⟨rfl, b2⟩
  have HB2 : Hid (Below w.heap.size w w2) := Below.next HB1.out.2.2 b2
  clear b2
  obtain ⟨d2, hd2⟩ : ∃ d, d = decide (x.item = y.item) := ⟨_, rfl⟩
  rw [← hd2]
  have HV : Hid (d2 = d) := by
    show _ = _
    rw [hd2, HD.out]
    by_cases e : x.item = y.item
    · rw [dec_true e, dec_true (Fr.eq_of HC.out.1 HC.out.2.1 HC.out.2.2.1 HC.out.2.2.2 HC5.out e)]
    · rw [dec_false e, dec_false (fun q => e (by rw [q]))]
  clear hd2
  go_wp2
  go_ret
  exact ⟨ret_bool HV.out, HB2.out⟩
set_option maxRecDepth 200000 in
set_option maxHeartbeats 2000000 in
theorem areSeqs_any (a : Option Addr) (len cap : Nat) (m : Int) (ps : Sp) (F : List Nat) (w : World) (h : RdP w a len ps F) (hlen : len ≤ 2097152) :
    Calls Try.prog 88 #[.slice a len cap, .int .i64 m] w fun e w' => e = .returned (.bool (ps.ok && ps.under m)) ∧ Below w.heap.size w w' := by
  have HL : Hid (ps.length = len ∧ RdP w a len ps F) := ⟨h.length, h⟩
  have HC : Hid (len = 0 ∨ ∃ b off, a = some ⟨b, off, none⟩ ∧ b < w.heap.size ∧ SpCells w b off len ps) := cells_of h
  clear h
  go_enter Try.func88, Try.ntmps88
  go_wp2
  go_loopw [9] (fun i wr => ∃ (k : Nat), k ≤ len ∧ i = .int .i64 k ∧ Hid (Below w.heap.size w wr) ∧ Hid (∀ j, j < k → 1 ≤ (ps.at j).1 ∧ (ps.at j).2 ≤ m)) (fun i _ => len - (intOf i).toNat)
  case atStart => exact ⟨0, by omega, rfl, Below.refl _ _, fun j hj => by omega⟩
  case round =>
    obtain ⟨k, hk, rfl, HB, HN⟩ := hrel
    by_cases hlt : k < len
    · have hca := HC.out
      rcases hca with h0 | ⟨b, off, rfl, hbw, hc⟩
      · omega
      obtain ⟨x, hx⟩ : ∃ x, x = (ps.at k).1 := ⟨_, rfl⟩
      obtain ⟨y, hy⟩ : ∃ x, x = (ps.at k).2 := ⟨_, rfl⟩
      have e := hc k hlt
      rw [← hx, ← hy] at e
      have d1 : wr.cell? ⟨b, off + k * 2, none⟩ = some (.int .i64 x) := (HB.out.cell (by exact hbw)).trans e.1
      have d2 : wr.cell? ⟨b, off + k * 2 + 1, none⟩ = some (.int .i64 y) := (HB.out.cell (by exact hbw)).trans e.2
      have HX : Hid (x = (ps.at k).1 ∧ y = (ps.at k).2 ∧ k < ps.length) := ⟨hx, hy, by rw [HL.out.1]; exact hlt⟩
      have HB2 : Hid (Below w.heap.size w (wr.alloc (.cells #[.int .i64 x, .int .i64 y] 103))) := Below.allocW _ HB.out (Nat.le_refl _)
      have hI : (k : Int) < (len : Int) := by omega
      clear e hx hy hc HB
      by_cases h1 : x < 1
      · have HV : Hid ((ps.ok && ps.under m) = false) := by
          show _ = _
          rw [Sp.under_not HX.out.2.2 (fun e => absurd e.1 (by rw [← HX.out.1]; omega)), Bool.and_false]
        go_wp2
        go_ret
        exact ⟨ret_bool HV.out.symm, HB2.out⟩
      by_cases h2 : m < y
      · have HV : Hid ((ps.ok && ps.under m) = false) := by
          show _ = _
          rw [Sp.under_not HX.out.2.2 (fun e => absurd e.2 (by rw [← HX.out.2.1]; omega)), Bool.and_false]
        go_wp2
        go_ret
        exact ⟨ret_bool HV.out.symm, HB2.out⟩
      have HN2 : Hid (∀ j, j < k + 1 → 1 ≤ (ps.at j).1 ∧ (ps.at j).2 ≤ m) := all_up HN.out ⟨by rw [← HX.out.1]; omega, by rw [← HX.out.2.1]; omega⟩
      go_wp2
      go_roundw
      case rel => exact ⟨k + 1, by omega, by go_num, HB2, HN2⟩
      case measure => simp [intOf]; omega
    · obtain rfl : k = len := by omega
      have HV : Hid (ps.under m = true) := Sp.under_all (fun j hj => HN.out j (by have := HL.out.1; omega))
      go_wp2_with fail
      refine (setOkImpl_any a k cap ps F _ (HL.out.2.below HB.out) hlen).mono ?_
      rintro e w2 ⟨rfl, hb2⟩
      have HB2 : Hid (Below w.heap.size w w2) := Below.next HB.out hb2
      clear hb2
      obtain ⟨d, hd⟩ : ∃ d, d = ps.ok := ⟨_, rfl⟩
      rw [← hd]
      have HD : Hid (d = ps.ok) := hd
      clear hd
      go_wp2
      go_ret
      rw [HV.out, Bool.and_true]
      exact ⟨ret_bool HD.out, HB2.out⟩
theorem infoFrF7 : (Try.prog.info? 51).map (·.size) = some 16 := by kernel_rfl
theorem rdIt_zero (w : World) : RdIt w (.agg #[.int .i64 0, .int .i64 0, .int .i64 0, .int .i64 0, .int .i64 0, .int .i64 0, .int .i64 0, .int .i64 0, .slice none 0 0, .slice none 0 0, .slice none 0 0]) It.zero [] := by
  refine ⟨none, 0, 0, none, 0, 0, none, 0, 0, rfl, ?_⟩
  exact ⟨none, 0, 0, none, 0, 0, none, 0, 0, [], [], [], rfl, ⟨rfl, .inl ⟨rfl, rfl⟩⟩, ⟨rfl, .inl ⟨rfl, rfl⟩⟩, ⟨rfl, .inl ⟨rfl, rfl⟩⟩, rfl⟩
theorem It.zero_wide : It.zero.sk.wide := ⟨by simp [It.zero, Sk.zero], by simp [It.zero, Sk.zero], by simp [It.zero, Sk.zero], by simp [It.zero, Sk.zero]⟩
set_option maxRecDepth 200000 in
set_option maxHeartbeats 2000000 in
theorem itemFits_any (v : Value) (x : Fr) (F G : List Nat) (w : World) (h : RdFr w v x F G) (hw : x.item.sk.wide) :
    Calls Try.prog 104 #[v] w fun e w' => e = .returned (.bool (if x.kind = 1 then x.item.ok else decide (x.item = It.zero))) ∧ Below w.heap.size w w' := by
  obtain ⟨b, l, c, a1, n1, c1, a2, n2, c2, a3, n3, c3, rfl, _, hr, _⟩ := h
  have HR : Hid (RdIt w (.agg #[.int .i64 x.item.seq, .int .i64 x.item.cls, .int .i64 x.item.key, .int .i64 x.item.window, .int .i64 x.item.sk.count, .int .i64 x.item.sk.sum, .int .i64 x.item.sk.min, .int .i64 x.item.sk.max, .slice a1 n1 c1, .slice a2 n2 c2, .slice a3 n3 c3]) x.item G ∧ x.item.sk.wide) := ⟨hr, hw⟩
  have HB : Hid (Below w.heap.size w (w.alloc (.cells #[.int .i64 x.kind, .int .i64 x.agent, .int .i64 x.epoch, .int .i64 x.granted, .slice b l c, .int .i64 x.item.seq, .int .i64 x.item.cls, .int .i64 x.item.key, .int .i64 x.item.window, .int .i64 x.item.sk.count, .int .i64 x.item.sk.sum, .int .i64 x.item.sk.min, .int .i64 x.item.sk.max, .slice a1 n1 c1, .slice a2 n2 c2, .slice a3 n3 c3] 51)) ∧ Blk (w.alloc (.cells #[.int .i64 x.kind, .int .i64 x.agent, .int .i64 x.epoch, .int .i64 x.granted, .slice b l c, .int .i64 x.item.seq, .int .i64 x.item.cls, .int .i64 x.item.key, .int .i64 x.item.window, .int .i64 x.item.sk.count, .int .i64 x.item.sk.sum, .int .i64 x.item.sk.min, .int .i64 x.item.sk.max, .slice a1 n1 c1, .slice a2 n2 c2, .slice a3 n3 c3] 51)) w.heap.size #[.int .i64 x.kind, .int .i64 x.agent, .int .i64 x.epoch, .int .i64 x.granted, .slice b l c, .int .i64 x.item.seq, .int .i64 x.item.cls, .int .i64 x.item.key, .int .i64 x.item.window, .int .i64 x.item.sk.count, .int .i64 x.item.sk.sum, .int .i64 x.item.sk.min, .int .i64 x.item.sk.max, .slice a1 n1 c1, .slice a2 n2 c2, .slice a3 n3 c3] 51) := ⟨Below.allocW _ (Below.refl _ _) (Nat.le_refl _), Blk.made _ _ _⟩
  have k0 := HB.out.2.cell 0
  simp only [aT, aZ] at k0
  clear hr hw
  obtain ⟨z, hz⟩ : ∃ z, z = (if x.kind = 1 then x.item.ok else decide (x.item = It.zero)) := ⟨_, rfl⟩
  rw [← hz]
  by_cases h1 : x.kind = 1
  · have e1 : (x.kind == 1) = true := by simpa using h1
    have HV : Hid (z = x.item.ok) := hz.trans (if_pos h1)
    clear hz
    clear h1
    go_enter Try.func104, Try.ntmps104
    go_wp2_with (first | go_skip | (with_reducible refine stopLoad 49 rfl ?_))
    refine load_cut 49 w.heap.size 5 11 _ #[.int .i64 x.item.seq, .int .i64 x.item.cls, .int .i64 x.item.key, .int .i64 x.item.window, .int .i64 x.item.sk.count, .int .i64 x.item.sk.sum, .int .i64 x.item.sk.min, .int .i64 x.item.sk.max, .slice a1 n1 c1, .slice a2 n2 c2, .slice a3 n3 c3] 51 _ HB.out.2 rfl rfl rfl Try.underlying49 rfl infoItA7 (by simp) rfl ?_
    go_wp2_with fail
    refine (itemOkImpl_any _ x.item G _ (HR.out.1.below HB.out.1) HR.out.2).mono ?_
    rintro e w3 ⟨rfl, hb3⟩
    have HB3 : Hid (Below w.heap.size w w3) := Below.next HB.out.1 hb3
    clear hb3
    obtain ⟨d, hd⟩ : ∃ d, d = x.item.ok := ⟨_, rfl⟩
    rw [← hd] at HV ⊢
    clear hd
    go_wp2
    go_ret
    exact ⟨ret_bool HV.out.symm, HB3.out⟩
  · have e1 : (x.kind == 1) = false := by simpa using h1
    have HV : Hid (z = decide (x.item = It.zero)) := hz.trans (if_neg h1)
    clear hz
    clear h1
    go_enter Try.func104, Try.ntmps104
    go_wp2_with (first | go_skip | (with_reducible refine stopLoad 49 rfl ?_))
    refine load_cut 49 w.heap.size 5 11 _ #[.int .i64 x.item.seq, .int .i64 x.item.cls, .int .i64 x.item.key, .int .i64 x.item.window, .int .i64 x.item.sk.count, .int .i64 x.item.sk.sum, .int .i64 x.item.sk.min, .int .i64 x.item.sk.max, .slice a1 n1 c1, .slice a2 n2 c2, .slice a3 n3 c3] 51 _ HB.out.2 rfl rfl rfl Try.underlying49 rfl infoItA7 (by simp) rfl ?_
    go_wp2_with fail
    refine (itemSame_any _ _ x.item It.zero G [] _ (HR.out.1.below HB.out.1) (rdIt_zero _) HR.out.2 It.zero_wide).mono ?_
    rintro e w3 ⟨rfl, hb3⟩
    have HB3 : Hid (Below w.heap.size w w3) := Below.next HB.out.1 hb3
    clear hb3
    obtain ⟨d, hd⟩ : ∃ d, d = decide (x.item = It.zero) := ⟨_, rfl⟩
    rw [← hd] at HV ⊢
    clear hd
    go_wp2
    go_ret
    exact ⟨ret_bool HV.out.symm, HB3.out⟩
set_option maxRecDepth 200000 in
set_option maxHeartbeats 4000000 in
theorem frameOkImpl_any (v : Value) (x : Fr) (F G : List Nat) (w : World) (h : RdFr w v x F G) (hw : x.item.sk.wide) (hl : x.taken.length ≤ 2097152) :
    Calls Try.prog 64 #[v] w fun e w' => e = .returned (.bool x.ok) ∧ Below w.heap.size w w' := by
  have HH : Hid (RdFr w v x F G ∧ x.item.sk.wide) := ⟨h, hw⟩
  obtain ⟨b, l, c, a1, n1, c1, a2, n2, c2, a3, n3, c3, rfl, hp, hr, _⟩ := h
  have HP : Hid (RdP w b l x.taken F ∧ l ≤ 2097152 ∧ x.taken.length = l) := ⟨hp, by rw [← hp.length]; exact hl, hp.length⟩
  have HB : Hid (Below w.heap.size w (w.alloc (.cells #[.int .i64 x.kind, .int .i64 x.agent, .int .i64 x.epoch, .int .i64 x.granted, .slice b l c, .int .i64 x.item.seq, .int .i64 x.item.cls, .int .i64 x.item.key, .int .i64 x.item.window, .int .i64 x.item.sk.count, .int .i64 x.item.sk.sum, .int .i64 x.item.sk.min, .int .i64 x.item.sk.max, .slice a1 n1 c1, .slice a2 n2 c2, .slice a3 n3 c3] 51)) ∧ Blk (w.alloc (.cells #[.int .i64 x.kind, .int .i64 x.agent, .int .i64 x.epoch, .int .i64 x.granted, .slice b l c, .int .i64 x.item.seq, .int .i64 x.item.cls, .int .i64 x.item.key, .int .i64 x.item.window, .int .i64 x.item.sk.count, .int .i64 x.item.sk.sum, .int .i64 x.item.sk.min, .int .i64 x.item.sk.max, .slice a1 n1 c1, .slice a2 n2 c2, .slice a3 n3 c3] 51)) w.heap.size #[.int .i64 x.kind, .int .i64 x.agent, .int .i64 x.epoch, .int .i64 x.granted, .slice b l c, .int .i64 x.item.seq, .int .i64 x.item.cls, .int .i64 x.item.key, .int .i64 x.item.window, .int .i64 x.item.sk.count, .int .i64 x.item.sk.sum, .int .i64 x.item.sk.min, .int .i64 x.item.sk.max, .slice a1 n1 c1, .slice a2 n2 c2, .slice a3 n3 c3] 51) := ⟨Below.allocW _ (Below.refl _ _) (Nat.le_refl _), Blk.made _ _ _⟩
  clear hr hw hp hl
  go_enter Try.func64, Try.ntmps64
  go_wp2_with fail
  refine (inRange_any _ _ _).mono ?_
  rintro e w2 ⟨rfl, hw2⟩
  have hw2' := hw2.symm
  subst hw2'
  clear hw2
  obtain ⟨d1, hd1⟩ : ∃ d, d = decide (0 ≤ x.kind ∧ x.kind ≤ 3) := ⟨_, rfl⟩
  rw [← hd1]
  have HD1 : Hid (d1 = decide (0 ≤ x.kind ∧ x.kind ≤ 3)) := hd1
  clear hd1
  cases d1
  · have HV : Hid (x.ok = false) := by show _ = _; unfold Fr.ok; rw [← HD1.out]; rfl
    go_wp2
    go_ret
    exact ⟨ret_bool HV.out.symm, HB.out.1⟩
  go_wp2_with fail
  refine (inRange_any _ _ _).mono ?_
  rintro e w2 ⟨rfl, hw2⟩
  have hw2' := hw2.symm
  subst hw2'
  clear hw2
  obtain ⟨d2, hd2⟩ : ∃ d, d = decide (0 ≤ x.agent ∧ x.agent ≤ 2) := ⟨_, rfl⟩
  rw [← hd2]
  have HD2 : Hid (d2 = decide (0 ≤ x.agent ∧ x.agent ≤ 2)) := hd2
  clear hd2
  cases d2
  · have HV : Hid (x.ok = false) := by show _ = _; unfold Fr.ok; rw [← HD1.out, ← HD2.out]; rfl
    go_wp2
    go_ret
    exact ⟨ret_bool HV.out.symm, HB.out.1⟩
  go_wp2_with fail
  refine (inRange_any _ _ _).mono ?_
  rintro e w2 ⟨rfl, hw2⟩
  have hw2' := hw2.symm
  subst hw2'
  clear hw2
  obtain ⟨d3, hd3⟩ : ∃ d, d = decide (0 ≤ x.epoch ∧ x.epoch ≤ 1000) := ⟨_, rfl⟩
  rw [← hd3]
  have HD3 : Hid (d3 = decide (0 ≤ x.epoch ∧ x.epoch ≤ 1000)) := hd3
  clear hd3
  cases d3
  · have HV : Hid (x.ok = false) := by show _ = _; unfold Fr.ok; rw [← HD1.out, ← HD2.out, ← HD3.out]; rfl
    go_wp2
    go_ret
    exact ⟨ret_bool HV.out.symm, HB.out.1⟩
  go_wp2_with fail
  refine (inRange_any _ _ _).mono ?_
  rintro e w2 ⟨rfl, hw2⟩
  have hw2' := hw2.symm
  subst hw2'
  clear hw2
  obtain ⟨d4, hd4⟩ : ∃ d, d = decide (0 ≤ x.granted ∧ x.granted ≤ 60) := ⟨_, rfl⟩
  rw [← hd4]
  have HD4 : Hid (d4 = decide (0 ≤ x.granted ∧ x.granted ≤ 60)) := hd4
  clear hd4
  cases d4
  · have HV : Hid (x.ok = false) := by show _ = _; unfold Fr.ok; rw [← HD1.out, ← HD2.out, ← HD3.out, ← HD4.out]; rfl
    go_wp2
    go_ret
    exact ⟨ret_bool HV.out.symm, HB.out.1⟩
  go_wp2_with fail
  refine (areSeqs_any b l c 60 x.taken F _ (HP.out.1.below HB.out.1) HP.out.2.1).mono ?_
  rintro e w2 ⟨rfl, hb2⟩
  have HB2 : Hid (Below w.heap.size w w2 ∧ Blk w2 w.heap.size #[.int .i64 x.kind, .int .i64 x.agent, .int .i64 x.epoch, .int .i64 x.granted, .slice b l c, .int .i64 x.item.seq, .int .i64 x.item.cls, .int .i64 x.item.key, .int .i64 x.item.window, .int .i64 x.item.sk.count, .int .i64 x.item.sk.sum, .int .i64 x.item.sk.min, .int .i64 x.item.sk.max, .slice a1 n1 c1, .slice a2 n2 c2, .slice a3 n3 c3] 51) := ⟨Below.next HB.out.1 hb2, HB.out.2.below hb2⟩
  clear hb2
  obtain ⟨d5, hd5⟩ : ∃ d, d = (x.taken.ok && x.taken.under 60) := ⟨_, rfl⟩
  rw [← hd5]
  have HD5 : Hid (d5 = (x.taken.ok && x.taken.taken)) := hd5
  clear hd5
  cases d5
  · have HV : Hid (x.ok = false) := by
      show _ = _
      unfold Fr.ok
      rw [Bool.and_assoc _ x.taken.ok x.taken.taken, ← HD1.out, ← HD2.out, ← HD3.out, ← HD4.out, ← HD5.out]; rfl
    go_wp2
    go_ret
    exact ⟨ret_bool HV.out.symm, HB2.out.1⟩
  have HV : Hid (x.ok = (if x.kind = 1 then x.item.ok else decide (x.item = It.zero))) := by
    show _ = _
    unfold Fr.ok
    rw [Bool.and_assoc _ x.taken.ok x.taken.taken, ← HD1.out, ← HD2.out, ← HD3.out, ← HD4.out, ← HD5.out]; rfl
  go_wp2_with (first | go_skip | (with_reducible refine stopLoad 51 rfl ?_))
  refine load_cutw 51 w.heap.size 0 16 _ #[.int .i64 x.kind, .int .i64 x.agent, .int .i64 x.epoch, .int .i64 x.granted, .slice b l c, .int .i64 x.item.seq, .int .i64 x.item.cls, .int .i64 x.item.key, .int .i64 x.item.window, .int .i64 x.item.sk.count, .int .i64 x.item.sk.sum, .int .i64 x.item.sk.min, .int .i64 x.item.sk.max, .slice a1 n1 c1, .slice a2 n2 c2, .slice a3 n3 c3] 51 _ HB2.out.2 rfl rfl rfl Try.underlying51 rfl infoFrF7 (by simp) rfl ?_
  go_wp2_with fail
  refine (itemFits_any _ x F G _ (HH.out.1.below HB2.out.1) HH.out.2).mono ?_
  rintro e w3 ⟨rfl, hb3⟩
  have HB3 : Hid (Below w.heap.size w w3) := Below.next HB2.out.1 hb3
  clear hb3
  obtain ⟨d, hd⟩ : ∃ d, d = (if x.kind = 1 then x.item.ok else decide (x.item = It.zero)) := ⟨_, rfl⟩
  rw [← hd] at HV ⊢
  clear hd
  go_wp2
  go_ret
  exact ⟨ret_bool HV.out.symm, HB3.out⟩
end Go.Proofs.Ytjndcfamfminkaq
/- How chapter 1 reads a number off bytes, over whole numbers. No statement of the seat is proved here. -/
namespace Go.Proofs.Ytjndcfamfminkaq
open Go.RowKit

/-- The number that the bytes begin with, k of its bytes being read already (together acc): it and how many bytes it takes. -/
def dg : List Int → Nat → Int → Option (Int × Nat)
  | [], _, _ => none
  | c :: r, k, acc => if k = 5 then none else if c < 128 then (if (0 < k ∧ c = 0) ∨ 2147483647 < acc + c % 128 * 128 ^ k then none else some (acc + c % 128 * 128 ^ k, k + 1)) else dg r (k + 1) (acc + c % 128 * 128 ^ k)

/-- The number that begins at that place. -/
def res (zs : List Int) (p : Int) : Option (Int × Nat) := if 0 ≤ p ∧ p ≤ zs.length then dg (zs.drop p.toNat) 0 0 else none
def out3 (r : Option (Int × Nat)) (p : Int) : Value := match r with
  | none => .tuple #[.int .i64 0, .int .i64 0, .bool false]
  | some (n, u) => .tuple #[.int .i64 n, .int .i64 (p + u), .bool true]

theorem or_nat (a b j : Nat) (ha : a < 2 ^ j) (h : a + b * 2 ^ j < 4611686018427387904) : bits .or .i64 (a : Int) ((b * 2 ^ j : Nat) : Int) = ((a + b * 2 ^ j : Nat) : Int) := by
  have h1 : a < 4611686018427387904 := by omega
  have h2 : b * 2 ^ j < 4611686018427387904 := by omega
  have ea : (BitVec.ofInt 64 (a : Int)).toNat = a := by rw [BitVec.toNat_ofInt]; omega
  have eb : (BitVec.ofInt 64 ((b * 2 ^ j : Nat) : Int)).toNat = b * 2 ^ j := by rw [BitVec.toNat_ofInt]; omega
  have e : ((BitVec.ofInt 64 (a : Int)) ||| (BitVec.ofInt 64 ((b * 2 ^ j : Nat) : Int))).toNat = a + b * 2 ^ j := by
    rw [BitVec.toNat_or, ea, eb, Nat.or_comm, nat_join j _ _ (by simp) ha, Nat.add_comm]
  show IntKind.i64.wrap (((BitVec.ofInt 64 (a : Int)) ||| (BitVec.ofInt 64 ((b * 2 ^ j : Nat) : Int))).toNat : Int) = _
  rw [e]
  generalize a + b * 2 ^ j = c at *
  simp [IntKind.wrap, IntKind.bits, IntKind.signed]
  omega
/-- At each of the five places the exclusive-free 'or' is a sum. -/
theorem or_add (k : Nat) (hk : k < 5) (X d : Int) (hX : 0 ≤ X) (hX' : X < 128 ^ k) (hd : 0 ≤ d) (hd' : d < 128) : bits .or .i64 X (d * 128 ^ k) = X + d * 128 ^ k := by
  obtain ⟨x, rfl⟩ := Int.eq_ofNat_of_zero_le hX
  obtain ⟨e, rfl⟩ := Int.eq_ofNat_of_zero_le hd
  have hp : (128 : Nat) ^ k = 2 ^ (7 * k) := by rw [show (128 : Nat) = 2 ^ 7 from rfl, ← Nat.pow_mul]
  have h1 : x < 2 ^ (7 * k) := by rw [← hp]; have : ((x : Int)) < ((128 ^ k : Nat) : Int) := by simpa using hX'
                                  omega
  have he : e < 128 := by omega
  have h2 : x + e * 2 ^ (7 * k) < 4611686018427387904 := by
    have h3 : (2 : Nat) ^ (7 * k) ≤ 2 ^ 28 := Nat.pow_le_pow_right (by decide) (by omega)
    have h4 : e * 2 ^ (7 * k) ≤ 127 * 2 ^ 28 := Nat.mul_le_mul (by omega) h3
    have h5 : (127 : Nat) * 2 ^ 28 = 34091302912 := by decide
    have h6 : (2 : Nat) ^ 28 = 268435456 := by decide
    omega
  have h := or_nat x e (7 * k) h1 h2
  rw [← hp] at h
  simpa using h

/-- What is read with one byte more. -/
def nxt (k : Nat) (X c : Int) : Int := X + c % 128 * 128 ^ k
theorem pow_eq (k : Nat) : (2 : Int) ^ (7 * k) = 128 ^ k := by rw [Int.pow_mul]; rfl
theorem pow_bd (k : Nat) (hk : k < 5) : (1 : Int) ≤ 128 ^ k ∧ (128 : Int) ^ k ≤ 268435456 := by
  have : k = 0 ∨ k = 1 ∨ k = 2 ∨ k = 3 ∨ k = 4 := by omega
  rcases this with rfl | rfl | rfl | rfl | rfl <;> exact ⟨by decide, by decide⟩
theorem part_bd (k : Nat) (hk : k < 5) (c : Int) : 0 ≤ c % 128 * 128 ^ k ∧ c % 128 * 128 ^ k ≤ 127 * 128 ^ k := by
  have h := pow_bd k hk
  exact ⟨Int.mul_nonneg (by omega) (by omega), Int.mul_le_mul_of_nonneg_right (by omega) (by omega)⟩
theorem nxt_bd (k : Nat) (hk : k < 5) (X c : Int) (hX : 0 ≤ X) (hX' : X < 128 ^ k) : 0 ≤ nxt k X c ∧ nxt k X c < 128 ^ (k + 1) ∧ nxt k X c ≤ 34359738368 := by
  have h := pow_bd k hk
  have h2 := part_bd k hk c
  unfold nxt
  refine ⟨by omega, ?_, by omega⟩
  rw [Int.pow_succ]; omega
theorem wrap_part (k : Nat) (hk : k < 5) (c : Int) : wrap64 (c % 128 * 2 ^ (7 * k)) = c % 128 * 128 ^ k := by
  rw [pow_eq]
  have h := pow_bd k hk
  have h2 := part_bd k hk c
  unfold wrap64; omega
theorem or_nxt (k : Nat) (hk : k < 5) (X c : Int) (hX : 0 ≤ X) (hX' : X < 128 ^ k) : bits .or .i64 X (wrap64 (c % 128 * 2 ^ (7 * k))) = nxt k X c := by
  rw [wrap_part k hk c]
  exact or_add k hk X (c % 128) hX hX' (by omega) (by omega)
theorem add_nxt (k : Nat) (hk : k < 5) (X c : Int) (hX : 0 ≤ X) (hX' : X < 128 ^ k) : wrap64 (X + wrap64 (c % 128 * 2 ^ (7 * k))) = nxt k X c := by
  rw [wrap_part k hk c]
  have h := nxt_bd k hk X c hX hX'
  show wrap64 (nxt k X c) = _
  unfold wrap64; omega
theorem dropZ_at {zs : List Int} {j : Nat} (h : j < zs.length) : zs.drop j = zs[j]?.getD 0 :: zs.drop (j + 1) := by
  rw [List.drop_eq_getElem_cons h, List.getElem?_eq_getElem h]; rfl
section
variable {zs : List Int} {q k : Nat} {X c Y : Int} {r : Option (Int × Nat)}
theorem dg_more (hc : c = zs[q + k]?.getD 0) (hl : q + k < zs.length) (hk : k < 5) (h : r = dg (zs.drop (q + k)) k X) (hY : Y = nxt k X c) (h1 : 128 ≤ c) : r = dg (zs.drop (q + (k + 1))) (k + 1) Y := by
  rw [h, dropZ_at hl, ← hc, hY]; show (if k = 5 then _ else _) = _
  rw [if_neg (by omega), if_neg (by omega)]; rfl
theorem dg_bad (hc : c = zs[q + k]?.getD 0) (hl : q + k < zs.length) (h : r = dg (zs.drop (q + k)) k X) (hY : Y = nxt k X c) (h1 : c < 128) (h2 : (0 < k ∧ c = 0) ∨ 2147483647 < Y) : r = none := by
  rw [h, dropZ_at hl, ← hc]; show (if k = 5 then _ else _) = _
  split
  · rfl
  · rw [if_pos]; rw [hY] at h2; exact h2
theorem dg_good (hc : c = zs[q + k]?.getD 0) (hl : q + k < zs.length) (hk : k < 5) (h : r = dg (zs.drop (q + k)) k X) (hY : Y = nxt k X c) (h1 : c < 128) (h2 : ¬ ((0 < k ∧ c = 0) ∨ 2147483647 < Y)) : r = some (Y, k + 1) := by
  rw [h, dropZ_at hl, ← hc]; show (if k = 5 then _ else _) = _
  rw [if_neg (by omega), if_pos h1, if_neg]
  · rw [hY]; rfl
  · rw [hY] at h2; exact h2
theorem dg_end (hl : zs.length ≤ q + k) (h : r = dg (zs.drop (q + k)) k X) : r = none := by
  rw [h, List.drop_eq_nil_of_le hl]; rfl
theorem dg_five (h : r = dg (zs.drop (q + 5)) 5 X) : r = none := by
  rw [h]
  cases zs.drop (q + 5) with
  | nil => rfl
  | cons a l => rfl
end
theorem res_in (zs : List Int) (q : Nat) (h : q ≤ zs.length) : res zs (q : Int) = dg (zs.drop (q + 0)) 0 0 := by
  unfold res; rw [if_pos ⟨by omega, by omega⟩]; rfl
theorem res_out (zs : List Int) (p : Int) (h : ¬ (0 ≤ p ∧ p < zs.length)) : res zs p = none := by
  unfold res; split
  · rename_i h'
    have : p.toNat = zs.length := by omega
    rw [this, List.drop_length]; rfl
  · rfl
end Go.Proofs.Ytjndcfamfminkaq
/- The walks through GetNum, the program's and the model's. No statement of the seat is proved here. -/
namespace Go.Proofs.Ytjndcfamfminkaq
open Go.RowKit

theorem out_none {r : Option (Int × Nat)} (h : r = none) (p : Int) : Ending.returned (.tuple #[.int .i64 0, .int .i64 0, .bool false]) = .returned (out3 r p) := by rw [h]; rfl
theorem out_some {r : Option (Int × Nat)} {n m : Int} {u : Nat} {p : Int} (h : r = some (n, u)) (hm : m = p + u) : Ending.returned (.tuple #[.int .i64 n, .int .i64 m, .bool true]) = .returned (out3 r p) := by rw [h, hm]; rfl

set_option maxRecDepth 200000 in
/-- At no place within the bytes. -/
theorem getSpec_out (a : Option Addr) (len cap : Nat) (p : Int) (zs : List Int) (w : World) (hl : zs.length = len) (hlen : len ≤ 1048576) (hp : ¬ (0 ≤ p ∧ p < len)) :
    Calls Try.prog 96 #[.slice a len cap, .int .i64 p] w fun e w' => e = .returned (out3 (res zs p) p) ∧ w' = w := by
  have HR : Hid (res zs p = none) := res_out zs p (by rw [hl]; exact hp)
  clear hl
  by_cases h0 : p < 0
  · clear hp
    go_enter Try.func96, Try.ntmps96
    go_wp2
    refine wp_loop_rounds 1 ?_
    rw [rounds_succ]
    go_wp2
    go_ret3
    exact ⟨out_none HR.out p, rfl⟩
  · have h0' : decide (p < 0) = false := by simpa using h0
    have h1 : (len : Int) ≤ p := by omega
    clear hp
    go_enter Try.func96, Try.ntmps96
    go_wp2
    refine wp_loop_rounds 1 ?_
    rw [rounds_succ]
    go_wp2
    go_ret3
    exact ⟨out_none HR.out p, rfl⟩

set_option maxRecDepth 200000 in
set_option maxHeartbeats 800000 in
theorem getSpec_in (b off len cap q : Nat) (zs : List Int) (w : World) (hl : zs.length = len) (hlen : len ≤ 1048576) (hr : ∀ n ∈ zs, 0 ≤ n ∧ n ≤ 255)
    (hc : ∀ i, i < len → w.cell? ⟨b, off + i, none⟩ = some (.int .u8 (zs.getD i 0))) (hq : q < len) :
    Calls Try.prog 96 #[.slice (some ⟨b, off, none⟩) len cap, .int .i64 q] w fun e w' => e = .returned (out3 (res zs q) q) ∧ w' = w := by
  have Hr : Hid (∀ n ∈ zs, 0 ≤ n ∧ n ≤ 255) := hr
  have HL : Hid (zs.length = len) := hl
  obtain ⟨r, hres⟩ : ∃ r, r = res zs q := ⟨_, rfl⟩
  rw [← hres]
  have H0 : Hid (r = dg (zs.drop (q + 0)) 0 0) := by rw [hres]; exact res_in zs q (by omega)
  have hd0 : decide ((q : Int) < 0) = false := by simp
  clear hr hl hres
  go_enter Try.func96, Try.ntmps96
  go_wp2
  go_loop [7, 8] (fun s i => ∃ (k : Nat) (X : Int), k ≤ 5 ∧ i = .int .i64 k ∧ s = .int .i64 X ∧ 0 ≤ X ∧ Hid (X < 128 ^ k) ∧ Hid (r = dg (zs.drop (q + k)) k X)) (fun _ i => 5 - (intOf i).toNat)
  case atStart => exact ⟨0, 0, by omega, rfl, rfl, by omega, by show (0 : Int) < 128 ^ 0; decide, H0⟩
  case round =>
    obtain ⟨k, X, hk, rfl, rfl, hX, HX, HR⟩ := hrel
    clear H0
    by_cases hk5 : k < 5
    · by_cases hin : q + k < len
      · have hck := hc (q + k) hin
        have hb := getD_range Hr.out (q + k)
        obtain ⟨c, hce⟩ : ∃ c, c = zs[q + k]?.getD 0 := ⟨_, rfl⟩
        rw [List.getD_eq_getElem?_getD, ← hce] at hck
        rw [← hce] at hb
        have HC : Hid (c = zs[q + k]?.getD 0) := hce
        obtain ⟨hb0, hb1⟩ := hb
        obtain ⟨Y, hYe⟩ : ∃ Y, Y = nxt k X c := ⟨_, rfl⟩
        have hor := or_nxt k hk5 X c hX HX.out
        rw [← hYe] at hor
        have hYb := nxt_bd k hk5 X c hX HX.out
        rw [← hYe] at hYb
        obtain ⟨hY0, hY1, hY2⟩ := hYb
        have HY1 : Hid (Y < 128 ^ (k + 1)) := hY1
        have HY : Hid (Y = nxt k X c) := hYe
        have hinZ : q + k < zs.length := by rw [HL.out]; exact hin
        have HinZ : Hid (q + k < zs.length) := hinZ
        have hge : decide ((len : Int) - (k : Int) ≤ (q : Int)) = false := by simp; omega
        clear hce hYe hY1 hinZ hc
        by_cases h128 : c < 128
        · by_cases hk0 : 0 < k
          · by_cases hc0 : c = 0
            · have e2 : (c == 0) = true := by simp [hc0]
              have HN : Hid (r = none) := dg_bad HC.out HinZ.out HR.out HY.out h128 (.inl ⟨hk0, hc0⟩)
              clear hc0
              go_wp2
              go_ret3
              exact ⟨out_none HN.out _, rfl⟩
            · have e2 : (c == 0) = false := by simp [hc0]
              by_cases hbig : 2147483647 < Y
              · have HN : Hid (r = none) := dg_bad HC.out HinZ.out HR.out HY.out h128 (.inr hbig)
                clear hc0
                go_wp2
                go_ret3
                exact ⟨out_none HN.out _, rfl⟩
              · have HN : Hid (r = some (Y, k + 1)) := dg_good HC.out HinZ.out hk5 HR.out HY.out h128 (by omega)
                clear hc0
                go_wp2
                go_ret3
                exact ⟨out_some HN.out (by omega), rfl⟩
          · by_cases hbig : 2147483647 < Y
            · have HN : Hid (r = none) := dg_bad HC.out HinZ.out HR.out HY.out h128 (.inr hbig)
              go_wp2
              go_ret3
              exact ⟨out_none HN.out _, rfl⟩
            · have HN : Hid (r = some (Y, k + 1)) := dg_good HC.out HinZ.out hk5 HR.out HY.out h128 (by omega)
              go_wp2
              go_ret3
              exact ⟨out_some HN.out (by omega), rfl⟩
        · have HN : Hid (r = dg (zs.drop (q + (k + 1))) (k + 1) Y) := dg_more HC.out HinZ.out hk5 HR.out HY.out (by omega)
          go_wp2
          go_round
          case rel => exact ⟨k + 1, Y, by omega, by go_num, rfl, hY0, HY1, HN⟩
          case measure => simp [intOf]; omega
      · have HN : Hid (r = none) := dg_end (by rw [HL.out]; omega) HR.out
        have hge : decide ((len : Int) - (k : Int) ≤ (q : Int)) = true := by simp; omega
        go_wp2
        go_ret3
        exact ⟨out_none HN.out _, rfl⟩
    · obtain rfl : k = 5 := by omega
      have HN : Hid (r = none) := dg_five HR.out
      go_wp2
      go_ret3
      exact ⟨out_none HN.out _, rfl⟩
end Go.Proofs.Ytjndcfamfminkaq
/- The walks through readNum and GetNum of the program: what is no number panics inside and is recovered at the face. No statement of the seat is proved here. -/
namespace Go.Proofs.Ytjndcfamfminkaq
open Go.RowKit

/-- The panic that says 'no number'. -/
def noNum : List PanicEntry := [{ v := .iface 9 (.string ⟨#[110, 111, 32, 110, 117, 109, 98, 101, 114]⟩), recovered := false }]
/-- How readNum ends: it returns the number and the place behind it, or it panics. -/
def outRead (r : Option (Int × Nat)) (p : Int) : Ending := match r with
  | none => .panicked noNum
  | some (n, u) => .returned (.tuple #[.int .i64 n, .int .i64 (p + u)])
theorem read_none {r : Option (Int × Nat)} (h : r = none) (p : Int) : Ending.panicked noNum = outRead r p := by rw [h]; rfl
theorem read_some {r : Option (Int × Nat)} {n m : Int} {u : Nat} {p : Int} (h : r = some (n, u)) (hm : m = p + u) : Ending.returned (.tuple #[.int .i64 n, .int .i64 m]) = outRead r p := by rw [h, hm]; rfl

set_option maxRecDepth 200000 in
theorem read_out (a : Option Addr) (len cap : Nat) (p : Int) (zs : List Int) (w : World) (hl : zs.length = len) (hp : ¬ (0 ≤ p ∧ p ≤ len)) :
    Calls Try.prog 120 #[.slice a len cap, .int .i64 p] w fun e w' => e = outRead (res zs p) p ∧ w' = w := by
  have HR : Hid (res zs p = none) := res_out zs p (by rw [hl]; omega)
  clear hl
  by_cases h0 : p < 0
  · clear hp
    go_enter Try.func120, Try.ntmps120
    go_wp2
    exact ⟨rfl, read_none HR.out p, rfl⟩
  · have h0' : decide (p < 0) = false := by simpa using h0
    have h1 : (len : Int) < p := by omega
    clear hp
    go_enter Try.func120, Try.ntmps120
    go_wp2
    exact ⟨rfl, read_none HR.out p, rfl⟩

set_option maxRecDepth 200000 in
set_option maxHeartbeats 800000 in
theorem read_in (b off len cap q : Nat) (zs : List Int) (w : World) (hl : zs.length = len) (hlen : len ≤ 1048576) (hcap : len ≤ cap) (hr : ∀ n ∈ zs, 0 ≤ n ∧ n ≤ 255)
    (hc : ∀ i, i < len → w.cell? ⟨b, off + i, none⟩ = some (.int .u8 (zs.getD i 0))) (hq : q < len) :
    Calls Try.prog 120 #[.slice (some ⟨b, off, none⟩) len cap, .int .i64 q] w fun e w' => e = outRead (res zs q) q ∧ w' = w := by
  have Hr : Hid (∀ n ∈ zs, 0 ≤ n ∧ n ≤ 255) := hr
  have HL : Hid (zs.length = len) := hl
  obtain ⟨r, hres⟩ : ∃ r, r = res zs q := ⟨_, rfl⟩
  rw [← hres]
  have H0 : Hid (r = dg (zs.drop (q + 0)) 0 0) := by rw [hres]; exact res_in zs q (by omega)
  have hd0 : decide ((q : Int) < 0) = false := by simp
  have hd1 : decide (len < q) = false := by simp; omega
  clear hr hl hres
  go_enter Try.func120, Try.ntmps120
  go_wp2
  clear hd0 hd1
  go_loop [6, 22] (fun s i => ∃ (k : Nat) (X : Int), k ≤ 5 ∧ k ≤ len - q ∧ i = .int .i64 k ∧ s = .int .i64 X ∧ 0 ≤ X ∧ Hid (k < 5 → X < 128 ^ k) ∧ Hid (r = dg (zs.drop (q + k)) k X)) (fun _ i => 5 - (intOf i).toNat)
  case atStart => exact ⟨0, 0, by omega, by omega, rfl, rfl, by omega, by show 0 < 5 → (0 : Int) < 128 ^ 0; decide, H0⟩
  case round =>
    obtain ⟨k, X, hk, hkl, rfl, rfl, hX, HX, HR⟩ := hrel
    clear H0
    by_cases hin : k < len - q
    · have hin' : q + k < len := by omega
      have hck := hc (q + k) hin'
      rw [← Nat.add_assoc] at hck
      have hb := getD_range Hr.out (q + k)
      obtain ⟨c, hce⟩ : ∃ c, c = zs[q + k]?.getD 0 := ⟨_, rfl⟩
      rw [List.getD_eq_getElem?_getD, ← hce] at hck
      rw [← hce] at hb
      have HC : Hid (c = zs[q + k]?.getD 0) := hce
      obtain ⟨hb0, hb1⟩ := hb
      have HinZ : Hid (q + k < zs.length) := by rw [HL.out]; exact hin'
      clear hce hc
      by_cases hk5 : k < 5
      · have hk5b : ((k : Int) == 5) = false := by simp; omega
        obtain ⟨Y, hYe⟩ : ∃ Y, Y = nxt k X c := ⟨_, rfl⟩
        have hor := add_nxt k hk5 X c hX (HX.out hk5)
        rw [← hYe] at hor
        have hYb := nxt_bd k hk5 X c hX (HX.out hk5)
        rw [← hYe] at hYb
        obtain ⟨hY0, hY1, hY2⟩ := hYb
        have HY1 : Hid (k + 1 < 5 → Y < 128 ^ (k + 1)) := fun _ => hY1
        have HY : Hid (Y = nxt k X c) := hYe
        clear hYe hY1
        by_cases h128 : c < 128
        · by_cases hk0 : 0 < k
          · by_cases hc0 : c = 0
            · have e2 : (c == 0) = true := by simp [hc0]
              have HN : Hid (r = none) := dg_bad HC.out HinZ.out HR.out HY.out h128 (.inl ⟨hk0, hc0⟩)
              clear hc0
              go_wp2
              exact ⟨rfl, read_none HN.out _, rfl⟩
            · have e2 : (c == 0) = false := by simp [hc0]
              by_cases hbig : 2147483647 < Y
              · have HN : Hid (r = none) := dg_bad HC.out HinZ.out HR.out HY.out h128 (.inr hbig)
                clear hc0
                go_wp2
                exact ⟨rfl, read_none HN.out _, rfl⟩
              · have HN : Hid (r = some (Y, k + 1)) := dg_good HC.out HinZ.out hk5 HR.out HY.out h128 (by omega)
                clear hc0
                go_wp2
                go_ret2
                exact ⟨read_some HN.out (by omega), rfl⟩
          · by_cases hbig : 2147483647 < Y
            · have HN : Hid (r = none) := dg_bad HC.out HinZ.out HR.out HY.out h128 (.inr hbig)
              go_wp2
              exact ⟨rfl, read_none HN.out _, rfl⟩
            · have HN : Hid (r = some (Y, k + 1)) := dg_good HC.out HinZ.out hk5 HR.out HY.out h128 (by omega)
              go_wp2
              go_ret2
              exact ⟨read_some HN.out (by omega), rfl⟩
        · have HN : Hid (r = dg (zs.drop (q + (k + 1))) (k + 1) Y) := dg_more HC.out HinZ.out hk5 HR.out HY.out (by omega)
          go_wp2
          go_round
          case rel => exact ⟨k + 1, Y, by omega, by omega, by go_num, by rw [hor], hY0, HY1, HN⟩
          case measure => simp [intOf]; omega
      · obtain rfl : k = 5 := by omega
        have HN : Hid (r = none) := dg_five HR.out
        go_wp2
        exact ⟨rfl, read_none HN.out _, rfl⟩
    · have HN : Hid (r = none) := dg_end (by rw [HL.out]; omega) HR.out
      go_wp2
      exact ⟨rfl, read_none HN.out _, rfl⟩

set_option maxRecDepth 200000 in
/-- Just behind the last byte, or at the one place of a slice without bytes. -/
theorem read_last (a : Option Addr) (len cap : Nat) (zs : List Int) (w : World) (hl : zs.length = len) (hlen : len ≤ 1048576) (hcap : len ≤ cap) (ha : a = none → cap = 0) :
    Calls Try.prog 120 #[.slice a len cap, .int .i64 len] w fun e w' => e = outRead (res zs len) len ∧ w' = w := by
  have HR : Hid (res zs (len : Int) = none) := res_out zs len (by rw [hl]; omega)
  have hd0 : decide ((len : Int) < 0) = false := by simp
  have hd1 : decide (len < len) = false := by simp
  clear hl
  cases a with
  | none =>
    obtain rfl : cap = 0 := ha rfl
    obtain rfl : len = 0 := by omega
    go_enter Try.func120, Try.ntmps120
    go_wp2
    refine wp_loop_rounds 1 ?_
    rw [rounds_succ]
    go_wp2
    exact ⟨rfl, read_none HR.out _, rfl⟩
  | some x =>
    go_enter Try.func120, Try.ntmps120
    go_wp2
    all_goals
      refine wp_loop_rounds 1 ?_
      rw [rounds_succ]
      go_wp2
      exact ⟨rfl, read_none HR.out _, rfl⟩

set_option maxRecDepth 200000 in
theorem read_any (a : Option Addr) (len cap : Nat) (p : Int) (zs : List Int) (w : World) (h : RdB w a len zs) (hlen : len ≤ 1048576) (hcap : len ≤ cap) (ha : a = none → cap = 0) :
    Calls Try.prog 120 #[.slice a len cap, .int .i64 p] w fun e w' => e = outRead (res zs p) p ∧ w' = w := by
  by_cases hp : 0 ≤ p ∧ p ≤ len
  · obtain ⟨q, rfl⟩ := Int.eq_ofNat_of_zero_le hp.1
    by_cases hq : q = len
    · subst hq
      exact read_last a q cap zs w h.length hlen hcap ha
    · rcases h.cells with h0 | ⟨b, off, rfl, hc⟩
      · omega
      · exact read_in b off len cap q zs w h.length hlen hcap h.range hc (by omega)
  · exact read_out a len cap p zs w h.length hp
set_option maxRecDepth 200000 in
theorem getSpec_any (a : Option Addr) (len cap : Nat) (p : Int) (zs : List Int) (w : World) (h : RdB w a len zs) (hlen : len ≤ 1048576) :
    Calls Try.prog 96 #[.slice a len cap, .int .i64 p] w fun e w' => e = .returned (out3 (res zs p) p) ∧ w' = w := by
  by_cases hp : 0 ≤ p ∧ p < len
  · obtain ⟨q, rfl⟩ := Int.eq_ofNat_of_zero_le hp.1
    rcases h.cells with h0 | ⟨b, off, rfl, hc⟩
    · omega
    · exact getSpec_in b off len cap q zs w h.length hlen h.range hc (by omega)
  · exact getSpec_out a len cap p zs w h.length hlen hp
/-- The deferred function, where the frame panics: the three results are laid anew. -/
theorem catch_panicking (p0 p1 p2 : Addr) (v0 v1 v2 : Value) (u : TypeId) (pv : Value) (older : List PanicEntry) (w : World)
    (h01 : ¬ p0 = p1) (h02 : ¬ p0 = p2) (h12 : ¬ p1 = p2)
    (hc0 : w.cell? p0 = some v0) (hz0 : w.frozen? p0 = false) (hc1 : w.cell? p1 = some v1) (hz1 : w.frozen? p1 = false) (hc2 : w.cell? p2 = some v2) (hz2 : w.frozen? p2 = false) :
    CallsD Try.prog 119 #[.pointer (some p0), .pointer (some p1), .pointer (some p2)] (.panicking ({ v := .iface u pv, recovered := false } :: older)) w fun e u' w' =>
      e = .returned (.tuple #[]) ∧ u' = .panicking ({ v := .iface u pv, recovered := true } :: older) ∧ w' = ((w.setCell p0 (.int .i64 0)).setCell p1 (.int .i64 0)).setCell p2 (.bool false) := by
  refine callsD_of_wpS Try.func119 rfl fun c₀ cs hu => ?_
  apply wpS_seq
  apply wpS_region
  simp [wpOpsS, go_sem, recoverD, hu, Try.ntmps119, Exit.thenS]
  refine wpS_cond (t := true) (by simp [Act.eval, Array.replicate]) ?_
  simp only [if_true]
  apply wpS_region
  simp [wpOpsS, go_sem, hc0, hz0, hc1, hz1, hc2, hz2, h01, h02, h12, bodyPostS, results, Try.results119]
theorem catch_idle (p0 p1 p2 : Addr) (w : World) :
    CallsD Try.prog 119 #[.pointer (some p0), .pointer (some p1), .pointer (some p2)] .returning w fun e u' w' => e = .returned (.tuple #[]) ∧ u' = .returning ∧ w' = w := by
  refine callsD_of_wpS Try.func119 rfl fun c₀ cs hu => ?_
  apply wpS_seq
  apply wpS_region
  simp [wpOpsS, go_sem, recoverD, hu, Try.ntmps119, Exit.thenS]
  refine wpS_cond (t := false) (by simp [Act.eval, Array.replicate]) ?_
  simp only [Bool.false_eq_true, if_false]
  refine wpS_of_wp (wp_skip ?_)
  cases c₀
  simp_all [bodyPostS, results, Try.results119]
end Go.Proofs.Ytjndcfamfminkaq
/- The walk through the model's l7Get. No statement of the seat is proved here. -/
namespace Go.Proofs.Ytjndcfamfminkaq
open Go.RowKit
/-- So many numbers, one behind the other, from that place on; and the place behind them. -/
def getTo (zs : List Int) (p : Int) : Nat → Option (List Int × Int)
  | 0 => some ([], p)
  | k + 1 => match getTo zs p k with
    | none => none
    | some (l, q) => match res zs q with
      | none => none
      | some (n, u) => some (l ++ [n], q + u)
theorem getTo_none {zs : List Int} {p : Int} {k : Nat} (h : getTo zs p k = none) : ∀ {m : Nat}, k ≤ m → getTo zs p m = none
  | 0, hm => by obtain rfl : k = 0 := by omega
                exact h
  | m + 1, hm => by
    by_cases e : k = m + 1
    · subst e; exact h
    · rw [getTo, getTo_none h (m := m) (by omega)]
theorem getTo_len {zs : List Int} {p : Int} : ∀ {k : Nat} {l : List Int} {q : Int}, getTo zs p k = some (l, q) → l.length = k
  | 0, l, q, h => by
    rw [getTo] at h
    cases h
    rfl
  | k + 1, l, q, h => by
    rw [getTo] at h
    split at h
    · cases h
    · rename_i l' q' e
      split at h
      · cases h
      · cases h
        rw [List.length_append, getTo_len e]
        rfl
theorem cell_one7 (w : World) (x : Value) (t : TypeId) : ∀ j u, [x][j]? = some u → (w.alloc (.cells #[x] t)).cell? ((⟨w.heap.size, 0, none⟩ : Addr).add j) = some u
  | 0, u, hx => by
    obtain rfl : x = u := by simpa using hx
    simp [Addr.add]
  | j + 1, u, hx => by simp at hx
set_option maxRecDepth 100000 in
set_option maxHeartbeats 4000000 in
theorem l7Get_any (a : Option Addr) (len cap : Nat) (p : Int) (m : Nat) (zs : List Int) (w : World) (h : RdB w a len zs) (hlen : len ≤ 1048576) (hm : m ≤ 1048576) :
    Calls Try.prog 52 #[.slice a len cap, .int .i64 p, .int .i64 m] w fun e w' => (∃ v l q, e = .returned (.tuple #[v, .int .i64 q, .bool (getTo zs p m).isSome]) ∧ w'.ownsRow w.heap.size 3 1 v l.length (l.map (Value.int .i64)) ∧ (getTo zs p m).getD ([], 0) = (l, q)) ∧ Below w.heap.size w w' := by
  obtain ⟨i0, hi, hz0, hz1, hz2⟩ := info_parts infoInt
  have HR : Hid (RdB w a len zs) := h
  clear h
  go_enter Try.func52, Try.ntmps52
  go_wp2
  go_loopw [1, 9, 10] (fun at_ v i wr => ∃ (k : Nat) (l : List Int) (q : Int), k ≤ m ∧ i = .int .i64 k ∧ at_ = .int .i64 q ∧ Hid (getTo zs p k = some (l, q)) ∧ Hid (wr.ownsRow w.heap.size 3 1 v l.length (l.map (Value.int .i64)) ∧ Below w.heap.size w wr)) (fun _ _ i _ => m - (intOf i).toNat)
  case atStart => exact ⟨0, [], p, by omega, rfl, rfl, rfl, own_empty w _, (Below.refl _ _).alloc (Nat.le_refl _) _⟩
  case round =>
    obtain ⟨k, l, q, hk, rfl, rfl, HG, HO⟩ := hrel
    by_cases hlt : k < m
    · have hI : (k : Int) < (m : Int) := by omega
      have hll := getTo_len HG.out
      go_wp2_with fail
      refine (getSpec_any a len cap q zs _ (HR.out.below HO.out.2) hlen).mono ?_
      rintro e w1 ⟨rfl, hw1⟩
      have hw1' := hw1.symm
      subst hw1'
      clear hw1
      obtain ⟨r, hr⟩ : ∃ r, r = res zs q := ⟨_, rfl⟩
      rw [← hr]
      have HRes : Hid (r = res zs q) := hr
      clear hr
      rcases r with _ | ⟨n, u⟩
      · have HV : Hid (getTo zs p m = none) := getTo_none (k := k + 1) (by rw [getTo, HG.out]; simp only; rw [← HRes.out]) (by omega)
        have HE : Hid ((wr.alloc (.cells #[] 3)).ownsRow wr.heap.size 3 1 (.slice (some ⟨wr.heap.size, 0, none⟩) 0 0) 0 []) := own_empty wr _
        simp only [out3]
        go_wp2
        go_ret3
        rw [HV.out]
        exact ⟨⟨_, [], 0, rfl, own_mono7 HE.out HO.out.2.size, rfl⟩, Below.next HO.out.2 ((Below.refl _ _).alloc (Nat.le_refl _) _)⟩
      · have HG2 : Hid (getTo zs p (k + 1) = some (l ++ [n], q + u)) := by show _ = _; rw [getTo, HG.out]; simp only; rw [← HRes.out]
        simp only [out3]
        obtain ⟨q2, hq2⟩ : ∃ q2, q2 = q + (u : Int) := ⟨_, rfl⟩
        rw [← hq2] at HG2 ⊢
        clear hq2
        go_wp2_with (with_reducible refine stopAppend rfl ?_)
        refine Stop.intro (wpList_append_own _ rfl _ _ 22 rfl w.heap.size 3 i0 (.int .i64 0) 1 8 Try.underlying22 hi hz0 hz1 hz2 rfl (by decide) _ _ _ rfl (HO.out.1.alloc _) ⟨wr.heap.size, 0, none⟩ 1 1 [.int .i64 n] rfl rfl (cell_one7 _ _ _) (by intro u hu; simp at hu; subst hu; rfl) (by unfold maxLen; omega) (by omega) (by have := HO.out.2.size; simp; omega) ?_)
        intro v2 w2 hown hgrow _
        have hal : Below w.heap.size w (wr.alloc (.cells #[.int .i64 n] 3)) := Below.allocW _ HO.out.2 (Nat.le_refl _)
        have hb2 : Below w.heap.size w w2 := hal.grown hgrow hal.size (fun g hg => (HO.out.1.lt g hg).1)
        have HO2 : Hid (w2.ownsRow w.heap.size 3 1 v2 (l ++ [n]).length ((l ++ [n]).map (Value.int .i64)) ∧ Below w.heap.size w w2) := by
          refine ⟨?_, hb2⟩
          rw [List.length_append, List.map_append]
          exact hown
        clear hown hgrow hal hb2 HO HG
        go_wp2
        go_roundw
        case rel => exact ⟨k + 1, l ++ [n], q2, by omega, by go_num, by rfl, HG2, HO2⟩
        case measure => simp [intOf]; omega
    · obtain rfl : k = m := by omega
      go_wp2
      go_ret3
      rw [HG.out]
      exact ⟨⟨_, l, q, rfl, HO.out.1, rfl⟩, HO.out.2⟩
end Go.Proofs.Ytjndcfamfminkaq
/- The walk through the model's l7Body. No statement of the seat is proved here. -/
namespace Go.Proofs.Ytjndcfamfminkaq
open Go.RowKit
theorem rd_lit7 (w : World) (zs : List Int) (t : TypeId) (hz : 0 < zs.length) : RdI (w.alloc (.cells (zs.map (Value.int .i64)).toArray t)) (some ⟨w.heap.size, 0, none⟩) zs.length zs [w.heap.size] :=
  ⟨rfl, .inr ⟨w.heap.size, 0, hz, rfl, rfl, fun i hi => by rw [Nat.zero_add, (Blk.made w _ t).cell i]; simp [hi]⟩⟩
theorem putAll_pos {a : Int} {l : List Int} (h : InN a) : 0 < (putAll (a :: l)).length := by
  have e : putAll (a :: l) = encOf a ++ putAll l := by simp [putAll]
  have p := encOf_pos h
  rw [e, List.length_append]
  omega
/-- Bytes that grow beside a box. -/
structure ByteSt (w : World) (cs : Array Value) (t : TypeId) (v : Value) (xs : List Int) (W : World) : Prop where
  box : Blk W w.heap.size cs t
  own : W.ownsRow (w.heap.size + 1) 5 1 v xs.length (xs.map (Value.int .u8))
  bel : Below w.heap.size w W
theorem ByteSt.size {w W : World} {cs : Array Value} {t : TypeId} {v : Value} {xs : List Int} (h : ByteSt w cs t v xs W) : w.heap.size + 1 ≤ W.heap.size := h.box.lt
theorem ByteSt.below {w W W' : World} {cs : Array Value} {t : TypeId} {v : Value} {xs : List Int} (h : ByteSt w cs t v xs W) (b : Below W.heap.size W W') : ByteSt w cs t v xs W' := ⟨h.box.below b, ownsRow_below h.own b, Below.next h.bel b⟩
theorem ByteSt.app {w W W' : World} {cs : Array Value} {t : TypeId} {v v' : Value} {xs ys : List Int} {m : Nat} (h : ByteSt w cs t v xs W) (hm : ys.length = m) (hown : W'.ownsRow (w.heap.size + 1) 5 1 v' (xs.length + m) (xs.map (Value.int .u8) ++ ys.map (Value.int .u8))) (hg : W.grownBy W' v.ownBlock) : ByteSt w cs t v' (xs ++ ys) W' := by
  have b : Below (w.heap.size + 1) W W' := (Below.refl _ _).grown hg h.size (fun g e => (h.own.lt g e).1)
  refine ⟨h.box.agree (b.block _ (Nat.lt_succ_self _)), ?_, h.bel.trans (b.mono (by omega))⟩
  rw [List.length_append, List.map_append, hm]
  exact hown
def BoxS (w : World) (A : Array Value) (t : TypeId) (W : World) : Prop := Blk W w.heap.size A t ∧ Below w.heap.size w W
theorem boxS_below {w : World} {A : Array Value} {t : TypeId} {W W' : World} (h : BoxS w A t W) (b : Below W.heap.size W W') : BoxS w A t W' := ⟨h.1.below b, Below.next h.2 b⟩
theorem lead7 (w : World) (A C : Array Value) (t e : TypeId) (m : Nat × Nat) (o : Obj) : BoxS w A t (((w.alloc (.cells A t)).alloc (.cells C e m)).alloc o) ∧ ∀ j, (((w.alloc (.cells A t)).alloc (.cells C e m)).alloc o).cell? ⟨w.heap.size + 1, j, none⟩ = C[j]? := by
  have b1 : Below (w.alloc (.cells A t)).heap.size (w.alloc (.cells A t)) ((w.alloc (.cells A t)).alloc (.cells C e m)) := (Below.refl _ _).alloc (Nat.le_refl _) _
  have b2 : Below ((w.alloc (.cells A t)).alloc (.cells C e m)).heap.size ((w.alloc (.cells A t)).alloc (.cells C e m)) (((w.alloc (.cells A t)).alloc (.cells C e m)).alloc o) := (Below.refl _ _).alloc (Nat.le_refl _) _
  have s1 : BoxS w A t (w.alloc (.cells A t)) := ⟨Blk.made _ _ _, (Below.refl _ _).alloc (Nat.le_refl _) _⟩
  refine ⟨boxS_below (boxS_below s1 b1) b2, fun j => ?_⟩
  have hs : (w.alloc (.cells A t)).heap.size = w.heap.size + 1 := by simp
  have hg : ((w.alloc (.cells A t)).alloc (.cells C e m)).heap[w.heap.size + 1]? = some (.cells C e m) := by rw [← hs]; exact heap_alloc_new _ _
  have hk := b2.block (w.heap.size + 1) (by simp)
  rw [hg] at hk
  simp only [World.cell?, hk]
  rfl
set_option maxRecDepth 100000 in
set_option maxHeartbeats 8000000 in
theorem l7Body_any (v : Value) (x : Fr) (F G : List Nat) (w : World) (h : RdFr w v x F G) (hx : x.Right) (hw : x.item.sk.wide) :
    Calls Try.prog 60 #[v] w fun e w' => ∃ u, e = .returned u ∧ w'.ownsRow w.heap.size 5 1 u x.body.length (x.body.map (Value.int .u8)) ∧ Below w.heap.size w w' := by
  obtain ⟨i0, hi, hz0, hz1, hz2⟩ := info_parts Try.info5
  obtain ⟨b, l, c, a1, n1, c1, a2, n2, c2, a3, n3, c3, rfl, hp, hr, _⟩ := h
  have HX : Hid (x.Right ∧ x.item.sk.wide ∧ RdSk w (.agg #[.int .i64 x.item.sk.count, .int .i64 x.item.sk.sum, .int .i64 x.item.sk.min, .int .i64 x.item.sk.max, .slice a1 n1 c1, .slice a2 n2 c2, .slice a3 n3 c3]) x.item.sk G) := ⟨hx, hw, by obtain ⟨_, _, _, _, _, _, _, _, _, e, q⟩ := hr; simp only [Value.agg.injEq] at e; cases e; exact q⟩
  have HP : Hid (RdP w b l x.taken F ∧ x.taken.length = l) := ⟨hp, hp.length⟩
  have hl : l ≤ 30 := by rw [← hp.length]; exact hx.many
  have HN5 : Hid (∀ z ∈ [x.kind, x.agent, x.epoch, x.granted, (l : Int)], InN z) := by
    intro z hz
    simp only [List.mem_cons, List.not_mem_nil, or_false] at hz
    have h1 := hx.kind
    have h2 := hx.agent
    have h3 := hx.epoch
    have h4 := hx.granted
    unfold InN
    rcases hz with rfl | rfl | rfl | rfl | rfl <;> omega
  have kc : (convert 27 27 (.slice (some ⟨w.heap.size + 1, 0, none⟩) 2 2)).run Try.prog ((w.alloc (.cells #[.int .i64 x.kind, .int .i64 x.agent, .int .i64 x.epoch, .int .i64 x.granted, .slice b l c, .int .i64 x.item.seq, .int .i64 x.item.cls, .int .i64 x.item.key, .int .i64 x.item.window, .int .i64 x.item.sk.count, .int .i64 x.item.sk.sum, .int .i64 x.item.sk.min, .int .i64 x.item.sk.max, .slice a1 n1 c1, .slice a2 n2 c2, .slice a3 n3 c3] 51)).alloc (.cells #[.int .u8 87, .int .u8 82] 5)) = .ok (.slice (some ⟨w.heap.size + 1, 0, none⟩) 2 2) ((w.alloc (.cells #[.int .i64 x.kind, .int .i64 x.agent, .int .i64 x.epoch, .int .i64 x.granted, .slice b l c, .int .i64 x.item.seq, .int .i64 x.item.cls, .int .i64 x.item.key, .int .i64 x.item.window, .int .i64 x.item.sk.count, .int .i64 x.item.sk.sum, .int .i64 x.item.sk.min, .int .i64 x.item.sk.max, .slice a1 n1 c1, .slice a2 n2 c2, .slice a3 n3 c3] 51)).alloc (.cells #[.int .u8 87, .int .u8 82] 5 (2, 3))) := by
    have e := Lib.run_convert_bytes_const (P := Try.prog) (w.alloc (.cells #[.int .i64 x.kind, .int .i64 x.agent, .int .i64 x.epoch, .int .i64 x.granted, .slice b l c, .int .i64 x.item.seq, .int .i64 x.item.cls, .int .i64 x.item.key, .int .i64 x.item.window, .int .i64 x.item.sk.count, .int .i64 x.item.sk.sum, .int .i64 x.item.sk.min, .int .i64 x.item.sk.max, .slice a1 n1 c1, .slice a2 n2 c2, .slice a3 n3 c3] 51)) 27 5 #[.int .u8 87, .int .u8 82] 2 2 Try.underlying27 Try.underlying5
    have s : (w.alloc (.cells #[.int .i64 x.kind, .int .i64 x.agent, .int .i64 x.epoch, .int .i64 x.granted, .slice b l c, .int .i64 x.item.seq, .int .i64 x.item.cls, .int .i64 x.item.key, .int .i64 x.item.window, .int .i64 x.item.sk.count, .int .i64 x.item.sk.sum, .int .i64 x.item.sk.min, .int .i64 x.item.sk.max, .slice a1 n1 c1, .slice a2 n2 c2, .slice a3 n3 c3] 51)).heap.size = w.heap.size + 1 := by simp
    rw [s] at e
    exact e
  clear hp hr hx hw
  go_enter Try.func60, Try.ntmps60
  go_wp2_with fail
  refine (l7Put_any (some ⟨w.heap.size + 1 + 1, 0, none⟩) 5 _ [x.kind, x.agent, x.epoch, x.granted, (l : Int)] [w.heap.size + 1 + 1] _ ?rd HN5.out (by omega)).mono ?_
  case rd =>
    have e := rd_lit7 ((w.alloc (.cells #[.int .i64 x.kind, .int .i64 x.agent, .int .i64 x.epoch, .int .i64 x.granted, .slice b l c, .int .i64 x.item.seq, .int .i64 x.item.cls, .int .i64 x.item.key, .int .i64 x.item.window, .int .i64 x.item.sk.count, .int .i64 x.item.sk.sum, .int .i64 x.item.sk.min, .int .i64 x.item.sk.max, .slice a1 n1 c1, .slice a2 n2 c2, .slice a3 n3 c3] 51)).alloc (.cells #[.int .u8 87, .int .u8 82] 5 (2, 3))) [x.kind, x.agent, x.epoch, x.granted, (l : Int)] 3 (by simp)
    simpa using e
  rintro e w1 ⟨v1, rfl, hown1, hb1⟩
  obtain ⟨g1, cap1, hv1, _⟩ := own_shape7 hown1 (putAll_pos (HN5.out _ (List.mem_cons_self ..)))
  have hv1' := hv1.symm
  subst hv1'
  have HE : Hid (∀ j u, ((putAll [x.kind, x.agent, x.epoch, x.granted, (l : Int)]).map (Value.int .u8))[j]? = some u → w1.cell? ((⟨g1, 0, none⟩ : Addr).add j) = some u) := own_news hown1
  have L := lead7 w #[.int .i64 x.kind, .int .i64 x.agent, .int .i64 x.epoch, .int .i64 x.granted, .slice b l c, .int .i64 x.item.seq, .int .i64 x.item.cls, .int .i64 x.item.key, .int .i64 x.item.window, .int .i64 x.item.sk.count, .int .i64 x.item.sk.sum, .int .i64 x.item.sk.min, .int .i64 x.item.sk.max, .slice a1 n1 c1, .slice a2 n2 c2, .slice a3 n3 c3] #[.int .u8 87, .int .u8 82] 51 5 (2, 3) (.cells #[.int .i64 x.kind, .int .i64 x.agent, .int .i64 x.epoch, .int .i64 x.granted, .int .i64 (l : Int)] 3)
  have HS2 : Hid (BoxS w #[.int .i64 x.kind, .int .i64 x.agent, .int .i64 x.epoch, .int .i64 x.granted, .slice b l c, .int .i64 x.item.seq, .int .i64 x.item.cls, .int .i64 x.item.key, .int .i64 x.item.window, .int .i64 x.item.sk.count, .int .i64 x.item.sk.sum, .int .i64 x.item.sk.min, .int .i64 x.item.sk.max, .slice a1 n1 c1, .slice a2 n2 c2, .slice a3 n3 c3] 51 w1 ∧ ∀ b, (some ⟨w.heap.size + 1, 0, none⟩ : Option Addr) = some b → ∀ j u, [Value.int .u8 87, .int .u8 82][j]? = some u → w1.cell? (b.add j) = some u) := by
    refine ⟨boxS_below L.1 hb1, fun b hb j u hj => ?_⟩
    cases hb
    have q := L.2 j
    have q1 : (w1.cell? ⟨w.heap.size + 1, j, none⟩) = some u := by
      rw [hb1.cell (p := ⟨w.heap.size + 1, j, none⟩) (by simp), q]
      simpa using hj
    rw [show (⟨w.heap.size + 1, 0, none⟩ : Addr).add j = ⟨w.heap.size + 1, j, none⟩ from by cases j <;> simp [Addr.add]]
    exact q1
  have hq := putAll_len [x.kind, x.agent, x.epoch, x.granted, (l : Int)]
  have hq0 : 0 < (putAll [x.kind, x.agent, x.epoch, x.granted, (l : Int)]).length := putAll_pos (HN5.out _ (List.mem_cons_self ..))
  simp only [List.length_cons, List.length_nil] at hq
  clear hown1 hb1 hv1 HN5 L kc
  go_wp2_with (with_reducible refine stopAppend rfl ?_)
  refine Stop.intro (wpList_append_grows _ rfl _ _ 27 rfl 5 i0 (.int .u8 0) 1 1 Try.underlying27 hi hz0 hz1 hz2 rfl (by decide) (some ⟨w.heap.size + 1, 0, none⟩) 2 2 [.int .u8 87, .int .u8 82] rfl (by intro h; cases h) rfl HS2.out.2 ⟨g1, 0, none⟩ (putAll [x.kind, x.agent, x.epoch, x.granted, (l : Int)]).length cap1 ((putAll [x.kind, x.agent, x.epoch, x.granted, (l : Int)]).map (Value.int .u8)) rfl (by simp) HE.out (u8_one _) (by omega) (by unfold maxLen; omega) (by omega) ?_)
  intro v2 w2 hown hgrow
  have HS3 : Hid (ByteSt w #[.int .i64 x.kind, .int .i64 x.agent, .int .i64 x.epoch, .int .i64 x.granted, .slice b l c, .int .i64 x.item.seq, .int .i64 x.item.cls, .int .i64 x.item.key, .int .i64 x.item.window, .int .i64 x.item.sk.count, .int .i64 x.item.sk.sum, .int .i64 x.item.sk.min, .int .i64 x.item.sk.max, .slice a1 n1 c1, .slice a2 n2 c2, .slice a3 n3 c3] 51 v2 (x.bodyTo 0) w2) := by
    have e : x.bodyTo 0 = [87, 82] ++ putAll [x.kind, x.agent, x.epoch, x.granted, (l : Int)] := by unfold Fr.bodyTo; rw [HP.out.2]; simp [flat, putAll]
    show ByteSt _ _ _ _ _ _
    rw [e]
    have b : Below w1.heap.size w1 w2 := (Below.refl _ _).grown hgrow (Nat.le_refl _) (fun g e => by cases e)
    refine ⟨HS2.out.1.1.below b, ?_, Below.next HS2.out.1.2 b⟩
    rw [List.length_append, List.map_append]
    exact own_mono7 hown HS2.out.1.1.lt
  clear hown hgrow HS2 HE hq hq0
  go_wp2
  go_loopw [3, 4] (fun v i wr => ∃ (k : Nat), k ≤ l ∧ i = .int .i64 k ∧ Hid (ByteSt w #[.int .i64 x.kind, .int .i64 x.agent, .int .i64 x.epoch, .int .i64 x.granted, .slice b l c, .int .i64 x.item.seq, .int .i64 x.item.cls, .int .i64 x.item.key, .int .i64 x.item.window, .int .i64 x.item.sk.count, .int .i64 x.item.sk.sum, .int .i64 x.item.sk.min, .int .i64 x.item.sk.max, .slice a1 n1 c1, .slice a2 n2 c2, .slice a3 n3 c3] 51 v (x.bodyTo k) wr)) (fun _ i _ => l - (intOf i).toNat)
  case atStart => exact ⟨0, by omega, rfl, HS3⟩
  case round =>
    clear HS3
    obtain ⟨k, hk, rfl, HQ⟩ := hrel
    have k4 := HQ.out.box.cell 4
    have k0 := HQ.out.box.cell 0
    simp only [aT, aS, aZ] at k4 k0
    by_cases hlt : k < l
    · rcases HP.out.1.cells with ⟨h0, _, _⟩ | ⟨b0, off, _, hb0, _, hc⟩
      · omega
      have hb0' := hb0.symm
      subst hb0'
      clear hb0
      obtain ⟨p, hp⟩ : ∃ p, p = (x.taken.at k).1 := ⟨_, rfl⟩
      obtain ⟨q, hq⟩ : ∃ p, p = (x.taken.at k).2 := ⟨_, rfl⟩
      have e := hc k hlt
      have e1 : w.cell? ⟨b0, off + k * 2, none⟩ = some (.int .i64 p) := by rw [hp]; exact e.1
      have e2 : w.cell? ⟨b0, off + k * 2 + 1, none⟩ = some (.int .i64 q) := by rw [hq]; exact e.2
      have hbw : b0 < w.heap.size := World.block_lt_of_cell? _ _ e1
      have HV : Hid (p = (x.taken.at k).1 ∧ q = (x.taken.at k).2 ∧ k < x.taken.length) := ⟨hp, hq, by rw [HP.out.2]; exact hlt⟩
      have HI : Hid (∀ z ∈ [p, q], InN z) := by
        intro z hz
        have s := HX.out.1.span k HV.out.2.2
        rw [← hp, ← hq] at s
        simp only [List.mem_cons, List.not_mem_nil, or_false] at hz
        unfold InN
        rcases hz with rfl | rfl <;> omega
      have HC : Hid (∀ W, BoxS w #[.int .i64 x.kind, .int .i64 x.agent, .int .i64 x.epoch, .int .i64 x.granted, .slice (some ⟨b0, off, none⟩) l c, .int .i64 x.item.seq, .int .i64 x.item.cls, .int .i64 x.item.key, .int .i64 x.item.window, .int .i64 x.item.sk.count, .int .i64 x.item.sk.sum, .int .i64 x.item.sk.min, .int .i64 x.item.sk.max, .slice a1 n1 c1, .slice a2 n2 c2, .slice a3 n3 c3] 51 W → W.cell? ⟨w.heap.size, 4, none⟩ = some (.slice (some ⟨b0, off, none⟩) l c) ∧ W.cell? ⟨b0, off + k * 2, none⟩ = some (.int .i64 p) ∧ W.cell? ⟨b0, off + k * 2 + 1, none⟩ = some (.int .i64 q)) := fun W h => ⟨by rw [h.1.cell]; rfl, (h.2.cell (by exact hbw)).trans e1, (h.2.cell (by exact hbw)).trans e2⟩
      have hI : (k : Int) < (l : Int) := by omega
      clear e e1 e2 hbw hp hq hc
      go_wp2
      clear k4 k0
      have HQ2 : Hid (ByteSt w #[.int .i64 x.kind, .int .i64 x.agent, .int .i64 x.epoch, .int .i64 x.granted, .slice (some ⟨b0, off, none⟩) l c, .int .i64 x.item.seq, .int .i64 x.item.cls, .int .i64 x.item.key, .int .i64 x.item.window, .int .i64 x.item.sk.count, .int .i64 x.item.sk.sum, .int .i64 x.item.sk.min, .int .i64 x.item.sk.max, .slice a1 n1 c1, .slice a2 n2 c2, .slice a3 n3 c3] 51 u3 (x.bodyTo k) wr.drew) := HQ.out.below (Below.refl _ _).drew
      have HS : Hid (BoxS w #[.int .i64 x.kind, .int .i64 x.agent, .int .i64 x.epoch, .int .i64 x.granted, .slice (some ⟨b0, off, none⟩) l c, .int .i64 x.item.seq, .int .i64 x.item.cls, .int .i64 x.item.key, .int .i64 x.item.window, .int .i64 x.item.sk.count, .int .i64 x.item.sk.sum, .int .i64 x.item.sk.min, .int .i64 x.item.sk.max, .slice a1 n1 c1, .slice a2 n2 c2, .slice a3 n3 c3] 51 wr.drew) := ⟨HQ2.out.box, HQ2.out.bel⟩
      clear HQ
      refine wp_region_held (S := BoxS w #[.int .i64 x.kind, .int .i64 x.agent, .int .i64 x.epoch, .int .i64 x.granted, .slice (some ⟨b0, off, none⟩) l c, .int .i64 x.item.seq, .int .i64 x.item.cls, .int .i64 x.item.key, .int .i64 x.item.window, .int .i64 x.item.sk.count, .int .i64 x.item.sk.sum, .int .i64 x.item.sk.min, .int .i64 x.item.sk.max, .slice a1 n1 c1, .slice a2 n2 c2, .slice a3 n3 c3] 51) (by kernel_rfl) ?_
      change wpAnyH _ _ _ _ _ _ _ _ (World.drew _)
      generalize wr.drew = Y at HQ2 HS ⊢
      refine takeH (o := ?o1) 0 (u3) ?h1 ?r1
      case h1 => simp only [aT, aZ]; rfl
      refine ⟨_, by simp [Act.put]; rfl, by kernel_rfl, by kernel_rfl, by kernel_rfl, fun _ _ _ h => h, (.inl ⟨rfl, fun W _ => by go_simp⟩), HS.out, ?_⟩
      refine takeH (o := ?o2) 1 (.pointer (some ⟨w.heap.size, 4, none⟩)) ?h2 ?r2
      case h2 => simp only [aT, aS, aZ]; rfl
      refine ⟨_, by simp [Act.put]; rfl, by kernel_rfl, by kernel_rfl, by kernel_rfl, fun _ _ _ h => h, (.inl ⟨rfl, fun W _ => by go_simp⟩), HS.out, ?_⟩
      refine takeH (o := ?o3) 2 (.slice (some ⟨b0, off, none⟩) l c) ?h3 ?r3
      case h3 => simp only [aT, aS, aZ]; rfl
      refine ⟨_, by simp [Act.put]; rfl, by kernel_rfl, by kernel_rfl, by kernel_rfl, fun _ _ _ h => h, (.inl ⟨rfl, fun W hW => by have c := (HC.out W hW).1; go_simp⟩), HS.out, ?_⟩
      refine takeH (o := ?o4) 3 (.int .i64 k) ?h4 ?r4
      case h4 => simp only [aT, aS, aZ]; rfl
      refine ⟨_, by simp [Act.put]; rfl, by kernel_rfl, by kernel_rfl, by kernel_rfl, fun _ _ _ h => h, (.inl ⟨rfl, fun W _ => by go_simp⟩), HS.out, ?_⟩
      refine takeH (o := ?o5) 4 (.pointer (some ⟨b0, off + k * 2, none⟩)) ?h5 ?r5
      case h5 => simp only [aT, aS, aZ]; rfl
      refine ⟨_, by simp [Act.put]; rfl, by kernel_rfl, by kernel_rfl, by kernel_rfl, fun _ _ _ h => h, (.inl ⟨rfl, fun W _ => by go_simp⟩), HS.out, ?_⟩
      refine takeH (o := ?o6) 5 (.pointer (some ⟨b0, off + k * 2, none⟩)) ?h6 ?r6
      case h6 => simp only [aT, aS, aZ]; rfl
      refine ⟨_, by simp [Act.put]; rfl, by kernel_rfl, by kernel_rfl, by kernel_rfl, fun _ _ _ h => h, (.inl ⟨rfl, fun W _ => by go_simp⟩), HS.out, ?_⟩
      refine takeH (o := ?o7) 6 (.int .i64 p) ?h7 ?r7
      case h7 => simp only [aT, aS, aZ]; rfl
      refine ⟨_, by simp [Act.put]; rfl, by kernel_rfl, by kernel_rfl, by kernel_rfl, fun _ _ _ h => h, (.inl ⟨rfl, fun W hW => by have c := (HC.out W hW).2.1; go_simp⟩), HS.out, ?_⟩
      refine takeH (o := ?o8) 7 (.pointer (some ⟨w.heap.size, 4, none⟩)) ?h8 ?r8
      case h8 => simp only [aT, aS, aZ]; rfl
      refine ⟨_, by simp [Act.put]; rfl, by kernel_rfl, by kernel_rfl, by kernel_rfl, fun _ _ _ h => h, (.inl ⟨rfl, fun W _ => by go_simp⟩), HS.out, ?_⟩
      refine takeH (o := ?o9) 8 (.slice (some ⟨b0, off, none⟩) l c) ?h9 ?r9
      case h9 => simp only [aT, aS, aZ]; rfl
      refine ⟨_, by simp [Act.put]; rfl, by kernel_rfl, by kernel_rfl, by kernel_rfl, fun _ _ _ h => h, (.inl ⟨rfl, fun W hW => by have c := (HC.out W hW).1; go_simp⟩), HS.out, ?_⟩
      refine takeH (o := ?o10) 9 (.int .i64 k) ?h10 ?r10
      case h10 => simp only [aT, aS, aZ]; rfl
      refine ⟨_, by simp [Act.put]; rfl, by kernel_rfl, by kernel_rfl, by kernel_rfl, fun _ _ _ h => h, (.inl ⟨rfl, fun W _ => by go_simp⟩), HS.out, ?_⟩
      refine takeH (o := ?o11) 10 (.pointer (some ⟨b0, off + k * 2, none⟩)) ?h11 ?r11
      case h11 => simp only [aT, aS, aZ]; rfl
      refine ⟨_, by simp [Act.put]; rfl, by kernel_rfl, by kernel_rfl, by kernel_rfl, fun _ _ _ h => h, (.inl ⟨rfl, fun W _ => by go_simp⟩), HS.out, ?_⟩
      refine takeH (o := ?o12) 11 (.pointer (some ⟨b0, off + k * 2 + 1, none⟩)) ?h12 ?r12
      case h12 => simp only [aT, aS, aZ]; rfl
      refine ⟨_, by simp [Act.put]; rfl, by kernel_rfl, by kernel_rfl, by kernel_rfl, fun _ _ _ h => h, (.inl ⟨rfl, fun W _ => by go_simp⟩), HS.out, ?_⟩
      refine takeH (o := ?o13) 12 (.int .i64 q) ?h13 ?r13
      case h13 => simp only [aT, aS, aZ]; rfl
      refine ⟨_, by simp [Act.put]; rfl, by kernel_rfl, by kernel_rfl, by kernel_rfl, fun _ _ _ h => h, (.inl ⟨rfl, fun W hW => by have c := (HC.out W hW).2.2; go_simp⟩), HS.out, ?_⟩
      refine onlyH (o := ?o14) 13 (by kernel_rfl) ?h14 ?r14
      case h14 => simp only [aT, aS, aZ]; rfl
      intro K hK
      refine op_turn (.slice (some ⟨Y.heap.size, 0, none⟩) 2 2) (Y.alloc (.cells #[.int .i64 p, .int .i64 q] 3)) rfl (by go_simp) ⟨_, by simp [Act.put]; rfl, hK _ _ ⟨boxS_below HS.out ((Below.refl _ _).alloc (Nat.le_refl _) _), ?_⟩⟩
      have HLit : Hid (RdI (Y.alloc (.cells #[.int .i64 p, .int .i64 q] 3)) (some ⟨Y.heap.size, 0, none⟩) 2 [p, q] [Y.heap.size]) := by
        have e := rd_lit7 Y [p, q] 3 (by simp)
        show RdI _ _ _ _ _
        simpa using e
      have HS : Hid (BoxS w #[.int .i64 x.kind, .int .i64 x.agent, .int .i64 x.epoch, .int .i64 x.granted, .slice (some ⟨b0, off, none⟩) l c, .int .i64 x.item.seq, .int .i64 x.item.cls, .int .i64 x.item.key, .int .i64 x.item.window, .int .i64 x.item.sk.count, .int .i64 x.item.sk.sum, .int .i64 x.item.sk.min, .int .i64 x.item.sk.max, .slice a1 n1 c1, .slice a2 n2 c2, .slice a3 n3 c3] 51 (Y.alloc (.cells #[.int .i64 p, .int .i64 q] 3))) := boxS_below HS.out ((Below.refl _ _).alloc (Nat.le_refl _) _)
      have HQ2 : Hid (ByteSt w #[.int .i64 x.kind, .int .i64 x.agent, .int .i64 x.epoch, .int .i64 x.granted, .slice (some ⟨b0, off, none⟩) l c, .int .i64 x.item.seq, .int .i64 x.item.cls, .int .i64 x.item.key, .int .i64 x.item.window, .int .i64 x.item.sk.count, .int .i64 x.item.sk.sum, .int .i64 x.item.sk.min, .int .i64 x.item.sk.max, .slice a1 n1 c1, .slice a2 n2 c2, .slice a3 n3 c3] 51 u3 (x.bodyTo k) (Y.alloc (.cells #[.int .i64 p, .int .i64 q] 3))) := HQ2.out.below ((Below.refl _ _).alloc (Nat.le_refl _) _)
      clear hK HC
      generalize Y.alloc (.cells #[.int .i64 p, .int .i64 q] 3) = Z at HLit HS HQ2 ⊢
      refine onlyH (o := ?o15) 14 (by kernel_rfl) ?h15 ?r15
      case h15 => simp only [aT, aS, aZ]; rfl
      intro K hK
      refine op_call1 41 _ _ Try.f41 (fun v w' => ∃ g cap, v = .slice (some ⟨g, 0, none⟩) (putAll [p, q]).length cap ∧ (∀ j u, ((putAll [p, q]).map (Value.int .u8))[j]? = some u → w'.cell? ((⟨g, 0, none⟩ : Addr).add j) = some u) ∧ Below Z.heap.size Z w') rfl rfl Try.func41 (by kernel_rfl) (by kernel_rfl) ((l7Put_any _ 2 2 [p, q] _ Z HLit.out HI.out (by omega)).mono (by
        rintro e w' ⟨v1, rfl, o1, b1⟩
        obtain ⟨g1, cap1, hv1, _⟩ := own_shape7 o1 (putAll_pos (HI.out _ (List.mem_cons_self ..)))
        subst hv1
        exact ⟨_, rfl, g1, cap1, rfl, own_news o1, b1⟩)) ?_
      rintro _ Z2 ⟨g1, cap1, rfl, hn1, bz⟩
      refine ⟨_, by simp [Act.put]; rfl, hK _ _ ⟨boxS_below HS.out bz, ?_⟩⟩
      have HE : Hid (∀ j u, ((putAll [p, q]).map (Value.int .u8))[j]? = some u → Z2.cell? ((⟨g1, 0, none⟩ : Addr).add j) = some u) := hn1
      have HQ3 : Hid (ByteSt w #[.int .i64 x.kind, .int .i64 x.agent, .int .i64 x.epoch, .int .i64 x.granted, .slice (some ⟨b0, off, none⟩) l c, .int .i64 x.item.seq, .int .i64 x.item.cls, .int .i64 x.item.key, .int .i64 x.item.window, .int .i64 x.item.sk.count, .int .i64 x.item.sk.sum, .int .i64 x.item.sk.min, .int .i64 x.item.sk.max, .slice a1 n1 c1, .slice a2 n2 c2, .slice a3 n3 c3] 51 u3 (x.bodyTo k) Z2) := HQ2.out.below bz
      have hq1 := putAll_len [p, q]
      have hq2 := bodyTo_len x k
      have hq3 : 0 < (putAll [p, q]).length := putAll_pos (HI.out _ (List.mem_cons_self ..))
      simp only [List.length_cons, List.length_nil] at hq1
      clear hK bz hn1 HS HQ2 HLit HI
      refine onlyH (o := ?o16) 15 (by kernel_rfl) ?h16 ?r16
      case h16 => simp only [aT, aS, aZ]; rfl
      intro K hK
      refine op_append Z2 rfl _ _ 27 rfl (w.heap.size + 1) 5 i0 (.int .u8 0) 1 1 Try.underlying27 hi hz0 hz1 hz2 rfl (by decide) _ _ _ rfl HQ3.out.own ⟨g1, 0, none⟩ (putAll [p, q]).length cap1 ((putAll [p, q]).map (Value.int .u8)) rfl (by simp) HE.out (u8_one _) hq3 (by unfold maxLen; omega) (by omega) HQ3.out.size _ rfl ?_
      intro g4 cp4 Z3 hown hgrow _ _
      obtain ⟨m4, hm4⟩ : ∃ m, m = (x.bodyTo k).length + (putAll [p, q]).length := ⟨_, rfl⟩
      have HQ4 : Hid (ByteSt w #[.int .i64 x.kind, .int .i64 x.agent, .int .i64 x.epoch, .int .i64 x.granted, .slice (some ⟨b0, off, none⟩) l c, .int .i64 x.item.seq, .int .i64 x.item.cls, .int .i64 x.item.key, .int .i64 x.item.window, .int .i64 x.item.sk.count, .int .i64 x.item.sk.sum, .int .i64 x.item.sk.min, .int .i64 x.item.sk.max, .slice a1 n1 c1, .slice a2 n2 c2, .slice a3 n3 c3] 51 (.slice (some ⟨g4, 0, none⟩) m4 cp4) (x.bodyTo (k + 1)) Z3) := by
        show ByteSt _ _ _ _ _ _
        rw [bodyTo_succ HV.out.2.2, ← HV.out.1, ← HV.out.2.1, hm4]
        exact HQ3.out.app rfl hown hgrow
      rw [← hm4]
      refine ⟨_, by simp [Act.put]; rfl, hK _ _ ⟨⟨HQ4.out.box, HQ4.out.bel⟩, ?_⟩⟩
      clear hK hown hgrow hq1 hq2 hq3 hm4 HQ3 HE HV
      refine onlyH (o := ?o17) 16 (by kernel_rfl) ?h17 ?r17
      case h17 => simp only [aT, aS, aZ]; rfl
      intro K hK
      refine op_value (.slice (some ⟨g4, 0, none⟩) m4 cp4) rfl (by go_simp) ⟨_, by simp [Act.put]; rfl, hK _ _ ⟨⟨HQ4.out.box, HQ4.out.bel⟩, ?_⟩⟩
      clear hK
      refine wpAnyH_done (by kernel_rfl) ?_ _
      go_wp2
      go_roundw
      case rel => exact ⟨k + 1, by omega, by go_num, HQ4⟩
      case measure => simp [intOf]; omega
    · obtain rfl : l = k := by omega
      have HBT : Hid (x.bodyTo l = [87, 82] ++ putAll [x.kind, x.agent, x.epoch, x.granted, (x.taken.length : Int)] ++ putAll (flat x.taken)) := by
        show _ = _
        unfold Fr.bodyTo
        rw [List.take_of_length_le (by rw [HP.out.2]; omega)]
      have hq2 := bodyTo_len x l
      by_cases h1 : x.kind = 1
      rotate_left
      · have e1 : (x.kind == 1) = false := by simpa using h1
        have HV : Hid (x.body = x.bodyTo l) := by show _ = _; rw [HBT.out]; unfold Fr.body; rw [if_neg h1, List.append_nil]
        clear h1
        go_wp2
        go_ret
        rw [HV.out]
        exact ⟨_, rfl, own_mono7 HQ.out.own (by omega), HQ.out.bel⟩
      have e1 : (x.kind == 1) = true := by simpa using h1
      have hok : x.item.ok = true := by have := HX.out.1.item; rw [if_pos h1] at this; exact this
      have HN4 : Hid (∀ z ∈ [x.item.seq, x.item.cls, x.item.key, x.item.window], InN z) := by
        intro z hz
        unfold It.ok placeOk at hok
        simp only [Bool.and_eq_true, decide_eq_true_eq] at hok
        simp only [List.mem_cons, List.not_mem_nil, or_false] at hz
        unfold InN
        rcases hz with rfl | rfl | rfl | rfl <;> omega
      have HSK : Hid (0 < x.item.sk.bytes.length) := by
        unfold It.ok at hok
        simp only [Bool.and_eq_true] at hok
        show 0 < _
        unfold Sk.bytes
        rw [if_pos hok.2]
        exact putAll_pos ((Sk.ok_lens hok.2).2 _ (by unfold Sk.nums; simp))
      have HV : Hid (x.body = x.bodyTo l ++ putAll [x.item.seq, x.item.cls, x.item.key, x.item.window] ++ x.item.sk.bytes) := by show _ = _; rw [HBT.out]; unfold Fr.body; rw [if_pos h1]; simp only [List.append_assoc]
      have k5 := HQ.out.box.cell 5
      have k6 := HQ.out.box.cell 6
      have k7 := HQ.out.box.cell 7
      have k8 := HQ.out.box.cell 8
      simp only [aT, aS, aZ] at k5 k6 k7 k8
      clear h1 hok HBT
      go_wp2_with fail
      refine (l7Put_any (some ⟨wr.heap.size, 0, none⟩) 4 _ [x.item.seq, x.item.cls, x.item.key, x.item.window] [wr.heap.size] _ ?rd HN4.out (by omega)).mono ?_
      case rd =>
        have e := rd_lit7 wr [x.item.seq, x.item.cls, x.item.key, x.item.window] 3 (by simp)
        simpa using e
      rintro e w3 ⟨v3, rfl, hown3, hb3⟩
      obtain ⟨g3, cap3, hv3, _⟩ := own_shape7 hown3 (putAll_pos (HN4.out _ (List.mem_cons_self ..)))
      have hv3' := hv3.symm
      subst hv3'
      have HE : Hid (∀ j u, ((putAll [x.item.seq, x.item.cls, x.item.key, x.item.window]).map (Value.int .u8))[j]? = some u → w3.cell? ((⟨g3, 0, none⟩ : Addr).add j) = some u) := own_news hown3
      have HQ3 : Hid (ByteSt w #[.int .i64 x.kind, .int .i64 x.agent, .int .i64 x.epoch, .int .i64 x.granted, .slice b l c, .int .i64 x.item.seq, .int .i64 x.item.cls, .int .i64 x.item.key, .int .i64 x.item.window, .int .i64 x.item.sk.count, .int .i64 x.item.sk.sum, .int .i64 x.item.sk.min, .int .i64 x.item.sk.max, .slice a1 n1 c1, .slice a2 n2 c2, .slice a3 n3 c3] 51 u3 (x.bodyTo l) w3) := (HQ.out.below ((Below.refl _ _).alloc (Nat.le_refl _) _)).below hb3
      have hq1 := putAll_len [x.item.seq, x.item.cls, x.item.key, x.item.window]
      simp only [List.length_cons, List.length_nil] at hq1
      clear hown3 hb3 hv3 HQ k5 k6 k7 k8 k4 k0 HN4
      go_wp2_with (with_reducible refine stopAppend rfl ?_)
      refine Stop.intro (wpList_append_own _ rfl _ _ 27 rfl (w.heap.size + 1) 5 i0 (.int .u8 0) 1 1 Try.underlying27 hi hz0 hz1 hz2 rfl (by decide) _ _ _ rfl HQ3.out.own ⟨g3, 0, none⟩ (putAll [x.item.seq, x.item.cls, x.item.key, x.item.window]).length cap3 ((putAll [x.item.seq, x.item.cls, x.item.key, x.item.window]).map (Value.int .u8)) rfl (by simp) HE.out (u8_one _) (by unfold maxLen; omega) (by omega) HQ3.out.size ?_)
      intro v4 w4 hown hgrow _
      have HQ4 : Hid (ByteSt w #[.int .i64 x.kind, .int .i64 x.agent, .int .i64 x.epoch, .int .i64 x.granted, .slice b l c, .int .i64 x.item.seq, .int .i64 x.item.cls, .int .i64 x.item.key, .int .i64 x.item.window, .int .i64 x.item.sk.count, .int .i64 x.item.sk.sum, .int .i64 x.item.sk.min, .int .i64 x.item.sk.max, .slice a1 n1 c1, .slice a2 n2 c2, .slice a3 n3 c3] 51 v4 (x.bodyTo l ++ putAll [x.item.seq, x.item.cls, x.item.key, x.item.window]) w4) := HQ3.out.app rfl hown hgrow
      clear hown hgrow HQ3 HE
      go_wp2_with (first | go_skip | (with_reducible refine stopLoad 29 rfl ?_))
      refine load_cut 29 w.heap.size 9 7 _ #[.int .i64 x.item.sk.count, .int .i64 x.item.sk.sum, .int .i64 x.item.sk.min, .int .i64 x.item.sk.max, .slice a1 n1 c1, .slice a2 n2 c2, .slice a3 n3 c3] 51 _ HQ4.out.box rfl rfl rfl Try.underlying29 rfl infoSkI (by simp) rfl ?_
      go_wp2_with fail
      refine (sketchBytesSpec_any _ x.item.sk G _ (HX.out.2.2.below HQ4.out.bel) HX.out.2.1).mono ?_
      rintro e w5 ⟨v5, rfl, hown5, hb5⟩
      obtain ⟨g5, cap5, hv5, _⟩ := own_shape7 hown5 HSK.out
      have hv5' := hv5.symm
      subst hv5'
      have HE : Hid (∀ j u, (x.item.sk.bytes.map (Value.int .u8))[j]? = some u → w5.cell? ((⟨g5, 0, none⟩ : Addr).add j) = some u) := own_news hown5
      have HQ5 : Hid (ByteSt w #[.int .i64 x.kind, .int .i64 x.agent, .int .i64 x.epoch, .int .i64 x.granted, .slice b l c, .int .i64 x.item.seq, .int .i64 x.item.cls, .int .i64 x.item.key, .int .i64 x.item.window, .int .i64 x.item.sk.count, .int .i64 x.item.sk.sum, .int .i64 x.item.sk.min, .int .i64 x.item.sk.max, .slice a1 n1 c1, .slice a2 n2 c2, .slice a3 n3 c3] 51 v4 (x.bodyTo l ++ putAll [x.item.seq, x.item.cls, x.item.key, x.item.window]) w5) := HQ4.out.below hb5
      have hq3 := x.item.sk.bytes_len
      have hq4 : (x.bodyTo l ++ putAll [x.item.seq, x.item.cls, x.item.key, x.item.window]).length ≤ 10000 := by rw [List.length_append]; omega
      clear hown5 hb5 hv5 HQ4
      go_wp2_with (with_reducible refine stopAppend rfl ?_)
      refine Stop.intro (wpList_append_own _ rfl _ _ 27 rfl (w.heap.size + 1) 5 i0 (.int .u8 0) 1 1 Try.underlying27 hi hz0 hz1 hz2 rfl (by decide) _ _ _ rfl HQ5.out.own ⟨g5, 0, none⟩ x.item.sk.bytes.length cap5 (x.item.sk.bytes.map (Value.int .u8)) rfl (by simp) HE.out (u8_one _) (by unfold maxLen; omega) (by omega) HQ5.out.size ?_)
      intro v6 w6 hown hgrow _
      have HQ6 : Hid (ByteSt w #[.int .i64 x.kind, .int .i64 x.agent, .int .i64 x.epoch, .int .i64 x.granted, .slice b l c, .int .i64 x.item.seq, .int .i64 x.item.cls, .int .i64 x.item.key, .int .i64 x.item.window, .int .i64 x.item.sk.count, .int .i64 x.item.sk.sum, .int .i64 x.item.sk.min, .int .i64 x.item.sk.max, .slice a1 n1 c1, .slice a2 n2 c2, .slice a3 n3 c3] 51 v6 (x.bodyTo l ++ putAll [x.item.seq, x.item.cls, x.item.key, x.item.window] ++ x.item.sk.bytes) w6) := HQ5.out.app rfl hown hgrow
      clear hown hgrow HQ5 HE hq1 hq2 hq3 hq4
      go_wp2
      go_ret
      rw [HV.out]
      exact ⟨_, rfl, own_mono7 HQ6.out.own (by omega), HQ6.out.bel⟩
end Go.Proofs.Ytjndcfamfminkaq
/- The walk through the helper of the laws that compares two byte slices. No statement of the seat is proved here. -/
namespace Go.Proofs.Ytjndcfamfminkaq
open Go.RowKit

theorem eq_step {xs ys : List Int} {k : Nat} (hl : xs.length = ys.length) (hk : k < xs.length) (h : xs.take k = ys.take k) (he : xs[k]?.getD 0 = ys[k]?.getD 0) : xs.take (k + 1) = ys.take (k + 1) := by
  rw [take_succ' xs k hk, take_succ' ys k (by omega), h, he]
theorem ne_of_at {xs ys : List Int} {k : Nat} (he : ¬ xs[k]?.getD 0 = ys[k]?.getD 0) : decide (xs = ys) = false := by
  rw [decide_eq_false_iff_not]; intro e; subst e; exact he rfl
theorem eq_end {xs ys : List Int} {k : Nat} (hx : xs.length = k) (hy : ys.length = k) (h : xs.take k = ys.take k) : decide (xs = ys) = true := by
  rw [decide_eq_true_iff]
  rw [List.take_of_length_le (Nat.le_of_eq hx), List.take_of_length_le (Nat.le_of_eq hy)] at h
  exact h

set_option maxRecDepth 200000 in
set_option maxHeartbeats 400000 in
theorem eqByteS_any (a b : Option Addr) (la lb ca cb : Nat) (xs ys : List Int) (w : World) (ha : RdB w a la xs) (hb : RdB w b lb ys) (hla : la ≤ 140737488355328) (hlb : lb ≤ 140737488355328) :
    Calls Try.prog 13 #[.slice a la ca, .slice b lb cb] w fun e w' => e = .returned (.bool (decide (xs = ys))) ∧ Below w.heap.size w w' := by
  have Hx : Hid (xs.length = la) := ha.length
  have Hy : Hid (ys.length = lb) := hb.length
  by_cases hl : la = lb
  · subst hl
    have hbne : ((la : Int) != (la : Int)) = false := by simp
    by_cases h0 : la = 0
    · subst h0
      have ex : xs = [] := List.eq_nil_of_length_eq_zero ha.length
      have ey : ys = [] := List.eq_nil_of_length_eq_zero hb.length
      clear ha hb
      go_enter Try.func13, Try.ntmps13
      go_wp2
      refine wp_loop_rounds 1 ?_
      rw [rounds_succ]
      go_wp2
      go_ret
      exact ⟨ret_bool (by rw [ex, ey]; rfl), Below.refl _ _⟩
    · obtain ⟨b1, o1, rfl, hc1⟩ : ∃ b off, a = some ⟨b, off, none⟩ ∧ ∀ i, i < la → w.cell? ⟨b, off + i, none⟩ = some (.int .u8 (xs.getD i 0)) := by
        rcases ha.cells with h | h
        · exact absurd h h0
        · exact h
      obtain ⟨b2, o2, rfl, hc2⟩ : ∃ b' off, b = some ⟨b', off, none⟩ ∧ ∀ i, i < la → w.cell? ⟨b', off + i, none⟩ = some (.int .u8 (ys.getD i 0)) := by
        rcases hb.cells with h | h
        · exact absurd h h0
        · exact h
      have hb1 : b1 < w.heap.size := World.block_lt_of_cell? _ _ (hc1 0 (by omega))
      have hb2 : b2 < w.heap.size := World.block_lt_of_cell? _ _ (hc2 0 (by omega))
      clear ha hb
      go_enter Try.func13, Try.ntmps13
      go_wp2
      go_loopw [5] (fun i wr => ∃ k : Nat, k ≤ la ∧ i = .int .i64 k ∧ Hid (xs.take k = ys.take k) ∧ Below w.heap.size w wr) (fun i _ => la - (intOf i).toNat)
      case atStart => exact ⟨0, by omega, rfl, rfl, Below.refl _ _⟩
      case round =>
        obtain ⟨k, hk, rfl, HT, hbel⟩ := hrel
        by_cases hlt : k < la
        · have d1 : wr.cell? ⟨b1, o1 + k, none⟩ = some (.int .u8 (xs.getD k 0)) := (hbel.cell (by exact hb1)).trans (hc1 k hlt)
          have d2 : wr.cell? ⟨b2, o2 + k, none⟩ = some (.int .u8 (ys.getD k 0)) := (hbel.cell (by exact hb2)).trans (hc2 k hlt)
          by_cases he : xs[k]?.getD 0 = ys[k]?.getD 0
          · have hne : (xs[k]?.getD 0 != ys[k]?.getD 0) = false := by simp [he]
            have HE : Hid (xs[k]?.getD 0 = ys[k]?.getD 0) := he
            clear he hc1 hc2
            go_wp2
            go_region
            all_goals (try go_wp2)
            all_goals
              go_roundw
              case rel => exact ⟨k + 1, by omega, by go_num, eq_step (by rw [Hx.out, Hy.out]) (by rw [Hx.out]; exact hlt) HT.out HE.out, by repeat (first | exact hbel | apply Below.drew)⟩
              case measure => simp [intOf]; omega
          · have hne : (xs[k]?.getD 0 != ys[k]?.getD 0) = true := by simp [he]
            have HE : Hid (¬ xs[k]?.getD 0 = ys[k]?.getD 0) := he
            clear he hc1 hc2
            go_wp2
            go_region
            all_goals (try go_wp2)
            all_goals
              go_ret
              exact ⟨ret_bool (ne_of_at HE.out).symm, by repeat (first | exact hbel | apply Below.drew)⟩
        · obtain rfl : k = la := by omega
          go_wp2
          go_ret
          exact ⟨ret_bool (eq_end Hx.out Hy.out HT.out).symm, hbel⟩
  · have hbne : ((la : Int) != (lb : Int)) = true := by simp; omega
    have e : decide (xs = ys) = false := by
      rw [decide_eq_false_iff_not]; intro e; subst e; exact hl (Hx.out.symm.trans Hy.out)
    clear ha hb
    go_enter Try.func13, Try.ntmps13
    go_wp2
    go_ret
    exact ⟨ret_bool e.symm, Below.refl _ _⟩

theorem rd_own {w : World} {base n : Nat} {v : Value} {xs : List Int} (h : w.ownsRow base 5 1 v n (xs.map (Value.int .u8))) (hr : ∀ x ∈ xs, 0 ≤ x ∧ x ≤ 255) : ∃ a cap, v = .slice a n cap ∧ RdB w a n xs := by
  rcases h.2 with ⟨h1, h2⟩ | ⟨g, cap, cur, h1, _⟩
  · subst h2
    have : xs = [] := List.eq_nil_of_length_eq_zero (by simpa using h.1)
    subst this
    exact ⟨none, 0, h1, RdB.nil⟩
  · subst h1
    exact ⟨_, cap, rfl, RdB.of_own h hr⟩
set_option maxRecDepth 200000 in
theorem eqOwn_any (v v' : Value) (base base' n n' : Nat) (xs ys : List Int) (w : World) (h : w.ownsRow base 5 1 v n (xs.map (Value.int .u8))) (h' : w.ownsRow base' 5 1 v' n' (ys.map (Value.int .u8)))
    (hr : ∀ x ∈ xs, 0 ≤ x ∧ x ≤ 255) (hr' : ∀ x ∈ ys, 0 ≤ x ∧ x ≤ 255) (hn : n ≤ 140737488355328) (hn' : n' ≤ 140737488355328) :
    Calls Try.prog 13 #[v, v'] w fun e w' => e = .returned (.bool (decide (xs = ys))) ∧ Below w.heap.size w w' := by
  obtain ⟨a, cap, rfl, R⟩ := rd_own h hr
  obtain ⟨a', cap', rfl, R'⟩ := rd_own h' hr'
  exact eqByteS_any a a' n n' cap cap' xs ys w R R' hn hn'
end Go.Proofs.Ytjndcfamfminkaq
/- The walk through the model's FrameBytes. No statement of the seat is proved here. -/
namespace Go.Proofs.Ytjndcfamfminkaq
open Go.RowKit
theorem sumOf_len (zs : List Int) : (sumOf zs).length = 4 := rfl
theorem sumOf_range (zs : List Int) (h : ∀ x ∈ zs, 0 ≤ x ∧ x ≤ 255) : ∀ x ∈ sumOf zs, 0 ≤ x ∧ x ≤ 255 := by
  intro x hx
  have r := crcOf_range zs h
  unfold sumOf at hx
  simp only [List.mem_cons, List.not_mem_nil, or_false] at hx
  rcases hx with rfl | rfl | rfl | rfl <;> omega
theorem Fr.bytes_range (x : Fr) : ∀ y ∈ x.bytes, 0 ≤ y ∧ y ≤ 255 := by
  unfold Fr.bytes
  split
  · intro y hy
    rcases List.mem_append.1 hy with hy | hy
    · exact x.body_range y hy
    · exact sumOf_range _ x.body_range y hy
  · intro y hy; cases hy
theorem Fr.bytes_len (x : Fr) : x.bytes.length ≤ 491 := by
  unfold Fr.bytes
  split
  · rename_i h
    have := Fr.body_len (Fr.ok_right h)
    rw [List.length_append, sumOf_len]
    omega
  · simp
theorem infoFrB7 : (Try.prog.info? 51).map (·.size) = some 16 := by kernel_rfl
set_option maxRecDepth 100000 in
set_option maxHeartbeats 4000000 in
theorem frameBytesSpec_any (v : Value) (x : Fr) (F G : List Nat) (w : World) (h : RdFr w v x F G) (hw : x.item.sk.wide) (hl : x.taken.length ≤ 140737488355328) :
    Calls Try.prog 23 #[v] w fun e w' => ∃ u, e = .returned u ∧ w'.ownsRow w.heap.size 5 1 u x.bytes.length (x.bytes.map (Value.int .u8)) ∧ Below w.heap.size w w' := by
  obtain ⟨i0, hi, hz0, hz1, hz2⟩ := info_parts Try.info5
  obtain ⟨cs, rfl, hc⟩ : ∃ cs, v = .agg cs ∧ cs.size = 16 := by
    obtain ⟨b, l, c, a1, n1, c1, a2, n2, c2, a3, n3, c3, rfl, _⟩ := h
    exact ⟨_, rfl, rfl⟩
  have HH : Hid (RdFr w (.agg cs) x F G ∧ x.item.sk.wide ∧ x.taken.length ≤ 140737488355328) := ⟨h, hw, hl⟩
  have HT : Hid (Blk (w.alloc (.cells cs 51)) w.heap.size cs 51 ∧ Below w.heap.size w (w.alloc (.cells cs 51))) := ⟨Blk.made _ _ _, (Below.refl _ _).alloc (Nat.le_refl _) _⟩
  have hsz : (Try.prog.info? 51).map (·.size) = some cs.size := by rw [hc]; exact infoFrB7
  clear h hw hl
  go_enter Try.func23, Try.ntmps23
  go_wp2_with (first | go_skip | (with_reducible refine stopLoad 51 rfl ?_))
  refine load_known 51 w.heap.size cs 51 _ HT.out.1 rfl rfl rfl Try.underlying51 rfl hsz ?_
  go_wp2_with fail
  refine (frameOkSpec_any _ x F G _ (HH.out.1.below HT.out.2) HH.out.2.1 HH.out.2.2).mono ?_
  rintro e w1 ⟨rfl, hb1⟩
  have HT1 : Hid (Blk w1 w.heap.size cs 51 ∧ Below w.heap.size w w1) := ⟨HT.out.1.below hb1, Below.next HT.out.2 hb1⟩
  obtain ⟨d, hd⟩ : ∃ d, d = x.ok := ⟨_, rfl⟩
  rw [← hd]
  have HD : Hid (d = x.ok) := hd
  clear hb1 HT hd
  cases d
  · have HV : Hid (x.bytes = []) := by show _ = _; unfold Fr.bytes; rw [← HD.out]; rfl
    have HE : Hid ((w1.alloc (.cells #[] 5)).ownsRow w1.heap.size 5 1 (.slice (some ⟨w1.heap.size, 0, none⟩) 0 0) 0 []) := own_empty w1 _
    go_wp2
    go_ret
    rw [HV.out]
    exact ⟨_, rfl, own_mono7 HE.out HT1.out.2.size, Below.next HT1.out.2 ((Below.refl _ _).alloc (Nat.le_refl _) _)⟩
  have HV : Hid (x.bytes = x.body ++ sumOf x.body) := by show _ = _; unfold Fr.bytes; rw [← HD.out]; rfl
  have hlen := Fr.body_len (Fr.ok_right HD.out.symm)
  go_wp2_with (first | go_skip | (with_reducible refine stopLoad 51 rfl ?_))
  refine load_known 51 w.heap.size cs 51 _ HT1.out.1 rfl rfl rfl Try.underlying51 rfl hsz ?_
  go_wp2_with fail
  refine (l7Body_any _ x F G _ (HH.out.1.below HT1.out.2) (Fr.ok_right HD.out.symm) HH.out.2.1).mono ?_
  rintro e w2 ⟨u, rfl, hown, hb2⟩
  have HRG : Hid (∀ y ∈ x.body, 0 ≤ y ∧ y ≤ 255) := x.body_range
  generalize x.body = B at hown hlen HV HRG
  obtain ⟨a, cap, rfl, hr⟩ := rd_own hown HRG.out
  have HB2 : Hid (w2.ownsRow w1.heap.size 5 1 (.slice a B.length cap) B.length (B.map (Value.int .u8)) ∧ RdB w2 a B.length B ∧ Below w1.heap.size w1 w2) := ⟨hown, hr, hb2⟩
  clear hown hr hb2
  go_wp2_with fail
  refine (l7Sum_any a B.length cap B _ HB2.out.2.1 (by omega)).mono ?_
  rintro e w3 ⟨rfl, hw3⟩
  have HC3 : Hid (∀ j u, ((sumOf B).map (Value.int .u8))[j]? = some u → w3.cell? ((⟨w2.heap.size, 0, none⟩ : Addr).add j) = some u) := by
    intro j u hj
    rw [show (⟨w2.heap.size, 0, none⟩ : Addr).add j = ⟨w2.heap.size, j, none⟩ from by cases j <;> simp [Addr.add], hw3, (Blk.made w2 _ _).cell j]
    simpa using hj
  have b3 : Below w2.heap.size w2 w3 := by rw [hw3]; exact (Below.refl _ _).alloc (Nat.le_refl _) _
  have HB3 : Hid (w3.ownsRow w1.heap.size 5 1 (.slice a B.length cap) B.length (B.map (Value.int .u8)) ∧ Below w1.heap.size w1 w3) := ⟨ownsRow_below HB2.out.1 b3, Below.next HB2.out.2.2 b3⟩
  clear hw3 b3 HB2
  go_wp2_with (with_reducible refine stopAppend rfl ?_)
  refine Stop.intro (wpList_append_own _ rfl _ _ 27 rfl w1.heap.size 5 i0 (.int .u8 0) 1 1 Try.underlying27 hi hz0 hz1 hz2 rfl (by decide) _ _ _ rfl HB3.out.1 ⟨w2.heap.size, 0, none⟩ 4 4 ((sumOf B).map (Value.int .u8)) rfl (by simp [sumOf_len]) HC3.out (u8_one _) (by unfold maxLen; omega) (by omega) HB3.out.2.size ?_)
  intro v4 w4 hown hgrow _
  have h4 : w4.ownsRow w.heap.size 5 1 v4 x.bytes.length (x.bytes.map (Value.int .u8)) := by
    rw [HV.out, List.length_append, List.map_append, sumOf_len]
    exact own_mono7 hown HT1.out.2.size
  have HB4 : Hid (w4.ownsRow w.heap.size 5 1 v4 x.bytes.length (x.bytes.map (Value.int .u8)) ∧ Below w.heap.size w w4) := ⟨h4, Below.next HT1.out.2 (HB3.out.2.grown hgrow HB3.out.2.size (fun g hg => (HB3.out.1.lt g hg).1))⟩
  clear hown hgrow h4 HB3 HC3
  go_wp2
  go_ret
  exact ⟨_, rfl, HB4.out⟩
end Go.Proofs.Ytjndcfamfminkaq
/- What is written is read as it was: the numbers of a frame. No statement of the seat is proved here. -/
namespace Go.Proofs.Ytjndcfamfminkaq
open Go.RowKit
theorem dg_enc7 (m : Nat) : ∀ (k : Nat) (X : Int) (rest : List Int), k + (encN m).length ≤ 5 → (k = 0 ∨ 0 < m) → X + (m : Int) * 128 ^ k ≤ 2147483647 → dg (encN m ++ rest) k X = some (X + (m : Int) * 128 ^ k, k + (encN m).length) := by
  induction m using encN.induct with
  | case1 m h =>
    intro k X rest hk h0 hm
    rw [encN_small m h] at hk ⊢
    have e : (m : Int) % 128 = m := by omega
    simp only [List.cons_append, List.nil_append, dg, e]
    rw [if_neg (by simp at hk; omega), if_pos (by omega), if_neg (by omega)]
    rfl
  | case2 m h ih =>
    intro k X rest hk h0 hm
    rw [encN_big m h] at hk ⊢
    simp only [List.length_cons] at hk
    have e1 : ((m : Int) % 128 + 128) % 128 = (m : Int) % 128 := by omega
    have e2 : X + (m : Int) % 128 * 128 ^ k + ((m / 128 : Nat) : Int) * 128 ^ (k + 1) = X + (m : Int) * 128 ^ k := by
      have : (m : Int) = (m : Int) % 128 + 128 * ((m / 128 : Nat) : Int) := by omega
      rw [Int.pow_succ]
      generalize (128 : Int) ^ k = p
      generalize ((m / 128 : Nat) : Int) = d at *
      generalize (m : Int) % 128 = c at *
      rw [this, Int.add_mul, Int.mul_comm p 128, ← Int.mul_assoc, Int.mul_comm d 128]
      omega
    simp only [List.cons_append, dg, e1]
    rw [if_neg (by omega), if_neg (by omega)]
    rw [ih (k + 1) _ rest (by omega) (.inr (by omega)) (by rw [e2]; exact hm), e2]
    simp only [List.length_cons]
    congr 2; omega
theorem res_enc7 (pre rest : List Int) (n : Int) (h0 : 0 ≤ n) (h1 : n ≤ 2147483647) : res (pre ++ encOf n ++ rest) (pre.length : Int) = some (n, (encOf n).length) := by
  obtain ⟨m, rfl⟩ := Int.eq_ofNat_of_zero_le h0
  have e : encOf (m : Int) = encN m := by rw [encOf, if_pos ⟨h0, h1⟩]; rfl
  rw [e]
  unfold res
  rw [if_pos ⟨by omega, by simp; omega⟩]
  rw [show ((pre.length : Int)).toNat = pre.length by omega, List.append_assoc, List.drop_left]
  have hl := encN_len m (by omega)
  have := dg_enc7 m 0 0 rest (by omega) (.inl rfl) (by omega)
  rw [this]
  simp

theorem getTo_putAll (pre : List Int) : ∀ (zs rest : List Int), (∀ z ∈ zs, InN z) → ∀ k, k ≤ zs.length → getTo (pre ++ putAll zs ++ rest) (pre.length : Int) k = some (zs.take k, (pre.length : Int) + ((putAll (zs.take k)).length : Int))
  | zs, rest, hz, 0, _ => by simp [getTo, putAll]
  | zs, rest, hz, k + 1, hk => by
    have hkl : k < zs.length := by omega
    rw [getTo, getTo_putAll pre zs rest hz k (by omega)]
    have e0 : zs = zs.take k ++ zs.getD k 0 :: zs.drop (k + 1) := by
      rw [List.getD_eq_getElem?_getD, List.getElem?_eq_getElem hkl]
      simp
    have e : pre ++ putAll zs ++ rest = (pre ++ putAll (zs.take k)) ++ encOf (zs.getD k 0) ++ (putAll (zs.drop (k + 1)) ++ rest) := by
      conv => lhs; rw [e0]
      rw [putAll_app]
      simp [putAll]
    have hi := hz _ (mem_getD (d := 0) hkl)
    have r := res_enc7 (pre ++ putAll (zs.take k)) (putAll (zs.drop (k + 1)) ++ rest) (zs.getD k 0) hi.1 hi.2
    rw [← e, List.length_append, Int.natCast_add] at r
    simp only
    rw [r]
    simp only
    rw [putAll_take zs k hkl, List.length_append, take_snoc zs 0 k hkl, Int.natCast_add, Int.add_assoc]
/-- All of them. -/
theorem getTo_all (pre zs rest : List Int) (hz : ∀ z ∈ zs, InN z) {m : Nat} (hm : zs.length = m) : getTo (pre ++ putAll zs ++ rest) (pre.length : Int) m = some (zs, (pre.length : Int) + ((putAll zs).length : Int)) := by
  have e := getTo_putAll pre zs rest hz m (by omega)
  rw [List.take_of_length_le (by omega)] at e
  exact e
end Go.Proofs.Ytjndcfamfminkaq
/- What is read is what was written: numbers out of their bytes. No statement of the seat is proved here. -/
namespace Go.Proofs.Ytjndcfamfminkaq
open Go.RowKit
theorem dg_inv : ∀ (zs : List Int) (k : Nat) (X n : Int) (u : Nat), (∀ x ∈ zs, 0 ≤ x ∧ x ≤ 255) → dg zs k X = some (n, u) → ∃ m : Nat, n = X + (m : Int) * 128 ^ k ∧ u = k + (encN m).length ∧ zs.take (encN m).length = encN m ∧ (k = 0 ∨ 0 < m) ∧ n ≤ 2147483647
  | [], k, X, n, u, _, h => by simp [dg] at h
  | c :: r, k, X, n, u, hz, h => by
    have hc := hz c (List.mem_cons_self ..)
    obtain ⟨d, rfl⟩ := Int.eq_ofNat_of_zero_le hc.1
    rw [dg] at h
    by_cases h5 : k = 5
    · rw [if_pos h5] at h; cases h
    rw [if_neg h5] at h
    by_cases h1 : (d : Int) < 128
    · rw [if_pos h1] at h
      by_cases h2 : (0 < k ∧ (d : Int) = 0) ∨ 2147483647 < X + (d : Int) % 128 * 128 ^ k
      · rw [if_pos h2] at h; cases h
      · rw [if_neg h2] at h
        have e : (d : Int) % 128 = d := by omega
        rw [e] at h h2
        cases h
        refine ⟨d, rfl, ?_, ?_, ?_, ?_⟩
        · rw [encN_small d (by omega)]; rfl
        · rw [encN_small d (by omega)]; rfl
        · by_cases q : k = 0
          · exact .inl q
          · refine .inr ?_
            by_cases z : d = 0
            · exact absurd (.inl ⟨by omega, by omega⟩) h2
            · omega
        · exact Int.not_lt.1 (fun q => h2 (.inr q))
    · rw [if_neg h1] at h
      obtain ⟨m, e1, e2, e3, e4, e5⟩ := dg_inv r (k + 1) _ n u (fun x hx => hz x (List.mem_cons_of_mem _ hx)) h
      have hm : 0 < m := by rcases e4 with q | q; omega; exact q
      have hd : (d : Int) % 128 = (d : Int) - 128 := by omega
      have hM : encN ((d - 128) + 128 * m) = (d : Int) :: encN m := by
        rw [encN_big _ (by omega)]
        congr 1
        · omega
        · congr 1; omega
      refine ⟨(d - 128) + 128 * m, ?_, ?_, ?_, .inr (by omega), e5⟩
      · rw [e1, hd, Int.pow_succ]
        have e : (((d - 128) + 128 * m : Nat) : Int) = ((d : Int) - 128) + 128 * (m : Int) := by omega
        rw [e]
        generalize (128 : Int) ^ k = p
        rw [Int.add_mul, Int.mul_comm p 128, ← Int.mul_assoc, Int.mul_comm (m : Int) 128, Int.add_assoc]
      · rw [hM, List.length_cons, e2]; omega
      · rw [hM, List.length_cons, List.take_succ_cons, e3]
theorem res_inv {zs : List Int} {p n : Int} {u : Nat} (hz : ∀ x ∈ zs, 0 ≤ x ∧ x ≤ 255) (h : res zs p = some (n, u)) : 0 ≤ p ∧ InN n ∧ u = (encOf n).length ∧ p.toNat + u ≤ zs.length ∧ (zs.drop p.toNat).take u = encOf n := by
  unfold res at h
  by_cases hp : 0 ≤ p ∧ p ≤ zs.length
  · rw [if_pos hp] at h
    obtain ⟨m, e1, e2, e3, _, e5⟩ := dg_inv _ 0 0 n u (fun x hx => hz x (List.mem_of_mem_drop hx)) h
    have en : n = m := by rw [e1, Int.pow_zero]; omega
    have hN : InN n := ⟨by omega, e5⟩
    have ee : encOf n = encN m := by
      unfold encOf
      rw [if_pos (show 0 ≤ n ∧ n ≤ 2147483647 from hN), en, Int.toNat_natCast]
    refine ⟨hp.1, hN, by rw [ee]; omega, ?_, by rw [ee, e2, Nat.zero_add]; exact e3⟩
    have l := congrArg List.length e3
    rw [List.length_take, List.length_drop] at l
    omega
  · rw [if_neg hp] at h; cases h
theorem getTo_inv {zs : List Int} (hz : ∀ x ∈ zs, 0 ≤ x ∧ x ≤ 255) {p : Nat} (hp : p ≤ zs.length) : ∀ {k : Nat} {l : List Int} {q : Int}, getTo zs p k = some (l, q) → (∀ x ∈ l, InN x) ∧ q = ((p + (putAll l).length : Nat) : Int) ∧ p + (putAll l).length ≤ zs.length ∧ (zs.drop p).take (putAll l).length = putAll l
  | 0, l, q, h => by
    rw [getTo] at h
    cases h
    refine ⟨(fun x hx => by cases hx), (by simp [putAll]), (by simpa [putAll] using hp), (by simp [putAll])⟩
  | k + 1, l, q, h => by
    rw [getTo] at h
    split at h
    · cases h
    · rename_i l' q' e
      obtain ⟨i1, i2, i3, i4⟩ := getTo_inv hz hp e
      split at h
      · cases h
      · rename_i n u e'
        cases h
        obtain ⟨_, r2, r3, r4, r5⟩ := res_inv hz e'
        have ep : putAll (l' ++ [n]) = putAll l' ++ encOf n := by rw [putAll_app]; simp [putAll]
        have eq : q'.toNat = p + (putAll l').length := by omega
        rw [eq] at r4 r5
        rw [ep, List.length_append, ← r3]
        refine ⟨?_, by omega, by omega, ?_⟩
        · intro x hx
          rcases List.mem_append.1 hx with hx | hx
          · exact i1 x hx
          · obtain rfl : x = n := by simpa using hx
            exact r2
        · rw [List.take_add, i4, List.drop_drop, r5]
theorem putAll_nil_of {l : List Int} (h : ∀ x ∈ l, InN x) (e : (putAll l).length = 0) : l = [] := by
  cases l with
  | nil => rfl
  | cons a l =>
    have q := encOf_pos (h a (List.mem_cons_self ..))
    have : putAll (a :: l) = encOf a ++ putAll l := by simp [putAll]
    rw [this, List.length_append] at e
    omega
/-- Reading from the front: all of them. -/
theorem getTo_front (l rest : List Int) (h : ∀ x ∈ l, InN x) {m : Nat} (hm : l.length = m) : getTo (putAll l ++ rest) 0 m = some (l, ((putAll l).length : Int)) := by
  have e := getTo_all [] l rest h hm
  simpa using e
theorem putAll_inj {l m : List Int} (hl : ∀ x ∈ l, InN x) (hm : ∀ x ∈ m, InN x) (e : putAll l = putAll m) : l = m := by
  rcases Nat.le_total l.length m.length with q | q
  · have a := getTo_putAll [] m [] hm l.length q
    have b := getTo_front l [] hl rfl
    simp only [List.nil_append, List.append_nil, List.length_nil] at a b
    rw [← e] at a
    have c := a.symm.trans b
    simp only [Option.some.injEq, Prod.mk.injEq] at c
    obtain ⟨c1, c2⟩ := c
    have d : putAll m = putAll (m.take l.length) ++ putAll (m.drop l.length) := by rw [← putAll_app, List.take_append_drop]
    have f : (putAll (m.drop l.length)).length = 0 := by
      have := congrArg List.length d
      rw [List.length_append, ← e, c1] at this
      omega
    have g := putAll_nil_of (fun x hx => hm x (List.mem_of_mem_drop hx)) f
    rw [← List.take_append_drop l.length m, g, c1, List.append_nil]
  · have a := getTo_putAll [] l [] hl m.length q
    have b := getTo_front m [] hm rfl
    simp only [List.nil_append, List.append_nil, List.length_nil] at a b
    rw [e] at a
    have c := a.symm.trans b
    simp only [Option.some.injEq, Prod.mk.injEq] at c
    obtain ⟨c1, c2⟩ := c
    have d : putAll l = putAll (l.take m.length) ++ putAll (l.drop m.length) := by rw [← putAll_app, List.take_append_drop]
    have f : (putAll (l.drop m.length)).length = 0 := by
      have := congrArg List.length d
      rw [List.length_append, e, c1] at this
      omega
    have g := putAll_nil_of (fun x hx => hl x (List.mem_of_mem_drop hx)) f
    rw [← List.take_append_drop m.length l, g, c1, List.append_nil]
/-- These bytes are those numbers, and nothing else; or they are no numbers. -/
def AllIs (zs l : List Int) (d : Bool) : Prop := if d = true then zs = putAll l ∧ ∀ x ∈ l, InN x else l = [] ∧ ∀ m, (∀ x ∈ m, InN x) → zs ≠ putAll m
theorem all_here {zs l : List Int} (hz : ∀ x ∈ zs, 0 ≤ x ∧ x ≤ 255) {k : Nat} (h : getTo zs 0 k = some (l, (zs.length : Int))) : AllIs zs l true := by
  obtain ⟨h1, h2, _, h4⟩ := getTo_inv (p := 0) hz (Nat.zero_le _) (by simpa using h)
  rw [List.drop_zero] at h4
  refine (if_pos rfl).mpr ⟨?_, h1⟩
  rw [List.take_of_length_le (by omega)] at h4
  exact h4
theorem res_end (zs : List Int) : res zs (zs.length : Int) = none := by
  unfold res
  rw [if_pos ⟨by omega, by omega⟩, Int.toNat_natCast, List.drop_length]
  rfl
theorem all_none {zs l : List Int} {k : Nat} {q : Int} (h : getTo zs 0 k = some (l, q)) (hr : res zs q = none) (hq : ¬ q = zs.length) : AllIs zs [] false := by
  refine (if_neg (by simp)).mpr ⟨rfl, fun m hm e => ?_⟩
  have a := getTo_front m [] hm rfl
  rw [List.append_nil, ← e] at a
  rcases Nat.lt_trichotomy m.length k with q1 | q1 | q1
  · have b : getTo zs 0 (m.length + 1) = none := by rw [getTo, a]; simp only; rw [res_end]
    rw [getTo_none b (by omega)] at h
    cases h
  · rw [q1, h] at a
    cases a
    exact hq rfl
  · have b : getTo zs 0 (k + 1) = none := by rw [getTo, h]; simp only; rw [hr]
    rw [getTo_none b (by omega)] at a
    cases a
/-! ### summaries -/
def SkIs (zs : List Int) (s : Sk) (d : Bool) : Prop := if d = true then s.ok = true ∧ zs = s.bytes else s = Sk.zero ∧ ∀ t : Sk, t.ok = true → zs ≠ t.bytes
theorem Sk.nums_len {s : Sk} (h : s.lens7) : s.nums.length = 28 := by
  have e : s.numsTo 2 = s.nums := by
    unfold Sk.numsTo Sk.nums
    rw [List.take_of_length_le (by rw [h.rows]; omega)]
  rw [← e, numsTo_len h (by omega)]
theorem Sk.bytes_ok {s : Sk} (h : s.ok = true) : s.bytes = putAll s.nums := by unfold Sk.bytes; rw [if_pos h]
end Go.Proofs.Ytjndcfamfminkaq
/- What is read is what was written: summaries and frames out of their numbers. No statement of the seat is proved here. -/
namespace Go.Proofs.Ytjndcfamfminkaq
open Go.RowKit
theorem skOf_lens {l : List Int} (h : l.length = 28) : (skOf l).lens7 := by
  refine ⟨by simp [skOf]; omega, by simp [skOf]; omega, rfl, fun z hz => ?_⟩
  simp only [skOf, List.mem_cons, List.not_mem_nil, or_false] at hz
  rcases hz with rfl | rfl <;> (simp; omega)
theorem skOf_nums {l : List Int} (h : l.length = 28) : (skOf l).nums = l := by
  unfold Sk.nums skOf
  conv => rhs; rw [split28 h]
  have e : (l.drop 20).take 8 = (l.drop 20).take 4 ++ (l.drop 24).take 4 := by
    rw [show (8 : Nat) = 4 + 4 from rfl, List.take_add, List.drop_drop]
  rw [e]
  simp
theorem nums_skOf {s : Sk} (h : s.lens7) : skOf s.nums = s := by
  obtain ⟨c, u, mi, ma, hi, re, ro⟩ := s
  obtain ⟨h1, h2, h3, h4⟩ := h
  simp only at h1 h2 h3 h4
  match hi, re, ro, h1, h2, h3, h4 with
  | [_, _, _, _, _, _, _, _], [_, _, _, _, _, _, _, _], [r1, r2], _, _, _, h4 =>
    have q1 := h4 r1 (by simp)
    have q2 := h4 r2 (by simp)
    match r1, r2, q1, q2 with
    | [_, _, _, _], [_, _, _, _], _, _ => rfl
theorem Sk.nums_inj {s t : Sk} (hs : s.lens7) (ht : t.lens7) (e : s.nums = t.nums) : s = t := by rw [← nums_skOf hs, ← nums_skOf ht, e]
theorem Sk.bytes_inj {s t : Sk} (hs : s.ok = true) (ht : t.ok = true) (e : s.bytes = t.bytes) : s = t := by
  rw [Sk.bytes_ok hs, Sk.bytes_ok ht] at e
  exact Sk.nums_inj (Sk.ok_lens hs).1 (Sk.ok_lens ht).1 (putAll_inj (Sk.ok_lens hs).2 (Sk.ok_lens ht).2 e)
theorem SkIs.unique {zs : List Int} {s t : Sk} {c d : Bool} (h : SkIs zs s c) (k : SkIs zs t d) : s = t ∧ c = d := by
  unfold SkIs at h k
  cases c <;> cases d <;> simp only [if_true, Bool.false_eq_true, if_false] at h k
  · exact ⟨h.1.trans k.1.symm, rfl⟩
  · exact absurd k.2 (h.2 t k.1)
  · exact absurd h.2 (k.2 s h.1)
  · exact ⟨Sk.bytes_inj h.1 k.1 (h.2.symm.trans k.2), rfl⟩
theorem skIs_yes {zs l : List Int} (hl : l.length = 28) (he : zs = putAll l) (hok : (skOf l).ok = true) : SkIs zs (skOf l) true :=
  (if_pos rfl).mpr ⟨hok, by rw [Sk.bytes_ok hok, skOf_nums hl]; exact he⟩
theorem skIs_bad {zs l : List Int} (hn : ∀ x ∈ l, InN x) (he : zs = putAll l) (hok : (skOf l).ok = false) : SkIs zs Sk.zero false := by
  refine (if_neg (by simp)).mpr ⟨rfl, fun t ht e => ?_⟩
  rw [he, Sk.bytes_ok ht] at e
  have := putAll_inj hn (Sk.ok_lens ht).2 e
  rw [this, nums_skOf (Sk.ok_lens ht).1, ht] at hok
  cases hok
theorem skIs_long {zs l : List Int} (hl : ¬ l.length = 28) (hn : ∀ x ∈ l, InN x) (he : zs = putAll l) : SkIs zs Sk.zero false := by
  refine (if_neg (by simp)).mpr ⟨rfl, fun t ht e => ?_⟩
  rw [he, Sk.bytes_ok ht] at e
  have := putAll_inj hn (Sk.ok_lens ht).2 e
  rw [this] at hl
  exact hl (Sk.nums_len (Sk.ok_lens ht).1)
theorem skIs_no {zs : List Int} (h : ∀ m, (∀ x ∈ m, InN x) → zs ≠ putAll m) : SkIs zs Sk.zero false :=
  (if_neg (by simp)).mpr ⟨rfl, fun t ht e => h t.nums (Sk.ok_lens ht).2 (by rw [e, Sk.bytes_ok ht])⟩
/-- The model's way: 28 numbers are read. -/
theorem skIs_get {zs : List Int} {t : Sk} (ht : t.ok = true) (e : zs = t.bytes) : getTo zs 0 28 = some (t.nums, (zs.length : Int)) := by
  have a := getTo_front t.nums [] (Sk.ok_lens ht).2 (Sk.nums_len (Sk.ok_lens ht).1)
  rw [List.append_nil, ← Sk.bytes_ok ht, ← e] at a
  exact a
theorem skIs_getNone {zs : List Int} (h : getTo zs 0 28 = none) : SkIs zs Sk.zero false :=
  (if_neg (by simp)).mpr ⟨rfl, fun t ht e => by rw [skIs_get ht e] at h; cases h⟩
theorem skIs_getOff {zs l : List Int} {q : Int} (h : getTo zs 0 28 = some (l, q)) (hq : ¬ q = zs.length) : SkIs zs Sk.zero false :=
  (if_neg (by simp)).mpr ⟨rfl, fun t ht e => by rw [skIs_get ht e] at h; cases h; exact hq rfl⟩
theorem skIs_getAll {zs l : List Int} (hz : ∀ x ∈ zs, 0 ≤ x ∧ x ≤ 255) (h : getTo zs 0 28 = some (l, (zs.length : Int))) : zs = putAll l ∧ (∀ x ∈ l, InN x) ∧ l.length = 28 := by
  have a := all_here hz h
  unfold AllIs at a
  rw [if_pos rfl] at a
  exact ⟨a.1, a.2, getTo_len h⟩
/-! ### frames -/
def Fr.numbers (x : Fr) : List Int := [x.kind, x.agent, x.epoch, x.granted, (x.taken.length : Int)] ++ flat x.taken ++ (if x.kind = 1 then [x.item.seq, x.item.cls, x.item.key, x.item.window] ++ x.item.sk.nums else [])
theorem It.ok_nums {x : It} (h : x.ok = true) : (1 ≤ x.seq ∧ x.seq ≤ 60) ∧ (0 ≤ x.cls ∧ x.cls ≤ 1) ∧ InN x.key ∧ InN x.window ∧ x.sk.ok = true := by
  unfold It.ok placeOk at h
  simp only [Bool.and_eq_true, decide_eq_true_eq] at h
  unfold InN
  obtain ⟨⟨⟨h1, h2⟩, h3, h4⟩, h5⟩ := h
  refine ⟨h1, h2, ⟨by omega, by omega⟩, ⟨by omega, by omega⟩, h5⟩
theorem flat_mem {P : Int → Prop} : ∀ {ps : Sp}, (∀ p ∈ ps, P p.1 ∧ P p.2) → ∀ x ∈ flat ps, P x
  | [], _, x, hx => by cases hx
  | p :: ps, h, x, hx => by
    rcases List.mem_cons.1 hx with rfl | hx
    · exact (h p (List.mem_cons_self ..)).1
    rcases List.mem_cons.1 hx with rfl | hx
    · exact (h p (List.mem_cons_self ..)).2
    · exact flat_mem (fun q hq => h q (List.mem_cons_of_mem _ hq)) x hx
theorem Fr.right_spans {x : Fr} (h : x.Right) : ∀ y ∈ flat x.taken, InN y := by
  refine flat_mem (fun p hp => ?_)
  obtain ⟨k, hk, rfl⟩ := List.getElem_of_mem hp
  have a := h.span k hk
  have e : x.taken.at k = x.taken[k] := by unfold Sp.at; rw [List.getElem?_eq_getElem hk]; rfl
  rw [e] at a
  unfold InN
  omega
theorem Fr.right_numbers {x : Fr} (h : x.Right) : ∀ y ∈ x.numbers, InN y := by
  intro y hy
  unfold Fr.numbers at hy
  rcases List.mem_append.1 hy with hy | hy
  · rcases List.mem_append.1 hy with hy | hy
    · have a := h.kind; have b := h.agent; have c := h.epoch; have d := h.granted; have e := h.many
      simp only [List.mem_cons, List.not_mem_nil, or_false] at hy
      unfold InN
      rcases hy with rfl | rfl | rfl | rfl | rfl <;> omega
    · exact Fr.right_spans h y hy
  · have i := h.item
    by_cases q : x.kind = 1
    · rw [if_pos q] at hy i
      obtain ⟨a, b, c, d, e⟩ := It.ok_nums i
      rcases List.mem_append.1 hy with hy | hy
      · simp only [List.mem_cons, List.not_mem_nil, or_false] at hy
        unfold InN at *
        rcases hy with rfl | rfl | rfl | rfl <;> omega
      · exact (Sk.ok_lens e).2 y hy
    · rw [if_neg q] at hy; cases hy
theorem Fr.body_numbers {x : Fr} (h : x.Right) : x.body = [87, 82] ++ putAll x.numbers := by
  unfold Fr.body Fr.numbers
  have i := h.item
  by_cases q : x.kind = 1
  · rw [if_pos q] at i
    simp only [if_pos q]
    rw [putAll_app, putAll_app, putAll_app, Sk.bytes_ok (It.ok_nums i).2.2.2.2]
    simp only [List.append_assoc]
  · simp only [if_neg q, List.append_nil]
    rw [putAll_app]
    simp only [List.append_assoc]
theorem Fr.numbers_inj {x y : Fr} (hx : x.Right) (hy : y.Right) (e : x.numbers = y.numbers) : x = y := by
  unfold Fr.numbers at e
  simp only [List.cons_append, List.nil_append, List.cons.injEq] at e
  obtain ⟨e1, e2, e3, e4, e5, e6⟩ := e
  have el : (flat x.taken).length = (flat y.taken).length := by rw [flat_length, flat_length]; omega
  obtain ⟨e7, e8⟩ := List.append_inj e6 el
  have et : x.taken = y.taken := flat_inj e7
  have ix := hx.item
  have iy := hy.item
  rw [← e1] at iy e8
  by_cases q : x.kind = 1
  · rw [if_pos q] at ix iy
    rw [if_pos q, if_pos q] at e8
    simp only [List.cons.injEq] at e8
    obtain ⟨f1, f2, f3, f4, f5⟩ := e8
    exact Fr.eq_of e1 e2 e3 e4 et (It.eq_of f1 f2 f3 f4 (Sk.nums_inj (Sk.ok_lens (It.ok_nums ix).2.2.2.2).1 (Sk.ok_lens (It.ok_nums iy).2.2.2.2).1 f5))
  · rw [if_neg q] at ix iy
    exact Fr.eq_of e1 e2 e3 e4 et (ix.trans iy.symm)
def Fr.zero : Fr := ⟨0, 0, 0, 0, [], It.zero⟩
/-- These bytes are that frame's; or they are no frame's. -/
def FrIs (zs : List Int) (f : Fr) (d : Bool) : Prop := if d = true then f.ok = true ∧ zs = f.bytes else f = Fr.zero ∧ ∀ g : Fr, g.ok = true → zs ≠ g.bytes
theorem Fr.bytes_ok {x : Fr} (h : x.ok = true) : x.bytes = x.body ++ sumOf x.body := by unfold Fr.bytes; rw [if_pos h]
theorem app4_inj {a b c d : List Int} (hc : c.length = 4) (hd : d.length = 4) (e : a ++ c = b ++ d) : a = b ∧ c = d := by
  refine List.append_inj e ?_
  have := congrArg List.length e
  rw [List.length_append, List.length_append] at this
  omega
theorem Fr.bytes_inj {x y : Fr} (hx : x.ok = true) (hy : y.ok = true) (e : x.bytes = y.bytes) : x = y := by
  rw [Fr.bytes_ok hx, Fr.bytes_ok hy] at e
  have b := (app4_inj (sumOf_len _) (sumOf_len _) e).1
  rw [Fr.body_numbers (Fr.ok_right hx), Fr.body_numbers (Fr.ok_right hy)] at b
  exact Fr.numbers_inj (Fr.ok_right hx) (Fr.ok_right hy) (putAll_inj (Fr.right_numbers (Fr.ok_right hx)) (Fr.right_numbers (Fr.ok_right hy)) (List.append_cancel_left b))
theorem FrIs.unique {zs : List Int} {s t : Fr} {c d : Bool} (h : FrIs zs s c) (k : FrIs zs t d) : s = t ∧ c = d := by
  unfold FrIs at h k
  cases c <;> cases d <;> simp only [if_true, Bool.false_eq_true, if_false] at h k
  · exact ⟨h.1.trans k.1.symm, rfl⟩
  · exact absurd k.2 (h.2 t k.1)
  · exact absurd h.2 (k.2 s h.1)
  · exact ⟨Fr.bytes_inj h.1 k.1 (h.2.symm.trans k.2), rfl⟩
/-- These numbers are that frame's; or they are no frame's. -/
def FrN (l : List Int) (f : Fr) (d : Bool) : Prop := if d = true then f.ok = true ∧ l = f.numbers else f = Fr.zero ∧ ∀ g : Fr, g.ok = true → l ≠ g.numbers
theorem frIs_ne {zs : List Int} (h : ∀ g : Fr, g.ok = true → zs ≠ g.bytes) : FrIs zs Fr.zero false := (if_neg (by simp)).mpr ⟨rfl, h⟩
theorem frIs_yes {zs : List Int} {f : Fr} (h : f.ok = true) (e : zs = f.bytes) : FrIs zs f true := (if_pos rfl).mpr ⟨h, e⟩
/-- What the program reads: a body with its sum, the sign ahead, and numbers. -/
theorem frIs_of {body l : List Int} {f : Fr} {d : Bool} (hl : ∀ x ∈ l, InN x) (h : FrN l f d) (hb : body = [87, 82] ++ putAll l) : FrIs (body ++ sumOf body) f d := by
  unfold FrN at h
  cases d <;> simp only [if_true, Bool.false_eq_true, if_false] at h
  · rw [h.1]
    refine frIs_ne (fun g hg e => ?_)
    rw [Fr.bytes_ok hg] at e
    have b := (app4_inj (sumOf_len _) (sumOf_len _) e).1
    rw [hb, Fr.body_numbers (Fr.ok_right hg)] at b
    exact h.2 g hg (putAll_inj hl (Fr.right_numbers (Fr.ok_right hg)) (List.append_cancel_left b))
  · refine frIs_yes h.1 ?_
    have b : body = f.body := by rw [hb, Fr.body_numbers (Fr.ok_right h.1), h.2]
    rw [Fr.bytes_ok h.1, b]
theorem frIs_noNums {body r : List Int} (hb : body = [87, 82] ++ r) (h : ∀ m, (∀ x ∈ m, InN x) → r ≠ putAll m) : FrIs (body ++ sumOf body) Fr.zero false := by
  refine frIs_ne (fun g hg e => ?_)
  rw [Fr.bytes_ok hg] at e
  have b := (app4_inj (sumOf_len _) (sumOf_len _) e).1
  rw [hb, Fr.body_numbers (Fr.ok_right hg)] at b
  exact h g.numbers (Fr.right_numbers (Fr.ok_right hg)) (List.append_cancel_left b)
theorem frIs_noSign {body : List Int} (h : ∀ r, body ≠ [87, 82] ++ r) : FrIs (body ++ sumOf body) Fr.zero false := by
  refine frIs_ne (fun g hg e => ?_)
  rw [Fr.bytes_ok hg] at e
  have b := (app4_inj (sumOf_len _) (sumOf_len _) e).1
  exact h _ (b.trans (Fr.body_numbers (Fr.ok_right hg)))
theorem frIs_noSum {body s : List Int} (hs : s.length = 4) (h : ¬ s = sumOf body) : FrIs (body ++ s) Fr.zero false := by
  refine frIs_ne (fun g hg e => ?_)
  rw [Fr.bytes_ok hg] at e
  have b := app4_inj hs (sumOf_len _) e
  exact h (by rw [b.2, b.1])
theorem Fr.bytes_min {x : Fr} (h : x.ok = true) : 7 ≤ x.bytes.length := by
  rw [Fr.bytes_ok h, Fr.body_numbers (Fr.ok_right h), List.length_append, List.length_append, sumOf_len]
  have e : x.numbers = x.kind :: x.numbers.tail := by unfold Fr.numbers; rfl
  have k := (Fr.ok_right h).kind
  have p := putAll_pos (a := x.kind) (l := x.numbers.tail) ⟨by omega, by omega⟩
  rw [← e] at p
  simp only [List.length_cons, List.length_nil]
  omega
end Go.Proofs.Ytjndcfamfminkaq
/- What is read out of bytes, as a result; appends that grow, within a region. No statement of the seat is proved here. -/
namespace Go.Proofs.Ytjndcfamfminkaq
open Go.RowKit
def NewSk2 (w : World) (R : Sk → Bool → Prop) (e : Ending) (w' : World) : Prop := ∃ v s d F, e = .returned (.tuple #[v, .bool d]) ∧ RdSk w' v s F ∧ Own w.heap.size w' F ∧ Below w.heap.size w w' ∧ R s d
def NumHeld (b off : Nat) (x0 x1 x2 x3 : Int) (W : World) : Prop := W.cell? ⟨b, off, none⟩ = some (.int .i64 x0) ∧ W.cell? ⟨b, off + 1, none⟩ = some (.int .i64 x1) ∧ W.cell? ⟨b, off + 2, none⟩ = some (.int .i64 x2) ∧ W.cell? ⟨b, off + 3, none⟩ = some (.int .i64 x3)
theorem rdSk_zero7 (w : World) : RdSk w (.agg #[.int .i64 0, .int .i64 0, .int .i64 0, .int .i64 0, .slice none 0 0, .slice none 0 0, .slice none 0 0]) Sk.zero [] := ⟨none, 0, 0, none, 0, 0, none, 0, 0, [], [], [], rfl, ⟨rfl, .inl ⟨rfl, rfl⟩⟩, ⟨rfl, .inl ⟨rfl, rfl⟩⟩, ⟨rfl, .inl ⟨rfl, rfl⟩⟩, rfl⟩
theorem wide_skOf {l : List Int} (h : l.length = 28) : (skOf l).wide := by
  refine ⟨by simp [skOf]; omega, by simp [skOf]; omega, by simp [skOf], fun z hz => ?_⟩
  have := (skOf_lens h).row z hz
  omega
theorem RdI.numHeld {W : World} {b off n : Nat} {l : List Int} {F : List Nat} (h : RdI W (some ⟨b, off, none⟩) n l F) (hn : 4 ≤ n) : NumHeld b off (l.getD 0 0) (l.getD 1 0) (l.getD 2 0) (l.getD 3 0) W := by
  rcases h.cells with ⟨h0, _⟩ | ⟨b', off', _, e, _, hc⟩
  · omega
  · cases e
    exact ⟨hc 0 (by omega), hc 1 (by omega), hc 2 (by omega), hc 3 (by omega)⟩
/-- A part of a list that is read. -/
theorem RdI.part {W : World} {b off m : Nat} {l : List Int} {F : List Nat} (h : RdI W (some ⟨b, off, none⟩) m l F) {k n : Nat} (hkn : k + n ≤ m) (hn : 0 < n) : RdI W (some ⟨b, off + k, none⟩) n ((l.drop k).take n) F := by
  rcases h.cells with ⟨h0, _⟩ | ⟨b', off', _, e, hF, hc⟩
  · omega
  · cases e
    refine ⟨by have := h.length; simp; omega, .inr ⟨b, off + k, hn, rfl, hF, fun i hi => ?_⟩⟩
    rw [Nat.add_assoc, hc (k + i) (by omega)]
    simp [hi]
section
variable {P : Program} {ops : Array Oper} {Q : Exit → Act → World → Prop} {a : Act} {w : World} {o : Oper} {K : Act → World → Prop}
theorem op_grows (s x : Operand) (t : TypeId) (hg : o.guard = none) (hop : o.op = .call { callee := .builtin .append, args := #[s, x], argTypes := #[t, t] })
    (e : TypeId) (i : TypeInfo) (z : Value) (size bytes : Nat) (h1 : P.underlying t = some (.slice e)) (h2 : P.info? e = some i) (h3 : i.zero = some z) (h4 : i.size = size) (h5 : i.bytes = bytes) (h6 : z.cells.size = size) (h7 : 0 < size)
    (ao : Option Addr) (hs : a.eval s = .slice ao 0 0)
    (ad : Addr) (m c : Nat) (news : List Value) (hx : a.eval x = .slice (some ad) m c) (hn : news.length = m * size) (hc : ∀ j u, news[j]? = some u → w.cell? (ad.add j) = some u) (h1c : ∀ u ∈ news, u.oneCell' = true)
    (hm : 0 < m) (b1 : m ≤ maxLen) (b2 : m * bytes ≤ 140737488355328)
    (h : ∀ v' w', w'.ownsRow w.heap.size e size v' m news → Below w.heap.size w w' → ∃ a', a.put o.dst v' = a' ∧ K a' w') : if Region.wanted o (yielded ops a.tmps) = true then Oper.wp P o a w K Q else K (a.put o.dst undef) w := by
  refine step_append_grows hg s x t hop e i z size bytes h1 h2 h3 h4 h5 h6 h7 ao 0 0 [] hs (fun _ => ⟨rfl, rfl⟩) (by simp) (fun _ _ j u hj => by simp at hj) ad m c news hx hn hc h1c (by omega) (by omega) (by simpa using b2) ?_
  intro v' w' k1 k2
  obtain ⟨_, rfl, k3⟩ := h v' w' (by simpa using k1) ((Below.refl _ _).grown k2 (Nat.le_refl _) (fun g e => by cases e))
  exact k3
end
end Go.Proofs.Ytjndcfamfminkaq
/- Appending a slice of numbers, whatever its length, onto an empty literal. No statement of the seat is proved here. -/
namespace Go.Proofs.Ytjndcfamfminkaq
open Go.RowKit
theorem run_append_zero {P : Program} {w : World} (t ty e : TypeId) (i : TypeInfo) (ht : P.underlying t = some (.slice e)) (hi : P.info? e = some i) (ao ax : Option Addr) (c : Nat) :
    (Builtin.append_ #[t, t] ty #[.slice ao 0 0, .slice ax 0 c]).run P w = .ok (.slice ao 0 0) w := by
  have hl : ∀ ad : Addr, (loadCells ad 0).run P w = .ok #[] w := fun ad => by
    have := run_loadCells_list (P := P) w ad [] (fun j v hj => by simp at hj)
    simpa using this
  cases ao <;> cases ax <;> simp [Builtin.append_, run_underlying ht, sizeOf, typeInfo, hi, Builtin.lenOf, Builtin.firstCells, storeCells, hl]
section
variable {P : Program} {ops : Array Oper} {Q : Exit → Act → World → Prop} {a : Act} {w : World} {o : Oper} {K : Act → World → Prop}
theorem op_growsI (s x : Operand) (t : TypeId) (hg : o.guard = none) (hop : o.op = .call { callee := .builtin .append, args := #[s, x], argTypes := #[t, t] })
    (e : TypeId) (i : TypeInfo) (h1 : P.underlying t = some (.slice e)) (h2 : P.info? e = some i) (h3 : i.zero = some (.int .i64 0)) (h4 : i.size = 1) (h5 : i.bytes = 8)
    (ao : Option Addr) (hs : a.eval s = .slice ao 0 0) (ax : Option Addr) (m c : Nat) (zs : List Int) (F : List Nat) (hx : a.eval x = .slice ax m c) (hr : RdI w ax m zs F) (hm : m ≤ 1048576)
    (h : ∀ a' c' F' w', RdI w' a' m zs F' → Own w.heap.size w' F' → Below w.heap.size w w' → (∀ b, a'.map (·.block) = some b → ao.map (·.block) = some b ∨ w.heap.size ≤ b) → ∃ a2, a.put o.dst (.slice a' m c') = a2 ∧ K a2 w') : if Region.wanted o (yielded ops a.tmps) = true then Oper.wp P o a w K Q else K (a.put o.dst undef) w := by
  by_cases h0 : m = 0
  · subst h0
    have hz : zs = [] := List.eq_nil_of_length_eq_zero hr.length
    subst hz
    have hw : Region.wanted o (yielded ops a.tmps) = true := by unfold Region.wanted; rw [hg]
    rw [if_pos hw]
    obtain ⟨_, rfl, k⟩ := h ao 0 [] w ⟨rfl, .inl ⟨rfl, rfl⟩⟩ Own.nil (Below.refl _ _) (fun b hb => .inl hb)
    have hrun := run_append_zero (P := P) (w := w) t o.type e i h1 h2 ao ax c
    unfold Oper.wp
    simp [execOp, hop, resolve, invoke, builtin, hs, hx, hrun, Result.andThen]
    exact k
  · obtain ⟨b, off, rfl⟩ := hr.addr (by omega)
    refine op_grows s x t hg hop e i (.int .i64 0) 1 8 h1 h2 h3 h4 h5 rfl (by decide) ao hs ⟨b, off, none⟩ m c (zs.map (Value.int .i64)) hx (by rw [List.length_map, hr.length]; omega) (hr.from (Below.refl _ _) (by omega)) (ints_one _) (by omega) (by unfold maxLen; omega) (by omega) ?_
    intro v' w' hown hb
    obtain ⟨a', c', F', rfl, hr', ho'⟩ := rdI_of_own hown
    refine h a' c' F' w' hr' ho' hb (fun g hg => ?_)
    rcases hr'.cells with ⟨q, _⟩ | ⟨b', off', _, e', hF, _⟩
    · omega
    · subst e'
      right
      simp at hg
      subst hg
      exact ho'.ge _ (by rw [hF]; simp)
end
end Go.Proofs.Ytjndcfamfminkaq
/- The walk through the model's copying of a summary, whatever lists it has. No statement of the seat is proved here. -/
namespace Go.Proofs.Ytjndcfamfminkaq
open Go.RowKit
/-- What is copied behind k rows. -/
structure CopyA (w : World) (A : Array Value) (s : Sk) (a1 a2 : Option Addr) (n1 n2 d1 d2 : Nat) (F1 F2 : List Nat) (lo k : Nat) (v : Value) (vs : List Value) (G : List Nat) (W : World) : Prop where
  three : Three w A 29 #[.int .i64 0, .int .i64 0, .int .i64 0, .int .i64 0, .slice none 0 0, .slice none 0 0, .slice none 0 0] #[.int .i64 s.count, .int .i64 s.sum, .int .i64 s.min, .int .i64 s.max, .slice a1 n1 d1, .slice a2 n2 d2, v] 29 W
  r1 : RdI W a1 n1 s.hist F1
  r2 : RdI W a2 n2 s.regs F2
  own : Own (w.heap.size + 3) W (F1 ++ F2)
  lt : ∀ b ∈ F1 ++ F2, b < lo
  row : W.ownsRow lo 22 1 v k vs
  rd : RdS W ((s.rows.take k).map ints) vs G
  og : Own lo W G
  ap : ∀ b, v.ownBlock = some b → b ∉ G
  big : w.heap.size + 3 ≤ lo
  lw : lo ≤ W.heap.size
section
variable {w W W' : World} {A : Array Value} {s : Sk} {a1 a2 : Option Addr} {n1 n2 d1 d2 : Nat} {F1 F2 : List Nat} {lo k : Nat} {v : Value} {vs : List Value} {G : List Nat}
theorem CopyA.below (h : CopyA w A s a1 a2 n1 n2 d1 d2 F1 F2 lo k v vs G W) (b : Below W.heap.size W W') : CopyA w A s a1 a2 n1 n2 d1 d2 F1 F2 lo k v vs G W' :=
  ⟨h.three.below b, h.r1.below b, h.r2.below b, h.own.below (fun x hx => (List.mem_append.1 hx).elim (h.r1.lt x) (h.r2.lt x)) b, h.lt, ownsRow_below h.row b, h.rd.below b, h.og.below h.rd.lt b, h.ap, h.big, Nat.le_trans h.lw b.size⟩
theorem CopyA.step (h : CopyA w A s a1 a2 n1 n2 d1 d2 F1 F2 lo k v vs G W) {ak : Option Addr} {nk cp3 g4 cp4 L : Nat} {Fk : List Nat} (rk : RdI W ak nk (s.rows.getD k []) Fk) (ok : Own L W Fk) (ltG : ∀ b ∈ G, b < L) (ltv : ∀ b, v.ownBlock = some b → b < L) (hL : lo ≤ L)
    (hown : W'.ownsRow lo 22 1 (.slice (some ⟨g4, 0, none⟩) (k + 1) cp4) (k + 1) (vs ++ [.slice ak nk cp3])) (hgrow : W.grownBy W' v.ownBlock) (hat : v.ownBlock = some g4 ∨ g4 = W.heap.size) (hk : k < s.rows.length) :
    CopyA w A s a1 a2 n1 n2 d1 d2 F1 F2 lo (k + 1) (.slice (some ⟨g4, 0, none⟩) (k + 1) cp4) (vs ++ [.slice ak nk cp3]) (G ++ Fk) (W'.setCell ⟨w.heap.size + 1 + 1, 6, none⟩ (.slice (some ⟨g4, 0, none⟩) (k + 1) cp4)) ∧ CopyS w A W' ∧
      W'.cell? ⟨w.heap.size + 1 + 1, 6, none⟩ = some v ∧ W'.frozen? ⟨w.heap.size + 1 + 1, 6, none⟩ = false := by
  have big := h.big
  have blk : ∀ b, b < W.heap.size → ¬ v.ownBlock = some b → W'.heap[b]? = W.heap[b]? := fun b hb hn => hgrow.block b hb (fun e => hn e.symm)
  have vge : ∀ b, v.ownBlock = some b → lo ≤ b := fun b hb => (h.row.lt b hb).1
  have bx := h.three.box.agree (blk _ h.three.box.lt (fun e => by have := vge _ e; omega))
  have rs := h.three.res.agree (blk _ h.three.res.lt (fun e => by have := vge _ e; omega))
  have lc := h.three.loc.agree (blk _ h.three.loc.lt (fun e => by have := vge _ e; omega))
  have bel : Below w.heap.size w W' := h.three.bel.grown hgrow h.three.bel.size (fun b hb => by have := vge b hb; omega)
  have T : Three w A 29 #[.int .i64 0, .int .i64 0, .int .i64 0, .int .i64 0, .slice none 0 0, .slice none 0 0, .slice none 0 0] #[.int .i64 s.count, .int .i64 s.sum, .int .i64 s.min, .int .i64 s.max, .slice a1 n1 d1, .slice a2 n2 d2, v] 29 W' := ⟨bx, rs, lc, bel⟩
  have no : ∀ b ∈ F1 ++ F2 ++ (G ++ Fk), b ≠ w.heap.size + 1 + 1 := fun b hb e => by
    rcases List.mem_append.1 hb with hb | hb
    · have := h.own.ge b hb; omega
    · rcases List.mem_append.1 hb with hb | hb
      · have := h.og.ge b hb; omega
      · have := ok.ge b hb; omega
  have agF : Agree W (W'.setCell ⟨w.heap.size + 1 + 1, 6, none⟩ (.slice (some ⟨g4, 0, none⟩) (k + 1) cp4)) (F1 ++ F2) := Agree.thenSet (fun b hb => blk b ((List.mem_append.1 hb).elim (h.r1.lt b) (h.r2.lt b)) (fun e => by have := vge _ e; have := h.lt b hb; omega)) (fun hx => no _ (List.mem_append_left _ hx) rfl) _ _
  have agG : Agree W (W'.setCell ⟨w.heap.size + 1 + 1, 6, none⟩ (.slice (some ⟨g4, 0, none⟩) (k + 1) cp4)) (G ++ Fk) := Agree.thenSet (fun b hb => blk b ((List.mem_append.1 hb).elim (h.rd.lt b) (rk.lt b)) (fun e => (List.mem_append.1 hb).elim (h.ap b e) (fun hf => by have := ok.ge b hf; have := ltv b e; omega))) (fun hx => no _ (List.mem_append_right _ hx) rfl) _ _
  have hgw : w.heap.size + 1 + 1 < W'.heap.size := lc.lt
  have rowS : (W'.setCell ⟨w.heap.size + 1 + 1, 6, none⟩ (.slice (some ⟨g4, 0, none⟩) (k + 1) cp4)).ownsRow lo 22 1 (.slice (some ⟨g4, 0, none⟩) (k + 1) cp4) (k + 1) (vs ++ [.slice ak nk cp3]) :=
    own_keep hown (grown_set W' (w.heap.size + 1 + 1) 6 _) (by omega)
  refine ⟨⟨T.set 6 _, h.r1.agree agF.left, h.r2.agree agF.right, h.own.agree agF, h.lt, rowS, ?_, ?_, ?_, h.big, ?_⟩, ⟨bx, bel⟩, by rw [lc.cell]; rfl, lc.frozen 6⟩
  · rw [take_snoc s.rows [] k hk, List.map_append]
    exact (h.rd.agree agG.left).snoc (rd_ints.2 ⟨_, _, _, rfl, rk.agree agG.right⟩)
  · exact (h.og.agree agG.left).join (ok.agree agG.right) ltG hL
  · intro b hb hx
    have hb' : b = g4 := by simpa [Value.ownBlock] using hb.symm
    subst hb'
    rcases hat with e | e
    · rcases List.mem_append.1 hx with hx | hx
      · exact h.ap _ e hx
      · have := ok.ge _ hx; have := ltv _ e; omega
    · rcases List.mem_append.1 hx with hx | hx
      · have := h.rd.lt _ hx; omega
      · have := rk.lt _ hx; omega
  · have := hgrow.size; have := h.lw; simp; omega
theorem CopyA.rows (h : CopyA w A s a1 a2 n1 n2 d1 d2 F1 F2 lo k v vs G W) : ∃ a c F, v = .slice a k c ∧ RdII W a k (s.rows.take k) F ∧ Own (w.heap.size + 3) W (F1 ++ (F2 ++ F)) ∧ k ≤ c := by
  have big := h.big
  rcases h.row.2 with ⟨e, e'⟩ | ⟨g, cap, cur, e, e2, e3, e4⟩
  · subst e'
    exact ⟨none, 0, [], e, ⟨by simp, .inl ⟨rfl, rfl⟩⟩, by simpa using h.own, by omega⟩
  · subst e
    have hl : vs.length = k := by simpa using h.row.1
    have hlen := h.rd.length
    by_cases h0 : k = 0
    · subst h0
      exact ⟨_, cap, [], rfl, ⟨by simp, .inl ⟨rfl, rfl⟩⟩, by simpa using h.own, by omega⟩
    · have hm : RdM W ((s.rows.take k).map ints) g 0 G := rdM_of_own 0 h.rd (fun i hi => by rw [Nat.zero_add]; exact h.row.cellAt i (by omega))
      have hg : lo ≤ g := (h.row.lt g rfl).1
      have hgG : g ∉ G := h.ap g rfl
      have og : Own lo W (g :: G) := ⟨List.nodup_cons.2 ⟨hgG, h.og.nodup⟩, fun b hb o => (List.mem_cons.1 hb).elim (fun e => by subst e; exact h.row.frozenAt o) (fun hb => h.og.free b hb o), fun b hb => (List.mem_cons.1 hb).elim (fun e => by omega) (h.og.ge b)⟩
      refine ⟨_, cap, g :: G, rfl, ⟨by rw [List.length_map] at hlen; omega, .inr ⟨g, 0, G, by omega, rfl, rfl, hm⟩⟩, ?_, e4.1⟩
      rw [← List.append_assoc]
      exact h.own.join og h.lt h.big
end
end Go.Proofs.Ytjndcfamfminkaq
/- A slice of structs that grows by appending, element by element. No statement of the seat is proved here. -/
namespace Go.Proofs.Ytjndcfamfminkaq
open Go.RowKit
section
variable {α : Type} {K : ElK α} {e : TypeId} {xs : List α} {lo k : Nat} {v : Value} {vs : List Value} {G : List Nat} {W W' : World}
/-- What has been appended behind k rounds. -/
structure GrowL (K : ElK α) (e : TypeId) (xs : List α) (lo k : Nat) (v : Value) (vs : List Value) (G : List Nat) (W : World) : Prop where
  row : W.ownsRow lo e K.n v k vs
  rd : RdC K W (xs.take k) vs G
  og : Own lo W G
  ap : ∀ b, v.ownBlock = some b → b ∉ G
  lw : lo ≤ W.heap.size
theorem GrowL.start (hw : lo ≤ W.heap.size) : GrowL K e xs lo 0 (.slice none 0 0) [] [] W := ⟨World.ownsRow_nil _ _ _ _, by rw [List.take_zero]; exact RdC.nil, Own.nil, (fun b hb => by cases hb), hw⟩
theorem GrowL.below (h : GrowL K e xs lo k v vs G W) (b : Below W.heap.size W W') : GrowL K e xs lo k v vs G W' := by
  refine ⟨?_, h.rd.below b, h.og.below h.rd.lt b, h.ap, Nat.le_trans h.lw b.size⟩
  refine ⟨h.row.1, ?_⟩
  rcases h.row.2 with q | ⟨g, cap, cur, h1, h2, h3, h4⟩
  · exact .inl q
  · refine .inr ⟨g, cap, cur, h1, h2, ?_, h4⟩
    rw [b.block g (h.row.lt g (by rw [h1]; rfl)).2]
    exact h3
theorem GrowL.set {g j : Nat} {u : Value} (h : GrowL K e xs lo k v vs G W) (hg : g < lo) : GrowL K e xs lo k v vs G (W.setCell ⟨g, j, none⟩ u) := by
  have nG : g ∉ G := fun hx => by have := h.og.ge _ hx; omega
  refine ⟨⟨h.row.1, ?_⟩, h.rd.agree (.set nG _ _), h.og.agree (.set nG _ _), h.ap, by simpa using h.lw⟩
  rcases h.row.2 with q | ⟨g', cap, cur, h1, h2, h3, h4⟩
  · exact .inl q
  · exact .inr ⟨g', cap, cur, h1, h2, by rw [Below.heap_setCell W ⟨g, j, none⟩ u g' (by show g' ≠ g; omega)]; exact h3, h4⟩
theorem GrowL.setRow {g : Nat} {ds : Array Value} (h : GrowL K e xs lo k v vs G W) (hg : g < lo) : GrowL K e xs lo k v vs G (W.setRow g ds) := by
  have nG : g ∉ G := fun hx => by have := h.og.ge _ hx; omega
  refine ⟨⟨h.row.1, ?_⟩, h.rd.agree (Agree.row nG _), h.og.agree (Agree.row nG _), h.ap, ?_⟩
  · rcases h.row.2 with q | ⟨g', cap, cur, h1, h2, h3, h4⟩
    · exact .inl q
    · exact .inr ⟨g', cap, cur, h1, h2, by rw [setRow_other W g g' ds (by omega)]; exact h3, h4⟩
  · have := (below_setRow (Below.refl 0 W) (Nat.zero_le g) ds).size
    exact Nat.le_trans h.lw this
theorem GrowL.lts (h : GrowL K e xs lo k v vs G W) : (∀ b ∈ G, b < W.heap.size) ∧ (∀ b, v.ownBlock = some b → b < W.heap.size) ∧ lo ≤ W.heap.size := ⟨h.rd.lt, fun b hb => (h.row.lt b hb).2, h.lw⟩
theorem GrowL.step (h : GrowL K e xs lo k v vs G W) {x : α} {cs : Array Value} {Fk : List Nat} {L g4 cp4 : Nat} (hx : xs[k]? = some x) (rk : K.R W (.agg cs) x Fk) (hn : cs.size = K.n) (ok : Own L W Fk) (ltG : ∀ b ∈ G, b < L) (ltv : ∀ b, v.ownBlock = some b → b < L) (hL : lo ≤ L)
    (hown : W'.ownsRow lo e K.n (.slice (some ⟨g4, 0, none⟩) (k + 1) cp4) (k + 1) (vs ++ cs.toList)) (hgrow : W.grownBy W' v.ownBlock) (hat : v.ownBlock = some g4 ∨ g4 = W.heap.size) :
    GrowL K e xs lo (k + 1) (.slice (some ⟨g4, 0, none⟩) (k + 1) cp4) (vs ++ cs.toList) (G ++ Fk) W' := by
  have blk : ∀ b, b < W.heap.size → ¬ v.ownBlock = some b → W'.heap[b]? = W.heap[b]? := fun b hb hn => hgrow.block b hb (fun e => hn e.symm)
  have agG : Agree W W' G := fun b hb => blk b (h.rd.lt b hb) (fun e => h.ap b e hb)
  have agF : Agree W W' Fk := fun b hb => blk b (K.lt rk b hb) (fun e => by have := ok.ge b hb; have := ltv b e; omega)
  refine ⟨hown, ?_, ?_, ?_, Nat.le_trans h.lw hgrow.size⟩
  · rw [take_snoc_at hx]
    exact (h.rd.agree agG).snoc (K.agree rk agF) hn
  · exact (h.og.agree agG).join (ok.agree agF) ltG hL
  · intro b hb hx
    have hb' : b = g4 := by simpa [Value.ownBlock] using hb.symm
    subst hb'
    rcases hat with q | q
    · rcases List.mem_append.1 hx with hx | hx
      · exact h.ap _ q hx
      · have := ok.ge _ hx; have := ltv _ q; omega
    · rcases List.mem_append.1 hx with hx | hx
      · have := h.rd.lt _ hx; omega
      · have := K.lt rk _ hx; omega
/-- What lies elsewhere stays, where only the growing row is written. -/
theorem GrowL.other (h : GrowL K e xs lo k v vs G W) (hgrow : W.grownBy W' v.ownBlock) {b : Nat} (hb : b < lo) : W'.heap[b]? = W.heap[b]? := hgrow.block b (Nat.lt_of_lt_of_le hb h.lw) (fun e => by have := (h.row.lt b e.symm).1; omega)
theorem GrowL.done (h : GrowL K e xs lo k v vs G W) (hk : xs.length = k) : ∃ a cap F, v = .slice a k cap ∧ RdL K W a k xs F ∧ Own lo W F ∧ Capd a k cap := by
  have rd := h.rd
  rw [List.take_of_length_le (Nat.le_of_eq hk)] at rd
  exact rdL_of_own h.row rd h.og h.ap
/-- The same, and where its blocks lie. -/
theorem GrowL.done2 (h : GrowL K e xs lo k v vs G W) (hk : xs.length = k) : ∃ a cap F, v = .slice a k cap ∧ RdL K W a k xs F ∧ Own lo W F ∧ Capd a k cap ∧ ∀ b ∈ F, v.ownBlock = some b ∨ b ∈ G := by
  have rd := h.rd
  rw [List.take_of_length_le (Nat.le_of_eq hk)] at rd
  have hr := h.row
  have hl : xs.length = k := hk
  rcases hr.2 with ⟨e1, e2⟩ | ⟨g, cap, cur, e1, h1, h2, h3, h4, h5, h6⟩
  · subst e2
    obtain rfl : xs = [] := List.eq_nil_of_length_eq_zero hl
    exact ⟨_, 0, [], e1, RdL.nil, Own.nil, ⟨fun _ => rfl, Nat.le_refl _⟩, fun b hb => by cases hb⟩
  · by_cases h0 : k = 0
    · subst h0
      obtain rfl : xs = [] := List.eq_nil_of_length_eq_zero hl
      exact ⟨_, cap, [], e1, RdL.zero, Own.nil, ⟨fun e => (by cases e), h3⟩, fun b hb => by cases hb⟩
    · subst e1
      refine ⟨_, cap, g :: G, rfl, ⟨hl, .inr ⟨g, 0, G, by omega, rfl, rfl, rdEls_of 0 rd (fun i hi => ?_)⟩⟩, ⟨?_, fun b hb o => ?_, fun b hb => ?_⟩, ⟨(fun e => by cases e), h3⟩, fun b hb => ?_⟩
      · rw [Nat.zero_add]; exact hr.cellAt i (by rw [← hr.1]; exact hi)
      · exact List.nodup_cons.2 ⟨h.ap g rfl, h.og.nodup⟩
      · rcases List.mem_cons.1 hb with rfl | hb
        · exact hr.frozenAt o
        · exact h.og.free b hb o
      · rcases List.mem_cons.1 hb with rfl | hb
        · exact h1
        · exact h.og.ge b hb
      · rcases List.mem_cons.1 hb with rfl | hb
        · exact .inl rfl
        · exact .inr hb
end
theorem news_lit (w : World) (cs : Array Value) (t : TypeId) : ∀ j u, cs.toList[j]? = some u → (w.alloc (.cells cs t)).cell? ((⟨w.heap.size, 0, none⟩ : Addr).add j) = some u := by
  intro j u hu
  have ea : ((⟨w.heap.size, 0, none⟩ : Addr).add j) = ⟨w.heap.size, j, none⟩ := by simp [Addr.add]; try (intro h; omega)
  rw [ea, (Blk.made w cs t).cell j, ← Array.getElem?_toList]
  exact hu
end Go.Proofs.Ytjndcfamfminkaq
/- The walks through the model's copying of an item and of an agent. No statement of the seat is proved here. -/
namespace Go.Proofs.Ytjndcfamfminkaq
open Go.RowKit
end Go.Proofs.Ytjndcfamfminkaq
/- The walk through the model's AgentHear. No statement of the seat is proved here. -/
namespace Go.Proofs.Ytjndcfamfminkaq
open Go.RowKit
def Ag.hears (x : Ag) (f : Fr) : Bool := x.ok && f.ok && decide (2 ≤ f.kind) && decide (f.agent = x.id) && (f.taken.ok && f.taken.under x.sealed.length)
/-- What an agent is behind a frame, and what it tells. -/
def Ag.hear (x : Ag) (f : Fr) : Ag × Int :=
  if x.hears f = false then (x, 1)
  else if f.epoch < x.epoch then (x, 2)
  else if f.kind = 2 ∧ f.epoch = x.epoch then (⟨x.id, x.epoch, true, max x.granted f.granted, x.sealed, joinTo x.taken f.taken f.taken.length, x.next⟩, 0)
  else (⟨x.id, f.epoch, decide (f.kind = 2), if f.kind = 2 then f.granted else 0, x.sealed, joinTo x.taken f.taken f.taken.length, x.next⟩, 0)
def NewAg2 (w : World) (z : Ag × Int) (e : Ending) (w' : World) : Prop := ∃ v F G c, e = .returned (.tuple #[v, .int .i64 c]) ∧ RdAg w' v z.1 F G ∧ c = z.2 ∧ Own w.heap.size w' F ∧ Own w.heap.size w' G ∧ (∀ b ∈ F, b ∉ G) ∧ Below w.heap.size w w'
section
variable {P : Program} {ops : Array Oper} {Q : Exit → Act → World → Prop} {a : Act} {w : World} {o : Oper} {rest : List Oper} {x y : Operand}
theorem load_knownw8 (ty : TypeId) (g : Nat) (cells : Array Value) (t : TypeId) (d : TypeDesc) (hg : Blk w g cells t) (hw : Region.wanted o (yielded ops a.tmps) = true) (ho : o.op = .load ty x) (hx : a.eval x = .pointer (some ⟨g, 0, none⟩))
    (hu : P.underlying ty = some d) (hd : (match d with | .struct _ | .array _ _ => true | _ => false) = true) (hi : (P.info? ty).map (·.size) = some cells.size)
    (h : wpList P ops Q rest (a.put o.dst (.agg cells)) w) : Stop (wpList P ops Q (o :: rest) a w) := by
  refine wpList_step fun K hK => ?_
  rw [if_pos hw]
  unfold Oper.wp execOp
  simp only [ho, hx, Instr.loadAt, Instr.sureAddr, Sem.run_bind, Sem.run_pure, Result.andThen_ok, run_loadVar_row w g t ty cells (0, 0) d hg hu hd hi]
  exact hK _ _ h
end
end Go.Proofs.Ytjndcfamfminkaq
/- The walk through the model's AgentNew. No statement of the seat is proved here. -/
namespace Go.Proofs.Ytjndcfamfminkaq
open Go.RowKit
def Ag.zero : Ag := ⟨0, 0, false, 0, [], [], 0⟩
def Ag.fresh (n : Int) : Ag := ⟨n, 0, false, 0, [], [], 0⟩
/-- A new agent, or none. -/
def Ag.made (n : Int) : Ag := if (Ag.fresh n).ok = true then Ag.fresh n else Ag.zero
theorem rdAg_fresh (w : World) (n : Int) : RdAg w (.agg #[.int .i64 n, .int .i64 0, .bool false, .int .i64 0, .slice none 0 0, .slice none 0 0, .int .i64 0]) (Ag.fresh n) [] [] := ⟨none, 0, 0, none, 0, 0, rfl, RdL.nil, RdP.nil, ⟨fun _ => rfl, Nat.le_refl _⟩, ⟨fun _ => rfl, Nat.le_refl _⟩⟩
theorem fresh_ok (n : Int) : (Ag.fresh n).ok = decide (0 ≤ n ∧ n ≤ 2) := by
  by_cases h : 0 ≤ n ∧ n ≤ 2
  · rw [decide_eq_true h]
    unfold Ag.ok Ag.fresh
    simp only [decide_eq_true h]
    rfl
  · rw [decide_eq_false h]
    unfold Ag.ok Ag.fresh
    simp only [decide_eq_false h]
    rfl
end Go.Proofs.Ytjndcfamfminkaq
/- The walks through the model's Waiting and AgentNew. No statement of the seat is proved here. -/
namespace Go.Proofs.Ytjndcfamfminkaq
open Go.RowKit
/-- Of the numbers 1 to k those that are not taken. -/
def waitTo (ps : Sp) : Nat → List Int
  | 0 => []
  | k + 1 => waitTo ps k ++ (if ps.has ((k : Int) + 1) = true then [] else [(k : Int) + 1])
theorem waitTo_len (ps : Sp) : ∀ k, (waitTo ps k).length ≤ k
  | 0 => by simp [waitTo]
  | k + 1 => by
    have := waitTo_len ps k
    rw [waitTo, List.length_append]
    split <;> simp <;> omega
theorem own_mono8 {w : World} {B B' e size n : Nat} {v : Value} {xs : List Value} (h : w.ownsRow B e size v n xs) (hB : B' ≤ B) : w.ownsRow B' e size v n xs := by
  refine ⟨h.1, ?_⟩
  rcases h.2 with q | ⟨g, cap, cur, h1, h2, h3⟩
  · exact .inl q
  · exact .inr ⟨g, cap, cur, h1, by omega, h3⟩
/-- How many come into question. -/
def Ag.upTo (x : Ag) : Nat := min x.sealed.length x.granted.toNat
def Ag.waits (x : Ag) : List Int := if x.ok = true ∧ x.live = true then waitTo x.taken x.upTo else []
end Go.Proofs.Ytjndcfamfminkaq
/- The walks through the program's areInPlace, AgentOk, AgentNew, seqInTurn and Waiting. No statement of the seat is proved here. -/
namespace Go.Proofs.Ytjndcfamfminkaq
open Go.RowKit
theorem infoItB8 : (Try.prog.info? 49).map (·.size) = some 11 := by kernel_rfl
set_option maxRecDepth 200000 in
set_option maxHeartbeats 2000000 in
theorem areInPlace_any (a : Option Addr) (len cap : Nat) (xs : List It) (F : List Nat) (w : World) (h : RdL itK w a len xs F) (hw : ∀ y ∈ xs, y.sk.wide) (hlen : len ≤ 2097152) :
    Calls Try.prog 87 #[.slice a len cap] w fun e w' => e = .returned (.bool (itsOk xs)) ∧ Below w.heap.size w w' := by
  have HL : Hid (RdL itK w a len xs F ∧ (∀ y ∈ xs, y.sk.wide) ∧ xs.length = len) := ⟨h, hw, h.length⟩
  clear h hw
  go_enter Try.func87, Try.ntmps87
  go_wp2
  go_loopw [7] (fun i wr => ∃ (k : Nat), k ≤ len ∧ i = .int .i64 k ∧ Hid (Below w.heap.size w wr ∧ ∀ j y, j < k → xs[j]? = some y → y.ok = true ∧ y.seq = (j : Int) + 1)) (fun i _ => len - (intOf i).toNat)
  case atStart => exact ⟨0, by omega, rfl, Below.refl _ _, fun j y hj => by omega⟩
  case round =>
    obtain ⟨k, hk, rfl, HR⟩ := hrel
    by_cases hlt : k < len
    · have hI : (k : Int) < (len : Int) := by omega
      obtain ⟨b, off, ha, hbF, cs, Fi, hcs, hcc, hr, _⟩ := HL.out.1.get k hlt
      have ha' := ha.symm
      subst ha'
      have hbw : b < w.heap.size := HL.out.1.lt b hbF
      obtain ⟨y, hy⟩ : ∃ y, xs[k]? = some y := ⟨_, List.getElem?_eq_getElem (by rw [HL.out.2.2]; exact hlt)⟩
      have HY : Hid (xs[k]? = some y ∧ y.sk.wide ∧ cs.size = 11 ∧ RdIt w (.agg cs) y Fi ∧ cs.all (·.oneCell') = true) := ⟨hy, HL.out.2.1 y (List.mem_of_getElem? hy), hcs, hr y hy, by
        obtain ⟨a1, n1, c1, a2, n2, c2, a3, n3, c3, e⟩ := (hr y hy).cells11
        injection e with e
        rw [e]
        simp [Value.oneCell']⟩
      have HC : Hid (∀ j, j < 11 → wr.cell? ⟨b, off + k * 11 + j, none⟩ = cs[j]?) := fun j hj => by
        have q : wr.cell? ⟨b, off + k * 11 + j, none⟩ = w.cell? ⟨b, off + k * 11 + j, none⟩ := HR.out.1.cell (p := ⟨b, off + k * 11 + j, none⟩) hbw
        exact q.trans (hcc j hj)
      clear ha hbF hcs hcc hr hy
      go_wp2_with (first | go_skip | (with_reducible refine stopLoad 49 rfl ?_))
      refine load_at 49 b (off + k * 11) 11 cs _ HC.out HY.out.2.2.1 rfl rfl rfl Try.underlying49 rfl infoItB8 ?_
      go_wp2_with (first | go_skip | (with_reducible refine stopStore 49 rfl ?_))
      refine store_fresh 49 wr.heap.size rfl #[.int .i64 0, .int .i64 0, .int .i64 0, .int .i64 0, .int .i64 0, .int .i64 0, .int .i64 0, .int .i64 0, .slice none 0 0, .slice none 0 0, .slice none 0 0] cs 49 rfl rfl rfl rfl (by rw [HY.out.2.2.1]; exact infoItB8) (by rw [HY.out.2.2.1]; rfl) HY.out.2.2.2.2 ?_
      intro w2 hg2 hb2
      have HR2 : Hid (Below w.heap.size w w2 ∧ Blk w2 wr.heap.size cs 49) := ⟨Below.next HR.out.1 hb2, hg2⟩
      obtain ⟨X, hX⟩ : ∃ X, X = wr.heap.size := ⟨_, rfl⟩
      rw [← hX] at HR2 ⊢
      have HN : Hid (∀ j y, j < k → xs[j]? = some y → y.ok = true ∧ y.seq = (j : Int) + 1) := HR.out.2
      clear hg2 hb2 HR HC hX
      have cq : w2.cell? ⟨X, 0, none⟩ = some (.int .i64 y.seq) := by
        rw [HR2.out.2.cell 0]
        exact RdIt.first HY.out.2.2.2.1
      by_cases hq : y.seq = (k : Int) + 1
      · have hqb : (y.seq != (k : Int) + 1) = false := by simpa using hq
        have HQ : Hid (y.seq = (k : Int) + 1) := hq
        clear hq
        go_wp2_with (first | go_skip | (with_reducible refine stopLoad 49 rfl ?_))
        refine load_knownw8 49 X cs 49 _ HR2.out.2 rfl rfl rfl Try.underlying49 rfl (by rw [HY.out.2.2.1]; exact infoItB8) ?_
        go_wp2_with fail
        refine (itemOkImpl_any _ y Fi _ (HY.out.2.2.2.1.below HR2.out.1) HY.out.2.1).mono ?_
        rintro e w4 ⟨rfl, hb4⟩
        have HR4 : Hid (Below w.heap.size w w4) := Below.next HR2.out.1 hb4
        obtain ⟨d, hd⟩ : ∃ d, d = y.ok := ⟨_, rfl⟩
        rw [← hd]
        have HD : Hid (d = y.ok) := hd
        clear hd hb4 cq
        cases d
        · have HV : Hid (itsOk xs = false) := itsOk_not HY.out.1 (.inl HD.out.symm)
          go_wp2
          go_ret
          exact ⟨ret_bool HV.out.symm, HR4.out⟩
        have HN2 : Hid (∀ j z, j < k + 1 → xs[j]? = some z → z.ok = true ∧ z.seq = (j : Int) + 1) := fun j z hj hz => by
          by_cases e : j = k
          · subst e
            rw [HY.out.1] at hz
            cases hz
            exact ⟨HD.out.symm, HQ.out⟩
          · exact HN.out j z (by omega) hz
        clear HN
        go_wp2
        go_roundw
        case rel => exact ⟨k + 1, by omega, by go_num, HR4.out, HN2.out⟩
        case measure => simp [intOf]; omega
      · have hqb : (y.seq != (k : Int) + 1) = true := by simpa using hq
        have HV : Hid (itsOk xs = false) := itsOk_not HY.out.1 (.inr hq)
        clear hq
        go_wp2
        go_ret
        exact ⟨ret_bool HV.out.symm, HR2.out.1⟩
    · obtain rfl : k = len := by omega
      have HV : Hid (itsOk xs = true) := itsOk_all (fun j y hy => HR.out.2 j y (by have := (List.getElem?_eq_some_iff.1 hy).1; have := HL.out.2.2; omega) hy)
      have hI : ¬ (k : Int) < (k : Int) := by omega
      go_wp2
      go_ret
      exact ⟨ret_bool HV.out.symm, HR.out.1⟩
theorem itsOk_len {xs : List It} (h : itsOk xs = true) : xs.length ≤ 60 := by
  by_cases h0 : xs.length = 0
  · omega
  · have hk : xs.length - 1 < xs.length := by omega
    have q := itsOk_at h (List.getElem?_eq_getElem hk)
    have e := q.1
    unfold It.ok at e
    simp only [Bool.and_eq_true, decide_eq_true_eq] at e
    have := q.2
    omega
theorem Ag.ok_prog (x : Ag) : x.ok = (decide (0 ≤ x.id ∧ x.id ≤ 2) && decide (0 ≤ x.epoch ∧ x.epoch ≤ 1000) && decide (0 ≤ x.granted ∧ x.granted ≤ 60) && decide (0 ≤ x.next ∧ x.next ≤ 60) && (x.live || decide (x.granted ≤ 0)) && (itsOk x.sealed && (x.taken.ok && x.taken.under x.sealed.length))) := by
  unfold Ag.ok
  cases h : itsOk x.sealed
  · simp
  · rw [decide_eq_true (itsOk_len h)]
    generalize decide (0 ≤ x.id ∧ x.id ≤ 2) = p1
    generalize decide (0 ≤ x.epoch ∧ x.epoch ≤ 1000) = p2
    generalize decide (0 ≤ x.granted ∧ x.granted ≤ 60) = p3
    generalize decide (0 ≤ x.next ∧ x.next ≤ 60) = p4
    generalize (x.live || decide (x.granted ≤ 0)) = p5
    generalize (x.taken.ok && x.taken.under x.sealed.length) = p6
    revert p1 p2 p3 p4 p5 p6
    decide
theorem infoAgB8 : (Try.prog.info? 66).map (·.size) = some 7 := by kernel_rfl
set_option maxRecDepth 200000 in
set_option maxHeartbeats 4000000 in
theorem agentOkImpl_any (v : Value) (x : Ag) (F G : List Nat) (w : World) (h : RdAg w v x F G) (hw : ∀ y ∈ x.sealed, y.sk.wide) (hs : x.sealed.length ≤ 2097152) (hl : x.taken.length ≤ 2097152) :
    Calls Try.prog 36 #[v] w fun e w' => e = .returned (.bool x.ok) ∧ Below w.heap.size w w' := by
  obtain ⟨a1, n1, c1, a2, n2, c2, rfl, hL, hP, _, _⟩ := h
  have HL : Hid (RdL itK w a1 n1 x.sealed F ∧ (∀ y ∈ x.sealed, y.sk.wide) ∧ x.sealed.length = n1) := ⟨hL, hw, hL.length⟩
  have HP : Hid (RdP w a2 n2 x.taken G ∧ n2 ≤ 2097152) := ⟨hP, by rw [← hP.length]; exact hl⟩
  have hn1 : n1 ≤ 2097152 := by rw [← hL.length]; exact hs
  have HOK : Hid (x.ok = (decide (0 ≤ x.id ∧ x.id ≤ 2) && decide (0 ≤ x.epoch ∧ x.epoch ≤ 1000) && decide (0 ≤ x.granted ∧ x.granted ≤ 60) && decide (0 ≤ x.next ∧ x.next ≤ 60) && (x.live || decide (x.granted ≤ 0)) && (itsOk x.sealed && (x.taken.ok && x.taken.under n1)))) := by
    show _ = _
    rw [← hL.length]
    exact x.ok_prog
  obtain ⟨lx, hlx⟩ : ∃ b, b = x.live := ⟨_, rfl⟩
  rw [← hlx] at HOK ⊢
  have HB : Hid (Below w.heap.size w (w.alloc (.cells #[.int .i64 x.id, .int .i64 x.epoch, .bool lx, .int .i64 x.granted, .slice a1 n1 c1, .slice a2 n2 c2, .int .i64 x.next] 66)) ∧ Blk (w.alloc (.cells #[.int .i64 x.id, .int .i64 x.epoch, .bool lx, .int .i64 x.granted, .slice a1 n1 c1, .slice a2 n2 c2, .int .i64 x.next] 66)) w.heap.size #[.int .i64 x.id, .int .i64 x.epoch, .bool lx, .int .i64 x.granted, .slice a1 n1 c1, .slice a2 n2 c2, .int .i64 x.next] 66) := ⟨Below.allocW _ (Below.refl _ _) (Nat.le_refl _), Blk.made _ _ _⟩
  clear hL hP hw hs hl hlx
  go_enter Try.func36, Try.ntmps36
  go_wp2_with fail
  refine (inRange_any _ _ _).mono ?_
  rintro e w2 ⟨rfl, hw2⟩
  have hw2' := hw2.symm
  subst hw2'
  clear hw2
  obtain ⟨d1, hd1⟩ : ∃ d, d = decide (0 ≤ x.id ∧ x.id ≤ 2) := ⟨_, rfl⟩
  rw [← hd1]
  rw [← hd1] at HOK
  clear hd1
  cases d1
  · have HV : Hid (x.ok = false) := by show _ = _; rw [HOK.out]; rfl
    go_wp2
    go_ret
    exact ⟨ret_bool HV.out.symm, HB.out.1⟩
  go_wp2_with fail
  refine (inRange_any _ _ _).mono ?_
  rintro e w2 ⟨rfl, hw2⟩
  have hw2' := hw2.symm
  subst hw2'
  clear hw2
  obtain ⟨d2, hd2⟩ : ∃ d, d = decide (0 ≤ x.epoch ∧ x.epoch ≤ 1000) := ⟨_, rfl⟩
  rw [← hd2]
  rw [← hd2] at HOK
  clear hd2
  cases d2
  · have HV : Hid (x.ok = false) := by show _ = _; rw [HOK.out]; rfl
    go_wp2
    go_ret
    exact ⟨ret_bool HV.out.symm, HB.out.1⟩
  go_wp2_with fail
  refine (inRange_any _ _ _).mono ?_
  rintro e w2 ⟨rfl, hw2⟩
  have hw2' := hw2.symm
  subst hw2'
  clear hw2
  obtain ⟨d3, hd3⟩ : ∃ d, d = decide (0 ≤ x.granted ∧ x.granted ≤ 60) := ⟨_, rfl⟩
  rw [← hd3]
  rw [← hd3] at HOK
  clear hd3
  cases d3
  · have HV : Hid (x.ok = false) := by show _ = _; rw [HOK.out]; rfl
    go_wp2
    go_ret
    exact ⟨ret_bool HV.out.symm, HB.out.1⟩
  go_wp2_with fail
  refine (inRange_any _ _ _).mono ?_
  rintro e w2 ⟨rfl, hw2⟩
  have hw2' := hw2.symm
  subst hw2'
  clear hw2
  obtain ⟨d4, hd4⟩ : ∃ d, d = decide (0 ≤ x.next ∧ x.next ≤ 60) := ⟨_, rfl⟩
  rw [← hd4]
  rw [← hd4] at HOK
  clear hd4
  cases d4
  · have HV : Hid (x.ok = false) := by show _ = _; rw [HOK.out]; rfl
    go_wp2
    go_ret
    exact ⟨ret_bool HV.out.symm, HB.out.1⟩
  have HLIVE : Hid ((lx || decide (x.granted ≤ 0)) = true → x.ok = (itsOk x.sealed && (x.taken.ok && x.taken.under n1))) := fun e => by rw [HOK.out, e]; rfl
  have HDEAD : Hid ((lx || decide (x.granted ≤ 0)) = false → x.ok = false) := fun e => by rw [HOK.out, e]; rfl
  clear HOK
  cases lx
  · by_cases hg : 0 < x.granted
    · have hgd : decide (0 < x.granted) = true := dec_true hg
      have HV : Hid (x.ok = false) := HDEAD.out (by rw [decide_eq_false (by omega : ¬ x.granted ≤ 0)]; rfl)
      go_wp2
      go_ret
      exact ⟨ret_bool HV.out.symm, HB.out.1⟩
    have hgd : decide (0 < x.granted) = false := dec_false hg
    have HOKF : Hid (x.ok = (itsOk x.sealed && (x.taken.ok && x.taken.under n1))) := HLIVE.out (by rw [decide_eq_true (by omega : x.granted ≤ 0)]; rfl)
    clear HLIVE HDEAD
    go_wp2_with fail
    refine (areInPlace_any a1 n1 c1 x.sealed F _ (HL.out.1.below HB.out.1) HL.out.2.1 hn1).mono ?_
    rintro e w3 ⟨rfl, hb3⟩
    have HB3 : Hid (Below w.heap.size w w3 ∧ Blk w3 w.heap.size #[.int .i64 x.id, .int .i64 x.epoch, .bool false, .int .i64 x.granted, .slice a1 n1 c1, .slice a2 n2 c2, .int .i64 x.next] 66) := ⟨Below.next HB.out.1 hb3, HB.out.2.below hb3⟩
    have c4' := HB3.out.2.cell 4
    have c5' := HB3.out.2.cell 5
    simp only [aT, aS, aZ] at c4' c5'
    obtain ⟨d5, hd5⟩ : ∃ d, d = itsOk x.sealed := ⟨_, rfl⟩
    rw [← hd5]
    rw [← hd5] at HOKF
    clear hd5 hb3 HB
    cases d5
    · have HV : Hid (x.ok = false) := by show _ = _; rw [HOKF.out]; rfl
      go_wp2
      go_ret
      exact ⟨ret_bool HV.out.symm, HB3.out.1⟩
    go_wp2_with fail
    refine (areSeqs_any a2 n2 c2 n1 x.taken G _ (HP.out.1.below HB3.out.1) HP.out.2).mono ?_
    rintro e w4 ⟨rfl, hb4⟩
    have HB4 : Hid (Below w.heap.size w w4) := Below.next HB3.out.1 hb4
    obtain ⟨d6, hd6⟩ : ∃ d, d = (x.taken.ok && x.taken.under n1) := ⟨_, rfl⟩
    rw [← hd6]
    rw [← hd6] at HOKF
    have HV : Hid (x.ok = d6) := by show _ = _; rw [HOKF.out]; rfl
    clear hd6 hb4 c4' c5'
    go_wp2
    go_ret
    exact ⟨ret_bool HV.out.symm, HB4.out⟩
  · have HOKF : Hid (x.ok = (itsOk x.sealed && (x.taken.ok && x.taken.under n1))) := HLIVE.out rfl
    clear HLIVE HDEAD
    go_wp2_with fail
    refine (areInPlace_any a1 n1 c1 x.sealed F _ (HL.out.1.below HB.out.1) HL.out.2.1 hn1).mono ?_
    rintro e w3 ⟨rfl, hb3⟩
    have HB3 : Hid (Below w.heap.size w w3 ∧ Blk w3 w.heap.size #[.int .i64 x.id, .int .i64 x.epoch, .bool true, .int .i64 x.granted, .slice a1 n1 c1, .slice a2 n2 c2, .int .i64 x.next] 66) := ⟨Below.next HB.out.1 hb3, HB.out.2.below hb3⟩
    have c4' := HB3.out.2.cell 4
    have c5' := HB3.out.2.cell 5
    simp only [aT, aS, aZ] at c4' c5'
    obtain ⟨d5, hd5⟩ : ∃ d, d = itsOk x.sealed := ⟨_, rfl⟩
    rw [← hd5]
    rw [← hd5] at HOKF
    clear hd5 hb3 HB
    cases d5
    · have HV : Hid (x.ok = false) := by show _ = _; rw [HOKF.out]; rfl
      go_wp2
      go_ret
      exact ⟨ret_bool HV.out.symm, HB3.out.1⟩
    go_wp2_with fail
    refine (areSeqs_any a2 n2 c2 n1 x.taken G _ (HP.out.1.below HB3.out.1) HP.out.2).mono ?_
    rintro e w4 ⟨rfl, hb4⟩
    have HB4 : Hid (Below w.heap.size w w4) := Below.next HB3.out.1 hb4
    obtain ⟨d6, hd6⟩ : ∃ d, d = (x.taken.ok && x.taken.under n1) := ⟨_, rfl⟩
    rw [← hd6]
    rw [← hd6] at HOKF
    have HV : Hid (x.ok = d6) := by show _ = _; rw [HOKF.out]; rfl
    clear hd6 hb4 c4' c5'
    go_wp2
    go_ret
    exact ⟨ret_bool HV.out.symm, HB4.out⟩
/-- The first of some that is above a number; the first of all, where none is. -/
def turnOf (zs : List Int) (m : Int) : Int := (zs.find? fun z => decide (m < z)).getD (zs.getD 0 0)
theorem turnOf_at {zs : List Int} {m : Int} {k : Nat} (hk : k < zs.length) (h : ∀ j, j < k → ¬ m < zs.getD j 0) (hm : m < zs.getD k 0) : turnOf zs m = zs.getD k 0 := by
  unfold turnOf
  have e : zs.find? (fun z => decide (m < z)) = some (zs.getD k 0) := by
    rw [List.find?_eq_some_iff_getElem]
    refine ⟨by simpa using hm, k, hk, by rw [List.getD_eq_getElem?_getD, List.getElem?_eq_getElem hk]; rfl, fun j hj => ?_⟩
    have q := h j hj
    rw [List.getD_eq_getElem?_getD, List.getElem?_eq_getElem (by omega)] at q
    simpa using q
  rw [e]; rfl
theorem turnOf_none {zs : List Int} {m : Int} (h : ∀ j, j < zs.length → ¬ m < zs.getD j 0) : turnOf zs m = zs.getD 0 0 := by
  unfold turnOf
  have e : zs.find? (fun z => decide (m < z)) = none := by
    rw [List.find?_eq_none]
    intro z hz
    obtain ⟨j, hj, rfl⟩ := List.mem_iff_getElem.1 hz
    have q := h j hj
    rw [List.getD_eq_getElem?_getD, List.getElem?_eq_getElem hj] at q
    simpa using q
  rw [e]; rfl
end Go.Proofs.Ytjndcfamfminkaq
/- What the laws over agents take of the program and the model. No statement of the seat is proved here. -/
namespace Go.Proofs.Ytjndcfamfminkaq
open Go.RowKit
set_option maxRecDepth 200000 in
theorem okSpecA_any (v : Value) (x : Ag) (F : List Nat) (w : World) (h : RdA w v x F) (hw : x.wide) :
    Calls Try.prog 34 #[v] w fun e w' => e = .returned (.bool x.ok) ∧ Below w.heap.size w w' := by
  obtain ⟨F1, F2, rfl, h⟩ := h
  exact agentOkSpec_any v x F1 F2 w h hw.1 (by have := hw.2.1; omega) (by have := hw.2.2; omega)
set_option maxRecDepth 200000 in
theorem okImplA_any (v : Value) (x : Ag) (F : List Nat) (w : World) (h : RdA w v x F) (hw : x.wide) :
    Calls Try.prog 36 #[v] w fun e w' => e = .returned (.bool x.ok) ∧ Below w.heap.size w w' := by
  obtain ⟨F1, F2, rfl, h⟩ := h
  exact agentOkImpl_any v x F1 F2 w h hw.1 (by have := hw.2.1; omega) (by have := hw.2.2; omega)
end Go.Proofs.Ytjndcfamfminkaq
