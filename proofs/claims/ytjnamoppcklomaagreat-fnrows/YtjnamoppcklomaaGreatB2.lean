/- Several texts of mine, laid together. No statement of the seat is proved here. -/
import Derived.Test.YtjnamoppcklomaaGreatB1
import Derived.Laws.CopyOwn
import Derived.OrdersHeld
import Derived.Laws.AppendOwnNone
import Derived.Test.YtjnamoppcklomaaGreatSkCopy
import Derived.Test.YtjnamoppcklomaaGreatDrawPick
import Derived.Deep.DeepCutAuto
import Derived.Test.YtjnamoppcklomaaGreatOwn
import Derived.Test.YtjnamoppcklomaaGreatPart
import Derived.Test.YtjnamoppcklomaaGreatArrEq
import Derived.Test.YtjnamoppcklomaaGreatIntRows
import Derived.Test.YtjnamoppcklomaaGreatSpData
import Derived.Test.YtjnamoppcklomaaGreatItHelp
import Derived.Test.YtjnamoppcklomaaGreatItHelp2
import Derived.Test.YtjnamoppcklomaaGreatItModel
import Derived.Test.YtjnamoppcklomaaGreatBase
import Derived.Deep.RegionLaw
namespace Go.Proofs.YtjnamoppcklomaaGreat
section
set_option maxRecDepth 200000
set_option maxHeartbeats 16000000
open Go.RowKit
section
variable {P : Program} {ops : Array Oper} {Q : Exit → Act → World → Prop} {rest : List Oper} {a : Act} {w : World} {x y : Operand} {o : Oper}
theorem stopAppend2 {ts : Array TypeId} (_ho : o.op = .call { callee := .builtin .append, args := #[x, y], argTypes := ts }) (h : Stop (wpList P ops Q (o :: rest) a w)) : wpList P ops Q (o :: rest) a w := h
end
theorem rdP_of_own {w : World} {B e n : Nat} {v : Value} {ps : Sp} (h : w.ownsRow B e 2 v n ((flat ps).map (Value.int .i64))) : ∃ a cap F, v = .slice a n cap ∧ RdP w a n ps F ∧ Own B w F ∧ Capd a n cap := by
 rcases h.2 with ⟨h1, h2⟩ | ⟨g, cap, cur, h1, _, _, hcap, _⟩
 ·
  subst h2
  have hl : (flat ps).length = 0 := by simpa using h.1
  rw [flat_length] at hl
  obtain rfl : ps = [] := List.eq_nil_of_length_eq_zero (by omega)
  exact ⟨none, 0, [], h1, RdP.nil, Own.nil, fun _ => rfl, Nat.le_refl _⟩
 ·
  subst h1
  obtain ⟨F, hr, ho, _⟩ := RdP.of_own h
  exact ⟨_, cap, F, rfl, hr, ho, (fun e => by cases e), hcap⟩
theorem own_mono {w : World} {B B' e size n : Nat} {v : Value} {xs : List Value} (h : w.ownsRow B e size v n xs) (hB : B' ≤ B) : w.ownsRow B' e size v n xs := by
 refine ⟨h.1, ?_⟩
 rcases h.2 with e | ⟨g, cap, cur, h1, h2, h3⟩
 ·
  exact .inl e
 ·
  exact .inr ⟨g, cap, cur, h1, Nat.le_trans hB h2, h3⟩
theorem own_empty2 (w : World) (e : TypeId) : (w.alloc (.cells #[] e)).ownsRow w.heap.size e 2 (.slice (some ⟨w.heap.size, 0, none⟩) 0 0) 0 [] :=
 ⟨rfl, .inr ⟨w.heap.size, 0, #[], rfl, Nat.le_refl _, Blk.made w #[] e, Nat.le_refl _, by simp, rfl, rfl⟩⟩
theorem cell_new2 (w : World) (u v : Value) (t : TypeId) : ∀ (j : Nat) (x : Value), [u, v][j]? = some x → (w.alloc (.cells #[u, v] t)).cell? ((⟨w.heap.size, 0, none⟩ : Addr).add j) = some x := by
 intro j x hx
 match j, hx with
 | 0, hx =>
  obtain rfl : u = x := by simpa using hx
  simp [Addr.add]
 | 1, hx =>
  obtain rfl : v = x := by simpa using hx
  simp [Addr.add]
 | j + 2, hx => simp at hx
def put : Sp → Int × Int → Bool → Sp
 | [], x, d => if d then [] else [x]
 | p :: ps, x, d => if p.2 + 1 < x.1 then p :: put ps x d else if x.2 + 1 < p.1 then (if d then [] else [x]) ++ p :: put ps x true else put ps (min x.1 p.1, max x.2 p.2) d
def InB (p : Int × Int) : Prop := (0 ≤ p.1 ∧ p.1 ≤ 9999) ∧ 0 ≤ p.2 ∧ p.2 ≤ 9999
theorem drop_at {ps : Sp} {k : Nat} (hk : k < ps.length) : ps.drop k = ps.at k :: ps.drop (k + 1) := by
 unfold Sp.at
 rw [List.drop_eq_getElem_cons hk, List.getElem?_eq_getElem hk]
 rfl
theorem put_a {ps : Sp} {k : Nat} {x : Int × Int} {d : Bool} (hk : k < ps.length) (h : (ps.at k).2 + 1 < x.1) : put (ps.drop k) x d = ps.at k :: put (ps.drop (k + 1)) x d := by rw [drop_at hk, put, if_pos h]
theorem put_b {ps : Sp} {k : Nat} {x : Int × Int} {d : Bool} (hk : k < ps.length) (h : ¬ (ps.at k).2 + 1 < x.1) (h2 : x.2 + 1 < (ps.at k).1) : put (ps.drop k) x d = (if d then [] else [x]) ++ ps.at k :: put (ps.drop (k + 1)) x true := by rw [drop_at hk, put, if_neg h, if_pos h2]
theorem put_c {ps : Sp} {k : Nat} {x : Int × Int} {d : Bool} (hk : k < ps.length) (h : ¬ (ps.at k).2 + 1 < x.1) (h2 : ¬ x.2 + 1 < (ps.at k).1) : put (ps.drop k) x d = put (ps.drop (k + 1)) (min x.1 (ps.at k).1, max x.2 (ps.at k).2) d := by rw [drop_at hk, put, if_neg h, if_neg h2]
theorem put_length : ∀ (ps : Sp) (x : Int × Int) (d : Bool), (put ps x d).length ≤ ps.length + 1
 | [], x, d => by cases d <;> simp [put]
 | p :: ps, x, d => by
  rw [put]
  split
  ·
   have := put_length ps x d; simp; omega
  ·
   split
   ·
    cases d
    ·
     have := put_true ps x; simp; omega
    ·
     have := put_length ps x true; simp; omega
   ·
    have := put_length ps (min x.1 p.1, max x.2 p.2) d; simp; omega
where put_true : ∀ (ps : Sp) (x : Int × Int), (put ps x true).length ≤ ps.length
 | [], x => by simp [put]
 | p :: ps, x => by
  rw [put]
  split
  ·
   have := put_true ps x; simp; omega
  ·
   split
   ·
    have := put_true ps x; simp; omega
   ·
    have := put_true ps (min x.1 p.1, max x.2 p.2); simp; omega
structure PutAt (w : World) (v : Value) (o : Sp) (x : Int × Int) (W : World) : Prop where
 own : W.ownsRow (w.heap.size + 1) 74 2 v o.length ((flat o).map (Value.int .i64))
 box : Blk W w.heap.size #[.int .i64 x.1, .int .i64 x.2] 74
 bel : Below w.heap.size w W
theorem PutAt.app {w W W6 : World} {v v' : Value} {o : Sp} {x : Int × Int} {p q : Int} (h : PutAt w v o x W) (hown : W6.ownsRow (w.heap.size + 1) 74 2 v' (o.length + 1) ((flat o).map (Value.int .i64) ++ [.int .i64 p, .int .i64 q])) (hgrow : (W.alloc (.cells #[.int .i64 p, .int .i64 q] 74)).grownBy W6 v.ownBlock) : PutAt w v' (o ++ [(p, q)]) x W6 := by
 have hne : ∀ k, v.ownBlock = some k → w.heap.size + 1 ≤ k := fun k hk => (h.own.lt k hk).1
 have hb : Below w.heap.size w (W.alloc (.cells #[.int .i64 p, .int .i64 q] 74)) := Below.allocW _ h.bel (Nat.le_refl _)
 refine ⟨?_, ?_, ?_⟩
 ·
  rw [flat_append, List.map_append, List.length_append]
  exact hown
 ·
  exact (h.box.alloc _).agree (hgrow.block _ (h.box.alloc _).lt (fun e => by have := hne _ e.symm; omega))
 ·
  exact hb.grown hgrow hb.size (fun k hk => by have := hne k hk; omega)
theorem PutAt.drewN {w W : World} {v : Value} {o : Sp} {x : Int × Int} (h : PutAt w v o x W) (m : Nat) : PutAt w v o x (W.drewN m) := ⟨⟨h.own.1, h.own.2⟩, h.box, ⟨h.bel.os, h.bel.tape, h.bel.output, h.bel.size, h.bel.block⟩⟩
def SpanAt (b c : Nat) (p q : Int) (W : World) : Prop := W.cell? ⟨b, c, none⟩ = some (.int .i64 p) ∧ W.cell? ⟨b, c + 1, none⟩ = some (.int .i64 q)
theorem SpanAt.setRow {b c g : Nat} {p q : Int} {W : World} {cs : Array Value} (h : SpanAt b c p q W) (hn : b ≠ g) : SpanAt b c p q (W.setRow g cs) :=
 ⟨(World.cell?_of_block (w := W) (a := ⟨b, c, none⟩) (setRow_other W g b cs hn)).trans h.1, (World.cell?_of_block (w := W) (a := ⟨b, c + 1, none⟩) (setRow_other W g b cs hn)).trans h.2⟩
theorem PutAt.setBox {w W : World} {v : Value} {o : Sp} {x z : Int × Int} (h : PutAt w v o x W) : PutAt w v o z (W.setRow w.heap.size #[.int .i64 z.1, .int .i64 z.2]) := by
 refine ⟨⟨h.own.1, ?_⟩, h.box.setRow, below_setRow h.bel (Nat.le_refl _) _⟩
 rcases h.own.2 with e | ⟨g, cap, cur, h1, h2, h3, h4⟩
 ·
  exact .inl e
 ·
  exact .inr ⟨g, cap, cur, h1, h2, (setRow_other W _ g _ (by omega)).trans h3, h4⟩
theorem l5Put_own (a : Option Addr) (len cap : Nat) (ps : Sp) (x0 : Int × Int) (F : List Nat) (w : World) (h : RdP w a len ps F) (hlen : len ≤ 2097152) (hin : ∀ k, k < len → InB (ps.at k)) (hx : InB x0) :
 Calls Tryz.prog 109 #[.slice a len cap, .agg #[.int .i64 x0.1, .int .i64 x0.2]] w fun e w' => ∃ v, e = .returned v ∧ w'.ownsRow w.heap.size 74 2 v (put ps x0 false).length ((flat (put ps x0 false)).map (Value.int .i64)) ∧ Below w.heap.size w w' := by
 obtain ⟨t0, hi, hz0, hz1, hz2⟩ := info_parts infoSpan
 have HL : Hid (ps.length = len) := h.length
 have HIN : Hid ((∀ k, k < len → InB (ps.at k)) ∧ InB x0) := ⟨hin, hx⟩
 have HP0 : Hid (PutAt w (.slice (some ⟨w.heap.size + 1, 0, none⟩) 0 0) [] x0 ((w.alloc (.cells #[.int .i64 x0.1, .int .i64 x0.2] 74)).alloc (.cells #[] 74))) := by
  have e := own_empty2 (w.alloc (.cells #[.int .i64 x0.1, .int .i64 x0.2] 74)) 74
  simp only [World.size_alloc] at e
  exact ⟨e, (Blk.made _ _ _).alloc _, Below.allocW _ (Below.allocW _ (Below.refl _ _) (Nat.le_refl _)) (Nat.le_refl _)⟩
 have HC : Hid (len = 0 ∨ ∃ b off, a = some ⟨b, off, none⟩ ∧ b < w.heap.size ∧ SpCells w b off len ps) := by
  rcases h.cells with ⟨h0, _⟩ | ⟨b, off, hp, e, _, hc⟩
  ·
   exact .inl h0
  ·
   exact .inr ⟨b, off, e, World.block_lt_of_cell? _ _ (hc 0 hp).1, hc⟩
 clear h hin hx
 obtain ⟨xa, xb⟩ := x0
 go_enter Tryz.func109, Tryz.ntmps109
 go_wp2
 go_loopw [5, 6, 7] (fun v d i wr => ∃ (k : Nat) (o : Sp) (x : Int × Int) (f : Bool), k ≤ len ∧ i = .int .i64 k ∧ d = .bool f ∧ o.length ≤ k + 1 ∧ Hid (PutAt w v o x wr) ∧ Hid (InB x) ∧ Hid (o ++ put (ps.drop k) x f = put ps (xa, xb) false) ∧ Hid (f = false → o.length ≤ k)) (fun _ _ i _ => len - (intOf i).toNat)
 case atStart => exact ⟨0, [], (xa, xb), false, by omega, rfl, rfl, by simp, HP0, HIN.out.2, rfl, fun _ => by simp⟩
 case round =>
  clear HP0
  obtain ⟨k, o, ⟨x, y⟩, f, hk, rfl, rfl, hol, HP, HX, HN, HF⟩ := hrel
  obtain ⟨⟨x0, x1⟩, y0, y1⟩ := HX.out
  by_cases hlt : k < len
  ·
   have hca := HC.out
   rcases hca with h0 | ⟨b, off, rfl, hbw, hc⟩
   ·
    omega
   obtain ⟨p, hp⟩ : ∃ x, x = (ps.at k).1 := ⟨_, rfl⟩
   obtain ⟨q, hq⟩ : ∃ x, x = (ps.at k).2 := ⟨_, rfl⟩
   have e := hc k hlt
   have hb := HIN.out.1 k hlt
   have HPQ : Hid (ps.at k = (p, q)) := by rw [hp, hq]; rfl
   rw [HPQ.out] at hb e
   obtain ⟨⟨p0, p1⟩, q0, q1⟩ := hb
   have d1 : wr.cell? ⟨b, off + k * 2, none⟩ = some (.int .i64 p) := (HP.out.bel.cell (by exact hbw)).trans e.1
   have d2 : wr.cell? ⟨b, off + k * 2 + 1, none⟩ = some (.int .i64 q) := (HP.out.bel.cell (by exact hbw)).trans e.2
   have b1 : wr.cell? ⟨w.heap.size, 0, none⟩ = some (.int .i64 x) := by rw [HP.out.box.cell]; rfl
   have b2 : wr.cell? ⟨w.heap.size, 1, none⟩ = some (.int .i64 y) := by rw [HP.out.box.cell]; rfl
   have hI : (k : Int) < (len : Int) := by omega
   have hkl : k < ps.length := by rw [HL.out]; exact hlt
   clear e hp hq hc
   by_cases c1 : q + 1 < x
   ·
    have c1d : decide (q + 1 < x) = true := decT c1
    have HN2 : Hid (o ++ [(p, q)] ++ put (ps.drop (k + 1)) (x, y) f = put ps (xa, xb) false) := by
     rw [put_a hkl (by rw [HPQ.out]; exact c1), HPQ.out] at HN
     show _ = _
     rw [← HN.out]; simp
    go_wp2
    go_quiet (fail)
    have HP1 : Hid (PutAt w u5 o (x, y) (wr.drewN nq)) := HP.out.drewN nq
    go_wp2_with (first | go_skip | (with_reducible refine stopAppend2 rfl ?_))
    refine Stop.intro (wpList_append_own _ rfl _ _ 27 rfl (w.heap.size + 1) 74 t0 (.agg #[.int .i64 0, .int .i64 0]) 2 16 Tryz.underlying27 hi hz0 hz1 hz2 rfl (by decide) _ (o).length ((flat (o)).map (Value.int .i64)) rfl (HP1.out.own.alloc _) ⟨(wr.drewN nq).heap.size, 0, none⟩ 1 1 [.int .i64 p, .int .i64 q] rfl rfl (cell_new2 _ _ _ _) (by intro u hu; simp at hu; rcases hu with rfl | rfl <;> rfl) (by unfold maxLen; omega) (by omega) (by have := HP1.out.box.lt; simp at this ⊢; omega) ?_)
    intro v2 w2 hown hgrow _
    have HP2 : Hid (PutAt w v2 (o ++ [(p, q)]) (x, y) w2) := HP1.out.app hown hgrow
    have HF2 : Hid (f = false → (o ++ [(p, q)]).length ≤ k + 1) := fun e => by have := HF.out e; simp; omega
    clear hown hgrow HP1
    go_wp2
    go_roundw
    case rel => exact ⟨k + 1, o ++ [(p, q)], (x, y), f, by omega, by go_num, rfl, by simp; omega, HP2, HX, HN2, HF2⟩
    case measure => simp [intOf]; omega
   have c1d : decide (q + 1 < x) = false := decF c1
   by_cases c2 : y + 1 < p
   ·
    have c2d : decide (y + 1 < p) = true := decT c2
    cases f
    ·
     have hol2 : o.length ≤ k := HF.out rfl
     have HN2 : Hid (o ++ [(x, y)] ++ [(p, q)] ++ put (ps.drop (k + 1)) (x, y) true = put ps (xa, xb) false) := by
      rw [put_b hkl (by rw [HPQ.out]; exact c1) (by rw [HPQ.out]; exact c2), HPQ.out] at HN
      show _ = _
      rw [← HN.out]; simp
     go_wp2
     go_quiet (fail)
     obtain ⟨wq, hwq⟩ : ∃ W, W = wr.drewN nq := ⟨_, rfl⟩
     have HPq : Hid (PutAt w u5 o (x, y) wq) := by rw [hwq]; exact HP.out.drewN nq
     have d1 : wq.cell? ⟨b, off + k * 2, none⟩ = some (.int .i64 p) := by rw [hwq]; exact d1
     have d2 : wq.cell? ⟨b, off + k * 2 + 1, none⟩ = some (.int .i64 q) := by rw [hwq]; exact d2
     have b1 : wq.cell? ⟨w.heap.size, 0, none⟩ = some (.int .i64 x) := by rw [hwq]; exact b1
     have b2 : wq.cell? ⟨w.heap.size, 1, none⟩ = some (.int .i64 y) := by rw [hwq]; exact b2
     rw [← hwq]
     clear HP hwq
     go_wp2
     go_quiet (fail)
     have HP1 : Hid (PutAt w u5 o (x, y) (wq.drewN nq)) := HPq.out.drewN nq
     go_wp2_with (first | go_skip | (with_reducible refine stopAppend2 rfl ?_))
     refine Stop.intro (wpList_append_own _ rfl _ _ 27 rfl (w.heap.size + 1) 74 t0 (.agg #[.int .i64 0, .int .i64 0]) 2 16 Tryz.underlying27 hi hz0 hz1 hz2 rfl (by decide) _ (o).length ((flat (o)).map (Value.int .i64)) rfl (HP1.out.own.alloc _) ⟨(wq.drewN nq).heap.size, 0, none⟩ 1 1 [.int .i64 x, .int .i64 y] rfl rfl (cell_new2 _ _ _ _) (by intro u hu; simp at hu; rcases hu with rfl | rfl <;> rfl) (by unfold maxLen; omega) (by omega) (by have := HP1.out.box.lt; simp at this ⊢; omega) ?_)
     intro v2 w2 hown hgrow _
     have HP2 : Hid (PutAt w v2 (o ++ [(x, y)]) (x, y) w2) := HP1.out.app hown hgrow
     have hl2 : (o ++ [(x, y)]).length = o.length + 1 := by simp
     have d1 : w2.cell? ⟨b, off + k * 2, none⟩ = some (.int .i64 p) := ((HP2.out.bel.cell (by exact hbw)).trans ((HPq.out.bel.cell (by exact hbw)).symm.trans d1))
     have d2 : w2.cell? ⟨b, off + k * 2 + 1, none⟩ = some (.int .i64 q) := ((HP2.out.bel.cell (by exact hbw)).trans ((HPq.out.bel.cell (by exact hbw)).symm.trans d2))
     obtain ⟨o2, ho2⟩ : ∃ o2, o2 = o ++ [(x, y)] := ⟨_, rfl⟩
     rw [← ho2] at HP2 hl2 HN2
     clear hown hgrow HP1 b1 b2 HPq
     go_wp2_with (first | go_skip | (with_reducible refine stopAppend2 rfl ?_))
     refine Stop.intro (wpList_append_own _ rfl _ _ 27 rfl (w.heap.size + 1) 74 t0 (.agg #[.int .i64 0, .int .i64 0]) 2 16 Tryz.underlying27 hi hz0 hz1 hz2 rfl (by decide) _ (o2).length ((flat (o2)).map (Value.int .i64)) rfl (HP2.out.own.alloc _) ⟨w2.heap.size, 0, none⟩ 1 1 [.int .i64 p, .int .i64 q] rfl rfl (cell_new2 _ _ _ _) (by intro u hu; simp at hu; rcases hu with rfl | rfl <;> rfl) (by unfold maxLen; omega) (by omega) (by have := HP2.out.box.lt; simp at this ⊢; omega) ?_)
     intro v3 w3 hown hgrow _
     have HP3 : Hid (PutAt w v3 (o2 ++ [(p, q)]) (x, y) w3) := HP2.out.app hown hgrow
     clear hown hgrow HP2
     go_wp2
     go_roundw
     case rel => exact ⟨k + 1, o2 ++ [(p, q)], (x, y), true, by omega, by go_num, rfl, by simp; omega, HP3, HX, HN2, fun e => by cases e⟩
     case measure => simp [intOf]; omega
    ·
     have HN2 : Hid (o ++ [(p, q)] ++ put (ps.drop (k + 1)) (x, y) true = put ps (xa, xb) false) := by
      rw [put_b hkl (by rw [HPQ.out]; exact c1) (by rw [HPQ.out]; exact c2), HPQ.out] at HN
      show _ = _
      rw [← HN.out]; simp
     go_wp2
     go_quiet (fail)
     obtain ⟨wq, hwq⟩ : ∃ W, W = wr.drewN nq := ⟨_, rfl⟩
     have HPq : Hid (PutAt w u5 o (x, y) wq) := by rw [hwq]; exact HP.out.drewN nq
     have d1 : wq.cell? ⟨b, off + k * 2, none⟩ = some (.int .i64 p) := by rw [hwq]; exact d1
     have d2 : wq.cell? ⟨b, off + k * 2 + 1, none⟩ = some (.int .i64 q) := by rw [hwq]; exact d2
     have b1 : wq.cell? ⟨w.heap.size, 0, none⟩ = some (.int .i64 x) := by rw [hwq]; exact b1
     have b2 : wq.cell? ⟨w.heap.size, 1, none⟩ = some (.int .i64 y) := by rw [hwq]; exact b2
     rw [← hwq]
     clear HP hwq
     go_wp2
     go_quiet (fail)
     have HP1 : Hid (PutAt w u5 o (x, y) (wq.drewN nq)) := HPq.out.drewN nq
     go_wp2_with (first | go_skip | (with_reducible refine stopAppend2 rfl ?_))
     refine Stop.intro (wpList_append_own _ rfl _ _ 27 rfl (w.heap.size + 1) 74 t0 (.agg #[.int .i64 0, .int .i64 0]) 2 16 Tryz.underlying27 hi hz0 hz1 hz2 rfl (by decide) _ (o).length ((flat (o)).map (Value.int .i64)) rfl (HP1.out.own.alloc _) ⟨(wq.drewN nq).heap.size, 0, none⟩ 1 1 [.int .i64 p, .int .i64 q] rfl rfl (cell_new2 _ _ _ _) (by intro u hu; simp at hu; rcases hu with rfl | rfl <;> rfl) (by unfold maxLen; omega) (by omega) (by have := HP1.out.box.lt; simp at this ⊢; omega) ?_)
     intro v2 w2 hown hgrow _
     have HP2 : Hid (PutAt w v2 (o ++ [(p, q)]) (x, y) w2) := HP1.out.app hown hgrow
     clear hown hgrow HP1
     go_wp2
     go_roundw
     case rel => exact ⟨k + 1, o ++ [(p, q)], (x, y), true, by omega, by go_num, rfl, by simp; omega, HP2, HX, HN2, fun e => by cases e⟩
     case measure => simp [intOf]; omega
   have c2d : decide (y + 1 < p) = false := decF c2
   have HN2 : Hid (o ++ put (ps.drop (k + 1)) (min x p, max y q) f = put ps (xa, xb) false) := by
    rw [put_c hkl (by rw [HPQ.out]; exact c1) (by rw [HPQ.out]; exact c2), HPQ.out] at HN
    exact HN
   have HX2 : Hid (InB (min x p, max y q)) := by show InB _; unfold InB; simp only; omega
   go_wp2
   go_quiet (fail)
   obtain ⟨wq, hwq⟩ : ∃ W, W = wr.drewN nq := ⟨_, rfl⟩
   have HPq : Hid (PutAt w u5 o (x, y) wq) := by rw [hwq]; exact HP.out.drewN nq
   have d1 : wq.cell? ⟨b, off + k * 2, none⟩ = some (.int .i64 p) := by rw [hwq]; exact d1
   have d2 : wq.cell? ⟨b, off + k * 2 + 1, none⟩ = some (.int .i64 q) := by rw [hwq]; exact d2
   have b1 : wq.cell? ⟨w.heap.size, 0, none⟩ = some (.int .i64 x) := by rw [hwq]; exact b1
   have b2 : wq.cell? ⟨w.heap.size, 1, none⟩ = some (.int .i64 y) := by rw [hwq]; exact b2
   rw [← hwq]
   clear HP hwq
   go_wp2
   go_quiet (fail)
   have HP1 : Hid (PutAt w u5 o (x, y) (wq.drewN nq).drew) := (HPq.out.drewN nq).drewN 1
   have HS : Hid (((wq.drewN nq).drew.cell? ⟨w.heap.size, 0, none⟩ = some (.int .i64 x) ∧ (wq.drewN nq).drew.cell? ⟨w.heap.size, 1, none⟩ = some (.int .i64 y)) ∧ SpanAt b (off + k * 2) p q (wq.drewN nq).drew) := ⟨⟨b1, b2⟩, d1, d2⟩
   clear d1 d2 b1 b2 HPq
   go_wp2
   refine wp_region_held (S := SpanAt b (off + k * 2) p q) (by kernel_rfl) ?_
   change wpAnyH _ _ _ _ _ _ _ _ (World.drew _)
   refine tg 0 (.pointer (some ⟨w.heap.size, 0, none⟩)) (H := ⟨HS.out.2, ?_⟩)
   refine tg 2 (.slice (some ⟨b, off, none⟩) len cap) (H := ⟨HS.out.2, ?_⟩)
   refine tg 3 (.int .i64 k) (H := ⟨HS.out.2, ?_⟩)
   refine tg 4 (.pointer (some ⟨b, off + k * 2, none⟩)) (H := ⟨HS.out.2, ?_⟩)
   refine tg 5 (.pointer (some ⟨b, off + k * 2, none⟩)) (H := ⟨HS.out.2, ?_⟩)
   refine tk 6 (.int .i64 p) (H := ⟨(.inl ⟨rfl, fun W hW => by have c := hW.1; go_simp⟩), HS.out.2, ?_⟩)
   refine tg 8 (.pointer (some ⟨w.heap.size, 1, none⟩)) (H := ⟨HS.out.2, ?_⟩)
   refine tg 10 (.slice (some ⟨b, off, none⟩) len cap) (H := ⟨HS.out.2, ?_⟩)
   refine tg 11 (.int .i64 k) (H := ⟨HS.out.2, ?_⟩)
   refine tg 12 (.pointer (some ⟨b, off + k * 2, none⟩)) (H := ⟨HS.out.2, ?_⟩)
   refine tg 13 (.pointer (some ⟨b, off + k * 2 + 1, none⟩)) (H := ⟨HS.out.2, ?_⟩)
   refine tk 14 (.int .i64 q) (H := ⟨(.inl ⟨rfl, fun W hW => by have c := hW.2; go_simp⟩), HS.out.2, ?_⟩)
   refine twoH (o := ?o13) (o' := ?p13) 1 9 (by kernel_rfl) ?h13 ?g13 ?r13 ?s13
   case h13 => simp only [aT, aS, aZ]; rfl
   case g13 => simp only [aT, aS, aZ]; rfl
   case r13 =>
    intro K hK
    refine op_value (.int .i64 x) rfl (by have c : wq.cell? ⟨w.heap.size, 0, none⟩ = some (.int .i64 x) := HS.out.1.1; go_simp) (pk (h := hK _ _ ⟨HS.out.2, ?_⟩))
    clear hK
    refine twoH (o := ?o14) (o' := ?p14) 7 9 (by kernel_rfl) ?h14 ?g14 ?r14 ?s14
    case h14 => simp only [aT, aS, aZ]; rfl
    case g14 => simp only [aT, aS, aZ]; rfl
    case r14 =>
     intro K hK
     refine op_call2 111 _ _ _ Tryz.f111 (fun w' => w' = (wq.drewN nq).drew) (.int .i64 (min x p)) rfl rfl Tryz.func111 (by kernel_rfl) (by kernel_rfl) (l1Min_any x p _) ⟨_, by simp [Act.put]; rfl, ?_⟩
     intro wc hwc
     subst hwc
     refine hK _ _ ⟨HS.out.2, ?_⟩
     clear hK
     refine oq 9 (H := fun K hK => ?_)
     refine op_value (.int .i64 y) rfl (by have c : wq.cell? ⟨w.heap.size, 1, none⟩ = some (.int .i64 y) := HS.out.1.2; go_simp) (pk (h := hK _ _ ⟨HS.out.2, ?_⟩))
     clear hK
     refine oq 15 (H := fun K hK => ?_)
     refine op_call2 112 _ _ _ Tryz.f112 (fun w' => w' = (wq.drewN nq).drew) (.int .i64 (max y q)) rfl rfl Tryz.func112 (by kernel_rfl) (by kernel_rfl) (l1Max_any y q _) ⟨_, by simp [Act.put]; rfl, ?_⟩
     intro wc hwc
     subst hwc
     refine hK _ _ ⟨HS.out.2, ?_⟩
     clear hK
     refine tg 16 (.agg #[.int .i64 (min x p), .int .i64 (max y q)]) (H := ⟨HS.out.2, ?_⟩)
     refine oq 17 (H := fun K hK => ?_)
     refine op_store 74 w.heap.size #[.int .i64 x, .int .i64 y] #[.int .i64 (min x p), .int .i64 (max y q)] 74 rfl rfl rfl rfl HP1.out.box (by kernel_rfl) rfl (by kernel_rfl) (pk (h := hK _ _ ⟨HS.out.2.setRow (by omega), ?_⟩))
     clear hK
     refine wpAnyH_done (by kernel_rfl) ?_ _
     have HP2 : Hid (PutAt w u5 o (min x p, max y q) ((wq.drewN nq).drew.setRow w.heap.size #[.int .i64 (min x p), .int .i64 (max y q)])) := HP1.out.setBox
     have HF2 : Hid (f = false → o.length ≤ k + 1) := fun e => by have := HF.out e; omega
     clear HP1 HS
     go_wp2
     go_roundw
     case rel => exact ⟨k + 1, o, (min x p, max y q), f, by omega, by go_num, rfl, by omega, HP2, HX2, HN2, HF2⟩
     case measure => simp [intOf]; omega
    case s14 =>
     intro K hK
     refine op_value (.int .i64 y) rfl (by have c : wq.cell? ⟨w.heap.size, 1, none⟩ = some (.int .i64 y) := HS.out.1.2; go_simp) (pk (h := hK _ _ ⟨HS.out.2, ?_⟩))
     clear hK
     refine oq 7 (H := fun K hK => ?_)
     refine op_call2 111 _ _ _ Tryz.f111 (fun w' => w' = (wq.drewN nq).drew) (.int .i64 (min x p)) rfl rfl Tryz.func111 (by kernel_rfl) (by kernel_rfl) (l1Min_any x p _) ⟨_, by simp [Act.put]; rfl, ?_⟩
     intro wc hwc
     subst hwc
     refine hK _ _ ⟨HS.out.2, ?_⟩
     clear hK
     refine oq 15 (H := fun K hK => ?_)
     refine op_call2 112 _ _ _ Tryz.f112 (fun w' => w' = (wq.drewN nq).drew) (.int .i64 (max y q)) rfl rfl Tryz.func112 (by kernel_rfl) (by kernel_rfl) (l1Max_any y q _) ⟨_, by simp [Act.put]; rfl, ?_⟩
     intro wc hwc
     subst hwc
     refine hK _ _ ⟨HS.out.2, ?_⟩
     clear hK
     refine tg 16 (.agg #[.int .i64 (min x p), .int .i64 (max y q)]) (H := ⟨HS.out.2, ?_⟩)
     refine oq 17 (H := fun K hK => ?_)
     refine op_store 74 w.heap.size #[.int .i64 x, .int .i64 y] #[.int .i64 (min x p), .int .i64 (max y q)] 74 rfl rfl rfl rfl HP1.out.box (by kernel_rfl) rfl (by kernel_rfl) (pk (h := hK _ _ ⟨HS.out.2.setRow (by omega), ?_⟩))
     clear hK
     refine wpAnyH_done (by kernel_rfl) ?_ _
     have HP2 : Hid (PutAt w u5 o (min x p, max y q) ((wq.drewN nq).drew.setRow w.heap.size #[.int .i64 (min x p), .int .i64 (max y q)])) := HP1.out.setBox
     have HF2 : Hid (f = false → o.length ≤ k + 1) := fun e => by have := HF.out e; omega
     clear HP1 HS
     go_wp2
     go_roundw
     case rel => exact ⟨k + 1, o, (min x p, max y q), f, by omega, by go_num, rfl, by omega, HP2, HX2, HN2, HF2⟩
     case measure => simp [intOf]; omega
   case s13 =>
    intro K hK
    refine op_value (.int .i64 y) rfl (by have c : wq.cell? ⟨w.heap.size, 1, none⟩ = some (.int .i64 y) := HS.out.1.2; go_simp) (pk (h := hK _ _ ⟨HS.out.2, ?_⟩))
    clear hK
    refine oq 1 (H := fun K hK => ?_)
    refine op_value (.int .i64 x) rfl (by have c : wq.cell? ⟨w.heap.size, 0, none⟩ = some (.int .i64 x) := HS.out.1.1; go_simp) (pk (h := hK _ _ ⟨HS.out.2, ?_⟩))
    clear hK
    refine oq 7 (H := fun K hK => ?_)
    refine op_call2 111 _ _ _ Tryz.f111 (fun w' => w' = (wq.drewN nq).drew) (.int .i64 (min x p)) rfl rfl Tryz.func111 (by kernel_rfl) (by kernel_rfl) (l1Min_any x p _) ⟨_, by simp [Act.put]; rfl, ?_⟩
    intro wc hwc
    subst hwc
    refine hK _ _ ⟨HS.out.2, ?_⟩
    clear hK
    refine oq 15 (H := fun K hK => ?_)
    refine op_call2 112 _ _ _ Tryz.f112 (fun w' => w' = (wq.drewN nq).drew) (.int .i64 (max y q)) rfl rfl Tryz.func112 (by kernel_rfl) (by kernel_rfl) (l1Max_any y q _) ⟨_, by simp [Act.put]; rfl, ?_⟩
    intro wc hwc
    subst hwc
    refine hK _ _ ⟨HS.out.2, ?_⟩
    clear hK
    refine tg 16 (.agg #[.int .i64 (min x p), .int .i64 (max y q)]) (H := ⟨HS.out.2, ?_⟩)
    refine oq 17 (H := fun K hK => ?_)
    refine op_store 74 w.heap.size #[.int .i64 x, .int .i64 y] #[.int .i64 (min x p), .int .i64 (max y q)] 74 rfl rfl rfl rfl HP1.out.box (by kernel_rfl) rfl (by kernel_rfl) (pk (h := hK _ _ ⟨HS.out.2.setRow (by omega), ?_⟩))
    clear hK
    refine wpAnyH_done (by kernel_rfl) ?_ _
    have HP2 : Hid (PutAt w u5 o (min x p, max y q) ((wq.drewN nq).drew.setRow w.heap.size #[.int .i64 (min x p), .int .i64 (max y q)])) := HP1.out.setBox
    have HF2 : Hid (f = false → o.length ≤ k + 1) := fun e => by have := HF.out e; omega
    clear HP1 HS
    go_wp2
    go_roundw
    case rel => exact ⟨k + 1, o, (min x p, max y q), f, by omega, by go_num, rfl, by omega, HP2, HX2, HN2, HF2⟩
    case measure => simp [intOf]; omega
  ·
   obtain rfl : k = len := by omega
   have hdr : ps.drop k = [] := List.drop_of_length_le (by rw [HL.out]; omega)
   cases f
   ·
    have HV : Hid (o ++ [(x, y)] = put ps (xa, xb) false) := by
     have e := HN.out
     rw [hdr] at e
     exact e
    have hol2 : o.length ≤ k := HF.out rfl
    have b1 : wr.cell? ⟨w.heap.size, 0, none⟩ = some (.int .i64 x) := by rw [HP.out.box.cell]; rfl
    have b2 : wr.cell? ⟨w.heap.size, 1, none⟩ = some (.int .i64 y) := by rw [HP.out.box.cell]; rfl
    clear hdr
    go_wp2_with (first | go_skip | (with_reducible refine stopAppend2 rfl ?_))
    refine Stop.intro (wpList_append_own _ rfl _ _ 27 rfl (w.heap.size + 1) 74 t0 (.agg #[.int .i64 0, .int .i64 0]) 2 16 Tryz.underlying27 hi hz0 hz1 hz2 rfl (by decide) _ (o).length ((flat (o)).map (Value.int .i64)) rfl (HP.out.own.alloc _) ⟨wr.heap.size, 0, none⟩ 1 1 [.int .i64 x, .int .i64 y] rfl rfl (cell_new2 _ _ _ _) (by intro u hu; simp at hu; rcases hu with rfl | rfl <;> rfl) (by unfold maxLen; omega) (by omega) (by have := HP.out.box.lt; simp at this ⊢; omega) ?_)
    intro v2 w2 hown hgrow _
    have HP2 : Hid (PutAt w v2 (o ++ [(x, y)]) (x, y) w2) := HP.out.app hown hgrow
    clear hown hgrow
    go_wp2
    go_ret
    have e := HP2.out.own
    rw [HV.out] at e
    exact ⟨_, rfl, own_mono e (by omega), HP2.out.bel⟩
   ·
    have HV : Hid (o = put ps (xa, xb) false) := by
     have e := HN.out
     rw [hdr] at e
     show _ = _
     simpa [put] using e
    clear hdr
    go_wp2
    go_ret
    have e := HP.out.own
    rw [HV.out] at e
    exact ⟨_, rfl, own_mono e (by omega), HP.out.bel⟩
theorem l5Put_any (a : Option Addr) (len cap : Nat) (ps : Sp) (x0 : Int × Int) (F : List Nat) (w : World) (h : RdP w a len ps F) (hlen : len ≤ 2097152) (hin : ∀ k, k < len → InB (ps.at k)) (hx : InB x0) :
 Calls Tryz.prog 109 #[.slice a len cap, .agg #[.int .i64 x0.1, .int .i64 x0.2]] w fun e w' => NewP w (put ps x0 false) e w' :=
 (l5Put_own a len cap ps x0 F w h hlen hin hx).mono (fun _ _ h => by
   obtain ⟨v, rfl, h1, h2⟩ := h
   obtain ⟨a', c', F', rfl, hr, ho, hnn⟩ := rdP_of_own h1
   exact ⟨_, _, _, F', rfl, hr, ho, h2, hnn⟩)
end
section
set_option maxRecDepth 200000
set_option maxHeartbeats 16000000
open Go.RowKit
def NewP2 (w : World) (ps : Sp) (d : Bool) (e : Ending) (w' : World) : Prop :=
 ∃ a len cap F, e = .returned (.tuple #[.slice a len cap, .bool d]) ∧ RdP w' a len ps F ∧ Own w.heap.size w' F ∧ Below w.heap.size w w' ∧ Capd a len cap
theorem cells_flat {w : World} {b off len : Nat} {ps : Sp} {F : List Nat} (h : RdP w (some ⟨b, off, none⟩) len ps F) (hp : 0 < len) : ∀ j v, ((flat ps).map (Value.int .i64))[j]? = some v → w.cell? ((⟨b, off, none⟩ : Addr).add j) = some v := by
 intro j v hj
 rcases h.rd.cells with ⟨h0, _⟩ | ⟨b', off', _, he, _, hc⟩
 ·
  omega
 ·
  obtain ⟨rfl, rfl⟩ : b = b' ∧ off = off' := by simpa using he
  have hjl : j < (flat ps).length := by
   have := (List.getElem?_eq_some_iff.1 hj).1
   simpa using this
  rw [flat_length, h.length] at hjl
  rw [sp_add, hc j hjl]
  rw [List.getElem?_map] at hj
  rw [List.getD_eq_getElem?_getD]
  have hjl' : j < (flat ps).length := by rw [flat_length, h.length]; exact hjl
  rw [List.getElem?_eq_getElem hjl'] at hj ⊢
  simpa using hj
theorem l5Copy_any (a : Option Addr) (len cap : Nat) (ps : Sp) (F : List Nat) (w : World) (h : RdP w a len ps F) (hlen : len ≤ 2097152) (hn : a = none → cap = 0) :
 Calls Tryz.prog 75 #[.slice a len cap] w fun e w' => NewP w ps e w' := by
 obtain ⟨t0, hi, hz0, hz1, hz2⟩ := info_parts infoSpan
 have HO : Hid ((w.alloc (.cells #[] 74)).ownsRow w.heap.size 74 2 (.slice (some ⟨w.heap.size, 0, none⟩) 0 0) 0 []) := own_empty2 w _
 have HB : Hid (Below w.heap.size w (w.alloc (.cells #[] 74))) := (Below.refl _ _).alloc (Nat.le_refl _) _
 cases a with
 | none =>
  obtain rfl : cap = 0 := hn rfl
  rcases h.cells with ⟨rfl, _, rfl⟩ | ⟨b, off, hp, e, _⟩
  rotate_left
  ·
   cases e
  clear h hn
  go_enter Tryz.func75, Tryz.ntmps75
  go_wp2_with (first | go_skip | (with_reducible refine stopAppend2 rfl ?_))
  refine Stop.intro (wpList_append_own_none rfl _ _ 27 rfl w.heap.size 74 t0 2 Tryz.underlying27 hi _ 0 [] rfl HO.out rfl ?_)
  go_wp2
  go_ret
  exact ⟨_, 0, 0, [], rfl, RdP.nil, Own.nil, HB.out, (fun e => by cases e), Nat.le_refl _⟩
 | some ad =>
  have HC : Hid (∀ j v, ((flat ps).map (Value.int .i64))[j]? = some v → (w.alloc (.cells #[] 74)).cell? (ad.add j) = some v) := by
   rcases h.cells with ⟨rfl, _, rfl⟩ | ⟨b, off, hp, e, _⟩
   ·
    exact fun j v hj => by simp [flat] at hj
   ·
    cases e
    exact cells_flat (h.below HB.out) hp
  have HL : Hid (((flat ps).map (Value.int .i64)).length = len * 2) := by
   show _ = _
   rw [List.length_map, flat_length, h.length]; omega
  clear h hn
  go_enter Tryz.func75, Tryz.ntmps75
  go_wp2_with (first | go_skip | (with_reducible refine stopAppend2 rfl ?_))
  refine Stop.intro (wpList_append_own _ rfl _ _ 27 rfl w.heap.size 74 t0 (.agg #[.int .i64 0, .int .i64 0]) 2 16 Tryz.underlying27 hi hz0 hz1 hz2 rfl (by decide) _ 0 [] rfl HO.out ad len cap ((flat ps).map (Value.int .i64)) rfl HL.out HC.out (by intro u hu; simp at hu; obtain ⟨z, _, rfl⟩ := hu; rfl) (by unfold maxLen; omega) (by omega) (by simp) ?_)
  intro v' w1 hown hgrow _
  have HN : Hid (w1.ownsRow w.heap.size 74 2 v' len ((flat ps).map (Value.int .i64)) ∧ Below w.heap.size w w1) := by
   refine ⟨by simpa using hown, HB.out.grown hgrow HB.out.size (fun k hk => (HO.out.lt k hk).1)⟩
  clear hown hgrow
  go_wp2
  go_ret
  obtain ⟨a', c', F', rfl, hr, ho, hnn⟩ := rdP_of_own HN.out.1
  exact ⟨_, _, _, F', rfl, hr, ho, HN.out.2, hnn⟩
theorem ok_inb {ps : Sp} (h : ps.ok = true) : ∀ k, k < ps.length → InB (ps.at k) := fun k hk => by
 have := (Sp.okAt_parts (Sp.ok_at h k hk)).1
 unfold InB
 omega
end
section
open Go.RowKit
def skCopy (x : En) (ec : Array Value) : Prop := x.sk.full ∨ (x.sk = Sk.zero ∧ ∃ u0 u1 u2, ec = #[u0, u1, u2, .int .i64 0, .int .i64 0, .int .i64 0, .int .i64 0, .slice none 0 0, .slice none 0 0, .slice none 0 0])
end
section
set_option maxRecDepth 200000
set_option maxHeartbeats 16000000
open Go.RowKit
theorem Sp.at_mem {ps : Sp} {k : Nat} (hk : k < ps.length) : ps.at k ∈ ps := by
 unfold Sp.at
 rw [List.getElem?_eq_getElem hk]
 exact List.getElem_mem hk
theorem inb_iff {ps : Sp} : (∀ k, k < ps.length → InB (ps.at k)) ↔ ∀ p ∈ ps, InB p := by
 constructor
 ·
  intro h p hp
  obtain ⟨k, hk, rfl⟩ := List.getElem_of_mem hp
  have := h k hk
  unfold Sp.at at this
  rw [List.getElem?_eq_getElem hk] at this
  exact this
 ·
  exact fun h k hk => h _ (Sp.at_mem hk)
theorem put_inb : ∀ {ps : Sp} {x : Int × Int} {d : Bool}, (∀ p ∈ ps, InB p) → InB x → ∀ p ∈ put ps x d, InB p
 | [], x, d, _, hx, p, hp => by
  cases d <;> simp [put] at hp
  subst hp; exact hx
 | q :: ps, x, d, h, hx, p, hp => by
  have hq := h q (by simp)
  have hr : ∀ p ∈ ps, InB p := fun p hp => h p (by simp [hp])
  rw [put] at hp
  split at hp
  ·
   rcases List.mem_cons.1 hp with rfl | hp
   ·
    exact hq
   ·
    exact put_inb hr hx p hp
  ·
   split at hp
   ·
    rcases List.mem_append.1 hp with hp | hp
    ·
     cases d <;> simp at hp
     subst hp; exact hx
    ·
     rcases List.mem_cons.1 hp with rfl | hp
     ·
      exact hq
     ·
      exact put_inb hr hx p hp
   ·
    exact put_inb hr (by unfold InB at hq hx ⊢; simp only; omega) p hp
def joinTo (ps qs : Sp) (k : Nat) : Sp := (qs.take k).foldl (fun o q => put o q false) ps
theorem joinTo_zero (ps qs : Sp) : joinTo ps qs 0 = ps := by simp [joinTo]
theorem joinTo_succ {ps qs : Sp} {k : Nat} (hk : k < qs.length) : joinTo ps qs (k + 1) = put (joinTo ps qs k) (qs.at k) false := by
 unfold joinTo
 rw [takeP_succ qs k hk, List.foldl_append]
 rfl
theorem joinTo_inb {ps qs : Sp} (h1 : ∀ p ∈ ps, InB p) (h2 : ∀ p ∈ qs, InB p) : ∀ k, k ≤ qs.length → ∀ p ∈ joinTo ps qs k, InB p
 | 0, _ => by rw [joinTo_zero]; exact h1
 | k + 1, hk => by
  rw [joinTo_succ (by omega)]
  exact put_inb (joinTo_inb h1 h2 k (by omega)) (h2 _ (Sp.at_mem (by omega)))
theorem joinTo_length {ps qs : Sp} : ∀ k, k ≤ qs.length → (joinTo ps qs k).length ≤ ps.length + k
 | 0, _ => by rw [joinTo_zero]; omega
 | k + 1, hk => by
  rw [joinTo_succ (by omega)]
  have := put_length (joinTo ps qs k) (qs.at k) false
  have := joinTo_length (ps := ps) (qs := qs) k (by omega)
  omega
def Sp.join (ps qs : Sp) : Sp := if (ps.ok && qs.ok) = true then joinTo ps qs qs.length else []
theorem Sp.join_not {ps qs : Sp} (h : (ps.ok && qs.ok) = false) : ps.join qs = [] := by unfold Sp.join; rw [h]; rfl
theorem Sp.join_yes {ps qs : Sp} (h1 : ps.ok = true) (h2 : qs.ok = true) : ps.join qs = joinTo ps qs qs.length := by unfold Sp.join; rw [h1, h2]; rfl
theorem l5Join_any (a b : Option Addr) (la lb ca cb : Nat) (ps qs : Sp) (F G : List Nat) (w : World) (h : RdP w a la ps F) (k : RdP w b lb qs G) (hlen : la + lb ≤ 2097152) (hn : a = none → ca = 0) (h1 : ∀ p ∈ ps, InB p) (h2 : ∀ p ∈ qs, InB p) :
 Calls Tryz.prog 73 #[.slice a la ca, .slice b lb cb] w fun e w' => NewP w (joinTo ps qs qs.length) e w' := by
 have HL : Hid (ps.length = la ∧ qs.length = lb) := ⟨h.length, k.length⟩
 have HR : Hid (RdP w a la ps F ∧ RdP w b lb qs G) := ⟨h, k⟩
 have HI : Hid ((∀ p ∈ ps, InB p) ∧ (∀ p ∈ qs, InB p) ∧ (a = none → ca = 0)) := ⟨h1, h2, hn⟩
 clear h k h1 h2 hn
 go_enter Tryz.func73, Tryz.ntmps73
 go_wp2_with fail
 refine (l5Copy_any a la ca ps F _ HR.out.1 (by omega) HI.out.2.2).mono ?_
 rintro e w1 ⟨a', l', c', F', rfl, g1, g2, g3, g4⟩
 have HE : Hid (RdP w1 a' l' (joinTo ps qs 0) F' ∧ Own w.heap.size w1 F' ∧ Below w.heap.size w w1 ∧ Capd a' l' c') := ⟨by rw [joinTo_zero]; exact g1, g2, g3, g4⟩
 have HCB : Hid (lb = 0 ∨ ∃ b1 o1, b = some ⟨b1, o1, none⟩ ∧ b1 < w.heap.size ∧ SpCells w b1 o1 lb qs) := by
  rcases HR.out.2.cells with ⟨h0, _⟩ | ⟨b1, o1, hp, e, _, hc⟩
  ·
   exact .inl h0
  ·
   exact .inr ⟨b1, o1, e, World.block_lt_of_cell? _ _ (hc 0 hp).1, hc⟩
 clear g1 g2 g3 g4 HR
 go_wp2
 go_loopw [5, 6] (fun v i wr => ∃ (k : Nat) (a' : Option Addr) (l' c' : Nat) (F' : List Nat), k ≤ lb ∧ i = .int .i64 k ∧ v = .slice a' l' c' ∧ Hid (RdP wr a' l' (joinTo ps qs k) F' ∧ Own w.heap.size wr F' ∧ Below w.heap.size w wr ∧ Capd a' l' c')) (fun _ i _ => lb - (intOf i).toNat)
 case atStart => exact ⟨0, a', l', c', F', by omega, rfl, rfl, HE⟩
 case round =>
  clear HE
  obtain ⟨k, a', l', c', F', hk, rfl, rfl, HE⟩ := hrel
  by_cases hlt : k < lb
  ·
   have hcb := HCB.out
   rcases hcb with h0 | ⟨b1, o1, rfl, hbw, hc⟩
   ·
    omega
   obtain ⟨x, hx⟩ : ∃ x, x = (qs.at k).1 := ⟨_, rfl⟩
   obtain ⟨y, hy⟩ : ∃ x, x = (qs.at k).2 := ⟨_, rfl⟩
   have e := hc k hlt
   have HXY : Hid (qs.at k = (x, y)) := by rw [hx, hy]; rfl
   rw [HXY.out] at e
   have d1 : wr.cell? ⟨b1, o1 + k * 2, none⟩ = some (.int .i64 x) := (HE.out.2.2.1.cell (by exact hbw)).trans e.1
   have d2 : wr.cell? ⟨b1, o1 + k * 2 + 1, none⟩ = some (.int .i64 y) := (HE.out.2.2.1.cell (by exact hbw)).trans e.2
   have hql : k < qs.length := by rw [HL.out.2]; exact hlt
   clear e hx hy hc
   go_wp2_with fail
   refine (l5Put_any a' l' c' (joinTo ps qs k) (x, y) F' _ HE.out.1 (by have := joinTo_length (ps := ps) (qs := qs) k (by omega); rw [HE.out.1.length, HL.out.1] at this; omega) (fun j hj => inb_iff.2 (joinTo_inb HI.out.1 HI.out.2.1 k (by omega)) j (by rw [HE.out.1.length]; exact hj)) (by rw [← HXY.out]; exact HI.out.2.1 _ (Sp.at_mem hql))).mono ?_
   rintro e w2 ⟨a2, l2, c2, F2, rfl, g1, g2, g3, g4⟩
   have HE2 : Hid (RdP w2 a2 l2 (joinTo ps qs (k + 1)) F2 ∧ Own w.heap.size w2 F2 ∧ Below w.heap.size w w2 ∧ Capd a2 l2 c2) := ⟨by rw [joinTo_succ hql, HXY.out]; exact g1, g2.mono HE.out.2.2.1.size, Below.next HE.out.2.2.1 g3, g4⟩
   clear g1 g2 g3 g4 HE
   go_wp2
   go_roundw
   case rel => exact ⟨k + 1, a2, l2, c2, F2, by omega, by go_num, rfl, HE2⟩
   case measure => simp [intOf]; omega
  ·
   obtain rfl : k = lb := by omega
   go_wp2
   go_ret
   refine ⟨a', l', c', F', rfl, ?_, HE.out.2⟩
   rw [HL.out.2]
   exact HE.out.1
end
section
set_option maxRecDepth 200000
set_option maxHeartbeats 16000000
open Go.RowKit
theorem grow_below {w w' : World} (g : Nat) (b : Below w.heap.size w w') : w.grownBy w' (some g) := ⟨b.os, b.tape, b.output, b.size, fun k hk _ => b.block k hk⟩
theorem ownsKeep {w w' : World} {B e size g : Nat} {v : Value} {n : Nat} {xs : List Value} (h : w.ownsRow B e size v n xs) (k : w.grownBy w' (some g)) (hg : g < B) : w'.ownsRow B e size v n xs := by
 refine ⟨h.1, ?_⟩
 rcases h.2 with e | ⟨b, cap, cur, h1, h2, h3, h4⟩
 ·
  exact .inl e
 ·
  refine .inr ⟨b, cap, cur, h1, h2, ?_, h4⟩
  have hb : b < w.heap.size := by
   by_cases hb : b < w.heap.size
   ·
    exact hb
   ·
    rw [Array.getElem?_eq_none (by omega)] at h3; cases h3
  rw [k.block b hb (fun e => by simp at e; omega)]
  exact h3
theorem ownsBelow {w w' : World} {B e size : Nat} {v : Value} {n : Nat} {xs : List Value} (h : w.ownsRow B e size v n xs) (k : Below w.heap.size w w') : w'.ownsRow B e size v n xs := by
 refine ⟨h.1, ?_⟩
 rcases h.2 with e | ⟨b, cap, cur, h1, h2, h3, h4⟩
 ·
  exact .inl e
 ·
  refine .inr ⟨b, cap, cur, h1, h2, ?_, h4⟩
  have hb : b < w.heap.size := by
   by_cases hb : b < w.heap.size
   ·
    exact hb
   ·
    rw [Array.getElem?_eq_none (by omega)] at h3; cases h3
  rw [k.block b hb]
  exact h3
theorem once_any (g : Nat) (a : Option Addr) (len cap : Nat) (zs : List Int) (i h : Int) (n : Int) (w : World) (C : Cur w g a len cap zs i h) (hlen : len ≤ 1048576) (hn : 0 < n) (hn' : n ≤ 2147483647) :
 Calls Tryz.prog 27 #[.pointer (some ⟨g, 0, none⟩), .int .i64 n] w fun e w' => ∃ b i' h', e = .returned (.bool b) ∧ Cur w' g a len cap zs i' h' ∧ w.grownBy w' (some g) := by
 have HC : Hid (Cur w g a len cap zs i h) := C
 clear C
 go_enter Tryz.func27, Tryz.ntmps27
 go_wp2_with fail
 refine (l1Below_any g a len cap zs i h n _ HC.out hlen hn hn').mono ?_
 rintro e w1 ⟨x, i1, h1, rfl, _, _, C1, g1⟩
 have HC1 : Hid (Cur w1 g a len cap zs i1 h1 ∧ w.grownBy w1 (some g)) := ⟨C1, g1⟩
 clear C1 g1
 go_wp2
 go_ret
 exact ⟨_, i1, h1, rfl, HC1.out.1, HC1.out.2⟩
structure DrP (w : World) (q : Nat) (a : Option Addr) (len cap : Nat) (zs : List Int) (v : Value) (ps : Sp) (W : World) : Prop where
 own : W.ownsRow w.heap.size 74 2 v ps.length ((flat ps).map (Value.int .i64))
 cur : ∃ i h, Cur W q a len cap zs i h
 grown : w.grownBy W (some q)
 lt : q < w.heap.size
theorem DrP.next {w : World} {q : Nat} {a : Option Addr} {len cap : Nat} {zs : List Int} {v : Value} {ps : Sp} {W W' : World} {i h : Int} (D : DrP w q a len cap zs v ps W) (C : Cur W' q a len cap zs i h) (g : W.grownBy W' (some q)) : DrP w q a len cap zs v ps W' :=
 ⟨ownsKeep D.own g D.lt, ⟨i, h, C⟩, grown_tr D.grown g, D.lt⟩
theorem DrP.below {w : World} {q : Nat} {a : Option Addr} {len cap : Nat} {zs : List Int} {v : Value} {ps : Sp} {W W' : World} (D : DrP w q a len cap zs v ps W) (b : Below W.heap.size W W') : DrP w q a len cap zs v ps W' := by
 obtain ⟨i, h, C⟩ := D.cur
 exact ⟨ownsBelow D.own b, ⟨i, h, C.keep b⟩, grown_tr D.grown (grow_below q b), D.lt⟩
theorem DrP.alloc {w : World} {q : Nat} {a : Option Addr} {len cap : Nat} {zs : List Int} {v : Value} {ps : Sp} {W : World} (D : DrP w q a len cap zs v ps W) (o : Obj) : DrP w q a len cap zs v ps (W.alloc o) := D.below (Below.allocW _ (Below.refl _ _) (Nat.le_refl _))
def DrewP (w : World) (q : Nat) (a : Option Addr) (len cap : Nat) (zs : List Int) (n : Nat) (e : Ending) (w' : World) : Prop := ∃ v ps, e = .returned v ∧ DrP w q a len cap zs v ps w' ∧ ps.length ≤ n ∧ v ≠ .slice none 0 0 ∧ ps.fit
theorem fit_of_inb {ps : Sp} (h : ∀ p ∈ ps, InB p) : ps.fit := fun p hp => by
 have q := h p hp
 exact ⟨⟨by have := q.1.1; omega, by have := q.1.2; omega⟩, ⟨by have := q.2.1; have := q.1.1; omega, by have := q.2.2; omega⟩⟩
theorem list3 {x y z u : Int} (h : u ∈ [x, y, z]) : u = x ∨ u = y ∨ u = z := by simpa using h
theorem put_ne (W : World) (B e n : Nat) (v : Value) (xs : List Value) (h : W.ownsRow B e 2 v n xs) (hn : 0 < n) : v ≠ .slice none 0 0 := by
 rcases h.2 with ⟨_, h0⟩ | ⟨b, cap, cur, h1, _⟩
 ·
  omega
 ·
  rw [h1]; intro e; cases e
theorem put_pos : ∀ (ps : Sp) (x : Int × Int), 0 < (put ps x false).length
 | [], x => by simp [put]
 | p :: ps, x => by
  rw [put]
  split
  ·
   simp
  ·
   split
   ·
    simp
   ·
    exact put_pos ps _
theorem l5Right_any (q : Nat) (a : Option Addr) (len cap : Nat) (zs : List Int) (i h : Int) (w : World) (C : Cur w q a len cap zs i h) (hlen : len ≤ 1048576) :
 Calls Tryz.prog 100 #[.pointer (some ⟨q, 0, none⟩)] w fun e w' => DrewP w q a len cap zs 7 e w' := by
 have hq : q < w.heap.size := World.block_lt_of_cell? _ _ C.c0
 have HD0 : Hid (DrP w q a len cap zs (.slice (some ⟨w.heap.size, 0, none⟩) 0 0) [] (w.alloc (.cells #[] 74))) := ⟨own_empty2 w _, ⟨i, h, C.alloc _⟩, grow_below q ((Below.refl _ _).alloc (Nat.le_refl _) _), hq⟩
 have HC0 : Hid (Cur (w.alloc (.cells #[] 74)) q a len cap zs i h) := C.alloc _
 clear C
 go_enter Tryz.func100, Tryz.ntmps100
 go_wp2_with fail
 refine (l1Below_any q a len cap zs i h 7 _ HC0.out hlen (by omega) (by omega)).mono ?_
 rintro e w1 ⟨m, i1, h1, rfl, m0, m1, C1, g1⟩
 have HD1 : Hid (DrP w q a len cap zs (.slice (some ⟨w.heap.size, 0, none⟩) 0 0) [] w1) := HD0.out.next C1 g1
 clear C1 g1 HD0 HC0
 go_wp2
 go_loopw [3, 5] (fun v i wr => ∃ (k : Nat) (ps : Sp), (k : Int) ≤ m ∧ i = .int .i64 k ∧ ps.length ≤ k ∧ Hid (DrP w q a len cap zs v ps wr ∧ v ≠ .slice none 0 0) ∧ Hid (∀ p ∈ ps, InB p)) (fun _ i _ => (m - intOf i).toNat)
 case atStart => exact ⟨0, [], by omega, rfl, by simp, ⟨HD1.out, fun e => by cases e⟩, by intro p hp; simp at hp⟩
 case round =>
  clear HD1
  obtain ⟨k, ps, hk, rfl, hpl, HD, HIN⟩ := hrel
  by_cases hlt : (k : Int) < m
  ·
   have hcd : decide ((k : Int) < m) = true := decT hlt
   obtain ⟨i2, h2, C2⟩ := HD.out.1.cur
   go_wp2_with fail
   refine (l1Below_any q a len cap zs i2 h2 20 _ C2 hlen (by omega) (by omega)).mono ?_
   rintro e w2 ⟨x1, i3, h3, rfl, x10, x11, C3, g3⟩
   have HD2 : Hid (DrP w q a len cap zs u3 ps w2) := HD.out.1.next C3 g3
   clear g3 C2
   go_wp2_with fail
   refine (l1Below_any q a len cap zs i3 h3 20 _ C3 hlen (by omega) (by omega)).mono ?_
   rintro e w3 ⟨x2, i4, h4, rfl, x20, x21, C4, g4⟩
   have HD3 : Hid (DrP w q a len cap zs u3 ps w3) := HD2.out.next C4 g4
   clear g4 C3 HD2
   go_wp2_with fail
   refine (l1Below_any q a len cap zs i4 h4 10 _ C4 hlen (by omega) (by omega)).mono ?_
   rintro e w4 ⟨x3, i5, h5, rfl, x30, x31, C5, g5⟩
   have HD4 : Hid (DrP w q a len cap zs u3 ps w4) := HD3.out.next C5 g5
   have HC5 : Hid (Cur w4 q a len cap zs i5 h5) := C5
   clear g5 C4 C5 HD3
   go_wp2_with fail
   have hqw4 : q < w4.heap.size := World.block_lt_of_cell? _ _ HC5.out.c0
   refine (pickInt_cur q w4.heap.size 3 a len cap zs i5 h5 [x1, x2, 9990 + x3] _ (HC5.out.alloc _) hlen (fun j hj => lit_ints w4 [x1, x2, 9990 + x3] _ j hj) (by omega) 3 rfl (by omega) (by omega)).mono ?_
   rintro e w5 ⟨y, i6, h6, hy, rfl, C6, g6⟩
   have HD5 : Hid (DrP w q a len cap zs u3 ps w5) := (HD4.out.alloc _).next C6 g6
   have HC6 : Hid (Cur w5 q a len cap zs i6 h6) := C6
   have hy3 := list3 hy
   have y0 : 0 ≤ y := by omega
   have y1 : y ≤ 9999 := by omega
   clear g6 C6 HD4 HC5 hy hy3 x10 x11 x20 x21 x30 x31 hqw4
   go_wp2_with fail
   refine (l1Below_any q a len cap zs i6 h6 3 _ HC6.out hlen (by omega) (by omega)).mono ?_
   rintro e w6 ⟨z, i7, h7, rfl, z0, z1, C7, g7⟩
   have HD6 : Hid (DrP w q a len cap zs u3 ps w6) := HD5.out.next C7 g7
   clear g7 C7 HD5 HC6
   go_wp2_with fail
   refine (l1Min_any _ _ _).mono ?_
   rintro e w7 ⟨rfl, hw7⟩
   have hw7' := hw7.symm
   subst hw7'
   clear hw7
   obtain ⟨t, ht⟩ : ∃ t, t = min (y + z) 9999 := ⟨_, rfl⟩
   rw [← ht]
   have HT : Hid (InB (y, t)) := by rw [ht]; exact ⟨⟨y0, y1⟩, by simp only; omega, by simp only; omega⟩
   clear ht
   obtain ⟨a', c', F', hv, hr, ho, hnn⟩ := rdP_of_own HD6.out.own
   have HV : Hid (u3 = .slice a' ps.length c' ∧ RdP w6 a' ps.length ps F') := ⟨hv, hr⟩
   clear hr ho hnn
   subst hv
   go_wp2_with fail
   refine (l5Put_own a' ps.length c' ps (y, t) F' _ HV.out.2 (by omega) (fun k hk => HIN.out _ (Sp.at_mem hk)) HT.out).mono ?_
   rintro e w8 ⟨v8, rfl, own8, bel8⟩
   have HD8 : Hid (DrP w q a len cap zs v8 (put ps (y, t) false) w8 ∧ v8 ≠ .slice none 0 0) := by
    have := HD6.out.below bel8
    exact ⟨⟨own_mono own8 HD6.out.grown.size, this.cur, this.grown, this.lt⟩, put_ne _ _ _ _ _ _ own8 (put_pos _ _)⟩
   have HIN8 : Hid (∀ p ∈ put ps (y, t) false, InB p) := put_inb HIN.out HT.out
   have hpl8 := put_length ps (y, t) false
   clear own8 bel8 HD6 HV
   go_wp2
   go_roundw
   case rel => exact ⟨k + 1, put ps (y, t) false, by omega, by go_num, by omega, HD8, HIN8⟩
   case measure => simp [intOf]; omega
  ·
   have hcd : decide ((k : Int) < m) = false := decF hlt
   go_wp2
   go_ret
   exact ⟨_, ps, rfl, HD.out.1, by omega, HD.out.2, fit_of_inb HIN.out⟩
end
section
set_option maxRecDepth 200000
set_option maxHeartbeats 16000000
open Go.RowKit
theorem cur_agree5 {w w' : World} {g : Nat} {a : Option Addr} {len cap : Nat} {zs : List Int} {i h : Int} (C : Cur w g a len cap zs i h) (_hg : g < w.heap.size) (e : w'.heap[g]? = w.heap[g]?) (hb : ∀ b, b < w.heap.size → (∃ off, a = some ⟨b, off, none⟩ ∧ 0 < len) → w'.heap[b]? = w.heap[b]?) : Cur w' g a len cap zs i h := by
 refine ⟨(World.cell?_of_block (w := w) (a := ⟨g, 0, none⟩) e).trans C.c0, (World.cell?_of_block (w := w) (a := ⟨g, 1, none⟩) e).trans C.c1, (World.cell?_of_block (w := w) (a := ⟨g, 2, none⟩) e).trans C.c2, (World.frozen?_of_block (w := w) (a := ⟨g, 1, none⟩) e).trans C.f1, (World.frozen?_of_block (w := w) (a := ⟨g, 2, none⟩) e).trans C.f2, C.i0, C.i1, ?_, C.ap⟩
 refine ⟨C.rd.length, C.rd.range, ?_⟩
 rcases C.rd.cells with h0 | ⟨b, off, ha, hc⟩
 ·
  exact .inl h0
 ·
  by_cases hl : len = 0
  ·
   exact .inl hl
  ·
   have hlt : b < w.heap.size := World.block_lt_of_cell? _ _ (hc 0 (by omega))
   exact .inr ⟨b, off, ha, fun j hj => (World.cell?_of_block (w := w) (a := ⟨b, off + j, none⟩) (hb b hlt ⟨off, ha, by omega⟩)).trans (hc j hj)⟩
theorem cur_lt5 {w : World} {q : Nat} {a : Option Addr} {len cap : Nat} {zs : List Int} {i h : Int} (C : Cur w q a len cap zs i h) (b : Nat) (hb : ∃ off, a = some ⟨b, off, none⟩ ∧ 0 < len) : b < w.heap.size := by
 obtain ⟨off, ha, hp⟩ := hb
 rcases C.rd.cells with h0 | ⟨b', off', ha', hc⟩
 ·
  omega
 ·
  rw [ha] at ha'
  cases ha'
  exact World.block_lt_of_cell? _ _ (hc 0 hp)
theorem DrP.app {w : World} {q : Nat} {a : Option Addr} {len cap : Nat} {zs : List Int} {v v' : Value} {ps : Sp} {W W' : World} {y z : Int} {ob : Obj} (D : DrP w q a len cap zs v ps W) (ha : ∀ b, (∃ off, a = some ⟨b, off, none⟩ ∧ 0 < len) → b < w.heap.size) (hown : W'.ownsRow w.heap.size 74 2 v' (ps.length + 1) ((flat ps).map (Value.int .i64) ++ [.int .i64 y, .int .i64 z])) (hgrow : (W.alloc ob).grownBy W' v.ownBlock) : DrP w q a len cap zs v' (ps ++ [(y, z)]) W' := by
 have D' := D.alloc ob
 obtain ⟨i, h, C⟩ := D'.cur
 have hne : ∀ k, k < w.heap.size → some k ≠ v.ownBlock := fun k hk e => by have := (D'.own.lt k e.symm).1; omega
 have hs := D'.grown.size
 have hq := D'.lt
 refine ⟨?_, ⟨i, h, ?_⟩, ⟨hgrow.os.trans D'.grown.os, hgrow.tape.trans D'.grown.tape, hgrow.output.trans D'.grown.output, Nat.le_trans D'.grown.size hgrow.size, fun k hk hn => (hgrow.block k (by omega) (hne k hk)).trans (D'.grown.block k hk hn)⟩, D.lt⟩
 ·
  rw [flat_append, List.map_append, List.length_append]
  exact hown
 ·
  exact cur_agree5 C (by omega) (hgrow.block q (by omega) (hne q hq)) (fun b hb hx => hgrow.block b hb (hne b (ha b hx)))
theorem l5Draw_any (q : Nat) (a : Option Addr) (len cap : Nat) (zs : List Int) (i h : Int) (w : World) (C : Cur w q a len cap zs i h) (hlen : len ≤ 1048576) :
 Calls Tryz.prog 60 #[.pointer (some ⟨q, 0, none⟩)] w fun e w' => DrewP w q a len cap zs 8 e w' := by
 obtain ⟨t0, hi, hz0, hz1, hz2⟩ := info_parts infoSpan
 have HC : Hid (Cur w q a len cap zs i h) := C
 have HA : Hid (∀ b, (∃ off, a = some ⟨b, off, none⟩ ∧ 0 < len) → b < w.heap.size) := cur_lt5 C
 clear C
 go_enter Tryz.func60, Tryz.ntmps60
 go_wp2_with fail
 refine (l5Right_any q a len cap zs i h _ HC.out hlen).mono ?_
 rintro e w1 ⟨v, ps, rfl, D1, hl1, hne1, hf1⟩
 have HF1 : Hid ps.fit := hf1
 have HD1 : Hid (DrP w q a len cap zs v ps w1 ∧ v ≠ .slice none 0 0) := ⟨D1, hne1⟩
 clear D1 hne1 hf1 HC
 obtain ⟨i1, h1, C1⟩ := HD1.out.1.cur
 go_wp2_with fail
 refine (once_any q a len cap zs i1 h1 8 _ C1 hlen (by omega) (by omega)).mono ?_
 rintro e w2 ⟨b, i2, h2, rfl, C2, g2⟩
 have HD2 : Hid (DrP w q a len cap zs v ps w2) := HD1.out.1.next C2 g2
 have HC2 : Hid (Cur w2 q a len cap zs i2 h2) := C2
 clear C1 C2 g2
 cases b
 ·
  go_wp2
  go_ret
  exact ⟨_, ps, rfl, HD2.out, by omega, HD1.out.2, HF1.out⟩
 go_wp2_with fail
 have hqw2 : q < w2.heap.size := World.block_lt_of_cell? _ _ HC2.out.c0
 refine (pickInt_cur q w2.heap.size 3 a len cap zs i2 h2 [-1, 3, 10000] _ (HC2.out.alloc _) hlen (fun j hj => lit_ints w2 [-1, 3, 10000] _ j hj) (by omega) 3 rfl (by omega) (by omega)).mono ?_
 rintro e w3 ⟨y, i3, h3, hy, rfl, C3, g3⟩
 have HY : Hid (Fit64 y) := by rcases list3 hy with rfl | rfl | rfl <;> exact ⟨by omega, by omega⟩
 clear hy
 have HD3 : Hid (DrP w q a len cap zs v ps w3) := (HD2.out.alloc _).next C3 g3
 have HC3 : Hid (Cur w3 q a len cap zs i3 h3) := C3
 clear C3 g3 HD2 HC2 hqw2
 go_wp2_with fail
 have hqw3 : q < w3.heap.size := World.block_lt_of_cell? _ _ HC3.out.c0
 refine (pickInt_cur q w3.heap.size 3 a len cap zs i3 h3 [5, 10000, 9223372036854775807] _ (HC3.out.alloc _) hlen (fun j hj => lit_ints w3 [5, 10000, 9223372036854775807] _ j hj) (by omega) 3 rfl (by omega) (by omega)).mono ?_
 rintro e w4 ⟨z, i4, h4, hz, rfl, C4, g4⟩
 have HZ : Hid (Fit64 z) := by rcases list3 hz with rfl | rfl | rfl <;> exact ⟨by omega, by omega⟩
 clear hz
 have HD4 : Hid (DrP w q a len cap zs v ps w4) := (HD3.out.alloc _).next C4 g4
 clear C4 g4 HD3 HC3 hqw3
 have hsz : w.heap.size ≤ w4.heap.size := HD4.out.grown.size
 go_wp2_with (first | go_skip | (with_reducible refine stopAppend2 rfl ?_))
 refine Stop.intro (wpList_append_own _ rfl _ _ 27 rfl w.heap.size 74 t0 (.agg #[.int .i64 0, .int .i64 0]) 2 16 Tryz.underlying27 hi hz0 hz1 hz2 rfl (by decide) _ ps.length ((flat ps).map (Value.int .i64)) rfl (HD4.out.own.alloc _) ⟨w4.heap.size, 0, none⟩ 1 1 [.int .i64 y, .int .i64 z] rfl rfl (cell_new2 _ _ _ _) (by intro u hu; simp at hu; rcases hu with rfl | rfl <;> rfl) (by unfold maxLen; omega) (by omega) (by simp; omega) ?_)
 intro v5 w5 hown hgrow _
 have HD5 : Hid (DrP w q a len cap zs v5 (ps ++ [(y, z)]) w5 ∧ v5 ≠ .slice none 0 0) := ⟨HD4.out.app HA.out hown hgrow, put_ne _ _ _ _ _ _ hown (by omega)⟩
 clear hown hgrow HD4
 go_wp2
 go_ret
 exact ⟨_, ps ++ [(y, z)], rfl, HD5.out.1, by simp; omega, HD5.out.2, fun p hp => (List.mem_append.1 hp).elim (HF1.out p) (fun hp => by rw [List.mem_singleton.1 hp]; exact ⟨HY.out, HZ.out⟩)⟩
structure SetAt (W : World) (a : Option Addr) (l c : Nat) (ps : Sp) : Prop where
 rd : ∃ F, RdP W a l ps F
 len : l ≤ 8
 cap : l ≤ c
 some : a = none → c = 0
theorem DrP.at {w : World} {q : Nat} {a : Option Addr} {len cap : Nat} {zs : List Int} {v : Value} {ps : Sp} {W : World} (D : DrP w q a len cap zs v ps W) (hn : ps.length ≤ 8) (hne : v ≠ .slice none 0 0) : ∃ g c, v = .slice (some ⟨g, 0, none⟩) ps.length c ∧ SetAt W (some ⟨g, 0, none⟩) ps.length c ps ∧ ∃ F, RdP W (some ⟨g, 0, none⟩) ps.length ps F ∧ ∀ b ∈ F, w.heap.size ≤ b := by
 obtain ⟨a', c', F, e, hr, ho, _⟩ := rdP_of_own D.own
 rcases D.own.2 with ⟨e2, _⟩ | ⟨g, cp, cur, e2, h2, h3, h4, _⟩
 ·
  exact absurd e2 hne
 ·
  rw [e2] at e
  cases e
  exact ⟨g, c', e2, ⟨⟨F, hr⟩, hn, h4, fun e => by cases e⟩, F, hr, ho.ge⟩
end
section
set_option maxRecDepth 200000
set_option maxHeartbeats 16000000
open Go.RowKit
def DrewEntry (w : World) (q : Nat) (a : Option Addr) (len cap : Nat) (zs : List Int) (e : Ending) (w' : World) : Prop :=
 ∃ ec x F G i' h', e = .returned (.agg ec) ∧ RdEn w' (.agg ec) x F G ∧ skCopy x ec ∧ x.ids.length ≤ 8 ∧ (∀ b ∈ F, w.heap.size ≤ b) ∧ (∀ b ∈ G, w.heap.size ≤ b) ∧ Cur w' q a len cap zs i' h' ∧ w.grownBy w' (some q)
structure LocE (w : World) (q : Nat) (a : Option Addr) (len cap : Nat) (zs : List Int) (i h : Int) (L : Nat) (ec : Array Value) (x : En) (F G : List Nat) (W : World) : Prop where
 held : HeldR w q a len cap zs i h #[.int .i64 0, .int .i64 0, .slice none 0 0, .int .i64 0, .int .i64 0, .int .i64 0, .int .i64 0, .slice none 0 0, .slice none 0 0, .slice none 0 0] 33 W
 loc : Blk W L ec 33
 rd : RdEn W (.agg ec) x F G
 ge1 : ∀ b ∈ F, w.heap.size + 1 ≤ b
 ge2 : ∀ b ∈ G, w.heap.size + 1 ≤ b
 ap1 : L ∉ F
 ap2 : L ∉ G
 gt : w.heap.size < L
 copy : skCopy x ec
 len8 : x.ids.length ≤ 8
def MidE (w : World) (q : Nat) (a : Option Addr) (len cap : Nat) (zs : List Int) (L : Nat) (W : World) : Prop := ∃ i h ec x F G, LocE w q a len cap zs i h L ec x F G W
section
variable {w W W' : World} {q : Nat} {a : Option Addr} {len cap : Nat} {zs : List Int} {i h i' h' : Int} {L : Nat} {ec : Array Value} {x : En} {F G : List Nat}
theorem LocE.next (H : LocE w q a len cap zs i h L ec x F G W) (hq : q < w.heap.size) (C : Cur W' q a len cap zs i' h') (g : W.grownBy W' (some q)) : LocE w q a len cap zs i' h' L ec x F G W' := by
 have n1 : q ∉ F := fun hx => by have := H.ge1 _ hx; omega
 have n2 : q ∉ G := fun hx => by have := H.ge2 _ hx; omega
 have := H.gt
 exact ⟨H.held.next hq C g, H.loc.grown g (by omega), H.rd.agree (agree_grown g H.rd.lt1 n1) (agree_grown g H.rd.lt2 n2), H.ge1, H.ge2, H.ap1, H.ap2, H.gt, H.copy, H.len8⟩
theorem LocE.below (H : LocE w q a len cap zs i h L ec x F G W) (b : Below W.heap.size W W') : LocE w q a len cap zs i h L ec x F G W' := ⟨H.held.below b, H.loc.below b, H.rd.below b, H.ge1, H.ge2, H.ap1, H.ap2, H.gt, H.copy, H.len8⟩
theorem LocE.done (H : LocE w q a len cap zs i h L ec x F G W) (hq : q < w.heap.size) (ha : ∀ b, (∃ off, a = some ⟨b, off, none⟩ ∧ 0 < len) → b < w.heap.size) : DrewEntry w q a len cap zs (.returned (.agg ec)) (W.setRow w.heap.size ec) := by
 have n1 : w.heap.size ∉ F := fun hx => by have := H.ge1 _ hx; omega
 have n2 : w.heap.size ∉ G := fun hx => by have := H.ge2 _ hx; omega
 exact ⟨ec, x, F, G, i, h, rfl, H.rd.agree (Agree.row n1 ec) (Agree.row n2 ec), H.copy, H.len8, fun b hb => by (have := H.ge1 b hb; omega), fun b hb => by (have := H.ge2 b hb; omega), cur_row H.held.cur (by omega) (fun b hb => by have := ha b hb; omega), grown_row H.held.grown (Nat.le_refl _)⟩
theorem LocE.set (H : LocE w q a len cap zs i h L ec x F G W) (hq : q < w.heap.size) (ha : ∀ b, (∃ off, a = some ⟨b, off, none⟩ ∧ 0 < len) → b < w.heap.size) (j : Nat) (v : Value) {ec' : Array Value} {y : En} {F' : List Nat} (hic : ec.setIfInBounds j v = ec') (hr : RdEn (W.setCell ⟨L, j, none⟩ v) (.agg ec') y F' G) (hF : ∀ b ∈ F', w.heap.size + 1 ≤ b) (hA : L ∉ F') (hk : skCopy y ec') (h8 : y.ids.length ≤ 8) : LocE w q a len cap zs i h L ec' y F' G (W.setCell ⟨L, j, none⟩ v) := by
 subst hic
 have hgt := H.gt
 exact ⟨⟨H.held.res.setOther (by omega) j v, cur_cell H.held.cur (by omega) (fun b hb => by have := ha b hb; omega), grown_cell H.held.grown (by omega)⟩, H.loc.set j v, hr, hF, H.ge2, hA, H.ap2, H.gt, hk, h8⟩
theorem LocE.row (H : LocE w q a len cap zs i h L ec x F G W) (hq : q < w.heap.size) (ha : ∀ b, (∃ off, a = some ⟨b, off, none⟩ ∧ 0 < len) → b < w.heap.size) {ec' : Array Value} {y : En} {G' : List Nat} (hr : RdEn (W.setRow L ec') (.agg ec') y F G') (hG : ∀ b ∈ G', w.heap.size + 1 ≤ b) (hA : L ∉ G') (hk : skCopy y ec') (h8 : y.ids.length ≤ 8) : LocE w q a len cap zs i h L ec' y F G' (W.setRow L ec') := by
 have hgt := H.gt
 exact ⟨⟨H.held.res.setRowOther (by omega), cur_row H.held.cur (by omega) (fun b hb => by have := ha b hb; omega), grown_row H.held.grown (by omega)⟩, H.loc.setRow, hr, H.ge1, hG, H.ap1, hA, H.gt, hk, h8⟩
theorem skCopy_head {y : En} {u0 u1 u2 v0 v1 v2 a3 a4 a5 a6 a7 a8 a9 : Value} (h : skCopy x #[u0, u1, u2, a3, a4, a5, a6, a7, a8, a9]) (hs : y.sk = x.sk) : skCopy y #[v0, v1, v2, a3, a4, a5, a6, a7, a8, a9] := by
 rcases h with h | ⟨h, t0, t1, t2, e⟩
 ·
  exact .inl (by rw [hs]; exact h)
 ·
  simp only [Array.mk.injEq, List.cons.injEq, and_true] at e
  obtain ⟨_, _, _, rfl, rfl, rfl, rfl, rfl, rfl, rfl⟩ := e
  exact .inr ⟨by rw [hs]; exact h, v0, v1, v2, rfl⟩
end
theorem full_wideE {s : Sk} (h : s.full) : s.wide := ⟨by have := h.hist; omega, by have := h.regs; omega, by have := h.rows; omega, fun z hz => by have := h.row z hz; omega⟩
theorem enSizeD {cs : Array Value} (h : cs.size = 10) : (Tryz.prog.info? 33).map (·.size) = some cs.size := by rw [h]; exact infoEnA
theorem LocE.cells {w : World} {q : Nat} {a : Option Addr} {len cap : Nat} {zs : List Int} {i h : Int} {L : Nat} {ec : Array Value} {x : En} {F G : List Nat} {W : World} (H : LocE w q a len cap zs i h L ec x F G W) : ∃ e : Nat, e = 0 ∧ ec.size = 10 ∧ ec.all (·.oneCell') = true := by
 obtain ⟨b, l, c, a1, n1, c1, a2, n2, c2, a3, n3, c3, ev, _⟩ := H.rd
 injection ev with ev
 subst ev
 exact ⟨0, rfl, rfl, by simp [Value.oneCell']⟩
theorem l6Entry_any (q : Nat) (a : Option Addr) (len cap : Nat) (zs : List Int) (i h : Int) (w : World) (C : Cur w q a len cap zs i h) (hlen : len ≤ 1048576) :
 Calls Tryz.prog 26 #[.pointer (some ⟨q, 0, none⟩)] w fun e w' => DrewEntry w q a len cap zs e w' := by
 have hq : q < w.heap.size := World.block_lt_of_cell? _ _ C.c0
 have HA : Hid (∀ b, (∃ off, a = some ⟨b, off, none⟩ ∧ 0 < len) → b < w.heap.size) := cur_lt C
 have H0 : Hid (HeldR w q a len cap zs i h #[.int .i64 0, .int .i64 0, .slice none 0 0, .int .i64 0, .int .i64 0, .int .i64 0, .int .i64 0, .slice none 0 0, .slice none 0 0, .slice none 0 0] 33 (w.alloc (.cells #[.int .i64 0, .int .i64 0, .slice none 0 0, .int .i64 0, .int .i64 0, .int .i64 0, .int .i64 0, .slice none 0 0, .slice none 0 0, .slice none 0 0] 33))) := HeldR.made C _ _
 clear C
 go_enter Tryz.func26, Tryz.ntmps26
 go_wp2_with fail
 refine (l1Below_any q a len cap zs i h 3 _ H0.out.cur hlen (by omega) (by omega)).mono ?_
 rintro e w1 ⟨ag, i1, h1, rfl, _, _, C1, g1⟩
 have H1 : Hid (HeldR w q a len cap zs i1 h1 #[.int .i64 0, .int .i64 0, .slice none 0 0, .int .i64 0, .int .i64 0, .int .i64 0, .int .i64 0, .slice none 0 0, .slice none 0 0, .slice none 0 0] 33 w1) := H0.out.next hq C1 g1
 clear C1 g1 H0
 go_wp2_with fail
 refine (l6Right_any q a len cap zs i1 h1 _ H1.out.cur hlen).mono ?_
 rintro e w2 ⟨v, it, FI, i2, h2, rfl, rx, fx, ox, C2, g2⟩
 have H2 : Hid (HeldR w q a len cap zs i2 h2 #[.int .i64 0, .int .i64 0, .slice none 0 0, .int .i64 0, .int .i64 0, .int .i64 0, .int .i64 0, .slice none 0 0, .slice none 0 0, .slice none 0 0] 33 w2) := H1.out.next hq C2 g2
 have HX : Hid (RdIt w2 v it FI ∧ it.sk.full) := ⟨rx, fx⟩
 clear C2 g2 H1 rx fx ox
 go_wp2_with fail
 refine (entryOfSpec_z ag v it FI _ HX.out.1 (full_wideE HX.out.2)).mono ?_
 rintro e w3 ⟨⟨zv, F, G, rfl, ry, oF, oG, _, b3⟩, hz⟩
 obtain ⟨b, l, c, a1, n1, c1, a2, n2, c2, a3, n3, c3, rfl, hp, hr, hcp⟩ := ry
 obtain ⟨x, hx⟩ : ∃ x, x = it.entry ag := ⟨_, rfl⟩
 have HC : skCopy (it.entry ag) #[.int .i64 (it.entry ag).key, .int .i64 (it.entry ag).window, .slice b l c, .int .i64 (it.entry ag).sk.count, .int .i64 (it.entry ag).sk.sum, .int .i64 (it.entry ag).sk.min, .int .i64 (it.entry ag).sk.max, .slice a1 n1 c1, .slice a2 n2 c2, .slice a3 n3 c3] := by
  cases hok : it.entryOk ag
  ·
   right
   have := hz hok
   simp only [Ending.returned.injEq, Value.tuple.injEq, Array.mk.injEq, List.cons.injEq, Value.agg.injEq] at this
   refine ⟨by rw [It.entry_not hok]; rfl, .int .i64 0, .int .i64 0, .slice none 0 0, ?_⟩
   simp only [Array.mk.injEq, List.cons.injEq]
   exact this.1
  ·
   left
   rw [It.entry_yes hok]
   exact HX.out.2
 have H8 : (it.entry ag).ids.length ≤ 8 := by
  cases hok : it.entryOk ag
  ·
   rw [It.entry_not hok]; simp [En.zero]
  ·
   rw [It.entry_yes hok]; simp
 rw [← hx] at hp hr HC H8 ⊢
 have H3 : Hid (HeldR w q a len cap zs i2 h2 #[.int .i64 0, .int .i64 0, .slice none 0 0, .int .i64 0, .int .i64 0, .int .i64 0, .int .i64 0, .slice none 0 0, .slice none 0 0, .slice none 0 0] 33 w3) := H2.out.below b3
 have HY : Hid (RdEn w3 (.agg #[.int .i64 x.key, .int .i64 x.window, .slice b l c, .int .i64 x.sk.count, .int .i64 x.sk.sum, .int .i64 x.sk.min, .int .i64 x.sk.max, .slice a1 n1 c1, .slice a2 n2 c2, .slice a3 n3 c3]) x F G ∧ skCopy x #[.int .i64 x.key, .int .i64 x.window, .slice b l c, .int .i64 x.sk.count, .int .i64 x.sk.sum, .int .i64 x.sk.min, .int .i64 x.sk.max, .slice a1 n1 c1, .slice a2 n2 c2, .slice a3 n3 c3] ∧ x.ids.length ≤ 8 ∧ (∀ b ∈ F, w.heap.size + 1 ≤ b) ∧ (∀ b ∈ G, w.heap.size + 1 ≤ b)) := ⟨⟨b, l, c, a1, n1, c1, a2, n2, c2, a3, n3, c3, rfl, hp, hr, hcp⟩, HC, H8, fun b hb => by (have := oF.ge b hb; have := H2.out.res.lt; omega), fun b hb => by (have := oG.ge b hb; have := H2.out.res.lt; omega)⟩
 obtain ⟨dz, hdz⟩ : ∃ d, d = it.entryOk ag := ⟨_, rfl⟩
 rw [← hdz]
 clear oF oG b3 hz hp hr hcp HC H8 hx H2 HX hdz
 go_wp2_with (first | go_skip | (with_reducible refine stopStore 33 rfl ?_))
 refine store_fresh 33 w3.heap.size rfl #[.int .i64 0, .int .i64 0, .slice none 0 0, .int .i64 0, .int .i64 0, .int .i64 0, .int .i64 0, .slice none 0 0, .slice none 0 0, .slice none 0 0] #[.int .i64 x.key, .int .i64 x.window, .slice b l c, .int .i64 x.sk.count, .int .i64 x.sk.sum, .int .i64 x.sk.min, .int .i64 x.sk.max, .slice a1 n1 c1, .slice a2 n2 c2, .slice a3 n3 c3] 33 rfl rfl rfl rfl (by kernel_rfl) rfl (by simp [Value.oneCell']) ?_
 intro W4 hg4 hb4
 have HL : Hid (MidE w q a len cap zs w3.heap.size W4) := ⟨i2, h2, #[.int .i64 x.key, .int .i64 x.window, .slice b l c, .int .i64 x.sk.count, .int .i64 x.sk.sum, .int .i64 x.sk.min, .int .i64 x.sk.max, .slice a1 n1 c1, .slice a2 n2 c2, .slice a3 n3 c3], x, F, G, H3.out.below hb4, hg4, HY.out.1.below hb4, HY.out.2.2.2.1, HY.out.2.2.2.2, fun hx => by (have := HY.out.1.lt1 _ hx; omega), fun hx => by (have := HY.out.1.lt2 _ hx; omega), H3.out.res.lt, HY.out.2.1, HY.out.2.2.1⟩
 obtain ⟨L, hLe⟩ : ∃ L, L = w3.heap.size := ⟨_, rfl⟩
 rw [← hLe] at HL ⊢
 clear hg4 hb4 H3 HY hLe
 obtain ⟨i4, h4, ec, x4, F4, G4, hl4⟩ := HL.out
 have HL4 : Hid (LocE w q a len cap zs i4 h4 L ec x4 F4 G4 W4) := hl4
 clear hl4 HL
 go_wp2_with fail
 refine (l1Once_any q a len cap zs i4 h4 4 _ HL4.out.held.cur hlen (by omega) (by omega)).mono ?_
 rintro e w5 ⟨bb, i4', h4', rfl, C', g'⟩
 have HN : Hid (LocE w q a len cap zs i4' h4' L ec x4 F4 G4 w5) := HL4.out.next hq C' g'
 clear C' g' HL4
 go_upto_if 14 with fail
 go_cut [] (fun wx => MidE w q a len cap zs L wx)
 case first =>
  cases bb
  ·
   go_wp2
   go_meet
   case rel => exact ⟨_, _, _, _, _, _, HN.out⟩
  ·
   go_wp2_with fail
   refine (l5Draw_any q a len cap zs i4' h4' _ HN.out.held.cur hlen).mono ?_
   rintro e w6 ⟨v6, ps, rfl, D6, hl6, hne6, _⟩
   obtain ⟨g, cc, rfl, S6, F6, r6, f6⟩ := D6.at hl6 hne6
   obtain ⟨i6, h6, C6⟩ := D6.cur
   have HN6 : Hid (LocE w q a len cap zs i6 h6 L ec x4 F4 G4 w6) := HN.out.next hq C6 D6.grown
   have HP6 : Hid (RdP w6 (some ⟨g, 0, none⟩) ps.length ps F6 ∧ (∀ b ∈ F6, w5.heap.size ≤ b) ∧ ps.length ≤ cc ∧ ps.length ≤ 8 ∧ L < w5.heap.size) := ⟨r6, f6, S6.cap, hl6, HN.out.loc.lt⟩
   clear D6 S6 r6 f6 C6 hne6 HN
   obtain ⟨b, l, c, a1, n1, c1, a2, n2, c2, a3, n3, c3, ev, hp, hr, hcp⟩ := HN6.out.rd
   injection ev with ev
   subst ev
   have HS6 : Hid (RdSk w6 (.agg #[.int .i64 x4.sk.count, .int .i64 x4.sk.sum, .int .i64 x4.sk.min, .int .i64 x4.sk.max, .slice a1 n1 c1, .slice a2 n2 c2, .slice a3 n3 c3]) x4.sk G4) := hr
   have cc2 := HN6.out.loc.cell 2
   have ff2 := HN6.out.loc.frozen 2
   simp only [aT, aS, aZ] at cc2
   clear hp hr hcp
   go_wp2
   go_meet
   case rel =>
    have ag1 : Agree w6 (w6.setCell ⟨L, 2, none⟩ (.slice (some ⟨g, 0, none⟩) ps.length cc)) F6 := .set (fun hx => by have := HP6.out.2.1 _ hx; have := HP6.out.2.2.2.2; omega) 2 _
    have ag2 : Agree w6 (w6.setCell ⟨L, 2, none⟩ (.slice (some ⟨g, 0, none⟩) ps.length cc)) G4 := .set HN6.out.ap2 2 _
    exact ⟨_, _, #[.int .i64 x4.key, .int .i64 x4.window, .slice (some ⟨g, 0, none⟩) ps.length cc, .int .i64 x4.sk.count, .int .i64 x4.sk.sum, .int .i64 x4.sk.min, .int .i64 x4.sk.max, .slice a1 n1 c1, .slice a2 n2 c2, .slice a3 n3 c3], ⟨x4.key, x4.window, ps, x4.sk⟩, F6, G4, HN6.out.set hq HA.out 2 _ (by simp) ⟨_, _, _, _, _, _, _, _, _, _, _, _, rfl, HP6.out.1.agree ag1, HS6.out.agree ag2, fun e => (by cases e), HP6.out.2.2.1⟩ (fun b hb => by have := HP6.out.2.1 b hb; have := HP6.out.2.2.2.2; have := HN6.out.gt; omega) (fun hx => by have := HP6.out.2.1 _ hx; have := HP6.out.2.2.2.2; omega) (skCopy_head HN6.out.copy rfl) HP6.out.2.2.2.1⟩
 case rest =>
  obtain ⟨i7, h7, ec, x4, F4, G4, hl⟩ := hcut
  obtain ⟨w7, hWn⟩ : ∃ W, W = wc := ⟨_, rfl⟩
  rw [← hWn] at hl ⊢
  clear hWn
  have HL7 : Hid (LocE w q a len cap zs i7 h7 L ec x4 F4 G4 w7) := hl
  clear hl
  go_wp2_with fail
  refine (l1Once_any q a len cap zs i7 h7 14 _ HL7.out.held.cur hlen (by omega) (by omega)).mono ?_
  rintro e w8 ⟨bb, i7', h7', rfl, C', g'⟩
  have HN : Hid (LocE w q a len cap zs i7' h7' L ec x4 F4 G4 w8) := HL7.out.next hq C' g'
  clear C' g' HL7
  go_upto_if 19 with fail
  go_cut [] (fun wx => MidE w q a len cap zs L wx)
  case first =>
   cases bb
   ·
    go_wp2
    go_meet
    case rel => exact ⟨_, _, _, _, _, _, HN.out⟩
   ·
    go_wp2_with fail
    refine (l3Draw_any q a len cap zs i7' h7' _ HN.out.held.cur hlen).mono ?_
    rintro e w9 ⟨v9, s, F9, i9, h9, rfl, r9, f9, o9, C9, g9⟩
    obtain ⟨e1, r1, f1, e2, r2, f2, e3, r3, f3, rfl⟩ := r9.cells7
    have HN9 : Hid (LocE w q a len cap zs i9 h9 L ec x4 F4 G4 w9) := HN.out.next hq C9 g9
    have HS9 : Hid (RdSk w9 (.agg #[.int .i64 s.count, .int .i64 s.sum, .int .i64 s.min, .int .i64 s.max, .slice e1 r1 f1, .slice e2 r2 f2, .slice e3 r3 f3]) s F9 ∧ s.full ∧ (∀ b ∈ F9, w8.heap.size ≤ b) ∧ L < w8.heap.size) := ⟨r9, f9, o9.ge, HN.out.loc.lt⟩
    clear C9 g9 r9 f9 o9 HN
    obtain ⟨b, l, c, a1, n1, c1, a2, n2, c2, a3, n3, c3, ev, hp, hr, hcp⟩ := HN9.out.rd
    injection ev with ev
    subst ev
    have HP9 : Hid (RdP w9 b l x4.ids F4 ∧ Capd b l c) := ⟨hp, hcp⟩
    clear hp hr hcp
    go_wp2_with (first | go_skip | (with_reducible refine stopStore 31 rfl ?_))
    refine store_cut 31 L 3 _ #[.int .i64 s.count, .int .i64 s.sum, .int .i64 s.min, .int .i64 s.max, .slice e1 r1 f1, .slice e2 r2 f2, .slice e3 r3 f3] #[.int .i64 x4.key, .int .i64 x4.window, .slice b l c, .int .i64 s.count, .int .i64 s.sum, .int .i64 s.min, .int .i64 s.max, .slice e1 r1 f1, .slice e2 r2 f2, .slice e3 r3 f3] 33 HN9.out.loc rfl rfl rfl rfl infoSkI (by simp) (one7 ..) (by simp [cutIn]) ?_
    go_wp2
    go_meet
    case rel =>
     have nF : L ∉ F9 := fun hx => by have := HS9.out.2.2.1 _ hx; have := HS9.out.2.2.2; omega
     exact ⟨_, _, _, ⟨x4.key, x4.window, x4.ids, s⟩, F4, F9, HN9.out.row hq HA.out ⟨_, _, _, _, _, _, _, _, _, _, _, _, rfl, HP9.out.1.agree (Agree.row HN9.out.ap1 _), HS9.out.1.agree (Agree.row nF _), HP9.out.2⟩ (fun b hb => by have := HS9.out.2.2.1 b hb; have := HS9.out.2.2.2; have := HN9.out.gt; omega) nF (.inl HS9.out.2.1) HN9.out.len8⟩
  case rest =>
   obtain ⟨i10, h10, ec, x4, F4, G4, hl⟩ := hcut
   obtain ⟨w10, hWn⟩ : ∃ W, W = wc := ⟨_, rfl⟩
   rw [← hWn] at hl ⊢
   clear hWn
   have HL10 : Hid (LocE w q a len cap zs i10 h10 L ec x4 F4 G4 w10) := hl
   clear hl
   go_wp2_with fail
   refine (l1Once_any q a len cap zs i10 h10 20 _ HL10.out.held.cur hlen (by omega) (by omega)).mono ?_
   rintro e w11 ⟨bb, i10', h10', rfl, C', g'⟩
   have HN : Hid (LocE w q a len cap zs i10' h10' L ec x4 F4 G4 w11) := HL10.out.next hq C' g'
   clear C' g' HL10
   go_upto_if 24 with fail
   go_cut [] (fun wx => MidE w q a len cap zs L wx)
   case first =>
    cases bb
    ·
     go_wp2
     go_meet
     case rel => exact ⟨_, _, _, _, _, _, HN.out⟩
    ·
     go_wp2_with fail
     refine (pickInt_cur q w11.heap.size 2 a len cap zs i10' h10' [-1, 5] _ (HN.out.held.cur.alloc _) hlen (fun j hj => lit_ints w11 [-1, 5] _ j hj) (by have := HN.out.held.grown.size; omega) 2 rfl (by omega) (by omega)).mono ?_
     rintro e w12 ⟨y, i12, h12, _, rfl, C12, g12⟩
     have HN2 : Hid (LocE w q a len cap zs i12 h12 L ec x4 F4 G4 w12) := (HN.out.below ((Below.refl _ _).alloc (Nat.le_refl _) _)).next hq C12 g12
     clear C12 g12 HN
     obtain ⟨b, l, c, a1, n1, c1, a2, n2, c2, a3, n3, c3, ev, hp, hr, hcp⟩ := HN2.out.rd
     injection ev with ev
     subst ev
     have HP2 : Hid (RdP w12 b l x4.ids F4 ∧ Capd b l c ∧ RdSk w12 (.agg #[.int .i64 x4.sk.count, .int .i64 x4.sk.sum, .int .i64 x4.sk.min, .int .i64 x4.sk.max, .slice a1 n1 c1, .slice a2 n2 c2, .slice a3 n3 c3]) x4.sk G4) := ⟨hp, hcp, hr⟩
     have cc0 := HN2.out.loc.cell 0
     have ff0 := HN2.out.loc.frozen 0
     simp only [aT, aZ] at cc0
     clear hp hr hcp
     go_wp2
     go_meet
     case rel =>
      exact ⟨_, _, #[.int .i64 y, .int .i64 x4.window, .slice b l c, .int .i64 x4.sk.count, .int .i64 x4.sk.sum, .int .i64 x4.sk.min, .int .i64 x4.sk.max, .slice a1 n1 c1, .slice a2 n2 c2, .slice a3 n3 c3], ⟨y, x4.window, x4.ids, x4.sk⟩, F4, G4, HN2.out.set hq HA.out 0 _ (by simp) ⟨_, _, _, _, _, _, _, _, _, _, _, _, rfl, HP2.out.1.agree (.set HN2.out.ap1 0 _), HP2.out.2.2.agree (.set HN2.out.ap2 0 _), HP2.out.2.1⟩ HN2.out.ge1 HN2.out.ap1 (skCopy_head HN2.out.copy rfl) HN2.out.len8⟩
   case rest =>
    obtain ⟨i13, h13, ec, x4, F4, G4, hl⟩ := hcut
    obtain ⟨w13, hWn⟩ : ∃ W, W = wc := ⟨_, rfl⟩
    rw [← hWn] at hl ⊢
    clear hWn
    have HL13 : Hid (LocE w q a len cap zs i13 h13 L ec x4 F4 G4 w13) := hl
    clear hl
    obtain ⟨ec0, hec, hsz, hone⟩ := HL13.out.cells
    go_wp2_with (first | go_skip | (with_reducible refine stopLoad 33 rfl ?_))
    refine load_any 33 L ec 33 _ HL13.out.loc rfl rfl rfl Tryz.underlying33 rfl (enSizeD hsz) ?_
    go_wp2_with (first | go_skip | (with_reducible refine stopStore 33 rfl ?_))
    refine store_known 33 w.heap.size _ ec 33 HL13.out.held.res rfl rfl rfl rfl (enSizeD hsz) (by rw [hsz]; rfl) hone ?_
    have HE : Hid (DrewEntry w q a len cap zs (.returned (.agg ec)) (w13.setRow w.heap.size ec) ∧ Blk (w13.setRow w.heap.size ec) w.heap.size ec 33 ∧ ec.size = 10) := ⟨HL13.out.done hq HA.out, HL13.out.held.res.setRow, hsz⟩
    clear hsz hone hec
    go_wp2
    refine bodyPost_ret (results_cell_row Tryz.results26 _ _ w.heap.size _ _ (0, 0) _ rfl HE.out.2.1 Tryz.underlying33 rfl (enSizeD HE.out.2.2)) rfl ?_
    exact HE.out.1
end
section
open Go.RowKit
structure ElK (α : Type) where
 n : Nat
 R : World → Value → α → List Nat → Prop
 agree : ∀ {w w' : World} {v : Value} {x : α} {F : List Nat}, R w v x F → Agree w w' F → R w' v x F
 lt : ∀ {w : World} {v : Value} {x : α} {F : List Nat}, R w v x F → ∀ b ∈ F, b < w.heap.size
 cells : ∀ {w : World} {v : Value} {x : α} {F : List Nat}, R w v x F → ∃ cs : Array Value, v = .agg cs ∧ cs.size = n ∧ cs.all (·.oneCell') = true
 pos : 0 < n
section
variable {α : Type} (K : ElK α)
def RdEls (w : World) (b : Nat) : List α → Nat → List Nat → Prop
 | [], _, F => F = []
 | x :: xs, off, F => ∃ (cs : Array Value) (F1 F2 : List Nat), cs.size = K.n ∧ (∀ j, j < K.n → w.cell? ⟨b, off + j, none⟩ = cs[j]?) ∧ K.R w (.agg cs) x F1 ∧ RdEls w b xs (off + K.n) F2 ∧ F = F1 ++ F2
def RdC (w : World) : List α → List Value → List Nat → Prop
 | [], vs, F => vs = [] ∧ F = []
 | x :: xs, vs, F => ∃ (cs : Array Value) (vs' : List Value) (F1 F2 : List Nat), vs = cs.toList ++ vs' ∧ cs.size = K.n ∧ K.R w (.agg cs) x F1 ∧ RdC w xs vs' F2 ∧ F = F1 ++ F2
structure RdL (w : World) (a : Option Addr) (len : Nat) (xs : List α) (F : List Nat) : Prop where
 length : xs.length = len
 cells : (len = 0 ∧ F = []) ∨ ∃ b off F', 0 < len ∧ a = some ⟨b, off, none⟩ ∧ F = b :: F' ∧ RdEls K w b xs off F'
end
section
variable {α : Type} {K : ElK α} {w w' : World}
theorem RdEls.agree : ∀ {xs : List α} {b off : Nat} {F : List Nat}, RdEls K w b xs off F → w'.heap[b]? = w.heap[b]? → Agree w w' F → RdEls K w' b xs off F
 | [], b, off, F, h, _, _ => h
 | x :: xs, b, off, F, h, hb, ha => by
  obtain ⟨cs, F1, F2, h1, h2, h3, h4, rfl⟩ := h
  exact ⟨cs, F1, F2, h1, fun j hj => (World.cell?_of_block (w := w) (a := ⟨b, off + j, none⟩) hb).trans (h2 j hj), K.agree h3 ha.left, RdEls.agree h4 hb ha.right, rfl⟩
theorem RdEls.lt : ∀ {xs : List α} {b off : Nat} {F : List Nat}, RdEls K w b xs off F → ∀ x ∈ F, x < w.heap.size
 | [], b, off, F, h => by rw [RdEls] at h; simp [h]
 | x :: xs, b, off, F, h => by
  obtain ⟨cs, F1, F2, h1, h2, h3, h4, rfl⟩ := h
  intro y hy
  rcases List.mem_append.1 hy with hy | hy
  ·
   exact K.lt h3 y hy
  ·
   exact RdEls.lt h4 y hy
theorem RdEls.get : ∀ {xs : List α} {b off : Nat} {F : List Nat}, RdEls K w b xs off F → ∀ (i : Nat) (hi : i < xs.length), ∃ (cs : Array Value) (Fi : List Nat), cs.size = K.n ∧ (∀ j, j < K.n → w.cell? ⟨b, off + i * K.n + j, none⟩ = cs[j]?) ∧ K.R w (.agg cs) xs[i] Fi ∧ ∀ y ∈ Fi, y ∈ F
 | [], b, off, F, h, i, hi => by simp at hi
 | x :: xs, b, off, F, h, i, hi => by
  obtain ⟨cs, F1, F2, h1, h2, h3, h4, rfl⟩ := h
  cases i with
  | zero => exact ⟨cs, F1, h1, fun j hj => by rw [Nat.zero_mul, Nat.add_zero]; exact h2 j hj, h3, fun y hy => List.mem_append_left _ hy⟩
  | succ i =>
   obtain ⟨ds, Fi, k1, k2, k3, k4⟩ := RdEls.get h4 i (by simpa using hi)
   refine ⟨ds, Fi, k1, fun j hj => ?_, k3, fun y hy => List.mem_append_right _ (k4 y hy)⟩
   rw [show off + (i + 1) * K.n + j = off + K.n + i * K.n + j by rw [Nat.succ_mul]; omega]
   exact k2 j hj
theorem RdEls.first {x : α} {xs : List α} {b off : Nat} {F : List Nat} (h : RdEls K w b (x :: xs) off F) : b < w.heap.size := by
 obtain ⟨cs, F1, F2, h1, h2, _⟩ := h
 have c := h2 0 K.pos
 rw [Array.getElem?_eq_getElem (by rw [h1]; exact K.pos)] at c
 exact World.block_lt_of_cell? _ _ c
theorem RdL.agree {a : Option Addr} {len : Nat} {xs : List α} {F : List Nat} (h : RdL K w a len xs F) (ha : Agree w w' F) : RdL K w' a len xs F := by
 refine ⟨h.length, ?_⟩
 rcases h.cells with h0 | ⟨b, off, F', hp, e, rfl, hm⟩
 ·
  exact .inl h0
 ·
  exact .inr ⟨b, off, F', hp, e, rfl, hm.agree (ha b List.mem_cons_self) (fun x hx => ha x (List.mem_cons_of_mem _ hx))⟩
theorem RdL.lt {a : Option Addr} {len : Nat} {xs : List α} {F : List Nat} (h : RdL K w a len xs F) : ∀ b ∈ F, b < w.heap.size := by
 rcases h.cells with ⟨_, rfl⟩ | ⟨b, off, F', hp, e, rfl, hm⟩
 ·
  simp
 ·
  intro x hx
  rcases List.mem_cons.1 hx with rfl | hx
  ·
   cases xs with
   | nil => have := h.length; simp at this; omega
   | cons y ys => exact hm.first
  ·
   exact hm.lt x hx
theorem RdL.below {a : Option Addr} {len : Nat} {xs : List α} {F : List Nat} (h : RdL K w a len xs F) (hb : Below w.heap.size w w') : RdL K w' a len xs F := h.agree (.below hb h.lt)
theorem RdL.nil : RdL K w none 0 [] [] := ⟨rfl, .inl ⟨rfl, rfl⟩⟩
theorem RdL.zero {a : Option Addr} : RdL K w a 0 [] [] := ⟨rfl, .inl ⟨rfl, rfl⟩⟩
theorem RdL.get {a : Option Addr} {len : Nat} {xs : List α} {F : List Nat} (h : RdL K w a len xs F) (i : Nat) (hi : i < len) : ∃ b off, a = some ⟨b, off, none⟩ ∧ b ∈ F ∧ ∃ (cs : Array Value) (Fi : List Nat), cs.size = K.n ∧ (∀ j, j < K.n → w.cell? ⟨b, off + i * K.n + j, none⟩ = cs[j]?) ∧ (∀ x, xs[i]? = some x → K.R w (.agg cs) x Fi) ∧ ∀ y ∈ Fi, y ∈ F := by
 rcases h.cells with ⟨h0, _⟩ | ⟨b, off, F', hp, e, rfl, hm⟩
 ·
  omega
 ·
  obtain ⟨cs, Fi, k1, k2, k3, k4⟩ := hm.get i (by rw [h.length]; exact hi)
  refine ⟨b, off, e, List.mem_cons_self, cs, Fi, k1, k2, fun x hx => ?_, fun y hy => List.mem_cons_of_mem _ (k4 y hy)⟩
  rw [List.getElem?_eq_getElem (by rw [h.length]; exact hi)] at hx
  cases hx
  exact k3
theorem RdC.agree : ∀ {xs : List α} {vs : List Value} {F : List Nat}, RdC K w xs vs F → Agree w w' F → RdC K w' xs vs F
 | [], vs, F, h, _ => h
 | x :: xs, vs, F, h, ha => by
  obtain ⟨cs, vs', F1, F2, h1, h2, h3, h4, rfl⟩ := h
  exact ⟨cs, vs', F1, F2, h1, h2, K.agree h3 ha.left, RdC.agree h4 ha.right, rfl⟩
theorem RdC.lt : ∀ {xs : List α} {vs : List Value} {F : List Nat}, RdC K w xs vs F → ∀ x ∈ F, x < w.heap.size
 | [], vs, F, h => by rw [RdC] at h; simp [h.2]
 | x :: xs, vs, F, h => by
  obtain ⟨cs, vs', F1, F2, h1, h2, h3, h4, rfl⟩ := h
  intro y hy
  rcases List.mem_append.1 hy with hy | hy
  ·
   exact K.lt h3 y hy
  ·
   exact RdC.lt h4 y hy
theorem RdC.below {xs : List α} {vs : List Value} {F : List Nat} (h : RdC K w xs vs F) (hb : Below w.heap.size w w') : RdC K w' xs vs F := h.agree (.below hb h.lt)
theorem RdC.length : ∀ {xs : List α} {vs : List Value} {F : List Nat}, RdC K w xs vs F → vs.length = xs.length * K.n
 | [], vs, F, h => by rw [RdC] at h; simp [h.1]
 | x :: xs, vs, F, h => by
  obtain ⟨cs, vs', F1, F2, h1, h2, h3, h4, rfl⟩ := h
  rw [h1, List.length_append, Array.length_toList, h2, RdC.length h4, List.length_cons, Nat.succ_mul]; omega
theorem RdC.nil : RdC K w [] [] [] := ⟨rfl, rfl⟩
theorem RdC.snoc : ∀ {xs : List α} {vs : List Value} {F : List Nat} {x : α} {cs : Array Value} {G : List Nat}, RdC K w xs vs F → K.R w (.agg cs) x G → cs.size = K.n → RdC K w (xs ++ [x]) (vs ++ cs.toList) (F ++ G)
 | [], vs, F, x, cs, G, h, k, hs => by
  rw [RdC] at h
  obtain ⟨rfl, rfl⟩ := h
  exact ⟨cs, [], G, [], by simp, hs, k, RdC.nil, by simp⟩
 | y :: xs, vs, F, x, cs, G, h, k, hs => by
  obtain ⟨ds, vs', F1, F2, rfl, h2, h3, h4, rfl⟩ := h
  exact ⟨ds, vs' ++ cs.toList, F1, F2 ++ G, by simp, h2, h3, RdC.snoc h4 k hs, by simp⟩
theorem rdEls_of : ∀ {xs : List α} {vs : List Value} {F : List Nat} {g : Nat} (off : Nat), RdC K w xs vs F → (∀ i, i < vs.length → w.cell? ⟨g, off + i, none⟩ = vs[i]?) → RdEls K w g xs off F
 | [], vs, F, g, off, h, _ => by rw [RdC] at h; exact h.2
 | x :: xs, vs, F, g, off, h, hc => by
  obtain ⟨cs, vs', F1, F2, rfl, h2, h3, h4, rfl⟩ := h
  refine ⟨cs, F1, F2, h2, fun j hj => ?_, h3, rdEls_of (off + K.n) h4 (fun i hi => ?_), rfl⟩
  ·
   have hl : j < cs.toList.length := by rw [Array.length_toList, h2]; exact hj
   rw [hc j (by rw [List.length_append]; omega), List.getElem?_append_left hl, Array.getElem?_toList]
  ·
   have := hc (K.n + i) (by rw [List.length_append, Array.length_toList, h2]; omega)
   rw [show off + K.n + i = off + (K.n + i) by omega, this, List.getElem?_append_right (by rw [Array.length_toList, h2]; omega), Array.length_toList, h2, Nat.add_sub_cancel_left]
theorem rdL_of_own {B e m : Nat} {v : Value} {xs : List α} {vs : List Value} {G : List Nat} (h : w.ownsRow B e K.n v m vs) (hr : RdC K w xs vs G) (hG : Own B w G) (hd : ∀ g, v.ownBlock = some g → g ∉ G) : ∃ a cap F, v = .slice a m cap ∧ RdL K w a m xs F ∧ Own B w F ∧ (a = none → cap = 0) ∧ m ≤ cap := by
 have hl : xs.length = m := by
  have h1 := hr.length
  have h2 := h.1
  exact Nat.eq_of_mul_eq_mul_right K.pos (h1.symm.trans h2)
 rcases h.2 with ⟨e1, e2⟩ | ⟨g, cap, cur, e1, h1, h2, h3, h4, h5, h6⟩
 ·
  subst e1
  subst e2
  obtain rfl : xs = [] := List.eq_nil_of_length_eq_zero hl
  exact ⟨_, 0, [], rfl, RdL.nil, Own.nil, fun _ => rfl, Nat.le_refl _⟩
 ·
  subst e1
  by_cases h0 : m = 0
  ·
   subst h0
   obtain rfl : xs = [] := List.eq_nil_of_length_eq_zero hl
   exact ⟨_, cap, [], rfl, RdL.zero, Own.nil, (fun e => by cases e), h3⟩
  ·
   refine ⟨_, cap, g :: G, rfl, ⟨hl, .inr ⟨g, 0, G, by omega, rfl, rfl, rdEls_of 0 hr (fun i hi => ?_)⟩⟩, ⟨?_, fun b hb o => ?_, fun b hb => ?_⟩, (fun e => by cases e), h3⟩
   ·
    rw [Nat.zero_add]; exact h.cellAt i (by rw [← h.1]; exact hi)
   ·
    exact List.nodup_cons.2 ⟨hd g rfl, hG.nodup⟩
   ·
    rcases List.mem_cons.1 hb with rfl | hb
    ·
     exact h.frozenAt o
    ·
     exact hG.free b hb o
   ·
    rcases List.mem_cons.1 hb with rfl | hb
    ·
     exact h1
    ·
     exact hG.ge b hb
end
end
section
open Go.RowKit
section
variable {P : Program} {ops : Array Oper} {Q : Exit → Act → World → Prop} {rest : List Oper} {a : Act} {w : World} {x y : Operand} {o : Oper} {S : World → Prop}
theorem run_loadVar_at (w : World) (g off n : Nat) (ty : TypeId) (cs : Array Value) (d : TypeDesc) (hc : ∀ j, j < n → w.cell? ⟨g, off + j, none⟩ = cs[j]?) (hn : cs.size = n) (hu : P.underlying ty = some d) (hd : (match d with | .struct _ | .array _ _ => true | _ => false) = true) (hi : (P.info? ty).map (·.size) = some n) :
 (loadVar ty ⟨g, off, none⟩).run P w = .ok (.agg cs) w := by
 have hlen : cs.toList.length = n := by rw [Array.length_toList, hn]
 have hl := run_loadCells_list (P := P) w ⟨g, off, none⟩ cs.toList (fun j v hv => by
     have hadd : (⟨g, off, none⟩ : Addr).add j = ⟨g, off + j, none⟩ := by unfold Addr.add; split <;> simp_all
     have hj : j < n := by rw [← hlen]; exact (List.getElem?_eq_some_iff.1 hv).1
     rw [hadd, hc j hj, ← hv, Array.getElem?_toList])
 rw [hlen] at hl
 cases hq : P.info? ty with
 | none => simp [hq] at hi
 | some i =>
  have hs : i.size = n := by simpa [hq] using hi
  have hagg : (isAgg ty).run P w = .ok true w := by
   unfold isAgg
   rw [Sem.run_bind, run_underlying hu w]
   cases d <;> simp_all
  simp only [loadVar, Sem.run_bind, hagg, sizeOf, typeInfo, Result.andThen_ok, if_true]
  simp [hq, hs, hl]
theorem load_at (ty : TypeId) (g off n : Nat) (cs : Array Value) (d : TypeDesc) (hc : ∀ j, j < n → w.cell? ⟨g, off + j, none⟩ = cs[j]?) (hn : cs.size = n) (hw : Region.wanted o (yielded ops a.tmps) = true) (ho : o.op = .load ty x) (hx : a.eval x = .pointer (some ⟨g, off, none⟩))
 (hu : P.underlying ty = some d) (hd : (match d with | .struct _ | .array _ _ => true | _ => false) = true) (hi : (P.info? ty).map (·.size) = some n)
 (h : wpList P ops Q rest (a.put o.dst (.agg cs)) w) : Stop (wpList P ops Q (o :: rest) a w) := by
 refine wpList_wanted hw fun K hK => ?_
 unfold Oper.wp execOp
 simp only [ho, hx, Instr.loadAt, Instr.sureAddr, Sem.run_bind, Sem.run_pure, Result.andThen_ok, run_loadVar_at w g off n ty cs d hc hn hu hd hi]
 exact hK _ _ h
theorem yields_at (ty : TypeId) (g off n : Nat) (cs : Array Value) (d : TypeDesc) (hw : Region.wanted o (yielded ops a.tmps) = true) (ho : o.op = .load ty x) (hx : a.eval x = .pointer (some ⟨g, off, none⟩)) (hu : P.underlying ty = some d) (hd : (match d with | .struct _ | .array _ _ => true | _ => false) = true)
 (hi : (P.info? ty).map (·.size) = some n) (hn : cs.size = n) (hS : ∀ W, S W → ∀ j, j < n → W.cell? ⟨g, off + j, none⟩ = cs[j]?) : YieldsIf P ops S o (.agg cs) a :=
 .inl ⟨hw, fun W hW => by
   unfold execOp
   simp only [ho, hx, Instr.loadAt, Instr.sureAddr, Sem.run_bind, Sem.run_pure, Result.andThen_ok, run_loadVar_at W g off n ty cs d (hS W hW) hn hu hd hi]⟩
end
end
section
open Go.RowKit
section
variable {α : Type} {K : ElK α}
theorem take_snoc_at {xs : List α} {k : Nat} {x : α} (h : xs[k]? = some x) : xs.take (k + 1) = xs.take k ++ [x] := by
 rw [List.take_add_one, h]; rfl
def sumOfL (f : α → Int) : List α → Int
 | [] => 0
 | x :: xs => f x + sumOfL f xs
theorem sumOfL_nonneg {f : α → Int} (hf : ∀ x, 0 ≤ f x) : ∀ xs : List α, 0 ≤ sumOfL f xs
 | [] => by simp [sumOfL]
 | x :: xs => by have := hf x; have := sumOfL_nonneg hf xs; simp only [sumOfL]; omega
theorem sumOfL_mem {f : α → Int} (hf : ∀ x, 0 ≤ f x) : ∀ (xs : List α) (x : α), x ∈ xs → f x ≤ sumOfL f xs
 | [], x, h => by cases h
 | y :: ys, x, h => by
  have h1 := hf y
  have h2 := sumOfL_nonneg hf ys
  rcases List.mem_cons.1 h with rfl | h
  ·
   simp only [sumOfL]; omega
  ·
   have := sumOfL_mem hf ys x h; simp only [sumOfL]; omega
theorem sumOfL_split {f : α → Int} : ∀ (xs ys : List α), sumOfL f (xs ++ ys) = sumOfL f xs + sumOfL f ys
 | [], ys => by simp [sumOfL]
 | x :: xs, ys => by simp only [List.cons_append, sumOfL, sumOfL_split xs ys]; omega
theorem sumOfL_le_take {f : α → Int} (hf : ∀ x, 0 ≤ f x) (xs : List α) (k : Nat) : sumOfL f (xs.take k) ≤ sumOfL f xs := by
 have h := sumOfL_split (f := f) (xs.take k) (xs.drop k)
 rw [List.take_append_drop] at h
 have := sumOfL_nonneg hf (xs.drop k)
 omega
end
end
section
open Go.RowKit
section
variable {α : Type} {K : ElK α} {e : TypeId} {xs : List α} {lo k : Nat} {v : Value} {vs : List Value} {G : List Nat} {W W' : World}
structure GrowL (K : ElK α) (e : TypeId) (xs : List α) (lo k : Nat) (v : Value) (vs : List Value) (G : List Nat) (W : World) : Prop where
 row : W.ownsRow lo e K.n v k vs
 rd : RdC K W (xs.take k) vs G
 og : Own lo W G
 ap : ∀ b, v.ownBlock = some b → b ∉ G
 lw : lo ≤ W.heap.size
theorem GrowL.start (hw : lo ≤ W.heap.size) : GrowL K e xs lo 0 (.slice none 0 0) [] [] W := ⟨World.ownsRow_nil _ _ _ _, by rw [List.take_zero]; exact RdC.nil, Own.nil, (fun b hb => by cases hb), hw⟩
theorem GrowL.below (h : GrowL K e xs lo k v vs G W) (b : Below W.heap.size W W') : GrowL K e xs lo k v vs G W' := by
 refine ⟨?_, h.rd.below b, h.og.below h.rd.lt b, h.ap, Nat.le_trans h.lw b.size⟩
 refine ⟨h.row.1, ?_⟩
 rcases h.row.2 with q | ⟨g, cap, cur, h1, h2, h3, h4⟩
 ·
  exact .inl q
 ·
  refine .inr ⟨g, cap, cur, h1, h2, ?_, h4⟩
  rw [b.block g (h.row.lt g (by rw [h1]; rfl)).2]
  exact h3
theorem GrowL.set {g j : Nat} {u : Value} (h : GrowL K e xs lo k v vs G W) (hg : g < lo) : GrowL K e xs lo k v vs G (W.setCell ⟨g, j, none⟩ u) := by
 have nG : g ∉ G := fun hx => by have := h.og.ge _ hx; omega
 refine ⟨⟨h.row.1, ?_⟩, h.rd.agree (.set nG _ _), h.og.agree (.set nG _ _), h.ap, by simpa using h.lw⟩
 rcases h.row.2 with q | ⟨g', cap, cur, h1, h2, h3, h4⟩
 ·
  exact .inl q
 ·
  exact .inr ⟨g', cap, cur, h1, h2, by rw [Below.heap_setCell W ⟨g, j, none⟩ u g' (by show g' ≠ g; omega)]; exact h3, h4⟩
theorem GrowL.setRow {g : Nat} {ds : Array Value} (h : GrowL K e xs lo k v vs G W) (hg : g < lo) : GrowL K e xs lo k v vs G (W.setRow g ds) := by
 have nG : g ∉ G := fun hx => by have := h.og.ge _ hx; omega
 refine ⟨⟨h.row.1, ?_⟩, h.rd.agree (Agree.row nG _), h.og.agree (Agree.row nG _), h.ap, ?_⟩
 ·
  rcases h.row.2 with q | ⟨g', cap, cur, h1, h2, h3, h4⟩
  ·
   exact .inl q
  ·
   exact .inr ⟨g', cap, cur, h1, h2, by rw [setRow_other W g g' ds (by omega)]; exact h3, h4⟩
 ·
  have := (below_setRow (Below.refl 0 W) (Nat.zero_le g) ds).size
  exact Nat.le_trans h.lw this
theorem GrowL.lts (h : GrowL K e xs lo k v vs G W) : (∀ b ∈ G, b < W.heap.size) ∧ (∀ b, v.ownBlock = some b → b < W.heap.size) ∧ lo ≤ W.heap.size := ⟨h.rd.lt, fun b hb => (h.row.lt b hb).2, h.lw⟩
theorem GrowL.step (h : GrowL K e xs lo k v vs G W) {x : α} {cs : Array Value} {Fk : List Nat} {L g4 cp4 : Nat} (hx : xs[k]? = some x) (rk : K.R W (.agg cs) x Fk) (hn : cs.size = K.n) (ok : Own L W Fk) (ltG : ∀ b ∈ G, b < L) (ltv : ∀ b, v.ownBlock = some b → b < L) (hL : lo ≤ L)
 (hown : W'.ownsRow lo e K.n (.slice (some ⟨g4, 0, none⟩) (k + 1) cp4) (k + 1) (vs ++ cs.toList)) (hgrow : W.grownBy W' v.ownBlock) (hat : v.ownBlock = some g4 ∨ g4 = W.heap.size) :
 GrowL K e xs lo (k + 1) (.slice (some ⟨g4, 0, none⟩) (k + 1) cp4) (vs ++ cs.toList) (G ++ Fk) W' := by
 have blk : ∀ b, b < W.heap.size → ¬ v.ownBlock = some b → W'.heap[b]? = W.heap[b]? := fun b hb hn => hgrow.block b hb (fun e => hn e.symm)
 have agG : Agree W W' G := fun b hb => blk b (h.rd.lt b hb) (fun e => h.ap b e hb)
 have agF : Agree W W' Fk := fun b hb => blk b (K.lt rk b hb) (fun e => by have := ok.ge b hb; have := ltv b e; omega)
 refine ⟨hown, ?_, ?_, ?_, Nat.le_trans h.lw hgrow.size⟩
 ·
  rw [take_snoc_at hx]
  exact (h.rd.agree agG).snoc (K.agree rk agF) hn
 ·
  exact (h.og.agree agG).join (ok.agree agF) ltG hL
 ·
  intro b hb hx
  have hb' : b = g4 := by simpa [Value.ownBlock] using hb.symm
  subst hb'
  rcases hat with q | q
  ·
   rcases List.mem_append.1 hx with hx | hx
   ·
    exact h.ap _ q hx
   ·
    have := ok.ge _ hx; have := ltv _ q; omega
  ·
   rcases List.mem_append.1 hx with hx | hx
   ·
    have := h.rd.lt _ hx; omega
   ·
    have := K.lt rk _ hx; omega
theorem GrowL.other (h : GrowL K e xs lo k v vs G W) (hgrow : W.grownBy W' v.ownBlock) {b : Nat} (hb : b < lo) : W'.heap[b]? = W.heap[b]? := hgrow.block b (Nat.lt_of_lt_of_le hb h.lw) (fun e => by have := (h.row.lt b e.symm).1; omega)
theorem GrowL.done (h : GrowL K e xs lo k v vs G W) (hk : xs.length = k) : ∃ a cap F, v = .slice a k cap ∧ RdL K W a k xs F ∧ Own lo W F ∧ Capd a k cap := by
 have rd := h.rd
 rw [List.take_of_length_le (Nat.le_of_eq hk)] at rd
 exact rdL_of_own h.row rd h.og h.ap
theorem GrowL.done2 (h : GrowL K e xs lo k v vs G W) (hk : xs.length = k) : ∃ a cap F, v = .slice a k cap ∧ RdL K W a k xs F ∧ Own lo W F ∧ Capd a k cap ∧ ∀ b ∈ F, v.ownBlock = some b ∨ b ∈ G := by
 have rd := h.rd
 rw [List.take_of_length_le (Nat.le_of_eq hk)] at rd
 have hr := h.row
 have hl : xs.length = k := hk
 rcases hr.2 with ⟨e1, e2⟩ | ⟨g, cap, cur, e1, h1, h2, h3, h4, h5, h6⟩
 ·
  subst e2
  obtain rfl : xs = [] := List.eq_nil_of_length_eq_zero hl
  exact ⟨_, 0, [], e1, RdL.nil, Own.nil, ⟨fun _ => rfl, Nat.le_refl _⟩, fun b hb => by cases hb⟩
 ·
  by_cases h0 : k = 0
  ·
   subst h0
   obtain rfl : xs = [] := List.eq_nil_of_length_eq_zero hl
   exact ⟨_, cap, [], e1, RdL.zero, Own.nil, ⟨fun e => (by cases e), h3⟩, fun b hb => by cases hb⟩
  ·
   subst e1
   refine ⟨_, cap, g :: G, rfl, ⟨hl, .inr ⟨g, 0, G, by omega, rfl, rfl, rdEls_of 0 rd (fun i hi => ?_)⟩⟩, ⟨?_, fun b hb o => ?_, fun b hb => ?_⟩, ⟨(fun e => by cases e), h3⟩, fun b hb => ?_⟩
   ·
    rw [Nat.zero_add]; exact hr.cellAt i (by rw [← hr.1]; exact hi)
   ·
    exact List.nodup_cons.2 ⟨h.ap g rfl, h.og.nodup⟩
   ·
    rcases List.mem_cons.1 hb with rfl | hb
    ·
     exact hr.frozenAt o
    ·
     exact h.og.free b hb o
   ·
    rcases List.mem_cons.1 hb with rfl | hb
    ·
     exact h1
    ·
     exact h.og.ge b hb
   ·
    rcases List.mem_cons.1 hb with rfl | hb
    ·
     exact .inl rfl
    ·
     exact .inr hb
end
theorem news_lit (w : World) (cs : Array Value) (t : TypeId) : ∀ j u, cs.toList[j]? = some u → (w.alloc (.cells cs t)).cell? ((⟨w.heap.size, 0, none⟩ : Addr).add j) = some u := by
 intro j u hu
 have ea : ((⟨w.heap.size, 0, none⟩ : Addr).add j) = ⟨w.heap.size, j, none⟩ := by simp [Addr.add]; try (intro h; omega)
 rw [ea, (Blk.made w cs t).cell j, ← Array.getElem?_toList]
 exact hu
end
section
open Go.RowKit Go.WideShapes Go.ChangeShapes Go.ChangeAt Go.Deep
end
section
set_option maxRecDepth 200000
set_option maxHeartbeats 16000000
open Go.RowKit Go.WideShapes Go.ChangeShapes Go.ChangeAt
def RdE (w : World) (v : Value) (x : En) (F : List Nat) : Prop := ∃ F1 F2, F = F1 ++ F2 ∧ RdEn w v x F1 F2
theorem RdE.agree {w w' : World} {v : Value} {x : En} {F : List Nat} (h : RdE w v x F) (ha : Agree w w' F) : RdE w' v x F := by
 obtain ⟨F1, F2, rfl, h⟩ := h
 exact ⟨F1, F2, rfl, h.agree (fun b hb => ha b (List.mem_append_left _ hb)) (fun b hb => ha b (List.mem_append_right _ hb))⟩
theorem RdE.lt {w : World} {v : Value} {x : En} {F : List Nat} (h : RdE w v x F) : ∀ b ∈ F, b < w.heap.size := by
 obtain ⟨F1, F2, rfl, h⟩ := h
 exact fun b hb => (List.mem_append.1 hb).elim (h.lt1 b) (h.lt2 b)
theorem RdE.below {w w' : World} {v : Value} {x : En} {F : List Nat} (h : RdE w v x F) (hb : Below w.heap.size w w') : RdE w' v x F := h.agree (.below hb h.lt)
theorem RdE.cells {w : World} {v : Value} {x : En} {F : List Nat} (h : RdE w v x F) : ∃ cs : Array Value, v = .agg cs ∧ cs.size = 10 ∧ cs.all (·.oneCell') = true := by
 obtain ⟨F1, F2, rfl, b, l, c, a1, n1, c1, a2, n2, c2, a3, n3, c3, rfl, _⟩ := h
 exact ⟨_, rfl, rfl, by simp [Value.oneCell']⟩
def En.fits (x : En) : Prop := x.sk.fits ∧ x.ids.length ≤ 1048576
def En.wide (x : En) : Prop := x.sk.wide ∧ x.ids.length ≤ 1048576
theorem En.fits.wide {x : En} (h : x.fits) : x.wide := ⟨h.1.wide, h.2⟩
theorem enSize {cs : Array Value} (h : cs.size = 10) : (Tryz.prog.info? 33).map (·.size) = some cs.size := by rw [h]; kernel_rfl
theorem entryOkE_any (v : Value) (x : En) (F : List Nat) (w : World) (h : RdE w v x F) (hw : x.wide) :
 Calls Tryz.prog 32 #[v] w fun e w' => e = .returned (.bool x.ok) ∧ Below w.heap.size w w' := by
 obtain ⟨F1, F2, rfl, h⟩ := h
 exact entryOkSpec_any v x F1 F2 w h hw.1 (by have := hw.2; omega)
end
section
open Go.RowKit
def enK : ElK En where
 n := 10
 R := RdE
 agree := fun h ha => RdE.agree h ha
 lt := fun h => RdE.lt h
 cells := fun h => RdE.cells h
 pos := by decide
def En.wt (x : En) : Int := (x.ids.length : Int) + x.sk.size
theorem En.wt_nonneg (x : En) : 0 ≤ x.wt := by unfold En.wt Sk.size; have := sumLen_nonneg x.sk.rows; omega
def ensSize (xs : List En) : Int := sumOfL (fun x => x.wt) xs
theorem ensSize_nonneg (xs : List En) : 0 ≤ ensSize xs := sumOfL_nonneg En.wt_nonneg xs
theorem ensSize_mem {xs : List En} {x : En} (h : x ∈ xs) : x.wt ≤ ensSize xs := sumOfL_mem En.wt_nonneg xs x h
theorem En.fits_wt {x : En} (h : x.wt ≤ 1048576) : x.fits := by
 have h0 := sumLen_nonneg x.sk.rows
 have h1 : 0 ≤ x.sk.size := by unfold Sk.size; omega
 unfold En.wt at h
 exact ⟨Sk.fits_of (by omega), by omega⟩
end
section
open Go.RowKit
structure Rw where
 list : List En
 deriving DecidableEq
def RdRw (w : World) (v : Value) (x : Rw) (F : List Nat) : Prop :=
 ∃ a n c, v = .agg #[.slice a n c] ∧ RdL enK w a n x.list F ∧ Capd a n c
theorem RdRw.agree {w w' : World} {v : Value} {x : Rw} {F : List Nat} (h : RdRw w v x F) (ha : Agree w w' F) : RdRw w' v x F := by
 obtain ⟨a, n, c, hv, h1, k1⟩ := h
 exact ⟨a, n, c, hv, h1.agree ha, k1⟩
theorem RdRw.lt {w : World} {v : Value} {x : Rw} {F : List Nat} (h : RdRw w v x F) : ∀ b ∈ F, b < w.heap.size := by
 obtain ⟨a, n, c, hv, h1, _⟩ := h
 exact h1.lt
theorem RdRw.below {w w' : World} {v : Value} {x : Rw} {F : List Nat} (h : RdRw w v x F) (hb : Below w.heap.size w w') : RdRw w' v x F := h.agree (.below hb h.lt)
theorem RdRw.cells {w : World} {v : Value} {x : Rw} {F : List Nat} (h : RdRw w v x F) : ∃ cs : Array Value, v = .agg cs ∧ cs.size = 1 ∧ cs.all (·.oneCell') = true := by
 obtain ⟨a, n, c, rfl, _⟩ := h
 exact ⟨_, rfl, rfl, by simp [Value.oneCell']⟩
def NewRw (w : World) (x : Rw) (e : Ending) (w' : World) : Prop := ∃ v F, e = .returned v ∧ RdRw w' v x F ∧ Own w.heap.size w' F ∧ Below w.heap.size w w'
theorem Rw.eq_of {x y : Rw} (h : x.list = y.list) : x = y := by
 cases x; cases y; simp_all
def Rw.size (x : Rw) : Int := (x.list.length : Int) + ensSize x.list
def Rw.fits (x : Rw) : Prop := x.size ≤ 1048576
def Rw.wide (x : Rw) : Prop := (∀ y ∈ x.list, y.wide) ∧ x.list.length ≤ 1048576
theorem Rw.fits.len {x : Rw} (h : x.fits) : x.list.length ≤ 1048576 := by
 have := ensSize_nonneg x.list
 unfold Rw.fits Rw.size at h
 omega
theorem Rw.fits.each {x : Rw} (h : x.fits) : ∀ y ∈ x.list, y.fits := fun y hy => by
 have := ensSize_mem hy
 unfold Rw.fits Rw.size at h
 exact En.fits_wt (by omega)
theorem Rw.fits.wide {x : Rw} (h : x.fits) : x.wide := ⟨fun y hy => (h.each y hy).wide, h.len⟩
end
section
open Go.RowKit
theorem step_call_quiet {P : Program} {ops : Array Oper} {o : Oper} {a : Act} {w : World} {K : Act → World → Prop} {Q : Exit → Act → World → Prop} {E : Prop} (hg : o.guard = none) (f : FuncId) (x y : Operand) (ts : Array TypeId)
 (fn : Func) (hfn : P.funcs[f]? = some fn) (hnm : (fn.name == "runtime.NumGoroutine") = false) (hbd : fn.body.isNone = false) (hop : o.op = Op.call { callee := Callee.value (Operand.func f), args := #[x, y], argTypes := ts }) (v : Value) (hc : Calls P f #[a.eval x, a.eval y] w fun e w' => e = .returned v ∧ w' = w) (hK : K (a.put o.dst v) w) :
 if Region.wanted o (yielded ops a.tmps) = true then Oper.wp P o a w K Q else E := by
 have hw : Region.wanted o (yielded ops a.tmps) = true := by simp [Region.wanted, hg]
 rw [if_pos hw]
 have hnm' : ¬ fn.name = "runtime.NumGoroutine" := by simpa using hnm
 have hbd' : ¬ fn.body = none := by intro e; rw [e] at hbd; cases hbd
 unfold Oper.wp
 simp only [execOp, hop, resolve, invoke, Oper.upon, go_sem]
 simp [callFunc, hfn, hnm', hbd', go_sem]
 simp [Act.eval, go_sem] at hc
 simp [Act.put] at hK
 exact Calls.mono hc (by rintro e w1 ⟨rfl, rfl⟩; exact hK)
end
end Go.Proofs.YtjnamoppcklomaaGreat
