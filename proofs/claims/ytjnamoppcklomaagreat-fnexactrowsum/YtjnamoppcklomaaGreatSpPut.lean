/- The walks through the model's putting of a span into a set, and what is made of it. No statement of the seat is proved here. -/
import Derived.Test.YtjnamoppcklomaaGreatSpModel3
import Derived.Laws.CopyOwn
import Derived.OrdersHeld
namespace Go.Proofs.YtjnamoppcklomaaGreat
open Go.RowKit
section
variable {P : Program} {ops : Array Oper} {Q : Exit → Act → World → Prop} {rest : List Oper} {a : Act} {w : World} {x y : Operand} {o : Oper}
theorem stopAppend2 {ts : Array TypeId} (_ho : o.op = .call { callee := .builtin .append, args := #[x, y], argTypes := ts }) (h : Stop (wpList P ops Q (o :: rest) a w)) : wpList P ops Q (o :: rest) a w := h
end
theorem rdP_of_own {w : World} {B e n : Nat} {v : Value} {ps : Sp} (h : w.ownsRow B e 2 v n ((flat ps).map (Value.int .i64))) : ∃ a cap F, v = .slice a n cap ∧ RdP w a n ps F ∧ Own B w F ∧ Capd a n cap := by
  rcases h.2 with ⟨h1, h2⟩ | ⟨g, cap, cur, h1, _, _, hcap, _⟩
  · subst h2
    have hl : (flat ps).length = 0 := by simpa using h.1
    rw [flat_length] at hl
    obtain rfl : ps = [] := List.eq_nil_of_length_eq_zero (by omega)
    exact ⟨none, 0, [], h1, RdP.nil, Own.nil, fun _ => rfl, Nat.le_refl _⟩
  · subst h1
    obtain ⟨F, hr, ho, _⟩ := RdP.of_own h
    exact ⟨_, cap, F, rfl, hr, ho, (fun e => by cases e), hcap⟩
theorem own_mono {w : World} {B B' e size n : Nat} {v : Value} {xs : List Value} (h : w.ownsRow B e size v n xs) (hB : B' ≤ B) : w.ownsRow B' e size v n xs := by
  refine ⟨h.1, ?_⟩
  rcases h.2 with e | ⟨g, cap, cur, h1, h2, h3⟩
  · exact .inl e
  · exact .inr ⟨g, cap, cur, h1, Nat.le_trans hB h2, h3⟩
theorem own_empty2 (w : World) (e : TypeId) : (w.alloc (.cells #[] e)).ownsRow w.heap.size e 2 (.slice (some ⟨w.heap.size, 0, none⟩) 0 0) 0 [] :=
  ⟨rfl, .inr ⟨w.heap.size, 0, #[], rfl, Nat.le_refl _, Blk.made w #[] e, Nat.le_refl _, by simp, rfl, rfl⟩⟩
theorem cell_new2 (w : World) (u v : Value) (t : TypeId) : ∀ (j : Nat) (x : Value), [u, v][j]? = some x → (w.alloc (.cells #[u, v] t)).cell? ((⟨w.heap.size, 0, none⟩ : Addr).add j) = some x := by
  intro j x hx
  match j, hx with
  | 0, hx =>
    obtain rfl : u = x := by simpa using hx
    simp [Addr.add]
  | 1, hx =>
    obtain rfl : v = x := by simpa using hx
    simp [Addr.add]
  | j + 2, hx => simp at hx
/-- What is put behind what has come: the rest of the set, the span, whether it has been put. -/
def put : Sp → Int × Int → Bool → Sp
  | [], x, d => if d then [] else [x]
  | p :: ps, x, d => if p.2 + 1 < x.1 then p :: put ps x d else if x.2 + 1 < p.1 then (if d then [] else [x]) ++ p :: put ps x true else put ps (min x.1 p.1, max x.2 p.2) d
/-- All numbers are in bounds. -/
def InB (p : Int × Int) : Prop := (0 ≤ p.1 ∧ p.1 ≤ 9999) ∧ 0 ≤ p.2 ∧ p.2 ≤ 9999
theorem drop_at {ps : Sp} {k : Nat} (hk : k < ps.length) : ps.drop k = ps.at k :: ps.drop (k + 1) := by
  unfold Sp.at
  rw [List.drop_eq_getElem_cons hk, List.getElem?_eq_getElem hk]
  rfl
theorem put_a {ps : Sp} {k : Nat} {x : Int × Int} {d : Bool} (hk : k < ps.length) (h : (ps.at k).2 + 1 < x.1) : put (ps.drop k) x d = ps.at k :: put (ps.drop (k + 1)) x d := by rw [drop_at hk, put, if_pos h]
theorem put_b {ps : Sp} {k : Nat} {x : Int × Int} {d : Bool} (hk : k < ps.length) (h : ¬ (ps.at k).2 + 1 < x.1) (h2 : x.2 + 1 < (ps.at k).1) : put (ps.drop k) x d = (if d then [] else [x]) ++ ps.at k :: put (ps.drop (k + 1)) x true := by rw [drop_at hk, put, if_neg h, if_pos h2]
theorem put_c {ps : Sp} {k : Nat} {x : Int × Int} {d : Bool} (hk : k < ps.length) (h : ¬ (ps.at k).2 + 1 < x.1) (h2 : ¬ x.2 + 1 < (ps.at k).1) : put (ps.drop k) x d = put (ps.drop (k + 1)) (min x.1 (ps.at k).1, max x.2 (ps.at k).2) d := by rw [drop_at hk, put, if_neg h, if_neg h2]
theorem put_length : ∀ (ps : Sp) (x : Int × Int) (d : Bool), (put ps x d).length ≤ ps.length + 1
  | [], x, d => by cases d <;> simp [put]
  | p :: ps, x, d => by
    rw [put]
    split
    · have := put_length ps x d; simp; omega
    · split
      · cases d
        · have := put_true ps x; simp; omega
        · have := put_length ps x true; simp; omega
      · have := put_length ps (min x.1 p.1, max x.2 p.2) d; simp; omega
where put_true : ∀ (ps : Sp) (x : Int × Int), (put ps x true).length ≤ ps.length
  | [], x => by simp [put]
  | p :: ps, x => by
    rw [put]
    split
    · have := put_true ps x; simp; omega
    · split
      · have := put_true ps x; simp; omega
      · have := put_true ps (min x.1 p.1, max x.2 p.2); simp; omega
/-- Where the putting is: what has come, the span's box. -/
structure PutAt (w : World) (v : Value) (o : Sp) (x : Int × Int) (W : World) : Prop where
  own : W.ownsRow (w.heap.size + 1) 74 2 v o.length ((flat o).map (Value.int .i64))
  box : Blk W w.heap.size #[.int .i64 x.1, .int .i64 x.2] 74
  bel : Below w.heap.size w W
theorem PutAt.app {w W W6 : World} {v v' : Value} {o : Sp} {x : Int × Int} {p q : Int} (h : PutAt w v o x W) (hown : W6.ownsRow (w.heap.size + 1) 74 2 v' (o.length + 1) ((flat o).map (Value.int .i64) ++ [.int .i64 p, .int .i64 q])) (hgrow : (W.alloc (.cells #[.int .i64 p, .int .i64 q] 74)).grownBy W6 v.ownBlock) : PutAt w v' (o ++ [(p, q)]) x W6 := by
  have hne : ∀ k, v.ownBlock = some k → w.heap.size + 1 ≤ k := fun k hk => (h.own.lt k hk).1
  have hb : Below w.heap.size w (W.alloc (.cells #[.int .i64 p, .int .i64 q] 74)) := Below.allocW _ h.bel (Nat.le_refl _)
  refine ⟨?_, ?_, ?_⟩
  · rw [flat_append, List.map_append, List.length_append]
    exact hown
  · exact (h.box.alloc _).agree (hgrow.block _ (h.box.alloc _).lt (fun e => by have := hne _ e.symm; omega))
  · exact hb.grown hgrow hb.size (fun k hk => by have := hne k hk; omega)
theorem PutAt.drewN {w W : World} {v : Value} {o : Sp} {x : Int × Int} (h : PutAt w v o x W) (m : Nat) : PutAt w v o x (W.drewN m) := ⟨⟨h.own.1, h.own.2⟩, h.box, ⟨h.bel.os, h.bel.tape, h.bel.output, h.bel.size, h.bel.block⟩⟩
/-- A span lies in memory. -/
def SpanAt (b c : Nat) (p q : Int) (W : World) : Prop := W.cell? ⟨b, c, none⟩ = some (.int .i64 p) ∧ W.cell? ⟨b, c + 1, none⟩ = some (.int .i64 q)
theorem SpanAt.setRow {b c g : Nat} {p q : Int} {W : World} {cs : Array Value} (h : SpanAt b c p q W) (hn : b ≠ g) : SpanAt b c p q (W.setRow g cs) :=
  ⟨(World.cell?_of_block (w := W) (a := ⟨b, c, none⟩) (setRow_other W g b cs hn)).trans h.1, (World.cell?_of_block (w := W) (a := ⟨b, c + 1, none⟩) (setRow_other W g b cs hn)).trans h.2⟩
theorem PutAt.setBox {w W : World} {v : Value} {o : Sp} {x z : Int × Int} (h : PutAt w v o x W) : PutAt w v o z (W.setRow w.heap.size #[.int .i64 z.1, .int .i64 z.2]) := by
  refine ⟨⟨h.own.1, ?_⟩, h.box.setRow, below_setRow h.bel (Nat.le_refl _) _⟩
  rcases h.own.2 with e | ⟨g, cap, cur, h1, h2, h3, h4⟩
  · exact .inl e
  · exact .inr ⟨g, cap, cur, h1, h2, (setRow_other W _ g _ (by omega)).trans h3, h4⟩
set_option maxRecDepth 100000 in
set_option maxHeartbeats 8000000 in
theorem l5Put_own (a : Option Addr) (len cap : Nat) (ps : Sp) (x0 : Int × Int) (F : List Nat) (w : World) (h : RdP w a len ps F) (hlen : len ≤ 2097152) (hin : ∀ k, k < len → InB (ps.at k)) (hx : InB x0) :
    Calls Tryz.prog 109 #[.slice a len cap, .agg #[.int .i64 x0.1, .int .i64 x0.2]] w fun e w' => ∃ v, e = .returned v ∧ w'.ownsRow w.heap.size 74 2 v (put ps x0 false).length ((flat (put ps x0 false)).map (Value.int .i64)) ∧ Below w.heap.size w w' := by
  obtain ⟨t0, hi, hz0, hz1, hz2⟩ := info_parts infoSpan
  have HL : Hid (ps.length = len) := h.length
  have HIN : Hid ((∀ k, k < len → InB (ps.at k)) ∧ InB x0) := ⟨hin, hx⟩
  have HP0 : Hid (PutAt w (.slice (some ⟨w.heap.size + 1, 0, none⟩) 0 0) [] x0 ((w.alloc (.cells #[.int .i64 x0.1, .int .i64 x0.2] 74)).alloc (.cells #[] 74))) := by
    have e := own_empty2 (w.alloc (.cells #[.int .i64 x0.1, .int .i64 x0.2] 74)) 74
    simp only [World.size_alloc] at e
    exact ⟨e, (Blk.made _ _ _).alloc _, Below.allocW _ (Below.allocW _ (Below.refl _ _) (Nat.le_refl _)) (Nat.le_refl _)⟩
  have HC : Hid (len = 0 ∨ ∃ b off, a = some ⟨b, off, none⟩ ∧ b < w.heap.size ∧ SpCells w b off len ps) := by
    rcases h.cells with ⟨h0, _⟩ | ⟨b, off, hp, e, _, hc⟩
    · exact .inl h0
    · exact .inr ⟨b, off, e, World.block_lt_of_cell? _ _ (hc 0 hp).1, hc⟩
  clear h hin hx
  obtain ⟨xa, xb⟩ := x0
  go_enter Tryz.func109, Tryz.ntmps109
  go_wp2
  go_loopw [5, 6, 7] (fun v d i wr => ∃ (k : Nat) (o : Sp) (x : Int × Int) (f : Bool), k ≤ len ∧ i = .int .i64 k ∧ d = .bool f ∧ o.length ≤ k + 1 ∧ Hid (PutAt w v o x wr) ∧ Hid (InB x) ∧ Hid (o ++ put (ps.drop k) x f = put ps (xa, xb) false) ∧ Hid (f = false → o.length ≤ k)) (fun _ _ i _ => len - (intOf i).toNat)
  case atStart => exact ⟨0, [], (xa, xb), false, by omega, rfl, rfl, by simp, HP0, HIN.out.2, rfl, fun _ => by simp⟩
  case round =>
    clear HP0
    obtain ⟨k, o, ⟨x, y⟩, f, hk, rfl, rfl, hol, HP, HX, HN, HF⟩ := hrel
    obtain ⟨⟨x0, x1⟩, y0, y1⟩ := HX.out
    by_cases hlt : k < len
    · have hca := HC.out
      rcases hca with h0 | ⟨b, off, rfl, hbw, hc⟩
      · omega
      obtain ⟨p, hp⟩ : ∃ x, x = (ps.at k).1 := ⟨_, rfl⟩
      obtain ⟨q, hq⟩ : ∃ x, x = (ps.at k).2 := ⟨_, rfl⟩
      have e := hc k hlt
      have hb := HIN.out.1 k hlt
      have HPQ : Hid (ps.at k = (p, q)) := by rw [hp, hq]; rfl
      rw [HPQ.out] at hb e
      obtain ⟨⟨p0, p1⟩, q0, q1⟩ := hb
      have d1 : wr.cell? ⟨b, off + k * 2, none⟩ = some (.int .i64 p) := (HP.out.bel.cell (by exact hbw)).trans e.1
      have d2 : wr.cell? ⟨b, off + k * 2 + 1, none⟩ = some (.int .i64 q) := (HP.out.bel.cell (by exact hbw)).trans e.2
      have b1 : wr.cell? ⟨w.heap.size, 0, none⟩ = some (.int .i64 x) := by rw [HP.out.box.cell]; rfl
      have b2 : wr.cell? ⟨w.heap.size, 1, none⟩ = some (.int .i64 y) := by rw [HP.out.box.cell]; rfl
      have hI : (k : Int) < (len : Int) := by omega
      have hkl : k < ps.length := by rw [HL.out]; exact hlt
      clear e hp hq hc
      by_cases c1 : q + 1 < x
      · have c1d : decide (q + 1 < x) = true := decT c1
        have HN2 : Hid (o ++ [(p, q)] ++ put (ps.drop (k + 1)) (x, y) f = put ps (xa, xb) false) := by
          rw [put_a hkl (by rw [HPQ.out]; exact c1), HPQ.out] at HN
          show _ = _
          rw [← HN.out]; simp
        go_wp2
        go_quiet (fail)
        have HP1 : Hid (PutAt w u5 o (x, y) (wr.drewN nq)) := HP.out.drewN nq
        go_wp2_with (first | go_skip | (with_reducible refine stopAppend2 rfl ?_))
        refine Stop.intro (wpList_append_own _ rfl _ _ 27 rfl (w.heap.size + 1) 74 t0 (.agg #[.int .i64 0, .int .i64 0]) 2 16 Tryz.underlying27 hi hz0 hz1 hz2 rfl (by decide) _ (o).length ((flat (o)).map (Value.int .i64)) rfl (HP1.out.own.alloc _) ⟨(wr.drewN nq).heap.size, 0, none⟩ 1 1 [.int .i64 p, .int .i64 q] rfl rfl (cell_new2 _ _ _ _) (by intro u hu; simp at hu; rcases hu with rfl | rfl <;> rfl) (by unfold maxLen; omega) (by omega) (by have := HP1.out.box.lt; simp at this ⊢; omega) ?_)
        intro v2 w2 hown hgrow _
        have HP2 : Hid (PutAt w v2 (o ++ [(p, q)]) (x, y) w2) := HP1.out.app hown hgrow
        have HF2 : Hid (f = false → (o ++ [(p, q)]).length ≤ k + 1) := fun e => by have := HF.out e; simp; omega
        clear hown hgrow HP1
        go_wp2
        go_roundw
        case rel => exact ⟨k + 1, o ++ [(p, q)], (x, y), f, by omega, by go_num, rfl, by simp; omega, HP2, HX, HN2, HF2⟩
        case measure => simp [intOf]; omega
      have c1d : decide (q + 1 < x) = false := decF c1
      by_cases c2 : y + 1 < p
      · have c2d : decide (y + 1 < p) = true := decT c2
        cases f
        · have hol2 : o.length ≤ k := HF.out rfl
          have HN2 : Hid (o ++ [(x, y)] ++ [(p, q)] ++ put (ps.drop (k + 1)) (x, y) true = put ps (xa, xb) false) := by
            rw [put_b hkl (by rw [HPQ.out]; exact c1) (by rw [HPQ.out]; exact c2), HPQ.out] at HN
            show _ = _
            rw [← HN.out]; simp
          go_wp2
          go_quiet (fail)
          obtain ⟨wq, hwq⟩ : ∃ W, W = wr.drewN nq := ⟨_, rfl⟩
          have HPq : Hid (PutAt w u5 o (x, y) wq) := by rw [hwq]; exact HP.out.drewN nq
          have d1 : wq.cell? ⟨b, off + k * 2, none⟩ = some (.int .i64 p) := by rw [hwq]; exact d1
          have d2 : wq.cell? ⟨b, off + k * 2 + 1, none⟩ = some (.int .i64 q) := by rw [hwq]; exact d2
          have b1 : wq.cell? ⟨w.heap.size, 0, none⟩ = some (.int .i64 x) := by rw [hwq]; exact b1
          have b2 : wq.cell? ⟨w.heap.size, 1, none⟩ = some (.int .i64 y) := by rw [hwq]; exact b2
          rw [← hwq]
          clear HP hwq
          go_wp2
          go_quiet (fail)
          have HP1 : Hid (PutAt w u5 o (x, y) (wq.drewN nq)) := HPq.out.drewN nq
          go_wp2_with (first | go_skip | (with_reducible refine stopAppend2 rfl ?_))
          refine Stop.intro (wpList_append_own _ rfl _ _ 27 rfl (w.heap.size + 1) 74 t0 (.agg #[.int .i64 0, .int .i64 0]) 2 16 Tryz.underlying27 hi hz0 hz1 hz2 rfl (by decide) _ (o).length ((flat (o)).map (Value.int .i64)) rfl (HP1.out.own.alloc _) ⟨(wq.drewN nq).heap.size, 0, none⟩ 1 1 [.int .i64 x, .int .i64 y] rfl rfl (cell_new2 _ _ _ _) (by intro u hu; simp at hu; rcases hu with rfl | rfl <;> rfl) (by unfold maxLen; omega) (by omega) (by have := HP1.out.box.lt; simp at this ⊢; omega) ?_)
          intro v2 w2 hown hgrow _
          have HP2 : Hid (PutAt w v2 (o ++ [(x, y)]) (x, y) w2) := HP1.out.app hown hgrow
          have hl2 : (o ++ [(x, y)]).length = o.length + 1 := by simp
          have d1 : w2.cell? ⟨b, off + k * 2, none⟩ = some (.int .i64 p) := ((HP2.out.bel.cell (by exact hbw)).trans ((HPq.out.bel.cell (by exact hbw)).symm.trans d1))
          have d2 : w2.cell? ⟨b, off + k * 2 + 1, none⟩ = some (.int .i64 q) := ((HP2.out.bel.cell (by exact hbw)).trans ((HPq.out.bel.cell (by exact hbw)).symm.trans d2))
          obtain ⟨o2, ho2⟩ : ∃ o2, o2 = o ++ [(x, y)] := ⟨_, rfl⟩
          rw [← ho2] at HP2 hl2 HN2
          clear hown hgrow HP1 b1 b2 HPq
          go_wp2_with (first | go_skip | (with_reducible refine stopAppend2 rfl ?_))
          refine Stop.intro (wpList_append_own _ rfl _ _ 27 rfl (w.heap.size + 1) 74 t0 (.agg #[.int .i64 0, .int .i64 0]) 2 16 Tryz.underlying27 hi hz0 hz1 hz2 rfl (by decide) _ (o2).length ((flat (o2)).map (Value.int .i64)) rfl (HP2.out.own.alloc _) ⟨w2.heap.size, 0, none⟩ 1 1 [.int .i64 p, .int .i64 q] rfl rfl (cell_new2 _ _ _ _) (by intro u hu; simp at hu; rcases hu with rfl | rfl <;> rfl) (by unfold maxLen; omega) (by omega) (by have := HP2.out.box.lt; simp at this ⊢; omega) ?_)
          intro v3 w3 hown hgrow _
          have HP3 : Hid (PutAt w v3 (o2 ++ [(p, q)]) (x, y) w3) := HP2.out.app hown hgrow
          clear hown hgrow HP2
          go_wp2
          go_roundw
          case rel => exact ⟨k + 1, o2 ++ [(p, q)], (x, y), true, by omega, by go_num, rfl, by simp; omega, HP3, HX, HN2, fun e => by cases e⟩
          case measure => simp [intOf]; omega
        · have HN2 : Hid (o ++ [(p, q)] ++ put (ps.drop (k + 1)) (x, y) true = put ps (xa, xb) false) := by
            rw [put_b hkl (by rw [HPQ.out]; exact c1) (by rw [HPQ.out]; exact c2), HPQ.out] at HN
            show _ = _
            rw [← HN.out]; simp
          go_wp2
          go_quiet (fail)
          obtain ⟨wq, hwq⟩ : ∃ W, W = wr.drewN nq := ⟨_, rfl⟩
          have HPq : Hid (PutAt w u5 o (x, y) wq) := by rw [hwq]; exact HP.out.drewN nq
          have d1 : wq.cell? ⟨b, off + k * 2, none⟩ = some (.int .i64 p) := by rw [hwq]; exact d1
          have d2 : wq.cell? ⟨b, off + k * 2 + 1, none⟩ = some (.int .i64 q) := by rw [hwq]; exact d2
          have b1 : wq.cell? ⟨w.heap.size, 0, none⟩ = some (.int .i64 x) := by rw [hwq]; exact b1
          have b2 : wq.cell? ⟨w.heap.size, 1, none⟩ = some (.int .i64 y) := by rw [hwq]; exact b2
          rw [← hwq]
          clear HP hwq
          go_wp2
          go_quiet (fail)
          have HP1 : Hid (PutAt w u5 o (x, y) (wq.drewN nq)) := HPq.out.drewN nq
          go_wp2_with (first | go_skip | (with_reducible refine stopAppend2 rfl ?_))
          refine Stop.intro (wpList_append_own _ rfl _ _ 27 rfl (w.heap.size + 1) 74 t0 (.agg #[.int .i64 0, .int .i64 0]) 2 16 Tryz.underlying27 hi hz0 hz1 hz2 rfl (by decide) _ (o).length ((flat (o)).map (Value.int .i64)) rfl (HP1.out.own.alloc _) ⟨(wq.drewN nq).heap.size, 0, none⟩ 1 1 [.int .i64 p, .int .i64 q] rfl rfl (cell_new2 _ _ _ _) (by intro u hu; simp at hu; rcases hu with rfl | rfl <;> rfl) (by unfold maxLen; omega) (by omega) (by have := HP1.out.box.lt; simp at this ⊢; omega) ?_)
          intro v2 w2 hown hgrow _
          have HP2 : Hid (PutAt w v2 (o ++ [(p, q)]) (x, y) w2) := HP1.out.app hown hgrow
          clear hown hgrow HP1
          go_wp2
          go_roundw
          case rel => exact ⟨k + 1, o ++ [(p, q)], (x, y), true, by omega, by go_num, rfl, by simp; omega, HP2, HX, HN2, fun e => by cases e⟩
          case measure => simp [intOf]; omega
      have c2d : decide (y + 1 < p) = false := decF c2
      have HN2 : Hid (o ++ put (ps.drop (k + 1)) (min x p, max y q) f = put ps (xa, xb) false) := by
        rw [put_c hkl (by rw [HPQ.out]; exact c1) (by rw [HPQ.out]; exact c2), HPQ.out] at HN
        exact HN
      have HX2 : Hid (InB (min x p, max y q)) := by show InB _; unfold InB; simp only; omega
      go_wp2
      go_quiet (fail)
      obtain ⟨wq, hwq⟩ : ∃ W, W = wr.drewN nq := ⟨_, rfl⟩
      have HPq : Hid (PutAt w u5 o (x, y) wq) := by rw [hwq]; exact HP.out.drewN nq
      have d1 : wq.cell? ⟨b, off + k * 2, none⟩ = some (.int .i64 p) := by rw [hwq]; exact d1
      have d2 : wq.cell? ⟨b, off + k * 2 + 1, none⟩ = some (.int .i64 q) := by rw [hwq]; exact d2
      have b1 : wq.cell? ⟨w.heap.size, 0, none⟩ = some (.int .i64 x) := by rw [hwq]; exact b1
      have b2 : wq.cell? ⟨w.heap.size, 1, none⟩ = some (.int .i64 y) := by rw [hwq]; exact b2
      rw [← hwq]
      clear HP hwq
      go_wp2
      go_quiet (fail)
      have HP1 : Hid (PutAt w u5 o (x, y) (wq.drewN nq).drew) := (HPq.out.drewN nq).drewN 1
      have HS : Hid (((wq.drewN nq).drew.cell? ⟨w.heap.size, 0, none⟩ = some (.int .i64 x) ∧ (wq.drewN nq).drew.cell? ⟨w.heap.size, 1, none⟩ = some (.int .i64 y)) ∧ SpanAt b (off + k * 2) p q (wq.drewN nq).drew) := ⟨⟨b1, b2⟩, d1, d2⟩
      clear d1 d2 b1 b2 HPq
      go_wp2
      refine wp_region_held (S := SpanAt b (off + k * 2) p q) (by kernel_rfl) ?_
      change wpAnyH _ _ _ _ _ _ _ _ (World.drew _)
      refine takeH (o := ?o1) 0 (.pointer (some ⟨w.heap.size, 0, none⟩)) ?h1 ?r1
      case h1 => simp only [aT, aZ]; rfl
      refine ⟨_, by simp [Act.put]; rfl, by kernel_rfl, by kernel_rfl, by kernel_rfl, fun _ _ _ h => h, (.inl ⟨rfl, fun W _ => by go_simp⟩), HS.out.2, ?_⟩
      refine takeH (o := ?o2) 2 (.slice (some ⟨b, off, none⟩) len cap) ?h2 ?r2
      case h2 => simp only [aT, aS, aZ]; rfl
      refine ⟨_, by simp [Act.put]; rfl, by kernel_rfl, by kernel_rfl, by kernel_rfl, fun _ _ _ h => h, (.inl ⟨rfl, fun W _ => by go_simp⟩), HS.out.2, ?_⟩
      refine takeH (o := ?o3) 3 (.int .i64 k) ?h3 ?r3
      case h3 => simp only [aT, aS, aZ]; rfl
      refine ⟨_, by simp [Act.put]; rfl, by kernel_rfl, by kernel_rfl, by kernel_rfl, fun _ _ _ h => h, (.inl ⟨rfl, fun W _ => by go_simp⟩), HS.out.2, ?_⟩
      refine takeH (o := ?o4) 4 (.pointer (some ⟨b, off + k * 2, none⟩)) ?h4 ?r4
      case h4 => simp only [aT, aS, aZ]; rfl
      refine ⟨_, by simp [Act.put]; rfl, by kernel_rfl, by kernel_rfl, by kernel_rfl, fun _ _ _ h => h, (.inl ⟨rfl, fun W _ => by go_simp⟩), HS.out.2, ?_⟩
      refine takeH (o := ?o5) 5 (.pointer (some ⟨b, off + k * 2, none⟩)) ?h5 ?r5
      case h5 => simp only [aT, aS, aZ]; rfl
      refine ⟨_, by simp [Act.put]; rfl, by kernel_rfl, by kernel_rfl, by kernel_rfl, fun _ _ _ h => h, (.inl ⟨rfl, fun W _ => by go_simp⟩), HS.out.2, ?_⟩
      refine takeH (o := ?o6) 6 (.int .i64 p) ?h6 ?r6
      case h6 => simp only [aT, aS, aZ]; rfl
      refine ⟨_, by simp [Act.put]; rfl, by kernel_rfl, by kernel_rfl, by kernel_rfl, fun _ _ _ h => h, (.inl ⟨rfl, fun W hW => by have c := hW.1; go_simp⟩), HS.out.2, ?_⟩
      refine takeH (o := ?o7) 8 (.pointer (some ⟨w.heap.size, 1, none⟩)) ?h7 ?r7
      case h7 => simp only [aT, aS, aZ]; rfl
      refine ⟨_, by simp [Act.put]; rfl, by kernel_rfl, by kernel_rfl, by kernel_rfl, fun _ _ _ h => h, (.inl ⟨rfl, fun W _ => by go_simp⟩), HS.out.2, ?_⟩
      refine takeH (o := ?o8) 10 (.slice (some ⟨b, off, none⟩) len cap) ?h8 ?r8
      case h8 => simp only [aT, aS, aZ]; rfl
      refine ⟨_, by simp [Act.put]; rfl, by kernel_rfl, by kernel_rfl, by kernel_rfl, fun _ _ _ h => h, (.inl ⟨rfl, fun W _ => by go_simp⟩), HS.out.2, ?_⟩
      refine takeH (o := ?o9) 11 (.int .i64 k) ?h9 ?r9
      case h9 => simp only [aT, aS, aZ]; rfl
      refine ⟨_, by simp [Act.put]; rfl, by kernel_rfl, by kernel_rfl, by kernel_rfl, fun _ _ _ h => h, (.inl ⟨rfl, fun W _ => by go_simp⟩), HS.out.2, ?_⟩
      refine takeH (o := ?o10) 12 (.pointer (some ⟨b, off + k * 2, none⟩)) ?h10 ?r10
      case h10 => simp only [aT, aS, aZ]; rfl
      refine ⟨_, by simp [Act.put]; rfl, by kernel_rfl, by kernel_rfl, by kernel_rfl, fun _ _ _ h => h, (.inl ⟨rfl, fun W _ => by go_simp⟩), HS.out.2, ?_⟩
      refine takeH (o := ?o11) 13 (.pointer (some ⟨b, off + k * 2 + 1, none⟩)) ?h11 ?r11
      case h11 => simp only [aT, aS, aZ]; rfl
      refine ⟨_, by simp [Act.put]; rfl, by kernel_rfl, by kernel_rfl, by kernel_rfl, fun _ _ _ h => h, (.inl ⟨rfl, fun W _ => by go_simp⟩), HS.out.2, ?_⟩
      refine takeH (o := ?o12) 14 (.int .i64 q) ?h12 ?r12
      case h12 => simp only [aT, aS, aZ]; rfl
      refine ⟨_, by simp [Act.put]; rfl, by kernel_rfl, by kernel_rfl, by kernel_rfl, fun _ _ _ h => h, (.inl ⟨rfl, fun W hW => by have c := hW.2; go_simp⟩), HS.out.2, ?_⟩
      refine twoH (o := ?o13) (o' := ?p13) 1 9 (by kernel_rfl) ?h13 ?g13 ?r13 ?s13
      case h13 => simp only [aT, aS, aZ]; rfl
      case g13 => simp only [aT, aS, aZ]; rfl
      case r13 =>
        intro K hK
        refine op_value (.int .i64 x) rfl (by have c : wq.cell? ⟨w.heap.size, 0, none⟩ = some (.int .i64 x) := HS.out.1.1; go_simp) ⟨_, by simp [Act.put]; rfl, hK _ _ ⟨HS.out.2, ?_⟩⟩
        clear hK
        refine twoH (o := ?o14) (o' := ?p14) 7 9 (by kernel_rfl) ?h14 ?g14 ?r14 ?s14
        case h14 => simp only [aT, aS, aZ]; rfl
        case g14 => simp only [aT, aS, aZ]; rfl
        case r14 =>
          intro K hK
          refine op_call2 111 _ _ _ Tryz.f111 (fun w' => w' = (wq.drewN nq).drew) (.int .i64 (min x p)) rfl rfl Tryz.func111 (by kernel_rfl) (by kernel_rfl) (l1Min_any x p _) ⟨_, by simp [Act.put]; rfl, ?_⟩
          intro wc hwc
          subst hwc
          refine hK _ _ ⟨HS.out.2, ?_⟩
          clear hK
          refine onlyH (o := ?o15) 9 (by kernel_rfl) ?h15 ?r15
          case h15 => simp only [aT, aS, aZ]; rfl
          intro K hK
          refine op_value (.int .i64 y) rfl (by have c : wq.cell? ⟨w.heap.size, 1, none⟩ = some (.int .i64 y) := HS.out.1.2; go_simp) ⟨_, by simp [Act.put]; rfl, hK _ _ ⟨HS.out.2, ?_⟩⟩
          clear hK
          refine onlyH (o := ?o16) 15 (by kernel_rfl) ?h16 ?r16
          case h16 => simp only [aT, aS, aZ]; rfl
          intro K hK
          refine op_call2 112 _ _ _ Tryz.f112 (fun w' => w' = (wq.drewN nq).drew) (.int .i64 (max y q)) rfl rfl Tryz.func112 (by kernel_rfl) (by kernel_rfl) (l1Max_any y q _) ⟨_, by simp [Act.put]; rfl, ?_⟩
          intro wc hwc
          subst hwc
          refine hK _ _ ⟨HS.out.2, ?_⟩
          clear hK
          refine takeH (o := ?o17) 16 (.agg #[.int .i64 (min x p), .int .i64 (max y q)]) ?h17 ?r17
          case h17 => simp only [aT, aS, aZ]; rfl
          refine ⟨_, by simp [Act.put]; rfl, by kernel_rfl, by kernel_rfl, by kernel_rfl, fun _ _ _ h => h, (.inl ⟨rfl, fun W _ => by go_simp⟩), HS.out.2, ?_⟩
          refine onlyH (o := ?o18) 17 (by kernel_rfl) ?h18 ?r18
          case h18 => simp only [aT, aS, aZ]; rfl
          intro K hK
          refine op_store 74 w.heap.size #[.int .i64 x, .int .i64 y] #[.int .i64 (min x p), .int .i64 (max y q)] 74 rfl rfl rfl rfl HP1.out.box (by kernel_rfl) rfl (by kernel_rfl) ⟨_, by simp [Act.put]; rfl, hK _ _ ⟨HS.out.2.setRow (by omega), ?_⟩⟩
          clear hK
          refine wpAnyH_done (by kernel_rfl) ?_ _
          have HP2 : Hid (PutAt w u5 o (min x p, max y q) ((wq.drewN nq).drew.setRow w.heap.size #[.int .i64 (min x p), .int .i64 (max y q)])) := HP1.out.setBox
          have HF2 : Hid (f = false → o.length ≤ k + 1) := fun e => by have := HF.out e; omega
          clear HP1 HS
          go_wp2
          go_roundw
          case rel => exact ⟨k + 1, o, (min x p, max y q), f, by omega, by go_num, rfl, by omega, HP2, HX2, HN2, HF2⟩
          case measure => simp [intOf]; omega
        case s14 =>
          intro K hK
          refine op_value (.int .i64 y) rfl (by have c : wq.cell? ⟨w.heap.size, 1, none⟩ = some (.int .i64 y) := HS.out.1.2; go_simp) ⟨_, by simp [Act.put]; rfl, hK _ _ ⟨HS.out.2, ?_⟩⟩
          clear hK
          refine onlyH (o := ?o19) 7 (by kernel_rfl) ?h19 ?r19
          case h19 => simp only [aT, aS, aZ]; rfl
          intro K hK
          refine op_call2 111 _ _ _ Tryz.f111 (fun w' => w' = (wq.drewN nq).drew) (.int .i64 (min x p)) rfl rfl Tryz.func111 (by kernel_rfl) (by kernel_rfl) (l1Min_any x p _) ⟨_, by simp [Act.put]; rfl, ?_⟩
          intro wc hwc
          subst hwc
          refine hK _ _ ⟨HS.out.2, ?_⟩
          clear hK
          refine onlyH (o := ?o20) 15 (by kernel_rfl) ?h20 ?r20
          case h20 => simp only [aT, aS, aZ]; rfl
          intro K hK
          refine op_call2 112 _ _ _ Tryz.f112 (fun w' => w' = (wq.drewN nq).drew) (.int .i64 (max y q)) rfl rfl Tryz.func112 (by kernel_rfl) (by kernel_rfl) (l1Max_any y q _) ⟨_, by simp [Act.put]; rfl, ?_⟩
          intro wc hwc
          subst hwc
          refine hK _ _ ⟨HS.out.2, ?_⟩
          clear hK
          refine takeH (o := ?o21) 16 (.agg #[.int .i64 (min x p), .int .i64 (max y q)]) ?h21 ?r21
          case h21 => simp only [aT, aS, aZ]; rfl
          refine ⟨_, by simp [Act.put]; rfl, by kernel_rfl, by kernel_rfl, by kernel_rfl, fun _ _ _ h => h, (.inl ⟨rfl, fun W _ => by go_simp⟩), HS.out.2, ?_⟩
          refine onlyH (o := ?o22) 17 (by kernel_rfl) ?h22 ?r22
          case h22 => simp only [aT, aS, aZ]; rfl
          intro K hK
          refine op_store 74 w.heap.size #[.int .i64 x, .int .i64 y] #[.int .i64 (min x p), .int .i64 (max y q)] 74 rfl rfl rfl rfl HP1.out.box (by kernel_rfl) rfl (by kernel_rfl) ⟨_, by simp [Act.put]; rfl, hK _ _ ⟨HS.out.2.setRow (by omega), ?_⟩⟩
          clear hK
          refine wpAnyH_done (by kernel_rfl) ?_ _
          have HP2 : Hid (PutAt w u5 o (min x p, max y q) ((wq.drewN nq).drew.setRow w.heap.size #[.int .i64 (min x p), .int .i64 (max y q)])) := HP1.out.setBox
          have HF2 : Hid (f = false → o.length ≤ k + 1) := fun e => by have := HF.out e; omega
          clear HP1 HS
          go_wp2
          go_roundw
          case rel => exact ⟨k + 1, o, (min x p, max y q), f, by omega, by go_num, rfl, by omega, HP2, HX2, HN2, HF2⟩
          case measure => simp [intOf]; omega
      case s13 =>
        intro K hK
        refine op_value (.int .i64 y) rfl (by have c : wq.cell? ⟨w.heap.size, 1, none⟩ = some (.int .i64 y) := HS.out.1.2; go_simp) ⟨_, by simp [Act.put]; rfl, hK _ _ ⟨HS.out.2, ?_⟩⟩
        clear hK
        refine onlyH (o := ?o23) 1 (by kernel_rfl) ?h23 ?r23
        case h23 => simp only [aT, aS, aZ]; rfl
        intro K hK
        refine op_value (.int .i64 x) rfl (by have c : wq.cell? ⟨w.heap.size, 0, none⟩ = some (.int .i64 x) := HS.out.1.1; go_simp) ⟨_, by simp [Act.put]; rfl, hK _ _ ⟨HS.out.2, ?_⟩⟩
        clear hK
        refine onlyH (o := ?o24) 7 (by kernel_rfl) ?h24 ?r24
        case h24 => simp only [aT, aS, aZ]; rfl
        intro K hK
        refine op_call2 111 _ _ _ Tryz.f111 (fun w' => w' = (wq.drewN nq).drew) (.int .i64 (min x p)) rfl rfl Tryz.func111 (by kernel_rfl) (by kernel_rfl) (l1Min_any x p _) ⟨_, by simp [Act.put]; rfl, ?_⟩
        intro wc hwc
        subst hwc
        refine hK _ _ ⟨HS.out.2, ?_⟩
        clear hK
        refine onlyH (o := ?o25) 15 (by kernel_rfl) ?h25 ?r25
        case h25 => simp only [aT, aS, aZ]; rfl
        intro K hK
        refine op_call2 112 _ _ _ Tryz.f112 (fun w' => w' = (wq.drewN nq).drew) (.int .i64 (max y q)) rfl rfl Tryz.func112 (by kernel_rfl) (by kernel_rfl) (l1Max_any y q _) ⟨_, by simp [Act.put]; rfl, ?_⟩
        intro wc hwc
        subst hwc
        refine hK _ _ ⟨HS.out.2, ?_⟩
        clear hK
        refine takeH (o := ?o26) 16 (.agg #[.int .i64 (min x p), .int .i64 (max y q)]) ?h26 ?r26
        case h26 => simp only [aT, aS, aZ]; rfl
        refine ⟨_, by simp [Act.put]; rfl, by kernel_rfl, by kernel_rfl, by kernel_rfl, fun _ _ _ h => h, (.inl ⟨rfl, fun W _ => by go_simp⟩), HS.out.2, ?_⟩
        refine onlyH (o := ?o27) 17 (by kernel_rfl) ?h27 ?r27
        case h27 => simp only [aT, aS, aZ]; rfl
        intro K hK
        refine op_store 74 w.heap.size #[.int .i64 x, .int .i64 y] #[.int .i64 (min x p), .int .i64 (max y q)] 74 rfl rfl rfl rfl HP1.out.box (by kernel_rfl) rfl (by kernel_rfl) ⟨_, by simp [Act.put]; rfl, hK _ _ ⟨HS.out.2.setRow (by omega), ?_⟩⟩
        clear hK
        refine wpAnyH_done (by kernel_rfl) ?_ _
        have HP2 : Hid (PutAt w u5 o (min x p, max y q) ((wq.drewN nq).drew.setRow w.heap.size #[.int .i64 (min x p), .int .i64 (max y q)])) := HP1.out.setBox
        have HF2 : Hid (f = false → o.length ≤ k + 1) := fun e => by have := HF.out e; omega
        clear HP1 HS
        go_wp2
        go_roundw
        case rel => exact ⟨k + 1, o, (min x p, max y q), f, by omega, by go_num, rfl, by omega, HP2, HX2, HN2, HF2⟩
        case measure => simp [intOf]; omega
    · obtain rfl : k = len := by omega
      have hdr : ps.drop k = [] := List.drop_of_length_le (by rw [HL.out]; omega)
      cases f
      · have HV : Hid (o ++ [(x, y)] = put ps (xa, xb) false) := by
          have e := HN.out
          rw [hdr] at e
          exact e
        have hol2 : o.length ≤ k := HF.out rfl
        have b1 : wr.cell? ⟨w.heap.size, 0, none⟩ = some (.int .i64 x) := by rw [HP.out.box.cell]; rfl
        have b2 : wr.cell? ⟨w.heap.size, 1, none⟩ = some (.int .i64 y) := by rw [HP.out.box.cell]; rfl
        clear hdr
        go_wp2_with (first | go_skip | (with_reducible refine stopAppend2 rfl ?_))
        refine Stop.intro (wpList_append_own _ rfl _ _ 27 rfl (w.heap.size + 1) 74 t0 (.agg #[.int .i64 0, .int .i64 0]) 2 16 Tryz.underlying27 hi hz0 hz1 hz2 rfl (by decide) _ (o).length ((flat (o)).map (Value.int .i64)) rfl (HP.out.own.alloc _) ⟨wr.heap.size, 0, none⟩ 1 1 [.int .i64 x, .int .i64 y] rfl rfl (cell_new2 _ _ _ _) (by intro u hu; simp at hu; rcases hu with rfl | rfl <;> rfl) (by unfold maxLen; omega) (by omega) (by have := HP.out.box.lt; simp at this ⊢; omega) ?_)
        intro v2 w2 hown hgrow _
        have HP2 : Hid (PutAt w v2 (o ++ [(x, y)]) (x, y) w2) := HP.out.app hown hgrow
        clear hown hgrow
        go_wp2
        go_ret
        have e := HP2.out.own
        rw [HV.out] at e
        exact ⟨_, rfl, own_mono e (by omega), HP2.out.bel⟩
      · have HV : Hid (o = put ps (xa, xb) false) := by
          have e := HN.out
          rw [hdr] at e
          show _ = _
          simpa [put] using e
        clear hdr
        go_wp2
        go_ret
        have e := HP.out.own
        rw [HV.out] at e
        exact ⟨_, rfl, own_mono e (by omega), HP.out.bel⟩
set_option maxRecDepth 200000 in
theorem l5Put_any (a : Option Addr) (len cap : Nat) (ps : Sp) (x0 : Int × Int) (F : List Nat) (w : World) (h : RdP w a len ps F) (hlen : len ≤ 2097152) (hin : ∀ k, k < len → InB (ps.at k)) (hx : InB x0) :
    Calls Tryz.prog 109 #[.slice a len cap, .agg #[.int .i64 x0.1, .int .i64 x0.2]] w fun e w' => NewP w (put ps x0 false) e w' :=
  (l5Put_own a len cap ps x0 F w h hlen hin hx).mono (fun _ _ h => by
    obtain ⟨v, rfl, h1, h2⟩ := h
    obtain ⟨a', c', F', rfl, hr, ho, hnn⟩ := rdP_of_own h1
    exact ⟨_, _, _, F', rfl, hr, ho, h2, hnn⟩)
end Go.Proofs.YtjnamoppcklomaaGreat
