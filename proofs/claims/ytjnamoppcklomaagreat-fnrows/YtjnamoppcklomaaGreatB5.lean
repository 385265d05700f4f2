/- Several texts of mine, laid together. No statement of the seat is proved here. -/
import Derived.Test.YtjnamoppcklomaaGreatB4
import Derived.Test.YtjnamoppcklomaaGreatB3
import Derived.Test.YtjnamoppcklomaaGreatPart
import Derived.Deep.CutBlock
import Derived.Deep.DeepCutAuto
import Derived.Test.YtjnamoppcklomaaGreatItHelp2
import Derived.Test.YtjnamoppcklomaaGreatB2
import Derived.Test.YtjnamoppcklomaaGreatSpHelp
import Derived.Test.YtjnamoppcklomaaGreatSkLaw
import Derived.Test.YtjnamoppcklomaaGreatSpOpen
import Derived.Deep.Slices
import Derived.Test.YtjnamoppcklomaaGreatSkMarks
import Derived.Laws.IdiomCopy
import Derived.Test.YtjnamoppcklomaaGreatAppAny
import Derived.OwnWalk
import Derived.Deep.AppendLies
namespace Go.Proofs.YtjnamoppcklomaaGreat
section
set_option maxRecDepth 200000
set_option maxHeartbeats 16000000
open Go.RowKit
section
variable {P : Program} {ops : Array Oper} {Q : Exit → Act → World → Prop} {a : Act} {w : World} {x : Operand} {o : Oper} {K : Act → World → Prop}
theorem op_loadAt (ty : TypeId) (g off n : Nat) (cs : Array Value) (d : TypeDesc) (hw : Region.wanted o (yielded ops a.tmps) = true) (ho : o.op = .load ty x) (hx : a.eval x = .pointer (some ⟨g, off, none⟩)) (hu : P.underlying ty = some d) (hd : (match d with | .struct _ | .array _ _ => true | _ => false) = true)
 (hi : (P.info? ty).map (·.size) = some n) (hn : cs.size = n) (hS : ∀ j, j < n → w.cell? ⟨g, off + j, none⟩ = cs[j]?) (h : ∃ a', a.put o.dst (.agg cs) = a' ∧ K a' w) : if Region.wanted o (yielded ops a.tmps) = true then Oper.wp P o a w K Q else K (a.put o.dst undef) w := by
 have y : YieldsIf P ops (fun W => W = w) o (.agg cs) a := yields_at ty g off n cs d hw ho hx hu hd hi hn (fun W hW => by rw [hW]; exact hS)
 rcases y with ⟨_, y⟩ | ⟨y, _⟩
 ·
  exact op_value (.agg cs) hw (y w rfl) h
 ·
  rw [hw] at y; cases y
end
section
variable {α : Type} {K : ElK α} {w : World}
theorem RdC.setW : ∀ {xs : List α} {vs : List Value} {H : List Nat} {k : Nat} {x : α} {es : Array Value} {G : List Nat}, RdC K w xs vs H → k < xs.length → K.R w (.agg es) x G → es.size = K.n → ∃ H1 Hk H2, H = H1 ++ (Hk ++ H2) ∧ RdC K w (xs.set k x) (vs.take (k * K.n) ++ es.toList ++ vs.drop ((k + 1) * K.n)) (H1 ++ (G ++ H2))
 | [], vs, H, k, x, es, G, h, hk, _, _ => by simp at hk
 | y :: xs, vs, H, 0, x, es, G, h, hk, hr, hs => by
  obtain ⟨cs, vs', F1, F2, rfl, h2, h3, h4, rfl⟩ := h
  refine ⟨[], F1, F2, rfl, es, vs', G, F2, ?_, hs, hr, h4, rfl⟩
  rw [Nat.zero_mul, List.take_zero, List.nil_append, Nat.zero_add, Nat.one_mul, List.drop_left' (by rw [Array.length_toList, h2])]
 | y :: xs, vs, H, k + 1, x, es, G, h, hk, hr, hs => by
  obtain ⟨cs, vs', F1, F2, rfl, h2, h3, h4, rfl⟩ := h
  obtain ⟨H1, Hk, H2, q0, q1⟩ := RdC.setW (k := k) h4 (by simpa using hk) hr hs
  have hl : cs.toList.length = K.n := by rw [Array.length_toList, h2]
  refine ⟨F1 ++ H1, Hk, H2, by rw [q0, List.append_assoc], cs, _, F1, H1 ++ (G ++ H2), ?_, h2, h3, q1, by rw [List.append_assoc]⟩
  rw [List.take_append, List.drop_append, hl]
  rw [List.take_of_length_le (by rw [hl, Nat.succ_mul]; omega), List.drop_of_length_le (by rw [hl, Nat.succ_mul]; omega)]
  rw [show (k + 1) * K.n - K.n = k * K.n by rw [Nat.succ_mul]; omega, show (k + 1 + 1) * K.n - K.n = (k + 1) * K.n by rw [Nat.succ_mul (k + 1)]; omega]
  simp
end
theorem GrowL.longer {α : Type} {K : ElK α} {e : TypeId} {xs ys : List α} {lo k : Nat} {v : Value} {vs : List Value} {G : List Nat} {W : World} (h : GrowL K e xs lo k v vs G W) (ht : ys.take k = xs.take k) : GrowL K e ys lo k v vs G W := ⟨h.row, by rw [ht]; exact h.rd, h.og, h.ap, h.lw⟩
theorem PuR.grown {w W W' : World} {A es : Array Value} {tR tE : TypeId} {v : Value} (h : PuR w A es tR tE W) (hgrow : W.grownBy W' v.ownBlock) (hv : ∀ b, v.ownBlock = some b → w.heap.size + 3 ≤ b) : PuR w A es tR tE W' := by
 have ot : ∀ b, b < w.heap.size + 3 → W'.heap[b]? = W.heap[b]? := fun b hb => hgrow.block b (by have := h.size; omega) (fun e => by have := hv b e.symm; omega)
 exact ⟨h.box.agree (ot _ (by omega)), h.en.agree (ot _ (by omega)), h.res.agree (ot _ (by omega)), h.bel.grown hgrow h.bel.size (fun b hb => by have := hv b hb; omega)⟩
theorem PuR.setCell {w W : World} {A es : Array Value} {tR tE : TypeId} (h : PuR w A es tR tE W) {X : Nat} (hX : w.heap.size + 3 ≤ X) (v : Value) : PuR w A es tR tE (W.setCell ⟨X, 0, none⟩ v) :=
 ⟨h.box.setOther (by omega) _ _, h.en.setOther (by omega) _ _, h.res.setOther (by omega) _ _, h.bel.setCell (p := ⟨X, 0, none⟩) (by show w.heap.size ≤ X; omega) _⟩
theorem PuR.setRow {w W : World} {A es : Array Value} {tR tE : TypeId} (h : PuR w A es tR tE W) {X : Nat} (hX : w.heap.size + 3 ≤ X) (ds : Array Value) : PuR w A es tR tE (W.setRow X ds) :=
 ⟨h.box.setRowOther (by omega), h.en.setRowOther (by omega), h.res.setRowOther (by omega), below_setRow h.bel (by omega) _⟩
theorem GrowL.put {e : TypeId} {xs : List En} {lo n k g cap L : Nat} {vs : List Value} {GG G : List Nat} {W : World} {x : En} {ds : Array Value} (h : GrowL enK e xs lo n (.slice (some ⟨g, 0, none⟩) n cap) vs GG W) (hn : xs.length = n) (hk : k < n) (hr : RdE W (.agg ds) x G) (hd : ds.size = 10)
 (ho : Own L W G) (hL : lo ≤ L) (ltG : ∀ b ∈ GG, b < L) (hgL : g < L) : lo ≤ g ∧ ∃ cur, Blk W g cur e ∧ k * 10 + 10 ≤ cur.size ∧ ∃ vs' H', GrowL enK e (xs.set k x) lo n (.slice (some ⟨g, 0, none⟩) n cap) vs' H' (W.setRow g (cutIn cur (k * 10) ds)) ∧ ∀ b ∈ H', b < L ∨ b ∈ G := by
 have hrow := h.row
 have rd := h.rd
 have og := h.og
 rw [List.take_of_length_le (Nat.le_of_eq hn)] at rd
 obtain ⟨hvl, hrow⟩ := hrow
 obtain ⟨cur, hge, hcur, hnc, hmax, hsz, htk⟩ : ∃ cur, lo ≤ g ∧ W.heap[g]? = some (.cells cur e (0, 0)) ∧ n ≤ cap ∧ cap ≤ maxLen ∧ cur.size = cap * 10 ∧ cur.toList.take (n * 10) = vs := by
  rcases hrow with ⟨h0, _⟩ | ⟨g', cap', cur, h1, h2, h3, h4, h5, h6, h7⟩
  ·
   cases h0
  ·
   injection h1 with e1 e2 e3
   injection e1 with e1
   injection e1 with e1
   subst e1 e3
   exact ⟨cur, h2, h3, h4, h5, h6, h7⟩
 obtain ⟨H1, Hk, H2, rfl, q1⟩ := RdC.setW (k := k) rd (by omega) hr hd
 obtain ⟨c1, c2⟩ := cut_takeR (cs := cur) (ds := ds) (n := n) (k := k) hd hk (by omega)
 have hin : ∀ b ∈ H1 ++ (G ++ H2), b < L ∨ b ∈ G := fun b hb => by
  rcases List.mem_append.1 hb with hb | hb
  ·
   exact .inl (ltG b (List.mem_append_left _ hb))
  ·
   rcases List.mem_append.1 hb with hb | hb
   ·
    exact .inr hb
   ·
    exact .inl (ltG b (List.mem_append_right _ (List.mem_append_right _ hb)))
 have hown : Own lo W (H1 ++ (G ++ H2)) := by
  refine og.left.app ((ho.mono hL).app og.right.right (fun b hb hx => ?_)) (fun b hb hx => ?_)
  ·
   have := ho.ge b hb; have := ltG b (List.mem_append_right _ (List.mem_append_right _ hx)); omega
  ·
   rcases List.mem_append.1 hx with hx | hx
   ·
    have := ho.ge b hx; have := ltG b (List.mem_append_left _ hb); omega
   ·
    exact og.apart b hb (List.mem_append_right _ hx)
 have hng : g ∉ H1 ++ (G ++ H2) := fun hx => by
  rcases List.mem_append.1 hx with hx | hx
  ·
   exact h.ap g rfl (List.mem_append_left _ hx)
  ·
   rcases List.mem_append.1 hx with hx | hx
   ·
    have := ho.ge g hx; omega
   ·
    exact h.ap g rfl (List.mem_append_right _ (List.mem_append_right _ hx))
 have hlen : (xs.set k x).length = n := by rw [List.length_set]; exact hn
 refine ⟨hge, cur, hcur, by omega, _, _, ⟨⟨?_, .inr ⟨g, cap, _, rfl, hge, Blk.setRow hcur, hnc, hmax, c1.trans hsz, c2⟩⟩, ?_, hown.agree (Agree.row hng _), fun b hb => ?_, ?_⟩, hin⟩
 ·
  rw [htk]
  have hdl : ds.toList.length = 10 := by rw [Array.length_toList, hd]
  simp only [List.length_append, List.length_take, List.length_drop, hdl, hvl]
  show _ = n * 10
  have : enK.n = 10 := rfl
  rw [this]
  omega
 ·
  rw [List.take_of_length_le (Nat.le_of_eq hlen), htk]
  exact q1.agree (Agree.row hng _)
 ·
  have : b = g := by simpa [Value.ownBlock] using hb.symm
  subst this; exact hng
 ·
  have := (below_setRow (Below.refl 0 W) (Nat.zero_le g) (cutIn cur (k * 10) ds)).size
  exact Nat.le_trans h.lw this
theorem l10Apart_any (v : Value) (x : Rw) (F : List Nat) (p : Option Addr) (l g : Nat) (s : Sp) (G : List Nat) (w : World) (h : RdRw w v x F) (k : RdP w p l s G) (hw : x.wide) (hl : l ≤ 2097152) :
 Calls Tryz.prog 33 #[v, .slice p l g] w fun e w' => e = .returned (.bool (apartAll x.list s)) ∧ Below w.heap.size w w' := by
 obtain ⟨a, n, c, rfl, hL, hcp⟩ := h
 have HL : Hid (RdL enK w a n x.list F ∧ x.list.length = n ∧ (∀ y ∈ x.list, y.wide) ∧ RdP w p l s G) := ⟨hL, hL.length, hw.1, k⟩
 have hn : n ≤ 1048576 := by rw [← hL.length]; exact hw.2
 have HB : Hid (Below w.heap.size w (w.alloc (.cells #[.slice a n c] 26)) ∧ Blk (w.alloc (.cells #[.slice a n c] 26)) w.heap.size #[.slice a n c] 26) := ⟨Below.allocW _ (Below.refl _ _) (Nat.le_refl _), Blk.made _ _ _⟩
 clear hL hw hcp k
 go_enter Tryz.func33, Tryz.ntmps33
 go_wp2
 go_loopw [5] (fun i wr => ∃ k : Nat, k ≤ n ∧ i = .int .i64 k ∧ Hid ((x.list.take k).all (fun y => y.ids.apart s) = true) ∧ Hid (Below w.heap.size w wr ∧ Blk wr w.heap.size #[.slice a n c] 26)) (fun i _ => n - (intOf i).toNat)
 case atStart => exact ⟨0, by omega, rfl, (show _ = _ by simp), HB⟩
 case round =>
  clear HB
  obtain ⟨k, hk, rfl, HT, HW⟩ := hrel
  have c0 := HW.out.2.cell 0
  simp only [aT, aZ] at c0
  by_cases hlt : k < n
  ·
   have hI : (k : Int) < (n : Int) := by omega
   obtain ⟨b, off, y, q, m, g', cs, Fi, G', rfl, hbw, hy, hs, hcc, hr, h0, h1, h2, hp, hcp⟩ := ens_in HL.out.1 hlt
   have HX : Hid (x.list[k]? = some y ∧ RdP wr q m y.ids G') := ⟨hy, hp.below HW.out.1⟩
   have hm : m ≤ 1048576 := by rw [← hp.length]; exact (wide_at HL.out.2.2.1 hy).2
   have c2 : wr.cell? ⟨b, off + k * 10 + 2, none⟩ = some (.slice q m g') := (hcc wr HW.out.1 2 (by decide)).trans h2
   clear hy hs hcc hr h0 h1 h2 hp hcp
   go_wp2_with fail
   refine (apartSpec_any q p m l g' g y.ids s G' G _ HX.out.2 (HL.out.2.2.2.below HW.out.1) (by omega) (by omega)).mono ?_
   rintro e w2 ⟨rfl, t, rfl⟩
   have HW2 : Hid (Below w.heap.size w (wr.drewN t) ∧ Blk (wr.drewN t) w.heap.size #[.slice (some ⟨b, off, none⟩) n c] 26) := ⟨Below.next HW.out.1 (quiet_below ⟨t, rfl⟩), HW.out.2.below (quiet_below ⟨t, rfl⟩)⟩
   obtain ⟨w2, hw2⟩ : ∃ W, W = wr.drewN t := ⟨_, rfl⟩
   rw [← hw2] at HW2 ⊢
   obtain ⟨d, hd⟩ : ∃ d, d = y.ids.apart s := ⟨_, rfl⟩
   rw [← hd]
   have HD : Hid (d = y.ids.apart s) := hd
   clear hd c2 c0 hw2 HW
   cases d
   ·
    have HV : Hid (apartAll x.list s = false) := by
     show _ = _
     unfold apartAll
     rw [List.all_eq_false]
     exact ⟨y, List.mem_of_getElem? HX.out.1, by rw [← HD.out]; simp⟩
    go_wp2
    go_ret
    exact ⟨ret_bool HV.out.symm, HW2.out.1⟩
   ·
    have HT2 : Hid ((x.list.take (k + 1)).all (fun y => y.ids.apart s) = true) := by
     show _ = _
     rw [take_snoc_en HX.out.1, List.all_append, HT.out]
     simp [← HD.out]
    go_wp2
    go_roundw
    case rel => exact ⟨k + 1, by omega, by go_num, HT2, HW2⟩
    case measure => simp [intOf]; omega
  ·
   obtain rfl : k = n := by omega
   have HV : Hid (apartAll x.list s = true) := by
    have := HT.out
    rw [List.take_of_length_le (by rw [HL.out.2.1]; omega)] at this
    exact this
   have hI : ¬ (k : Int) < (k : Int) := by omega
   go_wp2
   go_ret
   exact ⟨ret_bool HV.out.symm, HW.out.1⟩
theorem addSpecE_any (v u : Value) (x y : En) (F G : List Nat) (w : World) (h : RdE w v x F) (k : RdE w u y G) (hx : x.ok = true) (hy : y.ok = true) (hlen : x.ids.length + y.ids.length ≤ 2097152) :
 Calls Tryz.prog 34 #[v, u] w fun e w' => ∃ v F, e = .returned v ∧ RdE w' v (x.add y) F ∧ Own w.heap.size w' F ∧ Below w.heap.size w w' := by
 obtain ⟨F1, F2, rfl, h⟩ := h
 obtain ⟨G1, G2, rfl, k⟩ := k
 refine (l6Add_any v u x y F1 F2 G1 G2 w h k hx hy hlen).mono ?_
 rintro e w' ⟨v', F', G', rfl, r, o, o', d, b⟩
 exact ⟨v', F' ++ G', rfl, ⟨F', G', rfl, r⟩, o.app o' d, b⟩
end
section
set_option maxRecDepth 200000
set_option maxHeartbeats 16000000
open Go.RowKit
theorem GrowL.setX {α : Type} {K : ElK α} {e : TypeId} {xs : List α} {lo k : Nat} {v : Value} {vs : List Value} {G : List Nat} {W : World} {g j : Nat} {u : Value} (h : GrowL K e xs lo k v vs G W) (hv : ∀ b, v.ownBlock = some b → b ≠ g) (hG : g ∉ G) : GrowL K e xs lo k v vs G (W.setCell ⟨g, j, none⟩ u) := by
 refine ⟨⟨h.row.1, ?_⟩, h.rd.agree (.set hG _ _), h.og.agree (.set hG _ _), h.ap, by simpa using h.lw⟩
 rcases h.row.2 with q | ⟨g', cap, cur, h1, h2, h3, h4⟩
 ·
  exact .inl q
 ·
  have hne : g' ≠ g := hv g' (by rw [h1]; rfl)
  exact .inr ⟨g', cap, cur, h1, h2, by rw [Below.heap_setCell W ⟨g, j, none⟩ u g' (by show g' ≠ g; exact hne)]; exact h3, h4⟩
def NewRw2G (w : World) (z : Rw × Bool) (e : Ending) (w' : World) : Prop := ∃ (q : Option Addr) (n k : Nat) (F : List Nat) (lo : Nat) (vs : List Value) (GG : List Nat), e = .returned (.tuple #[.agg #[.slice q n k], .bool z.2]) ∧ RdRw w' (.agg #[.slice q n k]) z.1 F ∧ Own w.heap.size w' F ∧ Below w.heap.size w w' ∧ GrowL enK 33 z.1.list lo n (.slice q n k) vs GG w' ∧ w.heap.size ≤ lo
abbrev PuX (w : World) (a : Option Addr) (n c : Nat) (es : Array Value) (X : Nat) (q : Option Addr) (kc : Nat) (x : Rw) (lo : Nat) (vs : List Value) (GG FX : List Nat) (W : World) : Prop := PuR w #[.slice a n c] es 26 33 W ∧ Blk W X #[.slice q n kc] 26 ∧ GrowL enK 33 x.list lo n (.slice q n kc) vs GG W ∧ RdL enK W q n x.list FX ∧ Own (w.heap.size + 3) W FX
theorem rowPushSpec_grow (v u : Value) (x : Rw) (F : List Nat) (e : En) (G : List Nat) (join : Bool) (w : World) (h : RdRw w v x F) (k : RdE w u e G) (hs : x.size + e.wt ≤ 1048576) :
 Calls Tryz.prog 8 #[v, u, .bool join] w fun r w' => NewRw2G w (x.push e join) r w' := by
 obtain ⟨j0, hj, hy0, hy1, hy2⟩ := info_parts infoEnG
 have HH : Hid (RdRw w v x F ∧ RdE w u e G ∧ x.fits ∧ e.fits ∧ e.ids.length ≤ 1048576) := ⟨h, k, (push_sizes join hs).1, (push_sizes join hs).2.1, (push_sizes join hs).2.1.2⟩
 obtain ⟨es, rfl, hes, hes1⟩ := RdE.cells k
 obtain ⟨G1, G2, _, p0, l0, c0, _, _, _, _, _, _, _, _, _, ev, hpp, _, hpc⟩ := k
 have HE : Hid (es.size = 10 ∧ es.all (·.oneCell') = true ∧ es[0]? = some (.int .i64 e.key) ∧ es[1]? = some (.int .i64 e.window) ∧ es[2]? = some (.slice p0 l0 c0) ∧ RdP w p0 l0 e.ids G1) := by
  injection ev with ev
  exact ⟨hes, hes1, by rw [ev]; rfl, by rw [ev]; rfl, by rw [ev]; rfl, hpp⟩
 have hl0 : l0 ≤ 1048576 := by rw [← hpp.length]; exact HH.out.2.2.2.2
 obtain ⟨a, n, c, rfl, hL, _⟩ := h
 have HN : Hid (x.list.length = n) := hL.length
 have hn : n ≤ 1048576 := by rw [← hL.length]; exact HH.out.2.2.1.len
 have HP : Hid (PuR w #[.slice a n c] es 26 33 _) := PuR.made w #[.slice a n c] es 26 33
 clear hs hes hes1 ev hpp hpc hL
 go_enter Tryz.func8, Tryz.ntmps8
 go_wp2_with (first | go_skip | (with_reducible refine stopLoad 26 rfl ?_) | (with_reducible refine stopLoad 33 rfl ?_))
 refine load_any 26 w.heap.size #[.slice a n c] 26 _ HP.out.box rfl rfl rfl Tryz.underlying26 rfl (rwSize rfl) ?_
 go_wp2_with fail
 refine (l10Copy_grow _ x F _ (HH.out.1.below HP.out.bel) HH.out.2.2.1).mono ?_
 rintro r w1 ⟨q, kc, FX, lo, vs, GG, rfl, hr, hcq, ho, hb, hg, hlo⟩
 rw [HN.out] at hr hcq hg ⊢
 have HP1 : Hid (PuR w #[.slice a n c] es 26 33 w1) := HP.out.below hb
 obtain ⟨X, hX⟩ : ∃ X, X = w1.heap.size := ⟨_, rfl⟩
 have HG1 : Hid (GrowL enK 33 x.list lo n (.slice q n kc) vs GG w1 ∧ RdL enK w1 q n x.list FX ∧ Own (w.heap.size + 3) w1 FX ∧ Capd q n kc) := ⟨hg, hr, ho.mono HP.out.size, hcq⟩
 have HLO : Hid (w.heap.size + 3 ≤ lo ∧ w.heap.size + 3 ≤ X ∧ (∀ b ∈ GG, b < X) ∧ (∀ b, (Value.slice q n kc).ownBlock = some b → b < X) ∧ lo ≤ X) := ⟨Nat.le_trans HP.out.size hlo, by rw [hX]; exact HP1.out.size, by rw [hX]; exact hg.lts.1, by rw [hX]; exact hg.lts.2.1, by rw [hX]; exact hg.lts.2.2⟩
 clear hr hcq ho hb hg hlo HP
 go_wp2_with (first | go_skip | (with_reducible refine stopStore 26 rfl ?_))
 refine store_fresh 26 w1.heap.size rfl #[.slice none 0 0] #[.slice q n kc] 26 rfl rfl rfl rfl (rwSize rfl) rfl (by simp [Value.oneCell']) ?_
 intro w2 hg2 hb2
 have HP2 : Hid (PuX w a n c es X q kc x lo vs GG FX w2) := ⟨HP1.out.below hb2, by rw [hX]; exact hg2, HG1.out.1.below hb2, HG1.out.2.1.below hb2, HG1.out.2.2.1.below HG1.out.2.1.lt hb2⟩
 have HNX : Hid (X ∉ FX ∧ Capd q n kc) := ⟨fun hx => by have := HG1.out.2.1.lt _ hx; omega, HG1.out.2.2.2⟩
 rw [← hX]
 clear hg2 hb2 hX HP1 HG1
 go_wp2_with (first | go_skip | (with_reducible refine stopLoad 26 rfl ?_))
 refine load_any 26 w.heap.size #[.slice a n c] 26 _ HP2.out.1.box rfl rfl rfl Tryz.underlying26 rfl (rwSize rfl) ?_
 go_wp2_with fail
 refine (rowOkSpec_any _ x F _ (HH.out.1.below HP2.out.1.bel) HH.out.2.2.1.wide).mono ?_
 rintro r w3 ⟨rfl, hb⟩
 have HP2 : Hid (PuX w a n c es X q kc x lo vs GG FX w3) := ⟨HP2.out.1.below hb, HP2.out.2.1.below hb, HP2.out.2.2.1.below hb, HP2.out.2.2.2.1.below hb, HP2.out.2.2.2.2.below HP2.out.2.2.2.1.lt hb⟩
 obtain ⟨d, hd⟩ : ∃ d, d = x.ok := ⟨_, rfl⟩
 rw [← hd]
 have HD1 : Hid (d = x.ok) := hd
 clear hd hb
 cases d
 ·
  have HV : Hid (x.push e join = (x, false)) := Rw.push_not (by unfold Rw.takes; rw [← HD1.out]; rfl)
  go_wp2_with (first | go_skip | (with_reducible refine stopLoad 26 rfl ?_))
  refine load_any 26 X #[.slice q n kc] 26 _ HP2.out.2.1 rfl rfl rfl Tryz.underlying26 rfl (rwSize rfl) ?_
  go_wp2_with (first | go_skip | (with_reducible refine stopStore 26 rfl ?_))
  refine store_known 26 (w.heap.size + 1 + 1) _ #[.slice q n kc] 26 HP2.out.1.res rfl rfl rfl rfl (rwSize rfl) rfl (by simp [Value.oneCell']) ?_
  go_wp2
  refine bodyPost_ret (results_row_tmp Tryz.results8 _ _ (w.heap.size + 1 + 1) _ _ _ _ rfl HP2.out.1.res.setRow Tryz.underlying26 rfl (rwSize rfl)) rfl ?_
  rw [HV.out]
  have nr : w.heap.size + 1 + 1 ∉ FX := fun hx => by have := HP2.out.2.2.2.2.ge _ hx; omega
  exact ⟨q, n, kc, FX, lo, vs, GG, rfl, ⟨q, n, kc, rfl, HP2.out.2.2.2.1.agree (Agree.row nr _), HNX.out.2⟩, (HP2.out.2.2.2.2.agree (Agree.row nr _)).mono (by omega), below_setRow HP2.out.1.bel (by omega) _, HP2.out.2.2.1.setRow (by have := HLO.out.1; omega), by have := HLO.out.1; omega⟩
 go_wp2_with (first | go_skip | (with_reducible refine stopLoad 33 rfl ?_))
 refine load_any 33 (w.heap.size + 1) es 33 _ HP2.out.1.en rfl rfl rfl Tryz.underlying33 rfl (enSize HE.out.1) ?_
 go_wp2_with fail
 refine (entryOkE_any _ e G _ (HH.out.2.1.below HP2.out.1.bel) HH.out.2.2.2.1.wide).mono ?_
 rintro r w4 ⟨rfl, hb⟩
 have HP2 : Hid (PuX w a n c es X q kc x lo vs GG FX w4) := ⟨HP2.out.1.below hb, HP2.out.2.1.below hb, HP2.out.2.2.1.below hb, HP2.out.2.2.2.1.below hb, HP2.out.2.2.2.2.below HP2.out.2.2.2.1.lt hb⟩
 obtain ⟨d, hd⟩ : ∃ d, d = e.ok := ⟨_, rfl⟩
 rw [← hd]
 have HD2 : Hid (d = e.ok) := hd
 clear hd hb
 cases d
 ·
  have HV : Hid (x.push e join = (x, false)) := Rw.push_not (by unfold Rw.takes; rw [← HD2.out, Bool.and_false]; rfl)
  go_wp2_with (first | go_skip | (with_reducible refine stopLoad 26 rfl ?_))
  refine load_any 26 X #[.slice q n kc] 26 _ HP2.out.2.1 rfl rfl rfl Tryz.underlying26 rfl (rwSize rfl) ?_
  go_wp2_with (first | go_skip | (with_reducible refine stopStore 26 rfl ?_))
  refine store_known 26 (w.heap.size + 1 + 1) _ #[.slice q n kc] 26 HP2.out.1.res rfl rfl rfl rfl (rwSize rfl) rfl (by simp [Value.oneCell']) ?_
  go_wp2
  refine bodyPost_ret (results_row_tmp Tryz.results8 _ _ (w.heap.size + 1 + 1) _ _ _ _ rfl HP2.out.1.res.setRow Tryz.underlying26 rfl (rwSize rfl)) rfl ?_
  rw [HV.out]
  have nr : w.heap.size + 1 + 1 ∉ FX := fun hx => by have := HP2.out.2.2.2.2.ge _ hx; omega
  exact ⟨q, n, kc, FX, lo, vs, GG, rfl, ⟨q, n, kc, rfl, HP2.out.2.2.2.1.agree (Agree.row nr _), HNX.out.2⟩, (HP2.out.2.2.2.2.agree (Agree.row nr _)).mono (by omega), below_setRow HP2.out.1.bel (by omega) _, HP2.out.2.2.1.setRow (by have := HLO.out.1; omega), by have := HLO.out.1; omega⟩
 have c2 : w4.cell? ⟨w.heap.size + 1, 2, none⟩ = some (.slice p0 l0 c0) := (HP2.out.1.en.cell 2).trans HE.out.2.2.2.2.1
 go_wp2_with (first | go_skip | (with_reducible refine stopLoad 26 rfl ?_))
 refine load_any 26 w.heap.size #[.slice a n c] 26 _ HP2.out.1.box rfl rfl rfl Tryz.underlying26 rfl (rwSize rfl) ?_
 go_wp2_with fail
 refine (l10Apart_any _ x F p0 l0 c0 e.ids G1 _ (HH.out.1.below HP2.out.1.bel) (HE.out.2.2.2.2.2.below HP2.out.1.bel) HH.out.2.2.1.wide (by omega)).mono ?_
 rintro r w5 ⟨rfl, hb⟩
 have HP2 : Hid (PuX w a n c es X q kc x lo vs GG FX w5) := ⟨HP2.out.1.below hb, HP2.out.2.1.below hb, HP2.out.2.2.1.below hb, HP2.out.2.2.2.1.below hb, HP2.out.2.2.2.2.below HP2.out.2.2.2.1.lt hb⟩
 obtain ⟨d, hd⟩ : ∃ d, d = apartAll x.list e.ids := ⟨_, rfl⟩
 rw [← hd]
 have HD3 : Hid (d = apartAll x.list e.ids) := hd
 clear hd hb c2
 cases d
 ·
  have HV : Hid (x.push e join = (x, false)) := Rw.push_not (by unfold Rw.takes; rw [← HD3.out, Bool.and_false])
  go_wp2_with (first | go_skip | (with_reducible refine stopLoad 26 rfl ?_))
  refine load_any 26 X #[.slice q n kc] 26 _ HP2.out.2.1 rfl rfl rfl Tryz.underlying26 rfl (rwSize rfl) ?_
  go_wp2_with (first | go_skip | (with_reducible refine stopStore 26 rfl ?_))
  refine store_known 26 (w.heap.size + 1 + 1) _ #[.slice q n kc] 26 HP2.out.1.res rfl rfl rfl rfl (rwSize rfl) rfl (by simp [Value.oneCell']) ?_
  go_wp2
  refine bodyPost_ret (results_row_tmp Tryz.results8 _ _ (w.heap.size + 1 + 1) _ _ _ _ rfl HP2.out.1.res.setRow Tryz.underlying26 rfl (rwSize rfl)) rfl ?_
  rw [HV.out]
  have nr : w.heap.size + 1 + 1 ∉ FX := fun hx => by have := HP2.out.2.2.2.2.ge _ hx; omega
  exact ⟨q, n, kc, FX, lo, vs, GG, rfl, ⟨q, n, kc, rfl, HP2.out.2.2.2.1.agree (Agree.row nr _), HNX.out.2⟩, (HP2.out.2.2.2.2.agree (Agree.row nr _)).mono (by omega), below_setRow HP2.out.1.bel (by omega) _, HP2.out.2.2.1.setRow (by have := HLO.out.1; omega), by have := HLO.out.1; omega⟩
 have HTK : Hid (x.takes e = true) := by show _ = _; unfold Rw.takes; rw [← HD1.out, ← HD2.out, ← HD3.out]; rfl
 clear HD1 HD2 HD3
 go_upto_block 0 with fail
 go_cut [9] (fun _ wx => Hid (join = false ∨ hitAt x.list e = none) ∧ Hid (PuX w a n c es X q kc x lo vs GG FX wx))
 case first =>
  go_wp2_with fail
  go_loopw [9] (fun i wr => ∃ k : Nat, k ≤ n ∧ i = .int .i64 k ∧ (join = false → k = 0) ∧ Hid (∀ z ∈ x.list.take k, samePlace z e = false) ∧ Hid (PuX w a n c es X q kc x lo vs GG FX wr)) (fun i _ => n - (intOf i).toNat)
  case atStart => exact ⟨0, by omega, rfl, fun _ => rfl, (show ∀ z ∈ x.list.take 0, _ by simp), HP2⟩
  case round =>
   clear HP2
   obtain ⟨k, hk, rfl, hjk, HT, HP2⟩ := hrel
   have cX := HP2.out.2.1.cell 0
   have cB := HP2.out.1.box.cell 0
   simp only [aT, aZ] at cX cB
   by_cases hno : join = false ∨ k = n
   ·
    have HNO : Hid (join = false ∨ hitAt x.list e = none) := by
     rcases hno with h | h
     ·
      exact .inl h
     ·
      refine .inr (hitAt_none ?_)
      have := HT.out
      rw [List.take_of_length_le (by rw [HN.out]; omega)] at this
      exact this
    by_cases hlt : k < n
    ·
     obtain rfl : join = false := by rcases hno with h | h; exact h; omega
     have hI : (k : Int) < (n : Int) := by omega
     clear hno
     go_wp2_with fail
     go_meet
     case rel => exact ⟨HNO.out, HP2.out⟩
    ·
     have hI : ¬ (k : Int) < (n : Int) := by omega
     clear hno
     go_wp2_with fail
     go_meet
     case rel => exact ⟨HNO.out, HP2.out⟩
   ·
    have hj : join = true := by cases join; exact absurd (.inl rfl) hno; rfl
    subst hj
    have hlt : k < n := by omega
    have hI : (k : Int) < (n : Int) := by omega
    clear hno hjk
    have hrow := HP2.out.2.2.1.row.2
    obtain ⟨g, rfl⟩ : ∃ g, q = some ⟨g, 0, none⟩ := by
     rcases hrow with ⟨h0, h1⟩ | ⟨g, _, _, h1, _⟩
     ·
      injection h0 with e1 e2; omega
     ·
      injection h1 with e1; exact ⟨g, e1⟩
    clear hrow
    obtain ⟨b, off, y, cs, Fi, hq, hbw, hy, hcs, hcc, hr⟩ := ens_at HP2.out.2.2.2.1 hlt
    injection hq with hq
    injection hq with hq1 hq2
    subst hq1 hq2
    simp only [Nat.zero_add] at hcc
    have HY : Hid (x.list[k]? = some y ∧ cs.size = 10 ∧ RdE wr (.agg cs) y Fi ∧ (∀ j, j < 10 → wr.cell? ⟨g, k * 10 + j, none⟩ = cs[j]?) ∧ cs[0]? = some (.int .i64 y.key) ∧ cs[1]? = some (.int .i64 y.window) ∧ g < wr.heap.size) := by
     obtain ⟨_, _, _, _, _, _, _, _, _, _, _, _, _, _, _, ev, _⟩ := id hr
     injection ev with ev
     exact ⟨hy, hcs, hr, hcc, by rw [ev]; rfl, by rw [ev]; rfl, hbw⟩
    clear hbw hy hcs hcc hr
    go_wp2_with fail
    clear cX cB
    have HPd : Hid (PuX w a n c es X (some ⟨g, 0, none⟩) kc x lo vs GG FX wr.drew) := ⟨HP2.out.1.below (Below.refl _ _).drew, HP2.out.2.1.below (Below.refl _ _).drew, HP2.out.2.2.1.below (Below.refl _ _).drew, HP2.out.2.2.2.1.below (Below.refl _ _).drew, HP2.out.2.2.2.2.below HP2.out.2.2.2.1.lt (Below.refl _ _).drew⟩
    have HYd : Hid (RdE wr.drew (.agg cs) y Fi ∧ ∀ j, j < 10 → wr.drew.cell? ⟨g, k * 10 + j, none⟩ = cs[j]?) := ⟨HY.out.2.2.1.below (Below.refl _ _).drew, HY.out.2.2.2.1⟩
    obtain ⟨Y0, hY0⟩ : ∃ Y, Y = wr.drew := ⟨_, rfl⟩
    rw [← hY0] at HPd HYd
    clear HP2
    have cX := HPd.out.2.1.cell 0
    simp only [aT, aZ] at cX
    have c0 : Y0.cell? ⟨g, k * 10, none⟩ = some (.int .i64 y.key) := (HYd.out.2 0 (by decide)).trans HY.out.2.2.2.2.1
    have c1 : Y0.cell? ⟨g, k * 10 + 1, none⟩ = some (.int .i64 y.window) := (HYd.out.2 1 (by decide)).trans HY.out.2.2.2.2.2.1
    have e0 : Y0.cell? ⟨w.heap.size + 1, 0, none⟩ = some (.int .i64 e.key) := (HPd.out.1.en.cell 0).trans HE.out.2.2.1
    have e1 : Y0.cell? ⟨w.heap.size + 1, 1, none⟩ = some (.int .i64 e.window) := (HPd.out.1.en.cell 1).trans HE.out.2.2.2.1
    obtain ⟨d1, hd1⟩ : ∃ d, d = (y.key == e.key) := ⟨_, rfl⟩
    obtain ⟨d2, hd2⟩ : ∃ d, d = (y.window == e.window) := ⟨_, rfl⟩
    cases d1
    ·
     have hk1 : (y.key == e.key) = false := hd1.symm
     clear hd1 hd2
     refine wp_region_held (S := fun W => W = Y0) (by kernel_rfl) ?_
     change wpAnyH _ _ _ _ _ _ _ _ (World.drew _)
     rw [← hY0]
     clear hY0
     refine tm 0 (.pointer (some ⟨X, 0, none⟩)) (H := ⟨rfl, ?_⟩)
     refine tk 1 (.slice (some ⟨g, 0, none⟩) n kc) (H := ⟨(.inl ⟨rfl, fun W hW => by rw [hW]; go_simp⟩), rfl, ?_⟩)
     refine tm 2 (.int .i64 k) (H := ⟨rfl, ?_⟩)
     refine tk 3 (.pointer (some ⟨g, k * 10, none⟩)) (H := ⟨(.inl ⟨rfl, fun W _ => by go_simp; first | done | (intro h; omega) | (rw [if_pos (by omega)]; rfl)⟩), rfl, ?_⟩)
     refine tm 4 (.pointer (some ⟨g, k * 10, none⟩)) (H := ⟨rfl, ?_⟩)
     refine tk 5 (.int .i64 y.key) (H := ⟨(.inl ⟨rfl, fun W hW => by rw [hW]; go_simp⟩), rfl, ?_⟩)
     refine tm 6 (.pointer (some ⟨w.heap.size + 1, 0, none⟩)) (H := ⟨rfl, ?_⟩)
     refine tk 7 (.int .i64 e.key) (H := ⟨(.inl ⟨rfl, fun W hW => by rw [hW]; go_simp⟩), rfl, ?_⟩)
     refine tg 8 (.bool false) (H := ⟨rfl, ?_⟩)
     refine tm 9 (.bool false) (H := ⟨rfl, ?_⟩)
     refine tk 10 (undef) (H := ⟨(.inr ⟨rfl, rfl⟩), rfl, ?_⟩)
     refine tk 11 (undef) (H := ⟨(.inr ⟨rfl, rfl⟩), rfl, ?_⟩)
     refine tk 12 (undef) (H := ⟨(.inr ⟨rfl, rfl⟩), rfl, ?_⟩)
     refine tk 13 (undef) (H := ⟨(.inr ⟨rfl, rfl⟩), rfl, ?_⟩)
     refine tk 14 (undef) (H := ⟨(.inr ⟨rfl, rfl⟩), rfl, ?_⟩)
     refine tk 15 (undef) (H := ⟨(.inr ⟨rfl, rfl⟩), rfl, ?_⟩)
     refine tk 16 (undef) (H := ⟨(.inr ⟨rfl, rfl⟩), rfl, ?_⟩)
     refine tk 17 (undef) (H := ⟨(.inr ⟨rfl, rfl⟩), rfl, ?_⟩)
     refine tk 18 (undef) (H := ⟨(.inr ⟨rfl, rfl⟩), rfl, ?_⟩)
     refine tm 19 (.bool false) (H := ⟨rfl, ?_⟩)
     refine wpAnyH_done (by kernel_rfl) ?_ _
     clear cX c0 c1 e0 e1
     have HT2 : Hid (∀ z ∈ x.list.take (k + 1), samePlace z e = false) := by
      show ∀ z ∈ x.list.take (k + 1), _
      rw [take_snoc_en HY.out.1]
      intro z hz
      rcases List.mem_append.1 hz with hz | hz
      ·
       exact HT.out z hz
      ·
       obtain rfl : z = y := by simpa using hz
       show (_ && _) = false
       rw [hk1]; rfl
     go_wp2
     go_roundw
     case rel => exact ⟨k + 1, by omega, by go_num, (fun h => by cases h), HT2, HPd⟩
     case measure => simp [intOf]; omega
    ·
     have hk1 : (y.key == e.key) = true := hd1.symm
     clear hd1
     cases d2
     ·
      have hk2 : (y.window == e.window) = false := hd2.symm
      clear hd2
      refine wp_region_held (S := fun W => W = Y0) (by kernel_rfl) ?_
      change wpAnyH _ _ _ _ _ _ _ _ (World.drew _)
      rw [← hY0]
      clear hY0
      refine tm 0 (.pointer (some ⟨X, 0, none⟩)) (H := ⟨rfl, ?_⟩)
      refine tk 1 (.slice (some ⟨g, 0, none⟩) n kc) (H := ⟨(.inl ⟨rfl, fun W hW => by rw [hW]; go_simp⟩), rfl, ?_⟩)
      refine tm 2 (.int .i64 k) (H := ⟨rfl, ?_⟩)
      refine tk 3 (.pointer (some ⟨g, k * 10, none⟩)) (H := ⟨(.inl ⟨rfl, fun W _ => by go_simp; first | done | (intro h; omega) | (rw [if_pos (by omega)]; rfl)⟩), rfl, ?_⟩)
      refine tm 4 (.pointer (some ⟨g, k * 10, none⟩)) (H := ⟨rfl, ?_⟩)
      refine tk 5 (.int .i64 y.key) (H := ⟨(.inl ⟨rfl, fun W hW => by rw [hW]; go_simp⟩), rfl, ?_⟩)
      refine tm 6 (.pointer (some ⟨w.heap.size + 1, 0, none⟩)) (H := ⟨rfl, ?_⟩)
      refine tk 7 (.int .i64 e.key) (H := ⟨(.inl ⟨rfl, fun W hW => by rw [hW]; go_simp⟩), rfl, ?_⟩)
      refine tg 8 (.bool true) (H := ⟨rfl, ?_⟩)
      refine tm 9 (.bool true) (H := ⟨rfl, ?_⟩)
      refine tm 10 (.pointer (some ⟨X, 0, none⟩)) (H := ⟨rfl, ?_⟩)
      refine tk 11 (.slice (some ⟨g, 0, none⟩) n kc) (H := ⟨(.inl ⟨rfl, fun W hW => by rw [hW]; go_simp⟩), rfl, ?_⟩)
      refine tm 12 (.int .i64 k) (H := ⟨rfl, ?_⟩)
      refine tk 13 (.pointer (some ⟨g, k * 10, none⟩)) (H := ⟨(.inl ⟨rfl, fun W _ => by go_simp; first | done | (intro h; omega) | (rw [if_pos (by omega)]; rfl)⟩), rfl, ?_⟩)
      refine tm 14 (.pointer (some ⟨g, k * 10 + 1, none⟩)) (H := ⟨rfl, ?_⟩)
      refine tk 15 (.int .i64 y.window) (H := ⟨(.inl ⟨rfl, fun W hW => by rw [hW]; go_simp⟩), rfl, ?_⟩)
      refine tm 16 (.pointer (some ⟨w.heap.size + 1, 1, none⟩)) (H := ⟨rfl, ?_⟩)
      refine tk 17 (.int .i64 e.window) (H := ⟨(.inl ⟨rfl, fun W hW => by rw [hW]; go_simp⟩), rfl, ?_⟩)
      refine tg 18 (.bool false) (H := ⟨rfl, ?_⟩)
      refine tm 19 (.bool false) (H := ⟨rfl, ?_⟩)
      refine wpAnyH_done (by kernel_rfl) ?_ _
      clear cX c0 c1 e0 e1
      have HT2 : Hid (∀ z ∈ x.list.take (k + 1), samePlace z e = false) := by
       show ∀ z ∈ x.list.take (k + 1), _
       rw [take_snoc_en HY.out.1]
       intro z hz
       rcases List.mem_append.1 hz with hz | hz
       ·
        exact HT.out z hz
       ·
        obtain rfl : z = y := by simpa using hz
        show (_ && _) = false
        rw [hk1, hk2]; rfl
      go_wp2
      go_roundw
      case rel => exact ⟨k + 1, by omega, by go_num, (fun h => by cases h), HT2, HPd⟩
      case measure => simp [intOf]; omega
     ·
      have hk2 : (y.window == e.window) = true := hd2.symm
      clear hd2
      refine wp_region_held (S := fun W => W = Y0) (by kernel_rfl) ?_
      change wpAnyH _ _ _ _ _ _ _ _ (World.drew _)
      rw [← hY0]
      clear hY0
      refine tm 0 (.pointer (some ⟨X, 0, none⟩)) (H := ⟨rfl, ?_⟩)
      refine tk 1 (.slice (some ⟨g, 0, none⟩) n kc) (H := ⟨(.inl ⟨rfl, fun W hW => by rw [hW]; go_simp⟩), rfl, ?_⟩)
      refine tm 2 (.int .i64 k) (H := ⟨rfl, ?_⟩)
      refine tk 3 (.pointer (some ⟨g, k * 10, none⟩)) (H := ⟨(.inl ⟨rfl, fun W _ => by go_simp; first | done | (intro h; omega) | (rw [if_pos (by omega)]; rfl)⟩), rfl, ?_⟩)
      refine tm 4 (.pointer (some ⟨g, k * 10, none⟩)) (H := ⟨rfl, ?_⟩)
      refine tk 5 (.int .i64 y.key) (H := ⟨(.inl ⟨rfl, fun W hW => by rw [hW]; go_simp⟩), rfl, ?_⟩)
      refine tm 6 (.pointer (some ⟨w.heap.size + 1, 0, none⟩)) (H := ⟨rfl, ?_⟩)
      refine tk 7 (.int .i64 e.key) (H := ⟨(.inl ⟨rfl, fun W hW => by rw [hW]; go_simp⟩), rfl, ?_⟩)
      refine tg 8 (.bool true) (H := ⟨rfl, ?_⟩)
      refine tm 9 (.bool true) (H := ⟨rfl, ?_⟩)
      refine tm 10 (.pointer (some ⟨X, 0, none⟩)) (H := ⟨rfl, ?_⟩)
      refine tk 11 (.slice (some ⟨g, 0, none⟩) n kc) (H := ⟨(.inl ⟨rfl, fun W hW => by rw [hW]; go_simp⟩), rfl, ?_⟩)
      refine tm 12 (.int .i64 k) (H := ⟨rfl, ?_⟩)
      refine tk 13 (.pointer (some ⟨g, k * 10, none⟩)) (H := ⟨(.inl ⟨rfl, fun W _ => by go_simp; first | done | (intro h; omega) | (rw [if_pos (by omega)]; rfl)⟩), rfl, ?_⟩)
      refine tm 14 (.pointer (some ⟨g, k * 10 + 1, none⟩)) (H := ⟨rfl, ?_⟩)
      refine tk 15 (.int .i64 y.window) (H := ⟨(.inl ⟨rfl, fun W hW => by rw [hW]; go_simp⟩), rfl, ?_⟩)
      refine tm 16 (.pointer (some ⟨w.heap.size + 1, 1, none⟩)) (H := ⟨rfl, ?_⟩)
      refine tk 17 (.int .i64 e.window) (H := ⟨(.inl ⟨rfl, fun W hW => by rw [hW]; go_simp⟩), rfl, ?_⟩)
      refine tg 18 (.bool true) (H := ⟨rfl, ?_⟩)
      refine tm 19 (.bool true) (H := ⟨rfl, ?_⟩)
      refine wpAnyH_done (by kernel_rfl) ?_ _
      clear cX c0 c1 e0 e1
      have hpl : samePlace y e = true := by show (_ && _) = true; rw [hk1, hk2]; rfl
      have HV0 := Rw.push_hit HTK.out (hitAt_some HY.out.1 hpl HT.out) HY.out.1
      have HV : Hid (x.push e true = (⟨x.list.set k (y.add e)⟩, true)) := HV0.1
      have HK : Hid (y.ok = true ∧ e.ok = true ∧ y.ids.length + e.ids.length ≤ 2097152) := ⟨HV0.2.1, HV0.2.2, by have h1 := (HH.out.2.2.1.each y (List.mem_of_getElem? HY.out.1)).2; have := HH.out.2.2.2.2; omega⟩
      clear HV0 hpl hk1 hk2
      go_wp2_with fail
      have HPe : Hid (PuX w a n c es X (some ⟨g, 0, none⟩) kc x lo vs GG FX Y0.drew) := ⟨HPd.out.1.below (Below.refl _ _).drew, HPd.out.2.1.below (Below.refl _ _).drew, HPd.out.2.2.1.below (Below.refl _ _).drew, HPd.out.2.2.2.1.below (Below.refl _ _).drew, HPd.out.2.2.2.2.below HPd.out.2.2.2.1.lt (Below.refl _ _).drew⟩
      have HYe : Hid (RdE Y0.drew (.agg cs) y Fi ∧ ∀ j, j < 10 → Y0.drew.cell? ⟨g, k * 10 + j, none⟩ = cs[j]?) := ⟨HYd.out.1.below (Below.refl _ _).drew, fun j hj => HYd.out.2 j hj⟩
      obtain ⟨Y1, hY1⟩ : ∃ Y, Y = Y0.drew := ⟨_, rfl⟩
      rw [← hY1] at HPe HYe
      clear HPd HYd
      refine wp_region_held (S := fun W => Blk W (w.heap.size + 1) es 33 ∧ Blk W X #[.slice (some ⟨g, 0, none⟩) n kc] 26) (by kernel_rfl) ?_
      change wpAnyH _ _ _ _ _ _ _ _ (World.drew _)
      rw [← hY1]
      clear hY1
      refine tm 0 (.pointer (some ⟨X, 0, none⟩)) (H := ⟨⟨HPe.out.1.en, HPe.out.2.1⟩, ?_⟩)
      refine tk 1 (.slice (some ⟨g, 0, none⟩) n kc) (H := ⟨(.inl ⟨rfl, fun W hW => by have c := hW.2.cell 0; simp only [aT, aZ] at c; go_simp⟩), ⟨HPe.out.1.en, HPe.out.2.1⟩, ?_⟩)
      refine tm 2 (.int .i64 k) (H := ⟨⟨HPe.out.1.en, HPe.out.2.1⟩, ?_⟩)
      refine tm 3 (.pointer (some ⟨X, 0, none⟩)) (H := ⟨⟨HPe.out.1.en, HPe.out.2.1⟩, ?_⟩)
      refine tk 4 (.slice (some ⟨g, 0, none⟩) n kc) (H := ⟨(.inl ⟨rfl, fun W hW => by have c := hW.2.cell 0; simp only [aT, aZ] at c; go_simp⟩), ⟨HPe.out.1.en, HPe.out.2.1⟩, ?_⟩)
      refine tm 5 (.int .i64 k) (H := ⟨⟨HPe.out.1.en, HPe.out.2.1⟩, ?_⟩)
      refine tk 6 (.pointer (some ⟨g, k * 10, none⟩)) (H := ⟨(.inl ⟨rfl, fun W _ => by go_simp; first | done | (intro h; omega) | (rw [if_pos (by omega)]; rfl)⟩), ⟨HPe.out.1.en, HPe.out.2.1⟩, ?_⟩)
      refine tk 8 (.agg es) (H := ⟨(yields_at 33 (w.heap.size + 1) 0 10 es _ rfl rfl rfl Tryz.underlying33 rfl infoEnG2 HE.out.1 (fun W hW j _ => by rw [Nat.zero_add]; exact hW.1.cell j)), ⟨HPe.out.1.en, HPe.out.2.1⟩, ?_⟩)
      refine oq 7 (H := fun K hK => ?_)
      refine op_loadAt 33 g (k * 10) 10 cs _ rfl rfl rfl Tryz.underlying33 rfl infoEnG2 HY.out.2.1 HYe.out.2 (pk (h := hK _ _ ⟨⟨HPe.out.1.en, HPe.out.2.1⟩, ?_⟩))
      clear hK
      refine oq 9 (H := fun K hK => ?_)
      refine op_call2' 34 _ _ _ Tryz.f34 (fun v w' => ∃ F, RdE w' v (y.add e) F ∧ Own Y1.heap.size w' F ∧ Below Y1.heap.size Y1 w') rfl rfl Tryz.func34 (by kernel_rfl) (by kernel_rfl) ((addSpecE_any (.agg cs) (.agg es) y e Fi G Y1 HYe.out.1 (HH.out.2.1.below HPe.out.1.bel) HK.out.1 HK.out.2.1 HK.out.2.2).mono (by rintro e w' ⟨v, F, rfl, k1, k2, k3⟩; exact ⟨_, rfl, F, k1, k2, k3⟩)) ?_
      rintro vr Y2 ⟨Fr, rr, ro, rb⟩
      obtain ⟨ds, rfl, hd11, hd1⟩ := enK.cells (w := Y2) rr
      replace hd11 : ds.size = 10 := hd11
      have hgX : g < X := HLO.out.2.2.2.1 g rfl
      have hXY : X < Y1.heap.size := HPe.out.2.1.lt
      have HPf : Hid (PuR w #[.slice a n c] es 26 33 Y2 ∧ Blk Y2 X #[.slice (some ⟨g, 0, none⟩) n kc] 26) := ⟨HPe.out.1.below rb, HPe.out.2.1.below rb⟩
      obtain ⟨hge, cur, hcur, hfit, vs', H', hG, hin⟩ := (HPe.out.2.2.1.below rb).put (L := X + 1) HN.out hlt rr hd11 (ro.mono hXY) (by have := HLO.out.2.2.2.2; omega) (fun b hb => by have := HLO.out.2.2.1 b hb; omega) (by omega)
      have HC : Hid (Blk Y2 g cur 33 ∧ k * 10 + ds.size ≤ cur.size ∧ ds.size = 10 ∧ ds.all (·.oneCell') = true ∧ g < X) := ⟨hcur, by omega, hd11, hd1, hgX⟩
      refine pk (h := hK _ _ ⟨⟨HPf.out.1.en, HPf.out.2⟩, ?_⟩)
      clear hK rr ro rb hd1 hcur
      refine tk 10 (.pointer (some ⟨g, k * 10, none⟩)) (H := ⟨(.inl ⟨rfl, fun W _ => by go_simp; first | done | (intro h; omega) | (rw [if_pos (by omega)]; rfl)⟩), ⟨HPf.out.1.en, HPf.out.2⟩, ?_⟩)
      refine oq 11 (H := fun K hK => ?_)
      obtain ⟨cut, hcut⟩ : ∃ c, c = cutIn cur (k * 10) ds := ⟨_, rfl⟩
      rw [← hcut] at hG
      have hlo := HLO.out.1
      have HPg : Hid (PuR w #[.slice a n c] es 26 33 (Y2.setRow g cut) ∧ Blk (Y2.setRow g cut) X #[.slice (some ⟨g, 0, none⟩) n kc] 26) := ⟨HPf.out.1.setRow (by omega) _, HPf.out.2.setRowOther (by omega)⟩
      have HQ : Hid (∃ F1, RdL enK (Y2.setRow g cut) (some ⟨g, 0, none⟩) n (x.list.set k (y.add e)) F1 ∧ Capd (some ⟨g, 0, none⟩) n kc ∧ Own (w.heap.size + 3) (Y2.setRow g cut) F1 ∧ ∃ vs' GG', GrowL enK 33 (x.list.set k (y.add e)) lo n (.slice (some ⟨g, 0, none⟩) n kc) vs' GG' (Y2.setRow g cut)) := by
       obtain ⟨q1, d1, F1, e1, rL, oL, hcp⟩ := hG.done (by rw [List.length_set]; exact HN.out)
       injection e1 with e1 _ e3
       subst e1 e3
       exact ⟨F1, rL, hcp, oL.mono hlo, _, _, hG⟩
      clear hG hin hge hfit hd11 hgX hXY hlo
      refine op_storePart 33 g (k * 10) cur ds cut 33 HC.out.1 rfl rfl rfl rfl (by rw [HC.out.2.2.1]; exact infoEnG2) HC.out.2.1 HC.out.2.2.2.1 hcut.symm (pk (h := hK _ _ ⟨⟨HPg.out.1.en, HPg.out.2⟩, ?_⟩))
      clear hK
      refine wpAnyH_done (by kernel_rfl) ?_ _
      obtain ⟨YZ, hYZ⟩ : ∃ Z, Z = Y2.setRow g cut := ⟨_, rfl⟩
      rw [← hYZ] at HQ HPg ⊢
      clear hYZ hcut HC HPf
      obtain ⟨F1, rL, hcp, oL, hGr⟩ := HQ.out
      have HP9 : Hid (PuR w #[.slice a n c] es 26 33 YZ ∧ Blk YZ X #[.slice (some ⟨g, 0, none⟩) n kc] 26 ∧ RdL enK YZ (some ⟨g, 0, none⟩) n (x.list.set k (y.add e)) F1 ∧ Own (w.heap.size + 3) YZ F1 ∧ Capd (some ⟨g, 0, none⟩) n kc ∧ ∃ vs' GG', GrowL enK 33 (x.list.set k (y.add e)) lo n (.slice (some ⟨g, 0, none⟩) n kc) vs' GG' YZ) := ⟨HPg.out.1, HPg.out.2, rL, oL, hcp, hGr⟩
      clear rL hcp oL hGr HPg HQ
      go_wp2_with (first | go_skip | (with_reducible refine stopLoad 26 rfl ?_))
      refine load_any 26 X #[(.slice (some ⟨g, 0, none⟩) n kc)] 26 _ HP9.out.2.1 rfl rfl rfl Tryz.underlying26 rfl (rwSize rfl) ?_
      go_wp2_with (first | go_skip | (with_reducible refine stopStore 26 rfl ?_))
      refine store_known 26 (w.heap.size + 1 + 1) _ #[(.slice (some ⟨g, 0, none⟩) n kc)] 26 HP9.out.1.res rfl rfl rfl rfl (rwSize rfl) rfl (by simp [Value.oneCell']) ?_
      go_wp2
      refine bodyPost_ret (results_row_tmp Tryz.results8 _ _ (w.heap.size + 1 + 1) _ _ _ _ rfl HP9.out.1.res.setRow Tryz.underlying26 rfl (rwSize rfl)) rfl ?_
      rw [HV.out]
      have nr : w.heap.size + 1 + 1 ∉ F1 := fun hx => by have := HP9.out.2.2.2.1.ge _ hx; omega
      obtain ⟨vs', GG', hGr⟩ := HP9.out.2.2.2.2.2
      exact ⟨_, _, _, F1, lo, vs', GG', rfl, ⟨_, _, _, rfl, HP9.out.2.2.1.agree (Agree.row nr _), HP9.out.2.2.2.2.1⟩, (HP9.out.2.2.2.1.agree (Agree.row nr _)).mono (by omega), below_setRow HP9.out.1.bel (by omega) _, hGr.setRow (by have := HLO.out.1; omega), by have := HLO.out.1; omega⟩
 case rest =>
  obtain ⟨HNO, HP2⟩ := hcut
  obtain ⟨wr, hwr⟩ : ∃ W, W = wc := ⟨_, rfl⟩
  rw [← hwr] at HP2 ⊢
  clear hwr
  have cX := HP2.out.2.1.cell 0
  have cB := HP2.out.1.box.cell 0
  simp only [aT, aZ] at cX cB
  by_cases h24 : n = 24
  ·
   have hbe : ((n : Int) == 24) = true := by simp; omega
   have HV : Hid (x.push e join = (x, false)) := Rw.push_full HNO.out (by rw [HN.out]; exact h24)
   clear h24
   go_wp2_with (first | go_skip | (with_reducible refine stopLoad 26 rfl ?_))
   refine load_any 26 X #[.slice q n kc] 26 _ HP2.out.2.1 rfl rfl rfl Tryz.underlying26 rfl (rwSize rfl) ?_
   go_wp2_with (first | go_skip | (with_reducible refine stopStore 26 rfl ?_))
   refine store_known 26 (w.heap.size + 1 + 1) _ #[.slice q n kc] 26 HP2.out.1.res rfl rfl rfl rfl (rwSize rfl) rfl (by simp [Value.oneCell']) ?_
   go_wp2
   refine bodyPost_ret (results_row_tmp Tryz.results8 _ _ (w.heap.size + 1 + 1) _ _ _ _ rfl HP2.out.1.res.setRow Tryz.underlying26 rfl (rwSize rfl)) rfl ?_
   rw [HV.out]
   have nr : w.heap.size + 1 + 1 ∉ FX := fun hx => by have := HP2.out.2.2.2.2.ge _ hx; omega
   exact ⟨q, n, kc, FX, lo, vs, GG, rfl, ⟨q, n, kc, rfl, HP2.out.2.2.2.1.agree (Agree.row nr _), HNX.out.2⟩, (HP2.out.2.2.2.2.agree (Agree.row nr _)).mono (by omega), below_setRow HP2.out.1.bel (by omega) _, HP2.out.2.2.1.setRow (by have := HLO.out.1; omega), by have := HLO.out.1; omega⟩
  ·
   have hbe : ((n : Int) == 24) = false := by simp; omega
   have HV : Hid (x.push e join = (⟨x.list ++ [e]⟩, true)) := Rw.push_last HTK.out HNO.out (by rw [HN.out]; exact h24)
   clear h24
   go_wp2_with fail
   clear cX cB
   have HPd : Hid (PuX w a n c es X q kc x lo vs GG FX wr.drew) := ⟨HP2.out.1.below (Below.refl _ _).drew, HP2.out.2.1.below (Below.refl _ _).drew, HP2.out.2.2.1.below (Below.refl _ _).drew, HP2.out.2.2.2.1.below (Below.refl _ _).drew, HP2.out.2.2.2.2.below HP2.out.2.2.2.1.lt (Below.refl _ _).drew⟩
   obtain ⟨Y0, hY0⟩ : ∃ Y, Y = wr.drew := ⟨_, rfl⟩
   rw [← hY0] at HPd
   clear HP2
   refine wp_region_held (S := fun W => Blk W (w.heap.size + 1) es 33 ∧ Below w.heap.size w W) (by kernel_rfl) ?_
   change wpAnyH _ _ _ _ _ _ _ _ (World.drew _)
   rw [← hY0]
   clear hY0
   refine tm 0 (.pointer (some ⟨X, 0, none⟩)) (H := ⟨⟨HPd.out.1.en, HPd.out.1.bel⟩, ?_⟩)
   refine tk 2 (.agg es) (H := ⟨(yields_at 33 (w.heap.size + 1) 0 10 es _ rfl rfl rfl Tryz.underlying33 rfl infoEnG2 HE.out.1 (fun W hW j _ => by rw [Nat.zero_add]; exact hW.1.cell j)), ⟨HPd.out.1.en, HPd.out.1.bel⟩, ?_⟩)
   refine twoH (o := ?o109) (o' := ?p109) 1 3 (by kernel_rfl) ?h109 ?g109 ?r109 ?s109
   case h109 => simp only [aT, aS, aZ]; rfl
   case g109 => simp only [aT, aS, aZ]; rfl
   case r109 =>
    intro K hK
    have co := HPd.out.2.1.cell 0
    simp only [aT, aZ] at co
    refine op_value (.slice q n kc) rfl (by go_simp) (pk (h := hK _ _ ⟨⟨HPd.out.1.en, HPd.out.1.bel⟩, ?_⟩))
    clear hK co
    refine oq 3 (H := fun K hK => ?_)
    refine op_call1 35 _ _ Tryz.f35 (fun v w' => ∃ F, RdE w' v e F ∧ Own Y0.heap.size w' F ∧ Below Y0.heap.size Y0 w') rfl rfl Tryz.func35 (by kernel_rfl) (by kernel_rfl) ((l6Copy_en (.agg es) e G Y0 (HH.out.2.1.below HPd.out.1.bel) HH.out.2.2.2.1).mono (by rintro e w' ⟨v, F, rfl, k1, k2, k3⟩; exact ⟨_, rfl, F, k1, k2, k3⟩)) ?_
    rintro vr Yar3 ⟨Fr, rr, ro, rb⟩
    obtain ⟨ds, rfl, hd11, hd1⟩ := enK.cells (w := Yar3) rr
    have RRar3 : Hid (RdE Yar3 (.agg ds) e Fr ∧ Own (X + 1) Yar3 Fr ∧ ds.size = 10 ∧ ds.all (·.oneCell') = true) := ⟨rr, ro.mono HPd.out.2.1.lt, hd11, hd1⟩
    have HPar3 : Hid (PuX w a n c es X q kc x lo vs GG FX Yar3) := ⟨HPd.out.1.below rb, HPd.out.2.1.below rb, HPd.out.2.2.1.below rb, HPd.out.2.2.2.1.below rb, HPd.out.2.2.2.2.below HPd.out.2.2.2.1.lt rb⟩
    refine pk (h := hK _ _ ⟨⟨HPar3.out.1.en, HPar3.out.1.bel⟩, ?_⟩)
    clear hK rr ro rb hd11 hd1
    refine oq 4 (H := fun K hK => ?_)
    have bl : Below Yar3.heap.size Yar3 (Yar3.alloc (.cells ds 33)) := (Below.refl _ _).alloc (Nat.le_refl _) _
    have HPar4 : Hid (PuX w a n c es X q kc x lo vs GG FX (Yar3.alloc (.cells ds 33))) := ⟨HPar3.out.1.below bl, HPar3.out.2.1.below bl, HPar3.out.2.2.1.below bl, HPar3.out.2.2.2.1.below bl, HPar3.out.2.2.2.2.below HPar3.out.2.2.2.1.lt bl⟩
    have RRar4 : Hid (RdE (Yar3.alloc (.cells ds 33)) (.agg ds) e Fr ∧ Own (X + 1) (Yar3.alloc (.cells ds 33)) Fr ∧ ds.size = 10 ∧ ds.all (·.oneCell') = true) := ⟨RRar3.out.1.below bl, RRar3.out.2.1.below RRar3.out.1.lt bl, RRar3.out.2.2⟩
    have NWar4 : Hid (∀ j u, ds.toList[j]? = some u → ((Yar3.alloc (.cells ds 33))).cell? ((⟨Yar3.heap.size, 0, none⟩ : Addr).add j) = some u) := news_lit _ _ _
    refine op_turn (.slice (some ⟨Yar3.heap.size, 0, none⟩) 1 1) (Yar3.alloc (.cells ds 33)) rfl (by obtain ⟨_, _, _, _, _, _, _, _, _, _, _, _, _, _, _, ev, _⟩ := RRar4.out.1; injection ev with ev; rw [ev]; kernel_rfl) (pk (h := hK _ _ ⟨⟨HPar4.out.1.en, HPar4.out.1.bel⟩, ?_⟩))
    clear hK bl
    obtain ⟨Lar4, hLar4⟩ : ∃ z, z = Yar3.heap.size := ⟨_, rfl⟩
    obtain ⟨Yar4, hYar4⟩ : ∃ Z, Z = (Yar3.alloc (.cells ds 33)) := ⟨_, rfl⟩
    rw [← hYar4, ← hLar4] at NWar4
    rw [← hYar4] at HPar4 RRar4 ⊢
    rw [← hLar4]
    clear hYar4 hLar4
    refine oq 5 (H := fun K hK => ?_)
    refine op_append Yar4 rfl _ _ 24 rfl lo 33 j0 (.agg #[.int .i64 0, .int .i64 0, .slice none 0 0, .int .i64 0, .int .i64 0, .int .i64 0, .int .i64 0, .slice none 0 0, .slice none 0 0, .slice none 0 0]) 10 144 Tryz.underlying24 hj hy0 hy1 hy2 rfl (by decide) (.slice q n kc) n vs rfl HPar4.out.2.2.1.row ⟨Lar4, 0, none⟩ 1 1 ds.toList rfl (by rw [Array.length_toList, RRar4.out.2.2.1]) NWar4.out (fun u hu => (Array.all_eq_true_iff_forall_mem.1 RRar4.out.2.2.2) u (by simpa using hu)) (by decide) (by unfold maxLen; omega) (by omega) HPar4.out.2.2.1.lw _ rfl ?_
    intro g4 cp4 Yar5 hown hgrow hat _
    have hx1 : (x.list ++ [e])[n]? = some e := by rw [List.getElem?_append_right (by rw [HN.out]; exact Nat.le_refl _), HN.out, Nat.sub_self]; rfl
    have GS := (HPar4.out.2.2.1.longer (ys := x.list ++ [e]) (List.take_append_of_le_length (by rw [HN.out]; exact Nat.le_refl _))).step hx1 RRar4.out.1 RRar4.out.2.2.1 RRar4.out.2.1 (fun b hb => by have := HLO.out.2.2.1 b hb; omega) (fun b hb => by have := HLO.out.2.2.2.1 b hb; omega) (by have := HLO.out.2.2.2.2; omega) hown hgrow hat
    have hXk : Blk Yar5 X #[.slice q n kc] 26 := HPar4.out.2.1.agree (hgrow.block X HPar4.out.2.1.lt (fun e => by have := HLO.out.2.2.2.1 X e.symm; omega))
    have HPar5 : Hid (PuR w #[.slice a n c] es 26 33 Yar5 ∧ Blk Yar5 X #[.slice q n kc] 26) := ⟨HPar4.out.1.grown hgrow (fun b hb => by have h1 := (HPar4.out.2.2.1.row.lt b hb).1; have := HLO.out.1; omega), hXk⟩
    have HQ : Hid (∃ F1, RdL enK (Yar5.setCell ⟨X, 0, none⟩ (.slice (some ⟨g4, 0, none⟩) (n + 1) cp4)) (some ⟨g4, 0, none⟩) (n + 1) (x.list ++ [e]) F1 ∧ Capd (some ⟨g4, 0, none⟩) (n + 1) cp4 ∧ Own (w.heap.size + 3) (Yar5.setCell ⟨X, 0, none⟩ (.slice (some ⟨g4, 0, none⟩) (n + 1) cp4)) F1 ∧ PuR w #[.slice a n c] es 26 33 (Yar5.setCell ⟨X, 0, none⟩ (.slice (some ⟨g4, 0, none⟩) (n + 1) cp4)) ∧ Blk (Yar5.setCell ⟨X, 0, none⟩ (.slice (some ⟨g4, 0, none⟩) (n + 1) cp4)) X #[(.slice (some ⟨g4, 0, none⟩) (n + 1) cp4)] 26 ∧ ∃ vs' GG', GrowL enK 33 (x.list ++ [e]) lo (n + 1) (.slice (some ⟨g4, 0, none⟩) (n + 1) cp4) vs' GG' (Yar5.setCell ⟨X, 0, none⟩ (.slice (some ⟨g4, 0, none⟩) (n + 1) cp4))) := by
     obtain ⟨q1, d1, F1, e1, rL, oL, hcp, hin⟩ := GS.done2 (by rw [List.length_append, HN.out]; rfl)
     injection e1 with e1 _ e3
     subst e1 e3
     have hnx : X ∉ F1 := fun hx => by
      rcases hin X hx with h1 | h1
      ·
       have h2 : g4 = X := by simpa [Value.ownBlock] using h1
       rcases hat with h3 | h3
       ·
        have := HLO.out.2.2.2.1 g4 h3; omega
       ·
        have := HPar4.out.2.1.lt; omega
      ·
       rcases List.mem_append.1 h1 with h1 | h1
       ·
        have := HLO.out.2.2.1 X h1; omega
       ·
        have := RRar4.out.2.1.ge X h1; omega
     have hnv : ∀ b, (Value.slice (some ⟨g4, 0, none⟩) (n + 1) cp4).ownBlock = some b → b ≠ X := fun b hb ex => by
      have h2 : g4 = X := by have h0 : g4 = b := by simpa [Value.ownBlock] using hb
                             omega
      rcases hat with h3 | h3
      ·
       have := HLO.out.2.2.2.1 g4 h3; omega
      ·
       have := HPar4.out.2.1.lt; omega
     have hng : X ∉ GG ++ Fr := fun h1 => by
      rcases List.mem_append.1 h1 with h1 | h1
      ·
       have := HLO.out.2.2.1 X h1; omega
      ·
       have := RRar4.out.2.1.ge X h1; omega
     exact ⟨F1, rL.agree (.set hnx _ _), hcp, (oL.agree (.set hnx _ _)).mono HLO.out.1, HPar5.out.1.setCell HLO.out.2.1 _, HPar5.out.2.set 0 _, _, _, GS.setX hnv hng⟩
    have co := HPar5.out.2.cell 0
    have fo := HPar5.out.2.frozen 0
    simp only [aT, aZ] at co
    refine pk (h := hK _ _ ⟨⟨HPar5.out.1.en, HPar5.out.1.bel⟩, ?_⟩)
    clear hK hown hgrow hat GS hXk hx1
    refine tm 6 (.pointer (some ⟨X, 0, none⟩)) (H := ⟨⟨HPar5.out.1.en, HPar5.out.1.bel⟩, ?_⟩)
    refine oq 7 (H := fun K hK => ?_)
    refine op_skip (Yar5.setCell ⟨X, 0, none⟩ (.slice (some ⟨g4, 0, none⟩) (n + 1) cp4)) rfl (by go_simp) (pk (h := hK _ _ ⟨⟨HQ.out.choose_spec.2.2.2.1.en, HQ.out.choose_spec.2.2.2.1.bel⟩, ?_⟩))
    clear hK co fo
    refine wpAnyH_done (by kernel_rfl) ?_ _
    obtain ⟨YZ, hYZ⟩ : ∃ Z, Z = (Yar5.setCell ⟨X, 0, none⟩ (.slice (some ⟨g4, 0, none⟩) (n + 1) cp4)) := ⟨_, rfl⟩
    rw [← hYZ] at HQ ⊢
    clear hYZ HPar5 HPar4
    obtain ⟨F1, rL, hcp, oL, hPu, hXb, hGr⟩ := HQ.out
    have HP9 : Hid (PuR w #[.slice a n c] es 26 33 YZ ∧ Blk YZ X #[(.slice (some ⟨g4, 0, none⟩) (n + 1) cp4)] 26 ∧ RdL enK YZ (some ⟨g4, 0, none⟩) (n + 1) (x.list ++ [e]) F1 ∧ Own (w.heap.size + 3) YZ F1 ∧ Capd (some ⟨g4, 0, none⟩) (n + 1) cp4 ∧ ∃ vs' GG', GrowL enK 33 (x.list ++ [e]) lo (n + 1) (.slice (some ⟨g4, 0, none⟩) (n + 1) cp4) vs' GG' YZ) := ⟨hPu, hXb, rL, oL, hcp, hGr⟩
    clear rL hcp oL hPu hXb hGr HQ
    go_wp2_with (first | go_skip | (with_reducible refine stopLoad 26 rfl ?_))
    refine load_any 26 X #[(.slice (some ⟨g4, 0, none⟩) (n + 1) cp4)] 26 _ HP9.out.2.1 rfl rfl rfl Tryz.underlying26 rfl (rwSize rfl) ?_
    go_wp2_with (first | go_skip | (with_reducible refine stopStore 26 rfl ?_))
    refine store_known 26 (w.heap.size + 1 + 1) _ #[(.slice (some ⟨g4, 0, none⟩) (n + 1) cp4)] 26 HP9.out.1.res rfl rfl rfl rfl (rwSize rfl) rfl (by simp [Value.oneCell']) ?_
    go_wp2
    refine bodyPost_ret (results_row_tmp Tryz.results8 _ _ (w.heap.size + 1 + 1) _ _ _ _ rfl HP9.out.1.res.setRow Tryz.underlying26 rfl (rwSize rfl)) rfl ?_
    rw [HV.out]
    have nr : w.heap.size + 1 + 1 ∉ F1 := fun hx => by have := HP9.out.2.2.2.1.ge _ hx; omega
    obtain ⟨vs', GG', hGr⟩ := HP9.out.2.2.2.2.2
    exact ⟨_, _, _, F1, lo, vs', GG', rfl, ⟨_, _, _, rfl, HP9.out.2.2.1.agree (Agree.row nr _), HP9.out.2.2.2.2.1⟩, (HP9.out.2.2.2.1.agree (Agree.row nr _)).mono (by omega), below_setRow HP9.out.1.bel (by omega) _, hGr.setRow (by have := HLO.out.1; omega), by have := HLO.out.1; omega⟩
   case s109 =>
    intro K hK
    refine op_call1 35 _ _ Tryz.f35 (fun v w' => ∃ F, RdE w' v e F ∧ Own Y0.heap.size w' F ∧ Below Y0.heap.size Y0 w') rfl rfl Tryz.func35 (by kernel_rfl) (by kernel_rfl) ((l6Copy_en (.agg es) e G Y0 (HH.out.2.1.below HPd.out.1.bel) HH.out.2.2.2.1).mono (by rintro e w' ⟨v, F, rfl, k1, k2, k3⟩; exact ⟨_, rfl, F, k1, k2, k3⟩)) ?_
    rintro vr Yas3 ⟨Fr, rr, ro, rb⟩
    obtain ⟨ds, rfl, hd11, hd1⟩ := enK.cells (w := Yas3) rr
    have RRas3 : Hid (RdE Yas3 (.agg ds) e Fr ∧ Own (X + 1) Yas3 Fr ∧ ds.size = 10 ∧ ds.all (·.oneCell') = true) := ⟨rr, ro.mono HPd.out.2.1.lt, hd11, hd1⟩
    have HPas3 : Hid (PuX w a n c es X q kc x lo vs GG FX Yas3) := ⟨HPd.out.1.below rb, HPd.out.2.1.below rb, HPd.out.2.2.1.below rb, HPd.out.2.2.2.1.below rb, HPd.out.2.2.2.2.below HPd.out.2.2.2.1.lt rb⟩
    refine pk (h := hK _ _ ⟨⟨HPas3.out.1.en, HPas3.out.1.bel⟩, ?_⟩)
    clear hK rr ro rb hd11 hd1
    refine twoH (o := ?o115) (o' := ?p115) 1 4 (by kernel_rfl) ?h115 ?g115 ?r115 ?s115
    case h115 => simp only [aT, aS, aZ]; rfl
    case g115 => simp only [aT, aS, aZ]; rfl
    case r115 =>
     intro K hK
     have co := HPas3.out.2.1.cell 0
     simp only [aT, aZ] at co
     refine op_value (.slice q n kc) rfl (by go_simp) (pk (h := hK _ _ ⟨⟨HPas3.out.1.en, HPas3.out.1.bel⟩, ?_⟩))
     clear hK co
     refine oq 4 (H := fun K hK => ?_)
     have bl : Below Yas3.heap.size Yas3 (Yas3.alloc (.cells ds 33)) := (Below.refl _ _).alloc (Nat.le_refl _) _
     have HPasr4 : Hid (PuX w a n c es X q kc x lo vs GG FX (Yas3.alloc (.cells ds 33))) := ⟨HPas3.out.1.below bl, HPas3.out.2.1.below bl, HPas3.out.2.2.1.below bl, HPas3.out.2.2.2.1.below bl, HPas3.out.2.2.2.2.below HPas3.out.2.2.2.1.lt bl⟩
     have RRasr4 : Hid (RdE (Yas3.alloc (.cells ds 33)) (.agg ds) e Fr ∧ Own (X + 1) (Yas3.alloc (.cells ds 33)) Fr ∧ ds.size = 10 ∧ ds.all (·.oneCell') = true) := ⟨RRas3.out.1.below bl, RRas3.out.2.1.below RRas3.out.1.lt bl, RRas3.out.2.2⟩
     have NWasr4 : Hid (∀ j u, ds.toList[j]? = some u → ((Yas3.alloc (.cells ds 33))).cell? ((⟨Yas3.heap.size, 0, none⟩ : Addr).add j) = some u) := news_lit _ _ _
     refine op_turn (.slice (some ⟨Yas3.heap.size, 0, none⟩) 1 1) (Yas3.alloc (.cells ds 33)) rfl (by obtain ⟨_, _, _, _, _, _, _, _, _, _, _, _, _, _, _, ev, _⟩ := RRasr4.out.1; injection ev with ev; rw [ev]; kernel_rfl) (pk (h := hK _ _ ⟨⟨HPasr4.out.1.en, HPasr4.out.1.bel⟩, ?_⟩))
     clear hK bl
     obtain ⟨Lasr4, hLasr4⟩ : ∃ z, z = Yas3.heap.size := ⟨_, rfl⟩
     obtain ⟨Yasr4, hYasr4⟩ : ∃ Z, Z = (Yas3.alloc (.cells ds 33)) := ⟨_, rfl⟩
     rw [← hYasr4, ← hLasr4] at NWasr4
     rw [← hYasr4] at HPasr4 RRasr4 ⊢
     rw [← hLasr4]
     clear hYasr4 hLasr4
     refine oq 5 (H := fun K hK => ?_)
     refine op_append Yasr4 rfl _ _ 24 rfl lo 33 j0 (.agg #[.int .i64 0, .int .i64 0, .slice none 0 0, .int .i64 0, .int .i64 0, .int .i64 0, .int .i64 0, .slice none 0 0, .slice none 0 0, .slice none 0 0]) 10 144 Tryz.underlying24 hj hy0 hy1 hy2 rfl (by decide) (.slice q n kc) n vs rfl HPasr4.out.2.2.1.row ⟨Lasr4, 0, none⟩ 1 1 ds.toList rfl (by rw [Array.length_toList, RRasr4.out.2.2.1]) NWasr4.out (fun u hu => (Array.all_eq_true_iff_forall_mem.1 RRasr4.out.2.2.2) u (by simpa using hu)) (by decide) (by unfold maxLen; omega) (by omega) HPasr4.out.2.2.1.lw _ rfl ?_
     intro g4 cp4 Yasr5 hown hgrow hat _
     have hx1 : (x.list ++ [e])[n]? = some e := by rw [List.getElem?_append_right (by rw [HN.out]; exact Nat.le_refl _), HN.out, Nat.sub_self]; rfl
     have GS := (HPasr4.out.2.2.1.longer (ys := x.list ++ [e]) (List.take_append_of_le_length (by rw [HN.out]; exact Nat.le_refl _))).step hx1 RRasr4.out.1 RRasr4.out.2.2.1 RRasr4.out.2.1 (fun b hb => by have := HLO.out.2.2.1 b hb; omega) (fun b hb => by have := HLO.out.2.2.2.1 b hb; omega) (by have := HLO.out.2.2.2.2; omega) hown hgrow hat
     have hXk : Blk Yasr5 X #[.slice q n kc] 26 := HPasr4.out.2.1.agree (hgrow.block X HPasr4.out.2.1.lt (fun e => by have := HLO.out.2.2.2.1 X e.symm; omega))
     have HPasr5 : Hid (PuR w #[.slice a n c] es 26 33 Yasr5 ∧ Blk Yasr5 X #[.slice q n kc] 26) := ⟨HPasr4.out.1.grown hgrow (fun b hb => by have h1 := (HPasr4.out.2.2.1.row.lt b hb).1; have := HLO.out.1; omega), hXk⟩
     have HQ : Hid (∃ F1, RdL enK (Yasr5.setCell ⟨X, 0, none⟩ (.slice (some ⟨g4, 0, none⟩) (n + 1) cp4)) (some ⟨g4, 0, none⟩) (n + 1) (x.list ++ [e]) F1 ∧ Capd (some ⟨g4, 0, none⟩) (n + 1) cp4 ∧ Own (w.heap.size + 3) (Yasr5.setCell ⟨X, 0, none⟩ (.slice (some ⟨g4, 0, none⟩) (n + 1) cp4)) F1 ∧ PuR w #[.slice a n c] es 26 33 (Yasr5.setCell ⟨X, 0, none⟩ (.slice (some ⟨g4, 0, none⟩) (n + 1) cp4)) ∧ Blk (Yasr5.setCell ⟨X, 0, none⟩ (.slice (some ⟨g4, 0, none⟩) (n + 1) cp4)) X #[(.slice (some ⟨g4, 0, none⟩) (n + 1) cp4)] 26 ∧ ∃ vs' GG', GrowL enK 33 (x.list ++ [e]) lo (n + 1) (.slice (some ⟨g4, 0, none⟩) (n + 1) cp4) vs' GG' (Yasr5.setCell ⟨X, 0, none⟩ (.slice (some ⟨g4, 0, none⟩) (n + 1) cp4))) := by
      obtain ⟨q1, d1, F1, e1, rL, oL, hcp, hin⟩ := GS.done2 (by rw [List.length_append, HN.out]; rfl)
      injection e1 with e1 _ e3
      subst e1 e3
      have hnx : X ∉ F1 := fun hx => by
       rcases hin X hx with h1 | h1
       ·
        have h2 : g4 = X := by simpa [Value.ownBlock] using h1
        rcases hat with h3 | h3
        ·
         have := HLO.out.2.2.2.1 g4 h3; omega
        ·
         have := HPasr4.out.2.1.lt; omega
       ·
        rcases List.mem_append.1 h1 with h1 | h1
        ·
         have := HLO.out.2.2.1 X h1; omega
        ·
         have := RRasr4.out.2.1.ge X h1; omega
      have hnv : ∀ b, (Value.slice (some ⟨g4, 0, none⟩) (n + 1) cp4).ownBlock = some b → b ≠ X := fun b hb ex => by
       have h2 : g4 = X := by have h0 : g4 = b := by simpa [Value.ownBlock] using hb
                              omega
       rcases hat with h3 | h3
       ·
        have := HLO.out.2.2.2.1 g4 h3; omega
       ·
        have := HPasr4.out.2.1.lt; omega
      have hng : X ∉ GG ++ Fr := fun h1 => by
       rcases List.mem_append.1 h1 with h1 | h1
       ·
        have := HLO.out.2.2.1 X h1; omega
       ·
        have := RRasr4.out.2.1.ge X h1; omega
      exact ⟨F1, rL.agree (.set hnx _ _), hcp, (oL.agree (.set hnx _ _)).mono HLO.out.1, HPasr5.out.1.setCell HLO.out.2.1 _, HPasr5.out.2.set 0 _, _, _, GS.setX hnv hng⟩
     have co := HPasr5.out.2.cell 0
     have fo := HPasr5.out.2.frozen 0
     simp only [aT, aZ] at co
     refine pk (h := hK _ _ ⟨⟨HPasr5.out.1.en, HPasr5.out.1.bel⟩, ?_⟩)
     clear hK hown hgrow hat GS hXk hx1
     refine tm 6 (.pointer (some ⟨X, 0, none⟩)) (H := ⟨⟨HPasr5.out.1.en, HPasr5.out.1.bel⟩, ?_⟩)
     refine oq 7 (H := fun K hK => ?_)
     refine op_skip (Yasr5.setCell ⟨X, 0, none⟩ (.slice (some ⟨g4, 0, none⟩) (n + 1) cp4)) rfl (by go_simp) (pk (h := hK _ _ ⟨⟨HQ.out.choose_spec.2.2.2.1.en, HQ.out.choose_spec.2.2.2.1.bel⟩, ?_⟩))
     clear hK co fo
     refine wpAnyH_done (by kernel_rfl) ?_ _
     obtain ⟨YZ, hYZ⟩ : ∃ Z, Z = (Yasr5.setCell ⟨X, 0, none⟩ (.slice (some ⟨g4, 0, none⟩) (n + 1) cp4)) := ⟨_, rfl⟩
     rw [← hYZ] at HQ ⊢
     clear hYZ HPasr5 HPasr4
     obtain ⟨F1, rL, hcp, oL, hPu, hXb, hGr⟩ := HQ.out
     have HP9 : Hid (PuR w #[.slice a n c] es 26 33 YZ ∧ Blk YZ X #[(.slice (some ⟨g4, 0, none⟩) (n + 1) cp4)] 26 ∧ RdL enK YZ (some ⟨g4, 0, none⟩) (n + 1) (x.list ++ [e]) F1 ∧ Own (w.heap.size + 3) YZ F1 ∧ Capd (some ⟨g4, 0, none⟩) (n + 1) cp4 ∧ ∃ vs' GG', GrowL enK 33 (x.list ++ [e]) lo (n + 1) (.slice (some ⟨g4, 0, none⟩) (n + 1) cp4) vs' GG' YZ) := ⟨hPu, hXb, rL, oL, hcp, hGr⟩
     clear rL hcp oL hPu hXb hGr HQ
     go_wp2_with (first | go_skip | (with_reducible refine stopLoad 26 rfl ?_))
     refine load_any 26 X #[(.slice (some ⟨g4, 0, none⟩) (n + 1) cp4)] 26 _ HP9.out.2.1 rfl rfl rfl Tryz.underlying26 rfl (rwSize rfl) ?_
     go_wp2_with (first | go_skip | (with_reducible refine stopStore 26 rfl ?_))
     refine store_known 26 (w.heap.size + 1 + 1) _ #[(.slice (some ⟨g4, 0, none⟩) (n + 1) cp4)] 26 HP9.out.1.res rfl rfl rfl rfl (rwSize rfl) rfl (by simp [Value.oneCell']) ?_
     go_wp2
     refine bodyPost_ret (results_row_tmp Tryz.results8 _ _ (w.heap.size + 1 + 1) _ _ _ _ rfl HP9.out.1.res.setRow Tryz.underlying26 rfl (rwSize rfl)) rfl ?_
     rw [HV.out]
     have nr : w.heap.size + 1 + 1 ∉ F1 := fun hx => by have := HP9.out.2.2.2.1.ge _ hx; omega
     obtain ⟨vs', GG', hGr⟩ := HP9.out.2.2.2.2.2
     exact ⟨_, _, _, F1, lo, vs', GG', rfl, ⟨_, _, _, rfl, HP9.out.2.2.1.agree (Agree.row nr _), HP9.out.2.2.2.2.1⟩, (HP9.out.2.2.2.1.agree (Agree.row nr _)).mono (by omega), below_setRow HP9.out.1.bel (by omega) _, hGr.setRow (by have := HLO.out.1; omega), by have := HLO.out.1; omega⟩
    case s115 =>
     intro K hK
     have bl : Below Yas3.heap.size Yas3 (Yas3.alloc (.cells ds 33)) := (Below.refl _ _).alloc (Nat.le_refl _) _
     have HPass4 : Hid (PuX w a n c es X q kc x lo vs GG FX (Yas3.alloc (.cells ds 33))) := ⟨HPas3.out.1.below bl, HPas3.out.2.1.below bl, HPas3.out.2.2.1.below bl, HPas3.out.2.2.2.1.below bl, HPas3.out.2.2.2.2.below HPas3.out.2.2.2.1.lt bl⟩
     have RRass4 : Hid (RdE (Yas3.alloc (.cells ds 33)) (.agg ds) e Fr ∧ Own (X + 1) (Yas3.alloc (.cells ds 33)) Fr ∧ ds.size = 10 ∧ ds.all (·.oneCell') = true) := ⟨RRas3.out.1.below bl, RRas3.out.2.1.below RRas3.out.1.lt bl, RRas3.out.2.2⟩
     have NWass4 : Hid (∀ j u, ds.toList[j]? = some u → ((Yas3.alloc (.cells ds 33))).cell? ((⟨Yas3.heap.size, 0, none⟩ : Addr).add j) = some u) := news_lit _ _ _
     refine op_turn (.slice (some ⟨Yas3.heap.size, 0, none⟩) 1 1) (Yas3.alloc (.cells ds 33)) rfl (by obtain ⟨_, _, _, _, _, _, _, _, _, _, _, _, _, _, _, ev, _⟩ := RRass4.out.1; injection ev with ev; rw [ev]; kernel_rfl) (pk (h := hK _ _ ⟨⟨HPass4.out.1.en, HPass4.out.1.bel⟩, ?_⟩))
     clear hK bl
     obtain ⟨Lass4, hLass4⟩ : ∃ z, z = Yas3.heap.size := ⟨_, rfl⟩
     obtain ⟨Yass4, hYass4⟩ : ∃ Z, Z = (Yas3.alloc (.cells ds 33)) := ⟨_, rfl⟩
     rw [← hYass4, ← hLass4] at NWass4
     rw [← hYass4] at HPass4 RRass4 ⊢
     rw [← hLass4]
     clear hYass4 hLass4
     refine oq 1 (H := fun K hK => ?_)
     have co := HPass4.out.2.1.cell 0
     simp only [aT, aZ] at co
     refine op_value (.slice q n kc) rfl (by go_simp) (pk (h := hK _ _ ⟨⟨HPass4.out.1.en, HPass4.out.1.bel⟩, ?_⟩))
     clear hK co
     refine oq 5 (H := fun K hK => ?_)
     refine op_append Yass4 rfl _ _ 24 rfl lo 33 j0 (.agg #[.int .i64 0, .int .i64 0, .slice none 0 0, .int .i64 0, .int .i64 0, .int .i64 0, .int .i64 0, .slice none 0 0, .slice none 0 0, .slice none 0 0]) 10 144 Tryz.underlying24 hj hy0 hy1 hy2 rfl (by decide) (.slice q n kc) n vs rfl HPass4.out.2.2.1.row ⟨Lass4, 0, none⟩ 1 1 ds.toList rfl (by rw [Array.length_toList, RRass4.out.2.2.1]) NWass4.out (fun u hu => (Array.all_eq_true_iff_forall_mem.1 RRass4.out.2.2.2) u (by simpa using hu)) (by decide) (by unfold maxLen; omega) (by omega) HPass4.out.2.2.1.lw _ rfl ?_
     intro g4 cp4 Yass5 hown hgrow hat _
     have hx1 : (x.list ++ [e])[n]? = some e := by rw [List.getElem?_append_right (by rw [HN.out]; exact Nat.le_refl _), HN.out, Nat.sub_self]; rfl
     have GS := (HPass4.out.2.2.1.longer (ys := x.list ++ [e]) (List.take_append_of_le_length (by rw [HN.out]; exact Nat.le_refl _))).step hx1 RRass4.out.1 RRass4.out.2.2.1 RRass4.out.2.1 (fun b hb => by have := HLO.out.2.2.1 b hb; omega) (fun b hb => by have := HLO.out.2.2.2.1 b hb; omega) (by have := HLO.out.2.2.2.2; omega) hown hgrow hat
     have hXk : Blk Yass5 X #[.slice q n kc] 26 := HPass4.out.2.1.agree (hgrow.block X HPass4.out.2.1.lt (fun e => by have := HLO.out.2.2.2.1 X e.symm; omega))
     have HPass5 : Hid (PuR w #[.slice a n c] es 26 33 Yass5 ∧ Blk Yass5 X #[.slice q n kc] 26) := ⟨HPass4.out.1.grown hgrow (fun b hb => by have h1 := (HPass4.out.2.2.1.row.lt b hb).1; have := HLO.out.1; omega), hXk⟩
     have HQ : Hid (∃ F1, RdL enK (Yass5.setCell ⟨X, 0, none⟩ (.slice (some ⟨g4, 0, none⟩) (n + 1) cp4)) (some ⟨g4, 0, none⟩) (n + 1) (x.list ++ [e]) F1 ∧ Capd (some ⟨g4, 0, none⟩) (n + 1) cp4 ∧ Own (w.heap.size + 3) (Yass5.setCell ⟨X, 0, none⟩ (.slice (some ⟨g4, 0, none⟩) (n + 1) cp4)) F1 ∧ PuR w #[.slice a n c] es 26 33 (Yass5.setCell ⟨X, 0, none⟩ (.slice (some ⟨g4, 0, none⟩) (n + 1) cp4)) ∧ Blk (Yass5.setCell ⟨X, 0, none⟩ (.slice (some ⟨g4, 0, none⟩) (n + 1) cp4)) X #[(.slice (some ⟨g4, 0, none⟩) (n + 1) cp4)] 26 ∧ ∃ vs' GG', GrowL enK 33 (x.list ++ [e]) lo (n + 1) (.slice (some ⟨g4, 0, none⟩) (n + 1) cp4) vs' GG' (Yass5.setCell ⟨X, 0, none⟩ (.slice (some ⟨g4, 0, none⟩) (n + 1) cp4))) := by
      obtain ⟨q1, d1, F1, e1, rL, oL, hcp, hin⟩ := GS.done2 (by rw [List.length_append, HN.out]; rfl)
      injection e1 with e1 _ e3
      subst e1 e3
      have hnx : X ∉ F1 := fun hx => by
       rcases hin X hx with h1 | h1
       ·
        have h2 : g4 = X := by simpa [Value.ownBlock] using h1
        rcases hat with h3 | h3
        ·
         have := HLO.out.2.2.2.1 g4 h3; omega
        ·
         have := HPass4.out.2.1.lt; omega
       ·
        rcases List.mem_append.1 h1 with h1 | h1
        ·
         have := HLO.out.2.2.1 X h1; omega
        ·
         have := RRass4.out.2.1.ge X h1; omega
      have hnv : ∀ b, (Value.slice (some ⟨g4, 0, none⟩) (n + 1) cp4).ownBlock = some b → b ≠ X := fun b hb ex => by
       have h2 : g4 = X := by have h0 : g4 = b := by simpa [Value.ownBlock] using hb
                              omega
       rcases hat with h3 | h3
       ·
        have := HLO.out.2.2.2.1 g4 h3; omega
       ·
        have := HPass4.out.2.1.lt; omega
      have hng : X ∉ GG ++ Fr := fun h1 => by
       rcases List.mem_append.1 h1 with h1 | h1
       ·
        have := HLO.out.2.2.1 X h1; omega
       ·
        have := RRass4.out.2.1.ge X h1; omega
      exact ⟨F1, rL.agree (.set hnx _ _), hcp, (oL.agree (.set hnx _ _)).mono HLO.out.1, HPass5.out.1.setCell HLO.out.2.1 _, HPass5.out.2.set 0 _, _, _, GS.setX hnv hng⟩
     have co := HPass5.out.2.cell 0
     have fo := HPass5.out.2.frozen 0
     simp only [aT, aZ] at co
     refine pk (h := hK _ _ ⟨⟨HPass5.out.1.en, HPass5.out.1.bel⟩, ?_⟩)
     clear hK hown hgrow hat GS hXk hx1
     refine tm 6 (.pointer (some ⟨X, 0, none⟩)) (H := ⟨⟨HPass5.out.1.en, HPass5.out.1.bel⟩, ?_⟩)
     refine oq 7 (H := fun K hK => ?_)
     refine op_skip (Yass5.setCell ⟨X, 0, none⟩ (.slice (some ⟨g4, 0, none⟩) (n + 1) cp4)) rfl (by go_simp) (pk (h := hK _ _ ⟨⟨HQ.out.choose_spec.2.2.2.1.en, HQ.out.choose_spec.2.2.2.1.bel⟩, ?_⟩))
     clear hK co fo
     refine wpAnyH_done (by kernel_rfl) ?_ _
     obtain ⟨YZ, hYZ⟩ : ∃ Z, Z = (Yass5.setCell ⟨X, 0, none⟩ (.slice (some ⟨g4, 0, none⟩) (n + 1) cp4)) := ⟨_, rfl⟩
     rw [← hYZ] at HQ ⊢
     clear hYZ HPass5 HPass4
     obtain ⟨F1, rL, hcp, oL, hPu, hXb, hGr⟩ := HQ.out
     have HP9 : Hid (PuR w #[.slice a n c] es 26 33 YZ ∧ Blk YZ X #[(.slice (some ⟨g4, 0, none⟩) (n + 1) cp4)] 26 ∧ RdL enK YZ (some ⟨g4, 0, none⟩) (n + 1) (x.list ++ [e]) F1 ∧ Own (w.heap.size + 3) YZ F1 ∧ Capd (some ⟨g4, 0, none⟩) (n + 1) cp4 ∧ ∃ vs' GG', GrowL enK 33 (x.list ++ [e]) lo (n + 1) (.slice (some ⟨g4, 0, none⟩) (n + 1) cp4) vs' GG' YZ) := ⟨hPu, hXb, rL, oL, hcp, hGr⟩
     clear rL hcp oL hPu hXb hGr HQ
     go_wp2_with (first | go_skip | (with_reducible refine stopLoad 26 rfl ?_))
     refine load_any 26 X #[(.slice (some ⟨g4, 0, none⟩) (n + 1) cp4)] 26 _ HP9.out.2.1 rfl rfl rfl Tryz.underlying26 rfl (rwSize rfl) ?_
     go_wp2_with (first | go_skip | (with_reducible refine stopStore 26 rfl ?_))
     refine store_known 26 (w.heap.size + 1 + 1) _ #[(.slice (some ⟨g4, 0, none⟩) (n + 1) cp4)] 26 HP9.out.1.res rfl rfl rfl rfl (rwSize rfl) rfl (by simp [Value.oneCell']) ?_
     go_wp2
     refine bodyPost_ret (results_row_tmp Tryz.results8 _ _ (w.heap.size + 1 + 1) _ _ _ _ rfl HP9.out.1.res.setRow Tryz.underlying26 rfl (rwSize rfl)) rfl ?_
     rw [HV.out]
     have nr : w.heap.size + 1 + 1 ∉ F1 := fun hx => by have := HP9.out.2.2.2.1.ge _ hx; omega
     obtain ⟨vs', GG', hGr⟩ := HP9.out.2.2.2.2.2
     exact ⟨_, _, _, F1, lo, vs', GG', rfl, ⟨_, _, _, rfl, HP9.out.2.2.1.agree (Agree.row nr _), HP9.out.2.2.2.2.1⟩, (HP9.out.2.2.2.1.agree (Agree.row nr _)).mono (by omega), below_setRow HP9.out.1.bel (by omega) _, hGr.setRow (by have := HLO.out.1; omega), by have := HLO.out.1; omega⟩
end
section
open Go.RowKit
end
section
open Go.RowKit
end
section
open Go.RowKit
end
section
open Go.RowKit
end
section
open Go.RowKit Go.WideShapes Go.ChangeShapes Go.ChangeAt Go.Deep
section
variable {α : Type} {K : ElK α} {w : World}
end
end
section
open Go.RowKit Go.WideShapes Go.ChangeShapes Go.ChangeAt Go.Deep
end
section
open Go.RowKit
theorem Sk.many_nonneg (s : Sk) : 0 ≤ s.many := by
 have := sumLen_nonneg s.rows
 unfold Sk.many
 omega
end
section
open Go.RowKit
section
variable {α : Type} {K : ElK α} {w w' : World}
end
end
section
open Go.RowKit
def En.manyS (y : En) : Int := 6 + 2 * y.ids.length + y.sk.many
def ensMany : List En → Int
 | [] => 0
 | y :: xs => y.manyS + ensMany xs
theorem En.manyS_nonneg (y : En) : 0 ≤ y.manyS := by have := Sk.many_nonneg y.sk; unfold En.manyS; omega
theorem ensMany_nonneg : ∀ xs : List En, 0 ≤ ensMany xs
 | [] => by simp [ensMany]
 | y :: xs => by have := En.manyS_nonneg y; have := ensMany_nonneg xs; simp only [ensMany]; omega
end
section
open Go.RowKit Go.WideShapes Go.ChangeShapes Go.ChangeAt Go.Deep
theorem ensMany_size : ∀ xs : List En, ensMany xs ≤ 6 * xs.length + 2 * ensSize xs
 | [] => by simp [ensMany, ensSize, sumOfL]
 | y :: xs => by
  have h := ensMany_size xs
  have h0 := sumLen_nonneg y.sk.rows
  have h1 : y.sk.many ≤ y.sk.size := by unfold Sk.size Sk.many; omega
  have h2 := Sk.many_nonneg y.sk
  unfold ensSize at h ⊢
  simp only [ensMany, sumOfL, List.length_cons, En.manyS, En.wt]
  unfold En.wt at h
  omega
end
section
open Go.RowKit
theorem Rw.ids_len {x : Rw} (h : x.fits) : x.ids.length ≤ 1048576 := by
 unfold Rw.ids
 split
 ·
  rename_i hok
  exact idsTo_len h (Nat.le_refl _) (Rw.ok_parts hok).2
 ·
  simp
end
section
open Go.RowKit
def Rw.pops (x : Rw) : Bool := x.ok && decide (0 < x.list.length)
def Rw.first (x : Rw) : En := if x.pops = true then x.list.headD En.zero else En.zero
def Rw.rest (x : Rw) : Rw := if x.pops = true then ⟨x.list.tail⟩ else x
def NewPop (w : World) (x : Rw) (e : Ending) (w' : World) : Prop := ∃ v u F G, e = .returned (.tuple #[v, u, .bool x.pops]) ∧ RdE w' v x.first F ∧ RdRw w' u x.rest G ∧ Own w.heap.size w' F ∧ Own w.heap.size w' G ∧ (∀ b ∈ F, b ∉ G) ∧ Below w.heap.size w w'
theorem Rw.pop_not {x : Rw} (h : x.pops = false) : x.first = En.zero ∧ x.rest = x := by unfold Rw.first Rw.rest; rw [h]; exact ⟨rfl, rfl⟩
theorem Rw.pop_yes {x : Rw} {y : En} {ys : List En} (h : x.pops = true) (e : x.list = y :: ys) : x.first = y ∧ x.rest = ⟨ys⟩ := by unfold Rw.first Rw.rest; rw [h, e]; exact ⟨rfl, rfl⟩
structure Pop3 (w : World) (tA tB tE : TypeId) (A : Array Value) (W : World) : Prop where
 box : Blk W w.heap.size A tA
 ra : Blk W (w.heap.size + 1) #[.int .i64 0, .int .i64 0, .slice none 0 0, .int .i64 0, .int .i64 0, .int .i64 0, .int .i64 0, .slice none 0 0, .slice none 0 0, .slice none 0 0] tE
 rb : Blk W (w.heap.size + 1 + 1) #[.slice none 0 0] tB
 bel : Below w.heap.size w W
theorem Pop3.below {w W W' : World} {tA tB tE : TypeId} {A : Array Value} (h : Pop3 w tA tB tE A W) (b : Below W.heap.size W W') : Pop3 w tA tB tE A W' := ⟨h.box.below b, h.ra.below b, h.rb.below b, Below.next h.bel b⟩
theorem Pop3.made (w : World) (tA tB tE : TypeId) (A : Array Value) : Pop3 w tA tB tE A (((w.alloc (.cells A tA)).alloc (.cells #[.int .i64 0, .int .i64 0, .slice none 0 0, .int .i64 0, .int .i64 0, .int .i64 0, .int .i64 0, .slice none 0 0, .slice none 0 0, .slice none 0 0] tE)).alloc (.cells #[.slice none 0 0] tB)) := by
 have s1 : (w.alloc (.cells A tA)).heap.size = w.heap.size + 1 := by simp
 have s2 : ((w.alloc (.cells A tA)).alloc (.cells #[.int .i64 0, .int .i64 0, .slice none 0 0, .int .i64 0, .int .i64 0, .int .i64 0, .int .i64 0, .slice none 0 0, .slice none 0 0, .slice none 0 0] tE)).heap.size = w.heap.size + 1 + 1 := by simp
 refine ⟨((Blk.made w A tA).alloc _).alloc _, ?_, ?_, (((Below.refl _ _).alloc (Nat.le_refl _) _).alloc (by omega) _).alloc (by omega) _⟩
 ·
  have := Blk.made (w.alloc (.cells A tA)) #[.int .i64 0, .int .i64 0, .slice none 0 0, .int .i64 0, .int .i64 0, .int .i64 0, .int .i64 0, .slice none 0 0, .slice none 0 0, .slice none 0 0] tE
  rw [s1] at this
  exact this.alloc _
 ·
  have := Blk.made ((w.alloc (.cells A tA)).alloc (.cells #[.int .i64 0, .int .i64 0, .slice none 0 0, .int .i64 0, .int .i64 0, .int .i64 0, .int .i64 0, .slice none 0 0, .slice none 0 0, .slice none 0 0] tE)) #[.slice none 0 0] tB
  rw [s2] at this
  exact this
theorem rdE_zero (W : World) : RdE W (.agg #[.int .i64 0, .int .i64 0, .slice none 0 0, .int .i64 0, .int .i64 0, .int .i64 0, .int .i64 0, .slice none 0 0, .slice none 0 0, .slice none 0 0]) En.zero [] := ⟨[], [], rfl, rdEn_zero W⟩
theorem RdL.uncons {w : World} {a : Option Addr} {n : Nat} {y : En} {ys : List En} {F : List Nat} (h : RdL enK w a n (y :: ys) F) : ∃ b off cs F1 F2, a = some ⟨b, off, none⟩ ∧ n = ys.length + 1 ∧ F = b :: (F1 ++ F2) ∧ b < w.heap.size ∧ cs.size = 10 ∧ (∀ j, j < 10 → w.cell? ⟨b, off + j, none⟩ = cs[j]?) ∧ RdE w (.agg cs) y F1 ∧ RdEls enK w b ys (off + 10) F2 := by
 rcases h.cells with ⟨h0, _⟩ | ⟨b, off, F', hp, rfl, rfl, he⟩
 ·
  have := h.length; simp at this; omega
 ·
  have hb := he.first
  obtain ⟨cs, F1, F2, h1, h2, h3, h4, rfl⟩ := he
  exact ⟨b, off, cs, F1, F2, rfl, by have := h.length; simp at this; omega, rfl, hb, h1, h2, h3, h4⟩
theorem Own.three {lo b : Nat} {w : World} {F1 F2 : List Nat} (h : Own lo w (b :: (F1 ++ F2))) : Own lo w F1 ∧ Own lo w F2 ∧ Own lo w (b :: F2) ∧ (∀ x ∈ F1, x ∉ b :: F2) ∧ b ∉ F1 ∧ b ∉ F2 ∧ lo ≤ b := by
 have hb := (List.nodup_cons.1 h.nodup).1
 have h' : Own lo w (F1 ++ F2) := ⟨(List.nodup_cons.1 h.nodup).2, fun x hx q => h.free x (List.mem_cons_of_mem _ hx) q, fun x hx => h.ge x (List.mem_cons_of_mem _ hx)⟩
 have b1 : b ∉ F1 := fun hx => hb (List.mem_append_left _ hx)
 have b2 : b ∉ F2 := fun hx => hb (List.mem_append_right _ hx)
 refine ⟨h'.left, h'.right, ⟨List.nodup_cons.2 ⟨b2, h'.right.nodup⟩, fun x hx q => ?_, fun x hx => ?_⟩, fun x hx q => ?_, b1, b2, h.ge b List.mem_cons_self⟩
 ·
  rcases List.mem_cons.1 hx with rfl | hx
  ·
   exact h.free x List.mem_cons_self q
  ·
   exact h'.right.free x hx q
 ·
  rcases List.mem_cons.1 hx with rfl | hx
  ·
   exact h.ge x List.mem_cons_self
  ·
   exact h'.right.ge x hx
 ·
  rcases List.mem_cons.1 q with rfl | q
  ·
   exact b1 hx
  ·
   exact h'.apart x hx q
end
section
open Go.RowKit
end
section
open Go.RowKit
section
variable {P : Program} {ops : Array Oper} {Q : Exit → Act → World → Prop} {a : Act} {w : World} {o : Oper} {K : Act → World → Prop}
theorem op_call3v (f : FuncId) (x y p : Operand) (ts : Array TypeId) (fn : Func) (R : Value → World → Prop) (hw : Region.wanted o (yielded ops a.tmps) = true) (ho : o.op = Op.call { callee := Callee.value (Operand.func f), args := #[x, y, p], argTypes := ts })
 (hfn : P.funcs[f]? = some fn) (hnm : (fn.name == "runtime.NumGoroutine") = false) (hbd : fn.body.isNone = false) (hc : Calls P f #[a.eval x, a.eval y, a.eval p] w fun e w' => ∃ v, e = .returned v ∧ R v w') (h : ∀ v w', R v w' → ∃ a', a.put o.dst v = a' ∧ K a' w') : if Region.wanted o (yielded ops a.tmps) = true then Oper.wp P o a w K Q else K (a.put o.dst undef) w := by
 rw [if_pos hw]
 have hnm' : ¬ fn.name = "runtime.NumGoroutine" := by simpa using hnm
 have hbd' : ¬ fn.body = none := by intro e; rw [e] at hbd; cases hbd
 unfold Oper.wp
 simp only [execOp, ho, resolve, invoke, Oper.upon, go_sem]
 simp [callFunc, hfn, hnm', hbd', go_sem]
 simp [Act.eval, go_sem] at hc
 refine Calls.mono hc ?_
 rintro e w1 ⟨v, rfl, hR⟩
 obtain ⟨_, rfl, hk⟩ := h v w1 hR
 exact hk
end
end
section
set_option maxRecDepth 200000
set_option maxHeartbeats 16000000
open Go.RowKit
theorem GrowL.grown {α : Type} {K : ElK α} {e : TypeId} {xs : List α} {lo k q : Nat} {v : Value} {vs : List Value} {G : List Nat} {W W' : World} (h : GrowL K e xs lo k v vs G W) (g : W.grownBy W' (some q)) (hq : q < lo) : GrowL K e xs lo k v vs G W' := by
 have ag : Agree W W' G := fun b hb => g.block b (h.rd.lt b hb) (fun e => by have := h.og.ge _ hb; simp at e; omega)
 refine ⟨⟨h.row.1, ?_⟩, h.rd.agree ag, h.og.agree ag, h.ap, Nat.le_trans h.lw g.size⟩
 rcases h.row.2 with q' | ⟨g', cap, cur, h1, h2, h3, h4⟩
 ·
  exact .inl q'
 ·
  refine .inr ⟨g', cap, cur, h1, h2, ?_, h4⟩
  rw [g.block g' (h.row.lt g' (by rw [h1]; rfl)).2 (fun e => by simp at e; omega)]
  exact h3
section
variable {P : Program} {ops : Array Oper} {Q : Exit → Act → World → Prop} {a : Act} {w : World} {o : Oper} {K : Act → World → Prop}
theorem op_loadR (ty : TypeId) (g : Nat) (cells : Array Value) (t : TypeId) (d : TypeDesc) {x : Operand} (hg : Blk w g cells t) (hw : Region.wanted o (yielded ops a.tmps) = true) (ho : o.op = .load ty x) (hx : a.eval x = .pointer (some ⟨g, 0, none⟩))
 (hu : P.underlying ty = some d) (hd : (match d with | .struct _ | .array _ _ => true | _ => false) = true) (hi : (P.info? ty).map (·.size) = some cells.size)
 (h : ∃ a', a.put o.dst (.agg cells) = a' ∧ K a' w) : if Region.wanted o (yielded ops a.tmps) = true then Oper.wp P o a w K Q else K (a.put o.dst undef) w := by
 obtain ⟨_, rfl, h⟩ := h
 rw [if_pos hw]
 exact wp_load_row ty x ho g hx t cells (0, 0) d hg hu hd hi h
end
def SmR (xs : List En) (k : Nat) : Prop := xs.length ≤ k ∧ ensSize xs ≤ 27 * (k : Int)
theorem SmR.nil : SmR [] 0 := ⟨Nat.le_refl _, by simp [ensSize, sumOfL]⟩
theorem SmR.up {xs : List En} {k m : Nat} (h : SmR xs k) (hm : k ≤ m) : SmR xs m := ⟨Nat.le_trans h.1 hm, by have := h.2; omega⟩
theorem SmR.push {xs : List En} {k : Nat} {y : En} (h : SmR xs k) (hy : y.wt ≤ 27) (j : Bool) : SmR ((Rw.mk xs).push y j).1.list (k + 1) := by
 obtain ⟨p1, p2, _⟩ := pushL_size xs y j
 unfold Rw.push
 split
 ·
  exact ⟨by have := h.1; show (pushL xs y j).length ≤ _; omega, by have := h.2; show ensSize (pushL xs y j) ≤ _; omega⟩
 ·
  exact h.up (Nat.le_succ k)
theorem SmR.size {xs : List En} {k : Nat} {y : En} (h : SmR xs k) (hk : k ≤ 10) (hy : y.wt ≤ 1000000) : (Rw.mk xs).size + y.wt ≤ 1048576 := by
 have := h.1; have := h.2
 show (xs.length : Int) + ensSize xs + y.wt ≤ _
 omega
theorem entry_wt (ag : Int) (x : It) : (x.entry ag).wt ≤ 27 := by
 cases h : x.entryOk ag
 ·
  rw [It.entry_not h]; decide
 ·
  rw [It.entry_yes h]
  have hk : x.ok = true := by unfold It.entryOk at h; simp only [Bool.and_eq_true] at h; first | exact h.1.1 | exact h.1 | exact h.2 | exact h.1.2
  have := sk_ok_size (It.ok_sk hk)
  show ((([(idOf ag x.seq, idOf ag x.seq)] : Sp).length : Nat) : Int) + x.sk.size ≤ 27
  rw [this]
  simp
structure LocR (w : World) (q : Nat) (a : Option Addr) (len cap : Nat) (zs : List Int) (i h : Int) (L : Nat) (xs : List En) (b : Option Addr) (n c : Nat) (lo : Nat) (vs : List Value) (GG : List Nat) (W : World) : Prop where
 held : HeldR w q a len cap zs i h #[.slice none 0 0] 26 W
 loc : Blk W L #[.slice b n c] 26
 gr : GrowL enK 33 xs lo n (.slice b n c) vs GG W
 ln : xs.length = n
 gt : w.heap.size < L
 gl : L < lo
section
variable {w W W' : World} {q : Nat} {a : Option Addr} {len cap : Nat} {zs : List Int} {i h i' h' : Int} {L : Nat} {xs : List En} {b : Option Addr} {n c : Nat} {lo : Nat} {vs : List Value} {GG : List Nat}
theorem LocR.next (H : LocR w q a len cap zs i h L xs b n c lo vs GG W) (hq : q < w.heap.size) (C : Cur W' q a len cap zs i' h') (g : W.grownBy W' (some q)) : LocR w q a len cap zs i' h' L xs b n c lo vs GG W' := by
 have gt := H.gt
 have gl := H.gl
 exact ⟨H.held.next hq C g, H.loc.grown g (by omega), H.gr.grown g (by omega), H.ln, H.gt, H.gl⟩
theorem LocR.below (H : LocR w q a len cap zs i h L xs b n c lo vs GG W) (k : Below W.heap.size W W') : LocR w q a len cap zs i h L xs b n c lo vs GG W' :=
 ⟨H.held.below k, H.loc.below k, H.gr.below k, H.ln, H.gt, H.gl⟩
theorem LocR.rd (H : LocR w q a len cap zs i h L xs b n c lo vs GG W) : ∃ F, RdRw W (.agg #[.slice b n c]) ⟨xs⟩ F := by
 obtain ⟨a', c', F, e, r, _, k⟩ := H.gr.done H.ln
 injection e with e1 e2 e3
 subst e1 e3
 exact ⟨F, _, _, _, rfl, r, k⟩
theorem LocR.cell (H : LocR w q a len cap zs i h L xs b n c lo vs GG W) (hq : q < w.heap.size) (ha : (∀ b, (∃ off, a = some ⟨b, off, none⟩ ∧ 0 < len) → b < w.heap.size)) {X j : Nat} {v : Value} (hX : w.heap.size < X) (hL : X ≠ L) (hv : ∀ g, (Value.slice b n c).ownBlock = some g → g ≠ X) (hG : X ∉ GG) : LocR w q a len cap zs i h L xs b n c lo vs GG (W.setCell ⟨X, j, none⟩ v) := by
 have gt := H.gt
 exact ⟨⟨H.held.res.setOther (by omega) j v, cur_cell H.held.cur (by omega) (fun b hb => by have := ha b hb; omega), grown_cell H.held.grown (by omega)⟩, H.loc.setOther (by omega) j v, H.gr.setX hv hG, H.ln, H.gt, H.gl⟩
theorem LocR.whole (H : LocR w q a len cap zs i h L xs b n c lo vs GG W) (hq : q < w.heap.size) (ha : (∀ b, (∃ off, a = some ⟨b, off, none⟩ ∧ 0 < len) → b < w.heap.size)) {ys : List En} {b' : Option Addr} {n' c' lo' : Nat} {vs' : List Value} {GG' : List Nat} (hg : GrowL enK 33 ys lo' n' (.slice b' n' c') vs' GG' W) (hl : ys.length = n') (hlo : L < lo') : LocR w q a len cap zs i h L ys b' n' c' lo' vs' GG' (W.setRow L #[.slice b' n' c']) := by
 have gt := H.gt
 exact ⟨⟨H.held.res.setRowOther (by omega), cur_row H.held.cur (by omega) (fun b hb => by have := ha b hb; omega), grown_row H.held.grown (by omega)⟩, H.loc.setRow, hg.setRow hlo, hl, H.gt, hlo⟩
end
def DrewR (w : World) (q : Nat) (a : Option Addr) (len cap : Nat) (zs : List Int) (k : Nat) (e : Ending) (w' : World) : Prop :=
 ∃ b n c lo vs GG xs i' h', e = .returned (.agg #[.slice b n c]) ∧ GrowL enK 33 xs lo n (.slice b n c) vs GG w' ∧ xs.length = n ∧ w.heap.size < lo ∧ SmR xs k ∧ Cur w' q a len cap zs i' h' ∧ w.grownBy w' (some q)
theorem LocR.done {w W : World} {q : Nat} {a : Option Addr} {len cap : Nat} {zs : List Int} {i h : Int} {L : Nat} {xs : List En} {b : Option Addr} {n c : Nat} {lo : Nat} {vs : List Value} {GG : List Nat} {k : Nat} (H : LocR w q a len cap zs i h L xs b n c lo vs GG W) (hs : SmR xs k) (hq : q < w.heap.size) (ha : (∀ b, (∃ off, a = some ⟨b, off, none⟩ ∧ 0 < len) → b < w.heap.size)) : DrewR w q a len cap zs k (.returned (.agg #[.slice b n c])) (W.setRow w.heap.size #[.slice b n c]) := by
 have gt := H.gt
 have gl := H.gl
 exact ⟨b, n, c, lo, vs, GG, xs, i, h, rfl, H.gr.setRow (by omega), H.ln, by omega, hs, cur_row H.held.cur (by omega) (fun b hb => by have := ha b hb; omega), grown_row H.held.grown (Nat.le_refl _)⟩
theorem infoItRd : (Tryz.prog.info? 91).map (·.size) = some 11 := by kernel_rfl
theorem infoEnRd : (Tryz.prog.info? 33).map (·.size) = some 10 := by kernel_rfl
theorem infoRwRd : (Tryz.prog.info? 26).map (·.size) = some 1 := by kernel_rfl
theorem l10Right_any (q : Nat) (a : Option Addr) (len cap : Nat) (zs : List Int) (i h : Int) (w : World) (C : Cur w q a len cap zs i h) (hlen : len ≤ 1048576) :
 Calls Tryz.prog 56 #[.pointer (some ⟨q, 0, none⟩)] w fun e w' => DrewR w q a len cap zs 5 e w' := by
 have hq : q < w.heap.size := World.block_lt_of_cell? _ _ C.c0
 have HA : Hid (∀ b, (∃ off, a = some ⟨b, off, none⟩ ∧ 0 < len) → b < w.heap.size) := cur_lt C
 have H0 : Hid (HeldR w q a len cap zs i h #[.slice none 0 0] 26 (w.alloc (.cells #[.slice none 0 0] 26))) := HeldR.made C _ _
 clear C
 go_enter Tryz.func56, Tryz.ntmps56
 obtain ⟨w0, hw0⟩ : ∃ W, W = w.alloc (.cells #[.slice none 0 0] 26) := ⟨_, rfl⟩
 go_wp2_with (first | go_skip | (with_reducible refine stopLoad 26 rfl ?_) | (with_reducible refine stopStore 26 rfl ?_) | (with_reducible refine stopLoad 33 rfl ?_) | (with_reducible refine stopStore 33 rfl ?_) | (with_reducible refine stopLoad 91 rfl ?_) | (with_reducible refine stopStore 91 rfl ?_))
 rw [← hw0] at H0 ⊢
 have hs0 : w0.heap.size = w.heap.size + 1 := by rw [hw0]; simp
 refine store_fresh 26 (w.heap.size + 1) hs0 #[.slice none 0 0] #[.slice none 0 0] 26 rfl rfl rfl rfl infoRwRd rfl (by simp [Value.oneCell']) ?_
 intro w1 hg1 hb1
 have H1 : Hid (LocR w q a len cap zs i h (w.heap.size + 1) [] none 0 0 (w.heap.size + 1 + 1) [] [] w1) := ⟨H0.out.below hb1, hg1, GrowL.start hg1.lt, rfl, by omega, by omega⟩
 obtain ⟨L, hL⟩ : ∃ L, L = w.heap.size + 1 := ⟨_, rfl⟩
 rw [← hL] at H1 ⊢
 clear hg1 hb1 H0 hL hs0
 go_wp2_with fail
 refine (l1Below_any q a len cap zs i h 6 _ H1.out.held.cur hlen (by omega) (by omega)).mono ?_
 rintro e w2 ⟨m, i2, h2, rfl, m0, m1, C2, g2⟩
 have H2 : Hid (LocR w q a len cap zs i2 h2 L [] none 0 0 (L + 1) [] [] w2) := H1.out.next hq C2 g2
 clear C2 g2 H1
 go_wp2_with fail
 refine (l1Below_any q a len cap zs i2 h2 3 _ H2.out.held.cur hlen (by omega) (by omega)).mono ?_
 rintro e w3 ⟨ag, i3, h3, rfl, _, _, C3, g3⟩
 have H3 : Hid (LocR w q a len cap zs i3 h3 L [] none 0 0 (L + 1) [] [] w3) := H2.out.next hq C3 g3
 clear C3 g3 H2
 go_wp2
 go_loopw [6] (fun i wr => ∃ (k : Nat) (xs : List En) (b : Option Addr) (n c lo : Nat) (vs : List Value) (GG : List Nat) (i' h' : Int), (k : Int) ≤ m ∧ i = .int .i64 k ∧ Hid (LocR w q a len cap zs i' h' L xs b n c lo vs GG wr) ∧ Hid (SmR xs k)) (fun i _ => (m - intOf i).toNat)
 case atStart => exact ⟨0, [], none, 0, 0, _, [], [], i3, h3, by omega, rfl, H3, SmR.nil⟩
 case round =>
  clear H3
  obtain ⟨k, xs, b, n, c, lo, vs, GG, i7, h7, hk, rfl, HD, HS⟩ := hrel
  by_cases hlt : (k : Int) < m
  ·
   have hcd : decide ((k : Int) < m) = true := decT hlt
   go_wp2_with fail
   refine (l6Right_any q a len cap zs i7 h7 _ HD.out.held.cur hlen).mono ?_
   rintro e w7 ⟨v, x, F5, i8, h8, rfl, r5, s5, o5, C5, g5⟩
   have lLr : L < wr.heap.size := HD.out.loc.lt
   obtain ⟨e1, m1', f1, e2, m2, f2, e3, m3, f3, rfl, rs⟩ := r5
   have H7 : Hid (LocR w q a len cap zs i8 h8 L xs b n c lo vs GG w7 ∧ RdSk w7 (.agg #[.int .i64 x.sk.count, .int .i64 x.sk.sum, .int .i64 x.sk.min, .int .i64 x.sk.max, .slice e1 m1' f1, .slice e2 m2 f2, .slice e3 m3 f3]) x.sk F5 ∧ x.sk.full ∧ ∀ y ∈ F5, L < y) := ⟨HD.out.next hq C5 g5, rs, s5, fun y hy => by have := o5.ge y hy; omega⟩
   clear HD C5 g5 rs s5 o5 lLr
   go_wp2_with (first | go_skip | (with_reducible refine stopLoad 26 rfl ?_) | (with_reducible refine stopStore 26 rfl ?_) | (with_reducible refine stopLoad 33 rfl ?_) | (with_reducible refine stopStore 33 rfl ?_) | (with_reducible refine stopLoad 91 rfl ?_) | (with_reducible refine stopStore 91 rfl ?_))
   refine store_fresh 91 w7.heap.size rfl #[.int .i64 0, .int .i64 0, .int .i64 0, .int .i64 0, .int .i64 0, .int .i64 0, .int .i64 0, .int .i64 0, .slice none 0 0, .slice none 0 0, .slice none 0 0] #[.int .i64 x.seq, .int .i64 x.cls, .int .i64 x.key, .int .i64 x.window, .int .i64 x.sk.count, .int .i64 x.sk.sum, .int .i64 x.sk.min, .int .i64 x.sk.max, .slice e1 m1' f1, .slice e2 m2 f2, .slice e3 m3 f3] 91 rfl rfl rfl rfl infoItRd rfl (by simp [Value.oneCell']) ?_
   intro w8 hg8 hb8
   have H8 : Hid (LocR w q a len cap zs i8 h8 L xs b n c lo vs GG w8 ∧ RdSk w8 (.agg #[.int .i64 x.sk.count, .int .i64 x.sk.sum, .int .i64 x.sk.min, .int .i64 x.sk.max, .slice e1 m1' f1, .slice e2 m2 f2, .slice e3 m3 f3]) x.sk F5 ∧ x.sk.full ∧ (∀ y ∈ F5, L < y) ∧ Blk w8 w7.heap.size #[.int .i64 x.seq, .int .i64 x.cls, .int .i64 x.key, .int .i64 x.window, .int .i64 x.sk.count, .int .i64 x.sk.sum, .int .i64 x.sk.min, .int .i64 x.sk.max, .slice e1 m1' f1, .slice e2 m2 f2, .slice e3 m3 f3] 91 ∧ w7.heap.size ∉ F5 ∧ L < w7.heap.size ∧ w7.heap.size ∉ GG ∧ ∀ g, (Value.slice b n c).ownBlock = some g → g ≠ w7.heap.size) := ⟨H7.out.1.below hb8, H7.out.2.1.below hb8, H7.out.2.2.1, H7.out.2.2.2, hg8, fun hx => by have := H7.out.2.1.lt _ hx; omega, H7.out.1.loc.lt, fun hx => by have := H7.out.1.gr.lts.1 _ hx; omega, fun g hg => by have := H7.out.1.gr.lts.2.1 g hg; omega⟩
   obtain ⟨J, hJ⟩ : ∃ J, J = w7.heap.size := ⟨_, rfl⟩
   rw [← hJ] at H8 ⊢
   clear hg8 hb8 hJ H7
   go_wp2_with fail
   refine (l1Below_any q a len cap zs i8 h8 30 _ H8.out.1.held.cur hlen (by omega) (by omega)).mono ?_
   rintro e w9 ⟨z, i9, h9, rfl, z0, z1, C9, g9⟩
   have qJ : q < L := by have := H8.out.1.gt; omega
   have H9 : Hid (LocR w q a len cap zs i9 h9 L xs b n c lo vs GG w9 ∧ RdSk w9 (.agg #[.int .i64 x.sk.count, .int .i64 x.sk.sum, .int .i64 x.sk.min, .int .i64 x.sk.max, .slice e1 m1' f1, .slice e2 m2 f2, .slice e3 m3 f3]) x.sk F5 ∧ x.sk.full ∧ (∀ y ∈ F5, L < y) ∧ Blk w9 J #[.int .i64 x.seq, .int .i64 x.cls, .int .i64 x.key, .int .i64 x.window, .int .i64 x.sk.count, .int .i64 x.sk.sum, .int .i64 x.sk.min, .int .i64 x.sk.max, .slice e1 m1' f1, .slice e2 m2 f2, .slice e3 m3 f3] 91 ∧ J ∉ F5 ∧ L < J ∧ J ∉ GG ∧ ∀ g, (Value.slice b n c).ownBlock = some g → g ≠ J) := ⟨H8.out.1.next hq C9 g9, H8.out.2.1.agree (fun y hy => g9.block y (H8.out.2.1.lt y hy) (fun e => by have := H8.out.2.2.2.1 y hy; simp at e; omega)), H8.out.2.2.1, H8.out.2.2.2.1, H8.out.2.2.2.2.1.grown g9 (by have := H8.out.2.2.2.2.2.2.1; omega), H8.out.2.2.2.2.2⟩
   obtain ⟨zo, hzo⟩ : ∃ n, n = 1 + z := ⟨_, rfl⟩
   have d0 := H9.out.2.2.2.2.1.cell 0
   have fz0 := H9.out.2.2.2.2.1.frozen 0
   simp only [aT, aZ] at d0
   clear C9 g9 H8
   go_wp2_with (first | go_skip | (with_reducible refine stopLoad 26 rfl ?_) | (with_reducible refine stopStore 26 rfl ?_) | (with_reducible refine stopLoad 33 rfl ?_) | (with_reducible refine stopStore 33 rfl ?_) | (with_reducible refine stopLoad 91 rfl ?_) | (with_reducible refine stopStore 91 rfl ?_))
   rw [← hzo]
   have HE0 : LocR w q a len cap zs i9 h9 L xs b n c lo vs GG (w9.setCell ⟨J, 0, none⟩ (.int .i64 zo)) ∧ RdSk (w9.setCell ⟨J, 0, none⟩ (.int .i64 zo)) (.agg #[.int .i64 x.sk.count, .int .i64 x.sk.sum, .int .i64 x.sk.min, .int .i64 x.sk.max, .slice e1 m1' f1, .slice e2 m2 f2, .slice e3 m3 f3]) x.sk F5 ∧ Blk (w9.setCell ⟨J, 0, none⟩ (.int .i64 zo)) J #[.int .i64 zo, .int .i64 x.cls, .int .i64 x.key, .int .i64 x.window, .int .i64 x.sk.count, .int .i64 x.sk.sum, .int .i64 x.sk.min, .int .i64 x.sk.max, .slice e1 m1' f1, .slice e2 m2 f2, .slice e3 m3 f3] 91 := ⟨H9.out.1.cell hq HA.out (by have := H9.out.1.gt; have := H9.out.2.2.2.2.2.2.1; omega) (by have := H9.out.2.2.2.2.2.2.1; omega) H9.out.2.2.2.2.2.2.2.2 H9.out.2.2.2.2.2.2.2.1, H9.out.2.1.agree (.set H9.out.2.2.2.2.2.1 0 _), H9.out.2.2.2.2.1.set 0 _⟩
   obtain ⟨WE, hWE⟩ : ∃ W, W = w9.setCell ⟨J, 0, none⟩ (.int .i64 zo) := ⟨_, rfl⟩
   rw [← hWE] at HE0 ⊢
   have HE : Hid (LocR w q a len cap zs i9 h9 L xs b n c lo vs GG WE ∧ RdSk WE (.agg #[.int .i64 x.sk.count, .int .i64 x.sk.sum, .int .i64 x.sk.min, .int .i64 x.sk.max, .slice e1 m1' f1, .slice e2 m2 f2, .slice e3 m3 f3]) x.sk F5 ∧ Blk WE J #[.int .i64 zo, .int .i64 x.cls, .int .i64 x.key, .int .i64 x.window, .int .i64 x.sk.count, .int .i64 x.sk.sum, .int .i64 x.sk.min, .int .i64 x.sk.max, .slice e1 m1' f1, .slice e2 m2 f2, .slice e3 m3 f3] 91 ∧ x.sk.full) := ⟨HE0.1, HE0.2.1, HE0.2.2, H9.out.2.2.1⟩
   clear HE0 hWE H9 d0 fz0 hzo z0 z1
   refine load_known 91 J _ 91 _ HE.out.2.2.1 rfl rfl rfl Tryz.underlying91 rfl infoItRd ?_
   go_wp2_with fail
   obtain ⟨y, hy⟩ : ∃ y, y = (It.mk zo x.cls x.key x.window x.sk).entry ag := ⟨_, rfl⟩
   have HY : Hid (y.wt ≤ 27) := by show _ ≤ _; rw [hy]; exact entry_wt _ _
   refine (entryOfSpec_any ag _ (It.mk zo x.cls x.key x.window x.sk) F5 _ ⟨e1, m1', f1, e2, m2, f2, e3, m3, f3, rfl, HE.out.2.1⟩ (full_wideE HE.out.2.2.2)).mono ?_
   rintro e w10 ⟨v10, F6, G6, rfl, r10, oF6, oG6, _, b10⟩
   have qW : q < WE.heap.size := by have := HE.out.1.loc.lt; omega
   rw [← hy] at r10
   obtain ⟨ec, rfl, hec, hec1⟩ := RdE.cells ⟨F6, G6, rfl, r10⟩
   have H10 : Hid (LocR w q a len cap zs i9 h9 L xs b n c lo vs GG w10 ∧ RdE w10 (.agg ec) y (F6 ++ G6) ∧ ec.size = 10 ∧ ec.all (·.oneCell') = true ∧ ∀ b ∈ F6 ++ G6, b ≠ q) := ⟨HE.out.1.below b10, ⟨F6, G6, rfl, r10⟩, hec, hec1, fun b hb => (List.mem_append.1 hb).elim (fun hb => by have := oF6.ge b hb; omega) (fun hb => by have := oG6.ge b hb; omega)⟩
   clear r10 b10 hec hec1 HE hy oF6 oG6 qW
   go_wp2_with (first | go_skip | (with_reducible refine stopLoad 26 rfl ?_) | (with_reducible refine stopStore 26 rfl ?_) | (with_reducible refine stopLoad 33 rfl ?_) | (with_reducible refine stopStore 33 rfl ?_) | (with_reducible refine stopLoad 91 rfl ?_) | (with_reducible refine stopStore 91 rfl ?_))
   refine store_fresh 33 w10.heap.size rfl #[.int .i64 0, .int .i64 0, .slice none 0 0, .int .i64 0, .int .i64 0, .int .i64 0, .int .i64 0, .slice none 0 0, .slice none 0 0, .slice none 0 0] ec 33 rfl rfl rfl rfl (by rw [H10.out.2.2.1]; exact infoEnRd) (by rw [H10.out.2.2.1]; rfl) H10.out.2.2.2.1 ?_
   intro w11 hg11 hb11
   have H11 : Hid (LocR w q a len cap zs i9 h9 L xs b n c lo vs GG w11 ∧ RdE w11 (.agg ec) y (F6 ++ G6) ∧ ec.size = 10 ∧ Blk w11 w10.heap.size ec 33 ∧ q < w10.heap.size ∧ L < w10.heap.size ∧ (∀ b ∈ F6 ++ G6, b ≠ q)) := ⟨H10.out.1.below hb11, H10.out.2.1.below hb11, H10.out.2.2.1, hg11, by have := H10.out.1.loc.lt; omega, H10.out.1.loc.lt, H10.out.2.2.2.2⟩
   obtain ⟨E, hE⟩ : ∃ J, J = w10.heap.size := ⟨_, rfl⟩
   rw [← hE] at H11 ⊢
   clear hg11 hb11 hE H10
   go_wp2
   obtain ⟨WD, hWD⟩ : ∃ W, W = w11.drew := ⟨_, rfl⟩
   have bd := (Below.refl w11.heap.size w11).drew
   rw [← hWD] at bd
   have HDd : Hid (LocR w q a len cap zs i9 h9 L xs b n c lo vs GG WD ∧ RdE WD (.agg ec) y (F6 ++ G6) ∧ ec.size = 10 ∧ Blk WD E ec 33 ∧ q < E ∧ L < E ∧ (∀ b ∈ F6 ++ G6, b ≠ q)) := ⟨H11.out.1.below bd, H11.out.2.1.below bd, H11.out.2.2.1, H11.out.2.2.2.1.below bd, H11.out.2.2.2.2⟩
   clear bd H11
   refine wp_region_held (S := fun W => Blk W E ec 33) (by kernel_rfl) ?_
   change wpAnyH _ _ _ _ _ _ _ _ (World.drew _)
   rw [← hWD]
   clear hWD
   refine tk 1 (.agg ec) (H := ⟨(yields_whole 33 E ec 33 _ rfl rfl rfl Tryz.underlying33 rfl (by rw [HDd.out.2.2.1]; exact infoEnRd) (fun W hW => hW)), HDd.out.2.2.2.1, ?_⟩)
   refine tm 2 (.pointer (some ⟨q, 0, none⟩)) (H := ⟨HDd.out.2.2.2.1, ?_⟩)
   refine twoH (o := ?o3) (o' := ?p3) 0 3 (by kernel_rfl) ?h3 ?g3 ?r3 ?s3
   case h3 => simp only [aT, aZ]; rfl
   case g3 => simp only [aT, aS, aZ]; rfl
   case r3 =>
    intro K hK
    refine op_loadR 26 L #[.slice b n c] 26 _ HDd.out.1.loc rfl rfl rfl Tryz.underlying26 rfl infoRwRd (pk (h := hK _ _ ⟨HDd.out.2.2.2.1, ?_⟩))
    clear hK
    refine oq 3 (H := fun K hK => ?_)
    refine op_call2' 27 _ _ _ Tryz.f27 (fun v w' => ∃ x i' h', v = .bool x ∧ Cur w' q a len cap zs i' h' ∧ WD.grownBy w' (some q)) rfl rfl Tryz.func27 (by kernel_rfl) (by kernel_rfl) ((l1Once_any q a len cap zs i9 h9 3 WD HDd.out.1.held.cur hlen (by omega) (by omega)).mono (by rintro e w' ⟨x, i', h', rfl, r⟩; exact ⟨_, rfl, x, i', h', rfl, r⟩)) ?_
    rintro v wb2 ⟨jb, ib2, hb2, rfl, C9, g9⟩
    have HB2 : Hid (LocR w q a len cap zs ib2 hb2 L xs b n c lo vs GG wb2 ∧ RdE wb2 (.agg ec) y (F6 ++ G6) ∧ ec.size = 10 ∧ Blk wb2 E ec 33 ∧ q < E ∧ L < E ∧ (∀ b ∈ F6 ++ G6, b ≠ q)) := ⟨HDd.out.1.next hq C9 g9, HDd.out.2.1.agree (fun b hb => g9.block b (HDd.out.2.1.lt b hb) (fun e => HDd.out.2.2.2.2.2.2 b hb (by simp at e; omega))), HDd.out.2.2.1, HDd.out.2.2.2.1.grown g9 (by have := HDd.out.2.2.2.2.1; omega), HDd.out.2.2.2.2⟩
    clear C9 g9 HDd
    refine pk (h := hK _ _ ⟨HB2.out.2.2.2.1, ?_⟩)
    clear hK
    refine oq 4 (H := fun K hK => ?_)
    obtain ⟨Fr, hFr⟩ := HB2.out.1.rd
    have lL : L < wb2.heap.size := HB2.out.1.loc.lt
    refine op_call3v 8 _ _ _ _ Tryz.f8 (fun v w' => NewRw2G wb2 ((Rw.mk xs).push y jb) (.returned v) w') rfl rfl Tryz.func8 (by kernel_rfl) (by kernel_rfl) ((rowPushSpec_grow _ _ ⟨xs⟩ Fr y (F6 ++ G6) jb wb2 hFr HB2.out.2.1 (HS.out.size (by omega) (by have := HY.out; omega))).mono (by intro e w' hh; have hh' := hh; obtain ⟨_, _, _, _, _, _, _, rfl, _⟩ := hh'; exact ⟨_, rfl, hh⟩)) ?_
    rintro v wb3 ⟨b', n', c', Fp, lo', vs', GG', e9, r9, _, b9, g9, l9⟩
    injection e9 with e9
    subst e9
    have HS9 : Hid (SmR ((Rw.mk xs).push y jb).1.list (k + 1)) := HS.out.push HY.out jb
    generalize ((Rw.mk xs).push y jb) = X at r9 g9 HS9 ⊢
    obtain ⟨ys, jp⟩ := X
    have hln : ys.list.length = n' := by
     obtain ⟨a9, m9, d9, ev, rl9, _⟩ := r9
     injection ev with ev
     have ev := congrArg (fun z => z[0]?) ev
     simp at ev
     obtain ⟨_, rfl, _⟩ := ev
     exact rl9.length
    have HB3 : Hid (LocR w q a len cap zs ib2 hb2 L xs b n c lo vs GG wb3 ∧ Blk wb3 E ec 33 ∧ E ≠ L) := ⟨HB2.out.1.below b9, HB2.out.2.2.2.1.below b9, by have := HB2.out.2.2.2.2.2.1; omega⟩
    have HG : Hid (GrowL enK 33 ys.list lo' n' (.slice b' n' c') vs' GG' wb3 ∧ ys.list.length = n' ∧ L < lo') := ⟨g9, hln, by omega⟩
    clear r9 b9 g9 l9 hln hFr lL HB2 HS
    refine pk (h := hK _ _ ⟨HB3.out.2.1, ?_⟩)
    clear hK
    refine tm 5 (.tuple #[.agg #[.slice b' n' c'], .bool jp]) (H := ⟨HB3.out.2.1, ?_⟩)
    refine tm 6 (.agg #[.slice b' n' c']) (H := ⟨HB3.out.2.1, ?_⟩)
    refine tm 7 (.bool jp) (H := ⟨HB3.out.2.1, ?_⟩)
    refine oq 8 (H := fun K hK => ?_)
    have HDA : Hid (LocR w q a len cap zs ib2 hb2 L ys.list b' n' c' lo' vs' GG' (wb3.setRow L #[.slice b' n' c'])) := HB3.out.1.whole hq HA.out HG.out.1 HG.out.2.1 HG.out.2.2
    refine op_store 26 L #[.slice b n c] #[.slice b' n' c'] 26 rfl rfl rfl rfl HB3.out.1.loc infoRwRd rfl (by simp [Value.oneCell']) (pk (h := hK _ _ ⟨HB3.out.2.1.setRowOther HB3.out.2.2, ?_⟩))
    clear hK HB3 HG
    refine wpAnyH_done (by kernel_rfl) ?_ _
    obtain ⟨WA, hWA⟩ : ∃ W, W = (wb3.setRow L #[.slice b' n' c']) := ⟨_, rfl⟩
    rw [← hWA] at HDA ⊢
    clear hWA
    go_wp2
    go_roundw
    case rel => exact ⟨k + 1, _, b', n', c', lo', vs', GG', ib2, hb2, by omega, by go_num, HDA, HS9⟩
    case measure => simp [intOf]; omega
   case s3 =>
    intro K hK
    refine op_call2' 27 _ _ _ Tryz.f27 (fun v w' => ∃ x i' h', v = .bool x ∧ Cur w' q a len cap zs i' h' ∧ WD.grownBy w' (some q)) rfl rfl Tryz.func27 (by kernel_rfl) (by kernel_rfl) ((l1Once_any q a len cap zs i9 h9 3 WD HDd.out.1.held.cur hlen (by omega) (by omega)).mono (by rintro e w' ⟨x, i', h', rfl, r⟩; exact ⟨_, rfl, x, i', h', rfl, r⟩)) ?_
    rintro v wb5 ⟨jb, ib5, hb5, rfl, C9, g9⟩
    have HB5 : Hid (LocR w q a len cap zs ib5 hb5 L xs b n c lo vs GG wb5 ∧ RdE wb5 (.agg ec) y (F6 ++ G6) ∧ ec.size = 10 ∧ Blk wb5 E ec 33 ∧ q < E ∧ L < E ∧ (∀ b ∈ F6 ++ G6, b ≠ q)) := ⟨HDd.out.1.next hq C9 g9, HDd.out.2.1.agree (fun b hb => g9.block b (HDd.out.2.1.lt b hb) (fun e => HDd.out.2.2.2.2.2.2 b hb (by simp at e; omega))), HDd.out.2.2.1, HDd.out.2.2.2.1.grown g9 (by have := HDd.out.2.2.2.2.1; omega), HDd.out.2.2.2.2⟩
    clear C9 g9 HDd
    refine pk (h := hK _ _ ⟨HB5.out.2.2.2.1, ?_⟩)
    clear hK
    refine oq 0 (H := fun K hK => ?_)
    refine op_loadR 26 L #[.slice b n c] 26 _ HB5.out.1.loc rfl rfl rfl Tryz.underlying26 rfl infoRwRd (pk (h := hK _ _ ⟨HB5.out.2.2.2.1, ?_⟩))
    clear hK
    refine oq 4 (H := fun K hK => ?_)
    obtain ⟨Fr, hFr⟩ := HB5.out.1.rd
    have lL : L < wb5.heap.size := HB5.out.1.loc.lt
    refine op_call3v 8 _ _ _ _ Tryz.f8 (fun v w' => NewRw2G wb5 ((Rw.mk xs).push y jb) (.returned v) w') rfl rfl Tryz.func8 (by kernel_rfl) (by kernel_rfl) ((rowPushSpec_grow _ _ ⟨xs⟩ Fr y (F6 ++ G6) jb wb5 hFr HB5.out.2.1 (HS.out.size (by omega) (by have := HY.out; omega))).mono (by intro e w' hh; have hh' := hh; obtain ⟨_, _, _, _, _, _, _, rfl, _⟩ := hh'; exact ⟨_, rfl, hh⟩)) ?_
    rintro v wb7 ⟨b', n', c', Fp, lo', vs', GG', e9, r9, _, b9, g9, l9⟩
    injection e9 with e9
    subst e9
    have HS9 : Hid (SmR ((Rw.mk xs).push y jb).1.list (k + 1)) := HS.out.push HY.out jb
    generalize ((Rw.mk xs).push y jb) = X at r9 g9 HS9 ⊢
    obtain ⟨ys, jp⟩ := X
    have hln : ys.list.length = n' := by
     obtain ⟨a9, m9, d9, ev, rl9, _⟩ := r9
     injection ev with ev
     have ev := congrArg (fun z => z[0]?) ev
     simp at ev
     obtain ⟨_, rfl, _⟩ := ev
     exact rl9.length
    have HB7 : Hid (LocR w q a len cap zs ib5 hb5 L xs b n c lo vs GG wb7 ∧ Blk wb7 E ec 33 ∧ E ≠ L) := ⟨HB5.out.1.below b9, HB5.out.2.2.2.1.below b9, by have := HB5.out.2.2.2.2.2.1; omega⟩
    have HG : Hid (GrowL enK 33 ys.list lo' n' (.slice b' n' c') vs' GG' wb7 ∧ ys.list.length = n' ∧ L < lo') := ⟨g9, hln, by omega⟩
    clear r9 b9 g9 l9 hln hFr lL HB5 HS
    refine pk (h := hK _ _ ⟨HB7.out.2.1, ?_⟩)
    clear hK
    refine tm 5 (.tuple #[.agg #[.slice b' n' c'], .bool jp]) (H := ⟨HB7.out.2.1, ?_⟩)
    refine tm 6 (.agg #[.slice b' n' c']) (H := ⟨HB7.out.2.1, ?_⟩)
    refine tm 7 (.bool jp) (H := ⟨HB7.out.2.1, ?_⟩)
    refine oq 8 (H := fun K hK => ?_)
    have HDA : Hid (LocR w q a len cap zs ib5 hb5 L ys.list b' n' c' lo' vs' GG' (wb7.setRow L #[.slice b' n' c'])) := HB7.out.1.whole hq HA.out HG.out.1 HG.out.2.1 HG.out.2.2
    refine op_store 26 L #[.slice b n c] #[.slice b' n' c'] 26 rfl rfl rfl rfl HB7.out.1.loc infoRwRd rfl (by simp [Value.oneCell']) (pk (h := hK _ _ ⟨HB7.out.2.1.setRowOther HB7.out.2.2, ?_⟩))
    clear hK HB7 HG
    refine wpAnyH_done (by kernel_rfl) ?_ _
    obtain ⟨WA, hWA⟩ : ∃ W, W = (wb7.setRow L #[.slice b' n' c']) := ⟨_, rfl⟩
    rw [← hWA] at HDA ⊢
    clear hWA
    go_wp2
    go_roundw
    case rel => exact ⟨k + 1, _, b', n', c', lo', vs', GG', ib5, hb5, by omega, by go_num, HDA, HS9⟩
    case measure => simp [intOf]; omega
  ·
   have hkm : (k : Int) = m := by omega
   have hcd : decide ((k : Int) < m) = false := dec_false hlt
   have HS5 : Hid (SmR xs 5) := HS.out.up (by omega)
   go_wp2_with (first | go_skip | (with_reducible refine stopLoad 26 rfl ?_) | (with_reducible refine stopStore 26 rfl ?_) | (with_reducible refine stopLoad 33 rfl ?_) | (with_reducible refine stopStore 33 rfl ?_) | (with_reducible refine stopLoad 91 rfl ?_) | (with_reducible refine stopStore 91 rfl ?_))
   refine load_known 26 L _ 26 _ HD.out.loc rfl rfl rfl Tryz.underlying26 rfl infoRwRd ?_
   go_wp2_with (first | go_skip | (with_reducible refine stopLoad 26 rfl ?_) | (with_reducible refine stopStore 26 rfl ?_) | (with_reducible refine stopLoad 33 rfl ?_) | (with_reducible refine stopStore 33 rfl ?_) | (with_reducible refine stopLoad 91 rfl ?_) | (with_reducible refine stopStore 91 rfl ?_))
   refine store_known 26 w.heap.size _ #[.slice b n c] 26 HD.out.held.res rfl rfl rfl rfl infoRwRd rfl (by simp [Value.oneCell']) ?_
   go_wp2
   refine bodyPost_ret (results_cell_row Tryz.results56 _ _ w.heap.size _ _ (0, 0) _ rfl HD.out.held.res.setRow Tryz.underlying26 rfl infoRwRd) rfl ?_
   exact HD.out.done HS5.out hq HA.out
end
section
set_option maxRecDepth 200000
set_option maxHeartbeats 16000000
open Go.RowKit
theorem sumLen_le100 : ∀ (l : List (List Int)), (∀ z ∈ l, z.length ≤ 100) → sumLen l ≤ 100 * (l.length : Int)
 | [], _ => by simp [sumLen]
 | z :: l, h => by
  have h1 := sumLen_le100 l (fun y hy => h y (List.mem_cons_of_mem _ hy))
  have h2 := h z List.mem_cons_self
  unfold sumLen at h1 ⊢
  simp only [List.map_cons, List.sum_cons, List.length_cons]
  omega
theorem full_size {s : Sk} (h : s.full) : s.size ≤ 1210 := by
 have h1 := sumLen_le100 s.rows (fun z hz => (h.row z hz).2)
 have := h.hist
 have := h.regs
 have := h.rows
 unfold Sk.size
 omega
theorem copy_size {x : En} {ec : Array Value} (h : skCopy x ec) : x.sk.size ≤ 1210 := by
 rcases h with h | ⟨h, _⟩
 ·
  exact full_size h
 ·
  rw [h]; decide
theorem GrowL.last {α : Type} {K : ElK α} {e : TypeId} {xs : List α} {lo k : Nat} {v : Value} {vs : List Value} {G : List Nat} {W W' : World} (h : GrowL K e xs lo k v vs G W) (hl : xs.length = k) {x : α} {cs : Array Value} {Fk : List Nat} {g4 cp4 : Nat} (rk : K.R W (.agg cs) x Fk) (hn : cs.size = K.n) (hF : ∀ b ∈ Fk, ¬ v.ownBlock = some b)
 (hown : W'.ownsRow lo e K.n (.slice (some ⟨g4, 0, none⟩) (k + 1) cp4) (k + 1) (vs ++ cs.toList)) (hgrow : W.grownBy W' v.ownBlock) : RdL K W' (some ⟨g4, 0, none⟩) (k + 1) (xs ++ [x]) (g4 :: (G ++ Fk)) ∧ Capd (some ⟨g4, 0, none⟩) (k + 1) cp4 ∧ lo ≤ g4 := by
 have blk : ∀ b, b < W.heap.size → ¬ v.ownBlock = some b → W'.heap[b]? = W.heap[b]? := fun b hb hn => hgrow.block b hb (fun e => hn e.symm)
 have agG : Agree W W' G := fun b hb => blk b (h.rd.lt b hb) (fun e => h.ap b e hb)
 have agF : Agree W W' Fk := fun b hb => blk b (K.lt rk b hb) (hF b hb)
 have rd := h.rd
 rw [List.take_of_length_le (Nat.le_of_eq hl)] at rd
 have rd' := (rd.agree agG).snoc (K.agree rk agF) hn
 refine ⟨⟨by simp [hl], .inr ⟨g4, 0, G ++ Fk, by omega, rfl, rfl, rdEls_of 0 rd' (fun i hi => ?_)⟩⟩, ?_⟩
 ·
  rw [Nat.zero_add]; exact hown.cellAt i (by rw [← hown.1]; exact hi)
 ·
  rcases hown.2 with ⟨e1, _⟩ | ⟨g, cap, cur, e1, h1, h2, h3, _⟩
  ·
   cases e1
  ·
   injection e1 with e1 _ e3
   injection e1 with e1
   injection e1 with e1
   subst e1 e3
   exact ⟨⟨(fun e => by cases e), h3⟩, h1⟩
structure LocD (w : World) (q : Nat) (a : Option Addr) (len cap : Nat) (zs : List Int) (i h : Int) (L : Nat) (xs : List En) (b : Option Addr) (n c : Nat) (lo : Nat) (vs : List Value) (GG : List Nat) (W : World) : Prop where
 held : HeldR w q a len cap zs i h #[.slice none 0 0] 26 W
 loc : Blk W L #[.slice b n c] 26
 gr : GrowL enK 33 xs lo n (.slice b n c) vs GG W
 ln : xs.length = n
 gt : w.heap.size < L
 gw : w.heap.size < lo
 ob : ∀ g, (Value.slice b n c).ownBlock = some g → g < L
 gG : ∀ b ∈ GG, b < L
structure EndD (w : World) (q : Nat) (a : Option Addr) (len cap : Nat) (zs : List Int) (i h : Int) (L : Nat) (xs : List En) (b : Option Addr) (n c : Nat) (F : List Nat) (W : World) : Prop where
 held : HeldR w q a len cap zs i h #[.slice none 0 0] 26 W
 loc : Blk W L #[.slice b n c] 26
 rd : RdRw W (.agg #[.slice b n c]) ⟨xs⟩ F
 ge : ∀ b ∈ F, w.heap.size < b
def DrewRow (w : World) (q : Nat) (a : Option Addr) (len cap : Nat) (zs : List Int) (e : Ending) (w' : World) : Prop :=
 ∃ b n c xs F i' h', e = .returned (.agg #[.slice b n c]) ∧ RdRw w' (.agg #[.slice b n c]) ⟨xs⟩ F ∧ xs.length ≤ 6 ∧ ensSize xs ≤ 2000 ∧ (∀ b ∈ F, w.heap.size ≤ b) ∧ Cur w' q a len cap zs i' h' ∧ w.grownBy w' (some q)
section
variable {w W W' : World} {q : Nat} {a : Option Addr} {len cap : Nat} {zs : List Int} {i h i' h' : Int} {L : Nat} {xs : List En} {b : Option Addr} {n c : Nat} {lo : Nat} {vs : List Value} {GG : List Nat}
theorem LocD.next (H : LocD w q a len cap zs i h L xs b n c lo vs GG W) (hq : q < w.heap.size) (C : Cur W' q a len cap zs i' h') (g : W.grownBy W' (some q)) : LocD w q a len cap zs i' h' L xs b n c lo vs GG W' := by
 have gt := H.gt
 have gw := H.gw
 exact ⟨H.held.next hq C g, H.loc.grown g (by omega), H.gr.grown g (by omega), H.ln, H.gt, H.gw, H.ob, H.gG⟩
theorem LocD.below (H : LocD w q a len cap zs i h L xs b n c lo vs GG W) (k : Below W.heap.size W W') : LocD w q a len cap zs i h L xs b n c lo vs GG W' :=
 ⟨H.held.below k, H.loc.below k, H.gr.below k, H.ln, H.gt, H.gw, H.ob, H.gG⟩
theorem LocD.drew (H : LocD w q a len cap zs i h L xs b n c lo vs GG W) : LocD w q a len cap zs i h L xs b n c lo vs GG W.drew := H.below (Below.refl _ _).drew
theorem LocD.e (H : LocD w q a len cap zs i h L xs b n c lo vs GG W) : ∃ F, EndD w q a len cap zs i h L xs b n c F W := by
 obtain ⟨a', c', F, e, r, _, k, hF⟩ := H.gr.done2 H.ln
 have gw := H.gw
 refine ⟨F, H.held, H.loc, ?_, fun x hx => ?_⟩
 ·
  injection e with e1 e2 e3
  subst e1 e3
  exact ⟨_, _, _, rfl, r, k⟩
 ·
  rcases hF x hx with h1 | h1
  ·
   have := (H.gr.row.lt x h1).1; omega
  ·
   have := H.gr.og.ge x h1; omega
theorem LocD.append (H : LocD w q a len cap zs i h L xs b n c lo vs GG W) (hq : q < w.heap.size) (ha : (∀ b, (∃ off, a = some ⟨b, off, none⟩ ∧ 0 < len) → b < w.heap.size)) {x : En} {ds : Array Value} {Fk : List Nat} {g4 cp4 : Nat} (rk : RdE W (.agg ds) x Fk) (hd : ds.size = 10) (gF : ∀ b ∈ Fk, L < b) (hown : W'.ownsRow lo 33 10 (.slice (some ⟨g4, 0, none⟩) (n + 1) cp4) (n + 1) (vs ++ ds.toList)) (hgrow : W.grownBy W' (Value.slice b n c).ownBlock) (hat : (Value.slice b n c).ownBlock = some g4 ∨ g4 = W.heap.size) :
 Blk W' L #[.slice b n c] 26 ∧ EndD w q a len cap zs i h L (xs ++ [x]) (some ⟨g4, 0, none⟩) (n + 1) cp4 (g4 :: (GG ++ Fk)) (W'.setCell ⟨L, 0, none⟩ (.slice (some ⟨g4, 0, none⟩) (n + 1) cp4)) := by
 have gt := H.gt
 have gw := H.gw
 have lt := H.loc.lt
 have hr := H.held.res.lt
 have hK : ∀ b, b < W.heap.size → (b < lo ∨ b = L) → W'.heap[b]? = W.heap[b]? := fun x hb hn => hgrow.block x hb (fun e => by have h1 := (H.gr.row.lt x e.symm).1; have h2 := H.ob x e.symm; omega)
 have lc : Blk W' L #[.slice b n c] 26 := H.loc.agree (hK L lt (.inr rfl))
 have hC := H.held.cur
 have cu : Cur W' q a len cap zs i h := cur_agree hC (World.block_lt_of_cell? _ _ hC.c0) (hK q (by omega) (.inl (by omega))) (fun b _ hx => hK b (by have := ha b hx; omega) (.inl (by have := ha b hx; omega)))
 have gg : w.grownBy W' (some q) := ⟨hgrow.os.trans H.held.grown.os, hgrow.tape.trans H.held.grown.tape, hgrow.output.trans H.held.grown.output, Nat.le_trans H.held.grown.size hgrow.size, fun b hb hn => (hK b (by omega) (.inl (by omega))).trans (H.held.grown.block b hb hn)⟩
 obtain ⟨rL, cp, lo4⟩ := H.gr.last H.ln rk hd (fun b hb e => by have := gF b hb; have := H.ob b e; omega) hown hgrow
 have n4 : g4 ≠ L := by
  rcases hat with h1 | h1
  ·
   have := H.ob g4 h1; omega
  ·
   omega
 have nL : L ∉ g4 :: (GG ++ Fk) := fun hx => by
  rcases List.mem_cons.1 hx with h1 | hx
  ·
   exact n4 h1.symm
  ·
   rcases List.mem_append.1 hx with hx | hx
   ·
    have := H.gG L hx; omega
   ·
    have := gF L hx; omega
 refine ⟨lc, ⟨(H.held.res.agree (hK _ hr (.inl (by omega)))).setOther (by omega) _ _, cur_cell cu (by omega) (fun b hb => by have := ha b hb; omega), grown_cell gg (by omega)⟩, lc.set 0 _, ⟨_, _, _, rfl, rL.agree (.set nL _ _), cp⟩, fun x hx => ?_⟩
 rcases List.mem_cons.1 hx with rfl | hx
 ·
  omega
 ·
  rcases List.mem_append.1 hx with hx | hx
  ·
   have := H.gr.og.ge x hx; omega
  ·
   have := gF x hx; omega
end
theorem EndD.done {w W : World} {q : Nat} {a : Option Addr} {len cap : Nat} {zs : List Int} {i h : Int} {L : Nat} {xs : List En} {b : Option Addr} {n c : Nat} {F : List Nat} (H : EndD w q a len cap zs i h L xs b n c F W) (hl : xs.length ≤ 6) (hs : ensSize xs ≤ 2000) (hq : q < w.heap.size) (ha : (∀ b, (∃ off, a = some ⟨b, off, none⟩ ∧ 0 < len) → b < w.heap.size)) : DrewRow w q a len cap zs (.returned (.agg #[.slice b n c])) (W.setRow w.heap.size #[.slice b n c]) := by
 have nF : w.heap.size ∉ F := fun hx => by have := H.ge _ hx; omega
 exact ⟨b, n, c, xs, F, i, h, rfl, H.rd.agree (Agree.row nF _), hl, hs, fun b hb => by have := H.ge b hb; omega, cur_row H.held.cur (by omega) (fun b hb => by have := ha b hb; omega), grown_row H.held.grown (Nat.le_refl _)⟩
theorem l10Draw_any (q : Nat) (a : Option Addr) (len cap : Nat) (zs : List Int) (i h : Int) (w : World) (C : Cur w q a len cap zs i h) (hlen : len ≤ 1048576) :
 Calls Tryz.prog 25 #[.pointer (some ⟨q, 0, none⟩)] w fun e w' => DrewRow w q a len cap zs e w' := by
 obtain ⟨j0, hj, hy0, hy1, hy2⟩ := info_parts infoEnG
 have hq : q < w.heap.size := World.block_lt_of_cell? _ _ C.c0
 have HA : Hid (∀ b, (∃ off, a = some ⟨b, off, none⟩ ∧ 0 < len) → b < w.heap.size) := cur_lt C
 have H0 : Hid (HeldR w q a len cap zs i h #[.slice none 0 0] 26 (w.alloc (.cells #[.slice none 0 0] 26))) := HeldR.made C _ _
 clear C
 go_enter Tryz.func25, Tryz.ntmps25
 go_wp2_with fail
 refine (l10Right_any q a len cap zs i h _ H0.out.cur hlen).mono ?_
 rintro e w2 ⟨b, n, c, lo, vs, GG, xs, i2, h2, rfl, g2, ln2, lo2, sm2, C2, gr2⟩
 have H2 : Hid (HeldR w q a len cap zs i2 h2 #[.slice none 0 0] 26 w2 ∧ GrowL enK 33 xs lo n (.slice b n c) vs GG w2 ∧ xs.length = n ∧ w.heap.size < lo) := ⟨H0.out.next hq C2 gr2, g2, ln2, by have := H0.out.res.lt; omega⟩
 have hn5 : n ≤ 5 := by have := sm2.1; omega
 have HSM : Hid (xs.length ≤ 5 ∧ ensSize xs ≤ 135) := ⟨sm2.1, by have := sm2.2; omega⟩
 clear g2 ln2 lo2 sm2 C2 gr2 H0
 go_wp2_with (first | go_skip | (with_reducible refine stopLoad 26 rfl ?_) | (with_reducible refine stopStore 26 rfl ?_))
 refine store_fresh 26 w2.heap.size rfl #[.slice none 0 0] #[.slice b n c] 26 rfl rfl rfl rfl infoRwRd rfl (by simp [Value.oneCell']) ?_
 intro w3 hg3 hb3
 have H3 : Hid (LocD w q a len cap zs i2 h2 w2.heap.size xs b n c lo vs GG w3) := ⟨H2.out.1.below hb3, hg3, H2.out.2.1.below hb3, H2.out.2.2.1, H2.out.1.res.lt, H2.out.2.2.2, H2.out.2.1.lts.2.1, H2.out.2.1.lts.1⟩
 clear hg3 hb3 H2
 go_wp2_with fail
 refine (l1Below_any q a len cap zs i2 h2 10 _ H3.out.held.cur hlen (by omega) (by omega)).mono ?_
 rintro e w6 ⟨m, i6, h6, rfl, m0, m1, C6, g6⟩
 have H6 : Hid (LocD w q a len cap zs i6 h6 w2.heap.size xs b n c lo vs GG w6) := H3.out.next hq C6 g6
 obtain ⟨L, hL⟩ : ∃ L, L = w2.heap.size := ⟨_, rfl⟩
 rw [← hL] at H6 ⊢
 clear C6 g6 H3 hL
 by_cases hm : m = 0
 ·
  have hb0 : (m == 0) = true := by simp [hm]
  clear m0 m1
  go_wp2_with fail
  obtain ⟨WD, hWD⟩ : ∃ W, W = w6.drew := ⟨_, rfl⟩
  have HDd0 := H6.out.drew
  rw [← hWD] at HDd0
  have HDd : Hid (LocD w q a len cap zs i6 h6 L xs b n c lo vs GG WD) := HDd0
  clear HDd0 H6
  refine wp_region_held (S := fun _ => True) (by kernel_rfl) ?_
  change wpAnyH _ _ _ _ _ _ _ _ (World.drew _)
  rw [← hWD]
  clear hWD
  refine tm 0 (.pointer (some ⟨L, 0, none⟩)) (H := ⟨trivial, ?_⟩)
  refine tm 2 (.pointer (some ⟨q, 0, none⟩)) (H := ⟨trivial, ?_⟩)
  refine twoH (o := ?o18) (o' := ?p18) 1 3 (by kernel_rfl) ?h18 ?g18 ?r18 ?s18
  case h18 => simp only [aT, aS, aZ]; rfl
  case g18 => simp only [aT, aS, aZ]; rfl
  case r18 =>
   intro K hK
   have co := HDd.out.loc.cell 0
   simp only [aT, aZ] at co
   refine op_value (.slice b n c) rfl (by go_simp) (pk (h := hK _ _ ⟨trivial, ?_⟩))
   clear hK co
   refine oq 3 (H := fun K hK => ?_)
   refine op_call1 26 _ _ Tryz.f26 (fun v w' => DrewEntry WD q a len cap zs (.returned v) w') rfl rfl Tryz.func26 (by kernel_rfl) (by kernel_rfl) ((l6Entry_any q a len cap zs i6 h6 WD HDd.out.held.cur hlen).mono (by intro e w' hh; have hh' := hh; obtain ⟨_, _, _, _, _, _, rfl, _⟩ := hh'; exact ⟨_, rfl, hh⟩)) ?_
   rintro v wb2 ⟨ds, x, F1, F2, ib2, hb2, e9, r9, sk9, l9, gF, gG, C9, g9⟩
   injection e9 with e9
   subst e9
   obtain ⟨ds', e8, hd, hd1⟩ := RdE.cells ⟨F1, F2, rfl, r9⟩
   injection e8 with e8
   subst e8
   have lW : L < WD.heap.size := HDd.out.loc.lt
   have HB2 : Hid (LocD w q a len cap zs ib2 hb2 L xs b n c lo vs GG wb2) := HDd.out.next hq C9 g9
   have RR : Hid (RdE wb2 (.agg ds) x (F1 ++ F2) ∧ ds.size = 10 ∧ ds.all (·.oneCell') = true ∧ ∀ y ∈ F1 ++ F2, L < y) := ⟨⟨F1, F2, rfl, r9⟩, hd, hd1, fun y hy => (List.mem_append.1 hy).elim (fun hy => by have := gF y hy; omega) (fun hy => by have := gG y hy; omega)⟩
   have HX : Hid (x.wt ≤ 1300) := by have := copy_size sk9; show (x.ids.length : Int) + x.sk.size ≤ _; omega
   clear HDd r9 sk9 l9 gF gG C9 g9 hd hd1 lW
   refine pk (h := hK _ _ ⟨trivial, ?_⟩)
   clear hK
   refine oq 4 (H := fun K hK => ?_)
   have bl : Below wb2.heap.size wb2 (wb2.alloc (.cells ds 33)) := (Below.refl _ _).alloc (Nat.le_refl _) _
   have HB3 : Hid (LocD w q a len cap zs ib2 hb2 L xs b n c lo vs GG (wb2.alloc (.cells ds 33))) := HB2.out.below bl
   have RB : Hid (RdE (wb2.alloc (.cells ds 33)) (.agg ds) x (F1 ++ F2) ∧ ds.size = 10 ∧ ds.all (·.oneCell') = true ∧ ∀ z ∈ F1 ++ F2, L < z) := ⟨RR.out.1.below bl, RR.out.2⟩
   have NW : Hid (∀ j u, ds.toList[j]? = some u → ((wb2.alloc (.cells ds 33))).cell? ((⟨wb2.heap.size, 0, none⟩ : Addr).add j) = some u) := news_lit _ _ _
   refine op_turn (.slice (some ⟨wb2.heap.size, 0, none⟩) 1 1) (wb2.alloc (.cells ds 33)) rfl (by obtain ⟨_, _, _, _, _, _, _, _, _, _, _, _, _, _, _, ev, _⟩ := RB.out.1; injection ev with ev; rw [ev]; kernel_rfl) (pk (h := hK _ _ ⟨trivial, ?_⟩))
   clear hK bl HB2 RR
   obtain ⟨LL, hLL⟩ : ∃ z, z = wb2.heap.size := ⟨_, rfl⟩
   obtain ⟨Y3, hWW⟩ : ∃ Z, Z = (wb2.alloc (.cells ds 33)) := ⟨_, rfl⟩
   rw [← hWW, ← hLL] at NW
   rw [← hWW] at HB3 RB ⊢
   rw [← hLL]
   clear hWW hLL
   refine oq 5 (H := fun K hK => ?_)
   refine op_append Y3 rfl _ _ 24 rfl lo 33 j0 (.agg #[.int .i64 0, .int .i64 0, .slice none 0 0, .int .i64 0, .int .i64 0, .int .i64 0, .int .i64 0, .slice none 0 0, .slice none 0 0, .slice none 0 0]) 10 144 Tryz.underlying24 hj hy0 hy1 hy2 rfl (by decide) (.slice b n c) n vs rfl HB3.out.gr.row ⟨LL, 0, none⟩ 1 1 ds.toList rfl (by rw [Array.length_toList, RB.out.2.1]) NW.out (fun u hu => (Array.all_eq_true_iff_forall_mem.1 RB.out.2.2.1) u (by simpa using hu)) (by decide) (by unfold maxLen; omega) (by omega) HB3.out.gr.lw _ rfl ?_
   intro g4 cp4 Z4 hown hgrow hat _
   obtain ⟨hlc, hed⟩ := HB3.out.append hq HA.out RB.out.1 RB.out.2.1 RB.out.2.2.2 hown hgrow hat
   have HLC : Hid (Blk Z4 L #[.slice b n c] 26) := hlc
   have HE : Hid (EndD w q a len cap zs ib2 hb2 L (xs ++ [x]) (some ⟨g4, 0, none⟩) (n + 1) cp4 (g4 :: (GG ++ (F1 ++ F2))) (Z4.setCell ⟨L, 0, none⟩ (.slice (some ⟨g4, 0, none⟩) (n + 1) cp4))) := hed
   refine pk (h := hK _ _ ⟨trivial, ?_⟩)
   clear hK hown hgrow hat hlc hed HB3 RB NW
   refine tm 6 (.pointer (some ⟨L, 0, none⟩)) (H := ⟨trivial, ?_⟩)
   refine oq 7 (H := fun K hK => ?_)
   have co := HLC.out.cell 0
   have fo := HLC.out.frozen 0
   simp only [aT, aZ] at co
   refine op_skip (Z4.setCell ⟨L, 0, none⟩ (.slice (some ⟨g4, 0, none⟩) (n + 1) cp4)) rfl (by go_simp) (pk (h := hK _ _ ⟨trivial, ?_⟩))
   clear hK co fo HLC
   refine wpAnyH_done (by kernel_rfl) ?_ _
   obtain ⟨WA, hWA⟩ : ∃ W, W = (Z4.setCell ⟨L, 0, none⟩ (.slice (some ⟨g4, 0, none⟩) (n + 1) cp4)) := ⟨_, rfl⟩
   rw [← hWA] at HE ⊢
   clear hWA
   go_wp2_with (first | go_skip | (with_reducible refine stopLoad 26 rfl ?_) | (with_reducible refine stopStore 26 rfl ?_))
   refine load_known 26 L _ 26 _ HE.out.loc rfl rfl rfl Tryz.underlying26 rfl infoRwRd ?_
   go_wp2_with (first | go_skip | (with_reducible refine stopLoad 26 rfl ?_) | (with_reducible refine stopStore 26 rfl ?_))
   refine store_known 26 w.heap.size _ #[.slice (some ⟨g4, 0, none⟩) (n + 1) cp4] 26 HE.out.held.res rfl rfl rfl rfl infoRwRd rfl (by simp [Value.oneCell']) ?_
   go_wp2
   refine bodyPost_ret (results_cell_row Tryz.results25 _ _ w.heap.size _ _ (0, 0) _ rfl HE.out.held.res.setRow Tryz.underlying26 rfl infoRwRd) rfl ?_
   exact HE.out.done (by rw [List.length_append]; have := HSM.out.1; simp; omega) (by rw [ensSize_snoc]; have := HSM.out.2; have := HX.out; omega) hq HA.out
  case s18 =>
   intro K hK
   refine op_call1 26 _ _ Tryz.f26 (fun v w' => DrewEntry WD q a len cap zs (.returned v) w') rfl rfl Tryz.func26 (by kernel_rfl) (by kernel_rfl) ((l6Entry_any q a len cap zs i6 h6 WD HDd.out.held.cur hlen).mono (by intro e w' hh; have hh' := hh; obtain ⟨_, _, _, _, _, _, rfl, _⟩ := hh'; exact ⟨_, rfl, hh⟩)) ?_
   rintro v wb6 ⟨ds, x, F1, F2, ib6, hb6, e9, r9, sk9, l9, gF, gG, C9, g9⟩
   injection e9 with e9
   subst e9
   obtain ⟨ds', e8, hd, hd1⟩ := RdE.cells ⟨F1, F2, rfl, r9⟩
   injection e8 with e8
   subst e8
   have lW : L < WD.heap.size := HDd.out.loc.lt
   have HB6 : Hid (LocD w q a len cap zs ib6 hb6 L xs b n c lo vs GG wb6) := HDd.out.next hq C9 g9
   have RR : Hid (RdE wb6 (.agg ds) x (F1 ++ F2) ∧ ds.size = 10 ∧ ds.all (·.oneCell') = true ∧ ∀ y ∈ F1 ++ F2, L < y) := ⟨⟨F1, F2, rfl, r9⟩, hd, hd1, fun y hy => (List.mem_append.1 hy).elim (fun hy => by have := gF y hy; omega) (fun hy => by have := gG y hy; omega)⟩
   have HX : Hid (x.wt ≤ 1300) := by have := copy_size sk9; show (x.ids.length : Int) + x.sk.size ≤ _; omega
   clear HDd r9 sk9 l9 gF gG C9 g9 hd hd1 lW
   refine pk (h := hK _ _ ⟨trivial, ?_⟩)
   clear hK
   refine twoH (o := ?o24) (o' := ?p24) 1 4 (by kernel_rfl) ?h24 ?g24 ?r24 ?s24
   case h24 => simp only [aT, aS, aZ]; rfl
   case g24 => simp only [aT, aS, aZ]; rfl
   case r24 =>
    intro K hK
    have co := HB6.out.loc.cell 0
    simp only [aT, aZ] at co
    refine op_value (.slice b n c) rfl (by go_simp) (pk (h := hK _ _ ⟨trivial, ?_⟩))
    clear hK co
    refine oq 4 (H := fun K hK => ?_)
    have bl : Below wb6.heap.size wb6 (wb6.alloc (.cells ds 33)) := (Below.refl _ _).alloc (Nat.le_refl _) _
    have HB8 : Hid (LocD w q a len cap zs ib6 hb6 L xs b n c lo vs GG (wb6.alloc (.cells ds 33))) := HB6.out.below bl
    have RB : Hid (RdE (wb6.alloc (.cells ds 33)) (.agg ds) x (F1 ++ F2) ∧ ds.size = 10 ∧ ds.all (·.oneCell') = true ∧ ∀ z ∈ F1 ++ F2, L < z) := ⟨RR.out.1.below bl, RR.out.2⟩
    have NW : Hid (∀ j u, ds.toList[j]? = some u → ((wb6.alloc (.cells ds 33))).cell? ((⟨wb6.heap.size, 0, none⟩ : Addr).add j) = some u) := news_lit _ _ _
    refine op_turn (.slice (some ⟨wb6.heap.size, 0, none⟩) 1 1) (wb6.alloc (.cells ds 33)) rfl (by obtain ⟨_, _, _, _, _, _, _, _, _, _, _, _, _, _, _, ev, _⟩ := RB.out.1; injection ev with ev; rw [ev]; kernel_rfl) (pk (h := hK _ _ ⟨trivial, ?_⟩))
    clear hK bl HB6 RR
    obtain ⟨LL, hLL⟩ : ∃ z, z = wb6.heap.size := ⟨_, rfl⟩
    obtain ⟨Y8, hWW⟩ : ∃ Z, Z = (wb6.alloc (.cells ds 33)) := ⟨_, rfl⟩
    rw [← hWW, ← hLL] at NW
    rw [← hWW] at HB8 RB ⊢
    rw [← hLL]
    clear hWW hLL
    refine oq 5 (H := fun K hK => ?_)
    refine op_append Y8 rfl _ _ 24 rfl lo 33 j0 (.agg #[.int .i64 0, .int .i64 0, .slice none 0 0, .int .i64 0, .int .i64 0, .int .i64 0, .int .i64 0, .slice none 0 0, .slice none 0 0, .slice none 0 0]) 10 144 Tryz.underlying24 hj hy0 hy1 hy2 rfl (by decide) (.slice b n c) n vs rfl HB8.out.gr.row ⟨LL, 0, none⟩ 1 1 ds.toList rfl (by rw [Array.length_toList, RB.out.2.1]) NW.out (fun u hu => (Array.all_eq_true_iff_forall_mem.1 RB.out.2.2.1) u (by simpa using hu)) (by decide) (by unfold maxLen; omega) (by omega) HB8.out.gr.lw _ rfl ?_
    intro g4 cp4 Z9 hown hgrow hat _
    obtain ⟨hlc, hed⟩ := HB8.out.append hq HA.out RB.out.1 RB.out.2.1 RB.out.2.2.2 hown hgrow hat
    have HLC : Hid (Blk Z9 L #[.slice b n c] 26) := hlc
    have HE : Hid (EndD w q a len cap zs ib6 hb6 L (xs ++ [x]) (some ⟨g4, 0, none⟩) (n + 1) cp4 (g4 :: (GG ++ (F1 ++ F2))) (Z9.setCell ⟨L, 0, none⟩ (.slice (some ⟨g4, 0, none⟩) (n + 1) cp4))) := hed
    refine pk (h := hK _ _ ⟨trivial, ?_⟩)
    clear hK hown hgrow hat hlc hed HB8 RB NW
    refine tm 6 (.pointer (some ⟨L, 0, none⟩)) (H := ⟨trivial, ?_⟩)
    refine oq 7 (H := fun K hK => ?_)
    have co := HLC.out.cell 0
    have fo := HLC.out.frozen 0
    simp only [aT, aZ] at co
    refine op_skip (Z9.setCell ⟨L, 0, none⟩ (.slice (some ⟨g4, 0, none⟩) (n + 1) cp4)) rfl (by go_simp) (pk (h := hK _ _ ⟨trivial, ?_⟩))
    clear hK co fo HLC
    refine wpAnyH_done (by kernel_rfl) ?_ _
    obtain ⟨WA, hWA⟩ : ∃ W, W = (Z9.setCell ⟨L, 0, none⟩ (.slice (some ⟨g4, 0, none⟩) (n + 1) cp4)) := ⟨_, rfl⟩
    rw [← hWA] at HE ⊢
    clear hWA
    go_wp2_with (first | go_skip | (with_reducible refine stopLoad 26 rfl ?_) | (with_reducible refine stopStore 26 rfl ?_))
    refine load_known 26 L _ 26 _ HE.out.loc rfl rfl rfl Tryz.underlying26 rfl infoRwRd ?_
    go_wp2_with (first | go_skip | (with_reducible refine stopLoad 26 rfl ?_) | (with_reducible refine stopStore 26 rfl ?_))
    refine store_known 26 w.heap.size _ #[.slice (some ⟨g4, 0, none⟩) (n + 1) cp4] 26 HE.out.held.res rfl rfl rfl rfl infoRwRd rfl (by simp [Value.oneCell']) ?_
    go_wp2
    refine bodyPost_ret (results_cell_row Tryz.results25 _ _ w.heap.size _ _ (0, 0) _ rfl HE.out.held.res.setRow Tryz.underlying26 rfl infoRwRd) rfl ?_
    exact HE.out.done (by rw [List.length_append]; have := HSM.out.1; simp; omega) (by rw [ensSize_snoc]; have := HSM.out.2; have := HX.out; omega) hq HA.out
   case s24 =>
    intro K hK
    have bl : Below wb6.heap.size wb6 (wb6.alloc (.cells ds 33)) := (Below.refl _ _).alloc (Nat.le_refl _) _
    have HB11 : Hid (LocD w q a len cap zs ib6 hb6 L xs b n c lo vs GG (wb6.alloc (.cells ds 33))) := HB6.out.below bl
    have RB : Hid (RdE (wb6.alloc (.cells ds 33)) (.agg ds) x (F1 ++ F2) ∧ ds.size = 10 ∧ ds.all (·.oneCell') = true ∧ ∀ z ∈ F1 ++ F2, L < z) := ⟨RR.out.1.below bl, RR.out.2⟩
    have NW : Hid (∀ j u, ds.toList[j]? = some u → ((wb6.alloc (.cells ds 33))).cell? ((⟨wb6.heap.size, 0, none⟩ : Addr).add j) = some u) := news_lit _ _ _
    refine op_turn (.slice (some ⟨wb6.heap.size, 0, none⟩) 1 1) (wb6.alloc (.cells ds 33)) rfl (by obtain ⟨_, _, _, _, _, _, _, _, _, _, _, _, _, _, _, ev, _⟩ := RB.out.1; injection ev with ev; rw [ev]; kernel_rfl) (pk (h := hK _ _ ⟨trivial, ?_⟩))
    clear hK bl HB6 RR
    obtain ⟨LL, hLL⟩ : ∃ z, z = wb6.heap.size := ⟨_, rfl⟩
    obtain ⟨Y11, hWW⟩ : ∃ Z, Z = (wb6.alloc (.cells ds 33)) := ⟨_, rfl⟩
    rw [← hWW, ← hLL] at NW
    rw [← hWW] at HB11 RB ⊢
    rw [← hLL]
    clear hWW hLL
    refine oq 1 (H := fun K hK => ?_)
    have co := HB11.out.loc.cell 0
    simp only [aT, aZ] at co
    refine op_value (.slice b n c) rfl (by go_simp) (pk (h := hK _ _ ⟨trivial, ?_⟩))
    clear hK co
    refine oq 5 (H := fun K hK => ?_)
    refine op_append Y11 rfl _ _ 24 rfl lo 33 j0 (.agg #[.int .i64 0, .int .i64 0, .slice none 0 0, .int .i64 0, .int .i64 0, .int .i64 0, .int .i64 0, .slice none 0 0, .slice none 0 0, .slice none 0 0]) 10 144 Tryz.underlying24 hj hy0 hy1 hy2 rfl (by decide) (.slice b n c) n vs rfl HB11.out.gr.row ⟨LL, 0, none⟩ 1 1 ds.toList rfl (by rw [Array.length_toList, RB.out.2.1]) NW.out (fun u hu => (Array.all_eq_true_iff_forall_mem.1 RB.out.2.2.1) u (by simpa using hu)) (by decide) (by unfold maxLen; omega) (by omega) HB11.out.gr.lw _ rfl ?_
    intro g4 cp4 Z13 hown hgrow hat _
    obtain ⟨hlc, hed⟩ := HB11.out.append hq HA.out RB.out.1 RB.out.2.1 RB.out.2.2.2 hown hgrow hat
    have HLC : Hid (Blk Z13 L #[.slice b n c] 26) := hlc
    have HE : Hid (EndD w q a len cap zs ib6 hb6 L (xs ++ [x]) (some ⟨g4, 0, none⟩) (n + 1) cp4 (g4 :: (GG ++ (F1 ++ F2))) (Z13.setCell ⟨L, 0, none⟩ (.slice (some ⟨g4, 0, none⟩) (n + 1) cp4))) := hed
    refine pk (h := hK _ _ ⟨trivial, ?_⟩)
    clear hK hown hgrow hat hlc hed HB11 RB NW
    refine tm 6 (.pointer (some ⟨L, 0, none⟩)) (H := ⟨trivial, ?_⟩)
    refine oq 7 (H := fun K hK => ?_)
    have co := HLC.out.cell 0
    have fo := HLC.out.frozen 0
    simp only [aT, aZ] at co
    refine op_skip (Z13.setCell ⟨L, 0, none⟩ (.slice (some ⟨g4, 0, none⟩) (n + 1) cp4)) rfl (by go_simp) (pk (h := hK _ _ ⟨trivial, ?_⟩))
    clear hK co fo HLC
    refine wpAnyH_done (by kernel_rfl) ?_ _
    obtain ⟨WA, hWA⟩ : ∃ W, W = (Z13.setCell ⟨L, 0, none⟩ (.slice (some ⟨g4, 0, none⟩) (n + 1) cp4)) := ⟨_, rfl⟩
    rw [← hWA] at HE ⊢
    clear hWA
    go_wp2_with (first | go_skip | (with_reducible refine stopLoad 26 rfl ?_) | (with_reducible refine stopStore 26 rfl ?_))
    refine load_known 26 L _ 26 _ HE.out.loc rfl rfl rfl Tryz.underlying26 rfl infoRwRd ?_
    go_wp2_with (first | go_skip | (with_reducible refine stopLoad 26 rfl ?_) | (with_reducible refine stopStore 26 rfl ?_))
    refine store_known 26 w.heap.size _ #[.slice (some ⟨g4, 0, none⟩) (n + 1) cp4] 26 HE.out.held.res rfl rfl rfl rfl infoRwRd rfl (by simp [Value.oneCell']) ?_
    go_wp2
    refine bodyPost_ret (results_cell_row Tryz.results25 _ _ w.heap.size _ _ (0, 0) _ rfl HE.out.held.res.setRow Tryz.underlying26 rfl infoRwRd) rfl ?_
    exact HE.out.done (by rw [List.length_append]; have := HSM.out.1; simp; omega) (by rw [ensSize_snoc]; have := HSM.out.2; have := HX.out; omega) hq HA.out
 have hb0 : (m == 0) = false := by simp [hm]
 by_cases hm1 : m = 1
 ·
  have hb1 : (m == 1) = true := by simp [hm1]
  clear m0 m1
  have c6 := H6.out.loc.cell 0
  simp only [aT, aZ] at c6
  by_cases hn0 : 0 < n
  ·
   have hI : (0 : Int) < (n : Int) := by omega
   have hgt : decide ((n : Int) > 0) = true := dec_true hI
   go_wp2_with fail
   clear c6
   obtain ⟨WD, hWD⟩ : ∃ W, W = w6.drew := ⟨_, rfl⟩
   have HDd0 := H6.out.drew
   rw [← hWD] at HDd0
   have HDd : Hid (LocD w q a len cap zs i6 h6 L xs b n c lo vs GG WD) := HDd0
   clear HDd0 H6
   obtain ⟨FD, hED⟩ := HDd.out.e
   obtain ⟨a9, n9, c9, e9, rl9, _⟩ := hED.rd
   injection e9 with e9
   have e9 := congrArg (fun z => z[0]?) e9
   simp at e9
   obtain ⟨rfl, rfl, rfl⟩ := e9
   obtain ⟨g, off, y, cs, Fi, rfl, hgw, hy, hcs, hcc, hr⟩ := ens_at rl9 (k := 0) (by omega)
   have HY : Hid (RdE WD (.agg cs) y Fi ∧ cs.size = 10 ∧ (∀ j, j < 10 → WD.cell? ⟨g, off + j, none⟩ = cs[j]?) ∧ y.wt ≤ 135) := ⟨hr, hcs, fun j hj => by have := hcc j hj; rwa [Nat.zero_mul, Nat.add_zero] at this, by have h1 : y.wt ≤ ensSize xs := ensSize_mem (List.mem_of_getElem? hy); have := HSM.out.2; omega⟩
   clear hED rl9 hgw hy hcs hcc hr
   refine wp_region_held (S := fun _ => True) (by kernel_rfl) ?_
   change wpAnyH _ _ _ _ _ _ _ _ (World.drew _)
   rw [← hWD]
   clear hWD
   refine tm 0 (.pointer (some ⟨L, 0, none⟩)) (H := ⟨trivial, ?_⟩)
   refine tm 2 (.pointer (some ⟨L, 0, none⟩)) (H := ⟨trivial, ?_⟩)
   refine twoH (o := ?o35) (o' := ?p35) 1 3 (by kernel_rfl) ?h35 ?g35 ?r35 ?s35
   case h35 => simp only [aT, aS, aZ]; rfl
   case g35 => simp only [aT, aS, aZ]; rfl
   case r35 =>
    intro K hK
    have co := HDd.out.loc.cell 0
    simp only [aT, aZ] at co
    refine op_value (.slice (some ⟨g, off, none⟩) n c) rfl (by go_simp) (pk (h := hK _ _ ⟨trivial, ?_⟩))
    clear hK co
    refine oq 3 (H := fun K hK => ?_)
    have co := HDd.out.loc.cell 0
    simp only [aT, aZ] at co
    refine op_value (.slice (some ⟨g, off, none⟩) n c) rfl (by go_simp) (pk (h := hK _ _ ⟨trivial, ?_⟩))
    clear hK co
    refine tk 4 (.pointer (some ⟨g, off, none⟩)) (H := ⟨(.inl ⟨rfl, fun W _ => by go_simp; first | done | (intro h; omega) | (rw [if_pos (by omega)]; rfl) | simp⟩), trivial, ?_⟩)
    refine oq 5 (H := fun K hK => ?_)
    refine op_loadAt 33 g off 10 cs _ rfl rfl rfl Tryz.underlying33 rfl infoEnG2 HY.out.2.1 HY.out.2.2.1 (pk (h := hK _ _ ⟨trivial, ?_⟩))
    clear hK
    refine oq 6 (H := fun K hK => ?_)
    refine op_call1 35 _ _ Tryz.f35 (fun v w' => ∃ F, RdE w' v y F ∧ Own WD.heap.size w' F ∧ Below WD.heap.size WD w') rfl rfl Tryz.func35 (by kernel_rfl) (by kernel_rfl) ((l6Copy_en (.agg cs) y Fi WD HY.out.1 (En.fits_wt (by have := HY.out.2.2.2; omega))).mono (by rintro e w' ⟨v, F, rfl, k1, k2, k3⟩; exact ⟨_, rfl, F, k1, k2, k3⟩)) ?_
    rintro vr wb18 ⟨Fr, rr, ro, rb⟩
    obtain ⟨ds, rfl, hd, hd1⟩ := enK.cells (w := wb18) rr
    have lW : L < WD.heap.size := HDd.out.loc.lt
    have HB18 : Hid (LocD w q a len cap zs i6 h6 L xs (some ⟨g, off, none⟩) n c lo vs GG wb18) := HDd.out.below rb
    have RR : Hid (RdE wb18 (.agg ds) y Fr ∧ ds.size = 10 ∧ ds.all (·.oneCell') = true ∧ ∀ z ∈ Fr, L < z) := ⟨rr, hd, hd1, fun z hz => by have := ro.ge z hz; omega⟩
    have HX : Hid (y.wt ≤ 1300) := by have := HY.out.2.2.2; show _ ≤ _; omega
    clear HDd rr ro rb hd hd1 lW
    refine pk (h := hK _ _ ⟨trivial, ?_⟩)
    clear hK
    refine oq 7 (H := fun K hK => ?_)
    have bl : Below wb18.heap.size wb18 (wb18.alloc (.cells ds 33)) := (Below.refl _ _).alloc (Nat.le_refl _) _
    have HB19 : Hid (LocD w q a len cap zs i6 h6 L xs (some ⟨g, off, none⟩) n c lo vs GG (wb18.alloc (.cells ds 33))) := HB18.out.below bl
    have RB : Hid (RdE (wb18.alloc (.cells ds 33)) (.agg ds) y (Fr) ∧ ds.size = 10 ∧ ds.all (·.oneCell') = true ∧ ∀ z ∈ Fr, L < z) := ⟨RR.out.1.below bl, RR.out.2⟩
    have NW : Hid (∀ j u, ds.toList[j]? = some u → ((wb18.alloc (.cells ds 33))).cell? ((⟨wb18.heap.size, 0, none⟩ : Addr).add j) = some u) := news_lit _ _ _
    refine op_turn (.slice (some ⟨wb18.heap.size, 0, none⟩) 1 1) (wb18.alloc (.cells ds 33)) rfl (by obtain ⟨_, _, _, _, _, _, _, _, _, _, _, _, _, _, _, ev, _⟩ := RB.out.1; injection ev with ev; rw [ev]; kernel_rfl) (pk (h := hK _ _ ⟨trivial, ?_⟩))
    clear hK bl HB18 RR
    obtain ⟨LL, hLL⟩ : ∃ z, z = wb18.heap.size := ⟨_, rfl⟩
    obtain ⟨Y19, hWW⟩ : ∃ Z, Z = (wb18.alloc (.cells ds 33)) := ⟨_, rfl⟩
    rw [← hWW, ← hLL] at NW
    rw [← hWW] at HB19 RB ⊢
    rw [← hLL]
    clear hWW hLL
    refine oq 8 (H := fun K hK => ?_)
    refine op_append Y19 rfl _ _ 24 rfl lo 33 j0 (.agg #[.int .i64 0, .int .i64 0, .slice none 0 0, .int .i64 0, .int .i64 0, .int .i64 0, .int .i64 0, .slice none 0 0, .slice none 0 0, .slice none 0 0]) 10 144 Tryz.underlying24 hj hy0 hy1 hy2 rfl (by decide) (.slice (some ⟨g, off, none⟩) n c) n vs rfl HB19.out.gr.row ⟨LL, 0, none⟩ 1 1 ds.toList rfl (by rw [Array.length_toList, RB.out.2.1]) NW.out (fun u hu => (Array.all_eq_true_iff_forall_mem.1 RB.out.2.2.1) u (by simpa using hu)) (by decide) (by unfold maxLen; omega) (by omega) HB19.out.gr.lw _ rfl ?_
    intro g4 cp4 Z20 hown hgrow hat _
    obtain ⟨hlc, hed⟩ := HB19.out.append hq HA.out RB.out.1 RB.out.2.1 RB.out.2.2.2 hown hgrow hat
    have HLC : Hid (Blk Z20 L #[.slice (some ⟨g, off, none⟩) n c] 26) := hlc
    have HE : Hid (EndD w q a len cap zs i6 h6 L (xs ++ [y]) (some ⟨g4, 0, none⟩) (n + 1) cp4 (g4 :: (GG ++ (Fr))) (Z20.setCell ⟨L, 0, none⟩ (.slice (some ⟨g4, 0, none⟩) (n + 1) cp4))) := hed
    refine pk (h := hK _ _ ⟨trivial, ?_⟩)
    clear hK hown hgrow hat hlc hed HB19 RB NW
    refine tm 9 (.pointer (some ⟨L, 0, none⟩)) (H := ⟨trivial, ?_⟩)
    refine oq 10 (H := fun K hK => ?_)
    have co := HLC.out.cell 0
    have fo := HLC.out.frozen 0
    simp only [aT, aZ] at co
    refine op_skip (Z20.setCell ⟨L, 0, none⟩ (.slice (some ⟨g4, 0, none⟩) (n + 1) cp4)) rfl (by go_simp) (pk (h := hK _ _ ⟨trivial, ?_⟩))
    clear hK co fo HLC
    refine wpAnyH_done (by kernel_rfl) ?_ _
    obtain ⟨WA, hWA⟩ : ∃ W, W = (Z20.setCell ⟨L, 0, none⟩ (.slice (some ⟨g4, 0, none⟩) (n + 1) cp4)) := ⟨_, rfl⟩
    rw [← hWA] at HE ⊢
    clear hWA
    go_wp2_with (first | go_skip | (with_reducible refine stopLoad 26 rfl ?_) | (with_reducible refine stopStore 26 rfl ?_))
    refine load_known 26 L _ 26 _ HE.out.loc rfl rfl rfl Tryz.underlying26 rfl infoRwRd ?_
    go_wp2_with (first | go_skip | (with_reducible refine stopLoad 26 rfl ?_) | (with_reducible refine stopStore 26 rfl ?_))
    refine store_known 26 w.heap.size _ #[.slice (some ⟨g4, 0, none⟩) (n + 1) cp4] 26 HE.out.held.res rfl rfl rfl rfl infoRwRd rfl (by simp [Value.oneCell']) ?_
    go_wp2
    refine bodyPost_ret (results_cell_row Tryz.results25 _ _ w.heap.size _ _ (0, 0) _ rfl HE.out.held.res.setRow Tryz.underlying26 rfl infoRwRd) rfl ?_
    exact HE.out.done (by rw [List.length_append]; have := HSM.out.1; simp; omega) (by rw [ensSize_snoc]; have := HSM.out.2; have := HX.out; omega) hq HA.out
   case s35 =>
    intro K hK
    have co := HDd.out.loc.cell 0
    simp only [aT, aZ] at co
    refine op_value (.slice (some ⟨g, off, none⟩) n c) rfl (by go_simp) (pk (h := hK _ _ ⟨trivial, ?_⟩))
    clear hK co
    refine tk 4 (.pointer (some ⟨g, off, none⟩)) (H := ⟨(.inl ⟨rfl, fun W _ => by go_simp; first | done | (intro h; omega) | (rw [if_pos (by omega)]; rfl) | simp⟩), trivial, ?_⟩)
    refine twoH (o := ?o45) (o' := ?p45) 1 5 (by kernel_rfl) ?h45 ?g45 ?r45 ?s45
    case h45 => simp only [aT, aS, aZ]; rfl
    case g45 => simp only [aT, aS, aZ]; rfl
    case r45 =>
     intro K hK
     have co := HDd.out.loc.cell 0
     simp only [aT, aZ] at co
     refine op_value (.slice (some ⟨g, off, none⟩) n c) rfl (by go_simp) (pk (h := hK _ _ ⟨trivial, ?_⟩))
     clear hK co
     refine oq 5 (H := fun K hK => ?_)
     refine op_loadAt 33 g off 10 cs _ rfl rfl rfl Tryz.underlying33 rfl infoEnG2 HY.out.2.1 HY.out.2.2.1 (pk (h := hK _ _ ⟨trivial, ?_⟩))
     clear hK
     refine oq 6 (H := fun K hK => ?_)
     refine op_call1 35 _ _ Tryz.f35 (fun v w' => ∃ F, RdE w' v y F ∧ Own WD.heap.size w' F ∧ Below WD.heap.size WD w') rfl rfl Tryz.func35 (by kernel_rfl) (by kernel_rfl) ((l6Copy_en (.agg cs) y Fi WD HY.out.1 (En.fits_wt (by have := HY.out.2.2.2; omega))).mono (by rintro e w' ⟨v, F, rfl, k1, k2, k3⟩; exact ⟨_, rfl, F, k1, k2, k3⟩)) ?_
     rintro vr wb25 ⟨Fr, rr, ro, rb⟩
     obtain ⟨ds, rfl, hd, hd1⟩ := enK.cells (w := wb25) rr
     have lW : L < WD.heap.size := HDd.out.loc.lt
     have HB25 : Hid (LocD w q a len cap zs i6 h6 L xs (some ⟨g, off, none⟩) n c lo vs GG wb25) := HDd.out.below rb
     have RR : Hid (RdE wb25 (.agg ds) y Fr ∧ ds.size = 10 ∧ ds.all (·.oneCell') = true ∧ ∀ z ∈ Fr, L < z) := ⟨rr, hd, hd1, fun z hz => by have := ro.ge z hz; omega⟩
     have HX : Hid (y.wt ≤ 1300) := by have := HY.out.2.2.2; show _ ≤ _; omega
     clear HDd rr ro rb hd hd1 lW
     refine pk (h := hK _ _ ⟨trivial, ?_⟩)
     clear hK
     refine oq 7 (H := fun K hK => ?_)
     have bl : Below wb25.heap.size wb25 (wb25.alloc (.cells ds 33)) := (Below.refl _ _).alloc (Nat.le_refl _) _
     have HB26 : Hid (LocD w q a len cap zs i6 h6 L xs (some ⟨g, off, none⟩) n c lo vs GG (wb25.alloc (.cells ds 33))) := HB25.out.below bl
     have RB : Hid (RdE (wb25.alloc (.cells ds 33)) (.agg ds) y (Fr) ∧ ds.size = 10 ∧ ds.all (·.oneCell') = true ∧ ∀ z ∈ Fr, L < z) := ⟨RR.out.1.below bl, RR.out.2⟩
     have NW : Hid (∀ j u, ds.toList[j]? = some u → ((wb25.alloc (.cells ds 33))).cell? ((⟨wb25.heap.size, 0, none⟩ : Addr).add j) = some u) := news_lit _ _ _
     refine op_turn (.slice (some ⟨wb25.heap.size, 0, none⟩) 1 1) (wb25.alloc (.cells ds 33)) rfl (by obtain ⟨_, _, _, _, _, _, _, _, _, _, _, _, _, _, _, ev, _⟩ := RB.out.1; injection ev with ev; rw [ev]; kernel_rfl) (pk (h := hK _ _ ⟨trivial, ?_⟩))
     clear hK bl HB25 RR
     obtain ⟨LL, hLL⟩ : ∃ z, z = wb25.heap.size := ⟨_, rfl⟩
     obtain ⟨Y26, hWW⟩ : ∃ Z, Z = (wb25.alloc (.cells ds 33)) := ⟨_, rfl⟩
     rw [← hWW, ← hLL] at NW
     rw [← hWW] at HB26 RB ⊢
     rw [← hLL]
     clear hWW hLL
     refine oq 8 (H := fun K hK => ?_)
     refine op_append Y26 rfl _ _ 24 rfl lo 33 j0 (.agg #[.int .i64 0, .int .i64 0, .slice none 0 0, .int .i64 0, .int .i64 0, .int .i64 0, .int .i64 0, .slice none 0 0, .slice none 0 0, .slice none 0 0]) 10 144 Tryz.underlying24 hj hy0 hy1 hy2 rfl (by decide) (.slice (some ⟨g, off, none⟩) n c) n vs rfl HB26.out.gr.row ⟨LL, 0, none⟩ 1 1 ds.toList rfl (by rw [Array.length_toList, RB.out.2.1]) NW.out (fun u hu => (Array.all_eq_true_iff_forall_mem.1 RB.out.2.2.1) u (by simpa using hu)) (by decide) (by unfold maxLen; omega) (by omega) HB26.out.gr.lw _ rfl ?_
     intro g4 cp4 Z27 hown hgrow hat _
     obtain ⟨hlc, hed⟩ := HB26.out.append hq HA.out RB.out.1 RB.out.2.1 RB.out.2.2.2 hown hgrow hat
     have HLC : Hid (Blk Z27 L #[.slice (some ⟨g, off, none⟩) n c] 26) := hlc
     have HE : Hid (EndD w q a len cap zs i6 h6 L (xs ++ [y]) (some ⟨g4, 0, none⟩) (n + 1) cp4 (g4 :: (GG ++ (Fr))) (Z27.setCell ⟨L, 0, none⟩ (.slice (some ⟨g4, 0, none⟩) (n + 1) cp4))) := hed
     refine pk (h := hK _ _ ⟨trivial, ?_⟩)
     clear hK hown hgrow hat hlc hed HB26 RB NW
     refine tm 9 (.pointer (some ⟨L, 0, none⟩)) (H := ⟨trivial, ?_⟩)
     refine oq 10 (H := fun K hK => ?_)
     have co := HLC.out.cell 0
     have fo := HLC.out.frozen 0
     simp only [aT, aZ] at co
     refine op_skip (Z27.setCell ⟨L, 0, none⟩ (.slice (some ⟨g4, 0, none⟩) (n + 1) cp4)) rfl (by go_simp) (pk (h := hK _ _ ⟨trivial, ?_⟩))
     clear hK co fo HLC
     refine wpAnyH_done (by kernel_rfl) ?_ _
     obtain ⟨WA, hWA⟩ : ∃ W, W = (Z27.setCell ⟨L, 0, none⟩ (.slice (some ⟨g4, 0, none⟩) (n + 1) cp4)) := ⟨_, rfl⟩
     rw [← hWA] at HE ⊢
     clear hWA
     go_wp2_with (first | go_skip | (with_reducible refine stopLoad 26 rfl ?_) | (with_reducible refine stopStore 26 rfl ?_))
     refine load_known 26 L _ 26 _ HE.out.loc rfl rfl rfl Tryz.underlying26 rfl infoRwRd ?_
     go_wp2_with (first | go_skip | (with_reducible refine stopLoad 26 rfl ?_) | (with_reducible refine stopStore 26 rfl ?_))
     refine store_known 26 w.heap.size _ #[.slice (some ⟨g4, 0, none⟩) (n + 1) cp4] 26 HE.out.held.res rfl rfl rfl rfl infoRwRd rfl (by simp [Value.oneCell']) ?_
     go_wp2
     refine bodyPost_ret (results_cell_row Tryz.results25 _ _ w.heap.size _ _ (0, 0) _ rfl HE.out.held.res.setRow Tryz.underlying26 rfl infoRwRd) rfl ?_
     exact HE.out.done (by rw [List.length_append]; have := HSM.out.1; simp; omega) (by rw [ensSize_snoc]; have := HSM.out.2; have := HX.out; omega) hq HA.out
    case s45 =>
     intro K hK
     refine op_loadAt 33 g off 10 cs _ rfl rfl rfl Tryz.underlying33 rfl infoEnG2 HY.out.2.1 HY.out.2.2.1 (pk (h := hK _ _ ⟨trivial, ?_⟩))
     clear hK
     refine twoH (o := ?o52) (o' := ?p52) 1 6 (by kernel_rfl) ?h52 ?g52 ?r52 ?s52
     case h52 => simp only [aT, aS, aZ]; rfl
     case g52 => simp only [aT, aS, aZ]; rfl
     case r52 =>
      intro K hK
      have co := HDd.out.loc.cell 0
      simp only [aT, aZ] at co
      refine op_value (.slice (some ⟨g, off, none⟩) n c) rfl (by go_simp) (pk (h := hK _ _ ⟨trivial, ?_⟩))
      clear hK co
      refine oq 6 (H := fun K hK => ?_)
      refine op_call1 35 _ _ Tryz.f35 (fun v w' => ∃ F, RdE w' v y F ∧ Own WD.heap.size w' F ∧ Below WD.heap.size WD w') rfl rfl Tryz.func35 (by kernel_rfl) (by kernel_rfl) ((l6Copy_en (.agg cs) y Fi WD HY.out.1 (En.fits_wt (by have := HY.out.2.2.2; omega))).mono (by rintro e w' ⟨v, F, rfl, k1, k2, k3⟩; exact ⟨_, rfl, F, k1, k2, k3⟩)) ?_
      rintro vr wb31 ⟨Fr, rr, ro, rb⟩
      obtain ⟨ds, rfl, hd, hd1⟩ := enK.cells (w := wb31) rr
      have lW : L < WD.heap.size := HDd.out.loc.lt
      have HB31 : Hid (LocD w q a len cap zs i6 h6 L xs (some ⟨g, off, none⟩) n c lo vs GG wb31) := HDd.out.below rb
      have RR : Hid (RdE wb31 (.agg ds) y Fr ∧ ds.size = 10 ∧ ds.all (·.oneCell') = true ∧ ∀ z ∈ Fr, L < z) := ⟨rr, hd, hd1, fun z hz => by have := ro.ge z hz; omega⟩
      have HX : Hid (y.wt ≤ 1300) := by have := HY.out.2.2.2; show _ ≤ _; omega
      clear HDd rr ro rb hd hd1 lW
      refine pk (h := hK _ _ ⟨trivial, ?_⟩)
      clear hK
      refine oq 7 (H := fun K hK => ?_)
      have bl : Below wb31.heap.size wb31 (wb31.alloc (.cells ds 33)) := (Below.refl _ _).alloc (Nat.le_refl _) _
      have HB32 : Hid (LocD w q a len cap zs i6 h6 L xs (some ⟨g, off, none⟩) n c lo vs GG (wb31.alloc (.cells ds 33))) := HB31.out.below bl
      have RB : Hid (RdE (wb31.alloc (.cells ds 33)) (.agg ds) y (Fr) ∧ ds.size = 10 ∧ ds.all (·.oneCell') = true ∧ ∀ z ∈ Fr, L < z) := ⟨RR.out.1.below bl, RR.out.2⟩
      have NW : Hid (∀ j u, ds.toList[j]? = some u → ((wb31.alloc (.cells ds 33))).cell? ((⟨wb31.heap.size, 0, none⟩ : Addr).add j) = some u) := news_lit _ _ _
      refine op_turn (.slice (some ⟨wb31.heap.size, 0, none⟩) 1 1) (wb31.alloc (.cells ds 33)) rfl (by obtain ⟨_, _, _, _, _, _, _, _, _, _, _, _, _, _, _, ev, _⟩ := RB.out.1; injection ev with ev; rw [ev]; kernel_rfl) (pk (h := hK _ _ ⟨trivial, ?_⟩))
      clear hK bl HB31 RR
      obtain ⟨LL, hLL⟩ : ∃ z, z = wb31.heap.size := ⟨_, rfl⟩
      obtain ⟨Y32, hWW⟩ : ∃ Z, Z = (wb31.alloc (.cells ds 33)) := ⟨_, rfl⟩
      rw [← hWW, ← hLL] at NW
      rw [← hWW] at HB32 RB ⊢
      rw [← hLL]
      clear hWW hLL
      refine oq 8 (H := fun K hK => ?_)
      refine op_append Y32 rfl _ _ 24 rfl lo 33 j0 (.agg #[.int .i64 0, .int .i64 0, .slice none 0 0, .int .i64 0, .int .i64 0, .int .i64 0, .int .i64 0, .slice none 0 0, .slice none 0 0, .slice none 0 0]) 10 144 Tryz.underlying24 hj hy0 hy1 hy2 rfl (by decide) (.slice (some ⟨g, off, none⟩) n c) n vs rfl HB32.out.gr.row ⟨LL, 0, none⟩ 1 1 ds.toList rfl (by rw [Array.length_toList, RB.out.2.1]) NW.out (fun u hu => (Array.all_eq_true_iff_forall_mem.1 RB.out.2.2.1) u (by simpa using hu)) (by decide) (by unfold maxLen; omega) (by omega) HB32.out.gr.lw _ rfl ?_
      intro g4 cp4 Z33 hown hgrow hat _
      obtain ⟨hlc, hed⟩ := HB32.out.append hq HA.out RB.out.1 RB.out.2.1 RB.out.2.2.2 hown hgrow hat
      have HLC : Hid (Blk Z33 L #[.slice (some ⟨g, off, none⟩) n c] 26) := hlc
      have HE : Hid (EndD w q a len cap zs i6 h6 L (xs ++ [y]) (some ⟨g4, 0, none⟩) (n + 1) cp4 (g4 :: (GG ++ (Fr))) (Z33.setCell ⟨L, 0, none⟩ (.slice (some ⟨g4, 0, none⟩) (n + 1) cp4))) := hed
      refine pk (h := hK _ _ ⟨trivial, ?_⟩)
      clear hK hown hgrow hat hlc hed HB32 RB NW
      refine tm 9 (.pointer (some ⟨L, 0, none⟩)) (H := ⟨trivial, ?_⟩)
      refine oq 10 (H := fun K hK => ?_)
      have co := HLC.out.cell 0
      have fo := HLC.out.frozen 0
      simp only [aT, aZ] at co
      refine op_skip (Z33.setCell ⟨L, 0, none⟩ (.slice (some ⟨g4, 0, none⟩) (n + 1) cp4)) rfl (by go_simp) (pk (h := hK _ _ ⟨trivial, ?_⟩))
      clear hK co fo HLC
      refine wpAnyH_done (by kernel_rfl) ?_ _
      obtain ⟨WA, hWA⟩ : ∃ W, W = (Z33.setCell ⟨L, 0, none⟩ (.slice (some ⟨g4, 0, none⟩) (n + 1) cp4)) := ⟨_, rfl⟩
      rw [← hWA] at HE ⊢
      clear hWA
      go_wp2_with (first | go_skip | (with_reducible refine stopLoad 26 rfl ?_) | (with_reducible refine stopStore 26 rfl ?_))
      refine load_known 26 L _ 26 _ HE.out.loc rfl rfl rfl Tryz.underlying26 rfl infoRwRd ?_
      go_wp2_with (first | go_skip | (with_reducible refine stopLoad 26 rfl ?_) | (with_reducible refine stopStore 26 rfl ?_))
      refine store_known 26 w.heap.size _ #[.slice (some ⟨g4, 0, none⟩) (n + 1) cp4] 26 HE.out.held.res rfl rfl rfl rfl infoRwRd rfl (by simp [Value.oneCell']) ?_
      go_wp2
      refine bodyPost_ret (results_cell_row Tryz.results25 _ _ w.heap.size _ _ (0, 0) _ rfl HE.out.held.res.setRow Tryz.underlying26 rfl infoRwRd) rfl ?_
      exact HE.out.done (by rw [List.length_append]; have := HSM.out.1; simp; omega) (by rw [ensSize_snoc]; have := HSM.out.2; have := HX.out; omega) hq HA.out
     case s52 =>
      intro K hK
      refine op_call1 35 _ _ Tryz.f35 (fun v w' => ∃ F, RdE w' v y F ∧ Own WD.heap.size w' F ∧ Below WD.heap.size WD w') rfl rfl Tryz.func35 (by kernel_rfl) (by kernel_rfl) ((l6Copy_en (.agg cs) y Fi WD HY.out.1 (En.fits_wt (by have := HY.out.2.2.2; omega))).mono (by rintro e w' ⟨v, F, rfl, k1, k2, k3⟩; exact ⟨_, rfl, F, k1, k2, k3⟩)) ?_
      rintro vr wb35 ⟨Fr, rr, ro, rb⟩
      obtain ⟨ds, rfl, hd, hd1⟩ := enK.cells (w := wb35) rr
      have lW : L < WD.heap.size := HDd.out.loc.lt
      have HB35 : Hid (LocD w q a len cap zs i6 h6 L xs (some ⟨g, off, none⟩) n c lo vs GG wb35) := HDd.out.below rb
      have RR : Hid (RdE wb35 (.agg ds) y Fr ∧ ds.size = 10 ∧ ds.all (·.oneCell') = true ∧ ∀ z ∈ Fr, L < z) := ⟨rr, hd, hd1, fun z hz => by have := ro.ge z hz; omega⟩
      have HX : Hid (y.wt ≤ 1300) := by have := HY.out.2.2.2; show _ ≤ _; omega
      clear HDd rr ro rb hd hd1 lW
      refine pk (h := hK _ _ ⟨trivial, ?_⟩)
      clear hK
      refine twoH (o := ?o58) (o' := ?p58) 1 7 (by kernel_rfl) ?h58 ?g58 ?r58 ?s58
      case h58 => simp only [aT, aS, aZ]; rfl
      case g58 => simp only [aT, aS, aZ]; rfl
      case r58 =>
       intro K hK
       have co := HB35.out.loc.cell 0
       simp only [aT, aZ] at co
       refine op_value (.slice (some ⟨g, off, none⟩) n c) rfl (by go_simp) (pk (h := hK _ _ ⟨trivial, ?_⟩))
       clear hK co
       refine oq 7 (H := fun K hK => ?_)
       have bl : Below wb35.heap.size wb35 (wb35.alloc (.cells ds 33)) := (Below.refl _ _).alloc (Nat.le_refl _) _
       have HB37 : Hid (LocD w q a len cap zs i6 h6 L xs (some ⟨g, off, none⟩) n c lo vs GG (wb35.alloc (.cells ds 33))) := HB35.out.below bl
       have RB : Hid (RdE (wb35.alloc (.cells ds 33)) (.agg ds) y (Fr) ∧ ds.size = 10 ∧ ds.all (·.oneCell') = true ∧ ∀ z ∈ Fr, L < z) := ⟨RR.out.1.below bl, RR.out.2⟩
       have NW : Hid (∀ j u, ds.toList[j]? = some u → ((wb35.alloc (.cells ds 33))).cell? ((⟨wb35.heap.size, 0, none⟩ : Addr).add j) = some u) := news_lit _ _ _
       refine op_turn (.slice (some ⟨wb35.heap.size, 0, none⟩) 1 1) (wb35.alloc (.cells ds 33)) rfl (by obtain ⟨_, _, _, _, _, _, _, _, _, _, _, _, _, _, _, ev, _⟩ := RB.out.1; injection ev with ev; rw [ev]; kernel_rfl) (pk (h := hK _ _ ⟨trivial, ?_⟩))
       clear hK bl HB35 RR
       obtain ⟨LL, hLL⟩ : ∃ z, z = wb35.heap.size := ⟨_, rfl⟩
       obtain ⟨Y37, hWW⟩ : ∃ Z, Z = (wb35.alloc (.cells ds 33)) := ⟨_, rfl⟩
       rw [← hWW, ← hLL] at NW
       rw [← hWW] at HB37 RB ⊢
       rw [← hLL]
       clear hWW hLL
       refine oq 8 (H := fun K hK => ?_)
       refine op_append Y37 rfl _ _ 24 rfl lo 33 j0 (.agg #[.int .i64 0, .int .i64 0, .slice none 0 0, .int .i64 0, .int .i64 0, .int .i64 0, .int .i64 0, .slice none 0 0, .slice none 0 0, .slice none 0 0]) 10 144 Tryz.underlying24 hj hy0 hy1 hy2 rfl (by decide) (.slice (some ⟨g, off, none⟩) n c) n vs rfl HB37.out.gr.row ⟨LL, 0, none⟩ 1 1 ds.toList rfl (by rw [Array.length_toList, RB.out.2.1]) NW.out (fun u hu => (Array.all_eq_true_iff_forall_mem.1 RB.out.2.2.1) u (by simpa using hu)) (by decide) (by unfold maxLen; omega) (by omega) HB37.out.gr.lw _ rfl ?_
       intro g4 cp4 Z38 hown hgrow hat _
       obtain ⟨hlc, hed⟩ := HB37.out.append hq HA.out RB.out.1 RB.out.2.1 RB.out.2.2.2 hown hgrow hat
       have HLC : Hid (Blk Z38 L #[.slice (some ⟨g, off, none⟩) n c] 26) := hlc
       have HE : Hid (EndD w q a len cap zs i6 h6 L (xs ++ [y]) (some ⟨g4, 0, none⟩) (n + 1) cp4 (g4 :: (GG ++ (Fr))) (Z38.setCell ⟨L, 0, none⟩ (.slice (some ⟨g4, 0, none⟩) (n + 1) cp4))) := hed
       refine pk (h := hK _ _ ⟨trivial, ?_⟩)
       clear hK hown hgrow hat hlc hed HB37 RB NW
       refine tm 9 (.pointer (some ⟨L, 0, none⟩)) (H := ⟨trivial, ?_⟩)
       refine oq 10 (H := fun K hK => ?_)
       have co := HLC.out.cell 0
       have fo := HLC.out.frozen 0
       simp only [aT, aZ] at co
       refine op_skip (Z38.setCell ⟨L, 0, none⟩ (.slice (some ⟨g4, 0, none⟩) (n + 1) cp4)) rfl (by go_simp) (pk (h := hK _ _ ⟨trivial, ?_⟩))
       clear hK co fo HLC
       refine wpAnyH_done (by kernel_rfl) ?_ _
       obtain ⟨WA, hWA⟩ : ∃ W, W = (Z38.setCell ⟨L, 0, none⟩ (.slice (some ⟨g4, 0, none⟩) (n + 1) cp4)) := ⟨_, rfl⟩
       rw [← hWA] at HE ⊢
       clear hWA
       go_wp2_with (first | go_skip | (with_reducible refine stopLoad 26 rfl ?_) | (with_reducible refine stopStore 26 rfl ?_))
       refine load_known 26 L _ 26 _ HE.out.loc rfl rfl rfl Tryz.underlying26 rfl infoRwRd ?_
       go_wp2_with (first | go_skip | (with_reducible refine stopLoad 26 rfl ?_) | (with_reducible refine stopStore 26 rfl ?_))
       refine store_known 26 w.heap.size _ #[.slice (some ⟨g4, 0, none⟩) (n + 1) cp4] 26 HE.out.held.res rfl rfl rfl rfl infoRwRd rfl (by simp [Value.oneCell']) ?_
       go_wp2
       refine bodyPost_ret (results_cell_row Tryz.results25 _ _ w.heap.size _ _ (0, 0) _ rfl HE.out.held.res.setRow Tryz.underlying26 rfl infoRwRd) rfl ?_
       exact HE.out.done (by rw [List.length_append]; have := HSM.out.1; simp; omega) (by rw [ensSize_snoc]; have := HSM.out.2; have := HX.out; omega) hq HA.out
      case s58 =>
       intro K hK
       have bl : Below wb35.heap.size wb35 (wb35.alloc (.cells ds 33)) := (Below.refl _ _).alloc (Nat.le_refl _) _
       have HB40 : Hid (LocD w q a len cap zs i6 h6 L xs (some ⟨g, off, none⟩) n c lo vs GG (wb35.alloc (.cells ds 33))) := HB35.out.below bl
       have RB : Hid (RdE (wb35.alloc (.cells ds 33)) (.agg ds) y (Fr) ∧ ds.size = 10 ∧ ds.all (·.oneCell') = true ∧ ∀ z ∈ Fr, L < z) := ⟨RR.out.1.below bl, RR.out.2⟩
       have NW : Hid (∀ j u, ds.toList[j]? = some u → ((wb35.alloc (.cells ds 33))).cell? ((⟨wb35.heap.size, 0, none⟩ : Addr).add j) = some u) := news_lit _ _ _
       refine op_turn (.slice (some ⟨wb35.heap.size, 0, none⟩) 1 1) (wb35.alloc (.cells ds 33)) rfl (by obtain ⟨_, _, _, _, _, _, _, _, _, _, _, _, _, _, _, ev, _⟩ := RB.out.1; injection ev with ev; rw [ev]; kernel_rfl) (pk (h := hK _ _ ⟨trivial, ?_⟩))
       clear hK bl HB35 RR
       obtain ⟨LL, hLL⟩ : ∃ z, z = wb35.heap.size := ⟨_, rfl⟩
       obtain ⟨Y40, hWW⟩ : ∃ Z, Z = (wb35.alloc (.cells ds 33)) := ⟨_, rfl⟩
       rw [← hWW, ← hLL] at NW
       rw [← hWW] at HB40 RB ⊢
       rw [← hLL]
       clear hWW hLL
       refine oq 1 (H := fun K hK => ?_)
       have co := HB40.out.loc.cell 0
       simp only [aT, aZ] at co
       refine op_value (.slice (some ⟨g, off, none⟩) n c) rfl (by go_simp) (pk (h := hK _ _ ⟨trivial, ?_⟩))
       clear hK co
       refine oq 8 (H := fun K hK => ?_)
       refine op_append Y40 rfl _ _ 24 rfl lo 33 j0 (.agg #[.int .i64 0, .int .i64 0, .slice none 0 0, .int .i64 0, .int .i64 0, .int .i64 0, .int .i64 0, .slice none 0 0, .slice none 0 0, .slice none 0 0]) 10 144 Tryz.underlying24 hj hy0 hy1 hy2 rfl (by decide) (.slice (some ⟨g, off, none⟩) n c) n vs rfl HB40.out.gr.row ⟨LL, 0, none⟩ 1 1 ds.toList rfl (by rw [Array.length_toList, RB.out.2.1]) NW.out (fun u hu => (Array.all_eq_true_iff_forall_mem.1 RB.out.2.2.1) u (by simpa using hu)) (by decide) (by unfold maxLen; omega) (by omega) HB40.out.gr.lw _ rfl ?_
       intro g4 cp4 Z42 hown hgrow hat _
       obtain ⟨hlc, hed⟩ := HB40.out.append hq HA.out RB.out.1 RB.out.2.1 RB.out.2.2.2 hown hgrow hat
       have HLC : Hid (Blk Z42 L #[.slice (some ⟨g, off, none⟩) n c] 26) := hlc
       have HE : Hid (EndD w q a len cap zs i6 h6 L (xs ++ [y]) (some ⟨g4, 0, none⟩) (n + 1) cp4 (g4 :: (GG ++ (Fr))) (Z42.setCell ⟨L, 0, none⟩ (.slice (some ⟨g4, 0, none⟩) (n + 1) cp4))) := hed
       refine pk (h := hK _ _ ⟨trivial, ?_⟩)
       clear hK hown hgrow hat hlc hed HB40 RB NW
       refine tm 9 (.pointer (some ⟨L, 0, none⟩)) (H := ⟨trivial, ?_⟩)
       refine oq 10 (H := fun K hK => ?_)
       have co := HLC.out.cell 0
       have fo := HLC.out.frozen 0
       simp only [aT, aZ] at co
       refine op_skip (Z42.setCell ⟨L, 0, none⟩ (.slice (some ⟨g4, 0, none⟩) (n + 1) cp4)) rfl (by go_simp) (pk (h := hK _ _ ⟨trivial, ?_⟩))
       clear hK co fo HLC
       refine wpAnyH_done (by kernel_rfl) ?_ _
       obtain ⟨WA, hWA⟩ : ∃ W, W = (Z42.setCell ⟨L, 0, none⟩ (.slice (some ⟨g4, 0, none⟩) (n + 1) cp4)) := ⟨_, rfl⟩
       rw [← hWA] at HE ⊢
       clear hWA
       go_wp2_with (first | go_skip | (with_reducible refine stopLoad 26 rfl ?_) | (with_reducible refine stopStore 26 rfl ?_))
       refine load_known 26 L _ 26 _ HE.out.loc rfl rfl rfl Tryz.underlying26 rfl infoRwRd ?_
       go_wp2_with (first | go_skip | (with_reducible refine stopLoad 26 rfl ?_) | (with_reducible refine stopStore 26 rfl ?_))
       refine store_known 26 w.heap.size _ #[.slice (some ⟨g4, 0, none⟩) (n + 1) cp4] 26 HE.out.held.res rfl rfl rfl rfl infoRwRd rfl (by simp [Value.oneCell']) ?_
       go_wp2
       refine bodyPost_ret (results_cell_row Tryz.results25 _ _ w.heap.size _ _ (0, 0) _ rfl HE.out.held.res.setRow Tryz.underlying26 rfl infoRwRd) rfl ?_
       exact HE.out.done (by rw [List.length_append]; have := HSM.out.1; simp; omega) (by rw [ensSize_snoc]; have := HSM.out.2; have := HX.out; omega) hq HA.out
  ·
   have hI : ¬ (0 : Int) < (n : Int) := by omega
   have hgt : decide ((n : Int) > 0) = false := dec_false hI
   obtain ⟨FE, hE⟩ := H6.out.e
   have HE : Hid (EndD w q a len cap zs i6 h6 L xs b n c FE w6) := hE
   clear hE H6
   go_wp2_with (first | go_skip | (with_reducible refine stopLoad 26 rfl ?_) | (with_reducible refine stopStore 26 rfl ?_))
   refine load_known 26 L _ 26 _ HE.out.loc rfl rfl rfl Tryz.underlying26 rfl infoRwRd ?_
   go_wp2_with (first | go_skip | (with_reducible refine stopLoad 26 rfl ?_) | (with_reducible refine stopStore 26 rfl ?_))
   refine store_known 26 w.heap.size _ #[.slice b n c] 26 HE.out.held.res rfl rfl rfl rfl infoRwRd rfl (by simp [Value.oneCell']) ?_
   go_wp2
   refine bodyPost_ret (results_cell_row Tryz.results25 _ _ w.heap.size _ _ (0, 0) _ rfl HE.out.held.res.setRow Tryz.underlying26 rfl infoRwRd) rfl ?_
   exact HE.out.done (by have := HSM.out.1; omega) (by have := HSM.out.2; omega) hq HA.out
 have hb1 : (m == 1) = false := by simp [hm1]
 clear m0 m1
 obtain ⟨FE, hE⟩ := H6.out.e
 have HE : Hid (EndD w q a len cap zs i6 h6 L xs b n c FE w6) := hE
 clear hE H6
 go_wp2_with (first | go_skip | (with_reducible refine stopLoad 26 rfl ?_) | (with_reducible refine stopStore 26 rfl ?_))
 refine load_known 26 L _ 26 _ HE.out.loc rfl rfl rfl Tryz.underlying26 rfl infoRwRd ?_
 go_wp2_with (first | go_skip | (with_reducible refine stopLoad 26 rfl ?_) | (with_reducible refine stopStore 26 rfl ?_))
 refine store_known 26 w.heap.size _ #[.slice b n c] 26 HE.out.held.res rfl rfl rfl rfl infoRwRd rfl (by simp [Value.oneCell']) ?_
 go_wp2
 refine bodyPost_ret (results_cell_row Tryz.results25 _ _ w.heap.size _ _ (0, 0) _ rfl HE.out.held.res.setRow Tryz.underlying26 rfl infoRwRd) rfl ?_
 exact HE.out.done (by have := HSM.out.1; omega) (by have := HSM.out.2; omega) hq HA.out
end
section
set_option maxRecDepth 200000
set_option maxHeartbeats 16000000
open Go.RowKit
def DrewRP (w : World) (e : Ending) (w' : World) : Prop :=
 ∃ v x F ec y G j, e = .returned (.tuple #[v, .agg ec, .bool j]) ∧ RdRw w' v x F ∧ RdE w' (.agg ec) y G ∧ ec.size = 10 ∧ ec.all (·.oneCell') = true ∧ x.list.length ≤ 6 ∧ ensSize x.list ≤ 2000 ∧ y.wt ≤ 1300 ∧ Below w.heap.size w w'
theorem results_row_row_tmp {P : Program} {fn : Func} {p u r : Tmp} {ty tz : TypeId} (h : fn.results = #[.cell p ty, .cell u tz, .tmp r]) (tmps : Array Value) (w : World) (g k : Nat) (t1 t2 : TypeId) (cs ds : Array Value) (d d' : TypeDesc)
 (hp : tmps.getD p undef = .pointer (some ⟨g, 0, none⟩)) (hq : tmps.getD u undef = .pointer (some ⟨k, 0, none⟩)) (hg : Blk w g cs t1) (hk : Blk w k ds t2)
 (hu : P.underlying ty = some d) (hd : (match d with | .struct _ | .array _ _ => true | _ => false) = true) (hi : (P.info? ty).map (·.size) = some cs.size)
 (hu' : P.underlying tz = some d') (hd' : (match d' with | .struct _ | .array _ _ => true | _ => false) = true) (hj : (P.info? tz).map (·.size) = some ds.size) :
 (results fn tmps).run P w = .ok (.tuple #[.agg cs, .agg ds, tmps.getD r undef]) w := by
 have e : (results fn tmps).run P w = ((asAddr (tmps.getD p undef)).run P w).andThen fun a w₁ => ((loadVar ty a).run P w₁).andThen fun v w₂ => ((asAddr (tmps.getD u undef)).run P w₂).andThen fun a w₁ => ((loadVar tz a).run P w₁).andThen fun v' w₂ => .ok (.tuple #[v, v', tmps.getD r undef]) w₂ := by
  simp only [results, h]
  simp [Sem.run_bind, Result.andThen]
 rw [e, hp, hq]
 simp [asAddr, run_loadVar_row w g t1 ty cs (0, 0) d hg hu hd hi, run_loadVar_row w k t2 tz ds (0, 0) d' hk hu' hd' hj, Result.andThen]
structure DrRP (w : World) (q : Nat) (a : Option Addr) (len cap : Nat) (zs : List Int) (i h : Int) (L : Nat) (b : Option Addr) (n c : Nat) (xs : List En) (F : List Nat) (E : Nat) (ec : Array Value) (y : En) (G : List Nat) (W : World) : Prop where
 r1 : Blk W w.heap.size #[.slice none 0 0] 26
 r2 : Blk W (w.heap.size + 1) #[.int .i64 0, .int .i64 0, .slice none 0 0, .int .i64 0, .int .i64 0, .int .i64 0, .int .i64 0, .slice none 0 0, .slice none 0 0, .slice none 0 0] 33
 cur : Cur W q a len cap zs i h
 bel : Below w.heap.size w W
 lr : Blk W L #[.slice b n c] 26
 rr : RdRw W (.agg #[.slice b n c]) ⟨xs⟩ F
 le : Blk W E ec 33
 re : RdE W (.agg ec) y G
 gq : w.heap.size + 1 < q
 ql : q < L
 lE : L < E
 fF : ∀ x ∈ F, q < x ∧ x < L
 gG : ∀ x ∈ G, q < x ∧ x ≠ E
section
variable {w W W' : World} {q : Nat} {a : Option Addr} {len cap : Nat} {zs : List Int} {i h i' h' : Int} {L : Nat} {b : Option Addr} {n c : Nat} {xs : List En} {F : List Nat} {E : Nat} {ec : Array Value} {y : En} {G : List Nat}
theorem DrRP.next (H : DrRP w q a len cap zs i h L b n c xs F E ec y G W) (C : Cur W' q a len cap zs i' h') (g : W.grownBy W' (some q)) : DrRP w q a len cap zs i' h' L b n c xs F E ec y G W' := by
 have h1 := H.gq
 have h2 := H.ql
 have h3 := H.lE
 have hs : ∀ x, x < W.heap.size → x ≠ q → W'.heap[x]? = W.heap[x]? := fun x hx hn => g.block x hx (fun e => hn (by simp at e; exact e))
 exact ⟨H.r1.grown g (by omega), H.r2.grown g (by omega), C, ⟨g.os.trans H.bel.os, g.tape.trans H.bel.tape, g.output.trans H.bel.output, Nat.le_trans H.bel.size g.size, fun x hx => (hs x (by have := H.bel.size; omega) (by omega)).trans (H.bel.block x hx)⟩, H.lr.grown g (by omega), H.rr.agree (fun x hx => hs x (H.rr.lt x hx) (by have := H.fF x hx; omega)), H.le.grown g (by omega), H.re.agree (fun x hx => hs x (H.re.lt x hx) (by have := H.gG x hx; omega)), H.gq, H.ql, H.lE, H.fF, H.gG⟩
theorem DrRP.below (H : DrRP w q a len cap zs i h L b n c xs F E ec y G W) (k : Below W.heap.size W W') : DrRP w q a len cap zs i h L b n c xs F E ec y G W' :=
 ⟨H.r1.below k, H.r2.below k, H.cur.below k, Below.next H.bel k, H.lr.below k, H.rr.below k, H.le.below k, H.re.below k, H.gq, H.ql, H.lE, H.fF, H.gG⟩
theorem DrRP.set (H : DrRP w q a len cap zs i h L b n c xs F E ec y G W) (ha : (∀ b, (∃ off, a = some ⟨b, off, none⟩ ∧ 0 < len) → b < w.heap.size)) (j : Nat) (v : Value) {ec' : Array Value} {y' : En} (hc : ec.setIfInBounds j v = ec') (hr : RdE (W.setCell ⟨E, j, none⟩ v) (.agg ec') y' G) : DrRP w q a len cap zs i h L b n c xs F E ec' y' G (W.setCell ⟨E, j, none⟩ v) := by
 have h1 := H.gq
 have h2 := H.ql
 have h3 := H.lE
 have hl := H.le.set j v
 rw [hc] at hl
 have bl := H.bel.size
 exact ⟨H.r1.setOther (by omega) j v, H.r2.setOther (by omega) j v, cur_cell H.cur (by omega) (fun b hb => by have := ha b hb; omega), H.bel.setCell (by show w.heap.size ≤ E; omega) _, H.lr.setOther (by omega) j v, H.rr.agree (.set (fun hx => by have := H.fF _ hx; omega) j v), hl, hr, H.gq, H.ql, H.lE, H.fF, H.gG⟩
end
theorem two_set_rowsP {w W : World} {cs ds : Array Value} (h0 : Blk W w.heap.size #[.slice none 0 0] 26) (h1 : Blk W (w.heap.size + 1) #[.int .i64 0, .int .i64 0, .slice none 0 0, .int .i64 0, .int .i64 0, .int .i64 0, .int .i64 0, .slice none 0 0, .slice none 0 0, .slice none 0 0] 33) : Blk ((W.setRow w.heap.size cs).setRow (w.heap.size + 1) ds) w.heap.size cs 26 ∧ Blk ((W.setRow w.heap.size cs).setRow (w.heap.size + 1) ds) (w.heap.size + 1) ds 33 :=
 ⟨h0.setRow.setRowOther (by omega), (h1.setRowOther (by omega)).setRow⟩
theorem drawRowPush_any (a : Option Addr) (len cap : Nat) (zs : List Int) (w : World) (hR : RdB w a len zs) (hlen : len ≤ 1048576) :
 Calls Tryz.prog 6 #[.slice a len cap] w fun e w' => DrewRP w e w' := by
 have HT : Hid (_ ∧ _ ∧ _) := two_made w #[.slice none 0 0] #[.int .i64 0, .int .i64 0, .slice none 0 0, .int .i64 0, .int .i64 0, .int .i64 0, .int .i64 0, .slice none 0 0, .slice none 0 0, .slice none 0 0] 26 33
 have HR : Hid (RdB w a len zs) := hR
 have HA : Hid (∀ b, (∃ off, a = some ⟨b, off, none⟩ ∧ 0 < len) → b < w.heap.size) := fun b hb => by
  obtain ⟨off, ha, hp⟩ := hb
  rcases hR.cells with h0 | ⟨b', off', ha', hc⟩
  ·
   omega
  ·
   rw [ha] at ha'
   cases ha'
   exact World.block_lt_of_cell? _ _ (hc 0 hp)
 clear hR
 go_enter Tryz.func6, Tryz.ntmps6
 go_wp2_with fail
 obtain ⟨W0, hW0⟩ : ∃ W, W = ((w.alloc (.cells #[.slice none 0 0] 26)).alloc (.cells #[.int .i64 0, .int .i64 0, .slice none 0 0, .int .i64 0, .int .i64 0, .int .i64 0, .int .i64 0, .slice none 0 0, .slice none 0 0, .slice none 0 0] 33)) := ⟨_, rfl⟩
 rw [← hW0] at HT ⊢
 clear hW0
 refine (l1New_any a len cap zs _ (HR.out.below HT.out.2.2) hlen).mono ?_
 rintro e w1 ⟨rfl, ⟨h, C1⟩, b1⟩
 obtain ⟨q, hqe⟩ : ∃ q, q = W0.heap.size := ⟨_, rfl⟩
 rw [← hqe] at C1 ⊢
 have H1 : Hid (Blk w1 w.heap.size #[.slice none 0 0] 26 ∧ Blk w1 (w.heap.size + 1) #[.int .i64 0, .int .i64 0, .slice none 0 0, .int .i64 0, .int .i64 0, .int .i64 0, .int .i64 0, .slice none 0 0, .slice none 0 0, .slice none 0 0] 33 ∧ Cur w1 q a len cap zs 0 h ∧ Below w.heap.size w w1 ∧ w.heap.size + 1 < q ∧ q < w1.heap.size) := ⟨HT.out.1.below b1, HT.out.2.1.below b1, C1, Below.next HT.out.2.2 b1, by rw [hqe]; exact HT.out.2.1.lt, World.block_lt_of_cell? _ _ C1.c0⟩
 clear C1 b1 hqe HT HR
 go_wp2_with fail
 refine (l10Draw_any q a len cap zs 0 h _ H1.out.2.2.1 hlen).mono ?_
 rintro e w2 ⟨b, n, c, xs, F, i2, h2, rfl, r2, l2, s2, f2, C2, g2⟩
 have hq1 := H1.out.2.2.2.2
 have H2 : Hid (Blk w2 w.heap.size #[.slice none 0 0] 26 ∧ Blk w2 (w.heap.size + 1) #[.int .i64 0, .int .i64 0, .slice none 0 0, .int .i64 0, .int .i64 0, .int .i64 0, .int .i64 0, .slice none 0 0, .slice none 0 0, .slice none 0 0] 33 ∧ Cur w2 q a len cap zs i2 h2 ∧ Below w.heap.size w w2 ∧ w.heap.size + 1 < q ∧ q < w2.heap.size ∧ RdRw w2 (.agg #[.slice b n c]) ⟨xs⟩ F ∧ ∀ x ∈ F, q < x) := ⟨H1.out.1.grown g2 (by omega), H1.out.2.1.grown g2 (by omega), C2, ⟨g2.os.trans H1.out.2.2.2.1.os, g2.tape.trans H1.out.2.2.2.1.tape, g2.output.trans H1.out.2.2.2.1.output, Nat.le_trans H1.out.2.2.2.1.size g2.size, fun x hx => (g2.block x (by have := H1.out.2.2.2.1.size; omega) (fun e => by simp at e; omega)).trans (H1.out.2.2.2.1.block x hx)⟩, hq1.1, World.block_lt_of_cell? _ _ C2.c0, r2, fun x hx => by have := f2 x hx; omega⟩
 have HN : Hid (xs.length ≤ 6 ∧ ensSize xs ≤ 2000) := ⟨l2, s2⟩
 clear r2 l2 s2 f2 C2 g2 H1 hq1
 go_wp2_with (first | go_skip | (with_reducible refine stopLoad 26 rfl ?_) | (with_reducible refine stopStore 26 rfl ?_) | (with_reducible refine stopLoad 33 rfl ?_) | (with_reducible refine stopStore 33 rfl ?_))
 refine store_fresh 26 w2.heap.size rfl #[.slice none 0 0] #[.slice b n c] 26 rfl rfl rfl rfl infoRwRd rfl (by simp [Value.oneCell']) ?_
 intro w3 hg3 hb3
 have H3 : Hid (Blk w3 w.heap.size #[.slice none 0 0] 26 ∧ Blk w3 (w.heap.size + 1) #[.int .i64 0, .int .i64 0, .slice none 0 0, .int .i64 0, .int .i64 0, .int .i64 0, .int .i64 0, .slice none 0 0, .slice none 0 0, .slice none 0 0] 33 ∧ Cur w3 q a len cap zs i2 h2 ∧ Below w.heap.size w w3 ∧ w.heap.size + 1 < q ∧ RdRw w3 (.agg #[.slice b n c]) ⟨xs⟩ F ∧ (∀ x ∈ F, q < x ∧ x < w2.heap.size) ∧ Blk w3 w2.heap.size #[.slice b n c] 26 ∧ q < w2.heap.size) := ⟨H2.out.1.below hb3, H2.out.2.1.below hb3, H2.out.2.2.1.below hb3, Below.next H2.out.2.2.2.1 hb3, H2.out.2.2.2.2.1, H2.out.2.2.2.2.2.2.1.below hb3, fun x hx => ⟨H2.out.2.2.2.2.2.2.2 x hx, H2.out.2.2.2.2.2.2.1.lt x hx⟩, hg3, H2.out.2.2.2.2.2.1⟩
 obtain ⟨L, hL⟩ : ∃ L, L = w2.heap.size := ⟨_, rfl⟩
 rw [← hL] at H3 ⊢
 clear hg3 hb3 H2 hL
 go_wp2_with fail
 refine (l6Entry_any q a len cap zs i2 h2 _ H3.out.2.2.1 hlen).mono ?_
 rintro e w4 ⟨ec, y, F1, F2, i4, h4, rfl, r4, sk4, l4, gF, gG, C4, g4⟩
 obtain ⟨ec', e8, hd, hd1⟩ := RdE.cells ⟨F1, F2, rfl, r4⟩
 injection e8 with e8
 subst e8
 have hq3 := H3.out.2.2.2.2.1
 have hq4 := H3.out.2.2.2.2.2.2.2.2
 have hL3 := H3.out.2.2.2.2.2.2.2.1.lt
 have H4 : Hid (Blk w4 w.heap.size #[.slice none 0 0] 26 ∧ Blk w4 (w.heap.size + 1) #[.int .i64 0, .int .i64 0, .slice none 0 0, .int .i64 0, .int .i64 0, .int .i64 0, .int .i64 0, .slice none 0 0, .slice none 0 0, .slice none 0 0] 33 ∧ Cur w4 q a len cap zs i4 h4 ∧ Below w.heap.size w w4 ∧ w.heap.size + 1 < q ∧ RdRw w4 (.agg #[.slice b n c]) ⟨xs⟩ F ∧ (∀ x ∈ F, q < x ∧ x < L) ∧ Blk w4 L #[.slice b n c] 26 ∧ q < L) := ⟨H3.out.1.grown g4 (by omega), H3.out.2.1.grown g4 (by omega), C4, ⟨g4.os.trans H3.out.2.2.2.1.os, g4.tape.trans H3.out.2.2.2.1.tape, g4.output.trans H3.out.2.2.2.1.output, Nat.le_trans H3.out.2.2.2.1.size g4.size, fun x hx => (g4.block x (by have := H3.out.2.2.2.1.size; omega) (fun e => by simp at e; omega)).trans (H3.out.2.2.2.1.block x hx)⟩, hq3, H3.out.2.2.2.2.2.1.agree (fun x hx => g4.block x (H3.out.2.2.2.2.2.1.lt x hx) (fun e => by have := H3.out.2.2.2.2.2.2.1 x hx; simp at e; omega)), H3.out.2.2.2.2.2.2.1, H3.out.2.2.2.2.2.2.2.1.grown g4 (by omega), hq4⟩
 have HE4 : Hid (RdE w4 (.agg ec) y (F1 ++ F2) ∧ ec.size = 10 ∧ ec.all (·.oneCell') = true ∧ (∀ x ∈ F1 ++ F2, q < x) ∧ y.wt ≤ 1300) := ⟨⟨F1, F2, rfl, r4⟩, hd, hd1, fun x hx => (List.mem_append.1 hx).elim (fun hx => by have := gF x hx; omega) (fun hx => by have := gG x hx; omega), by have := copy_size sk4; show (y.ids.length : Int) + y.sk.size ≤ _; omega⟩
 clear r4 sk4 l4 gF gG C4 g4 hd hd1 H3 hq3 hq4 hL3
 go_wp2_with (first | go_skip | (with_reducible refine stopLoad 26 rfl ?_) | (with_reducible refine stopStore 26 rfl ?_) | (with_reducible refine stopLoad 33 rfl ?_) | (with_reducible refine stopStore 33 rfl ?_))
 refine store_fresh 33 w4.heap.size rfl #[.int .i64 0, .int .i64 0, .slice none 0 0, .int .i64 0, .int .i64 0, .int .i64 0, .int .i64 0, .slice none 0 0, .slice none 0 0, .slice none 0 0] ec 33 rfl rfl rfl rfl (by rw [HE4.out.2.1]; exact infoEnRd) (by rw [HE4.out.2.1]; rfl) HE4.out.2.2.1 ?_
 intro w5 hg5 hb5
 obtain ⟨G, hG⟩ : ∃ G, G = F1 ++ F2 := ⟨_, rfl⟩
 rw [← hG] at HE4
 have H5 : Hid (DrRP w q a len cap zs i4 h4 L b n c xs F w4.heap.size ec y G w5) := ⟨H4.out.1.below hb5, H4.out.2.1.below hb5, H4.out.2.2.1.below hb5, Below.next H4.out.2.2.2.1 hb5, H4.out.2.2.2.2.2.2.2.1.below hb5, H4.out.2.2.2.2.2.1.below hb5, hg5, HE4.out.1.below hb5, H4.out.2.2.2.2.1, H4.out.2.2.2.2.2.2.2.2, H4.out.2.2.2.2.2.2.2.1.lt, H4.out.2.2.2.2.2.2.1, fun x hx => ⟨HE4.out.2.2.2.1 x hx, by have := HE4.out.1.lt x hx; omega⟩⟩
 have HS : Hid (ec.size = 10 ∧ ec.all (·.oneCell') = true ∧ y.wt ≤ 1300) := ⟨HE4.out.2.1, HE4.out.2.2.1, HE4.out.2.2.2.2⟩
 obtain ⟨E, hE⟩ : ∃ L, L = w4.heap.size := ⟨_, rfl⟩
 rw [← hE] at H5 ⊢
 clear hg5 hb5 H4 HE4 hE hG
 have HNN : Hid (xs.length = n) := by
  obtain ⟨a9, n9, c9, e9, rl9, _⟩ := H5.out.rr
  injection e9 with e9
  have e9 := congrArg (fun z => z[0]?) e9
  simp at e9
  obtain ⟨rfl, rfl, rfl⟩ := e9
  exact rl9.length
 have c6 := H5.out.lr.cell 0
 simp only [aT, aZ] at c6
 by_cases hn0 : 0 < n
 ·
  have hI : (0 : Int) < (n : Int) := by omega
  have hgt : decide ((n : Int) > 0) = true := dec_true hI
  go_wp2_with fail
  refine (l1Once_any q a len cap zs i4 h4 2 _ H5.out.cur hlen (by omega) (by omega)).mono ?_
  rintro e w6 ⟨jb, i6, h6, rfl, C6, g6⟩
  have H6 : Hid (DrRP w q a len cap zs i6 h6 L b n c xs F E ec y G w6) := H5.out.next C6 g6
  clear C6 g6 H5 c6
  cases jb
  ·
   go_wp2_with fail
   obtain ⟨WD1, hWD⟩ : ∃ W, W = w6.drew := ⟨_, rfl⟩
   have HDd0 := H6.out.below ((Below.refl w6.heap.size w6).drew)
   rw [← hWD] at HDd0
   have HD1 : Hid (DrRP w q a len cap zs i6 h6 L b n c xs F E ec y G WD1) := HDd0
   clear HDd0 H6
   refine wp_region_held (S := fun W => Blk W L #[.slice b n c] 26 ∧ Blk W E ec 33) (by kernel_rfl) ?_
   change wpAnyH _ _ _ _ _ _ _ _ (World.drew _)
   rw [← hWD]
   clear hWD
   refine tk 0 (.agg #[.slice b n c]) (H := ⟨(yields_whole 26 L #[.slice b n c] 26 _ rfl rfl rfl Tryz.underlying26 rfl infoRwRd (fun W hW => hW.1)), ⟨HD1.out.lr, HD1.out.le⟩, ?_⟩)
   refine tk 1 (.agg ec) (H := ⟨(yields_whole 33 E ec 33 _ rfl rfl rfl Tryz.underlying33 rfl (by rw [HS.out.1]; exact infoEnRd) (fun W hW => hW.2)), ⟨HD1.out.lr, HD1.out.le⟩, ?_⟩)
   refine tm 2 (.pointer (some ⟨q, 0, none⟩)) (H := ⟨⟨HD1.out.lr, HD1.out.le⟩, ?_⟩)
   refine oq 3 (H := fun K hK => ?_)
   refine op_call2' 27 _ _ _ Tryz.f27 (fun v w' => ∃ x i' h', v = .bool x ∧ Cur w' q a len cap zs i' h' ∧ WD1.grownBy w' (some q)) rfl rfl Tryz.func27 (by kernel_rfl) (by kernel_rfl) ((l1Once_any q a len cap zs i6 h6 2 WD1 HD1.out.cur hlen (by omega) (by omega)).mono (by rintro e w' ⟨x, i', h', rfl, r⟩; exact ⟨_, rfl, x, i', h', rfl, r⟩)) ?_
   rintro v wz1 ⟨jb, iz, hz, rfl, C9, g9⟩
   have HZ1 : Hid (DrRP w q a len cap zs iz hz L b n c xs F E ec y G wz1) := HD1.out.next C9 g9
   clear C9 g9 HD1
   refine pk (h := hK _ _ ⟨⟨HZ1.out.lr, HZ1.out.le⟩, ?_⟩)
   clear hK
   have k1 := HZ1.out.gq
   have k2 := HZ1.out.ql
   have k3 := HZ1.out.lE
   refine oq 4 (H := fun K hK => ?_)
   refine op_store 26 w.heap.size #[.slice none 0 0] #[.slice b n c] 26 rfl rfl rfl rfl HZ1.out.r1 infoRwRd rfl (by simp [Value.oneCell']) (pk (h := hK _ _ ⟨⟨HZ1.out.lr.setRowOther (by omega), HZ1.out.le.setRowOther (by omega)⟩, ?_⟩))
   clear hK
   refine oq 5 (H := fun K hK => ?_)
   refine op_store 33 (w.heap.size + 1) #[.int .i64 0, .int .i64 0, .slice none 0 0, .int .i64 0, .int .i64 0, .int .i64 0, .int .i64 0, .slice none 0 0, .slice none 0 0, .slice none 0 0] ec 33 rfl rfl rfl rfl (HZ1.out.r2.setRowOther (by omega)) (by rw [HS.out.1]; exact infoEnRd) (by rw [HS.out.1]; rfl) HS.out.2.1 (pk (h := hK _ _ ⟨⟨(HZ1.out.lr.setRowOther (by omega)).setRowOther (by omega), (HZ1.out.le.setRowOther (by omega)).setRowOther (by omega)⟩, ?_⟩))
   clear hK
   refine tm 6 (.bool jb) (H := ⟨⟨(HZ1.out.lr.setRowOther (by omega)).setRowOther (by omega), (HZ1.out.le.setRowOther (by omega)).setRowOther (by omega)⟩, ?_⟩)
   refine wpAnyH_done (by kernel_rfl) ?_ _
   have h9 : Blk ((wz1.setRow w.heap.size #[.slice b n c]).setRow (w.heap.size + 1) ec) w.heap.size #[.slice b n c] 26 ∧ Blk ((wz1.setRow w.heap.size #[.slice b n c]).setRow (w.heap.size + 1) ec) (w.heap.size + 1) ec 33 := two_set_rowsP HZ1.out.r1 HZ1.out.r2
   have ni1 : w.heap.size ∉ F := fun hx => by have := HZ1.out.fF _ hx; omega
   have ni2 : w.heap.size + 1 ∉ F := fun hx => by have := HZ1.out.fF _ hx; omega
   have ni3 : w.heap.size ∉ G := fun hx => by have := HZ1.out.gG _ hx; omega
   have ni4 : w.heap.size + 1 ∉ G := fun hx => by have := HZ1.out.gG _ hx; omega
   have rE : RdRw ((wz1.setRow w.heap.size #[.slice b n c]).setRow (w.heap.size + 1) ec) (.agg #[.slice b n c]) ⟨xs⟩ F := (HZ1.out.rr.agree (Agree.row ni1 _)).agree (Agree.row ni2 _)
   have eE : RdE ((wz1.setRow w.heap.size #[.slice b n c]).setRow (w.heap.size + 1) ec) (.agg ec) y G := (HZ1.out.re.agree (Agree.row ni3 _)).agree (Agree.row ni4 _)
   have bE : Below w.heap.size w ((wz1.setRow w.heap.size #[.slice b n c]).setRow (w.heap.size + 1) ec) := below_setRow (below_setRow HZ1.out.bel (Nat.le_refl _) _) (by omega) _
   obtain ⟨WW, hWW⟩ : ∃ W, W = ((wz1.setRow w.heap.size #[.slice b n c]).setRow (w.heap.size + 1) ec) := ⟨_, rfl⟩
   rw [← hWW] at h9 rE eE bE ⊢
   have HF9 : Hid (RdRw WW (.agg #[.slice b n c]) ⟨xs⟩ F ∧ RdE WW (.agg ec) y G ∧ Below w.heap.size w WW ∧ Blk WW w.heap.size #[.slice b n c] 26 ∧ Blk WW (w.heap.size + 1) ec 33) := ⟨rE, eE, bE, h9.1, h9.2⟩
   clear hWW h9 rE eE bE ni1 ni2 ni3 ni4 k1 k2 k3 HZ1
   go_wp2
   refine bodyPost_ret (results_row_row_tmp Tryz.results6 _ _ w.heap.size (w.heap.size + 1) _ _ _ _ _ _ rfl rfl HF9.out.2.2.2.1 HF9.out.2.2.2.2 Tryz.underlying26 rfl infoRwRd Tryz.underlying33 rfl (by rw [HS.out.1]; exact infoEnRd)) rfl ?_
   exact ⟨_, ⟨xs⟩, F, ec, y, G, jb, rfl, HF9.out.1, HF9.out.2.1, HS.out.1, HS.out.2.1, HN.out.1, HN.out.2, HS.out.2.2, HF9.out.2.2.1⟩
  ·
   obtain ⟨a9, n9, c9, e9, rl9, _⟩ := H6.out.rr
   injection e9 with e9
   have e9 := congrArg (fun z => z[0]?) e9
   simp at e9
   obtain ⟨rfl, rfl, rfl⟩ := e9
   obtain ⟨g, off, y0, cs, Fi, rfl, hgw, hy, hcs, hcc, hr⟩ := ens_at rl9 (k := 0) (by omega)
   have hgF : g ∈ F := by
    obtain ⟨b', off', ha', hb', _⟩ := rl9.get 0 (by omega)
    cases ha'
    exact hb'
   obtain ⟨x1, x2, _, p0, l0, k0, a01, n01, c01, a02, n02, c02, a03, n03, c03, ev0, _⟩ := hr
   injection ev0 with ev0
   have d0 : w6.cell? ⟨g, off, none⟩ = some (.int .i64 y0.key) := by have := hcc 0 (by omega); rw [ev0] at this; simpa using this
   have d1 : w6.cell? ⟨g, off + 1, none⟩ = some (.int .i64 y0.window) := by have := hcc 1 (by omega); rw [ev0] at this; simpa using this
   obtain ⟨G1, G2, hGe, p, l, k, a1, n1, c1, a2, n2, c2, a3, n3, c3, ev, hp, hr, hcp⟩ := H6.out.re
   injection ev with ev
   subst ev
   have HP : Hid (RdP w6 p l y.ids G1 ∧ RdSk w6 (.agg #[.int .i64 y.sk.count, .int .i64 y.sk.sum, .int .i64 y.sk.min, .int .i64 y.sk.max, .slice a1 n1 c1, .slice a2 n2 c2, .slice a3 n3 c3]) y.sk G2 ∧ Capd p l k ∧ G = G1 ++ G2) := ⟨hp, hr, hcp, hGe⟩
   have cL := H6.out.lr.cell 0
   have cb0 := H6.out.le.cell 0
   have cb1 := H6.out.le.cell 1
   have fb0 := H6.out.le.frozen 0
   have fb1 := H6.out.le.frozen 1
   simp only [aT, aS, aZ] at cL cb0 cb1
   have ne1 : ¬ g = E := by have := H6.out.fF g hgF; have := H6.out.lE; omega
   have ne2 : ¬ E = g := by omega
   have ne3 : ¬ L = E := by have := H6.out.lE; omega
   have ne4 : ¬ E = L := by omega
   clear hp hr hcp hgw hy hcs hcc ev0 hgF rl9 hGe
   go_wp2
   have m0 : ∀ x ∈ G1 ++ G2, x ≠ E := fun x hx => (H6.out.gG x (by rw [HP.out.2.2.2]; exact hx)).2
   have m1 : E ∉ G1 := fun hx => m0 E (List.mem_append_left _ hx) rfl
   have m2 : E ∉ G2 := fun hx => m0 E (List.mem_append_right _ hx) rfl
   have K1 := H6.out.set HA.out 0 (.int .i64 y0.key) (ec' := #[.int .i64 y0.key, .int .i64 y.window, .slice p l k, .int .i64 y.sk.count, .int .i64 y.sk.sum, .int .i64 y.sk.min, .int .i64 y.sk.max, .slice a1 n1 c1, .slice a2 n2 c2, .slice a3 n3 c3]) (y' := ⟨y0.key, y.window, y.ids, y.sk⟩) (by simp) ⟨G1, G2, HP.out.2.2.2, _, _, _, _, _, _, _, _, _, _, _, _, rfl, HP.out.1.agree (.set m1 0 _), HP.out.2.1.agree (.set m2 0 _), HP.out.2.2.1⟩
   have K2 := K1.set HA.out 1 (.int .i64 y0.window) (ec' := #[.int .i64 y0.key, .int .i64 y0.window, .slice p l k, .int .i64 y.sk.count, .int .i64 y.sk.sum, .int .i64 y.sk.min, .int .i64 y.sk.max, .slice a1 n1 c1, .slice a2 n2 c2, .slice a3 n3 c3]) (y' := ⟨y0.key, y0.window, y.ids, y.sk⟩) (by simp) ⟨G1, G2, HP.out.2.2.2, _, _, _, _, _, _, _, _, _, _, _, _, rfl, (HP.out.1.agree (.set m1 0 _)).agree (.set m1 1 _), (HP.out.2.1.agree (.set m2 0 _)).agree (.set m2 1 _), HP.out.2.2.1⟩
   obtain ⟨W8, hW8⟩ : ∃ W, W = (w6.setCell ⟨E, 0, none⟩ (.int .i64 y0.key)).setCell ⟨E, 1, none⟩ (.int .i64 y0.window) := ⟨_, rfl⟩
   rw [← hW8] at K2 ⊢
   have H8 : Hid (DrRP w q a len cap zs i6 h6 L (some ⟨g, off, none⟩) n c xs F E #[.int .i64 y0.key, .int .i64 y0.window, .slice p l k, .int .i64 y.sk.count, .int .i64 y.sk.sum, .int .i64 y.sk.min, .int .i64 y.sk.max, .slice a1 n1 c1, .slice a2 n2 c2, .slice a3 n3 c3] ⟨y0.key, y0.window, y.ids, y.sk⟩ G W8) := K2
   have HS8 : Hid ((#[.int .i64 y0.key, .int .i64 y0.window, .slice p l k, .int .i64 y.sk.count, .int .i64 y.sk.sum, .int .i64 y.sk.min, .int .i64 y.sk.max, .slice a1 n1 c1, .slice a2 n2 c2, .slice a3 n3 c3] : Array Value).size = 10 ∧ (#[.int .i64 y0.key, .int .i64 y0.window, .slice p l k, .int .i64 y.sk.count, .int .i64 y.sk.sum, .int .i64 y.sk.min, .int .i64 y.sk.max, .slice a1 n1 c1, .slice a2 n2 c2, .slice a3 n3 c3] : Array Value).all (·.oneCell') = true ∧ (⟨y0.key, y0.window, y.ids, y.sk⟩ : En).wt ≤ 1300) := ⟨rfl, by simp [Value.oneCell'], HS.out.2.2⟩
   clear K1 K2 hW8 m0 m1 m2 HP cL cb0 cb1 fb0 fb1 ne1 ne2 ne3 ne4 H6 d0 d1 HS
   obtain ⟨WD2, hWD⟩ : ∃ W, W = W8.drew := ⟨_, rfl⟩
   have HDd0 := H8.out.below ((Below.refl W8.heap.size W8).drew)
   rw [← hWD] at HDd0
   have HD2 : Hid (DrRP w q a len cap zs i6 h6 L (some ⟨g, off, none⟩) n c xs F E #[.int .i64 y0.key, .int .i64 y0.window, .slice p l k, .int .i64 y.sk.count, .int .i64 y.sk.sum, .int .i64 y.sk.min, .int .i64 y.sk.max, .slice a1 n1 c1, .slice a2 n2 c2, .slice a3 n3 c3] ⟨y0.key, y0.window, y.ids, y.sk⟩ G WD2) := HDd0
   clear HDd0 H8
   refine wp_region_held (S := fun W => Blk W L #[.slice (some ⟨g, off, none⟩) n c] 26 ∧ Blk W E #[.int .i64 y0.key, .int .i64 y0.window, .slice p l k, .int .i64 y.sk.count, .int .i64 y.sk.sum, .int .i64 y.sk.min, .int .i64 y.sk.max, .slice a1 n1 c1, .slice a2 n2 c2, .slice a3 n3 c3] 33) (by kernel_rfl) ?_
   change wpAnyH _ _ _ _ _ _ _ _ (World.drew _)
   rw [← hWD]
   clear hWD
   refine tk 0 (.agg #[.slice (some ⟨g, off, none⟩) n c]) (H := ⟨(yields_whole 26 L #[.slice (some ⟨g, off, none⟩) n c] 26 _ rfl rfl rfl Tryz.underlying26 rfl infoRwRd (fun W hW => hW.1)), ⟨HD2.out.lr, HD2.out.le⟩, ?_⟩)
   refine tk 1 (.agg #[.int .i64 y0.key, .int .i64 y0.window, .slice p l k, .int .i64 y.sk.count, .int .i64 y.sk.sum, .int .i64 y.sk.min, .int .i64 y.sk.max, .slice a1 n1 c1, .slice a2 n2 c2, .slice a3 n3 c3]) (H := ⟨(yields_whole 33 E #[.int .i64 y0.key, .int .i64 y0.window, .slice p l k, .int .i64 y.sk.count, .int .i64 y.sk.sum, .int .i64 y.sk.min, .int .i64 y.sk.max, .slice a1 n1 c1, .slice a2 n2 c2, .slice a3 n3 c3] 33 _ rfl rfl rfl Tryz.underlying33 rfl (by rw [HS8.out.1]; exact infoEnRd) (fun W hW => hW.2)), ⟨HD2.out.lr, HD2.out.le⟩, ?_⟩)
   refine tm 2 (.pointer (some ⟨q, 0, none⟩)) (H := ⟨⟨HD2.out.lr, HD2.out.le⟩, ?_⟩)
   refine oq 3 (H := fun K hK => ?_)
   refine op_call2' 27 _ _ _ Tryz.f27 (fun v w' => ∃ x i' h', v = .bool x ∧ Cur w' q a len cap zs i' h' ∧ WD2.grownBy w' (some q)) rfl rfl Tryz.func27 (by kernel_rfl) (by kernel_rfl) ((l1Once_any q a len cap zs i6 h6 2 WD2 HD2.out.cur hlen (by omega) (by omega)).mono (by rintro e w' ⟨x, i', h', rfl, r⟩; exact ⟨_, rfl, x, i', h', rfl, r⟩)) ?_
   rintro v wz2 ⟨jb, iz, hz, rfl, C9, g9⟩
   have HZ2 : Hid (DrRP w q a len cap zs iz hz L (some ⟨g, off, none⟩) n c xs F E #[.int .i64 y0.key, .int .i64 y0.window, .slice p l k, .int .i64 y.sk.count, .int .i64 y.sk.sum, .int .i64 y.sk.min, .int .i64 y.sk.max, .slice a1 n1 c1, .slice a2 n2 c2, .slice a3 n3 c3] ⟨y0.key, y0.window, y.ids, y.sk⟩ G wz2) := HD2.out.next C9 g9
   clear C9 g9 HD2
   refine pk (h := hK _ _ ⟨⟨HZ2.out.lr, HZ2.out.le⟩, ?_⟩)
   clear hK
   have k1 := HZ2.out.gq
   have k2 := HZ2.out.ql
   have k3 := HZ2.out.lE
   refine oq 4 (H := fun K hK => ?_)
   refine op_store 26 w.heap.size #[.slice none 0 0] #[.slice (some ⟨g, off, none⟩) n c] 26 rfl rfl rfl rfl HZ2.out.r1 infoRwRd rfl (by simp [Value.oneCell']) (pk (h := hK _ _ ⟨⟨HZ2.out.lr.setRowOther (by omega), HZ2.out.le.setRowOther (by omega)⟩, ?_⟩))
   clear hK
   refine oq 5 (H := fun K hK => ?_)
   refine op_store 33 (w.heap.size + 1) #[.int .i64 0, .int .i64 0, .slice none 0 0, .int .i64 0, .int .i64 0, .int .i64 0, .int .i64 0, .slice none 0 0, .slice none 0 0, .slice none 0 0] #[.int .i64 y0.key, .int .i64 y0.window, .slice p l k, .int .i64 y.sk.count, .int .i64 y.sk.sum, .int .i64 y.sk.min, .int .i64 y.sk.max, .slice a1 n1 c1, .slice a2 n2 c2, .slice a3 n3 c3] 33 rfl rfl rfl rfl (HZ2.out.r2.setRowOther (by omega)) (by rw [HS8.out.1]; exact infoEnRd) (by rw [HS8.out.1]; rfl) HS8.out.2.1 (pk (h := hK _ _ ⟨⟨(HZ2.out.lr.setRowOther (by omega)).setRowOther (by omega), (HZ2.out.le.setRowOther (by omega)).setRowOther (by omega)⟩, ?_⟩))
   clear hK
   refine tm 6 (.bool jb) (H := ⟨⟨(HZ2.out.lr.setRowOther (by omega)).setRowOther (by omega), (HZ2.out.le.setRowOther (by omega)).setRowOther (by omega)⟩, ?_⟩)
   refine wpAnyH_done (by kernel_rfl) ?_ _
   have h9 : Blk ((wz2.setRow w.heap.size #[.slice (some ⟨g, off, none⟩) n c]).setRow (w.heap.size + 1) #[.int .i64 y0.key, .int .i64 y0.window, .slice p l k, .int .i64 y.sk.count, .int .i64 y.sk.sum, .int .i64 y.sk.min, .int .i64 y.sk.max, .slice a1 n1 c1, .slice a2 n2 c2, .slice a3 n3 c3]) w.heap.size #[.slice (some ⟨g, off, none⟩) n c] 26 ∧ Blk ((wz2.setRow w.heap.size #[.slice (some ⟨g, off, none⟩) n c]).setRow (w.heap.size + 1) #[.int .i64 y0.key, .int .i64 y0.window, .slice p l k, .int .i64 y.sk.count, .int .i64 y.sk.sum, .int .i64 y.sk.min, .int .i64 y.sk.max, .slice a1 n1 c1, .slice a2 n2 c2, .slice a3 n3 c3]) (w.heap.size + 1) #[.int .i64 y0.key, .int .i64 y0.window, .slice p l k, .int .i64 y.sk.count, .int .i64 y.sk.sum, .int .i64 y.sk.min, .int .i64 y.sk.max, .slice a1 n1 c1, .slice a2 n2 c2, .slice a3 n3 c3] 33 := two_set_rowsP HZ2.out.r1 HZ2.out.r2
   have ni1 : w.heap.size ∉ F := fun hx => by have := HZ2.out.fF _ hx; omega
   have ni2 : w.heap.size + 1 ∉ F := fun hx => by have := HZ2.out.fF _ hx; omega
   have ni3 : w.heap.size ∉ G := fun hx => by have := HZ2.out.gG _ hx; omega
   have ni4 : w.heap.size + 1 ∉ G := fun hx => by have := HZ2.out.gG _ hx; omega
   have rE : RdRw ((wz2.setRow w.heap.size #[.slice (some ⟨g, off, none⟩) n c]).setRow (w.heap.size + 1) #[.int .i64 y0.key, .int .i64 y0.window, .slice p l k, .int .i64 y.sk.count, .int .i64 y.sk.sum, .int .i64 y.sk.min, .int .i64 y.sk.max, .slice a1 n1 c1, .slice a2 n2 c2, .slice a3 n3 c3]) (.agg #[.slice (some ⟨g, off, none⟩) n c]) ⟨xs⟩ F := (HZ2.out.rr.agree (Agree.row ni1 _)).agree (Agree.row ni2 _)
   have eE : RdE ((wz2.setRow w.heap.size #[.slice (some ⟨g, off, none⟩) n c]).setRow (w.heap.size + 1) #[.int .i64 y0.key, .int .i64 y0.window, .slice p l k, .int .i64 y.sk.count, .int .i64 y.sk.sum, .int .i64 y.sk.min, .int .i64 y.sk.max, .slice a1 n1 c1, .slice a2 n2 c2, .slice a3 n3 c3]) (.agg #[.int .i64 y0.key, .int .i64 y0.window, .slice p l k, .int .i64 y.sk.count, .int .i64 y.sk.sum, .int .i64 y.sk.min, .int .i64 y.sk.max, .slice a1 n1 c1, .slice a2 n2 c2, .slice a3 n3 c3]) ⟨y0.key, y0.window, y.ids, y.sk⟩ G := (HZ2.out.re.agree (Agree.row ni3 _)).agree (Agree.row ni4 _)
   have bE : Below w.heap.size w ((wz2.setRow w.heap.size #[.slice (some ⟨g, off, none⟩) n c]).setRow (w.heap.size + 1) #[.int .i64 y0.key, .int .i64 y0.window, .slice p l k, .int .i64 y.sk.count, .int .i64 y.sk.sum, .int .i64 y.sk.min, .int .i64 y.sk.max, .slice a1 n1 c1, .slice a2 n2 c2, .slice a3 n3 c3]) := below_setRow (below_setRow HZ2.out.bel (Nat.le_refl _) _) (by omega) _
   obtain ⟨WW, hWW⟩ : ∃ W, W = ((wz2.setRow w.heap.size #[.slice (some ⟨g, off, none⟩) n c]).setRow (w.heap.size + 1) #[.int .i64 y0.key, .int .i64 y0.window, .slice p l k, .int .i64 y.sk.count, .int .i64 y.sk.sum, .int .i64 y.sk.min, .int .i64 y.sk.max, .slice a1 n1 c1, .slice a2 n2 c2, .slice a3 n3 c3]) := ⟨_, rfl⟩
   rw [← hWW] at h9 rE eE bE ⊢
   have HF9 : Hid (RdRw WW (.agg #[.slice (some ⟨g, off, none⟩) n c]) ⟨xs⟩ F ∧ RdE WW (.agg #[.int .i64 y0.key, .int .i64 y0.window, .slice p l k, .int .i64 y.sk.count, .int .i64 y.sk.sum, .int .i64 y.sk.min, .int .i64 y.sk.max, .slice a1 n1 c1, .slice a2 n2 c2, .slice a3 n3 c3]) ⟨y0.key, y0.window, y.ids, y.sk⟩ G ∧ Below w.heap.size w WW ∧ Blk WW w.heap.size #[.slice (some ⟨g, off, none⟩) n c] 26 ∧ Blk WW (w.heap.size + 1) #[.int .i64 y0.key, .int .i64 y0.window, .slice p l k, .int .i64 y.sk.count, .int .i64 y.sk.sum, .int .i64 y.sk.min, .int .i64 y.sk.max, .slice a1 n1 c1, .slice a2 n2 c2, .slice a3 n3 c3] 33) := ⟨rE, eE, bE, h9.1, h9.2⟩
   clear hWW h9 rE eE bE ni1 ni2 ni3 ni4 k1 k2 k3 HZ2
   go_wp2
   refine bodyPost_ret (results_row_row_tmp Tryz.results6 _ _ w.heap.size (w.heap.size + 1) _ _ _ _ _ _ rfl rfl HF9.out.2.2.2.1 HF9.out.2.2.2.2 Tryz.underlying26 rfl infoRwRd Tryz.underlying33 rfl (by rw [HS8.out.1]; exact infoEnRd)) rfl ?_
   exact ⟨_, ⟨xs⟩, F, #[.int .i64 y0.key, .int .i64 y0.window, .slice p l k, .int .i64 y.sk.count, .int .i64 y.sk.sum, .int .i64 y.sk.min, .int .i64 y.sk.max, .slice a1 n1 c1, .slice a2 n2 c2, .slice a3 n3 c3], ⟨y0.key, y0.window, y.ids, y.sk⟩, G, jb, rfl, HF9.out.1, HF9.out.2.1, HS8.out.1, HS8.out.2.1, HN.out.1, HN.out.2, HS8.out.2.2, HF9.out.2.2.1⟩
 ·
  have hI : ¬ (0 : Int) < (n : Int) := by omega
  have hgt : decide ((n : Int) > 0) = false := dec_false hI
  go_wp2_with fail
  clear c6
  obtain ⟨WD3, hWD⟩ : ∃ W, W = w5.drew := ⟨_, rfl⟩
  have HDd0 := H5.out.below ((Below.refl w5.heap.size w5).drew)
  rw [← hWD] at HDd0
  have HD3 : Hid (DrRP w q a len cap zs i4 h4 L b n c xs F E ec y G WD3) := HDd0
  clear HDd0 H5
  refine wp_region_held (S := fun W => Blk W L #[.slice b n c] 26 ∧ Blk W E ec 33) (by kernel_rfl) ?_
  change wpAnyH _ _ _ _ _ _ _ _ (World.drew _)
  rw [← hWD]
  clear hWD
  refine tk 0 (.agg #[.slice b n c]) (H := ⟨(yields_whole 26 L #[.slice b n c] 26 _ rfl rfl rfl Tryz.underlying26 rfl infoRwRd (fun W hW => hW.1)), ⟨HD3.out.lr, HD3.out.le⟩, ?_⟩)
  refine tk 1 (.agg ec) (H := ⟨(yields_whole 33 E ec 33 _ rfl rfl rfl Tryz.underlying33 rfl (by rw [HS.out.1]; exact infoEnRd) (fun W hW => hW.2)), ⟨HD3.out.lr, HD3.out.le⟩, ?_⟩)
  refine tm 2 (.pointer (some ⟨q, 0, none⟩)) (H := ⟨⟨HD3.out.lr, HD3.out.le⟩, ?_⟩)
  refine oq 3 (H := fun K hK => ?_)
  refine op_call2' 27 _ _ _ Tryz.f27 (fun v w' => ∃ x i' h', v = .bool x ∧ Cur w' q a len cap zs i' h' ∧ WD3.grownBy w' (some q)) rfl rfl Tryz.func27 (by kernel_rfl) (by kernel_rfl) ((l1Once_any q a len cap zs i4 h4 2 WD3 HD3.out.cur hlen (by omega) (by omega)).mono (by rintro e w' ⟨x, i', h', rfl, r⟩; exact ⟨_, rfl, x, i', h', rfl, r⟩)) ?_
  rintro v wz3 ⟨jb, iz, hz, rfl, C9, g9⟩
  have HZ3 : Hid (DrRP w q a len cap zs iz hz L b n c xs F E ec y G wz3) := HD3.out.next C9 g9
  clear C9 g9 HD3
  refine pk (h := hK _ _ ⟨⟨HZ3.out.lr, HZ3.out.le⟩, ?_⟩)
  clear hK
  have k1 := HZ3.out.gq
  have k2 := HZ3.out.ql
  have k3 := HZ3.out.lE
  refine oq 4 (H := fun K hK => ?_)
  refine op_store 26 w.heap.size #[.slice none 0 0] #[.slice b n c] 26 rfl rfl rfl rfl HZ3.out.r1 infoRwRd rfl (by simp [Value.oneCell']) (pk (h := hK _ _ ⟨⟨HZ3.out.lr.setRowOther (by omega), HZ3.out.le.setRowOther (by omega)⟩, ?_⟩))
  clear hK
  refine oq 5 (H := fun K hK => ?_)
  refine op_store 33 (w.heap.size + 1) #[.int .i64 0, .int .i64 0, .slice none 0 0, .int .i64 0, .int .i64 0, .int .i64 0, .int .i64 0, .slice none 0 0, .slice none 0 0, .slice none 0 0] ec 33 rfl rfl rfl rfl (HZ3.out.r2.setRowOther (by omega)) (by rw [HS.out.1]; exact infoEnRd) (by rw [HS.out.1]; rfl) HS.out.2.1 (pk (h := hK _ _ ⟨⟨(HZ3.out.lr.setRowOther (by omega)).setRowOther (by omega), (HZ3.out.le.setRowOther (by omega)).setRowOther (by omega)⟩, ?_⟩))
  clear hK
  refine tm 6 (.bool jb) (H := ⟨⟨(HZ3.out.lr.setRowOther (by omega)).setRowOther (by omega), (HZ3.out.le.setRowOther (by omega)).setRowOther (by omega)⟩, ?_⟩)
  refine wpAnyH_done (by kernel_rfl) ?_ _
  have h9 : Blk ((wz3.setRow w.heap.size #[.slice b n c]).setRow (w.heap.size + 1) ec) w.heap.size #[.slice b n c] 26 ∧ Blk ((wz3.setRow w.heap.size #[.slice b n c]).setRow (w.heap.size + 1) ec) (w.heap.size + 1) ec 33 := two_set_rowsP HZ3.out.r1 HZ3.out.r2
  have ni1 : w.heap.size ∉ F := fun hx => by have := HZ3.out.fF _ hx; omega
  have ni2 : w.heap.size + 1 ∉ F := fun hx => by have := HZ3.out.fF _ hx; omega
  have ni3 : w.heap.size ∉ G := fun hx => by have := HZ3.out.gG _ hx; omega
  have ni4 : w.heap.size + 1 ∉ G := fun hx => by have := HZ3.out.gG _ hx; omega
  have rE : RdRw ((wz3.setRow w.heap.size #[.slice b n c]).setRow (w.heap.size + 1) ec) (.agg #[.slice b n c]) ⟨xs⟩ F := (HZ3.out.rr.agree (Agree.row ni1 _)).agree (Agree.row ni2 _)
  have eE : RdE ((wz3.setRow w.heap.size #[.slice b n c]).setRow (w.heap.size + 1) ec) (.agg ec) y G := (HZ3.out.re.agree (Agree.row ni3 _)).agree (Agree.row ni4 _)
  have bE : Below w.heap.size w ((wz3.setRow w.heap.size #[.slice b n c]).setRow (w.heap.size + 1) ec) := below_setRow (below_setRow HZ3.out.bel (Nat.le_refl _) _) (by omega) _
  obtain ⟨WW, hWW⟩ : ∃ W, W = ((wz3.setRow w.heap.size #[.slice b n c]).setRow (w.heap.size + 1) ec) := ⟨_, rfl⟩
  rw [← hWW] at h9 rE eE bE ⊢
  have HF9 : Hid (RdRw WW (.agg #[.slice b n c]) ⟨xs⟩ F ∧ RdE WW (.agg ec) y G ∧ Below w.heap.size w WW ∧ Blk WW w.heap.size #[.slice b n c] 26 ∧ Blk WW (w.heap.size + 1) ec 33) := ⟨rE, eE, bE, h9.1, h9.2⟩
  clear hWW h9 rE eE bE ni1 ni2 ni3 ni4 k1 k2 k3 HZ3
  go_wp2
  refine bodyPost_ret (results_row_row_tmp Tryz.results6 _ _ w.heap.size (w.heap.size + 1) _ _ _ _ _ _ rfl rfl HF9.out.2.2.2.1 HF9.out.2.2.2.2 Tryz.underlying26 rfl infoRwRd Tryz.underlying33 rfl (by rw [HS.out.1]; exact infoEnRd)) rfl ?_
  exact ⟨_, ⟨xs⟩, F, ec, y, G, jb, rfl, HF9.out.1, HF9.out.2.1, HS.out.1, HS.out.2.1, HN.out.1, HN.out.2, HS.out.2.2, HF9.out.2.2.1⟩
end
section
open Go.RowKit
def placeLt (x e : En) : Bool := decide (x.key < e.key) || (x.key == e.key && decide (x.window < e.window))
theorem placeLt_iff {x e : En} : placeLt x e = true ↔ x.key < e.key ∨ (x.key = e.key ∧ x.window < e.window) := by unfold placeLt; simp
theorem placeLt_trans {x y z : En} (h : placeLt x y = true) (k : placeLt y z = true) : placeLt x z = true := by
 rw [placeLt_iff] at *; omega
theorem placeLt_not {x y : En} (h : placeLt x y = true) : samePlace x y = false := by
 cases hs : samePlace x y
 ·
  rfl
 ·
  rw [placeLt_iff] at h; rw [samePlace_iff] at hs; omega
theorem placeLt_asymm {x y : En} (h : placeLt x y = true) : placeLt y x = false := by
 cases hs : placeLt y x
 ·
  rfl
 ·
  rw [placeLt_iff] at h hs; omega
theorem placeLt_total {x y : En} (h : samePlace x y = false) (k : placeLt y x = false) : placeLt x y = true := by
 have h' : ¬ (x.key = y.key ∧ x.window = y.window) := fun e => by rw [samePlace_iff.2 e] at h; cases h
 have k' : ¬ (y.key < x.key ∨ (y.key = x.key ∧ y.window < x.window)) := fun e => by rw [placeLt_iff.2 e] at k; cases k
 rw [placeLt_iff]; omega
theorem samePlace_symm {x y : En} : samePlace x y = samePlace y x := by
 cases h : samePlace y x
 ·
  cases k : samePlace x y
  ·
   rfl
  ·
   rw [samePlace_iff] at k; rw [samePlace_iff.2 ⟨k.1.symm, k.2.symm⟩] at h; cases h
 ·
  rw [samePlace_iff] at h; exact samePlace_iff.2 ⟨h.1.symm, h.2.symm⟩
def Asc (xs : List En) : Prop := xs.Pairwise fun x y => placeLt x y = true
def Dist (xs : List En) : Prop := xs.Pairwise fun x y => samePlace x y = false
theorem Asc.dist {xs : List En} (h : Asc xs) : Dist xs := List.Pairwise.imp (fun h => placeLt_not h) h
theorem Dist.perm {xs ys : List En} (h : Dist xs) (p : xs.Perm ys) : Dist ys := (p.pairwise_iff (fun h => by rw [samePlace_symm]; exact h)).1 h
theorem Dist.one : ∀ {xs : List En}, Dist xs → ∀ {y z : En}, y ∈ xs → z ∈ xs → samePlace y z = true → y = z
 | [], _, y, z, hy, _, _ => by cases hy
 | x :: xs, h, y, z, hy, hz, hs => by
  obtain ⟨h1, h2⟩ := List.pairwise_cons.1 h
  rcases List.mem_cons.1 hy with rfl | hy'
  ·
   rcases List.mem_cons.1 hz with rfl | hz'
   ·
    rfl
   ·
    rw [h1 z hz'] at hs; cases hs
  ·
   rcases List.mem_cons.1 hz with rfl | hz'
   ·
    rw [samePlace_symm, h1 y hy'] at hs; cases hs
   ·
    exact Dist.one h2 hy' hz' hs
def insAt (xs : List En) (e : En) : Nat := xs.findIdx fun x => placeLt e x
def insL (xs : List En) (e : En) : List En := match hitAt xs e with
 | some k => xs.set k ((xs.getD k En.zero).add e)
 | none => xs.take (insAt xs e) ++ e :: xs.drop (insAt xs e)
theorem insL_hit {xs : List En} {e : En} {k : Nat} {y : En} (h : hitAt xs e = some k) (hy : xs[k]? = some y) : insL xs e = xs.set k (y.add e) := by
 unfold insL; rw [h]; show xs.set k ((xs.getD k En.zero).add e) = _; rw [List.getD_eq_getElem?_getD, hy]; rfl
theorem insL_none {xs : List En} {e : En} (h : hitAt xs e = none) : insL xs e = xs.take (insAt xs e) ++ e :: xs.drop (insAt xs e) := by unfold insL; rw [h]
theorem asc_ins : ∀ {xs : List En} {e : En}, Asc xs → (∀ z ∈ xs, samePlace z e = false) → Asc (xs.take (insAt xs e) ++ e :: xs.drop (insAt xs e))
 | [], e, _, _ => by simp [insAt, Asc]
 | x :: xs, e, h, hn => by
  obtain ⟨h1, h2⟩ := List.pairwise_cons.1 h
  cases hp : placeLt e x
  ·
   have ha : insAt (x :: xs) e = insAt xs e + 1 := by unfold insAt; rw [List.findIdx_cons, hp]; rfl
   rw [ha, List.take_succ_cons, List.drop_succ_cons]
   have ih := asc_ins h2 (fun z hz => hn z (List.mem_cons_of_mem _ hz))
   refine List.pairwise_cons.2 ⟨fun z hz => ?_, ih⟩
   have hxe := placeLt_total (hn x List.mem_cons_self) hp
   rcases List.mem_append.1 hz with hz | hz
   ·
    exact h1 z (List.mem_of_mem_take hz)
   ·
    rcases List.mem_cons.1 hz with rfl | hz
    ·
     exact hxe
    ·
     exact h1 z (List.mem_of_mem_drop hz)
  ·
   have ha : insAt (x :: xs) e = 0 := by unfold insAt; rw [List.findIdx_cons, hp]; rfl
   rw [ha]
   refine List.pairwise_cons.2 ⟨fun z hz => ?_, h⟩
   rcases List.mem_cons.1 hz with rfl | hz
   ·
    exact hp
   ·
    exact placeLt_trans hp (h1 z hz)
theorem asc_places {xs ys : List En} (h : Asc xs) (hm : ys.map (fun x => (x.key, x.window)) = xs.map (fun x => (x.key, x.window))) : Asc ys := by
 have lem : ∀ zs : List En, Asc zs ↔ (zs.map (fun x => (x.key, x.window))).Pairwise (fun p q => p.1 < q.1 ∨ (p.1 = q.1 ∧ p.2 < q.2)) := fun zs => by
  rw [List.pairwise_map]
  unfold Asc
  constructor
  ·
   exact List.Pairwise.imp (fun h => placeLt_iff.1 h)
  ·
   exact List.Pairwise.imp (fun h => placeLt_iff.2 h)
 rw [lem] at h ⊢
 rw [hm]; exact h
theorem asc_set {xs : List En} {k : Nat} {y z : En} (h : Asc xs) (hy : xs[k]? = some y) (hk : z.key = y.key) (hw : z.window = y.window) : Asc (xs.set k z) := by
 refine asc_places h ?_
 apply List.ext_getElem?
 intro i
 simp only [List.getElem?_map, List.getElem?_set]
 by_cases e : k = i
 ·
  subst e
  obtain ⟨hl, hy2⟩ := List.getElem?_eq_some_iff.1 hy
  subst hy2
  simp [hl, hk, hw]
 ·
  simp [e]
theorem perm_set {xs : List En} {k : Nat} {y : En} (hy : xs[k]? = some y) : ∃ r, xs.Perm (y :: r) ∧ ∀ z, (xs.set k z).Perm (z :: r) := by
 obtain ⟨hk, hy⟩ := List.getElem?_eq_some_iff.1 hy
 refine ⟨xs.take k ++ xs.drop (k + 1), ?_, fun z => ?_⟩
 ·
  have e : xs = xs.take k ++ y :: xs.drop (k + 1) := by rw [← hy, List.getElem_cons_drop hk, List.take_append_drop]
  exact (List.Perm.of_eq e).trans List.perm_middle
 ·
  rw [List.set_eq_take_append_cons_drop, if_pos hk]
  exact List.perm_middle
theorem perm_ins (xs : List En) (e : En) (a : Nat) : (xs.take a ++ e :: xs.drop a).Perm (e :: xs) := by
 refine List.perm_middle.trans ?_
 rw [List.take_append_drop]
theorem asc_insL {xs : List En} {e : En} (h : Asc xs) : Asc (insL xs e) := by
 cases hh : hitAt xs e
 ·
  rw [insL_none hh]; exact asc_ins h (hitAt_no hh)
 ·
  rename_i k
  obtain ⟨y, hy, _⟩ := hitAt_lt hh
  rw [insL_hit hh hy]
  exact asc_set h hy rfl rfl
theorem perm_push {P M : List En} {e : En} (ha : Asc M) (hp : P.Perm M) (hok : ∀ y ∈ P, samePlace y e = true → y.addOk e = true) : (pushL P e true).Perm (insL M e) := by
 have hd : Dist P := ha.dist.perm hp.symm
 cases hh : hitAt P e
 ·
  have hn := hitAt_no hh
  have hm : hitAt M e = none := hitAt_none (fun z hz => hn z (hp.mem_iff.2 hz))
  rw [pushL_none (.inr hh), insL_none hm]
  exact (List.perm_append_singleton e P).trans ((hp.cons e).trans (perm_ins M e _).symm)
 ·
  rename_i k
  obtain ⟨y, hy, hs, _⟩ := hitAt_lt hh
  have hyP : y ∈ P := List.mem_of_getElem? hy
  cases hm : hitAt M e
  ·
   have := hitAt_no hm y (hp.mem_iff.1 hyP)
   rw [hs] at this; cases this
  ·
   rename_i j
   obtain ⟨y', hy', hs', _⟩ := hitAt_lt hm
   have e1 : y' = y := by
    refine hd.one (hp.mem_iff.2 (List.mem_of_getElem? hy')) hyP ?_
    rw [samePlace_iff] at hs hs' ⊢
    exact ⟨by omega, by omega⟩
   subst e1
   rw [pushL_hit hh hy, insL_hit hm hy', En.addR_yes (hok y' hyP hs)]
   obtain ⟨r, p1, p2⟩ := perm_set hy
   obtain ⟨r', q1, q2⟩ := perm_set hy'
   have : r.Perm r' := ((p1.symm.trans hp).trans q1).cons_inv
   exact (p2 _).trans ((this.cons _).trans (q2 _).symm)
theorem asc_unique : ∀ {A B : List En}, Asc A → Asc B → A.Perm B → A = B
 | [], B, _, _, p => (List.nil_perm.1 p).symm
 | a :: A, [], _, _, p => by have := p.length_eq; simp at this
 | a :: A, b :: B, h, k, p => by
  obtain ⟨h1, h2⟩ := List.pairwise_cons.1 h
  obtain ⟨k1, k2⟩ := List.pairwise_cons.1 k
  have e : a = b := by
   rcases List.mem_cons.1 (p.mem_iff.1 (List.mem_cons_self (a := a) (l := A))) with e | ha
   ·
    exact e
   ·
    rcases List.mem_cons.1 (p.mem_iff.2 (List.mem_cons_self (a := b) (l := B))) with e | hb
    ·
     exact e.symm
    ·
     have q1 := h1 b hb
     have q2 := k1 a ha
     rw [placeLt_asymm q1] at q2; cases q2
  subst e
  rw [asc_unique h2 k2 p.cons_inv]
def Far (x y : En) : Prop := ∀ n, (x.ids.has n && y.ids.has n) = false
theorem good_pair {xs : List En} : Good xs ↔ (∀ y ∈ xs, y.ok = true) ∧ xs.Pairwise Far := by
 constructor
 ·
  intro h
  refine ⟨fun y hy => ?_, List.pairwise_iff_getElem.2 fun i j hi hj hij n => h.2 i j _ _ hij (List.getElem?_eq_getElem hi) (List.getElem?_eq_getElem hj) n⟩
  obtain ⟨i, hi⟩ := List.mem_iff_getElem?.1 hy
  exact h.1 i y hi
 ·
  rintro ⟨h1, h2⟩
  refine ⟨fun i y hy => h1 y (List.mem_of_getElem? hy), fun i j y z hij hy hz n => ?_⟩
  obtain ⟨hi, rfl⟩ := List.getElem?_eq_some_iff.1 hy
  obtain ⟨hj, rfl⟩ := List.getElem?_eq_some_iff.1 hz
  exact List.pairwise_iff_getElem.1 h2 i j hi hj hij n
theorem Far.symm {x y : En} (h : Far x y) : Far y x := fun n => by rw [Bool.and_comm]; exact h n
theorem good_perm {xs ys : List En} (p : xs.Perm ys) (h : Good xs) : Good ys := by
 rw [good_pair] at h ⊢
 exact ⟨fun y hy => h.1 y (p.mem_iff.2 hy), (p.pairwise_iff Far.symm).1 h.2⟩
theorem far_apart {x y : En} (h : Far x y) (hx : x.ok = true) (hy : y.ok = true) : x.ids.apart y.ids = true := (apart_iff (En.ok_ids hx).1 (En.ok_ids hy).1).2 h
theorem good_push {P rest : List En} {e : En} (h : Good (P ++ e :: rest)) : Good (pushL P e true ++ rest) ∧ ∀ y ∈ P, samePlace y e = true → y.addOk e = true := by
 have hg := good_pair.1 h
 have hap : ∀ y ∈ P, samePlace y e = true → y.addOk e = true := fun y hy hs => by
  have hy1 : y.ok = true := hg.1 y (List.mem_append_left _ hy)
  have he1 : e.ok = true := hg.1 e (List.mem_append_right _ List.mem_cons_self)
  have hf : Far y e := (List.pairwise_append.1 hg.2).2.2 y hy e List.mem_cons_self
  exact addOk_of hy1 he1 hs (far_apart hf hy1 he1)
 refine ⟨?_, hap⟩
 cases hh : hitAt P e
 ·
  rw [pushL_none (.inr hh), List.append_assoc]; exact h
 ·
  rename_i k
  obtain ⟨y, hy, hs, _⟩ := hitAt_lt hh
  have ha := hap y (List.mem_of_getElem? hy) hs
  rw [pushL_hit hh hy]
  obtain ⟨r, p1, p2⟩ := perm_set hy
  have hP : (P ++ e :: rest).Perm (y :: e :: (r ++ rest)) := by
   refine (p1.append_right _).trans ?_
   show (y :: (r ++ e :: rest)).Perm _
   exact List.perm_middle.cons y
  have hg2 := good_pair.1 (good_perm hP h)
  obtain ⟨q1, q2⟩ := List.pairwise_cons.1 hg2.2
  obtain ⟨q3, q4⟩ := List.pairwise_cons.1 q2
  refine good_perm ((p2 (y.addR e)).append_right rest).symm ?_
  show Good (y.addR e :: (r ++ rest))
  refine good_pair.2 ⟨fun z hz => ?_, List.pairwise_cons.2 ⟨fun z hz n => ?_, q4⟩⟩
  ·
   rcases List.mem_cons.1 hz with rfl | hz
   ·
    exact addR_ok ha
   ·
    exact hg2.1 z (List.mem_cons_of_mem _ (List.mem_cons_of_mem _ hz))
  ·
   rw [has_addR ha]
   have a1 := q1 z (List.mem_cons_of_mem _ hz) n
   have a2 := q3 z hz n
   cases h1 : z.ids.has n <;> simp_all
def sumP (P : List En) (xs : List En) : List En := xs.foldl (fun s e => pushL s e true) P
def sumM (M : List En) (xs : List En) : List En := xs.foldl insL M
theorem sums_perm : ∀ {xs P M : List En}, Asc M → P.Perm M → Good (P ++ xs) → (sumP P xs).Perm (sumM M xs) ∧ Asc (sumM M xs) ∧ Good (sumP P xs)
 | [], P, M, ha, hp, hg => ⟨hp, ha, by rw [List.append_nil] at hg; exact hg⟩
 | e :: xs, P, M, ha, hp, hg => by
  obtain ⟨g1, g2⟩ := good_push hg
  show (sumP (pushL P e true) xs).Perm (sumM (insL M e) xs) ∧ Asc (sumM (insL M e) xs) ∧ Good (sumP (pushL P e true) xs)
  exact sums_perm (asc_insL ha) (perm_push ha hp g2) g1
theorem ensSize_append (xs ys : List En) : ensSize (xs ++ ys) = ensSize xs + ensSize ys := by unfold ensSize; rw [sumOfL_split]
theorem sumP_size : ∀ {xs P : List En}, ensSize (sumP P xs) ≤ ensSize P + ensSize xs ∧ (sumP P xs).length ≤ P.length + xs.length
 | [], P => ⟨by show ensSize P ≤ ensSize P + ensSize []; have : ensSize ([] : List En) = 0 := rfl; omega, Nat.le_refl _⟩
 | e :: xs, P => by
  obtain ⟨h1, h2⟩ := sumP_size (xs := xs) (P := pushL P e true)
  obtain ⟨k1, k2, _⟩ := pushL_size P e true
  have : ensSize (e :: xs) = e.wt + ensSize xs := rfl
  refine ⟨?_, ?_⟩
  ·
   show ensSize (sumP (pushL P e true) xs) ≤ _; omega
  ·
   show (sumP (pushL P e true) xs).length ≤ _; simp only [List.length_cons]; omega
def Rw.sums (x : Rw) : List En := if x.ok = true then sumM [] x.list else []
theorem sums_at {x : Rw} (hok : x.ok = true) (hf : x.fits) (k : Nat) : Asc (sumM [] (x.list.take k)) ∧ (∀ y ∈ sumM [] (x.list.take k), y.ok = true ∧ y.fits) ∧ (sumM [] (x.list.take k)).length ≤ 24 ∧ (sumP [] (x.list.take k)).Perm (sumM [] (x.list.take k)) ∧ Good (sumP [] (x.list.take k)) ∧ ensSize (sumP [] (x.list.take k)) ≤ 1048576 := by
 obtain ⟨h24, hg⟩ := rw_ok_iff.1 hok
 have hg' := good_pair.1 hg
 have hgt : Good (x.list.take k) := good_pair.2 ⟨fun y hy => hg'.1 y (List.mem_of_mem_take hy), hg'.2.sublist (List.take_sublist _ _)⟩
 obtain ⟨h1, h2, h3⟩ := sums_perm (xs := x.list.take k) (P := []) (M := []) List.Pairwise.nil (List.Perm.refl _) hgt
 obtain ⟨s1, s2⟩ := sumP_size (xs := x.list.take k) (P := [])
 have e1 : ensSize x.list = ensSize (x.list.take k) + ensSize (x.list.drop k) := by rw [← ensSize_append, List.take_append_drop]
 have e2 := ensSize_nonneg (x.list.drop k)
 have e3 : ensSize ([] : List En) = 0 := rfl
 have hs : ensSize (sumP [] (x.list.take k)) ≤ 1048576 := by
  have := hf
  unfold Rw.fits Rw.size at this
  omega
 refine ⟨h2, fun y hy => ?_, ?_, h1, h3, hs⟩
 ·
  have hy' := h1.mem_iff.2 hy
  exact ⟨(good_pair.1 h3).1 y hy', mem_wt hy' hs⟩
 ·
  rw [← h1.length_eq]
  rw [List.length_take] at s2
  simp only [List.length_nil] at s2
  omega
end
section
open Go.RowKit
theorem En.add_ok {x y : En} (h1 : x.ok = true) (h2 : y.ok = true) : (x.add y).ok = true := by
 have i1 := En.ok_ids h1
 have i2 := En.ok_ids h2
 obtain ⟨j1, j2⟩ := join_right i1.1 i2.1
 obtain ⟨n, hn⟩ := some_in i1.1 i1.2
 have hp : 0 < (x.ids.join y.ids).length := has_pos (n := n) (by rw [j2, hn]; rfl)
 unfold En.ok
 rw [En.add_ids h1 h2, j1]
 show (placeOk x.key x.window && decide (0 < (x.ids.join y.ids).length) && true && (x.sk.merge y.sk).ok) = true
 rw [En.ok_place h1, merge_ok (En.ok_sk h1) (En.ok_sk h2), decide_eq_true hp]
 rfl
theorem Sp.ext_has {a b : Sp} (ha : a.ok = true) (hb : b.ok = true) (h : ∀ n, a.has n = b.has n) : a = b :=
 sp_ext (ok_iff.1 ha) (ok_iff.1 hb) (fun n => by unfold InS; rw [h n])
theorem join_swap {a b c : Sp} (ha : a.ok = true) (hb : b.ok = true) (hc : c.ok = true) : (a.join b).join c = (a.join c).join b := by
 obtain ⟨p1, p2⟩ := join_right ha hb
 obtain ⟨q1, q2⟩ := join_right ha hc
 obtain ⟨r1, r2⟩ := join_right p1 hc
 obtain ⟨s1, s2⟩ := join_right q1 hb
 refine Sp.ext_has r1 s1 (fun n => ?_)
 rw [r2, s2, p2, q2, Bool.or_assoc, Bool.or_assoc, Bool.or_comm (b.has n)]
theorem En.add_swap {y e z : En} (hy : y.ok = true) (he : e.ok = true) (hz : z.ok = true) : (y.add e).add z = (y.add z).add e := by
 refine En.eq_of rfl rfl ?_ ?_
 ·
  rw [En.add_ids (En.add_ok hy he) hz, En.add_ids (En.add_ok hy hz) he, En.add_ids hy he, En.add_ids hy hz]
  exact join_swap (En.ok_ids hy).1 (En.ok_ids he).1 (En.ok_ids hz).1
 ·
  show (y.sk.merge e.sk).merge z.sk = (y.sk.merge z.sk).merge e.sk
  rw [merge_assoc (En.ok_sk hy) (En.ok_sk he) (En.ok_sk hz), merge_assoc (En.ok_sk hy) (En.ok_sk hz) (En.ok_sk he), merge_comm (En.ok_sk he) (En.ok_sk hz)]
def atP (M : List En) (p : En) : Option En := M.find? fun z => samePlace z p
theorem atP_cons (x : En) (M : List En) (p : En) : atP (x :: M) p = if samePlace x p = true then some x else atP M p := by
 unfold atP; rw [List.find?_cons]; cases samePlace x p <;> rfl
theorem atP_some {M : List En} {p z : En} (h : atP M p = some z) : z ∈ M ∧ samePlace z p = true := ⟨List.mem_of_find?_eq_some h, List.find?_some (p := fun z => samePlace z p) h⟩
theorem atP_none {M : List En} {p : En} (h : atP M p = none) : ∀ z ∈ M, samePlace z p = false := fun z hz => by
 have := List.find?_eq_none.1 h z hz
 simpa using this
theorem same_tr {a b c : En} (h : samePlace a b = true) : samePlace a c = samePlace b c := by
 rw [samePlace_iff] at h
 unfold samePlace; rw [h.1, h.2]
theorem atP_mem {M : List En} {p z : En} (hd : Dist M) (hz : z ∈ M) (hs : samePlace z p = true) : atP M p = some z := by
 cases h : atP M p
 ·
  rw [atP_none h z hz] at hs; cases hs
 ·
  rename_i y
  obtain ⟨h1, h2⟩ := atP_some h
  rw [hd.one h1 hz (by rw [samePlace_iff] at h2 hs ⊢; exact ⟨by omega, by omega⟩)]
theorem atP_perm {A B : List En} (hd : Dist A) (p : A.Perm B) (q : En) : atP A q = atP B q := by
 cases h : atP A q
 ·
  cases k : atP B q
  ·
   rfl
  ·
   obtain ⟨k1, k2⟩ := atP_some k
   rw [atP_none h _ (p.mem_iff.2 k1)] at k2; cases k2
 ·
  obtain ⟨h1, h2⟩ := atP_some h
  exact (atP_mem (hd.perm p) (p.mem_iff.1 h1) h2).symm
def addAt (p : En) (o : Option En) (e : En) : Option En := if samePlace e p = true then some (match o with
  | none => e
  | some y => y.add e) else o
theorem atP_insL {M : List En} {e : En} (ha : Asc M) (p : En) : atP (insL M e) p = addAt p (atP M p) e := by
 have hi := (asc_insL (e := e) ha).dist
 cases hh : hitAt M e
 ·
  have hn := hitAt_no hh
  rw [insL_none hh] at hi ⊢
  rw [atP_perm hi (perm_ins M e _) p, atP_cons]
  unfold addAt
  by_cases hs : samePlace e p = true
  ·
   rw [if_pos hs, if_pos hs]
   cases k : atP M p
   ·
    rfl
   ·
    obtain ⟨k1, k2⟩ := atP_some k
    have := hn _ k1
    rw [samePlace_symm, same_tr (c := _) hs, samePlace_symm, k2] at this
    cases this
  ·
   rw [if_neg hs, if_neg hs]
 ·
  obtain ⟨y, hy, hs, _⟩ := hitAt_lt hh
  obtain ⟨r, p1, p2⟩ := perm_set hy
  rw [insL_hit hh hy] at hi ⊢
  rw [atP_perm hi (p2 _) p, atP_perm ha.dist p1 p, atP_cons, atP_cons]
  have e1 : samePlace (y.add e) p = samePlace e p := same_tr (show samePlace (y.add e) e = true from hs)
  have e2 : samePlace y p = samePlace e p := same_tr hs
  unfold addAt
  rw [e1, e2]
  by_cases hp : samePlace e p = true
  ·
   rw [if_pos hp, if_pos hp, if_pos hp]
  ·
   rw [if_neg hp, if_neg hp, if_neg hp]
theorem asc_sumM : ∀ {xs M : List En}, Asc M → Asc (sumM M xs)
 | [], _, h => h
 | _ :: xs, _, h => asc_sumM (xs := xs) (asc_insL h)
theorem atP_sumM : ∀ {xs M : List En} (p : En), Asc M → atP (sumM M xs) p = xs.foldl (addAt p) (atP M p)
 | [], _, _, _ => rfl
 | e :: xs, M, p, h => by
  show atP (sumM (insL M e) xs) p = _
  rw [atP_sumM p (asc_insL h), atP_insL h]
  rfl
theorem asc_nodup {A : List En} (h : Asc A) : A.Nodup := List.Pairwise.imp (fun {a b} h e => by
  subst e
  rw [placeLt_asymm h] at h; cases h) h
theorem asc_ext {A B : List En} (ha : Asc A) (hb : Asc B) (h : ∀ p, atP A p = atP B p) : A = B := by
 have self : ∀ x : En, samePlace x x = true := fun x => by rw [samePlace_iff]; exact ⟨rfl, rfl⟩
 refine asc_unique ha hb ((List.perm_ext_iff_of_nodup (asc_nodup ha) (asc_nodup hb)).2 fun z => ⟨fun hz => ?_, fun hz => ?_⟩)
 ·
  have := atP_mem ha.dist hz (self z)
  rw [h z] at this
  exact (atP_some this).1
 ·
  have := atP_mem hb.dist hz (self z)
  rw [← h z] at this
  exact (atP_some this).1
theorem fold_add {p e : En} (he : e.ok = true) : ∀ {l : List En} {a : En}, a.ok = true → (∀ z ∈ l, z.ok = true) → l.foldl (addAt p) (some (a.add e)) = (l.foldl (addAt p) (some a)).map (·.add e)
 | [], _, _, _ => rfl
 | z :: l, a, ha, hl => by
  have hz := hl z List.mem_cons_self
  have hl' : ∀ z ∈ l, z.ok = true := fun x hx => hl x (List.mem_cons_of_mem _ hx)
  simp only [List.foldl_cons]
  unfold addAt
  by_cases hs : samePlace z p = true
  ·
   rw [if_pos hs, if_pos hs]
   show l.foldl _ (some ((a.add e).add z)) = (l.foldl _ (some (a.add z))).map _
   rw [En.add_swap ha he hz]
   exact fold_add he (En.add_ok ha hz) hl'
  ·
   rw [if_neg hs, if_neg hs]
   exact fold_add he ha hl'
theorem fold_some {p : En} : ∀ {l : List En} {a : En}, ∃ b, l.foldl (addAt p) (some a) = some b
 | [], a => ⟨a, rfl⟩
 | z :: l, a => by
  simp only [List.foldl_cons]
  unfold addAt
  by_cases hs : samePlace z p = true
  ·
   rw [if_pos hs]; exact fold_some
  ·
   rw [if_neg hs]; exact fold_some
theorem fold_skip {p : En} : ∀ {l : List En} {o : Option En}, (∀ z ∈ l, samePlace z p = false) → l.foldl (addAt p) o = o
 | [], _, _ => rfl
 | z :: l, o, h => by
  simp only [List.foldl_cons]
  have : addAt p o z = o := by unfold addAt; rw [if_neg (by rw [h z List.mem_cons_self]; decide)]
  rw [this]
  exact fold_skip (fun x hx => h x (List.mem_cons_of_mem _ hx))
theorem sums_push {xs : List En} {e : En} (hx : ∀ y ∈ xs, y.ok = true) (he : e.ok = true) (ha : ∀ y ∈ xs, samePlace y e = true → y.addOk e = true) : sumM [] (pushL xs e true) = sumM [] (xs ++ [e]) := by
 have nl : Asc ([] : List En) := List.Pairwise.nil
 cases hh : hitAt xs e
 ·
  rw [pushL_none (.inr hh)]
 ·
  rename_i k
  obtain ⟨y, hy, hs, hb⟩ := hitAt_lt hh
  have hyx : y ∈ xs := List.mem_of_getElem? hy
  rw [pushL_hit hh hy, En.addR_yes (ha y hyx hs)]
  refine asc_ext (asc_sumM nl) (asc_sumM nl) (fun p => ?_)
  rw [atP_sumM p nl, atP_sumM p nl]
  obtain ⟨hk, hy1⟩ := List.getElem?_eq_some_iff.1 hy
  have e1 : xs = xs.take k ++ y :: xs.drop (k + 1) := by rw [← hy1, List.getElem_cons_drop hk, List.take_append_drop]
  have e2 : xs.set k (y.add e) = xs.take k ++ (y.add e) :: xs.drop (k + 1) := by rw [List.set_eq_take_append_cons_drop, if_pos hk]
  rw [e2, List.foldl_append, List.foldl_append]
  conv => rhs; rw [e1]
  rw [List.foldl_append]
  simp only [List.foldl_cons, List.foldl_nil]
  have q1 : samePlace (y.add e) p = samePlace e p := same_tr (show samePlace (y.add e) e = true from hs)
  have q2 : samePlace y p = samePlace e p := same_tr hs
  by_cases hp : samePlace e p = true
  ·
   rw [fold_skip (l := xs.take k) (fun z hz => by
     have := hb z hz
     rw [samePlace_symm, same_tr hp, samePlace_symm] at this
     exact this)]
   have a1 : addAt p (atP [] p) (y.add e) = some (y.add e) := by unfold addAt; rw [q1, if_pos hp]; rfl
   have a2 : addAt p (atP [] p) y = some y := by unfold addAt; rw [q2, if_pos hp]; rfl
   rw [a1, a2, fold_add he (hx y hyx) (fun z hz => hx z (List.mem_of_mem_drop hz))]
   obtain ⟨b, hb⟩ := fold_some (p := p) (l := xs.drop (k + 1)) (a := y)
   rw [hb]
   unfold addAt
   rw [if_pos hp]
   rfl
  ·
   have a1 : ∀ o, addAt p o (y.add e) = o := fun o => by unfold addAt; rw [q1, if_neg hp]
   have a2 : ∀ o, addAt p o y = o := fun o => by unfold addAt; rw [q2, if_neg hp]
   have a3 : ∀ o, addAt p o e = o := fun o => by unfold addAt; rw [if_neg hp]
   rw [a1, a2, a3]
theorem Rw.takes_parts {x : Rw} {e : En} (h : x.takes e = true) : x.ok = true ∧ e.ok = true ∧ (∀ y ∈ x.list, y.ok = true) ∧ (∀ y ∈ x.list, y.ids.apart e.ids = true) ∧ (∀ y ∈ x.list, samePlace y e = true → y.addOk e = true) := by
 unfold Rw.takes at h
 simp only [Bool.and_eq_true] at h
 obtain ⟨⟨hx, he⟩, hap⟩ := h
 have hg := (good_pair.1 (rw_ok_iff.1 hx).2).1
 unfold apartAll at hap
 rw [List.all_eq_true] at hap
 exact ⟨hx, he, hg, hap, fun y hy hs => addOk_of (hg y hy) he hs (hap y hy)⟩
theorem Rw.push_sums {x : Rw} {e : En} (h : x.takes e = true) (hl : x.list.length < 24) (j : Bool) : (x.push e j).2 = true ∧ (x.push e j).1.ok = true ∧ (x.push e j).1.sums = sumM [] (x.list ++ [e]) ∧ (x.push e j).1.list.length ≤ x.list.length + 1 ∧ 0 < (x.push e j).1.list.length := by
 obtain ⟨_, he, hx, _, ha⟩ := Rw.takes_parts h
 obtain ⟨_, s2, s3⟩ := pushL_size x.list e j
 have hok : (Rw.mk (pushL x.list e j)).ok = true := push_ok.2 ⟨h, by omega⟩
 have hp : x.push e j = (⟨pushL x.list e j⟩, true) := by unfold Rw.push; rw [if_pos hok]
 rw [hp]
 refine ⟨rfl, hok, ?_, s2, s3⟩
 unfold Rw.sums
 rw [if_pos hok]
 cases j
 ·
  show sumM [] (pushL x.list e false) = _
  rw [pushL_none (.inl rfl)]
 ·
  exact sums_push hx he ha
theorem any_pushL {xs : List En} {e : En} (ha : ∀ y ∈ xs, samePlace y e = true → y.addOk e = true) (j : Bool) (n : Int) : (pushL xs e j).any (fun y => y.ids.has n) = ((xs.any fun y => y.ids.has n) || e.ids.has n) := by
 by_cases h : j = false ∨ hitAt xs e = none
 ·
  rw [pushL_none h, List.any_append]; simp
 ·
  obtain ⟨k, hk⟩ : ∃ k, hitAt xs e = some k := by cases hh : hitAt xs e; exact absurd (.inr hh) h; exact ⟨_, rfl⟩
  have hj : j = true := by cases j; exact absurd (.inl rfl) h; rfl
  subst hj
  obtain ⟨y, hy, hs, _⟩ := hitAt_lt hk
  obtain ⟨r, p1, p2⟩ := perm_set hy
  rw [pushL_hit hk hy, (p2 _).any_eq, p1.any_eq, List.any_cons, List.any_cons, has_addR (ha y (List.mem_of_getElem? hy) hs)]
  cases y.ids.has n <;> cases e.ids.has n <;> simp
theorem Rw.ids_ok {x : Rw} (h : x.ok = true) : x.ids.ok = true ∧ ∀ n, x.ids.has n = x.list.any fun y => y.ids.has n := by
 obtain ⟨_, hf⟩ := Rw.ok_parts h
 obtain ⟨i1, i2, _⟩ := idsTo_ok (Nat.le_refl _) hf
 rw [List.take_length] at i2
 unfold Rw.ids
 rw [if_pos h]
 exact ⟨i1, i2⟩
theorem Rw.push_ids {x : Rw} {e : En} (h : x.takes e = true) (hl : x.list.length < 24) (j : Bool) : (x.push e j).1.ids.size = x.ids.size + e.ids.size := by
 obtain ⟨hx, he, hg, hap, ha⟩ := Rw.takes_parts h
 obtain ⟨_, s2, _⟩ := pushL_size x.list e j
 have hok : (Rw.mk (pushL x.list e j)).ok = true := push_ok.2 ⟨h, by omega⟩
 have hp : x.push e j = (⟨pushL x.list e j⟩, true) := by unfold Rw.push; rw [if_pos hok]
 rw [hp]
 obtain ⟨a1, a2⟩ := Rw.ids_ok hok
 obtain ⟨b1, b2⟩ := Rw.ids_ok hx
 have e1 := (En.ok_ids he).1
 obtain ⟨j1, j2⟩ := join_right b1 e1
 have hj : (Rw.mk (pushL x.list e j)).ids = x.ids.join e.ids := Sp.ext_has a1 j1 (fun n => by
   rw [a2, j2, b2]; exact any_pushL ha j n)
 show (Rw.mk (pushL x.list e j)).ids.size = _
 rw [hj]
 refine (join_size b1 e1).2.1 ((apart_iff b1 e1).2 fun n => ?_)
 rw [b2]
 cases hn : e.ids.has n
 ·
  rw [Bool.and_false]
 ·
  rw [Bool.and_true, List.any_eq_false]
  intro y hy
  have := (apart_iff (En.ok_ids (hg y hy)).1 e1).1 (hap y hy) n
  rw [hn, Bool.and_true] at this
  simp [this]
theorem Rw.push_twice {x : Rw} {e : En} (h : x.takes e = true) (hl : x.list.length < 24) (j : Bool) : (x.push e j).1.takes e = false := by
 obtain ⟨hx, he, hg, hap, ha⟩ := Rw.takes_parts h
 obtain ⟨_, s2, _⟩ := pushL_size x.list e j
 have hok : (Rw.mk (pushL x.list e j)).ok = true := push_ok.2 ⟨h, by omega⟩
 have hp : x.push e j = (⟨pushL x.list e j⟩, true) := by unfold Rw.push; rw [if_pos hok]
 rw [hp]
 cases ht : (Rw.mk (pushL x.list e j)).takes e
 ·
  rfl
 ·
  obtain ⟨_, _, kg, kap, _⟩ := Rw.takes_parts ht
  obtain ⟨n, hn⟩ := some_in (En.ok_ids he).1 (En.ok_ids he).2
  have hany : (pushL x.list e j).any (fun y => y.ids.has n) = true := by rw [any_pushL ha j n, hn, Bool.or_true]
  obtain ⟨y, hy, hyn⟩ := List.any_eq_true.1 hany
  have := kap y hy
  rw [apart_not hyn hn] at this
  cases this
end
section
open Go.RowKit
section
variable {α : Type} {K : ElK α} {w W W' : World}
end
section
variable {P : Program} {ops : Array Oper} {rest : List Oper} {Q : Exit → Act → World → Prop} {a : Act} {w : World} {o : Oper}
end
end
section
open Go.RowKit
end
section
open Go.RowKit
def NewEs (w : World) (xs : List En) (e : Ending) (w' : World) : Prop := ∃ (q : Option Addr) (k lo : Nat) (vs : List Value) (GG : List Nat), e = .returned (.slice q xs.length k) ∧ GrowL enK 33 xs lo xs.length (.slice q xs.length k) vs GG w' ∧ w.heap.size ≤ lo ∧ Below w.heap.size w w'
end
section
open Go.RowKit
theorem ensMany_perm {xs ys : List En} (p : xs.Perm ys) : ensMany xs = ensMany ys := by
 induction p with
 | nil => rfl
 | cons x _ ih => simp only [ensMany, ih]
 | swap x y l => simp only [ensMany]; omega
 | trans _ _ h k => exact h.trans k
theorem Rw.sums_fine {x : Rw} (h : x.fits) : (∀ y ∈ x.sums, y.wide) ∧ x.sums.length ≤ 24 ∧ 0 ≤ ensMany x.sums ∧ ensMany x.sums ≤ 2097296 := by
 unfold Rw.sums
 by_cases hok : x.ok = true
 ·
  rw [if_pos hok]
  obtain ⟨_, h2, h3, h4, _, h6⟩ := sums_at hok h x.list.length
  rw [List.take_length] at h2 h3 h4 h6
  refine ⟨fun y hy => (h2 y hy).2.wide, h3, ensMany_nonneg _, ?_⟩
  have h7 := ensMany_perm h4
  have h8 := ensMany_size (sumP [] x.list)
  have h9 := h4.length_eq
  omega
 ·
  rw [if_neg hok]; simp [ensMany]
theorem NewEs.parts {w w' : World} {e : Ending} {xs : List En} (h : NewEs w xs e w') : ∃ (a : Option Addr) (k : Nat) (Y : List Nat), e = .returned (.slice a xs.length k) ∧ RdL enK w' a xs.length xs Y ∧ Own w.heap.size w' Y ∧ Below w.heap.size w w' := by
 obtain ⟨q, k, lo, vs, GG, he, hg, hl, hb⟩ := h
 obtain ⟨a, cap, Y, hv, ry, oy, _⟩ := hg.done rfl
 injection hv with h1 h2 h3
 subst h1
 exact ⟨q, k, Y, he, ry, oy.mono hl, hb⟩
end
end Go.Proofs.YtjnamoppcklomaaGreat
