/- Several texts of mine, laid together. No statement of the seat is proved here. -/
import Derived.Test.YtillnoeailnnfaaGreatB2
import Derived.Deep.RegionHeld3
import Derived.Laws.StructEq
import Derived.Test.YtillnoeailnnfaaGreatWhole
import Derived.Test.YtillnoeailnnfaaGreatPart
import Derived.Test.YtillnoeailnnfaaGreatItHelp2
import Derived.Test.YtillnoeailnnfaaGreatItLaw
import Derived.Test.YtillnoeailnnfaaGreatLstGrow
import Derived.Lib.AppendZeros
import Derived.Test.YtillnoeailnnfaaGreatB1
import Derived.Lib.SliceRun
import Derived.Test.YtillnoeailnnfaaGreatItAdd
/- The walk through the program's going through two sets. No statement of the seat is proved here. -/
namespace Go.Proofs.YtillnoeailnnfaaGreat
open Go.RowKit
theorem RdP.move {w W : World} {B : Nat} {a : Option Addr} {len : Nat} {ps : Sp} {F : List Nat} (h : RdP w a len ps F) (hF : ∀ b ∈ F, b < B) (h1 : Below B w W) : RdP W a len ps F := h.agree (fun b hb => h1.block b (hF b hb))
theorem RdP.back {w W : World} {B : Nat} {a : Option Addr} {len : Nat} {ps : Sp} {F : List Nat} (h : RdP W a len ps F) (hF : ∀ b ∈ F, b < B) (h1 : Below B w W) : RdP w a len ps F := h.agree (fun b hb => (h1.block b (hF b hb)).symm)
theorem LayAt.below {w W : World} {B n : Nat} {v0 v : Value} {o : Sp} {xs : List Value} (h : LayAt w B v0 v o W) (h0 : w.ownsRow B 82 2 v0 n xs) (hB : B ≤ w.heap.size) : Below B w W :=
  ⟨h.grown.os, h.grown.tape, h.grown.output, h.grown.size, fun k hk => h.grown.block k (by omega) (fun e => by have := (h0.lt k e.symm).1; omega)⟩
/-- Midway in a round: the set that is made, the span's box. -/
structure MidB (w : World) (nb : Nat) (x y : Int) (v : Value) (o : Sp) (W : World) : Prop where
  own : W.ownsRow w.heap.size 82 2 v o.length ((flat o).map (Value.int .i64))
  bel : Below w.heap.size w W
  box : Blk W nb #[.int .i64 x, .int .i64 y] 82
  ne : some nb ≠ v.ownBlock
theorem MidB.alloc {w : World} {nb : Nat} {x y : Int} {v : Value} {o : Sp} {W : World} (h : MidB w nb x y v o W) (ob : Obj) : MidB w nb x y v o (W.alloc ob) := ⟨h.own.alloc _, Below.allocW _ h.bel (Nat.le_refl _), h.box.alloc _, h.ne⟩
theorem MidB.drew {w : World} {nb : Nat} {x y : Int} {v : Value} {o : Sp} {W : World} (h : MidB w nb x y v o W) : MidB w nb x y v o W.drew := ⟨⟨h.own.1, h.own.2⟩, h.bel.drew, h.box, h.ne⟩
/-- Behind the first laying: what lay beside lies there still. -/
structure AftB (w : World) (nb : Nat) (x y : Int) (v v' : Value) (o' : Sp) (W W' : World) : Prop where
  mid : MidB w nb x y v' o' W'
  old : ∀ g cs t, Blk W g cs t → some g ≠ v.ownBlock → Blk W' g cs t ∧ some g ≠ v'.ownBlock
theorem AftB.of {w : World} {nb : Nat} {x y : Int} {v v' : Value} {o o' : Sp} {W W' : World} (h : MidB w nb x y v o W) (k : LayAt W w.heap.size v v' o' W') : AftB w nb x y v v' o' W W' := by
  have hold : ∀ g cs t, Blk W g cs t → some g ≠ v.ownBlock → Blk W' g cs t ∧ some g ≠ v'.ownBlock := fun g cs t hb hne => by
    refine ⟨hb.agree (k.grown.block g hb.lt hne), ?_⟩
    rcases k.fresh with e | e
    · rw [e]; exact hne
    · intro e2; have := e g e2.symm; have := hb.lt; omega
  obtain ⟨h1, h2⟩ := hold _ _ _ h.box h.ne
  exact ⟨⟨k.own, h.bel.trans (k.below h.own h.bel.size), h1, h2⟩, hold⟩
/-- Ahead of the second laying: the one span's slice. -/
structure TwoB (w : World) (nb : Nat) (x y : Int) (v' : Value) (o' : Sp) (g : Nat) (W : World) : Prop where
  mid : MidB w nb x y v' o' W
  one : Blk W g #[.int .i64 x, .int .i64 y] 82
  ne : some g ≠ v'.ownBlock
theorem AftB.two {w : World} {nb : Nat} {x y : Int} {v v' : Value} {o o' : Sp} {W W' : World} (h : AftB w nb x y v v' o' (W.alloc (.cells #[.int .i64 x, .int .i64 y] 82)).drew W') (k : MidB w nb x y v o W) : TwoB w nb x y v' o' W.heap.size W' := by
  obtain ⟨h1, h2⟩ := h.old _ _ _ (Blk.made W _ _) (fun e => by have := (k.own.lt _ e.symm).2; omega)
  exact ⟨h.mid, h1, h2⟩
theorem AftB.new {w : World} {nb : Nat} {x y : Int} {v v' : Value} {o' : Sp} {W W' : World} (h : AftB w nb x y v v' o' W W') : TwoB w nb x y v' o' W'.heap.size (W'.alloc (.cells #[.int .i64 x, .int .i64 y] 82)) :=
  ⟨h.mid.alloc _, Blk.made _ _ _, fun e => by have := (h.mid.own.lt _ e.symm).2; omega⟩
theorem rdP_one {W : World} {g : Nat} {x y : Int} {t : TypeId} (h : Blk W g #[.int .i64 x, .int .i64 y] t) : RdP W (some ⟨g, 0, none⟩) 1 [(x, y)] [g] :=
  ⟨rfl, rdI_tcv (xs := flat [(x, y)]) (by simpa [tcv, flat] using h) (by simp [flat]) (by omega)⟩
/-- Ahead of a round. -/
structure BInv (w : World) (ps qs : Sp) (k : Nat) (o rs : Sp) (aa : Option Addr) (la ca : Nat) (F : List Nat) (v : Value) (wr : World) : Prop where
  own : wr.ownsRow w.heap.size 82 2 v o.length ((flat o).map (Value.int .i64))
  bel : Below w.heap.size w wr
  rd : RdP w aa la rs F
  lt : ∀ b ∈ F, b < w.heap.size
  cap : la ≤ ca
  len : o.length + rs.length ≤ ps.length + k
  ino : ∀ p ∈ o, InB p
  ina : ∀ p ∈ rs, InB p
  eq : both rs (qs.drop k) o = both ps qs []
set_option maxRecDepth 100000 in
set_option maxHeartbeats 8000000 in
theorem spansOfBoth_any (a b : Option Addr) (la lb ca cb : Nat) (ps qs : Sp) (F G : List Nat) (w : World) (h : RdP w a la ps F) (k : RdP w b lb qs G) (hlen : la + lb ≤ 2097153) (hca : la ≤ ca) (h1 : ∀ p ∈ ps, InB p) (h2 : ∀ p ∈ qs, InB p) :
    Calls Tryz.prog 148 #[.slice a la ca, .slice b lb cb] w fun e w' => NewP w (both ps qs []) e w' := by
  have HL : Hid (ps.length = la ∧ qs.length = lb) := ⟨h.length, k.length⟩
  have HI : Hid (∀ p ∈ qs, InB p) := h2
  have HP0 : Hid (BInv w ps qs 0 [] ps a la ca F (.slice none 0 0) w) := ⟨⟨by simp [flat], .inl ⟨rfl, rfl⟩⟩, Below.refl _ _, h, h.lt, hca, by simp, by simp, h1, rfl⟩
  have HCB : Hid (lb = 0 ∨ ∃ b1 o1, b = some ⟨b1, o1, none⟩ ∧ b1 < w.heap.size ∧ SpCells w b1 o1 lb qs) := cells_of k
  clear h k h1 h2
  go_enter Tryz.func148, Tryz.ntmps148
  go_wp2
  go_loopw [0, 5, 12] (fun av v i wr => ∃ (k : Nat) (o rs : Sp) (aa : Option Addr) (la ca : Nat) (F : List Nat), k ≤ lb ∧ i = .int .i64 k ∧ av = .slice aa la ca ∧ Hid (BInv w ps qs k o rs aa la ca F v wr)) (fun _ _ i _ => lb - (intOf i).toNat)
  case atStart => exact ⟨0, [], ps, a, la, ca, F, by omega, rfl, rfl, HP0⟩
  case round =>
    clear HP0
    obtain ⟨k, o, rs, aa, l0, c0, F0, hk, rfl, rfl, HP⟩ := hrel
    by_cases hlt : k < lb
    · have hcb := HCB.out
      rcases hcb with h0 | ⟨b1, o1, rfl, hbw, hc⟩
      · omega
      obtain ⟨x, hx⟩ : ∃ x, x = (qs.at k).1 := ⟨_, rfl⟩
      obtain ⟨y, hy⟩ : ∃ x, x = (qs.at k).2 := ⟨_, rfl⟩
      have e := hc k hlt
      have hql : k < qs.length := by rw [HL.out.2]; exact hlt
      have HXY : Hid (qs.at k = (x, y)) := by rw [hx, hy]; rfl
      have HINX : Hid (InB (x, y)) := by rw [← HXY.out]; exact HI.out _ (Sp.at_mem hql)
      rw [HXY.out] at e
      have d1 : wr.cell? ⟨b1, o1 + k * 2, none⟩ = some (.int .i64 x) := (HP.out.bel.cell (by exact hbw)).trans e.1
      have d2 : wr.cell? ⟨b1, o1 + k * 2 + 1, none⟩ = some (.int .i64 y) := (HP.out.bel.cell (by exact hbw)).trans e.2
      have hI : (k : Int) < (lb : Int) := by omega
      have HLN : Hid (o.length + rs.length ≤ 2097153) := by have := HP.out.len; have := HL.out; show _ ≤ _; omega
      have HLA : Hid (rs.length = l0) := HP.out.rd.length
      clear e hx hy hc
      go_wp2_with fail
      have HWA : Hid (Below w.heap.size w (wr.alloc (.cells #[.int .i64 x, .int .i64 y] 82))) := Below.allocW _ HP.out.bel (Nat.le_refl _)
      refine (cutAt_any aa l0 c0 rs x F0 _ (HP.out.rd.move HP.out.lt HWA.out) (by have := HLN.out; have := HLA.out; omega) HP.out.cap).mono ?_
      rintro e w2 ⟨a1, l1, c1, a2, l2, c2, F1, F2, rfl, r1, r2, s1, s2, hcp2, hq⟩
      obtain ⟨cn, hcn⟩ : ∃ c, c = cutN rs x := ⟨_, rfl⟩
      rw [← hcn] at r1 r2
      have HQ1 : Hid (RdP w a1 l1 (rs.take cn) F1 ∧ (∀ b ∈ F1, b < w.heap.size) ∧ l1 ≤ rs.length) := ⟨r1.back (fun b hb => HP.out.lt b (s1 b hb)) HWA.out, fun b hb => HP.out.lt b (s1 b hb), by have e := r1.length; rw [List.length_take] at e; omega⟩
      have HQ2 : Hid (RdP w a2 l2 (rs.drop cn) F2 ∧ (∀ b ∈ F2, b < w.heap.size) ∧ l2 ≤ c2) := ⟨r2.back (fun b hb => HP.out.lt b (s2 b hb)) HWA.out, fun b hb => HP.out.lt b (s2 b hb), hcp2⟩
      have HM : Hid (MidB w wr.heap.size x y u5 o w2) := by
        obtain ⟨m, rfl⟩ := hq
        have hal := HP.out.own.alloc (.cells #[.int .i64 x, .int .i64 y] 82)
        exact ⟨⟨hal.1, hal.2⟩, ⟨HWA.out.os, HWA.out.tape, HWA.out.output, HWA.out.size, HWA.out.block⟩, Blk.made wr _ _, fun e => by have := (HP.out.own.lt _ e.symm).2; omega⟩
      have HCN : Hid (cn = cutN rs x) := hcn
      have q1 : w2.cell? ⟨wr.heap.size, 0, none⟩ = some (.int .i64 x) := HM.out.box.cell 0
      have q2 : w2.cell? ⟨wr.heap.size, 1, none⟩ = some (.int .i64 y) := HM.out.box.cell 1
      clear r1 r2 s1 s2 hcp2 hq hcn HWA d1 d2
      have HC1 : Hid (∀ W, MidB w wr.heap.size x y u5 o W → Calls Tryz.prog 166 #[u5, .slice a1 l1 c1] W (fun e w' => ∃ v', e = .returned v' ∧ AftB w wr.heap.size x y u5 v' (lay o (rs.take cn)) W w')) := by
        intro W hW
        refine (laid_any w.heap.size u5 o a1 l1 c1 (rs.take cn) F1 W hW.own hW.bel.size (HQ1.out.1.move HQ1.out.2.1 hW.bel) (fun b hb e => by have := HQ1.out.2.1 b hb; have := (hW.own.lt _ e.symm).1; omega) (by have := HLN.out; have := HQ1.out.2.2; omega) HP.out.ino (fun p hp => HP.out.ina p (List.mem_of_mem_take hp))).mono ?_
        rintro e w' ⟨v, rfl, hl⟩
        exact ⟨v, rfl, AftB.of hW hl⟩
      have HC2 : Hid (∀ v' W g, TwoB w wr.heap.size x y v' (lay o (rs.take cn)) g W → Calls Tryz.prog 166 #[v', .slice (some ⟨g, 0, none⟩) 1 1] W (fun e w' => ∃ v'', e = .returned v'' ∧ MidB w wr.heap.size x y v'' (lay1 (lay o (rs.take cn)) (x, y)) w')) := by
        intro v' W g hW
        refine (laid_any w.heap.size v' (lay o (rs.take cn)) (some ⟨g, 0, none⟩) 1 1 [(x, y)] [g] W hW.mid.own hW.mid.bel.size (rdP_one hW.one) (fun b hb => by rw [List.mem_singleton.1 hb]; exact hW.ne) (by have e := lay_length (rs.take cn) o; have := HLN.out; rw [List.length_take] at e; omega) (lay_inb HP.out.ino (fun p hp => HP.out.ina p (List.mem_of_mem_take hp))) (fun p hp => by rw [List.mem_singleton.1 hp]; exact HINX.out)).mono ?_
        rintro e w' ⟨v, rfl, hl⟩
        exact ⟨v, rfl, (AftB.of hW.mid hl).mid⟩
      have HFIN : Hid (∀ v' W, MidB w wr.heap.size x y v' (lay1 (lay o (rs.take cn)) (x, y)) W → BInv w ps qs (k + 1) (lay1 (lay o (rs.take cn)) (x, y)) (rs.drop cn) a2 l2 c2 F2 v' W) := by
        intro v' W hW
        refine ⟨hW.own, hW.bel, HQ2.out.1, HQ2.out.2.1, HQ2.out.2.2, ?_, lay1_inb (lay_inb HP.out.ino (fun p hp => HP.out.ina p (List.mem_of_mem_take hp))) HINX.out, fun p hp => HP.out.ina p (List.mem_of_mem_drop hp), ?_⟩
        · have e1 := lay1_length (lay o (rs.take cn)) (x, y)
          have e2 := lay_length (rs.take cn) o
          have e3 := HP.out.len
          rw [List.length_take] at e2
          rw [List.length_drop]
          omega
        · have e := HP.out.eq
          rw [drop_at hql, HXY.out, both] at e
          rw [HCN.out]
          exact e
      have HKE : Hid (∀ W, Blk W wr.heap.size #[.int .i64 x, .int .i64 y] 82 → W.cell? ⟨wr.heap.size, 0, none⟩ = some (.int .i64 x) ∧ W.cell? ⟨wr.heap.size, 1, none⟩ = some (.int .i64 y)) := fun W hW => ⟨hW.cell 0, hW.cell 1⟩
      have HMD : Hid (MidB w wr.heap.size x y u5 o w2.drew) := HM.out.drew
      have HMA : Hid (MidB w wr.heap.size x y u5 o (w2.alloc (.cells #[.int .i64 x, .int .i64 y] 82)).drew) := (HM.out.alloc _).drew
      go_wp2
      go_region_held3 (fun W => W.cell? ⟨wr.heap.size, 0, none⟩ = some (.int .i64 x) ∧ W.cell? ⟨wr.heap.size, 1, none⟩ = some (.int .i64 y))
        ((refine HKE.out _ ?_; first | (with_reducible exact k2.box) | (with_reducible exact k1.mid.box) | (with_reducible exact k1.mid.box.alloc _) | (with_reducible exact HMD.out.box) | (with_reducible exact HMA.out.box)))
        (first
          | (have zz := k1; clear zz; go_at_call 166; refine (HC2.out _ _ _ (by first | (with_reducible exact k1.two HM.out) | (with_reducible exact k1.new))).mono ?_; rintro e w4 ⟨v4, rfl, k2⟩)
          | (go_at_call 166; refine (HC1.out _ (by first | (with_reducible exact HMD.out) | (with_reducible exact HMA.out))).mono ?_; rintro e w3 ⟨v3, rfl, k1⟩))
      all_goals
        have HB2 := HFIN.out _ _ k2
        have HB3 : Hid (BInv w ps qs (k + 1) (lay1 (lay o (rs.take cn)) (x, y)) (rs.drop cn) a2 l2 c2 F2 v4 w4) := HB2
        clear HB2 k2 k1 HC1 HC2 HKE HFIN q1 q2 HMD HMA HM
        go_wp2
        go_roundw
      all_goals first | exact ⟨k + 1, _, _, a2, l2, c2, F2, by omega, by go_num, rfl, HB3⟩ | (simp [intOf]; omega)
    · obtain rfl : k = lb := by omega
      have HE : Hid (lay o rs = both ps qs []) := by
        have := HP.out.eq
        rw [List.drop_eq_nil_of_le (by rw [HL.out.2]; omega)] at this
        exact this
      go_wp2_with fail
      refine (laid_any w.heap.size u5 o aa l0 c0 rs F0 _ HP.out.own HP.out.bel.size (HP.out.rd.move HP.out.lt HP.out.bel) (fun b hb e => by have := HP.out.lt b hb; have := (HP.out.own.lt _ e.symm).1; omega) (by have := HP.out.len; have := HL.out; have := HP.out.rd.length; omega) HP.out.ino HP.out.ina).mono ?_
      rintro e w2 ⟨v, rfl, hl⟩
      have HV : Hid (LayAt wr w.heap.size u5 v (lay o rs) w2 ∧ Below w.heap.size w w2) := ⟨hl, HP.out.bel.trans (hl.below HP.out.own HP.out.bel.size)⟩
      clear hl
      go_wp2
      go_ret
      obtain ⟨a', c', F', rfl, hr, ho, hnn⟩ := rdP_of_own HV.out.1.own
      rw [← HE.out]
      exact ⟨_, _, _, F', rfl, hr, ho, HV.out.2, hnn⟩
end Go.Proofs.YtillnoeailnnfaaGreat
/- The walks through the program's copying of a set, and the library's comparing of two. No statement of the seat is proved here. -/
namespace Go.Proofs.YtillnoeailnnfaaGreat
open Go.RowKit
theorem run_copy_row2 {P : Program} (w : World) (dT sT ty elem : TypeId) (g len dCap : Nat) (a : Addr) (sCap : Nat) (cur : Array Value) (t : TypeId) (cs : List Value)
    (hu : P.underlying dT = some (.slice elem)) (hs : (P.info? elem).map (·.size) = some 2)
    (hg : w.heap[g]? = some (.cells cur t (0, 0))) (hn : cs.length = len * 2)
    (hsrc : ∀ j v, cs[j]? = some v → w.cell? (a.add j) = some v) (hfit : cs.length ≤ cur.size) (h1 : ∀ v ∈ cs, v.oneCell' = true) :
    (Builtin.copy_ #[dT, sT] ty #[.slice (some ⟨g, 0, none⟩) len dCap, .slice (some a) len sCap]).run P w =
      .ok (goInt len) (w.setRow g (cs ++ cur.toList.drop cs.length).toArray) := by
  have hl := run_loadCells_list (P := P) w a cs hsrc
  have hst := run_storeCells_at P g 0 t cs 0 cur w hg (by simpa using hfit) h1
  rw [hn] at hl
  cases hq : P.info? elem with
  | none => simp [hq] at hs
  | some i =>
    have hi : i.size = 2 := by simpa [hq] using hs
    simp [Builtin.copy_, run_underlying hu, Builtin.lenOf, Builtin.firstCells, sizeOf, typeInfo, hq, hi, hl, hst]
theorem run_copy_none2 {P : Program} (w : World) (dT sT ty elem : TypeId) (d a : Option Addr) (dCap sCap : Nat) (hu : P.underlying dT = some (.slice elem)) (hs : (P.info? elem).map (·.size) = some 2) :
    (Builtin.copy_ #[dT, sT] ty #[.slice d 0 dCap, .slice a 0 sCap]).run P w = .ok (goInt 0) w := by
  cases hq : P.info? elem with
  | none => simp [hq] at hs
  | some i =>
    have hl : ∀ (x : Addr), (loadCells x 0).run P w = .ok #[] w := fun x => by simpa using run_loadCells_list (P := P) w x [] (by simp)
    cases d <;> cases a <;> simp [Builtin.copy_, run_underlying hu, Builtin.lenOf, Builtin.firstCells, sizeOf, typeInfo, hq, storeCells, hl]
theorem infoSpan2 : (Tryz.prog.info? 82).map (·.size) = some 2 := by kernel_rfl
theorem flat_one {ps : Sp} : ∀ v ∈ (flat ps).map (Value.int .i64), v.oneCell' = true := by
  intro v hv
  obtain ⟨x, _, rfl⟩ := List.mem_map.1 hv
  rfl
set_option maxRecDepth 200000 in
set_option maxHeartbeats 2000000 in
theorem copiedSpans_any (a : Option Addr) (len cap : Nat) (ps : Sp) (F : List Nat) (w : World) (h : RdP w a len ps F) (hlen : len ≤ 2097152) :
    Calls Tryz.prog 94 #[.slice a len cap] w fun e w' => NewP w ps e w' := by
  obtain ⟨i0, hi, hz0, hz1, hz2⟩ := info_parts infoSpan
  have HL : Hid (ps.length = len) := h.length
  have HR : Hid (RdP w a len ps F) := h
  rcases h.cells with ⟨rfl, _, rfl⟩ | ⟨b, off, hp, rfl, _, _⟩
  · clear h
    go_enter Tryz.func94, Tryz.ntmps94
    go_wp2_with (at_make; refine wpList_make_full _ rfl _ _ 27 rfl w.heap.size 82 i0 (.agg #[.int .i64 0, .int .i64 0]) 2 Tryz.underlying27 hi hz0 hz1 .i64 .i64 _ _ 0 rfl rfl (by simp) (by simp) (by omega) (by unfold maxLen; omega) (Nat.le_refl _) ?_; intro w1 hown hgrow)
    have hcp := run_copy_none2 (P := Tryz.prog) w1 27 27 3 82 (some ⟨w.heap.size, 0, none⟩) a 0 cap Tryz.underlying27 infoSpan2
    rw [hcp]
    go_wp2
    go_ret
    exact ⟨_, 0, 0, [], rfl, RdP.nil, Own.nil, (Below.refl _ _).grown hgrow (Nat.le_refl _) (fun k hk => by cases hk), (fun e => by cases e), Nat.le_refl _⟩
  · clear h
    go_enter Tryz.func94, Tryz.ntmps94
    go_wp2_with (at_make; refine wpList_make_full _ rfl _ _ 27 rfl w.heap.size 82 i0 (.agg #[.int .i64 0, .int .i64 0]) 2 Tryz.underlying27 hi hz0 hz1 .i64 .i64 _ _ len rfl rfl rfl rfl (by rw [hz2]; omega) (by unfold maxLen; omega) (Nat.le_refl _) ?_; intro w1 hown hgrow)
    have HM : Hid (Blk w1 w.heap.size (tcv (List.replicate (2 * len) 0)) 82 ∧ Below w.heap.size w w1) := by
      refine ⟨?_, (Below.refl _ _).grown hgrow (Nat.le_refl _) (fun k hk => by cases hk)⟩
      have e := own_blk hown hp
      have e2 : (madeCells (Value.agg #[Value.int IntKind.i64 0, Value.int IntKind.i64 0]).cells (len * 2)).toList.toArray = tcv (List.replicate (2 * len) 0) := made_flat len
      rw [← e2]
      exact e
    clear hown hgrow
    have HLF : Hid ((flat ps).length = 2 * len) := by rw [flat_length, HL.out]; rfl
    have hcp := run_copy_row2 (P := Tryz.prog) w1 27 27 3 82 w.heap.size len len ⟨b, off, none⟩ cap _ 82 ((flat ps).map (Value.int .i64)) Tryz.underlying27 infoSpan2 HM.out.1 (by have := HLF.out; simp; omega) (cells_flat (HR.out.below HM.out.2) hp) (by have := HLF.out; simp [tcv]; omega) flat_one
    have hrow : ((flat ps).map (Value.int .i64) ++ (tcv (List.replicate (2 * len) 0)).toList.drop ((flat ps).map (Value.int .i64)).length).toArray = tcv (flat ps) := by
      have := HLF.out
      rw [List.drop_eq_nil_of_le (by simp [tcv]; omega), List.append_nil]
      rfl
    rw [hrow] at hcp
    have HW : Hid (Blk (w1.setRow w.heap.size (tcv (flat ps))) w.heap.size (tcv (flat ps)) 82 ∧ Below w.heap.size w (w1.setRow w.heap.size (tcv (flat ps)))) := ⟨HM.out.1.setRow, below_setRow HM.out.2 (Nat.le_refl _) _⟩
    clear hrow
    rw [hcp]
    go_wp2
    go_ret
    exact ⟨_, len, len, [w.heap.size], rfl, ⟨HL.out, rdI_tcv HW.out.1 HLF.out (by omega)⟩, ⟨by simp, fun b hb o => by simp at hb; subst hb; exact HW.out.1.frozen o, by simp⟩, HW.out.2, (fun e => by cases e), Nat.le_refl _⟩
end Go.Proofs.YtillnoeailnnfaaGreat
/- The program's copiedEntry. No statement of the seat is proved here. -/
namespace Go.Proofs.YtillnoeailnnfaaGreat
open Go.RowKit
section
variable {P : Program} {ops : Array Oper} {Q : Exit → Act → World → Prop} {a : Act} {w : World} {x y : Operand} {o : Oper} {K : Act → World → Prop}
theorem op_storePart (ty : TypeId) (g off : Nat) (cs ds es : Array Value) (t : TypeId) (hg : Blk w g cs t) (hw : Region.wanted o (yielded ops a.tmps) = true) (ho : o.op = .store ty x y) (hx : a.eval x = .pointer (some ⟨g, off, none⟩)) (hy : a.eval y = .agg ds)
    (hi : (P.info? ty).map (·.size) = some ds.size) (hfit : off + ds.size ≤ cs.size) (h1 : ds.all (·.oneCell') = true) (hes : cutIn cs off ds = es)
    (h : ∃ a', a.put o.dst undef = a' ∧ K a' (w.setRow g es)) : if Region.wanted o (yielded ops a.tmps) = true then Oper.wp P o a w K Q else K (a.put o.dst undef) w := by
  subst hes
  obtain ⟨_, rfl, h⟩ := h
  rw [if_pos hw]
  unfold Oper.wp execOp
  simp only [ho, hx, hy, Instr.storeAt, Instr.sureAddr, Sem.run_bind, Sem.run_pure, Result.andThen_ok, run_storeVar_cut w g off t ty cs ds hg hi hfit h1]
  exact h
theorem op_loadPart (ty : TypeId) (g off n : Nat) (cs ds : Array Value) (t : TypeId) (d : TypeDesc) (hg : Blk w g cs t) (hw : Region.wanted o (yielded ops a.tmps) = true) (ho : o.op = .load ty x) (hx : a.eval x = .pointer (some ⟨g, off, none⟩)) (hu : P.underlying ty = some d) (hd : (match d with | .struct _ | .array _ _ => true | _ => false) = true)
    (hi : (P.info? ty).map (·.size) = some n) (hfit : off + n ≤ cs.size) (hds : cutOf cs off n = ds) (h : ∃ a', a.put o.dst (.agg ds) = a' ∧ K a' w) : if Region.wanted o (yielded ops a.tmps) = true then Oper.wp P o a w K Q else K (a.put o.dst undef) w := by
  have y : YieldsIf P ops (fun W => W = w) o (.agg ds) a := yields_cut ty g off n cs ds t d hw ho hx hu hd hi hfit hds (fun W hW => by rw [hW]; exact hg)
  rcases y with ⟨_, y⟩ | ⟨y, _⟩
  · exact op_value (.agg ds) hw (y w rfl) h
  · rw [hw] at y; cases y
end
theorem infoEnP10 : (Tryz.prog.info? 33).map (·.size) = some 10 := by kernel_rfl
set_option maxRecDepth 200000 in
set_option maxHeartbeats 4000000 in
theorem copiedEntry_any (v : Value) (x : En) (F0 : List Nat) (w : World) (h : RdE w v x F0) (hf : x.fits) :
    Calls Tryz.prog 46 #[v] w fun e w' => ∃ v F, e = .returned v ∧ RdE w' v x F ∧ Own w.heap.size w' F ∧ Below w.heap.size w w' := by
  obtain ⟨F1, F2, _, b, l, c, a1, n1, c1, a2, n2, c2, a3, n3, c3, rfl, hp, hr, hcp⟩ := h
  have HP : Hid (RdP w b l x.ids F1 ∧ RdSk w (.agg #[.int .i64 x.sk.count, .int .i64 x.sk.sum, .int .i64 x.sk.min, .int .i64 x.sk.max, .slice a1 n1 c1, .slice a2 n2 c2, .slice a3 n3 c3]) x.sk F2 ∧ l ≤ 2097152 ∧ x.sk.fits) := ⟨hp, hr, by rw [← hp.length]; have := hf.2; omega, hf.1⟩
  have HT : Hid (_ ∧ _ ∧ _) := two_made w #[.int .i64 x.key, .int .i64 x.window, .slice b l c, .int .i64 x.sk.count, .int .i64 x.sk.sum, .int .i64 x.sk.min, .int .i64 x.sk.max, .slice a1 n1 c1, .slice a2 n2 c2, .slice a3 n3 c3] #[.int .i64 0, .int .i64 0, .slice none 0 0, .int .i64 0, .int .i64 0, .int .i64 0, .int .i64 0, .slice none 0 0, .slice none 0 0, .slice none 0 0] 33 33
  clear hp hr hcp hf
  go_enter Tryz.func46, Tryz.ntmps46
  go_wp2_with fail
  obtain ⟨W0, hW0⟩ : ∃ W0, W0 = (w.alloc (.cells #[.int .i64 x.key, .int .i64 x.window, .slice b l c, .int .i64 x.sk.count, .int .i64 x.sk.sum, .int .i64 x.sk.min, .int .i64 x.sk.max, .slice a1 n1 c1, .slice a2 n2 c2, .slice a3 n3 c3] 33)).alloc (.cells #[.int .i64 0, .int .i64 0, .slice none 0 0, .int .i64 0, .int .i64 0, .int .i64 0, .int .i64 0, .slice none 0 0, .slice none 0 0, .slice none 0 0] 33) := ⟨_, rfl⟩
  rw [← hW0] at HT ⊢
  clear hW0
  have HS : Hid (Blk W0.drew w.heap.size #[.int .i64 x.key, .int .i64 x.window, .slice b l c, .int .i64 x.sk.count, .int .i64 x.sk.sum, .int .i64 x.sk.min, .int .i64 x.sk.max, .slice a1 n1 c1, .slice a2 n2 c2, .slice a3 n3 c3] 33 ∧ Blk W0.drew (w.heap.size + 1) #[.int .i64 0, .int .i64 0, .slice none 0 0, .int .i64 0, .int .i64 0, .int .i64 0, .int .i64 0, .slice none 0 0, .slice none 0 0, .slice none 0 0] 33 ∧ Below w.heap.size w W0.drew) := ⟨HT.out.1.drew, HT.out.2.1.drew, HT.out.2.2.drew⟩
  obtain ⟨Y0, hY0⟩ : ∃ Y, Y = W0.drew := ⟨_, rfl⟩
  rw [← hY0] at HS
  clear HT
  refine wp_region_held (S := fun _ => True) (by kernel_rfl) ?_
  change wpAnyH _ _ _ _ _ _ _ _ (World.drew _)
  rw [← hY0]
  clear hY0
  refine takeH (o := ?o1) 0 (.pointer (some ⟨w.heap.size, 2, none⟩)) ?h1 ?r1
  case h1 => simp only [aT, aZ]; rfl
  refine ⟨_, by simp [Act.put]; rfl, by kernel_rfl, by kernel_rfl, by kernel_rfl, fun _ _ _ h => h, (.inl ⟨rfl, fun W _ => by kernel_rfl⟩), trivial, ?_⟩
  refine takeH (o := ?o2) 3 (.pointer (some ⟨w.heap.size, 3, none⟩)) ?h2 ?r2
  case h2 => simp only [aT, aS, aZ]; rfl
  refine ⟨_, by simp [Act.put]; rfl, by kernel_rfl, by kernel_rfl, by kernel_rfl, fun _ _ _ h => h, (.inl ⟨rfl, fun W _ => by kernel_rfl⟩), trivial, ?_⟩
  refine twoH (o := ?o3) (o' := ?p3) 1 4 (by kernel_rfl) ?h3 ?g3 ?r3 ?s3
  case h3 => simp only [aT, aS, aZ]; rfl
  case g3 => simp only [aT, aS, aZ]; rfl
  case r3 =>
    intro K hK
    have co := HS.out.1.cell 2
    simp only [aT, aS, aZ] at co
    refine op_value (.slice b l c) rfl (by go_simp) ⟨_, by simp [Act.put]; rfl, hK _ _ ⟨trivial, ?_⟩⟩
    clear hK co
    refine twoH (o := ?o4) (o' := ?p4) 2 4 (by kernel_rfl) ?h4 ?g4 ?r4 ?s4
    case h4 => simp only [aT, aS, aZ]; rfl
    case g4 => simp only [aT, aS, aZ]; rfl
    case r4 =>
      intro K hK
      refine op_call1 94 _ _ Tryz.f94 (fun v w' => ∃ a len cap F, v = .slice a len cap ∧ RdP w' a len x.ids F ∧ Own Y0.heap.size w' F ∧ Below Y0.heap.size Y0 w' ∧ Capd a len cap) rfl rfl Tryz.func94 (by kernel_rfl) (by kernel_rfl) ((copiedSpans_any b l c x.ids F1 Y0 (HP.out.1.below HS.out.2.2) HP.out.2.2.1).mono (by rintro e w' ⟨a, len, cap, F, rfl, h1, h2, h3, h4⟩; exact ⟨_, rfl, a, len, cap, F, rfl, h1, h2, h3, h4⟩)) ?_
      rintro _ Y1 ⟨aj, lj, cj, Fj, rfl, rj, oj, bz, hcj⟩
      have HS1 : Hid (Blk Y1 w.heap.size #[.int .i64 x.key, .int .i64 x.window, .slice b l c, .int .i64 x.sk.count, .int .i64 x.sk.sum, .int .i64 x.sk.min, .int .i64 x.sk.max, .slice a1 n1 c1, .slice a2 n2 c2, .slice a3 n3 c3] 33 ∧ Blk Y1 (w.heap.size + 1) #[.int .i64 0, .int .i64 0, .slice none 0 0, .int .i64 0, .int .i64 0, .int .i64 0, .int .i64 0, .slice none 0 0, .slice none 0 0, .slice none 0 0] 33 ∧ Below w.heap.size w Y1) := ⟨HS.out.1.below bz, HS.out.2.1.below bz, Below.next HS.out.2.2 bz⟩
      have HJ : Hid (RdP Y1 aj lj x.ids Fj ∧ Own (w.heap.size + 2) Y1 Fj ∧ Capd aj lj cj) := ⟨rj, oj.mono HS.out.2.1.lt, hcj⟩
      refine ⟨_, by simp [Act.put]; rfl, hK _ _ ⟨trivial, ?_⟩⟩
      clear hK bz rj oj hcj HS
      refine onlyH (o := ?o5) 4 (by kernel_rfl) ?h5 ?r5
      case h5 => simp only [aT, aS, aZ]; rfl
      intro K hK
      refine op_loadPart 31 w.heap.size 3 7 #[.int .i64 x.key, .int .i64 x.window, .slice b l c, .int .i64 x.sk.count, .int .i64 x.sk.sum, .int .i64 x.sk.min, .int .i64 x.sk.max, .slice a1 n1 c1, .slice a2 n2 c2, .slice a3 n3 c3] #[.int .i64 x.sk.count, .int .i64 x.sk.sum, .int .i64 x.sk.min, .int .i64 x.sk.max, .slice a1 n1 c1, .slice a2 n2 c2, .slice a3 n3 c3] 33 _ HS1.out.1 rfl rfl rfl Tryz.underlying31 rfl infoSkI (by simp) rfl ⟨_, by simp [Act.put]; rfl, hK _ _ ⟨trivial, ?_⟩⟩
      clear hK
      refine takeH (o := ?o6) 6 (.pointer (some ⟨w.heap.size, 2, none⟩)) ?h6 ?r6
      case h6 => simp only [aT, aS, aZ]; rfl
      refine ⟨_, by simp [Act.put]; rfl, by kernel_rfl, by kernel_rfl, by kernel_rfl, fun _ _ _ h => h, (.inl ⟨rfl, fun W _ => by kernel_rfl⟩), trivial, ?_⟩
      refine onlyH (o := ?o7) 5 (by kernel_rfl) ?h7 ?r7
      case h7 => simp only [aT, aS, aZ]; rfl
      intro K hK
      refine op_call1 95 _ _ Tryz.f95 (fun v w' => ∃ X, RdSk w' v x.sk X ∧ Own Y1.heap.size w' X ∧ Below Y1.heap.size Y1 w') rfl rfl Tryz.func95 (by kernel_rfl) (by kernel_rfl) ((copiedSketch_all _ x.sk F2 Y1 (HP.out.2.1.below HS1.out.2.2) HP.out.2.2.2).mono (by rintro e w' ⟨v, X, rfl, h1, h2, h3⟩; exact ⟨_, rfl, X, h1, h2, h3⟩)) ?_
      rintro vm Y2 ⟨X, rm, om, bz⟩
      obtain ⟨e1, r1, f1, e2, r2, f2, e3, r3, f3, rfl⟩ := rm.cells7
      have HS2 : Hid (Blk Y2 w.heap.size #[.int .i64 x.key, .int .i64 x.window, .slice b l c, .int .i64 x.sk.count, .int .i64 x.sk.sum, .int .i64 x.sk.min, .int .i64 x.sk.max, .slice a1 n1 c1, .slice a2 n2 c2, .slice a3 n3 c3] 33 ∧ Blk Y2 (w.heap.size + 1) #[.int .i64 0, .int .i64 0, .slice none 0 0, .int .i64 0, .int .i64 0, .int .i64 0, .int .i64 0, .slice none 0 0, .slice none 0 0, .slice none 0 0] 33 ∧ Below w.heap.size w Y2) := ⟨HS1.out.1.below bz, HS1.out.2.1.below bz, Below.next HS1.out.2.2 bz⟩
      have HJ2 : Hid (RdP Y2 aj lj x.ids Fj ∧ Own (w.heap.size + 2) Y2 Fj ∧ RdSk Y2 (.agg #[.int .i64 x.sk.count, .int .i64 x.sk.sum, .int .i64 x.sk.min, .int .i64 x.sk.max, .slice e1 r1 f1, .slice e2 r2 f2, .slice e3 r3 f3]) x.sk X ∧ Own (w.heap.size + 2) Y2 X ∧ (∀ b ∈ Fj, b ∉ X) ∧ Capd aj lj cj) := ⟨HJ.out.1.below bz, HJ.out.2.1.below HJ.out.1.lt bz, rm, om.mono HS1.out.2.1.lt, fun b hb hx => by have := HJ.out.1.lt b hb; have := om.ge b hx; omega, HJ.out.2.2⟩
      refine ⟨_, by simp [Act.put]; rfl, hK _ _ ⟨trivial, ?_⟩⟩
      clear hK bz rm om HS1 HJ
      refine onlyH (o := ?o8) 7 (by kernel_rfl) ?h8 ?r8
      case h8 => simp only [aT, aS, aZ]; rfl
      intro K hK
      have co := HS2.out.1.cell 2
      have fo := HS2.out.1.frozen 2
      simp only [aT, aS, aZ] at co
      have HA : Hid (Blk (Y2.setCell ⟨w.heap.size, 2, none⟩ (.slice aj lj cj)) w.heap.size #[.int .i64 x.key, .int .i64 x.window, .slice aj lj cj, .int .i64 x.sk.count, .int .i64 x.sk.sum, .int .i64 x.sk.min, .int .i64 x.sk.max, .slice a1 n1 c1, .slice a2 n2 c2, .slice a3 n3 c3] 33 ∧ Blk (Y2.setCell ⟨w.heap.size, 2, none⟩ (.slice aj lj cj)) (w.heap.size + 1) #[.int .i64 0, .int .i64 0, .slice none 0 0, .int .i64 0, .int .i64 0, .int .i64 0, .int .i64 0, .slice none 0 0, .slice none 0 0, .slice none 0 0] 33 ∧ Below w.heap.size w (Y2.setCell ⟨w.heap.size, 2, none⟩ (.slice aj lj cj))) := ⟨HS2.out.1.set 2 _, HS2.out.2.1.setOther (by omega) 2 _, HS2.out.2.2.setCell (by show w.heap.size ≤ w.heap.size; omega) _⟩
      have nf : w.heap.size ∉ Fj := fun hx => by have := HJ2.out.2.1.ge _ hx; omega
      have nx : w.heap.size ∉ X := fun hx => by have := HJ2.out.2.2.2.1.ge _ hx; omega
      have HJ3 : Hid (RdP (Y2.setCell ⟨w.heap.size, 2, none⟩ (.slice aj lj cj)) aj lj x.ids Fj ∧ Own (w.heap.size + 2) (Y2.setCell ⟨w.heap.size, 2, none⟩ (.slice aj lj cj)) Fj ∧ RdSk (Y2.setCell ⟨w.heap.size, 2, none⟩ (.slice aj lj cj)) (.agg #[.int .i64 x.sk.count, .int .i64 x.sk.sum, .int .i64 x.sk.min, .int .i64 x.sk.max, .slice e1 r1 f1, .slice e2 r2 f2, .slice e3 r3 f3]) x.sk X ∧ Own (w.heap.size + 2) (Y2.setCell ⟨w.heap.size, 2, none⟩ (.slice aj lj cj)) X ∧ (∀ b ∈ Fj, b ∉ X) ∧ Capd aj lj cj) := ⟨HJ2.out.1.agree (.set nf 2 _), HJ2.out.2.1.agree (.set nf 2 _), HJ2.out.2.2.1.agree (.set nx 2 _), HJ2.out.2.2.2.1.agree (.set nx 2 _), HJ2.out.2.2.2.2⟩
      refine op_skip (Y2.setCell ⟨w.heap.size, 2, none⟩ (.slice aj lj cj)) rfl (by go_simp) ⟨_, by simp [Act.put]; rfl, hK _ _ ⟨trivial, ?_⟩⟩
      obtain ⟨Z7, hZ7⟩ : ∃ Z, Z = (Y2.setCell ⟨w.heap.size, 2, none⟩ (.slice aj lj cj)) := ⟨_, rfl⟩
      rw [← hZ7] at HA HJ3 ⊢
      clear hK co fo HS2 HJ2 hZ7
      refine takeH (o := ?o9) 8 (.pointer (some ⟨w.heap.size, 3, none⟩)) ?h9 ?r9
      case h9 => simp only [aT, aS, aZ]; rfl
      refine ⟨_, by simp [Act.put]; rfl, by kernel_rfl, by kernel_rfl, by kernel_rfl, fun _ _ _ h => h, (.inl ⟨rfl, fun W _ => by kernel_rfl⟩), trivial, ?_⟩
      refine onlyH (o := ?o10) 9 (by kernel_rfl) ?h10 ?r10
      case h10 => simp only [aT, aS, aZ]; rfl
      intro K hK
      refine op_storePart 31 w.heap.size 3 #[.int .i64 x.key, .int .i64 x.window, .slice aj lj cj, .int .i64 x.sk.count, .int .i64 x.sk.sum, .int .i64 x.sk.min, .int .i64 x.sk.max, .slice a1 n1 c1, .slice a2 n2 c2, .slice a3 n3 c3] #[.int .i64 x.sk.count, .int .i64 x.sk.sum, .int .i64 x.sk.min, .int .i64 x.sk.max, .slice e1 r1 f1, .slice e2 r2 f2, .slice e3 r3 f3] #[.int .i64 x.key, .int .i64 x.window, .slice aj lj cj, .int .i64 x.sk.count, .int .i64 x.sk.sum, .int .i64 x.sk.min, .int .i64 x.sk.max, .slice e1 r1 f1, .slice e2 r2 f2, .slice e3 r3 f3] 33 HA.out.1 rfl rfl rfl rfl infoSkI (by exact Nat.le_refl 10) (by simp [Value.oneCell']) rfl ⟨_, by simp [Act.put]; rfl, hK _ _ ⟨trivial, ?_⟩⟩
      clear hK
      refine wpAnyH_done (by kernel_rfl) ?_ _
      obtain ⟨E, hE⟩ : ∃ E : Array Value, E = #[.int .i64 x.key, .int .i64 x.window, .slice aj lj cj, .int .i64 x.sk.count, .int .i64 x.sk.sum, .int .i64 x.sk.min, .int .i64 x.sk.max, .slice e1 r1 f1, .slice e2 r2 f2, .slice e3 r3 f3] := ⟨_, rfl⟩
      rw [← hE]
      have HE : Hid (E = #[.int .i64 x.key, .int .i64 x.window, .slice aj lj cj, .int .i64 x.sk.count, .int .i64 x.sk.sum, .int .i64 x.sk.min, .int .i64 x.sk.max, .slice e1 r1 f1, .slice e2 r2 f2, .slice e3 r3 f3] ∧ E.size = 10 ∧ E.all (·.oneCell') = true) := ⟨hE, by rw [hE]; rfl, by rw [hE]; simp [Value.oneCell']⟩
      have HB : Hid (Blk (Z7.setRow w.heap.size E) w.heap.size E 33 ∧ Blk (Z7.setRow w.heap.size E) (w.heap.size + 1) #[.int .i64 0, .int .i64 0, .slice none 0 0, .int .i64 0, .int .i64 0, .int .i64 0, .int .i64 0, .slice none 0 0, .slice none 0 0, .slice none 0 0] 33 ∧ Below w.heap.size w (Z7.setRow w.heap.size E)) := ⟨HA.out.1.setRow, HA.out.2.1.setRowOther (by omega), below_setRow HA.out.2.2 (by omega) _⟩
      have HJ4 : Hid (RdP (Z7.setRow w.heap.size E) aj lj x.ids Fj ∧ Own (w.heap.size + 2) (Z7.setRow w.heap.size E) Fj ∧ RdSk (Z7.setRow w.heap.size E) (.agg #[.int .i64 x.sk.count, .int .i64 x.sk.sum, .int .i64 x.sk.min, .int .i64 x.sk.max, .slice e1 r1 f1, .slice e2 r2 f2, .slice e3 r3 f3]) x.sk X ∧ Own (w.heap.size + 2) (Z7.setRow w.heap.size E) X ∧ (∀ b ∈ Fj, b ∉ X) ∧ Capd aj lj cj) := ⟨HJ3.out.1.agree (Agree.row nf E), HJ3.out.2.1.agree (Agree.row nf E), HJ3.out.2.2.1.agree (Agree.row nx E), HJ3.out.2.2.2.1.agree (Agree.row nx E), HJ3.out.2.2.2.2⟩
      obtain ⟨w3, hw3⟩ : ∃ W, W = Z7.setRow w.heap.size E := ⟨_, rfl⟩
      rw [← hw3] at HB HJ4 ⊢
      clear hE hw3 HJ3 HA nf nx
      go_wp2_with (first | go_skip | (with_reducible refine stopLoad 33 rfl ?_))
      refine load_known 33 w.heap.size E 33 _ HB.out.1 rfl rfl rfl Tryz.underlying33 rfl (by rw [HE.out.2.1]; exact infoEnP10) ?_
      go_wp2_with (first | go_skip | (with_reducible refine stopStore 33 rfl ?_))
      refine store_known 33 (w.heap.size + 1) _ E 33 HB.out.2.1 rfl rfl rfl rfl (by rw [HE.out.2.1]; exact infoEnP10) (by rw [HE.out.2.1]; rfl) HE.out.2.2 ?_
      have nf : w.heap.size + 1 ∉ Fj := fun hx => by have := HJ4.out.2.1.ge _ hx; omega
      have nx : w.heap.size + 1 ∉ X := fun hx => by have := HJ4.out.2.2.2.1.ge _ hx; omega
      have HF : Hid (Blk (w3.setRow (w.heap.size + 1) E) (w.heap.size + 1) E 33 ∧ RdP (w3.setRow (w.heap.size + 1) E) aj lj x.ids Fj ∧ Own w.heap.size (w3.setRow (w.heap.size + 1) E) Fj ∧ RdSk (w3.setRow (w.heap.size + 1) E) (.agg #[.int .i64 x.sk.count, .int .i64 x.sk.sum, .int .i64 x.sk.min, .int .i64 x.sk.max, .slice e1 r1 f1, .slice e2 r2 f2, .slice e3 r3 f3]) x.sk X ∧ Own w.heap.size (w3.setRow (w.heap.size + 1) E) X ∧ Below w.heap.size w (w3.setRow (w.heap.size + 1) E)) := ⟨HB.out.2.1.setRow, HJ4.out.1.agree (Agree.row nf E), (HJ4.out.2.1.agree (Agree.row nf E)).mono (by omega), HJ4.out.2.2.1.agree (Agree.row nx E), (HJ4.out.2.2.2.1.agree (Agree.row nx E)).mono (by omega), below_setRow HB.out.2.2 (by omega) _⟩
      go_wp2
      refine bodyPost_ret (results_cell_row Tryz.results46 _ _ (w.heap.size + 1) _ _ (0, 0) _ rfl HF.out.1 Tryz.underlying33 rfl (by rw [HE.out.2.1]; exact infoEnP10)) rfl ?_
      exact ⟨_, Fj ++ X, rfl, ⟨Fj, X, rfl, aj, lj, cj, e1, r1, f1, e2, r2, f2, e3, r3, f3, by rw [HE.out.1], HF.out.2.1, HF.out.2.2.2.1, HJ4.out.2.2.2.2.2⟩, HF.out.2.2.1.app HF.out.2.2.2.2.1 HJ4.out.2.2.2.2.1, HF.out.2.2.2.2.2⟩
    case s4 =>
      intro K hK
      refine op_loadPart 31 w.heap.size 3 7 #[.int .i64 x.key, .int .i64 x.window, .slice b l c, .int .i64 x.sk.count, .int .i64 x.sk.sum, .int .i64 x.sk.min, .int .i64 x.sk.max, .slice a1 n1 c1, .slice a2 n2 c2, .slice a3 n3 c3] #[.int .i64 x.sk.count, .int .i64 x.sk.sum, .int .i64 x.sk.min, .int .i64 x.sk.max, .slice a1 n1 c1, .slice a2 n2 c2, .slice a3 n3 c3] 33 _ HS.out.1 rfl rfl rfl Tryz.underlying31 rfl infoSkI (by simp) rfl ⟨_, by simp [Act.put]; rfl, hK _ _ ⟨trivial, ?_⟩⟩
      clear hK
      refine onlyH (o := ?o11) 2 (by kernel_rfl) ?h11 ?r11
      case h11 => simp only [aT, aS, aZ]; rfl
      intro K hK
      refine op_call1 94 _ _ Tryz.f94 (fun v w' => ∃ a len cap F, v = .slice a len cap ∧ RdP w' a len x.ids F ∧ Own Y0.heap.size w' F ∧ Below Y0.heap.size Y0 w' ∧ Capd a len cap) rfl rfl Tryz.func94 (by kernel_rfl) (by kernel_rfl) ((copiedSpans_any b l c x.ids F1 Y0 (HP.out.1.below HS.out.2.2) HP.out.2.2.1).mono (by rintro e w' ⟨a, len, cap, F, rfl, h1, h2, h3, h4⟩; exact ⟨_, rfl, a, len, cap, F, rfl, h1, h2, h3, h4⟩)) ?_
      rintro _ Y3 ⟨aj, lj, cj, Fj, rfl, rj, oj, bz, hcj⟩
      have HS3 : Hid (Blk Y3 w.heap.size #[.int .i64 x.key, .int .i64 x.window, .slice b l c, .int .i64 x.sk.count, .int .i64 x.sk.sum, .int .i64 x.sk.min, .int .i64 x.sk.max, .slice a1 n1 c1, .slice a2 n2 c2, .slice a3 n3 c3] 33 ∧ Blk Y3 (w.heap.size + 1) #[.int .i64 0, .int .i64 0, .slice none 0 0, .int .i64 0, .int .i64 0, .int .i64 0, .int .i64 0, .slice none 0 0, .slice none 0 0, .slice none 0 0] 33 ∧ Below w.heap.size w Y3) := ⟨HS.out.1.below bz, HS.out.2.1.below bz, Below.next HS.out.2.2 bz⟩
      have HJ : Hid (RdP Y3 aj lj x.ids Fj ∧ Own (w.heap.size + 2) Y3 Fj ∧ Capd aj lj cj) := ⟨rj, oj.mono HS.out.2.1.lt, hcj⟩
      refine ⟨_, by simp [Act.put]; rfl, hK _ _ ⟨trivial, ?_⟩⟩
      clear hK bz rj oj hcj HS
      refine takeH (o := ?o12) 6 (.pointer (some ⟨w.heap.size, 2, none⟩)) ?h12 ?r12
      case h12 => simp only [aT, aS, aZ]; rfl
      refine ⟨_, by simp [Act.put]; rfl, by kernel_rfl, by kernel_rfl, by kernel_rfl, fun _ _ _ h => h, (.inl ⟨rfl, fun W _ => by kernel_rfl⟩), trivial, ?_⟩
      refine onlyH (o := ?o13) 5 (by kernel_rfl) ?h13 ?r13
      case h13 => simp only [aT, aS, aZ]; rfl
      intro K hK
      refine op_call1 95 _ _ Tryz.f95 (fun v w' => ∃ X, RdSk w' v x.sk X ∧ Own Y3.heap.size w' X ∧ Below Y3.heap.size Y3 w') rfl rfl Tryz.func95 (by kernel_rfl) (by kernel_rfl) ((copiedSketch_all _ x.sk F2 Y3 (HP.out.2.1.below HS3.out.2.2) HP.out.2.2.2).mono (by rintro e w' ⟨v, X, rfl, h1, h2, h3⟩; exact ⟨_, rfl, X, h1, h2, h3⟩)) ?_
      rintro vm Y4 ⟨X, rm, om, bz⟩
      obtain ⟨e1, r1, f1, e2, r2, f2, e3, r3, f3, rfl⟩ := rm.cells7
      have HS4 : Hid (Blk Y4 w.heap.size #[.int .i64 x.key, .int .i64 x.window, .slice b l c, .int .i64 x.sk.count, .int .i64 x.sk.sum, .int .i64 x.sk.min, .int .i64 x.sk.max, .slice a1 n1 c1, .slice a2 n2 c2, .slice a3 n3 c3] 33 ∧ Blk Y4 (w.heap.size + 1) #[.int .i64 0, .int .i64 0, .slice none 0 0, .int .i64 0, .int .i64 0, .int .i64 0, .int .i64 0, .slice none 0 0, .slice none 0 0, .slice none 0 0] 33 ∧ Below w.heap.size w Y4) := ⟨HS3.out.1.below bz, HS3.out.2.1.below bz, Below.next HS3.out.2.2 bz⟩
      have HJ2 : Hid (RdP Y4 aj lj x.ids Fj ∧ Own (w.heap.size + 2) Y4 Fj ∧ RdSk Y4 (.agg #[.int .i64 x.sk.count, .int .i64 x.sk.sum, .int .i64 x.sk.min, .int .i64 x.sk.max, .slice e1 r1 f1, .slice e2 r2 f2, .slice e3 r3 f3]) x.sk X ∧ Own (w.heap.size + 2) Y4 X ∧ (∀ b ∈ Fj, b ∉ X) ∧ Capd aj lj cj) := ⟨HJ.out.1.below bz, HJ.out.2.1.below HJ.out.1.lt bz, rm, om.mono HS3.out.2.1.lt, fun b hb hx => by have := HJ.out.1.lt b hb; have := om.ge b hx; omega, HJ.out.2.2⟩
      refine ⟨_, by simp [Act.put]; rfl, hK _ _ ⟨trivial, ?_⟩⟩
      clear hK bz rm om HS3 HJ
      refine onlyH (o := ?o14) 7 (by kernel_rfl) ?h14 ?r14
      case h14 => simp only [aT, aS, aZ]; rfl
      intro K hK
      have co := HS4.out.1.cell 2
      have fo := HS4.out.1.frozen 2
      simp only [aT, aS, aZ] at co
      have HA : Hid (Blk (Y4.setCell ⟨w.heap.size, 2, none⟩ (.slice aj lj cj)) w.heap.size #[.int .i64 x.key, .int .i64 x.window, .slice aj lj cj, .int .i64 x.sk.count, .int .i64 x.sk.sum, .int .i64 x.sk.min, .int .i64 x.sk.max, .slice a1 n1 c1, .slice a2 n2 c2, .slice a3 n3 c3] 33 ∧ Blk (Y4.setCell ⟨w.heap.size, 2, none⟩ (.slice aj lj cj)) (w.heap.size + 1) #[.int .i64 0, .int .i64 0, .slice none 0 0, .int .i64 0, .int .i64 0, .int .i64 0, .int .i64 0, .slice none 0 0, .slice none 0 0, .slice none 0 0] 33 ∧ Below w.heap.size w (Y4.setCell ⟨w.heap.size, 2, none⟩ (.slice aj lj cj))) := ⟨HS4.out.1.set 2 _, HS4.out.2.1.setOther (by omega) 2 _, HS4.out.2.2.setCell (by show w.heap.size ≤ w.heap.size; omega) _⟩
      have nf : w.heap.size ∉ Fj := fun hx => by have := HJ2.out.2.1.ge _ hx; omega
      have nx : w.heap.size ∉ X := fun hx => by have := HJ2.out.2.2.2.1.ge _ hx; omega
      have HJ3 : Hid (RdP (Y4.setCell ⟨w.heap.size, 2, none⟩ (.slice aj lj cj)) aj lj x.ids Fj ∧ Own (w.heap.size + 2) (Y4.setCell ⟨w.heap.size, 2, none⟩ (.slice aj lj cj)) Fj ∧ RdSk (Y4.setCell ⟨w.heap.size, 2, none⟩ (.slice aj lj cj)) (.agg #[.int .i64 x.sk.count, .int .i64 x.sk.sum, .int .i64 x.sk.min, .int .i64 x.sk.max, .slice e1 r1 f1, .slice e2 r2 f2, .slice e3 r3 f3]) x.sk X ∧ Own (w.heap.size + 2) (Y4.setCell ⟨w.heap.size, 2, none⟩ (.slice aj lj cj)) X ∧ (∀ b ∈ Fj, b ∉ X) ∧ Capd aj lj cj) := ⟨HJ2.out.1.agree (.set nf 2 _), HJ2.out.2.1.agree (.set nf 2 _), HJ2.out.2.2.1.agree (.set nx 2 _), HJ2.out.2.2.2.1.agree (.set nx 2 _), HJ2.out.2.2.2.2⟩
      refine op_skip (Y4.setCell ⟨w.heap.size, 2, none⟩ (.slice aj lj cj)) rfl (by go_simp) ⟨_, by simp [Act.put]; rfl, hK _ _ ⟨trivial, ?_⟩⟩
      obtain ⟨Z7, hZ7⟩ : ∃ Z, Z = (Y4.setCell ⟨w.heap.size, 2, none⟩ (.slice aj lj cj)) := ⟨_, rfl⟩
      rw [← hZ7] at HA HJ3 ⊢
      clear hK co fo HS4 HJ2 hZ7
      refine takeH (o := ?o15) 8 (.pointer (some ⟨w.heap.size, 3, none⟩)) ?h15 ?r15
      case h15 => simp only [aT, aS, aZ]; rfl
      refine ⟨_, by simp [Act.put]; rfl, by kernel_rfl, by kernel_rfl, by kernel_rfl, fun _ _ _ h => h, (.inl ⟨rfl, fun W _ => by kernel_rfl⟩), trivial, ?_⟩
      refine onlyH (o := ?o16) 9 (by kernel_rfl) ?h16 ?r16
      case h16 => simp only [aT, aS, aZ]; rfl
      intro K hK
      refine op_storePart 31 w.heap.size 3 #[.int .i64 x.key, .int .i64 x.window, .slice aj lj cj, .int .i64 x.sk.count, .int .i64 x.sk.sum, .int .i64 x.sk.min, .int .i64 x.sk.max, .slice a1 n1 c1, .slice a2 n2 c2, .slice a3 n3 c3] #[.int .i64 x.sk.count, .int .i64 x.sk.sum, .int .i64 x.sk.min, .int .i64 x.sk.max, .slice e1 r1 f1, .slice e2 r2 f2, .slice e3 r3 f3] #[.int .i64 x.key, .int .i64 x.window, .slice aj lj cj, .int .i64 x.sk.count, .int .i64 x.sk.sum, .int .i64 x.sk.min, .int .i64 x.sk.max, .slice e1 r1 f1, .slice e2 r2 f2, .slice e3 r3 f3] 33 HA.out.1 rfl rfl rfl rfl infoSkI (by exact Nat.le_refl 10) (by simp [Value.oneCell']) rfl ⟨_, by simp [Act.put]; rfl, hK _ _ ⟨trivial, ?_⟩⟩
      clear hK
      refine wpAnyH_done (by kernel_rfl) ?_ _
      obtain ⟨E, hE⟩ : ∃ E : Array Value, E = #[.int .i64 x.key, .int .i64 x.window, .slice aj lj cj, .int .i64 x.sk.count, .int .i64 x.sk.sum, .int .i64 x.sk.min, .int .i64 x.sk.max, .slice e1 r1 f1, .slice e2 r2 f2, .slice e3 r3 f3] := ⟨_, rfl⟩
      rw [← hE]
      have HE : Hid (E = #[.int .i64 x.key, .int .i64 x.window, .slice aj lj cj, .int .i64 x.sk.count, .int .i64 x.sk.sum, .int .i64 x.sk.min, .int .i64 x.sk.max, .slice e1 r1 f1, .slice e2 r2 f2, .slice e3 r3 f3] ∧ E.size = 10 ∧ E.all (·.oneCell') = true) := ⟨hE, by rw [hE]; rfl, by rw [hE]; simp [Value.oneCell']⟩
      have HB : Hid (Blk (Z7.setRow w.heap.size E) w.heap.size E 33 ∧ Blk (Z7.setRow w.heap.size E) (w.heap.size + 1) #[.int .i64 0, .int .i64 0, .slice none 0 0, .int .i64 0, .int .i64 0, .int .i64 0, .int .i64 0, .slice none 0 0, .slice none 0 0, .slice none 0 0] 33 ∧ Below w.heap.size w (Z7.setRow w.heap.size E)) := ⟨HA.out.1.setRow, HA.out.2.1.setRowOther (by omega), below_setRow HA.out.2.2 (by omega) _⟩
      have HJ4 : Hid (RdP (Z7.setRow w.heap.size E) aj lj x.ids Fj ∧ Own (w.heap.size + 2) (Z7.setRow w.heap.size E) Fj ∧ RdSk (Z7.setRow w.heap.size E) (.agg #[.int .i64 x.sk.count, .int .i64 x.sk.sum, .int .i64 x.sk.min, .int .i64 x.sk.max, .slice e1 r1 f1, .slice e2 r2 f2, .slice e3 r3 f3]) x.sk X ∧ Own (w.heap.size + 2) (Z7.setRow w.heap.size E) X ∧ (∀ b ∈ Fj, b ∉ X) ∧ Capd aj lj cj) := ⟨HJ3.out.1.agree (Agree.row nf E), HJ3.out.2.1.agree (Agree.row nf E), HJ3.out.2.2.1.agree (Agree.row nx E), HJ3.out.2.2.2.1.agree (Agree.row nx E), HJ3.out.2.2.2.2⟩
      obtain ⟨w3, hw3⟩ : ∃ W, W = Z7.setRow w.heap.size E := ⟨_, rfl⟩
      rw [← hw3] at HB HJ4 ⊢
      clear hE hw3 HJ3 HA nf nx
      go_wp2_with (first | go_skip | (with_reducible refine stopLoad 33 rfl ?_))
      refine load_known 33 w.heap.size E 33 _ HB.out.1 rfl rfl rfl Tryz.underlying33 rfl (by rw [HE.out.2.1]; exact infoEnP10) ?_
      go_wp2_with (first | go_skip | (with_reducible refine stopStore 33 rfl ?_))
      refine store_known 33 (w.heap.size + 1) _ E 33 HB.out.2.1 rfl rfl rfl rfl (by rw [HE.out.2.1]; exact infoEnP10) (by rw [HE.out.2.1]; rfl) HE.out.2.2 ?_
      have nf : w.heap.size + 1 ∉ Fj := fun hx => by have := HJ4.out.2.1.ge _ hx; omega
      have nx : w.heap.size + 1 ∉ X := fun hx => by have := HJ4.out.2.2.2.1.ge _ hx; omega
      have HF : Hid (Blk (w3.setRow (w.heap.size + 1) E) (w.heap.size + 1) E 33 ∧ RdP (w3.setRow (w.heap.size + 1) E) aj lj x.ids Fj ∧ Own w.heap.size (w3.setRow (w.heap.size + 1) E) Fj ∧ RdSk (w3.setRow (w.heap.size + 1) E) (.agg #[.int .i64 x.sk.count, .int .i64 x.sk.sum, .int .i64 x.sk.min, .int .i64 x.sk.max, .slice e1 r1 f1, .slice e2 r2 f2, .slice e3 r3 f3]) x.sk X ∧ Own w.heap.size (w3.setRow (w.heap.size + 1) E) X ∧ Below w.heap.size w (w3.setRow (w.heap.size + 1) E)) := ⟨HB.out.2.1.setRow, HJ4.out.1.agree (Agree.row nf E), (HJ4.out.2.1.agree (Agree.row nf E)).mono (by omega), HJ4.out.2.2.1.agree (Agree.row nx E), (HJ4.out.2.2.2.1.agree (Agree.row nx E)).mono (by omega), below_setRow HB.out.2.2 (by omega) _⟩
      go_wp2
      refine bodyPost_ret (results_cell_row Tryz.results46 _ _ (w.heap.size + 1) _ _ (0, 0) _ rfl HF.out.1 Tryz.underlying33 rfl (by rw [HE.out.2.1]; exact infoEnP10)) rfl ?_
      exact ⟨_, Fj ++ X, rfl, ⟨Fj, X, rfl, aj, lj, cj, e1, r1, f1, e2, r2, f2, e3, r3, f3, by rw [HE.out.1], HF.out.2.1, HF.out.2.2.2.1, HJ4.out.2.2.2.2.2⟩, HF.out.2.2.1.app HF.out.2.2.2.2.1 HJ4.out.2.2.2.2.1, HF.out.2.2.2.2.2⟩
  case s3 =>
    intro K hK
    refine op_loadPart 31 w.heap.size 3 7 #[.int .i64 x.key, .int .i64 x.window, .slice b l c, .int .i64 x.sk.count, .int .i64 x.sk.sum, .int .i64 x.sk.min, .int .i64 x.sk.max, .slice a1 n1 c1, .slice a2 n2 c2, .slice a3 n3 c3] #[.int .i64 x.sk.count, .int .i64 x.sk.sum, .int .i64 x.sk.min, .int .i64 x.sk.max, .slice a1 n1 c1, .slice a2 n2 c2, .slice a3 n3 c3] 33 _ HS.out.1 rfl rfl rfl Tryz.underlying31 rfl infoSkI (by simp) rfl ⟨_, by simp [Act.put]; rfl, hK _ _ ⟨trivial, ?_⟩⟩
    clear hK
    refine onlyH (o := ?o17) 1 (by kernel_rfl) ?h17 ?r17
    case h17 => simp only [aT, aS, aZ]; rfl
    intro K hK
    have co := HS.out.1.cell 2
    simp only [aT, aS, aZ] at co
    refine op_value (.slice b l c) rfl (by go_simp) ⟨_, by simp [Act.put]; rfl, hK _ _ ⟨trivial, ?_⟩⟩
    clear hK co
    refine onlyH (o := ?o18) 2 (by kernel_rfl) ?h18 ?r18
    case h18 => simp only [aT, aS, aZ]; rfl
    intro K hK
    refine op_call1 94 _ _ Tryz.f94 (fun v w' => ∃ a len cap F, v = .slice a len cap ∧ RdP w' a len x.ids F ∧ Own Y0.heap.size w' F ∧ Below Y0.heap.size Y0 w' ∧ Capd a len cap) rfl rfl Tryz.func94 (by kernel_rfl) (by kernel_rfl) ((copiedSpans_any b l c x.ids F1 Y0 (HP.out.1.below HS.out.2.2) HP.out.2.2.1).mono (by rintro e w' ⟨a, len, cap, F, rfl, h1, h2, h3, h4⟩; exact ⟨_, rfl, a, len, cap, F, rfl, h1, h2, h3, h4⟩)) ?_
    rintro _ Y5 ⟨aj, lj, cj, Fj, rfl, rj, oj, bz, hcj⟩
    have HS5 : Hid (Blk Y5 w.heap.size #[.int .i64 x.key, .int .i64 x.window, .slice b l c, .int .i64 x.sk.count, .int .i64 x.sk.sum, .int .i64 x.sk.min, .int .i64 x.sk.max, .slice a1 n1 c1, .slice a2 n2 c2, .slice a3 n3 c3] 33 ∧ Blk Y5 (w.heap.size + 1) #[.int .i64 0, .int .i64 0, .slice none 0 0, .int .i64 0, .int .i64 0, .int .i64 0, .int .i64 0, .slice none 0 0, .slice none 0 0, .slice none 0 0] 33 ∧ Below w.heap.size w Y5) := ⟨HS.out.1.below bz, HS.out.2.1.below bz, Below.next HS.out.2.2 bz⟩
    have HJ : Hid (RdP Y5 aj lj x.ids Fj ∧ Own (w.heap.size + 2) Y5 Fj ∧ Capd aj lj cj) := ⟨rj, oj.mono HS.out.2.1.lt, hcj⟩
    refine ⟨_, by simp [Act.put]; rfl, hK _ _ ⟨trivial, ?_⟩⟩
    clear hK bz rj oj hcj HS
    refine takeH (o := ?o19) 6 (.pointer (some ⟨w.heap.size, 2, none⟩)) ?h19 ?r19
    case h19 => simp only [aT, aS, aZ]; rfl
    refine ⟨_, by simp [Act.put]; rfl, by kernel_rfl, by kernel_rfl, by kernel_rfl, fun _ _ _ h => h, (.inl ⟨rfl, fun W _ => by kernel_rfl⟩), trivial, ?_⟩
    refine onlyH (o := ?o20) 5 (by kernel_rfl) ?h20 ?r20
    case h20 => simp only [aT, aS, aZ]; rfl
    intro K hK
    refine op_call1 95 _ _ Tryz.f95 (fun v w' => ∃ X, RdSk w' v x.sk X ∧ Own Y5.heap.size w' X ∧ Below Y5.heap.size Y5 w') rfl rfl Tryz.func95 (by kernel_rfl) (by kernel_rfl) ((copiedSketch_all _ x.sk F2 Y5 (HP.out.2.1.below HS5.out.2.2) HP.out.2.2.2).mono (by rintro e w' ⟨v, X, rfl, h1, h2, h3⟩; exact ⟨_, rfl, X, h1, h2, h3⟩)) ?_
    rintro vm Y6 ⟨X, rm, om, bz⟩
    obtain ⟨e1, r1, f1, e2, r2, f2, e3, r3, f3, rfl⟩ := rm.cells7
    have HS6 : Hid (Blk Y6 w.heap.size #[.int .i64 x.key, .int .i64 x.window, .slice b l c, .int .i64 x.sk.count, .int .i64 x.sk.sum, .int .i64 x.sk.min, .int .i64 x.sk.max, .slice a1 n1 c1, .slice a2 n2 c2, .slice a3 n3 c3] 33 ∧ Blk Y6 (w.heap.size + 1) #[.int .i64 0, .int .i64 0, .slice none 0 0, .int .i64 0, .int .i64 0, .int .i64 0, .int .i64 0, .slice none 0 0, .slice none 0 0, .slice none 0 0] 33 ∧ Below w.heap.size w Y6) := ⟨HS5.out.1.below bz, HS5.out.2.1.below bz, Below.next HS5.out.2.2 bz⟩
    have HJ2 : Hid (RdP Y6 aj lj x.ids Fj ∧ Own (w.heap.size + 2) Y6 Fj ∧ RdSk Y6 (.agg #[.int .i64 x.sk.count, .int .i64 x.sk.sum, .int .i64 x.sk.min, .int .i64 x.sk.max, .slice e1 r1 f1, .slice e2 r2 f2, .slice e3 r3 f3]) x.sk X ∧ Own (w.heap.size + 2) Y6 X ∧ (∀ b ∈ Fj, b ∉ X) ∧ Capd aj lj cj) := ⟨HJ.out.1.below bz, HJ.out.2.1.below HJ.out.1.lt bz, rm, om.mono HS5.out.2.1.lt, fun b hb hx => by have := HJ.out.1.lt b hb; have := om.ge b hx; omega, HJ.out.2.2⟩
    refine ⟨_, by simp [Act.put]; rfl, hK _ _ ⟨trivial, ?_⟩⟩
    clear hK bz rm om HS5 HJ
    refine onlyH (o := ?o21) 7 (by kernel_rfl) ?h21 ?r21
    case h21 => simp only [aT, aS, aZ]; rfl
    intro K hK
    have co := HS6.out.1.cell 2
    have fo := HS6.out.1.frozen 2
    simp only [aT, aS, aZ] at co
    have HA : Hid (Blk (Y6.setCell ⟨w.heap.size, 2, none⟩ (.slice aj lj cj)) w.heap.size #[.int .i64 x.key, .int .i64 x.window, .slice aj lj cj, .int .i64 x.sk.count, .int .i64 x.sk.sum, .int .i64 x.sk.min, .int .i64 x.sk.max, .slice a1 n1 c1, .slice a2 n2 c2, .slice a3 n3 c3] 33 ∧ Blk (Y6.setCell ⟨w.heap.size, 2, none⟩ (.slice aj lj cj)) (w.heap.size + 1) #[.int .i64 0, .int .i64 0, .slice none 0 0, .int .i64 0, .int .i64 0, .int .i64 0, .int .i64 0, .slice none 0 0, .slice none 0 0, .slice none 0 0] 33 ∧ Below w.heap.size w (Y6.setCell ⟨w.heap.size, 2, none⟩ (.slice aj lj cj))) := ⟨HS6.out.1.set 2 _, HS6.out.2.1.setOther (by omega) 2 _, HS6.out.2.2.setCell (by show w.heap.size ≤ w.heap.size; omega) _⟩
    have nf : w.heap.size ∉ Fj := fun hx => by have := HJ2.out.2.1.ge _ hx; omega
    have nx : w.heap.size ∉ X := fun hx => by have := HJ2.out.2.2.2.1.ge _ hx; omega
    have HJ3 : Hid (RdP (Y6.setCell ⟨w.heap.size, 2, none⟩ (.slice aj lj cj)) aj lj x.ids Fj ∧ Own (w.heap.size + 2) (Y6.setCell ⟨w.heap.size, 2, none⟩ (.slice aj lj cj)) Fj ∧ RdSk (Y6.setCell ⟨w.heap.size, 2, none⟩ (.slice aj lj cj)) (.agg #[.int .i64 x.sk.count, .int .i64 x.sk.sum, .int .i64 x.sk.min, .int .i64 x.sk.max, .slice e1 r1 f1, .slice e2 r2 f2, .slice e3 r3 f3]) x.sk X ∧ Own (w.heap.size + 2) (Y6.setCell ⟨w.heap.size, 2, none⟩ (.slice aj lj cj)) X ∧ (∀ b ∈ Fj, b ∉ X) ∧ Capd aj lj cj) := ⟨HJ2.out.1.agree (.set nf 2 _), HJ2.out.2.1.agree (.set nf 2 _), HJ2.out.2.2.1.agree (.set nx 2 _), HJ2.out.2.2.2.1.agree (.set nx 2 _), HJ2.out.2.2.2.2⟩
    refine op_skip (Y6.setCell ⟨w.heap.size, 2, none⟩ (.slice aj lj cj)) rfl (by go_simp) ⟨_, by simp [Act.put]; rfl, hK _ _ ⟨trivial, ?_⟩⟩
    obtain ⟨Z7, hZ7⟩ : ∃ Z, Z = (Y6.setCell ⟨w.heap.size, 2, none⟩ (.slice aj lj cj)) := ⟨_, rfl⟩
    rw [← hZ7] at HA HJ3 ⊢
    clear hK co fo HS6 HJ2 hZ7
    refine takeH (o := ?o22) 8 (.pointer (some ⟨w.heap.size, 3, none⟩)) ?h22 ?r22
    case h22 => simp only [aT, aS, aZ]; rfl
    refine ⟨_, by simp [Act.put]; rfl, by kernel_rfl, by kernel_rfl, by kernel_rfl, fun _ _ _ h => h, (.inl ⟨rfl, fun W _ => by kernel_rfl⟩), trivial, ?_⟩
    refine onlyH (o := ?o23) 9 (by kernel_rfl) ?h23 ?r23
    case h23 => simp only [aT, aS, aZ]; rfl
    intro K hK
    refine op_storePart 31 w.heap.size 3 #[.int .i64 x.key, .int .i64 x.window, .slice aj lj cj, .int .i64 x.sk.count, .int .i64 x.sk.sum, .int .i64 x.sk.min, .int .i64 x.sk.max, .slice a1 n1 c1, .slice a2 n2 c2, .slice a3 n3 c3] #[.int .i64 x.sk.count, .int .i64 x.sk.sum, .int .i64 x.sk.min, .int .i64 x.sk.max, .slice e1 r1 f1, .slice e2 r2 f2, .slice e3 r3 f3] #[.int .i64 x.key, .int .i64 x.window, .slice aj lj cj, .int .i64 x.sk.count, .int .i64 x.sk.sum, .int .i64 x.sk.min, .int .i64 x.sk.max, .slice e1 r1 f1, .slice e2 r2 f2, .slice e3 r3 f3] 33 HA.out.1 rfl rfl rfl rfl infoSkI (by exact Nat.le_refl 10) (by simp [Value.oneCell']) rfl ⟨_, by simp [Act.put]; rfl, hK _ _ ⟨trivial, ?_⟩⟩
    clear hK
    refine wpAnyH_done (by kernel_rfl) ?_ _
    obtain ⟨E, hE⟩ : ∃ E : Array Value, E = #[.int .i64 x.key, .int .i64 x.window, .slice aj lj cj, .int .i64 x.sk.count, .int .i64 x.sk.sum, .int .i64 x.sk.min, .int .i64 x.sk.max, .slice e1 r1 f1, .slice e2 r2 f2, .slice e3 r3 f3] := ⟨_, rfl⟩
    rw [← hE]
    have HE : Hid (E = #[.int .i64 x.key, .int .i64 x.window, .slice aj lj cj, .int .i64 x.sk.count, .int .i64 x.sk.sum, .int .i64 x.sk.min, .int .i64 x.sk.max, .slice e1 r1 f1, .slice e2 r2 f2, .slice e3 r3 f3] ∧ E.size = 10 ∧ E.all (·.oneCell') = true) := ⟨hE, by rw [hE]; rfl, by rw [hE]; simp [Value.oneCell']⟩
    have HB : Hid (Blk (Z7.setRow w.heap.size E) w.heap.size E 33 ∧ Blk (Z7.setRow w.heap.size E) (w.heap.size + 1) #[.int .i64 0, .int .i64 0, .slice none 0 0, .int .i64 0, .int .i64 0, .int .i64 0, .int .i64 0, .slice none 0 0, .slice none 0 0, .slice none 0 0] 33 ∧ Below w.heap.size w (Z7.setRow w.heap.size E)) := ⟨HA.out.1.setRow, HA.out.2.1.setRowOther (by omega), below_setRow HA.out.2.2 (by omega) _⟩
    have HJ4 : Hid (RdP (Z7.setRow w.heap.size E) aj lj x.ids Fj ∧ Own (w.heap.size + 2) (Z7.setRow w.heap.size E) Fj ∧ RdSk (Z7.setRow w.heap.size E) (.agg #[.int .i64 x.sk.count, .int .i64 x.sk.sum, .int .i64 x.sk.min, .int .i64 x.sk.max, .slice e1 r1 f1, .slice e2 r2 f2, .slice e3 r3 f3]) x.sk X ∧ Own (w.heap.size + 2) (Z7.setRow w.heap.size E) X ∧ (∀ b ∈ Fj, b ∉ X) ∧ Capd aj lj cj) := ⟨HJ3.out.1.agree (Agree.row nf E), HJ3.out.2.1.agree (Agree.row nf E), HJ3.out.2.2.1.agree (Agree.row nx E), HJ3.out.2.2.2.1.agree (Agree.row nx E), HJ3.out.2.2.2.2⟩
    obtain ⟨w3, hw3⟩ : ∃ W, W = Z7.setRow w.heap.size E := ⟨_, rfl⟩
    rw [← hw3] at HB HJ4 ⊢
    clear hE hw3 HJ3 HA nf nx
    go_wp2_with (first | go_skip | (with_reducible refine stopLoad 33 rfl ?_))
    refine load_known 33 w.heap.size E 33 _ HB.out.1 rfl rfl rfl Tryz.underlying33 rfl (by rw [HE.out.2.1]; exact infoEnP10) ?_
    go_wp2_with (first | go_skip | (with_reducible refine stopStore 33 rfl ?_))
    refine store_known 33 (w.heap.size + 1) _ E 33 HB.out.2.1 rfl rfl rfl rfl (by rw [HE.out.2.1]; exact infoEnP10) (by rw [HE.out.2.1]; rfl) HE.out.2.2 ?_
    have nf : w.heap.size + 1 ∉ Fj := fun hx => by have := HJ4.out.2.1.ge _ hx; omega
    have nx : w.heap.size + 1 ∉ X := fun hx => by have := HJ4.out.2.2.2.1.ge _ hx; omega
    have HF : Hid (Blk (w3.setRow (w.heap.size + 1) E) (w.heap.size + 1) E 33 ∧ RdP (w3.setRow (w.heap.size + 1) E) aj lj x.ids Fj ∧ Own w.heap.size (w3.setRow (w.heap.size + 1) E) Fj ∧ RdSk (w3.setRow (w.heap.size + 1) E) (.agg #[.int .i64 x.sk.count, .int .i64 x.sk.sum, .int .i64 x.sk.min, .int .i64 x.sk.max, .slice e1 r1 f1, .slice e2 r2 f2, .slice e3 r3 f3]) x.sk X ∧ Own w.heap.size (w3.setRow (w.heap.size + 1) E) X ∧ Below w.heap.size w (w3.setRow (w.heap.size + 1) E)) := ⟨HB.out.2.1.setRow, HJ4.out.1.agree (Agree.row nf E), (HJ4.out.2.1.agree (Agree.row nf E)).mono (by omega), HJ4.out.2.2.1.agree (Agree.row nx E), (HJ4.out.2.2.2.1.agree (Agree.row nx E)).mono (by omega), below_setRow HB.out.2.2 (by omega) _⟩
    go_wp2
    refine bodyPost_ret (results_cell_row Tryz.results46 _ _ (w.heap.size + 1) _ _ (0, 0) _ rfl HF.out.1 Tryz.underlying33 rfl (by rw [HE.out.2.1]; exact infoEnP10)) rfl ?_
    exact ⟨_, Fj ++ X, rfl, ⟨Fj, X, rfl, aj, lj, cj, e1, r1, f1, e2, r2, f2, e3, r3, f3, by rw [HE.out.1], HF.out.2.1, HF.out.2.2.2.1, HJ4.out.2.2.2.2.2⟩, HF.out.2.2.1.app HF.out.2.2.2.2.1 HJ4.out.2.2.2.2.1, HF.out.2.2.2.2.2⟩
end Go.Proofs.YtillnoeailnnfaaGreat
/- Slices of structs: a tail, a shallow copy by appending onto an empty literal. No statement of the seat is proved here. -/
namespace Go.Proofs.YtillnoeailnnfaaGreat
open Go.RowKit
section
variable {α : Type} {K : ElK α} {w w' : World}
/-- The cells of a list, one behind the other. -/
theorem rdC_of : ∀ {xs : List α} {b off : Nat} {F : List Nat}, RdEls K w b xs off F → ∃ vs, RdC K w xs vs F ∧ (∀ i, i < vs.length → w.cell? ⟨b, off + i, none⟩ = vs[i]?) ∧ ∀ u ∈ vs, u.oneCell' = true
  | [], b, off, F, h => by
    rw [RdEls] at h
    exact ⟨[], ⟨rfl, h⟩, fun i hi => by simp at hi, by simp⟩
  | x :: xs, b, off, F, h => by
    obtain ⟨cs, F1, F2, h1, h2, h3, h4, rfl⟩ := h
    obtain ⟨vs, k1, k2, k3⟩ := rdC_of h4
    obtain ⟨cs', e, _, hone⟩ := K.cells h3
    injection e with e
    subst e
    refine ⟨cs.toList ++ vs, ⟨cs, vs, F1, F2, rfl, h1, h3, k1, rfl⟩, fun i hi => ?_, fun u hu => ?_⟩
    · by_cases hlt : i < K.n
      · rw [h2 i hlt, List.getElem?_append_left (by rw [Array.length_toList, h1]; exact hlt), Array.getElem?_toList]
      · rw [List.getElem?_append_right (by rw [Array.length_toList, h1]; omega), Array.length_toList, h1]
        have := k2 (i - K.n) (by rw [List.length_append, Array.length_toList, h1] at hi; omega)
        rw [show off + K.n + (i - K.n) = off + i by omega] at this
        exact this
    · rcases List.mem_append.1 hu with hu | hu
      · exact (Array.all_eq_true_iff_forall_mem.1 hone) u (by simpa using hu)
      · exact k3 u hu
/-- A list that a call laid, its elements' blocks wherever they are. -/
theorem rdL_shallow {B e m : Nat} {v : Value} {xs : List α} {vs : List Value} {G : List Nat} (h : w.ownsRow B e K.n v m vs) (hr : RdC K w xs vs G) (hm : 0 < m) :
    ∃ g cap, v = .slice (some ⟨g, 0, none⟩) m cap ∧ m ≤ cap ∧ RdL K w (some ⟨g, 0, none⟩) m xs (g :: G) ∧ B ≤ g ∧ g < w.heap.size ∧ ∀ o, w.frozen? ⟨g, o, none⟩ = false := by
  have hl : xs.length = m := by
    have h1 := hr.length
    have h2 := h.1
    exact Nat.eq_of_mul_eq_mul_right K.pos (h1.symm.trans h2)
  rcases h.2 with ⟨e1, e2⟩ | ⟨g, cap, cur, e1, h1, h2, h3, h4, h5, h6⟩
  · subst e2; omega
  · subst e1
    refine ⟨g, cap, rfl, h3, ⟨hl, .inr ⟨g, 0, G, hm, rfl, rfl, rdEls_of 0 hr (fun i hi => ?_)⟩⟩, h1, (h.lt g rfl).2, fun o => h.frozenAt o⟩
    rw [Nat.zero_add]; exact h.cellAt i (by rw [← h.1]; exact hi)
/-- What a slice of a list is, where it may be empty. -/
def ElsAt (K : ElK α) (w : World) (ax : Option Addr) (m : Nat) (xs : List α) (F : List Nat) : Prop := (m = 0 ∧ xs = [] ∧ F = []) ∨ (0 < m ∧ xs.length = m ∧ ∃ b off, ax = some ⟨b, off, none⟩ ∧ RdEls K w b xs off F)
theorem ElsAt.below {ax : Option Addr} {m : Nat} {xs : List α} {F : List Nat} (h : ElsAt K w ax m xs F) (hb : Below w.heap.size w w') (hlt : ∀ b off, ax = some ⟨b, off, none⟩ → 0 < m → b < w.heap.size) : ElsAt K w' ax m xs F := by
  rcases h with h | ⟨h1, h2, b, off, rfl, h3⟩
  · exact .inl h
  · exact .inr ⟨h1, h2, b, off, rfl, h3.agree (hb.block b (hlt b off rfl h1)) (.below hb h3.lt)⟩
variable {P : Program} {ops : Array Oper} {Q : Exit → Act → World → Prop} {a : Act} {o : Oper} {C : Act → World → Prop}
end
end Go.Proofs.YtillnoeailnnfaaGreat
/- slices.Grow, slices.Concat, the method behind. No statement of the seat is proved here. -/
namespace Go.Proofs.YtillnoeailnnfaaGreat
open Go.RowKit
theorem run_append_nothing {P : Program} {w : World} (t ty e : TypeId) (i : TypeInfo) (ht : P.underlying t = some (.slice e)) (hi : P.info? e = some i) (ad : Addr) (n k : Nat) (hk : n ≤ k) :
    (Builtin.append_ #[t, t] ty #[.slice (some ad) n k, .slice none 0 0]).run P w = .ok (.slice (some ad) n k) w := by
  simp [Builtin.append_, run_underlying ht, sizeOf, typeInfo, hi, Builtin.lenOf, Builtin.firstCells, storeCells, hk]
set_option maxRecDepth 200000 in
set_option maxHeartbeats 1000000 in
theorem growNil_any (n : Nat) (w : World) (h0 : 0 < n) (hn : n ≤ 2097153) :
    Calls Tryz.prog 152 #[.slice none 0 0, .int .i64 n] w fun e w' => ∃ cap, e = .returned (.slice (some ⟨w.heap.size, 0, none⟩) 0 cap) ∧ w'.ownsRow w.heap.size 33 10 (.slice (some ⟨w.heap.size, 0, none⟩) 0 cap) 0 [] ∧ Below w.heap.size w w' := by
  obtain ⟨i0, hi, hz0, hz1, hz2⟩ := info_parts infoEnG
  have h1 : ¬ ((n : Int) < 0) := by omega
  have h2 : (0 : Int) < (n : Int) := by omega
  have h3 : wrap64 (n : Int) = (n : Int) := by unfold wrap64; omega
  have hrz : ∀ ty, (Builtin.append_ #[24, 3] ty #[.slice none 0 0, .int .i64 n]).run Tryz.prog w = .ok (.slice (some ⟨w.heap.size, 0, none⟩) n (grownCap w n 0 33)) (w.drew.alloc (.cells (Builtin.zeroCells (Value.agg #[.int .i64 0, .int .i64 0, .slice none 0 0, .int .i64 0, .int .i64 0, .int .i64 0, .int .i64 0, .slice none 0 0, .slice none 0 0, .slice none 0 0]).cells n ++ Builtin.zeroCells (Value.agg #[.int .i64 0, .int .i64 0, .slice none 0 0, .int .i64 0, .int .i64 0, .int .i64 0, .int .i64 0, .slice none 0 0, .slice none 0 0, .slice none 0 0]).cells (grownCap w n 0 33 - n)) 33)) :=
    fun ty => Lib.run_append_nil_zeros w 24 3 ty 33 i0 _ .i64 .i64 Tryz.underlying24 Tryz.underlying3 hi hz0 n h0 (by rw [hz1]; decide) (by omega) (by rw [hz2]; omega)
  have HG : Hid (n ≤ grownCap w n 0 33 ∧ grownCap w n 0 33 ≤ maxLen) := ⟨grownCap_ge w _ _ _, grownCap_le_maxLen w n 0 _ (by unfold maxLen; omega)⟩
  obtain ⟨G, hG⟩ : ∃ G, G = grownCap w n 0 33 := ⟨_, rfl⟩
  rw [← hG] at hrz HG
  clear hG
  obtain ⟨cells, hcells⟩ : ∃ cells, cells = Builtin.zeroCells (Value.agg #[.int .i64 0, .int .i64 0, .slice none 0 0, .int .i64 0, .int .i64 0, .int .i64 0, .int .i64 0, .slice none 0 0, .slice none 0 0, .slice none 0 0]).cells n ++ Builtin.zeroCells (Value.agg #[.int .i64 0, .int .i64 0, .slice none 0 0, .int .i64 0, .int .i64 0, .int .i64 0, .int .i64 0, .slice none 0 0, .slice none 0 0, .slice none 0 0]).cells (G - n) := ⟨_, rfl⟩
  rw [← hcells] at hrz
  have HC : Hid (cells.size = G * 10) := by
    show _ = _
    have := HG.out.1
    rw [hcells]
    simp [Builtin.zeroCells, Value.cells]
    omega
  clear hcells hi hz0 hz1 hz2 i0
  have hGn : n ≤ G := HG.out.1
  have h4 : ¬ ((G : Int) < 0) := by omega
  go_enter Tryz.func152, Tryz.ntmps152
  go_wp2_with (at_builtin; refine Lib.wpList_append_run _ rfl _ _ _ _ rfl _ _ rfl rfl _ _ (hrz _) ?_)
  go_wp2
  go_ret
  refine ⟨_, rfl, ?_, Below.allocW _ (Below.refl _ _).drew (by simp)⟩
  have := World.ownsRow_made (base := w.heap.size) (e := 33) (size := 10) w.drew cells G (by simp) HG.out.2 HC.out
  change (w.drew.alloc (.cells cells 33)).ownsRow _ _ _ _ _ _
  simpa using this
/-- A list of entries in a new row, the entries' own blocks as they were. -/
def Shal (w : World) (xs : List En) (v : Value) (H : List Nat) (w' : World) : Prop := ∃ vs, w'.ownsRow w.heap.size 33 10 v xs.length vs ∧ RdC enK w' xs vs H ∧ (∀ u ∈ vs, u.oneCell' = true) ∧ Below w.heap.size w w'
theorem Shal.row {w : World} {xs : List En} {v : Value} {H : List Nat} {w' : World} (h : Shal w xs v H w') (hp : 0 < xs.length) : ∃ g cap, v = .slice (some ⟨g, 0, none⟩) xs.length cap ∧ xs.length ≤ cap ∧ RdL enK w' (some ⟨g, 0, none⟩) xs.length xs (g :: H) ∧ w.heap.size ≤ g ∧ g < w'.heap.size ∧ ∀ o, w'.frozen? ⟨g, o, none⟩ = false := by
  obtain ⟨vs, h1, h2, _, _⟩ := h
  exact rdL_shallow h1 h2 hp
/-- The cells of a list that came in. -/
theorem RdL.flat {w : World} {p : Option Addr} {l : Nat} {xs : List En} {F : List Nat} (h : RdL enK w p l xs F) : ∃ vs H, RdC enK w xs vs H ∧ (∀ u ∈ vs, u.oneCell' = true) ∧ vs.length = l * 10 ∧ (∀ b ∈ H, b ∈ F) ∧ (l = 0 ∨ ∃ b off, p = some ⟨b, off, none⟩ ∧ b < w.heap.size ∧ ∀ i, i < vs.length → w.cell? ⟨b, off + i, none⟩ = vs[i]?) := by
  rcases h.cells with ⟨h0, hF⟩ | ⟨b, off, F', hp, ha, hF, he⟩
  · have : xs = [] := List.eq_nil_of_length_eq_zero (by rw [h.length, h0])
    subst this
    exact ⟨[], [], ⟨rfl, rfl⟩, by simp, by simp [h0], by simp, .inl h0⟩
  · obtain ⟨vs, k1, k2, k3⟩ := rdC_of he
    have hb : b < w.heap.size := h.lt b (by rw [hF]; simp)
    exact ⟨vs, F', k1, k3, by rw [k1.length, h.length]; rfl, fun x hx => by rw [hF]; simp [hx], .inr ⟨b, off, ha, hb, k2⟩⟩
set_option maxRecDepth 200000 in
set_option maxHeartbeats 4000000 in
theorem concat_any (p : Option Addr) (l c : Nat) (xs : List En) (F : List Nat) (e : En) (es : Array Value) (G : List Nat) (Q PB : Nat) (w : World) (h : RdL enK w p l xs F) (hc : Capd p l c) (k : RdE w (.agg es) e G) (hQ : Blk w Q es 33) (hP : Blk w PB #[.slice p l c, .slice (some ⟨Q, 0, none⟩) 1 1] 24) (hl : l ≤ 2097152) :
    Calls Tryz.prog 118 #[.slice (some ⟨PB, 0, none⟩) 2 2] w fun r w' => ∃ v, r = .returned v ∧ ∃ H, Shal w (xs ++ [e]) v H w' ∧ ∀ b ∈ H, b ∈ F ∨ b ∈ G := by
  obtain ⟨i0, hi, hz0, hz1, hz2⟩ := info_parts infoEnG
  have HI : Hid (p = none → l = 0 ∧ c = 0) := fun e => by have := hc.1 e; have := hc.2; exact ⟨by omega, by omega⟩
  obtain ⟨_, ee, hes, hes1⟩ := RdE.cells k
  injection ee with ee
  subst ee
  obtain ⟨vs, H, hrc, hone, hvl, hHF, hcell⟩ := h.flat
  have HV : Hid (RdC enK w xs vs H ∧ (∀ u ∈ vs, u.oneCell' = true) ∧ vs.length = l * 10 ∧ (l = 0 ∨ ∃ b off, p = some ⟨b, off, none⟩ ∧ b < w.heap.size ∧ ∀ i, i < vs.length → w.cell? ⟨b, off + i, none⟩ = vs[i]?)) := ⟨hrc, hone, hvl, hcell⟩
  have HX : Hid (xs.length = l ∧ (∀ b ∈ H, b ∈ F) ∧ RdE w (.agg es) e G ∧ es.size = 10 ∧ es.all (·.oneCell') = true) := ⟨h.length, hHF, k, hes, hes1⟩
  have HB : Hid (Blk w Q es 33 ∧ Blk w PB #[.slice p l c, .slice (some ⟨Q, 0, none⟩) 1 1] 24) := ⟨hQ, hP⟩
  clear h hc k hQ hP hes hes1 hrc hone hvl hHF hcell
  have p0 := HB.out.2.cell 0
  have p1 := HB.out.2.cell 1
  simp only [aT, aS, aZ] at p0 p1
  go_enter Tryz.func118, Tryz.ntmps118
  go_wp2
  go_loopw [3, 11] (fun s i wr => ∃ (k : Nat) (z : Nat), k ≤ 2 ∧ i = .int .i64 k ∧ s = .int .i64 z ∧ wr = w ∧ Hid (z = if k = 0 then 0 else if k = 1 then l else l + 1)) (fun _ i _ => 2 - (intOf i).toNat)
  case atStart => exact ⟨0, 0, by omega, rfl, rfl, rfl, rfl⟩
  case round =>
    obtain ⟨k, z, hk, rfl, rfl, rfl, HZ⟩ := hrel
    by_cases hlt : k < 2
    · have hI : (k : Int) < 2 := by omega
      have hz : z ≤ 2097153 := by have := HZ.out; split at this <;> (try split at this) <;> omega
      rcases (show k = 0 ∨ k = 1 by omega) with rfl | rfl
      · have HZ2 : Hid (z + l = l) := by have := HZ.out; simp at this; show _ = _; omega
        have n0 : ¬ (((z : Int) + (l : Int)) < 0) := by omega
        go_wp2
        go_roundw
        case rel => exact ⟨1, z + l, by omega, by go_num, by go_num, trivial, by have := HZ2.out; show _ = _; simp; omega⟩
        case measure => simp [intOf]
      · have HZ2 : Hid (z = l) := by have := HZ.out; simp at this; exact this
        have n0 : ¬ (((z : Int) + 1) < 0) := by omega
        go_wp2
        go_roundw
        case rel => exact ⟨2, z + 1, by omega, by go_num, by go_num, trivial, by have := HZ2.out; show _ = _; simp; omega⟩
        case measure => simp [intOf]
    · obtain rfl : k = 2 := by omega
      have hz : z = l + 1 := by have := HZ.out; simpa using this
      subst hz
      go_wp2_with fail
      refine (growNil_any (l + 1) _ (by omega) (by omega)).mono ?_
      rintro r w1 ⟨cap, rfl, ho, hb⟩
      obtain ⟨w0, hw0⟩ : ∃ W, W = wr := ⟨_, rfl⟩
      subst hw0
      obtain ⟨L, hL⟩ : ∃ L, L = w0.heap.size := ⟨_, rfl⟩
      have HG : Hid (L = w0.heap.size) := hL
      have HO : Hid (w1.ownsRow L 33 10 (.slice (some ⟨L, 0, none⟩) 0 cap) 0 [] ∧ Below w0.heap.size w0 w1) := ⟨by rw [hL]; exact ho, hb⟩
      rw [← hL]
      clear ho hb hL p0 p1 HZ
      go_wp2
      go_loopw [6, 27] (fun v i ws => ∃ k : Nat, k ≤ 2 ∧ i = .int .i64 k ∧ Hid (Below w0.heap.size w0 ws ∧ ((k = 0 ∧ v = .slice (some ⟨L, 0, none⟩) 0 cap ∧ ws.ownsRow L 33 10 (.slice (some ⟨L, 0, none⟩) 0 cap) 0 []) ∨ (k = 1 ∧ ws.ownsRow L 33 10 v l vs) ∨ (k = 2 ∧ ws.ownsRow L 33 10 v (l + 1) (vs ++ es.toList))))) (fun _ i _ => 2 - (intOf i).toNat)
      case atStart => exact ⟨0, by omega, rfl, HO.out.2, .inl ⟨rfl, rfl, HO.out.1⟩⟩
      case round =>
        clear HO
        obtain ⟨k, hk, rfl, HW⟩ := hrel
        have p0 : wr.cell? ⟨PB, 0, none⟩ = some (.slice p l c) := by rw [(HB.out.2.below HW.out.1).cell]; rfl
        have p1 : wr.cell? ⟨PB, 1, none⟩ = some (.slice (some ⟨Q, 0, none⟩) 1 1) := by rw [(HB.out.2.below HW.out.1).cell]; rfl
        have hLw : L ≤ wr.heap.size := by have := HW.out.1.size; have := HG.out; omega
        by_cases hlt : k < 2
        · have hI : (k : Int) < 2 := by omega
          rcases (show k = 0 ∨ k = 1 by omega) with rfl | rfl
          · have HR : Hid (u6 = .slice (some ⟨L, 0, none⟩) 0 cap ∧ wr.ownsRow L 33 10 (.slice (some ⟨L, 0, none⟩) 0 cap) 0 []) := by
              rcases HW.out.2 with ⟨_, h1, h2⟩ | ⟨h1, _⟩ | ⟨h1, _⟩
              · exact ⟨h1, h2⟩
              · omega
              · omega
            have hu := HR.out.1
            subst hu
            by_cases hnil : p = none
            · obtain ⟨hl0, hc0⟩ := HI.out hnil
              have HN : Hid (l = 0 ∧ vs = []) := ⟨hl0, List.eq_nil_of_length_eq_zero (by rw [HV.out.2.2.1, hl0])⟩
              have p0' : wr.cell? ⟨PB, 0, none⟩ = some (.slice none 0 0) := by rw [p0, hnil, hl0, hc0]
              clear p0 hl0 hc0 hnil
              have hcap : 0 ≤ cap := Nat.zero_le _
              go_wp2_with (with_reducible refine stopAppend rfl ?_)
              refine Stop.intro (Lib.wpList_append_run _ rfl _ _ _ _ rfl _ _ rfl rfl _ _ (run_append_nothing 24 _ 33 i0 Tryz.underlying24 hi ⟨L, 0, none⟩ 0 cap hcap) ?_)
              go_wp2
              go_roundw
              case rel => exact ⟨1, by omega, by go_num, HW.out.1, .inr (.inl ⟨rfl, by rw [HN.out.1, HN.out.2]; exact HR.out.2⟩)⟩
              case measure => simp [intOf]
            · obtain ⟨ad, rfl⟩ : ∃ ad, p = some ad := by cases p; exact absurd rfl hnil; exact ⟨_, rfl⟩
              have HNW : Hid (∀ j u, vs[j]? = some u → wr.cell? (ad.add j) = some u) := fun j u hj => by
                have hj' : j < vs.length := (List.getElem?_eq_some_iff.1 hj).1
                rcases HV.out.2.2.2 with h0 | ⟨b, off, e, hb, hc⟩
                · rw [HV.out.2.2.1, h0] at hj'; omega
                · cases e
                  have ea : ((⟨b, off, none⟩ : Addr).add j) = ⟨b, off + j, none⟩ := by unfold Addr.add; split <;> simp_all
                  rw [ea, HW.out.1.cell (p := ⟨b, off + j, none⟩) hb, hc j hj', hj]
              clear hnil
              go_wp2_with (with_reducible refine stopAppend rfl ?_)
              refine Stop.intro (wpList_append_own _ rfl _ _ 24 rfl L 33 i0 _ 10 144 Tryz.underlying24 hi hz0 hz1 hz2 rfl (by decide) (.slice (some ⟨L, 0, none⟩) 0 cap) 0 [] rfl HR.out.2 ad l c vs rfl HV.out.2.2.1 HNW.out HV.out.2.1 (by unfold maxLen; omega) (by omega) hLw ?_)
              intro v' w' hown hgrow _
              have HW2 : Hid (Below w0.heap.size w0 w' ∧ w'.ownsRow L 33 10 v' l vs) := ⟨HW.out.1.grown hgrow HW.out.1.size (fun b hb => by simp [Value.ownBlock] at hb; rw [← hb, ← HG.out]; exact Nat.le_refl _), by simpa using hown⟩
              clear hown hgrow HNW
              go_wp2
              go_roundw
              case rel => exact ⟨1, by omega, by go_num, HW2.out.1, .inr (.inl ⟨rfl, HW2.out.2⟩)⟩
              case measure => simp [intOf]
          · have HR : Hid (wr.ownsRow L 33 10 u6 l vs) := by
              rcases HW.out.2 with ⟨h1, _⟩ | ⟨_, h2⟩ | ⟨h1, _⟩
              · omega
              · exact h2
              · omega
            have HNW : Hid (∀ j u, es.toList[j]? = some u → wr.cell? ((⟨Q, 0, none⟩ : Addr).add j) = some u) := fun j u hj => by
              have ea : ((⟨Q, 0, none⟩ : Addr).add j) = ⟨Q, j, none⟩ := by unfold Addr.add; split <;> simp_all
              rw [ea, (HB.out.1.below HW.out.1).cell, ← Array.getElem?_toList]; exact hj
            go_wp2_with (with_reducible refine stopAppend rfl ?_)
            refine Stop.intro (wpList_append_own _ rfl _ _ 24 rfl L 33 i0 _ 10 144 Tryz.underlying24 hi hz0 hz1 hz2 rfl (by decide) u6 l vs rfl HR.out ⟨Q, 0, none⟩ 1 1 es.toList rfl (by rw [Array.length_toList, HX.out.2.2.2.1]) HNW.out (fun u hu => (Array.all_eq_true_iff_forall_mem.1 HX.out.2.2.2.2) u (by simpa using hu)) (by unfold maxLen; omega) (by omega) hLw ?_)
            intro v' w' hown hgrow _
            have HW2 : Hid (Below w0.heap.size w0 w' ∧ w'.ownsRow L 33 10 v' (l + 1) (vs ++ es.toList)) := ⟨HW.out.1.grown hgrow HW.out.1.size (fun b hb => by have := (HR.out.lt b hb).1; have := HG.out; omega), hown⟩
            clear hown hgrow HNW
            go_wp2
            go_roundw
            case rel => exact ⟨2, by omega, by go_num, HW2.out.1, .inr (.inr ⟨rfl, HW2.out.2⟩)⟩
            case measure => simp [intOf]
        · obtain rfl : k = 2 := by omega
          have HR : Hid (wr.ownsRow L 33 10 u6 (l + 1) (vs ++ es.toList)) := by
            rcases HW.out.2 with ⟨h1, _⟩ | ⟨h1, _⟩ | ⟨_, h2⟩
            · omega
            · omega
            · exact h2
          go_wp2
          go_ret
          refine ⟨u6, rfl, H ++ G, ⟨vs ++ es.toList, ?_, ?_, ?_, HW.out.1⟩, fun b hb => ?_⟩
          · rw [← HG.out, List.length_append, HX.out.1]
            exact HR.out
          · exact (HV.out.1.below HW.out.1).snoc (HX.out.2.2.1.below HW.out.1) HX.out.2.2.2.1
          · intro u hu
            rcases List.mem_append.1 hu with hu | hu
            · exact HV.out.2.1 u hu
            · exact (Array.all_eq_true_iff_forall_mem.1 HX.out.2.2.2.2) u (by simpa using hu)
          · rcases List.mem_append.1 hb with hb | hb
            · exact .inl (HX.out.2.1 b hb)
            · exact .inr hb
end Go.Proofs.YtillnoeailnnfaaGreat
/- The methods behind and with; slices.Clone. No statement of the seat is proved here. -/
namespace Go.Proofs.YtillnoeailnnfaaGreat
open Go.RowKit
section
variable {α : Type} {K : ElK α} {w : World}
/-- One element of a list changed for another. -/
theorem RdC.set : ∀ {xs : List α} {vs : List Value} {H : List Nat} {k : Nat} {x : α} {es : Array Value} {G : List Nat}, RdC K w xs vs H → k < xs.length → K.R w (.agg es) x G → es.size = K.n → ∃ H', RdC K w (xs.set k x) (vs.take (k * K.n) ++ es.toList ++ vs.drop ((k + 1) * K.n)) H' ∧ ∀ b ∈ H', b ∈ H ∨ b ∈ G
  | [], vs, H, k, x, es, G, h, hk, _, _ => by simp at hk
  | y :: xs, vs, H, 0, x, es, G, h, hk, hr, hs => by
    obtain ⟨cs, vs', F1, F2, rfl, h2, h3, h4, rfl⟩ := h
    refine ⟨G ++ F2, ⟨es, vs', G, F2, ?_, hs, hr, h4, rfl⟩, fun b hb => ?_⟩
    · rw [Nat.zero_mul, List.take_zero, List.nil_append, Nat.zero_add, Nat.one_mul, List.drop_left' (by rw [Array.length_toList, h2])]
    · rcases List.mem_append.1 hb with hb | hb
      · exact .inr hb
      · exact .inl (List.mem_append_right _ hb)
  | y :: xs, vs, H, k + 1, x, es, G, h, hk, hr, hs => by
    obtain ⟨cs, vs', F1, F2, rfl, h2, h3, h4, rfl⟩ := h
    obtain ⟨H', q1, q2⟩ := RdC.set (k := k) h4 (by simpa using hk) hr hs
    have hl : cs.toList.length = K.n := by rw [Array.length_toList, h2]
    refine ⟨F1 ++ H', ⟨cs, _, F1, H', ?_, h2, h3, q1, rfl⟩, fun b hb => ?_⟩
    · rw [List.take_append, List.drop_append, hl]
      rw [List.take_of_length_le (by rw [hl, Nat.succ_mul]; omega), List.drop_of_length_le (by rw [hl, Nat.succ_mul]; omega)]
      rw [show (k + 1) * K.n - K.n = k * K.n by rw [Nat.succ_mul]; omega, show (k + 1 + 1) * K.n - K.n = (k + 1) * K.n by rw [Nat.succ_mul (k + 1)]; omega]
      simp
    · rcases List.mem_append.1 hb with hb | hb
      · exact .inl (List.mem_append_left _ hb)
      · rcases q2 b hb with hb | hb
        · exact .inl (List.mem_append_right _ hb)
        · exact .inr hb
end
theorem Shal.into {w w1 w' : World} {xs : List En} {v : Value} {H : List Nat} (h : Shal w1 xs v H w') (hb : Below w.heap.size w w1) {X : Nat} (h1 : w.heap.size ≤ X) (h2 : X < w1.heap.size) (h3 : X ∉ H) (ds : Array Value) : Shal w xs v H (w'.setRow X ds) := by
  obtain ⟨vs, q1, q2, q3, q4⟩ := h
  refine ⟨vs, ⟨q1.1, ?_⟩, q2.agree (Agree.row h3 _), q3, below_setRow (Below.next hb q4) h1 _⟩
  rcases q1.2 with e | ⟨g, cap, cur, e1, e2, e3, e4⟩
  · exact .inl e
  · exact .inr ⟨g, cap, cur, e1, by have := hb.size; omega, by rw [setRow_other w' X g ds (by omega)]; exact e3, e4⟩
theorem Shal.from {w w1 w' : World} {xs : List En} {v : Value} {H : List Nat} (h : Shal w1 xs v H w') (hb : Below w.heap.size w w1) : Shal w xs v H w' := by
  obtain ⟨vs, q1, q2, q3, q4⟩ := h
  refine ⟨vs, ⟨q1.1, ?_⟩, q2, q3, Below.next hb q4⟩
  rcases q1.2 with e | ⟨g, cap, cur, e1, e2, e3, e4⟩
  · exact .inl e
  · exact .inr ⟨g, cap, cur, e1, by have := hb.size; omega, e3, e4⟩
theorem Shal.rd {w w' : World} {xs : List En} {v : Value} {H : List Nat} (h : Shal w xs v H w') (hp : 0 < xs.length) : ∃ F, RdRw w' (.agg #[v]) ⟨xs⟩ F ∧ ∀ b ∈ F, b ∈ H ∨ w.heap.size ≤ b := by
  obtain ⟨g, cap, rfl, hc, hr, hg, _, _⟩ := h.row hp
  exact ⟨g :: H, ⟨_, _, cap, rfl, hr, (fun e => by cases e), hc⟩, fun b hb => by
    rcases List.mem_cons.1 hb with rfl | hb
    · exact .inr hg
    · exact .inl hb⟩
theorem Shal.val {w w' : World} {xs : List En} {v : Value} {H : List Nat} (h : Shal w xs v H w') (hp : 0 < xs.length) : ∃ g m cap, v = .slice (some ⟨g, 0, none⟩) m cap := by
  obtain ⟨g, cap, e, _⟩ := h.row hp
  exact ⟨g, _, cap, e⟩
theorem infoQI2 : (Tryz.prog.info? 68).map (·.size) = some 1 := by kernel_rfl
set_option maxRecDepth 200000 in
set_option maxHeartbeats 4000000 in
theorem behind_any (v u : Value) (x : Rw) (F : List Nat) (e : En) (G : List Nat) (w : World) (h : RdRw w v x F) (k : RdE w u e G) (hl : x.list.length ≤ 2097152) :
    Calls Tryz.prog 78 #[v, u] w fun r w' => ∃ v', r = .returned (.agg #[v']) ∧ ∃ H, Shal w (x.list ++ [e]) v' H w' ∧ ∀ b ∈ H, b ∈ F ∨ b ∈ G := by
  obtain ⟨a, n, c, rfl, hL, hcp⟩ := h
  have hn : n ≤ 2097152 := by rw [← hL.length]; exact hl
  have HL : Hid (RdL enK w a n x.list F ∧ Capd a n c) := ⟨hL, hcp⟩
  have k' := k
  obtain ⟨G1, G2, _, b0, l0, c0, b1, m1, d1, b2, m2, d2, b3, m3, d3, rfl, _⟩ := k
  have HE : Hid (RdE w (.agg #[.int .i64 e.key, .int .i64 e.window, .slice b0 l0 c0, .int .i64 e.sk.count, .int .i64 e.sk.sum, .int .i64 e.sk.min, .int .i64 e.sk.max, .slice b1 m1 d1, .slice b2 m2 d2, .slice b3 m3 d3]) e G) := k'
  clear hL hcp k' hl
  have bw : Below w.heap.size w (((((w.alloc (.cells #[.slice a n c] 68)).alloc (.cells #[.int .i64 e.key, .int .i64 e.window, .slice b0 l0 c0, .int .i64 e.sk.count, .int .i64 e.sk.sum, .int .i64 e.sk.min, .int .i64 e.sk.max, .slice b1 m1 d1, .slice b2 m2 d2, .slice b3 m3 d3] 33)).alloc (.cells #[.slice none 0 0] 68)).alloc (.cells #[.int .i64 e.key, .int .i64 e.window, .slice b0 l0 c0, .int .i64 e.sk.count, .int .i64 e.sk.sum, .int .i64 e.sk.min, .int .i64 e.sk.max, .slice b1 m1 d1, .slice b2 m2 d2, .slice b3 m3 d3] 33)).alloc (.cells #[.slice a n c, .slice (some ⟨w.heap.size + 1 + 1 + 1, 0, none⟩) 1 1] 24)) := Below.allocW _ (Below.allocW _ (Below.allocW _ (Below.allocW _ (Below.allocW _ (Below.refl _ _) (Nat.le_refl _)) (by simp)) (by simp <;> omega)) (by simp <;> omega)) (by simp <;> omega)
  have q2 : Blk (((((w.alloc (.cells #[.slice a n c] 68)).alloc (.cells #[.int .i64 e.key, .int .i64 e.window, .slice b0 l0 c0, .int .i64 e.sk.count, .int .i64 e.sk.sum, .int .i64 e.sk.min, .int .i64 e.sk.max, .slice b1 m1 d1, .slice b2 m2 d2, .slice b3 m3 d3] 33)).alloc (.cells #[.slice none 0 0] 68)).alloc (.cells #[.int .i64 e.key, .int .i64 e.window, .slice b0 l0 c0, .int .i64 e.sk.count, .int .i64 e.sk.sum, .int .i64 e.sk.min, .int .i64 e.sk.max, .slice b1 m1 d1, .slice b2 m2 d2, .slice b3 m3 d3] 33)).alloc (.cells #[.slice a n c, .slice (some ⟨w.heap.size + 1 + 1 + 1, 0, none⟩) 1 1] 24)) (w.heap.size + 1 + 1) #[.slice none 0 0] 68 := ((Blk.made_eq (by simp)).alloc _).alloc _
  have q1 : Blk (((w.alloc (.cells #[.slice a n c] 68)).alloc (.cells #[.int .i64 e.key, .int .i64 e.window, .slice b0 l0 c0, .int .i64 e.sk.count, .int .i64 e.sk.sum, .int .i64 e.sk.min, .int .i64 e.sk.max, .slice b1 m1 d1, .slice b2 m2 d2, .slice b3 m3 d3] 33)).alloc (.cells #[.slice none 0 0] 68)) (w.heap.size + 1) #[.int .i64 e.key, .int .i64 e.window, .slice b0 l0 c0, .int .i64 e.sk.count, .int .i64 e.sk.sum, .int .i64 e.sk.min, .int .i64 e.sk.max, .slice b1 m1 d1, .slice b2 m2 d2, .slice b3 m3 d3] 33 := (Blk.made_eq (by simp)).alloc _
  have q3 : Blk (((((w.alloc (.cells #[.slice a n c] 68)).alloc (.cells #[.int .i64 e.key, .int .i64 e.window, .slice b0 l0 c0, .int .i64 e.sk.count, .int .i64 e.sk.sum, .int .i64 e.sk.min, .int .i64 e.sk.max, .slice b1 m1 d1, .slice b2 m2 d2, .slice b3 m3 d3] 33)).alloc (.cells #[.slice none 0 0] 68)).alloc (.cells #[.int .i64 e.key, .int .i64 e.window, .slice b0 l0 c0, .int .i64 e.sk.count, .int .i64 e.sk.sum, .int .i64 e.sk.min, .int .i64 e.sk.max, .slice b1 m1 d1, .slice b2 m2 d2, .slice b3 m3 d3] 33)).alloc (.cells #[.slice a n c, .slice (some ⟨w.heap.size + 1 + 1 + 1, 0, none⟩) 1 1] 24)) (w.heap.size + 1 + 1 + 1) #[.int .i64 e.key, .int .i64 e.window, .slice b0 l0 c0, .int .i64 e.sk.count, .int .i64 e.sk.sum, .int .i64 e.sk.min, .int .i64 e.sk.max, .slice b1 m1 d1, .slice b2 m2 d2, .slice b3 m3 d3] 33 := (Blk.made_eq (by simp)).alloc _
  have q4 : Blk (((((w.alloc (.cells #[.slice a n c] 68)).alloc (.cells #[.int .i64 e.key, .int .i64 e.window, .slice b0 l0 c0, .int .i64 e.sk.count, .int .i64 e.sk.sum, .int .i64 e.sk.min, .int .i64 e.sk.max, .slice b1 m1 d1, .slice b2 m2 d2, .slice b3 m3 d3] 33)).alloc (.cells #[.slice none 0 0] 68)).alloc (.cells #[.int .i64 e.key, .int .i64 e.window, .slice b0 l0 c0, .int .i64 e.sk.count, .int .i64 e.sk.sum, .int .i64 e.sk.min, .int .i64 e.sk.max, .slice b1 m1 d1, .slice b2 m2 d2, .slice b3 m3 d3] 33)).alloc (.cells #[.slice a n c, .slice (some ⟨w.heap.size + 1 + 1 + 1, 0, none⟩) 1 1] 24)) (w.heap.size + 1 + 1 + 1 + 1) #[.slice a n c, .slice (some ⟨w.heap.size + 1 + 1 + 1, 0, none⟩) 1 1] 24 := Blk.made_eq (by simp)
  have HB : Hid (Below w.heap.size w (((((w.alloc (.cells #[.slice a n c] 68)).alloc (.cells #[.int .i64 e.key, .int .i64 e.window, .slice b0 l0 c0, .int .i64 e.sk.count, .int .i64 e.sk.sum, .int .i64 e.sk.min, .int .i64 e.sk.max, .slice b1 m1 d1, .slice b2 m2 d2, .slice b3 m3 d3] 33)).alloc (.cells #[.slice none 0 0] 68)).alloc (.cells #[.int .i64 e.key, .int .i64 e.window, .slice b0 l0 c0, .int .i64 e.sk.count, .int .i64 e.sk.sum, .int .i64 e.sk.min, .int .i64 e.sk.max, .slice b1 m1 d1, .slice b2 m2 d2, .slice b3 m3 d3] 33)).alloc (.cells #[.slice a n c, .slice (some ⟨w.heap.size + 1 + 1 + 1, 0, none⟩) 1 1] 24)) ∧ Blk (((((w.alloc (.cells #[.slice a n c] 68)).alloc (.cells #[.int .i64 e.key, .int .i64 e.window, .slice b0 l0 c0, .int .i64 e.sk.count, .int .i64 e.sk.sum, .int .i64 e.sk.min, .int .i64 e.sk.max, .slice b1 m1 d1, .slice b2 m2 d2, .slice b3 m3 d3] 33)).alloc (.cells #[.slice none 0 0] 68)).alloc (.cells #[.int .i64 e.key, .int .i64 e.window, .slice b0 l0 c0, .int .i64 e.sk.count, .int .i64 e.sk.sum, .int .i64 e.sk.min, .int .i64 e.sk.max, .slice b1 m1 d1, .slice b2 m2 d2, .slice b3 m3 d3] 33)).alloc (.cells #[.slice a n c, .slice (some ⟨w.heap.size + 1 + 1 + 1, 0, none⟩) 1 1] 24)) (w.heap.size + 1 + 1) #[.slice none 0 0] 68 ∧ Blk (((((w.alloc (.cells #[.slice a n c] 68)).alloc (.cells #[.int .i64 e.key, .int .i64 e.window, .slice b0 l0 c0, .int .i64 e.sk.count, .int .i64 e.sk.sum, .int .i64 e.sk.min, .int .i64 e.sk.max, .slice b1 m1 d1, .slice b2 m2 d2, .slice b3 m3 d3] 33)).alloc (.cells #[.slice none 0 0] 68)).alloc (.cells #[.int .i64 e.key, .int .i64 e.window, .slice b0 l0 c0, .int .i64 e.sk.count, .int .i64 e.sk.sum, .int .i64 e.sk.min, .int .i64 e.sk.max, .slice b1 m1 d1, .slice b2 m2 d2, .slice b3 m3 d3] 33)).alloc (.cells #[.slice a n c, .slice (some ⟨w.heap.size + 1 + 1 + 1, 0, none⟩) 1 1] 24)) (w.heap.size + 1 + 1 + 1) #[.int .i64 e.key, .int .i64 e.window, .slice b0 l0 c0, .int .i64 e.sk.count, .int .i64 e.sk.sum, .int .i64 e.sk.min, .int .i64 e.sk.max, .slice b1 m1 d1, .slice b2 m2 d2, .slice b3 m3 d3] 33 ∧ Blk (((((w.alloc (.cells #[.slice a n c] 68)).alloc (.cells #[.int .i64 e.key, .int .i64 e.window, .slice b0 l0 c0, .int .i64 e.sk.count, .int .i64 e.sk.sum, .int .i64 e.sk.min, .int .i64 e.sk.max, .slice b1 m1 d1, .slice b2 m2 d2, .slice b3 m3 d3] 33)).alloc (.cells #[.slice none 0 0] 68)).alloc (.cells #[.int .i64 e.key, .int .i64 e.window, .slice b0 l0 c0, .int .i64 e.sk.count, .int .i64 e.sk.sum, .int .i64 e.sk.min, .int .i64 e.sk.max, .slice b1 m1 d1, .slice b2 m2 d2, .slice b3 m3 d3] 33)).alloc (.cells #[.slice a n c, .slice (some ⟨w.heap.size + 1 + 1 + 1, 0, none⟩) 1 1] 24)) (w.heap.size + 1 + 1 + 1 + 1) #[.slice a n c, .slice (some ⟨w.heap.size + 1 + 1 + 1, 0, none⟩) 1 1] 24 ∧ (((((w.alloc (.cells #[.slice a n c] 68)).alloc (.cells #[.int .i64 e.key, .int .i64 e.window, .slice b0 l0 c0, .int .i64 e.sk.count, .int .i64 e.sk.sum, .int .i64 e.sk.min, .int .i64 e.sk.max, .slice b1 m1 d1, .slice b2 m2 d2, .slice b3 m3 d3] 33)).alloc (.cells #[.slice none 0 0] 68)).alloc (.cells #[.int .i64 e.key, .int .i64 e.window, .slice b0 l0 c0, .int .i64 e.sk.count, .int .i64 e.sk.sum, .int .i64 e.sk.min, .int .i64 e.sk.max, .slice b1 m1 d1, .slice b2 m2 d2, .slice b3 m3 d3] 33)).alloc (.cells #[.slice a n c, .slice (some ⟨w.heap.size + 1 + 1 + 1, 0, none⟩) 1 1] 24)).heap.size = w.heap.size + 5) := ⟨bw, q2, q3, q4, by simp⟩
  have HQ1 : Hid (Blk (((w.alloc (.cells #[.slice a n c] 68)).alloc (.cells #[.int .i64 e.key, .int .i64 e.window, .slice b0 l0 c0, .int .i64 e.sk.count, .int .i64 e.sk.sum, .int .i64 e.sk.min, .int .i64 e.sk.max, .slice b1 m1 d1, .slice b2 m2 d2, .slice b3 m3 d3] 33)).alloc (.cells #[.slice none 0 0] 68)) (w.heap.size + 1) #[.int .i64 e.key, .int .i64 e.window, .slice b0 l0 c0, .int .i64 e.sk.count, .int .i64 e.sk.sum, .int .i64 e.sk.min, .int .i64 e.sk.max, .slice b1 m1 d1, .slice b2 m2 d2, .slice b3 m3 d3] 33) := q1
  clear bw q1 q2 q3 q4
  go_enter Tryz.func78, Tryz.ntmps78
  go_wp2_with (first | go_skip | (with_reducible refine stopLoad 33 rfl ?_))
  refine load_any 33 (w.heap.size + 1) #[.int .i64 e.key, .int .i64 e.window, .slice b0 l0 c0, .int .i64 e.sk.count, .int .i64 e.sk.sum, .int .i64 e.sk.min, .int .i64 e.sk.max, .slice b1 m1 d1, .slice b2 m2 d2, .slice b3 m3 d3] 33 _ HQ1.out rfl rfl rfl Tryz.underlying33 rfl infoEnG2 ?_
  go_wp2_with fail
  refine (concat_any a n c x.list F e #[.int .i64 e.key, .int .i64 e.window, .slice b0 l0 c0, .int .i64 e.sk.count, .int .i64 e.sk.sum, .int .i64 e.sk.min, .int .i64 e.sk.max, .slice b1 m1 d1, .slice b2 m2 d2, .slice b3 m3 d3] G (w.heap.size + 1 + 1 + 1) (w.heap.size + 1 + 1 + 1 + 1) _ (HL.out.1.below HB.out.1) HL.out.2 (HE.out.below HB.out.1) HB.out.2.2.1 HB.out.2.2.2.1 hn).mono ?_
  rintro r w2 ⟨v', rfl, H, hS, hH⟩
  have HS : Hid (Shal (((((w.alloc (.cells #[.slice a n c] 68)).alloc (.cells #[.int .i64 e.key, .int .i64 e.window, .slice b0 l0 c0, .int .i64 e.sk.count, .int .i64 e.sk.sum, .int .i64 e.sk.min, .int .i64 e.sk.max, .slice b1 m1 d1, .slice b2 m2 d2, .slice b3 m3 d3] 33)).alloc (.cells #[.slice none 0 0] 68)).alloc (.cells #[.int .i64 e.key, .int .i64 e.window, .slice b0 l0 c0, .int .i64 e.sk.count, .int .i64 e.sk.sum, .int .i64 e.sk.min, .int .i64 e.sk.max, .slice b1 m1 d1, .slice b2 m2 d2, .slice b3 m3 d3] 33)).alloc (.cells #[.slice a n c, .slice (some ⟨w.heap.size + 1 + 1 + 1, 0, none⟩) 1 1] 24)) (x.list ++ [e]) v' H w2 ∧ (∀ b ∈ H, b ∈ F ∨ b ∈ G) ∧ Blk w2 (w.heap.size + 1 + 1) #[.slice none 0 0] 68 ∧ w.heap.size + 1 + 1 ∉ H) := ⟨hS, hH, HB.out.2.1.below hS.choose_spec.2.2.2, fun hx => by
    rcases hH _ hx with h | h
    · have := HL.out.1.lt _ h; omega
    · have := HE.out.lt _ h; omega⟩
  obtain ⟨g, m, cap, rfl⟩ := hS.val (by simp)
  clear hS hH HQ1
  go_wp2_with (first | go_skip | (with_reducible refine stopStore 68 rfl ?_))
  refine store_known 68 (w.heap.size + 1 + 1) _ #[.slice (some ⟨g, 0, none⟩) m cap] 68 HS.out.2.2.1 rfl rfl rfl rfl infoQI2 rfl (by simp [Value.oneCell']) ?_
  go_wp2
  refine bodyPost_ret (results_cell_row Tryz.results78 _ _ (w.heap.size + 1 + 1) _ _ (0, 0) _ rfl HS.out.2.2.1.setRow Tryz.underlying68 rfl infoQI2) rfl ?_
  exact ⟨_, rfl, H, HS.out.1.into HB.out.1 (by omega) (by rw [HB.out.2.2.2.2]; omega) HS.out.2.2.2 _, HS.out.2.1⟩
set_option maxRecDepth 200000 in
set_option maxHeartbeats 4000000 in
theorem clone_any (p : Option Addr) (l c : Nat) (xs : List En) (F : List Nat) (w : World) (h : RdL enK w p l xs F) (hp : 0 < l) (hl : l ≤ 2097152) :
    Calls Tryz.prog 122 #[.slice p l c] w fun r w' => ∃ v, r = .returned v ∧ ∃ H, Shal w xs v H w' ∧ ∀ b ∈ H, b ∈ F := by
  obtain ⟨i0, hi, hz0, hz1, hz2⟩ := info_parts infoEnG
  obtain ⟨vs, H, hrc, hone, hvl, hHF, hcell⟩ := h.flat
  obtain ⟨b, off, rfl, hb, hc⟩ : ∃ b off, p = some ⟨b, off, none⟩ ∧ b < w.heap.size ∧ ∀ i, i < vs.length → w.cell? ⟨b, off + i, none⟩ = vs[i]? := by
    rcases hcell with h0 | h0
    · omega
    · exact h0
  have HV : Hid (RdC enK w xs vs H ∧ (∀ u ∈ vs, u.oneCell' = true) ∧ vs.length = l * 10 ∧ (∀ b ∈ H, b ∈ F) ∧ xs.length = l) := ⟨hrc, hone, hvl, hHF, h.length⟩
  have HW : Hid (Below w.heap.size w (w.alloc (.cells #[] 33)) ∧ ∀ j u, vs[j]? = some u → (w.alloc (.cells #[] 33)).cell? ((⟨b, off, none⟩ : Addr).add j) = some u) := ⟨Below.allocW _ (Below.refl _ _) (Nat.le_refl _), fun j u hj => by
    have hj' : j < vs.length := (List.getElem?_eq_some_iff.1 hj).1
    have ea : ((⟨b, off, none⟩ : Addr).add j) = ⟨b, off + j, none⟩ := by unfold Addr.add; split <;> simp_all
    rw [ea, (Below.allocW (o := .cells #[] 33) (Below.refl w.heap.size w) (Nat.le_refl _)).cell (p := ⟨b, off + j, none⟩) hb, hc j hj', hj]⟩
  clear h hrc hone hvl hHF hcell hc
  have q22 : ∀ (w : World) (a : Option Addr) (n c n' c' : Nat), (binOp .eql 24 (.slice a n c) (.slice none n' c')).run Tryz.prog w = .ok (.bool a.isNone) w := fun w a n c n' c' => Lib.run_eql_slice_nil w _ _ a n c n' c' Tryz.underlying24
  go_enter Tryz.func122, Tryz.ntmps122
  go_wp2_with (with_reducible refine stopAppend rfl ?_)
  refine Stop.intro (wpList_append_own _ rfl _ _ 24 rfl w.heap.size 33 i0 _ 10 144 Tryz.underlying24 hi hz0 hz1 hz2 rfl (by decide) (.slice (some ⟨w.heap.size, 0, none⟩) 0 0) 0 [] rfl (World.ownsRow_made w #[] 0 (Nat.le_refl _) (Nat.zero_le _) (by simp)) ⟨b, off, none⟩ l c vs rfl HV.out.2.2.1 HW.out.2 HV.out.2.1 (by unfold maxLen; omega) (by omega) (by simp) ?_)
  intro v' w' hown hgrow _
  have HS : Hid (Shal w xs v' H w') := by
    have hb2 : Below w.heap.size w w' := HW.out.1.grown hgrow (by simp) (fun b hb => by simp [Value.ownBlock] at hb; omega)
    exact ⟨vs, by rw [HV.out.2.2.2.2]; simpa using hown, HV.out.1.below hb2, HV.out.2.1, hb2⟩
  clear hown hgrow
  go_wp2
  go_ret
  exact ⟨v', rfl, H, HS.out, HV.out.2.2.2.1⟩
theorem cut_takeR {cs : Array Value} {ds : Array Value} {n k : Nat} (hds : ds.size = 10) (hk : k < n) (hc : n * 10 ≤ cs.size) : (cutIn cs (k * 10) ds).size = cs.size ∧ (cutIn cs (k * 10) ds).toList.take (n * 10) = (cs.toList.take (n * 10)).take (k * 10) ++ ds.toList ++ (cs.toList.take (n * 10)).drop ((k + 1) * 10) := by
  have hcl : cs.toList.length = cs.size := Array.length_toList
  have hdl : ds.toList.length = 10 := by rw [Array.length_toList, hds]
  unfold cutIn
  simp only [hds]
  refine ⟨by simp; omega, ?_⟩
  obtain ⟨T, R, e, hT⟩ : ∃ T R, cs.toList = T ++ R ∧ T.length = n * 10 := ⟨cs.toList.take (n * 10), cs.toList.drop (n * 10), (List.take_append_drop _ _).symm, by rw [List.length_take]; omega⟩
  rw [e]
  have e1 : List.take (k * 10) (T ++ R) = T.take (k * 10) := List.take_append_of_le_length (by omega)
  have e2 : List.drop (k * 10 + 10) (T ++ R) = T.drop ((k + 1) * 10) ++ R := by rw [List.drop_append_of_le_length (by omega), show k * 10 + 10 = (k + 1) * 10 by omega]
  have e3 : List.take (n * 10) (T ++ R) = T := List.take_left' hT
  rw [e1, e2, e3]
  show List.take (n * 10) (T.take (k * 10) ++ ds.toList ++ (T.drop ((k + 1) * 10) ++ R)) = _
  rw [← List.append_assoc]
  exact List.take_left' (by rw [List.length_append, List.length_append, List.length_take, List.length_drop, hdl]; omega)
set_option maxRecDepth 200000 in
set_option maxHeartbeats 4000000 in
theorem with_any (v u : Value) (x : Rw) (F : List Nat) (e : En) (G : List Nat) (k : Nat) (w : World) (h : RdRw w v x F) (q : RdE w u e G) (hk : k < x.list.length) (hl : x.list.length ≤ 2097152) :
    Calls Tryz.prog 80 #[v, .int .i64 k, u] w fun r w' => ∃ v', r = .returned (.agg #[v']) ∧ ∃ H, Shal w (x.list.set k e) v' H w' ∧ ∀ b ∈ H, b ∈ F ∨ b ∈ G := by
  obtain ⟨a, n, c, rfl, hL, hcp⟩ := h
  have hn : n ≤ 2097152 := by rw [← hL.length]; exact hl
  have hkn : k < n := by rw [← hL.length]; exact hk
  have HL : Hid (RdL enK w a n x.list F ∧ x.list.length = n) := ⟨hL, hL.length⟩
  have q' := q
  obtain ⟨G1, G2, _, b0, l0, c0, b1, m1, d1, b2, m2, d2, b3, m3, d3, rfl, _⟩ := q
  have HE : Hid (RdE w (.agg #[.int .i64 e.key, .int .i64 e.window, .slice b0 l0 c0, .int .i64 e.sk.count, .int .i64 e.sk.sum, .int .i64 e.sk.min, .int .i64 e.sk.max, .slice b1 m1 d1, .slice b2 m2 d2, .slice b3 m3 d3]) e G) := q'
  clear hL hcp q' hl hk
  have HB : Hid (Below w.heap.size w (((w.alloc (.cells #[.slice a n c] 68)).alloc (.cells #[.int .i64 e.key, .int .i64 e.window, .slice b0 l0 c0, .int .i64 e.sk.count, .int .i64 e.sk.sum, .int .i64 e.sk.min, .int .i64 e.sk.max, .slice b1 m1 d1, .slice b2 m2 d2, .slice b3 m3 d3] 33)).alloc (.cells #[.slice none 0 0] 68)) ∧ Blk (((w.alloc (.cells #[.slice a n c] 68)).alloc (.cells #[.int .i64 e.key, .int .i64 e.window, .slice b0 l0 c0, .int .i64 e.sk.count, .int .i64 e.sk.sum, .int .i64 e.sk.min, .int .i64 e.sk.max, .slice b1 m1 d1, .slice b2 m2 d2, .slice b3 m3 d3] 33)).alloc (.cells #[.slice none 0 0] 68)) (w.heap.size + 1) #[.int .i64 e.key, .int .i64 e.window, .slice b0 l0 c0, .int .i64 e.sk.count, .int .i64 e.sk.sum, .int .i64 e.sk.min, .int .i64 e.sk.max, .slice b1 m1 d1, .slice b2 m2 d2, .slice b3 m3 d3] 33 ∧ Blk (((w.alloc (.cells #[.slice a n c] 68)).alloc (.cells #[.int .i64 e.key, .int .i64 e.window, .slice b0 l0 c0, .int .i64 e.sk.count, .int .i64 e.sk.sum, .int .i64 e.sk.min, .int .i64 e.sk.max, .slice b1 m1 d1, .slice b2 m2 d2, .slice b3 m3 d3] 33)).alloc (.cells #[.slice none 0 0] 68)) (w.heap.size + 1 + 1) #[.slice none 0 0] 68 ∧ (((w.alloc (.cells #[.slice a n c] 68)).alloc (.cells #[.int .i64 e.key, .int .i64 e.window, .slice b0 l0 c0, .int .i64 e.sk.count, .int .i64 e.sk.sum, .int .i64 e.sk.min, .int .i64 e.sk.max, .slice b1 m1 d1, .slice b2 m2 d2, .slice b3 m3 d3] 33)).alloc (.cells #[.slice none 0 0] 68)).heap.size = w.heap.size + 3) := ⟨Below.allocW _ (Below.allocW _ (Below.allocW _ (Below.refl _ _) (Nat.le_refl _)) (by simp)) (by simp <;> omega), (Blk.made_eq (by simp)).alloc _, Blk.made_eq (by simp), by simp⟩
  go_enter Tryz.func80, Tryz.ntmps80
  go_wp2_with fail
  refine (clone_any a n c x.list F _ (HL.out.1.below HB.out.1) (by omega) hn).mono ?_
  rintro r w2 ⟨v', rfl, H, hS, hH⟩
  obtain ⟨vs, q1, q2, q3, q4⟩ := hS
  obtain ⟨g, cap, cur, rfl, hge, hcur, hnc, hmax, hsz, htk⟩ : ∃ g cap cur, v' = .slice (some ⟨g, 0, none⟩) x.list.length cap ∧ (((w.alloc (.cells #[.slice a n c] 68)).alloc (.cells #[.int .i64 e.key, .int .i64 e.window, .slice b0 l0 c0, .int .i64 e.sk.count, .int .i64 e.sk.sum, .int .i64 e.sk.min, .int .i64 e.sk.max, .slice b1 m1 d1, .slice b2 m2 d2, .slice b3 m3 d3] 33)).alloc (.cells #[.slice none 0 0] 68)).heap.size ≤ g ∧ w2.heap[g]? = some (.cells cur 33 (0, 0)) ∧ x.list.length ≤ cap ∧ cap ≤ maxLen ∧ cur.size = cap * 10 ∧ cur.toList.take (x.list.length * 10) = vs := by
    rcases q1.2 with ⟨_, h0⟩ | h0
    · have := HL.out.2; omega
    · exact h0
  rw [HL.out.2] at hnc htk q1
  have HS : Hid (w.heap.size + 3 ≤ g ∧ Blk w2 g cur 33 ∧ n ≤ cap ∧ cap ≤ maxLen ∧ cur.size = cap * 10 ∧ cur.toList.take (n * 10) = vs ∧ RdC enK w2 x.list vs H ∧ (∀ u ∈ vs, u.oneCell' = true) ∧ Below (((w.alloc (.cells #[.slice a n c] 68)).alloc (.cells #[.int .i64 e.key, .int .i64 e.window, .slice b0 l0 c0, .int .i64 e.sk.count, .int .i64 e.sk.sum, .int .i64 e.sk.min, .int .i64 e.sk.max, .slice b1 m1 d1, .slice b2 m2 d2, .slice b3 m3 d3] 33)).alloc (.cells #[.slice none 0 0] 68)).heap.size (((w.alloc (.cells #[.slice a n c] 68)).alloc (.cells #[.int .i64 e.key, .int .i64 e.window, .slice b0 l0 c0, .int .i64 e.sk.count, .int .i64 e.sk.sum, .int .i64 e.sk.min, .int .i64 e.sk.max, .slice b1 m1 d1, .slice b2 m2 d2, .slice b3 m3 d3] 33)).alloc (.cells #[.slice none 0 0] 68)) w2 ∧ vs.length = n * 10 ∧ ∀ b ∈ H, b ∈ F) := ⟨by rw [← HB.out.2.2.2]; exact hge, hcur, hnc, hmax, hsz, htk, q2, q3, q4, q1.1, hH⟩
  have HB2 : Hid (Blk w2 (w.heap.size + 1) #[.int .i64 e.key, .int .i64 e.window, .slice b0 l0 c0, .int .i64 e.sk.count, .int .i64 e.sk.sum, .int .i64 e.sk.min, .int .i64 e.sk.max, .slice b1 m1 d1, .slice b2 m2 d2, .slice b3 m3 d3] 33 ∧ Blk w2 (w.heap.size + 1 + 1) #[.slice none 0 0] 68) := ⟨HB.out.2.1.below q4, HB.out.2.2.1.below q4⟩
  rw [HL.out.2]
  have hI : (k : Int) < (n : Int) := by omega
  clear hge hcur hnc hmax hsz htk q1 q2 q3 q4 hH
  go_wp2_with (first | go_skip | (with_reducible refine stopLoad 33 rfl ?_))
  refine load_any 33 (w.heap.size + 1) #[.int .i64 e.key, .int .i64 e.window, .slice b0 l0 c0, .int .i64 e.sk.count, .int .i64 e.sk.sum, .int .i64 e.sk.min, .int .i64 e.sk.max, .slice b1 m1 d1, .slice b2 m2 d2, .slice b3 m3 d3] 33 _ HB2.out.1 rfl rfl rfl Tryz.underlying33 rfl infoEnG2 ?_
  go_wp2_with (first | go_skip | (with_reducible refine stopStore 33 rfl ?_))
  refine store_cut 33 g (k * 10) cur #[.int .i64 e.key, .int .i64 e.window, .slice b0 l0 c0, .int .i64 e.sk.count, .int .i64 e.sk.sum, .int .i64 e.sk.min, .int .i64 e.sk.max, .slice b1 m1 d1, .slice b2 m2 d2, .slice b3 m3 d3] (cutIn cur (k * 10) #[.int .i64 e.key, .int .i64 e.window, .slice b0 l0 c0, .int .i64 e.sk.count, .int .i64 e.sk.sum, .int .i64 e.sk.min, .int .i64 e.sk.max, .slice b1 m1 d1, .slice b2 m2 d2, .slice b3 m3 d3]) 33 HS.out.2.1 rfl rfl rfl rfl infoEnG2 (by have h1 := HS.out.2.2.1; have h2 := HS.out.2.2.2.2.1; show k * 10 + 10 ≤ _; omega) (by simp [Value.oneCell']) rfl ?_
  obtain ⟨cut, hcut⟩ : ∃ c, c = cutIn cur (k * 10) #[.int .i64 e.key, .int .i64 e.window, .slice b0 l0 c0, .int .i64 e.sk.count, .int .i64 e.sk.sum, .int .i64 e.sk.min, .int .i64 e.sk.max, .slice b1 m1 d1, .slice b2 m2 d2, .slice b3 m3 d3] := ⟨_, rfl⟩
  rw [← hcut]
  have HC : Hid (cut.size = cur.size ∧ cut.toList.take (n * 10) = vs.take (k * 10) ++ (#[.int .i64 e.key, .int .i64 e.window, .slice b0 l0 c0, .int .i64 e.sk.count, .int .i64 e.sk.sum, .int .i64 e.sk.min, .int .i64 e.sk.max, .slice b1 m1 d1, .slice b2 m2 d2, .slice b3 m3 d3] : Array Value).toList ++ vs.drop ((k + 1) * 10)) := by
    have h1 := HS.out.2.2.1
    have h2 := HS.out.2.2.2.2.1
    have := cut_takeR (cs := cur) (ds := #[.int .i64 e.key, .int .i64 e.window, .slice b0 l0 c0, .int .i64 e.sk.count, .int .i64 e.sk.sum, .int .i64 e.sk.min, .int .i64 e.sk.max, .slice b1 m1 d1, .slice b2 m2 d2, .slice b3 m3 d3]) (n := n) (k := k) rfl hkn (by omega)
    rw [hcut, ← HS.out.2.2.2.2.2.1]
    exact this
  clear hcut
  have nr : w.heap.size + 1 + 1 ≠ g := by have := HS.out.1; omega
  have HB3 : Hid (Blk (w2.setRow g cut) (w.heap.size + 1 + 1) #[.slice none 0 0] 68) := HB2.out.2.setRowOther (by omega)
  have HF : Hid (∃ H', Shal (((w.alloc (.cells #[.slice a n c] 68)).alloc (.cells #[.int .i64 e.key, .int .i64 e.window, .slice b0 l0 c0, .int .i64 e.sk.count, .int .i64 e.sk.sum, .int .i64 e.sk.min, .int .i64 e.sk.max, .slice b1 m1 d1, .slice b2 m2 d2, .slice b3 m3 d3] 33)).alloc (.cells #[.slice none 0 0] 68)) (x.list.set k e) (.slice (some ⟨g, 0, none⟩) n cap) H' (w2.setRow g cut) ∧ (∀ b ∈ H', b ∈ F ∨ b ∈ G)) := by
    obtain ⟨H', r1, r2⟩ := RdC.set (k := k) HS.out.2.2.2.2.2.2.1 (by rw [HL.out.2]; exact hkn) ((HE.out.below HB.out.1).below HS.out.2.2.2.2.2.2.2.2.1) (es := #[.int .i64 e.key, .int .i64 e.window, .slice b0 l0 c0, .int .i64 e.sk.count, .int .i64 e.sk.sum, .int .i64 e.sk.min, .int .i64 e.sk.max, .slice b1 m1 d1, .slice b2 m2 d2, .slice b3 m3 d3]) rfl
    have hin : ∀ b ∈ H', b ∈ F ∨ b ∈ G := fun b hb => (r2 b hb).imp (HS.out.2.2.2.2.2.2.2.2.2.2 b) id
    have hng : g ∉ H' := fun hx => by
      have := HS.out.1
      rcases hin g hx with h | h
      · have := HL.out.1.lt g h; omega
      · have := HE.out.lt g h; omega
    have hlen : (x.list.set k e).length = n := by rw [List.length_set]; exact HL.out.2
    have hvl : (vs.take (k * 10) ++ (#[.int .i64 e.key, .int .i64 e.window, .slice b0 l0 c0, .int .i64 e.sk.count, .int .i64 e.sk.sum, .int .i64 e.sk.min, .int .i64 e.sk.max, .slice b1 m1 d1, .slice b2 m2 d2, .slice b3 m3 d3] : Array Value).toList ++ vs.drop ((k + 1) * 10)).length = n * 10 := by
      have := HS.out.2.2.2.2.2.2.2.2.2.1
      simp only [List.length_append, List.length_take, List.length_drop]
      show min (k * 10) vs.length + 10 + (vs.length - (k + 1) * 10) = _
      omega
    refine ⟨H', ⟨_, ⟨by rw [hlen]; exact hvl, .inr ⟨g, cap, cut, by rw [hlen], by have := HS.out.1; rw [HB.out.2.2.2]; exact this, HS.out.2.1.setRow, by rw [hlen]; exact HS.out.2.2.1, HS.out.2.2.2.1, HC.out.1.trans HS.out.2.2.2.2.1, by rw [hlen]; exact HC.out.2⟩⟩, r1.agree (Agree.row hng _), fun z hz => ?_, below_setRow HS.out.2.2.2.2.2.2.2.2.1 (by have := HS.out.1; rw [HB.out.2.2.2]; exact this) _⟩, hin⟩
    rcases List.mem_append.1 hz with hz | hz
    · rcases List.mem_append.1 hz with hz | hz
      · exact HS.out.2.2.2.2.2.2.2.1 z (List.mem_of_mem_take hz)
      · have : (#[.int .i64 e.key, .int .i64 e.window, .slice b0 l0 c0, .int .i64 e.sk.count, .int .i64 e.sk.sum, .int .i64 e.sk.min, .int .i64 e.sk.max, .slice b1 m1 d1, .slice b2 m2 d2, .slice b3 m3 d3] : Array Value).all (·.oneCell') = true := by simp [Value.oneCell']
        exact (Array.all_eq_true_iff_forall_mem.1 this) z (by simpa using hz)
    · exact HS.out.2.2.2.2.2.2.2.1 z (List.mem_of_mem_drop hz)
  obtain ⟨w3, hw3⟩ : ∃ W, W = w2.setRow g cut := ⟨_, rfl⟩
  rw [← hw3] at HB3 HF ⊢
  clear hw3 HB2 HS HC nr
  go_wp2_with (first | go_skip | (with_reducible refine stopStore 68 rfl ?_))
  refine store_known 68 (w.heap.size + 1 + 1) _ #[.slice (some ⟨g, 0, none⟩) n cap] 68 HB3.out rfl rfl rfl rfl infoQI2 rfl (by simp [Value.oneCell']) ?_
  go_wp2
  refine bodyPost_ret (results_cell_row Tryz.results80 _ _ (w.heap.size + 1 + 1) _ _ (0, 0) _ rfl HB3.out.setRow Tryz.underlying68 rfl infoQI2) rfl ?_
  obtain ⟨H', s1, s2⟩ := HF.out
  refine ⟨_, rfl, H', s1.into HB.out.1 (by omega) (by rw [HB.out.2.2.2]; omega) (fun hx => ?_) _, s2⟩
  rcases s2 _ hx with h | h
  · have := HL.out.1.lt _ h; omega
  · have := HE.out.lt _ h; omega
end Go.Proofs.YtillnoeailnnfaaGreat
/- The model's l10Apart and RowPush. No statement of the seat is proved here. -/
namespace Go.Proofs.YtillnoeailnnfaaGreat
open Go.RowKit
section
variable {P : Program} {ops : Array Oper} {Q : Exit → Act → World → Prop} {a : Act} {w : World} {x : Operand} {o : Oper} {K : Act → World → Prop}
theorem op_loadAt (ty : TypeId) (g off n : Nat) (cs : Array Value) (d : TypeDesc) (hw : Region.wanted o (yielded ops a.tmps) = true) (ho : o.op = .load ty x) (hx : a.eval x = .pointer (some ⟨g, off, none⟩)) (hu : P.underlying ty = some d) (hd : (match d with | .struct _ | .array _ _ => true | _ => false) = true)
    (hi : (P.info? ty).map (·.size) = some n) (hn : cs.size = n) (hS : ∀ j, j < n → w.cell? ⟨g, off + j, none⟩ = cs[j]?) (h : ∃ a', a.put o.dst (.agg cs) = a' ∧ K a' w) : if Region.wanted o (yielded ops a.tmps) = true then Oper.wp P o a w K Q else K (a.put o.dst undef) w := by
  have y : YieldsIf P ops (fun W => W = w) o (.agg cs) a := yields_at ty g off n cs d hw ho hx hu hd hi hn (fun W hW => by rw [hW]; exact hS)
  rcases y with ⟨_, y⟩ | ⟨y, _⟩
  · exact op_value (.agg cs) hw (y w rfl) h
  · rw [hw] at y; cases y
end
section
variable {α : Type} {K : ElK α} {w : World}
/-- One element of a list changed for another: where its blocks stood, the new one's stand. -/
theorem RdC.setW : ∀ {xs : List α} {vs : List Value} {H : List Nat} {k : Nat} {x : α} {es : Array Value} {G : List Nat}, RdC K w xs vs H → k < xs.length → K.R w (.agg es) x G → es.size = K.n → ∃ H1 Hk H2, H = H1 ++ (Hk ++ H2) ∧ RdC K w (xs.set k x) (vs.take (k * K.n) ++ es.toList ++ vs.drop ((k + 1) * K.n)) (H1 ++ (G ++ H2))
  | [], vs, H, k, x, es, G, h, hk, _, _ => by simp at hk
  | y :: xs, vs, H, 0, x, es, G, h, hk, hr, hs => by
    obtain ⟨cs, vs', F1, F2, rfl, h2, h3, h4, rfl⟩ := h
    refine ⟨[], F1, F2, rfl, es, vs', G, F2, ?_, hs, hr, h4, rfl⟩
    rw [Nat.zero_mul, List.take_zero, List.nil_append, Nat.zero_add, Nat.one_mul, List.drop_left' (by rw [Array.length_toList, h2])]
  | y :: xs, vs, H, k + 1, x, es, G, h, hk, hr, hs => by
    obtain ⟨cs, vs', F1, F2, rfl, h2, h3, h4, rfl⟩ := h
    obtain ⟨H1, Hk, H2, q0, q1⟩ := RdC.setW (k := k) h4 (by simpa using hk) hr hs
    have hl : cs.toList.length = K.n := by rw [Array.length_toList, h2]
    refine ⟨F1 ++ H1, Hk, H2, by rw [q0, List.append_assoc], cs, _, F1, H1 ++ (G ++ H2), ?_, h2, h3, q1, by rw [List.append_assoc]⟩
    rw [List.take_append, List.drop_append, hl]
    rw [List.take_of_length_le (by rw [hl, Nat.succ_mul]; omega), List.drop_of_length_le (by rw [hl, Nat.succ_mul]; omega)]
    rw [show (k + 1) * K.n - K.n = k * K.n by rw [Nat.succ_mul]; omega, show (k + 1 + 1) * K.n - K.n = (k + 1) * K.n by rw [Nat.succ_mul (k + 1)]; omega]
    simp
end
theorem GrowL.longer {α : Type} {K : ElK α} {e : TypeId} {xs ys : List α} {lo k : Nat} {v : Value} {vs : List Value} {G : List Nat} {W : World} (h : GrowL K e xs lo k v vs G W) (ht : ys.take k = xs.take k) : GrowL K e ys lo k v vs G W := ⟨h.row, by rw [ht]; exact h.rd, h.og, h.ap, h.lw⟩
theorem PuR.grown {w W W' : World} {A es : Array Value} {tR tE : TypeId} {v : Value} (h : PuR w A es tR tE W) (hgrow : W.grownBy W' v.ownBlock) (hv : ∀ b, v.ownBlock = some b → w.heap.size + 3 ≤ b) : PuR w A es tR tE W' := by
  have ot : ∀ b, b < w.heap.size + 3 → W'.heap[b]? = W.heap[b]? := fun b hb => hgrow.block b (by have := h.size; omega) (fun e => by have := hv b e.symm; omega)
  exact ⟨h.box.agree (ot _ (by omega)), h.en.agree (ot _ (by omega)), h.res.agree (ot _ (by omega)), h.bel.grown hgrow h.bel.size (fun b hb => by have := hv b hb; omega)⟩
theorem PuR.setCell {w W : World} {A es : Array Value} {tR tE : TypeId} (h : PuR w A es tR tE W) {X : Nat} (hX : w.heap.size + 3 ≤ X) (v : Value) : PuR w A es tR tE (W.setCell ⟨X, 0, none⟩ v) :=
  ⟨h.box.setOther (by omega) _ _, h.en.setOther (by omega) _ _, h.res.setOther (by omega) _ _, h.bel.setCell (p := ⟨X, 0, none⟩) (by show w.heap.size ≤ X; omega) _⟩
theorem PuR.setRow {w W : World} {A es : Array Value} {tR tE : TypeId} (h : PuR w A es tR tE W) {X : Nat} (hX : w.heap.size + 3 ≤ X) (ds : Array Value) : PuR w A es tR tE (W.setRow X ds) :=
  ⟨h.box.setRowOther (by omega), h.en.setRowOther (by omega), h.res.setRowOther (by omega), below_setRow h.bel (by omega) _⟩
/-- An element changed in a list that the writer has made. -/
theorem GrowL.put {e : TypeId} {xs : List En} {lo n k g cap L : Nat} {vs : List Value} {GG G : List Nat} {W : World} {x : En} {ds : Array Value} (h : GrowL enK e xs lo n (.slice (some ⟨g, 0, none⟩) n cap) vs GG W) (hn : xs.length = n) (hk : k < n) (hr : RdE W (.agg ds) x G) (hd : ds.size = 10)
    (ho : Own L W G) (hL : lo ≤ L) (ltG : ∀ b ∈ GG, b < L) (hgL : g < L) : lo ≤ g ∧ ∃ cur, Blk W g cur e ∧ k * 10 + 10 ≤ cur.size ∧ ∃ vs' H', GrowL enK e (xs.set k x) lo n (.slice (some ⟨g, 0, none⟩) n cap) vs' H' (W.setRow g (cutIn cur (k * 10) ds)) ∧ ∀ b ∈ H', b < L ∨ b ∈ G := by
  have hrow := h.row
  have rd := h.rd
  have og := h.og
  rw [List.take_of_length_le (Nat.le_of_eq hn)] at rd
  obtain ⟨hvl, hrow⟩ := hrow
  obtain ⟨cur, hge, hcur, hnc, hmax, hsz, htk⟩ : ∃ cur, lo ≤ g ∧ W.heap[g]? = some (.cells cur e (0, 0)) ∧ n ≤ cap ∧ cap ≤ maxLen ∧ cur.size = cap * 10 ∧ cur.toList.take (n * 10) = vs := by
    rcases hrow with ⟨h0, _⟩ | ⟨g', cap', cur, h1, h2, h3, h4, h5, h6, h7⟩
    · cases h0
    · injection h1 with e1 e2 e3
      injection e1 with e1
      injection e1 with e1
      subst e1 e3
      exact ⟨cur, h2, h3, h4, h5, h6, h7⟩
  obtain ⟨H1, Hk, H2, rfl, q1⟩ := RdC.setW (k := k) rd (by omega) hr hd
  obtain ⟨c1, c2⟩ := cut_takeR (cs := cur) (ds := ds) (n := n) (k := k) hd hk (by omega)
  have hin : ∀ b ∈ H1 ++ (G ++ H2), b < L ∨ b ∈ G := fun b hb => by
    rcases List.mem_append.1 hb with hb | hb
    · exact .inl (ltG b (List.mem_append_left _ hb))
    · rcases List.mem_append.1 hb with hb | hb
      · exact .inr hb
      · exact .inl (ltG b (List.mem_append_right _ (List.mem_append_right _ hb)))
  have hown : Own lo W (H1 ++ (G ++ H2)) := by
    refine og.left.app ((ho.mono hL).app og.right.right (fun b hb hx => ?_)) (fun b hb hx => ?_)
    · have := ho.ge b hb; have := ltG b (List.mem_append_right _ (List.mem_append_right _ hx)); omega
    · rcases List.mem_append.1 hx with hx | hx
      · have := ho.ge b hx; have := ltG b (List.mem_append_left _ hb); omega
      · exact og.apart b hb (List.mem_append_right _ hx)
  have hng : g ∉ H1 ++ (G ++ H2) := fun hx => by
    rcases List.mem_append.1 hx with hx | hx
    · exact h.ap g rfl (List.mem_append_left _ hx)
    · rcases List.mem_append.1 hx with hx | hx
      · have := ho.ge g hx; omega
      · exact h.ap g rfl (List.mem_append_right _ (List.mem_append_right _ hx))
  have hlen : (xs.set k x).length = n := by rw [List.length_set]; exact hn
  refine ⟨hge, cur, hcur, by omega, _, _, ⟨⟨?_, .inr ⟨g, cap, _, rfl, hge, Blk.setRow hcur, hnc, hmax, c1.trans hsz, c2⟩⟩, ?_, hown.agree (Agree.row hng _), fun b hb => ?_, ?_⟩, hin⟩
  · rw [htk]
    have hdl : ds.toList.length = 10 := by rw [Array.length_toList, hd]
    simp only [List.length_append, List.length_take, List.length_drop, hdl, hvl]
    show _ = n * 10
    have : enK.n = 10 := rfl
    rw [this]
    omega
  · rw [List.take_of_length_le (Nat.le_of_eq hlen), htk]
    exact q1.agree (Agree.row hng _)
  · have : b = g := by simpa [Value.ownBlock] using hb.symm
    subst this; exact hng
  · have := (below_setRow (Below.refl 0 W) (Nat.zero_le g) (cutIn cur (k * 10) ds)).size
    exact Nat.le_trans h.lw this
set_option maxRecDepth 200000 in
set_option maxHeartbeats 4000000 in
theorem l10Apart_any (v : Value) (x : Rw) (F : List Nat) (p : Option Addr) (l g : Nat) (s : Sp) (G : List Nat) (w : World) (h : RdRw w v x F) (k : RdP w p l s G) (hw : x.wide) (hl : l ≤ 2097152) :
    Calls Tryz.prog 39 #[v, .slice p l g] w fun e w' => e = .returned (.bool (apartAll x.list s)) ∧ Below w.heap.size w w' := by
  obtain ⟨a, n, c, rfl, hL, hcp⟩ := h
  have HL : Hid (RdL enK w a n x.list F ∧ x.list.length = n ∧ (∀ y ∈ x.list, y.wide) ∧ RdP w p l s G) := ⟨hL, hL.length, hw.1, k⟩
  have hn : n ≤ 1048576 := by rw [← hL.length]; exact hw.2
  have HB : Hid (Below w.heap.size w (w.alloc (.cells #[.slice a n c] 26)) ∧ Blk (w.alloc (.cells #[.slice a n c] 26)) w.heap.size #[.slice a n c] 26) := ⟨Below.allocW _ (Below.refl _ _) (Nat.le_refl _), Blk.made _ _ _⟩
  clear hL hw hcp k
  go_enter Tryz.func39, Tryz.ntmps39
  go_wp2
  go_loopw [5] (fun i wr => ∃ k : Nat, k ≤ n ∧ i = .int .i64 k ∧ Hid ((x.list.take k).all (fun y => y.ids.apart s) = true) ∧ Hid (Below w.heap.size w wr ∧ Blk wr w.heap.size #[.slice a n c] 26)) (fun i _ => n - (intOf i).toNat)
  case atStart => exact ⟨0, by omega, rfl, (show _ = _ by simp), HB⟩
  case round =>
    clear HB
    obtain ⟨k, hk, rfl, HT, HW⟩ := hrel
    have c0 := HW.out.2.cell 0
    simp only [aT, aZ] at c0
    by_cases hlt : k < n
    · have hI : (k : Int) < (n : Int) := by omega
      obtain ⟨b, off, y, q, m, g', cs, Fi, G', rfl, hbw, hy, hs, hcc, hr, h0, h1, h2, hp, hcp⟩ := ens_in HL.out.1 hlt
      have HX : Hid (x.list[k]? = some y ∧ RdP wr q m y.ids G') := ⟨hy, hp.below HW.out.1⟩
      have hm : m ≤ 1048576 := by rw [← hp.length]; exact (wide_at HL.out.2.2.1 hy).2
      have c2 : wr.cell? ⟨b, off + k * 10 + 2, none⟩ = some (.slice q m g') := (hcc wr HW.out.1 2 (by decide)).trans h2
      clear hy hs hcc hr h0 h1 h2 hp hcp
      go_wp2_with fail
      refine (apartSpec_any q p m l g' g y.ids s G' G _ HX.out.2 (HL.out.2.2.2.below HW.out.1) (by omega) (by omega)).mono ?_
      rintro e w2 ⟨rfl, t, rfl⟩
      have HW2 : Hid (Below w.heap.size w (wr.drewN t) ∧ Blk (wr.drewN t) w.heap.size #[.slice (some ⟨b, off, none⟩) n c] 26) := ⟨Below.next HW.out.1 (quiet_below ⟨t, rfl⟩), HW.out.2.below (quiet_below ⟨t, rfl⟩)⟩
      obtain ⟨w2, hw2⟩ : ∃ W, W = wr.drewN t := ⟨_, rfl⟩
      rw [← hw2] at HW2 ⊢
      obtain ⟨d, hd⟩ : ∃ d, d = y.ids.apart s := ⟨_, rfl⟩
      rw [← hd]
      have HD : Hid (d = y.ids.apart s) := hd
      clear hd c2 c0 hw2 HW
      cases d
      · have HV : Hid (apartAll x.list s = false) := by
          show _ = _
          unfold apartAll
          rw [List.all_eq_false]
          exact ⟨y, List.mem_of_getElem? HX.out.1, by rw [← HD.out]; simp⟩
        go_wp2
        go_ret
        exact ⟨ret_bool HV.out.symm, HW2.out.1⟩
      · have HT2 : Hid ((x.list.take (k + 1)).all (fun y => y.ids.apart s) = true) := by
          show _ = _
          rw [take_snoc_en HX.out.1, List.all_append, HT.out]
          simp [← HD.out]
        go_wp2
        go_roundw
        case rel => exact ⟨k + 1, by omega, by go_num, HT2, HW2⟩
        case measure => simp [intOf]; omega
    · obtain rfl : k = n := by omega
      have HV : Hid (apartAll x.list s = true) := by
        have := HT.out
        rw [List.take_of_length_le (by rw [HL.out.2.1]; omega)] at this
        exact this
      have hI : ¬ (k : Int) < (k : Int) := by omega
      go_wp2
      go_ret
      exact ⟨ret_bool HV.out.symm, HW.out.1⟩
set_option maxRecDepth 200000 in
theorem addSpecE_any (v u : Value) (x y : En) (F G : List Nat) (w : World) (h : RdE w v x F) (k : RdE w u y G) (hx : x.ok = true) (hy : y.ok = true) (hlen : x.ids.length + y.ids.length ≤ 2097152) :
    Calls Tryz.prog 40 #[v, u] w fun e w' => ∃ v F, e = .returned v ∧ RdE w' v (x.add y) F ∧ Own w.heap.size w' F ∧ Below w.heap.size w w' := by
  obtain ⟨F1, F2, rfl, h⟩ := h
  obtain ⟨G1, G2, rfl, k⟩ := k
  refine (l6Add_any v u x y F1 F2 G1 G2 w h k hx hy hlen).mono ?_
  rintro e w' ⟨v', F', G', rfl, r, o, o', d, b⟩
  exact ⟨v', F' ++ G', rfl, ⟨F', G', rfl, r⟩, o.app o' d, b⟩
set_option maxRecDepth 200000 in
set_option maxHeartbeats 16000000 in
theorem rowPushSpec_any (v u : Value) (x : Rw) (F : List Nat) (e : En) (G : List Nat) (join : Bool) (w : World) (h : RdRw w v x F) (k : RdE w u e G) (hs : x.size + e.wt ≤ 1048576) :
    Calls Tryz.prog 9 #[v, u, .bool join] w fun r w' => NewRw2 w (x.push e join) r w' := by
  obtain ⟨j0, hj, hy0, hy1, hy2⟩ := info_parts infoEnG
  have HH : Hid (RdRw w v x F ∧ RdE w u e G ∧ x.fits ∧ e.fits ∧ e.ids.length ≤ 1048576) := ⟨h, k, (push_sizes join hs).1, (push_sizes join hs).2.1, (push_sizes join hs).2.1.2⟩
  obtain ⟨es, rfl, hes, hes1⟩ := RdE.cells k
  obtain ⟨G1, G2, _, p0, l0, c0, _, _, _, _, _, _, _, _, _, ev, hpp, _, hpc⟩ := k
  have HE : Hid (es.size = 10 ∧ es.all (·.oneCell') = true ∧ es[0]? = some (.int .i64 e.key) ∧ es[1]? = some (.int .i64 e.window) ∧ es[2]? = some (.slice p0 l0 c0) ∧ RdP w p0 l0 e.ids G1) := by
    injection ev with ev
    exact ⟨hes, hes1, by rw [ev]; rfl, by rw [ev]; rfl, by rw [ev]; rfl, hpp⟩
  have hl0 : l0 ≤ 1048576 := by rw [← hpp.length]; exact HH.out.2.2.2.2
  obtain ⟨a, n, c, rfl, hL, _⟩ := h
  have HN : Hid (x.list.length = n) := hL.length
  have hn : n ≤ 1048576 := by rw [← hL.length]; exact HH.out.2.2.1.len
  have HP : Hid (PuR w #[.slice a n c] es 26 33 _) := PuR.made w #[.slice a n c] es 26 33
  clear hs hes hes1 ev hpp hpc hL
  go_enter Tryz.func9, Tryz.ntmps9
  go_wp2_with (first | go_skip | (with_reducible refine stopLoad 26 rfl ?_) | (with_reducible refine stopLoad 33 rfl ?_))
  refine load_any 26 w.heap.size #[.slice a n c] 26 _ HP.out.box rfl rfl rfl Tryz.underlying26 rfl (rwSize rfl) ?_
  go_wp2_with fail
  refine (l10Copy_grow _ x F _ (HH.out.1.below HP.out.bel) HH.out.2.2.1).mono ?_
  rintro r w1 ⟨q, kc, FX, lo, vs, GG, rfl, hr, hcq, ho, hb, hg, hlo⟩
  rw [HN.out] at hr hcq hg ⊢
  have HP1 : Hid (PuR w #[.slice a n c] es 26 33 w1) := HP.out.below hb
  obtain ⟨X, hX⟩ : ∃ X, X = w1.heap.size := ⟨_, rfl⟩
  have HG1 : Hid (GrowL enK 33 x.list lo n (.slice q n kc) vs GG w1 ∧ RdL enK w1 q n x.list FX ∧ Own (w.heap.size + 3) w1 FX ∧ Capd q n kc) := ⟨hg, hr, ho.mono HP.out.size, hcq⟩
  have HLO : Hid (w.heap.size + 3 ≤ lo ∧ w.heap.size + 3 ≤ X ∧ (∀ b ∈ GG, b < X) ∧ (∀ b, (Value.slice q n kc).ownBlock = some b → b < X) ∧ lo ≤ X) := ⟨Nat.le_trans HP.out.size hlo, by rw [hX]; exact HP1.out.size, by rw [hX]; exact hg.lts.1, by rw [hX]; exact hg.lts.2.1, by rw [hX]; exact hg.lts.2.2⟩
  clear hr hcq ho hb hg hlo HP
  go_wp2_with (first | go_skip | (with_reducible refine stopStore 26 rfl ?_))
  refine store_fresh 26 w1.heap.size rfl #[.slice none 0 0] #[.slice q n kc] 26 rfl rfl rfl rfl (rwSize rfl) rfl (by simp [Value.oneCell']) ?_
  intro w2 hg2 hb2
  have HP2 : Hid (PuR w #[.slice a n c] es 26 33 w2 ∧ Blk w2 X #[.slice q n kc] 26 ∧ GrowL enK 33 x.list lo n (.slice q n kc) vs GG w2 ∧ RdL enK w2 q n x.list FX ∧ Own (w.heap.size + 3) w2 FX) := ⟨HP1.out.below hb2, by rw [hX]; exact hg2, HG1.out.1.below hb2, HG1.out.2.1.below hb2, HG1.out.2.2.1.below HG1.out.2.1.lt hb2⟩
  have HNX : Hid (X ∉ FX ∧ Capd q n kc) := ⟨fun hx => by have := HG1.out.2.1.lt _ hx; omega, HG1.out.2.2.2⟩
  rw [← hX]
  clear hg2 hb2 hX HP1 HG1
  go_wp2_with (first | go_skip | (with_reducible refine stopLoad 26 rfl ?_))
  refine load_any 26 w.heap.size #[.slice a n c] 26 _ HP2.out.1.box rfl rfl rfl Tryz.underlying26 rfl (rwSize rfl) ?_
  go_wp2_with fail
  refine (rowOkSpec_any _ x F _ (HH.out.1.below HP2.out.1.bel) HH.out.2.2.1.wide).mono ?_
  rintro r w3 ⟨rfl, hb⟩
  have HP2 : Hid (PuR w #[.slice a n c] es 26 33 w3 ∧ Blk w3 X #[.slice q n kc] 26 ∧ GrowL enK 33 x.list lo n (.slice q n kc) vs GG w3 ∧ RdL enK w3 q n x.list FX ∧ Own (w.heap.size + 3) w3 FX) := ⟨HP2.out.1.below hb, HP2.out.2.1.below hb, HP2.out.2.2.1.below hb, HP2.out.2.2.2.1.below hb, HP2.out.2.2.2.2.below HP2.out.2.2.2.1.lt hb⟩
  obtain ⟨d, hd⟩ : ∃ d, d = x.ok := ⟨_, rfl⟩
  rw [← hd]
  have HD1 : Hid (d = x.ok) := hd
  clear hd hb
  cases d
  · have HV : Hid (x.push e join = (x, false)) := Rw.push_not (by unfold Rw.takes; rw [← HD1.out]; rfl)
    go_wp2_with (first | go_skip | (with_reducible refine stopLoad 26 rfl ?_))
    refine load_any 26 X #[.slice q n kc] 26 _ HP2.out.2.1 rfl rfl rfl Tryz.underlying26 rfl (rwSize rfl) ?_
    go_wp2_with (first | go_skip | (with_reducible refine stopStore 26 rfl ?_))
    refine store_known 26 (w.heap.size + 1 + 1) _ #[.slice q n kc] 26 HP2.out.1.res rfl rfl rfl rfl (rwSize rfl) rfl (by simp [Value.oneCell']) ?_
    go_wp2
    refine bodyPost_ret (results_row_tmp Tryz.results9 _ _ (w.heap.size + 1 + 1) _ _ _ _ rfl HP2.out.1.res.setRow Tryz.underlying26 rfl (rwSize rfl)) rfl ?_
    rw [HV.out]
    have nr : w.heap.size + 1 + 1 ∉ FX := fun hx => by have := HP2.out.2.2.2.2.ge _ hx; omega
    exact ⟨_, FX, rfl, ⟨q, n, kc, rfl, HP2.out.2.2.2.1.agree (Agree.row nr _), HNX.out.2⟩, (HP2.out.2.2.2.2.agree (Agree.row nr _)).mono (by omega), below_setRow HP2.out.1.bel (by omega) _⟩
  go_wp2_with (first | go_skip | (with_reducible refine stopLoad 33 rfl ?_))
  refine load_any 33 (w.heap.size + 1) es 33 _ HP2.out.1.en rfl rfl rfl Tryz.underlying33 rfl (enSize HE.out.1) ?_
  go_wp2_with fail
  refine (entryOkE_any _ e G _ (HH.out.2.1.below HP2.out.1.bel) HH.out.2.2.2.1.wide).mono ?_
  rintro r w4 ⟨rfl, hb⟩
  have HP2 : Hid (PuR w #[.slice a n c] es 26 33 w4 ∧ Blk w4 X #[.slice q n kc] 26 ∧ GrowL enK 33 x.list lo n (.slice q n kc) vs GG w4 ∧ RdL enK w4 q n x.list FX ∧ Own (w.heap.size + 3) w4 FX) := ⟨HP2.out.1.below hb, HP2.out.2.1.below hb, HP2.out.2.2.1.below hb, HP2.out.2.2.2.1.below hb, HP2.out.2.2.2.2.below HP2.out.2.2.2.1.lt hb⟩
  obtain ⟨d, hd⟩ : ∃ d, d = e.ok := ⟨_, rfl⟩
  rw [← hd]
  have HD2 : Hid (d = e.ok) := hd
  clear hd hb
  cases d
  · have HV : Hid (x.push e join = (x, false)) := Rw.push_not (by unfold Rw.takes; rw [← HD2.out, Bool.and_false]; rfl)
    go_wp2_with (first | go_skip | (with_reducible refine stopLoad 26 rfl ?_))
    refine load_any 26 X #[.slice q n kc] 26 _ HP2.out.2.1 rfl rfl rfl Tryz.underlying26 rfl (rwSize rfl) ?_
    go_wp2_with (first | go_skip | (with_reducible refine stopStore 26 rfl ?_))
    refine store_known 26 (w.heap.size + 1 + 1) _ #[.slice q n kc] 26 HP2.out.1.res rfl rfl rfl rfl (rwSize rfl) rfl (by simp [Value.oneCell']) ?_
    go_wp2
    refine bodyPost_ret (results_row_tmp Tryz.results9 _ _ (w.heap.size + 1 + 1) _ _ _ _ rfl HP2.out.1.res.setRow Tryz.underlying26 rfl (rwSize rfl)) rfl ?_
    rw [HV.out]
    have nr : w.heap.size + 1 + 1 ∉ FX := fun hx => by have := HP2.out.2.2.2.2.ge _ hx; omega
    exact ⟨_, FX, rfl, ⟨q, n, kc, rfl, HP2.out.2.2.2.1.agree (Agree.row nr _), HNX.out.2⟩, (HP2.out.2.2.2.2.agree (Agree.row nr _)).mono (by omega), below_setRow HP2.out.1.bel (by omega) _⟩
  have c2 : w4.cell? ⟨w.heap.size + 1, 2, none⟩ = some (.slice p0 l0 c0) := (HP2.out.1.en.cell 2).trans HE.out.2.2.2.2.1
  go_wp2_with (first | go_skip | (with_reducible refine stopLoad 26 rfl ?_))
  refine load_any 26 w.heap.size #[.slice a n c] 26 _ HP2.out.1.box rfl rfl rfl Tryz.underlying26 rfl (rwSize rfl) ?_
  go_wp2_with fail
  refine (l10Apart_any _ x F p0 l0 c0 e.ids G1 _ (HH.out.1.below HP2.out.1.bel) (HE.out.2.2.2.2.2.below HP2.out.1.bel) HH.out.2.2.1.wide (by omega)).mono ?_
  rintro r w5 ⟨rfl, hb⟩
  have HP2 : Hid (PuR w #[.slice a n c] es 26 33 w5 ∧ Blk w5 X #[.slice q n kc] 26 ∧ GrowL enK 33 x.list lo n (.slice q n kc) vs GG w5 ∧ RdL enK w5 q n x.list FX ∧ Own (w.heap.size + 3) w5 FX) := ⟨HP2.out.1.below hb, HP2.out.2.1.below hb, HP2.out.2.2.1.below hb, HP2.out.2.2.2.1.below hb, HP2.out.2.2.2.2.below HP2.out.2.2.2.1.lt hb⟩
  obtain ⟨d, hd⟩ : ∃ d, d = apartAll x.list e.ids := ⟨_, rfl⟩
  rw [← hd]
  have HD3 : Hid (d = apartAll x.list e.ids) := hd
  clear hd hb c2
  cases d
  · have HV : Hid (x.push e join = (x, false)) := Rw.push_not (by unfold Rw.takes; rw [← HD3.out, Bool.and_false])
    go_wp2_with (first | go_skip | (with_reducible refine stopLoad 26 rfl ?_))
    refine load_any 26 X #[.slice q n kc] 26 _ HP2.out.2.1 rfl rfl rfl Tryz.underlying26 rfl (rwSize rfl) ?_
    go_wp2_with (first | go_skip | (with_reducible refine stopStore 26 rfl ?_))
    refine store_known 26 (w.heap.size + 1 + 1) _ #[.slice q n kc] 26 HP2.out.1.res rfl rfl rfl rfl (rwSize rfl) rfl (by simp [Value.oneCell']) ?_
    go_wp2
    refine bodyPost_ret (results_row_tmp Tryz.results9 _ _ (w.heap.size + 1 + 1) _ _ _ _ rfl HP2.out.1.res.setRow Tryz.underlying26 rfl (rwSize rfl)) rfl ?_
    rw [HV.out]
    have nr : w.heap.size + 1 + 1 ∉ FX := fun hx => by have := HP2.out.2.2.2.2.ge _ hx; omega
    exact ⟨_, FX, rfl, ⟨q, n, kc, rfl, HP2.out.2.2.2.1.agree (Agree.row nr _), HNX.out.2⟩, (HP2.out.2.2.2.2.agree (Agree.row nr _)).mono (by omega), below_setRow HP2.out.1.bel (by omega) _⟩
  have HTK : Hid (x.takes e = true) := by show _ = _; unfold Rw.takes; rw [← HD1.out, ← HD2.out, ← HD3.out]; rfl
  clear HD1 HD2 HD3
  go_wp2
  go_loopw [9] (fun i wr => ∃ k : Nat, k ≤ n ∧ i = .int .i64 k ∧ (join = false → k = 0) ∧ Hid (∀ z ∈ x.list.take k, samePlace z e = false) ∧ Hid (PuR w #[.slice a n c] es 26 33 wr ∧ Blk wr X #[.slice q n kc] 26 ∧ GrowL enK 33 x.list lo n (.slice q n kc) vs GG wr ∧ RdL enK wr q n x.list FX ∧ Own (w.heap.size + 3) wr FX)) (fun i _ => n - (intOf i).toNat)
  case atStart => exact ⟨0, by omega, rfl, fun _ => rfl, (show ∀ z ∈ x.list.take 0, _ by simp), HP2⟩
  case round =>
    clear HP2
    obtain ⟨k, hk, rfl, hjk, HT, HP2⟩ := hrel
    have cX := HP2.out.2.1.cell 0
    have cB := HP2.out.1.box.cell 0
    simp only [aT, aZ] at cX cB
    by_cases hno : join = false ∨ k = n
    · have HNO : Hid (join = false ∨ hitAt x.list e = none) := by
        rcases hno with h | h
        · exact .inl h
        · refine .inr (hitAt_none ?_)
          have := HT.out
          rw [List.take_of_length_le (by rw [HN.out]; omega)] at this
          exact this
      by_cases h24 : n = 24
      · have hbe : ((n : Int) == 24) = true := by simp; omega
        have HV : Hid (x.push e join = (x, false)) := Rw.push_full HNO.out (by rw [HN.out]; exact h24)
        clear h24
        by_cases hlt : k < n
        · obtain rfl : join = false := by rcases hno with h | h; exact h; omega
          have hI : (k : Int) < (n : Int) := by omega
          clear hno
          go_wp2_with (first | go_skip | (with_reducible refine stopLoad 26 rfl ?_))
          refine load_any 26 X #[.slice q n kc] 26 _ HP2.out.2.1 rfl rfl rfl Tryz.underlying26 rfl (rwSize rfl) ?_
          go_wp2_with (first | go_skip | (with_reducible refine stopStore 26 rfl ?_))
          refine store_known 26 (w.heap.size + 1 + 1) _ #[.slice q n kc] 26 HP2.out.1.res rfl rfl rfl rfl (rwSize rfl) rfl (by simp [Value.oneCell']) ?_
          go_wp2
          refine bodyPost_ret (results_row_tmp Tryz.results9 _ _ (w.heap.size + 1 + 1) _ _ _ _ rfl HP2.out.1.res.setRow Tryz.underlying26 rfl (rwSize rfl)) rfl ?_
          rw [HV.out]
          have nr : w.heap.size + 1 + 1 ∉ FX := fun hx => by have := HP2.out.2.2.2.2.ge _ hx; omega
          exact ⟨_, FX, rfl, ⟨q, n, kc, rfl, HP2.out.2.2.2.1.agree (Agree.row nr _), HNX.out.2⟩, (HP2.out.2.2.2.2.agree (Agree.row nr _)).mono (by omega), below_setRow HP2.out.1.bel (by omega) _⟩
        · have hI : ¬ (k : Int) < (n : Int) := by omega
          clear hno
          go_wp2_with (first | go_skip | (with_reducible refine stopLoad 26 rfl ?_))
          refine load_any 26 X #[.slice q n kc] 26 _ HP2.out.2.1 rfl rfl rfl Tryz.underlying26 rfl (rwSize rfl) ?_
          go_wp2_with (first | go_skip | (with_reducible refine stopStore 26 rfl ?_))
          refine store_known 26 (w.heap.size + 1 + 1) _ #[.slice q n kc] 26 HP2.out.1.res rfl rfl rfl rfl (rwSize rfl) rfl (by simp [Value.oneCell']) ?_
          go_wp2
          refine bodyPost_ret (results_row_tmp Tryz.results9 _ _ (w.heap.size + 1 + 1) _ _ _ _ rfl HP2.out.1.res.setRow Tryz.underlying26 rfl (rwSize rfl)) rfl ?_
          rw [HV.out]
          have nr : w.heap.size + 1 + 1 ∉ FX := fun hx => by have := HP2.out.2.2.2.2.ge _ hx; omega
          exact ⟨_, FX, rfl, ⟨q, n, kc, rfl, HP2.out.2.2.2.1.agree (Agree.row nr _), HNX.out.2⟩, (HP2.out.2.2.2.2.agree (Agree.row nr _)).mono (by omega), below_setRow HP2.out.1.bel (by omega) _⟩

      · have hbe : ((n : Int) == 24) = false := by simp; omega
        have HV : Hid (x.push e join = (⟨x.list ++ [e]⟩, true)) := Rw.push_last HTK.out HNO.out (by rw [HN.out]; exact h24)
        clear h24
        by_cases hlt : k < n
        · obtain rfl : join = false := by rcases hno with h | h; exact h; omega
          have hI : (k : Int) < (n : Int) := by omega
          clear hno
          go_wp2_with fail
          clear cX cB
          have HPd : Hid (PuR w #[.slice a n c] es 26 33 wr.drew ∧ Blk wr.drew X #[.slice q n kc] 26 ∧ GrowL enK 33 x.list lo n (.slice q n kc) vs GG wr.drew ∧ RdL enK wr.drew q n x.list FX ∧ Own (w.heap.size + 3) wr.drew FX) := ⟨HP2.out.1.below (Below.refl _ _).drew, HP2.out.2.1.below (Below.refl _ _).drew, HP2.out.2.2.1.below (Below.refl _ _).drew, HP2.out.2.2.2.1.below (Below.refl _ _).drew, HP2.out.2.2.2.2.below HP2.out.2.2.2.1.lt (Below.refl _ _).drew⟩
          obtain ⟨Y0, hY0⟩ : ∃ Y, Y = wr.drew := ⟨_, rfl⟩
          rw [← hY0] at HPd
          clear HP2
          refine wp_region_held (S := fun W => Blk W (w.heap.size + 1) es 33 ∧ Below w.heap.size w W) (by kernel_rfl) ?_
          change wpAnyH _ _ _ _ _ _ _ _ (World.drew _)
          rw [← hY0]
          clear hY0
          refine takeH (o := ?o90) 0 (.pointer (some ⟨X, 0, none⟩)) ?h90 ?r90
          case h90 => simp only [aT, aZ]; rfl
          refine ⟨_, by simp [Act.put]; rfl, by kernel_rfl, by kernel_rfl, by kernel_rfl, fun _ _ _ h => h, (.inl ⟨rfl, fun W _ => by kernel_rfl⟩), ⟨HPd.out.1.en, HPd.out.1.bel⟩, ?_⟩
          refine takeH (o := ?o91) 2 (.agg es) ?h91 ?r91
          case h91 => simp only [aT, aS, aZ]; rfl
          refine ⟨_, by simp [Act.put]; rfl, by kernel_rfl, by kernel_rfl, by kernel_rfl, fun _ _ _ h => h, (yields_at 33 (w.heap.size + 1) 0 10 es _ rfl rfl rfl Tryz.underlying33 rfl infoEnG2 HE.out.1 (fun W hW j _ => by rw [Nat.zero_add]; exact hW.1.cell j)), ⟨HPd.out.1.en, HPd.out.1.bel⟩, ?_⟩
          refine twoH (o := ?o92) (o' := ?p92) 1 3 (by kernel_rfl) ?h92 ?g92 ?r92 ?s92
          case h92 => simp only [aT, aS, aZ]; rfl
          case g92 => simp only [aT, aS, aZ]; rfl
          case r92 =>
            intro K hK
            have co := HPd.out.2.1.cell 0
            simp only [aT, aZ] at co
            refine op_value (.slice q n kc) rfl (by go_simp) ⟨_, by simp [Act.put]; rfl, hK _ _ ⟨⟨HPd.out.1.en, HPd.out.1.bel⟩, ?_⟩⟩
            clear hK co
            refine onlyH (o := ?o93) 3 (by kernel_rfl) ?h93 ?r93
            case h93 => simp only [aT, aS, aZ]; rfl
            intro K hK
            refine op_call1 41 _ _ Tryz.f41 (fun v w' => ∃ F, RdE w' v e F ∧ Own Y0.heap.size w' F ∧ Below Y0.heap.size Y0 w') rfl rfl Tryz.func41 (by kernel_rfl) (by kernel_rfl) ((l6Copy_en (.agg es) e G Y0 (HH.out.2.1.below HPd.out.1.bel) HH.out.2.2.2.1).mono (by rintro e w' ⟨v, F, rfl, k1, k2, k3⟩; exact ⟨_, rfl, F, k1, k2, k3⟩)) ?_
            rintro vr Yar3 ⟨Fr, rr, ro, rb⟩
            obtain ⟨ds, rfl, hd11, hd1⟩ := enK.cells (w := Yar3) rr
            have RRar3 : Hid (RdE Yar3 (.agg ds) e Fr ∧ Own (X + 1) Yar3 Fr ∧ ds.size = 10 ∧ ds.all (·.oneCell') = true) := ⟨rr, ro.mono HPd.out.2.1.lt, hd11, hd1⟩
            have HPar3 : Hid (PuR w #[.slice a n c] es 26 33 Yar3 ∧ Blk Yar3 X #[.slice q n kc] 26 ∧ GrowL enK 33 x.list lo n (.slice q n kc) vs GG Yar3 ∧ RdL enK Yar3 q n x.list FX ∧ Own (w.heap.size + 3) Yar3 FX) := ⟨HPd.out.1.below rb, HPd.out.2.1.below rb, HPd.out.2.2.1.below rb, HPd.out.2.2.2.1.below rb, HPd.out.2.2.2.2.below HPd.out.2.2.2.1.lt rb⟩
            refine ⟨_, by simp [Act.put]; rfl, hK _ _ ⟨⟨HPar3.out.1.en, HPar3.out.1.bel⟩, ?_⟩⟩
            clear hK rr ro rb hd11 hd1
            refine onlyH (o := ?o94) 4 (by kernel_rfl) ?h94 ?r94
            case h94 => simp only [aT, aS, aZ]; rfl
            intro K hK
            have bl : Below Yar3.heap.size Yar3 (Yar3.alloc (.cells ds 33)) := (Below.refl _ _).alloc (Nat.le_refl _) _
            have HPar4 : Hid (PuR w #[.slice a n c] es 26 33 (Yar3.alloc (.cells ds 33)) ∧ Blk (Yar3.alloc (.cells ds 33)) X #[.slice q n kc] 26 ∧ GrowL enK 33 x.list lo n (.slice q n kc) vs GG (Yar3.alloc (.cells ds 33)) ∧ RdL enK (Yar3.alloc (.cells ds 33)) q n x.list FX ∧ Own (w.heap.size + 3) (Yar3.alloc (.cells ds 33)) FX) := ⟨HPar3.out.1.below bl, HPar3.out.2.1.below bl, HPar3.out.2.2.1.below bl, HPar3.out.2.2.2.1.below bl, HPar3.out.2.2.2.2.below HPar3.out.2.2.2.1.lt bl⟩
            have RRar4 : Hid (RdE (Yar3.alloc (.cells ds 33)) (.agg ds) e Fr ∧ Own (X + 1) (Yar3.alloc (.cells ds 33)) Fr ∧ ds.size = 10 ∧ ds.all (·.oneCell') = true) := ⟨RRar3.out.1.below bl, RRar3.out.2.1.below RRar3.out.1.lt bl, RRar3.out.2.2⟩
            have NWar4 : Hid (∀ j u, ds.toList[j]? = some u → ((Yar3.alloc (.cells ds 33))).cell? ((⟨Yar3.heap.size, 0, none⟩ : Addr).add j) = some u) := news_lit _ _ _
            refine op_turn (.slice (some ⟨Yar3.heap.size, 0, none⟩) 1 1) (Yar3.alloc (.cells ds 33)) rfl (by obtain ⟨_, _, _, _, _, _, _, _, _, _, _, _, _, _, _, ev, _⟩ := RRar4.out.1; injection ev with ev; rw [ev]; kernel_rfl) ⟨_, by simp [Act.put]; rfl, hK _ _ ⟨⟨HPar4.out.1.en, HPar4.out.1.bel⟩, ?_⟩⟩
            clear hK bl
            obtain ⟨Lar4, hLar4⟩ : ∃ z, z = Yar3.heap.size := ⟨_, rfl⟩
            obtain ⟨Yar4, hYar4⟩ : ∃ Z, Z = (Yar3.alloc (.cells ds 33)) := ⟨_, rfl⟩
            rw [← hYar4, ← hLar4] at NWar4
            rw [← hYar4] at HPar4 RRar4 ⊢
            rw [← hLar4]
            clear hYar4 hLar4
            refine onlyH (o := ?o95) 5 (by kernel_rfl) ?h95 ?r95
            case h95 => simp only [aT, aS, aZ]; rfl
            intro K hK
            refine op_append Yar4 rfl _ _ 24 rfl lo 33 j0 (.agg #[.int .i64 0, .int .i64 0, .slice none 0 0, .int .i64 0, .int .i64 0, .int .i64 0, .int .i64 0, .slice none 0 0, .slice none 0 0, .slice none 0 0]) 10 144 Tryz.underlying24 hj hy0 hy1 hy2 rfl (by decide) (.slice q n kc) n vs rfl HPar4.out.2.2.1.row ⟨Lar4, 0, none⟩ 1 1 ds.toList rfl (by rw [Array.length_toList, RRar4.out.2.2.1]) NWar4.out (fun u hu => (Array.all_eq_true_iff_forall_mem.1 RRar4.out.2.2.2) u (by simpa using hu)) (by decide) (by unfold maxLen; omega) (by omega) HPar4.out.2.2.1.lw _ rfl ?_
            intro g4 cp4 Yar5 hown hgrow hat _
            have hx1 : (x.list ++ [e])[n]? = some e := by rw [List.getElem?_append_right (by rw [HN.out]; exact Nat.le_refl _), HN.out, Nat.sub_self]; rfl
            have GS := (HPar4.out.2.2.1.longer (ys := x.list ++ [e]) (List.take_append_of_le_length (by rw [HN.out]; exact Nat.le_refl _))).step hx1 RRar4.out.1 RRar4.out.2.2.1 RRar4.out.2.1 (fun b hb => by have := HLO.out.2.2.1 b hb; omega) (fun b hb => by have := HLO.out.2.2.2.1 b hb; omega) (by have := HLO.out.2.2.2.2; omega) hown hgrow hat
            have hXk : Blk Yar5 X #[.slice q n kc] 26 := HPar4.out.2.1.agree (hgrow.block X HPar4.out.2.1.lt (fun e => by have := HLO.out.2.2.2.1 X e.symm; omega))
            have HPar5 : Hid (PuR w #[.slice a n c] es 26 33 Yar5 ∧ Blk Yar5 X #[.slice q n kc] 26) := ⟨HPar4.out.1.grown hgrow (fun b hb => by have h1 := (HPar4.out.2.2.1.row.lt b hb).1; have := HLO.out.1; omega), hXk⟩
            have HQ : Hid (∃ F1, RdL enK (Yar5.setCell ⟨X, 0, none⟩ (.slice (some ⟨g4, 0, none⟩) (n + 1) cp4)) (some ⟨g4, 0, none⟩) (n + 1) (x.list ++ [e]) F1 ∧ Capd (some ⟨g4, 0, none⟩) (n + 1) cp4 ∧ Own (w.heap.size + 3) (Yar5.setCell ⟨X, 0, none⟩ (.slice (some ⟨g4, 0, none⟩) (n + 1) cp4)) F1 ∧ PuR w #[.slice a n c] es 26 33 (Yar5.setCell ⟨X, 0, none⟩ (.slice (some ⟨g4, 0, none⟩) (n + 1) cp4)) ∧ Blk (Yar5.setCell ⟨X, 0, none⟩ (.slice (some ⟨g4, 0, none⟩) (n + 1) cp4)) X #[(.slice (some ⟨g4, 0, none⟩) (n + 1) cp4)] 26) := by
              obtain ⟨q1, d1, F1, e1, rL, oL, hcp, hin⟩ := GS.done2 (by rw [List.length_append, HN.out]; rfl)
              injection e1 with e1 _ e3
              subst e1 e3
              have hnx : X ∉ F1 := fun hx => by
                rcases hin X hx with h1 | h1
                · have h2 : g4 = X := by simpa [Value.ownBlock] using h1
                  rcases hat with h3 | h3
                  · have := HLO.out.2.2.2.1 g4 h3; omega
                  · have := HPar4.out.2.1.lt; omega
                · rcases List.mem_append.1 h1 with h1 | h1
                  · have := HLO.out.2.2.1 X h1; omega
                  · have := RRar4.out.2.1.ge X h1; omega
              exact ⟨F1, rL.agree (.set hnx _ _), hcp, (oL.agree (.set hnx _ _)).mono HLO.out.1, HPar5.out.1.setCell HLO.out.2.1 _, HPar5.out.2.set 0 _⟩
            have co := HPar5.out.2.cell 0
            have fo := HPar5.out.2.frozen 0
            simp only [aT, aZ] at co
            refine ⟨_, by simp [Act.put]; rfl, hK _ _ ⟨⟨HPar5.out.1.en, HPar5.out.1.bel⟩, ?_⟩⟩
            clear hK hown hgrow hat GS hXk hx1
            refine takeH (o := ?o96) 6 (.pointer (some ⟨X, 0, none⟩)) ?h96 ?r96
            case h96 => simp only [aT, aS, aZ]; rfl
            refine ⟨_, by simp [Act.put]; rfl, by kernel_rfl, by kernel_rfl, by kernel_rfl, fun _ _ _ h => h, (.inl ⟨rfl, fun W _ => by kernel_rfl⟩), ⟨HPar5.out.1.en, HPar5.out.1.bel⟩, ?_⟩
            refine onlyH (o := ?o97) 7 (by kernel_rfl) ?h97 ?r97
            case h97 => simp only [aT, aS, aZ]; rfl
            intro K hK
            refine op_skip (Yar5.setCell ⟨X, 0, none⟩ (.slice (some ⟨g4, 0, none⟩) (n + 1) cp4)) rfl (by go_simp) ⟨_, by simp [Act.put]; rfl, hK _ _ ⟨⟨HQ.out.choose_spec.2.2.2.1.en, HQ.out.choose_spec.2.2.2.1.bel⟩, ?_⟩⟩
            clear hK co fo
            refine wpAnyH_done (by kernel_rfl) ?_ _
            obtain ⟨YZ, hYZ⟩ : ∃ Z, Z = (Yar5.setCell ⟨X, 0, none⟩ (.slice (some ⟨g4, 0, none⟩) (n + 1) cp4)) := ⟨_, rfl⟩
            rw [← hYZ] at HQ ⊢
            clear hYZ HPar5 HPar4
            obtain ⟨F1, rL, hcp, oL, hPu, hXb⟩ := HQ.out
            have HP9 : Hid (PuR w #[.slice a n c] es 26 33 YZ ∧ Blk YZ X #[(.slice (some ⟨g4, 0, none⟩) (n + 1) cp4)] 26 ∧ RdL enK YZ (some ⟨g4, 0, none⟩) (n + 1) (x.list ++ [e]) F1 ∧ Own (w.heap.size + 3) YZ F1 ∧ Capd (some ⟨g4, 0, none⟩) (n + 1) cp4) := ⟨hPu, hXb, rL, oL, hcp⟩
            clear rL hcp oL hPu hXb HQ
            go_wp2_with (first | go_skip | (with_reducible refine stopLoad 26 rfl ?_))
            refine load_any 26 X #[(.slice (some ⟨g4, 0, none⟩) (n + 1) cp4)] 26 _ HP9.out.2.1 rfl rfl rfl Tryz.underlying26 rfl (rwSize rfl) ?_
            go_wp2_with (first | go_skip | (with_reducible refine stopStore 26 rfl ?_))
            refine store_known 26 (w.heap.size + 1 + 1) _ #[(.slice (some ⟨g4, 0, none⟩) (n + 1) cp4)] 26 HP9.out.1.res rfl rfl rfl rfl (rwSize rfl) rfl (by simp [Value.oneCell']) ?_
            go_wp2
            refine bodyPost_ret (results_row_tmp Tryz.results9 _ _ (w.heap.size + 1 + 1) _ _ _ _ rfl HP9.out.1.res.setRow Tryz.underlying26 rfl (rwSize rfl)) rfl ?_
            rw [HV.out]
            have nr : w.heap.size + 1 + 1 ∉ F1 := fun hx => by have := HP9.out.2.2.2.1.ge _ hx; omega
            exact ⟨_, F1, rfl, ⟨_, _, _, rfl, HP9.out.2.2.1.agree (Agree.row nr _), HP9.out.2.2.2.2⟩, (HP9.out.2.2.2.1.agree (Agree.row nr _)).mono (by omega), below_setRow HP9.out.1.bel (by omega) _⟩
          case s92 =>
            intro K hK
            refine op_call1 41 _ _ Tryz.f41 (fun v w' => ∃ F, RdE w' v e F ∧ Own Y0.heap.size w' F ∧ Below Y0.heap.size Y0 w') rfl rfl Tryz.func41 (by kernel_rfl) (by kernel_rfl) ((l6Copy_en (.agg es) e G Y0 (HH.out.2.1.below HPd.out.1.bel) HH.out.2.2.2.1).mono (by rintro e w' ⟨v, F, rfl, k1, k2, k3⟩; exact ⟨_, rfl, F, k1, k2, k3⟩)) ?_
            rintro vr Yas3 ⟨Fr, rr, ro, rb⟩
            obtain ⟨ds, rfl, hd11, hd1⟩ := enK.cells (w := Yas3) rr
            have RRas3 : Hid (RdE Yas3 (.agg ds) e Fr ∧ Own (X + 1) Yas3 Fr ∧ ds.size = 10 ∧ ds.all (·.oneCell') = true) := ⟨rr, ro.mono HPd.out.2.1.lt, hd11, hd1⟩
            have HPas3 : Hid (PuR w #[.slice a n c] es 26 33 Yas3 ∧ Blk Yas3 X #[.slice q n kc] 26 ∧ GrowL enK 33 x.list lo n (.slice q n kc) vs GG Yas3 ∧ RdL enK Yas3 q n x.list FX ∧ Own (w.heap.size + 3) Yas3 FX) := ⟨HPd.out.1.below rb, HPd.out.2.1.below rb, HPd.out.2.2.1.below rb, HPd.out.2.2.2.1.below rb, HPd.out.2.2.2.2.below HPd.out.2.2.2.1.lt rb⟩
            refine ⟨_, by simp [Act.put]; rfl, hK _ _ ⟨⟨HPas3.out.1.en, HPas3.out.1.bel⟩, ?_⟩⟩
            clear hK rr ro rb hd11 hd1
            refine twoH (o := ?o98) (o' := ?p98) 1 4 (by kernel_rfl) ?h98 ?g98 ?r98 ?s98
            case h98 => simp only [aT, aS, aZ]; rfl
            case g98 => simp only [aT, aS, aZ]; rfl
            case r98 =>
              intro K hK
              have co := HPas3.out.2.1.cell 0
              simp only [aT, aZ] at co
              refine op_value (.slice q n kc) rfl (by go_simp) ⟨_, by simp [Act.put]; rfl, hK _ _ ⟨⟨HPas3.out.1.en, HPas3.out.1.bel⟩, ?_⟩⟩
              clear hK co
              refine onlyH (o := ?o99) 4 (by kernel_rfl) ?h99 ?r99
              case h99 => simp only [aT, aS, aZ]; rfl
              intro K hK
              have bl : Below Yas3.heap.size Yas3 (Yas3.alloc (.cells ds 33)) := (Below.refl _ _).alloc (Nat.le_refl _) _
              have HPasr4 : Hid (PuR w #[.slice a n c] es 26 33 (Yas3.alloc (.cells ds 33)) ∧ Blk (Yas3.alloc (.cells ds 33)) X #[.slice q n kc] 26 ∧ GrowL enK 33 x.list lo n (.slice q n kc) vs GG (Yas3.alloc (.cells ds 33)) ∧ RdL enK (Yas3.alloc (.cells ds 33)) q n x.list FX ∧ Own (w.heap.size + 3) (Yas3.alloc (.cells ds 33)) FX) := ⟨HPas3.out.1.below bl, HPas3.out.2.1.below bl, HPas3.out.2.2.1.below bl, HPas3.out.2.2.2.1.below bl, HPas3.out.2.2.2.2.below HPas3.out.2.2.2.1.lt bl⟩
              have RRasr4 : Hid (RdE (Yas3.alloc (.cells ds 33)) (.agg ds) e Fr ∧ Own (X + 1) (Yas3.alloc (.cells ds 33)) Fr ∧ ds.size = 10 ∧ ds.all (·.oneCell') = true) := ⟨RRas3.out.1.below bl, RRas3.out.2.1.below RRas3.out.1.lt bl, RRas3.out.2.2⟩
              have NWasr4 : Hid (∀ j u, ds.toList[j]? = some u → ((Yas3.alloc (.cells ds 33))).cell? ((⟨Yas3.heap.size, 0, none⟩ : Addr).add j) = some u) := news_lit _ _ _
              refine op_turn (.slice (some ⟨Yas3.heap.size, 0, none⟩) 1 1) (Yas3.alloc (.cells ds 33)) rfl (by obtain ⟨_, _, _, _, _, _, _, _, _, _, _, _, _, _, _, ev, _⟩ := RRasr4.out.1; injection ev with ev; rw [ev]; kernel_rfl) ⟨_, by simp [Act.put]; rfl, hK _ _ ⟨⟨HPasr4.out.1.en, HPasr4.out.1.bel⟩, ?_⟩⟩
              clear hK bl
              obtain ⟨Lasr4, hLasr4⟩ : ∃ z, z = Yas3.heap.size := ⟨_, rfl⟩
              obtain ⟨Yasr4, hYasr4⟩ : ∃ Z, Z = (Yas3.alloc (.cells ds 33)) := ⟨_, rfl⟩
              rw [← hYasr4, ← hLasr4] at NWasr4
              rw [← hYasr4] at HPasr4 RRasr4 ⊢
              rw [← hLasr4]
              clear hYasr4 hLasr4
              refine onlyH (o := ?o100) 5 (by kernel_rfl) ?h100 ?r100
              case h100 => simp only [aT, aS, aZ]; rfl
              intro K hK
              refine op_append Yasr4 rfl _ _ 24 rfl lo 33 j0 (.agg #[.int .i64 0, .int .i64 0, .slice none 0 0, .int .i64 0, .int .i64 0, .int .i64 0, .int .i64 0, .slice none 0 0, .slice none 0 0, .slice none 0 0]) 10 144 Tryz.underlying24 hj hy0 hy1 hy2 rfl (by decide) (.slice q n kc) n vs rfl HPasr4.out.2.2.1.row ⟨Lasr4, 0, none⟩ 1 1 ds.toList rfl (by rw [Array.length_toList, RRasr4.out.2.2.1]) NWasr4.out (fun u hu => (Array.all_eq_true_iff_forall_mem.1 RRasr4.out.2.2.2) u (by simpa using hu)) (by decide) (by unfold maxLen; omega) (by omega) HPasr4.out.2.2.1.lw _ rfl ?_
              intro g4 cp4 Yasr5 hown hgrow hat _
              have hx1 : (x.list ++ [e])[n]? = some e := by rw [List.getElem?_append_right (by rw [HN.out]; exact Nat.le_refl _), HN.out, Nat.sub_self]; rfl
              have GS := (HPasr4.out.2.2.1.longer (ys := x.list ++ [e]) (List.take_append_of_le_length (by rw [HN.out]; exact Nat.le_refl _))).step hx1 RRasr4.out.1 RRasr4.out.2.2.1 RRasr4.out.2.1 (fun b hb => by have := HLO.out.2.2.1 b hb; omega) (fun b hb => by have := HLO.out.2.2.2.1 b hb; omega) (by have := HLO.out.2.2.2.2; omega) hown hgrow hat
              have hXk : Blk Yasr5 X #[.slice q n kc] 26 := HPasr4.out.2.1.agree (hgrow.block X HPasr4.out.2.1.lt (fun e => by have := HLO.out.2.2.2.1 X e.symm; omega))
              have HPasr5 : Hid (PuR w #[.slice a n c] es 26 33 Yasr5 ∧ Blk Yasr5 X #[.slice q n kc] 26) := ⟨HPasr4.out.1.grown hgrow (fun b hb => by have h1 := (HPasr4.out.2.2.1.row.lt b hb).1; have := HLO.out.1; omega), hXk⟩
              have HQ : Hid (∃ F1, RdL enK (Yasr5.setCell ⟨X, 0, none⟩ (.slice (some ⟨g4, 0, none⟩) (n + 1) cp4)) (some ⟨g4, 0, none⟩) (n + 1) (x.list ++ [e]) F1 ∧ Capd (some ⟨g4, 0, none⟩) (n + 1) cp4 ∧ Own (w.heap.size + 3) (Yasr5.setCell ⟨X, 0, none⟩ (.slice (some ⟨g4, 0, none⟩) (n + 1) cp4)) F1 ∧ PuR w #[.slice a n c] es 26 33 (Yasr5.setCell ⟨X, 0, none⟩ (.slice (some ⟨g4, 0, none⟩) (n + 1) cp4)) ∧ Blk (Yasr5.setCell ⟨X, 0, none⟩ (.slice (some ⟨g4, 0, none⟩) (n + 1) cp4)) X #[(.slice (some ⟨g4, 0, none⟩) (n + 1) cp4)] 26) := by
                obtain ⟨q1, d1, F1, e1, rL, oL, hcp, hin⟩ := GS.done2 (by rw [List.length_append, HN.out]; rfl)
                injection e1 with e1 _ e3
                subst e1 e3
                have hnx : X ∉ F1 := fun hx => by
                  rcases hin X hx with h1 | h1
                  · have h2 : g4 = X := by simpa [Value.ownBlock] using h1
                    rcases hat with h3 | h3
                    · have := HLO.out.2.2.2.1 g4 h3; omega
                    · have := HPasr4.out.2.1.lt; omega
                  · rcases List.mem_append.1 h1 with h1 | h1
                    · have := HLO.out.2.2.1 X h1; omega
                    · have := RRasr4.out.2.1.ge X h1; omega
                exact ⟨F1, rL.agree (.set hnx _ _), hcp, (oL.agree (.set hnx _ _)).mono HLO.out.1, HPasr5.out.1.setCell HLO.out.2.1 _, HPasr5.out.2.set 0 _⟩
              have co := HPasr5.out.2.cell 0
              have fo := HPasr5.out.2.frozen 0
              simp only [aT, aZ] at co
              refine ⟨_, by simp [Act.put]; rfl, hK _ _ ⟨⟨HPasr5.out.1.en, HPasr5.out.1.bel⟩, ?_⟩⟩
              clear hK hown hgrow hat GS hXk hx1
              refine takeH (o := ?o101) 6 (.pointer (some ⟨X, 0, none⟩)) ?h101 ?r101
              case h101 => simp only [aT, aS, aZ]; rfl
              refine ⟨_, by simp [Act.put]; rfl, by kernel_rfl, by kernel_rfl, by kernel_rfl, fun _ _ _ h => h, (.inl ⟨rfl, fun W _ => by kernel_rfl⟩), ⟨HPasr5.out.1.en, HPasr5.out.1.bel⟩, ?_⟩
              refine onlyH (o := ?o102) 7 (by kernel_rfl) ?h102 ?r102
              case h102 => simp only [aT, aS, aZ]; rfl
              intro K hK
              refine op_skip (Yasr5.setCell ⟨X, 0, none⟩ (.slice (some ⟨g4, 0, none⟩) (n + 1) cp4)) rfl (by go_simp) ⟨_, by simp [Act.put]; rfl, hK _ _ ⟨⟨HQ.out.choose_spec.2.2.2.1.en, HQ.out.choose_spec.2.2.2.1.bel⟩, ?_⟩⟩
              clear hK co fo
              refine wpAnyH_done (by kernel_rfl) ?_ _
              obtain ⟨YZ, hYZ⟩ : ∃ Z, Z = (Yasr5.setCell ⟨X, 0, none⟩ (.slice (some ⟨g4, 0, none⟩) (n + 1) cp4)) := ⟨_, rfl⟩
              rw [← hYZ] at HQ ⊢
              clear hYZ HPasr5 HPasr4
              obtain ⟨F1, rL, hcp, oL, hPu, hXb⟩ := HQ.out
              have HP9 : Hid (PuR w #[.slice a n c] es 26 33 YZ ∧ Blk YZ X #[(.slice (some ⟨g4, 0, none⟩) (n + 1) cp4)] 26 ∧ RdL enK YZ (some ⟨g4, 0, none⟩) (n + 1) (x.list ++ [e]) F1 ∧ Own (w.heap.size + 3) YZ F1 ∧ Capd (some ⟨g4, 0, none⟩) (n + 1) cp4) := ⟨hPu, hXb, rL, oL, hcp⟩
              clear rL hcp oL hPu hXb HQ
              go_wp2_with (first | go_skip | (with_reducible refine stopLoad 26 rfl ?_))
              refine load_any 26 X #[(.slice (some ⟨g4, 0, none⟩) (n + 1) cp4)] 26 _ HP9.out.2.1 rfl rfl rfl Tryz.underlying26 rfl (rwSize rfl) ?_
              go_wp2_with (first | go_skip | (with_reducible refine stopStore 26 rfl ?_))
              refine store_known 26 (w.heap.size + 1 + 1) _ #[(.slice (some ⟨g4, 0, none⟩) (n + 1) cp4)] 26 HP9.out.1.res rfl rfl rfl rfl (rwSize rfl) rfl (by simp [Value.oneCell']) ?_
              go_wp2
              refine bodyPost_ret (results_row_tmp Tryz.results9 _ _ (w.heap.size + 1 + 1) _ _ _ _ rfl HP9.out.1.res.setRow Tryz.underlying26 rfl (rwSize rfl)) rfl ?_
              rw [HV.out]
              have nr : w.heap.size + 1 + 1 ∉ F1 := fun hx => by have := HP9.out.2.2.2.1.ge _ hx; omega
              exact ⟨_, F1, rfl, ⟨_, _, _, rfl, HP9.out.2.2.1.agree (Agree.row nr _), HP9.out.2.2.2.2⟩, (HP9.out.2.2.2.1.agree (Agree.row nr _)).mono (by omega), below_setRow HP9.out.1.bel (by omega) _⟩
            case s98 =>
              intro K hK
              have bl : Below Yas3.heap.size Yas3 (Yas3.alloc (.cells ds 33)) := (Below.refl _ _).alloc (Nat.le_refl _) _
              have HPass4 : Hid (PuR w #[.slice a n c] es 26 33 (Yas3.alloc (.cells ds 33)) ∧ Blk (Yas3.alloc (.cells ds 33)) X #[.slice q n kc] 26 ∧ GrowL enK 33 x.list lo n (.slice q n kc) vs GG (Yas3.alloc (.cells ds 33)) ∧ RdL enK (Yas3.alloc (.cells ds 33)) q n x.list FX ∧ Own (w.heap.size + 3) (Yas3.alloc (.cells ds 33)) FX) := ⟨HPas3.out.1.below bl, HPas3.out.2.1.below bl, HPas3.out.2.2.1.below bl, HPas3.out.2.2.2.1.below bl, HPas3.out.2.2.2.2.below HPas3.out.2.2.2.1.lt bl⟩
              have RRass4 : Hid (RdE (Yas3.alloc (.cells ds 33)) (.agg ds) e Fr ∧ Own (X + 1) (Yas3.alloc (.cells ds 33)) Fr ∧ ds.size = 10 ∧ ds.all (·.oneCell') = true) := ⟨RRas3.out.1.below bl, RRas3.out.2.1.below RRas3.out.1.lt bl, RRas3.out.2.2⟩
              have NWass4 : Hid (∀ j u, ds.toList[j]? = some u → ((Yas3.alloc (.cells ds 33))).cell? ((⟨Yas3.heap.size, 0, none⟩ : Addr).add j) = some u) := news_lit _ _ _
              refine op_turn (.slice (some ⟨Yas3.heap.size, 0, none⟩) 1 1) (Yas3.alloc (.cells ds 33)) rfl (by obtain ⟨_, _, _, _, _, _, _, _, _, _, _, _, _, _, _, ev, _⟩ := RRass4.out.1; injection ev with ev; rw [ev]; kernel_rfl) ⟨_, by simp [Act.put]; rfl, hK _ _ ⟨⟨HPass4.out.1.en, HPass4.out.1.bel⟩, ?_⟩⟩
              clear hK bl
              obtain ⟨Lass4, hLass4⟩ : ∃ z, z = Yas3.heap.size := ⟨_, rfl⟩
              obtain ⟨Yass4, hYass4⟩ : ∃ Z, Z = (Yas3.alloc (.cells ds 33)) := ⟨_, rfl⟩
              rw [← hYass4, ← hLass4] at NWass4
              rw [← hYass4] at HPass4 RRass4 ⊢
              rw [← hLass4]
              clear hYass4 hLass4
              refine onlyH (o := ?o103) 1 (by kernel_rfl) ?h103 ?r103
              case h103 => simp only [aT, aS, aZ]; rfl
              intro K hK
              have co := HPass4.out.2.1.cell 0
              simp only [aT, aZ] at co
              refine op_value (.slice q n kc) rfl (by go_simp) ⟨_, by simp [Act.put]; rfl, hK _ _ ⟨⟨HPass4.out.1.en, HPass4.out.1.bel⟩, ?_⟩⟩
              clear hK co
              refine onlyH (o := ?o104) 5 (by kernel_rfl) ?h104 ?r104
              case h104 => simp only [aT, aS, aZ]; rfl
              intro K hK
              refine op_append Yass4 rfl _ _ 24 rfl lo 33 j0 (.agg #[.int .i64 0, .int .i64 0, .slice none 0 0, .int .i64 0, .int .i64 0, .int .i64 0, .int .i64 0, .slice none 0 0, .slice none 0 0, .slice none 0 0]) 10 144 Tryz.underlying24 hj hy0 hy1 hy2 rfl (by decide) (.slice q n kc) n vs rfl HPass4.out.2.2.1.row ⟨Lass4, 0, none⟩ 1 1 ds.toList rfl (by rw [Array.length_toList, RRass4.out.2.2.1]) NWass4.out (fun u hu => (Array.all_eq_true_iff_forall_mem.1 RRass4.out.2.2.2) u (by simpa using hu)) (by decide) (by unfold maxLen; omega) (by omega) HPass4.out.2.2.1.lw _ rfl ?_
              intro g4 cp4 Yass5 hown hgrow hat _
              have hx1 : (x.list ++ [e])[n]? = some e := by rw [List.getElem?_append_right (by rw [HN.out]; exact Nat.le_refl _), HN.out, Nat.sub_self]; rfl
              have GS := (HPass4.out.2.2.1.longer (ys := x.list ++ [e]) (List.take_append_of_le_length (by rw [HN.out]; exact Nat.le_refl _))).step hx1 RRass4.out.1 RRass4.out.2.2.1 RRass4.out.2.1 (fun b hb => by have := HLO.out.2.2.1 b hb; omega) (fun b hb => by have := HLO.out.2.2.2.1 b hb; omega) (by have := HLO.out.2.2.2.2; omega) hown hgrow hat
              have hXk : Blk Yass5 X #[.slice q n kc] 26 := HPass4.out.2.1.agree (hgrow.block X HPass4.out.2.1.lt (fun e => by have := HLO.out.2.2.2.1 X e.symm; omega))
              have HPass5 : Hid (PuR w #[.slice a n c] es 26 33 Yass5 ∧ Blk Yass5 X #[.slice q n kc] 26) := ⟨HPass4.out.1.grown hgrow (fun b hb => by have h1 := (HPass4.out.2.2.1.row.lt b hb).1; have := HLO.out.1; omega), hXk⟩
              have HQ : Hid (∃ F1, RdL enK (Yass5.setCell ⟨X, 0, none⟩ (.slice (some ⟨g4, 0, none⟩) (n + 1) cp4)) (some ⟨g4, 0, none⟩) (n + 1) (x.list ++ [e]) F1 ∧ Capd (some ⟨g4, 0, none⟩) (n + 1) cp4 ∧ Own (w.heap.size + 3) (Yass5.setCell ⟨X, 0, none⟩ (.slice (some ⟨g4, 0, none⟩) (n + 1) cp4)) F1 ∧ PuR w #[.slice a n c] es 26 33 (Yass5.setCell ⟨X, 0, none⟩ (.slice (some ⟨g4, 0, none⟩) (n + 1) cp4)) ∧ Blk (Yass5.setCell ⟨X, 0, none⟩ (.slice (some ⟨g4, 0, none⟩) (n + 1) cp4)) X #[(.slice (some ⟨g4, 0, none⟩) (n + 1) cp4)] 26) := by
                obtain ⟨q1, d1, F1, e1, rL, oL, hcp, hin⟩ := GS.done2 (by rw [List.length_append, HN.out]; rfl)
                injection e1 with e1 _ e3
                subst e1 e3
                have hnx : X ∉ F1 := fun hx => by
                  rcases hin X hx with h1 | h1
                  · have h2 : g4 = X := by simpa [Value.ownBlock] using h1
                    rcases hat with h3 | h3
                    · have := HLO.out.2.2.2.1 g4 h3; omega
                    · have := HPass4.out.2.1.lt; omega
                  · rcases List.mem_append.1 h1 with h1 | h1
                    · have := HLO.out.2.2.1 X h1; omega
                    · have := RRass4.out.2.1.ge X h1; omega
                exact ⟨F1, rL.agree (.set hnx _ _), hcp, (oL.agree (.set hnx _ _)).mono HLO.out.1, HPass5.out.1.setCell HLO.out.2.1 _, HPass5.out.2.set 0 _⟩
              have co := HPass5.out.2.cell 0
              have fo := HPass5.out.2.frozen 0
              simp only [aT, aZ] at co
              refine ⟨_, by simp [Act.put]; rfl, hK _ _ ⟨⟨HPass5.out.1.en, HPass5.out.1.bel⟩, ?_⟩⟩
              clear hK hown hgrow hat GS hXk hx1
              refine takeH (o := ?o105) 6 (.pointer (some ⟨X, 0, none⟩)) ?h105 ?r105
              case h105 => simp only [aT, aS, aZ]; rfl
              refine ⟨_, by simp [Act.put]; rfl, by kernel_rfl, by kernel_rfl, by kernel_rfl, fun _ _ _ h => h, (.inl ⟨rfl, fun W _ => by kernel_rfl⟩), ⟨HPass5.out.1.en, HPass5.out.1.bel⟩, ?_⟩
              refine onlyH (o := ?o106) 7 (by kernel_rfl) ?h106 ?r106
              case h106 => simp only [aT, aS, aZ]; rfl
              intro K hK
              refine op_skip (Yass5.setCell ⟨X, 0, none⟩ (.slice (some ⟨g4, 0, none⟩) (n + 1) cp4)) rfl (by go_simp) ⟨_, by simp [Act.put]; rfl, hK _ _ ⟨⟨HQ.out.choose_spec.2.2.2.1.en, HQ.out.choose_spec.2.2.2.1.bel⟩, ?_⟩⟩
              clear hK co fo
              refine wpAnyH_done (by kernel_rfl) ?_ _
              obtain ⟨YZ, hYZ⟩ : ∃ Z, Z = (Yass5.setCell ⟨X, 0, none⟩ (.slice (some ⟨g4, 0, none⟩) (n + 1) cp4)) := ⟨_, rfl⟩
              rw [← hYZ] at HQ ⊢
              clear hYZ HPass5 HPass4
              obtain ⟨F1, rL, hcp, oL, hPu, hXb⟩ := HQ.out
              have HP9 : Hid (PuR w #[.slice a n c] es 26 33 YZ ∧ Blk YZ X #[(.slice (some ⟨g4, 0, none⟩) (n + 1) cp4)] 26 ∧ RdL enK YZ (some ⟨g4, 0, none⟩) (n + 1) (x.list ++ [e]) F1 ∧ Own (w.heap.size + 3) YZ F1 ∧ Capd (some ⟨g4, 0, none⟩) (n + 1) cp4) := ⟨hPu, hXb, rL, oL, hcp⟩
              clear rL hcp oL hPu hXb HQ
              go_wp2_with (first | go_skip | (with_reducible refine stopLoad 26 rfl ?_))
              refine load_any 26 X #[(.slice (some ⟨g4, 0, none⟩) (n + 1) cp4)] 26 _ HP9.out.2.1 rfl rfl rfl Tryz.underlying26 rfl (rwSize rfl) ?_
              go_wp2_with (first | go_skip | (with_reducible refine stopStore 26 rfl ?_))
              refine store_known 26 (w.heap.size + 1 + 1) _ #[(.slice (some ⟨g4, 0, none⟩) (n + 1) cp4)] 26 HP9.out.1.res rfl rfl rfl rfl (rwSize rfl) rfl (by simp [Value.oneCell']) ?_
              go_wp2
              refine bodyPost_ret (results_row_tmp Tryz.results9 _ _ (w.heap.size + 1 + 1) _ _ _ _ rfl HP9.out.1.res.setRow Tryz.underlying26 rfl (rwSize rfl)) rfl ?_
              rw [HV.out]
              have nr : w.heap.size + 1 + 1 ∉ F1 := fun hx => by have := HP9.out.2.2.2.1.ge _ hx; omega
              exact ⟨_, F1, rfl, ⟨_, _, _, rfl, HP9.out.2.2.1.agree (Agree.row nr _), HP9.out.2.2.2.2⟩, (HP9.out.2.2.2.1.agree (Agree.row nr _)).mono (by omega), below_setRow HP9.out.1.bel (by omega) _⟩

        · have hI : ¬ (k : Int) < (n : Int) := by omega
          clear hno
          go_wp2_with fail
          clear cX cB
          have HPd : Hid (PuR w #[.slice a n c] es 26 33 wr.drew ∧ Blk wr.drew X #[.slice q n kc] 26 ∧ GrowL enK 33 x.list lo n (.slice q n kc) vs GG wr.drew ∧ RdL enK wr.drew q n x.list FX ∧ Own (w.heap.size + 3) wr.drew FX) := ⟨HP2.out.1.below (Below.refl _ _).drew, HP2.out.2.1.below (Below.refl _ _).drew, HP2.out.2.2.1.below (Below.refl _ _).drew, HP2.out.2.2.2.1.below (Below.refl _ _).drew, HP2.out.2.2.2.2.below HP2.out.2.2.2.1.lt (Below.refl _ _).drew⟩
          obtain ⟨Y0, hY0⟩ : ∃ Y, Y = wr.drew := ⟨_, rfl⟩
          rw [← hY0] at HPd
          clear HP2
          refine wp_region_held (S := fun W => Blk W (w.heap.size + 1) es 33 ∧ Below w.heap.size w W) (by kernel_rfl) ?_
          change wpAnyH _ _ _ _ _ _ _ _ (World.drew _)
          rw [← hY0]
          clear hY0
          refine takeH (o := ?o107) 0 (.pointer (some ⟨X, 0, none⟩)) ?h107 ?r107
          case h107 => simp only [aT, aZ]; rfl
          refine ⟨_, by simp [Act.put]; rfl, by kernel_rfl, by kernel_rfl, by kernel_rfl, fun _ _ _ h => h, (.inl ⟨rfl, fun W _ => by kernel_rfl⟩), ⟨HPd.out.1.en, HPd.out.1.bel⟩, ?_⟩
          refine takeH (o := ?o108) 2 (.agg es) ?h108 ?r108
          case h108 => simp only [aT, aS, aZ]; rfl
          refine ⟨_, by simp [Act.put]; rfl, by kernel_rfl, by kernel_rfl, by kernel_rfl, fun _ _ _ h => h, (yields_at 33 (w.heap.size + 1) 0 10 es _ rfl rfl rfl Tryz.underlying33 rfl infoEnG2 HE.out.1 (fun W hW j _ => by rw [Nat.zero_add]; exact hW.1.cell j)), ⟨HPd.out.1.en, HPd.out.1.bel⟩, ?_⟩
          refine twoH (o := ?o109) (o' := ?p109) 1 3 (by kernel_rfl) ?h109 ?g109 ?r109 ?s109
          case h109 => simp only [aT, aS, aZ]; rfl
          case g109 => simp only [aT, aS, aZ]; rfl
          case r109 =>
            intro K hK
            have co := HPd.out.2.1.cell 0
            simp only [aT, aZ] at co
            refine op_value (.slice q n kc) rfl (by go_simp) ⟨_, by simp [Act.put]; rfl, hK _ _ ⟨⟨HPd.out.1.en, HPd.out.1.bel⟩, ?_⟩⟩
            clear hK co
            refine onlyH (o := ?o110) 3 (by kernel_rfl) ?h110 ?r110
            case h110 => simp only [aT, aS, aZ]; rfl
            intro K hK
            refine op_call1 41 _ _ Tryz.f41 (fun v w' => ∃ F, RdE w' v e F ∧ Own Y0.heap.size w' F ∧ Below Y0.heap.size Y0 w') rfl rfl Tryz.func41 (by kernel_rfl) (by kernel_rfl) ((l6Copy_en (.agg es) e G Y0 (HH.out.2.1.below HPd.out.1.bel) HH.out.2.2.2.1).mono (by rintro e w' ⟨v, F, rfl, k1, k2, k3⟩; exact ⟨_, rfl, F, k1, k2, k3⟩)) ?_
            rintro vr Yar3 ⟨Fr, rr, ro, rb⟩
            obtain ⟨ds, rfl, hd11, hd1⟩ := enK.cells (w := Yar3) rr
            have RRar3 : Hid (RdE Yar3 (.agg ds) e Fr ∧ Own (X + 1) Yar3 Fr ∧ ds.size = 10 ∧ ds.all (·.oneCell') = true) := ⟨rr, ro.mono HPd.out.2.1.lt, hd11, hd1⟩
            have HPar3 : Hid (PuR w #[.slice a n c] es 26 33 Yar3 ∧ Blk Yar3 X #[.slice q n kc] 26 ∧ GrowL enK 33 x.list lo n (.slice q n kc) vs GG Yar3 ∧ RdL enK Yar3 q n x.list FX ∧ Own (w.heap.size + 3) Yar3 FX) := ⟨HPd.out.1.below rb, HPd.out.2.1.below rb, HPd.out.2.2.1.below rb, HPd.out.2.2.2.1.below rb, HPd.out.2.2.2.2.below HPd.out.2.2.2.1.lt rb⟩
            refine ⟨_, by simp [Act.put]; rfl, hK _ _ ⟨⟨HPar3.out.1.en, HPar3.out.1.bel⟩, ?_⟩⟩
            clear hK rr ro rb hd11 hd1
            refine onlyH (o := ?o111) 4 (by kernel_rfl) ?h111 ?r111
            case h111 => simp only [aT, aS, aZ]; rfl
            intro K hK
            have bl : Below Yar3.heap.size Yar3 (Yar3.alloc (.cells ds 33)) := (Below.refl _ _).alloc (Nat.le_refl _) _
            have HPar4 : Hid (PuR w #[.slice a n c] es 26 33 (Yar3.alloc (.cells ds 33)) ∧ Blk (Yar3.alloc (.cells ds 33)) X #[.slice q n kc] 26 ∧ GrowL enK 33 x.list lo n (.slice q n kc) vs GG (Yar3.alloc (.cells ds 33)) ∧ RdL enK (Yar3.alloc (.cells ds 33)) q n x.list FX ∧ Own (w.heap.size + 3) (Yar3.alloc (.cells ds 33)) FX) := ⟨HPar3.out.1.below bl, HPar3.out.2.1.below bl, HPar3.out.2.2.1.below bl, HPar3.out.2.2.2.1.below bl, HPar3.out.2.2.2.2.below HPar3.out.2.2.2.1.lt bl⟩
            have RRar4 : Hid (RdE (Yar3.alloc (.cells ds 33)) (.agg ds) e Fr ∧ Own (X + 1) (Yar3.alloc (.cells ds 33)) Fr ∧ ds.size = 10 ∧ ds.all (·.oneCell') = true) := ⟨RRar3.out.1.below bl, RRar3.out.2.1.below RRar3.out.1.lt bl, RRar3.out.2.2⟩
            have NWar4 : Hid (∀ j u, ds.toList[j]? = some u → ((Yar3.alloc (.cells ds 33))).cell? ((⟨Yar3.heap.size, 0, none⟩ : Addr).add j) = some u) := news_lit _ _ _
            refine op_turn (.slice (some ⟨Yar3.heap.size, 0, none⟩) 1 1) (Yar3.alloc (.cells ds 33)) rfl (by obtain ⟨_, _, _, _, _, _, _, _, _, _, _, _, _, _, _, ev, _⟩ := RRar4.out.1; injection ev with ev; rw [ev]; kernel_rfl) ⟨_, by simp [Act.put]; rfl, hK _ _ ⟨⟨HPar4.out.1.en, HPar4.out.1.bel⟩, ?_⟩⟩
            clear hK bl
            obtain ⟨Lar4, hLar4⟩ : ∃ z, z = Yar3.heap.size := ⟨_, rfl⟩
            obtain ⟨Yar4, hYar4⟩ : ∃ Z, Z = (Yar3.alloc (.cells ds 33)) := ⟨_, rfl⟩
            rw [← hYar4, ← hLar4] at NWar4
            rw [← hYar4] at HPar4 RRar4 ⊢
            rw [← hLar4]
            clear hYar4 hLar4
            refine onlyH (o := ?o112) 5 (by kernel_rfl) ?h112 ?r112
            case h112 => simp only [aT, aS, aZ]; rfl
            intro K hK
            refine op_append Yar4 rfl _ _ 24 rfl lo 33 j0 (.agg #[.int .i64 0, .int .i64 0, .slice none 0 0, .int .i64 0, .int .i64 0, .int .i64 0, .int .i64 0, .slice none 0 0, .slice none 0 0, .slice none 0 0]) 10 144 Tryz.underlying24 hj hy0 hy1 hy2 rfl (by decide) (.slice q n kc) n vs rfl HPar4.out.2.2.1.row ⟨Lar4, 0, none⟩ 1 1 ds.toList rfl (by rw [Array.length_toList, RRar4.out.2.2.1]) NWar4.out (fun u hu => (Array.all_eq_true_iff_forall_mem.1 RRar4.out.2.2.2) u (by simpa using hu)) (by decide) (by unfold maxLen; omega) (by omega) HPar4.out.2.2.1.lw _ rfl ?_
            intro g4 cp4 Yar5 hown hgrow hat _
            have hx1 : (x.list ++ [e])[n]? = some e := by rw [List.getElem?_append_right (by rw [HN.out]; exact Nat.le_refl _), HN.out, Nat.sub_self]; rfl
            have GS := (HPar4.out.2.2.1.longer (ys := x.list ++ [e]) (List.take_append_of_le_length (by rw [HN.out]; exact Nat.le_refl _))).step hx1 RRar4.out.1 RRar4.out.2.2.1 RRar4.out.2.1 (fun b hb => by have := HLO.out.2.2.1 b hb; omega) (fun b hb => by have := HLO.out.2.2.2.1 b hb; omega) (by have := HLO.out.2.2.2.2; omega) hown hgrow hat
            have hXk : Blk Yar5 X #[.slice q n kc] 26 := HPar4.out.2.1.agree (hgrow.block X HPar4.out.2.1.lt (fun e => by have := HLO.out.2.2.2.1 X e.symm; omega))
            have HPar5 : Hid (PuR w #[.slice a n c] es 26 33 Yar5 ∧ Blk Yar5 X #[.slice q n kc] 26) := ⟨HPar4.out.1.grown hgrow (fun b hb => by have h1 := (HPar4.out.2.2.1.row.lt b hb).1; have := HLO.out.1; omega), hXk⟩
            have HQ : Hid (∃ F1, RdL enK (Yar5.setCell ⟨X, 0, none⟩ (.slice (some ⟨g4, 0, none⟩) (n + 1) cp4)) (some ⟨g4, 0, none⟩) (n + 1) (x.list ++ [e]) F1 ∧ Capd (some ⟨g4, 0, none⟩) (n + 1) cp4 ∧ Own (w.heap.size + 3) (Yar5.setCell ⟨X, 0, none⟩ (.slice (some ⟨g4, 0, none⟩) (n + 1) cp4)) F1 ∧ PuR w #[.slice a n c] es 26 33 (Yar5.setCell ⟨X, 0, none⟩ (.slice (some ⟨g4, 0, none⟩) (n + 1) cp4)) ∧ Blk (Yar5.setCell ⟨X, 0, none⟩ (.slice (some ⟨g4, 0, none⟩) (n + 1) cp4)) X #[(.slice (some ⟨g4, 0, none⟩) (n + 1) cp4)] 26) := by
              obtain ⟨q1, d1, F1, e1, rL, oL, hcp, hin⟩ := GS.done2 (by rw [List.length_append, HN.out]; rfl)
              injection e1 with e1 _ e3
              subst e1 e3
              have hnx : X ∉ F1 := fun hx => by
                rcases hin X hx with h1 | h1
                · have h2 : g4 = X := by simpa [Value.ownBlock] using h1
                  rcases hat with h3 | h3
                  · have := HLO.out.2.2.2.1 g4 h3; omega
                  · have := HPar4.out.2.1.lt; omega
                · rcases List.mem_append.1 h1 with h1 | h1
                  · have := HLO.out.2.2.1 X h1; omega
                  · have := RRar4.out.2.1.ge X h1; omega
              exact ⟨F1, rL.agree (.set hnx _ _), hcp, (oL.agree (.set hnx _ _)).mono HLO.out.1, HPar5.out.1.setCell HLO.out.2.1 _, HPar5.out.2.set 0 _⟩
            have co := HPar5.out.2.cell 0
            have fo := HPar5.out.2.frozen 0
            simp only [aT, aZ] at co
            refine ⟨_, by simp [Act.put]; rfl, hK _ _ ⟨⟨HPar5.out.1.en, HPar5.out.1.bel⟩, ?_⟩⟩
            clear hK hown hgrow hat GS hXk hx1
            refine takeH (o := ?o113) 6 (.pointer (some ⟨X, 0, none⟩)) ?h113 ?r113
            case h113 => simp only [aT, aS, aZ]; rfl
            refine ⟨_, by simp [Act.put]; rfl, by kernel_rfl, by kernel_rfl, by kernel_rfl, fun _ _ _ h => h, (.inl ⟨rfl, fun W _ => by kernel_rfl⟩), ⟨HPar5.out.1.en, HPar5.out.1.bel⟩, ?_⟩
            refine onlyH (o := ?o114) 7 (by kernel_rfl) ?h114 ?r114
            case h114 => simp only [aT, aS, aZ]; rfl
            intro K hK
            refine op_skip (Yar5.setCell ⟨X, 0, none⟩ (.slice (some ⟨g4, 0, none⟩) (n + 1) cp4)) rfl (by go_simp) ⟨_, by simp [Act.put]; rfl, hK _ _ ⟨⟨HQ.out.choose_spec.2.2.2.1.en, HQ.out.choose_spec.2.2.2.1.bel⟩, ?_⟩⟩
            clear hK co fo
            refine wpAnyH_done (by kernel_rfl) ?_ _
            obtain ⟨YZ, hYZ⟩ : ∃ Z, Z = (Yar5.setCell ⟨X, 0, none⟩ (.slice (some ⟨g4, 0, none⟩) (n + 1) cp4)) := ⟨_, rfl⟩
            rw [← hYZ] at HQ ⊢
            clear hYZ HPar5 HPar4
            obtain ⟨F1, rL, hcp, oL, hPu, hXb⟩ := HQ.out
            have HP9 : Hid (PuR w #[.slice a n c] es 26 33 YZ ∧ Blk YZ X #[(.slice (some ⟨g4, 0, none⟩) (n + 1) cp4)] 26 ∧ RdL enK YZ (some ⟨g4, 0, none⟩) (n + 1) (x.list ++ [e]) F1 ∧ Own (w.heap.size + 3) YZ F1 ∧ Capd (some ⟨g4, 0, none⟩) (n + 1) cp4) := ⟨hPu, hXb, rL, oL, hcp⟩
            clear rL hcp oL hPu hXb HQ
            go_wp2_with (first | go_skip | (with_reducible refine stopLoad 26 rfl ?_))
            refine load_any 26 X #[(.slice (some ⟨g4, 0, none⟩) (n + 1) cp4)] 26 _ HP9.out.2.1 rfl rfl rfl Tryz.underlying26 rfl (rwSize rfl) ?_
            go_wp2_with (first | go_skip | (with_reducible refine stopStore 26 rfl ?_))
            refine store_known 26 (w.heap.size + 1 + 1) _ #[(.slice (some ⟨g4, 0, none⟩) (n + 1) cp4)] 26 HP9.out.1.res rfl rfl rfl rfl (rwSize rfl) rfl (by simp [Value.oneCell']) ?_
            go_wp2
            refine bodyPost_ret (results_row_tmp Tryz.results9 _ _ (w.heap.size + 1 + 1) _ _ _ _ rfl HP9.out.1.res.setRow Tryz.underlying26 rfl (rwSize rfl)) rfl ?_
            rw [HV.out]
            have nr : w.heap.size + 1 + 1 ∉ F1 := fun hx => by have := HP9.out.2.2.2.1.ge _ hx; omega
            exact ⟨_, F1, rfl, ⟨_, _, _, rfl, HP9.out.2.2.1.agree (Agree.row nr _), HP9.out.2.2.2.2⟩, (HP9.out.2.2.2.1.agree (Agree.row nr _)).mono (by omega), below_setRow HP9.out.1.bel (by omega) _⟩
          case s109 =>
            intro K hK
            refine op_call1 41 _ _ Tryz.f41 (fun v w' => ∃ F, RdE w' v e F ∧ Own Y0.heap.size w' F ∧ Below Y0.heap.size Y0 w') rfl rfl Tryz.func41 (by kernel_rfl) (by kernel_rfl) ((l6Copy_en (.agg es) e G Y0 (HH.out.2.1.below HPd.out.1.bel) HH.out.2.2.2.1).mono (by rintro e w' ⟨v, F, rfl, k1, k2, k3⟩; exact ⟨_, rfl, F, k1, k2, k3⟩)) ?_
            rintro vr Yas3 ⟨Fr, rr, ro, rb⟩
            obtain ⟨ds, rfl, hd11, hd1⟩ := enK.cells (w := Yas3) rr
            have RRas3 : Hid (RdE Yas3 (.agg ds) e Fr ∧ Own (X + 1) Yas3 Fr ∧ ds.size = 10 ∧ ds.all (·.oneCell') = true) := ⟨rr, ro.mono HPd.out.2.1.lt, hd11, hd1⟩
            have HPas3 : Hid (PuR w #[.slice a n c] es 26 33 Yas3 ∧ Blk Yas3 X #[.slice q n kc] 26 ∧ GrowL enK 33 x.list lo n (.slice q n kc) vs GG Yas3 ∧ RdL enK Yas3 q n x.list FX ∧ Own (w.heap.size + 3) Yas3 FX) := ⟨HPd.out.1.below rb, HPd.out.2.1.below rb, HPd.out.2.2.1.below rb, HPd.out.2.2.2.1.below rb, HPd.out.2.2.2.2.below HPd.out.2.2.2.1.lt rb⟩
            refine ⟨_, by simp [Act.put]; rfl, hK _ _ ⟨⟨HPas3.out.1.en, HPas3.out.1.bel⟩, ?_⟩⟩
            clear hK rr ro rb hd11 hd1
            refine twoH (o := ?o115) (o' := ?p115) 1 4 (by kernel_rfl) ?h115 ?g115 ?r115 ?s115
            case h115 => simp only [aT, aS, aZ]; rfl
            case g115 => simp only [aT, aS, aZ]; rfl
            case r115 =>
              intro K hK
              have co := HPas3.out.2.1.cell 0
              simp only [aT, aZ] at co
              refine op_value (.slice q n kc) rfl (by go_simp) ⟨_, by simp [Act.put]; rfl, hK _ _ ⟨⟨HPas3.out.1.en, HPas3.out.1.bel⟩, ?_⟩⟩
              clear hK co
              refine onlyH (o := ?o116) 4 (by kernel_rfl) ?h116 ?r116
              case h116 => simp only [aT, aS, aZ]; rfl
              intro K hK
              have bl : Below Yas3.heap.size Yas3 (Yas3.alloc (.cells ds 33)) := (Below.refl _ _).alloc (Nat.le_refl _) _
              have HPasr4 : Hid (PuR w #[.slice a n c] es 26 33 (Yas3.alloc (.cells ds 33)) ∧ Blk (Yas3.alloc (.cells ds 33)) X #[.slice q n kc] 26 ∧ GrowL enK 33 x.list lo n (.slice q n kc) vs GG (Yas3.alloc (.cells ds 33)) ∧ RdL enK (Yas3.alloc (.cells ds 33)) q n x.list FX ∧ Own (w.heap.size + 3) (Yas3.alloc (.cells ds 33)) FX) := ⟨HPas3.out.1.below bl, HPas3.out.2.1.below bl, HPas3.out.2.2.1.below bl, HPas3.out.2.2.2.1.below bl, HPas3.out.2.2.2.2.below HPas3.out.2.2.2.1.lt bl⟩
              have RRasr4 : Hid (RdE (Yas3.alloc (.cells ds 33)) (.agg ds) e Fr ∧ Own (X + 1) (Yas3.alloc (.cells ds 33)) Fr ∧ ds.size = 10 ∧ ds.all (·.oneCell') = true) := ⟨RRas3.out.1.below bl, RRas3.out.2.1.below RRas3.out.1.lt bl, RRas3.out.2.2⟩
              have NWasr4 : Hid (∀ j u, ds.toList[j]? = some u → ((Yas3.alloc (.cells ds 33))).cell? ((⟨Yas3.heap.size, 0, none⟩ : Addr).add j) = some u) := news_lit _ _ _
              refine op_turn (.slice (some ⟨Yas3.heap.size, 0, none⟩) 1 1) (Yas3.alloc (.cells ds 33)) rfl (by obtain ⟨_, _, _, _, _, _, _, _, _, _, _, _, _, _, _, ev, _⟩ := RRasr4.out.1; injection ev with ev; rw [ev]; kernel_rfl) ⟨_, by simp [Act.put]; rfl, hK _ _ ⟨⟨HPasr4.out.1.en, HPasr4.out.1.bel⟩, ?_⟩⟩
              clear hK bl
              obtain ⟨Lasr4, hLasr4⟩ : ∃ z, z = Yas3.heap.size := ⟨_, rfl⟩
              obtain ⟨Yasr4, hYasr4⟩ : ∃ Z, Z = (Yas3.alloc (.cells ds 33)) := ⟨_, rfl⟩
              rw [← hYasr4, ← hLasr4] at NWasr4
              rw [← hYasr4] at HPasr4 RRasr4 ⊢
              rw [← hLasr4]
              clear hYasr4 hLasr4
              refine onlyH (o := ?o117) 5 (by kernel_rfl) ?h117 ?r117
              case h117 => simp only [aT, aS, aZ]; rfl
              intro K hK
              refine op_append Yasr4 rfl _ _ 24 rfl lo 33 j0 (.agg #[.int .i64 0, .int .i64 0, .slice none 0 0, .int .i64 0, .int .i64 0, .int .i64 0, .int .i64 0, .slice none 0 0, .slice none 0 0, .slice none 0 0]) 10 144 Tryz.underlying24 hj hy0 hy1 hy2 rfl (by decide) (.slice q n kc) n vs rfl HPasr4.out.2.2.1.row ⟨Lasr4, 0, none⟩ 1 1 ds.toList rfl (by rw [Array.length_toList, RRasr4.out.2.2.1]) NWasr4.out (fun u hu => (Array.all_eq_true_iff_forall_mem.1 RRasr4.out.2.2.2) u (by simpa using hu)) (by decide) (by unfold maxLen; omega) (by omega) HPasr4.out.2.2.1.lw _ rfl ?_
              intro g4 cp4 Yasr5 hown hgrow hat _
              have hx1 : (x.list ++ [e])[n]? = some e := by rw [List.getElem?_append_right (by rw [HN.out]; exact Nat.le_refl _), HN.out, Nat.sub_self]; rfl
              have GS := (HPasr4.out.2.2.1.longer (ys := x.list ++ [e]) (List.take_append_of_le_length (by rw [HN.out]; exact Nat.le_refl _))).step hx1 RRasr4.out.1 RRasr4.out.2.2.1 RRasr4.out.2.1 (fun b hb => by have := HLO.out.2.2.1 b hb; omega) (fun b hb => by have := HLO.out.2.2.2.1 b hb; omega) (by have := HLO.out.2.2.2.2; omega) hown hgrow hat
              have hXk : Blk Yasr5 X #[.slice q n kc] 26 := HPasr4.out.2.1.agree (hgrow.block X HPasr4.out.2.1.lt (fun e => by have := HLO.out.2.2.2.1 X e.symm; omega))
              have HPasr5 : Hid (PuR w #[.slice a n c] es 26 33 Yasr5 ∧ Blk Yasr5 X #[.slice q n kc] 26) := ⟨HPasr4.out.1.grown hgrow (fun b hb => by have h1 := (HPasr4.out.2.2.1.row.lt b hb).1; have := HLO.out.1; omega), hXk⟩
              have HQ : Hid (∃ F1, RdL enK (Yasr5.setCell ⟨X, 0, none⟩ (.slice (some ⟨g4, 0, none⟩) (n + 1) cp4)) (some ⟨g4, 0, none⟩) (n + 1) (x.list ++ [e]) F1 ∧ Capd (some ⟨g4, 0, none⟩) (n + 1) cp4 ∧ Own (w.heap.size + 3) (Yasr5.setCell ⟨X, 0, none⟩ (.slice (some ⟨g4, 0, none⟩) (n + 1) cp4)) F1 ∧ PuR w #[.slice a n c] es 26 33 (Yasr5.setCell ⟨X, 0, none⟩ (.slice (some ⟨g4, 0, none⟩) (n + 1) cp4)) ∧ Blk (Yasr5.setCell ⟨X, 0, none⟩ (.slice (some ⟨g4, 0, none⟩) (n + 1) cp4)) X #[(.slice (some ⟨g4, 0, none⟩) (n + 1) cp4)] 26) := by
                obtain ⟨q1, d1, F1, e1, rL, oL, hcp, hin⟩ := GS.done2 (by rw [List.length_append, HN.out]; rfl)
                injection e1 with e1 _ e3
                subst e1 e3
                have hnx : X ∉ F1 := fun hx => by
                  rcases hin X hx with h1 | h1
                  · have h2 : g4 = X := by simpa [Value.ownBlock] using h1
                    rcases hat with h3 | h3
                    · have := HLO.out.2.2.2.1 g4 h3; omega
                    · have := HPasr4.out.2.1.lt; omega
                  · rcases List.mem_append.1 h1 with h1 | h1
                    · have := HLO.out.2.2.1 X h1; omega
                    · have := RRasr4.out.2.1.ge X h1; omega
                exact ⟨F1, rL.agree (.set hnx _ _), hcp, (oL.agree (.set hnx _ _)).mono HLO.out.1, HPasr5.out.1.setCell HLO.out.2.1 _, HPasr5.out.2.set 0 _⟩
              have co := HPasr5.out.2.cell 0
              have fo := HPasr5.out.2.frozen 0
              simp only [aT, aZ] at co
              refine ⟨_, by simp [Act.put]; rfl, hK _ _ ⟨⟨HPasr5.out.1.en, HPasr5.out.1.bel⟩, ?_⟩⟩
              clear hK hown hgrow hat GS hXk hx1
              refine takeH (o := ?o118) 6 (.pointer (some ⟨X, 0, none⟩)) ?h118 ?r118
              case h118 => simp only [aT, aS, aZ]; rfl
              refine ⟨_, by simp [Act.put]; rfl, by kernel_rfl, by kernel_rfl, by kernel_rfl, fun _ _ _ h => h, (.inl ⟨rfl, fun W _ => by kernel_rfl⟩), ⟨HPasr5.out.1.en, HPasr5.out.1.bel⟩, ?_⟩
              refine onlyH (o := ?o119) 7 (by kernel_rfl) ?h119 ?r119
              case h119 => simp only [aT, aS, aZ]; rfl
              intro K hK
              refine op_skip (Yasr5.setCell ⟨X, 0, none⟩ (.slice (some ⟨g4, 0, none⟩) (n + 1) cp4)) rfl (by go_simp) ⟨_, by simp [Act.put]; rfl, hK _ _ ⟨⟨HQ.out.choose_spec.2.2.2.1.en, HQ.out.choose_spec.2.2.2.1.bel⟩, ?_⟩⟩
              clear hK co fo
              refine wpAnyH_done (by kernel_rfl) ?_ _
              obtain ⟨YZ, hYZ⟩ : ∃ Z, Z = (Yasr5.setCell ⟨X, 0, none⟩ (.slice (some ⟨g4, 0, none⟩) (n + 1) cp4)) := ⟨_, rfl⟩
              rw [← hYZ] at HQ ⊢
              clear hYZ HPasr5 HPasr4
              obtain ⟨F1, rL, hcp, oL, hPu, hXb⟩ := HQ.out
              have HP9 : Hid (PuR w #[.slice a n c] es 26 33 YZ ∧ Blk YZ X #[(.slice (some ⟨g4, 0, none⟩) (n + 1) cp4)] 26 ∧ RdL enK YZ (some ⟨g4, 0, none⟩) (n + 1) (x.list ++ [e]) F1 ∧ Own (w.heap.size + 3) YZ F1 ∧ Capd (some ⟨g4, 0, none⟩) (n + 1) cp4) := ⟨hPu, hXb, rL, oL, hcp⟩
              clear rL hcp oL hPu hXb HQ
              go_wp2_with (first | go_skip | (with_reducible refine stopLoad 26 rfl ?_))
              refine load_any 26 X #[(.slice (some ⟨g4, 0, none⟩) (n + 1) cp4)] 26 _ HP9.out.2.1 rfl rfl rfl Tryz.underlying26 rfl (rwSize rfl) ?_
              go_wp2_with (first | go_skip | (with_reducible refine stopStore 26 rfl ?_))
              refine store_known 26 (w.heap.size + 1 + 1) _ #[(.slice (some ⟨g4, 0, none⟩) (n + 1) cp4)] 26 HP9.out.1.res rfl rfl rfl rfl (rwSize rfl) rfl (by simp [Value.oneCell']) ?_
              go_wp2
              refine bodyPost_ret (results_row_tmp Tryz.results9 _ _ (w.heap.size + 1 + 1) _ _ _ _ rfl HP9.out.1.res.setRow Tryz.underlying26 rfl (rwSize rfl)) rfl ?_
              rw [HV.out]
              have nr : w.heap.size + 1 + 1 ∉ F1 := fun hx => by have := HP9.out.2.2.2.1.ge _ hx; omega
              exact ⟨_, F1, rfl, ⟨_, _, _, rfl, HP9.out.2.2.1.agree (Agree.row nr _), HP9.out.2.2.2.2⟩, (HP9.out.2.2.2.1.agree (Agree.row nr _)).mono (by omega), below_setRow HP9.out.1.bel (by omega) _⟩
            case s115 =>
              intro K hK
              have bl : Below Yas3.heap.size Yas3 (Yas3.alloc (.cells ds 33)) := (Below.refl _ _).alloc (Nat.le_refl _) _
              have HPass4 : Hid (PuR w #[.slice a n c] es 26 33 (Yas3.alloc (.cells ds 33)) ∧ Blk (Yas3.alloc (.cells ds 33)) X #[.slice q n kc] 26 ∧ GrowL enK 33 x.list lo n (.slice q n kc) vs GG (Yas3.alloc (.cells ds 33)) ∧ RdL enK (Yas3.alloc (.cells ds 33)) q n x.list FX ∧ Own (w.heap.size + 3) (Yas3.alloc (.cells ds 33)) FX) := ⟨HPas3.out.1.below bl, HPas3.out.2.1.below bl, HPas3.out.2.2.1.below bl, HPas3.out.2.2.2.1.below bl, HPas3.out.2.2.2.2.below HPas3.out.2.2.2.1.lt bl⟩
              have RRass4 : Hid (RdE (Yas3.alloc (.cells ds 33)) (.agg ds) e Fr ∧ Own (X + 1) (Yas3.alloc (.cells ds 33)) Fr ∧ ds.size = 10 ∧ ds.all (·.oneCell') = true) := ⟨RRas3.out.1.below bl, RRas3.out.2.1.below RRas3.out.1.lt bl, RRas3.out.2.2⟩
              have NWass4 : Hid (∀ j u, ds.toList[j]? = some u → ((Yas3.alloc (.cells ds 33))).cell? ((⟨Yas3.heap.size, 0, none⟩ : Addr).add j) = some u) := news_lit _ _ _
              refine op_turn (.slice (some ⟨Yas3.heap.size, 0, none⟩) 1 1) (Yas3.alloc (.cells ds 33)) rfl (by obtain ⟨_, _, _, _, _, _, _, _, _, _, _, _, _, _, _, ev, _⟩ := RRass4.out.1; injection ev with ev; rw [ev]; kernel_rfl) ⟨_, by simp [Act.put]; rfl, hK _ _ ⟨⟨HPass4.out.1.en, HPass4.out.1.bel⟩, ?_⟩⟩
              clear hK bl
              obtain ⟨Lass4, hLass4⟩ : ∃ z, z = Yas3.heap.size := ⟨_, rfl⟩
              obtain ⟨Yass4, hYass4⟩ : ∃ Z, Z = (Yas3.alloc (.cells ds 33)) := ⟨_, rfl⟩
              rw [← hYass4, ← hLass4] at NWass4
              rw [← hYass4] at HPass4 RRass4 ⊢
              rw [← hLass4]
              clear hYass4 hLass4
              refine onlyH (o := ?o120) 1 (by kernel_rfl) ?h120 ?r120
              case h120 => simp only [aT, aS, aZ]; rfl
              intro K hK
              have co := HPass4.out.2.1.cell 0
              simp only [aT, aZ] at co
              refine op_value (.slice q n kc) rfl (by go_simp) ⟨_, by simp [Act.put]; rfl, hK _ _ ⟨⟨HPass4.out.1.en, HPass4.out.1.bel⟩, ?_⟩⟩
              clear hK co
              refine onlyH (o := ?o121) 5 (by kernel_rfl) ?h121 ?r121
              case h121 => simp only [aT, aS, aZ]; rfl
              intro K hK
              refine op_append Yass4 rfl _ _ 24 rfl lo 33 j0 (.agg #[.int .i64 0, .int .i64 0, .slice none 0 0, .int .i64 0, .int .i64 0, .int .i64 0, .int .i64 0, .slice none 0 0, .slice none 0 0, .slice none 0 0]) 10 144 Tryz.underlying24 hj hy0 hy1 hy2 rfl (by decide) (.slice q n kc) n vs rfl HPass4.out.2.2.1.row ⟨Lass4, 0, none⟩ 1 1 ds.toList rfl (by rw [Array.length_toList, RRass4.out.2.2.1]) NWass4.out (fun u hu => (Array.all_eq_true_iff_forall_mem.1 RRass4.out.2.2.2) u (by simpa using hu)) (by decide) (by unfold maxLen; omega) (by omega) HPass4.out.2.2.1.lw _ rfl ?_
              intro g4 cp4 Yass5 hown hgrow hat _
              have hx1 : (x.list ++ [e])[n]? = some e := by rw [List.getElem?_append_right (by rw [HN.out]; exact Nat.le_refl _), HN.out, Nat.sub_self]; rfl
              have GS := (HPass4.out.2.2.1.longer (ys := x.list ++ [e]) (List.take_append_of_le_length (by rw [HN.out]; exact Nat.le_refl _))).step hx1 RRass4.out.1 RRass4.out.2.2.1 RRass4.out.2.1 (fun b hb => by have := HLO.out.2.2.1 b hb; omega) (fun b hb => by have := HLO.out.2.2.2.1 b hb; omega) (by have := HLO.out.2.2.2.2; omega) hown hgrow hat
              have hXk : Blk Yass5 X #[.slice q n kc] 26 := HPass4.out.2.1.agree (hgrow.block X HPass4.out.2.1.lt (fun e => by have := HLO.out.2.2.2.1 X e.symm; omega))
              have HPass5 : Hid (PuR w #[.slice a n c] es 26 33 Yass5 ∧ Blk Yass5 X #[.slice q n kc] 26) := ⟨HPass4.out.1.grown hgrow (fun b hb => by have h1 := (HPass4.out.2.2.1.row.lt b hb).1; have := HLO.out.1; omega), hXk⟩
              have HQ : Hid (∃ F1, RdL enK (Yass5.setCell ⟨X, 0, none⟩ (.slice (some ⟨g4, 0, none⟩) (n + 1) cp4)) (some ⟨g4, 0, none⟩) (n + 1) (x.list ++ [e]) F1 ∧ Capd (some ⟨g4, 0, none⟩) (n + 1) cp4 ∧ Own (w.heap.size + 3) (Yass5.setCell ⟨X, 0, none⟩ (.slice (some ⟨g4, 0, none⟩) (n + 1) cp4)) F1 ∧ PuR w #[.slice a n c] es 26 33 (Yass5.setCell ⟨X, 0, none⟩ (.slice (some ⟨g4, 0, none⟩) (n + 1) cp4)) ∧ Blk (Yass5.setCell ⟨X, 0, none⟩ (.slice (some ⟨g4, 0, none⟩) (n + 1) cp4)) X #[(.slice (some ⟨g4, 0, none⟩) (n + 1) cp4)] 26) := by
                obtain ⟨q1, d1, F1, e1, rL, oL, hcp, hin⟩ := GS.done2 (by rw [List.length_append, HN.out]; rfl)
                injection e1 with e1 _ e3
                subst e1 e3
                have hnx : X ∉ F1 := fun hx => by
                  rcases hin X hx with h1 | h1
                  · have h2 : g4 = X := by simpa [Value.ownBlock] using h1
                    rcases hat with h3 | h3
                    · have := HLO.out.2.2.2.1 g4 h3; omega
                    · have := HPass4.out.2.1.lt; omega
                  · rcases List.mem_append.1 h1 with h1 | h1
                    · have := HLO.out.2.2.1 X h1; omega
                    · have := RRass4.out.2.1.ge X h1; omega
                exact ⟨F1, rL.agree (.set hnx _ _), hcp, (oL.agree (.set hnx _ _)).mono HLO.out.1, HPass5.out.1.setCell HLO.out.2.1 _, HPass5.out.2.set 0 _⟩
              have co := HPass5.out.2.cell 0
              have fo := HPass5.out.2.frozen 0
              simp only [aT, aZ] at co
              refine ⟨_, by simp [Act.put]; rfl, hK _ _ ⟨⟨HPass5.out.1.en, HPass5.out.1.bel⟩, ?_⟩⟩
              clear hK hown hgrow hat GS hXk hx1
              refine takeH (o := ?o122) 6 (.pointer (some ⟨X, 0, none⟩)) ?h122 ?r122
              case h122 => simp only [aT, aS, aZ]; rfl
              refine ⟨_, by simp [Act.put]; rfl, by kernel_rfl, by kernel_rfl, by kernel_rfl, fun _ _ _ h => h, (.inl ⟨rfl, fun W _ => by kernel_rfl⟩), ⟨HPass5.out.1.en, HPass5.out.1.bel⟩, ?_⟩
              refine onlyH (o := ?o123) 7 (by kernel_rfl) ?h123 ?r123
              case h123 => simp only [aT, aS, aZ]; rfl
              intro K hK
              refine op_skip (Yass5.setCell ⟨X, 0, none⟩ (.slice (some ⟨g4, 0, none⟩) (n + 1) cp4)) rfl (by go_simp) ⟨_, by simp [Act.put]; rfl, hK _ _ ⟨⟨HQ.out.choose_spec.2.2.2.1.en, HQ.out.choose_spec.2.2.2.1.bel⟩, ?_⟩⟩
              clear hK co fo
              refine wpAnyH_done (by kernel_rfl) ?_ _
              obtain ⟨YZ, hYZ⟩ : ∃ Z, Z = (Yass5.setCell ⟨X, 0, none⟩ (.slice (some ⟨g4, 0, none⟩) (n + 1) cp4)) := ⟨_, rfl⟩
              rw [← hYZ] at HQ ⊢
              clear hYZ HPass5 HPass4
              obtain ⟨F1, rL, hcp, oL, hPu, hXb⟩ := HQ.out
              have HP9 : Hid (PuR w #[.slice a n c] es 26 33 YZ ∧ Blk YZ X #[(.slice (some ⟨g4, 0, none⟩) (n + 1) cp4)] 26 ∧ RdL enK YZ (some ⟨g4, 0, none⟩) (n + 1) (x.list ++ [e]) F1 ∧ Own (w.heap.size + 3) YZ F1 ∧ Capd (some ⟨g4, 0, none⟩) (n + 1) cp4) := ⟨hPu, hXb, rL, oL, hcp⟩
              clear rL hcp oL hPu hXb HQ
              go_wp2_with (first | go_skip | (with_reducible refine stopLoad 26 rfl ?_))
              refine load_any 26 X #[(.slice (some ⟨g4, 0, none⟩) (n + 1) cp4)] 26 _ HP9.out.2.1 rfl rfl rfl Tryz.underlying26 rfl (rwSize rfl) ?_
              go_wp2_with (first | go_skip | (with_reducible refine stopStore 26 rfl ?_))
              refine store_known 26 (w.heap.size + 1 + 1) _ #[(.slice (some ⟨g4, 0, none⟩) (n + 1) cp4)] 26 HP9.out.1.res rfl rfl rfl rfl (rwSize rfl) rfl (by simp [Value.oneCell']) ?_
              go_wp2
              refine bodyPost_ret (results_row_tmp Tryz.results9 _ _ (w.heap.size + 1 + 1) _ _ _ _ rfl HP9.out.1.res.setRow Tryz.underlying26 rfl (rwSize rfl)) rfl ?_
              rw [HV.out]
              have nr : w.heap.size + 1 + 1 ∉ F1 := fun hx => by have := HP9.out.2.2.2.1.ge _ hx; omega
              exact ⟨_, F1, rfl, ⟨_, _, _, rfl, HP9.out.2.2.1.agree (Agree.row nr _), HP9.out.2.2.2.2⟩, (HP9.out.2.2.2.1.agree (Agree.row nr _)).mono (by omega), below_setRow HP9.out.1.bel (by omega) _⟩

    · have hj : join = true := by cases join; exact absurd (.inl rfl) hno; rfl
      subst hj
      have hlt : k < n := by omega
      have hI : (k : Int) < (n : Int) := by omega
      clear hno hjk
      have hrow := HP2.out.2.2.1.row.2
      obtain ⟨g, rfl⟩ : ∃ g, q = some ⟨g, 0, none⟩ := by
        rcases hrow with ⟨h0, h1⟩ | ⟨g, _, _, h1, _⟩
        · injection h0 with e1 e2; omega
        · injection h1 with e1; exact ⟨g, e1⟩
      clear hrow
      obtain ⟨b, off, y, cs, Fi, hq, hbw, hy, hcs, hcc, hr⟩ := ens_at HP2.out.2.2.2.1 hlt
      injection hq with hq
      injection hq with hq1 hq2
      subst hq1 hq2
      simp only [Nat.zero_add] at hcc
      have HY : Hid (x.list[k]? = some y ∧ cs.size = 10 ∧ RdE wr (.agg cs) y Fi ∧ (∀ j, j < 10 → wr.cell? ⟨g, k * 10 + j, none⟩ = cs[j]?) ∧ cs[0]? = some (.int .i64 y.key) ∧ cs[1]? = some (.int .i64 y.window) ∧ g < wr.heap.size) := by
        obtain ⟨_, _, _, _, _, _, _, _, _, _, _, _, _, _, _, ev, _⟩ := id hr
        injection ev with ev
        exact ⟨hy, hcs, hr, hcc, by rw [ev]; rfl, by rw [ev]; rfl, hbw⟩
      clear hbw hy hcs hcc hr
      go_wp2_with fail
      clear cX cB
      have HPd : Hid (PuR w #[.slice a n c] es 26 33 wr.drew ∧ Blk wr.drew X #[.slice (some ⟨g, 0, none⟩) n kc] 26 ∧ GrowL enK 33 x.list lo n (.slice (some ⟨g, 0, none⟩) n kc) vs GG wr.drew ∧ RdL enK wr.drew (some ⟨g, 0, none⟩) n x.list FX ∧ Own (w.heap.size + 3) wr.drew FX) := ⟨HP2.out.1.below (Below.refl _ _).drew, HP2.out.2.1.below (Below.refl _ _).drew, HP2.out.2.2.1.below (Below.refl _ _).drew, HP2.out.2.2.2.1.below (Below.refl _ _).drew, HP2.out.2.2.2.2.below HP2.out.2.2.2.1.lt (Below.refl _ _).drew⟩
      have HYd : Hid (RdE wr.drew (.agg cs) y Fi ∧ ∀ j, j < 10 → wr.drew.cell? ⟨g, k * 10 + j, none⟩ = cs[j]?) := ⟨HY.out.2.2.1.below (Below.refl _ _).drew, HY.out.2.2.2.1⟩
      obtain ⟨Y0, hY0⟩ : ∃ Y, Y = wr.drew := ⟨_, rfl⟩
      rw [← hY0] at HPd HYd
      clear HP2
      have cX := HPd.out.2.1.cell 0
      simp only [aT, aZ] at cX
      have c0 : Y0.cell? ⟨g, k * 10, none⟩ = some (.int .i64 y.key) := (HYd.out.2 0 (by decide)).trans HY.out.2.2.2.2.1
      have c1 : Y0.cell? ⟨g, k * 10 + 1, none⟩ = some (.int .i64 y.window) := (HYd.out.2 1 (by decide)).trans HY.out.2.2.2.2.2.1
      have e0 : Y0.cell? ⟨w.heap.size + 1, 0, none⟩ = some (.int .i64 e.key) := (HPd.out.1.en.cell 0).trans HE.out.2.2.1
      have e1 : Y0.cell? ⟨w.heap.size + 1, 1, none⟩ = some (.int .i64 e.window) := (HPd.out.1.en.cell 1).trans HE.out.2.2.2.1
      obtain ⟨d1, hd1⟩ : ∃ d, d = (y.key == e.key) := ⟨_, rfl⟩
      obtain ⟨d2, hd2⟩ : ∃ d, d = (y.window == e.window) := ⟨_, rfl⟩
      cases d1
      · have hk1 : (y.key == e.key) = false := hd1.symm
        clear hd1 hd2
        refine wp_region_held (S := fun W => W = Y0) (by kernel_rfl) ?_
        change wpAnyH _ _ _ _ _ _ _ _ (World.drew _)
        rw [← hY0]
        clear hY0
        refine takeH (o := ?o124) 0 (.pointer (some ⟨X, 0, none⟩)) ?h124 ?r124
        case h124 => simp only [aT, aZ]; rfl
        refine ⟨_, by simp [Act.put]; rfl, by kernel_rfl, by kernel_rfl, by kernel_rfl, fun _ _ _ h => h, (.inl ⟨rfl, fun W _ => by kernel_rfl⟩), rfl, ?_⟩
        refine takeH (o := ?o125) 1 (.slice (some ⟨g, 0, none⟩) n kc) ?h125 ?r125
        case h125 => simp only [aT, aS, aZ]; rfl
        refine ⟨_, by simp [Act.put]; rfl, by kernel_rfl, by kernel_rfl, by kernel_rfl, fun _ _ _ h => h, (.inl ⟨rfl, fun W hW => by rw [hW]; go_simp⟩), rfl, ?_⟩
        refine takeH (o := ?o126) 2 (.int .i64 k) ?h126 ?r126
        case h126 => simp only [aT, aS, aZ]; rfl
        refine ⟨_, by simp [Act.put]; rfl, by kernel_rfl, by kernel_rfl, by kernel_rfl, fun _ _ _ h => h, (.inl ⟨rfl, fun W _ => by kernel_rfl⟩), rfl, ?_⟩
        refine takeH (o := ?o127) 3 (.pointer (some ⟨g, k * 10, none⟩)) ?h127 ?r127
        case h127 => simp only [aT, aS, aZ]; rfl
        refine ⟨_, by simp [Act.put]; rfl, by kernel_rfl, by kernel_rfl, by kernel_rfl, fun _ _ _ h => h, (.inl ⟨rfl, fun W _ => by go_simp; first | done | (intro h; omega) | (rw [if_pos (by omega)]; rfl)⟩), rfl, ?_⟩
        refine takeH (o := ?o128) 4 (.pointer (some ⟨g, k * 10, none⟩)) ?h128 ?r128
        case h128 => simp only [aT, aS, aZ]; rfl
        refine ⟨_, by simp [Act.put]; rfl, by kernel_rfl, by kernel_rfl, by kernel_rfl, fun _ _ _ h => h, (.inl ⟨rfl, fun W _ => by kernel_rfl⟩), rfl, ?_⟩
        refine takeH (o := ?o129) 5 (.int .i64 y.key) ?h129 ?r129
        case h129 => simp only [aT, aS, aZ]; rfl
        refine ⟨_, by simp [Act.put]; rfl, by kernel_rfl, by kernel_rfl, by kernel_rfl, fun _ _ _ h => h, (.inl ⟨rfl, fun W hW => by rw [hW]; go_simp⟩), rfl, ?_⟩
        refine takeH (o := ?o130) 6 (.pointer (some ⟨w.heap.size + 1, 0, none⟩)) ?h130 ?r130
        case h130 => simp only [aT, aS, aZ]; rfl
        refine ⟨_, by simp [Act.put]; rfl, by kernel_rfl, by kernel_rfl, by kernel_rfl, fun _ _ _ h => h, (.inl ⟨rfl, fun W _ => by kernel_rfl⟩), rfl, ?_⟩
        refine takeH (o := ?o131) 7 (.int .i64 e.key) ?h131 ?r131
        case h131 => simp only [aT, aS, aZ]; rfl
        refine ⟨_, by simp [Act.put]; rfl, by kernel_rfl, by kernel_rfl, by kernel_rfl, fun _ _ _ h => h, (.inl ⟨rfl, fun W hW => by rw [hW]; go_simp⟩), rfl, ?_⟩
        refine takeH (o := ?o132) 8 (.bool false) ?h132 ?r132
        case h132 => simp only [aT, aS, aZ]; rfl
        refine ⟨_, by simp [Act.put]; rfl, by kernel_rfl, by kernel_rfl, by kernel_rfl, fun _ _ _ h => h, (.inl ⟨rfl, fun W _ => by go_simp⟩), rfl, ?_⟩
        refine takeH (o := ?o133) 9 (.bool false) ?h133 ?r133
        case h133 => simp only [aT, aS, aZ]; rfl
        refine ⟨_, by simp [Act.put]; rfl, by kernel_rfl, by kernel_rfl, by kernel_rfl, fun _ _ _ h => h, (.inl ⟨rfl, fun W _ => by kernel_rfl⟩), rfl, ?_⟩
        refine takeH (o := ?o134) 10 (undef) ?h134 ?r134
        case h134 => simp only [aT, aS, aZ]; rfl
        refine ⟨_, by simp [Act.put]; rfl, by kernel_rfl, by kernel_rfl, by kernel_rfl, fun _ _ _ h => h, (.inr ⟨rfl, rfl⟩), rfl, ?_⟩
        refine takeH (o := ?o135) 11 (undef) ?h135 ?r135
        case h135 => simp only [aT, aS, aZ]; rfl
        refine ⟨_, by simp [Act.put]; rfl, by kernel_rfl, by kernel_rfl, by kernel_rfl, fun _ _ _ h => h, (.inr ⟨rfl, rfl⟩), rfl, ?_⟩
        refine takeH (o := ?o136) 12 (undef) ?h136 ?r136
        case h136 => simp only [aT, aS, aZ]; rfl
        refine ⟨_, by simp [Act.put]; rfl, by kernel_rfl, by kernel_rfl, by kernel_rfl, fun _ _ _ h => h, (.inr ⟨rfl, rfl⟩), rfl, ?_⟩
        refine takeH (o := ?o137) 13 (undef) ?h137 ?r137
        case h137 => simp only [aT, aS, aZ]; rfl
        refine ⟨_, by simp [Act.put]; rfl, by kernel_rfl, by kernel_rfl, by kernel_rfl, fun _ _ _ h => h, (.inr ⟨rfl, rfl⟩), rfl, ?_⟩
        refine takeH (o := ?o138) 14 (undef) ?h138 ?r138
        case h138 => simp only [aT, aS, aZ]; rfl
        refine ⟨_, by simp [Act.put]; rfl, by kernel_rfl, by kernel_rfl, by kernel_rfl, fun _ _ _ h => h, (.inr ⟨rfl, rfl⟩), rfl, ?_⟩
        refine takeH (o := ?o139) 15 (undef) ?h139 ?r139
        case h139 => simp only [aT, aS, aZ]; rfl
        refine ⟨_, by simp [Act.put]; rfl, by kernel_rfl, by kernel_rfl, by kernel_rfl, fun _ _ _ h => h, (.inr ⟨rfl, rfl⟩), rfl, ?_⟩
        refine takeH (o := ?o140) 16 (undef) ?h140 ?r140
        case h140 => simp only [aT, aS, aZ]; rfl
        refine ⟨_, by simp [Act.put]; rfl, by kernel_rfl, by kernel_rfl, by kernel_rfl, fun _ _ _ h => h, (.inr ⟨rfl, rfl⟩), rfl, ?_⟩
        refine takeH (o := ?o141) 17 (undef) ?h141 ?r141
        case h141 => simp only [aT, aS, aZ]; rfl
        refine ⟨_, by simp [Act.put]; rfl, by kernel_rfl, by kernel_rfl, by kernel_rfl, fun _ _ _ h => h, (.inr ⟨rfl, rfl⟩), rfl, ?_⟩
        refine takeH (o := ?o142) 18 (undef) ?h142 ?r142
        case h142 => simp only [aT, aS, aZ]; rfl
        refine ⟨_, by simp [Act.put]; rfl, by kernel_rfl, by kernel_rfl, by kernel_rfl, fun _ _ _ h => h, (.inr ⟨rfl, rfl⟩), rfl, ?_⟩
        refine takeH (o := ?o143) 19 (.bool false) ?h143 ?r143
        case h143 => simp only [aT, aS, aZ]; rfl
        refine ⟨_, by simp [Act.put]; rfl, by kernel_rfl, by kernel_rfl, by kernel_rfl, fun _ _ _ h => h, (.inl ⟨rfl, fun W _ => by kernel_rfl⟩), rfl, ?_⟩
        refine wpAnyH_done (by kernel_rfl) ?_ _
        clear cX c0 c1 e0 e1
        have HT2 : Hid (∀ z ∈ x.list.take (k + 1), samePlace z e = false) := by
          show ∀ z ∈ x.list.take (k + 1), _
          rw [take_snoc_en HY.out.1]
          intro z hz
          rcases List.mem_append.1 hz with hz | hz
          · exact HT.out z hz
          · obtain rfl : z = y := by simpa using hz
            show (_ && _) = false
            rw [hk1]; rfl
        go_wp2
        go_roundw
        case rel => exact ⟨k + 1, by omega, by go_num, (fun h => by cases h), HT2, HPd⟩
        case measure => simp [intOf]; omega
      · have hk1 : (y.key == e.key) = true := hd1.symm
        clear hd1
        cases d2
        · have hk2 : (y.window == e.window) = false := hd2.symm
          clear hd2
          refine wp_region_held (S := fun W => W = Y0) (by kernel_rfl) ?_
          change wpAnyH _ _ _ _ _ _ _ _ (World.drew _)
          rw [← hY0]
          clear hY0
          refine takeH (o := ?o144) 0 (.pointer (some ⟨X, 0, none⟩)) ?h144 ?r144
          case h144 => simp only [aT, aZ]; rfl
          refine ⟨_, by simp [Act.put]; rfl, by kernel_rfl, by kernel_rfl, by kernel_rfl, fun _ _ _ h => h, (.inl ⟨rfl, fun W _ => by kernel_rfl⟩), rfl, ?_⟩
          refine takeH (o := ?o145) 1 (.slice (some ⟨g, 0, none⟩) n kc) ?h145 ?r145
          case h145 => simp only [aT, aS, aZ]; rfl
          refine ⟨_, by simp [Act.put]; rfl, by kernel_rfl, by kernel_rfl, by kernel_rfl, fun _ _ _ h => h, (.inl ⟨rfl, fun W hW => by rw [hW]; go_simp⟩), rfl, ?_⟩
          refine takeH (o := ?o146) 2 (.int .i64 k) ?h146 ?r146
          case h146 => simp only [aT, aS, aZ]; rfl
          refine ⟨_, by simp [Act.put]; rfl, by kernel_rfl, by kernel_rfl, by kernel_rfl, fun _ _ _ h => h, (.inl ⟨rfl, fun W _ => by kernel_rfl⟩), rfl, ?_⟩
          refine takeH (o := ?o147) 3 (.pointer (some ⟨g, k * 10, none⟩)) ?h147 ?r147
          case h147 => simp only [aT, aS, aZ]; rfl
          refine ⟨_, by simp [Act.put]; rfl, by kernel_rfl, by kernel_rfl, by kernel_rfl, fun _ _ _ h => h, (.inl ⟨rfl, fun W _ => by go_simp; first | done | (intro h; omega) | (rw [if_pos (by omega)]; rfl)⟩), rfl, ?_⟩
          refine takeH (o := ?o148) 4 (.pointer (some ⟨g, k * 10, none⟩)) ?h148 ?r148
          case h148 => simp only [aT, aS, aZ]; rfl
          refine ⟨_, by simp [Act.put]; rfl, by kernel_rfl, by kernel_rfl, by kernel_rfl, fun _ _ _ h => h, (.inl ⟨rfl, fun W _ => by kernel_rfl⟩), rfl, ?_⟩
          refine takeH (o := ?o149) 5 (.int .i64 y.key) ?h149 ?r149
          case h149 => simp only [aT, aS, aZ]; rfl
          refine ⟨_, by simp [Act.put]; rfl, by kernel_rfl, by kernel_rfl, by kernel_rfl, fun _ _ _ h => h, (.inl ⟨rfl, fun W hW => by rw [hW]; go_simp⟩), rfl, ?_⟩
          refine takeH (o := ?o150) 6 (.pointer (some ⟨w.heap.size + 1, 0, none⟩)) ?h150 ?r150
          case h150 => simp only [aT, aS, aZ]; rfl
          refine ⟨_, by simp [Act.put]; rfl, by kernel_rfl, by kernel_rfl, by kernel_rfl, fun _ _ _ h => h, (.inl ⟨rfl, fun W _ => by kernel_rfl⟩), rfl, ?_⟩
          refine takeH (o := ?o151) 7 (.int .i64 e.key) ?h151 ?r151
          case h151 => simp only [aT, aS, aZ]; rfl
          refine ⟨_, by simp [Act.put]; rfl, by kernel_rfl, by kernel_rfl, by kernel_rfl, fun _ _ _ h => h, (.inl ⟨rfl, fun W hW => by rw [hW]; go_simp⟩), rfl, ?_⟩
          refine takeH (o := ?o152) 8 (.bool true) ?h152 ?r152
          case h152 => simp only [aT, aS, aZ]; rfl
          refine ⟨_, by simp [Act.put]; rfl, by kernel_rfl, by kernel_rfl, by kernel_rfl, fun _ _ _ h => h, (.inl ⟨rfl, fun W _ => by go_simp⟩), rfl, ?_⟩
          refine takeH (o := ?o153) 9 (.bool true) ?h153 ?r153
          case h153 => simp only [aT, aS, aZ]; rfl
          refine ⟨_, by simp [Act.put]; rfl, by kernel_rfl, by kernel_rfl, by kernel_rfl, fun _ _ _ h => h, (.inl ⟨rfl, fun W _ => by kernel_rfl⟩), rfl, ?_⟩
          refine takeH (o := ?o154) 10 (.pointer (some ⟨X, 0, none⟩)) ?h154 ?r154
          case h154 => simp only [aT, aS, aZ]; rfl
          refine ⟨_, by simp [Act.put]; rfl, by kernel_rfl, by kernel_rfl, by kernel_rfl, fun _ _ _ h => h, (.inl ⟨rfl, fun W _ => by kernel_rfl⟩), rfl, ?_⟩
          refine takeH (o := ?o155) 11 (.slice (some ⟨g, 0, none⟩) n kc) ?h155 ?r155
          case h155 => simp only [aT, aS, aZ]; rfl
          refine ⟨_, by simp [Act.put]; rfl, by kernel_rfl, by kernel_rfl, by kernel_rfl, fun _ _ _ h => h, (.inl ⟨rfl, fun W hW => by rw [hW]; go_simp⟩), rfl, ?_⟩
          refine takeH (o := ?o156) 12 (.int .i64 k) ?h156 ?r156
          case h156 => simp only [aT, aS, aZ]; rfl
          refine ⟨_, by simp [Act.put]; rfl, by kernel_rfl, by kernel_rfl, by kernel_rfl, fun _ _ _ h => h, (.inl ⟨rfl, fun W _ => by kernel_rfl⟩), rfl, ?_⟩
          refine takeH (o := ?o157) 13 (.pointer (some ⟨g, k * 10, none⟩)) ?h157 ?r157
          case h157 => simp only [aT, aS, aZ]; rfl
          refine ⟨_, by simp [Act.put]; rfl, by kernel_rfl, by kernel_rfl, by kernel_rfl, fun _ _ _ h => h, (.inl ⟨rfl, fun W _ => by go_simp; first | done | (intro h; omega) | (rw [if_pos (by omega)]; rfl)⟩), rfl, ?_⟩
          refine takeH (o := ?o158) 14 (.pointer (some ⟨g, k * 10 + 1, none⟩)) ?h158 ?r158
          case h158 => simp only [aT, aS, aZ]; rfl
          refine ⟨_, by simp [Act.put]; rfl, by kernel_rfl, by kernel_rfl, by kernel_rfl, fun _ _ _ h => h, (.inl ⟨rfl, fun W _ => by kernel_rfl⟩), rfl, ?_⟩
          refine takeH (o := ?o159) 15 (.int .i64 y.window) ?h159 ?r159
          case h159 => simp only [aT, aS, aZ]; rfl
          refine ⟨_, by simp [Act.put]; rfl, by kernel_rfl, by kernel_rfl, by kernel_rfl, fun _ _ _ h => h, (.inl ⟨rfl, fun W hW => by rw [hW]; go_simp⟩), rfl, ?_⟩
          refine takeH (o := ?o160) 16 (.pointer (some ⟨w.heap.size + 1, 1, none⟩)) ?h160 ?r160
          case h160 => simp only [aT, aS, aZ]; rfl
          refine ⟨_, by simp [Act.put]; rfl, by kernel_rfl, by kernel_rfl, by kernel_rfl, fun _ _ _ h => h, (.inl ⟨rfl, fun W _ => by kernel_rfl⟩), rfl, ?_⟩
          refine takeH (o := ?o161) 17 (.int .i64 e.window) ?h161 ?r161
          case h161 => simp only [aT, aS, aZ]; rfl
          refine ⟨_, by simp [Act.put]; rfl, by kernel_rfl, by kernel_rfl, by kernel_rfl, fun _ _ _ h => h, (.inl ⟨rfl, fun W hW => by rw [hW]; go_simp⟩), rfl, ?_⟩
          refine takeH (o := ?o162) 18 (.bool false) ?h162 ?r162
          case h162 => simp only [aT, aS, aZ]; rfl
          refine ⟨_, by simp [Act.put]; rfl, by kernel_rfl, by kernel_rfl, by kernel_rfl, fun _ _ _ h => h, (.inl ⟨rfl, fun W _ => by go_simp⟩), rfl, ?_⟩
          refine takeH (o := ?o163) 19 (.bool false) ?h163 ?r163
          case h163 => simp only [aT, aS, aZ]; rfl
          refine ⟨_, by simp [Act.put]; rfl, by kernel_rfl, by kernel_rfl, by kernel_rfl, fun _ _ _ h => h, (.inl ⟨rfl, fun W _ => by kernel_rfl⟩), rfl, ?_⟩
          refine wpAnyH_done (by kernel_rfl) ?_ _
          clear cX c0 c1 e0 e1
          have HT2 : Hid (∀ z ∈ x.list.take (k + 1), samePlace z e = false) := by
            show ∀ z ∈ x.list.take (k + 1), _
            rw [take_snoc_en HY.out.1]
            intro z hz
            rcases List.mem_append.1 hz with hz | hz
            · exact HT.out z hz
            · obtain rfl : z = y := by simpa using hz
              show (_ && _) = false
              rw [hk1, hk2]; rfl
          go_wp2
          go_roundw
          case rel => exact ⟨k + 1, by omega, by go_num, (fun h => by cases h), HT2, HPd⟩
          case measure => simp [intOf]; omega
        · have hk2 : (y.window == e.window) = true := hd2.symm
          clear hd2
          refine wp_region_held (S := fun W => W = Y0) (by kernel_rfl) ?_
          change wpAnyH _ _ _ _ _ _ _ _ (World.drew _)
          rw [← hY0]
          clear hY0
          refine takeH (o := ?o164) 0 (.pointer (some ⟨X, 0, none⟩)) ?h164 ?r164
          case h164 => simp only [aT, aZ]; rfl
          refine ⟨_, by simp [Act.put]; rfl, by kernel_rfl, by kernel_rfl, by kernel_rfl, fun _ _ _ h => h, (.inl ⟨rfl, fun W _ => by kernel_rfl⟩), rfl, ?_⟩
          refine takeH (o := ?o165) 1 (.slice (some ⟨g, 0, none⟩) n kc) ?h165 ?r165
          case h165 => simp only [aT, aS, aZ]; rfl
          refine ⟨_, by simp [Act.put]; rfl, by kernel_rfl, by kernel_rfl, by kernel_rfl, fun _ _ _ h => h, (.inl ⟨rfl, fun W hW => by rw [hW]; go_simp⟩), rfl, ?_⟩
          refine takeH (o := ?o166) 2 (.int .i64 k) ?h166 ?r166
          case h166 => simp only [aT, aS, aZ]; rfl
          refine ⟨_, by simp [Act.put]; rfl, by kernel_rfl, by kernel_rfl, by kernel_rfl, fun _ _ _ h => h, (.inl ⟨rfl, fun W _ => by kernel_rfl⟩), rfl, ?_⟩
          refine takeH (o := ?o167) 3 (.pointer (some ⟨g, k * 10, none⟩)) ?h167 ?r167
          case h167 => simp only [aT, aS, aZ]; rfl
          refine ⟨_, by simp [Act.put]; rfl, by kernel_rfl, by kernel_rfl, by kernel_rfl, fun _ _ _ h => h, (.inl ⟨rfl, fun W _ => by go_simp; first | done | (intro h; omega) | (rw [if_pos (by omega)]; rfl)⟩), rfl, ?_⟩
          refine takeH (o := ?o168) 4 (.pointer (some ⟨g, k * 10, none⟩)) ?h168 ?r168
          case h168 => simp only [aT, aS, aZ]; rfl
          refine ⟨_, by simp [Act.put]; rfl, by kernel_rfl, by kernel_rfl, by kernel_rfl, fun _ _ _ h => h, (.inl ⟨rfl, fun W _ => by kernel_rfl⟩), rfl, ?_⟩
          refine takeH (o := ?o169) 5 (.int .i64 y.key) ?h169 ?r169
          case h169 => simp only [aT, aS, aZ]; rfl
          refine ⟨_, by simp [Act.put]; rfl, by kernel_rfl, by kernel_rfl, by kernel_rfl, fun _ _ _ h => h, (.inl ⟨rfl, fun W hW => by rw [hW]; go_simp⟩), rfl, ?_⟩
          refine takeH (o := ?o170) 6 (.pointer (some ⟨w.heap.size + 1, 0, none⟩)) ?h170 ?r170
          case h170 => simp only [aT, aS, aZ]; rfl
          refine ⟨_, by simp [Act.put]; rfl, by kernel_rfl, by kernel_rfl, by kernel_rfl, fun _ _ _ h => h, (.inl ⟨rfl, fun W _ => by kernel_rfl⟩), rfl, ?_⟩
          refine takeH (o := ?o171) 7 (.int .i64 e.key) ?h171 ?r171
          case h171 => simp only [aT, aS, aZ]; rfl
          refine ⟨_, by simp [Act.put]; rfl, by kernel_rfl, by kernel_rfl, by kernel_rfl, fun _ _ _ h => h, (.inl ⟨rfl, fun W hW => by rw [hW]; go_simp⟩), rfl, ?_⟩
          refine takeH (o := ?o172) 8 (.bool true) ?h172 ?r172
          case h172 => simp only [aT, aS, aZ]; rfl
          refine ⟨_, by simp [Act.put]; rfl, by kernel_rfl, by kernel_rfl, by kernel_rfl, fun _ _ _ h => h, (.inl ⟨rfl, fun W _ => by go_simp⟩), rfl, ?_⟩
          refine takeH (o := ?o173) 9 (.bool true) ?h173 ?r173
          case h173 => simp only [aT, aS, aZ]; rfl
          refine ⟨_, by simp [Act.put]; rfl, by kernel_rfl, by kernel_rfl, by kernel_rfl, fun _ _ _ h => h, (.inl ⟨rfl, fun W _ => by kernel_rfl⟩), rfl, ?_⟩
          refine takeH (o := ?o174) 10 (.pointer (some ⟨X, 0, none⟩)) ?h174 ?r174
          case h174 => simp only [aT, aS, aZ]; rfl
          refine ⟨_, by simp [Act.put]; rfl, by kernel_rfl, by kernel_rfl, by kernel_rfl, fun _ _ _ h => h, (.inl ⟨rfl, fun W _ => by kernel_rfl⟩), rfl, ?_⟩
          refine takeH (o := ?o175) 11 (.slice (some ⟨g, 0, none⟩) n kc) ?h175 ?r175
          case h175 => simp only [aT, aS, aZ]; rfl
          refine ⟨_, by simp [Act.put]; rfl, by kernel_rfl, by kernel_rfl, by kernel_rfl, fun _ _ _ h => h, (.inl ⟨rfl, fun W hW => by rw [hW]; go_simp⟩), rfl, ?_⟩
          refine takeH (o := ?o176) 12 (.int .i64 k) ?h176 ?r176
          case h176 => simp only [aT, aS, aZ]; rfl
          refine ⟨_, by simp [Act.put]; rfl, by kernel_rfl, by kernel_rfl, by kernel_rfl, fun _ _ _ h => h, (.inl ⟨rfl, fun W _ => by kernel_rfl⟩), rfl, ?_⟩
          refine takeH (o := ?o177) 13 (.pointer (some ⟨g, k * 10, none⟩)) ?h177 ?r177
          case h177 => simp only [aT, aS, aZ]; rfl
          refine ⟨_, by simp [Act.put]; rfl, by kernel_rfl, by kernel_rfl, by kernel_rfl, fun _ _ _ h => h, (.inl ⟨rfl, fun W _ => by go_simp; first | done | (intro h; omega) | (rw [if_pos (by omega)]; rfl)⟩), rfl, ?_⟩
          refine takeH (o := ?o178) 14 (.pointer (some ⟨g, k * 10 + 1, none⟩)) ?h178 ?r178
          case h178 => simp only [aT, aS, aZ]; rfl
          refine ⟨_, by simp [Act.put]; rfl, by kernel_rfl, by kernel_rfl, by kernel_rfl, fun _ _ _ h => h, (.inl ⟨rfl, fun W _ => by kernel_rfl⟩), rfl, ?_⟩
          refine takeH (o := ?o179) 15 (.int .i64 y.window) ?h179 ?r179
          case h179 => simp only [aT, aS, aZ]; rfl
          refine ⟨_, by simp [Act.put]; rfl, by kernel_rfl, by kernel_rfl, by kernel_rfl, fun _ _ _ h => h, (.inl ⟨rfl, fun W hW => by rw [hW]; go_simp⟩), rfl, ?_⟩
          refine takeH (o := ?o180) 16 (.pointer (some ⟨w.heap.size + 1, 1, none⟩)) ?h180 ?r180
          case h180 => simp only [aT, aS, aZ]; rfl
          refine ⟨_, by simp [Act.put]; rfl, by kernel_rfl, by kernel_rfl, by kernel_rfl, fun _ _ _ h => h, (.inl ⟨rfl, fun W _ => by kernel_rfl⟩), rfl, ?_⟩
          refine takeH (o := ?o181) 17 (.int .i64 e.window) ?h181 ?r181
          case h181 => simp only [aT, aS, aZ]; rfl
          refine ⟨_, by simp [Act.put]; rfl, by kernel_rfl, by kernel_rfl, by kernel_rfl, fun _ _ _ h => h, (.inl ⟨rfl, fun W hW => by rw [hW]; go_simp⟩), rfl, ?_⟩
          refine takeH (o := ?o182) 18 (.bool true) ?h182 ?r182
          case h182 => simp only [aT, aS, aZ]; rfl
          refine ⟨_, by simp [Act.put]; rfl, by kernel_rfl, by kernel_rfl, by kernel_rfl, fun _ _ _ h => h, (.inl ⟨rfl, fun W _ => by go_simp⟩), rfl, ?_⟩
          refine takeH (o := ?o183) 19 (.bool true) ?h183 ?r183
          case h183 => simp only [aT, aS, aZ]; rfl
          refine ⟨_, by simp [Act.put]; rfl, by kernel_rfl, by kernel_rfl, by kernel_rfl, fun _ _ _ h => h, (.inl ⟨rfl, fun W _ => by kernel_rfl⟩), rfl, ?_⟩
          refine wpAnyH_done (by kernel_rfl) ?_ _
          clear cX c0 c1 e0 e1
          have hpl : samePlace y e = true := by show (_ && _) = true; rw [hk1, hk2]; rfl
          have HV0 := Rw.push_hit HTK.out (hitAt_some HY.out.1 hpl HT.out) HY.out.1
          have HV : Hid (x.push e true = (⟨x.list.set k (y.add e)⟩, true)) := HV0.1
          have HK : Hid (y.ok = true ∧ e.ok = true ∧ y.ids.length + e.ids.length ≤ 2097152) := ⟨HV0.2.1, HV0.2.2, by have h1 := (HH.out.2.2.1.each y (List.mem_of_getElem? HY.out.1)).2; have := HH.out.2.2.2.2; omega⟩
          clear HV0 hpl hk1 hk2
          go_wp2_with fail
          have HPe : Hid (PuR w #[.slice a n c] es 26 33 Y0.drew ∧ Blk Y0.drew X #[.slice (some ⟨g, 0, none⟩) n kc] 26 ∧ GrowL enK 33 x.list lo n (.slice (some ⟨g, 0, none⟩) n kc) vs GG Y0.drew ∧ RdL enK Y0.drew (some ⟨g, 0, none⟩) n x.list FX ∧ Own (w.heap.size + 3) Y0.drew FX) := ⟨HPd.out.1.below (Below.refl _ _).drew, HPd.out.2.1.below (Below.refl _ _).drew, HPd.out.2.2.1.below (Below.refl _ _).drew, HPd.out.2.2.2.1.below (Below.refl _ _).drew, HPd.out.2.2.2.2.below HPd.out.2.2.2.1.lt (Below.refl _ _).drew⟩
          have HYe : Hid (RdE Y0.drew (.agg cs) y Fi ∧ ∀ j, j < 10 → Y0.drew.cell? ⟨g, k * 10 + j, none⟩ = cs[j]?) := ⟨HYd.out.1.below (Below.refl _ _).drew, fun j hj => HYd.out.2 j hj⟩
          obtain ⟨Y1, hY1⟩ : ∃ Y, Y = Y0.drew := ⟨_, rfl⟩
          rw [← hY1] at HPe HYe
          clear HPd HYd
          refine wp_region_held (S := fun W => Blk W (w.heap.size + 1) es 33 ∧ Blk W X #[.slice (some ⟨g, 0, none⟩) n kc] 26) (by kernel_rfl) ?_
          change wpAnyH _ _ _ _ _ _ _ _ (World.drew _)
          rw [← hY1]
          clear hY1
          refine takeH (o := ?o184) 0 (.pointer (some ⟨X, 0, none⟩)) ?h184 ?r184
          case h184 => simp only [aT, aZ]; rfl
          refine ⟨_, by simp [Act.put]; rfl, by kernel_rfl, by kernel_rfl, by kernel_rfl, fun _ _ _ h => h, (.inl ⟨rfl, fun W _ => by kernel_rfl⟩), ⟨HPe.out.1.en, HPe.out.2.1⟩, ?_⟩
          refine takeH (o := ?o185) 1 (.slice (some ⟨g, 0, none⟩) n kc) ?h185 ?r185
          case h185 => simp only [aT, aS, aZ]; rfl
          refine ⟨_, by simp [Act.put]; rfl, by kernel_rfl, by kernel_rfl, by kernel_rfl, fun _ _ _ h => h, (.inl ⟨rfl, fun W hW => by have c := hW.2.cell 0; simp only [aT, aZ] at c; go_simp⟩), ⟨HPe.out.1.en, HPe.out.2.1⟩, ?_⟩
          refine takeH (o := ?o186) 2 (.int .i64 k) ?h186 ?r186
          case h186 => simp only [aT, aS, aZ]; rfl
          refine ⟨_, by simp [Act.put]; rfl, by kernel_rfl, by kernel_rfl, by kernel_rfl, fun _ _ _ h => h, (.inl ⟨rfl, fun W _ => by kernel_rfl⟩), ⟨HPe.out.1.en, HPe.out.2.1⟩, ?_⟩
          refine takeH (o := ?o187) 3 (.pointer (some ⟨X, 0, none⟩)) ?h187 ?r187
          case h187 => simp only [aT, aS, aZ]; rfl
          refine ⟨_, by simp [Act.put]; rfl, by kernel_rfl, by kernel_rfl, by kernel_rfl, fun _ _ _ h => h, (.inl ⟨rfl, fun W _ => by kernel_rfl⟩), ⟨HPe.out.1.en, HPe.out.2.1⟩, ?_⟩
          refine takeH (o := ?o188) 4 (.slice (some ⟨g, 0, none⟩) n kc) ?h188 ?r188
          case h188 => simp only [aT, aS, aZ]; rfl
          refine ⟨_, by simp [Act.put]; rfl, by kernel_rfl, by kernel_rfl, by kernel_rfl, fun _ _ _ h => h, (.inl ⟨rfl, fun W hW => by have c := hW.2.cell 0; simp only [aT, aZ] at c; go_simp⟩), ⟨HPe.out.1.en, HPe.out.2.1⟩, ?_⟩
          refine takeH (o := ?o189) 5 (.int .i64 k) ?h189 ?r189
          case h189 => simp only [aT, aS, aZ]; rfl
          refine ⟨_, by simp [Act.put]; rfl, by kernel_rfl, by kernel_rfl, by kernel_rfl, fun _ _ _ h => h, (.inl ⟨rfl, fun W _ => by kernel_rfl⟩), ⟨HPe.out.1.en, HPe.out.2.1⟩, ?_⟩
          refine takeH (o := ?o190) 6 (.pointer (some ⟨g, k * 10, none⟩)) ?h190 ?r190
          case h190 => simp only [aT, aS, aZ]; rfl
          refine ⟨_, by simp [Act.put]; rfl, by kernel_rfl, by kernel_rfl, by kernel_rfl, fun _ _ _ h => h, (.inl ⟨rfl, fun W _ => by go_simp; first | done | (intro h; omega) | (rw [if_pos (by omega)]; rfl)⟩), ⟨HPe.out.1.en, HPe.out.2.1⟩, ?_⟩
          refine takeH (o := ?o191) 8 (.agg es) ?h191 ?r191
          case h191 => simp only [aT, aS, aZ]; rfl
          refine ⟨_, by simp [Act.put]; rfl, by kernel_rfl, by kernel_rfl, by kernel_rfl, fun _ _ _ h => h, (yields_at 33 (w.heap.size + 1) 0 10 es _ rfl rfl rfl Tryz.underlying33 rfl infoEnG2 HE.out.1 (fun W hW j _ => by rw [Nat.zero_add]; exact hW.1.cell j)), ⟨HPe.out.1.en, HPe.out.2.1⟩, ?_⟩
          refine onlyH (o := ?o192) 7 (by kernel_rfl) ?h192 ?r192
          case h192 => simp only [aT, aS, aZ]; rfl
          intro K hK
          refine op_loadAt 33 g (k * 10) 10 cs _ rfl rfl rfl Tryz.underlying33 rfl infoEnG2 HY.out.2.1 HYe.out.2 ⟨_, by simp [Act.put]; rfl, hK _ _ ⟨⟨HPe.out.1.en, HPe.out.2.1⟩, ?_⟩⟩
          clear hK
          refine onlyH (o := ?o193) 9 (by kernel_rfl) ?h193 ?r193
          case h193 => simp only [aT, aS, aZ]; rfl
          intro K hK
          refine op_call2' 40 _ _ _ Tryz.f40 (fun v w' => ∃ F, RdE w' v (y.add e) F ∧ Own Y1.heap.size w' F ∧ Below Y1.heap.size Y1 w') rfl rfl Tryz.func40 (by kernel_rfl) (by kernel_rfl) ((addSpecE_any (.agg cs) (.agg es) y e Fi G Y1 HYe.out.1 (HH.out.2.1.below HPe.out.1.bel) HK.out.1 HK.out.2.1 HK.out.2.2).mono (by rintro e w' ⟨v, F, rfl, k1, k2, k3⟩; exact ⟨_, rfl, F, k1, k2, k3⟩)) ?_
          rintro vr Y2 ⟨Fr, rr, ro, rb⟩
          obtain ⟨ds, rfl, hd11, hd1⟩ := enK.cells (w := Y2) rr
          replace hd11 : ds.size = 10 := hd11
          have hgX : g < X := HLO.out.2.2.2.1 g rfl
          have hXY : X < Y1.heap.size := HPe.out.2.1.lt
          have HPf : Hid (PuR w #[.slice a n c] es 26 33 Y2 ∧ Blk Y2 X #[.slice (some ⟨g, 0, none⟩) n kc] 26) := ⟨HPe.out.1.below rb, HPe.out.2.1.below rb⟩
          obtain ⟨hge, cur, hcur, hfit, vs', H', hG, hin⟩ := (HPe.out.2.2.1.below rb).put (L := X + 1) HN.out hlt rr hd11 (ro.mono hXY) (by have := HLO.out.2.2.2.2; omega) (fun b hb => by have := HLO.out.2.2.1 b hb; omega) (by omega)
          have HC : Hid (Blk Y2 g cur 33 ∧ k * 10 + ds.size ≤ cur.size ∧ ds.size = 10 ∧ ds.all (·.oneCell') = true ∧ g < X) := ⟨hcur, by omega, hd11, hd1, hgX⟩
          refine ⟨_, by simp [Act.put]; rfl, hK _ _ ⟨⟨HPf.out.1.en, HPf.out.2⟩, ?_⟩⟩
          clear hK rr ro rb hd1 hcur
          refine takeH (o := ?o194) 10 (.pointer (some ⟨g, k * 10, none⟩)) ?h194 ?r194
          case h194 => simp only [aT, aS, aZ]; rfl
          refine ⟨_, by simp [Act.put]; rfl, by kernel_rfl, by kernel_rfl, by kernel_rfl, fun _ _ _ h => h, (.inl ⟨rfl, fun W _ => by go_simp; first | done | (intro h; omega) | (rw [if_pos (by omega)]; rfl)⟩), ⟨HPf.out.1.en, HPf.out.2⟩, ?_⟩
          refine onlyH (o := ?o195) 11 (by kernel_rfl) ?h195 ?r195
          case h195 => simp only [aT, aS, aZ]; rfl
          intro K hK
          obtain ⟨cut, hcut⟩ : ∃ c, c = cutIn cur (k * 10) ds := ⟨_, rfl⟩
          rw [← hcut] at hG
          have hlo := HLO.out.1
          have HPg : Hid (PuR w #[.slice a n c] es 26 33 (Y2.setRow g cut) ∧ Blk (Y2.setRow g cut) X #[.slice (some ⟨g, 0, none⟩) n kc] 26) := ⟨HPf.out.1.setRow (by omega) _, HPf.out.2.setRowOther (by omega)⟩
          have HQ : Hid (∃ F1, RdL enK (Y2.setRow g cut) (some ⟨g, 0, none⟩) n (x.list.set k (y.add e)) F1 ∧ Capd (some ⟨g, 0, none⟩) n kc ∧ Own (w.heap.size + 3) (Y2.setRow g cut) F1) := by
            obtain ⟨q1, d1, F1, e1, rL, oL, hcp⟩ := hG.done (by rw [List.length_set]; exact HN.out)
            injection e1 with e1 _ e3
            subst e1 e3
            exact ⟨F1, rL, hcp, oL.mono hlo⟩
          clear hG hin hge hfit hd11 hgX hXY hlo
          refine op_storePart 33 g (k * 10) cur ds cut 33 HC.out.1 rfl rfl rfl rfl (by rw [HC.out.2.2.1]; exact infoEnG2) HC.out.2.1 HC.out.2.2.2.1 hcut.symm ⟨_, by simp [Act.put]; rfl, hK _ _ ⟨⟨HPg.out.1.en, HPg.out.2⟩, ?_⟩⟩
          clear hK
          refine wpAnyH_done (by kernel_rfl) ?_ _
          obtain ⟨YZ, hYZ⟩ : ∃ Z, Z = Y2.setRow g cut := ⟨_, rfl⟩
          rw [← hYZ] at HQ HPg ⊢
          clear hYZ hcut HC HPf
          obtain ⟨F1, rL, hcp, oL⟩ := HQ.out
          have HP9 : Hid (PuR w #[.slice a n c] es 26 33 YZ ∧ Blk YZ X #[.slice (some ⟨g, 0, none⟩) n kc] 26 ∧ RdL enK YZ (some ⟨g, 0, none⟩) n (x.list.set k (y.add e)) F1 ∧ Own (w.heap.size + 3) YZ F1 ∧ Capd (some ⟨g, 0, none⟩) n kc) := ⟨HPg.out.1, HPg.out.2, rL, oL, hcp⟩
          clear rL hcp oL HPg HQ
          go_wp2_with (first | go_skip | (with_reducible refine stopLoad 26 rfl ?_))
          refine load_any 26 X #[(.slice (some ⟨g, 0, none⟩) n kc)] 26 _ HP9.out.2.1 rfl rfl rfl Tryz.underlying26 rfl (rwSize rfl) ?_
          go_wp2_with (first | go_skip | (with_reducible refine stopStore 26 rfl ?_))
          refine store_known 26 (w.heap.size + 1 + 1) _ #[(.slice (some ⟨g, 0, none⟩) n kc)] 26 HP9.out.1.res rfl rfl rfl rfl (rwSize rfl) rfl (by simp [Value.oneCell']) ?_
          go_wp2
          refine bodyPost_ret (results_row_tmp Tryz.results9 _ _ (w.heap.size + 1 + 1) _ _ _ _ rfl HP9.out.1.res.setRow Tryz.underlying26 rfl (rwSize rfl)) rfl ?_
          rw [HV.out]
          have nr : w.heap.size + 1 + 1 ∉ F1 := fun hx => by have := HP9.out.2.2.2.1.ge _ hx; omega
          exact ⟨_, F1, rfl, ⟨_, _, _, rfl, HP9.out.2.2.1.agree (Agree.row nr _), HP9.out.2.2.2.2⟩, (HP9.out.2.2.2.1.agree (Agree.row nr _)).mono (by omega), below_setRow HP9.out.1.bel (by omega) _⟩

end Go.Proofs.YtillnoeailnnfaaGreat
