/- Several texts of mine, laid together. No statement of the seat is proved here. -/
import Derived.Test.YtbmbmnhamogghapSpCut
import Derived.Deep.RegionHeld3
import Derived.Laws.StructEq
import Derived.Test.YtbmbmnhamogghapItModel
import Derived.Test.YtbmbmnhamogghapSkSameI
import Derived.Test.YtbmbmnhamogghapItVar
import Derived.Test.YtbmbmnhamogghapItSameS
/- The walk through the program's going through two sets. No statement of the seat is proved here. -/
namespace Go.Proofs.Ytbmbmnhamogghap
open Go.RowKit
theorem RdP.move {w W : World} {B : Nat} {a : Option Addr} {len : Nat} {ps : Sp} {F : List Nat} (h : RdP w a len ps F) (hF : ∀ b ∈ F, b < B) (h1 : Below B w W) : RdP W a len ps F := h.agree (fun b hb => h1.block b (hF b hb))
theorem RdP.back {w W : World} {B : Nat} {a : Option Addr} {len : Nat} {ps : Sp} {F : List Nat} (h : RdP W a len ps F) (hF : ∀ b ∈ F, b < B) (h1 : Below B w W) : RdP w a len ps F := h.agree (fun b hb => (h1.block b (hF b hb)).symm)
theorem LayAt.below {w W : World} {B n : Nat} {v0 v : Value} {o : Sp} {xs : List Value} (h : LayAt w B v0 v o W) (h0 : w.ownsRow B 85 2 v0 n xs) (hB : B ≤ w.heap.size) : Below B w W :=
  ⟨h.grown.os, h.grown.tape, h.grown.output, h.grown.size, fun k hk => h.grown.block k (by omega) (fun e => by have := (h0.lt k e.symm).1; omega)⟩
/-- Midway in a round: the set that is made, the span's box. -/
structure MidB (w : World) (nb : Nat) (x y : Int) (v : Value) (o : Sp) (W : World) : Prop where
  own : W.ownsRow w.heap.size 85 2 v o.length ((flat o).map (Value.int .i64))
  bel : Below w.heap.size w W
  box : Blk W nb #[.int .i64 x, .int .i64 y] 85
  ne : some nb ≠ v.ownBlock
theorem MidB.alloc {w : World} {nb : Nat} {x y : Int} {v : Value} {o : Sp} {W : World} (h : MidB w nb x y v o W) (ob : Obj) : MidB w nb x y v o (W.alloc ob) := ⟨h.own.alloc _, Below.allocW _ h.bel (Nat.le_refl _), h.box.alloc _, h.ne⟩
theorem MidB.drew {w : World} {nb : Nat} {x y : Int} {v : Value} {o : Sp} {W : World} (h : MidB w nb x y v o W) : MidB w nb x y v o W.drew := ⟨⟨h.own.1, h.own.2⟩, h.bel.drew, h.box, h.ne⟩
/-- Behind the first laying: what lay beside lies there still. -/
structure AftB (w : World) (nb : Nat) (x y : Int) (v v' : Value) (o' : Sp) (W W' : World) : Prop where
  mid : MidB w nb x y v' o' W'
  old : ∀ g cs t, Blk W g cs t → some g ≠ v.ownBlock → Blk W' g cs t ∧ some g ≠ v'.ownBlock
theorem AftB.of {w : World} {nb : Nat} {x y : Int} {v v' : Value} {o o' : Sp} {W W' : World} (h : MidB w nb x y v o W) (k : LayAt W w.heap.size v v' o' W') : AftB w nb x y v v' o' W W' := by
  have hold : ∀ g cs t, Blk W g cs t → some g ≠ v.ownBlock → Blk W' g cs t ∧ some g ≠ v'.ownBlock := fun g cs t hb hne => by
    refine ⟨hb.agree (k.grown.block g hb.lt hne), ?_⟩
    rcases k.fresh with e | e
    · rw [e]; exact hne
    · intro e2; have := e g e2.symm; have := hb.lt; omega
  obtain ⟨h1, h2⟩ := hold _ _ _ h.box h.ne
  exact ⟨⟨k.own, h.bel.trans (k.below h.own h.bel.size), h1, h2⟩, hold⟩
/-- Ahead of the second laying: the one span's slice. -/
structure TwoB (w : World) (nb : Nat) (x y : Int) (v' : Value) (o' : Sp) (g : Nat) (W : World) : Prop where
  mid : MidB w nb x y v' o' W
  one : Blk W g #[.int .i64 x, .int .i64 y] 85
  ne : some g ≠ v'.ownBlock
theorem AftB.two {w : World} {nb : Nat} {x y : Int} {v v' : Value} {o o' : Sp} {W W' : World} (h : AftB w nb x y v v' o' (W.alloc (.cells #[.int .i64 x, .int .i64 y] 85)).drew W') (k : MidB w nb x y v o W) : TwoB w nb x y v' o' W.heap.size W' := by
  obtain ⟨h1, h2⟩ := h.old _ _ _ (Blk.made W _ _) (fun e => by have := (k.own.lt _ e.symm).2; omega)
  exact ⟨h.mid, h1, h2⟩
theorem AftB.new {w : World} {nb : Nat} {x y : Int} {v v' : Value} {o' : Sp} {W W' : World} (h : AftB w nb x y v v' o' W W') : TwoB w nb x y v' o' W'.heap.size (W'.alloc (.cells #[.int .i64 x, .int .i64 y] 85)) :=
  ⟨h.mid.alloc _, Blk.made _ _ _, fun e => by have := (h.mid.own.lt _ e.symm).2; omega⟩
theorem rdP_one {W : World} {g : Nat} {x y : Int} {t : TypeId} (h : Blk W g #[.int .i64 x, .int .i64 y] t) : RdP W (some ⟨g, 0, none⟩) 1 [(x, y)] [g] :=
  ⟨rfl, rdI_tcv (xs := flat [(x, y)]) (by simpa [tcv, flat] using h) (by simp [flat]) (by omega)⟩
/-- Ahead of a round. -/
structure BInv (w : World) (ps qs : Sp) (k : Nat) (o rs : Sp) (aa : Option Addr) (la ca : Nat) (F : List Nat) (v : Value) (wr : World) : Prop where
  own : wr.ownsRow w.heap.size 85 2 v o.length ((flat o).map (Value.int .i64))
  bel : Below w.heap.size w wr
  rd : RdP w aa la rs F
  lt : ∀ b ∈ F, b < w.heap.size
  cap : la ≤ ca
  len : o.length + rs.length ≤ ps.length + k
  ino : ∀ p ∈ o, InB p
  ina : ∀ p ∈ rs, InB p
  eq : both rs (qs.drop k) o = both ps qs []
set_option maxRecDepth 100000 in
set_option maxHeartbeats 8000000 in
theorem spansOfBoth_any (a b : Option Addr) (la lb ca cb : Nat) (ps qs : Sp) (F G : List Nat) (w : World) (h : RdP w a la ps F) (k : RdP w b lb qs G) (hlen : la + lb ≤ 2097153) (hca : la ≤ ca) (h1 : ∀ p ∈ ps, InB p) (h2 : ∀ p ∈ qs, InB p) :
    Calls Try.prog 92 #[.slice a la ca, .slice b lb cb] w fun e w' => NewP w (both ps qs []) e w' := by
  have HL : Hid (ps.length = la ∧ qs.length = lb) := ⟨h.length, k.length⟩
  have HI : Hid (∀ p ∈ qs, InB p) := h2
  have HP0 : Hid (BInv w ps qs 0 [] ps a la ca F (.slice none 0 0) w) := ⟨⟨by simp [flat], .inl ⟨rfl, rfl⟩⟩, Below.refl _ _, h, h.lt, hca, by simp, by simp, h1, rfl⟩
  have HCB : Hid (lb = 0 ∨ ∃ b1 o1, b = some ⟨b1, o1, none⟩ ∧ b1 < w.heap.size ∧ SpCells w b1 o1 lb qs) := cells_of k
  clear h k h1 h2
  go_enter Try.func92, Try.ntmps92
  go_wp2
  go_loopw [0, 5, 12] (fun av v i wr => ∃ (k : Nat) (o rs : Sp) (aa : Option Addr) (la ca : Nat) (F : List Nat), k ≤ lb ∧ i = .int .i64 k ∧ av = .slice aa la ca ∧ Hid (BInv w ps qs k o rs aa la ca F v wr)) (fun _ _ i _ => lb - (intOf i).toNat)
  case atStart => exact ⟨0, [], ps, a, la, ca, F, by omega, rfl, rfl, HP0⟩
  case round =>
    clear HP0
    obtain ⟨k, o, rs, aa, l0, c0, F0, hk, rfl, rfl, HP⟩ := hrel
    by_cases hlt : k < lb
    · have hcb := HCB.out
      rcases hcb with h0 | ⟨b1, o1, rfl, hbw, hc⟩
      · omega
      obtain ⟨x, hx⟩ : ∃ x, x = (qs.at k).1 := ⟨_, rfl⟩
      obtain ⟨y, hy⟩ : ∃ x, x = (qs.at k).2 := ⟨_, rfl⟩
      have e := hc k hlt
      have hql : k < qs.length := by rw [HL.out.2]; exact hlt
      have HXY : Hid (qs.at k = (x, y)) := by rw [hx, hy]; rfl
      have HINX : Hid (InB (x, y)) := by rw [← HXY.out]; exact HI.out _ (Sp.at_mem hql)
      rw [HXY.out] at e
      have d1 : wr.cell? ⟨b1, o1 + k * 2, none⟩ = some (.int .i64 x) := (HP.out.bel.cell (by exact hbw)).trans e.1
      have d2 : wr.cell? ⟨b1, o1 + k * 2 + 1, none⟩ = some (.int .i64 y) := (HP.out.bel.cell (by exact hbw)).trans e.2
      have hI : (k : Int) < (lb : Int) := by omega
      have HLN : Hid (o.length + rs.length ≤ 2097153) := by have := HP.out.len; have := HL.out; show _ ≤ _; omega
      have HLA : Hid (rs.length = l0) := HP.out.rd.length
      clear e hx hy hc
      go_wp2_with fail
      have HWA : Hid (Below w.heap.size w (wr.alloc (.cells #[.int .i64 x, .int .i64 y] 85))) := Below.allocW _ HP.out.bel (Nat.le_refl _)
      refine (cutAt_any aa l0 c0 rs x F0 _ (HP.out.rd.move HP.out.lt HWA.out) (by have := HLN.out; have := HLA.out; omega) HP.out.cap).mono ?_
      rintro e w2 ⟨a1, l1, c1, a2, l2, c2, F1, F2, rfl, r1, r2, s1, s2, hcp2, hq⟩
      obtain ⟨cn, hcn⟩ : ∃ c, c = cutN rs x := ⟨_, rfl⟩
      rw [← hcn] at r1 r2
      have HQ1 : Hid (RdP w a1 l1 (rs.take cn) F1 ∧ (∀ b ∈ F1, b < w.heap.size) ∧ l1 ≤ rs.length) := ⟨r1.back (fun b hb => HP.out.lt b (s1 b hb)) HWA.out, fun b hb => HP.out.lt b (s1 b hb), by have e := r1.length; rw [List.length_take] at e; omega⟩
      have HQ2 : Hid (RdP w a2 l2 (rs.drop cn) F2 ∧ (∀ b ∈ F2, b < w.heap.size) ∧ l2 ≤ c2) := ⟨r2.back (fun b hb => HP.out.lt b (s2 b hb)) HWA.out, fun b hb => HP.out.lt b (s2 b hb), hcp2⟩
      have HM : Hid (MidB w wr.heap.size x y u5 o w2) := by
        obtain ⟨m, rfl⟩ := hq
        have hal := HP.out.own.alloc (.cells #[.int .i64 x, .int .i64 y] 85)
        exact ⟨⟨hal.1, hal.2⟩, ⟨HWA.out.os, HWA.out.tape, HWA.out.output, HWA.out.size, HWA.out.block⟩, Blk.made wr _ _, fun e => by have := (HP.out.own.lt _ e.symm).2; omega⟩
      have HCN : Hid (cn = cutN rs x) := hcn
      have q1 : w2.cell? ⟨wr.heap.size, 0, none⟩ = some (.int .i64 x) := HM.out.box.cell 0
      have q2 : w2.cell? ⟨wr.heap.size, 1, none⟩ = some (.int .i64 y) := HM.out.box.cell 1
      clear r1 r2 s1 s2 hcp2 hq hcn HWA d1 d2
      have HC1 : Hid (∀ W, MidB w wr.heap.size x y u5 o W → Calls Try.prog 112 #[u5, .slice a1 l1 c1] W (fun e w' => ∃ v', e = .returned v' ∧ AftB w wr.heap.size x y u5 v' (lay o (rs.take cn)) W w')) := by
        intro W hW
        refine (laid_any w.heap.size u5 o a1 l1 c1 (rs.take cn) F1 W hW.own hW.bel.size (HQ1.out.1.move HQ1.out.2.1 hW.bel) (fun b hb e => by have := HQ1.out.2.1 b hb; have := (hW.own.lt _ e.symm).1; omega) (by have := HLN.out; have := HQ1.out.2.2; omega) HP.out.ino (fun p hp => HP.out.ina p (List.mem_of_mem_take hp))).mono ?_
        rintro e w' ⟨v, rfl, hl⟩
        exact ⟨v, rfl, AftB.of hW hl⟩
      have HC2 : Hid (∀ v' W g, TwoB w wr.heap.size x y v' (lay o (rs.take cn)) g W → Calls Try.prog 112 #[v', .slice (some ⟨g, 0, none⟩) 1 1] W (fun e w' => ∃ v'', e = .returned v'' ∧ MidB w wr.heap.size x y v'' (lay1 (lay o (rs.take cn)) (x, y)) w')) := by
        intro v' W g hW
        refine (laid_any w.heap.size v' (lay o (rs.take cn)) (some ⟨g, 0, none⟩) 1 1 [(x, y)] [g] W hW.mid.own hW.mid.bel.size (rdP_one hW.one) (fun b hb => by rw [List.mem_singleton.1 hb]; exact hW.ne) (by have e := lay_length (rs.take cn) o; have := HLN.out; rw [List.length_take] at e; omega) (lay_inb HP.out.ino (fun p hp => HP.out.ina p (List.mem_of_mem_take hp))) (fun p hp => by rw [List.mem_singleton.1 hp]; exact HINX.out)).mono ?_
        rintro e w' ⟨v, rfl, hl⟩
        exact ⟨v, rfl, (AftB.of hW.mid hl).mid⟩
      have HFIN : Hid (∀ v' W, MidB w wr.heap.size x y v' (lay1 (lay o (rs.take cn)) (x, y)) W → BInv w ps qs (k + 1) (lay1 (lay o (rs.take cn)) (x, y)) (rs.drop cn) a2 l2 c2 F2 v' W) := by
        intro v' W hW
        refine ⟨hW.own, hW.bel, HQ2.out.1, HQ2.out.2.1, HQ2.out.2.2, ?_, lay1_inb (lay_inb HP.out.ino (fun p hp => HP.out.ina p (List.mem_of_mem_take hp))) HINX.out, fun p hp => HP.out.ina p (List.mem_of_mem_drop hp), ?_⟩
        · have e1 := lay1_length (lay o (rs.take cn)) (x, y)
          have e2 := lay_length (rs.take cn) o
          have e3 := HP.out.len
          rw [List.length_take] at e2
          rw [List.length_drop]
          omega
        · have e := HP.out.eq
          rw [drop_at hql, HXY.out, both] at e
          rw [HCN.out]
          exact e
      have HKE : Hid (∀ W, Blk W wr.heap.size #[.int .i64 x, .int .i64 y] 85 → W.cell? ⟨wr.heap.size, 0, none⟩ = some (.int .i64 x) ∧ W.cell? ⟨wr.heap.size, 1, none⟩ = some (.int .i64 y)) := fun W hW => ⟨hW.cell 0, hW.cell 1⟩
      have HMD : Hid (MidB w wr.heap.size x y u5 o w2.drew) := HM.out.drew
      have HMA : Hid (MidB w wr.heap.size x y u5 o (w2.alloc (.cells #[.int .i64 x, .int .i64 y] 85)).drew) := (HM.out.alloc _).drew
      go_wp2
      go_region_held3 (fun W => W.cell? ⟨wr.heap.size, 0, none⟩ = some (.int .i64 x) ∧ W.cell? ⟨wr.heap.size, 1, none⟩ = some (.int .i64 y))
        ((refine HKE.out _ ?_; first | (with_reducible exact k2.box) | (with_reducible exact k1.mid.box) | (with_reducible exact k1.mid.box.alloc _) | (with_reducible exact HMD.out.box) | (with_reducible exact HMA.out.box)))
        (first
          | (have zz := k1; clear zz; go_at_call 112; refine (HC2.out _ _ _ (by first | (with_reducible exact k1.two HM.out) | (with_reducible exact k1.new))).mono ?_; rintro e w4 ⟨v4, rfl, k2⟩)
          | (go_at_call 112; refine (HC1.out _ (by first | (with_reducible exact HMD.out) | (with_reducible exact HMA.out))).mono ?_; rintro e w3 ⟨v3, rfl, k1⟩))
      all_goals
        have HB2 := HFIN.out _ _ k2
        have HB3 : Hid (BInv w ps qs (k + 1) (lay1 (lay o (rs.take cn)) (x, y)) (rs.drop cn) a2 l2 c2 F2 v4 w4) := HB2
        clear HB2 k2 k1 HC1 HC2 HKE HFIN q1 q2 HMD HMA HM
        go_wp2
        go_roundw
      all_goals first | exact ⟨k + 1, _, _, a2, l2, c2, F2, by omega, by go_num, rfl, HB3⟩ | (simp [intOf]; omega)
    · obtain rfl : k = lb := by omega
      have HE : Hid (lay o rs = both ps qs []) := by
        have := HP.out.eq
        rw [List.drop_eq_nil_of_le (by rw [HL.out.2]; omega)] at this
        exact this
      go_wp2_with fail
      refine (laid_any w.heap.size u5 o aa l0 c0 rs F0 _ HP.out.own HP.out.bel.size (HP.out.rd.move HP.out.lt HP.out.bel) (fun b hb e => by have := HP.out.lt b hb; have := (HP.out.own.lt _ e.symm).1; omega) (by have := HP.out.len; have := HL.out; have := HP.out.rd.length; omega) HP.out.ino HP.out.ina).mono ?_
      rintro e w2 ⟨v, rfl, hl⟩
      have HV : Hid (LayAt wr w.heap.size u5 v (lay o rs) w2 ∧ Below w.heap.size w w2) := ⟨hl, HP.out.bel.trans (hl.below HP.out.own HP.out.bel.size)⟩
      clear hl
      go_wp2
      go_ret
      obtain ⟨a', c', F', rfl, hr, ho, hnn⟩ := rdP_of_own HV.out.1.own
      rw [← HE.out]
      exact ⟨_, _, _, F', rfl, hr, ho, HV.out.2, hnn⟩
end Go.Proofs.Ytbmbmnhamogghap
/- The walks through the program's copying of a set, and the library's comparing of two. No statement of the seat is proved here. -/
namespace Go.Proofs.Ytbmbmnhamogghap
open Go.RowKit
theorem run_copy_row2 {P : Program} (w : World) (dT sT ty elem : TypeId) (g len dCap : Nat) (a : Addr) (sCap : Nat) (cur : Array Value) (t : TypeId) (cs : List Value)
    (hu : P.underlying dT = some (.slice elem)) (hs : (P.info? elem).map (·.size) = some 2)
    (hg : w.heap[g]? = some (.cells cur t (0, 0))) (hn : cs.length = len * 2)
    (hsrc : ∀ j v, cs[j]? = some v → w.cell? (a.add j) = some v) (hfit : cs.length ≤ cur.size) (h1 : ∀ v ∈ cs, v.oneCell' = true) :
    (Builtin.copy_ #[dT, sT] ty #[.slice (some ⟨g, 0, none⟩) len dCap, .slice (some a) len sCap]).run P w =
      .ok (goInt len) (w.setRow g (cs ++ cur.toList.drop cs.length).toArray) := by
  have hl := run_loadCells_list (P := P) w a cs hsrc
  have hst := run_storeCells_at P g 0 t cs 0 cur w hg (by simpa using hfit) h1
  rw [hn] at hl
  cases hq : P.info? elem with
  | none => simp [hq] at hs
  | some i =>
    have hi : i.size = 2 := by simpa [hq] using hs
    simp [Builtin.copy_, run_underlying hu, Builtin.lenOf, Builtin.firstCells, sizeOf, typeInfo, hq, hi, hl, hst]
theorem run_copy_none2 {P : Program} (w : World) (dT sT ty elem : TypeId) (d a : Option Addr) (dCap sCap : Nat) (hu : P.underlying dT = some (.slice elem)) (hs : (P.info? elem).map (·.size) = some 2) :
    (Builtin.copy_ #[dT, sT] ty #[.slice d 0 dCap, .slice a 0 sCap]).run P w = .ok (goInt 0) w := by
  cases hq : P.info? elem with
  | none => simp [hq] at hs
  | some i =>
    have hl : ∀ (x : Addr), (loadCells x 0).run P w = .ok #[] w := fun x => by simpa using run_loadCells_list (P := P) w x [] (by simp)
    cases d <;> cases a <;> simp [Builtin.copy_, run_underlying hu, Builtin.lenOf, Builtin.firstCells, sizeOf, typeInfo, hq, storeCells, hl]
theorem wpList_copy_none2 {P : Program} {w : World} {ops : Array Oper} {rest : List Oper} {o : Oper} {a : Act} {Q : Exit → Act → World → Prop} (hgd : o.guard = none) (d s : Operand) (dT sT : TypeId)
    (ho : o.op = .call { callee := .builtin .copy, args := #[d, s], argTypes := #[dT, sT] }) (elem : TypeId) (hu : P.underlying dT = some (.slice elem)) (hsz : (P.info? elem).map (·.size) = some 2)
    (dp sp : Option Addr) (dCap sCap : Nat) (hd : a.eval d = .slice dp 0 dCap) (hs : a.eval s = .slice sp 0 sCap)
    (h : wpList P ops Q rest (a.put o.dst (goInt 0)) w) : wpList P ops Q (o :: rest) a w := by
  refine wpList_plain hgd fun K hK => ?_
  have hrun := run_copy_none2 (P := P) w dT sT o.type elem dp sp dCap sCap hu hsz
  unfold Oper.wp
  simp [execOp, ho, resolve, invoke, builtin, hd, hs, hrun, Result.andThen]
  exact hK _ _ h
theorem wpList_copy_own2 {P : Program} {w : World} {ops : Array Oper} {rest : List Oper} {o : Oper} {a : Act} {Q : Exit → Act → World → Prop} (hgd : o.guard = none) (d s : Operand) (dT sT : TypeId)
    (ho : o.op = .call { callee := .builtin .copy, args := #[d, s], argTypes := #[dT, sT] }) (elem : TypeId) (hu : P.underlying dT = some (.slice elem)) (hsz : (P.info? elem).map (·.size) = some 2)
    (g len dCap : Nat) (ad : Addr) (sCap : Nat) (hd : a.eval d = .slice (some ⟨g, 0, none⟩) len dCap) (hs : a.eval s = .slice (some ad) len sCap)
    (cur : Array Value) (t : TypeId) (hg : w.heap[g]? = some (.cells cur t (0, 0))) (cs : List Value) (hn : cs.length = len * 2)
    (hsrc : ∀ j v, cs[j]? = some v → w.cell? (ad.add j) = some v) (hfit : cs.length ≤ cur.size) (h1 : ∀ v ∈ cs, v.oneCell' = true)
    (h : wpList P ops Q rest (a.put o.dst (goInt len)) (w.setRow g (cs ++ cur.toList.drop cs.length).toArray)) : wpList P ops Q (o :: rest) a w := by
  refine wpList_plain hgd fun K hK => ?_
  have hrun := run_copy_row2 (P := P) w dT sT o.type elem g len dCap ad sCap cur t cs hu hsz hg hn hsrc hfit h1
  unfold Oper.wp
  simp [execOp, ho, resolve, invoke, builtin, hd, hs, hrun, Result.andThen]
  exact hK _ _ h
theorem infoSpan2 : (Try.prog.info? 85).map (·.size) = some 2 := by kernel_rfl
theorem flat_one {ps : Sp} : ∀ v ∈ (flat ps).map (Value.int .i64), v.oneCell' = true := by
  intro v hv
  obtain ⟨x, _, rfl⟩ := List.mem_map.1 hv
  rfl
set_option maxRecDepth 200000 in
set_option maxHeartbeats 2000000 in
theorem copiedSpans_any (a : Option Addr) (len cap : Nat) (ps : Sp) (F : List Nat) (w : World) (h : RdP w a len ps F) (hlen : len ≤ 2097152) :
    Calls Try.prog 95 #[.slice a len cap] w fun e w' => NewP w ps e w' := by
  obtain ⟨i0, hi, hz0, hz1, hz2⟩ := info_parts infoSpan
  have HL : Hid (ps.length = len) := h.length
  have HR : Hid (RdP w a len ps F) := h
  rcases h.cells with ⟨rfl, _, rfl⟩ | ⟨b, off, hp, rfl, _, _⟩
  · clear h
    go_enter Try.func95, Try.ntmps95
    go_wp2_with (at_make; refine wpList_make_full _ rfl _ _ 31 rfl w.heap.size 85 i0 (.agg #[.int .i64 0, .int .i64 0]) 2 Try.underlying31 hi hz0 hz1 .i64 .i64 _ _ 0 rfl rfl (by simp) (by simp) (by omega) (by unfold maxLen; omega) (Nat.le_refl _) ?_; intro w1 hown hgrow)
    have hcp := run_copy_none2 (P := Try.prog) w1 31 31 3 85 (some ⟨w.heap.size, 0, none⟩) a 0 cap Try.underlying31 infoSpan2
    rw [hcp]
    go_wp2
    go_ret
    exact ⟨_, 0, 0, [], rfl, RdP.nil, Own.nil, (Below.refl _ _).grown hgrow (Nat.le_refl _) (fun k hk => by cases hk), (fun e => by cases e), Nat.le_refl _⟩
  · clear h
    go_enter Try.func95, Try.ntmps95
    go_wp2_with (at_make; refine wpList_make_full _ rfl _ _ 31 rfl w.heap.size 85 i0 (.agg #[.int .i64 0, .int .i64 0]) 2 Try.underlying31 hi hz0 hz1 .i64 .i64 _ _ len rfl rfl rfl rfl (by rw [hz2]; omega) (by unfold maxLen; omega) (Nat.le_refl _) ?_; intro w1 hown hgrow)
    have HM : Hid (Blk w1 w.heap.size (tcv (List.replicate (2 * len) 0)) 85 ∧ Below w.heap.size w w1) := by
      refine ⟨?_, (Below.refl _ _).grown hgrow (Nat.le_refl _) (fun k hk => by cases hk)⟩
      have e := own_blk hown hp
      have e2 : (madeCells (Value.agg #[Value.int IntKind.i64 0, Value.int IntKind.i64 0]).cells (len * 2)).toList.toArray = tcv (List.replicate (2 * len) 0) := made_flat len
      rw [← e2]
      exact e
    clear hown hgrow
    have HLF : Hid ((flat ps).length = 2 * len) := by rw [flat_length, HL.out]; rfl
    have hcp := run_copy_row2 (P := Try.prog) w1 31 31 3 85 w.heap.size len len ⟨b, off, none⟩ cap _ 85 ((flat ps).map (Value.int .i64)) Try.underlying31 infoSpan2 HM.out.1 (by have := HLF.out; simp; omega) (cells_flat (HR.out.below HM.out.2) hp) (by have := HLF.out; simp [tcv]; omega) flat_one
    have hrow : ((flat ps).map (Value.int .i64) ++ (tcv (List.replicate (2 * len) 0)).toList.drop ((flat ps).map (Value.int .i64)).length).toArray = tcv (flat ps) := by
      have := HLF.out
      rw [List.drop_eq_nil_of_le (by simp [tcv]; omega), List.append_nil]
      rfl
    rw [hrow] at hcp
    have HW : Hid (Blk (w1.setRow w.heap.size (tcv (flat ps))) w.heap.size (tcv (flat ps)) 85 ∧ Below w.heap.size w (w1.setRow w.heap.size (tcv (flat ps)))) := ⟨HM.out.1.setRow, below_setRow HM.out.2 (Nat.le_refl _) _⟩
    clear hrow
    rw [hcp]
    go_wp2
    go_ret
    exact ⟨_, len, len, [w.heap.size], rfl, ⟨HL.out, rdI_tcv HW.out.1 HLF.out (by omega)⟩, ⟨by simp, fun b hb o => by simp at hb; subst hb; exact HW.out.1.frozen o, by simp⟩, HW.out.2, (fun e => by cases e), Nat.le_refl _⟩
theorem sp_eta (p : Int × Int) : p = (p.1, p.2) := rfl
set_option maxRecDepth 200000 in
set_option maxHeartbeats 2000000 in
theorem slEqualP_any (a b : Option Addr) (la lb ca cb : Nat) (xs ys : Sp) (F G : List Nat) (w : World) (ha : RdP w a la xs F) (hb : RdP w b lb ys G) (hla : la ≤ 140737488355328) (hlb : lb ≤ 140737488355328) :
    Calls Try.prog 64 #[.slice a la ca, .slice b lb cb] w fun e w' => e = .returned (.bool (decide (xs = ys))) ∧ QuietTo w w' := by
  have Hx : Hid (xs.length = la) := ha.length
  have Hy : Hid (ys.length = lb) := hb.length
  by_cases hl : la = lb
  · subst hl
    have hbne : ((la : Int) != (la : Int)) = false := by simp
    have HCA : Hid (la = 0 ∨ ∃ b1 o1, a = some ⟨b1, o1, none⟩ ∧ b1 < w.heap.size ∧ SpCells w b1 o1 la xs) := cells_of ha
    have HCB : Hid (la = 0 ∨ ∃ b1 o1, b = some ⟨b1, o1, none⟩ ∧ b1 < w.heap.size ∧ SpCells w b1 o1 la ys) := cells_of hb
    clear ha hb
    go_enter Try.func64, Try.ntmps64
    go_wp2
    go_loopw [13] (fun i wr => ∃ k : Nat, k ≤ la ∧ i = .int .i64 k ∧ Hid (xs.take k = ys.take k) ∧ Hid (QuietTo w wr)) (fun i _ => la - (intOf i).toNat)
    case atStart => exact ⟨0, by omega, rfl, rfl, QuietTo.refl _⟩
    case round =>
      obtain ⟨k, hk, rfl, HT, HQ⟩ := hrel
      by_cases hlt : k < la
      · rcases HCA.out with h0 | ⟨b1, o1, rfl, hbw1, hc1⟩
        · omega
        rcases HCB.out with h0 | ⟨b2, o2, rfl, hbw2, hc2⟩
        · omega
        obtain ⟨x, hx⟩ : ∃ x, x = (xs.at k).1 := ⟨_, rfl⟩
        obtain ⟨y, hy⟩ : ∃ x, x = (xs.at k).2 := ⟨_, rfl⟩
        obtain ⟨x', hx'⟩ : ∃ x, x = (ys.at k).1 := ⟨_, rfl⟩
        obtain ⟨y', hy'⟩ : ∃ x, x = (ys.at k).2 := ⟨_, rfl⟩
        have e1 := hc1 k hlt
        have e2 := hc2 k hlt
        rw [← hx, ← hy] at e1
        rw [← hx', ← hy'] at e2
        have d1 : wr.cell? ⟨b1, o1 + k * 2, none⟩ = some (.int .i64 x) := (HQ.out.cell _).trans e1.1
        have d2 : wr.cell? ⟨b1, o1 + k * 2 + 1, none⟩ = some (.int .i64 y) := (HQ.out.cell _).trans e1.2
        have d3 : wr.cell? ⟨b2, o2 + k * 2, none⟩ = some (.int .i64 x') := (HQ.out.cell _).trans e2.1
        have d4 : wr.cell? ⟨b2, o2 + k * 2 + 1, none⟩ = some (.int .i64 y') := (HQ.out.cell _).trans e2.2
        have HE : Hid ((x = x' ∧ y = y') ↔ xs[k]?.getD (0, 0) = ys[k]?.getD (0, 0)) := by rw [hx, hy, hx', hy']; exact Prod.ext_iff.symm
        have hI : (k : Int) < (la : Int) := by omega
        clear e1 e2 hx hy hx' hy' hc1 hc2
        by_cases c : x = x' ∧ y = y'
        · have e1 : (x == x') = true := by simp [c.1]
          have e2 : (y == y') = true := by simp [c.2]
          have HT2 : Hid (xs.take (k + 1) = ys.take (k + 1)) := eqP_step (by rw [Hx.out, Hy.out]) (by rw [Hx.out]; exact hlt) HT.out (HE.out.1 c)
          clear c
          go_wp2
          go_quiet (fail)
          go_wp2
          go_roundw
          case rel => exact ⟨k + 1, by omega, by go_num, HT2, HQ.out.drewN _⟩
          case measure => simp [intOf]; omega
        have HV : Hid (decide (xs = ys) = false) := neP_of_at (fun e => c (HE.out.2 e))
        by_cases c1 : x = x'
        · have e1 : (x == x') = true := by simp [c1]
          have e2 : (y == y') = false := by simpa using (fun e => c ⟨c1, e⟩)
          clear c c1
          go_wp2
          go_quiet (fail)
          go_wp2
          go_ret
          exact ⟨ret_bool HV.out.symm, HQ.out.drewN _⟩
        · have e1 : (x == x') = false := by simpa using c1
          clear c c1
          go_wp2
          go_quiet (fail)
          go_wp2
          go_ret
          exact ⟨ret_bool HV.out.symm, HQ.out.drewN _⟩
      · obtain rfl : k = la := by omega
        go_wp2
        go_ret
        exact ⟨ret_bool (eqP_end Hx.out Hy.out HT.out).symm, HQ.out⟩
  · have hbne : ((la : Int) != (lb : Int)) = true := by simp; omega
    have e : decide (xs = ys) = false := by
      rw [decide_eq_false_iff_not]; intro e; subst e; exact hl (Hx.out.symm.trans Hy.out)
    clear ha hb
    go_enter Try.func64, Try.ntmps64
    go_wp2
    go_ret
    exact ⟨ret_bool e.symm, QuietTo.refl _⟩
end Go.Proofs.Ytbmbmnhamogghap
/- The walk through EntrySame. No statement of the seat is proved here. -/
namespace Go.Proofs.Ytbmbmnhamogghap
open Go.RowKit
set_option maxRecDepth 200000 in
set_option maxHeartbeats 4000000 in
theorem entrySameImpl_any (v u : Value) (x y : En) (F F' G G' : List Nat) (w : World) (h : RdEn w v x F F') (k : RdEn w u y G G') (hx : x.sk.wide) (hy : y.sk.wide) (hlx : x.ids.length ≤ 2097152) (hly : y.ids.length ≤ 2097152) :
    Calls Try.prog 27 #[v, u] w fun e w' => e = .returned (.bool (decide (x = y))) ∧ Below w.heap.size w w' := by
  obtain ⟨p, l, g, a1, n1, nc1, a2, n2, nc2, a3, n3, nc3, rfl, px, sx, _⟩ := h
  obtain ⟨q, k, j, b1, m1, mc1, b2, m2, mc2, b3, m3, mc3, rfl, py, sy, _⟩ := k
  have HX : Hid (RdSk w (.agg #[.int .i64 x.sk.count, .int .i64 x.sk.sum, .int .i64 x.sk.min, .int .i64 x.sk.max, .slice a1 n1 nc1, .slice a2 n2 nc2, .slice a3 n3 nc3]) x.sk F' ∧ RdSk w (.agg #[.int .i64 y.sk.count, .int .i64 y.sk.sum, .int .i64 y.sk.min, .int .i64 y.sk.max, .slice b1 m1 mc1, .slice b2 m2 mc2, .slice b3 m3 mc3]) y.sk G' ∧ x.sk.wide ∧ y.sk.wide) := ⟨sx, sy, hx, hy⟩
  have HP : Hid (RdP w p l x.ids F ∧ RdP w q k y.ids G ∧ l ≤ 2097152 ∧ k ≤ 2097152) := ⟨px, py, by rw [← px.length]; exact hlx, by rw [← py.length]; exact hly⟩
  have HT : Hid (_ ∧ _ ∧ _) := two_made w #[.int .i64 x.key, .int .i64 x.window, .slice p l g, .int .i64 x.sk.count, .int .i64 x.sk.sum, .int .i64 x.sk.min, .int .i64 x.sk.max, .slice a1 n1 nc1, .slice a2 n2 nc2, .slice a3 n3 nc3] #[.int .i64 y.key, .int .i64 y.window, .slice q k j, .int .i64 y.sk.count, .int .i64 y.sk.sum, .int .i64 y.sk.min, .int .i64 y.sk.max, .slice b1 m1 mc1, .slice b2 m2 mc2, .slice b3 m3 mc3] 34 34
  obtain ⟨d, hd⟩ : ∃ d, d = decide (x = y) := ⟨_, rfl⟩
  rw [← hd]
  have HD : Hid (d = decide (x = y)) := hd
  clear px py sx sy hx hy hlx hly hd
  obtain ⟨W0, hW0⟩ : ∃ W0, W0 = (w.alloc (.cells #[.int .i64 x.key, .int .i64 x.window, .slice p l g, .int .i64 x.sk.count, .int .i64 x.sk.sum, .int .i64 x.sk.min, .int .i64 x.sk.max, .slice a1 n1 nc1, .slice a2 n2 nc2, .slice a3 n3 nc3] 34)).alloc (.cells #[.int .i64 y.key, .int .i64 y.window, .slice q k j, .int .i64 y.sk.count, .int .i64 y.sk.sum, .int .i64 y.sk.min, .int .i64 y.sk.max, .slice b1 m1 mc1, .slice b2 m2 mc2, .slice b3 m3 mc3] 34) := ⟨_, rfl⟩
  have k0 := HT.out.1.cell 0
  have k1 := HT.out.1.cell 1
  have k2 := HT.out.1.cell 2
  have j0 := HT.out.2.1.cell 0
  have j1 := HT.out.2.1.cell 1
  have j2 := HT.out.2.1.cell 2
  simp only [List.getElem?_toArray, List.getElem?_cons_succ, List.getElem?_cons_zero] at k0 k1 k2 j0 j1 j2
  clear hW0 W0
  by_cases c1 : x.key = y.key
  rotate_left
  · have HV : Hid (d = false) := by show d = _; rw [HD.out]; exact dec_false (fun e => c1 (by rw [e]))
    have z1 : (x.key == y.key) = false := by simpa using c1
    clear c1
    go_enter Try.func27, Try.ntmps27
    go_wp2
    go_ret
    exact ⟨ret_bool HV.out.symm, HT.out.2.2⟩
  have z1 : (x.key == y.key) = true := by simpa using c1
  by_cases c2 : x.window = y.window
  rotate_left
  · have HV : Hid (d = false) := by show d = _; rw [HD.out]; exact dec_false (fun e => c2 (by rw [e]))
    have z2 : (x.window == y.window) = false := by simpa using c2
    clear c1 c2
    go_enter Try.func27, Try.ntmps27
    go_wp2
    go_ret
    exact ⟨ret_bool HV.out.symm, HT.out.2.2⟩
  have z2 : (x.window == y.window) = true := by simpa using c2
  have HC : Hid (x.key = y.key ∧ x.window = y.window) := ⟨c1, c2⟩
  clear c1 c2
  go_enter Try.func27, Try.ntmps27
  go_wp2_with fail
  refine (slEqualP_any p q l k g j x.ids y.ids F G _ (HP.out.1.below HT.out.2.2) (HP.out.2.1.below HT.out.2.2) (by have := HP.out.2.2; omega) (by have := HP.out.2.2; omega)).mono ?_
  rintro e w1 ⟨rfl, hq⟩
  have HB1 : Hid (Blk w1 w.heap.size #[.int .i64 x.key, .int .i64 x.window, .slice p l g, .int .i64 x.sk.count, .int .i64 x.sk.sum, .int .i64 x.sk.min, .int .i64 x.sk.max, .slice a1 n1 nc1, .slice a2 n2 nc2, .slice a3 n3 nc3] 34 ∧ Blk w1 (w.heap.size + 1) #[.int .i64 y.key, .int .i64 y.window, .slice q k j, .int .i64 y.sk.count, .int .i64 y.sk.sum, .int .i64 y.sk.min, .int .i64 y.sk.max, .slice b1 m1 mc1, .slice b2 m2 mc2, .slice b3 m3 mc3] 34 ∧ Below w.heap.size w w1) := ⟨HT.out.1.below (quiet_below hq), HT.out.2.1.below (quiet_below hq), Below.next HT.out.2.2 (quiet_below hq)⟩
  clear hq HT k0 k1 k2 j0 j1 j2 z1 z2
  by_cases c3 : x.ids = y.ids
  rotate_left
  · rw [dec_false c3]
    have HV : Hid (d = false) := by show d = _; rw [HD.out]; exact dec_false (fun e => c3 (by rw [e]))
    clear c3
    go_wp2
    go_ret
    exact ⟨ret_bool HV.out.symm, HB1.out.2.2⟩
  rw [dec_true c3]
  have HC3 : Hid (x.ids = y.ids) := c3
  clear c3
  go_wp2_with (first | go_skip | (with_reducible refine stopLoad 32 rfl ?_))
  refine load_cutw 32 w.heap.size 3 7 _ #[.int .i64 x.sk.count, .int .i64 x.sk.sum, .int .i64 x.sk.min, .int .i64 x.sk.max, .slice a1 n1 nc1, .slice a2 n2 nc2, .slice a3 n3 nc3] 34 _ HB1.out.1 rfl rfl rfl Try.underlying32 rfl infoSkI (by simp) rfl ?_
  go_wp2_with (first | go_skip | (with_reducible refine stopLoad 32 rfl ?_))
  refine load_cutw 32 (w.heap.size + 1) 3 7 _ #[.int .i64 y.sk.count, .int .i64 y.sk.sum, .int .i64 y.sk.min, .int .i64 y.sk.max, .slice b1 m1 mc1, .slice b2 m2 mc2, .slice b3 m3 mc3] 34 _ HB1.out.2.1 rfl rfl rfl Try.underlying32 rfl infoSkI (by simp) rfl ?_
  go_wp2_with fail
  refine (sameImpl_any _ _ x.sk y.sk F' G' _ (HX.out.1.below HB1.out.2.2) (HX.out.2.1.below HB1.out.2.2) HX.out.2.2.1 HX.out.2.2.2).mono ?_
  rintro e w2 ⟨rfl, b2⟩
  have HB2 : Hid (Below w.heap.size w w2) := Below.next HB1.out.2.2 b2
  clear b2
  obtain ⟨d2, hd2⟩ : ∃ d, d = decide (x.sk = y.sk) := ⟨_, rfl⟩
  rw [← hd2]
  have HV : Hid (d2 = d) := by
    show _ = _
    rw [hd2, HD.out]
    by_cases e : x.sk = y.sk
    · rw [dec_true e, dec_true (En.eq_of HC.out.1 HC.out.2 HC3.out e)]
    · rw [dec_false e, dec_false (fun q => e (by rw [q]))]
  clear hd2
  go_wp2
  go_ret
  exact ⟨ret_bool HV.out, HB2.out⟩
end Go.Proofs.Ytbmbmnhamogghap
/- What the laws over entries take of the program and the model. No statement of the seat is proved here. -/
namespace Go.Proofs.Ytbmbmnhamogghap
open Go.RowKit
set_option maxRecDepth 200000 in
theorem sameSpecE_any (v u : Value) (s t : En) (F G : List Nat) (w : World) (h : RdE w v s F) (k : RdE w u t G) (hw : s.wide) (kw : t.wide) :
    Calls Try.prog 26 #[v, u] w fun e w' => e = .returned (.bool (decide (s = t))) ∧ Below w.heap.size w w' := by
  obtain ⟨F1, F2, rfl, h⟩ := h
  obtain ⟨G1, G2, rfl, k⟩ := k
  exact entrySameSpec_any v u s t F1 F2 G1 G2 w h k hw.1 kw.1 (by have := hw.2; omega) (by have := kw.2; omega)
set_option maxRecDepth 200000 in
theorem sameImplE_any (v u : Value) (s t : En) (F G : List Nat) (w : World) (h : RdE w v s F) (k : RdE w u t G) (hw : s.wide) (kw : t.wide) :
    Calls Try.prog 27 #[v, u] w fun e w' => e = .returned (.bool (decide (s = t))) ∧ Below w.heap.size w w' := by
  obtain ⟨F1, F2, rfl, h⟩ := h
  obtain ⟨G1, G2, rfl, k⟩ := k
  exact entrySameImpl_any v u s t F1 F2 G1 G2 w h k hw.1 kw.1 (by have := hw.2; omega) (by have := kw.2; omega)
end Go.Proofs.Ytbmbmnhamogghap
