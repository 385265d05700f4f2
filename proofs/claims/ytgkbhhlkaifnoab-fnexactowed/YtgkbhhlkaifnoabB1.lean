/- Several texts of mine, laid together. No statement of the seat is proved here. -/
import Derived.Test.YtgkbhhlkaifnoabSpCut
import Derived.Deep.RegionHeld3
import Derived.Laws.StructEq
import Derived.Test.YtgkbhhlkaifnoabSeModel
import Derived.Test.YtgkbhhlkaifnoabAreSeqs
import Derived.Test.YtgkbhhlkaifnoabTallyA
import Derived.Test.YtgkbhhlkaifnoabSpImplA
import Derived.Test.YtgkbhhlkaifnoabItHelp2
import Derived.Test.YtgkbhhlkaifnoabItModel
import Derived.Test.YtgkbhhlkaifnoabSkLaw
import Derived.Test.YtgkbhhlkaifnoabSeHelp
import Derived.Test.YtgkbhhlkaifnoabSpOpen
import Derived.Deep.Slices
/- The walk through the program's going through two sets. No statement of the seat is proved here. -/
namespace Go.Proofs.Ytgkbhhlkaifnoab
open Go.RowKit
theorem RdP.move {w W : World} {B : Nat} {a : Option Addr} {len : Nat} {ps : Sp} {F : List Nat} (h : RdP w a len ps F) (hF : ∀ b ∈ F, b < B) (h1 : Below B w W) : RdP W a len ps F := h.agree (fun b hb => h1.block b (hF b hb))
theorem RdP.back {w W : World} {B : Nat} {a : Option Addr} {len : Nat} {ps : Sp} {F : List Nat} (h : RdP W a len ps F) (hF : ∀ b ∈ F, b < B) (h1 : Below B w W) : RdP w a len ps F := h.agree (fun b hb => (h1.block b (hF b hb)).symm)
theorem LayAt.below {w W : World} {B n : Nat} {v0 v : Value} {o : Sp} {xs : List Value} (h : LayAt w B v0 v o W) (h0 : w.ownsRow B 50 2 v0 n xs) (hB : B ≤ w.heap.size) : Below B w W :=
  ⟨h.grown.os, h.grown.tape, h.grown.output, h.grown.size, fun k hk => h.grown.block k (by omega) (fun e => by have := (h0.lt k e.symm).1; omega)⟩
/-- Midway in a round: the set that is made, the span's box. -/
structure MidB (w : World) (nb : Nat) (x y : Int) (v : Value) (o : Sp) (W : World) : Prop where
  own : W.ownsRow w.heap.size 50 2 v o.length ((flat o).map (Value.int .i64))
  bel : Below w.heap.size w W
  box : Blk W nb #[.int .i64 x, .int .i64 y] 50
  ne : some nb ≠ v.ownBlock
theorem MidB.alloc {w : World} {nb : Nat} {x y : Int} {v : Value} {o : Sp} {W : World} (h : MidB w nb x y v o W) (ob : Obj) : MidB w nb x y v o (W.alloc ob) := ⟨h.own.alloc _, Below.allocW _ h.bel (Nat.le_refl _), h.box.alloc _, h.ne⟩
theorem MidB.drew {w : World} {nb : Nat} {x y : Int} {v : Value} {o : Sp} {W : World} (h : MidB w nb x y v o W) : MidB w nb x y v o W.drew := ⟨⟨h.own.1, h.own.2⟩, h.bel.drew, h.box, h.ne⟩
/-- Behind the first laying: what lay beside lies there still. -/
structure AftB (w : World) (nb : Nat) (x y : Int) (v v' : Value) (o' : Sp) (W W' : World) : Prop where
  mid : MidB w nb x y v' o' W'
  old : ∀ g cs t, Blk W g cs t → some g ≠ v.ownBlock → Blk W' g cs t ∧ some g ≠ v'.ownBlock
theorem AftB.of {w : World} {nb : Nat} {x y : Int} {v v' : Value} {o o' : Sp} {W W' : World} (h : MidB w nb x y v o W) (k : LayAt W w.heap.size v v' o' W') : AftB w nb x y v v' o' W W' := by
  have hold : ∀ g cs t, Blk W g cs t → some g ≠ v.ownBlock → Blk W' g cs t ∧ some g ≠ v'.ownBlock := fun g cs t hb hne => by
    refine ⟨hb.agree (k.grown.block g hb.lt hne), ?_⟩
    rcases k.fresh with e | e
    · rw [e]; exact hne
    · intro e2; have := e g e2.symm; have := hb.lt; omega
  obtain ⟨h1, h2⟩ := hold _ _ _ h.box h.ne
  exact ⟨⟨k.own, h.bel.trans (k.below h.own h.bel.size), h1, h2⟩, hold⟩
/-- Ahead of the second laying: the one span's slice. -/
structure TwoB (w : World) (nb : Nat) (x y : Int) (v' : Value) (o' : Sp) (g : Nat) (W : World) : Prop where
  mid : MidB w nb x y v' o' W
  one : Blk W g #[.int .i64 x, .int .i64 y] 50
  ne : some g ≠ v'.ownBlock
theorem AftB.two {w : World} {nb : Nat} {x y : Int} {v v' : Value} {o o' : Sp} {W W' : World} (h : AftB w nb x y v v' o' (W.alloc (.cells #[.int .i64 x, .int .i64 y] 50)).drew W') (k : MidB w nb x y v o W) : TwoB w nb x y v' o' W.heap.size W' := by
  obtain ⟨h1, h2⟩ := h.old _ _ _ (Blk.made W _ _) (fun e => by have := (k.own.lt _ e.symm).2; omega)
  exact ⟨h.mid, h1, h2⟩
theorem AftB.new {w : World} {nb : Nat} {x y : Int} {v v' : Value} {o' : Sp} {W W' : World} (h : AftB w nb x y v v' o' W W') : TwoB w nb x y v' o' W'.heap.size (W'.alloc (.cells #[.int .i64 x, .int .i64 y] 50)) :=
  ⟨h.mid.alloc _, Blk.made _ _ _, fun e => by have := (h.mid.own.lt _ e.symm).2; omega⟩
theorem rdP_one {W : World} {g : Nat} {x y : Int} {t : TypeId} (h : Blk W g #[.int .i64 x, .int .i64 y] t) : RdP W (some ⟨g, 0, none⟩) 1 [(x, y)] [g] :=
  ⟨rfl, rdI_tcv (xs := flat [(x, y)]) (by simpa [tcv, flat] using h) (by simp [flat]) (by omega)⟩
/-- Ahead of a round. -/
structure BInv (w : World) (ps qs : Sp) (k : Nat) (o rs : Sp) (aa : Option Addr) (la ca : Nat) (F : List Nat) (v : Value) (wr : World) : Prop where
  own : wr.ownsRow w.heap.size 50 2 v o.length ((flat o).map (Value.int .i64))
  bel : Below w.heap.size w wr
  rd : RdP w aa la rs F
  lt : ∀ b ∈ F, b < w.heap.size
  cap : la ≤ ca
  len : o.length + rs.length ≤ ps.length + k
  ino : ∀ p ∈ o, InB p
  ina : ∀ p ∈ rs, InB p
  eq : both rs (qs.drop k) o = both ps qs []
end Go.Proofs.Ytgkbhhlkaifnoab
/- The walks through the program's copying of a set, and the library's comparing of two. No statement of the seat is proved here. -/
namespace Go.Proofs.Ytgkbhhlkaifnoab
open Go.RowKit
theorem run_copy_row2 {P : Program} (w : World) (dT sT ty elem : TypeId) (g len dCap : Nat) (a : Addr) (sCap : Nat) (cur : Array Value) (t : TypeId) (cs : List Value)
    (hu : P.underlying dT = some (.slice elem)) (hs : (P.info? elem).map (·.size) = some 2)
    (hg : w.heap[g]? = some (.cells cur t (0, 0))) (hn : cs.length = len * 2)
    (hsrc : ∀ j v, cs[j]? = some v → w.cell? (a.add j) = some v) (hfit : cs.length ≤ cur.size) (h1 : ∀ v ∈ cs, v.oneCell' = true) :
    (Builtin.copy_ #[dT, sT] ty #[.slice (some ⟨g, 0, none⟩) len dCap, .slice (some a) len sCap]).run P w =
      .ok (goInt len) (w.setRow g (cs ++ cur.toList.drop cs.length).toArray) := by
  have hl := run_loadCells_list (P := P) w a cs hsrc
  have hst := run_storeCells_at P g 0 t cs 0 cur w hg (by simpa using hfit) h1
  rw [hn] at hl
  cases hq : P.info? elem with
  | none => simp [hq] at hs
  | some i =>
    have hi : i.size = 2 := by simpa [hq] using hs
    simp [Builtin.copy_, run_underlying hu, Builtin.lenOf, Builtin.firstCells, sizeOf, typeInfo, hq, hi, hl, hst]
theorem run_copy_none2 {P : Program} (w : World) (dT sT ty elem : TypeId) (d a : Option Addr) (dCap sCap : Nat) (hu : P.underlying dT = some (.slice elem)) (hs : (P.info? elem).map (·.size) = some 2) :
    (Builtin.copy_ #[dT, sT] ty #[.slice d 0 dCap, .slice a 0 sCap]).run P w = .ok (goInt 0) w := by
  cases hq : P.info? elem with
  | none => simp [hq] at hs
  | some i =>
    have hl : ∀ (x : Addr), (loadCells x 0).run P w = .ok #[] w := fun x => by simpa using run_loadCells_list (P := P) w x [] (by simp)
    cases d <;> cases a <;> simp [Builtin.copy_, run_underlying hu, Builtin.lenOf, Builtin.firstCells, sizeOf, typeInfo, hq, storeCells, hl]
theorem wpList_copy_none2 {P : Program} {w : World} {ops : Array Oper} {rest : List Oper} {o : Oper} {a : Act} {Q : Exit → Act → World → Prop} (hgd : o.guard = none) (d s : Operand) (dT sT : TypeId)
    (ho : o.op = .call { callee := .builtin .copy, args := #[d, s], argTypes := #[dT, sT] }) (elem : TypeId) (hu : P.underlying dT = some (.slice elem)) (hsz : (P.info? elem).map (·.size) = some 2)
    (dp sp : Option Addr) (dCap sCap : Nat) (hd : a.eval d = .slice dp 0 dCap) (hs : a.eval s = .slice sp 0 sCap)
    (h : wpList P ops Q rest (a.put o.dst (goInt 0)) w) : wpList P ops Q (o :: rest) a w := by
  refine wpList_plain hgd fun K hK => ?_
  have hrun := run_copy_none2 (P := P) w dT sT o.type elem dp sp dCap sCap hu hsz
  unfold Oper.wp
  simp [execOp, ho, resolve, invoke, builtin, hd, hs, hrun, Result.andThen]
  exact hK _ _ h
theorem wpList_copy_own2 {P : Program} {w : World} {ops : Array Oper} {rest : List Oper} {o : Oper} {a : Act} {Q : Exit → Act → World → Prop} (hgd : o.guard = none) (d s : Operand) (dT sT : TypeId)
    (ho : o.op = .call { callee := .builtin .copy, args := #[d, s], argTypes := #[dT, sT] }) (elem : TypeId) (hu : P.underlying dT = some (.slice elem)) (hsz : (P.info? elem).map (·.size) = some 2)
    (g len dCap : Nat) (ad : Addr) (sCap : Nat) (hd : a.eval d = .slice (some ⟨g, 0, none⟩) len dCap) (hs : a.eval s = .slice (some ad) len sCap)
    (cur : Array Value) (t : TypeId) (hg : w.heap[g]? = some (.cells cur t (0, 0))) (cs : List Value) (hn : cs.length = len * 2)
    (hsrc : ∀ j v, cs[j]? = some v → w.cell? (ad.add j) = some v) (hfit : cs.length ≤ cur.size) (h1 : ∀ v ∈ cs, v.oneCell' = true)
    (h : wpList P ops Q rest (a.put o.dst (goInt len)) (w.setRow g (cs ++ cur.toList.drop cs.length).toArray)) : wpList P ops Q (o :: rest) a w := by
  refine wpList_plain hgd fun K hK => ?_
  have hrun := run_copy_row2 (P := P) w dT sT o.type elem g len dCap ad sCap cur t cs hu hsz hg hn hsrc hfit h1
  unfold Oper.wp
  simp [execOp, ho, resolve, invoke, builtin, hd, hs, hrun, Result.andThen]
  exact hK _ _ h
theorem infoSpan2 : (Try.prog.info? 50).map (·.size) = some 2 := by kernel_rfl
theorem flat_one {ps : Sp} : ∀ v ∈ (flat ps).map (Value.int .i64), v.oneCell' = true := by
  intro v hv
  obtain ⟨x, _, rfl⟩ := List.mem_map.1 hv
  rfl
set_option maxRecDepth 200000 in
set_option maxHeartbeats 2000000 in
theorem copiedSpans_any (a : Option Addr) (len cap : Nat) (ps : Sp) (F : List Nat) (w : World) (h : RdP w a len ps F) (hlen : len ≤ 2097152) :
    Calls Try.prog 39 #[.slice a len cap] w fun e w' => NewP w ps e w' := by
  obtain ⟨i0, hi, hz0, hz1, hz2⟩ := info_parts infoSpan
  have HL : Hid (ps.length = len) := h.length
  have HR : Hid (RdP w a len ps F) := h
  rcases h.cells with ⟨rfl, _, rfl⟩ | ⟨b, off, hp, rfl, _, _⟩
  · clear h
    go_enter Try.func39, Try.ntmps39
    go_wp2_with (at_make; refine wpList_make_full _ rfl _ _ 26 rfl w.heap.size 50 i0 (.agg #[.int .i64 0, .int .i64 0]) 2 Try.underlying26 hi hz0 hz1 .i64 .i64 _ _ 0 rfl rfl (by simp) (by simp) (by omega) (by unfold maxLen; omega) (Nat.le_refl _) ?_; intro w1 hown hgrow)
    have hcp := run_copy_none2 (P := Try.prog) w1 26 26 3 50 (some ⟨w.heap.size, 0, none⟩) a 0 cap Try.underlying26 infoSpan2
    rw [hcp]
    go_wp2
    go_ret
    exact ⟨_, 0, 0, [], rfl, RdP.nil, Own.nil, (Below.refl _ _).grown hgrow (Nat.le_refl _) (fun k hk => by cases hk), (fun e => by cases e), Nat.le_refl _⟩
  · clear h
    go_enter Try.func39, Try.ntmps39
    go_wp2_with (at_make; refine wpList_make_full _ rfl _ _ 26 rfl w.heap.size 50 i0 (.agg #[.int .i64 0, .int .i64 0]) 2 Try.underlying26 hi hz0 hz1 .i64 .i64 _ _ len rfl rfl rfl rfl (by rw [hz2]; omega) (by unfold maxLen; omega) (Nat.le_refl _) ?_; intro w1 hown hgrow)
    have HM : Hid (Blk w1 w.heap.size (tcv (List.replicate (2 * len) 0)) 50 ∧ Below w.heap.size w w1) := by
      refine ⟨?_, (Below.refl _ _).grown hgrow (Nat.le_refl _) (fun k hk => by cases hk)⟩
      have e := own_blk hown hp
      have e2 : (madeCells (Value.agg #[Value.int IntKind.i64 0, Value.int IntKind.i64 0]).cells (len * 2)).toList.toArray = tcv (List.replicate (2 * len) 0) := made_flat len
      rw [← e2]
      exact e
    clear hown hgrow
    have HLF : Hid ((flat ps).length = 2 * len) := by rw [flat_length, HL.out]; rfl
    have hcp := run_copy_row2 (P := Try.prog) w1 26 26 3 50 w.heap.size len len ⟨b, off, none⟩ cap _ 50 ((flat ps).map (Value.int .i64)) Try.underlying26 infoSpan2 HM.out.1 (by have := HLF.out; simp; omega) (cells_flat (HR.out.below HM.out.2) hp) (by have := HLF.out; simp [tcv]; omega) flat_one
    have hrow : ((flat ps).map (Value.int .i64) ++ (tcv (List.replicate (2 * len) 0)).toList.drop ((flat ps).map (Value.int .i64)).length).toArray = tcv (flat ps) := by
      have := HLF.out
      rw [List.drop_eq_nil_of_le (by simp [tcv]; omega), List.append_nil]
      rfl
    rw [hrow] at hcp
    have HW : Hid (Blk (w1.setRow w.heap.size (tcv (flat ps))) w.heap.size (tcv (flat ps)) 50 ∧ Below w.heap.size w (w1.setRow w.heap.size (tcv (flat ps)))) := ⟨HM.out.1.setRow, below_setRow HM.out.2 (Nat.le_refl _) _⟩
    clear hrow
    rw [hcp]
    go_wp2
    go_ret
    exact ⟨_, len, len, [w.heap.size], rfl, ⟨HL.out, rdI_tcv HW.out.1 HLF.out (by omega)⟩, ⟨by simp, fun b hb o => by simp at hb; subst hb; exact HW.out.1.frozen o, by simp⟩, HW.out.2, (fun e => by cases e), Nat.le_refl _⟩
theorem sp_eta (p : Int × Int) : p = (p.1, p.2) := rfl
end Go.Proofs.Ytgkbhhlkaifnoab
/- The walks through the program's SeatOk and copiedSeat. No statement of the seat is proved here. -/
namespace Go.Proofs.Ytgkbhhlkaifnoab
open Go.RowKit
set_option maxRecDepth 200000 in
set_option maxHeartbeats 4000000 in
theorem seOkImpl_any (v : Value) (x : Se) (per : Int) (F : List Nat) (w : World) (h : RdSe w v x F) (hl : x.taken.length ≤ 2097152) :
    Calls Try.prog 26 #[v, .int .i64 per] w fun e w' => e = .returned (.bool (x.ok per)) ∧ Below w.heap.size w w' := by
  obtain ⟨b, l, c, rfl, hP, _⟩ := h
  have HP : Hid (RdP w b l x.taken F ∧ l ≤ 2097152) := ⟨hP, by rw [← hP.length]; exact hl⟩
  have HSZ : Hid (0 ≤ x.taken.size ∧ x.taken.size ≤ 20971520000) := by have := Sp.size_range x.taken; exact ⟨this.1, by omega⟩
  have HB : Hid (Blk (w.alloc (.cells #[.int .i64 x.epoch, .int .i64 x.granted, .slice b l c, .int .i64 x.merged, .int .i64 x.last] 28)) w.heap.size #[.int .i64 x.epoch, .int .i64 x.granted, .slice b l c, .int .i64 x.merged, .int .i64 x.last] 28 ∧ Below w.heap.size w (w.alloc (.cells #[.int .i64 x.epoch, .int .i64 x.granted, .slice b l c, .int .i64 x.merged, .int .i64 x.last] 28))) := ⟨Blk.made _ _ _, (Below.refl _ _).alloc (Nat.le_refl _) _⟩
  clear hP hl
  go_enter Try.func26, Try.ntmps26
  by_cases p1 : per < 1
  · have HV : Hid (x.ok per = false) := by show _ = _; unfold Se.ok; rw [decide_eq_false (by omega : ¬ (1 ≤ per ∧ per ≤ 8))]; simp
    go_wp2
    go_ret
    exact ⟨ret_bool HV.out.symm, HB.out.2⟩
  by_cases p2 : 8 < per
  · have HV : Hid (x.ok per = false) := by show _ = _; unfold Se.ok; rw [decide_eq_false (by omega : ¬ (1 ≤ per ∧ per ≤ 8))]; simp
    go_wp2
    go_ret
    exact ⟨ret_bool HV.out.symm, HB.out.2⟩
  have HD1 : Hid (true = decide (1 ≤ per ∧ per ≤ 8)) := (decide_eq_true (by omega)).symm
  have HPR : Hid (1 ≤ per ∧ per ≤ 8) := by show _ ∧ _; omega
  go_wp2_with fail
  refine (inRange_any _ _ _).mono ?_
  rintro e w2 ⟨rfl, hw2⟩
  have hw2' := hw2.symm
  subst hw2'
  clear hw2
  obtain ⟨d2, hd2⟩ : ∃ d, d = decide (0 ≤ x.epoch ∧ x.epoch ≤ 1000) := ⟨_, rfl⟩
  rw [← hd2]
  have HD2 : Hid (d2 = decide (0 ≤ x.epoch ∧ x.epoch ≤ 1000)) := hd2
  clear hd2
  cases d2
  · have HV : Hid (x.ok per = false) := by show _ = _; unfold Se.ok; rw [← HD2.out]; simp
    go_wp2
    go_ret
    exact ⟨ret_bool HV.out.symm, HB.out.2⟩
  go_wp2_with fail
  refine (inRange_any _ _ _).mono ?_
  rintro e w2 ⟨rfl, hw2⟩
  have hw2' := hw2.symm
  subst hw2'
  clear hw2
  obtain ⟨d7, hd7⟩ : ∃ d, d = decide (0 ≤ x.last ∧ x.last ≤ 1000000) := ⟨_, rfl⟩
  rw [← hd7]
  have HD7 : Hid (d7 = decide (0 ≤ x.last ∧ x.last ≤ 1000000)) := hd7
  clear hd7
  cases d7
  · have HV : Hid (x.ok per = false) := by show _ = _; unfold Se.ok; rw [← HD7.out]; simp
    go_wp2
    go_ret
    exact ⟨ret_bool HV.out.symm, HB.out.2⟩
  go_wp2_with fail
  refine (inRange_any _ _ _).mono ?_
  rintro e w2 ⟨rfl, hw2⟩
  have hw2' := hw2.symm
  subst hw2'
  clear hw2
  obtain ⟨d3, hd3⟩ : ∃ d, d = decide (0 ≤ x.granted ∧ x.granted ≤ 60) := ⟨_, rfl⟩
  rw [← hd3]
  have HD3 : Hid (d3 = decide (0 ≤ x.granted ∧ x.granted ≤ 60)) := hd3
  clear hd3
  cases d3
  · have HV : Hid (x.ok per = false) := by show _ = _; unfold Se.ok; rw [← HD3.out]; simp
    go_wp2
    go_ret
    exact ⟨ret_bool HV.out.symm, HB.out.2⟩
  go_wp2_with fail
  refine (areSeqs_any b l c x.granted x.taken F _ (HP.out.1.below HB.out.2) HP.out.2).mono ?_
  rintro e w2 ⟨rfl, hb⟩
  obtain ⟨d4, hd4⟩ : ∃ d, d = (x.taken.ok && x.taken.under x.granted) := ⟨_, rfl⟩
  rw [← hd4]
  have HD4 : Hid (d4 = (x.taken.ok && x.taken.under x.granted)) := hd4
  have HS : Hid (Blk w2 w.heap.size #[.int .i64 x.epoch, .int .i64 x.granted, .slice b l c, .int .i64 x.merged, .int .i64 x.last] 28 ∧ Below w.heap.size w w2) := ⟨HB.out.1.below hb, Below.next HB.out.2 hb⟩
  clear hd4 hb HB
  cases d4
  · have HV : Hid (x.ok per = false) := by show _ = _; unfold Se.ok; rw [← HD4.out]; simp
    go_wp2
    go_ret
    exact ⟨ret_bool HV.out.symm, HS.out.2⟩
  go_wp2_with fail
  obtain ⟨W0, hW0⟩ : ∃ W, W = w2.drew := ⟨_, rfl⟩
  have HS : Hid (Blk W0 w.heap.size #[.int .i64 x.epoch, .int .i64 x.granted, .slice b l c, .int .i64 x.merged, .int .i64 x.last] 28 ∧ Below w.heap.size w W0) := by rw [hW0]; exact ⟨HS.out.1.below (Below.refl _ _).drew, Below.next HS.out.2 (Below.refl _ _).drew⟩
  refine wp_region_held (S := fun W => Blk W w.heap.size #[.int .i64 x.epoch, .int .i64 x.granted, .slice b l c, .int .i64 x.merged, .int .i64 x.last] 28) (by kernel_rfl) ?_
  change wpAnyH _ _ _ _ _ _ _ _ (World.drew _)
  rw [← hW0]
  clear hW0
  refine takeH (o := ?o199) 0 (.pointer (some ⟨w.heap.size, 3, none⟩)) ?h199 ?r199
  case h199 => simp only [aT, aZ]; rfl
  refine ⟨_, by simp [Act.put]; rfl, by kernel_rfl, by kernel_rfl, by kernel_rfl, fun _ _ _ h => h, (.inl ⟨rfl, fun W _ => by kernel_rfl⟩), HS.out.1, ?_⟩
  refine takeH (o := ?o200) 1 (.int .i64 x.merged) ?h200 ?r200
  case h200 => simp only [aT, aS, aZ]; rfl
  refine ⟨_, by simp [Act.put]; rfl, by kernel_rfl, by kernel_rfl, by kernel_rfl, fun _ _ _ h => h, (.inl ⟨rfl, fun W hW => by have c := hW.cell 3; simp only [aT, aS, aZ] at c; go_simp⟩), HS.out.1, ?_⟩
  refine takeH (o := ?o201) 2 (.pointer (some ⟨w.heap.size, 2, none⟩)) ?h201 ?r201
  case h201 => simp only [aT, aS, aZ]; rfl
  refine ⟨_, by simp [Act.put]; rfl, by kernel_rfl, by kernel_rfl, by kernel_rfl, fun _ _ _ h => h, (.inl ⟨rfl, fun W _ => by kernel_rfl⟩), HS.out.1, ?_⟩
  refine takeH (o := ?o202) 3 (.slice b l c) ?h202 ?r202
  case h202 => simp only [aT, aS, aZ]; rfl
  refine ⟨_, by simp [Act.put]; rfl, by kernel_rfl, by kernel_rfl, by kernel_rfl, fun _ _ _ h => h, (.inl ⟨rfl, fun W hW => by have c := hW.cell 2; simp only [aT, aS, aZ] at c; go_simp⟩), HS.out.1, ?_⟩
  refine onlyH (o := ?o203) 4 (by kernel_rfl) ?h203 ?r203
  case h203 => simp only [aT, aS, aZ]; rfl
  intro K hK
  refine op_call1 32 _ _ Try.f32 (fun v w' => v = .int .i64 x.taken.size ∧ Below W0.heap.size W0 w') rfl rfl Try.func32 (by kernel_rfl) (by kernel_rfl) ((sizeImpl_any b l c x.taken F W0 (HP.out.1.below HS.out.2) HP.out.2).mono (by rintro e w' ⟨rfl, hb⟩; exact ⟨_, rfl, rfl, hb⟩)) ?_
  rintro v W1 ⟨rfl, hb⟩
  have HS : Hid (Blk W1 w.heap.size #[.int .i64 x.epoch, .int .i64 x.granted, .slice b l c, .int .i64 x.merged, .int .i64 x.last] 28 ∧ Below w.heap.size w W1) := ⟨HS.out.1.below hb, Below.next HS.out.2 hb⟩
  clear hb
  refine ⟨_, by simp [Act.put]; rfl, hK _ _ ⟨HS.out.1, ?_⟩⟩
  clear hK
  refine onlyH (o := ?o204) 5 (by kernel_rfl) ?h204 ?r204
  case h204 => simp only [aT, aS, aZ]; rfl
  intro K hK
  obtain ⟨d5, hd5⟩ : ∃ d, d = decide (0 ≤ x.merged ∧ x.merged ≤ x.taken.size) := ⟨_, rfl⟩
  have HD5 : Hid (d5 = decide (0 ≤ x.merged ∧ x.merged ≤ x.taken.size)) := hd5
  refine op_callS2 31 _ _ _ Try.f31 (fun v w' => v = .bool d5 ∧ w' = W1) rfl rfl Try.func31 (by kernel_rfl) (by kernel_rfl) ((inRange_any x.merged x.taken.size W1).mono (by rintro e w' ⟨rfl, rfl⟩; exact ⟨_, rfl, by rw [hd5], rfl⟩)) ?_
  rintro v W2 ⟨rfl, hq⟩
  have hq' := hq.symm
  subst hq'
  clear hq hd5
  refine ⟨_, by simp [Act.put]; rfl, hK _ _ ⟨HS.out.1, ?_⟩⟩
  clear hK
  cases d5
  · refine takeH (o := ?o205) 6 (.bool false) ?h205 ?r205
    case h205 => simp only [aT, aS, aZ]; rfl
    refine ⟨_, by simp [Act.put]; rfl, by kernel_rfl, by kernel_rfl, by kernel_rfl, fun _ _ _ h => h, (.inl ⟨rfl, fun W _ => by kernel_rfl⟩), HS.out.1, ?_⟩
    refine takeH (o := ?o206) 7 (undef) ?h206 ?r206
    case h206 => simp only [aT, aS, aZ]; rfl
    refine ⟨_, by simp [Act.put]; rfl, by kernel_rfl, by kernel_rfl, by kernel_rfl, fun _ _ _ h => h, (.inr ⟨rfl, rfl⟩), HS.out.1, ?_⟩
    refine takeH (o := ?o207) 8 (undef) ?h207 ?r207
    case h207 => simp only [aT, aS, aZ]; rfl
    refine ⟨_, by simp [Act.put]; rfl, by kernel_rfl, by kernel_rfl, by kernel_rfl, fun _ _ _ h => h, (.inr ⟨rfl, rfl⟩), HS.out.1, ?_⟩
    refine takeH (o := ?o208) 9 (undef) ?h208 ?r208
    case h208 => simp only [aT, aS, aZ]; rfl
    refine ⟨_, by simp [Act.put]; rfl, by kernel_rfl, by kernel_rfl, by kernel_rfl, fun _ _ _ h => h, (.inr ⟨rfl, rfl⟩), HS.out.1, ?_⟩
    refine takeH (o := ?o209) 10 (undef) ?h209 ?r209
    case h209 => simp only [aT, aS, aZ]; rfl
    refine ⟨_, by simp [Act.put]; rfl, by kernel_rfl, by kernel_rfl, by kernel_rfl, fun _ _ _ h => h, (.inr ⟨rfl, rfl⟩), HS.out.1, ?_⟩
    refine takeH (o := ?o210) 11 (undef) ?h210 ?r210
    case h210 => simp only [aT, aS, aZ]; rfl
    refine ⟨_, by simp [Act.put]; rfl, by kernel_rfl, by kernel_rfl, by kernel_rfl, fun _ _ _ h => h, (.inr ⟨rfl, rfl⟩), HS.out.1, ?_⟩
    refine takeH (o := ?o211) 12 (undef) ?h211 ?r211
    case h211 => simp only [aT, aS, aZ]; rfl
    refine ⟨_, by simp [Act.put]; rfl, by kernel_rfl, by kernel_rfl, by kernel_rfl, fun _ _ _ h => h, (.inr ⟨rfl, rfl⟩), HS.out.1, ?_⟩
    refine takeH (o := ?o212) 13 (undef) ?h212 ?r212
    case h212 => simp only [aT, aS, aZ]; rfl
    refine ⟨_, by simp [Act.put]; rfl, by kernel_rfl, by kernel_rfl, by kernel_rfl, fun _ _ _ h => h, (.inr ⟨rfl, rfl⟩), HS.out.1, ?_⟩
    refine takeH (o := ?o213) 14 (.bool false) ?h213 ?r213
    case h213 => simp only [aT, aS, aZ]; rfl
    refine ⟨_, by simp [Act.put]; rfl, by kernel_rfl, by kernel_rfl, by kernel_rfl, fun _ _ _ h => h, (.inl ⟨rfl, fun W _ => by kernel_rfl⟩), HS.out.1, ?_⟩
    refine takeH (o := ?o214) 15 (.bool false) ?h214 ?r214
    case h214 => simp only [aT, aS, aZ]; rfl
    refine ⟨_, by simp [Act.put]; rfl, by kernel_rfl, by kernel_rfl, by kernel_rfl, fun _ _ _ h => h, (.inl ⟨rfl, fun W _ => by kernel_rfl⟩), HS.out.1, ?_⟩
    refine wpAnyH_done (by kernel_rfl) ?_ _
    have HV : Hid (x.ok per = false) := by show _ = _; unfold Se.ok; rw [← HD5.out]; simp
    go_wp2
    go_ret
    exact ⟨ret_bool HV.out.symm, HS.out.2⟩
  refine takeH (o := ?o215) 6 (.bool true) ?h215 ?r215
  case h215 => simp only [aT, aS, aZ]; rfl
  refine ⟨_, by simp [Act.put]; rfl, by kernel_rfl, by kernel_rfl, by kernel_rfl, fun _ _ _ h => h, (.inl ⟨rfl, fun W _ => by kernel_rfl⟩), HS.out.1, ?_⟩
  refine takeH (o := ?o216) 7 (.pointer (some ⟨w.heap.size, 1, none⟩)) ?h216 ?r216
  case h216 => simp only [aT, aS, aZ]; rfl
  refine ⟨_, by simp [Act.put]; rfl, by kernel_rfl, by kernel_rfl, by kernel_rfl, fun _ _ _ h => h, (.inl ⟨rfl, fun W _ => by kernel_rfl⟩), HS.out.1, ?_⟩
  refine takeH (o := ?o217) 8 (.int .i64 x.granted) ?h217 ?r217
  case h217 => simp only [aT, aS, aZ]; rfl
  refine ⟨_, by simp [Act.put]; rfl, by kernel_rfl, by kernel_rfl, by kernel_rfl, fun _ _ _ h => h, (.inl ⟨rfl, fun W hW => by have c := hW.cell 1; simp only [aT, aS, aZ] at c; go_simp⟩), HS.out.1, ?_⟩
  refine takeH (o := ?o218) 9 (.pointer (some ⟨w.heap.size, 3, none⟩)) ?h218 ?r218
  case h218 => simp only [aT, aS, aZ]; rfl
  refine ⟨_, by simp [Act.put]; rfl, by kernel_rfl, by kernel_rfl, by kernel_rfl, fun _ _ _ h => h, (.inl ⟨rfl, fun W _ => by kernel_rfl⟩), HS.out.1, ?_⟩
  refine takeH (o := ?o219) 10 (.int .i64 x.merged) ?h219 ?r219
  case h219 => simp only [aT, aS, aZ]; rfl
  refine ⟨_, by simp [Act.put]; rfl, by kernel_rfl, by kernel_rfl, by kernel_rfl, fun _ _ _ h => h, (.inl ⟨rfl, fun W hW => by have c := hW.cell 3; simp only [aT, aS, aZ] at c; go_simp⟩), HS.out.1, ?_⟩
  refine takeH (o := ?o220) 11 (.int .i64 per) ?h220 ?r220
  case h220 => simp only [aT, aS, aZ]; rfl
  refine ⟨_, by simp [Act.put]; rfl, by kernel_rfl, by kernel_rfl, by kernel_rfl, fun _ _ _ h => h, (.inl ⟨rfl, fun W _ => by kernel_rfl⟩), HS.out.1, ?_⟩
  have hm : x.merged + per ≤ 20971520008 ∧ 0 ≤ x.merged + per := by have h1 := HPR.out; have h5 := of_decide_eq_true HD5.out.symm; have := HSZ.out; omega
  have hwz : IntKind.i64.wrap (x.merged + per) = x.merged + per := wrapSe (by omega)
  refine takeH (o := ?o221) 12 (.int .i64 (x.merged + per)) ?h221 ?r221
  case h221 => simp only [aT, aS, aZ]; rfl
  refine ⟨_, by simp [Act.put]; rfl, by kernel_rfl, by kernel_rfl, by kernel_rfl, fun _ _ _ h => h, (.inl ⟨rfl, fun W _ => by first | (go_simp; done) | (go_simp; exact hwz)⟩), HS.out.1, ?_⟩
  obtain ⟨d6, hd6⟩ : ∃ d, d = decide (x.granted ≤ x.merged + per) := ⟨_, rfl⟩
  have HD6 : Hid (d6 = decide (x.granted ≤ x.merged + per)) := hd6
  refine takeH (o := ?o222) 13 (.bool d6) ?h222 ?r222
  case h222 => simp only [aT, aS, aZ]; rfl
  refine ⟨_, by simp [Act.put]; rfl, by kernel_rfl, by kernel_rfl, by kernel_rfl, fun _ _ _ h => h, (.inl ⟨rfl, fun W _ => by rw [hd6]; go_simp⟩), HS.out.1, ?_⟩
  clear hd6 hwz hm
  refine takeH (o := ?o223) 14 (.bool d6) ?h223 ?r223
  case h223 => simp only [aT, aS, aZ]; rfl
  refine ⟨_, by simp [Act.put]; rfl, by kernel_rfl, by kernel_rfl, by kernel_rfl, fun _ _ _ h => h, (.inl ⟨rfl, fun W _ => by kernel_rfl⟩), HS.out.1, ?_⟩
  refine takeH (o := ?o224) 15 (.bool d6) ?h224 ?r224
  case h224 => simp only [aT, aS, aZ]; rfl
  refine ⟨_, by simp [Act.put]; rfl, by kernel_rfl, by kernel_rfl, by kernel_rfl, fun _ _ _ h => h, (.inl ⟨rfl, fun W _ => by kernel_rfl⟩), HS.out.1, ?_⟩
  refine wpAnyH_done (by kernel_rfl) ?_ _
  have HV : Hid (x.ok per = d6) := by show _ = _; unfold Se.ok; rw [← HD1.out, ← HD2.out, ← HD3.out, ← HD4.out, ← HD5.out, ← HD6.out, ← HD7.out]; simp
  go_wp2
  go_ret
  exact ⟨ret_bool HV.out.symm, HS.out.2⟩
set_option maxRecDepth 200000 in
set_option maxHeartbeats 2000000 in
theorem copiedSeat_any (v : Value) (x : Se) (F : List Nat) (w : World) (h : RdSe w v x F) (hl : x.taken.length ≤ 2097152) :
    Calls Try.prog 25 #[v] w fun e w' => NewSe w x e w' := by
  obtain ⟨b, l, c, rfl, hP, hcp⟩ := h
  have HP : Hid (RdP w b l x.taken F ∧ l ≤ 2097152) := ⟨hP, by rw [← hP.length]; exact hl⟩
  have HT : Hid (Two w #[.int .i64 x.epoch, .int .i64 x.granted, .slice b l c, .int .i64 x.merged, .int .i64 x.last] #[.int .i64 0, .int .i64 0, .slice none 0 0, .int .i64 0, .int .i64 0] 28 ((w.alloc (.cells #[.int .i64 x.epoch, .int .i64 x.granted, .slice b l c, .int .i64 x.merged, .int .i64 x.last] 28)).alloc (.cells #[.int .i64 0, .int .i64 0, .slice none 0 0, .int .i64 0, .int .i64 0] 28))) := Two.made w _ _ _
  clear hP hl hcp
  have c2' := HT.out.fst.cell 2
  simp only [aT, aS, aZ] at c2'
  go_enter Try.func25, Try.ntmps25
  go_wp2_with fail
  refine (copiedSpans_any b l c x.taken F _ (HP.out.1.below HT.out.bel) HP.out.2).mono ?_
  rintro e w2 ⟨p, n, k, G, rfl, rp, op, bp, kp⟩
  have hlt := HT.out.snd.lt
  have H2 : Hid (Two w #[.int .i64 x.epoch, .int .i64 x.granted, .slice b l c, .int .i64 x.merged, .int .i64 x.last] #[.int .i64 0, .int .i64 0, .slice none 0 0, .int .i64 0, .int .i64 0] 28 w2 ∧ RdP w2 p n x.taken G ∧ Own (w.heap.size + 2) w2 G ∧ Capd p n k) := ⟨HT.out.below bp, rp, op.mono (by simp), kp⟩
  clear rp op bp kp HT c2' hlt
  have c2' := H2.out.1.fst.cell 2
  have f2' := H2.out.1.fst.frozen 2
  simp only [aT, aS, aZ] at c2'
  go_wp2_with (first | go_skip | (with_reducible refine stopLoad 28 rfl ?_) | (with_reducible refine stopStore 28 rfl ?_))
  have n0 : w.heap.size ∉ G := fun hx => by have := H2.out.2.2.1.ge _ hx; omega
  have n1 : w.heap.size + 1 ∉ G := fun hx => by have := H2.out.2.2.1.ge _ hx; omega
  have ag : Agree w2 (w2.setCell ⟨w.heap.size, 2, none⟩ (.slice p n k)) G := .set n0 2 _
  have H3 : Hid (Blk (w2.setCell ⟨w.heap.size, 2, none⟩ (.slice p n k)) w.heap.size #[.int .i64 x.epoch, .int .i64 x.granted, .slice p n k, .int .i64 x.merged, .int .i64 x.last] 28 ∧ Blk (w2.setCell ⟨w.heap.size, 2, none⟩ (.slice p n k)) (w.heap.size + 1) #[.int .i64 0, .int .i64 0, .slice none 0 0, .int .i64 0, .int .i64 0] 28 ∧ RdP (w2.setCell ⟨w.heap.size, 2, none⟩ (.slice p n k)) p n x.taken G ∧ Own (w.heap.size + 2) (w2.setCell ⟨w.heap.size, 2, none⟩ (.slice p n k)) G ∧ Below w.heap.size w (w2.setCell ⟨w.heap.size, 2, none⟩ (.slice p n k)) ∧ Capd p n k ∧ w.heap.size + 1 ∉ G) :=
    ⟨H2.out.1.fst.set 2 _, H2.out.1.snd.setOther (by omega) 2 _, H2.out.2.1.agree ag, H2.out.2.2.1.agree ag, H2.out.1.bel.setCell (by show w.heap.size ≤ w.heap.size; omega) _, H2.out.2.2.2, n1⟩
  obtain ⟨w3, hw3⟩ : ∃ W, W = w2.setCell ⟨w.heap.size, 2, none⟩ (.slice p n k) := ⟨_, rfl⟩
  rw [← hw3] at H3 ⊢
  clear hw3 c2' f2' H2 n0 n1 ag
  refine load_known 28 w.heap.size #[.int .i64 x.epoch, .int .i64 x.granted, .slice p n k, .int .i64 x.merged, .int .i64 x.last] 28 _ H3.out.1 rfl rfl rfl Try.underlying28 rfl infoSeI ?_
  go_wp2_with (first | go_skip | (with_reducible refine stopLoad 28 rfl ?_) | (with_reducible refine stopStore 28 rfl ?_))
  refine store_known 28 (w.heap.size + 1) _ #[.int .i64 x.epoch, .int .i64 x.granted, .slice p n k, .int .i64 x.merged, .int .i64 x.last] 28 H3.out.2.1 rfl rfl rfl rfl infoSeI rfl (by simp [Value.oneCell']) ?_
  go_wp2
  refine bodyPost_ret (results_cell_row Try.results25 _ _ (w.heap.size + 1) _ _ (0, 0) _ rfl H3.out.2.1.setRow Try.underlying28 rfl infoSeI) rfl ?_
  have ag := Agree.row (w := w3) H3.out.2.2.2.2.2.2 #[.int .i64 x.epoch, .int .i64 x.granted, .slice p n k, .int .i64 x.merged, .int .i64 x.last]
  exact ⟨_, G, rfl, ⟨p, n, k, rfl, H3.out.2.2.1.agree ag, H3.out.2.2.2.2.2.1⟩, (H3.out.2.2.2.1.agree ag).mono (by omega), below_setRow H3.out.2.2.2.2.1 (by omega) _⟩
end Go.Proofs.Ytgkbhhlkaifnoab
/- The walks through SeatGrant and Owed, of the model and of the program. No statement of the seat is proved here. -/
namespace Go.Proofs.Ytgkbhhlkaifnoab
open Go.RowKit
theorem SeW.start {w W W1 W2 : World} {A : Array Value} {ep gr me la : Int} {ts : Sp} {b : Option Addr} {l c : Nat} {F : List Nat} (T : Two w A #[.int .i64 0, .int .i64 0, .slice none 0 0, .int .i64 0, .int .i64 0] 28 W) (hp : RdP W1 b l ts F) (hc : Capd b l c) (o : Own W.heap.size W1 F) (k : Below W.heap.size W W1) (g : Blk W2 W1.heap.size #[.int .i64 ep, .int .i64 gr, .slice b l c, .int .i64 me, .int .i64 la] 28) (k2 : Below W1.heap.size W1 W2) : SeW w A W1.heap.size ep gr me la ts b l c F W2 := by
  have hs := T.snd.lt
  have hk := k.size
  exact ⟨(T.fst.below k).below k2, (T.snd.below k).below k2, g, hp.below k2, hc, (o.below hp.lt k2).mono (by omega), Below.next (Below.next T.bel k) k2, by omega, fun hx => by have := hp.lt _ hx; omega⟩
/-- A seat behind a SeatGrant. -/
def Se.grant (x : Se) (per : Int) : Se := if x.ok per = true then ⟨x.epoch, min 60 (x.merged + per), x.taken, x.merged, x.last⟩ else x
theorem Se.grant_wide {x : Se} (h : x.wide) (per : Int) : (x.grant per).wide := by
  unfold Se.grant
  split <;> exact h
/-- What is granted and not added up. -/
def Se.owed (x : Se) : Int := if (0 ≤ x.granted ∧ x.granted ≤ 60) ∧ 0 ≤ x.merged ∧ x.merged ≤ 60 then max (x.granted - x.merged) 0 else 0
set_option maxRecDepth 200000 in
set_option maxHeartbeats 4000000 in
theorem seGrantSpec_any (v : Value) (x : Se) (per : Int) (F : List Nat) (w : World) (h : RdSe w v x F) (hl : x.taken.length ≤ 2097152) :
    Calls Try.prog 8 #[v, .int .i64 per] w fun e w' => NewSe w (x.grant per) e w' := by
  obtain ⟨b, l, c, rfl, hP, hcp⟩ := h
  have HX : Hid (RdSe w (.agg #[.int .i64 x.epoch, .int .i64 x.granted, .slice b l c, .int .i64 x.merged, .int .i64 x.last]) x F ∧ x.taken.length ≤ 2097152) := ⟨⟨b, l, c, rfl, hP, hcp⟩, hl⟩
  have HP : Hid (RdP w b l x.taken F ∧ l ≤ 2097152 ∧ x.taken.length = l ∧ Capd b l c) := ⟨hP, by rw [← hP.length]; exact hl, hP.length, hcp⟩
  have HSZ : Hid (0 ≤ x.taken.size ∧ x.taken.size ≤ 20971520000) := by have := Sp.size_range x.taken; exact ⟨this.1, by omega⟩
  clear hP hl hcp
  have HT : Hid (Two w #[.int .i64 x.epoch, .int .i64 x.granted, .slice b l c, .int .i64 x.merged, .int .i64 x.last] #[.int .i64 0, .int .i64 0, .slice none 0 0, .int .i64 0, .int .i64 0] 28 ((w.alloc (.cells #[.int .i64 x.epoch, .int .i64 x.granted, .slice b l c, .int .i64 x.merged, .int .i64 x.last] 28)).alloc (.cells #[.int .i64 0, .int .i64 0, .slice none 0 0, .int .i64 0, .int .i64 0] 28))) := Two.made w _ _ _
  go_enter Try.func8, Try.ntmps8
  go_wp2_with (first | go_skip | (with_reducible refine stopLoad 28 rfl ?_) | (with_reducible refine stopStore 28 rfl ?_))
  obtain ⟨W0, hW0⟩ : ∃ W, W = (w.alloc (.cells #[.int .i64 x.epoch, .int .i64 x.granted, .slice b l c, .int .i64 x.merged, .int .i64 x.last] 28)).alloc (.cells #[.int .i64 0, .int .i64 0, .slice none 0 0, .int .i64 0, .int .i64 0] 28) := ⟨_, rfl⟩
  rw [← hW0] at HT ⊢
  clear hW0
  refine load_known 28 w.heap.size #[.int .i64 x.epoch, .int .i64 x.granted, .slice b l c, .int .i64 x.merged, .int .i64 x.last] 28 _ HT.out.fst rfl rfl rfl Try.underlying28 rfl infoSeI ?_
  go_wp2_with fail
  refine (l9Copy_any _ x F _ (HX.out.1.below HT.out.bel) HX.out.2).mono ?_
  rintro e w1 ⟨zv, G, rfl, ⟨p, n, k, rfl, rp, kp⟩, oz, bz⟩
  have HC1 : Hid (Two w #[.int .i64 x.epoch, .int .i64 x.granted, .slice b l c, .int .i64 x.merged, .int .i64 x.last] #[.int .i64 0, .int .i64 0, .slice none 0 0, .int .i64 0, .int .i64 0] 28 W0 ∧ RdP w1 p n x.taken G ∧ Capd p n k ∧ Own W0.heap.size w1 G ∧ Below W0.heap.size W0 w1) := ⟨HT.out, rp, kp, oz, bz⟩
  clear rp kp oz bz HT
  go_wp2_with (first | go_skip | (with_reducible refine stopLoad 28 rfl ?_) | (with_reducible refine stopStore 28 rfl ?_))
  refine store_fresh 28 w1.heap.size rfl #[.int .i64 0, .int .i64 0, .slice none 0 0, .int .i64 0, .int .i64 0] #[.int .i64 x.epoch, .int .i64 x.granted, .slice p n k, .int .i64 x.merged, .int .i64 x.last] 28 rfl rfl rfl rfl infoSeI rfl (by simp [Value.oneCell']) ?_
  intro w2 hg hb
  have H2 : Hid (SeW w #[.int .i64 x.epoch, .int .i64 x.granted, .slice b l c, .int .i64 x.merged, .int .i64 x.last] w1.heap.size x.epoch x.granted x.merged x.last x.taken p n k G w2) := SeW.start HC1.out.1 HC1.out.2.1 HC1.out.2.2.1 HC1.out.2.2.2.1 HC1.out.2.2.2.2 hg hb
  obtain ⟨L, hL⟩ : ∃ L, L = w1.heap.size := ⟨_, rfl⟩
  rw [← hL] at H2 ⊢
  clear hg hb hL HC1
  go_wp2_with (first | go_skip | (with_reducible refine stopLoad 28 rfl ?_) | (with_reducible refine stopStore 28 rfl ?_))
  refine load_known 28 w.heap.size #[.int .i64 x.epoch, .int .i64 x.granted, .slice b l c, .int .i64 x.merged, .int .i64 x.last] 28 _ H2.out.box rfl rfl rfl Try.underlying28 rfl infoSeI ?_
  go_wp2_with fail
  refine (seOkSpec_any _ x per F _ (HX.out.1.below H2.out.bel) HX.out.2).mono ?_
  rintro e w3 ⟨rfl, hb⟩
  have H3 : Hid (SeW w #[.int .i64 x.epoch, .int .i64 x.granted, .slice b l c, .int .i64 x.merged, .int .i64 x.last] L x.epoch x.granted x.merged x.last x.taken p n k G w3) := H2.out.below hb
  obtain ⟨d, hd⟩ : ∃ d, d = x.ok per := ⟨_, rfl⟩
  rw [← hd]
  have HD : Hid (d = x.ok per) := hd
  clear hd hb H2
  cases d
  · have HV : Hid (x.grant per = x) := by show _ = _; unfold Se.grant; rw [← HD.out]; rfl
    go_wp2_with (first | go_skip | (with_reducible refine stopLoad 28 rfl ?_) | (with_reducible refine stopStore 28 rfl ?_))
    refine load_known 28 L #[.int .i64 x.epoch, .int .i64 x.granted, .slice p n k, .int .i64 x.merged, .int .i64 x.last] 28 _ H3.out.loc rfl rfl rfl Try.underlying28 rfl infoSeI ?_
    go_wp2_with (first | go_skip | (with_reducible refine stopLoad 28 rfl ?_) | (with_reducible refine stopStore 28 rfl ?_))
    refine store_known 28 (w.heap.size + 1) _ #[.int .i64 x.epoch, .int .i64 x.granted, .slice p n k, .int .i64 x.merged, .int .i64 x.last] 28 H3.out.res rfl rfl rfl rfl infoSeI rfl (by simp [Value.oneCell']) ?_
    go_wp2
    refine bodyPost_ret (results_cell_row Try.results8 _ _ (w.heap.size + 1) _ _ (0, 0) _ rfl H3.out.res.setRow Try.underlying28 rfl infoSeI) rfl ?_
    rw [HV.out]
    exact ⟨_, G, rfl, H3.out.done.1, H3.out.done.2.1, H3.out.done.2.2⟩
  have HR : Hid (x.Right per) := Se.right HD.out.symm
  have HV : Hid (x.grant per = ⟨x.epoch, min 60 (x.merged + per), x.taken, x.merged, x.last⟩) := by show _ = _; unfold Se.grant; rw [if_pos HD.out.symm]
  have hwz : IntKind.i64.wrap (x.merged + per) = x.merged + per := wrapSe (by have := HR.out.merged; have := HR.out.per; have := HSZ.out; omega)
  have hm0 : -10 ≤ x.merged + per := by have := HR.out.merged; have := HR.out.per; omega
  have hm1 : x.merged + per ≤ 20971520008 := by have := HR.out.merged; have := HR.out.per; have := HSZ.out; omega
  have c3' := H3.out.box.cell 3
  have c1' := H3.out.loc.cell 1
  have f1' := H3.out.loc.frozen 1
  simp only [aT, aS, aZ] at c3' c1'
  go_wp2_with fail
  refine (l1Min_any 60 (x.merged + per) _).mono ?_
  rintro e w4 ⟨rfl, hq⟩
  have hq' := hq.symm
  subst hq'
  obtain ⟨g, hg⟩ : ∃ g, g = min 60 (x.merged + per) := ⟨_, rfl⟩
  rw [← hg]
  have HG : Hid (min 60 (x.merged + per) = g) := hg.symm
  clear hq hg
  go_wp2_with (first | go_skip | (with_reducible refine stopLoad 28 rfl ?_) | (with_reducible refine stopStore 28 rfl ?_))
  have H5 : Hid (SeW w #[.int .i64 x.epoch, .int .i64 x.granted, .slice b l c, .int .i64 x.merged, .int .i64 x.last] L x.epoch g x.merged x.last x.taken p n k G (w3.setCell ⟨L, 1, none⟩ (.int .i64 g))) := H3.out.set 1 (.int .i64 g) rfl
  obtain ⟨w5, hw5⟩ : ∃ W, W = w3.setCell ⟨L, 1, none⟩ (.int .i64 g) := ⟨_, rfl⟩
  rw [← hw5] at H5 ⊢
  clear hw5 c3' c1' f1' H3 hwz hm0 hm1
  refine load_known 28 L #[.int .i64 x.epoch, .int .i64 g, .slice p n k, .int .i64 x.merged, .int .i64 x.last] 28 _ H5.out.loc rfl rfl rfl Try.underlying28 rfl infoSeI ?_
  go_wp2_with (first | go_skip | (with_reducible refine stopLoad 28 rfl ?_) | (with_reducible refine stopStore 28 rfl ?_))
  refine store_known 28 (w.heap.size + 1) _ #[.int .i64 x.epoch, .int .i64 g, .slice p n k, .int .i64 x.merged, .int .i64 x.last] 28 H5.out.res rfl rfl rfl rfl infoSeI rfl (by simp [Value.oneCell']) ?_
  go_wp2
  refine bodyPost_ret (results_cell_row Try.results8 _ _ (w.heap.size + 1) _ _ (0, 0) _ rfl H5.out.res.setRow Try.underlying28 rfl infoSeI) rfl ?_
  rw [HV.out, HG.out]
  exact ⟨_, G, rfl, H5.out.done.1, H5.out.done.2.1, H5.out.done.2.2⟩
set_option maxRecDepth 200000 in
set_option maxHeartbeats 4000000 in
theorem seGrantImpl_any (v : Value) (x : Se) (per : Int) (F : List Nat) (w : World) (h : RdSe w v x F) (hl : x.taken.length ≤ 2097152) :
    Calls Try.prog 10 #[v, .int .i64 per] w fun e w' => NewSe w (x.grant per) e w' := by
  obtain ⟨b, l, c, rfl, hP, hcp⟩ := h
  have HX : Hid (RdSe w (.agg #[.int .i64 x.epoch, .int .i64 x.granted, .slice b l c, .int .i64 x.merged, .int .i64 x.last]) x F ∧ x.taken.length ≤ 2097152) := ⟨⟨b, l, c, rfl, hP, hcp⟩, hl⟩
  have HP : Hid (RdP w b l x.taken F ∧ l ≤ 2097152 ∧ x.taken.length = l ∧ Capd b l c) := ⟨hP, by rw [← hP.length]; exact hl, hP.length, hcp⟩
  have HSZ : Hid (0 ≤ x.taken.size ∧ x.taken.size ≤ 20971520000) := by have := Sp.size_range x.taken; exact ⟨this.1, by omega⟩
  clear hP hl hcp
  have HT : Hid (Two w #[.int .i64 x.epoch, .int .i64 x.granted, .slice b l c, .int .i64 x.merged, .int .i64 x.last] #[.int .i64 0, .int .i64 0, .slice none 0 0, .int .i64 0, .int .i64 0] 28 ((w.alloc (.cells #[.int .i64 x.epoch, .int .i64 x.granted, .slice b l c, .int .i64 x.merged, .int .i64 x.last] 28)).alloc (.cells #[.int .i64 0, .int .i64 0, .slice none 0 0, .int .i64 0, .int .i64 0] 28))) := Two.made w _ _ _
  go_enter Try.func10, Try.ntmps10
  go_wp2_with (first | go_skip | (with_reducible refine stopLoad 28 rfl ?_) | (with_reducible refine stopStore 28 rfl ?_))
  obtain ⟨W0, hW0⟩ : ∃ W, W = (w.alloc (.cells #[.int .i64 x.epoch, .int .i64 x.granted, .slice b l c, .int .i64 x.merged, .int .i64 x.last] 28)).alloc (.cells #[.int .i64 0, .int .i64 0, .slice none 0 0, .int .i64 0, .int .i64 0] 28) := ⟨_, rfl⟩
  rw [← hW0] at HT ⊢
  clear hW0
  refine load_known 28 w.heap.size #[.int .i64 x.epoch, .int .i64 x.granted, .slice b l c, .int .i64 x.merged, .int .i64 x.last] 28 _ HT.out.fst rfl rfl rfl Try.underlying28 rfl infoSeI ?_
  go_wp2_with fail
  refine (copiedSeat_any _ x F _ (HX.out.1.below HT.out.bel) HX.out.2).mono ?_
  rintro e w1 ⟨zv, G, rfl, ⟨p, n, k, rfl, rp, kp⟩, oz, bz⟩
  have HC1 : Hid (Two w #[.int .i64 x.epoch, .int .i64 x.granted, .slice b l c, .int .i64 x.merged, .int .i64 x.last] #[.int .i64 0, .int .i64 0, .slice none 0 0, .int .i64 0, .int .i64 0] 28 W0 ∧ RdP w1 p n x.taken G ∧ Capd p n k ∧ Own W0.heap.size w1 G ∧ Below W0.heap.size W0 w1) := ⟨HT.out, rp, kp, oz, bz⟩
  clear rp kp oz bz HT
  go_wp2_with (first | go_skip | (with_reducible refine stopLoad 28 rfl ?_) | (with_reducible refine stopStore 28 rfl ?_))
  refine store_fresh 28 w1.heap.size rfl #[.int .i64 0, .int .i64 0, .slice none 0 0, .int .i64 0, .int .i64 0] #[.int .i64 x.epoch, .int .i64 x.granted, .slice p n k, .int .i64 x.merged, .int .i64 x.last] 28 rfl rfl rfl rfl infoSeI rfl (by simp [Value.oneCell']) ?_
  intro w2 hg hb
  have H2 : Hid (SeW w #[.int .i64 x.epoch, .int .i64 x.granted, .slice b l c, .int .i64 x.merged, .int .i64 x.last] w1.heap.size x.epoch x.granted x.merged x.last x.taken p n k G w2) := SeW.start HC1.out.1 HC1.out.2.1 HC1.out.2.2.1 HC1.out.2.2.2.1 HC1.out.2.2.2.2 hg hb
  obtain ⟨L, hL⟩ : ∃ L, L = w1.heap.size := ⟨_, rfl⟩
  rw [← hL] at H2 ⊢
  clear hg hb hL HC1
  go_wp2_with (first | go_skip | (with_reducible refine stopLoad 28 rfl ?_) | (with_reducible refine stopStore 28 rfl ?_))
  refine load_known 28 w.heap.size #[.int .i64 x.epoch, .int .i64 x.granted, .slice b l c, .int .i64 x.merged, .int .i64 x.last] 28 _ H2.out.box rfl rfl rfl Try.underlying28 rfl infoSeI ?_
  go_wp2_with fail
  refine (seOkImpl_any _ x per F _ (HX.out.1.below H2.out.bel) HX.out.2).mono ?_
  rintro e w3 ⟨rfl, hb⟩
  have H3 : Hid (SeW w #[.int .i64 x.epoch, .int .i64 x.granted, .slice b l c, .int .i64 x.merged, .int .i64 x.last] L x.epoch x.granted x.merged x.last x.taken p n k G w3) := H2.out.below hb
  obtain ⟨d, hd⟩ : ∃ d, d = x.ok per := ⟨_, rfl⟩
  rw [← hd]
  have HD : Hid (d = x.ok per) := hd
  clear hd hb H2
  cases d
  · have HV : Hid (x.grant per = x) := by show _ = _; unfold Se.grant; rw [← HD.out]; rfl
    go_wp2_with (first | go_skip | (with_reducible refine stopLoad 28 rfl ?_) | (with_reducible refine stopStore 28 rfl ?_))
    refine load_known 28 L #[.int .i64 x.epoch, .int .i64 x.granted, .slice p n k, .int .i64 x.merged, .int .i64 x.last] 28 _ H3.out.loc rfl rfl rfl Try.underlying28 rfl infoSeI ?_
    go_wp2_with (first | go_skip | (with_reducible refine stopLoad 28 rfl ?_) | (with_reducible refine stopStore 28 rfl ?_))
    refine store_known 28 (w.heap.size + 1) _ #[.int .i64 x.epoch, .int .i64 x.granted, .slice p n k, .int .i64 x.merged, .int .i64 x.last] 28 H3.out.res rfl rfl rfl rfl infoSeI rfl (by simp [Value.oneCell']) ?_
    go_wp2
    refine bodyPost_ret (results_cell_row Try.results10 _ _ (w.heap.size + 1) _ _ (0, 0) _ rfl H3.out.res.setRow Try.underlying28 rfl infoSeI) rfl ?_
    rw [HV.out]
    exact ⟨_, G, rfl, H3.out.done.1, H3.out.done.2.1, H3.out.done.2.2⟩
  have HR : Hid (x.Right per) := Se.right HD.out.symm
  have HV : Hid (x.grant per = ⟨x.epoch, min 60 (x.merged + per), x.taken, x.merged, x.last⟩) := by show _ = _; unfold Se.grant; rw [if_pos HD.out.symm]
  have hwz : IntKind.i64.wrap (x.merged + per) = x.merged + per := wrapSe (by have := HR.out.merged; have := HR.out.per; have := HSZ.out; omega)
  have hm0 : -10 ≤ x.merged + per := by have := HR.out.merged; have := HR.out.per; omega
  have hm1 : x.merged + per ≤ 20971520008 := by have := HR.out.merged; have := HR.out.per; have := HSZ.out; omega
  have c3' := H3.out.box.cell 3
  have c1' := H3.out.loc.cell 1
  have f1' := H3.out.loc.frozen 1
  simp only [aT, aS, aZ] at c3' c1'
  by_cases hlt : x.merged + per < 60
  · have HG : Hid (min 60 (x.merged + per) = x.merged + per) := by show _ = _; omega
    have hd1 : decide (x.merged + per < 60) = true := decide_eq_true hlt
    have hd2 : decide (60 < x.merged + per) = false := decide_eq_false (by omega)
    go_wp2_with (first | go_skip | (with_reducible refine stopLoad 28 rfl ?_) | (with_reducible refine stopStore 28 rfl ?_))
    clear hlt hd1 hd2
    have H5 : Hid (SeW w #[.int .i64 x.epoch, .int .i64 x.granted, .slice b l c, .int .i64 x.merged, .int .i64 x.last] L x.epoch (x.merged + per) x.merged x.last x.taken p n k G (w3.setCell ⟨L, 1, none⟩ (.int .i64 (x.merged + per)))) := H3.out.set 1 (.int .i64 (x.merged + per)) rfl
    obtain ⟨w5, hw5⟩ : ∃ W, W = w3.setCell ⟨L, 1, none⟩ (.int .i64 (x.merged + per)) := ⟨_, rfl⟩
    rw [← hw5] at H5 ⊢
    clear hw5 c3' c1' f1' H3 hwz hm0 hm1
    refine load_known 28 L #[.int .i64 x.epoch, .int .i64 (x.merged + per), .slice p n k, .int .i64 x.merged, .int .i64 x.last] 28 _ H5.out.loc rfl rfl rfl Try.underlying28 rfl infoSeI ?_
    go_wp2_with (first | go_skip | (with_reducible refine stopLoad 28 rfl ?_) | (with_reducible refine stopStore 28 rfl ?_))
    refine store_known 28 (w.heap.size + 1) _ #[.int .i64 x.epoch, .int .i64 (x.merged + per), .slice p n k, .int .i64 x.merged, .int .i64 x.last] 28 H5.out.res rfl rfl rfl rfl infoSeI rfl (by simp [Value.oneCell']) ?_
    go_wp2
    refine bodyPost_ret (results_cell_row Try.results10 _ _ (w.heap.size + 1) _ _ (0, 0) _ rfl H5.out.res.setRow Try.underlying28 rfl infoSeI) rfl ?_
    rw [HV.out, HG.out]
    exact ⟨_, G, rfl, H5.out.done.1, H5.out.done.2.1, H5.out.done.2.2⟩
  · have HG : Hid (min 60 (x.merged + per) = 60) := by show _ = _; omega
    have hd1 : decide (x.merged + per < 60) = false := decide_eq_false hlt
    go_wp2_with (first | go_skip | (with_reducible refine stopLoad 28 rfl ?_) | (with_reducible refine stopStore 28 rfl ?_))
    clear hlt hd1
    have H5 : Hid (SeW w #[.int .i64 x.epoch, .int .i64 x.granted, .slice b l c, .int .i64 x.merged, .int .i64 x.last] L x.epoch 60 x.merged x.last x.taken p n k G (w3.setCell ⟨L, 1, none⟩ (.int .i64 60))) := H3.out.set 1 (.int .i64 60) rfl
    obtain ⟨w5, hw5⟩ : ∃ W, W = w3.setCell ⟨L, 1, none⟩ (.int .i64 60) := ⟨_, rfl⟩
    rw [← hw5] at H5 ⊢
    clear hw5 c3' c1' f1' H3 hwz hm0 hm1
    refine load_known 28 L #[.int .i64 x.epoch, .int .i64 60, .slice p n k, .int .i64 x.merged, .int .i64 x.last] 28 _ H5.out.loc rfl rfl rfl Try.underlying28 rfl infoSeI ?_
    go_wp2_with (first | go_skip | (with_reducible refine stopLoad 28 rfl ?_) | (with_reducible refine stopStore 28 rfl ?_))
    refine store_known 28 (w.heap.size + 1) _ #[.int .i64 x.epoch, .int .i64 60, .slice p n k, .int .i64 x.merged, .int .i64 x.last] 28 H5.out.res rfl rfl rfl rfl infoSeI rfl (by simp [Value.oneCell']) ?_
    go_wp2
    refine bodyPost_ret (results_cell_row Try.results10 _ _ (w.heap.size + 1) _ _ (0, 0) _ rfl H5.out.res.setRow Try.underlying28 rfl infoSeI) rfl ?_
    rw [HV.out, HG.out]
    exact ⟨_, G, rfl, H5.out.done.1, H5.out.done.2.1, H5.out.done.2.2⟩
set_option maxRecDepth 200000 in
set_option maxHeartbeats 4000000 in
theorem owedSpec_any (v : Value) (x : Se) (F : List Nat) (w : World) (h : RdSe w v x F) (hl : x.taken.length ≤ 2097152) :
    Calls Try.prog 18 #[v] w fun e w' => e = .returned (.int .i64 x.owed) ∧ Below w.heap.size w w' := by
  obtain ⟨b, l, c, rfl, hP, hcp⟩ := h
  have HX : Hid (RdSe w (.agg #[.int .i64 x.epoch, .int .i64 x.granted, .slice b l c, .int .i64 x.merged, .int .i64 x.last]) x F ∧ x.taken.length ≤ 2097152) := ⟨⟨b, l, c, rfl, hP, hcp⟩, hl⟩
  have HP : Hid (RdP w b l x.taken F ∧ l ≤ 2097152 ∧ x.taken.length = l ∧ Capd b l c) := ⟨hP, by rw [← hP.length]; exact hl, hP.length, hcp⟩
  have HSZ0 : Hid (0 ≤ x.taken.size ∧ x.taken.size ≤ 20971520000) := by have := Sp.size_range x.taken; exact ⟨this.1, by omega⟩
  clear hP hl hcp
  have HB : Hid (Blk (w.alloc (.cells #[.int .i64 x.epoch, .int .i64 x.granted, .slice b l c, .int .i64 x.merged, .int .i64 x.last] 28)) w.heap.size #[.int .i64 x.epoch, .int .i64 x.granted, .slice b l c, .int .i64 x.merged, .int .i64 x.last] 28 ∧ Below w.heap.size w (w.alloc (.cells #[.int .i64 x.epoch, .int .i64 x.granted, .slice b l c, .int .i64 x.merged, .int .i64 x.last] 28))) := ⟨Blk.made _ _ _, (Below.refl _ _).alloc (Nat.le_refl _) _⟩
  go_enter Try.func18, Try.ntmps18
  go_wp2_with fail
  refine (l1In_any x.granted 0 60 _).mono ?_
  rintro e w2 ⟨rfl, hw2⟩
  have hw2' := hw2.symm
  subst hw2'
  clear hw2
  obtain ⟨d1, hd1⟩ : ∃ d, d = decide (0 ≤ x.granted ∧ x.granted ≤ 60) := ⟨_, rfl⟩
  rw [← hd1]
  have HD1 : Hid (d1 = decide (0 ≤ x.granted ∧ x.granted ≤ 60)) := hd1
  clear hd1
  cases d1
  · have HV : Hid (x.owed = 0) := by show _ = _; have := of_decide_eq_false HD1.out.symm; unfold Se.owed; rw [if_neg (by omega)]
    go_wp2
    go_ret
    exact ⟨ret_int HV.out.symm, HB.out.2⟩
  go_wp2_with fail
  refine (l1In_any x.merged 0 60 _).mono ?_
  rintro e w2 ⟨rfl, hw2⟩
  have hw2' := hw2.symm
  subst hw2'
  clear hw2
  obtain ⟨d2, hd2⟩ : ∃ d, d = decide (0 ≤ x.merged ∧ x.merged ≤ 60) := ⟨_, rfl⟩
  rw [← hd2]
  have HD2 : Hid (d2 = decide (0 ≤ x.merged ∧ x.merged ≤ 60)) := hd2
  clear hd2
  cases d2
  · have HV : Hid (x.owed = 0) := by show _ = _; have := of_decide_eq_false HD2.out.symm; unfold Se.owed; rw [if_neg (by omega)]
    go_wp2
    go_ret
    exact ⟨ret_int HV.out.symm, HB.out.2⟩
  have h1 : 0 ≤ x.granted ∧ x.granted ≤ 60 := of_decide_eq_true HD1.out.symm
  have h2 : 0 ≤ x.merged ∧ x.merged ≤ 60 := of_decide_eq_true HD2.out.symm
  have HV : Hid (x.owed = max (x.granted - x.merged) 0) := by show _ = _; unfold Se.owed; rw [if_pos ⟨h1, h2⟩]
  have hwz : IntKind.i64.wrap (x.granted - x.merged) = x.granted - x.merged := wrapSe (by omega)
  go_wp2_with fail
  refine (l1Max_any (x.granted - x.merged) 0 _).mono ?_
  rintro e w4 ⟨rfl, hq⟩
  have hq' := hq.symm
  subst hq'
  obtain ⟨g, hg⟩ : ∃ g, g = max (x.granted - x.merged) 0 := ⟨_, rfl⟩
  rw [← hg]
  have HG : Hid (g = x.owed) := hg.trans HV.out.symm
  clear hq hg
  go_wp2
  go_ret
  exact ⟨ret_int HG.out, HB.out.2⟩
set_option maxRecDepth 200000 in
set_option maxHeartbeats 4000000 in
theorem owedImpl_any (v : Value) (x : Se) (F : List Nat) (w : World) (h : RdSe w v x F) (hl : x.taken.length ≤ 2097152) :
    Calls Try.prog 19 #[v] w fun e w' => e = .returned (.int .i64 x.owed) ∧ Below w.heap.size w w' := by
  obtain ⟨b, l, c, rfl, hP, hcp⟩ := h
  have HX : Hid (RdSe w (.agg #[.int .i64 x.epoch, .int .i64 x.granted, .slice b l c, .int .i64 x.merged, .int .i64 x.last]) x F ∧ x.taken.length ≤ 2097152) := ⟨⟨b, l, c, rfl, hP, hcp⟩, hl⟩
  have HP : Hid (RdP w b l x.taken F ∧ l ≤ 2097152 ∧ x.taken.length = l ∧ Capd b l c) := ⟨hP, by rw [← hP.length]; exact hl, hP.length, hcp⟩
  have HSZ0 : Hid (0 ≤ x.taken.size ∧ x.taken.size ≤ 20971520000) := by have := Sp.size_range x.taken; exact ⟨this.1, by omega⟩
  clear hP hl hcp
  have HB : Hid (Blk (w.alloc (.cells #[.int .i64 x.epoch, .int .i64 x.granted, .slice b l c, .int .i64 x.merged, .int .i64 x.last] 28)) w.heap.size #[.int .i64 x.epoch, .int .i64 x.granted, .slice b l c, .int .i64 x.merged, .int .i64 x.last] 28 ∧ Below w.heap.size w (w.alloc (.cells #[.int .i64 x.epoch, .int .i64 x.granted, .slice b l c, .int .i64 x.merged, .int .i64 x.last] 28))) := ⟨Blk.made _ _ _, (Below.refl _ _).alloc (Nat.le_refl _) _⟩
  go_enter Try.func19, Try.ntmps19
  go_wp2_with fail
  refine (inRange_any x.granted 60 _).mono ?_
  rintro e w2 ⟨rfl, hw2⟩
  have hw2' := hw2.symm
  subst hw2'
  clear hw2
  obtain ⟨d1, hd1⟩ : ∃ d, d = decide (0 ≤ x.granted ∧ x.granted ≤ 60) := ⟨_, rfl⟩
  rw [← hd1]
  have HD1 : Hid (d1 = decide (0 ≤ x.granted ∧ x.granted ≤ 60)) := hd1
  clear hd1
  cases d1
  · have HV : Hid (x.owed = 0) := by show _ = _; have := of_decide_eq_false HD1.out.symm; unfold Se.owed; rw [if_neg (by omega)]
    go_wp2
    go_ret
    exact ⟨ret_int HV.out.symm, HB.out.2⟩
  go_wp2_with fail
  refine (inRange_any x.merged 60 _).mono ?_
  rintro e w2 ⟨rfl, hw2⟩
  have hw2' := hw2.symm
  subst hw2'
  clear hw2
  obtain ⟨d2, hd2⟩ : ∃ d, d = decide (0 ≤ x.merged ∧ x.merged ≤ 60) := ⟨_, rfl⟩
  rw [← hd2]
  have HD2 : Hid (d2 = decide (0 ≤ x.merged ∧ x.merged ≤ 60)) := hd2
  clear hd2
  cases d2
  · have HV : Hid (x.owed = 0) := by show _ = _; have := of_decide_eq_false HD2.out.symm; unfold Se.owed; rw [if_neg (by omega)]
    go_wp2
    go_ret
    exact ⟨ret_int HV.out.symm, HB.out.2⟩
  have h1 : 0 ≤ x.granted ∧ x.granted ≤ 60 := of_decide_eq_true HD1.out.symm
  have h2 : 0 ≤ x.merged ∧ x.merged ≤ 60 := of_decide_eq_true HD2.out.symm
  have HV : Hid (x.owed = max (x.granted - x.merged) 0) := by show _ = _; unfold Se.owed; rw [if_pos ⟨h1, h2⟩]
  have hwz : IntKind.i64.wrap (x.granted - x.merged) = x.granted - x.merged := wrapSe (by omega)
  by_cases hlt : x.granted - x.merged < 0
  · have HG : Hid (0 = x.owed) := by show _ = _; rw [HV.out]; omega
    have hd1 : decide (x.granted - x.merged < 0) = true := decide_eq_true hlt
    go_wp2
    go_ret
    exact ⟨ret_int HG.out, HB.out.2⟩
  · have HG : Hid (x.granted - x.merged = x.owed) := by show _ = _; rw [HV.out]; omega
    have hd1 : decide (x.granted - x.merged < 0) = false := decide_eq_false hlt
    go_wp2
    go_ret
    exact ⟨ret_int HG.out, HB.out.2⟩
end Go.Proofs.Ytgkbhhlkaifnoab
/- Items and entries that came in. No statement of the seat is proved here. -/
namespace Go.Proofs.Ytgkbhhlkaifnoab
open Go.RowKit Go.WideShapes Go.ChangeShapes Go.ChangeAt Go.Deep
end Go.Proofs.Ytgkbhhlkaifnoab
/- What the laws over items and entries share. No statement of the seat is proved here. -/
namespace Go.Proofs.Ytgkbhhlkaifnoab
open Go.RowKit Go.WideShapes Go.ChangeShapes Go.ChangeAt
theorem RdIt.cells {w : World} {v : Value} {x : It} {F : List Nat} (h : RdIt w v x F) : ∃ cs : Array Value, v = .agg cs ∧ cs.size = 11 ∧ cs.all (·.oneCell') = true := by
  obtain ⟨a1, n1, c1, a2, n2, c2, a3, n3, c3, rfl, _⟩ := h
  exact ⟨_, rfl, rfl, by simp [Value.oneCell']⟩
/-- An entry's value that can be read; F: its blocks. -/
def RdE (w : World) (v : Value) (x : En) (F : List Nat) : Prop := ∃ F1 F2, F = F1 ++ F2 ∧ RdEn w v x F1 F2
theorem RdE.agree {w w' : World} {v : Value} {x : En} {F : List Nat} (h : RdE w v x F) (ha : Agree w w' F) : RdE w' v x F := by
  obtain ⟨F1, F2, rfl, h⟩ := h
  exact ⟨F1, F2, rfl, h.agree (fun b hb => ha b (List.mem_append_left _ hb)) (fun b hb => ha b (List.mem_append_right _ hb))⟩
theorem RdE.lt {w : World} {v : Value} {x : En} {F : List Nat} (h : RdE w v x F) : ∀ b ∈ F, b < w.heap.size := by
  obtain ⟨F1, F2, rfl, h⟩ := h
  exact fun b hb => (List.mem_append.1 hb).elim (h.lt1 b) (h.lt2 b)
theorem RdE.below {w w' : World} {v : Value} {x : En} {F : List Nat} (h : RdE w v x F) (hb : Below w.heap.size w w') : RdE w' v x F := h.agree (.below hb h.lt)
theorem RdE.cells {w : World} {v : Value} {x : En} {F : List Nat} (h : RdE w v x F) : ∃ cs : Array Value, v = .agg cs ∧ cs.size = 10 ∧ cs.all (·.oneCell') = true := by
  obtain ⟨F1, F2, rfl, b, l, c, a1, n1, c1, a2, n2, c2, a3, n3, c3, rfl, _⟩ := h
  exact ⟨_, rfl, rfl, by simp [Value.oneCell']⟩
def It.vast (x : It) : Prop := x.sk.vast
def It.fits (x : It) : Prop := x.sk.fits
def It.wide (x : It) : Prop := x.sk.wide
theorem It.fits.wide {x : It} (h : x.fits) : x.wide := Sk.fits.wide h
def En.vast (x : En) : Prop := x.sk.vast ∧ x.ids.length ≤ 9223372036854775807
def En.fits (x : En) : Prop := x.sk.fits ∧ x.ids.length ≤ 1048576
def En.wide (x : En) : Prop := x.sk.wide ∧ x.ids.length ≤ 1048576
theorem En.fits.wide {x : En} (h : x.fits) : x.wide := ⟨h.1.wide, h.2⟩
theorem It.fits_of {x : It} {r left : Int} (h : r = left - x.sk.size) (h0 : 0 ≤ r) (hl : left ≤ 1048576) : x.fits := Sk.fits_of (by omega)
theorem En.fits_of {x : En} {r left : Int} (h : r = left - x.ids.length - x.sk.size ∧ (x.ids.length : Int) ≤ left ∧ x.sk.size ≤ left) (_h0 : 0 ≤ r) (hl : left ≤ 1048576) : x.fits := ⟨Sk.fits_of (by omega), by omega⟩
end Go.Proofs.Ytgkbhhlkaifnoab
/- Entries and items that are marked; an entry in a variable of the law's own. No statement of the seat is proved here. -/
namespace Go.Proofs.Ytgkbhhlkaifnoab
open Go.RowKit
/-- The pairs that a marked set bears. -/
def markP (k : Int) (n : Nat) : Sp := (List.range n).map fun i : Nat => (k + 2 * (i : Int), k + 2 * (i : Int) + 1)
theorem flat_markP (k : Int) (n : Nat) : flat (markP k n) = marksI k (2 * n) := by
  induction n with
  | zero => rfl
  | succ n ih =>
    have e : markP k (n + 1) = markP k n ++ [(k + 2 * (n : Int), k + 2 * (n : Int) + 1)] := by unfold markP; rw [List.range_succ, List.map_append]; rfl
    rw [e, flat_append, ih, show 2 * (n + 1) = 2 * n + 1 + 1 by omega, marksI, marksI, List.append_assoc]
    have e1 : k + ((2 * n : Nat) : Int) = k + 2 * (n : Int) := by omega
    have e2 : k + ((2 * n + 1 : Nat) : Int) = k + 2 * (n : Int) + 1 := by omega
    rw [e1, e2]
    rfl
theorem markP_length (k : Int) (n : Nat) : (markP k n).length = n := by unfold markP; simp
def En.many (x : En) : Int := 2 * x.ids.length + x.sk.many
def En.marked (k : Int) (x : En) : En := ⟨x.key, x.window, markP k x.ids.length, x.sk.marked (k + 2 * x.ids.length)⟩
structure MarkedE (B : Nat) (w : World) (v : Value) (k : Int) (x : En) (F : List Nat) (w' : World) : Prop where
  rd : RdE w' v (x.marked k) F
  own : Own B w' F
  only : Only F w w'
theorem Sk.many_nonneg (s : Sk) : 0 ≤ s.many := by
  have := sumLen_nonneg s.rows
  unfold Sk.many
  omega
theorem Sk.size_nonneg (s : Sk) : 0 ≤ s.size := by
  have h0 := sumLen_nonneg s.rows
  unfold Sk.size
  omega
theorem En.fits_sz {x : En} (h : x.ids.length + x.sk.size ≤ 1048576) : x.fits := by
  have := Sk.size_nonneg x.sk
  exact ⟨Sk.fits_of (by omega), by omega⟩
theorem En.many_fits {x : En} (h : x.ids.length + x.sk.size ≤ 1048576) : 0 ≤ x.many ∧ x.many ≤ 4194304 := by
  have h1 := Sk.many_nonneg x.sk
  have h2 : x.sk.many ≤ x.sk.size := by
    have h0 := sumLen_nonneg x.sk.rows
    unfold Sk.size Sk.many
    omega
  unfold En.many
  omega
end Go.Proofs.Ytgkbhhlkaifnoab
/- Seats that came in, that are marked; a seat in a variable of the law's own. No statement of the seat is proved here. -/
namespace Go.Proofs.Ytgkbhhlkaifnoab
open Go.RowKit Go.WideShapes Go.ChangeShapes Go.ChangeAt Go.Deep
def Se.marked (k : Int) (x : Se) : Se := { x with taken := markP k x.taken.length }
theorem Se.many_fits {x : Se} (h : x.fits) : 0 ≤ x.many ∧ x.many ≤ 4194304 := by unfold Se.fits at h; unfold Se.many; omega
theorem Se.many_wide {x : Se} (h : x.wide) : 0 ≤ x.many ∧ x.many ≤ 4194304 := by unfold Se.wide at h; unfold Se.many; omega
structure MarkedSe (B : Nat) (w : World) (v : Value) (k : Int) (x : Se) (F : List Nat) (w' : World) : Prop where
  rd : RdSe w' v (x.marked k) F
  own : Own B w' F
  only : Only F w w'
set_option maxRecDepth 100000 in
set_option maxHeartbeats 1000000 in
theorem open_spsS {H : Type} {enc : TypeId × Value → H} {W : World} {v : Value} {fuel : Nat} {z : DataW H × List MemPlace} (g : DataW.trod enc Try.prog W 0 (fun _ => true) true fuel 22 [v] = some z) :
    ∃ a len cap ps F, v = .slice a len cap ∧ RdP W a len ps F ∧ len ≤ 9223372036854775807 ∧ Capd a len cap := by
  have c3 : Try.prog.cellsOf 3 = 1 := by kernel_rfl
  have c2 : Try.prog.cellsOf 54 = 2 := by kernel_rfl
  rcases open_slice_pairs Try.underlying22 Try.underlying54 c2 rfl rfl c3 c3 g with ⟨q, _⟩ | ⟨x, len, cap, m, n, V0, V1, D0, D1, P0, P1, q, _, hl, hm, hmm, _, hx⟩
  · simp at q
    subst q
    exact ⟨none, 0, 0, [], [], rfl, RdP.nil, by omega, fun _ => rfl, Nat.le_refl _⟩
  · simp at q
    subst q
    have hm2 : m = cap := by rw [hmm]; simp
    subst hm2
    have hb : len ≤ 9223372036854775807 := by unfold maxLen at hm; omega
    have ints : ∀ i, i < m → ∃ y z : Int, V0 i = .int .i64 y ∧ V1 i = .int .i64 z ∧ (Lit.int .i64 y).wf = true ∧ (Lit.int .i64 z).wf = true := fun i hi => by
      obtain ⟨_, _, h3, h4⟩ := hx i hi
      obtain ⟨y, q0, _, w0⟩ := DataW.trod_int Try.underlying3 h3
      obtain ⟨z, q1, _, w1⟩ := DataW.trod_int Try.underlying3 h4
      simp at q0 q1
      exact ⟨y, z, q0, q1, w0, w1⟩
    have hN : ∀ i, i < m → V0 i = .int .i64 (intOf (V0 i)) ∧ V1 i = .int .i64 (intOf (V1 i)) ∧ Fit64 (intOf (V0 i)) ∧ Fit64 (intOf (V1 i)) := fun i hi => by
      obtain ⟨y, z, e0, e1, w0, w1⟩ := ints i hi
      rw [e0, e1]
      exact ⟨rfl, rfl, int_wf w0, int_wf w1⟩
    by_cases h0 : len = 0
    · subst h0
      exact ⟨_, 0, _, [], [], rfl, RdP.nil, by omega, fun e => (by cases e), hl⟩
    · obtain ⟨b, off, rfl⟩ := sp_addr (hx 0 (by omega)).1
      refine ⟨_, len, m, (List.range len).map fun i => (intOf (V0 i), intOf (V1 i)), [b], rfl, rdP_mk _ (by simp) (by omega) (fun i hi => ?_), hb, fun e => (by cases e), hl⟩
      · rw [flat_range len _ _ i hi]
        have h1 := (hx i (by omega)).1
        have h2 := (hx i (by omega)).2.1
        rw [sp_add] at h1 h2
        rw [(hN i (by omega)).1] at h1
        rw [(hN i (by omega)).2.1] at h2
        exact ⟨h1, by rw [show off + i * 2 + 1 = off + (i * 2 + 1) by omega]; exact h2⟩
set_option maxRecDepth 100000 in
set_option maxHeartbeats 1000000 in
theorem open_Se {H : Type} {enc : TypeId × Value → H} {W : World} {base : Nat} {v : Value} {d : DataW H} {p : List MemPlace} (hv : Value.okWide Try.prog W .any base 24 v) (h : DataW.Trod enc Try.prog W 0 (fun _ => true) true 24 v d p) :
    ∃ x F, RdSe W v x F ∧ x.vast := by
  obtain ⟨cs, rfl, hsz⟩ := okWide_struct Try.underlying24 hv
  have hC : Try.prog.cellsOf 24 = 5 := by kernel_rfl
  have c3 : Try.prog.cellsOf 3 = 1 := by kernel_rfl
  have c4 : Try.prog.cellsOf 22 = 1 := by kernel_rfl
  rw [hC] at hsz
  obtain ⟨l⟩ := cs
  match l, hsz with
  | [e0, e1, e2, e3, e4], _ =>
    obtain ⟨fuel, hf⟩ := h
    obtain ⟨xs, n, _, _, _, hlen, hx⟩ := DataW.trod_struct Try.underlying24 hf
    match xs, hlen with
    | [y0, y1, y2, y3, y4], _ =>
      have g0 := hx 0 _ rfl
      have g1 := hx 1 _ rfl
      have g2 := hx 2 _ rfl
      have g3 := hx 3 _ rfl
      have g4 := hx 4 _ rfl
      simp [Value.cells, c3, c4] at g0 g1 g2 g3 g4
      clear hx
      obtain ⟨i0, q0, _, _⟩ := DataW.trod_int Try.underlying3 g0
      obtain ⟨i1, q1, _, _⟩ := DataW.trod_int Try.underlying3 g1
      obtain ⟨i3, q3, _, _⟩ := DataW.trod_int Try.underlying3 g3
      obtain ⟨i4, q4, _, _⟩ := DataW.trod_int Try.underlying3 g4
      simp at q0 q1 q3 q4
      subst q0 q1 q3 q4
      obtain ⟨a, len, cap, ps, F, rfl, hp, hb, hcp⟩ := open_spsS g2
      exact ⟨⟨i0, i1, ps, i3, i4⟩, F, ⟨a, len, cap, rfl, hp, hcp⟩, by show ps.length ≤ _; rw [hp.length]; exact hb⟩
set_option maxRecDepth 200000 in
set_option maxHeartbeats 1000000 in
theorem markSe_any (B : Nat) (v : Value) (x : Se) (F : List Nat) (k : Int) (w : World) (h : RdSe w v x F) (ho : Own B w F) (hw : x.wide) (hk0 : 0 ≤ k) (hk1 : k + x.many ≤ 1000000000000) :
    Calls Try.prog 12 #[v, .int .i64 k] w fun e w' => e = .returned (.int .i64 (k + x.many)) ∧ MarkedSe B w v k x F w' := by
  obtain ⟨b, l, c, rfl, hP, hc⟩ := h
  have HM : Hid (x.many = 2 * (l : Int) ∧ k + x.many ≤ 1000000000000) := ⟨by unfold Se.many; rw [hP.length], hk1⟩
  have hl : l ≤ 2097152 := by rw [← hP.length]; exact hw
  have HCP : Hid (Capd b l c) := hc
  have HB : Hid (Below w.heap.size w (w.alloc (.cells #[.int .i64 x.epoch, .int .i64 x.granted, .slice b l c, .int .i64 x.merged, .int .i64 x.last] 28)) ∧ Blk (w.alloc (.cells #[.int .i64 x.epoch, .int .i64 x.granted, .slice b l c, .int .i64 x.merged, .int .i64 x.last] 28)) w.heap.size #[.int .i64 x.epoch, .int .i64 x.granted, .slice b l c, .int .i64 x.merged, .int .i64 x.last] 28) := ⟨Below.allocW _ (Below.refl _ _) (Nat.le_refl _), Blk.made _ _ _⟩
  have HR : Hid (RdP w b l x.taken F ∧ Own B w F) := ⟨hP, ho⟩
  clear hP ho hw hk1 hc
  go_enter Try.func12, Try.ntmps12
  go_wp2_with fail
  refine (markSpanS_any B b l c (flat x.taken) F k _ (HR.out.1.below HB.out.1).rd (HR.out.2.below HR.out.1.lt HB.out.1) hk0 (by have := HM.out; omega)).mono ?_
  rintro e w2 ⟨rfl, m2⟩
  have H2 : Hid (MarkedP B (w.alloc (.cells #[.int .i64 x.epoch, .int .i64 x.granted, .slice b l c, .int .i64 x.merged, .int .i64 x.last] 28)) b l k F w2) := m2
  clear m2
  obtain ⟨y2, hy2⟩ : ∃ y, y = k + 2 * (l : Int) := ⟨_, rfl⟩
  rw [← hy2]
  have HY2 : Hid (y2 = k + 2 * (l : Int)) := hy2
  clear hy2
  go_wp2
  go_ret
  have hlen := HR.out.1.length
  refine ⟨ret_int (by have := HM.out; have := HY2.out; omega), ⟨⟨b, l, c, rfl, ⟨by show (markP k x.taken.length).length = l; rw [markP_length]; exact hlen, ?_⟩, HCP.out⟩, H2.out.own, (Only.of_below HB.out.1).trans H2.out.only⟩⟩
  show RdI w2 b (2 * l) (flat (markP k x.taken.length)) F
  rw [flat_markP, hlen]
  exact H2.out.rd
set_option maxRecDepth 200000 in
set_option maxHeartbeats 1000000 in
theorem heldSe_any (v : Value) (x : Se) (F : List Nat) (k : Int) (w : World) (h : RdSe w v (x.marked k) F) (hw : x.wide) (hk0 : 0 ≤ k) (hk1 : k + x.many ≤ 1000000000000) :
    Calls Try.prog 13 #[v, .int .i64 k] w fun e w' => e = .returned (.int .i64 (k + x.many)) ∧ Below w.heap.size w w' := by
  obtain ⟨b, l, c, rfl, hP, hc⟩ := h
  have hlen : x.taken.length = l := by have := hP.length; rw [← this]; exact (markP_length k x.taken.length).symm
  have hp' : RdI w b (2 * l) (marksI k (2 * l)) F := by have := hP.rd; rw [show (x.marked k).taken = markP k x.taken.length from rfl, flat_markP, hlen] at this; exact this
  have HM : Hid (x.many = 2 * (l : Int) ∧ k + x.many ≤ 1000000000000) := ⟨by unfold Se.many; rw [hlen], hk1⟩
  have hl : l ≤ 2097152 := by rw [← hlen]; exact hw
  have HB : Hid (Below w.heap.size w (w.alloc (.cells #[.int .i64 x.epoch, .int .i64 x.granted, .slice b l c, .int .i64 x.merged, .int .i64 x.last] 28)) ∧ Blk (w.alloc (.cells #[.int .i64 x.epoch, .int .i64 x.granted, .slice b l c, .int .i64 x.merged, .int .i64 x.last] 28)) w.heap.size #[.int .i64 x.epoch, .int .i64 x.granted, .slice b l c, .int .i64 x.merged, .int .i64 x.last] 28) := ⟨(Below.refl _ _).alloc (Nat.le_refl _) _, Blk.made _ _ _⟩
  have HR : Hid (RdI w b (2 * l) (marksI k (2 * l)) F) := hp'
  clear hP hw hk1 hp' hc
  show Calls _ _ #[.agg #[.int .i64 x.epoch, .int .i64 x.granted, .slice b l c, .int .i64 x.merged, .int .i64 x.last], .int .i64 k] w _
  go_enter Try.func13, Try.ntmps13
  go_wp2_with fail
  refine (heldSpanS_any b l c F k _ (HR.out.below HB.out.1) hk0 (by have := HM.out; omega)).mono ?_
  rintro e w1 ⟨rfl, b1⟩
  have HB1 : Hid (Below w.heap.size w w1) := Below.next HB.out.1 b1
  clear b1
  obtain ⟨y1, hy1⟩ : ∃ y, y = k + 2 * (l : Int) := ⟨_, rfl⟩
  rw [← hy1]
  have HY1 : Hid (y1 = k + 2 * (l : Int)) := hy1
  have y10 : 0 ≤ y1 := by omega
  clear hy1
  go_wp2
  go_ret
  exact ⟨ret_int (by have := HM.out; have := HY1.out; omega), HB1.out⟩
structure VarSe (W : World) (lo hi g : Nat) (cs : Array Value) (s : Se) (F : List Nat) : Prop where
  blk : Blk W g cs 28
  rd : RdSe W (.agg cs) s F
  sz : cs.size = 5
  own : Own lo W F
  lt : ∀ b ∈ F, b < hi
  ge : lo ≤ g
  glt : g < hi
  apart : g ∉ F
theorem VarSe.below {W W' : World} {lo hi g : Nat} {cs : Array Value} {s : Se} {F : List Nat} (h : VarSe W lo hi g cs s F) (b : Below W.heap.size W W') : VarSe W' lo hi g cs s F :=
  ⟨h.blk.below b, h.rd.below b, h.sz, h.own.below h.rd.lt b, h.lt, h.ge, h.glt, h.apart⟩
theorem VarSe.fresh {w0 w1 W : World} {cs : Array Value} {s : Se} {F : List Nat} (r : RdSe w1 (.agg cs) s F) (o : Own w0.heap.size w1 F) (b : Below w0.heap.size w0 w1) (sz : cs.size = 5) (k : Blk W w1.heap.size cs 28) (b2 : Below w1.heap.size w1 W) : VarSe W w0.heap.size W.heap.size w1.heap.size cs s F :=
  ⟨k, r.below b2, sz, o.below r.lt b2, fun x hx => by have := r.lt x hx; have := b2.size; omega, b.size, k.lt, fun hx => by have := r.lt _ hx; omega⟩
theorem VarSe.only {W W' : World} {lo hi g lo' hi' g' : Nat} {cs ds : Array Value} {s t : Se} {F G : List Nat} (h : VarSe W lo hi g cs s F) (k : VarSe W lo' hi' g' ds t G) (o : Only G W W') (hd : hi ≤ lo' ∨ hi' ≤ lo) : VarSe W' lo hi g cs s F := by
  have d : ∀ b ∈ F, b ∉ G := fun b hb hg => by have := h.lt b hb; have := h.own.ge b hb; have := k.lt b hg; have := k.own.ge b hg; omega
  have e : g ∉ G := fun hg => by have := h.ge; have := h.glt; have := k.lt g hg; have := k.own.ge g hg; omega
  exact ⟨h.blk.agree (o.block g h.blk.lt e), h.rd.agree (o.agree h.rd.lt d), h.sz, h.own.agree (o.agree h.rd.lt d), h.lt, h.ge, h.glt, h.apart⟩
theorem VarSe.only' {W W' : World} {lo hi g lo' hi' : Nat} {cs : Array Value} {s : Se} {F G : List Nat} (h : VarSe W lo hi g cs s F) (o : Only G W W') (kl : ∀ b ∈ G, b < hi') (kg : ∀ b ∈ G, lo' ≤ b) (hd : hi ≤ lo' ∨ hi' ≤ lo) : VarSe W' lo hi g cs s F := by
  have d : ∀ b ∈ F, b ∉ G := fun b hb hg => by have := h.lt b hb; have := h.own.ge b hb; have := kl b hg; have := kg b hg; omega
  have e : g ∉ G := fun hg => by have := h.ge; have := h.glt; have := kl g hg; have := kg g hg; omega
  exact ⟨h.blk.agree (o.block g h.blk.lt e), h.rd.agree (o.agree h.rd.lt d), h.sz, h.own.agree (o.agree h.rd.lt d), h.lt, h.ge, h.glt, h.apart⟩
theorem VarSe.keep {W W' : World} {lo' hi' g' : Nat} {ds : Array Value} {t : Se} {G : List Nat} {b : Nat} {cs : Array Value} {ty : TypeId} (k : VarSe W lo' hi' g' ds t G) (o : Only G W W') (h : Blk W b cs ty) (hb : b < lo') : Blk W' b cs ty :=
  h.agree (o.block b h.lt (fun hg => by have := k.own.ge b hg; omega))
theorem VarSe.bel {w W W' : World} {lo' hi' g' : Nat} {ds : Array Value} {t : Se} {G : List Nat} (k : VarSe W lo' hi' g' ds t G) (o : Only G W W') (h : Below w.heap.size w W) (hb : w.heap.size ≤ lo') : Below w.heap.size w W' :=
  o.below h h.size (fun b hg => by have := k.own.ge b hg; omega)
theorem varSe_stored {W : World} {lo g : Nat} {old rr : Array Value} {s : Se} {X : List Nat} (k : Blk W g old 28) (r : RdSe W (.agg rr) s X) (sz : rr.size = 5) (o : Own lo W X) (lt : ∀ b ∈ X, b < W.heap.size) (ge : lo ≤ g) (ap : g ∉ X) : VarSe (W.setRow g rr) lo (W.setRow g rr).heap.size g rr s X := by
  have ag : Agree W (W.setRow g rr) X := fun b hb => setRow_other W _ b _ (fun e => ap (e ▸ hb))
  have hs : (W.setRow g rr).heap.size = W.heap.size := by simp
  exact ⟨k.setRow, r.agree ag, sz, o.agree ag, by rw [hs]; exact lt, ge, by rw [hs]; exact k.lt, ap⟩
theorem VarSe.mark {W W' : World} {lo hi g : Nat} {cs : Array Value} {s : Se} {F : List Nat} {k : Int} (h : VarSe W lo hi g cs s F) (m : MarkedSe lo W (.agg cs) k s F W') : VarSe W' lo hi g cs (s.marked k) F :=
  ⟨h.blk.agree (m.only.block g h.blk.lt h.apart), m.rd, h.sz, m.own, h.lt, h.ge, h.glt, h.apart⟩
end Go.Proofs.Ytgkbhhlkaifnoab
/- The walks through SeatReclaim, of the model and of the program. No statement of the seat is proved here. -/
namespace Go.Proofs.Ytgkbhhlkaifnoab
open Go.RowKit
/-- The greatest number of a set that rises. -/
def Sp.top (ps : Sp) : Int := if ps.length = 0 then 0 else (ps.at (ps.length - 1)).2
/-- A seat behind a SeatReclaim. -/
def Se.reclaim (x : Se) (per : Int) : Se := if x.ok per = true ∧ ¬ x.epoch = 1000 then ⟨x.epoch + 1, x.taken.top, x.taken, x.merged, x.last⟩ else x
theorem Se.reclaim_wide {x : Se} (h : x.wide) (per : Int) : (x.reclaim per).wide := by
  unfold Se.reclaim
  split <;> exact h
/-- The last span's cells. -/
theorem RdP.last {w : World} {b : Option Addr} {l : Nat} {ps : Sp} {F : List Nat} (h : RdP w b l ps F) (hl : 0 < l) : ∃ g off, b = some ⟨g, off, none⟩ ∧ g ∈ F ∧ w.cell? ⟨g, off + (l - 1) * 2 + 1, none⟩ = some (.int .i64 ps.top) := by
  have hn := h.length
  rcases h.cells with ⟨rfl, _, _⟩ | ⟨g, off, hp, rfl, hF, hc⟩
  · omega
  · refine ⟨g, off, rfl, by rw [hF]; exact List.mem_cons_self, ?_⟩
    have q := (hc (l - 1) (by omega)).2
    rw [show off + (l - 1) * 2 + 1 = off + (l - 1) * 2 + 1 from rfl] at q
    rw [q]
    unfold Sp.top
    rw [if_neg (by omega), hn]
    rfl
set_option maxRecDepth 200000 in
set_option maxHeartbeats 4000000 in
theorem greatestTaken_any (v : Value) (x : Se) (F : List Nat) (w : World) (h : RdSe w v x F) (hl : x.taken.length ≤ 2097152) :
    Calls Try.prog 33 #[v] w fun e w' => e = .returned (.int .i64 x.taken.top) ∧ Below w.heap.size w w' := by
  obtain ⟨b, l, c, rfl, hP, hcp⟩ := h
  have hl' : l ≤ 2097152 := by rw [← hP.length]; exact hl
  have HB : Hid (Blk (w.alloc (.cells #[.int .i64 x.epoch, .int .i64 x.granted, .slice b l c, .int .i64 x.merged, .int .i64 x.last] 28)) w.heap.size #[.int .i64 x.epoch, .int .i64 x.granted, .slice b l c, .int .i64 x.merged, .int .i64 x.last] 28 ∧ Below w.heap.size w (w.alloc (.cells #[.int .i64 x.epoch, .int .i64 x.granted, .slice b l c, .int .i64 x.merged, .int .i64 x.last] 28))) := ⟨Blk.made _ _ _, (Below.refl _ _).alloc (Nat.le_refl _) _⟩
  by_cases h0 : l = 0
  · subst h0
    have HV : Hid (0 = x.taken.top) := by show _ = _; unfold Sp.top; rw [if_pos hP.length]
    clear hP hl hcp
    go_enter Try.func33, Try.ntmps33
    go_wp2
    go_ret
    exact ⟨ret_int HV.out, HB.out.2⟩
  · obtain ⟨g, off, hb, hF, hc⟩ := hP.last (by omega)
    have hb' := hb.symm
    subst hb'
    obtain ⟨t, ht⟩ : ∃ t, t = x.taken.top := ⟨_, rfl⟩
    rw [← ht] at hc ⊢
    obtain ⟨m, hm⟩ : ∃ m : Nat, l = m + 1 := ⟨l - 1, by omega⟩
    subst hm
    have hgw : g < w.heap.size := hP.lt g hF
    have d1 : (w.alloc (.cells #[.int .i64 x.epoch, .int .i64 x.granted, .slice (some ⟨g, off, none⟩) (m + 1) c, .int .i64 x.merged, .int .i64 x.last] 28)).cell? ⟨g, off + m * 2 + 1, none⟩ = some (.int .i64 t) := by
      rw [show m + 1 - 1 = m by omega] at hc
      exact (HB.out.2.cell (by exact hgw)).trans hc
    have d0 : decide (((m + 1 : Nat) : Int) = 0) = false := decide_eq_false (by omega)
    have d2 : (((m + 1 : Nat) : Int) == 0) = false := by simpa using (by omega : ¬ ((m + 1 : Nat) : Int) = 0)
    clear hP hl hcp hb hF hc ht h0
    go_enter Try.func33, Try.ntmps33
    go_wp2
    go_ret
    exact ⟨rfl, HB.out.2⟩
set_option maxRecDepth 200000 in
set_option maxHeartbeats 4000000 in
theorem seReclaimSpec_any (v : Value) (x : Se) (per : Int) (F : List Nat) (w : World) (h : RdSe w v x F) (hl : x.taken.length ≤ 2097152) :
    Calls Try.prog 16 #[v, .int .i64 per] w fun e w' => NewSe w (x.reclaim per) e w' := by
  obtain ⟨b, l, c, rfl, hP, hcp⟩ := h
  have HX : Hid (RdSe w (.agg #[.int .i64 x.epoch, .int .i64 x.granted, .slice b l c, .int .i64 x.merged, .int .i64 x.last]) x F ∧ x.taken.length ≤ 2097152) := ⟨⟨b, l, c, rfl, hP, hcp⟩, hl⟩
  have HP : Hid (RdP w b l x.taken F ∧ l ≤ 2097152 ∧ x.taken.length = l ∧ Capd b l c) := ⟨hP, by rw [← hP.length]; exact hl, hP.length, hcp⟩
  have HSZ : Hid (0 ≤ x.taken.size ∧ x.taken.size ≤ 20971520000) := by have := Sp.size_range x.taken; exact ⟨this.1, by omega⟩
  clear hP hl hcp
  have HT : Hid (Two w #[.int .i64 x.epoch, .int .i64 x.granted, .slice b l c, .int .i64 x.merged, .int .i64 x.last] #[.int .i64 0, .int .i64 0, .slice none 0 0, .int .i64 0, .int .i64 0] 28 ((w.alloc (.cells #[.int .i64 x.epoch, .int .i64 x.granted, .slice b l c, .int .i64 x.merged, .int .i64 x.last] 28)).alloc (.cells #[.int .i64 0, .int .i64 0, .slice none 0 0, .int .i64 0, .int .i64 0] 28))) := Two.made w _ _ _
  go_enter Try.func16, Try.ntmps16
  go_wp2_with (first | go_skip | (with_reducible refine stopLoad 28 rfl ?_) | (with_reducible refine stopStore 28 rfl ?_))
  obtain ⟨W0, hW0⟩ : ∃ W, W = (w.alloc (.cells #[.int .i64 x.epoch, .int .i64 x.granted, .slice b l c, .int .i64 x.merged, .int .i64 x.last] 28)).alloc (.cells #[.int .i64 0, .int .i64 0, .slice none 0 0, .int .i64 0, .int .i64 0] 28) := ⟨_, rfl⟩
  rw [← hW0] at HT ⊢
  clear hW0
  refine load_known 28 w.heap.size #[.int .i64 x.epoch, .int .i64 x.granted, .slice b l c, .int .i64 x.merged, .int .i64 x.last] 28 _ HT.out.fst rfl rfl rfl Try.underlying28 rfl infoSeI ?_
  go_wp2_with fail
  refine (l9Copy_any _ x F _ (HX.out.1.below HT.out.bel) HX.out.2).mono ?_
  rintro e w1 ⟨zv, G, rfl, ⟨p, n, k, rfl, rp, kp⟩, oz, bz⟩
  have HC1 : Hid (Two w #[.int .i64 x.epoch, .int .i64 x.granted, .slice b l c, .int .i64 x.merged, .int .i64 x.last] #[.int .i64 0, .int .i64 0, .slice none 0 0, .int .i64 0, .int .i64 0] 28 W0 ∧ RdP w1 p n x.taken G ∧ Capd p n k ∧ Own W0.heap.size w1 G ∧ Below W0.heap.size W0 w1) := ⟨HT.out, rp, kp, oz, bz⟩
  clear rp kp oz bz HT
  go_wp2_with (first | go_skip | (with_reducible refine stopLoad 28 rfl ?_) | (with_reducible refine stopStore 28 rfl ?_))
  refine store_fresh 28 w1.heap.size rfl #[.int .i64 0, .int .i64 0, .slice none 0 0, .int .i64 0, .int .i64 0] #[.int .i64 x.epoch, .int .i64 x.granted, .slice p n k, .int .i64 x.merged, .int .i64 x.last] 28 rfl rfl rfl rfl infoSeI rfl (by simp [Value.oneCell']) ?_
  intro w2 hg hb
  have H2 : Hid (SeW w #[.int .i64 x.epoch, .int .i64 x.granted, .slice b l c, .int .i64 x.merged, .int .i64 x.last] w1.heap.size x.epoch x.granted x.merged x.last x.taken p n k G w2) := SeW.start HC1.out.1 HC1.out.2.1 HC1.out.2.2.1 HC1.out.2.2.2.1 HC1.out.2.2.2.2 hg hb
  obtain ⟨L, hL⟩ : ∃ L, L = w1.heap.size := ⟨_, rfl⟩
  rw [← hL] at H2 ⊢
  clear hg hb hL HC1
  go_wp2_with (first | go_skip | (with_reducible refine stopLoad 28 rfl ?_) | (with_reducible refine stopStore 28 rfl ?_))
  refine load_known 28 w.heap.size #[.int .i64 x.epoch, .int .i64 x.granted, .slice b l c, .int .i64 x.merged, .int .i64 x.last] 28 _ H2.out.box rfl rfl rfl Try.underlying28 rfl infoSeI ?_
  go_wp2_with fail
  refine (seOkSpec_any _ x per F _ (HX.out.1.below H2.out.bel) HX.out.2).mono ?_
  rintro e w3 ⟨rfl, hb⟩
  have H3 : Hid (SeW w #[.int .i64 x.epoch, .int .i64 x.granted, .slice b l c, .int .i64 x.merged, .int .i64 x.last] L x.epoch x.granted x.merged x.last x.taken p n k G w3) := H2.out.below hb
  obtain ⟨d, hd⟩ : ∃ d, d = x.ok per := ⟨_, rfl⟩
  rw [← hd]
  have HD : Hid (d = x.ok per) := hd
  clear hd hb H2
  cases d
  · have HV : Hid (x.reclaim per = x) := by show _ = _; unfold Se.reclaim; rw [← HD.out]; simp
    go_wp2_with (first | go_skip | (with_reducible refine stopLoad 28 rfl ?_) | (with_reducible refine stopStore 28 rfl ?_))
    refine load_known 28 L #[.int .i64 x.epoch, .int .i64 x.granted, .slice p n k, .int .i64 x.merged, .int .i64 x.last] 28 _ H3.out.loc rfl rfl rfl Try.underlying28 rfl infoSeI ?_
    go_wp2_with (first | go_skip | (with_reducible refine stopLoad 28 rfl ?_) | (with_reducible refine stopStore 28 rfl ?_))
    refine store_known 28 (w.heap.size + 1) _ #[.int .i64 x.epoch, .int .i64 x.granted, .slice p n k, .int .i64 x.merged, .int .i64 x.last] 28 H3.out.res rfl rfl rfl rfl infoSeI rfl (by simp [Value.oneCell']) ?_
    go_wp2
    refine bodyPost_ret (results_cell_row Try.results16 _ _ (w.heap.size + 1) _ _ (0, 0) _ rfl H3.out.res.setRow Try.underlying28 rfl infoSeI) rfl ?_
    rw [HV.out]
    exact ⟨_, G, rfl, H3.out.done.1, H3.out.done.2.1, H3.out.done.2.2⟩
  have HR : Hid (x.Right per) := Se.right HD.out.symm
  have b0 := HR.out.epoch.1
  have b1 := HR.out.epoch.2
  have c0 := H3.out.box.cell 0
  have e0 := H3.out.loc.cell 0
  have f0 := H3.out.loc.frozen 0
  have e1 := H3.out.loc.cell 1
  have f1 := H3.out.loc.frozen 1
  have c2 := H3.out.box.cell 2
  simp only [aT, aS, aZ] at c0 e0 e1 c2
  by_cases hE : x.epoch = 1000
  · have H3E : Hid (SeW w #[.int .i64 1000, .int .i64 x.granted, .slice b l c, .int .i64 x.merged, .int .i64 x.last] L 1000 x.granted x.merged x.last x.taken p n k G w3) := by have q := H3.out; rw [hE] at q; exact q
    have HV : Hid (x.reclaim per = ⟨1000, x.granted, x.taken, x.merged, x.last⟩) := by show _ = _; unfold Se.reclaim; rw [if_neg (fun q => q.2 hE)]; exact Se.eq_of hE rfl rfl rfl rfl
    have hd1 : (x.epoch == 1000) = true := by simpa using hE
    clear e0 f0 e1 f1 c2 hE H3
    go_wp2_with (first | go_skip | (with_reducible refine stopLoad 28 rfl ?_) | (with_reducible refine stopStore 28 rfl ?_))
    refine load_known 28 L #[.int .i64 1000, .int .i64 x.granted, .slice p n k, .int .i64 x.merged, .int .i64 x.last] 28 _ H3E.out.loc rfl rfl rfl Try.underlying28 rfl infoSeI ?_
    go_wp2_with (first | go_skip | (with_reducible refine stopLoad 28 rfl ?_) | (with_reducible refine stopStore 28 rfl ?_))
    refine store_known 28 (w.heap.size + 1) _ #[.int .i64 1000, .int .i64 x.granted, .slice p n k, .int .i64 x.merged, .int .i64 x.last] 28 H3E.out.res rfl rfl rfl rfl infoSeI rfl (by simp [Value.oneCell']) ?_
    go_wp2
    refine bodyPost_ret (results_cell_row Try.results16 _ _ (w.heap.size + 1) _ _ (0, 0) _ rfl H3E.out.res.setRow Try.underlying28 rfl infoSeI) rfl ?_
    rw [HV.out]
    exact ⟨_, G, rfl, H3E.out.done.1, H3E.out.done.2.1, H3E.out.done.2.2⟩
  have HV : Hid (x.reclaim per = ⟨x.epoch + 1, x.taken.top, x.taken, x.merged, x.last⟩) := by show _ = _; unfold Se.reclaim; rw [if_pos ⟨HD.out.symm, hE⟩]
  have hd1 : (x.epoch == 1000) = false := by simpa using hE
  have hd2 : decide (x.epoch = 1000) = false := decide_eq_false hE
  clear hE
  by_cases h0 : l = 0
  · subst h0
    have HT : Hid (x.taken.top = 0) := by show _ = _; unfold Sp.top; rw [if_pos HP.out.2.2.1]
    go_wp2_with (first | go_skip | (with_reducible refine stopLoad 28 rfl ?_) | (with_reducible refine stopStore 28 rfl ?_))
    have H5 : Hid (SeW w #[.int .i64 x.epoch, .int .i64 x.granted, .slice b 0 c, .int .i64 x.merged, .int .i64 x.last] L (x.epoch + 1) 0 x.merged x.last x.taken p n k G ((w3.setCell ⟨L, 0, none⟩ (.int .i64 (x.epoch + 1))).setCell ⟨L, 1, none⟩ (.int .i64 0))) := (H3.out.set 0 (.int .i64 (x.epoch + 1)) rfl).set 1 (.int .i64 0) rfl
    obtain ⟨w5, hw5⟩ : ∃ W, W = ((w3.setCell ⟨L, 0, none⟩ (.int .i64 (x.epoch + 1))).setCell ⟨L, 1, none⟩ (.int .i64 0)) := ⟨_, rfl⟩
    rw [← hw5] at H5 ⊢
    clear hw5 c0 e0 f0 e1 f1 c2 H3
    refine load_known 28 L #[.int .i64 (x.epoch + 1), .int .i64 0, .slice p n k, .int .i64 x.merged, .int .i64 x.last] 28 _ H5.out.loc rfl rfl rfl Try.underlying28 rfl infoSeI ?_
    go_wp2_with (first | go_skip | (with_reducible refine stopLoad 28 rfl ?_) | (with_reducible refine stopStore 28 rfl ?_))
    refine store_known 28 (w.heap.size + 1) _ #[.int .i64 (x.epoch + 1), .int .i64 0, .slice p n k, .int .i64 x.merged, .int .i64 x.last] 28 H5.out.res rfl rfl rfl rfl infoSeI rfl (by simp [Value.oneCell']) ?_
    go_wp2
    refine bodyPost_ret (results_cell_row Try.results16 _ _ (w.heap.size + 1) _ _ (0, 0) _ rfl H5.out.res.setRow Try.underlying28 rfl infoSeI) rfl ?_
    rw [HV.out, HT.out]
    exact ⟨_, G, rfl, H5.out.done.1, H5.out.done.2.1, H5.out.done.2.2⟩
  obtain ⟨g, off, hb, hF, hc⟩ := HP.out.1.last (by omega)
  have hb' := hb.symm
  subst hb'
  obtain ⟨t, ht⟩ : ∃ t, t = x.taken.top := ⟨_, rfl⟩
  rw [← ht] at hc
  have HT : Hid (x.taken.top = t) := ht.symm
  obtain ⟨m, hm⟩ : ∃ m : Nat, l = m + 1 := ⟨l - 1, by omega⟩
  subst hm
  have hgw : g < w.heap.size := HP.out.1.lt g hF
  have hgl : ¬ g = L := by have := H3.out.gt; omega
  have hml := HP.out.2.1
  have d1 : w3.cell? ⟨g, off + m * 2 + 1, none⟩ = some (.int .i64 t) := by
    rw [show m + 1 - 1 = m by omega] at hc
    exact (H3.out.bel.cell (by exact hgw)).trans hc
  have d0 : decide (0 < ((m + 1 : Nat) : Int)) = true := decide_eq_true (by omega)
  clear hb hF hc ht h0
  go_wp2_with (first | go_skip | (with_reducible refine stopLoad 28 rfl ?_) | (with_reducible refine stopStore 28 rfl ?_))
  have H5 : Hid (SeW w #[.int .i64 x.epoch, .int .i64 x.granted, .slice (some ⟨g, off, none⟩) (m + 1) c, .int .i64 x.merged, .int .i64 x.last] L (x.epoch + 1) t x.merged x.last x.taken p n k G (((w3.setCell ⟨L, 0, none⟩ (.int .i64 (x.epoch + 1))).setCell ⟨L, 1, none⟩ (.int .i64 0)).setCell ⟨L, 1, none⟩ (.int .i64 t))) := ((H3.out.set 0 (.int .i64 (x.epoch + 1)) rfl).set 1 (.int .i64 0) rfl).set 1 (.int .i64 t) rfl
  obtain ⟨w5, hw5⟩ : ∃ W, W = (((w3.setCell ⟨L, 0, none⟩ (.int .i64 (x.epoch + 1))).setCell ⟨L, 1, none⟩ (.int .i64 0)).setCell ⟨L, 1, none⟩ (.int .i64 t)) := ⟨_, rfl⟩
  rw [← hw5] at H5 ⊢
  clear hw5 c0 e0 f0 e1 f1 c2 H3 d0 d1
  refine load_known 28 L #[.int .i64 (x.epoch + 1), .int .i64 t, .slice p n k, .int .i64 x.merged, .int .i64 x.last] 28 _ H5.out.loc rfl rfl rfl Try.underlying28 rfl infoSeI ?_
  go_wp2_with (first | go_skip | (with_reducible refine stopLoad 28 rfl ?_) | (with_reducible refine stopStore 28 rfl ?_))
  refine store_known 28 (w.heap.size + 1) _ #[.int .i64 (x.epoch + 1), .int .i64 t, .slice p n k, .int .i64 x.merged, .int .i64 x.last] 28 H5.out.res rfl rfl rfl rfl infoSeI rfl (by simp [Value.oneCell']) ?_
  go_wp2
  refine bodyPost_ret (results_cell_row Try.results16 _ _ (w.heap.size + 1) _ _ (0, 0) _ rfl H5.out.res.setRow Try.underlying28 rfl infoSeI) rfl ?_
  rw [HV.out, HT.out]
  exact ⟨_, G, rfl, H5.out.done.1, H5.out.done.2.1, H5.out.done.2.2⟩
set_option maxRecDepth 200000 in
set_option maxHeartbeats 4000000 in
theorem seReclaimImpl_any (v : Value) (x : Se) (per : Int) (F : List Nat) (w : World) (h : RdSe w v x F) (hl : x.taken.length ≤ 2097152) :
    Calls Try.prog 17 #[v, .int .i64 per] w fun e w' => NewSe w (x.reclaim per) e w' := by
  obtain ⟨b, l, c, rfl, hP, hcp⟩ := h
  have HX : Hid (RdSe w (.agg #[.int .i64 x.epoch, .int .i64 x.granted, .slice b l c, .int .i64 x.merged, .int .i64 x.last]) x F ∧ x.taken.length ≤ 2097152) := ⟨⟨b, l, c, rfl, hP, hcp⟩, hl⟩
  have HP : Hid (RdP w b l x.taken F ∧ l ≤ 2097152 ∧ x.taken.length = l ∧ Capd b l c) := ⟨hP, by rw [← hP.length]; exact hl, hP.length, hcp⟩
  have HSZ : Hid (0 ≤ x.taken.size ∧ x.taken.size ≤ 20971520000) := by have := Sp.size_range x.taken; exact ⟨this.1, by omega⟩
  clear hP hl hcp
  have HT : Hid (Two w #[.int .i64 x.epoch, .int .i64 x.granted, .slice b l c, .int .i64 x.merged, .int .i64 x.last] #[.int .i64 0, .int .i64 0, .slice none 0 0, .int .i64 0, .int .i64 0] 28 ((w.alloc (.cells #[.int .i64 x.epoch, .int .i64 x.granted, .slice b l c, .int .i64 x.merged, .int .i64 x.last] 28)).alloc (.cells #[.int .i64 0, .int .i64 0, .slice none 0 0, .int .i64 0, .int .i64 0] 28))) := Two.made w _ _ _
  go_enter Try.func17, Try.ntmps17
  go_wp2_with (first | go_skip | (with_reducible refine stopLoad 28 rfl ?_) | (with_reducible refine stopStore 28 rfl ?_))
  obtain ⟨W0, hW0⟩ : ∃ W, W = (w.alloc (.cells #[.int .i64 x.epoch, .int .i64 x.granted, .slice b l c, .int .i64 x.merged, .int .i64 x.last] 28)).alloc (.cells #[.int .i64 0, .int .i64 0, .slice none 0 0, .int .i64 0, .int .i64 0] 28) := ⟨_, rfl⟩
  rw [← hW0] at HT ⊢
  clear hW0
  refine load_known 28 w.heap.size #[.int .i64 x.epoch, .int .i64 x.granted, .slice b l c, .int .i64 x.merged, .int .i64 x.last] 28 _ HT.out.fst rfl rfl rfl Try.underlying28 rfl infoSeI ?_
  go_wp2_with fail
  refine (copiedSeat_any _ x F _ (HX.out.1.below HT.out.bel) HX.out.2).mono ?_
  rintro e w1 ⟨zv, G, rfl, ⟨p, n, k, rfl, rp, kp⟩, oz, bz⟩
  have HC1 : Hid (Two w #[.int .i64 x.epoch, .int .i64 x.granted, .slice b l c, .int .i64 x.merged, .int .i64 x.last] #[.int .i64 0, .int .i64 0, .slice none 0 0, .int .i64 0, .int .i64 0] 28 W0 ∧ RdP w1 p n x.taken G ∧ Capd p n k ∧ Own W0.heap.size w1 G ∧ Below W0.heap.size W0 w1) := ⟨HT.out, rp, kp, oz, bz⟩
  clear rp kp oz bz HT
  go_wp2_with (first | go_skip | (with_reducible refine stopLoad 28 rfl ?_) | (with_reducible refine stopStore 28 rfl ?_))
  refine store_fresh 28 w1.heap.size rfl #[.int .i64 0, .int .i64 0, .slice none 0 0, .int .i64 0, .int .i64 0] #[.int .i64 x.epoch, .int .i64 x.granted, .slice p n k, .int .i64 x.merged, .int .i64 x.last] 28 rfl rfl rfl rfl infoSeI rfl (by simp [Value.oneCell']) ?_
  intro w2 hg hb
  have H2 : Hid (SeW w #[.int .i64 x.epoch, .int .i64 x.granted, .slice b l c, .int .i64 x.merged, .int .i64 x.last] w1.heap.size x.epoch x.granted x.merged x.last x.taken p n k G w2) := SeW.start HC1.out.1 HC1.out.2.1 HC1.out.2.2.1 HC1.out.2.2.2.1 HC1.out.2.2.2.2 hg hb
  obtain ⟨L, hL⟩ : ∃ L, L = w1.heap.size := ⟨_, rfl⟩
  rw [← hL] at H2 ⊢
  clear hg hb hL HC1
  go_wp2_with (first | go_skip | (with_reducible refine stopLoad 28 rfl ?_) | (with_reducible refine stopStore 28 rfl ?_))
  refine load_known 28 w.heap.size #[.int .i64 x.epoch, .int .i64 x.granted, .slice b l c, .int .i64 x.merged, .int .i64 x.last] 28 _ H2.out.box rfl rfl rfl Try.underlying28 rfl infoSeI ?_
  go_wp2_with fail
  refine (seOkImpl_any _ x per F _ (HX.out.1.below H2.out.bel) HX.out.2).mono ?_
  rintro e w3 ⟨rfl, hb⟩
  have H3 : Hid (SeW w #[.int .i64 x.epoch, .int .i64 x.granted, .slice b l c, .int .i64 x.merged, .int .i64 x.last] L x.epoch x.granted x.merged x.last x.taken p n k G w3) := H2.out.below hb
  obtain ⟨d, hd⟩ : ∃ d, d = x.ok per := ⟨_, rfl⟩
  rw [← hd]
  have HD : Hid (d = x.ok per) := hd
  clear hd hb H2
  cases d
  · have HV : Hid (x.reclaim per = x) := by show _ = _; unfold Se.reclaim; rw [← HD.out]; simp
    go_wp2_with (first | go_skip | (with_reducible refine stopLoad 28 rfl ?_) | (with_reducible refine stopStore 28 rfl ?_))
    refine load_known 28 L #[.int .i64 x.epoch, .int .i64 x.granted, .slice p n k, .int .i64 x.merged, .int .i64 x.last] 28 _ H3.out.loc rfl rfl rfl Try.underlying28 rfl infoSeI ?_
    go_wp2_with (first | go_skip | (with_reducible refine stopLoad 28 rfl ?_) | (with_reducible refine stopStore 28 rfl ?_))
    refine store_known 28 (w.heap.size + 1) _ #[.int .i64 x.epoch, .int .i64 x.granted, .slice p n k, .int .i64 x.merged, .int .i64 x.last] 28 H3.out.res rfl rfl rfl rfl infoSeI rfl (by simp [Value.oneCell']) ?_
    go_wp2
    refine bodyPost_ret (results_cell_row Try.results17 _ _ (w.heap.size + 1) _ _ (0, 0) _ rfl H3.out.res.setRow Try.underlying28 rfl infoSeI) rfl ?_
    rw [HV.out]
    exact ⟨_, G, rfl, H3.out.done.1, H3.out.done.2.1, H3.out.done.2.2⟩
  have HR : Hid (x.Right per) := Se.right HD.out.symm
  have b0 := HR.out.epoch.1
  have b1 := HR.out.epoch.2
  have c0 := H3.out.box.cell 0
  have e0 := H3.out.loc.cell 0
  have f0 := H3.out.loc.frozen 0
  have e1 := H3.out.loc.cell 1
  have f1 := H3.out.loc.frozen 1
  have c2 := H3.out.box.cell 2
  simp only [aT, aS, aZ] at c0 e0 e1 c2
  by_cases hE : x.epoch < 1000
  rotate_left
  · have HV : Hid (x.reclaim per = x) := by show _ = _; unfold Se.reclaim; rw [if_neg (fun q => q.2 (by have := HR.out.epoch; omega))]
    have hd2 : decide (x.epoch < 1000) = false := decide_eq_false hE
    clear e0 f0 e1 f1 c2
    go_wp2_with (first | go_skip | (with_reducible refine stopLoad 28 rfl ?_) | (with_reducible refine stopStore 28 rfl ?_))
    refine load_known 28 L #[.int .i64 x.epoch, .int .i64 x.granted, .slice p n k, .int .i64 x.merged, .int .i64 x.last] 28 _ H3.out.loc rfl rfl rfl Try.underlying28 rfl infoSeI ?_
    go_wp2_with (first | go_skip | (with_reducible refine stopLoad 28 rfl ?_) | (with_reducible refine stopStore 28 rfl ?_))
    refine store_known 28 (w.heap.size + 1) _ #[.int .i64 x.epoch, .int .i64 x.granted, .slice p n k, .int .i64 x.merged, .int .i64 x.last] 28 H3.out.res rfl rfl rfl rfl infoSeI rfl (by simp [Value.oneCell']) ?_
    go_wp2
    refine bodyPost_ret (results_cell_row Try.results17 _ _ (w.heap.size + 1) _ _ (0, 0) _ rfl H3.out.res.setRow Try.underlying28 rfl infoSeI) rfl ?_
    rw [HV.out]
    exact ⟨_, G, rfl, H3.out.done.1, H3.out.done.2.1, H3.out.done.2.2⟩
  have HV : Hid (x.reclaim per = ⟨x.epoch + 1, x.taken.top, x.taken, x.merged, x.last⟩) := by show _ = _; unfold Se.reclaim; rw [if_pos ⟨HD.out.symm, by omega⟩]
  have hd2 : decide (x.epoch < 1000) = true := decide_eq_true hE
  clear hE
  go_wp2_with (first | go_skip | (with_reducible refine stopLoad 28 rfl ?_) | (with_reducible refine stopStore 28 rfl ?_))
  have H4 : Hid (SeW w #[.int .i64 x.epoch, .int .i64 x.granted, .slice b l c, .int .i64 x.merged, .int .i64 x.last] L (x.epoch + 1) x.granted x.merged x.last x.taken p n k G (w3.setCell ⟨L, 0, none⟩ (.int .i64 (x.epoch + 1)))) := H3.out.set 0 (.int .i64 (x.epoch + 1)) rfl
  obtain ⟨w4, hw4⟩ : ∃ W, W = w3.setCell ⟨L, 0, none⟩ (.int .i64 (x.epoch + 1)) := ⟨_, rfl⟩
  rw [← hw4] at H4 ⊢
  clear hw4 c0 e0 f0 e1 f1 c2 H3
  refine load_known 28 w.heap.size #[.int .i64 x.epoch, .int .i64 x.granted, .slice b l c, .int .i64 x.merged, .int .i64 x.last] 28 _ H4.out.box rfl rfl rfl Try.underlying28 rfl infoSeI ?_
  go_wp2_with fail
  refine (greatestTaken_any _ x F _ (HX.out.1.below H4.out.bel) HX.out.2).mono ?_
  rintro e w5 ⟨rfl, hb⟩
  have H5 : Hid (SeW w #[.int .i64 x.epoch, .int .i64 x.granted, .slice b l c, .int .i64 x.merged, .int .i64 x.last] L (x.epoch + 1) x.granted x.merged x.last x.taken p n k G w5) := H4.out.below hb
  obtain ⟨t, ht⟩ : ∃ t, t = x.taken.top := ⟨_, rfl⟩
  rw [← ht]
  have HT : Hid (x.taken.top = t) := ht.symm
  clear ht hb H4
  have e1 := H5.out.loc.cell 1
  have f1 := H5.out.loc.frozen 1
  simp only [aT, aS, aZ] at e1
  go_wp2_with (first | go_skip | (with_reducible refine stopLoad 28 rfl ?_) | (with_reducible refine stopStore 28 rfl ?_))
  have H6 : Hid (SeW w #[.int .i64 x.epoch, .int .i64 x.granted, .slice b l c, .int .i64 x.merged, .int .i64 x.last] L (x.epoch + 1) t x.merged x.last x.taken p n k G (w5.setCell ⟨L, 1, none⟩ (.int .i64 t))) := H5.out.set 1 (.int .i64 t) rfl
  obtain ⟨w6, hw6⟩ : ∃ W, W = w5.setCell ⟨L, 1, none⟩ (.int .i64 t) := ⟨_, rfl⟩
  rw [← hw6] at H6 ⊢
  clear hw6 e1 f1 H5
  refine load_known 28 L #[.int .i64 (x.epoch + 1), .int .i64 t, .slice p n k, .int .i64 x.merged, .int .i64 x.last] 28 _ H6.out.loc rfl rfl rfl Try.underlying28 rfl infoSeI ?_
  go_wp2_with (first | go_skip | (with_reducible refine stopLoad 28 rfl ?_) | (with_reducible refine stopStore 28 rfl ?_))
  refine store_known 28 (w.heap.size + 1) _ #[.int .i64 (x.epoch + 1), .int .i64 t, .slice p n k, .int .i64 x.merged, .int .i64 x.last] 28 H6.out.res rfl rfl rfl rfl infoSeI rfl (by simp [Value.oneCell']) ?_
  go_wp2
  refine bodyPost_ret (results_cell_row Try.results17 _ _ (w.heap.size + 1) _ _ (0, 0) _ rfl H6.out.res.setRow Try.underlying28 rfl infoSeI) rfl ?_
  rw [HV.out, HT.out]
  exact ⟨_, G, rfl, H6.out.done.1, H6.out.done.2.1, H6.out.done.2.2⟩
end Go.Proofs.Ytgkbhhlkaifnoab
/- The walks through SeatMerge, of the model and of the program. No statement of the seat is proved here. -/
namespace Go.Proofs.Ytgkbhhlkaifnoab
open Go.RowKit
def Se.plus (x : Se) (n : Int) : Se := ⟨x.epoch, x.granted, x.taken, x.merged + n, x.last⟩
/-- A seat behind a SeatMerge, and whether it was done. -/
def Se.merge (x : Se) (per n : Int) : Se × Bool := if x.ok per = true ∧ 0 ≤ n ∧ n ≤ x.taken.size - x.merged then (x.plus n, true) else (x, false)
def NewSe2 (w : World) (z : Se × Bool) (e : Ending) (w' : World) : Prop := ∃ v F, e = .returned (.tuple #[v, .bool z.2]) ∧ RdSe w' v z.1 F ∧ Own w.heap.size w' F ∧ Below w.heap.size w w'
theorem Se.merge_wide {x : Se} (h : x.wide) (per n : Int) : (x.merge per n).1.wide := by
  unfold Se.merge
  split <;> exact h
theorem Sp.under_at {ps : Sp} {m : Int} (h : ps.under m = true) {k : Nat} (hk : k < ps.length) : 1 ≤ (ps.at k).1 ∧ (ps.at k).2 ≤ m := by
  unfold Sp.under at h
  rw [List.all_eq_true] at h
  exact of_decide_eq_true (h k (List.mem_range.2 hk))
theorem Sp.sum_top {ps : Sp} {m : Int} (h : ps.ok = true) (u : ps.under m = true) : ∀ k, k < ps.length → Sp.sum (ps.take (k + 1)) ≤ (ps.at k).2
  | 0, hk => by
    have e := Sp.sum_step (ps := ps) (k := 0) hk
    have p := Sp.under_at u hk
    rw [List.take_zero] at e
    rw [e]
    have : Sp.sum [] = 0 := rfl
    omega
  | k + 1, hk => by
    have ih := Sp.sum_top h u k (by omega)
    have e := Sp.sum_step (ps := ps) (k := k + 1) hk
    have p := (Sp.okAt_parts (Sp.ok_at h (k + 1) hk)).2 (by omega)
    rw [Nat.add_sub_cancel] at p
    omega
/-- What is in 1 .. m is no more than m. -/
theorem Sp.size_under {ps : Sp} {m : Int} (h : ps.ok = true) (u : ps.under m = true) (hm : 0 ≤ m) : ps.size ≤ m := by
  unfold Sp.size
  rw [if_pos h]
  by_cases h0 : ps.length = 0
  · have e : ps = [] := List.eq_nil_of_length_eq_zero h0
    rw [e]
    have : Sp.sum [] = 0 := rfl
    omega
  · have q := Sp.sum_top h u (ps.length - 1) (by omega)
    rw [show ps.length - 1 + 1 = ps.length by omega, List.take_length] at q
    have := (Sp.under_at u (k := ps.length - 1) (by omega)).2
    omega
theorem Se.Right.size {x : Se} {p : Int} (h : x.Right p) : x.taken.size ≤ 60 := by
  have := Sp.size_under h.taken h.under h.granted.1
  have := h.granted.2
  omega
theorem Se.plus_ok {x : Se} {per n : Int} (h : x.Right per) (hn : 0 ≤ n) : (x.plus n).ok per = decide (n ≤ x.taken.size - x.merged) := by
  by_cases q : n ≤ x.taken.size - x.merged
  · rw [decide_eq_true q]
    exact Se.Right.ok ⟨h.per, h.epoch, h.granted, h.taken, h.under, ⟨by have := h.merged; show 0 ≤ x.merged + n; omega, by show x.merged + n ≤ x.taken.size; omega⟩, by have := h.share; show x.granted ≤ x.merged + n + per; omega, h.last⟩
  · rw [decide_eq_false q]
    cases e : (x.plus n).ok per
    · rfl
    · have := (Se.right e).merged
      have hp : (x.plus n).merged = x.merged + n := rfl
      have ht : (x.plus n).taken = x.taken := rfl
      rw [hp, ht] at this
      omega
set_option maxRecDepth 200000 in
set_option maxHeartbeats 8000000 in
theorem seMergeSpec_any (v : Value) (x : Se) (per : Int) (n : Int) (F : List Nat) (w : World) (h : RdSe w v x F) (hl : x.taken.length ≤ 2097152) :
    Calls Try.prog 14 #[v, .int .i64 per, .int .i64 n] w fun e w' => NewSe2 w (x.merge per n) e w' := by
  obtain ⟨b, l, c, rfl, hP, hcp⟩ := h
  have HX : Hid (RdSe w (.agg #[.int .i64 x.epoch, .int .i64 x.granted, .slice b l c, .int .i64 x.merged, .int .i64 x.last]) x F ∧ x.taken.length ≤ 2097152) := ⟨⟨b, l, c, rfl, hP, hcp⟩, hl⟩
  have HP : Hid (RdP w b l x.taken F ∧ l ≤ 2097152 ∧ x.taken.length = l ∧ Capd b l c) := ⟨hP, by rw [← hP.length]; exact hl, hP.length, hcp⟩
  have HSZ : Hid (0 ≤ x.taken.size ∧ x.taken.size ≤ 20971520000) := by have := Sp.size_range x.taken; exact ⟨this.1, by omega⟩
  clear hP hl hcp
  have HT : Hid (Two w #[.int .i64 x.epoch, .int .i64 x.granted, .slice b l c, .int .i64 x.merged, .int .i64 x.last] #[.int .i64 0, .int .i64 0, .slice none 0 0, .int .i64 0, .int .i64 0] 28 ((w.alloc (.cells #[.int .i64 x.epoch, .int .i64 x.granted, .slice b l c, .int .i64 x.merged, .int .i64 x.last] 28)).alloc (.cells #[.int .i64 0, .int .i64 0, .slice none 0 0, .int .i64 0, .int .i64 0] 28))) := Two.made w _ _ _
  go_enter Try.func14, Try.ntmps14
  go_wp2_with (first | go_skip | (with_reducible refine stopLoad 28 rfl ?_) | (with_reducible refine stopStore 28 rfl ?_))
  obtain ⟨W0, hW0⟩ : ∃ W, W = (w.alloc (.cells #[.int .i64 x.epoch, .int .i64 x.granted, .slice b l c, .int .i64 x.merged, .int .i64 x.last] 28)).alloc (.cells #[.int .i64 0, .int .i64 0, .slice none 0 0, .int .i64 0, .int .i64 0] 28) := ⟨_, rfl⟩
  rw [← hW0] at HT ⊢
  clear hW0
  refine load_known 28 w.heap.size #[.int .i64 x.epoch, .int .i64 x.granted, .slice b l c, .int .i64 x.merged, .int .i64 x.last] 28 _ HT.out.fst rfl rfl rfl Try.underlying28 rfl infoSeI ?_
  go_wp2_with fail
  refine (l9Copy_any _ x F _ (HX.out.1.below HT.out.bel) HX.out.2).mono ?_
  rintro e w1 ⟨zv, G, rfl, ⟨p, nn, k, rfl, rp, kp⟩, oz, bz⟩
  have HC1 : Hid (Two w #[.int .i64 x.epoch, .int .i64 x.granted, .slice b l c, .int .i64 x.merged, .int .i64 x.last] #[.int .i64 0, .int .i64 0, .slice none 0 0, .int .i64 0, .int .i64 0] 28 W0 ∧ RdP w1 p nn x.taken G ∧ Capd p nn k ∧ Own W0.heap.size w1 G ∧ Below W0.heap.size W0 w1) := ⟨HT.out, rp, kp, oz, bz⟩
  clear rp kp oz bz HT
  go_wp2_with (first | go_skip | (with_reducible refine stopLoad 28 rfl ?_) | (with_reducible refine stopStore 28 rfl ?_))
  refine store_fresh 28 w1.heap.size rfl #[.int .i64 0, .int .i64 0, .slice none 0 0, .int .i64 0, .int .i64 0] #[.int .i64 x.epoch, .int .i64 x.granted, .slice p nn k, .int .i64 x.merged, .int .i64 x.last] 28 rfl rfl rfl rfl infoSeI rfl (by simp [Value.oneCell']) ?_
  intro w2 hg hb
  have H2 : Hid (SeW w #[.int .i64 x.epoch, .int .i64 x.granted, .slice b l c, .int .i64 x.merged, .int .i64 x.last] w1.heap.size x.epoch x.granted x.merged x.last x.taken p nn k G w2) := SeW.start HC1.out.1 HC1.out.2.1 HC1.out.2.2.1 HC1.out.2.2.2.1 HC1.out.2.2.2.2 hg hb
  obtain ⟨L, hL⟩ : ∃ L, L = w1.heap.size := ⟨_, rfl⟩
  rw [← hL] at H2 ⊢
  clear hg hb hL HC1
  go_wp2_with (first | go_skip | (with_reducible refine stopLoad 28 rfl ?_) | (with_reducible refine stopStore 28 rfl ?_))
  refine load_known 28 w.heap.size #[.int .i64 x.epoch, .int .i64 x.granted, .slice b l c, .int .i64 x.merged, .int .i64 x.last] 28 _ H2.out.box rfl rfl rfl Try.underlying28 rfl infoSeI ?_
  go_wp2_with fail
  refine (seOkSpec_any _ x per F _ (HX.out.1.below H2.out.bel) HX.out.2).mono ?_
  rintro e w3 ⟨rfl, hb⟩
  have H3 : Hid (SeW w #[.int .i64 x.epoch, .int .i64 x.granted, .slice b l c, .int .i64 x.merged, .int .i64 x.last] L x.epoch x.granted x.merged x.last x.taken p nn k G w3) := H2.out.below hb
  obtain ⟨d, hd⟩ : ∃ d, d = x.ok per := ⟨_, rfl⟩
  rw [← hd]
  have HD : Hid (d = x.ok per) := hd
  clear hd hb H2
  cases d
  · have HV : Hid (x.merge per n = (x, false)) := by show _ = _; unfold Se.merge; rw [if_neg (fun q => by have := HD.out; rw [q.1] at this; cases this)]
    go_wp2_with (first | go_skip | (with_reducible refine stopLoad 28 rfl ?_) | (with_reducible refine stopStore 28 rfl ?_))
    refine load_known 28 L #[.int .i64 x.epoch, .int .i64 x.granted, .slice p nn k, .int .i64 x.merged, .int .i64 x.last] 28 _ H3.out.loc rfl rfl rfl Try.underlying28 rfl infoSeI ?_
    go_wp2_with (first | go_skip | (with_reducible refine stopLoad 28 rfl ?_) | (with_reducible refine stopStore 28 rfl ?_))
    refine store_known 28 (w.heap.size + 1) _ #[.int .i64 x.epoch, .int .i64 x.granted, .slice p nn k, .int .i64 x.merged, .int .i64 x.last] 28 H3.out.res rfl rfl rfl rfl infoSeI rfl (by simp [Value.oneCell']) ?_
    go_wp2
    refine bodyPost_ret (results_row_tmp Try.results14 _ _ (w.heap.size + 1) _ _ _ _ rfl H3.out.res.setRow Try.underlying28 rfl infoSeI) rfl ?_
    rw [HV.out]
    exact ⟨_, G, rfl, H3.out.done.1, H3.out.done.2.1, H3.out.done.2.2⟩
  have HR : Hid (x.Right per) := Se.right HD.out.symm
  go_wp2_with fail
  refine (l1In_any n 0 60 _).mono ?_
  rintro e w4 ⟨rfl, hq⟩
  have hq' := hq.symm
  subst hq'
  clear hq
  obtain ⟨d2, hd2⟩ : ∃ d, d = decide (0 ≤ n ∧ n ≤ 60) := ⟨_, rfl⟩
  rw [← hd2]
  have HD2 : Hid (d2 = decide (0 ≤ n ∧ n ≤ 60)) := hd2
  clear hd2
  cases d2
  · have HV : Hid (x.merge per n = (x, false)) := by show _ = _; have := of_decide_eq_false HD2.out.symm; have := HR.out.size; have := HR.out.merged; unfold Se.merge; rw [if_neg (by omega)]
    go_wp2_with (first | go_skip | (with_reducible refine stopLoad 28 rfl ?_) | (with_reducible refine stopStore 28 rfl ?_))
    refine load_known 28 L #[.int .i64 x.epoch, .int .i64 x.granted, .slice p nn k, .int .i64 x.merged, .int .i64 x.last] 28 _ H3.out.loc rfl rfl rfl Try.underlying28 rfl infoSeI ?_
    go_wp2_with (first | go_skip | (with_reducible refine stopLoad 28 rfl ?_) | (with_reducible refine stopStore 28 rfl ?_))
    refine store_known 28 (w.heap.size + 1) _ #[.int .i64 x.epoch, .int .i64 x.granted, .slice p nn k, .int .i64 x.merged, .int .i64 x.last] 28 H3.out.res rfl rfl rfl rfl infoSeI rfl (by simp [Value.oneCell']) ?_
    go_wp2
    refine bodyPost_ret (results_row_tmp Try.results14 _ _ (w.heap.size + 1) _ _ _ _ rfl H3.out.res.setRow Try.underlying28 rfl infoSeI) rfl ?_
    rw [HV.out]
    exact ⟨_, G, rfl, H3.out.done.1, H3.out.done.2.1, H3.out.done.2.2⟩
  have HN : Hid (0 ≤ n ∧ n ≤ 60) := by show _ ∧ _; exact of_decide_eq_true HD2.out.symm
  have hwz : IntKind.i64.wrap (x.merged + n) = x.merged + n := wrapSe (by have := HR.out.merged; have := HN.out; have := HSZ.out; omega)
  have hm0 : 0 ≤ x.merged + n := by have := HR.out.merged; have := HN.out; omega
  have hm1 : x.merged + n ≤ 20971520008 := by have := HR.out.merged; have := HN.out; have := HSZ.out; have := HR.out.size; omega
  have c3 := H3.out.box.cell 3
  have e3 := H3.out.loc.cell 3
  have f3 := H3.out.loc.frozen 3
  simp only [aT, aS, aZ] at c3 e3
  go_wp2_with (first | go_skip | (with_reducible refine stopLoad 28 rfl ?_) | (with_reducible refine stopStore 28 rfl ?_))
  have H4 : Hid (SeW w #[.int .i64 x.epoch, .int .i64 x.granted, .slice b l c, .int .i64 x.merged, .int .i64 x.last] L x.epoch x.granted (x.merged + n) x.last x.taken p nn k G (w3.setCell ⟨L, 3, none⟩ (.int .i64 (x.merged + n)))) := H3.out.set 3 (.int .i64 (x.merged + n)) rfl
  obtain ⟨w4, hw4⟩ : ∃ W, W = w3.setCell ⟨L, 3, none⟩ (.int .i64 (x.merged + n)) := ⟨_, rfl⟩
  rw [← hw4] at H4 ⊢
  clear hw4 c3 e3 f3 H3 hwz hm0 hm1
  refine load_known 28 L #[.int .i64 x.epoch, .int .i64 x.granted, .slice p nn k, .int .i64 (x.merged + n), .int .i64 x.last] 28 _ H4.out.loc rfl rfl rfl Try.underlying28 rfl infoSeI ?_
  go_wp2_with fail
  refine (seOkSpec_any _ (x.plus n) per G _ H4.out.rd HX.out.2).mono ?_
  rintro e w5 ⟨rfl, hb⟩
  have H5 : Hid (SeW w #[.int .i64 x.epoch, .int .i64 x.granted, .slice b l c, .int .i64 x.merged, .int .i64 x.last] L x.epoch x.granted (x.merged + n) x.last x.taken p nn k G w5) := H4.out.below hb
  obtain ⟨d3, hd3⟩ : ∃ d, d = (x.plus n).ok per := ⟨_, rfl⟩
  rw [← hd3]
  have HD3 : Hid (d3 = decide (n ≤ x.taken.size - x.merged)) := hd3.trans (Se.plus_ok HR.out HN.out.1)
  clear hd3 hb H4
  cases d3
  · have HV : Hid (x.merge per n = (x, false)) := by show _ = _; have := of_decide_eq_false HD3.out.symm; unfold Se.merge; rw [if_neg (by omega)]
    go_wp2_with (first | go_skip | (with_reducible refine stopLoad 28 rfl ?_) | (with_reducible refine stopStore 28 rfl ?_))
    refine load_known 28 w.heap.size #[.int .i64 x.epoch, .int .i64 x.granted, .slice b l c, .int .i64 x.merged, .int .i64 x.last] 28 _ H5.out.box rfl rfl rfl Try.underlying28 rfl infoSeI ?_
    go_wp2_with fail
    refine (l9Copy_any _ x F _ (HX.out.1.below H5.out.bel) HX.out.2).mono ?_
    rintro e w6 ⟨zv, G6, rfl, ⟨p6, n6, k6, rfl, rp, kp⟩, oz, bz⟩
    have hlt := H5.out.res.lt
    have H6 : Hid (Blk w6 (w.heap.size + 1) #[.int .i64 0, .int .i64 0, .slice none 0 0, .int .i64 0, .int .i64 0] 28 ∧ RdP w6 p6 n6 x.taken G6 ∧ Capd p6 n6 k6 ∧ Own (w.heap.size + 2) w6 G6 ∧ Below w.heap.size w w6) := ⟨H5.out.res.below bz, rp, kp, oz.mono (by omega), Below.next H5.out.bel bz⟩
    clear rp kp oz bz hlt H5
    go_wp2_with (first | go_skip | (with_reducible refine stopLoad 28 rfl ?_) | (with_reducible refine stopStore 28 rfl ?_))
    refine store_known 28 (w.heap.size + 1) _ #[.int .i64 x.epoch, .int .i64 x.granted, .slice p6 n6 k6, .int .i64 x.merged, .int .i64 x.last] 28 H6.out.1 rfl rfl rfl rfl infoSeI rfl (by simp [Value.oneCell']) ?_
    go_wp2
    refine bodyPost_ret (results_row_tmp Try.results14 _ _ (w.heap.size + 1) _ _ _ _ rfl H6.out.1.setRow Try.underlying28 rfl infoSeI) rfl ?_
    have nr : w.heap.size + 1 ∉ G6 := fun hx => by have := H6.out.2.2.2.1.ge _ hx; omega
    rw [HV.out]
    exact ⟨_, G6, rfl, ⟨p6, n6, k6, rfl, H6.out.2.1.agree (Agree.row nr _), H6.out.2.2.1⟩, (H6.out.2.2.2.1.agree (Agree.row nr _)).mono (by omega), below_setRow H6.out.2.2.2.2 (by omega) _⟩
  have HV : Hid (x.merge per n = (x.plus n, true)) := by show _ = _; unfold Se.merge; rw [if_pos ⟨HD.out.symm, HN.out.1, of_decide_eq_true HD3.out.symm⟩]
  go_wp2_with (first | go_skip | (with_reducible refine stopLoad 28 rfl ?_) | (with_reducible refine stopStore 28 rfl ?_))
  refine load_known 28 L #[.int .i64 x.epoch, .int .i64 x.granted, .slice p nn k, .int .i64 (x.merged + n), .int .i64 x.last] 28 _ H5.out.loc rfl rfl rfl Try.underlying28 rfl infoSeI ?_
  go_wp2_with (first | go_skip | (with_reducible refine stopLoad 28 rfl ?_) | (with_reducible refine stopStore 28 rfl ?_))
  refine store_known 28 (w.heap.size + 1) _ #[.int .i64 x.epoch, .int .i64 x.granted, .slice p nn k, .int .i64 (x.merged + n), .int .i64 x.last] 28 H5.out.res rfl rfl rfl rfl infoSeI rfl (by simp [Value.oneCell']) ?_
  go_wp2
  refine bodyPost_ret (results_row_tmp Try.results14 _ _ (w.heap.size + 1) _ _ _ _ rfl H5.out.res.setRow Try.underlying28 rfl infoSeI) rfl ?_
  rw [HV.out]
  exact ⟨_, G, rfl, H5.out.done.1, H5.out.done.2.1, H5.out.done.2.2⟩
set_option maxRecDepth 200000 in
set_option maxHeartbeats 8000000 in
theorem seMergeImpl_any (v : Value) (x : Se) (per : Int) (n : Int) (F : List Nat) (w : World) (h : RdSe w v x F) (hl : x.taken.length ≤ 2097152) :
    Calls Try.prog 15 #[v, .int .i64 per, .int .i64 n] w fun e w' => NewSe2 w (x.merge per n) e w' := by
  obtain ⟨b, l, c, rfl, hP, hcp⟩ := h
  have HX : Hid (RdSe w (.agg #[.int .i64 x.epoch, .int .i64 x.granted, .slice b l c, .int .i64 x.merged, .int .i64 x.last]) x F ∧ x.taken.length ≤ 2097152) := ⟨⟨b, l, c, rfl, hP, hcp⟩, hl⟩
  have HP : Hid (RdP w b l x.taken F ∧ l ≤ 2097152 ∧ x.taken.length = l ∧ Capd b l c) := ⟨hP, by rw [← hP.length]; exact hl, hP.length, hcp⟩
  have HSZ : Hid (0 ≤ x.taken.size ∧ x.taken.size ≤ 20971520000) := by have := Sp.size_range x.taken; exact ⟨this.1, by omega⟩
  clear hP hl hcp
  have HT : Hid (Two w #[.int .i64 x.epoch, .int .i64 x.granted, .slice b l c, .int .i64 x.merged, .int .i64 x.last] #[.int .i64 0, .int .i64 0, .slice none 0 0, .int .i64 0, .int .i64 0] 28 ((w.alloc (.cells #[.int .i64 x.epoch, .int .i64 x.granted, .slice b l c, .int .i64 x.merged, .int .i64 x.last] 28)).alloc (.cells #[.int .i64 0, .int .i64 0, .slice none 0 0, .int .i64 0, .int .i64 0] 28))) := Two.made w _ _ _
  go_enter Try.func15, Try.ntmps15
  go_wp2_with (first | go_skip | (with_reducible refine stopLoad 28 rfl ?_) | (with_reducible refine stopStore 28 rfl ?_))
  obtain ⟨W0, hW0⟩ : ∃ W, W = (w.alloc (.cells #[.int .i64 x.epoch, .int .i64 x.granted, .slice b l c, .int .i64 x.merged, .int .i64 x.last] 28)).alloc (.cells #[.int .i64 0, .int .i64 0, .slice none 0 0, .int .i64 0, .int .i64 0] 28) := ⟨_, rfl⟩
  rw [← hW0] at HT ⊢
  clear hW0
  refine load_known 28 w.heap.size #[.int .i64 x.epoch, .int .i64 x.granted, .slice b l c, .int .i64 x.merged, .int .i64 x.last] 28 _ HT.out.fst rfl rfl rfl Try.underlying28 rfl infoSeI ?_
  go_wp2_with fail
  refine (copiedSeat_any _ x F _ (HX.out.1.below HT.out.bel) HX.out.2).mono ?_
  rintro e w1 ⟨zv, G, rfl, ⟨p, nn, k, rfl, rp, kp⟩, oz, bz⟩
  have HC1 : Hid (Two w #[.int .i64 x.epoch, .int .i64 x.granted, .slice b l c, .int .i64 x.merged, .int .i64 x.last] #[.int .i64 0, .int .i64 0, .slice none 0 0, .int .i64 0, .int .i64 0] 28 W0 ∧ RdP w1 p nn x.taken G ∧ Capd p nn k ∧ Own W0.heap.size w1 G ∧ Below W0.heap.size W0 w1) := ⟨HT.out, rp, kp, oz, bz⟩
  clear rp kp oz bz HT
  go_wp2_with (first | go_skip | (with_reducible refine stopLoad 28 rfl ?_) | (with_reducible refine stopStore 28 rfl ?_))
  refine store_fresh 28 w1.heap.size rfl #[.int .i64 0, .int .i64 0, .slice none 0 0, .int .i64 0, .int .i64 0] #[.int .i64 x.epoch, .int .i64 x.granted, .slice p nn k, .int .i64 x.merged, .int .i64 x.last] 28 rfl rfl rfl rfl infoSeI rfl (by simp [Value.oneCell']) ?_
  intro w2 hg hb
  have H2 : Hid (SeW w #[.int .i64 x.epoch, .int .i64 x.granted, .slice b l c, .int .i64 x.merged, .int .i64 x.last] w1.heap.size x.epoch x.granted x.merged x.last x.taken p nn k G w2) := SeW.start HC1.out.1 HC1.out.2.1 HC1.out.2.2.1 HC1.out.2.2.2.1 HC1.out.2.2.2.2 hg hb
  obtain ⟨L, hL⟩ : ∃ L, L = w1.heap.size := ⟨_, rfl⟩
  rw [← hL] at H2 ⊢
  clear hg hb hL HC1
  go_wp2_with fail
  obtain ⟨Y0, hY0⟩ : ∃ W, W = w2.drew := ⟨_, rfl⟩
  have HS : Hid (SeW w #[.int .i64 x.epoch, .int .i64 x.granted, .slice b l c, .int .i64 x.merged, .int .i64 x.last] L x.epoch x.granted x.merged x.last x.taken p nn k G Y0) := by rw [hY0]; exact H2.out.drew
  clear H2
  refine wp_region_held (S := fun W => Blk W w.heap.size #[.int .i64 x.epoch, .int .i64 x.granted, .slice b l c, .int .i64 x.merged, .int .i64 x.last] 28) (by kernel_rfl) ?_
  change wpAnyH _ _ _ _ _ _ _ _ (World.drew _)
  rw [← hY0]
  clear hY0
  refine takeH (o := ?o1) 0 (.agg #[.int .i64 x.epoch, .int .i64 x.granted, .slice b l c, .int .i64 x.merged, .int .i64 x.last]) ?h1 ?r1
  case h1 => simp only [aT, aZ]; rfl
  refine ⟨_, by simp [Act.put]; rfl, by kernel_rfl, by kernel_rfl, by kernel_rfl, fun _ _ _ h => h, (yields_whole 28 _ #[.int .i64 x.epoch, .int .i64 x.granted, .slice b l c, .int .i64 x.merged, .int .i64 x.last] 28 _ rfl rfl rfl Try.underlying28 rfl infoSeI (fun W hW => hW)), HS.out.box, ?_⟩
  refine takeH (o := ?o2) 1 (.int .i64 per) ?h2 ?r2
  case h2 => simp only [aT, aS, aZ]; rfl
  refine ⟨_, by simp [Act.put]; rfl, by kernel_rfl, by kernel_rfl, by kernel_rfl, fun _ _ _ h => h, (.inl ⟨rfl, fun W _ => by kernel_rfl⟩), HS.out.box, ?_⟩
  refine onlyH (o := ?o3) 2 (by kernel_rfl) ?h3 ?r3
  case h3 => simp only [aT, aS, aZ]; rfl
  intro K hK
  obtain ⟨d, hd⟩ : ∃ d, d = x.ok per := ⟨_, rfl⟩
  have HD : Hid (d = x.ok per) := hd
  refine op_callS2 26 _ _ _ Try.f26 (fun v w' => v = .bool d ∧ Below Y0.heap.size Y0 w') rfl rfl Try.func26 (by kernel_rfl) (by kernel_rfl) ((seOkImpl_any _ x per F Y0 (HX.out.1.below HS.out.bel) HX.out.2).mono (by rintro e w' ⟨rfl, hb⟩; exact ⟨_, rfl, by rw [hd], hb⟩)) ?_
  rintro v Y1 ⟨rfl, hb⟩
  have HS : Hid (SeW w #[.int .i64 x.epoch, .int .i64 x.granted, .slice b l c, .int .i64 x.merged, .int .i64 x.last] L x.epoch x.granted x.merged x.last x.taken p nn k G Y1) := HS.out.below hb
  clear hd hb
  refine ⟨_, by simp [Act.put]; rfl, hK _ _ ⟨HS.out.box, ?_⟩⟩
  clear hK
  cases d
  · refine takeH (o := ?o4) 3 (.bool true) ?h4 ?r4
    case h4 => simp only [aT, aS, aZ]; rfl
    refine ⟨_, by simp [Act.put]; rfl, by kernel_rfl, by kernel_rfl, by kernel_rfl, fun _ _ _ h => h, (.inl ⟨rfl, fun W _ => by go_simp⟩), HS.out.box, ?_⟩
    refine takeH (o := ?o5) 4 (.bool true) ?h5 ?r5
    case h5 => simp only [aT, aS, aZ]; rfl
    refine ⟨_, by simp [Act.put]; rfl, by kernel_rfl, by kernel_rfl, by kernel_rfl, fun _ _ _ h => h, (.inl ⟨rfl, fun W _ => by kernel_rfl⟩), HS.out.box, ?_⟩
    refine takeH (o := ?o6) 5 (undef) ?h6 ?r6
    case h6 => simp only [aT, aS, aZ]; rfl
    refine ⟨_, by simp [Act.put]; rfl, by kernel_rfl, by kernel_rfl, by kernel_rfl, fun _ _ _ h => h, (.inr ⟨rfl, rfl⟩), HS.out.box, ?_⟩
    refine takeH (o := ?o7) 6 (undef) ?h7 ?r7
    case h7 => simp only [aT, aS, aZ]; rfl
    refine ⟨_, by simp [Act.put]; rfl, by kernel_rfl, by kernel_rfl, by kernel_rfl, fun _ _ _ h => h, (.inr ⟨rfl, rfl⟩), HS.out.box, ?_⟩
    refine takeH (o := ?o8) 7 (undef) ?h8 ?r8
    case h8 => simp only [aT, aS, aZ]; rfl
    refine ⟨_, by simp [Act.put]; rfl, by kernel_rfl, by kernel_rfl, by kernel_rfl, fun _ _ _ h => h, (.inr ⟨rfl, rfl⟩), HS.out.box, ?_⟩
    refine takeH (o := ?o9) 8 (undef) ?h9 ?r9
    case h9 => simp only [aT, aS, aZ]; rfl
    refine ⟨_, by simp [Act.put]; rfl, by kernel_rfl, by kernel_rfl, by kernel_rfl, fun _ _ _ h => h, (.inr ⟨rfl, rfl⟩), HS.out.box, ?_⟩
    refine takeH (o := ?o10) 9 (undef) ?h10 ?r10
    case h10 => simp only [aT, aS, aZ]; rfl
    refine ⟨_, by simp [Act.put]; rfl, by kernel_rfl, by kernel_rfl, by kernel_rfl, fun _ _ _ h => h, (.inr ⟨rfl, rfl⟩), HS.out.box, ?_⟩
    refine takeH (o := ?o11) 10 (undef) ?h11 ?r11
    case h11 => simp only [aT, aS, aZ]; rfl
    refine ⟨_, by simp [Act.put]; rfl, by kernel_rfl, by kernel_rfl, by kernel_rfl, fun _ _ _ h => h, (.inr ⟨rfl, rfl⟩), HS.out.box, ?_⟩
    refine takeH (o := ?o12) 11 (undef) ?h12 ?r12
    case h12 => simp only [aT, aS, aZ]; rfl
    refine ⟨_, by simp [Act.put]; rfl, by kernel_rfl, by kernel_rfl, by kernel_rfl, fun _ _ _ h => h, (.inr ⟨rfl, rfl⟩), HS.out.box, ?_⟩
    refine takeH (o := ?o13) 12 (undef) ?h13 ?r13
    case h13 => simp only [aT, aS, aZ]; rfl
    refine ⟨_, by simp [Act.put]; rfl, by kernel_rfl, by kernel_rfl, by kernel_rfl, fun _ _ _ h => h, (.inr ⟨rfl, rfl⟩), HS.out.box, ?_⟩
    refine takeH (o := ?o14) 13 (undef) ?h14 ?r14
    case h14 => simp only [aT, aS, aZ]; rfl
    refine ⟨_, by simp [Act.put]; rfl, by kernel_rfl, by kernel_rfl, by kernel_rfl, fun _ _ _ h => h, (.inr ⟨rfl, rfl⟩), HS.out.box, ?_⟩
    refine takeH (o := ?o15) 14 (.bool true) ?h15 ?r15
    case h15 => simp only [aT, aS, aZ]; rfl
    refine ⟨_, by simp [Act.put]; rfl, by kernel_rfl, by kernel_rfl, by kernel_rfl, fun _ _ _ h => h, (.inl ⟨rfl, fun W _ => by kernel_rfl⟩), HS.out.box, ?_⟩
    refine wpAnyH_done (by kernel_rfl) ?_ _
    have HV : Hid (x.merge per n = (x, false)) := by show _ = _; unfold Se.merge; rw [if_neg (fun q => by have := HD.out; rw [q.1] at this; cases this)]
    go_wp2_with (first | go_skip | (with_reducible refine stopLoad 28 rfl ?_) | (with_reducible refine stopStore 28 rfl ?_))
    refine load_known 28 L #[.int .i64 x.epoch, .int .i64 x.granted, .slice p nn k, .int .i64 x.merged, .int .i64 x.last] 28 _ HS.out.loc rfl rfl rfl Try.underlying28 rfl infoSeI ?_
    go_wp2_with (first | go_skip | (with_reducible refine stopLoad 28 rfl ?_) | (with_reducible refine stopStore 28 rfl ?_))
    refine store_known 28 (w.heap.size + 1) _ #[.int .i64 x.epoch, .int .i64 x.granted, .slice p nn k, .int .i64 x.merged, .int .i64 x.last] 28 HS.out.res rfl rfl rfl rfl infoSeI rfl (by simp [Value.oneCell']) ?_
    go_wp2
    refine bodyPost_ret (results_row_tmp Try.results15 _ _ (w.heap.size + 1) _ _ _ _ rfl HS.out.res.setRow Try.underlying28 rfl infoSeI) rfl ?_
    rw [HV.out]
    exact ⟨_, G, rfl, HS.out.done.1, HS.out.done.2.1, HS.out.done.2.2⟩
  have HR : Hid (x.Right per) := Se.right HD.out.symm
  refine takeH (o := ?o16) 3 (.bool false) ?h16 ?r16
  case h16 => simp only [aT, aS, aZ]; rfl
  refine ⟨_, by simp [Act.put]; rfl, by kernel_rfl, by kernel_rfl, by kernel_rfl, fun _ _ _ h => h, (.inl ⟨rfl, fun W _ => by go_simp⟩), HS.out.box, ?_⟩
  refine takeH (o := ?o17) 4 (.bool false) ?h17 ?r17
  case h17 => simp only [aT, aS, aZ]; rfl
  refine ⟨_, by simp [Act.put]; rfl, by kernel_rfl, by kernel_rfl, by kernel_rfl, fun _ _ _ h => h, (.inl ⟨rfl, fun W _ => by kernel_rfl⟩), HS.out.box, ?_⟩
  refine takeH (o := ?o18) 5 (.int .i64 n) ?h18 ?r18
  case h18 => simp only [aT, aS, aZ]; rfl
  refine ⟨_, by simp [Act.put]; rfl, by kernel_rfl, by kernel_rfl, by kernel_rfl, fun _ _ _ h => h, (.inl ⟨rfl, fun W _ => by kernel_rfl⟩), HS.out.box, ?_⟩
  refine takeH (o := ?o19) 6 (.pointer (some ⟨w.heap.size, 2, none⟩)) ?h19 ?r19
  case h19 => simp only [aT, aS, aZ]; rfl
  refine ⟨_, by simp [Act.put]; rfl, by kernel_rfl, by kernel_rfl, by kernel_rfl, fun _ _ _ h => h, (.inl ⟨rfl, fun W _ => by kernel_rfl⟩), HS.out.box, ?_⟩
  refine takeH (o := ?o20) 7 (.slice b l c) ?h20 ?r20
  case h20 => simp only [aT, aS, aZ]; rfl
  refine ⟨_, by simp [Act.put]; rfl, by kernel_rfl, by kernel_rfl, by kernel_rfl, fun _ _ _ h => h, (.inl ⟨rfl, fun W hW => by have c := hW.cell 2; simp only [aT, aS, aZ] at c; go_simp⟩), HS.out.box, ?_⟩
  refine takeH (o := ?o21) 9 (.pointer (some ⟨w.heap.size, 3, none⟩)) ?h21 ?r21
  case h21 => simp only [aT, aS, aZ]; rfl
  refine ⟨_, by simp [Act.put]; rfl, by kernel_rfl, by kernel_rfl, by kernel_rfl, fun _ _ _ h => h, (.inl ⟨rfl, fun W _ => by kernel_rfl⟩), HS.out.box, ?_⟩
  refine takeH (o := ?o22) 10 (.int .i64 x.merged) ?h22 ?r22
  case h22 => simp only [aT, aS, aZ]; rfl
  refine ⟨_, by simp [Act.put]; rfl, by kernel_rfl, by kernel_rfl, by kernel_rfl, fun _ _ _ h => h, (.inl ⟨rfl, fun W hW => by have c := hW.cell 3; simp only [aT, aS, aZ] at c; go_simp⟩), HS.out.box, ?_⟩
  refine onlyH (o := ?o23) 8 (by kernel_rfl) ?h23 ?r23
  case h23 => simp only [aT, aS, aZ]; rfl
  intro K hK
  refine op_call1 32 _ _ Try.f32 (fun v w' => v = .int .i64 x.taken.size ∧ Below Y1.heap.size Y1 w') rfl rfl Try.func32 (by kernel_rfl) (by kernel_rfl) ((sizeImpl_any b l c x.taken F Y1 (HP.out.1.below HS.out.bel) HP.out.2.1).mono (by rintro e w' ⟨rfl, hb⟩; exact ⟨_, rfl, rfl, hb⟩)) ?_
  rintro v Y2 ⟨rfl, hb⟩
  have HS : Hid (SeW w #[.int .i64 x.epoch, .int .i64 x.granted, .slice b l c, .int .i64 x.merged, .int .i64 x.last] L x.epoch x.granted x.merged x.last x.taken p nn k G Y2) := HS.out.below hb
  clear hb
  refine ⟨_, by simp [Act.put]; rfl, hK _ _ ⟨HS.out.box, ?_⟩⟩
  clear hK
  have hwz : IntKind.i64.wrap (x.taken.size - x.merged) = x.taken.size - x.merged := wrapSe (by have := HR.out.merged; have := HSZ.out; omega)
  refine takeH (o := ?o24) 11 (.int .i64 (x.taken.size - x.merged)) ?h24 ?r24
  case h24 => simp only [aT, aS, aZ]; rfl
  refine ⟨_, by simp [Act.put]; rfl, by kernel_rfl, by kernel_rfl, by kernel_rfl, fun _ _ _ h => h, (.inl ⟨rfl, fun W _ => by first | (go_simp; done) | (go_simp; exact hwz)⟩), HS.out.box, ?_⟩
  refine onlyH (o := ?o25) 12 (by kernel_rfl) ?h25 ?r25
  case h25 => simp only [aT, aS, aZ]; rfl
  intro K hK
  clear hwz
  obtain ⟨d2, hd2⟩ : ∃ d, d = decide (0 ≤ n ∧ n ≤ x.taken.size - x.merged) := ⟨_, rfl⟩
  have HD2 : Hid (d2 = decide (0 ≤ n ∧ n ≤ x.taken.size - x.merged)) := hd2
  refine op_callS2 31 _ _ _ Try.f31 (fun v w' => v = .bool d2 ∧ w' = Y2) rfl rfl Try.func31 (by kernel_rfl) (by kernel_rfl) ((inRange_any n (x.taken.size - x.merged) Y2).mono (by rintro e w' ⟨rfl, rfl⟩; exact ⟨_, rfl, by rw [hd2], rfl⟩)) ?_
  rintro v Y3 ⟨rfl, hq⟩
  have hq' := hq.symm
  subst hq'
  clear hq hd2
  refine ⟨_, by simp [Act.put]; rfl, hK _ _ ⟨HS.out.box, ?_⟩⟩
  clear hK
  cases d2
  · refine takeH (o := ?o26) 13 (.bool true) ?h26 ?r26
    case h26 => simp only [aT, aS, aZ]; rfl
    refine ⟨_, by simp [Act.put]; rfl, by kernel_rfl, by kernel_rfl, by kernel_rfl, fun _ _ _ h => h, (.inl ⟨rfl, fun W _ => by go_simp⟩), HS.out.box, ?_⟩
    refine takeH (o := ?o27) 14 (.bool true) ?h27 ?r27
    case h27 => simp only [aT, aS, aZ]; rfl
    refine ⟨_, by simp [Act.put]; rfl, by kernel_rfl, by kernel_rfl, by kernel_rfl, fun _ _ _ h => h, (.inl ⟨rfl, fun W _ => by kernel_rfl⟩), HS.out.box, ?_⟩
    refine wpAnyH_done (by kernel_rfl) ?_ _
    have HV : Hid (x.merge per n = (x, false)) := by show _ = _; have := of_decide_eq_false HD2.out.symm; unfold Se.merge; rw [if_neg (fun q => this q.2)]
    go_wp2_with (first | go_skip | (with_reducible refine stopLoad 28 rfl ?_) | (with_reducible refine stopStore 28 rfl ?_))
    refine load_known 28 L #[.int .i64 x.epoch, .int .i64 x.granted, .slice p nn k, .int .i64 x.merged, .int .i64 x.last] 28 _ HS.out.loc rfl rfl rfl Try.underlying28 rfl infoSeI ?_
    go_wp2_with (first | go_skip | (with_reducible refine stopLoad 28 rfl ?_) | (with_reducible refine stopStore 28 rfl ?_))
    refine store_known 28 (w.heap.size + 1) _ #[.int .i64 x.epoch, .int .i64 x.granted, .slice p nn k, .int .i64 x.merged, .int .i64 x.last] 28 HS.out.res rfl rfl rfl rfl infoSeI rfl (by simp [Value.oneCell']) ?_
    go_wp2
    refine bodyPost_ret (results_row_tmp Try.results15 _ _ (w.heap.size + 1) _ _ _ _ rfl HS.out.res.setRow Try.underlying28 rfl infoSeI) rfl ?_
    rw [HV.out]
    exact ⟨_, G, rfl, HS.out.done.1, HS.out.done.2.1, HS.out.done.2.2⟩
  refine takeH (o := ?o28) 13 (.bool false) ?h28 ?r28
  case h28 => simp only [aT, aS, aZ]; rfl
  refine ⟨_, by simp [Act.put]; rfl, by kernel_rfl, by kernel_rfl, by kernel_rfl, fun _ _ _ h => h, (.inl ⟨rfl, fun W _ => by go_simp⟩), HS.out.box, ?_⟩
  refine takeH (o := ?o29) 14 (.bool false) ?h29 ?r29
  case h29 => simp only [aT, aS, aZ]; rfl
  refine ⟨_, by simp [Act.put]; rfl, by kernel_rfl, by kernel_rfl, by kernel_rfl, fun _ _ _ h => h, (.inl ⟨rfl, fun W _ => by kernel_rfl⟩), HS.out.box, ?_⟩
  refine wpAnyH_done (by kernel_rfl) ?_ _
  have HN : Hid (0 ≤ n ∧ n ≤ x.taken.size - x.merged) := by show _ ∧ _; exact of_decide_eq_true HD2.out.symm
  have HV : Hid (x.merge per n = (x.plus n, true)) := by show _ = _; unfold Se.merge; rw [if_pos ⟨HD.out.symm, HN.out⟩]
  have hwz : IntKind.i64.wrap (x.merged + n) = x.merged + n := wrapSe (by have := HR.out.merged; have := HN.out; have := HSZ.out; omega)
  have hm0 : 0 ≤ x.merged + n := by have := HR.out.merged; have := HN.out; omega
  have hm1 : x.merged + n ≤ 20971520008 := by have := HR.out.merged; have := HN.out; have := HSZ.out; omega
  have e3 := HS.out.loc.cell 3
  have f3 := HS.out.loc.frozen 3
  simp only [aT, aS, aZ] at e3
  go_wp2_with (first | go_skip | (with_reducible refine stopLoad 28 rfl ?_) | (with_reducible refine stopStore 28 rfl ?_))
  have H4 : Hid (SeW w #[.int .i64 x.epoch, .int .i64 x.granted, .slice b l c, .int .i64 x.merged, .int .i64 x.last] L x.epoch x.granted (x.merged + n) x.last x.taken p nn k G (Y2.setCell ⟨L, 3, none⟩ (.int .i64 (x.merged + n)))) := HS.out.set 3 (.int .i64 (x.merged + n)) rfl
  obtain ⟨w4, hw4⟩ : ∃ W, W = Y2.setCell ⟨L, 3, none⟩ (.int .i64 (x.merged + n)) := ⟨_, rfl⟩
  rw [← hw4] at H4 ⊢
  clear hw4 e3 f3 HS hwz hm0 hm1
  refine load_known 28 L #[.int .i64 x.epoch, .int .i64 x.granted, .slice p nn k, .int .i64 (x.merged + n), .int .i64 x.last] 28 _ H4.out.loc rfl rfl rfl Try.underlying28 rfl infoSeI ?_
  go_wp2_with (first | go_skip | (with_reducible refine stopLoad 28 rfl ?_) | (with_reducible refine stopStore 28 rfl ?_))
  refine store_known 28 (w.heap.size + 1) _ #[.int .i64 x.epoch, .int .i64 x.granted, .slice p nn k, .int .i64 (x.merged + n), .int .i64 x.last] 28 H4.out.res rfl rfl rfl rfl infoSeI rfl (by simp [Value.oneCell']) ?_
  go_wp2
  refine bodyPost_ret (results_row_tmp Try.results15 _ _ (w.heap.size + 1) _ _ _ _ rfl H4.out.res.setRow Try.underlying28 rfl infoSeI) rfl ?_
  rw [HV.out]
  exact ⟨_, G, rfl, H4.out.done.1, H4.out.done.2.1, H4.out.done.2.2⟩
end Go.Proofs.Ytgkbhhlkaifnoab
