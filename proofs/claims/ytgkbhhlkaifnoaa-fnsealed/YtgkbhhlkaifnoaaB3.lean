/- Several texts of mine, laid together. No statement of the seat is proved here. -/
import Derived.Test.YtgkbhhlkaifnoaaB2
import Derived.Test.YtgkbhhlkaifnoaaBase
import Derived.Test.YtgkbhhlkaifnoaaItModel
import Derived.Test.YtgkbhhlkaifnoaaB1
import Derived.Test.YtgkbhhlkaifnoaaSkSum
import Derived.Test.YtgkbhhlkaifnoaaSkCopy
import Derived.Test.YtgkbhhlkaifnoaaSkRoom
import Derived.Test.YtgkbhhlkaifnoaaTallyS
import Derived.Test.YtgkbhhlkaifnoaaTallyMath
import Derived.Deep.AppendLies
import Derived.Maps.AppendAt
import Derived.BigRegion
import Derived.Deep.RegionHeld3
import Derived.Laws.StructEq
/- The walks through the program's SetOk, SetHas and SetSize. No statement of the seat is proved here. -/
namespace Go.Proofs.Ytgkbhhlkaifnoaa
open Go.RowKit
theorem cells_of {w : World} {a : Option Addr} {len : Nat} {ps : Sp} {F : List Nat} (h : RdP w a len ps F) : len = 0 ∨ ∃ b off, a = some ⟨b, off, none⟩ ∧ b < w.heap.size ∧ SpCells w b off len ps := by
 rcases h.cells with ⟨h0, _⟩ | ⟨b, off, hp, e, _, hc⟩
 ·
  exact .inl h0
 ·
  exact .inr ⟨b, off, e, World.block_lt_of_cell? _ _ (hc 0 hp).1, hc⟩
theorem floorAt_succ (ps : Sp) (k : Nat) : floorAt ps (k + 1) = (ps.at k).2 + 2 := by unfold floorAt; rw [if_neg (by omega), show k + 1 - 1 = k by omega]
set_option maxRecDepth 200000 in
set_option maxHeartbeats 2000000 in
theorem setOkImpl_any (a : Option Addr) (len cap : Nat) (ps : Sp) (F : List Nat) (w : World) (h : RdP w a len ps F) (hlen : len ≤ 2097152) :
 Calls Try.prog 77 #[.slice a len cap] w fun e w' => e = .returned (.bool ps.ok) ∧ Below w.heap.size w w' := by
 have HL : Hid (ps.length = len) := h.length
 have HC : Hid (len = 0 ∨ ∃ b off, a = some ⟨b, off, none⟩ ∧ b < w.heap.size ∧ SpCells w b off len ps) := cells_of h
 clear h
 go_enter Try.func77, Try.ntmps77
 go_wp2
 go_loopw [3, 8] (fun q i wr => ∃ (k : Nat) (l : Int), k ≤ len ∧ i = .int .i64 k ∧ q = .int .i64 l ∧ 0 ≤ l ∧ l ≤ 10001 ∧ Hid (Below w.heap.size w wr) ∧ Hid (l = floorAt ps k ∧ ∀ j, j < k → ps.okAt j = true)) (fun _ i _ => len - (intOf i).toNat)
 case atStart => exact ⟨0, 0, by omega, rfl, rfl, by omega, by omega, Below.refl _ _, rfl, fun j hj => by omega⟩
 case round =>
  obtain ⟨k, l, hk, rfl, rfl, l0, l1, HB, HN⟩ := hrel
  by_cases hlt : k < len
  ·
   have hca := HC.out
   rcases hca with h0 | ⟨b, off, rfl, hbw, hc⟩
   ·
    omega
   obtain ⟨x, hx⟩ : ∃ x, x = (ps.at k).1 := ⟨_, rfl⟩
   obtain ⟨y, hy⟩ : ∃ x, x = (ps.at k).2 := ⟨_, rfl⟩
   have e := hc k hlt
   rw [← hx, ← hy] at e
   have d1 : wr.cell? ⟨b, off + k * 2, none⟩ = some (.int .i64 x) := (HB.out.cell (by exact hbw)).trans e.1
   have d2 : wr.cell? ⟨b, off + k * 2 + 1, none⟩ = some (.int .i64 y) := (HB.out.cell (by exact hbw)).trans e.2
   have HX : Hid (x = (ps.at k).1 ∧ y = (ps.at k).2) := ⟨hx, hy⟩
   have HB2 : Hid (Below w.heap.size w (wr.alloc (.cells #[.int .i64 x, .int .i64 y] 81))) := Below.allocW _ HB.out (Nat.le_refl _)
   have HOK : Hid (ps.okAt k = true ↔ l ≤ x ∧ 0 ≤ x ∧ x ≤ y ∧ y ≤ 9999) := by
    have := okAt_iff ps k
    rw [← hx, ← hy] at this
    rw [HN.out.1]
    exact this
   have hI : (k : Int) < (len : Int) := by omega
   have hkl : k < ps.length := by rw [HL.out]; exact hlt
   clear e hx hy hc HB
   by_cases c1 : x < l
   ·
    have c1d : decide (x < l) = true := decT c1
    have HV : Hid (ps.ok = false) := Sp.ok_not hkl (by rw [Bool.eq_false_iff]; exact fun e => by have := HOK.out.1 e; omega)
    go_wp2
    go_ret
    rw [HV.out]
    exact ⟨rfl, HB2.out⟩
   have c1d : decide (x < l) = false := decF c1
   by_cases c2 : y < x
   ·
    have c2d : decide (y < x) = true := decT c2
    have HV : Hid (ps.ok = false) := Sp.ok_not hkl (by rw [Bool.eq_false_iff]; exact fun e => by have := HOK.out.1 e; omega)
    go_wp2
    go_ret
    rw [HV.out]
    exact ⟨rfl, HB2.out⟩
   have c2d : decide (y < x) = false := decF c2
   by_cases c3 : 9999 < y
   ·
    have c3d : decide (9999 < y) = true := decT c3
    have HV : Hid (ps.ok = false) := Sp.ok_not hkl (by rw [Bool.eq_false_iff]; exact fun e => by have := HOK.out.1 e; omega)
    go_wp2
    go_ret
    rw [HV.out]
    exact ⟨rfl, HB2.out⟩
   have c3d : decide (9999 < y) = false := decF c3
   have HN2 : Hid (y + 2 = floorAt ps (k + 1) ∧ ∀ j, j < k + 1 → ps.okAt j = true) := ⟨by rw [floorAt_succ, HX.out.2], all_up HN.out.2 (HOK.out.2 ⟨by omega, by omega, by omega, by omega⟩)⟩
   go_wp2
   go_roundw
   case rel => exact ⟨k + 1, y + 2, by omega, by go_num, by go_num, by omega, by omega, HB2, HN2⟩
   case measure => simp [intOf]; omega
  ·
   obtain rfl : k = len := by omega
   have HV : Hid (ps.ok = true) := Sp.ok_all (fun j hj => HN.out.2 j (by rw [← HL.out]; exact hj))
   go_wp2
   go_ret
   rw [HV.out]
   exact ⟨rfl, HB.out⟩
end Go.Proofs.Ytgkbhhlkaifnoaa
/- The walk through the program's isSeq. No statement of the seat is proved here. -/
namespace Go.Proofs.Ytgkbhhlkaifnoaa
open Go.RowKit
set_option maxRecDepth 200000 in
theorem isSeq_any (n : Int) (w : World) : Calls Try.prog 94 #[.int .i64 n] w fun e w' => e = .returned (.bool (decide (1 ≤ n ∧ n ≤ 60))) ∧ w' = w := by
 have hd : ∀ d : Bool, d = decide (1 ≤ n ∧ n ≤ 60) → (d = true ↔ 1 ≤ n ∧ n ≤ 60) := by rintro d rfl; simp
 generalize decide (1 ≤ n ∧ n ≤ 60) = d at *
 have hd := hd d rfl
 by_cases h : 1 ≤ n
 ·
  by_cases h2 : n ≤ 60
  ·
   have e : Hid (d = true) := hd.2 ⟨h, h2⟩
   clear hd
   go_enter Try.func94, Try.ntmps94
   go_wp2
   go_ret
   rw [e.out]; exact ⟨rfl, rfl⟩
  ·
   have e : Hid (d = false) := show d = false by cases d; rfl; exact absurd (hd.1 rfl).2 h2
   clear hd
   go_enter Try.func94, Try.ntmps94
   go_wp2
   go_ret
   rw [e.out]; exact ⟨rfl, rfl⟩
 ·
  have e : Hid (d = false) := show d = false by cases d; rfl; exact absurd (hd.1 rfl).1 h
  clear hd
  go_enter Try.func94, Try.ntmps94
  go_wp2
  go_ret
  rw [e.out]; exact ⟨rfl, rfl⟩
end Go.Proofs.Ytgkbhhlkaifnoaa
/- The walks through the program's IdOf, ItemOk and the reading of an entry. No statement of the seat is proved here. -/
namespace Go.Proofs.Ytgkbhhlkaifnoaa
open Go.RowKit
set_option maxRecDepth 200000 in
theorem isPlace_any (k p : Int) (w : World) : Calls Try.prog 95 #[.agg #[.int .i64 k, .int .i64 p]] w fun e w' => e = .returned (.bool (placeOk k p)) ∧ Below w.heap.size w w' := by
 have HB : Hid (Below w.heap.size w (w.alloc (.cells #[.int .i64 k, .int .i64 p] 123))) := (Below.refl _ _).alloc (Nat.le_refl _) _
 go_enter Try.func95, Try.ntmps95
 go_wp2_with fail
 refine (inRange_any _ _ _).mono ?_
 rintro e w2 ⟨rfl, hw2⟩
 have hw2' := hw2.symm
 subst hw2'
 clear hw2
 obtain ⟨d1, hd1⟩ : ∃ d, d = decide (0 ≤ k ∧ k ≤ 4) := ⟨_, rfl⟩
 rw [← hd1]
 have HD1 : Hid (d1 = decide (0 ≤ k ∧ k ≤ 4)) := hd1
 clear hd1
 cases d1
 ·
  have HV : Hid (placeOk k p = false) := by show _ = _; unfold placeOk; rw [← HD1.out]; rfl
  go_wp2
  go_ret
  exact ⟨ret_bool HV.out.symm, HB.out⟩
 go_wp2_with fail
 refine (inRange_any _ _ _).mono ?_
 rintro e w2 ⟨rfl, hw2⟩
 have hw2' := hw2.symm
 subst hw2'
 clear hw2
 obtain ⟨d2, hd2⟩ : ∃ d, d = decide (0 ≤ p ∧ p ≤ 20) := ⟨_, rfl⟩
 rw [← hd2]
 have HV : Hid (d2 = placeOk k p) := by show _ = _; unfold placeOk; rw [← HD1.out, ← hd2]; rfl
 clear hd2
 go_wp2
 go_ret
 exact ⟨ret_bool HV.out, HB.out⟩
set_option maxRecDepth 200000 in
set_option maxHeartbeats 2000000 in
theorem itemOkImpl_any (v : Value) (x : It) (F : List Nat) (w : World) (h : RdIt w v x F) (hw : x.sk.wide) :
 Calls Try.prog 57 #[v] w fun e w' => e = .returned (.bool x.ok) ∧ Below w.heap.size w w' := by
 obtain ⟨a1, n1, c1, a2, n2, c2, a3, n3, c3, rfl, hr⟩ := h
 have HR : Hid (RdSk w (.agg #[.int .i64 x.sk.count, .int .i64 x.sk.sum, .int .i64 x.sk.min, .int .i64 x.sk.max, .slice a1 n1 c1, .slice a2 n2 c2, .slice a3 n3 c3]) x.sk F ∧ x.sk.wide) := ⟨hr, hw⟩
 have HB : Hid (Below w.heap.size w (w.alloc (.cells #[.int .i64 x.seq, .int .i64 x.cls, .int .i64 x.key, .int .i64 x.window, .int .i64 x.sk.count, .int .i64 x.sk.sum, .int .i64 x.sk.min, .int .i64 x.sk.max, .slice a1 n1 c1, .slice a2 n2 c2, .slice a3 n3 c3] 36)) ∧ Blk (w.alloc (.cells #[.int .i64 x.seq, .int .i64 x.cls, .int .i64 x.key, .int .i64 x.window, .int .i64 x.sk.count, .int .i64 x.sk.sum, .int .i64 x.sk.min, .int .i64 x.sk.max, .slice a1 n1 c1, .slice a2 n2 c2, .slice a3 n3 c3] 36)) w.heap.size #[.int .i64 x.seq, .int .i64 x.cls, .int .i64 x.key, .int .i64 x.window, .int .i64 x.sk.count, .int .i64 x.sk.sum, .int .i64 x.sk.min, .int .i64 x.sk.max, .slice a1 n1 c1, .slice a2 n2 c2, .slice a3 n3 c3] 36) := ⟨Below.allocW _ (Below.refl _ _) (Nat.le_refl _), Blk.made _ _ _⟩
 clear hr hw
 go_enter Try.func57, Try.ntmps57
 go_wp2_with fail
 refine (isSeq_any _ _).mono ?_
 rintro e w2 ⟨rfl, hw2⟩
 have hw2' := hw2.symm
 subst hw2'
 clear hw2
 obtain ⟨d1, hd1⟩ : ∃ d, d = decide (1 ≤ x.seq ∧ x.seq ≤ 60) := ⟨_, rfl⟩
 rw [← hd1]
 have HD1 : Hid (d1 = decide (1 ≤ x.seq ∧ x.seq ≤ 60)) := hd1
 clear hd1
 cases d1
 ·
  have HV : Hid (x.ok = false) := by show _ = _; unfold It.ok; rw [← HD1.out]; rfl
  go_wp2
  go_ret
  exact ⟨ret_bool HV.out.symm, HB.out.1⟩
 go_wp2_with fail
 refine (inRange_any _ _ _).mono ?_
 rintro e w2 ⟨rfl, hw2⟩
 have hw2' := hw2.symm
 subst hw2'
 clear hw2
 obtain ⟨d2, hd2⟩ : ∃ d, d = decide (0 ≤ x.cls ∧ x.cls ≤ 1) := ⟨_, rfl⟩
 rw [← hd2]
 have HD2 : Hid (d2 = decide (0 ≤ x.cls ∧ x.cls ≤ 1)) := hd2
 clear hd2
 cases d2
 ·
  have HV : Hid (x.ok = false) := by show _ = _; unfold It.ok; rw [← HD1.out, ← HD2.out]; rfl
  go_wp2
  go_ret
  exact ⟨ret_bool HV.out.symm, HB.out.1⟩
 go_wp2_with fail
 refine (isPlace_any _ _ _).mono ?_
 rintro e w2 ⟨rfl, hb2⟩
 have HB2 : Hid (Below w.heap.size w w2 ∧ Blk w2 w.heap.size #[.int .i64 x.seq, .int .i64 x.cls, .int .i64 x.key, .int .i64 x.window, .int .i64 x.sk.count, .int .i64 x.sk.sum, .int .i64 x.sk.min, .int .i64 x.sk.max, .slice a1 n1 c1, .slice a2 n2 c2, .slice a3 n3 c3] 36) := ⟨Below.next HB.out.1 hb2, HB.out.2.below hb2⟩
 clear hb2
 obtain ⟨d3, hd3⟩ : ∃ d, d = placeOk x.key x.window := ⟨_, rfl⟩
 rw [← hd3]
 have HD3 : Hid (d3 = placeOk x.key x.window) := hd3
 clear hd3
 cases d3
 ·
  have HV : Hid (x.ok = false) := by show _ = _; unfold It.ok; rw [← HD1.out, ← HD2.out, ← HD3.out]; rfl
  go_wp2
  go_ret
  exact ⟨ret_bool HV.out.symm, HB2.out.1⟩
 go_wp2_with (first | go_skip | (with_reducible refine stopLoad 34 rfl ?_))
 refine load_cutw 34 w.heap.size 4 7 _ #[.int .i64 x.sk.count, .int .i64 x.sk.sum, .int .i64 x.sk.min, .int .i64 x.sk.max, .slice a1 n1 c1, .slice a2 n2 c2, .slice a3 n3 c3] 36 _ HB2.out.2 rfl rfl rfl Try.underlying34 rfl infoSkI (by simp) rfl ?_
 go_wp2_with fail
 refine (okImpl_any _ x.sk F _ (HR.out.1.below HB2.out.1) HR.out.2).mono ?_
 rintro e w3 ⟨rfl, hb3⟩
 have HB3 : Hid (Below w.heap.size w w3) := Below.next HB2.out.1 hb3
 have HV : Hid (x.ok = x.sk.ok) := by show _ = _; unfold It.ok; rw [← HD1.out, ← HD2.out, ← HD3.out]; rfl
 clear hb3
 obtain ⟨d4, hd4⟩ : ∃ d, d = x.sk.ok := ⟨_, rfl⟩
 rw [← hd4] at HV ⊢
 clear hd4
 go_wp2
 go_ret
 exact ⟨ret_bool HV.out.symm, HB3.out⟩
/-- The cells of an entry as the program holds it. -/
def hc (k p : Int) (a : Option Addr) (l c : Nat) (ys : List Int) : Array Value := (.int .i64 k :: .int .i64 p :: .slice a l c :: ys.map (Value.int .i64)).toArray
section
variable {P : Program} {ops : Array Oper} {Q : Exit → Act → World → Prop} {rest : List Oper} {a : Act} {w : World} {o : Oper}
end
end Go.Proofs.Ytgkbhhlkaifnoaa
/- The walk through the program's areSeqs. No statement of the seat is proved here. -/
namespace Go.Proofs.Ytgkbhhlkaifnoaa
open Go.RowKit
set_option maxRecDepth 200000 in
set_option maxHeartbeats 2000000 in
theorem areSeqs_any (a : Option Addr) (len cap : Nat) (m : Int) (ps : Sp) (F : List Nat) (w : World) (h : RdP w a len ps F) (hlen : len ≤ 2097152) :
 Calls Try.prog 52 #[.slice a len cap, .int .i64 m] w fun e w' => e = .returned (.bool (ps.ok && ps.under m)) ∧ Below w.heap.size w w' := by
 have HL : Hid (ps.length = len ∧ RdP w a len ps F) := ⟨h.length, h⟩
 have HC : Hid (len = 0 ∨ ∃ b off, a = some ⟨b, off, none⟩ ∧ b < w.heap.size ∧ SpCells w b off len ps) := cells_of h
 clear h
 go_enter Try.func52, Try.ntmps52
 go_wp2
 go_loopw [9] (fun i wr => ∃ (k : Nat), k ≤ len ∧ i = .int .i64 k ∧ Hid (Below w.heap.size w wr) ∧ Hid (∀ j, j < k → 1 ≤ (ps.at j).1 ∧ (ps.at j).2 ≤ m)) (fun i _ => len - (intOf i).toNat)
 case atStart => exact ⟨0, by omega, rfl, Below.refl _ _, fun j hj => by omega⟩
 case round =>
  obtain ⟨k, hk, rfl, HB, HN⟩ := hrel
  by_cases hlt : k < len
  ·
   have hca := HC.out
   rcases hca with h0 | ⟨b, off, rfl, hbw, hc⟩
   ·
    omega
   obtain ⟨x, hx⟩ : ∃ x, x = (ps.at k).1 := ⟨_, rfl⟩
   obtain ⟨y, hy⟩ : ∃ x, x = (ps.at k).2 := ⟨_, rfl⟩
   have e := hc k hlt
   rw [← hx, ← hy] at e
   have d1 : wr.cell? ⟨b, off + k * 2, none⟩ = some (.int .i64 x) := (HB.out.cell (by exact hbw)).trans e.1
   have d2 : wr.cell? ⟨b, off + k * 2 + 1, none⟩ = some (.int .i64 y) := (HB.out.cell (by exact hbw)).trans e.2
   have HX : Hid (x = (ps.at k).1 ∧ y = (ps.at k).2 ∧ k < ps.length) := ⟨hx, hy, by rw [HL.out.1]; exact hlt⟩
   have HB2 : Hid (Below w.heap.size w (wr.alloc (.cells #[.int .i64 x, .int .i64 y] 81))) := Below.allocW _ HB.out (Nat.le_refl _)
   have hI : (k : Int) < (len : Int) := by omega
   clear e hx hy hc HB
   by_cases h1 : x < 1
   ·
    have HV : Hid ((ps.ok && ps.under m) = false) := by
     show _ = _
     rw [Sp.under_not HX.out.2.2 (fun e => absurd e.1 (by rw [← HX.out.1]; omega)), Bool.and_false]
    go_wp2
    go_ret
    exact ⟨ret_bool HV.out.symm, HB2.out⟩
   by_cases h2 : m < y
   ·
    have HV : Hid ((ps.ok && ps.under m) = false) := by
     show _ = _
     rw [Sp.under_not HX.out.2.2 (fun e => absurd e.2 (by rw [← HX.out.2.1]; omega)), Bool.and_false]
    go_wp2
    go_ret
    exact ⟨ret_bool HV.out.symm, HB2.out⟩
   have HN2 : Hid (∀ j, j < k + 1 → 1 ≤ (ps.at j).1 ∧ (ps.at j).2 ≤ m) := all_up HN.out ⟨by rw [← HX.out.1]; omega, by rw [← HX.out.2.1]; omega⟩
   go_wp2
   go_roundw
   case rel => exact ⟨k + 1, by omega, by go_num, HB2, HN2⟩
   case measure => simp [intOf]; omega
  ·
   obtain rfl : k = len := by omega
   have HV : Hid (ps.under m = true) := Sp.under_all (fun j hj => HN.out j (by have := HL.out.1; omega))
   go_wp2_with fail
   refine (setOkImpl_any a k cap ps F _ (HL.out.2.below HB.out) hlen).mono ?_
   rintro e w2 ⟨rfl, hb2⟩
   have HB2 : Hid (Below w.heap.size w w2) := Below.next HB.out hb2
   clear hb2
   obtain ⟨d, hd⟩ : ∃ d, d = ps.ok := ⟨_, rfl⟩
   rw [← hd]
   have HD : Hid (d = ps.ok) := hd
   clear hd
   go_wp2
   go_ret
   rw [HV.out, Bool.and_true]
   exact ⟨ret_bool HD.out, HB2.out⟩
end Go.Proofs.Ytgkbhhlkaifnoaa
/- The walks through the program's itemSame, FrameSame, areSeqs, itemFits and FrameOk. No statement of the seat is proved here. -/
namespace Go.Proofs.Ytgkbhhlkaifnoaa
open Go.RowKit
set_option maxRecDepth 200000 in
set_option maxHeartbeats 4000000 in
theorem itemSame_any (v u : Value) (x y : It) (F G : List Nat) (w : World) (h : RdIt w v x F) (k : RdIt w u y G) (hx : x.sk.wide) (hy : y.sk.wide) :
 Calls Try.prog 90 #[v, u] w fun e w' => e = .returned (.bool (decide (x = y))) ∧ Below w.heap.size w w' := by
 obtain ⟨a1, n1, nc1, a2, n2, nc2, a3, n3, nc3, rfl, sx⟩ := h
 obtain ⟨b1, m1, mc1, b2, m2, mc2, b3, m3, mc3, rfl, sy⟩ := k
 have HX : Hid (RdSk w (.agg #[.int .i64 x.sk.count, .int .i64 x.sk.sum, .int .i64 x.sk.min, .int .i64 x.sk.max, .slice a1 n1 nc1, .slice a2 n2 nc2, .slice a3 n3 nc3]) x.sk F ∧ RdSk w (.agg #[.int .i64 y.sk.count, .int .i64 y.sk.sum, .int .i64 y.sk.min, .int .i64 y.sk.max, .slice b1 m1 mc1, .slice b2 m2 mc2, .slice b3 m3 mc3]) y.sk G ∧ x.sk.wide ∧ y.sk.wide) := ⟨sx, sy, hx, hy⟩
 have HT : Hid (_ ∧ _ ∧ _) := two_made w #[.int .i64 x.seq, .int .i64 x.cls, .int .i64 x.key, .int .i64 x.window, .int .i64 x.sk.count, .int .i64 x.sk.sum, .int .i64 x.sk.min, .int .i64 x.sk.max, .slice a1 n1 nc1, .slice a2 n2 nc2, .slice a3 n3 nc3] #[.int .i64 y.seq, .int .i64 y.cls, .int .i64 y.key, .int .i64 y.window, .int .i64 y.sk.count, .int .i64 y.sk.sum, .int .i64 y.sk.min, .int .i64 y.sk.max, .slice b1 m1 mc1, .slice b2 m2 mc2, .slice b3 m3 mc3] 36 36
 obtain ⟨d, hd⟩ : ∃ d, d = decide (x = y) := ⟨_, rfl⟩
 rw [← hd]
 have HD : Hid (d = decide (x = y)) := hd
 clear sx sy hx hy hd
 have k0 := HT.out.1.cell 0
 have j0 := HT.out.2.1.cell 0
 have k1 := HT.out.1.cell 1
 have j1 := HT.out.2.1.cell 1
 have k2 := HT.out.1.cell 2
 have j2 := HT.out.2.1.cell 2
 have k3 := HT.out.1.cell 3
 have j3 := HT.out.2.1.cell 3
 simp only [aT, aS, aZ] at k0 j0 k1 j1 k2 j2 k3 j3
 by_cases c1 : x.seq = y.seq
 rotate_left
 ·
  have HV : Hid (d = false) := by show d = _; rw [HD.out]; exact dec_false (fun e => c1 (by rw [e]))
  have z1 : (x.seq == y.seq) = false := by simpa using c1
  clear c1
  go_enter Try.func90, Try.ntmps90
  go_wp2
  go_ret
  exact ⟨ret_bool HV.out.symm, HT.out.2.2⟩
 have z1 : (x.seq == y.seq) = true := by simpa using c1
 by_cases c2 : x.cls = y.cls
 rotate_left
 ·
  have HV : Hid (d = false) := by show d = _; rw [HD.out]; exact dec_false (fun e => c2 (by rw [e]))
  have z2 : (x.cls == y.cls) = false := by simpa using c2
  clear c1 c2
  go_enter Try.func90, Try.ntmps90
  go_wp2
  go_ret
  exact ⟨ret_bool HV.out.symm, HT.out.2.2⟩
 have z2 : (x.cls == y.cls) = true := by simpa using c2
 by_cases c3 : x.key = y.key
 rotate_left
 ·
  have HV : Hid (d = false) := by show d = _; rw [HD.out]; exact dec_false (fun e => c3 (by rw [e]))
  have z3 : (x.key == y.key) = false := by simpa using c3
  clear c1 c2 c3
  go_enter Try.func90, Try.ntmps90
  go_wp2
  go_ret
  exact ⟨ret_bool HV.out.symm, HT.out.2.2⟩
 have z3 : (x.key == y.key) = true := by simpa using c3
 by_cases c4 : x.window = y.window
 rotate_left
 ·
  have HV : Hid (d = false) := by show d = _; rw [HD.out]; exact dec_false (fun e => c4 (by rw [e]))
  have z4 : (x.window == y.window) = false := by simpa using c4
  clear c1 c2 c3 c4
  go_enter Try.func90, Try.ntmps90
  go_wp2
  go_ret
  exact ⟨ret_bool HV.out.symm, HT.out.2.2⟩
 have z4 : (x.window == y.window) = true := by simpa using c4
 have HC : Hid (x.seq = y.seq ∧ x.cls = y.cls ∧ x.key = y.key ∧ x.window = y.window) := ⟨c1, c2, c3, c4⟩
 clear c1 c2 c3 c4
 go_enter Try.func90, Try.ntmps90
 go_wp2_with (first | go_skip | (with_reducible refine stopLoad 34 rfl ?_))
 refine load_cutw 34 w.heap.size 4 7 _ #[.int .i64 x.sk.count, .int .i64 x.sk.sum, .int .i64 x.sk.min, .int .i64 x.sk.max, .slice a1 n1 nc1, .slice a2 n2 nc2, .slice a3 n3 nc3] 36 _ HT.out.1 rfl rfl rfl Try.underlying34 rfl infoSkI (by simp) rfl ?_
 go_wp2_with (first | go_skip | (with_reducible refine stopLoad 34 rfl ?_))
 refine load_cutw 34 (w.heap.size + 1) 4 7 _ #[.int .i64 y.sk.count, .int .i64 y.sk.sum, .int .i64 y.sk.min, .int .i64 y.sk.max, .slice b1 m1 mc1, .slice b2 m2 mc2, .slice b3 m3 mc3] 36 _ HT.out.2.1 rfl rfl rfl Try.underlying34 rfl infoSkI (by simp) rfl ?_
 go_wp2_with fail
 refine (sameImpl_any _ _ x.sk y.sk F G _ (HX.out.1.below HT.out.2.2) (HX.out.2.1.below HT.out.2.2) HX.out.2.2.1 HX.out.2.2.2).mono ?_
 rintro e w2 ⟨rfl, b2⟩
 have HB2 : Hid (Below w.heap.size w w2) := Below.next HT.out.2.2 b2
 clear b2
 obtain ⟨d2, hd2⟩ : ∃ d, d = decide (x.sk = y.sk) := ⟨_, rfl⟩
 rw [← hd2]
 have HV : Hid (d2 = d) := by
  show _ = _
  rw [hd2, HD.out]
  by_cases e : x.sk = y.sk
  ·
   rw [dec_true e, dec_true (It.eq_of HC.out.1 HC.out.2.1 HC.out.2.2.1 HC.out.2.2.2 e)]
  ·
   rw [dec_false e, dec_false (fun q => e (by rw [q]))]
 clear hd2
 go_wp2
 go_ret
 exact ⟨ret_bool HV.out, HB2.out⟩
theorem infoFrF7 : (Try.prog.info? 38).map (·.size) = some 16 := by kernel_rfl
theorem rdIt_zero (w : World) : RdIt w (.agg #[.int .i64 0, .int .i64 0, .int .i64 0, .int .i64 0, .int .i64 0, .int .i64 0, .int .i64 0, .int .i64 0, .slice none 0 0, .slice none 0 0, .slice none 0 0]) It.zero [] := by
 refine ⟨none, 0, 0, none, 0, 0, none, 0, 0, rfl, ?_⟩
 exact ⟨none, 0, 0, none, 0, 0, none, 0, 0, [], [], [], rfl, ⟨rfl, .inl ⟨rfl, rfl⟩⟩, ⟨rfl, .inl ⟨rfl, rfl⟩⟩, ⟨rfl, .inl ⟨rfl, rfl⟩⟩, rfl⟩
theorem It.zero_wide : It.zero.sk.wide := ⟨by simp [It.zero, Sk.zero], by simp [It.zero, Sk.zero], by simp [It.zero, Sk.zero], by simp [It.zero, Sk.zero]⟩
set_option maxRecDepth 200000 in
set_option maxHeartbeats 2000000 in
theorem itemFits_any (v : Value) (x : Fr) (F G : List Nat) (w : World) (h : RdFr w v x F G) (hw : x.item.sk.wide) :
 Calls Try.prog 53 #[v] w fun e w' => e = .returned (.bool (if x.kind = 1 then x.item.ok else decide (x.item = It.zero))) ∧ Below w.heap.size w w' := by
 obtain ⟨b, l, c, a1, n1, c1, a2, n2, c2, a3, n3, c3, rfl, _, hr, _⟩ := h
 have HR : Hid (RdIt w (.agg #[.int .i64 x.item.seq, .int .i64 x.item.cls, .int .i64 x.item.key, .int .i64 x.item.window, .int .i64 x.item.sk.count, .int .i64 x.item.sk.sum, .int .i64 x.item.sk.min, .int .i64 x.item.sk.max, .slice a1 n1 c1, .slice a2 n2 c2, .slice a3 n3 c3]) x.item G ∧ x.item.sk.wide) := ⟨hr, hw⟩
 have HB : Hid (Below w.heap.size w (w.alloc (.cells #[.int .i64 x.kind, .int .i64 x.agent, .int .i64 x.epoch, .int .i64 x.granted, .slice b l c, .int .i64 x.item.seq, .int .i64 x.item.cls, .int .i64 x.item.key, .int .i64 x.item.window, .int .i64 x.item.sk.count, .int .i64 x.item.sk.sum, .int .i64 x.item.sk.min, .int .i64 x.item.sk.max, .slice a1 n1 c1, .slice a2 n2 c2, .slice a3 n3 c3] 38)) ∧ Blk (w.alloc (.cells #[.int .i64 x.kind, .int .i64 x.agent, .int .i64 x.epoch, .int .i64 x.granted, .slice b l c, .int .i64 x.item.seq, .int .i64 x.item.cls, .int .i64 x.item.key, .int .i64 x.item.window, .int .i64 x.item.sk.count, .int .i64 x.item.sk.sum, .int .i64 x.item.sk.min, .int .i64 x.item.sk.max, .slice a1 n1 c1, .slice a2 n2 c2, .slice a3 n3 c3] 38)) w.heap.size #[.int .i64 x.kind, .int .i64 x.agent, .int .i64 x.epoch, .int .i64 x.granted, .slice b l c, .int .i64 x.item.seq, .int .i64 x.item.cls, .int .i64 x.item.key, .int .i64 x.item.window, .int .i64 x.item.sk.count, .int .i64 x.item.sk.sum, .int .i64 x.item.sk.min, .int .i64 x.item.sk.max, .slice a1 n1 c1, .slice a2 n2 c2, .slice a3 n3 c3] 38) := ⟨Below.allocW _ (Below.refl _ _) (Nat.le_refl _), Blk.made _ _ _⟩
 have k0 := HB.out.2.cell 0
 simp only [aT, aZ] at k0
 clear hr hw
 obtain ⟨z, hz⟩ : ∃ z, z = (if x.kind = 1 then x.item.ok else decide (x.item = It.zero)) := ⟨_, rfl⟩
 rw [← hz]
 by_cases h1 : x.kind = 1
 ·
  have e1 : (x.kind == 1) = true := by simpa using h1
  have HV : Hid (z = x.item.ok) := hz.trans (if_pos h1)
  clear hz
  clear h1
  go_enter Try.func53, Try.ntmps53
  go_wp2_with (first | go_skip | (with_reducible refine stopLoad 36 rfl ?_))
  refine load_cut 36 w.heap.size 5 11 _ #[.int .i64 x.item.seq, .int .i64 x.item.cls, .int .i64 x.item.key, .int .i64 x.item.window, .int .i64 x.item.sk.count, .int .i64 x.item.sk.sum, .int .i64 x.item.sk.min, .int .i64 x.item.sk.max, .slice a1 n1 c1, .slice a2 n2 c2, .slice a3 n3 c3] 38 _ HB.out.2 rfl rfl rfl Try.underlying36 rfl infoItA7 (by simp) rfl ?_
  go_wp2_with fail
  refine (itemOkImpl_any _ x.item G _ (HR.out.1.below HB.out.1) HR.out.2).mono ?_
  rintro e w3 ⟨rfl, hb3⟩
  have HB3 : Hid (Below w.heap.size w w3) := Below.next HB.out.1 hb3
  clear hb3
  obtain ⟨d, hd⟩ : ∃ d, d = x.item.ok := ⟨_, rfl⟩
  rw [← hd] at HV ⊢
  clear hd
  go_wp2
  go_ret
  exact ⟨ret_bool HV.out.symm, HB3.out⟩
 ·
  have e1 : (x.kind == 1) = false := by simpa using h1
  have HV : Hid (z = decide (x.item = It.zero)) := hz.trans (if_neg h1)
  clear hz
  clear h1
  go_enter Try.func53, Try.ntmps53
  go_wp2_with (first | go_skip | (with_reducible refine stopLoad 36 rfl ?_))
  refine load_cut 36 w.heap.size 5 11 _ #[.int .i64 x.item.seq, .int .i64 x.item.cls, .int .i64 x.item.key, .int .i64 x.item.window, .int .i64 x.item.sk.count, .int .i64 x.item.sk.sum, .int .i64 x.item.sk.min, .int .i64 x.item.sk.max, .slice a1 n1 c1, .slice a2 n2 c2, .slice a3 n3 c3] 38 _ HB.out.2 rfl rfl rfl Try.underlying36 rfl infoItA7 (by simp) rfl ?_
  go_wp2_with fail
  refine (itemSame_any _ _ x.item It.zero G [] _ (HR.out.1.below HB.out.1) (rdIt_zero _) HR.out.2 It.zero_wide).mono ?_
  rintro e w3 ⟨rfl, hb3⟩
  have HB3 : Hid (Below w.heap.size w w3) := Below.next HB.out.1 hb3
  clear hb3
  obtain ⟨d, hd⟩ : ∃ d, d = decide (x.item = It.zero) := ⟨_, rfl⟩
  rw [← hd] at HV ⊢
  clear hd
  go_wp2
  go_ret
  exact ⟨ret_bool HV.out.symm, HB3.out⟩
set_option maxRecDepth 200000 in
set_option maxHeartbeats 4000000 in
theorem frameOkImpl_any (v : Value) (x : Fr) (F G : List Nat) (w : World) (h : RdFr w v x F G) (hw : x.item.sk.wide) (hl : x.taken.length ≤ 2097152) :
 Calls Try.prog 16 #[v] w fun e w' => e = .returned (.bool x.ok) ∧ Below w.heap.size w w' := by
 have HH : Hid (RdFr w v x F G ∧ x.item.sk.wide) := ⟨h, hw⟩
 obtain ⟨b, l, c, a1, n1, c1, a2, n2, c2, a3, n3, c3, rfl, hp, hr, _⟩ := h
 have HP : Hid (RdP w b l x.taken F ∧ l ≤ 2097152 ∧ x.taken.length = l) := ⟨hp, by rw [← hp.length]; exact hl, hp.length⟩
 have HB : Hid (Below w.heap.size w (w.alloc (.cells #[.int .i64 x.kind, .int .i64 x.agent, .int .i64 x.epoch, .int .i64 x.granted, .slice b l c, .int .i64 x.item.seq, .int .i64 x.item.cls, .int .i64 x.item.key, .int .i64 x.item.window, .int .i64 x.item.sk.count, .int .i64 x.item.sk.sum, .int .i64 x.item.sk.min, .int .i64 x.item.sk.max, .slice a1 n1 c1, .slice a2 n2 c2, .slice a3 n3 c3] 38)) ∧ Blk (w.alloc (.cells #[.int .i64 x.kind, .int .i64 x.agent, .int .i64 x.epoch, .int .i64 x.granted, .slice b l c, .int .i64 x.item.seq, .int .i64 x.item.cls, .int .i64 x.item.key, .int .i64 x.item.window, .int .i64 x.item.sk.count, .int .i64 x.item.sk.sum, .int .i64 x.item.sk.min, .int .i64 x.item.sk.max, .slice a1 n1 c1, .slice a2 n2 c2, .slice a3 n3 c3] 38)) w.heap.size #[.int .i64 x.kind, .int .i64 x.agent, .int .i64 x.epoch, .int .i64 x.granted, .slice b l c, .int .i64 x.item.seq, .int .i64 x.item.cls, .int .i64 x.item.key, .int .i64 x.item.window, .int .i64 x.item.sk.count, .int .i64 x.item.sk.sum, .int .i64 x.item.sk.min, .int .i64 x.item.sk.max, .slice a1 n1 c1, .slice a2 n2 c2, .slice a3 n3 c3] 38) := ⟨Below.allocW _ (Below.refl _ _) (Nat.le_refl _), Blk.made _ _ _⟩
 clear hr hw hp hl
 go_enter Try.func16, Try.ntmps16
 go_wp2_with fail
 refine (inRange_any _ _ _).mono ?_
 rintro e w2 ⟨rfl, hw2⟩
 have hw2' := hw2.symm
 subst hw2'
 clear hw2
 obtain ⟨d1, hd1⟩ : ∃ d, d = decide (0 ≤ x.kind ∧ x.kind ≤ 3) := ⟨_, rfl⟩
 rw [← hd1]
 have HD1 : Hid (d1 = decide (0 ≤ x.kind ∧ x.kind ≤ 3)) := hd1
 clear hd1
 cases d1
 ·
  have HV : Hid (x.ok = false) := by show _ = _; unfold Fr.ok; rw [← HD1.out]; rfl
  go_wp2
  go_ret
  exact ⟨ret_bool HV.out.symm, HB.out.1⟩
 go_wp2_with fail
 refine (inRange_any _ _ _).mono ?_
 rintro e w2 ⟨rfl, hw2⟩
 have hw2' := hw2.symm
 subst hw2'
 clear hw2
 obtain ⟨d2, hd2⟩ : ∃ d, d = decide (0 ≤ x.agent ∧ x.agent ≤ 2) := ⟨_, rfl⟩
 rw [← hd2]
 have HD2 : Hid (d2 = decide (0 ≤ x.agent ∧ x.agent ≤ 2)) := hd2
 clear hd2
 cases d2
 ·
  have HV : Hid (x.ok = false) := by show _ = _; unfold Fr.ok; rw [← HD1.out, ← HD2.out]; rfl
  go_wp2
  go_ret
  exact ⟨ret_bool HV.out.symm, HB.out.1⟩
 go_wp2_with fail
 refine (inRange_any _ _ _).mono ?_
 rintro e w2 ⟨rfl, hw2⟩
 have hw2' := hw2.symm
 subst hw2'
 clear hw2
 obtain ⟨d3, hd3⟩ : ∃ d, d = decide (0 ≤ x.epoch ∧ x.epoch ≤ 1000) := ⟨_, rfl⟩
 rw [← hd3]
 have HD3 : Hid (d3 = decide (0 ≤ x.epoch ∧ x.epoch ≤ 1000)) := hd3
 clear hd3
 cases d3
 ·
  have HV : Hid (x.ok = false) := by show _ = _; unfold Fr.ok; rw [← HD1.out, ← HD2.out, ← HD3.out]; rfl
  go_wp2
  go_ret
  exact ⟨ret_bool HV.out.symm, HB.out.1⟩
 go_wp2_with fail
 refine (inRange_any _ _ _).mono ?_
 rintro e w2 ⟨rfl, hw2⟩
 have hw2' := hw2.symm
 subst hw2'
 clear hw2
 obtain ⟨d4, hd4⟩ : ∃ d, d = decide (0 ≤ x.granted ∧ x.granted ≤ 60) := ⟨_, rfl⟩
 rw [← hd4]
 have HD4 : Hid (d4 = decide (0 ≤ x.granted ∧ x.granted ≤ 60)) := hd4
 clear hd4
 cases d4
 ·
  have HV : Hid (x.ok = false) := by show _ = _; unfold Fr.ok; rw [← HD1.out, ← HD2.out, ← HD3.out, ← HD4.out]; rfl
  go_wp2
  go_ret
  exact ⟨ret_bool HV.out.symm, HB.out.1⟩
 go_wp2_with fail
 refine (areSeqs_any b l c 60 x.taken F _ (HP.out.1.below HB.out.1) HP.out.2.1).mono ?_
 rintro e w2 ⟨rfl, hb2⟩
 have HB2 : Hid (Below w.heap.size w w2 ∧ Blk w2 w.heap.size #[.int .i64 x.kind, .int .i64 x.agent, .int .i64 x.epoch, .int .i64 x.granted, .slice b l c, .int .i64 x.item.seq, .int .i64 x.item.cls, .int .i64 x.item.key, .int .i64 x.item.window, .int .i64 x.item.sk.count, .int .i64 x.item.sk.sum, .int .i64 x.item.sk.min, .int .i64 x.item.sk.max, .slice a1 n1 c1, .slice a2 n2 c2, .slice a3 n3 c3] 38) := ⟨Below.next HB.out.1 hb2, HB.out.2.below hb2⟩
 clear hb2
 obtain ⟨d5, hd5⟩ : ∃ d, d = (x.taken.ok && x.taken.under 60) := ⟨_, rfl⟩
 rw [← hd5]
 have HD5 : Hid (d5 = (x.taken.ok && x.taken.taken)) := hd5
 clear hd5
 cases d5
 ·
  have HV : Hid (x.ok = false) := by
   show _ = _
   unfold Fr.ok
   rw [Bool.and_assoc _ x.taken.ok x.taken.taken, ← HD1.out, ← HD2.out, ← HD3.out, ← HD4.out, ← HD5.out]; rfl
  go_wp2
  go_ret
  exact ⟨ret_bool HV.out.symm, HB2.out.1⟩
 have HV : Hid (x.ok = (if x.kind = 1 then x.item.ok else decide (x.item = It.zero))) := by
  show _ = _
  unfold Fr.ok
  rw [Bool.and_assoc _ x.taken.ok x.taken.taken, ← HD1.out, ← HD2.out, ← HD3.out, ← HD4.out, ← HD5.out]; rfl
 go_wp2_with (first | go_skip | (with_reducible refine stopLoad 38 rfl ?_))
 refine load_cutw 38 w.heap.size 0 16 _ #[.int .i64 x.kind, .int .i64 x.agent, .int .i64 x.epoch, .int .i64 x.granted, .slice b l c, .int .i64 x.item.seq, .int .i64 x.item.cls, .int .i64 x.item.key, .int .i64 x.item.window, .int .i64 x.item.sk.count, .int .i64 x.item.sk.sum, .int .i64 x.item.sk.min, .int .i64 x.item.sk.max, .slice a1 n1 c1, .slice a2 n2 c2, .slice a3 n3 c3] 38 _ HB2.out.2 rfl rfl rfl Try.underlying38 rfl infoFrF7 (by simp) rfl ?_
 go_wp2_with fail
 refine (itemFits_any _ x F G _ (HH.out.1.below HB2.out.1) HH.out.2).mono ?_
 rintro e w3 ⟨rfl, hb3⟩
 have HB3 : Hid (Below w.heap.size w w3) := Below.next HB2.out.1 hb3
 clear hb3
 obtain ⟨d, hd⟩ : ∃ d, d = (if x.kind = 1 then x.item.ok else decide (x.item = It.zero)) := ⟨_, rfl⟩
 rw [← hd] at HV ⊢
 clear hd
 go_wp2
 go_ret
 exact ⟨ret_bool HV.out.symm, HB3.out⟩
end Go.Proofs.Ytgkbhhlkaifnoaa
/- The walk through the model's AgentNew. No statement of the seat is proved here. -/
namespace Go.Proofs.Ytgkbhhlkaifnoaa
open Go.RowKit
def Ag.zero : Ag := ⟨0, 0, false, 0, [], [], 0⟩
def Ag.fresh (n : Int) : Ag := ⟨n, 0, false, 0, [], [], 0⟩
/-- A new agent, or none. -/
def Ag.made (n : Int) : Ag := if (Ag.fresh n).ok = true then Ag.fresh n else Ag.zero
theorem rdAg_fresh (w : World) (n : Int) : RdAg w (.agg #[.int .i64 n, .int .i64 0, .bool false, .int .i64 0, .slice none 0 0, .slice none 0 0, .int .i64 0]) (Ag.fresh n) [] [] := ⟨none, 0, 0, none, 0, 0, rfl, RdL.nil, RdP.nil, ⟨fun _ => rfl, Nat.le_refl _⟩, ⟨fun _ => rfl, Nat.le_refl _⟩⟩
end Go.Proofs.Ytgkbhhlkaifnoaa
/- The walks through the model's Waiting and AgentNew. No statement of the seat is proved here. -/
namespace Go.Proofs.Ytgkbhhlkaifnoaa
open Go.RowKit
end Go.Proofs.Ytgkbhhlkaifnoaa
/- The walks through the program's areInPlace, AgentOk, AgentNew, seqInTurn and Waiting. No statement of the seat is proved here. -/
namespace Go.Proofs.Ytgkbhhlkaifnoaa
open Go.RowKit
theorem infoItB8 : (Try.prog.info? 36).map (·.size) = some 11 := by kernel_rfl
set_option maxRecDepth 200000 in
set_option maxHeartbeats 2000000 in
theorem areInPlace_any (a : Option Addr) (len cap : Nat) (xs : List It) (F : List Nat) (w : World) (h : RdL itK w a len xs F) (hw : ∀ y ∈ xs, y.sk.wide) (hlen : len ≤ 2097152) :
 Calls Try.prog 54 #[.slice a len cap] w fun e w' => e = .returned (.bool (itsOk xs)) ∧ Below w.heap.size w w' := by
 have HL : Hid (RdL itK w a len xs F ∧ (∀ y ∈ xs, y.sk.wide) ∧ xs.length = len) := ⟨h, hw, h.length⟩
 clear h hw
 go_enter Try.func54, Try.ntmps54
 go_wp2
 go_loopw [7] (fun i wr => ∃ (k : Nat), k ≤ len ∧ i = .int .i64 k ∧ Hid (Below w.heap.size w wr ∧ ∀ j y, j < k → xs[j]? = some y → y.ok = true ∧ y.seq = (j : Int) + 1)) (fun i _ => len - (intOf i).toNat)
 case atStart => exact ⟨0, by omega, rfl, Below.refl _ _, fun j y hj => by omega⟩
 case round =>
  obtain ⟨k, hk, rfl, HR⟩ := hrel
  by_cases hlt : k < len
  ·
   have hI : (k : Int) < (len : Int) := by omega
   obtain ⟨b, off, ha, hbF, cs, Fi, hcs, hcc, hr, _⟩ := HL.out.1.get k hlt
   have ha' := ha.symm
   subst ha'
   have hbw : b < w.heap.size := HL.out.1.lt b hbF
   obtain ⟨y, hy⟩ : ∃ y, xs[k]? = some y := ⟨_, List.getElem?_eq_getElem (by rw [HL.out.2.2]; exact hlt)⟩
   have HY : Hid (xs[k]? = some y ∧ y.sk.wide ∧ cs.size = 11 ∧ RdIt w (.agg cs) y Fi ∧ cs.all (·.oneCell') = true) := ⟨hy, HL.out.2.1 y (List.mem_of_getElem? hy), hcs, hr y hy, by
    obtain ⟨a1, n1, c1, a2, n2, c2, a3, n3, c3, e⟩ := (hr y hy).cells11
    injection e with e
    rw [e]
    simp [Value.oneCell']⟩
   have HC : Hid (∀ j, j < 11 → wr.cell? ⟨b, off + k * 11 + j, none⟩ = cs[j]?) := fun j hj => by
    have q : wr.cell? ⟨b, off + k * 11 + j, none⟩ = w.cell? ⟨b, off + k * 11 + j, none⟩ := HR.out.1.cell (p := ⟨b, off + k * 11 + j, none⟩) hbw
    exact q.trans (hcc j hj)
   clear ha hbF hcs hcc hr hy
   go_wp2_with (first | go_skip | (with_reducible refine stopLoad 36 rfl ?_))
   refine load_at 36 b (off + k * 11) 11 cs _ HC.out HY.out.2.2.1 rfl rfl rfl Try.underlying36 rfl infoItB8 ?_
   go_wp2_with (first | go_skip | (with_reducible refine stopStore 36 rfl ?_))
   refine store_fresh 36 wr.heap.size rfl #[.int .i64 0, .int .i64 0, .int .i64 0, .int .i64 0, .int .i64 0, .int .i64 0, .int .i64 0, .int .i64 0, .slice none 0 0, .slice none 0 0, .slice none 0 0] cs 36 rfl rfl rfl rfl (by rw [HY.out.2.2.1]; exact infoItB8) (by rw [HY.out.2.2.1]; rfl) HY.out.2.2.2.2 ?_
   intro w2 hg2 hb2
   have HR2 : Hid (Below w.heap.size w w2 ∧ Blk w2 wr.heap.size cs 36) := ⟨Below.next HR.out.1 hb2, hg2⟩
   obtain ⟨X, hX⟩ : ∃ X, X = wr.heap.size := ⟨_, rfl⟩
   rw [← hX] at HR2 ⊢
   have HN : Hid (∀ j y, j < k → xs[j]? = some y → y.ok = true ∧ y.seq = (j : Int) + 1) := HR.out.2
   clear hg2 hb2 HR HC hX
   have cq : w2.cell? ⟨X, 0, none⟩ = some (.int .i64 y.seq) := by
    rw [HR2.out.2.cell 0]
    exact RdIt.first HY.out.2.2.2.1
   by_cases hq : y.seq = (k : Int) + 1
   ·
    have hqb : (y.seq != (k : Int) + 1) = false := by simpa using hq
    have HQ : Hid (y.seq = (k : Int) + 1) := hq
    clear hq
    go_wp2_with (first | go_skip | (with_reducible refine stopLoad 36 rfl ?_))
    refine load_knownw8 36 X cs 36 _ HR2.out.2 rfl rfl rfl Try.underlying36 rfl (by rw [HY.out.2.2.1]; exact infoItB8) ?_
    go_wp2_with fail
    refine (itemOkImpl_any _ y Fi _ (HY.out.2.2.2.1.below HR2.out.1) HY.out.2.1).mono ?_
    rintro e w4 ⟨rfl, hb4⟩
    have HR4 : Hid (Below w.heap.size w w4) := Below.next HR2.out.1 hb4
    obtain ⟨d, hd⟩ : ∃ d, d = y.ok := ⟨_, rfl⟩
    rw [← hd]
    have HD : Hid (d = y.ok) := hd
    clear hd hb4 cq
    cases d
    ·
     have HV : Hid (itsOk xs = false) := itsOk_not HY.out.1 (.inl HD.out.symm)
     go_wp2
     go_ret
     exact ⟨ret_bool HV.out.symm, HR4.out⟩
    have HN2 : Hid (∀ j z, j < k + 1 → xs[j]? = some z → z.ok = true ∧ z.seq = (j : Int) + 1) := fun j z hj hz => by
     by_cases e : j = k
     ·
      subst e
      rw [HY.out.1] at hz
      cases hz
      exact ⟨HD.out.symm, HQ.out⟩
     ·
      exact HN.out j z (by omega) hz
    clear HN
    go_wp2
    go_roundw
    case rel => exact ⟨k + 1, by omega, by go_num, HR4.out, HN2.out⟩
    case measure => simp [intOf]; omega
   ·
    have hqb : (y.seq != (k : Int) + 1) = true := by simpa using hq
    have HV : Hid (itsOk xs = false) := itsOk_not HY.out.1 (.inr hq)
    clear hq
    go_wp2
    go_ret
    exact ⟨ret_bool HV.out.symm, HR2.out.1⟩
  ·
   obtain rfl : k = len := by omega
   have HV : Hid (itsOk xs = true) := itsOk_all (fun j y hy => HR.out.2 j y (by have := (List.getElem?_eq_some_iff.1 hy).1; have := HL.out.2.2; omega) hy)
   have hI : ¬ (k : Int) < (k : Int) := by omega
   go_wp2
   go_ret
   exact ⟨ret_bool HV.out.symm, HR.out.1⟩
theorem itsOk_len {xs : List It} (h : itsOk xs = true) : xs.length ≤ 60 := by
 by_cases h0 : xs.length = 0
 ·
  omega
 ·
  have hk : xs.length - 1 < xs.length := by omega
  have q := itsOk_at h (List.getElem?_eq_getElem hk)
  have e := q.1
  unfold It.ok at e
  simp only [Bool.and_eq_true, decide_eq_true_eq] at e
  have := q.2
  omega
theorem Ag.ok_prog (x : Ag) : x.ok = (decide (0 ≤ x.id ∧ x.id ≤ 2) && decide (0 ≤ x.epoch ∧ x.epoch ≤ 1000) && decide (0 ≤ x.granted ∧ x.granted ≤ 60) && decide (0 ≤ x.next ∧ x.next ≤ 60) && (x.live || decide (x.granted ≤ 0)) && (itsOk x.sealed && (x.taken.ok && x.taken.under x.sealed.length))) := by
 unfold Ag.ok
 cases h : itsOk x.sealed
 ·
  simp
 ·
  rw [decide_eq_true (itsOk_len h)]
  generalize decide (0 ≤ x.id ∧ x.id ≤ 2) = p1
  generalize decide (0 ≤ x.epoch ∧ x.epoch ≤ 1000) = p2
  generalize decide (0 ≤ x.granted ∧ x.granted ≤ 60) = p3
  generalize decide (0 ≤ x.next ∧ x.next ≤ 60) = p4
  generalize (x.live || decide (x.granted ≤ 0)) = p5
  generalize (x.taken.ok && x.taken.under x.sealed.length) = p6
  revert p1 p2 p3 p4 p5 p6
  decide
set_option maxRecDepth 200000 in
set_option maxHeartbeats 4000000 in
theorem agentOkImpl_any (v : Value) (x : Ag) (F G : List Nat) (w : World) (h : RdAg w v x F G) (hw : ∀ y ∈ x.sealed, y.sk.wide) (hs : x.sealed.length ≤ 2097152) (hl : x.taken.length ≤ 2097152) :
 Calls Try.prog 19 #[v] w fun e w' => e = .returned (.bool x.ok) ∧ Below w.heap.size w w' := by
 obtain ⟨a1, n1, c1, a2, n2, c2, rfl, hL, hP, _, _⟩ := h
 have HL : Hid (RdL itK w a1 n1 x.sealed F ∧ (∀ y ∈ x.sealed, y.sk.wide) ∧ x.sealed.length = n1) := ⟨hL, hw, hL.length⟩
 have HP : Hid (RdP w a2 n2 x.taken G ∧ n2 ≤ 2097152) := ⟨hP, by rw [← hP.length]; exact hl⟩
 have hn1 : n1 ≤ 2097152 := by rw [← hL.length]; exact hs
 have HOK : Hid (x.ok = (decide (0 ≤ x.id ∧ x.id ≤ 2) && decide (0 ≤ x.epoch ∧ x.epoch ≤ 1000) && decide (0 ≤ x.granted ∧ x.granted ≤ 60) && decide (0 ≤ x.next ∧ x.next ≤ 60) && (x.live || decide (x.granted ≤ 0)) && (itsOk x.sealed && (x.taken.ok && x.taken.under n1)))) := by
  show _ = _
  rw [← hL.length]
  exact x.ok_prog
 obtain ⟨lx, hlx⟩ : ∃ b, b = x.live := ⟨_, rfl⟩
 rw [← hlx] at HOK ⊢
 have HB : Hid (Below w.heap.size w (w.alloc (.cells #[.int .i64 x.id, .int .i64 x.epoch, .bool lx, .int .i64 x.granted, .slice a1 n1 c1, .slice a2 n2 c2, .int .i64 x.next] 27)) ∧ Blk (w.alloc (.cells #[.int .i64 x.id, .int .i64 x.epoch, .bool lx, .int .i64 x.granted, .slice a1 n1 c1, .slice a2 n2 c2, .int .i64 x.next] 27)) w.heap.size #[.int .i64 x.id, .int .i64 x.epoch, .bool lx, .int .i64 x.granted, .slice a1 n1 c1, .slice a2 n2 c2, .int .i64 x.next] 27) := ⟨Below.allocW _ (Below.refl _ _) (Nat.le_refl _), Blk.made _ _ _⟩
 clear hL hP hw hs hl hlx
 go_enter Try.func19, Try.ntmps19
 go_wp2_with fail
 refine (inRange_any _ _ _).mono ?_
 rintro e w2 ⟨rfl, hw2⟩
 have hw2' := hw2.symm
 subst hw2'
 clear hw2
 obtain ⟨d1, hd1⟩ : ∃ d, d = decide (0 ≤ x.id ∧ x.id ≤ 2) := ⟨_, rfl⟩
 rw [← hd1]
 rw [← hd1] at HOK
 clear hd1
 cases d1
 ·
  have HV : Hid (x.ok = false) := by show _ = _; rw [HOK.out]; rfl
  go_wp2
  go_ret
  exact ⟨ret_bool HV.out.symm, HB.out.1⟩
 go_wp2_with fail
 refine (inRange_any _ _ _).mono ?_
 rintro e w2 ⟨rfl, hw2⟩
 have hw2' := hw2.symm
 subst hw2'
 clear hw2
 obtain ⟨d2, hd2⟩ : ∃ d, d = decide (0 ≤ x.epoch ∧ x.epoch ≤ 1000) := ⟨_, rfl⟩
 rw [← hd2]
 rw [← hd2] at HOK
 clear hd2
 cases d2
 ·
  have HV : Hid (x.ok = false) := by show _ = _; rw [HOK.out]; rfl
  go_wp2
  go_ret
  exact ⟨ret_bool HV.out.symm, HB.out.1⟩
 go_wp2_with fail
 refine (inRange_any _ _ _).mono ?_
 rintro e w2 ⟨rfl, hw2⟩
 have hw2' := hw2.symm
 subst hw2'
 clear hw2
 obtain ⟨d3, hd3⟩ : ∃ d, d = decide (0 ≤ x.granted ∧ x.granted ≤ 60) := ⟨_, rfl⟩
 rw [← hd3]
 rw [← hd3] at HOK
 clear hd3
 cases d3
 ·
  have HV : Hid (x.ok = false) := by show _ = _; rw [HOK.out]; rfl
  go_wp2
  go_ret
  exact ⟨ret_bool HV.out.symm, HB.out.1⟩
 go_wp2_with fail
 refine (inRange_any _ _ _).mono ?_
 rintro e w2 ⟨rfl, hw2⟩
 have hw2' := hw2.symm
 subst hw2'
 clear hw2
 obtain ⟨d4, hd4⟩ : ∃ d, d = decide (0 ≤ x.next ∧ x.next ≤ 60) := ⟨_, rfl⟩
 rw [← hd4]
 rw [← hd4] at HOK
 clear hd4
 cases d4
 ·
  have HV : Hid (x.ok = false) := by show _ = _; rw [HOK.out]; rfl
  go_wp2
  go_ret
  exact ⟨ret_bool HV.out.symm, HB.out.1⟩
 have HLIVE : Hid ((lx || decide (x.granted ≤ 0)) = true → x.ok = (itsOk x.sealed && (x.taken.ok && x.taken.under n1))) := fun e => by rw [HOK.out, e]; rfl
 have HDEAD : Hid ((lx || decide (x.granted ≤ 0)) = false → x.ok = false) := fun e => by rw [HOK.out, e]; rfl
 clear HOK
 cases lx
 ·
  by_cases hg : 0 < x.granted
  ·
   have hgd : decide (0 < x.granted) = true := dec_true hg
   have HV : Hid (x.ok = false) := HDEAD.out (by rw [decide_eq_false (by omega : ¬ x.granted ≤ 0)]; rfl)
   go_wp2
   go_ret
   exact ⟨ret_bool HV.out.symm, HB.out.1⟩
  have hgd : decide (0 < x.granted) = false := dec_false hg
  have HOKF : Hid (x.ok = (itsOk x.sealed && (x.taken.ok && x.taken.under n1))) := HLIVE.out (by rw [decide_eq_true (by omega : x.granted ≤ 0)]; rfl)
  clear HLIVE HDEAD
  go_wp2_with fail
  refine (areInPlace_any a1 n1 c1 x.sealed F _ (HL.out.1.below HB.out.1) HL.out.2.1 hn1).mono ?_
  rintro e w3 ⟨rfl, hb3⟩
  have HB3 : Hid (Below w.heap.size w w3 ∧ Blk w3 w.heap.size #[.int .i64 x.id, .int .i64 x.epoch, .bool false, .int .i64 x.granted, .slice a1 n1 c1, .slice a2 n2 c2, .int .i64 x.next] 27) := ⟨Below.next HB.out.1 hb3, HB.out.2.below hb3⟩
  have c4' := HB3.out.2.cell 4
  have c5' := HB3.out.2.cell 5
  simp only [aT, aS, aZ] at c4' c5'
  obtain ⟨d5, hd5⟩ : ∃ d, d = itsOk x.sealed := ⟨_, rfl⟩
  rw [← hd5]
  rw [← hd5] at HOKF
  clear hd5 hb3 HB
  cases d5
  ·
   have HV : Hid (x.ok = false) := by show _ = _; rw [HOKF.out]; rfl
   go_wp2
   go_ret
   exact ⟨ret_bool HV.out.symm, HB3.out.1⟩
  go_wp2_with fail
  refine (areSeqs_any a2 n2 c2 n1 x.taken G _ (HP.out.1.below HB3.out.1) HP.out.2).mono ?_
  rintro e w4 ⟨rfl, hb4⟩
  have HB4 : Hid (Below w.heap.size w w4) := Below.next HB3.out.1 hb4
  obtain ⟨d6, hd6⟩ : ∃ d, d = (x.taken.ok && x.taken.under n1) := ⟨_, rfl⟩
  rw [← hd6]
  rw [← hd6] at HOKF
  have HV : Hid (x.ok = d6) := by show _ = _; rw [HOKF.out]; rfl
  clear hd6 hb4 c4' c5'
  go_wp2
  go_ret
  exact ⟨ret_bool HV.out.symm, HB4.out⟩
 ·
  have HOKF : Hid (x.ok = (itsOk x.sealed && (x.taken.ok && x.taken.under n1))) := HLIVE.out rfl
  clear HLIVE HDEAD
  go_wp2_with fail
  refine (areInPlace_any a1 n1 c1 x.sealed F _ (HL.out.1.below HB.out.1) HL.out.2.1 hn1).mono ?_
  rintro e w3 ⟨rfl, hb3⟩
  have HB3 : Hid (Below w.heap.size w w3 ∧ Blk w3 w.heap.size #[.int .i64 x.id, .int .i64 x.epoch, .bool true, .int .i64 x.granted, .slice a1 n1 c1, .slice a2 n2 c2, .int .i64 x.next] 27) := ⟨Below.next HB.out.1 hb3, HB.out.2.below hb3⟩
  have c4' := HB3.out.2.cell 4
  have c5' := HB3.out.2.cell 5
  simp only [aT, aS, aZ] at c4' c5'
  obtain ⟨d5, hd5⟩ : ∃ d, d = itsOk x.sealed := ⟨_, rfl⟩
  rw [← hd5]
  rw [← hd5] at HOKF
  clear hd5 hb3 HB
  cases d5
  ·
   have HV : Hid (x.ok = false) := by show _ = _; rw [HOKF.out]; rfl
   go_wp2
   go_ret
   exact ⟨ret_bool HV.out.symm, HB3.out.1⟩
  go_wp2_with fail
  refine (areSeqs_any a2 n2 c2 n1 x.taken G _ (HP.out.1.below HB3.out.1) HP.out.2).mono ?_
  rintro e w4 ⟨rfl, hb4⟩
  have HB4 : Hid (Below w.heap.size w w4) := Below.next HB3.out.1 hb4
  obtain ⟨d6, hd6⟩ : ∃ d, d = (x.taken.ok && x.taken.under n1) := ⟨_, rfl⟩
  rw [← hd6]
  rw [← hd6] at HOKF
  have HV : Hid (x.ok = d6) := by show _ = _; rw [HOKF.out]; rfl
  clear hd6 hb4 c4' c5'
  go_wp2
  go_ret
  exact ⟨ret_bool HV.out.symm, HB4.out⟩
end Go.Proofs.Ytgkbhhlkaifnoaa
/- The walk through the program's copying of a summary. No statement of the seat is proved here. -/
namespace Go.Proofs.Ytgkbhhlkaifnoaa
open Go.RowKit
/-- In the midst of a copying: k rows are done. -/
structure CpSt (w : World) (A B : Array Value) (s : Sk) (a1 a2 : Option Addr) (n1 n2 : Nat) (F1 F2 : List Nat) (lo k : Nat) (v : Value) (vs : List Value) (G : List Nat) (W : World) : Prop where
 box : Blk W w.heap.size A 34
 res : Blk W (w.heap.size + 1) B 34
 bel : Below w.heap.size w W
 r1 : RdI W a1 n1 s.hist F1
 r2 : RdI W a2 n2 s.regs F2
 own : Own (w.heap.size + 2) W (F1 ++ F2)
 lt : ∀ b ∈ F1 ++ F2, b < lo
 row : W.ownsRow lo 29 1 v k vs
 rd : RdS W ((s.rows.take k).map ints) vs G
 og : Own lo W G
 ap : ∀ b, v.ownBlock = some b → b ∉ G
 big : w.heap.size + 2 ≤ lo
 lw : lo ≤ W.heap.size
section
variable {w W W' : World} {A B : Array Value} {s : Sk} {a1 a2 : Option Addr} {n1 n2 : Nat} {F1 F2 : List Nat} {lo k : Nat} {v : Value} {vs : List Value} {G : List Nat}
theorem CpSt.below (h : CpSt w A B s a1 a2 n1 n2 F1 F2 lo k v vs G W) (b : Below W.heap.size W W') : CpSt w A B s a1 a2 n1 n2 F1 F2 lo k v vs G W' :=
 ⟨h.box.below b, h.res.below b, Below.next h.bel b, h.r1.below b, h.r2.below b, h.own.below (fun x hx => (List.mem_append.1 hx).elim (h.r1.lt x) (h.r2.lt x)) b, h.lt, ownsRow_below h.row b, h.rd.below b, h.og.below h.rd.lt b, h.ap, h.big, Nat.le_trans h.lw b.size⟩
theorem CpSt.step (h : CpSt w A B s a1 a2 n1 n2 F1 F2 lo k v vs G W) {nk cp3 g4 cp4 L : Nat} {a' : Option Addr} {Fk : List Nat} (rk : RdI W a' nk (s.rows.getD k []) Fk) (ok : Own L W Fk) (ltG : ∀ b ∈ G, b < L) (ltv : ∀ b, v.ownBlock = some b → b < L) (hL : lo ≤ L)
 (hown : W'.ownsRow lo 29 1 (.slice (some ⟨g4, 0, none⟩) (k + 1) cp4) (k + 1) (vs ++ [.slice a' nk cp3])) (hgrow : W.grownBy W' v.ownBlock) (hat : v.ownBlock = some g4 ∨ g4 = W.heap.size) (hk : k < s.rows.length) :
 CpSt w A B s a1 a2 n1 n2 F1 F2 lo (k + 1) (.slice (some ⟨g4, 0, none⟩) (k + 1) cp4) (vs ++ [.slice a' nk cp3]) (G ++ Fk) W' := by
 have big := h.big
 have blk : ∀ b, b < W.heap.size → ¬ v.ownBlock = some b → W'.heap[b]? = W.heap[b]? := fun b hb hn => hgrow.block b hb (fun e => hn e.symm)
 have vge : ∀ b, v.ownBlock = some b → lo ≤ b := fun b hb => (h.row.lt b hb).1
 have bx := h.box.agree (blk _ h.box.lt (fun e => by have := vge _ e; omega))
 have rs := h.res.agree (blk _ h.res.lt (fun e => by have := vge _ e; omega))
 have bel : Below w.heap.size w W' := h.bel.grown hgrow h.bel.size (fun b hb => by have := vge b hb; omega)
 have agF : Agree W W' (F1 ++ F2) := fun b hb => blk b ((List.mem_append.1 hb).elim (h.r1.lt b) (h.r2.lt b)) (fun e => by have := vge _ e; have := h.lt b hb; omega)
 have agG : Agree W W' (G ++ Fk) := fun b hb => blk b ((List.mem_append.1 hb).elim (h.rd.lt b) (rk.lt b)) (fun e => (List.mem_append.1 hb).elim (h.ap b e) (fun hf => by have := ok.ge b hf; have := ltv b e; omega))
 refine ⟨bx, rs, bel, h.r1.agree agF.left, h.r2.agree agF.right, h.own.agree agF, h.lt, hown, ?_, ?_, ?_, h.big, ?_⟩
 ·
  rw [take_snoc s.rows [] k hk, List.map_append]
  exact (h.rd.agree agG.left).snoc (rd_ints.2 ⟨_, _, _, rfl, rk.agree agG.right⟩)
 ·
  exact (h.og.agree agG.left).join (ok.agree agG.right) ltG hL
 ·
  intro b hb hx
  have hb' : b = g4 := by simpa [Value.ownBlock] using hb.symm
  subst hb'
  rcases hat with e | e
  ·
   rcases List.mem_append.1 hx with hx | hx
   ·
    exact h.ap _ e hx
   ·
    have := ok.ge _ hx; have := ltv _ e; omega
  ·
   rcases List.mem_append.1 hx with hx | hx
   ·
    have := h.rd.lt _ hx; omega
   ·
    have := rk.lt _ hx; omega
 ·
  have := hgrow.size; have := h.lw; omega
theorem CpSt.rows (h : CpSt w A B s a1 a2 n1 n2 F1 F2 lo k v vs G W) : ∃ a c F, v = .slice a k c ∧ RdII W a k (s.rows.take k) F ∧ Own (w.heap.size + 2) W (F1 ++ (F2 ++ F)) := by
 have big := h.big
 rcases h.row.2 with ⟨e, e'⟩ | ⟨g, cap, cur, e, e2, e3, e4⟩
 ·
  subst e'
  exact ⟨none, 0, [], e, ⟨by simp, .inl ⟨rfl, rfl⟩⟩, by simpa using h.own⟩
 ·
  subst e
  have hl : vs.length = k := by simpa using h.row.1
  have hlen := h.rd.length
  by_cases h0 : k = 0
  ·
   subst h0
   exact ⟨_, cap, [], rfl, ⟨by simp, .inl ⟨rfl, rfl⟩⟩, by simpa using h.own⟩
  ·
   have hm : RdM W ((s.rows.take k).map ints) g 0 G := rdM_of_own 0 h.rd (fun i hi => by rw [Nat.zero_add]; exact h.row.cellAt i (by omega))
   have hg : lo ≤ g := (h.row.lt g rfl).1
   have hgG : g ∉ G := h.ap g rfl
   have og : Own lo W (g :: G) := ⟨List.nodup_cons.2 ⟨hgG, h.og.nodup⟩, fun b hb o => (List.mem_cons.1 hb).elim (fun e => by subst e; exact h.row.frozenAt o) (fun hb => h.og.free b hb o), fun b hb => (List.mem_cons.1 hb).elim (fun e => by omega) (h.og.ge b)⟩
   refine ⟨_, cap, g :: G, rfl, ⟨by rw [List.length_map] at hlen; omega, .inr ⟨g, 0, G, by omega, rfl, rfl, hm⟩⟩, ?_⟩
   rw [← List.append_assoc]
   exact h.own.join og h.lt h.big
end
set_option maxRecDepth 200000 in
set_option maxHeartbeats 400000 in
theorem copiedList_all (a : Option Addr) (len cap : Nat) (zs : List Int) (F : List Nat) (w : World) (h : RdI w a len zs F) (hlen : len ≤ 1048576) :
 Calls Try.prog 93 #[.slice a len cap] w fun e w' => NewI w zs e w' := by
 obtain ⟨i0, hi, hz0, hz1, hz2⟩ := info_parts infoInt
 have HR : Hid (RdI w a len zs F) := h
 clear h
 go_enter Try.func93, Try.ntmps93
 go_wp2_with (with_reducible refine stopAppend rfl ?_)
 refine Stop.intro (wpList_step fun K hK => op_growsI _ _ 29 rfl rfl 3 i0 Try.underlying29 hi hz0 hz1 hz2 none rfl a len cap zs F rfl HR.out hlen ?_)
 intro a' c' F' w' r o b _
 have HN : Hid (RdI w' a' len zs F' ∧ Own w.heap.size w' F' ∧ Below w.heap.size w w') := ⟨r, o, b⟩
 refine ⟨_, by simp [Act.put]; rfl, hK _ _ ?_⟩
 clear hK r o b
 go_wp2
 go_ret
 exact ⟨a', len, c', F', rfl, HN.out.1, HN.out.2.1, HN.out.2.2⟩
set_option maxRecDepth 200000 in
set_option maxHeartbeats 8000000 in
theorem copiedSketch_all (v : Value) (s : Sk) (F : List Nat) (w : World) (h : RdSk w v s F) (hf : s.fits) :
 Calls Try.prog 56 #[v] w fun e w' => NewSk w s e w' := by
 obtain ⟨j0, hj, hy0, hy1, hy2⟩ := info_parts infoInts
 obtain ⟨a1, n1, c1, a2, n2, c2, a3, n3, c3, F1, F2, F3, rfl, h1, h2, h3, _⟩ := h
 have hn1 : n1 ≤ 1048576 := by rw [← h1.length]; exact hf.hist
 have hn2 : n2 ≤ 1048576 := by rw [← h2.length]; exact hf.regs
 have hn3 : n3 ≤ 1048576 := by rw [← h3.length]; exact hf.rows
 have HL : Hid (s.rows.length = n3 ∧ ∀ z ∈ s.rows, z.length ≤ 1048576) := ⟨h3.length, fun z hz => hf.row z hz⟩
 have HR : Hid (RdI w a1 n1 s.hist F1 ∧ RdI w a2 n2 s.regs F2 ∧ RdII w a3 n3 s.rows F3) := ⟨h1, h2, h3⟩
 have HT : Hid (_ ∧ _ ∧ _) := two_made w #[.int .i64 s.count, .int .i64 s.sum, .int .i64 s.min, .int .i64 s.max, .slice a1 n1 c1, .slice a2 n2 c2, .slice a3 n3 c3] #[.int .i64 0, .int .i64 0, .int .i64 0, .int .i64 0, .slice none 0 0, .slice none 0 0, .slice none 0 0] 34 34
 clear h1 h2 h3 hf
 go_enter Try.func56, Try.ntmps56
 go_wp2_with fail
 refine (copiedList_all a1 n1 c1 s.hist F1 _ (HR.out.1.below HT.out.2.2) hn1).mono ?_
 rintro e w1 ⟨b1, m1, d1, G1, rfl, r1, o1, B1⟩
 obtain rfl : n1 = m1 := by rw [← r1.length]; exact HR.out.1.length.symm
 have HS1 : Hid (Blk w1 w.heap.size #[.int .i64 s.count, .int .i64 s.sum, .int .i64 s.min, .int .i64 s.max, .slice a1 n1 c1, .slice a2 n2 c2, .slice a3 n3 c3] 34 ∧ Blk w1 (w.heap.size + 1) #[.int .i64 0, .int .i64 0, .int .i64 0, .int .i64 0, .slice none 0 0, .slice none 0 0, .slice none 0 0] 34 ∧ Below w.heap.size w w1) := ⟨HT.out.1.below B1, HT.out.2.1.below B1, Below.next HT.out.2.2 B1⟩
 have ge1 := HT.out.2.1.lt
 have HQ1 : Hid (RdI w1 b1 n1 s.hist G1 ∧ Own (w.heap.size + 2) w1 G1) := ⟨r1, o1.mono ge1⟩
 have c14 := HS1.out.1.cell 4
 have f14 := HS1.out.1.frozen 4
 have c15 := HS1.out.1.cell 5
 simp only [aT, aS, aZ] at c14 c15
 clear r1 o1 B1 HT ge1
 go_wp2_with fail
 obtain ⟨W2, hW2⟩ : ∃ W2, W2 = w1.setCell ⟨w.heap.size, 4, none⟩ (.slice b1 n1 d1) := ⟨_, rfl⟩
 have nn1 : w.heap.size ∉ G1 := fun hx => by have := HQ1.out.2.ge _ hx; omega
 have HS2 : Hid (Blk W2 w.heap.size #[.int .i64 s.count, .int .i64 s.sum, .int .i64 s.min, .int .i64 s.max, .slice b1 n1 d1, .slice a2 n2 c2, .slice a3 n3 c3] 34 ∧ Blk W2 (w.heap.size + 1) #[.int .i64 0, .int .i64 0, .int .i64 0, .int .i64 0, .slice none 0 0, .slice none 0 0, .slice none 0 0] 34 ∧ Below w.heap.size w W2) := by
  rw [hW2]
  exact ⟨HS1.out.1.set 4 _, HS1.out.2.1.setOther (by omega) 4 _, HS1.out.2.2.setCell (by show w.heap.size ≤ w.heap.size; omega) _⟩
 have HQ2 : Hid (RdI W2 b1 n1 s.hist G1 ∧ Own (w.heap.size + 2) W2 G1) := by
  rw [hW2]
  exact ⟨HQ1.out.1.agree (.set nn1 4 _), HQ1.out.2.agree (.set nn1 4 _)⟩
 rw [← hW2]
 clear hW2 nn1 c14 f14 c15 HS1 HQ1
 refine (copiedList_all a2 n2 c2 s.regs F2 _ (HR.out.2.1.below HS2.out.2.2) hn2).mono ?_
 rintro e w3 ⟨b2, m2, d2, G2, rfl, r2, o2, B3⟩
 obtain rfl : n2 = m2 := by rw [← r2.length]; exact HR.out.2.1.length.symm
 have HS3 : Hid (Blk w3 w.heap.size #[.int .i64 s.count, .int .i64 s.sum, .int .i64 s.min, .int .i64 s.max, .slice b1 n1 d1, .slice a2 n2 c2, .slice a3 n3 c3] 34 ∧ Blk w3 (w.heap.size + 1) #[.int .i64 0, .int .i64 0, .int .i64 0, .int .i64 0, .slice none 0 0, .slice none 0 0, .slice none 0 0] 34 ∧ Below w.heap.size w w3) := ⟨HS2.out.1.below B3, HS2.out.2.1.below B3, Below.next HS2.out.2.2 B3⟩
 have HQ3 : Hid (RdI w3 b1 n1 s.hist G1 ∧ RdI w3 b2 n2 s.regs G2 ∧ Own (w.heap.size + 2) w3 (G1 ++ G2)) := ⟨HQ2.out.1.below B3, r2, (HQ2.out.2.below HQ2.out.1.lt B3).join o2 HQ2.out.1.lt (by have := HS2.out.2.1.lt; omega)⟩
 have c15 := HS3.out.1.cell 5
 have f15 := HS3.out.1.frozen 5
 have c16 := HS3.out.1.cell 6
 simp only [aT, aS, aZ] at c15 c16
 clear r2 o2 B3 HS2 HQ2
 go_wp2
 obtain ⟨W4, hW4⟩ : ∃ W4, W4 = w3.setCell ⟨w.heap.size, 5, none⟩ (.slice b2 n2 d2) := ⟨_, rfl⟩
 have nn2 : w.heap.size ∉ G1 ++ G2 := fun hx => by have := HQ3.out.2.2.ge _ hx; omega
 have HC0 : Hid (CpSt w #[.int .i64 s.count, .int .i64 s.sum, .int .i64 s.min, .int .i64 s.max, .slice b1 n1 d1, .slice b2 n2 d2, .slice a3 n3 c3] #[.int .i64 0, .int .i64 0, .int .i64 0, .int .i64 0, .slice none 0 0, .slice none 0 0, .slice none 0 0] s b1 b2 n1 n2 G1 G2 W4.heap.size 0 (.slice none 0 0) [] [] W4) := by
  rw [hW4]
  have ag : Agree w3 (w3.setCell ⟨w.heap.size, 5, none⟩ (.slice b2 n2 d2)) (G1 ++ G2) := .set nn2 5 _
  exact ⟨HS3.out.1.set 5 _, HS3.out.2.1.setOther (by omega) 5 _, HS3.out.2.2.setCell (by show w.heap.size ≤ w.heap.size; omega) _, HQ3.out.1.agree ag.left, HQ3.out.2.1.agree ag.right, HQ3.out.2.2.agree ag, fun b hb => by have := (List.mem_append.1 hb).elim (HQ3.out.1.lt b) (HQ3.out.2.1.lt b); simpa using this, ⟨rfl, .inl ⟨rfl, rfl⟩⟩, by simp [RdS], Own.nil, fun b hb => (by cases hb), by have := HS3.out.2.1.lt; have e : (w3.setCell ⟨w.heap.size, 5, none⟩ (.slice b2 n2 d2)).heap.size = w3.heap.size := (by simp); omega, Nat.le_refl _⟩
 rw [← hW4]
 have HM : Hid (∀ W k, Below w.heap.size w W → k < n3 → ∃ pp qq ak nk ck Yk, a3 = some ⟨pp, qq, none⟩ ∧ W.cell? ⟨pp, qq + k, none⟩ = some (.slice ak nk ck) ∧ RdI W ak nk (s.rows.getD k []) Yk ∧ nk ≤ 1048576) := fun W k hb hk => by
  rcases HR.out.2.2.cells with ⟨h0, _⟩ | ⟨pp, qq, F', _, e, _, hm⟩
  ·
   omega
  obtain ⟨ak, nk, ck, Yk, hck, hrk, _⟩ := RdII.row hm HL.out.1 k hk
  have h4 : nk ≤ 1048576 := by rw [← hrk.length]; exact HL.out.2 _ (mem_getD (d := []) (by rw [HL.out.1]; exact hk))
  exact ⟨pp, qq, ak, nk, ck, Yk, e, (hb.cell (World.block_lt_of_cell? _ _ hck)).trans hck, hrk.below hb, h4⟩
 clear hW4 nn2 c15 f15 c16 HS3 HQ3 HR
 go_loopw [3, 17] (fun q i wr => ∃ (k : Nat) (v : Value) (vs : List Value) (GG : List Nat), k ≤ n3 ∧ i = .int .i64 k ∧ v = q ∧ Hid (CpSt w #[.int .i64 s.count, .int .i64 s.sum, .int .i64 s.min, .int .i64 s.max, .slice b1 n1 d1, .slice b2 n2 d2, .slice a3 n3 c3] #[.int .i64 0, .int .i64 0, .int .i64 0, .int .i64 0, .slice none 0 0, .slice none 0 0, .slice none 0 0] s b1 b2 n1 n2 G1 G2 W4.heap.size k v vs GG wr)) (fun _ i _ => n3 - (intOf i).toNat)
 case atStart => exact ⟨0, _, [], [], by omega, rfl, rfl, HC0⟩
 case round =>
  clear HC0
  obtain ⟨k, v, vs, GG, hk, rfl, rfl, CSS⟩ := hrel
  by_cases hlt : k < n3
  ·
   have hI : (k : Int) < (n3 : Int) := by omega
   obtain ⟨pp, qq, ak0, nk0, ck, Yk, rfl, hck, hrk, hnk⟩ := HM.out wr k CSS.out.bel hlt
   have HQ : Hid (RdI wr ak0 nk0 (s.rows.getD k []) Yk) := hrk
   clear hrk
   go_wp2_with fail
   refine (copiedList_all ak0 nk0 ck (s.rows.getD k []) Yk _ HQ.out hnk).mono ?_
   rintro e w5 ⟨ak, nk, dk, Fk, rfl, rk, ok, Bk⟩
   have CS5 : Hid (CpSt w #[.int .i64 s.count, .int .i64 s.sum, .int .i64 s.min, .int .i64 s.max, .slice b1 n1 d1, .slice b2 n2 d2, .slice (some ⟨pp, qq, none⟩) n3 c3] #[.int .i64 0, .int .i64 0, .int .i64 0, .int .i64 0, .slice none 0 0, .slice none 0 0, .slice none 0 0] s b1 b2 n1 n2 G1 G2 W4.heap.size k v vs GG w5) := CSS.out.below Bk
   have HK : Hid (RdI w5 ak nk (s.rows.getD k []) Fk ∧ Own wr.heap.size w5 Fk ∧ (∀ b ∈ GG, b < wr.heap.size) ∧ (∀ b, v.ownBlock = some b → b < wr.heap.size) ∧ W4.heap.size ≤ wr.heap.size) := ⟨rk, ok, CSS.out.rd.lt, fun b hb => (CSS.out.row.lt b hb).2, CSS.out.lw⟩
   clear rk ok Bk hck CSS HQ
   go_wp2_with (with_reducible refine stopAppend rfl ?_)
   obtain ⟨W6, hW6⟩ : ∃ W, W = w5.alloc (.cells #[.slice ak nk dk] 29) := ⟨_, rfl⟩
   have hbn : Below w5.heap.size w5 W6 := by rw [hW6]; exact (Below.refl _ _).alloc (Nat.le_refl _) _
   have HCN : Hid (∀ (j : Nat) (x : Value), [Value.slice ak nk dk][j]? = some x → W6.cell? ((⟨w5.heap.size, 0, none⟩ : Addr).add j) = some x) := by rw [hW6]; exact cell_new1 _ _ _
   have CS6 : Hid (CpSt w #[.int .i64 s.count, .int .i64 s.sum, .int .i64 s.min, .int .i64 s.max, .slice b1 n1 d1, .slice b2 n2 d2, .slice (some ⟨pp, qq, none⟩) n3 c3] #[.int .i64 0, .int .i64 0, .int .i64 0, .int .i64 0, .slice none 0 0, .slice none 0 0, .slice none 0 0] s b1 b2 n1 n2 G1 G2 W4.heap.size k v vs GG W6) := CS5.out.below hbn
   have HK6 : Hid (RdI W6 ak nk (s.rows.getD k []) Fk ∧ Own wr.heap.size W6 Fk) := ⟨HK.out.1.below hbn, HK.out.2.1.below HK.out.1.lt hbn⟩
   rw [← hW6]
   clear hW6 hbn CS5
   refine Stop.intro (wpList_append_lies _ rfl _ _ 32 rfl W4.heap.size 29 j0 (.slice none 0 0) 1 24 Try.underlying32 hj hy0 hy1 hy2 rfl (by decide) v k vs rfl CS6.out.row ⟨w5.heap.size, 0, none⟩ 1 1 [.slice ak nk dk] rfl rfl HCN.out (by simp [Value.oneCell']) (by omega) (by unfold maxLen; omega) (by omega) CS6.out.lw _ rfl ?_)
   intro g4 cp4 W7 hown hgrow hat hlt7
   have CS7 : Hid (CpSt w #[.int .i64 s.count, .int .i64 s.sum, .int .i64 s.min, .int .i64 s.max, .slice b1 n1 d1, .slice b2 n2 d2, .slice (some ⟨pp, qq, none⟩) n3 c3] #[.int .i64 0, .int .i64 0, .int .i64 0, .int .i64 0, .slice none 0 0, .slice none 0 0, .slice none 0 0] s b1 b2 n1 n2 G1 G2 W4.heap.size (k + 1) (.slice (some ⟨g4, 0, none⟩) (k + 1) cp4) (vs ++ [.slice ak nk dk]) (GG ++ Fk) W7) := CS6.out.step HK6.out.1 HK6.out.2 HK.out.2.2.1 HK.out.2.2.2.1 HK.out.2.2.2.2 hown hgrow hat (by rw [HL.out.1]; exact hlt)
   clear hown hgrow hat hlt7 CS6 HK6 HK HCN
   go_wp2
   go_roundw
   case rel => exact ⟨k + 1, _, _, _, by omega, by go_num, rfl, CS7⟩
   case measure => simp [intOf]; omega
  ·
   obtain rfl : k = n3 := by omega
   obtain ⟨ar, cr, FR, rfl, rr, own⟩ := CSS.out.rows
   rw [List.take_of_length_le (by rw [HL.out.1]; omega)] at rr
   have HO : Hid (RdII wr ar k s.rows FR ∧ Own (w.heap.size + 2) wr (G1 ++ (G2 ++ FR))) := ⟨rr, own⟩
   have c16 := CSS.out.box.cell 6
   have f16 := CSS.out.box.frozen 6
   simp only [aT, aS, aZ] at c16
   clear rr own hlt HM
   go_wp2_with (first | go_skip | (with_reducible refine stopLoad 34 rfl ?_))
   obtain ⟨W8, hW8⟩ : ∃ W, W = wr.setCell ⟨w.heap.size, 6, none⟩ (.slice ar k cr) := ⟨_, rfl⟩
   have nG : w.heap.size ∉ G1 ++ (G2 ++ FR) := fun hx => by have := HO.out.2.ge _ hx; omega
   have H8 : Hid (Blk W8 w.heap.size #[.int .i64 s.count, .int .i64 s.sum, .int .i64 s.min, .int .i64 s.max, .slice b1 n1 d1, .slice b2 n2 d2, .slice ar k cr] 34 ∧ Blk W8 (w.heap.size + 1) #[.int .i64 0, .int .i64 0, .int .i64 0, .int .i64 0, .slice none 0 0, .slice none 0 0, .slice none 0 0] 34 ∧ Below w.heap.size w W8) := by
    rw [hW8]
    exact ⟨CSS.out.box.set 6 _, CSS.out.res.setOther (by omega) 6 _, CSS.out.bel.setCell (by show w.heap.size ≤ w.heap.size; omega) _⟩
   have R8 : Hid (RdI W8 b1 n1 s.hist G1 ∧ RdI W8 b2 n2 s.regs G2 ∧ RdII W8 ar k s.rows FR ∧ Own (w.heap.size + 2) W8 (G1 ++ (G2 ++ FR))) := by
    rw [hW8]
    have ag : Agree wr (wr.setCell ⟨w.heap.size, 6, none⟩ (.slice ar k cr)) (G1 ++ (G2 ++ FR)) := .set nG 6 _
    exact ⟨CSS.out.r1.agree ag.left, CSS.out.r2.agree ag.right.left, HO.out.1.agree ag.right.right, HO.out.2.agree ag⟩
   rw [← hW8]
   clear hW8 nG c16 f16 CSS HO
   refine load_known 34 w.heap.size #[.int .i64 s.count, .int .i64 s.sum, .int .i64 s.min, .int .i64 s.max, .slice b1 n1 d1, .slice b2 n2 d2, .slice ar k cr] 34 _ H8.out.1 rfl rfl rfl Try.underlying34 rfl (by kernel_rfl) ?_
   go_wp2_with (first | go_skip | (with_reducible refine stopStore 34 rfl ?_))
   refine store_known 34 (w.heap.size + 1) _ #[.int .i64 s.count, .int .i64 s.sum, .int .i64 s.min, .int .i64 s.max, .slice b1 n1 d1, .slice b2 n2 d2, .slice ar k cr] 34 H8.out.2.1 rfl rfl rfl rfl (by kernel_rfl) rfl (by kernel_rfl) ?_
   go_wp2
   refine bodyPost_ret (results_cell_row Try.results56 _ _ (w.heap.size + 1) _ _ _ _ rfl H8.out.2.1.setRow Try.underlying34 rfl (by kernel_rfl)) rfl ?_
   have nr : w.heap.size + 1 ∉ G1 ++ (G2 ++ FR) := fun hx => by have := R8.out.2.2.2.ge _ hx; omega
   have ag : Agree W8 (W8.setRow (w.heap.size + 1) #[.int .i64 s.count, .int .i64 s.sum, .int .i64 s.min, .int .i64 s.max, .slice b1 n1 d1, .slice b2 n2 d2, .slice ar k cr]) (G1 ++ (G2 ++ FR)) := fun b hb => setRow_other W8 _ b _ (fun e => nr (e ▸ hb))
   exact ⟨_, G1 ++ (G2 ++ FR), rfl, ⟨b1, n1, d1, b2, n2, d2, ar, k, cr, G1, G2, FR, rfl, R8.out.1.agree ag.left, R8.out.2.1.agree ag.right.left, R8.out.2.2.1.agree ag.right.right, rfl⟩, (R8.out.2.2.2.agree ag).mono (by omega), below_setRow H8.out.2.2 (by omega) _⟩
end Go.Proofs.Ytgkbhhlkaifnoaa
/- The walk through the program's laying of spans behind a set that it makes. No statement of the seat is proved here. -/
namespace Go.Proofs.Ytgkbhhlkaifnoaa
open Go.RowKit
theorem lay1_apart {o : Sp} {x : Int × Int} (h : o = [] ∨ (o.at (o.length - 1)).2 + 1 < x.1) : lay1 o x = o ++ [x] := by unfold lay1; rw [if_pos h]
theorem lay1_widen {o : Sp} {x : Int × Int} (h : ¬ (o = [] ∨ (o.at (o.length - 1)).2 + 1 < x.1)) : lay1 o x = o.take (o.length - 1) ++ [((o.at (o.length - 1)).1, max (o.at (o.length - 1)).2 x.2)] := by unfold lay1; rw [if_neg h]
theorem lay_drop {o xs : Sp} {k : Nat} (hk : k < xs.length) : lay o (xs.drop k) = lay (lay1 o (xs.at k)) (xs.drop (k + 1)) := by rw [drop_at hk]; rfl
theorem lay1_inb {o : Sp} {x : Int × Int} (h : ∀ p ∈ o, InB p) (hx : InB x) : ∀ p ∈ lay1 o x, InB p := by
 intro p hp
 unfold lay1 at hp
 split at hp
 ·
  rcases List.mem_append.1 hp with hp | hp
  ·
   exact h p hp
  ·
   obtain rfl : p = x := by simpa using hp
   exact hx
 ·
  rename_i hc
  rcases List.mem_append.1 hp with hp | hp
  ·
   exact h p (List.mem_of_mem_take hp)
  ·
   have e : p = ((o.at (o.length - 1)).1, max (o.at (o.length - 1)).2 x.2) := by simpa using hp
   have hne : 0 < o.length := List.length_pos_iff.2 (fun e => hc (.inl e))
   have := h _ (Sp.at_mem (ps := o) (k := o.length - 1) (by omega))
   subst e
   unfold InB at this hx ⊢
   simp only
   omega
theorem lay1_length (o : Sp) (x : Int × Int) : (lay1 o x).length ≤ o.length + 1 := by
 unfold lay1
 split
 ·
  simp
 ·
  simp
theorem lay_length : ∀ (xs o : Sp), (lay o xs).length ≤ o.length + xs.length
 | [], o => by simp [lay]
 | x :: xs, o => by
  have h1 := lay_length xs (lay1 o x)
  have h2 := lay1_length o x
  rw [show lay o (x :: xs) = lay (lay1 o x) xs from rfl]
  simp
  omega
theorem lay_inb : ∀ {xs o : Sp}, (∀ p ∈ o, InB p) → (∀ p ∈ xs, InB p) → ∀ p ∈ lay o xs, InB p
 | [], _, h, _ => h
 | x :: xs, o, h, hx => lay_inb (xs := xs) (lay1_inb h (hx x (by simp))) (fun p hp => hx p (by simp [hp]))
theorem flat_widen {o : Sp} {m : Nat} (hm : o.length = m + 1) (z : Int) : flat (o.take m ++ [((o.at m).1, z)]) = (flat o).set (m * 2 + 1) z := by
 have e : o = o.take m ++ [o.at m] := by
  have := takeP_succ o m (by omega)
  rw [List.take_of_length_le (by omega)] at this
  exact this
 have hl : (flat (o.take m)).length = m * 2 := by rw [flat_length]; simp; omega
 conv => rhs; rw [e]
 rw [flat_append, flat_append, List.set_append_right (m * 2 + 1) _ (by omega), hl, show m * 2 + 1 - m * 2 = 1 by omega]
 simp [flat]
/-- The set that is made: what it holds, and that nothing else was written since w. -/
structure LayAt (w : World) (B : Nat) (v0 v : Value) (o : Sp) (W : World) : Prop where
 own : W.ownsRow B 81 2 v o.length ((flat o).map (Value.int .i64))
 grown : w.grownBy W v0.ownBlock
 fresh : v.ownBlock = v0.ownBlock ∨ ∀ g, v.ownBlock = some g → w.heap.size ≤ g
theorem LayAt.alloc {w W : World} {B : Nat} {v0 v : Value} {o : Sp} (h : LayAt w B v0 v o W) (ob : Obj) : LayAt w B v0 v o (W.alloc ob) :=
 ⟨h.own.alloc _, ⟨h.grown.os, h.grown.tape, h.grown.output, by have := h.grown.size; simp; omega, fun k hk hne => (Below.heap_alloc W ob k (by have := h.grown.size; omega)).trans (h.grown.block k hk hne)⟩, h.fresh⟩
theorem LayAt.drewN {w W : World} {B : Nat} {v0 v : Value} {o : Sp} (h : LayAt w B v0 v o W) (m : Nat) : LayAt w B v0 v o (W.drewN m) :=
 ⟨⟨h.own.1, h.own.2⟩, ⟨h.grown.os, h.grown.tape, h.grown.output, h.grown.size, h.grown.block⟩, h.fresh⟩
theorem LayAt.app {w W W6 : World} {B : Nat} {v0 v v' : Value} {o : Sp} {p q : Int} {ob : Obj} (h : LayAt w B v0 v o W) (hown : W6.ownsRow B 81 2 v' (o.length + 1) ((flat o).map (Value.int .i64) ++ [.int .i64 p, .int .i64 q])) (hgrow : (W.alloc ob).grownBy W6 v.ownBlock) (hob : v'.ownBlock = v.ownBlock ∨ v'.ownBlock = some (W.alloc ob).heap.size) : LayAt w B v0 v' (o ++ [(p, q)]) W6 := by
 have ha := h.alloc ob
 refine ⟨?_, ⟨hgrow.os.trans ha.grown.os, hgrow.tape.trans ha.grown.tape, hgrow.output.trans ha.grown.output, Nat.le_trans ha.grown.size hgrow.size, fun k hk hne => ?_⟩, ?_⟩
 ·
  rw [flat_append, List.map_append, List.length_append]
  exact hown
 ·
  refine (hgrow.block k (Nat.lt_of_lt_of_le hk ha.grown.size) (fun e => ?_)).trans (ha.grown.block k hk hne)
  rcases h.fresh with f | f
  ·
   exact hne (e.trans f)
  ·
   have := f k e.symm; omega
 ·
  rcases hob with e | e
  ·
   rw [e]; exact h.fresh
  ·
   right
   intro g hg
   rw [e] at hg
   cases hg
   exact ha.grown.size
theorem LayAt.widen {w W : World} {B g n cap m : Nat} {v0 : Value} {o : Sp} (h : LayAt w B v0 (.slice (some ⟨g, 0, none⟩) n cap) o W) (hm : o.length = m + 1) (z : Int) : LayAt w B v0 (.slice (some ⟨g, 0, none⟩) n cap) (o.take m ++ [((o.at m).1, z)]) (W.setCell ⟨g, m * 2 + 1, none⟩ (.int .i64 z)) := by
 refine ⟨?_, ⟨h.grown.os, h.grown.tape, h.grown.output, by have := h.grown.size; simp; omega, fun k hk hne => ?_⟩, h.fresh⟩
 ·
  have hl : (o.take m ++ [((o.at m).1, z)]).length = o.length := by simp; omega
  rw [hl, flat_widen hm]
  refine ⟨by have := h.own.1; simpa using this, ?_⟩
  rcases h.own.2 with ⟨e, _⟩ | ⟨g', cap', cur, e, h2, h3, h4, h5, h6, h7⟩
  ·
   cases e
  ·
   cases e
   refine .inr ⟨g, cap, cur.setIfInBounds (m * 2 + 1) (.int .i64 z), rfl, h2, ?_, h4, h5, by simpa using h6, ?_⟩
   ·
    exact Blk.set (w := W) (g := g) (cs := cur) h3 (m * 2 + 1) _
   ·
    rw [Array.toList_setIfInBounds, List.take_set, h7]
    simp
 ·
  have hg : k ≠ g := by
   rintro rfl
   rcases h.fresh with f | f
   ·
    exact hne f
   ·
    have := f k rfl; omega
  exact (Below.heap_setCell W ⟨g, m * 2 + 1, none⟩ _ k hg).trans (h.grown.block k hk hne)
theorem LayAt.cells {w W : World} {B g n cap : Nat} {v0 : Value} {o : Sp} (h : LayAt w B v0 (.slice (some ⟨g, 0, none⟩) n cap) o W) {m : Nat} (hm : m < o.length) : W.cell? ⟨g, m * 2, none⟩ = some (.int .i64 (o.at m).1) ∧ W.cell? ⟨g, m * 2 + 1, none⟩ = some (.int .i64 (o.at m).2) ∧ ∀ j, W.frozen? ⟨g, j, none⟩ = false := by
 have hn : o.length = n := by
  rcases h.own.2 with ⟨e, _⟩ | ⟨g', cap', cur, e, _⟩
  ·
   cases e
  ·
   cases e; rfl
 have own := h.own
 rw [hn] at own
 have hl := flat_length o
 have e1 := own.cellAt (m * 2) (by omega)
 have e2 := own.cellAt (m * 2 + 1) (by omega)
 refine ⟨?_, ?_, fun j => own.frozenAt j⟩
 ·
  rw [e1]
  have := flat_lo o m
  rw [show 2 * m = m * 2 by omega, List.getElem?_eq_getElem (by omega)] at this
  simp only [List.getElem?_map, List.getElem?_eq_getElem (show m * 2 < (flat o).length by omega), Option.map_some]
  unfold Sp.at
  rw [← this]; rfl
 ·
  rw [e2]
  have := flat_hi o m
  rw [show 2 * m = m * 2 by omega, List.getElem?_eq_getElem (by omega)] at this
  simp only [List.getElem?_map, List.getElem?_eq_getElem (show m * 2 + 1 < (flat o).length by omega), Option.map_some]
  unfold Sp.at
  rw [← this]; rfl
end Go.Proofs.Ytgkbhhlkaifnoaa
/- The walk through the program's laying of spans behind a set that it makes. No statement of the seat is proved here. -/
namespace Go.Proofs.Ytgkbhhlkaifnoaa
open Go.RowKit
/-- A set of the maker's own: not nil. -/
theorem own_cases {W : World} {B e n : Nat} {v : Value} {xs : List Value} (h : W.ownsRow B e 2 v n xs) : (v = .slice none 0 0 ∧ n = 0) ∨ ∃ g cap n', v = .slice (some ⟨g, 0, none⟩) n' cap ∧ n' = n ∧ n ≤ cap := by
 rcases h.2 with e | ⟨g, cap, cur, e, _, _, h4, _⟩
 ·
  exact .inl e
 ·
  exact .inr ⟨g, cap, n, e, rfl, h4⟩
set_option maxRecDepth 100000 in
set_option maxHeartbeats 8000000 in
theorem laid_any (B : Nat) (v0 : Value) (o0 : Sp) (a : Option Addr) (len cap : Nat) (xs : Sp) (F : List Nat) (w : World) (hown : w.ownsRow B 81 2 v0 o0.length ((flat o0).map (Value.int .i64))) (hB : B ≤ w.heap.size) (h : RdP w a len xs F) (hF : ∀ b ∈ F, some b ≠ v0.ownBlock) (hlen : o0.length + len ≤ 4194304) (ho : ∀ p ∈ o0, InB p) (hx : ∀ p ∈ xs, InB p) :
 Calls Try.prog 117 #[v0, .slice a len cap] w fun e w' => ∃ v, e = .returned v ∧ LayAt w B v0 v (lay o0 xs) w' := by
 obtain ⟨t0, hi, hz0, hz1, hz2⟩ := info_parts infoSpan
 have HL : Hid (xs.length = len) := h.length
 have HIN : Hid (∀ p ∈ xs, InB p) := hx
 have HP0 : Hid (LayAt w B v0 v0 o0 w) := ⟨hown, ⟨rfl, rfl, rfl, Nat.le_refl _, fun _ _ _ => rfl⟩, .inl rfl⟩
 have HI0 : Hid (∀ p ∈ o0, InB p) := ho
 have HC : Hid (len = 0 ∨ ∃ b off, a = some ⟨b, off, none⟩ ∧ (b < w.heap.size ∧ some b ≠ v0.ownBlock) ∧ SpCells w b off len xs) := by
  rcases h.cells with ⟨h0, _⟩ | ⟨b, off, hp, e, hFb, hc⟩
  ·
   exact .inl h0
  ·
   exact .inr ⟨b, off, e, ⟨World.block_lt_of_cell? _ _ (hc 0 hp).1, hF b (by rw [hFb]; simp)⟩, hc⟩
 clear h hown hF ho hx
 go_enter Try.func117, Try.ntmps117
 go_wp2
 go_loopw [0, 10] (fun v i wr => ∃ (k : Nat) (o : Sp), k ≤ len ∧ i = .int .i64 k ∧ o.length ≤ o0.length + k ∧ Hid (LayAt w B v0 v o wr) ∧ Hid (∀ p ∈ o, InB p) ∧ Hid (lay o (xs.drop k) = lay o0 xs)) (fun _ i _ => len - (intOf i).toNat)
 case atStart => exact ⟨0, o0, by omega, rfl, by omega, HP0, HI0, rfl⟩
 case round =>
  clear HP0 HI0
  obtain ⟨k, o, hk, rfl, hol, HP, HI, HN⟩ := hrel
  by_cases hlt : k < len
  ·
   have hca := HC.out
   rcases hca with h0 | ⟨b, off, rfl, hbw, hc⟩
   ·
    omega
   obtain ⟨x, hx⟩ : ∃ x, x = (xs.at k).1 := ⟨_, rfl⟩
   obtain ⟨y, hy⟩ : ∃ x, x = (xs.at k).2 := ⟨_, rfl⟩
   have e := hc k hlt
   have hkl : k < xs.length := by rw [HL.out]; exact hlt
   have hb := HIN.out _ (Sp.at_mem hkl)
   have HXY : Hid (xs.at k = (x, y)) := by rw [hx, hy]; rfl
   rw [HXY.out] at hb e
   have HINX : Hid (InB (x, y)) := hb
   obtain ⟨⟨x0, x1⟩, y0, y1⟩ := hb
   have hblk := HP.out.grown.block b hbw.1 hbw.2
   have d1 : wr.cell? ⟨b, off + k * 2, none⟩ = some (.int .i64 x) := (World.cell?_of_block (w := w) (a := ⟨b, off + k * 2, none⟩) hblk).trans e.1
   have d2 : wr.cell? ⟨b, off + k * 2 + 1, none⟩ = some (.int .i64 y) := (World.cell?_of_block (w := w) (a := ⟨b, off + k * 2 + 1, none⟩) hblk).trans e.2
   have hI : (k : Int) < (len : Int) := by omega
   have HBW : Hid (B ≤ wr.heap.size) := Nat.le_trans hB HP.out.grown.size
   clear e hx hy hc hblk
   have hos := own_cases HP.out.own
   rcases hos with ⟨rfl, h0⟩ | ⟨g, cp, nn, rfl, hnn, hcp⟩
   ·
    have HLA : Hid (lay1 o (x, y) = o ++ [(x, y)]) := lay1_apart (.inl (List.eq_nil_of_length_eq_zero h0))
    have HN2 : Hid (lay (o ++ [(x, y)]) (xs.drop (k + 1)) = lay o0 xs) := by
     rw [lay_drop hkl, HXY.out, HLA.out] at HN
     exact HN
    have HI2 : Hid (∀ p ∈ o ++ [(x, y)], InB p) := by rw [← HLA.out]; exact lay1_inb HI.out HINX.out
    go_wp2
    go_quiet (fail)
    obtain ⟨wq, hwq⟩ : ∃ W, W = (wr.alloc (.cells #[.int .i64 x, .int .i64 y] 81)).drewN nq := ⟨_, rfl⟩
    have HPq : Hid (LayAt w B v0 (.slice none 0 0) o wq) := by rw [hwq]; exact (HP.out.alloc _).drewN nq
    have b1 : wq.cell? ⟨wr.heap.size, 0, none⟩ = some (.int .i64 x) := by rw [hwq]; exact (Blk.made wr _ _).cell 0
    have b2 : wq.cell? ⟨wr.heap.size, 1, none⟩ = some (.int .i64 y) := by rw [hwq]; exact (Blk.made wr _ _).cell 1
    have HBq : Hid (B ≤ wq.heap.size) := by have := HBW.out; rw [hwq]; simp [World.drewN]; show _ ≤ _; omega
    rw [← hwq]
    clear hwq HP
    go_wp2_with (first | go_skip | (with_reducible refine stopAppend2 rfl ?_))
    refine Stop.intro (wpList_append_own_at _ rfl _ _ 25 rfl B 81 t0 (.agg #[.int .i64 0, .int .i64 0]) 2 16 Try.underlying25 hi hz0 hz1 hz2 rfl (by decide) _ (o).length ((flat (o)).map (Value.int .i64)) rfl (HPq.out.own.alloc _) ⟨wq.heap.size, 0, none⟩ 1 1 [.int .i64 x, .int .i64 y] rfl rfl (cell_new2 _ _ _ _) (by intro u hu; simp at hu; rcases hu with rfl | rfl <;> rfl) (by unfold maxLen; omega) (by omega) (by have := HBq.out; simp; omega) ?_)
    intro v2 w2 hown hgrow _ hob
    have HP2 : Hid (LayAt w B v0 v2 (o ++ [(x, y)]) w2) := HPq.out.app hown hgrow hob
    clear hown hgrow HPq hob
    go_wp2
    go_roundw
    case rel => exact ⟨k + 1, o ++ [(x, y)], by omega, by go_num, by simp; omega, HP2, HI2, HN2⟩
    case measure => simp [intOf]; omega
   have HNN : Hid (nn = o.length) := hnn
   clear hnn hcp
   rcases nn with _ | m
   ·
    have HLA : Hid (lay1 o (x, y) = o ++ [(x, y)]) := lay1_apart (.inl (List.eq_nil_of_length_eq_zero HNN.out.symm))
    have HN2 : Hid (lay (o ++ [(x, y)]) (xs.drop (k + 1)) = lay o0 xs) := by
     rw [lay_drop hkl, HXY.out, HLA.out] at HN
     exact HN
    have HI2 : Hid (∀ p ∈ o ++ [(x, y)], InB p) := by rw [← HLA.out]; exact lay1_inb HI.out HINX.out
    go_wp2
    go_quiet (fail)
    obtain ⟨wq, hwq⟩ : ∃ W, W = (wr.alloc (.cells #[.int .i64 x, .int .i64 y] 81)).drewN nq := ⟨_, rfl⟩
    have HPq : Hid (LayAt w B v0 (.slice (some ⟨g, 0, none⟩) 0 cp) o wq) := by rw [hwq]; exact (HP.out.alloc _).drewN nq
    have b1 : wq.cell? ⟨wr.heap.size, 0, none⟩ = some (.int .i64 x) := by rw [hwq]; exact (Blk.made wr _ _).cell 0
    have b2 : wq.cell? ⟨wr.heap.size, 1, none⟩ = some (.int .i64 y) := by rw [hwq]; exact (Blk.made wr _ _).cell 1
    have HBq : Hid (B ≤ wq.heap.size) := by have := HBW.out; rw [hwq]; simp [World.drewN]; show _ ≤ _; omega
    rw [← hwq]
    clear hwq HP
    go_wp2_with (first | go_skip | (with_reducible refine stopAppend2 rfl ?_))
    refine Stop.intro (wpList_append_own_at _ rfl _ _ 25 rfl B 81 t0 (.agg #[.int .i64 0, .int .i64 0]) 2 16 Try.underlying25 hi hz0 hz1 hz2 rfl (by decide) _ (o).length ((flat (o)).map (Value.int .i64)) rfl (HPq.out.own.alloc _) ⟨wq.heap.size, 0, none⟩ 1 1 [.int .i64 x, .int .i64 y] rfl rfl (cell_new2 _ _ _ _) (by intro u hu; simp at hu; rcases hu with rfl | rfl <;> rfl) (by unfold maxLen; omega) (by omega) (by have := HBq.out; simp; omega) ?_)
    intro v2 w2 hown hgrow _ hob
    have HP2 : Hid (LayAt w B v0 v2 (o ++ [(x, y)]) w2) := HPq.out.app hown hgrow hob
    clear hown hgrow HPq hob
    go_wp2
    go_roundw
    case rel => exact ⟨k + 1, o ++ [(x, y)], by omega, by go_num, by simp; omega, HP2, HI2, HN2⟩
    case measure => simp [intOf]; omega
   have hm : o.length = m + 1 := HNN.out.symm
   obtain ⟨s, hs⟩ : ∃ x, x = (o.at m).1 := ⟨_, rfl⟩
   obtain ⟨t, ht⟩ : ∃ x, x = (o.at m).2 := ⟨_, rfl⟩
   have hcm := HP.out.cells (m := m) (by omega)
   have him := HI.out _ (Sp.at_mem (ps := o) (k := m) (by omega))
   unfold InB at him
   rw [← hs, ← ht] at hcm him
   have HST : Hid (o.at (o.length - 1) = (s, t)) := by rw [hm, show m + 1 - 1 = m by omega, hs, ht]; rfl
   obtain ⟨f1, f2, f3⟩ := hcm
   obtain ⟨⟨s0, s1⟩, t1, t2⟩ := him
   have HFZ : Hid (∀ j, wr.frozen? ⟨g, j, none⟩ = false) := f3
   have gd : decide ((m : Int) < 0) = false := decF (by omega)
   have hI3 : (m : Int) < (m : Int) + 1 := by omega
   have hM : m ≤ 4194304 := by omega
   have HNE : Hid (¬ o = []) := fun e => by rw [e] at hm; simp at hm
   have HM : Hid (o.length = m + 1) := hm
   clear hs ht f3 hm
   by_cases c : t + 1 < x
   ·
    have cd : decide (t + 1 < x) = true := decT c
    have HLA : Hid (lay1 o (x, y) = o ++ [(x, y)]) := lay1_apart (.inr (by rw [HST.out]; exact c))
    have HN2 : Hid (lay (o ++ [(x, y)]) (xs.drop (k + 1)) = lay o0 xs) := by
     rw [lay_drop hkl, HXY.out, HLA.out] at HN
     exact HN
    have HI2 : Hid (∀ p ∈ o ++ [(x, y)], InB p) := by rw [← HLA.out]; exact lay1_inb HI.out HINX.out
    go_wp2
    obtain ⟨wa, hwa⟩ : ∃ W, W = wr.alloc (.cells #[.int .i64 x, .int .i64 y] 81) := ⟨_, rfl⟩
    have HPa : Hid (LayAt w B v0 (.slice (some ⟨g, 0, none⟩) (m + 1) cp) o wa) := by rw [hwa]; exact HP.out.alloc _
    have a1 : wa.cell? ⟨wr.heap.size, 0, none⟩ = some (.int .i64 x) := by rw [hwa]; exact (Blk.made wr _ _).cell 0
    have a2 : wa.cell? ⟨wr.heap.size, 1, none⟩ = some (.int .i64 y) := by rw [hwa]; exact (Blk.made wr _ _).cell 1
    have a3 : wa.cell? ⟨g, m * 2 + 1, none⟩ = some (.int .i64 t) := by
     have e4 := (HPa.out.cells (m := m) (by have := HM.out; omega)).2.1
     have e5 := HST.out
     rw [HM.out, show m + 1 - 1 = m by omega] at e5
     rw [e5] at e4
     exact e4
    have HBa : Hid (B ≤ wa.heap.size) := by have := HBW.out; rw [hwa]; simp; show _ ≤ _; omega
    rw [← hwa]
    clear hwa HP f1 f2
    go_quiet (fail)
    obtain ⟨wq, hwq⟩ : ∃ W, W = wa.drewN nq := ⟨_, rfl⟩
    have HPq : Hid (LayAt w B v0 (.slice (some ⟨g, 0, none⟩) (m + 1) cp) o wq) := by rw [hwq]; exact HPa.out.drewN nq
    have b1 : wq.cell? ⟨wr.heap.size, 0, none⟩ = some (.int .i64 x) := by rw [hwq]; exact a1
    have b2 : wq.cell? ⟨wr.heap.size, 1, none⟩ = some (.int .i64 y) := by rw [hwq]; exact a2
    have HBq : Hid (B ≤ wq.heap.size) := by rw [hwq]; exact HBa.out
    rw [← hwq]
    clear hwq HPa a1 a2 a3
    go_wp2_with (first | go_skip | (with_reducible refine stopAppend2 rfl ?_))
    refine Stop.intro (wpList_append_own_at _ rfl _ _ 25 rfl B 81 t0 (.agg #[.int .i64 0, .int .i64 0]) 2 16 Try.underlying25 hi hz0 hz1 hz2 rfl (by decide) _ (o).length ((flat (o)).map (Value.int .i64)) rfl (HPq.out.own.alloc _) ⟨wq.heap.size, 0, none⟩ 1 1 [.int .i64 x, .int .i64 y] rfl rfl (cell_new2 _ _ _ _) (by intro u hu; simp at hu; rcases hu with rfl | rfl <;> rfl) (by unfold maxLen; omega) (by omega) (by have := HBq.out; simp; omega) ?_)
    intro v2 w2 hown hgrow _ hob
    have HP2 : Hid (LayAt w B v0 v2 (o ++ [(x, y)]) w2) := HPq.out.app hown hgrow hob
    clear hown hgrow HPq hob
    go_wp2
    go_roundw
    case rel => exact ⟨k + 1, o ++ [(x, y)], by omega, by go_num, by simp; omega, HP2, HI2, HN2⟩
    case measure => simp [intOf]; omega
   have cd : decide (t + 1 < x) = false := decF c
   have HLA : Hid (lay1 o (x, y) = o.take m ++ [((o.at m).1, max t y)]) := by
    have := lay1_widen (o := o) (x := (x, y)) (fun e => by rw [HST.out] at e; exact e.elim HNE.out c)
    show _ = _
    rw [this, HST.out, HM.out, show m + 1 - 1 = m by omega]
    have e2 := HST.out
    rw [HM.out, show m + 1 - 1 = m by omega] at e2
    rw [e2]
   have HN2 : Hid (lay (o.take m ++ [((o.at m).1, max t y)]) (xs.drop (k + 1)) = lay o0 xs) := by
    rw [lay_drop hkl, HXY.out, HLA.out] at HN
    exact HN
   have HI2 : Hid (∀ p ∈ o.take m ++ [((o.at m).1, max t y)], InB p) := by rw [← HLA.out]; exact lay1_inb HI.out HINX.out
   go_wp2
   obtain ⟨wa, hwa⟩ : ∃ W, W = wr.alloc (.cells #[.int .i64 x, .int .i64 y] 81) := ⟨_, rfl⟩
   have HPa : Hid (LayAt w B v0 (.slice (some ⟨g, 0, none⟩) (m + 1) cp) o wa) := by rw [hwa]; exact HP.out.alloc _
   have a1 : wa.cell? ⟨wr.heap.size, 0, none⟩ = some (.int .i64 x) := by rw [hwa]; exact (Blk.made wr _ _).cell 0
   have a2 : wa.cell? ⟨wr.heap.size, 1, none⟩ = some (.int .i64 y) := by rw [hwa]; exact (Blk.made wr _ _).cell 1
   have a3 : wa.cell? ⟨g, m * 2 + 1, none⟩ = some (.int .i64 t) := by
    have e4 := (HPa.out.cells (m := m) (by have := HM.out; omega)).2.1
    have e5 := HST.out
    rw [HM.out, show m + 1 - 1 = m by omega] at e5
    rw [e5] at e4
    exact e4
   have HBa : Hid (B ≤ wa.heap.size) := by have := HBW.out; rw [hwa]; simp; show _ ≤ _; omega
   rw [← hwa]
   clear hwa HP f1 f2
   go_quiet (fail)
   obtain ⟨wq, hwq⟩ : ∃ W, W = wa.drewN nq := ⟨_, rfl⟩
   have HPq : Hid (LayAt w B v0 (.slice (some ⟨g, 0, none⟩) (m + 1) cp) o wq) := by rw [hwq]; exact HPa.out.drewN nq
   have b1 : wq.cell? ⟨wr.heap.size, 0, none⟩ = some (.int .i64 x) := by rw [hwq]; exact a1
   have b2 : wq.cell? ⟨wr.heap.size, 1, none⟩ = some (.int .i64 y) := by rw [hwq]; exact a2
   have hcq := HPq.out.cells (m := m) (by have := HM.out; omega)
   have e3 := HST.out
   rw [HM.out, show m + 1 - 1 = m by omega] at e3
   rw [e3] at hcq
   obtain ⟨f1, f2, f3⟩ := hcq
   have f4 := f3 (m * 2 + 1)
   rw [← hwq]
   have HPw : Hid (LayAt w B v0 (.slice (some ⟨g, 0, none⟩) (m + 1) cp) (o.take m ++ [((o.at m).1, max t y)]) (wq.setCell ⟨g, m * 2 + 1, none⟩ (.int .i64 (max t y)))) := HPq.out.widen HM.out _
   clear hwq HPa a1 a2 a3 f3 e3 HPq
   go_wp2
   go_region
   go_wp2
   go_roundw
   case rel => exact ⟨k + 1, o.take m ++ [((o.at m).1, max t y)], by omega, by go_num, by have := HM.out; simp; omega, (by rw [show (if t < y then y else t) = max t y by split <;> omega]; exact HPw.out.drewN 1), HI2, HN2⟩
   case measure => simp [intOf]; omega
  ·
   obtain rfl : k = len := by omega
   have HV : Hid (o = lay o0 xs) := by
    have := HN.out
    rw [List.drop_eq_nil_of_le (by rw [HL.out]; omega)] at this
    exact this
   go_wp2
   go_ret
   rw [← HV.out]
   exact ⟨_, rfl, HP.out⟩
end Go.Proofs.Ytgkbhhlkaifnoaa
/- The walks through the program's cutting of a set, and its going through two sets. No statement of the seat is proved here. -/
namespace Go.Proofs.Ytgkbhhlkaifnoaa
open Go.RowKit
theorem flat_take : ∀ (ps : Sp) (k : Nat), flat (ps.take k) = (flat ps).take (2 * k)
 | [], k => by simp [flat]
 | p :: ps, 0 => by simp [flat]
 | p :: ps, k + 1 => by rw [List.take_succ_cons, flat, flat, flat_take ps k, show 2 * (k + 1) = 2 * k + 1 + 1 by omega, List.take_succ_cons, List.take_succ_cons]
theorem flat_drop : ∀ (ps : Sp) (k : Nat), flat (ps.drop k) = (flat ps).drop (2 * k)
 | [], k => by simp [flat]
 | p :: ps, 0 => by simp [flat]
 | p :: ps, k + 1 => by rw [List.drop_succ_cons, flat, flat_drop ps k, show 2 * (k + 1) = 2 * k + 1 + 1 by omega, List.drop_succ_cons, List.drop_succ_cons]
theorem RdP.take {w : World} {a : Option Addr} {len : Nat} {ps : Sp} {F : List Nat} (h : RdP w a len ps F) {k : Nat} (hk : k ≤ len) : ∃ G, RdP w a k (ps.take k) G ∧ ∀ b ∈ G, b ∈ F := by
 have hl := h.length
 by_cases h0 : k = 0
 ·
  subst h0
  exact ⟨[], by simpa using (RdP.nil (w := w) (a := a)), by simp⟩
 ·
  rcases h.rd.cells with ⟨e, _⟩ | ⟨b, off, hp, e, eF, hc⟩
  ·
   omega
  ·
   refine ⟨F, ⟨by simp; omega, ?_, .inr ⟨b, off, by omega, e, eF, fun i hi => ?_⟩⟩, fun b hb => hb⟩
   ·
    rw [flat_length]; simp; omega
   ·
    rw [hc i (by omega), flat_take]
    simp [List.getD_eq_getElem?_getD, hi]
theorem RdP.drop {w : World} {b off len : Nat} {ps : Sp} {F : List Nat} (h : RdP w (some ⟨b, off, none⟩) len ps F) {k : Nat} (hk : k < len) : RdP w (some ⟨b, off + k * 2, none⟩) (len - k) (ps.drop k) F := by
 have hl := h.length
 rcases h.rd.cells with ⟨e, _⟩ | ⟨b', off', hp, e, eF, hc⟩
 ·
  omega
 ·
  obtain ⟨rfl, rfl⟩ : b = b' ∧ off = off' := by simpa using e
  refine ⟨by simp; omega, ?_, .inr ⟨b, off + k * 2, by omega, rfl, eF, fun i hi => ?_⟩⟩
  ·
   rw [flat_length]; simp; omega
  ·
   rw [show off + k * 2 + i = off + (2 * k + i) by omega, hc (2 * k + i) (by omega), flat_drop]
   simp [List.getD_eq_getElem?_getD]
theorem cutN_at {ps : Sp} {k : Nat} {n : Int} (hk : k < ps.length) (h : (ps.at k).1 ≤ n) : cutN (ps.drop k) n = cutN (ps.drop (k + 1)) n + 1 := by rw [drop_at hk, cutN, if_pos h]
theorem cutN_stop {ps : Sp} {k : Nat} {n : Int} (hk : k < ps.length) (h : ¬ (ps.at k).1 ≤ n) : cutN (ps.drop k) n = 0 := by rw [drop_at hk, cutN, if_neg h]
/-- What a cut tells: the part ahead, the part behind, both out of what was there. -/
def CutTo (w : World) (ps : Sp) (F : List Nat) (k : Nat) (e : Ending) (w' : World) : Prop :=
 ∃ a1 l1 c1 a2 l2 c2 F1 F2, e = .returned (.tuple #[.slice a1 l1 c1, .slice a2 l2 c2]) ∧ RdP w a1 l1 (ps.take k) F1 ∧ RdP w a2 l2 (ps.drop k) F2 ∧ (∀ b ∈ F1, b ∈ F) ∧ (∀ b ∈ F2, b ∈ F) ∧ l2 ≤ c2 ∧ QuietTo w w'
set_option maxRecDepth 200000 in
set_option maxHeartbeats 4000000 in
theorem cutAt_any (a : Option Addr) (len cap : Nat) (ps : Sp) (n : Int) (F : List Nat) (w : World) (h : RdP w a len ps F) (hlen : len ≤ 4194304) (hcap : len ≤ cap) :
 Calls Try.prog 116 #[.slice a len cap, .int .i64 n] w fun e w' => CutTo w ps F (cutN ps n) e w' := by
 have HL : Hid (ps.length = len) := h.length
 have HR : Hid (RdP w a len ps F) := h
 have HC : Hid (len = 0 ∨ ∃ b off, a = some ⟨b, off, none⟩ ∧ b < w.heap.size ∧ SpCells w b off len ps) := cells_of h
 have HS : Hid (∀ k, k ≤ len → ∀ w', QuietTo w w' → CutTo w ps F k (.returned (.tuple #[.slice a k k, .slice (if len = k then a else a.map (·.add (k * 2))) (len - k) (len - k)])) w') := by
  intro k hk w' hq
  obtain ⟨F1, r1, g1⟩ := h.take hk
  by_cases e : len = k
  ·
   refine ⟨_, _, _, _, _, _, F1, [], rfl, r1, ?_, g1, by simp, Nat.le_refl _, hq⟩
   rw [List.drop_eq_nil_of_le (by rw [h.length]; omega), show len - k = 0 by omega]
   exact RdP.nil
  ·
   rcases cells_of h with h0 | ⟨b, off, rfl, _, _⟩
   ·
    omega
   ·
    refine ⟨_, _, _, _, _, _, F1, F, rfl, r1, ?_, g1, fun b hb => hb, Nat.le_refl _, hq⟩
    rw [if_neg e]
    simp only [Option.map_some, Addr.add_lit]
    exact h.drop (k := k) (by omega)
 clear h
 go_enter Try.func116, Try.ntmps116
 go_wp2
 go_loopw [6] (fun i wr => ∃ (k : Nat), k ≤ len ∧ i = .int .i64 k ∧ Hid (QuietTo w wr) ∧ Hid (cutN ps n = k + cutN (ps.drop k) n)) (fun i _ => len - (intOf i).toNat)
 case atStart => exact ⟨0, by omega, rfl, QuietTo.refl _, by show _ = _; simp⟩
 case round =>
  obtain ⟨k, hk, rfl, HW, HN⟩ := hrel
  by_cases hlt : k < len
  ·
   have hca := HC.out
   rcases hca with h0 | ⟨b, off, rfl, hbw, hc⟩
   ·
    omega
   obtain ⟨x, hx⟩ : ∃ x, x = (ps.at k).1 := ⟨_, rfl⟩
   have e := (hc k hlt).1
   rw [← hx] at e
   have d1 : wr.cell? ⟨b, off + k * 2, none⟩ = some (.int .i64 x) := (HW.out.cell _).trans e
   have HX : Hid (x = (ps.at k).1) := hx
   have hI : (k : Int) < (len : Int) := by omega
   have hkl : k < ps.length := by rw [HL.out]; exact hlt
   clear hx hc e
   by_cases c : x ≤ n
   ·
    have cd : decide (x ≤ n) = true := decT c
    have HN2 : Hid (cutN ps n = k + 1 + cutN (ps.drop (k + 1)) n) := by
     have := HN.out
     rw [cutN_at hkl (by rw [← HX.out]; exact c)] at this
     show _ = _
     omega
    go_wp2
    go_roundw
    case rel => exact ⟨k + 1, by omega, by go_num, HW, HN2⟩
    case measure => simp [intOf]; omega
   ·
    have cd : decide (x ≤ n) = false := decF c
    have HK : Hid (cutN ps n = k) := by
     have := HN.out
     rw [cutN_stop hkl (by rw [← HX.out]; exact c)] at this
     show _ = _
     omega
    have hne : ¬ len = k := by omega
    have i1 : (k : Int) ≤ (len : Int) := by omega
    have i2 : (len : Int) ≤ (cap : Int) := by omega
    have i3 : (k : Int) ≤ (cap : Int) := by omega
    have HT : Hid (∀ w', QuietTo w w' → CutTo w ps F (cutN ps n) (.returned (.tuple #[.slice (some ⟨b, off, none⟩) k k, .slice (some ⟨b, off + k * 2, none⟩) (len - k) (len - k)])) w') := by
     intro w' hq
     have := HS.out k (by omega) w' hq
     rw [if_neg hne] at this
     simp only [Option.map_some, Addr.add_lit] at this
     rw [HK.out]
     exact this
    go_wp2
    go_quiet (fail)
    go_wp2
    go_ret2
    exact HT.out _ (HW.out.drewN _)
  ·
   obtain rfl : k = len := by omega
   have HK : Hid (cutN ps n = k) := by
    have := HN.out
    rw [List.drop_eq_nil_of_le (by rw [HL.out]; omega)] at this
    exact this
   have hg : decide ((k : Int) < (k : Int)) = false := decF (by omega)
   have i2 : (k : Int) ≤ (cap : Int) := by omega
   have HT : Hid (∀ w', QuietTo w w' → CutTo w ps F (cutN ps n) (.returned (.tuple #[.slice a k k, .slice a 0 0])) w') := by
    intro w' hq
    have := HS.out k (by omega) w' hq
    rw [if_pos rfl, Nat.sub_self] at this
    rw [HK.out]
    exact this
   go_wp2
   go_quiet (fail)
   go_wp2
   go_ret2
   exact HT.out _ (HW.out.drewN _)
end Go.Proofs.Ytgkbhhlkaifnoaa
/- The walk through the program's going through two sets. No statement of the seat is proved here. -/
namespace Go.Proofs.Ytgkbhhlkaifnoaa
open Go.RowKit
theorem RdP.move {w W : World} {B : Nat} {a : Option Addr} {len : Nat} {ps : Sp} {F : List Nat} (h : RdP w a len ps F) (hF : ∀ b ∈ F, b < B) (h1 : Below B w W) : RdP W a len ps F := h.agree (fun b hb => h1.block b (hF b hb))
theorem RdP.back {w W : World} {B : Nat} {a : Option Addr} {len : Nat} {ps : Sp} {F : List Nat} (h : RdP W a len ps F) (hF : ∀ b ∈ F, b < B) (h1 : Below B w W) : RdP w a len ps F := h.agree (fun b hb => (h1.block b (hF b hb)).symm)
theorem LayAt.below {w W : World} {B n : Nat} {v0 v : Value} {o : Sp} {xs : List Value} (h : LayAt w B v0 v o W) (h0 : w.ownsRow B 81 2 v0 n xs) (hB : B ≤ w.heap.size) : Below B w W :=
 ⟨h.grown.os, h.grown.tape, h.grown.output, h.grown.size, fun k hk => h.grown.block k (by omega) (fun e => by have := (h0.lt k e.symm).1; omega)⟩
/-- Midway in a round: the set that is made, the span's box. -/
structure MidB (w : World) (nb : Nat) (x y : Int) (v : Value) (o : Sp) (W : World) : Prop where
 own : W.ownsRow w.heap.size 81 2 v o.length ((flat o).map (Value.int .i64))
 bel : Below w.heap.size w W
 box : Blk W nb #[.int .i64 x, .int .i64 y] 81
 ne : some nb ≠ v.ownBlock
theorem MidB.alloc {w : World} {nb : Nat} {x y : Int} {v : Value} {o : Sp} {W : World} (h : MidB w nb x y v o W) (ob : Obj) : MidB w nb x y v o (W.alloc ob) := ⟨h.own.alloc _, Below.allocW _ h.bel (Nat.le_refl _), h.box.alloc _, h.ne⟩
theorem MidB.drew {w : World} {nb : Nat} {x y : Int} {v : Value} {o : Sp} {W : World} (h : MidB w nb x y v o W) : MidB w nb x y v o W.drew := ⟨⟨h.own.1, h.own.2⟩, h.bel.drew, h.box, h.ne⟩
/-- Behind the first laying: what lay beside lies there still. -/
structure AftB (w : World) (nb : Nat) (x y : Int) (v v' : Value) (o' : Sp) (W W' : World) : Prop where
 mid : MidB w nb x y v' o' W'
 old : ∀ g cs t, Blk W g cs t → some g ≠ v.ownBlock → Blk W' g cs t ∧ some g ≠ v'.ownBlock
theorem AftB.of {w : World} {nb : Nat} {x y : Int} {v v' : Value} {o o' : Sp} {W W' : World} (h : MidB w nb x y v o W) (k : LayAt W w.heap.size v v' o' W') : AftB w nb x y v v' o' W W' := by
 have hold : ∀ g cs t, Blk W g cs t → some g ≠ v.ownBlock → Blk W' g cs t ∧ some g ≠ v'.ownBlock := fun g cs t hb hne => by
  refine ⟨hb.agree (k.grown.block g hb.lt hne), ?_⟩
  rcases k.fresh with e | e
  ·
   rw [e]; exact hne
  ·
   intro e2; have := e g e2.symm; have := hb.lt; omega
 obtain ⟨h1, h2⟩ := hold _ _ _ h.box h.ne
 exact ⟨⟨k.own, h.bel.trans (k.below h.own h.bel.size), h1, h2⟩, hold⟩
/-- Ahead of the second laying: the one span's slice. -/
structure TwoB (w : World) (nb : Nat) (x y : Int) (v' : Value) (o' : Sp) (g : Nat) (W : World) : Prop where
 mid : MidB w nb x y v' o' W
 one : Blk W g #[.int .i64 x, .int .i64 y] 81
 ne : some g ≠ v'.ownBlock
theorem AftB.two {w : World} {nb : Nat} {x y : Int} {v v' : Value} {o o' : Sp} {W W' : World} (h : AftB w nb x y v v' o' (W.alloc (.cells #[.int .i64 x, .int .i64 y] 81)).drew W') (k : MidB w nb x y v o W) : TwoB w nb x y v' o' W.heap.size W' := by
 obtain ⟨h1, h2⟩ := h.old _ _ _ (Blk.made W _ _) (fun e => by have := (k.own.lt _ e.symm).2; omega)
 exact ⟨h.mid, h1, h2⟩
theorem AftB.new {w : World} {nb : Nat} {x y : Int} {v v' : Value} {o' : Sp} {W W' : World} (h : AftB w nb x y v v' o' W W') : TwoB w nb x y v' o' W'.heap.size (W'.alloc (.cells #[.int .i64 x, .int .i64 y] 81)) :=
 ⟨h.mid.alloc _, Blk.made _ _ _, fun e => by have := (h.mid.own.lt _ e.symm).2; omega⟩
theorem rdP_one {W : World} {g : Nat} {x y : Int} {t : TypeId} (h : Blk W g #[.int .i64 x, .int .i64 y] t) : RdP W (some ⟨g, 0, none⟩) 1 [(x, y)] [g] :=
 ⟨rfl, rdI_tcv (xs := flat [(x, y)]) (by simpa [tcv, flat] using h) (by simp [flat]) (by omega)⟩
/-- Ahead of a round. -/
structure BInv (w : World) (ps qs : Sp) (k : Nat) (o rs : Sp) (aa : Option Addr) (la ca : Nat) (F : List Nat) (v : Value) (wr : World) : Prop where
 own : wr.ownsRow w.heap.size 81 2 v o.length ((flat o).map (Value.int .i64))
 bel : Below w.heap.size w wr
 rd : RdP w aa la rs F
 lt : ∀ b ∈ F, b < w.heap.size
 cap : la ≤ ca
 len : o.length + rs.length ≤ ps.length + k
 ino : ∀ p ∈ o, InB p
 ina : ∀ p ∈ rs, InB p
 eq : both rs (qs.drop k) o = both ps qs []
set_option maxRecDepth 100000 in
set_option maxHeartbeats 8000000 in
theorem spansOfBoth_any (a b : Option Addr) (la lb ca cb : Nat) (ps qs : Sp) (F G : List Nat) (w : World) (h : RdP w a la ps F) (k : RdP w b lb qs G) (hlen : la + lb ≤ 2097153) (hca : la ≤ ca) (h1 : ∀ p ∈ ps, InB p) (h2 : ∀ p ∈ qs, InB p) :
 Calls Try.prog 99 #[.slice a la ca, .slice b lb cb] w fun e w' => NewP w (both ps qs []) e w' := by
 have HL : Hid (ps.length = la ∧ qs.length = lb) := ⟨h.length, k.length⟩
 have HI : Hid (∀ p ∈ qs, InB p) := h2
 have HP0 : Hid (BInv w ps qs 0 [] ps a la ca F (.slice none 0 0) w) := ⟨⟨by simp [flat], .inl ⟨rfl, rfl⟩⟩, Below.refl _ _, h, h.lt, hca, by simp, by simp, h1, rfl⟩
 have HCB : Hid (lb = 0 ∨ ∃ b1 o1, b = some ⟨b1, o1, none⟩ ∧ b1 < w.heap.size ∧ SpCells w b1 o1 lb qs) := cells_of k
 clear h k h1 h2
 go_enter Try.func99, Try.ntmps99
 go_wp2
 go_loopw [0, 5, 12] (fun av v i wr => ∃ (k : Nat) (o rs : Sp) (aa : Option Addr) (la ca : Nat) (F : List Nat), k ≤ lb ∧ i = .int .i64 k ∧ av = .slice aa la ca ∧ Hid (BInv w ps qs k o rs aa la ca F v wr)) (fun _ _ i _ => lb - (intOf i).toNat)
 case atStart => exact ⟨0, [], ps, a, la, ca, F, by omega, rfl, rfl, HP0⟩
 case round =>
  clear HP0
  obtain ⟨k, o, rs, aa, l0, c0, F0, hk, rfl, rfl, HP⟩ := hrel
  by_cases hlt : k < lb
  ·
   have hcb := HCB.out
   rcases hcb with h0 | ⟨b1, o1, rfl, hbw, hc⟩
   ·
    omega
   obtain ⟨x, hx⟩ : ∃ x, x = (qs.at k).1 := ⟨_, rfl⟩
   obtain ⟨y, hy⟩ : ∃ x, x = (qs.at k).2 := ⟨_, rfl⟩
   have e := hc k hlt
   have hql : k < qs.length := by rw [HL.out.2]; exact hlt
   have HXY : Hid (qs.at k = (x, y)) := by rw [hx, hy]; rfl
   have HINX : Hid (InB (x, y)) := by rw [← HXY.out]; exact HI.out _ (Sp.at_mem hql)
   rw [HXY.out] at e
   have d1 : wr.cell? ⟨b1, o1 + k * 2, none⟩ = some (.int .i64 x) := (HP.out.bel.cell (by exact hbw)).trans e.1
   have d2 : wr.cell? ⟨b1, o1 + k * 2 + 1, none⟩ = some (.int .i64 y) := (HP.out.bel.cell (by exact hbw)).trans e.2
   have hI : (k : Int) < (lb : Int) := by omega
   have HLN : Hid (o.length + rs.length ≤ 2097153) := by have := HP.out.len; have := HL.out; show _ ≤ _; omega
   have HLA : Hid (rs.length = l0) := HP.out.rd.length
   clear e hx hy hc
   go_wp2_with fail
   have HWA : Hid (Below w.heap.size w (wr.alloc (.cells #[.int .i64 x, .int .i64 y] 81))) := Below.allocW _ HP.out.bel (Nat.le_refl _)
   refine (cutAt_any aa l0 c0 rs x F0 _ (HP.out.rd.move HP.out.lt HWA.out) (by have := HLN.out; have := HLA.out; omega) HP.out.cap).mono ?_
   rintro e w2 ⟨a1, l1, c1, a2, l2, c2, F1, F2, rfl, r1, r2, s1, s2, hcp2, hq⟩
   obtain ⟨cn, hcn⟩ : ∃ c, c = cutN rs x := ⟨_, rfl⟩
   rw [← hcn] at r1 r2
   have HQ1 : Hid (RdP w a1 l1 (rs.take cn) F1 ∧ (∀ b ∈ F1, b < w.heap.size) ∧ l1 ≤ rs.length) := ⟨r1.back (fun b hb => HP.out.lt b (s1 b hb)) HWA.out, fun b hb => HP.out.lt b (s1 b hb), by have e := r1.length; rw [List.length_take] at e; omega⟩
   have HQ2 : Hid (RdP w a2 l2 (rs.drop cn) F2 ∧ (∀ b ∈ F2, b < w.heap.size) ∧ l2 ≤ c2) := ⟨r2.back (fun b hb => HP.out.lt b (s2 b hb)) HWA.out, fun b hb => HP.out.lt b (s2 b hb), hcp2⟩
   have HM : Hid (MidB w wr.heap.size x y u5 o w2) := by
    obtain ⟨m, rfl⟩ := hq
    have hal := HP.out.own.alloc (.cells #[.int .i64 x, .int .i64 y] 81)
    exact ⟨⟨hal.1, hal.2⟩, ⟨HWA.out.os, HWA.out.tape, HWA.out.output, HWA.out.size, HWA.out.block⟩, Blk.made wr _ _, fun e => by have := (HP.out.own.lt _ e.symm).2; omega⟩
   have HCN : Hid (cn = cutN rs x) := hcn
   have q1 : w2.cell? ⟨wr.heap.size, 0, none⟩ = some (.int .i64 x) := HM.out.box.cell 0
   have q2 : w2.cell? ⟨wr.heap.size, 1, none⟩ = some (.int .i64 y) := HM.out.box.cell 1
   clear r1 r2 s1 s2 hcp2 hq hcn HWA d1 d2
   have HC1 : Hid (∀ W, MidB w wr.heap.size x y u5 o W → Calls Try.prog 117 #[u5, .slice a1 l1 c1] W (fun e w' => ∃ v', e = .returned v' ∧ AftB w wr.heap.size x y u5 v' (lay o (rs.take cn)) W w')) := by
    intro W hW
    refine (laid_any w.heap.size u5 o a1 l1 c1 (rs.take cn) F1 W hW.own hW.bel.size (HQ1.out.1.move HQ1.out.2.1 hW.bel) (fun b hb e => by have := HQ1.out.2.1 b hb; have := (hW.own.lt _ e.symm).1; omega) (by have := HLN.out; have := HQ1.out.2.2; omega) HP.out.ino (fun p hp => HP.out.ina p (List.mem_of_mem_take hp))).mono ?_
    rintro e w' ⟨v, rfl, hl⟩
    exact ⟨v, rfl, AftB.of hW hl⟩
   have HC2 : Hid (∀ v' W g, TwoB w wr.heap.size x y v' (lay o (rs.take cn)) g W → Calls Try.prog 117 #[v', .slice (some ⟨g, 0, none⟩) 1 1] W (fun e w' => ∃ v'', e = .returned v'' ∧ MidB w wr.heap.size x y v'' (lay1 (lay o (rs.take cn)) (x, y)) w')) := by
    intro v' W g hW
    refine (laid_any w.heap.size v' (lay o (rs.take cn)) (some ⟨g, 0, none⟩) 1 1 [(x, y)] [g] W hW.mid.own hW.mid.bel.size (rdP_one hW.one) (fun b hb => by rw [List.mem_singleton.1 hb]; exact hW.ne) (by have e := lay_length (rs.take cn) o; have := HLN.out; rw [List.length_take] at e; omega) (lay_inb HP.out.ino (fun p hp => HP.out.ina p (List.mem_of_mem_take hp))) (fun p hp => by rw [List.mem_singleton.1 hp]; exact HINX.out)).mono ?_
    rintro e w' ⟨v, rfl, hl⟩
    exact ⟨v, rfl, (AftB.of hW.mid hl).mid⟩
   have HFIN : Hid (∀ v' W, MidB w wr.heap.size x y v' (lay1 (lay o (rs.take cn)) (x, y)) W → BInv w ps qs (k + 1) (lay1 (lay o (rs.take cn)) (x, y)) (rs.drop cn) a2 l2 c2 F2 v' W) := by
    intro v' W hW
    refine ⟨hW.own, hW.bel, HQ2.out.1, HQ2.out.2.1, HQ2.out.2.2, ?_, lay1_inb (lay_inb HP.out.ino (fun p hp => HP.out.ina p (List.mem_of_mem_take hp))) HINX.out, fun p hp => HP.out.ina p (List.mem_of_mem_drop hp), ?_⟩
    ·
     have e1 := lay1_length (lay o (rs.take cn)) (x, y)
     have e2 := lay_length (rs.take cn) o
     have e3 := HP.out.len
     rw [List.length_take] at e2
     rw [List.length_drop]
     omega
    ·
     have e := HP.out.eq
     rw [drop_at hql, HXY.out, both] at e
     rw [HCN.out]
     exact e
   have HKE : Hid (∀ W, Blk W wr.heap.size #[.int .i64 x, .int .i64 y] 81 → W.cell? ⟨wr.heap.size, 0, none⟩ = some (.int .i64 x) ∧ W.cell? ⟨wr.heap.size, 1, none⟩ = some (.int .i64 y)) := fun W hW => ⟨hW.cell 0, hW.cell 1⟩
   have HMD : Hid (MidB w wr.heap.size x y u5 o w2.drew) := HM.out.drew
   have HMA : Hid (MidB w wr.heap.size x y u5 o (w2.alloc (.cells #[.int .i64 x, .int .i64 y] 81)).drew) := (HM.out.alloc _).drew
   go_wp2
   go_region_held3 (fun W => W.cell? ⟨wr.heap.size, 0, none⟩ = some (.int .i64 x) ∧ W.cell? ⟨wr.heap.size, 1, none⟩ = some (.int .i64 y))
    ((refine HKE.out _ ?_; first | (with_reducible exact k2.box) | (with_reducible exact k1.mid.box) | (with_reducible exact k1.mid.box.alloc _) | (with_reducible exact HMD.out.box) | (with_reducible exact HMA.out.box)))
    (first
     | (have zz := k1; clear zz; go_at_call 117; refine (HC2.out _ _ _ (by first | (with_reducible exact k1.two HM.out) | (with_reducible exact k1.new))).mono ?_; rintro e w4 ⟨v4, rfl, k2⟩)
     | (go_at_call 117; refine (HC1.out _ (by first | (with_reducible exact HMD.out) | (with_reducible exact HMA.out))).mono ?_; rintro e w3 ⟨v3, rfl, k1⟩))
   all_goals
    have HB2 := HFIN.out _ _ k2
    have HB3 : Hid (BInv w ps qs (k + 1) (lay1 (lay o (rs.take cn)) (x, y)) (rs.drop cn) a2 l2 c2 F2 v4 w4) := HB2
    clear HB2 k2 k1 HC1 HC2 HKE HFIN q1 q2 HMD HMA HM
    go_wp2
    go_roundw
   all_goals first | exact ⟨k + 1, _, _, a2, l2, c2, F2, by omega, by go_num, rfl, HB3⟩ | (simp [intOf]; omega)
  ·
   obtain rfl : k = lb := by omega
   have HE : Hid (lay o rs = both ps qs []) := by
    have := HP.out.eq
    rw [List.drop_eq_nil_of_le (by rw [HL.out.2]; omega)] at this
    exact this
   go_wp2_with fail
   refine (laid_any w.heap.size u5 o aa l0 c0 rs F0 _ HP.out.own HP.out.bel.size (HP.out.rd.move HP.out.lt HP.out.bel) (fun b hb e => by have := HP.out.lt b hb; have := (HP.out.own.lt _ e.symm).1; omega) (by have := HP.out.len; have := HL.out; have := HP.out.rd.length; omega) HP.out.ino HP.out.ina).mono ?_
   rintro e w2 ⟨v, rfl, hl⟩
   have HV : Hid (LayAt wr w.heap.size u5 v (lay o rs) w2 ∧ Below w.heap.size w w2) := ⟨hl, HP.out.bel.trans (hl.below HP.out.own HP.out.bel.size)⟩
   clear hl
   go_wp2
   go_ret
   obtain ⟨a', c', F', rfl, hr, ho, hnn⟩ := rdP_of_own HV.out.1.own
   rw [← HE.out]
   exact ⟨_, _, _, F', rfl, hr, ho, HV.out.2, hnn⟩
end Go.Proofs.Ytgkbhhlkaifnoaa
/- The walks through the program's copying of a set, and the library's comparing of two. No statement of the seat is proved here. -/
namespace Go.Proofs.Ytgkbhhlkaifnoaa
open Go.RowKit
theorem run_copy_row2 {P : Program} (w : World) (dT sT ty elem : TypeId) (g len dCap : Nat) (a : Addr) (sCap : Nat) (cur : Array Value) (t : TypeId) (cs : List Value)
 (hu : P.underlying dT = some (.slice elem)) (hs : (P.info? elem).map (·.size) = some 2)
 (hg : w.heap[g]? = some (.cells cur t (0, 0))) (hn : cs.length = len * 2)
 (hsrc : ∀ j v, cs[j]? = some v → w.cell? (a.add j) = some v) (hfit : cs.length ≤ cur.size) (h1 : ∀ v ∈ cs, v.oneCell' = true) :
 (Builtin.copy_ #[dT, sT] ty #[.slice (some ⟨g, 0, none⟩) len dCap, .slice (some a) len sCap]).run P w =
  .ok (goInt len) (w.setRow g (cs ++ cur.toList.drop cs.length).toArray) := by
 have hl := run_loadCells_list (P := P) w a cs hsrc
 have hst := run_storeCells_at P g 0 t cs 0 cur w hg (by simpa using hfit) h1
 rw [hn] at hl
 cases hq : P.info? elem with
 | none => simp [hq] at hs
 | some i =>
  have hi : i.size = 2 := by simpa [hq] using hs
  simp [Builtin.copy_, run_underlying hu, Builtin.lenOf, Builtin.firstCells, sizeOf, typeInfo, hq, hi, hl, hst]
theorem run_copy_none2 {P : Program} (w : World) (dT sT ty elem : TypeId) (d a : Option Addr) (dCap sCap : Nat) (hu : P.underlying dT = some (.slice elem)) (hs : (P.info? elem).map (·.size) = some 2) :
 (Builtin.copy_ #[dT, sT] ty #[.slice d 0 dCap, .slice a 0 sCap]).run P w = .ok (goInt 0) w := by
 cases hq : P.info? elem with
 | none => simp [hq] at hs
 | some i =>
  have hl : ∀ (x : Addr), (loadCells x 0).run P w = .ok #[] w := fun x => by simpa using run_loadCells_list (P := P) w x [] (by simp)
  cases d <;> cases a <;> simp [Builtin.copy_, run_underlying hu, Builtin.lenOf, Builtin.firstCells, sizeOf, typeInfo, hq, storeCells, hl]
theorem infoSpan2 : (Try.prog.info? 81).map (·.size) = some 2 := by kernel_rfl
theorem flat_one {ps : Sp} : ∀ v ∈ (flat ps).map (Value.int .i64), v.oneCell' = true := by
 intro v hv
 obtain ⟨x, _, rfl⟩ := List.mem_map.1 hv
 rfl
set_option maxRecDepth 200000 in
set_option maxHeartbeats 2000000 in
theorem copiedSpans_any (a : Option Addr) (len cap : Nat) (ps : Sp) (F : List Nat) (w : World) (h : RdP w a len ps F) (hlen : len ≤ 2097152) :
 Calls Try.prog 84 #[.slice a len cap] w fun e w' => NewP w ps e w' := by
 obtain ⟨i0, hi, hz0, hz1, hz2⟩ := info_parts infoSpan
 have HL : Hid (ps.length = len) := h.length
 have HR : Hid (RdP w a len ps F) := h
 rcases h.cells with ⟨rfl, _, rfl⟩ | ⟨b, off, hp, rfl, _, _⟩
 ·
  clear h
  go_enter Try.func84, Try.ntmps84
  go_wp2_with (at_make; refine wpList_make_full _ rfl _ _ 25 rfl w.heap.size 81 i0 (.agg #[.int .i64 0, .int .i64 0]) 2 Try.underlying25 hi hz0 hz1 .i64 .i64 _ _ 0 rfl rfl (by simp) (by simp) (by omega) (by unfold maxLen; omega) (Nat.le_refl _) ?_; intro w1 hown hgrow)
  have hcp := run_copy_none2 (P := Try.prog) w1 25 25 3 81 (some ⟨w.heap.size, 0, none⟩) a 0 cap Try.underlying25 infoSpan2
  rw [hcp]
  go_wp2
  go_ret
  exact ⟨_, 0, 0, [], rfl, RdP.nil, Own.nil, (Below.refl _ _).grown hgrow (Nat.le_refl _) (fun k hk => by cases hk), (fun e => by cases e), Nat.le_refl _⟩
 ·
  clear h
  go_enter Try.func84, Try.ntmps84
  go_wp2_with (at_make; refine wpList_make_full _ rfl _ _ 25 rfl w.heap.size 81 i0 (.agg #[.int .i64 0, .int .i64 0]) 2 Try.underlying25 hi hz0 hz1 .i64 .i64 _ _ len rfl rfl rfl rfl (by rw [hz2]; omega) (by unfold maxLen; omega) (Nat.le_refl _) ?_; intro w1 hown hgrow)
  have HM : Hid (Blk w1 w.heap.size (tcv (List.replicate (2 * len) 0)) 81 ∧ Below w.heap.size w w1) := by
   refine ⟨?_, (Below.refl _ _).grown hgrow (Nat.le_refl _) (fun k hk => by cases hk)⟩
   have e := own_blk hown hp
   have e2 : (madeCells (Value.agg #[Value.int IntKind.i64 0, Value.int IntKind.i64 0]).cells (len * 2)).toList.toArray = tcv (List.replicate (2 * len) 0) := made_flat len
   rw [← e2]
   exact e
  clear hown hgrow
  have HLF : Hid ((flat ps).length = 2 * len) := by rw [flat_length, HL.out]; rfl
  have hcp := run_copy_row2 (P := Try.prog) w1 25 25 3 81 w.heap.size len len ⟨b, off, none⟩ cap _ 81 ((flat ps).map (Value.int .i64)) Try.underlying25 infoSpan2 HM.out.1 (by have := HLF.out; simp; omega) (cells_flat (HR.out.below HM.out.2) hp) (by have := HLF.out; simp [tcv]; omega) flat_one
  have hrow : ((flat ps).map (Value.int .i64) ++ (tcv (List.replicate (2 * len) 0)).toList.drop ((flat ps).map (Value.int .i64)).length).toArray = tcv (flat ps) := by
   have := HLF.out
   rw [List.drop_eq_nil_of_le (by simp [tcv]; omega), List.append_nil]
   rfl
  rw [hrow] at hcp
  have HW : Hid (Blk (w1.setRow w.heap.size (tcv (flat ps))) w.heap.size (tcv (flat ps)) 81 ∧ Below w.heap.size w (w1.setRow w.heap.size (tcv (flat ps)))) := ⟨HM.out.1.setRow, below_setRow HM.out.2 (Nat.le_refl _) _⟩
  clear hrow
  rw [hcp]
  go_wp2
  go_ret
  exact ⟨_, len, len, [w.heap.size], rfl, ⟨HL.out, rdI_tcv HW.out.1 HLF.out (by omega)⟩, ⟨by simp, fun b hb o => by simp at hb; subst hb; exact HW.out.1.frozen o, by simp⟩, HW.out.2, (fun e => by cases e), Nat.le_refl _⟩
end Go.Proofs.Ytgkbhhlkaifnoaa
/- The walks through the program's copying of an item and of an agent. No statement of the seat is proved here. -/
namespace Go.Proofs.Ytgkbhhlkaifnoaa
open Go.RowKit
theorem infoItP8 : (Try.prog.info? 36).map (·.size) = some 11 := by kernel_rfl
set_option maxRecDepth 200000 in
set_option maxHeartbeats 2000000 in
theorem copiedItem_any (v : Value) (x : It) (F : List Nat) (w : World) (h : RdIt w v x F) (hf : x.sk.fits) :
 Calls Try.prog 42 #[v] w fun e w' => NewIt w x e w' := by
 obtain ⟨a1, n1, c1, a2, n2, c2, a3, n3, c3, rfl, hr⟩ := h
 have HR : Hid (RdSk w (.agg #[.int .i64 x.sk.count, .int .i64 x.sk.sum, .int .i64 x.sk.min, .int .i64 x.sk.max, .slice a1 n1 c1, .slice a2 n2 c2, .slice a3 n3 c3]) x.sk F ∧ x.sk.fits) := ⟨hr, hf⟩
 clear hr hf
 have HT0 : Hid (_ ∧ _ ∧ _) := two_made w #[.int .i64 x.seq, .int .i64 x.cls, .int .i64 x.key, .int .i64 x.window, .int .i64 x.sk.count, .int .i64 x.sk.sum, .int .i64 x.sk.min, .int .i64 x.sk.max, .slice a1 n1 c1, .slice a2 n2 c2, .slice a3 n3 c3] #[.int .i64 0, .int .i64 0, .int .i64 0, .int .i64 0, .int .i64 0, .int .i64 0, .int .i64 0, .int .i64 0, .slice none 0 0, .slice none 0 0, .slice none 0 0] 36 36
 go_enter Try.func42, Try.ntmps42
 go_wp2_with (first | go_skip | (with_reducible refine stopLoad 34 rfl ?_))
 refine load_cut 34 w.heap.size 4 7 _ #[.int .i64 x.sk.count, .int .i64 x.sk.sum, .int .i64 x.sk.min, .int .i64 x.sk.max, .slice a1 n1 c1, .slice a2 n2 c2, .slice a3 n3 c3] 36 _ HT0.out.1 rfl rfl rfl Try.underlying34 rfl infoSkI (by simp) rfl ?_
 go_wp2_with fail
 refine (copiedSketch_all _ x.sk F _ (HR.out.1.below HT0.out.2.2) HR.out.2).mono ?_
 rintro e w1 ⟨v1, G, rfl, r1, o1, hb1⟩
 obtain ⟨b1, m1, d1, b2, m2, d2, b3, m3, d3, rfl⟩ := r1.cells7
 have HT1 : Hid (Blk w1 w.heap.size #[.int .i64 x.seq, .int .i64 x.cls, .int .i64 x.key, .int .i64 x.window, .int .i64 x.sk.count, .int .i64 x.sk.sum, .int .i64 x.sk.min, .int .i64 x.sk.max, .slice a1 n1 c1, .slice a2 n2 c2, .slice a3 n3 c3] 36 ∧ Blk w1 (w.heap.size + 1) #[.int .i64 0, .int .i64 0, .int .i64 0, .int .i64 0, .int .i64 0, .int .i64 0, .int .i64 0, .int .i64 0, .slice none 0 0, .slice none 0 0, .slice none 0 0] 36 ∧ Below w.heap.size w w1) := ⟨HT0.out.1.below hb1, HT0.out.2.1.below hb1, Below.next HT0.out.2.2 hb1⟩
 have HG : Hid (RdSk w1 (.agg #[.int .i64 x.sk.count, .int .i64 x.sk.sum, .int .i64 x.sk.min, .int .i64 x.sk.max, .slice b1 m1 d1, .slice b2 m2 d2, .slice b3 m3 d3]) x.sk G ∧ Own (w.heap.size + 2) w1 G) := ⟨r1, o1.mono HT0.out.2.1.lt⟩
 clear HT0 hb1 r1 o1 HR
 go_wp2_with (first | go_skip | (with_reducible refine stopStore 34 rfl ?_))
 refine store_cut 34 w.heap.size 4 _ #[.int .i64 x.sk.count, .int .i64 x.sk.sum, .int .i64 x.sk.min, .int .i64 x.sk.max, .slice b1 m1 d1, .slice b2 m2 d2, .slice b3 m3 d3] #[.int .i64 x.seq, .int .i64 x.cls, .int .i64 x.key, .int .i64 x.window, .int .i64 x.sk.count, .int .i64 x.sk.sum, .int .i64 x.sk.min, .int .i64 x.sk.max, .slice b1 m1 d1, .slice b2 m2 d2, .slice b3 m3 d3] 36 HT1.out.1 rfl rfl rfl rfl infoSkI (by exact Nat.le_refl 11) (by simp [Value.oneCell']) rfl ?_
 obtain ⟨E, hE⟩ : ∃ E : Array Value, E = #[.int .i64 x.seq, .int .i64 x.cls, .int .i64 x.key, .int .i64 x.window, .int .i64 x.sk.count, .int .i64 x.sk.sum, .int .i64 x.sk.min, .int .i64 x.sk.max, .slice b1 m1 d1, .slice b2 m2 d2, .slice b3 m3 d3] := ⟨_, rfl⟩
 rw [← hE]
 have HE : Hid (E = #[.int .i64 x.seq, .int .i64 x.cls, .int .i64 x.key, .int .i64 x.window, .int .i64 x.sk.count, .int .i64 x.sk.sum, .int .i64 x.sk.min, .int .i64 x.sk.max, .slice b1 m1 d1, .slice b2 m2 d2, .slice b3 m3 d3]) := hE
 have hE11 : E.size = 11 := by rw [hE]; rfl
 have hEone : E.all (·.oneCell') = true := by rw [hE]; simp [Value.oneCell']
 have nl : w.heap.size ∉ G := fun hx => by have := HG.out.2.ge _ hx; omega
 have HT2 : Hid (Blk (w1.setRow w.heap.size E) w.heap.size E 36 ∧ Blk (w1.setRow w.heap.size E) (w.heap.size + 1) #[.int .i64 0, .int .i64 0, .int .i64 0, .int .i64 0, .int .i64 0, .int .i64 0, .int .i64 0, .int .i64 0, .slice none 0 0, .slice none 0 0, .slice none 0 0] 36 ∧ Below w.heap.size w (w1.setRow w.heap.size E)) := ⟨HT1.out.1.setRow, HT1.out.2.1.setRowOther (by omega), below_setRow HT1.out.2.2 (by omega) _⟩
 have HG2 : Hid (RdSk (w1.setRow w.heap.size E) (.agg #[.int .i64 x.sk.count, .int .i64 x.sk.sum, .int .i64 x.sk.min, .int .i64 x.sk.max, .slice b1 m1 d1, .slice b2 m2 d2, .slice b3 m3 d3]) x.sk G ∧ Own (w.heap.size + 2) (w1.setRow w.heap.size E) G) := ⟨HG.out.1.agree (Agree.row nl E), HG.out.2.agree (Agree.row nl E)⟩
 obtain ⟨w2, hw2⟩ : ∃ W, W = w1.setRow w.heap.size E := ⟨_, rfl⟩
 rw [← hw2] at HT2 HG2 ⊢
 clear hw2 HT1 HG nl hE
 go_wp2_with (first | go_skip | (with_reducible refine stopLoad 36 rfl ?_))
 refine load_known 36 w.heap.size E 36 _ HT2.out.1 rfl rfl rfl Try.underlying36 rfl (by rw [hE11]; exact infoItP8) ?_
 go_wp2_with (first | go_skip | (with_reducible refine stopStore 36 rfl ?_))
 refine store_known 36 (w.heap.size + 1) _ E 36 HT2.out.2.1 rfl rfl rfl rfl (by rw [hE11]; exact infoItP8) (by rw [hE11]; rfl) hEone ?_
 have nr : w.heap.size + 1 ∉ G := fun hx => by have := HG2.out.2.ge _ hx; omega
 have HF : Hid (RdSk (w2.setRow (w.heap.size + 1) E) (.agg #[.int .i64 x.sk.count, .int .i64 x.sk.sum, .int .i64 x.sk.min, .int .i64 x.sk.max, .slice b1 m1 d1, .slice b2 m2 d2, .slice b3 m3 d3]) x.sk G ∧ Own w.heap.size (w2.setRow (w.heap.size + 1) E) G ∧ Below w.heap.size w (w2.setRow (w.heap.size + 1) E) ∧ Blk (w2.setRow (w.heap.size + 1) E) (w.heap.size + 1) E 36) := ⟨HG2.out.1.agree (Agree.row nr E), (HG2.out.2.agree (Agree.row nr E)).mono (by omega), below_setRow HT2.out.2.2 (by omega) _, HT2.out.2.1.setRow⟩
 clear HT2 HG2 nr
 go_wp2
 refine bodyPost_ret (results_cell_row Try.results42 _ _ (w.heap.size + 1) _ _ (0, 0) _ rfl HF.out.2.2.2 Try.underlying36 rfl (by rw [hE11]; exact infoItP8)) rfl ?_
 exact ⟨_, G, rfl, ⟨b1, m1, d1, b2, m2, d2, b3, m3, d3, by rw [HE.out], HF.out.1⟩, HF.out.2.1, HF.out.2.2.1⟩
/-- A new agent whose list can grow; the set lies apart from it. -/
def NewAgH (w : World) (x : Ag) (e : Ending) (w' : World) : Prop := ∃ (q1 : Option Addr) (k1 : Nat) (q2 : Option Addr) (l2 k2 : Nat) (F G : List Nat) (lo : Nat) (vs : List Value) (GG : List Nat),
 e = .returned (.agg #[.int .i64 x.id, .int .i64 x.epoch, .bool x.live, .int .i64 x.granted, .slice q1 x.sealed.length k1, .slice q2 l2 k2, .int .i64 x.next]) ∧ RdL itK w' q1 x.sealed.length x.sealed F ∧ RdP w' q2 l2 x.taken G ∧ Capd q1 x.sealed.length k1 ∧ Capd q2 l2 k2 ∧ Own w.heap.size w' F ∧ Own w.heap.size w' G ∧ (∀ b ∈ F, b ∉ G) ∧ Below w.heap.size w w' ∧
 GrowL itK 36 x.sealed lo x.sealed.length (.slice q1 x.sealed.length k1) vs GG w' ∧ w.heap.size ≤ lo ∧ (∀ b ∈ G, ¬ (Value.slice q1 x.sealed.length k1).ownBlock = some b) ∧ ∀ b ∈ GG, b ∉ G
theorem NewAgH.plain {w : World} {x : Ag} {e : Ending} {w' : World} (h : NewAgH w x e w') : NewAg w x e w' := by
 obtain ⟨q1, k1, q2, l2, k2, F, G, lo, vs, GG, rfl, r1, r2, c1, c2, o1, o2, ap, b, _⟩ := h
 exact ⟨_, F, G, rfl, ⟨q1, _, k1, q2, l2, k2, rfl, r1, r2, c1, c2⟩, o1, o2, ap, b⟩
theorem infoAgP8 : (Try.prog.info? 27).map (·.size) = some 7 := by kernel_rfl
theorem infoItsP8 : (Try.prog.info? 36).map (fun i => (i.zero, i.size, i.bytes)) = some (some (.agg #[.int .i64 0, .int .i64 0, .int .i64 0, .int .i64 0, .int .i64 0, .int .i64 0, .int .i64 0, .int .i64 0, .slice none 0 0, .slice none 0 0, .slice none 0 0]), 11, 136) := by kernel_rfl
/-- An agent's copy in the making, behind k items. -/
structure CpAg (w : World) (A : Array Value) (x : Ag) (lo k : Nat) (v : Value) (vs : List Value) (G : List Nat) (W : World) : Prop where
 box : Blk W w.heap.size A 27
 res : Blk W (w.heap.size + 1) #[.int .i64 0, .int .i64 0, .bool false, .int .i64 0, .slice none 0 0, .slice none 0 0, .int .i64 0] 27
 bel : Below w.heap.size w W
 grow : GrowL itK 36 x.sealed lo k v vs G W
 big : w.heap.size + 2 ≤ lo
theorem CpAg.below {w W W' : World} {A : Array Value} {x : Ag} {lo k : Nat} {v : Value} {vs : List Value} {G : List Nat} (h : CpAg w A x lo k v vs G W) (b : Below W.heap.size W W') : CpAg w A x lo k v vs G W' :=
 ⟨h.box.below b, h.res.below b, Below.next h.bel b, h.grow.below b, h.big⟩
theorem CpAg.step {w W W' : World} {A : Array Value} {x : Ag} {lo k : Nat} {v v' : Value} {vs vs' : List Value} {G G' : List Nat} (h : CpAg w A x lo k v vs G W) (hgrow : W.grownBy W' v.ownBlock) (hg : GrowL itK 36 x.sealed lo (k + 1) v' vs' G' W') : CpAg w A x lo (k + 1) v' vs' G' W' := by
 have big := h.big
 have ot : ∀ b, b < lo → W'.heap[b]? = W.heap[b]? := fun b hb => h.grow.other hgrow hb
 exact ⟨h.box.agree (ot _ (by omega)), h.res.agree (ot _ (by omega)), h.bel.grown hgrow h.bel.size (fun b hb => by have := (h.grow.row.lt b hb).1; omega), hg, big⟩
set_option maxRecDepth 200000 in
set_option maxHeartbeats 8000000 in
theorem copiedAgent_grow (v : Value) (x : Ag) (F0 G0 : List Nat) (w : World) (h : RdAg w v x F0 G0) (hf : ∀ y ∈ x.sealed, y.sk.fits) (hs : x.sealed.length ≤ 1048576) (hp : x.taken.length ≤ 1048576) :
 Calls Try.prog 40 #[v] w fun e w' => NewAgH w x e w' := by
 obtain ⟨j0, hj, hy0, hy1, hy2⟩ := info_parts infoItsP8
 obtain ⟨a1, n1, c1, a2, n2, c2, rfl, hL, hP, hc1, hc2⟩ := h
 have hn1 : n1 ≤ 1048576 := by rw [← hL.length]; exact hs
 have HL : Hid (RdL itK w a1 n1 x.sealed F0 ∧ (∀ y ∈ x.sealed, y.sk.fits) ∧ x.sealed.length = n1) := ⟨hL, hf, hL.length⟩
 have HP : Hid (RdP w a2 n2 x.taken G0 ∧ n2 ≤ 2097152) := ⟨hP, by rw [← hP.length]; omega⟩
 clear hL hP hf hs hp hc1 hc2
 have HT0 : Hid (_ ∧ _ ∧ _) := two_made w #[.int .i64 x.id, .int .i64 x.epoch, .bool x.live, .int .i64 x.granted, .slice a1 n1 c1, .slice a2 n2 c2, .int .i64 x.next] #[.int .i64 0, .int .i64 0, .bool false, .int .i64 0, .slice none 0 0, .slice none 0 0, .int .i64 0] 27 27
 obtain ⟨W0, hW0⟩ : ∃ W, W = (w.alloc (.cells #[.int .i64 x.id, .int .i64 x.epoch, .bool x.live, .int .i64 x.granted, .slice a1 n1 c1, .slice a2 n2 c2, .int .i64 x.next] 27)).alloc (.cells #[.int .i64 0, .int .i64 0, .bool false, .int .i64 0, .slice none 0 0, .slice none 0 0, .int .i64 0] 27) := ⟨_, rfl⟩
 have hs0 : W0.heap.size = w.heap.size + 2 := by rw [hW0]; simp
 go_enter Try.func40, Try.ntmps40
 go_wp2_with (at_make; refine wpList_make_own _ rfl _ _ 24 rfl (w.heap.size + 2) 36 j0 (.agg #[.int .i64 0, .int .i64 0, .int .i64 0, .int .i64 0, .int .i64 0, .int .i64 0, .int .i64 0, .int .i64 0, .slice none 0 0, .slice none 0 0, .slice none 0 0]) 11 Try.underlying24 hj hy0 hy1 .i64 .i64 _ n1 rfl rfl rfl (by rw [hy2]; omega) (by unfold maxLen; omega) (by simp) ?_)
 intro w1 hown hgrow
 have HG0 : Hid (CpAg w #[.int .i64 x.id, .int .i64 x.epoch, .bool x.live, .int .i64 x.granted, .slice a1 n1 c1, .slice a2 n2 c2, .int .i64 x.next] x (w.heap.size + 2) 0 (.slice (some ⟨w.heap.size + 1 + 1, 0, none⟩) 0 n1) [] [] w1) := by
  have hb1 : Below W0.heap.size W0 w1 := (Below.refl W0.heap.size W0).grown (by rw [hW0]; exact hgrow) (Nat.le_refl _) (fun k hk => by cases hk)
  rw [← hW0] at HT0
  have e : W0.heap.size = w.heap.size + 2 := hs0
  refine ⟨HT0.out.1.below hb1, HT0.out.2.1.below hb1, Below.next HT0.out.2.2 hb1, ⟨?_, by rw [List.take_zero]; exact RdC.nil, Own.nil, (fun b hb hx => by cases hx), by have := hb1.size; omega⟩, Nat.le_refl _⟩
  have q : w1.ownsRow (w.heap.size + 2) 36 11 (.slice (some ⟨w.heap.size + 1 + 1, 0, none⟩) 0 n1) 0 [] := by simpa using hown
  exact q
 have e4 := HG0.out.box.cell 4
 simp only [aT, aS, aZ] at e4
 clear hown hgrow HT0 hW0 hs0
 go_wp2_with fail
 clear e4
 go_loopw [3, 13] (fun q i wr => ∃ (k : Nat) (v : Value) (vs : List Value) (GG : List Nat), k ≤ n1 ∧ i = .int .i64 k ∧ v = q ∧ Hid (CpAg w #[.int .i64 x.id, .int .i64 x.epoch, .bool x.live, .int .i64 x.granted, .slice a1 n1 c1, .slice a2 n2 c2, .int .i64 x.next] x (w.heap.size + 2) k v vs GG wr)) (fun _ i _ => n1 - (intOf i).toNat)
 case atStart => exact ⟨0, _, [], [], by omega, rfl, rfl, HG0⟩
 case round =>
  clear HG0
  obtain ⟨k, v, vs, GG, hk, rfl, rfl, CSS⟩ := hrel
  by_cases hlt : k < n1
  ·
   have hI : (k : Int) < (n1 : Int) := by omega
   obtain ⟨b, off, ha, hbF, cs, Fi, hcs, hcc, hr, _⟩ := HL.out.1.get k hlt
   have ha' := ha.symm
   subst ha'
   have hbw : b < w.heap.size := HL.out.1.lt b hbF
   obtain ⟨y, hy⟩ : ∃ y, x.sealed[k]? = some y := ⟨_, List.getElem?_eq_getElem (by rw [HL.out.2.2]; exact hlt)⟩
   have HY : Hid (x.sealed[k]? = some y ∧ y.sk.fits ∧ cs.size = 11 ∧ RdIt w (.agg cs) y Fi ∧ cs.all (·.oneCell') = true) := ⟨hy, HL.out.2.1 y (List.mem_of_getElem? hy), hcs, hr y hy, by
    obtain ⟨a1, n1, c1, a2, n2, c2, a3, n3, c3, e⟩ := (hr y hy).cells11
    injection e with e
    rw [e]
    simp [Value.oneCell']⟩
   have HC : Hid (∀ j, j < 11 → wr.cell? ⟨b, off + k * 11 + j, none⟩ = cs[j]?) := fun j hj => by
    have q : wr.cell? ⟨b, off + k * 11 + j, none⟩ = w.cell? ⟨b, off + k * 11 + j, none⟩ := CSS.out.bel.cell (p := ⟨b, off + k * 11 + j, none⟩) hbw
    exact q.trans (hcc j hj)
   clear ha hbF hcs hcc hr hy
   go_wp2_with (first | go_skip | (with_reducible refine stopLoad 36 rfl ?_))
   refine load_at 36 b (off + k * 11) 11 cs _ HC.out HY.out.2.2.1 rfl rfl rfl Try.underlying36 rfl infoItP8 ?_
   go_wp2_with (first | go_skip | (with_reducible refine stopStore 36 rfl ?_))
   refine store_fresh 36 wr.heap.size rfl #[.int .i64 0, .int .i64 0, .int .i64 0, .int .i64 0, .int .i64 0, .int .i64 0, .int .i64 0, .int .i64 0, .slice none 0 0, .slice none 0 0, .slice none 0 0] cs 36 rfl rfl rfl rfl (by rw [HY.out.2.2.1]; exact infoItP8) (by rw [HY.out.2.2.1]; rfl) HY.out.2.2.2.2 ?_
   intro w2 hg2 hb2
   have CS2 : Hid (CpAg w #[.int .i64 x.id, .int .i64 x.epoch, .bool x.live, .int .i64 x.granted, .slice (some ⟨b, off, none⟩) n1 c1, .slice a2 n2 c2, .int .i64 x.next] x (w.heap.size + 2) k v vs GG w2 ∧ Blk w2 wr.heap.size cs 36) := ⟨CSS.out.below hb2, hg2⟩
   obtain ⟨X, hX⟩ : ∃ X, X = wr.heap.size := ⟨_, rfl⟩
   rw [← hX] at CS2 ⊢
   clear hg2 hb2 CSS HC hX
   go_wp2_with (first | go_skip | (with_reducible refine stopLoad 36 rfl ?_))
   refine load_known 36 X cs 36 _ CS2.out.2 rfl rfl rfl Try.underlying36 rfl (by rw [HY.out.2.2.1]; exact infoItP8) ?_
   go_wp2_with fail
   refine (copiedItem_any _ y Fi _ (HY.out.2.2.2.1.below CS2.out.1.bel) HY.out.2.1).mono ?_
   rintro e w3 ⟨v3, F3, rfl, r3, o3, hb3⟩
   obtain ⟨b1, m1, d1, b2, m2, d2, b3, m3, d3, rfl⟩ := r3.cells11
   have CS3 : Hid (CpAg w #[.int .i64 x.id, .int .i64 x.epoch, .bool x.live, .int .i64 x.granted, .slice (some ⟨b, off, none⟩) n1 c1, .slice a2 n2 c2, .int .i64 x.next] x (w.heap.size + 2) k v vs GG w3) := CS2.out.1.below hb3
   have HK : Hid (RdIt w3 (.agg #[.int .i64 y.seq, .int .i64 y.cls, .int .i64 y.key, .int .i64 y.window, .int .i64 y.sk.count, .int .i64 y.sk.sum, .int .i64 y.sk.min, .int .i64 y.sk.max, .slice b1 m1 d1, .slice b2 m2 d2, .slice b3 m3 d3]) y F3 ∧ Own w2.heap.size w3 F3 ∧ (∀ b ∈ GG, b < w2.heap.size) ∧ (∀ b, v.ownBlock = some b → b < w2.heap.size) ∧ w.heap.size + 2 ≤ w2.heap.size) := ⟨r3, o3, CS2.out.1.grow.lts⟩
   clear r3 o3 hb3 CS2
   go_wp2_with (with_reducible refine stopAppend rfl ?_)
   obtain ⟨W6, hW6⟩ : ∃ W, W = w3.alloc (.cells #[.int .i64 y.seq, .int .i64 y.cls, .int .i64 y.key, .int .i64 y.window, .int .i64 y.sk.count, .int .i64 y.sk.sum, .int .i64 y.sk.min, .int .i64 y.sk.max, .slice b1 m1 d1, .slice b2 m2 d2, .slice b3 m3 d3] 36) := ⟨_, rfl⟩
   have hbn : Below w3.heap.size w3 W6 := by rw [hW6]; exact (Below.refl _ _).alloc (Nat.le_refl _) _
   have HCN : Hid (∀ (j : Nat) (u : Value), [.int .i64 y.seq, .int .i64 y.cls, .int .i64 y.key, .int .i64 y.window, .int .i64 y.sk.count, .int .i64 y.sk.sum, .int .i64 y.sk.min, .int .i64 y.sk.max, .slice b1 m1 d1, .slice b2 m2 d2, .slice b3 m3 d3][j]? = some u → W6.cell? ((⟨w3.heap.size, 0, none⟩ : Addr).add j) = some u) := by rw [hW6]; exact news_lit w3 #[.int .i64 y.seq, .int .i64 y.cls, .int .i64 y.key, .int .i64 y.window, .int .i64 y.sk.count, .int .i64 y.sk.sum, .int .i64 y.sk.min, .int .i64 y.sk.max, .slice b1 m1 d1, .slice b2 m2 d2, .slice b3 m3 d3] 36
   have CS6 : Hid (CpAg w #[.int .i64 x.id, .int .i64 x.epoch, .bool x.live, .int .i64 x.granted, .slice (some ⟨b, off, none⟩) n1 c1, .slice a2 n2 c2, .int .i64 x.next] x (w.heap.size + 2) k v vs GG W6) := CS3.out.below hbn
   have HK6 : Hid (RdIt W6 (.agg #[.int .i64 y.seq, .int .i64 y.cls, .int .i64 y.key, .int .i64 y.window, .int .i64 y.sk.count, .int .i64 y.sk.sum, .int .i64 y.sk.min, .int .i64 y.sk.max, .slice b1 m1 d1, .slice b2 m2 d2, .slice b3 m3 d3]) y F3 ∧ Own w2.heap.size W6 F3) := ⟨HK.out.1.below hbn, HK.out.2.1.below (RdIt.lt HK.out.1) hbn⟩
   rw [← hW6]
   clear hW6 hbn CS3
   refine Stop.intro (wpList_append_lies _ rfl _ _ 24 rfl (w.heap.size + 2) 36 j0 (.agg #[.int .i64 0, .int .i64 0, .int .i64 0, .int .i64 0, .int .i64 0, .int .i64 0, .int .i64 0, .int .i64 0, .slice none 0 0, .slice none 0 0, .slice none 0 0]) 11 136 Try.underlying24 hj hy0 hy1 hy2 rfl (by decide) v k vs rfl CS6.out.grow.row ⟨w3.heap.size, 0, none⟩ 1 1 [.int .i64 y.seq, .int .i64 y.cls, .int .i64 y.key, .int .i64 y.window, .int .i64 y.sk.count, .int .i64 y.sk.sum, .int .i64 y.sk.min, .int .i64 y.sk.max, .slice b1 m1 d1, .slice b2 m2 d2, .slice b3 m3 d3] rfl rfl HCN.out (by simp [Value.oneCell']) (by omega) (by unfold maxLen; omega) (by omega) CS6.out.grow.lw _ rfl ?_)
   intro g4 cp4 W7 hown hgrow hat hlt7
   have CS7 : Hid (CpAg w #[.int .i64 x.id, .int .i64 x.epoch, .bool x.live, .int .i64 x.granted, .slice (some ⟨b, off, none⟩) n1 c1, .slice a2 n2 c2, .int .i64 x.next] x (w.heap.size + 2) (k + 1) (.slice (some ⟨g4, 0, none⟩) (k + 1) cp4) (vs ++ [.int .i64 y.seq, .int .i64 y.cls, .int .i64 y.key, .int .i64 y.window, .int .i64 y.sk.count, .int .i64 y.sk.sum, .int .i64 y.sk.min, .int .i64 y.sk.max, .slice b1 m1 d1, .slice b2 m2 d2, .slice b3 m3 d3]) (GG ++ F3) W7) := CS6.out.step hgrow (CS6.out.grow.step HY.out.1 HK6.out.1 rfl HK6.out.2 HK.out.2.2.1 HK.out.2.2.2.1 HK.out.2.2.2.2 hown hgrow hat)
   clear hown hgrow hat hlt7 CS6 HK6 HK HCN
   go_wp2
   go_roundw
   case rel => exact ⟨k + 1, _, _, _, by omega, by go_num, rfl, CS7⟩
   case measure => simp [intOf]; omega
  ·
   obtain rfl : k = n1 := by omega
   have HGW : Hid (CpAg w #[.int .i64 x.id, .int .i64 x.epoch, .bool x.live, .int .i64 x.granted, .slice a1 k c1, .slice a2 n2 c2, .int .i64 x.next] x (w.heap.size + 2) k v vs GG wr) := CSS
   have e5 := CSS.out.box.cell 5
   simp only [aT, aS, aZ] at e5
   clear CSS
   go_wp2_with fail
   refine (copiedSpans_any a2 n2 c2 x.taken G0 _ (HP.out.1.below HGW.out.bel) HP.out.2).mono ?_
   rintro e w2 ⟨p2, l2, k2, G2, rfl, r2, o2, hb2, hcp2⟩
   have HG2 : Hid (RdP w2 p2 l2 x.taken G2 ∧ Own wr.heap.size w2 G2 ∧ Capd p2 l2 k2 ∧ (∀ b ∈ GG, b < wr.heap.size) ∧ (∀ b, v.ownBlock = some b → b < wr.heap.size) ∧ w.heap.size + 2 ≤ wr.heap.size) := ⟨r2, o2, hcp2, HGW.out.grow.lts⟩
   have HW2 : Hid (CpAg w #[.int .i64 x.id, .int .i64 x.epoch, .bool x.live, .int .i64 x.granted, .slice a1 k c1, .slice a2 n2 c2, .int .i64 x.next] x (w.heap.size + 2) k v vs GG w2) := HGW.out.below hb2
   have c4 := HW2.out.box.cell 4
   have c5 := HW2.out.box.cell 5
   have f4 := HW2.out.box.frozen 4
   have f5 := HW2.out.box.frozen 5
   simp only [aT, aS, aZ] at c4 c5
   clear r2 o2 hb2 hcp2 HGW e5
   obtain ⟨q1, d1, F1, rfl, rL, oL, hcp, hpt⟩ := HW2.out.grow.done2 HL.out.2.2
   have HE : Hid (RdL itK w2 q1 k x.sealed F1 ∧ Own (w.heap.size + 2) w2 F1 ∧ Capd q1 k d1 ∧ ∀ b ∈ F1, (Value.slice q1 k d1).ownBlock = some b ∨ b ∈ GG) := ⟨rL, oL, hcp, hpt⟩
   clear rL oL hcp hpt
   go_wp2_with (first | go_skip | (with_reducible refine stopLoad 27 rfl ?_))
   obtain ⟨w4, hw4⟩ : ∃ W, W = (w2.setCell ⟨w.heap.size, 4, none⟩ (.slice q1 k d1)).setCell ⟨w.heap.size, 5, none⟩ (.slice p2 l2 k2) := ⟨_, rfl⟩
   have nF : w.heap.size ∉ F1 := fun hx => by have := HE.out.2.1.ge _ hx; omega
   have nG : w.heap.size ∉ G2 := fun hx => by have := HG2.out.2.1.ge _ hx; have := HG2.out.2.2.2.2.2; omega
   have H4 : Hid (Blk w4 w.heap.size #[.int .i64 x.id, .int .i64 x.epoch, .bool x.live, .int .i64 x.granted, .slice q1 k d1, .slice p2 l2 k2, .int .i64 x.next] 27 ∧ Blk w4 (w.heap.size + 1) #[.int .i64 0, .int .i64 0, .bool false, .int .i64 0, .slice none 0 0, .slice none 0 0, .int .i64 0] 27 ∧ Below w.heap.size w w4 ∧ RdL itK w4 q1 k x.sealed F1 ∧ Own (w.heap.size + 2) w4 F1 ∧ RdP w4 p2 l2 x.taken G2 ∧ Own wr.heap.size w4 G2 ∧ GrowL itK 36 x.sealed (w.heap.size + 2) k (.slice q1 k d1) vs GG w4) := by
    rw [hw4]
    have agF := ((Agree.refl w2 F1).thenSet nF 4 (.slice q1 k d1)).thenSet nF 5 (.slice p2 l2 k2)
    have agG := ((Agree.refl w2 G2).thenSet nG 4 (.slice q1 k d1)).thenSet nG 5 (.slice p2 l2 k2)
    exact ⟨(HW2.out.box.set 4 _).set 5 _, (HW2.out.res.setOther (by omega) 4 _).setOther (by omega) 5 _, (HW2.out.bel.setCell (by show w.heap.size ≤ w.heap.size; omega) _).setCell (by show w.heap.size ≤ w.heap.size; omega) _, HE.out.1.agree agF, HE.out.2.1.agree agF, HG2.out.1.agree agG, HG2.out.2.1.agree agG, (HW2.out.grow.set (by omega)).set (by omega)⟩
   have HJ : Hid (Capd q1 k d1 ∧ Capd p2 l2 k2 ∧ (∀ b ∈ F1, b ∉ G2) ∧ (∀ b ∈ G2, ¬ (Value.slice q1 k d1).ownBlock = some b) ∧ (∀ b ∈ GG, b ∉ G2) ∧ w.heap.size + 2 ≤ wr.heap.size) := by
    refine ⟨HE.out.2.2.1, HG2.out.2.2.1, fun b hb hx => ?_, fun b hb e => ?_, fun b hb hx => ?_, HG2.out.2.2.2.2.2⟩
    ·
     have h1 := HG2.out.2.1.ge b hx
     rcases HE.out.2.2.2 b hb with q | q
     ·
      have := HG2.out.2.2.2.2.1 b q; omega
     ·
      have := HG2.out.2.2.2.1 b q; omega
    ·
     have h1 := HG2.out.2.1.ge b hb; have h2 := HG2.out.2.2.2.2.1 b e; omega
    ·
     have h1 := HG2.out.2.1.ge b hx; have h2 := HG2.out.2.2.2.1 b hb; omega
   rw [← hw4]
   clear hw4 nF nG c4 c5 f4 f5 HW2 HG2 HE
   refine load_known 27 w.heap.size _ 27 _ H4.out.1 rfl rfl rfl Try.underlying27 rfl infoAgP8 ?_
   go_wp2_with (first | go_skip | (with_reducible refine stopStore 27 rfl ?_))
   refine store_known 27 (w.heap.size + 1) _ #[.int .i64 x.id, .int .i64 x.epoch, .bool x.live, .int .i64 x.granted, .slice q1 k d1, .slice p2 l2 k2, .int .i64 x.next] 27 H4.out.2.1 rfl rfl rfl rfl infoAgP8 rfl (by simp [Value.oneCell']) ?_
   go_wp2
   refine bodyPost_ret (results_cell_row Try.results40 _ _ (w.heap.size + 1) _ _ (0, 0) _ rfl H4.out.2.1.setRow Try.underlying27 rfl infoAgP8) rfl ?_
   have nr : w.heap.size + 1 ∉ F1 := fun hx => by have := H4.out.2.2.2.2.1.ge _ hx; omega
   have mr : w.heap.size + 1 ∉ G2 := fun hx => by have := H4.out.2.2.2.2.2.2.1.ge _ hx; have := HJ.out.2.2.2.2.2; omega
   have hk' := HL.out.2.2
   subst hk'
   exact ⟨q1, d1, p2, l2, k2, F1, G2, w.heap.size + 2, vs, GG, rfl, H4.out.2.2.2.1.agree (Agree.row nr _), H4.out.2.2.2.2.2.1.agree (Agree.row mr _), HJ.out.1, HJ.out.2.1, (H4.out.2.2.2.2.1.agree (Agree.row nr _)).mono (by omega), (H4.out.2.2.2.2.2.2.1.agree (Agree.row mr _)).mono (by have := HJ.out.2.2.2.2.2; omega), HJ.out.2.2.1, below_setRow H4.out.2.2.1 (by omega) _, H4.out.2.2.2.2.2.2.2.setRow (by omega), by omega, HJ.out.2.2.2.1, HJ.out.2.2.2.2.1⟩
set_option maxRecDepth 200000 in
theorem copiedAgent_any (v : Value) (x : Ag) (F0 G0 : List Nat) (w : World) (h : RdAg w v x F0 G0) (hf : ∀ y ∈ x.sealed, y.sk.fits) (hs : x.sealed.length ≤ 1048576) (hp : x.taken.length ≤ 1048576) :
 Calls Try.prog 40 #[v] w fun e w' => NewAg w x e w' := (copiedAgent_grow v x F0 G0 w h hf hs hp).mono fun _ _ h => h.plain
end Go.Proofs.Ytgkbhhlkaifnoaa
/- An entry as the program holds it, in memory. No statement of the seat is proved here. -/
namespace Go.Proofs.Ytgkbhhlkaifnoaa
open Go.RowKit
theorem wrapI {n : Int} (h : -9223372036854775808 ≤ n ∧ n ≤ 9223372036854775807) : IntKind.i64.wrap n = n := by
 simp [IntKind.wrap, IntKind.bits, IntKind.signed]
 omega
end Go.Proofs.Ytgkbhhlkaifnoaa
/- What the walks through the model's Seal and the program's share. No statement of the seat is proved here. -/
namespace Go.Proofs.Ytgkbhhlkaifnoaa
open Go.RowKit
def Ag.item (x : Ag) (c k n : Int) (s : Sk) : It := ⟨(x.sealed.length : Int) + 1, c, k, n, s⟩
def Ag.plus (x : Ag) (y : It) : Ag := ⟨x.id, x.epoch, x.live, x.granted, x.sealed ++ [y], x.taken, x.next⟩
/-- An agent behind a Seal, and what it tells. -/
def Ag.seal (x : Ag) (c k n : Int) (s : Sk) : Ag × Int := if x.ok = true ∧ (x.item c k n s).ok = true then (x.plus (x.item c k n s), (x.sealed.length : Int) + 1) else (x, 0)
theorem itsOk_snoc (xs : List It) (y : It) (h : itsOk xs = true) (hs : y.seq = (xs.length : Int) + 1) : itsOk (xs ++ [y]) = y.ok := by
 cases e : y.ok
 ·
  exact itsOk_not (k := xs.length) (y := y) (by simp) (.inl e)
 ·
  refine itsOk_all (fun k z hz => ?_)
  by_cases hk : k < xs.length
  ·
   rw [List.getElem?_append_left hk] at hz
   exact itsOk_at h hz
  ·
   have h1 : k < (xs ++ [y]).length := (List.getElem?_eq_some_iff.1 hz).1
   have h2 : k = xs.length := by rw [List.length_append] at h1; simp at h1; omega
   subst h2
   rw [List.getElem?_append_right (Nat.le_refl _)] at hz
   simp at hz
   subst hz
   exact ⟨e, hs⟩
theorem Sp.under_mono {ps : Sp} {m m' : Int} (h : ps.under m = true) (hm : m ≤ m') : ps.under m' = true := by
 refine Sp.under_all (fun k hk => ?_)
 unfold Sp.under at h
 rw [List.all_eq_true] at h
 have := of_decide_eq_true (h k (List.mem_range.2 hk))
 omega
theorem Ag.plus_ok (x : Ag) (c k n : Int) (s : Sk) (h : x.ok = true) : (x.plus (x.item c k n s)).ok = (x.item c k n s).ok := by
 rw [Ag.ok_prog] at h
 rw [Ag.ok_prog]
 simp only [Bool.and_eq_true] at h
 obtain ⟨⟨⟨⟨⟨h1, h2⟩, h3⟩, h4⟩, h5⟩, h6, h7, h8⟩ := h
 show (decide (0 ≤ x.id ∧ x.id ≤ 2) && decide (0 ≤ x.epoch ∧ x.epoch ≤ 1000) && decide (0 ≤ x.granted ∧ x.granted ≤ 60) && decide (0 ≤ x.next ∧ x.next ≤ 60) && (x.live || decide (x.granted ≤ 0)) && (itsOk (x.sealed ++ [x.item c k n s]) && (x.taken.ok && x.taken.under (x.sealed ++ [x.item c k n s]).length))) = _
 rw [h1, h2, h3, h4, h5, h7, itsOk_snoc _ _ h6 rfl, Sp.under_mono h8 (by rw [List.length_append]; simp; try omega)]
 simp
section
variable {α : Type} {K : ElK α} {e : TypeId} {xs : List α} {lo k : Nat} {v : Value} {vs : List Value} {G : List Nat} {W W' : World}
/-- A list that has all of its elements may get one more. -/
theorem GrowL.extend (h : GrowL K e xs lo k v vs G W) (hk : xs.length = k) (z : α) : GrowL K e (xs ++ [z]) lo k v vs G W :=
 ⟨h.row, by rw [List.take_append_of_le_length (by omega)]; exact h.rd, h.og, h.ap, h.lw⟩
end
section
variable {α : Type} {K : ElK α} {e : TypeId} {xs : List α} {lo k : Nat} {v : Value} {vs : List Value} {G : List Nat} {W W' : World}
theorem GrowL.keep (h : GrowL K e xs lo k v vs G W) (hv : ∀ b, v.ownBlock = some b → W'.heap[b]? = W.heap[b]?) (hG : Agree W W' G) (hs : W.heap.size ≤ W'.heap.size) : GrowL K e xs lo k v vs G W' := by
 refine ⟨⟨h.row.1, ?_⟩, h.rd.agree hG, h.og.agree hG, h.ap, Nat.le_trans h.lw hs⟩
 rcases h.row.2 with q | ⟨g', cap, cur, h1, h2, h3, h4⟩
 ·
  exact .inl q
 ·
  exact .inr ⟨g', cap, cur, h1, h2, by rw [hv g' (by rw [h1]; rfl)]; exact h3, h4⟩
end
/-- A list of items that may get one more; B: its blocks are newer, L: none of them is this, nor of G. -/
def GrA (B L : Nat) (v : Value) (n : Nat) (xs : List It) (G : List Nat) (W : World) : Prop := ∃ lo vs GG, B ≤ lo ∧ GrowL itK 36 xs lo n v vs GG W ∧ xs.length = n ∧ (∀ b, v.ownBlock = some b → b ≠ L ∧ b ∉ G) ∧ (∀ b ∈ GG, b ≠ L ∧ b ∉ G)
section
variable {B L L' B' : Nat} {v : Value} {n : Nat} {xs : List It} {G G' : List Nat} {W W' : World}
theorem GrA.low (h : GrA B L v n xs G W) (hk : ∀ b, B ≤ b → b ≠ L → b < W.heap.size → W'.heap[b]? = W.heap[b]?) (hs : W.heap.size ≤ W'.heap.size) : GrA B L v n xs G W' := by
 obtain ⟨lo, vs, GG, h1, h2, h3, h4, h5⟩ := h
 exact ⟨lo, vs, GG, h1, h2.keep (fun b e => hk b (Nat.le_trans h1 (h2.row.lt b e).1) (h4 b e).1 (h2.row.lt b e).2) (fun b hb => hk b (Nat.le_trans h1 (h2.og.ge b hb)) (h5 b hb).1 (h2.rd.lt b hb)) hs, h3, h4, h5⟩
theorem GrA.below (h : GrA B L v n xs G W) (b : Below W.heap.size W W') : GrA B L v n xs G W' := h.low (fun x _ _ hx => b.block x hx) b.size
theorem GrA.cell (h : GrA B L v n xs G W) {g j : Nat} {u : Value} (hg : g < B ∨ g = L) : GrA B L v n xs G (W.setCell ⟨g, j, none⟩ u) := h.low (fun b h1 h2 _ => Below.heap_setCell W ⟨g, j, none⟩ u b (by show b ≠ g; omega)) (by simp)
theorem GrA.row (h : GrA B L v n xs G W) {g : Nat} {ds : Array Value} (hg : g < B ∨ g = L) : GrA B L v n xs G (W.setRow g ds) := h.low (fun b h1 h2 _ => setRow_other W g b ds (by omega)) (below_setRow (Below.refl 0 W) (Nat.zero_le g) ds).size
theorem GrA.next (h : GrA B L v n xs G W) {q : Nat} (g : W.grownBy W' (some q)) (hq : q < B) : GrA B L v n xs G W' := h.low (fun b h1 _ h3 => g.block b h3 (fun e => by simp at e; omega)) g.size
theorem GrA.at (h : GrA B L v n xs G W) (hL : L' < B ∨ W.heap.size ≤ L') : GrA B L' v n xs G W := by
 obtain ⟨lo, vs, GG, h1, h2, h3, h4, h5⟩ := h
 exact ⟨lo, vs, GG, h1, h2, h3, fun b e => ⟨by have := h2.row.lt b e; omega, (h4 b e).2⟩, fun b hb => ⟨by have := h2.og.ge b hb; have := h2.rd.lt b hb; omega, (h5 b hb).2⟩⟩
theorem GrA.mono (h : GrA B L v n xs G W) (hB : B' ≤ B) : GrA B' L v n xs G W := by
 obtain ⟨lo, vs, GG, h1, h2⟩ := h
 exact ⟨lo, vs, GG, Nat.le_trans hB h1, h2⟩
theorem GrA.fresh (h : GrA B L v n xs G W) (hG : ∀ b ∈ G', W.heap.size ≤ b) : GrA B L v n xs G' W := by
 obtain ⟨lo, vs, GG, h1, h2, h3, h4, h5⟩ := h
 exact ⟨lo, vs, GG, h1, h2, h3, fun b e => ⟨(h4 b e).1, fun hx => by have := h2.row.lt b e; have := hG b hx; omega⟩, fun b hb => ⟨(h5 b hb).1, fun hx => by have := h2.rd.lt b hb; have := hG b hx; omega⟩⟩
theorem GrA.start (hB : B ≤ W.heap.size) : GrA B L (.slice none 0 0) 0 [] G W := ⟨W.heap.size, [], [], hB, GrowL.start (Nat.le_refl _), rfl, (fun b hb => by cases hb), fun b hb => by cases hb⟩
/-- One more item behind it. -/
theorem GrA.add (h : GrA B L v n xs G W) {y : It} {cs : Array Value} {Fk : List Nat} {g4 cp4 M lo : Nat} {vs : List Value} {GG : List Nat} (h1 : B ≤ lo) (h2 : GrowL itK 36 xs lo n v vs GG W) (h4 : ∀ b, v.ownBlock = some b → b ≠ L ∧ b ∉ G) (h5 : ∀ b ∈ GG, b ≠ L ∧ b ∉ G)
 (rk : RdIt W (.agg cs) y Fk) (hn : cs.size = 11) (ok : Own M W Fk) (hM : lo ≤ M ∧ (∀ b, v.ownBlock = some b → b < M) ∧ (∀ b ∈ GG, b < M) ∧ (∀ b ∈ G, b < M) ∧ L < M) (hW : M ≤ W.heap.size)
 (hown : W'.ownsRow lo 36 11 (.slice (some ⟨g4, 0, none⟩) (n + 1) cp4) (n + 1) (vs ++ cs.toList)) (hgrow : W.grownBy W' v.ownBlock) (hat : v.ownBlock = some g4 ∨ g4 = W.heap.size) :
 ∃ F', RdL itK W' (some ⟨g4, 0, none⟩) (n + 1) (xs ++ [y]) F' ∧ Own B W' F' ∧ Capd (some ⟨g4, 0, none⟩) (n + 1) cp4 ∧ (∀ b ∈ F', b ≠ L ∧ b ∉ G) ∧ ∀ b, b < W.heap.size → (b < B ∨ b = L ∨ b ∈ G) → W'.heap[b]? = W.heap[b]? := by
 obtain ⟨_, _, _, _, _, h3, _, _⟩ := h
 have hx : (xs ++ [y])[n]? = some y := by rw [← h3]; simp
 have g1 := (h2.extend h3 y).step hx rk hn ok hM.2.2.1 hM.2.1 hM.1 hown hgrow hat
 obtain ⟨q, cp, F', e, r, o, cpd, pt⟩ := g1.done2 (by rw [List.length_append, h3]; rfl)
 injection e with e1 e2 e3
 subst e1; subst e3
 refine ⟨F', r, o.mono h1, cpd, fun b hb => ?_, fun b hb hc => hgrow.block b hb (fun e => ?_)⟩
 ·
  rcases pt b hb with q | q
  ·
   have hb' : b = g4 := by simpa [Value.ownBlock] using q.symm
   subst hb'
   rcases hat with q | q
   ·
    exact h4 b q
   ·
    exact ⟨by have := hM.2.2.2.2; omega, fun hg => by have := hM.2.2.2.1 b hg; omega⟩
  ·
   rcases List.mem_append.1 q with q | q
   ·
    exact h5 b q
   ·
    exact ⟨fun e => by have := ok.ge b q; have := hM.2.2.2.2; omega, fun hg => by have := ok.ge b q; have := hM.2.2.2.1 b hg; omega⟩
 ·
  have := (h2.row.lt b e.symm).1
  rcases hc with hc | hc | hc
  ·
   omega
  ·
   exact (h4 b e.symm).1 hc
  ·
   exact (h4 b e.symm).2 hc
end
/-- What a Seal tells, with room behind its list. -/
def NewAg2R (w : World) (z : Ag × Int) (e : Ending) (w' : World) : Prop := ∃ cs F G c, e = .returned (.tuple #[.agg cs, .int .i64 c]) ∧ RdAg w' (.agg cs) z.1 F G ∧ c = z.2 ∧ Own w.heap.size w' F ∧ Own w.heap.size w' G ∧ (∀ b ∈ F, b ∉ G) ∧ Below w.heap.size w w' ∧ ∃ v, cs[4]? = some v ∧ GrA w.heap.size w'.heap.size v z.1.sealed.length z.1.sealed G w'
theorem NewAg2R.plain {w : World} {z : Ag × Int} {e : Ending} {w' : World} (h : NewAg2R w z e w') : NewAg2 w z e w' := by
 obtain ⟨cs, F, G, c, e1, r1, r2, r3, r4, r5, r6, _⟩ := h
 exact ⟨_, F, G, c, e1, r1, r2, r3, r4, r5, r6⟩
theorem NewAgH.room {w : World} {x : Ag} {e : Ending} {w' : World} (h : NewAgH w x e w') : ∃ cs F G, e = .returned (.agg cs) ∧ RdAg w' (.agg cs) x F G ∧ Own w.heap.size w' F ∧ Own w.heap.size w' G ∧ (∀ b ∈ F, b ∉ G) ∧ Below w.heap.size w w' ∧ ∃ v, cs[4]? = some v ∧ GrA w.heap.size w'.heap.size v x.sealed.length x.sealed G w' := by
 obtain ⟨q1, k1, q2, l2, k2, F, G, lo, vs, GG, rfl, r1, r2, c1, c2, o1, o2, ap, b, g, hlo, h1, h2⟩ := h
 exact ⟨_, F, G, rfl, ⟨q1, _, k1, q2, l2, k2, rfl, r1, r2, c1, c2⟩, o1, o2, ap, b, _, rfl, lo, vs, GG, hlo, g, rfl, fun y e => ⟨by have := g.lts.2.1 y e; omega, fun hy => h1 y hy e⟩, fun y hy => ⟨by have := g.lts.1 y hy; omega, h2 y hy⟩⟩
theorem NewAgG.apart {w : World} {x : Ag} {e : Ending} {w' : World} (h : NewAgG w x e w') : NewAgH w x e w' := by
 obtain ⟨q1, k1, q2, l2, k2, F, G, lo, vs, GG, he, r1, r2, c1, c2, o1, o2, ap, b, g, hlo, hG⟩ := h
 exact ⟨q1, k1, q2, l2, k2, F, G, lo, vs, GG, he, r1, r2, c1, c2, o1, o2, ap, b, g, hlo, fun y hy e => by have := (g.row.lt y e).1; have := hG y hy; omega, fun y hy hx => by have := g.og.ge y hy; have := hG y hx; omega⟩
/-- A copy of an agent whose list may get one more; L: behind it all is newer. -/
structure SealC (B L lo n1 : Nat) (x : Ag) (q1 : Option Addr) (k1 : Nat) (q2 : Option Addr) (l2 k2 : Nat) (F G GG : List Nat) (vs : List Value) (W : World) : Prop where
 len : x.sealed.length = n1
 rl : RdL itK W q1 n1 x.sealed F
 rp : RdP W q2 l2 x.taken G
 cp1 : Capd q1 n1 k1
 cp2 : Capd q2 l2 k2
 oF : Own B W F
 oG : Own B W G
 ap : ∀ b ∈ F, b ∉ G
 gr : GrowL itK 36 x.sealed lo n1 (.slice q1 n1 k1) vs GG W
 hlo : B ≤ lo
 g1 : ∀ b ∈ G, ¬ (Value.slice q1 n1 k1).ownBlock = some b
 g2 : ∀ b ∈ GG, b ∉ G
 l1 : ∀ b ∈ F, b < L
 l2' : ∀ b ∈ G, b < L
 l3 : ∀ b ∈ GG, b < L
 l4 : ∀ b, (Value.slice q1 n1 k1).ownBlock = some b → b < L
 l5 : lo ≤ L
theorem SealC.below {B L lo n1 : Nat} {x : Ag} {q1 : Option Addr} {k1 : Nat} {q2 : Option Addr} {l2 k2 : Nat} {F G GG : List Nat} {vs : List Value} {W W' : World} (h : SealC B L lo n1 x q1 k1 q2 l2 k2 F G GG vs W) (b : Below W.heap.size W W') : SealC B L lo n1 x q1 k1 q2 l2 k2 F G GG vs W' :=
 ⟨h.len, h.rl.below b, h.rp.below b, h.cp1, h.cp2, h.oF.below h.rl.lt b, h.oG.below h.rp.lt b, h.ap, h.gr.below b, h.hlo, h.g1, h.g2, h.l1, h.l2', h.l3, h.l4, h.l5⟩
theorem NewAgH.at {w : World} {x : Ag} {e : Ending} {w' : World} {n1 : Nat} (h : NewAgH w x e w') (hn : x.sealed.length = n1) : ∃ (q1 : Option Addr) (k1 : Nat) (q2 : Option Addr) (l2 k2 : Nat) (F G GG : List Nat) (lo : Nat) (vs : List Value),
 e = .returned (.agg #[.int .i64 x.id, .int .i64 x.epoch, .bool x.live, .int .i64 x.granted, .slice q1 n1 k1, .slice q2 l2 k2, .int .i64 x.next]) ∧ SealC w.heap.size w'.heap.size lo n1 x q1 k1 q2 l2 k2 F G GG vs w' ∧ Below w.heap.size w w' := by
 subst hn
 obtain ⟨q1, k1, q2, l2, k2, F, G, lo, vs, GG, he, r1, r2, c1, c2, o1, o2, ap, b, g, hlo, h1, h2⟩ := h
 exact ⟨q1, k1, q2, l2, k2, F, G, GG, lo, vs, he, ⟨rfl, r1, r2, c1, c2, o1, o2, ap, g, hlo, h1, h2, r1.lt, r2.lt, g.lts.1, g.lts.2.1, g.lts.2.2⟩, b⟩
/-- What a Seal has before it: the agent, the summary, the result's place. -/
structure SealW (w : World) (A S : Array Value) (W : World) : Prop where
 box : Blk W w.heap.size A 27
 sk : Blk W (w.heap.size + 1) S 34
 res : Blk W (w.heap.size + 1 + 1) #[.int .i64 0, .int .i64 0, .bool false, .int .i64 0, .slice none 0 0, .slice none 0 0, .int .i64 0] 27
 bel : Below w.heap.size w W
theorem SealW.below {w W W' : World} {A S : Array Value} (h : SealW w A S W) (b : Below W.heap.size W W') : SealW w A S W' := ⟨h.box.below b, h.sk.below b, h.res.below b, Below.next h.bel b⟩
theorem SealW.made (w : World) (A S : Array Value) : SealW w A S (((w.alloc (.cells A 27)).alloc (.cells S 34)).alloc (.cells #[.int .i64 0, .int .i64 0, .bool false, .int .i64 0, .slice none 0 0, .slice none 0 0, .int .i64 0] 27)) :=
 ⟨((Blk.made _ _ _).alloc _).alloc _, (Blk.made_eq (by simp)).alloc _, Blk.made_eq (by simp), Below.allocW _ (Below.allocW _ (Below.allocW _ (Below.refl _ _) (Nat.le_refl _)) (Nat.le_refl _)) (Nat.le_refl _)⟩
theorem SealW.kept {w W W' : World} {A S : Array Value} (h : SealW w A S W) (hk : ∀ b, b < w.heap.size + 3 → W'.heap[b]? = W.heap[b]?) (hs : W.heap.size ≤ W'.heap.size) (hb : Below w.heap.size w W') : SealW w A S W' := by
 have _ := hs
 exact ⟨h.box.agree (hk _ (by omega)), h.sk.agree (hk _ (by omega)), h.res.agree (hk _ (by omega)), hb⟩
/-- .. and the copy in a variable at L. -/
structure SealL (w : World) (A S : Array Value) (B L lo n1 : Nat) (x : Ag) (q1 : Option Addr) (k1 : Nat) (q2 : Option Addr) (l2 k2 : Nat) (F G GG : List Nat) (vs : List Value) (W : World) : Prop where
 base : SealW w A S W
 loc : Blk W L #[.int .i64 x.id, .int .i64 x.epoch, .bool x.live, .int .i64 x.granted, .slice q1 n1 k1, .slice q2 l2 k2, .int .i64 x.next] 27
 c : SealC B L lo n1 x q1 k1 q2 l2 k2 F G GG vs W
 gB : w.heap.size + 3 ≤ B
 gL : B ≤ L
theorem SealL.below {w : World} {A S : Array Value} {B L lo n1 : Nat} {x : Ag} {q1 : Option Addr} {k1 : Nat} {q2 : Option Addr} {l2 k2 : Nat} {F G GG : List Nat} {vs : List Value} {W W' : World} (h : SealL w A S B L lo n1 x q1 k1 q2 l2 k2 F G GG vs W) (b : Below W.heap.size W W') : SealL w A S B L lo n1 x q1 k1 q2 l2 k2 F G GG vs W' := ⟨h.base.below b, h.loc.below b, h.c.below b, h.gB, h.gL⟩
/-- .. and behind the append. -/
structure SealD (w : World) (A S : Array Value) (L : Nat) (C : Array Value) (y : Ag) (F G : List Nat) (W : World) : Prop where
 base : SealW w A S W
 loc : Blk W L C 27
 rd : RdAg W (.agg C) y F G
 oF : Own (w.heap.size + 3) W F
 oG : Own (w.heap.size + 3) W G
 ap : ∀ b ∈ F, b ∉ G
 gL : w.heap.size + 3 ≤ L
 rm : ∃ v, C[4]? = some v ∧ GrA (w.heap.size + 3) L v y.sealed.length y.sealed G W
theorem SealD.below {w : World} {A S : Array Value} {L : Nat} {C : Array Value} {y : Ag} {F G : List Nat} {W W' : World} (h : SealD w A S L C y F G W) (b : Below W.heap.size W W') : SealD w A S L C y F G W' :=
 ⟨h.base.below b, h.loc.below b, h.rd.below b, h.oF.below h.rd.lt1 b, h.oG.below h.rd.lt2 b, h.ap, h.gL, let ⟨v, e, g⟩ := h.rm; ⟨v, e, g.below b⟩⟩
theorem SealL.done {w : World} {A S : Array Value} {B L lo n1 : Nat} {x : Ag} {q1 : Option Addr} {k1 : Nat} {q2 : Option Addr} {l2 k2 : Nat} {F G GG : List Nat} {vs : List Value} {W W' : World} (h : SealL w A S B L lo n1 x q1 k1 q2 l2 k2 F G GG vs W) {y : It} {cs : Array Value} {Fk : List Nat} {g4 cp4 : Nat}
 (rk : RdIt W (.agg cs) y Fk) (hn : cs.size = 11) (ok : Own (L + 1) W Fk)
 (hown : W'.ownsRow lo 36 11 (.slice (some ⟨g4, 0, none⟩) (n1 + 1) cp4) (n1 + 1) (vs ++ cs.toList)) (hgrow : W.grownBy W' (Value.slice q1 n1 k1).ownBlock) (hat : (Value.slice q1 n1 k1).ownBlock = some g4 ∨ g4 = W.heap.size) :
 SealW w A S W' ∧ Blk W' L #[.int .i64 x.id, .int .i64 x.epoch, .bool x.live, .int .i64 x.granted, .slice q1 n1 k1, .slice q2 l2 k2, .int .i64 x.next] 27 ∧ ∃ F', SealD w A S L #[.int .i64 x.id, .int .i64 x.epoch, .bool x.live, .int .i64 x.granted, .slice (some ⟨g4, 0, none⟩) (n1 + 1) cp4, .slice q2 l2 k2, .int .i64 x.next] (x.plus y) F' G (W'.setCell ⟨L, 4, none⟩ (.slice (some ⟨g4, 0, none⟩) (n1 + 1) cp4)) := by
 have gB := h.gB; have gL := h.gL; have hlo := h.c.hlo; have l5 := h.c.l5
 have hLW := h.loc.lt
 have hx : (x.sealed ++ [y])[n1]? = some y := by rw [← h.c.len]; simp
 have g0 := h.c.gr.extend h.c.len y
 have g1 := g0.step hx rk hn ok (fun b hb => by have := h.c.l3 b hb; omega) (fun b hb => by have := h.c.l4 b hb; omega) (by omega) hown hgrow hat
 obtain ⟨q, cp, F', e, r, o, cpd, pt⟩ := g1.done2 (by rw [List.length_append, h.c.len]; rfl)
 injection e with e1 e2 e3
 subst e1; subst e3
 have kp : ∀ b, b < W.heap.size → ¬ (Value.slice q1 n1 k1).ownBlock = some b → W'.heap[b]? = W.heap[b]? := fun b hb hq => hgrow.block b hb (fun e => hq e.symm)
 have lw : ∀ b, b < lo → W'.heap[b]? = W.heap[b]? := fun b hb => h.c.gr.other hgrow hb
 have bel : Below w.heap.size w W' := h.base.bel.grown hgrow h.base.bel.size (fun b hb => by have := (h.c.gr.row.lt b hb).1; omega)
 have base : SealW w A S W' := h.base.kept (fun b hb => lw b (by omega)) hgrow.size bel
 have loc : Blk W' L #[.int .i64 x.id, .int .i64 x.epoch, .bool x.live, .int .i64 x.granted, .slice q1 n1 k1, .slice q2 l2 k2, .int .i64 x.next] 27 := h.loc.agree (kp L hLW (fun e => by have := h.c.l4 L e; omega))
 have agG : Agree W W' G := fun b hb => kp b (h.c.rp.lt b hb) (h.c.g1 b hb)
 have hF : ∀ b ∈ F', b ∉ G ∧ b ≠ L := fun b hb => by
  rcases pt b hb with q | q
  ·
   have hb' : b = g4 := by simpa [Value.ownBlock] using q.symm
   subst hb'
   rcases hat with q | q
   ·
    exact ⟨fun hg => h.c.g1 b hg q, fun e => by have := h.c.l4 b q; omega⟩
   ·
    exact ⟨fun hg => by have := h.c.rp.lt b hg; omega, by omega⟩
  ·
   rcases List.mem_append.1 q with q | q
   ·
    exact ⟨h.c.g2 b q, fun e => by have := h.c.l3 b q; omega⟩
   ·
    exact ⟨fun hg => by have := ok.ge b q; have := h.c.l2' b hg; omega, fun e => by have := ok.ge b q; omega⟩
 have nF : L ∉ F' := fun hx => (hF L hx).2 rfl
 have nG : L ∉ G := fun hx => by have := h.c.l2' L hx; omega
 have aF := (Agree.refl W' F').thenSet nF 4 (.slice (some ⟨g4, 0, none⟩) (n1 + 1) cp4)
 have aG := agG.thenSet nG 4 (.slice (some ⟨g4, 0, none⟩) (n1 + 1) cp4)
 refine ⟨base, loc, F', ⟨⟨base.box.setOther (by omega) 4 _, base.sk.setOther (by omega) 4 _, base.res.setOther (by omega) 4 _, bel.setCell (by show w.heap.size ≤ L; omega) _⟩, loc.set 4 _, ?_, (o.agree aF).mono (by omega), (h.c.oG.agree aG).mono (by omega), fun b hb => (hF b hb).1, by omega, ?_⟩⟩
 case refine_2 =>
  have hGG : ∀ b ∈ GG ++ Fk, b ≠ L ∧ b ∉ G := fun b q => by
   rcases List.mem_append.1 q with q | q
   ·
    exact ⟨fun e => by have := h.c.l3 b q; omega, h.c.g2 b q⟩
   ·
    exact ⟨fun e => by have := ok.ge b q; omega, fun hg => by have := ok.ge b q; have := h.c.l2' b hg; omega⟩
  have hOW : ∀ b, (Value.slice (some ⟨g4, 0, none⟩) (n1 + 1) cp4).ownBlock = some b → b ≠ L ∧ b ∉ G := fun b q => by
   have hb' : b = g4 := by simpa [Value.ownBlock] using q.symm
   subst hb'
   rcases hat with q | q
   ·
    exact ⟨fun e => by have := h.c.l4 b q; omega, fun hg => h.c.g1 b hg q⟩
   ·
    exact ⟨by omega, fun hg => by have := h.c.rp.lt b hg; omega⟩
  have gr : GrA (w.heap.size + 3) L (.slice (some ⟨g4, 0, none⟩) (n1 + 1) cp4) (x.sealed ++ [y]).length (x.sealed ++ [y]) G W' := ⟨lo, _, _, by omega, by rw [List.length_append, h.c.len]; exact g1, rfl, hOW, hGG⟩
  exact ⟨_, rfl, gr.cell (.inr rfl)⟩
 exact ⟨_, _, _, _, _, _, rfl, r.agree aF, h.c.rp.agree aG, cpd, h.c.cp2⟩
end Go.Proofs.Ytgkbhhlkaifnoaa
/- The walk through the model's Seal. No statement of the seat is proved here. -/
namespace Go.Proofs.Ytgkbhhlkaifnoaa
open Go.RowKit
theorem infoAgQSpec : (Try.prog.info? 27).map (·.size) = some 7 := by kernel_rfl
theorem infoSkQSpec : (Try.prog.info? 34).map (·.size) = some 7 := by kernel_rfl
theorem infoItsQSpec : (Try.prog.info? 36).map (fun i => (i.zero, i.size, i.bytes)) = some (some (.agg #[.int .i64 0, .int .i64 0, .int .i64 0, .int .i64 0, .int .i64 0, .int .i64 0, .int .i64 0, .int .i64 0, .slice none 0 0, .slice none 0 0, .slice none 0 0]), 11, 136) := by kernel_rfl
set_option maxRecDepth 200000 in
set_option maxHeartbeats 8000000 in
theorem sealSpec_room (v u : Value) (x : Ag) (c k n : Int) (s : Sk) (F0 G0 H0 : List Nat) (w : World) (h : RdAg w v x F0 G0) (hu : RdSk w u s H0) (hf : ∀ y ∈ x.sealed, y.sk.fits) (hs : x.sealed.length ≤ 1048576) (hl : x.taken.length ≤ 1048576) (hsf : s.fits) :
 Calls Try.prog 22 #[v, .int .i64 c, .int .i64 k, .int .i64 n, u] w fun e w' => NewAg2R w (x.seal c k n s) e w' := by
 obtain ⟨j0, hj, hy0, hy1, hy2⟩ := info_parts infoItsQSpec
 obtain ⟨a1, n1, c1, a2, n2, c2, rfl, hL, hP, hc1, hc2⟩ := h
 obtain ⟨b1, m1, d1, b2, m2, d2, b3, m3, d3, rfl⟩ := hu.cells7
 have HX : Hid (RdAg w (.agg #[.int .i64 x.id, .int .i64 x.epoch, .bool x.live, .int .i64 x.granted, .slice a1 n1 c1, .slice a2 n2 c2, .int .i64 x.next]) x F0 G0 ∧ x.sealed.length = n1) := ⟨⟨a1, n1, c1, a2, n2, c2, rfl, hL, hP, hc1, hc2⟩, hL.length⟩
 have HU : Hid (RdSk w (.agg #[.int .i64 s.count, .int .i64 s.sum, .int .i64 s.min, .int .i64 s.max, .slice b1 m1 d1, .slice b2 m2 d2, .slice b3 m3 d3]) s H0 ∧ s.fits) := ⟨hu, hsf⟩
 have HF : Hid ((∀ y ∈ x.sealed, y.sk.fits) ∧ x.sealed.length ≤ 1048576 ∧ x.taken.length ≤ 1048576) := ⟨hf, hs, hl⟩
 have hn1 : n1 ≤ 1048576 := by rw [← hL.length]; exact hs
 have HI : Hid (x.item c k n s = ⟨(n1 : Int) + 1, c, k, n, s⟩ ∧ (x.sealed.length : Int) + 1 = (n1 : Int) + 1) := ⟨by unfold Ag.item; rw [hL.length], by rw [hL.length]⟩
 clear hL hP hc1 hc2 hu hsf hf hs hl
 have HB0 : Hid (SealW w #[.int .i64 x.id, .int .i64 x.epoch, .bool x.live, .int .i64 x.granted, .slice a1 n1 c1, .slice a2 n2 c2, .int .i64 x.next] #[.int .i64 s.count, .int .i64 s.sum, .int .i64 s.min, .int .i64 s.max, .slice b1 m1 d1, .slice b2 m2 d2, .slice b3 m3 d3] (((w.alloc (.cells #[.int .i64 x.id, .int .i64 x.epoch, .bool x.live, .int .i64 x.granted, .slice a1 n1 c1, .slice a2 n2 c2, .int .i64 x.next] 27)).alloc (.cells #[.int .i64 s.count, .int .i64 s.sum, .int .i64 s.min, .int .i64 s.max, .slice b1 m1 d1, .slice b2 m2 d2, .slice b3 m3 d3] 34)).alloc (.cells #[.int .i64 0, .int .i64 0, .bool false, .int .i64 0, .slice none 0 0, .slice none 0 0, .int .i64 0] 27))) := SealW.made _ _ _
 go_enter Try.func22, Try.ntmps22
 go_wp2_with (first | go_skip | (with_reducible refine stopLoad 27 rfl ?_))
 obtain ⟨W0, hW0⟩ : ∃ W, W = ((w.alloc (.cells #[.int .i64 x.id, .int .i64 x.epoch, .bool x.live, .int .i64 x.granted, .slice a1 n1 c1, .slice a2 n2 c2, .int .i64 x.next] 27)).alloc (.cells #[.int .i64 s.count, .int .i64 s.sum, .int .i64 s.min, .int .i64 s.max, .slice b1 m1 d1, .slice b2 m2 d2, .slice b3 m3 d3] 34)).alloc (.cells #[.int .i64 0, .int .i64 0, .bool false, .int .i64 0, .slice none 0 0, .slice none 0 0, .int .i64 0] 27) := ⟨_, rfl⟩
 rw [← hW0] at HB0 ⊢
 clear hW0
 refine load_known 27 w.heap.size _ 27 _ HB0.out.box rfl rfl rfl Try.underlying27 rfl infoAgQSpec ?_
 go_wp2_with fail
 refine (agentOkSpec_any _ x F0 G0 _ (HX.out.1.below HB0.out.bel) (fun y hy => (HF.out.1 y hy).wide) (by have := HF.out.2.1; omega) (by have := HF.out.2.2; omega)).mono ?_
 rintro e w1 ⟨rfl, hb1⟩
 have HB1 : Hid (SealW w #[.int .i64 x.id, .int .i64 x.epoch, .bool x.live, .int .i64 x.granted, .slice a1 n1 c1, .slice a2 n2 c2, .int .i64 x.next] #[.int .i64 s.count, .int .i64 s.sum, .int .i64 s.min, .int .i64 s.max, .slice b1 m1 d1, .slice b2 m2 d2, .slice b3 m3 d3] w1) := HB0.out.below hb1
 obtain ⟨d, hd⟩ : ∃ d, d = x.ok := ⟨_, rfl⟩
 rw [← hd]
 have HD : Hid (d = x.ok) := hd
 clear hb1 hd HB0
 cases d
 ·
  have HV : Hid (x.seal c k n s = (x, 0)) := by show _ = _; unfold Ag.seal; rw [← HD.out]; rfl
  go_wp2_with (first | go_skip | (with_reducible refine stopLoad 27 rfl ?_))
  refine load_known 27 w.heap.size _ 27 _ HB1.out.box rfl rfl rfl Try.underlying27 rfl infoAgQSpec ?_
  go_wp2_with fail
  refine (l8Copy_grow _ x F0 G0 _ (HX.out.1.below HB1.out.bel) HF.out.1 HF.out.2.1 HF.out.2.2).mono ?_
  intro e w8 hnew
  obtain ⟨cs8, F8, G8, rfl, r8, o8, p8, ap8, hb8, v8, hv8, gr8⟩ := hnew.apart.room
  have hzz := r8.cells
  obtain ⟨cs9, e9, hz8, ho8⟩ := hzz
  injection e9 with e9
  subst e9
  have H8 : Hid (SealW w #[.int .i64 x.id, .int .i64 x.epoch, .bool x.live, .int .i64 x.granted, .slice a1 n1 c1, .slice a2 n2 c2, .int .i64 x.next] #[.int .i64 s.count, .int .i64 s.sum, .int .i64 s.min, .int .i64 s.max, .slice b1 m1 d1, .slice b2 m2 d2, .slice b3 m3 d3] w8 ∧ RdAg w8 (.agg cs8) x F8 G8 ∧ Own (w.heap.size + 3) w8 F8 ∧ Own (w.heap.size + 3) w8 G8 ∧ (∀ b ∈ F8, b ∉ G8) ∧ GrA (w.heap.size + 3) (w.heap.size + 2) v8 x.sealed.length x.sealed G8 w8) := ⟨HB1.out.below hb8, r8, o8.mono (by have := HB1.out.res.lt; omega), p8.mono (by have := HB1.out.res.lt; omega), ap8, (gr8.mono (by have := HB1.out.res.lt; omega)).at (.inl (by omega))⟩
  clear r8 o8 p8 ap8 hb8 gr8 hnew
  go_wp2_with (first | go_skip | (with_reducible refine stopStore 27 rfl ?_))
  refine store_known 27 (w.heap.size + 1 + 1) _ cs8 27 H8.out.1.res rfl rfl rfl rfl (by rw [hz8]; exact infoAgQSpec) (by rw [hz8]; rfl) ho8 ?_
  go_wp2
  refine bodyPost_ret (results_row_tmp Try.results22 _ _ (w.heap.size + 1 + 1) _ _ _ _ rfl H8.out.1.res.setRow Try.underlying27 rfl (by rw [hz8]; exact infoAgQSpec)) rfl ?_
  have nr : w.heap.size + 1 + 1 ∉ F8 := fun hx => by have := H8.out.2.2.1.ge _ hx; omega
  have mr : w.heap.size + 1 + 1 ∉ G8 := fun hx => by have := H8.out.2.2.2.1.ge _ hx; omega
  rw [HV.out]
  exact ⟨_, F8, G8, _, rfl, H8.out.2.1.agree (Agree.row nr _) (Agree.row mr _), rfl, (H8.out.2.2.1.agree (Agree.row nr _)).mono (by omega), (H8.out.2.2.2.1.agree (Agree.row mr _)).mono (by omega), H8.out.2.2.2.2.1, below_setRow H8.out.1.bel (by omega) _, v8, hv8, ((H8.out.2.2.2.2.2.row (.inl (by omega))).at (.inr (Nat.le_refl _))).mono (by omega)⟩
 have HD1 : Hid (x.ok = true) := HD.out.symm
 clear HD
 go_wp2_with (first | go_skip | (with_reducible refine stopLoad 27 rfl ?_))
 refine load_known 27 w.heap.size _ 27 _ HB1.out.box rfl rfl rfl Try.underlying27 rfl infoAgQSpec ?_
 go_wp2_with fail
 refine (l8Copy_grow _ x F0 G0 _ (HX.out.1.below HB1.out.bel) HF.out.1 HF.out.2.1 HF.out.2.2).mono ?_
 intro e w2 hnew
 obtain ⟨q1, k1, q2, l2, k2, F, G, GG, lo, vs, rfl, hsc, hb2⟩ := hnew.apart.at HX.out.2
 have HC2 : Hid (SealW w #[.int .i64 x.id, .int .i64 x.epoch, .bool x.live, .int .i64 x.granted, .slice a1 n1 c1, .slice a2 n2 c2, .int .i64 x.next] #[.int .i64 s.count, .int .i64 s.sum, .int .i64 s.min, .int .i64 s.max, .slice b1 m1 d1, .slice b2 m2 d2, .slice b3 m3 d3] w2 ∧ SealC w1.heap.size w2.heap.size lo n1 x q1 k1 q2 l2 k2 F G GG vs w2 ∧ w.heap.size + 3 ≤ w1.heap.size ∧ w1.heap.size ≤ w2.heap.size) := ⟨HB1.out.below hb2, hsc, HB1.out.res.lt, hb2.size⟩
 obtain ⟨B, hB⟩ : ∃ B, B = w1.heap.size := ⟨_, rfl⟩
 rw [← hB] at HC2
 clear hnew hsc hb2 HB1 hB
 go_wp2_with (first | go_skip | (with_reducible refine stopStore 27 rfl ?_))
 refine store_fresh 27 w2.heap.size rfl #[.int .i64 0, .int .i64 0, .bool false, .int .i64 0, .slice none 0 0, .slice none 0 0, .int .i64 0] #[.int .i64 x.id, .int .i64 x.epoch, .bool x.live, .int .i64 x.granted, .slice q1 n1 k1, .slice q2 l2 k2, .int .i64 x.next] 27 rfl rfl rfl rfl infoAgQSpec rfl (by simp [Value.oneCell']) ?_
 intro w3 hg3 hb3
 have HL3 : Hid (SealL w #[.int .i64 x.id, .int .i64 x.epoch, .bool x.live, .int .i64 x.granted, .slice a1 n1 c1, .slice a2 n2 c2, .int .i64 x.next] #[.int .i64 s.count, .int .i64 s.sum, .int .i64 s.min, .int .i64 s.max, .slice b1 m1 d1, .slice b2 m2 d2, .slice b3 m3 d3] B w2.heap.size lo n1 x q1 k1 q2 l2 k2 F G GG vs w3) := ⟨HC2.out.1.below hb3, hg3, HC2.out.2.1.below hb3, HC2.out.2.2.1, HC2.out.2.2.2⟩
 obtain ⟨L, hL⟩ : ∃ L, L = w2.heap.size := ⟨_, rfl⟩
 rw [← hL] at HL3 ⊢
 clear hg3 hb3 HC2 hL
 go_wp2_with fail
 have HLd : Hid (SealL w #[.int .i64 x.id, .int .i64 x.epoch, .bool x.live, .int .i64 x.granted, .slice a1 n1 c1, .slice a2 n2 c2, .int .i64 x.next] #[.int .i64 s.count, .int .i64 s.sum, .int .i64 s.min, .int .i64 s.max, .slice b1 m1 d1, .slice b2 m2 d2, .slice b3 m3 d3] B L lo n1 x q1 k1 q2 l2 k2 F G GG vs w3.drew) := HL3.out.below (Below.refl _ _).drew
 obtain ⟨Y0, hY0⟩ : ∃ Y, Y = w3.drew := ⟨_, rfl⟩
 rw [← hY0] at HLd
 clear HL3
 refine wp_region_held (S := SealW w #[.int .i64 x.id, .int .i64 x.epoch, .bool x.live, .int .i64 x.granted, .slice a1 n1 c1, .slice a2 n2 c2, .int .i64 x.next] #[.int .i64 s.count, .int .i64 s.sum, .int .i64 s.min, .int .i64 s.max, .slice b1 m1 d1, .slice b2 m2 d2, .slice b3 m3 d3]) (by kernel_rfl) ?_
 change wpAnyH _ _ _ _ _ _ _ _ (World.drew _)
 rw [← hY0]
 clear hY0
 refine takeH (o := ?o1) 0 (.pointer (some ⟨L, 4, none⟩)) ?h1 ?r1
 case h1 => simp only [aT, aZ]; rfl
 refine ⟨_, by simp [Act.put]; rfl, by kernel_rfl, by kernel_rfl, by kernel_rfl, fun _ _ _ h => h, (.inl ⟨rfl, fun W _ => by kernel_rfl⟩), HLd.out.base, ?_⟩
 refine takeH (o := ?o2) 2 (.pointer (some ⟨w.heap.size, 4, none⟩)) ?h2 ?r2
 case h2 => simp only [aT, aS, aZ]; rfl
 refine ⟨_, by simp [Act.put]; rfl, by kernel_rfl, by kernel_rfl, by kernel_rfl, fun _ _ _ h => h, (.inl ⟨rfl, fun W _ => by kernel_rfl⟩), HLd.out.base, ?_⟩
 refine takeH (o := ?o3) 3 (.slice a1 n1 c1) ?h3 ?r3
 case h3 => simp only [aT, aS, aZ]; rfl
 refine ⟨_, by simp [Act.put]; rfl, by kernel_rfl, by kernel_rfl, by kernel_rfl, fun _ _ _ h => h, (.inl ⟨rfl, fun W hW => by have c := hW.box.cell 4; simp only [aT, aS, aZ] at c; go_simp⟩), HLd.out.base, ?_⟩
 refine takeH (o := ?o4) 4 (.int .i64 n1) ?h4 ?r4
 case h4 => simp only [aT, aS, aZ]; rfl
 refine ⟨_, by simp [Act.put]; rfl, by kernel_rfl, by kernel_rfl, by kernel_rfl, fun _ _ _ h => h, (.inl ⟨rfl, fun W _ => by go_simp⟩), HLd.out.base, ?_⟩
 refine takeH (o := ?o5) 5 (.int .i64 ((n1 : Int) + 1)) ?h5 ?r5
 case h5 => simp only [aT, aS, aZ]; rfl
 refine ⟨_, by simp [Act.put]; rfl, by kernel_rfl, by kernel_rfl, by kernel_rfl, fun _ _ _ h => h, (.inl ⟨rfl, fun W _ => by go_simp; exact wrapI (by omega)⟩), HLd.out.base, ?_⟩
 refine takeH (o := ?o6) 6 (.int .i64 c) ?h6 ?r6
 case h6 => simp only [aT, aS, aZ]; rfl
 refine ⟨_, by simp [Act.put]; rfl, by kernel_rfl, by kernel_rfl, by kernel_rfl, fun _ _ _ h => h, (.inl ⟨rfl, fun W _ => by kernel_rfl⟩), HLd.out.base, ?_⟩
 refine takeH (o := ?o7) 7 (.int .i64 k) ?h7 ?r7
 case h7 => simp only [aT, aS, aZ]; rfl
 refine ⟨_, by simp [Act.put]; rfl, by kernel_rfl, by kernel_rfl, by kernel_rfl, fun _ _ _ h => h, (.inl ⟨rfl, fun W _ => by kernel_rfl⟩), HLd.out.base, ?_⟩
 refine takeH (o := ?o8) 8 (.int .i64 n) ?h8 ?r8
 case h8 => simp only [aT, aS, aZ]; rfl
 refine ⟨_, by simp [Act.put]; rfl, by kernel_rfl, by kernel_rfl, by kernel_rfl, fun _ _ _ h => h, (.inl ⟨rfl, fun W _ => by kernel_rfl⟩), HLd.out.base, ?_⟩
 refine takeH (o := ?o9) 9 (.agg #[.int .i64 s.count, .int .i64 s.sum, .int .i64 s.min, .int .i64 s.max, .slice b1 m1 d1, .slice b2 m2 d2, .slice b3 m3 d3]) ?h9 ?r9
 case h9 => simp only [aT, aS, aZ]; rfl
 refine ⟨_, by simp [Act.put]; rfl, by kernel_rfl, by kernel_rfl, by kernel_rfl, fun _ _ _ h => h, (yields_whole 34 (w.heap.size + 1) #[.int .i64 s.count, .int .i64 s.sum, .int .i64 s.min, .int .i64 s.max, .slice b1 m1 d1, .slice b2 m2 d2, .slice b3 m3 d3] 34 _ rfl rfl rfl Try.underlying34 rfl infoSkQSpec (fun W hW => hW.sk)), HLd.out.base, ?_⟩
 refine twoH (o := ?o10) (o' := ?p10) 1 10 (by kernel_rfl) ?h10 ?g10 ?r10 ?s10
 case h10 => simp only [aT, aS, aZ]; rfl
 case g10 => simp only [aT, aS, aZ]; rfl
 case r10 =>
  intro K hK
  have co := HLd.out.loc.cell 4
  simp only [aT, aS, aZ] at co
  refine op_value (.slice q1 n1 k1) rfl (by go_simp) ⟨_, by simp [Act.put]; rfl, hK _ _ ⟨HLd.out.base, ?_⟩⟩
  clear hK co
  refine onlyH (o := ?o11) 10 (by kernel_rfl) ?h11 ?r11
  case h11 => simp only [aT, aS, aZ]; rfl
  intro K hK
  refine op_call1 58 _ _ Try.f58 (fun v w' => ∃ F, RdSk w' v s F ∧ Own Y0.heap.size w' F ∧ Below Y0.heap.size Y0 w') rfl rfl Try.func58 (by kernel_rfl) (by kernel_rfl) ((l3Copy_all (.agg #[.int .i64 s.count, .int .i64 s.sum, .int .i64 s.min, .int .i64 s.max, .slice b1 m1 d1, .slice b2 m2 d2, .slice b3 m3 d3]) s H0 Y0 (HU.out.1.below HLd.out.base.bel) HU.out.2).mono (by rintro e w' ⟨v, F, rfl, k1, k2, k3⟩; exact ⟨_, rfl, F, k1, k2, k3⟩)) ?_
  rintro vr Y1 ⟨Fr, rr, ro, rb⟩
  obtain ⟨u1, v1, y1, u2, v2, y2, u3, v3, y3, rfl⟩ := rr.cells7
  have RR1 : Hid (RdIt Y1 (.agg #[.int .i64 ((n1 : Int) + 1), .int .i64 c, .int .i64 k, .int .i64 n, .int .i64 s.count, .int .i64 s.sum, .int .i64 s.min, .int .i64 s.max, .slice u1 v1 y1, .slice u2 v2 y2, .slice u3 v3 y3]) ⟨(n1 : Int) + 1, c, k, n, s⟩ Fr ∧ Own (L + 1) Y1 Fr) := ⟨⟨u1, v1, y1, u2, v2, y2, u3, v3, y3, rfl, rr⟩, ro.mono HLd.out.loc.lt⟩
  have HL1 : Hid (SealL w #[.int .i64 x.id, .int .i64 x.epoch, .bool x.live, .int .i64 x.granted, .slice a1 n1 c1, .slice a2 n2 c2, .int .i64 x.next] #[.int .i64 s.count, .int .i64 s.sum, .int .i64 s.min, .int .i64 s.max, .slice b1 m1 d1, .slice b2 m2 d2, .slice b3 m3 d3] B L lo n1 x q1 k1 q2 l2 k2 F G GG vs Y1) := HLd.out.below rb
  refine ⟨_, by simp [Act.put]; rfl, hK _ _ ⟨HL1.out.base, ?_⟩⟩
  clear hK rr ro rb
  refine takeH (o := ?o12) 11 (.agg #[.int .i64 ((n1 : Int) + 1), .int .i64 c, .int .i64 k, .int .i64 n, .int .i64 s.count, .int .i64 s.sum, .int .i64 s.min, .int .i64 s.max, .slice u1 v1 y1, .slice u2 v2 y2, .slice u3 v3 y3]) ?h12 ?r12
  case h12 => simp only [aT, aS, aZ]; rfl
  refine ⟨_, by simp [Act.put]; rfl, by kernel_rfl, by kernel_rfl, by kernel_rfl, fun _ _ _ h => h, (.inl ⟨rfl, fun W _ => by kernel_rfl⟩), HL1.out.base, ?_⟩
  refine onlyH (o := ?o13) 12 (by kernel_rfl) ?h13 ?r13
  case h13 => simp only [aT, aS, aZ]; rfl
  intro K hK
  have bl : Below Y1.heap.size Y1 (Y1.alloc (.cells #[.int .i64 ((n1 : Int) + 1), .int .i64 c, .int .i64 k, .int .i64 n, .int .i64 s.count, .int .i64 s.sum, .int .i64 s.min, .int .i64 s.max, .slice u1 v1 y1, .slice u2 v2 y2, .slice u3 v3 y3] 36)) := (Below.refl _ _).alloc (Nat.le_refl _) _
  have HL2 : Hid (SealL w #[.int .i64 x.id, .int .i64 x.epoch, .bool x.live, .int .i64 x.granted, .slice a1 n1 c1, .slice a2 n2 c2, .int .i64 x.next] #[.int .i64 s.count, .int .i64 s.sum, .int .i64 s.min, .int .i64 s.max, .slice b1 m1 d1, .slice b2 m2 d2, .slice b3 m3 d3] B L lo n1 x q1 k1 q2 l2 k2 F G GG vs (Y1.alloc (.cells #[.int .i64 ((n1 : Int) + 1), .int .i64 c, .int .i64 k, .int .i64 n, .int .i64 s.count, .int .i64 s.sum, .int .i64 s.min, .int .i64 s.max, .slice u1 v1 y1, .slice u2 v2 y2, .slice u3 v3 y3] 36))) := HL1.out.below bl
  have RR2 : Hid (RdIt (Y1.alloc (.cells #[.int .i64 ((n1 : Int) + 1), .int .i64 c, .int .i64 k, .int .i64 n, .int .i64 s.count, .int .i64 s.sum, .int .i64 s.min, .int .i64 s.max, .slice u1 v1 y1, .slice u2 v2 y2, .slice u3 v3 y3] 36)) (.agg #[.int .i64 ((n1 : Int) + 1), .int .i64 c, .int .i64 k, .int .i64 n, .int .i64 s.count, .int .i64 s.sum, .int .i64 s.min, .int .i64 s.max, .slice u1 v1 y1, .slice u2 v2 y2, .slice u3 v3 y3]) ⟨(n1 : Int) + 1, c, k, n, s⟩ Fr ∧ Own (L + 1) (Y1.alloc (.cells #[.int .i64 ((n1 : Int) + 1), .int .i64 c, .int .i64 k, .int .i64 n, .int .i64 s.count, .int .i64 s.sum, .int .i64 s.min, .int .i64 s.max, .slice u1 v1 y1, .slice u2 v2 y2, .slice u3 v3 y3] 36)) Fr) := ⟨RR1.out.1.below bl, RR1.out.2.below (RdIt.lt RR1.out.1) bl⟩
  have NW2 : Hid (∀ j u, #[.int .i64 ((n1 : Int) + 1), .int .i64 c, .int .i64 k, .int .i64 n, .int .i64 s.count, .int .i64 s.sum, .int .i64 s.min, .int .i64 s.max, .slice u1 v1 y1, .slice u2 v2 y2, .slice u3 v3 y3].toList[j]? = some u → ((Y1.alloc (.cells #[.int .i64 ((n1 : Int) + 1), .int .i64 c, .int .i64 k, .int .i64 n, .int .i64 s.count, .int .i64 s.sum, .int .i64 s.min, .int .i64 s.max, .slice u1 v1 y1, .slice u2 v2 y2, .slice u3 v3 y3] 36))).cell? ((⟨Y1.heap.size, 0, none⟩ : Addr).add j) = some u) := news_lit _ _ _
  refine op_turn (.slice (some ⟨Y1.heap.size, 0, none⟩) 1 1) (Y1.alloc (.cells #[.int .i64 ((n1 : Int) + 1), .int .i64 c, .int .i64 k, .int .i64 n, .int .i64 s.count, .int .i64 s.sum, .int .i64 s.min, .int .i64 s.max, .slice u1 v1 y1, .slice u2 v2 y2, .slice u3 v3 y3] 36)) rfl (by kernel_rfl) ⟨_, by simp [Act.put]; rfl, hK _ _ ⟨HL2.out.base, ?_⟩⟩
  clear hK bl
  obtain ⟨L2, hL2⟩ : ∃ z, z = Y1.heap.size := ⟨_, rfl⟩
  obtain ⟨Y2, hY2⟩ : ∃ Z, Z = (Y1.alloc (.cells #[.int .i64 ((n1 : Int) + 1), .int .i64 c, .int .i64 k, .int .i64 n, .int .i64 s.count, .int .i64 s.sum, .int .i64 s.min, .int .i64 s.max, .slice u1 v1 y1, .slice u2 v2 y2, .slice u3 v3 y3] 36)) := ⟨_, rfl⟩
  rw [← hY2, ← hL2] at NW2
  rw [← hY2] at HL2 RR2 ⊢
  rw [← hL2]
  clear hY2 hL2
  refine onlyH (o := ?o14) 13 (by kernel_rfl) ?h14 ?r14
  case h14 => simp only [aT, aS, aZ]; rfl
  intro K hK
  refine op_append Y2 rfl _ _ 24 rfl lo 36 j0 (.agg #[.int .i64 0, .int .i64 0, .int .i64 0, .int .i64 0, .int .i64 0, .int .i64 0, .int .i64 0, .int .i64 0, .slice none 0 0, .slice none 0 0, .slice none 0 0]) 11 136 Try.underlying24 hj hy0 hy1 hy2 rfl (by decide) (.slice q1 n1 k1) n1 vs rfl HL2.out.c.gr.row ⟨L2, 0, none⟩ 1 1 #[.int .i64 ((n1 : Int) + 1), .int .i64 c, .int .i64 k, .int .i64 n, .int .i64 s.count, .int .i64 s.sum, .int .i64 s.min, .int .i64 s.max, .slice u1 v1 y1, .slice u2 v2 y2, .slice u3 v3 y3].toList rfl rfl NW2.out (by simp [Value.oneCell']) (by decide) (by unfold maxLen; omega) (by omega) HL2.out.c.gr.lw _ rfl ?_
  intro g4 cp4 Y3 hown hgrow hat _
  obtain ⟨ST1, ST2, F', ST3⟩ := HL2.out.done RR2.out.1 rfl RR2.out.2 hown hgrow hat
  have HL3 : Hid (SealW w #[.int .i64 x.id, .int .i64 x.epoch, .bool x.live, .int .i64 x.granted, .slice a1 n1 c1, .slice a2 n2 c2, .int .i64 x.next] #[.int .i64 s.count, .int .i64 s.sum, .int .i64 s.min, .int .i64 s.max, .slice b1 m1 d1, .slice b2 m2 d2, .slice b3 m3 d3] Y3 ∧ SealD w #[.int .i64 x.id, .int .i64 x.epoch, .bool x.live, .int .i64 x.granted, .slice a1 n1 c1, .slice a2 n2 c2, .int .i64 x.next] #[.int .i64 s.count, .int .i64 s.sum, .int .i64 s.min, .int .i64 s.max, .slice b1 m1 d1, .slice b2 m2 d2, .slice b3 m3 d3] L #[.int .i64 x.id, .int .i64 x.epoch, .bool x.live, .int .i64 x.granted, .slice (some ⟨g4, 0, none⟩) (n1 + 1) cp4, .slice q2 l2 k2, .int .i64 x.next] (x.plus ⟨(n1 : Int) + 1, c, k, n, s⟩) F' G (Y3.setCell ⟨L, 4, none⟩ (.slice (some ⟨g4, 0, none⟩) (n1 + 1) cp4))) := ⟨ST1, ST3⟩
  have co := ST2.cell 4
  have fo := ST2.frozen 4
  simp only [aT, aS, aZ] at co
  refine ⟨_, by simp [Act.put]; rfl, hK _ _ ⟨HL3.out.1, ?_⟩⟩
  clear hK hown hgrow hat ST1 ST2 ST3
  refine takeH (o := ?o15) 14 (.pointer (some ⟨L, 4, none⟩)) ?h15 ?r15
  case h15 => simp only [aT, aS, aZ]; rfl
  refine ⟨_, by simp [Act.put]; rfl, by kernel_rfl, by kernel_rfl, by kernel_rfl, fun _ _ _ h => h, (.inl ⟨rfl, fun W _ => by kernel_rfl⟩), HL3.out.1, ?_⟩
  refine onlyH (o := ?o16) 15 (by kernel_rfl) ?h16 ?r16
  case h16 => simp only [aT, aS, aZ]; rfl
  intro K hK
  refine op_skip (Y3.setCell ⟨L, 4, none⟩ (.slice (some ⟨g4, 0, none⟩) (n1 + 1) cp4)) rfl (by go_simp) ⟨_, by simp [Act.put]; rfl, hK _ _ ⟨HL3.out.2.base, ?_⟩⟩
  clear hK co fo
  refine wpAnyH_done (by kernel_rfl) ?_ _
  obtain ⟨w5, hw5⟩ : ∃ W, W = Y3.setCell ⟨L, 4, none⟩ (.slice (some ⟨g4, 0, none⟩) (n1 + 1) cp4) := ⟨_, rfl⟩
  have H5 : Hid (SealD w #[.int .i64 x.id, .int .i64 x.epoch, .bool x.live, .int .i64 x.granted, .slice a1 n1 c1, .slice a2 n2 c2, .int .i64 x.next] #[.int .i64 s.count, .int .i64 s.sum, .int .i64 s.min, .int .i64 s.max, .slice b1 m1 d1, .slice b2 m2 d2, .slice b3 m3 d3] L #[.int .i64 x.id, .int .i64 x.epoch, .bool x.live, .int .i64 x.granted, .slice (some ⟨g4, 0, none⟩) (n1 + 1) cp4, .slice q2 l2 k2, .int .i64 x.next] (x.plus (x.item c k n s)) F' G w5) := by rw [HI.out.1, hw5]; exact HL3.out.2
  rw [← hw5]
  clear hw5 HL3
  go_wp2_with (first | go_skip | (with_reducible refine stopLoad 27 rfl ?_))
  refine load_known 27 L _ 27 _ H5.out.loc rfl rfl rfl Try.underlying27 rfl infoAgQSpec ?_
  go_wp2_with fail
  refine (agentOkSpec_any _ (x.plus (x.item c k n s)) F' G _ H5.out.rd (fun y hy => (List.mem_append.1 hy).elim (fun h => (HF.out.1 y h).wide) (fun h => by (obtain rfl : y = x.item c k n s := by simpa using h); exact HU.out.2.wide)) (by show (x.sealed ++ [x.item c k n s]).length ≤ _; rw [List.length_append]; have := HF.out.2.1; simp; omega) (by show x.taken.length ≤ _; have := HF.out.2.2; omega)).mono ?_
  rintro e w6 ⟨rfl, hb6⟩
  have H6 : Hid (SealD w #[.int .i64 x.id, .int .i64 x.epoch, .bool x.live, .int .i64 x.granted, .slice a1 n1 c1, .slice a2 n2 c2, .int .i64 x.next] #[.int .i64 s.count, .int .i64 s.sum, .int .i64 s.min, .int .i64 s.max, .slice b1 m1 d1, .slice b2 m2 d2, .slice b3 m3 d3] L #[.int .i64 x.id, .int .i64 x.epoch, .bool x.live, .int .i64 x.granted, .slice (some ⟨g4, 0, none⟩) (n1 + 1) cp4, .slice q2 l2 k2, .int .i64 x.next] (x.plus (x.item c k n s)) F' G w6) := H5.out.below hb6
  obtain ⟨d, hd⟩ : ∃ d, d = (x.plus (x.item c k n s)).ok := ⟨_, rfl⟩
  rw [← hd]
  have HD : Hid (d = (x.item c k n s).ok) := hd.trans (Ag.plus_ok x c k n s HD1.out)
  clear hb6 hd H5
  cases d
  ·
   have HV : Hid (x.seal c k n s = (x, 0)) := by show _ = _; unfold Ag.seal; rw [← HD.out]; simp
   go_wp2_with (first | go_skip | (with_reducible refine stopLoad 27 rfl ?_))
   refine load_known 27 w.heap.size _ 27 _ H6.out.base.box rfl rfl rfl Try.underlying27 rfl infoAgQSpec ?_
   go_wp2_with fail
   refine (l8Copy_grow _ x F0 G0 _ (HX.out.1.below H6.out.base.bel) HF.out.1 HF.out.2.1 HF.out.2.2).mono ?_
   intro e w8 hnew
   obtain ⟨cs8, F8, G8, rfl, r8, o8, p8, ap8, hb8, v8, hv8, gr8⟩ := hnew.apart.room
   have hzz := r8.cells
   obtain ⟨cs9, e9, hz8, ho8⟩ := hzz
   injection e9 with e9
   subst e9
   have H8 : Hid (SealW w #[.int .i64 x.id, .int .i64 x.epoch, .bool x.live, .int .i64 x.granted, .slice a1 n1 c1, .slice a2 n2 c2, .int .i64 x.next] #[.int .i64 s.count, .int .i64 s.sum, .int .i64 s.min, .int .i64 s.max, .slice b1 m1 d1, .slice b2 m2 d2, .slice b3 m3 d3] w8 ∧ RdAg w8 (.agg cs8) x F8 G8 ∧ Own (w.heap.size + 3) w8 F8 ∧ Own (w.heap.size + 3) w8 G8 ∧ (∀ b ∈ F8, b ∉ G8) ∧ GrA (w.heap.size + 3) (w.heap.size + 2) v8 x.sealed.length x.sealed G8 w8) := ⟨H6.out.base.below hb8, r8, o8.mono (by have := H6.out.base.res.lt; omega), p8.mono (by have := H6.out.base.res.lt; omega), ap8, (gr8.mono (by have := H6.out.base.res.lt; omega)).at (.inl (by omega))⟩
   clear r8 o8 p8 ap8 hb8 gr8 hnew
   go_wp2_with (first | go_skip | (with_reducible refine stopStore 27 rfl ?_))
   refine store_known 27 (w.heap.size + 1 + 1) _ cs8 27 H8.out.1.res rfl rfl rfl rfl (by rw [hz8]; exact infoAgQSpec) (by rw [hz8]; rfl) ho8 ?_
   go_wp2
   refine bodyPost_ret (results_row_tmp Try.results22 _ _ (w.heap.size + 1 + 1) _ _ _ _ rfl H8.out.1.res.setRow Try.underlying27 rfl (by rw [hz8]; exact infoAgQSpec)) rfl ?_
   have nr : w.heap.size + 1 + 1 ∉ F8 := fun hx => by have := H8.out.2.2.1.ge _ hx; omega
   have mr : w.heap.size + 1 + 1 ∉ G8 := fun hx => by have := H8.out.2.2.2.1.ge _ hx; omega
   rw [HV.out]
   exact ⟨_, F8, G8, _, rfl, H8.out.2.1.agree (Agree.row nr _) (Agree.row mr _), rfl, (H8.out.2.2.1.agree (Agree.row nr _)).mono (by omega), (H8.out.2.2.2.1.agree (Agree.row mr _)).mono (by omega), H8.out.2.2.2.2.1, below_setRow H8.out.1.bel (by omega) _, v8, hv8, ((H8.out.2.2.2.2.2.row (.inl (by omega))).at (.inr (Nat.le_refl _))).mono (by omega)⟩
  have HV : Hid (x.seal c k n s = (x.plus (x.item c k n s), (n1 : Int) + 1)) := by show _ = _; unfold Ag.seal; rw [if_pos ⟨HD1.out, HD.out.symm⟩, HI.out.2]
  go_wp2_with fail
  have H7 : Hid (SealD w #[.int .i64 x.id, .int .i64 x.epoch, .bool x.live, .int .i64 x.granted, .slice a1 n1 c1, .slice a2 n2 c2, .int .i64 x.next] #[.int .i64 s.count, .int .i64 s.sum, .int .i64 s.min, .int .i64 s.max, .slice b1 m1 d1, .slice b2 m2 d2, .slice b3 m3 d3] L #[.int .i64 x.id, .int .i64 x.epoch, .bool x.live, .int .i64 x.granted, .slice (some ⟨g4, 0, none⟩) (n1 + 1) cp4, .slice q2 l2 k2, .int .i64 x.next] (x.plus (x.item c k n s)) F' G w6.drew) := H6.out.below (Below.refl _ _).drew
  obtain ⟨Z0, hZ0⟩ : ∃ Y, Y = w6.drew := ⟨_, rfl⟩
  rw [← hZ0] at H7
  clear H6 HD
  refine wp_region_held (S := fun W => Blk W L #[.int .i64 x.id, .int .i64 x.epoch, .bool x.live, .int .i64 x.granted, .slice (some ⟨g4, 0, none⟩) (n1 + 1) cp4, .slice q2 l2 k2, .int .i64 x.next] 27) (by kernel_rfl) ?_
  change wpAnyH _ _ _ _ _ _ _ _ (World.drew _)
  rw [← hZ0]
  clear hZ0
  refine takeH (o := ?o27x) 0 (.agg #[.int .i64 x.id, .int .i64 x.epoch, .bool x.live, .int .i64 x.granted, .slice (some ⟨g4, 0, none⟩) (n1 + 1) cp4, .slice q2 l2 k2, .int .i64 x.next]) ?h27x ?r27x
  case h27x => simp only [aT, aZ]; rfl
  refine ⟨_, by simp [Act.put]; rfl, by kernel_rfl, by kernel_rfl, by kernel_rfl, fun _ _ _ h => h, (yields_whole 27 L #[.int .i64 x.id, .int .i64 x.epoch, .bool x.live, .int .i64 x.granted, .slice (some ⟨g4, 0, none⟩) (n1 + 1) cp4, .slice q2 l2 k2, .int .i64 x.next] 27 _ rfl rfl rfl Try.underlying27 rfl infoAgQSpec (fun W hW => hW)), H7.out.loc, ?_⟩
  refine takeH (o := ?o28x) 1 (.pointer (some ⟨L, 4, none⟩)) ?h28x ?r28x
  case h28x => simp only [aT, aS, aZ]; rfl
  refine ⟨_, by simp [Act.put]; rfl, by kernel_rfl, by kernel_rfl, by kernel_rfl, fun _ _ _ h => h, (.inl ⟨rfl, fun W _ => by kernel_rfl⟩), H7.out.loc, ?_⟩
  refine takeH (o := ?o29x) 2 (.slice (some ⟨g4, 0, none⟩) (n1 + 1) cp4) ?h29x ?r29x
  case h29x => simp only [aT, aS, aZ]; rfl
  refine ⟨_, by simp [Act.put]; rfl, by kernel_rfl, by kernel_rfl, by kernel_rfl, fun _ _ _ h => h, (.inl ⟨rfl, fun W hW => by have c := hW.cell 4; simp only [aT, aS, aZ] at c; go_simp⟩), H7.out.loc, ?_⟩
  refine takeH (o := ?o30x) 3 (.int .i64 ((n1 + 1 : Nat) : Int)) ?h30x ?r30x
  case h30x => simp only [aT, aS, aZ]; rfl
  refine ⟨_, by simp [Act.put]; rfl, by kernel_rfl, by kernel_rfl, by kernel_rfl, fun _ _ _ h => h, (.inl ⟨rfl, fun W _ => by go_simp⟩), H7.out.loc, ?_⟩
  refine onlyH (o := ?o31x) 4 (by kernel_rfl) ?h31x ?r31x
  case h31x => simp only [aT, aS, aZ]; rfl
  intro K hK
  have gL := H7.out.gL
  refine op_store 27 (w.heap.size + 1 + 1) #[.int .i64 0, .int .i64 0, .bool false, .int .i64 0, .slice none 0 0, .slice none 0 0, .int .i64 0] #[.int .i64 x.id, .int .i64 x.epoch, .bool x.live, .int .i64 x.granted, .slice (some ⟨g4, 0, none⟩) (n1 + 1) cp4, .slice q2 l2 k2, .int .i64 x.next] 27 rfl rfl rfl rfl H7.out.base.res infoAgQSpec rfl (by simp [Value.oneCell']) ⟨_, by simp [Act.put]; rfl, hK _ _ ⟨H7.out.loc.setRowOther (by omega), ?_⟩⟩
  clear hK
  refine takeH (o := ?o32x) 5 (.int .i64 ((n1 + 1 : Nat) : Int)) ?h32x ?r32x
  case h32x => simp only [aT, aS, aZ]; rfl
  refine ⟨_, by simp [Act.put]; rfl, by kernel_rfl, by kernel_rfl, by kernel_rfl, fun _ _ _ h => h, (.inl ⟨rfl, fun W _ => by kernel_rfl⟩), (H7.out.loc.setRowOther (by omega)), ?_⟩
  refine wpAnyH_done (by kernel_rfl) ?_ _
  go_wp2
  refine bodyPost_ret (results_row_tmp Try.results22 _ _ (w.heap.size + 1 + 1) _ _ _ _ rfl H7.out.base.res.setRow Try.underlying27 rfl infoAgQSpec) rfl ?_
  have nr : w.heap.size + 1 + 1 ∉ F' := fun hx => by have := H7.out.oF.ge _ hx; omega
  have mr : w.heap.size + 1 + 1 ∉ G := fun hx => by have := H7.out.oG.ge _ hx; omega
  rw [HV.out]
  exact ⟨_, F', G, _, rfl, H7.out.rd.agree (Agree.row nr _) (Agree.row mr _), (by show (((n1 + 1 : Nat) : Int)) = (n1 : Int) + 1; omega), (H7.out.oF.agree (Agree.row nr _)).mono (by omega), (H7.out.oG.agree (Agree.row mr _)).mono (by omega), H7.out.ap, below_setRow H7.out.base.bel (by omega) _, (let ⟨v, e, g⟩ := H7.out.rm; ⟨v, e, ((((g.at (.inl (by omega : w.heap.size < w.heap.size + 3))).row (.inl (by omega))).at (.inr (Nat.le_refl _))).mono (by omega))⟩)⟩
 case s10 =>
  intro K hK
  refine op_call1 58 _ _ Try.f58 (fun v w' => ∃ F, RdSk w' v s F ∧ Own Y0.heap.size w' F ∧ Below Y0.heap.size Y0 w') rfl rfl Try.func58 (by kernel_rfl) (by kernel_rfl) ((l3Copy_all (.agg #[.int .i64 s.count, .int .i64 s.sum, .int .i64 s.min, .int .i64 s.max, .slice b1 m1 d1, .slice b2 m2 d2, .slice b3 m3 d3]) s H0 Y0 (HU.out.1.below HLd.out.base.bel) HU.out.2).mono (by rintro e w' ⟨v, F, rfl, k1, k2, k3⟩; exact ⟨_, rfl, F, k1, k2, k3⟩)) ?_
  rintro vr Y4 ⟨Fr, rr, ro, rb⟩
  obtain ⟨u1, v1, y1, u2, v2, y2, u3, v3, y3, rfl⟩ := rr.cells7
  have RR4 : Hid (RdIt Y4 (.agg #[.int .i64 ((n1 : Int) + 1), .int .i64 c, .int .i64 k, .int .i64 n, .int .i64 s.count, .int .i64 s.sum, .int .i64 s.min, .int .i64 s.max, .slice u1 v1 y1, .slice u2 v2 y2, .slice u3 v3 y3]) ⟨(n1 : Int) + 1, c, k, n, s⟩ Fr ∧ Own (L + 1) Y4 Fr) := ⟨⟨u1, v1, y1, u2, v2, y2, u3, v3, y3, rfl, rr⟩, ro.mono HLd.out.loc.lt⟩
  have HL4 : Hid (SealL w #[.int .i64 x.id, .int .i64 x.epoch, .bool x.live, .int .i64 x.granted, .slice a1 n1 c1, .slice a2 n2 c2, .int .i64 x.next] #[.int .i64 s.count, .int .i64 s.sum, .int .i64 s.min, .int .i64 s.max, .slice b1 m1 d1, .slice b2 m2 d2, .slice b3 m3 d3] B L lo n1 x q1 k1 q2 l2 k2 F G GG vs Y4) := HLd.out.below rb
  refine ⟨_, by simp [Act.put]; rfl, hK _ _ ⟨HL4.out.base, ?_⟩⟩
  clear hK rr ro rb
  refine takeH (o := ?o17) 11 (.agg #[.int .i64 ((n1 : Int) + 1), .int .i64 c, .int .i64 k, .int .i64 n, .int .i64 s.count, .int .i64 s.sum, .int .i64 s.min, .int .i64 s.max, .slice u1 v1 y1, .slice u2 v2 y2, .slice u3 v3 y3]) ?h17 ?r17
  case h17 => simp only [aT, aS, aZ]; rfl
  refine ⟨_, by simp [Act.put]; rfl, by kernel_rfl, by kernel_rfl, by kernel_rfl, fun _ _ _ h => h, (.inl ⟨rfl, fun W _ => by kernel_rfl⟩), HL4.out.base, ?_⟩
  refine twoH (o := ?o18) (o' := ?p18) 1 12 (by kernel_rfl) ?h18 ?g18 ?r18 ?s18
  case h18 => simp only [aT, aS, aZ]; rfl
  case g18 => simp only [aT, aS, aZ]; rfl
  case r18 =>
   intro K hK
   have co := HL4.out.loc.cell 4
   simp only [aT, aS, aZ] at co
   refine op_value (.slice q1 n1 k1) rfl (by go_simp) ⟨_, by simp [Act.put]; rfl, hK _ _ ⟨HL4.out.base, ?_⟩⟩
   clear hK co
   refine onlyH (o := ?o19) 12 (by kernel_rfl) ?h19 ?r19
   case h19 => simp only [aT, aS, aZ]; rfl
   intro K hK
   have bl : Below Y4.heap.size Y4 (Y4.alloc (.cells #[.int .i64 ((n1 : Int) + 1), .int .i64 c, .int .i64 k, .int .i64 n, .int .i64 s.count, .int .i64 s.sum, .int .i64 s.min, .int .i64 s.max, .slice u1 v1 y1, .slice u2 v2 y2, .slice u3 v3 y3] 36)) := (Below.refl _ _).alloc (Nat.le_refl _) _
   have HL5 : Hid (SealL w #[.int .i64 x.id, .int .i64 x.epoch, .bool x.live, .int .i64 x.granted, .slice a1 n1 c1, .slice a2 n2 c2, .int .i64 x.next] #[.int .i64 s.count, .int .i64 s.sum, .int .i64 s.min, .int .i64 s.max, .slice b1 m1 d1, .slice b2 m2 d2, .slice b3 m3 d3] B L lo n1 x q1 k1 q2 l2 k2 F G GG vs (Y4.alloc (.cells #[.int .i64 ((n1 : Int) + 1), .int .i64 c, .int .i64 k, .int .i64 n, .int .i64 s.count, .int .i64 s.sum, .int .i64 s.min, .int .i64 s.max, .slice u1 v1 y1, .slice u2 v2 y2, .slice u3 v3 y3] 36))) := HL4.out.below bl
   have RR5 : Hid (RdIt (Y4.alloc (.cells #[.int .i64 ((n1 : Int) + 1), .int .i64 c, .int .i64 k, .int .i64 n, .int .i64 s.count, .int .i64 s.sum, .int .i64 s.min, .int .i64 s.max, .slice u1 v1 y1, .slice u2 v2 y2, .slice u3 v3 y3] 36)) (.agg #[.int .i64 ((n1 : Int) + 1), .int .i64 c, .int .i64 k, .int .i64 n, .int .i64 s.count, .int .i64 s.sum, .int .i64 s.min, .int .i64 s.max, .slice u1 v1 y1, .slice u2 v2 y2, .slice u3 v3 y3]) ⟨(n1 : Int) + 1, c, k, n, s⟩ Fr ∧ Own (L + 1) (Y4.alloc (.cells #[.int .i64 ((n1 : Int) + 1), .int .i64 c, .int .i64 k, .int .i64 n, .int .i64 s.count, .int .i64 s.sum, .int .i64 s.min, .int .i64 s.max, .slice u1 v1 y1, .slice u2 v2 y2, .slice u3 v3 y3] 36)) Fr) := ⟨RR4.out.1.below bl, RR4.out.2.below (RdIt.lt RR4.out.1) bl⟩
   have NW5 : Hid (∀ j u, #[.int .i64 ((n1 : Int) + 1), .int .i64 c, .int .i64 k, .int .i64 n, .int .i64 s.count, .int .i64 s.sum, .int .i64 s.min, .int .i64 s.max, .slice u1 v1 y1, .slice u2 v2 y2, .slice u3 v3 y3].toList[j]? = some u → ((Y4.alloc (.cells #[.int .i64 ((n1 : Int) + 1), .int .i64 c, .int .i64 k, .int .i64 n, .int .i64 s.count, .int .i64 s.sum, .int .i64 s.min, .int .i64 s.max, .slice u1 v1 y1, .slice u2 v2 y2, .slice u3 v3 y3] 36))).cell? ((⟨Y4.heap.size, 0, none⟩ : Addr).add j) = some u) := news_lit _ _ _
   refine op_turn (.slice (some ⟨Y4.heap.size, 0, none⟩) 1 1) (Y4.alloc (.cells #[.int .i64 ((n1 : Int) + 1), .int .i64 c, .int .i64 k, .int .i64 n, .int .i64 s.count, .int .i64 s.sum, .int .i64 s.min, .int .i64 s.max, .slice u1 v1 y1, .slice u2 v2 y2, .slice u3 v3 y3] 36)) rfl (by kernel_rfl) ⟨_, by simp [Act.put]; rfl, hK _ _ ⟨HL5.out.base, ?_⟩⟩
   clear hK bl
   obtain ⟨L5, hL5⟩ : ∃ z, z = Y4.heap.size := ⟨_, rfl⟩
   obtain ⟨Y5, hY5⟩ : ∃ Z, Z = (Y4.alloc (.cells #[.int .i64 ((n1 : Int) + 1), .int .i64 c, .int .i64 k, .int .i64 n, .int .i64 s.count, .int .i64 s.sum, .int .i64 s.min, .int .i64 s.max, .slice u1 v1 y1, .slice u2 v2 y2, .slice u3 v3 y3] 36)) := ⟨_, rfl⟩
   rw [← hY5, ← hL5] at NW5
   rw [← hY5] at HL5 RR5 ⊢
   rw [← hL5]
   clear hY5 hL5
   refine onlyH (o := ?o20) 13 (by kernel_rfl) ?h20 ?r20
   case h20 => simp only [aT, aS, aZ]; rfl
   intro K hK
   refine op_append Y5 rfl _ _ 24 rfl lo 36 j0 (.agg #[.int .i64 0, .int .i64 0, .int .i64 0, .int .i64 0, .int .i64 0, .int .i64 0, .int .i64 0, .int .i64 0, .slice none 0 0, .slice none 0 0, .slice none 0 0]) 11 136 Try.underlying24 hj hy0 hy1 hy2 rfl (by decide) (.slice q1 n1 k1) n1 vs rfl HL5.out.c.gr.row ⟨L5, 0, none⟩ 1 1 #[.int .i64 ((n1 : Int) + 1), .int .i64 c, .int .i64 k, .int .i64 n, .int .i64 s.count, .int .i64 s.sum, .int .i64 s.min, .int .i64 s.max, .slice u1 v1 y1, .slice u2 v2 y2, .slice u3 v3 y3].toList rfl rfl NW5.out (by simp [Value.oneCell']) (by decide) (by unfold maxLen; omega) (by omega) HL5.out.c.gr.lw _ rfl ?_
   intro g4 cp4 Y6 hown hgrow hat _
   obtain ⟨ST1, ST2, F', ST3⟩ := HL5.out.done RR5.out.1 rfl RR5.out.2 hown hgrow hat
   have HL6 : Hid (SealW w #[.int .i64 x.id, .int .i64 x.epoch, .bool x.live, .int .i64 x.granted, .slice a1 n1 c1, .slice a2 n2 c2, .int .i64 x.next] #[.int .i64 s.count, .int .i64 s.sum, .int .i64 s.min, .int .i64 s.max, .slice b1 m1 d1, .slice b2 m2 d2, .slice b3 m3 d3] Y6 ∧ SealD w #[.int .i64 x.id, .int .i64 x.epoch, .bool x.live, .int .i64 x.granted, .slice a1 n1 c1, .slice a2 n2 c2, .int .i64 x.next] #[.int .i64 s.count, .int .i64 s.sum, .int .i64 s.min, .int .i64 s.max, .slice b1 m1 d1, .slice b2 m2 d2, .slice b3 m3 d3] L #[.int .i64 x.id, .int .i64 x.epoch, .bool x.live, .int .i64 x.granted, .slice (some ⟨g4, 0, none⟩) (n1 + 1) cp4, .slice q2 l2 k2, .int .i64 x.next] (x.plus ⟨(n1 : Int) + 1, c, k, n, s⟩) F' G (Y6.setCell ⟨L, 4, none⟩ (.slice (some ⟨g4, 0, none⟩) (n1 + 1) cp4))) := ⟨ST1, ST3⟩
   have co := ST2.cell 4
   have fo := ST2.frozen 4
   simp only [aT, aS, aZ] at co
   refine ⟨_, by simp [Act.put]; rfl, hK _ _ ⟨HL6.out.1, ?_⟩⟩
   clear hK hown hgrow hat ST1 ST2 ST3
   refine takeH (o := ?o21) 14 (.pointer (some ⟨L, 4, none⟩)) ?h21 ?r21
   case h21 => simp only [aT, aS, aZ]; rfl
   refine ⟨_, by simp [Act.put]; rfl, by kernel_rfl, by kernel_rfl, by kernel_rfl, fun _ _ _ h => h, (.inl ⟨rfl, fun W _ => by kernel_rfl⟩), HL6.out.1, ?_⟩
   refine onlyH (o := ?o22) 15 (by kernel_rfl) ?h22 ?r22
   case h22 => simp only [aT, aS, aZ]; rfl
   intro K hK
   refine op_skip (Y6.setCell ⟨L, 4, none⟩ (.slice (some ⟨g4, 0, none⟩) (n1 + 1) cp4)) rfl (by go_simp) ⟨_, by simp [Act.put]; rfl, hK _ _ ⟨HL6.out.2.base, ?_⟩⟩
   clear hK co fo
   refine wpAnyH_done (by kernel_rfl) ?_ _
   obtain ⟨w5, hw5⟩ : ∃ W, W = Y6.setCell ⟨L, 4, none⟩ (.slice (some ⟨g4, 0, none⟩) (n1 + 1) cp4) := ⟨_, rfl⟩
   have H5 : Hid (SealD w #[.int .i64 x.id, .int .i64 x.epoch, .bool x.live, .int .i64 x.granted, .slice a1 n1 c1, .slice a2 n2 c2, .int .i64 x.next] #[.int .i64 s.count, .int .i64 s.sum, .int .i64 s.min, .int .i64 s.max, .slice b1 m1 d1, .slice b2 m2 d2, .slice b3 m3 d3] L #[.int .i64 x.id, .int .i64 x.epoch, .bool x.live, .int .i64 x.granted, .slice (some ⟨g4, 0, none⟩) (n1 + 1) cp4, .slice q2 l2 k2, .int .i64 x.next] (x.plus (x.item c k n s)) F' G w5) := by rw [HI.out.1, hw5]; exact HL6.out.2
   rw [← hw5]
   clear hw5 HL6
   go_wp2_with (first | go_skip | (with_reducible refine stopLoad 27 rfl ?_))
   refine load_known 27 L _ 27 _ H5.out.loc rfl rfl rfl Try.underlying27 rfl infoAgQSpec ?_
   go_wp2_with fail
   refine (agentOkSpec_any _ (x.plus (x.item c k n s)) F' G _ H5.out.rd (fun y hy => (List.mem_append.1 hy).elim (fun h => (HF.out.1 y h).wide) (fun h => by (obtain rfl : y = x.item c k n s := by simpa using h); exact HU.out.2.wide)) (by show (x.sealed ++ [x.item c k n s]).length ≤ _; rw [List.length_append]; have := HF.out.2.1; simp; omega) (by show x.taken.length ≤ _; have := HF.out.2.2; omega)).mono ?_
   rintro e w6 ⟨rfl, hb6⟩
   have H6 : Hid (SealD w #[.int .i64 x.id, .int .i64 x.epoch, .bool x.live, .int .i64 x.granted, .slice a1 n1 c1, .slice a2 n2 c2, .int .i64 x.next] #[.int .i64 s.count, .int .i64 s.sum, .int .i64 s.min, .int .i64 s.max, .slice b1 m1 d1, .slice b2 m2 d2, .slice b3 m3 d3] L #[.int .i64 x.id, .int .i64 x.epoch, .bool x.live, .int .i64 x.granted, .slice (some ⟨g4, 0, none⟩) (n1 + 1) cp4, .slice q2 l2 k2, .int .i64 x.next] (x.plus (x.item c k n s)) F' G w6) := H5.out.below hb6
   obtain ⟨d, hd⟩ : ∃ d, d = (x.plus (x.item c k n s)).ok := ⟨_, rfl⟩
   rw [← hd]
   have HD : Hid (d = (x.item c k n s).ok) := hd.trans (Ag.plus_ok x c k n s HD1.out)
   clear hb6 hd H5
   cases d
   ·
    have HV : Hid (x.seal c k n s = (x, 0)) := by show _ = _; unfold Ag.seal; rw [← HD.out]; simp
    go_wp2_with (first | go_skip | (with_reducible refine stopLoad 27 rfl ?_))
    refine load_known 27 w.heap.size _ 27 _ H6.out.base.box rfl rfl rfl Try.underlying27 rfl infoAgQSpec ?_
    go_wp2_with fail
    refine (l8Copy_grow _ x F0 G0 _ (HX.out.1.below H6.out.base.bel) HF.out.1 HF.out.2.1 HF.out.2.2).mono ?_
    intro e w8 hnew
    obtain ⟨cs8, F8, G8, rfl, r8, o8, p8, ap8, hb8, v8, hv8, gr8⟩ := hnew.apart.room
    have hzz := r8.cells
    obtain ⟨cs9, e9, hz8, ho8⟩ := hzz
    injection e9 with e9
    subst e9
    have H8 : Hid (SealW w #[.int .i64 x.id, .int .i64 x.epoch, .bool x.live, .int .i64 x.granted, .slice a1 n1 c1, .slice a2 n2 c2, .int .i64 x.next] #[.int .i64 s.count, .int .i64 s.sum, .int .i64 s.min, .int .i64 s.max, .slice b1 m1 d1, .slice b2 m2 d2, .slice b3 m3 d3] w8 ∧ RdAg w8 (.agg cs8) x F8 G8 ∧ Own (w.heap.size + 3) w8 F8 ∧ Own (w.heap.size + 3) w8 G8 ∧ (∀ b ∈ F8, b ∉ G8) ∧ GrA (w.heap.size + 3) (w.heap.size + 2) v8 x.sealed.length x.sealed G8 w8) := ⟨H6.out.base.below hb8, r8, o8.mono (by have := H6.out.base.res.lt; omega), p8.mono (by have := H6.out.base.res.lt; omega), ap8, (gr8.mono (by have := H6.out.base.res.lt; omega)).at (.inl (by omega))⟩
    clear r8 o8 p8 ap8 hb8 gr8 hnew
    go_wp2_with (first | go_skip | (with_reducible refine stopStore 27 rfl ?_))
    refine store_known 27 (w.heap.size + 1 + 1) _ cs8 27 H8.out.1.res rfl rfl rfl rfl (by rw [hz8]; exact infoAgQSpec) (by rw [hz8]; rfl) ho8 ?_
    go_wp2
    refine bodyPost_ret (results_row_tmp Try.results22 _ _ (w.heap.size + 1 + 1) _ _ _ _ rfl H8.out.1.res.setRow Try.underlying27 rfl (by rw [hz8]; exact infoAgQSpec)) rfl ?_
    have nr : w.heap.size + 1 + 1 ∉ F8 := fun hx => by have := H8.out.2.2.1.ge _ hx; omega
    have mr : w.heap.size + 1 + 1 ∉ G8 := fun hx => by have := H8.out.2.2.2.1.ge _ hx; omega
    rw [HV.out]
    exact ⟨_, F8, G8, _, rfl, H8.out.2.1.agree (Agree.row nr _) (Agree.row mr _), rfl, (H8.out.2.2.1.agree (Agree.row nr _)).mono (by omega), (H8.out.2.2.2.1.agree (Agree.row mr _)).mono (by omega), H8.out.2.2.2.2.1, below_setRow H8.out.1.bel (by omega) _, v8, hv8, ((H8.out.2.2.2.2.2.row (.inl (by omega))).at (.inr (Nat.le_refl _))).mono (by omega)⟩
   have HV : Hid (x.seal c k n s = (x.plus (x.item c k n s), (n1 : Int) + 1)) := by show _ = _; unfold Ag.seal; rw [if_pos ⟨HD1.out, HD.out.symm⟩, HI.out.2]
   go_wp2_with fail
   have H7 : Hid (SealD w #[.int .i64 x.id, .int .i64 x.epoch, .bool x.live, .int .i64 x.granted, .slice a1 n1 c1, .slice a2 n2 c2, .int .i64 x.next] #[.int .i64 s.count, .int .i64 s.sum, .int .i64 s.min, .int .i64 s.max, .slice b1 m1 d1, .slice b2 m2 d2, .slice b3 m3 d3] L #[.int .i64 x.id, .int .i64 x.epoch, .bool x.live, .int .i64 x.granted, .slice (some ⟨g4, 0, none⟩) (n1 + 1) cp4, .slice q2 l2 k2, .int .i64 x.next] (x.plus (x.item c k n s)) F' G w6.drew) := H6.out.below (Below.refl _ _).drew
   obtain ⟨Z0, hZ0⟩ : ∃ Y, Y = w6.drew := ⟨_, rfl⟩
   rw [← hZ0] at H7
   clear H6 HD
   refine wp_region_held (S := fun W => Blk W L #[.int .i64 x.id, .int .i64 x.epoch, .bool x.live, .int .i64 x.granted, .slice (some ⟨g4, 0, none⟩) (n1 + 1) cp4, .slice q2 l2 k2, .int .i64 x.next] 27) (by kernel_rfl) ?_
   change wpAnyH _ _ _ _ _ _ _ _ (World.drew _)
   rw [← hZ0]
   clear hZ0
   refine takeH (o := ?o27xx) 0 (.agg #[.int .i64 x.id, .int .i64 x.epoch, .bool x.live, .int .i64 x.granted, .slice (some ⟨g4, 0, none⟩) (n1 + 1) cp4, .slice q2 l2 k2, .int .i64 x.next]) ?h27xx ?r27xx
   case h27xx => simp only [aT, aZ]; rfl
   refine ⟨_, by simp [Act.put]; rfl, by kernel_rfl, by kernel_rfl, by kernel_rfl, fun _ _ _ h => h, (yields_whole 27 L #[.int .i64 x.id, .int .i64 x.epoch, .bool x.live, .int .i64 x.granted, .slice (some ⟨g4, 0, none⟩) (n1 + 1) cp4, .slice q2 l2 k2, .int .i64 x.next] 27 _ rfl rfl rfl Try.underlying27 rfl infoAgQSpec (fun W hW => hW)), H7.out.loc, ?_⟩
   refine takeH (o := ?o28xx) 1 (.pointer (some ⟨L, 4, none⟩)) ?h28xx ?r28xx
   case h28xx => simp only [aT, aS, aZ]; rfl
   refine ⟨_, by simp [Act.put]; rfl, by kernel_rfl, by kernel_rfl, by kernel_rfl, fun _ _ _ h => h, (.inl ⟨rfl, fun W _ => by kernel_rfl⟩), H7.out.loc, ?_⟩
   refine takeH (o := ?o29xx) 2 (.slice (some ⟨g4, 0, none⟩) (n1 + 1) cp4) ?h29xx ?r29xx
   case h29xx => simp only [aT, aS, aZ]; rfl
   refine ⟨_, by simp [Act.put]; rfl, by kernel_rfl, by kernel_rfl, by kernel_rfl, fun _ _ _ h => h, (.inl ⟨rfl, fun W hW => by have c := hW.cell 4; simp only [aT, aS, aZ] at c; go_simp⟩), H7.out.loc, ?_⟩
   refine takeH (o := ?o30xx) 3 (.int .i64 ((n1 + 1 : Nat) : Int)) ?h30xx ?r30xx
   case h30xx => simp only [aT, aS, aZ]; rfl
   refine ⟨_, by simp [Act.put]; rfl, by kernel_rfl, by kernel_rfl, by kernel_rfl, fun _ _ _ h => h, (.inl ⟨rfl, fun W _ => by go_simp⟩), H7.out.loc, ?_⟩
   refine onlyH (o := ?o31xx) 4 (by kernel_rfl) ?h31xx ?r31xx
   case h31xx => simp only [aT, aS, aZ]; rfl
   intro K hK
   have gL := H7.out.gL
   refine op_store 27 (w.heap.size + 1 + 1) #[.int .i64 0, .int .i64 0, .bool false, .int .i64 0, .slice none 0 0, .slice none 0 0, .int .i64 0] #[.int .i64 x.id, .int .i64 x.epoch, .bool x.live, .int .i64 x.granted, .slice (some ⟨g4, 0, none⟩) (n1 + 1) cp4, .slice q2 l2 k2, .int .i64 x.next] 27 rfl rfl rfl rfl H7.out.base.res infoAgQSpec rfl (by simp [Value.oneCell']) ⟨_, by simp [Act.put]; rfl, hK _ _ ⟨H7.out.loc.setRowOther (by omega), ?_⟩⟩
   clear hK
   refine takeH (o := ?o32xx) 5 (.int .i64 ((n1 + 1 : Nat) : Int)) ?h32xx ?r32xx
   case h32xx => simp only [aT, aS, aZ]; rfl
   refine ⟨_, by simp [Act.put]; rfl, by kernel_rfl, by kernel_rfl, by kernel_rfl, fun _ _ _ h => h, (.inl ⟨rfl, fun W _ => by kernel_rfl⟩), (H7.out.loc.setRowOther (by omega)), ?_⟩
   refine wpAnyH_done (by kernel_rfl) ?_ _
   go_wp2
   refine bodyPost_ret (results_row_tmp Try.results22 _ _ (w.heap.size + 1 + 1) _ _ _ _ rfl H7.out.base.res.setRow Try.underlying27 rfl infoAgQSpec) rfl ?_
   have nr : w.heap.size + 1 + 1 ∉ F' := fun hx => by have := H7.out.oF.ge _ hx; omega
   have mr : w.heap.size + 1 + 1 ∉ G := fun hx => by have := H7.out.oG.ge _ hx; omega
   rw [HV.out]
   exact ⟨_, F', G, _, rfl, H7.out.rd.agree (Agree.row nr _) (Agree.row mr _), (by show (((n1 + 1 : Nat) : Int)) = (n1 : Int) + 1; omega), (H7.out.oF.agree (Agree.row nr _)).mono (by omega), (H7.out.oG.agree (Agree.row mr _)).mono (by omega), H7.out.ap, below_setRow H7.out.base.bel (by omega) _, (let ⟨v, e, g⟩ := H7.out.rm; ⟨v, e, ((((g.at (.inl (by omega : w.heap.size < w.heap.size + 3))).row (.inl (by omega))).at (.inr (Nat.le_refl _))).mono (by omega))⟩)⟩
  case s18 =>
   intro K hK
   have bl : Below Y4.heap.size Y4 (Y4.alloc (.cells #[.int .i64 ((n1 : Int) + 1), .int .i64 c, .int .i64 k, .int .i64 n, .int .i64 s.count, .int .i64 s.sum, .int .i64 s.min, .int .i64 s.max, .slice u1 v1 y1, .slice u2 v2 y2, .slice u3 v3 y3] 36)) := (Below.refl _ _).alloc (Nat.le_refl _) _
   have HL7 : Hid (SealL w #[.int .i64 x.id, .int .i64 x.epoch, .bool x.live, .int .i64 x.granted, .slice a1 n1 c1, .slice a2 n2 c2, .int .i64 x.next] #[.int .i64 s.count, .int .i64 s.sum, .int .i64 s.min, .int .i64 s.max, .slice b1 m1 d1, .slice b2 m2 d2, .slice b3 m3 d3] B L lo n1 x q1 k1 q2 l2 k2 F G GG vs (Y4.alloc (.cells #[.int .i64 ((n1 : Int) + 1), .int .i64 c, .int .i64 k, .int .i64 n, .int .i64 s.count, .int .i64 s.sum, .int .i64 s.min, .int .i64 s.max, .slice u1 v1 y1, .slice u2 v2 y2, .slice u3 v3 y3] 36))) := HL4.out.below bl
   have RR7 : Hid (RdIt (Y4.alloc (.cells #[.int .i64 ((n1 : Int) + 1), .int .i64 c, .int .i64 k, .int .i64 n, .int .i64 s.count, .int .i64 s.sum, .int .i64 s.min, .int .i64 s.max, .slice u1 v1 y1, .slice u2 v2 y2, .slice u3 v3 y3] 36)) (.agg #[.int .i64 ((n1 : Int) + 1), .int .i64 c, .int .i64 k, .int .i64 n, .int .i64 s.count, .int .i64 s.sum, .int .i64 s.min, .int .i64 s.max, .slice u1 v1 y1, .slice u2 v2 y2, .slice u3 v3 y3]) ⟨(n1 : Int) + 1, c, k, n, s⟩ Fr ∧ Own (L + 1) (Y4.alloc (.cells #[.int .i64 ((n1 : Int) + 1), .int .i64 c, .int .i64 k, .int .i64 n, .int .i64 s.count, .int .i64 s.sum, .int .i64 s.min, .int .i64 s.max, .slice u1 v1 y1, .slice u2 v2 y2, .slice u3 v3 y3] 36)) Fr) := ⟨RR4.out.1.below bl, RR4.out.2.below (RdIt.lt RR4.out.1) bl⟩
   have NW7 : Hid (∀ j u, #[.int .i64 ((n1 : Int) + 1), .int .i64 c, .int .i64 k, .int .i64 n, .int .i64 s.count, .int .i64 s.sum, .int .i64 s.min, .int .i64 s.max, .slice u1 v1 y1, .slice u2 v2 y2, .slice u3 v3 y3].toList[j]? = some u → ((Y4.alloc (.cells #[.int .i64 ((n1 : Int) + 1), .int .i64 c, .int .i64 k, .int .i64 n, .int .i64 s.count, .int .i64 s.sum, .int .i64 s.min, .int .i64 s.max, .slice u1 v1 y1, .slice u2 v2 y2, .slice u3 v3 y3] 36))).cell? ((⟨Y4.heap.size, 0, none⟩ : Addr).add j) = some u) := news_lit _ _ _
   refine op_turn (.slice (some ⟨Y4.heap.size, 0, none⟩) 1 1) (Y4.alloc (.cells #[.int .i64 ((n1 : Int) + 1), .int .i64 c, .int .i64 k, .int .i64 n, .int .i64 s.count, .int .i64 s.sum, .int .i64 s.min, .int .i64 s.max, .slice u1 v1 y1, .slice u2 v2 y2, .slice u3 v3 y3] 36)) rfl (by kernel_rfl) ⟨_, by simp [Act.put]; rfl, hK _ _ ⟨HL7.out.base, ?_⟩⟩
   clear hK bl
   obtain ⟨L7, hL7⟩ : ∃ z, z = Y4.heap.size := ⟨_, rfl⟩
   obtain ⟨Y7, hY7⟩ : ∃ Z, Z = (Y4.alloc (.cells #[.int .i64 ((n1 : Int) + 1), .int .i64 c, .int .i64 k, .int .i64 n, .int .i64 s.count, .int .i64 s.sum, .int .i64 s.min, .int .i64 s.max, .slice u1 v1 y1, .slice u2 v2 y2, .slice u3 v3 y3] 36)) := ⟨_, rfl⟩
   rw [← hY7, ← hL7] at NW7
   rw [← hY7] at HL7 RR7 ⊢
   rw [← hL7]
   clear hY7 hL7
   refine onlyH (o := ?o23) 1 (by kernel_rfl) ?h23 ?r23
   case h23 => simp only [aT, aS, aZ]; rfl
   intro K hK
   have co := HL7.out.loc.cell 4
   simp only [aT, aS, aZ] at co
   refine op_value (.slice q1 n1 k1) rfl (by go_simp) ⟨_, by simp [Act.put]; rfl, hK _ _ ⟨HL7.out.base, ?_⟩⟩
   clear hK co
   refine onlyH (o := ?o24) 13 (by kernel_rfl) ?h24 ?r24
   case h24 => simp only [aT, aS, aZ]; rfl
   intro K hK
   refine op_append Y7 rfl _ _ 24 rfl lo 36 j0 (.agg #[.int .i64 0, .int .i64 0, .int .i64 0, .int .i64 0, .int .i64 0, .int .i64 0, .int .i64 0, .int .i64 0, .slice none 0 0, .slice none 0 0, .slice none 0 0]) 11 136 Try.underlying24 hj hy0 hy1 hy2 rfl (by decide) (.slice q1 n1 k1) n1 vs rfl HL7.out.c.gr.row ⟨L7, 0, none⟩ 1 1 #[.int .i64 ((n1 : Int) + 1), .int .i64 c, .int .i64 k, .int .i64 n, .int .i64 s.count, .int .i64 s.sum, .int .i64 s.min, .int .i64 s.max, .slice u1 v1 y1, .slice u2 v2 y2, .slice u3 v3 y3].toList rfl rfl NW7.out (by simp [Value.oneCell']) (by decide) (by unfold maxLen; omega) (by omega) HL7.out.c.gr.lw _ rfl ?_
   intro g4 cp4 Y8 hown hgrow hat _
   obtain ⟨ST1, ST2, F', ST3⟩ := HL7.out.done RR7.out.1 rfl RR7.out.2 hown hgrow hat
   have HL8 : Hid (SealW w #[.int .i64 x.id, .int .i64 x.epoch, .bool x.live, .int .i64 x.granted, .slice a1 n1 c1, .slice a2 n2 c2, .int .i64 x.next] #[.int .i64 s.count, .int .i64 s.sum, .int .i64 s.min, .int .i64 s.max, .slice b1 m1 d1, .slice b2 m2 d2, .slice b3 m3 d3] Y8 ∧ SealD w #[.int .i64 x.id, .int .i64 x.epoch, .bool x.live, .int .i64 x.granted, .slice a1 n1 c1, .slice a2 n2 c2, .int .i64 x.next] #[.int .i64 s.count, .int .i64 s.sum, .int .i64 s.min, .int .i64 s.max, .slice b1 m1 d1, .slice b2 m2 d2, .slice b3 m3 d3] L #[.int .i64 x.id, .int .i64 x.epoch, .bool x.live, .int .i64 x.granted, .slice (some ⟨g4, 0, none⟩) (n1 + 1) cp4, .slice q2 l2 k2, .int .i64 x.next] (x.plus ⟨(n1 : Int) + 1, c, k, n, s⟩) F' G (Y8.setCell ⟨L, 4, none⟩ (.slice (some ⟨g4, 0, none⟩) (n1 + 1) cp4))) := ⟨ST1, ST3⟩
   have co := ST2.cell 4
   have fo := ST2.frozen 4
   simp only [aT, aS, aZ] at co
   refine ⟨_, by simp [Act.put]; rfl, hK _ _ ⟨HL8.out.1, ?_⟩⟩
   clear hK hown hgrow hat ST1 ST2 ST3
   refine takeH (o := ?o25) 14 (.pointer (some ⟨L, 4, none⟩)) ?h25 ?r25
   case h25 => simp only [aT, aS, aZ]; rfl
   refine ⟨_, by simp [Act.put]; rfl, by kernel_rfl, by kernel_rfl, by kernel_rfl, fun _ _ _ h => h, (.inl ⟨rfl, fun W _ => by kernel_rfl⟩), HL8.out.1, ?_⟩
   refine onlyH (o := ?o26) 15 (by kernel_rfl) ?h26 ?r26
   case h26 => simp only [aT, aS, aZ]; rfl
   intro K hK
   refine op_skip (Y8.setCell ⟨L, 4, none⟩ (.slice (some ⟨g4, 0, none⟩) (n1 + 1) cp4)) rfl (by go_simp) ⟨_, by simp [Act.put]; rfl, hK _ _ ⟨HL8.out.2.base, ?_⟩⟩
   clear hK co fo
   refine wpAnyH_done (by kernel_rfl) ?_ _
   obtain ⟨w5, hw5⟩ : ∃ W, W = Y8.setCell ⟨L, 4, none⟩ (.slice (some ⟨g4, 0, none⟩) (n1 + 1) cp4) := ⟨_, rfl⟩
   have H5 : Hid (SealD w #[.int .i64 x.id, .int .i64 x.epoch, .bool x.live, .int .i64 x.granted, .slice a1 n1 c1, .slice a2 n2 c2, .int .i64 x.next] #[.int .i64 s.count, .int .i64 s.sum, .int .i64 s.min, .int .i64 s.max, .slice b1 m1 d1, .slice b2 m2 d2, .slice b3 m3 d3] L #[.int .i64 x.id, .int .i64 x.epoch, .bool x.live, .int .i64 x.granted, .slice (some ⟨g4, 0, none⟩) (n1 + 1) cp4, .slice q2 l2 k2, .int .i64 x.next] (x.plus (x.item c k n s)) F' G w5) := by rw [HI.out.1, hw5]; exact HL8.out.2
   rw [← hw5]
   clear hw5 HL8
   go_wp2_with (first | go_skip | (with_reducible refine stopLoad 27 rfl ?_))
   refine load_known 27 L _ 27 _ H5.out.loc rfl rfl rfl Try.underlying27 rfl infoAgQSpec ?_
   go_wp2_with fail
   refine (agentOkSpec_any _ (x.plus (x.item c k n s)) F' G _ H5.out.rd (fun y hy => (List.mem_append.1 hy).elim (fun h => (HF.out.1 y h).wide) (fun h => by (obtain rfl : y = x.item c k n s := by simpa using h); exact HU.out.2.wide)) (by show (x.sealed ++ [x.item c k n s]).length ≤ _; rw [List.length_append]; have := HF.out.2.1; simp; omega) (by show x.taken.length ≤ _; have := HF.out.2.2; omega)).mono ?_
   rintro e w6 ⟨rfl, hb6⟩
   have H6 : Hid (SealD w #[.int .i64 x.id, .int .i64 x.epoch, .bool x.live, .int .i64 x.granted, .slice a1 n1 c1, .slice a2 n2 c2, .int .i64 x.next] #[.int .i64 s.count, .int .i64 s.sum, .int .i64 s.min, .int .i64 s.max, .slice b1 m1 d1, .slice b2 m2 d2, .slice b3 m3 d3] L #[.int .i64 x.id, .int .i64 x.epoch, .bool x.live, .int .i64 x.granted, .slice (some ⟨g4, 0, none⟩) (n1 + 1) cp4, .slice q2 l2 k2, .int .i64 x.next] (x.plus (x.item c k n s)) F' G w6) := H5.out.below hb6
   obtain ⟨d, hd⟩ : ∃ d, d = (x.plus (x.item c k n s)).ok := ⟨_, rfl⟩
   rw [← hd]
   have HD : Hid (d = (x.item c k n s).ok) := hd.trans (Ag.plus_ok x c k n s HD1.out)
   clear hb6 hd H5
   cases d
   ·
    have HV : Hid (x.seal c k n s = (x, 0)) := by show _ = _; unfold Ag.seal; rw [← HD.out]; simp
    go_wp2_with (first | go_skip | (with_reducible refine stopLoad 27 rfl ?_))
    refine load_known 27 w.heap.size _ 27 _ H6.out.base.box rfl rfl rfl Try.underlying27 rfl infoAgQSpec ?_
    go_wp2_with fail
    refine (l8Copy_grow _ x F0 G0 _ (HX.out.1.below H6.out.base.bel) HF.out.1 HF.out.2.1 HF.out.2.2).mono ?_
    intro e w8 hnew
    obtain ⟨cs8, F8, G8, rfl, r8, o8, p8, ap8, hb8, v8, hv8, gr8⟩ := hnew.apart.room
    have hzz := r8.cells
    obtain ⟨cs9, e9, hz8, ho8⟩ := hzz
    injection e9 with e9
    subst e9
    have H8 : Hid (SealW w #[.int .i64 x.id, .int .i64 x.epoch, .bool x.live, .int .i64 x.granted, .slice a1 n1 c1, .slice a2 n2 c2, .int .i64 x.next] #[.int .i64 s.count, .int .i64 s.sum, .int .i64 s.min, .int .i64 s.max, .slice b1 m1 d1, .slice b2 m2 d2, .slice b3 m3 d3] w8 ∧ RdAg w8 (.agg cs8) x F8 G8 ∧ Own (w.heap.size + 3) w8 F8 ∧ Own (w.heap.size + 3) w8 G8 ∧ (∀ b ∈ F8, b ∉ G8) ∧ GrA (w.heap.size + 3) (w.heap.size + 2) v8 x.sealed.length x.sealed G8 w8) := ⟨H6.out.base.below hb8, r8, o8.mono (by have := H6.out.base.res.lt; omega), p8.mono (by have := H6.out.base.res.lt; omega), ap8, (gr8.mono (by have := H6.out.base.res.lt; omega)).at (.inl (by omega))⟩
    clear r8 o8 p8 ap8 hb8 gr8 hnew
    go_wp2_with (first | go_skip | (with_reducible refine stopStore 27 rfl ?_))
    refine store_known 27 (w.heap.size + 1 + 1) _ cs8 27 H8.out.1.res rfl rfl rfl rfl (by rw [hz8]; exact infoAgQSpec) (by rw [hz8]; rfl) ho8 ?_
    go_wp2
    refine bodyPost_ret (results_row_tmp Try.results22 _ _ (w.heap.size + 1 + 1) _ _ _ _ rfl H8.out.1.res.setRow Try.underlying27 rfl (by rw [hz8]; exact infoAgQSpec)) rfl ?_
    have nr : w.heap.size + 1 + 1 ∉ F8 := fun hx => by have := H8.out.2.2.1.ge _ hx; omega
    have mr : w.heap.size + 1 + 1 ∉ G8 := fun hx => by have := H8.out.2.2.2.1.ge _ hx; omega
    rw [HV.out]
    exact ⟨_, F8, G8, _, rfl, H8.out.2.1.agree (Agree.row nr _) (Agree.row mr _), rfl, (H8.out.2.2.1.agree (Agree.row nr _)).mono (by omega), (H8.out.2.2.2.1.agree (Agree.row mr _)).mono (by omega), H8.out.2.2.2.2.1, below_setRow H8.out.1.bel (by omega) _, v8, hv8, ((H8.out.2.2.2.2.2.row (.inl (by omega))).at (.inr (Nat.le_refl _))).mono (by omega)⟩
   have HV : Hid (x.seal c k n s = (x.plus (x.item c k n s), (n1 : Int) + 1)) := by show _ = _; unfold Ag.seal; rw [if_pos ⟨HD1.out, HD.out.symm⟩, HI.out.2]
   go_wp2_with fail
   have H7 : Hid (SealD w #[.int .i64 x.id, .int .i64 x.epoch, .bool x.live, .int .i64 x.granted, .slice a1 n1 c1, .slice a2 n2 c2, .int .i64 x.next] #[.int .i64 s.count, .int .i64 s.sum, .int .i64 s.min, .int .i64 s.max, .slice b1 m1 d1, .slice b2 m2 d2, .slice b3 m3 d3] L #[.int .i64 x.id, .int .i64 x.epoch, .bool x.live, .int .i64 x.granted, .slice (some ⟨g4, 0, none⟩) (n1 + 1) cp4, .slice q2 l2 k2, .int .i64 x.next] (x.plus (x.item c k n s)) F' G w6.drew) := H6.out.below (Below.refl _ _).drew
   obtain ⟨Z0, hZ0⟩ : ∃ Y, Y = w6.drew := ⟨_, rfl⟩
   rw [← hZ0] at H7
   clear H6 HD
   refine wp_region_held (S := fun W => Blk W L #[.int .i64 x.id, .int .i64 x.epoch, .bool x.live, .int .i64 x.granted, .slice (some ⟨g4, 0, none⟩) (n1 + 1) cp4, .slice q2 l2 k2, .int .i64 x.next] 27) (by kernel_rfl) ?_
   change wpAnyH _ _ _ _ _ _ _ _ (World.drew _)
   rw [← hZ0]
   clear hZ0
   refine takeH (o := ?o27xxx) 0 (.agg #[.int .i64 x.id, .int .i64 x.epoch, .bool x.live, .int .i64 x.granted, .slice (some ⟨g4, 0, none⟩) (n1 + 1) cp4, .slice q2 l2 k2, .int .i64 x.next]) ?h27xxx ?r27xxx
   case h27xxx => simp only [aT, aZ]; rfl
   refine ⟨_, by simp [Act.put]; rfl, by kernel_rfl, by kernel_rfl, by kernel_rfl, fun _ _ _ h => h, (yields_whole 27 L #[.int .i64 x.id, .int .i64 x.epoch, .bool x.live, .int .i64 x.granted, .slice (some ⟨g4, 0, none⟩) (n1 + 1) cp4, .slice q2 l2 k2, .int .i64 x.next] 27 _ rfl rfl rfl Try.underlying27 rfl infoAgQSpec (fun W hW => hW)), H7.out.loc, ?_⟩
   refine takeH (o := ?o28xxx) 1 (.pointer (some ⟨L, 4, none⟩)) ?h28xxx ?r28xxx
   case h28xxx => simp only [aT, aS, aZ]; rfl
   refine ⟨_, by simp [Act.put]; rfl, by kernel_rfl, by kernel_rfl, by kernel_rfl, fun _ _ _ h => h, (.inl ⟨rfl, fun W _ => by kernel_rfl⟩), H7.out.loc, ?_⟩
   refine takeH (o := ?o29xxx) 2 (.slice (some ⟨g4, 0, none⟩) (n1 + 1) cp4) ?h29xxx ?r29xxx
   case h29xxx => simp only [aT, aS, aZ]; rfl
   refine ⟨_, by simp [Act.put]; rfl, by kernel_rfl, by kernel_rfl, by kernel_rfl, fun _ _ _ h => h, (.inl ⟨rfl, fun W hW => by have c := hW.cell 4; simp only [aT, aS, aZ] at c; go_simp⟩), H7.out.loc, ?_⟩
   refine takeH (o := ?o30xxx) 3 (.int .i64 ((n1 + 1 : Nat) : Int)) ?h30xxx ?r30xxx
   case h30xxx => simp only [aT, aS, aZ]; rfl
   refine ⟨_, by simp [Act.put]; rfl, by kernel_rfl, by kernel_rfl, by kernel_rfl, fun _ _ _ h => h, (.inl ⟨rfl, fun W _ => by go_simp⟩), H7.out.loc, ?_⟩
   refine onlyH (o := ?o31xxx) 4 (by kernel_rfl) ?h31xxx ?r31xxx
   case h31xxx => simp only [aT, aS, aZ]; rfl
   intro K hK
   have gL := H7.out.gL
   refine op_store 27 (w.heap.size + 1 + 1) #[.int .i64 0, .int .i64 0, .bool false, .int .i64 0, .slice none 0 0, .slice none 0 0, .int .i64 0] #[.int .i64 x.id, .int .i64 x.epoch, .bool x.live, .int .i64 x.granted, .slice (some ⟨g4, 0, none⟩) (n1 + 1) cp4, .slice q2 l2 k2, .int .i64 x.next] 27 rfl rfl rfl rfl H7.out.base.res infoAgQSpec rfl (by simp [Value.oneCell']) ⟨_, by simp [Act.put]; rfl, hK _ _ ⟨H7.out.loc.setRowOther (by omega), ?_⟩⟩
   clear hK
   refine takeH (o := ?o32xxx) 5 (.int .i64 ((n1 + 1 : Nat) : Int)) ?h32xxx ?r32xxx
   case h32xxx => simp only [aT, aS, aZ]; rfl
   refine ⟨_, by simp [Act.put]; rfl, by kernel_rfl, by kernel_rfl, by kernel_rfl, fun _ _ _ h => h, (.inl ⟨rfl, fun W _ => by kernel_rfl⟩), (H7.out.loc.setRowOther (by omega)), ?_⟩
   refine wpAnyH_done (by kernel_rfl) ?_ _
   go_wp2
   refine bodyPost_ret (results_row_tmp Try.results22 _ _ (w.heap.size + 1 + 1) _ _ _ _ rfl H7.out.base.res.setRow Try.underlying27 rfl infoAgQSpec) rfl ?_
   have nr : w.heap.size + 1 + 1 ∉ F' := fun hx => by have := H7.out.oF.ge _ hx; omega
   have mr : w.heap.size + 1 + 1 ∉ G := fun hx => by have := H7.out.oG.ge _ hx; omega
   rw [HV.out]
   exact ⟨_, F', G, _, rfl, H7.out.rd.agree (Agree.row nr _) (Agree.row mr _), (by show (((n1 + 1 : Nat) : Int)) = (n1 : Int) + 1; omega), (H7.out.oF.agree (Agree.row nr _)).mono (by omega), (H7.out.oG.agree (Agree.row mr _)).mono (by omega), H7.out.ap, below_setRow H7.out.base.bel (by omega) _, (let ⟨v, e, g⟩ := H7.out.rm; ⟨v, e, ((((g.at (.inl (by omega : w.heap.size < w.heap.size + 3))).row (.inl (by omega))).at (.inr (Nat.le_refl _))).mono (by omega))⟩)⟩
set_option maxRecDepth 200000 in
theorem sealSpec_any (v u : Value) (x : Ag) (c k n : Int) (s : Sk) (F0 G0 H0 : List Nat) (w : World) (h : RdAg w v x F0 G0) (hu : RdSk w u s H0) (hf : ∀ y ∈ x.sealed, y.sk.fits) (hs : x.sealed.length ≤ 1048576) (hl : x.taken.length ≤ 1048576) (hsf : s.fits) :
 Calls Try.prog 22 #[v, .int .i64 c, .int .i64 k, .int .i64 n, u] w fun e w' => NewAg2 w (x.seal c k n s) e w' := (sealSpec_room v u x c k n s F0 G0 H0 w h hu hf hs hl hsf).mono (fun _ _ h => h.plain)
end Go.Proofs.Ytgkbhhlkaifnoaa
