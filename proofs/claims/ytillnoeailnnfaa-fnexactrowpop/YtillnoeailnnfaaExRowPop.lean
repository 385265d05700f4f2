/- For every row (no condition): laws.FnExactRowPop returns true, and its argument reads afterwards as it did: the program's RowPop answers as the model's, writes nothing into its argument, and its answer owns its memory. -/
import Derived.Test.YtillnoeailnnfaaB3
import Derived.Test.YtillnoeailnnfaaB4
import Derived.Test.YtillnoeailnnfaaB1
import Derived.Test.YtillnoeailnnfaaB2
import Derived.Test.YtillnoeailnnfaaSkLaw
import Derived.Test.YtillnoeailnnfaaRows
import Derived.WalkKit
import Derived.ProofKit
import Derived.OpenShut
import Derived.ShutString
import Derived.ChangeOld
import Derived.Below
import Derived.Deep.DeepCutAuto
namespace Go.Proofs.Ytillnoeailnnfaa.fnExactRowPop
open Go.ChangeShapes Go.WideShapes Go.ChangeAt Go.RowKit
set_option linter.unusedVariables false
theorem own : ownKnob Try.prog.godebug = none := by kernel_rfl
set_option maxRecDepth 200000 in
set_option maxHeartbeats 16000000 in
theorem walk  (v0 : Value) (s : Rw) (F : List Nat) (w : World) (h0 : RdRw w v0 s F) (hv0 : s.vast) :
    Calls Try.prog 4 #[v0] w fun e w' => e = .returned (.bool true) ∧ Below w.heap.size w w' := by
  have HH0 : Hid (RdRw w v0 s F ∧ s.vast) := ⟨h0, hv0⟩
  obtain ⟨cs0, rfl, hc0, _⟩ := h0.cells
  have HC0 : Hid (cs0.size = 1) := hc0
  have BX0 : Hid (Blk (w.alloc (.cells cs0 24)) (w.heap.size) cs0 24) := Blk.made _ _ _
  have BEL : Hid (Below w.heap.size w (w.alloc (.cells cs0 24))) := Below.allocW _ (Below.refl _ _) (Nat.le_refl _)
  clear h0 hv0 hc0
  go_enter Try.func4, Try.ntmps4
  go_wp2_with (first | go_skip | (with_reducible refine stopLoad 24 rfl ?_) | (with_reducible refine stopLoad 29 rfl ?_) | (with_reducible refine stopLoad 39 rfl ?_) | (with_reducible refine stopStore 29 rfl ?_) | (with_reducible refine stopStore 39 rfl ?_))
  refine load_any 24 (w.heap.size) cs0 24 _ BX0.out rfl rfl rfl Try.underlying24 rfl (lrwSize HC0.out) ?_
  go_wp2_with fail
  refine (szRw_vast _ s F 1048576 _ (HH0.out.1.below BEL.out) HH0.out.2 (by omega) (by omega)).mono ?_
  rintro e w1 ⟨⟨r0, rfl, ra, rb, rc⟩, hb1⟩
  have BX0 : Hid (Blk w1 (w.heap.size) cs0 24) := BX0.out.below hb1
  have BEL : Hid (Below w.heap.size w w1) := Below.next BEL.out hb1
  by_cases q : r0 < 0
  · clear ra rb rc hb1
    have hq : decide (r0 < 0) = true := dec_true q
    go_wp2
    go_ret
    exact ⟨rfl, BEL.out⟩
  have q' : 0 ≤ r0 := by omega
  have hq : decide (r0 < 0) = false := dec_false q
  have HSZ0 : Hid (s.size ≤ 1048576) := by have := rb q'; show _ ≤ _; omega
  have HR0 : Hid (0 ≤ r0 ∧ r0 ≤ 1048576) := ⟨q', by omega⟩
  have HF0 : Hid (s.fits) := Rw.fits_of HSZ0.out
  have HMI0 : Hid (0 ≤ s.many ∧ s.many ≤ 16777216) := ⟨Rw.many_nonneg s, by have := Rw.fits.many HF0.out; omega⟩
  clear ra rb rc hb1 q q'
  have LB0 : Hid (w.heap.size + 1 ≤ w1.heap.size) := BX0.out.lt
  obtain ⟨ra, rf, rc, hz⟩ : ∃ ra rf rc, ra = s.first ∧ rf = s.rest ∧ rc = s.pops := ⟨_, _, _, rfl, rfl, rfl⟩
  have HZ : Hid (ra = s.first ∧ rf = s.rest ∧ rc = s.pops) := hz
  have HM0 := Rw.pop_wide HF0.out
  rw [← hz.1, ← hz.2.1] at HM0
  have HM : Hid (ra.wide ∧ 0 ≤ ra.many ∧ ra.many ≤ 16777216 ∧ rf.wide ∧ 0 ≤ rf.many ∧ rf.many ≤ 16777216) := HM0
  have hrc : (rc != rc) = false := by simp
  clear HM0 hz
  go_wp2_with (first | go_skip | (with_reducible refine stopLoad 24 rfl ?_) | (with_reducible refine stopLoad 29 rfl ?_) | (with_reducible refine stopLoad 39 rfl ?_) | (with_reducible refine stopStore 29 rfl ?_) | (with_reducible refine stopStore 39 rfl ?_))
  refine load_any 24 (w.heap.size) cs0 24 _ BX0.out rfl rfl rfl Try.underlying24 rfl (lrwSize HC0.out) ?_
  go_wp2_with fail
  refine (toRw_any _ s F _ (HH0.out.1.below BEL.out) HF0.out).mono ?_
  rintro e w2 ⟨ztw, Xtw, rfl, rz, oz, bz⟩
  have BX0 : Hid (Blk w2 (w.heap.size) cs0 24) := BX0.out.below bz
  have BEL : Hid (Below w.heap.size w w2) := Below.next BEL.out bz
  have Ttw : Hid (RdRw w2 ztw s Xtw ∧ Own w1.heap.size w2 Xtw ∧ Below w1.heap.size w1 w2) := ⟨rz, oz, bz⟩
  have O1 : Hid (w1.heap.size ≤ w2.heap.size) := by show _ ≤ _; exact bz.size
  clear rz oz bz
  have LBpw : Hid (w.heap.size < w2.heap.size) := BX0.out.lt
  go_wp2_with fail
  refine (rowPopSpec_any _ s Xtw _ (Ttw.out.1) HF0.out).mono ?_
  rintro e w3 ⟨zv, zu, Ywa, Ywf, he, ry, ru, oy, ou, dj, bz⟩
  rw [← HZ.out.1] at ry
  rw [← HZ.out.2.1] at ru
  rw [← HZ.out.2.2] at he
  subst he
  obtain ⟨cwa, rfl, sz1, on1⟩ := ry.cells
  obtain ⟨cwf, rfl, sz2, on2⟩ := ru.cells
  have BX0 : Hid (Blk w3 (w.heap.size) cs0 24) := BX0.out.below bz
  have BEL : Hid (Below w.heap.size w w3) := Below.next BEL.out bz
  have TT : Hid (RdE w3 (.agg cwa) ra Ywa ∧ RdRw w3 (.agg cwf) rf Ywf ∧ Own w2.heap.size w3 Ywa ∧ Own w2.heap.size w3 Ywf ∧ (∀ b ∈ Ywa, b ∉ Ywf) ∧ w2.heap.size ≤ w3.heap.size) := ⟨ry, ru, oy, ou, dj, bz.size⟩
  have SZ : Hid ((cwa.size = 10 ∧ cwa.all (·.oneCell') = true) ∧ (cwf.size = 1 ∧ cwf.all (·.oneCell') = true)) := ⟨⟨sz1, on1⟩, ⟨sz2, on2⟩⟩
  clear ry ru oy ou dj bz sz1 on1 sz2 on2
  clear Ttw
  go_wp2_with (first | go_skip | (with_reducible refine stopLoad 24 rfl ?_) | (with_reducible refine stopLoad 29 rfl ?_) | (with_reducible refine stopLoad 39 rfl ?_) | (with_reducible refine stopStore 29 rfl ?_) | (with_reducible refine stopStore 39 rfl ?_))
  have bb : Below w3.heap.size w3 ((w3.alloc (.cells #[.int .i64 0, .int .i64 0, .slice none 0 0, .int .i64 0, .int .i64 0, .int .i64 0, .int .i64 0, .slice none 0 0, .slice none 0 0, .slice none 0 0] 39)).alloc (.cells #[.slice none 0 0] 29)) := Below.allocW _ (Below.allocW _ (Below.refl _ _) (Nat.le_refl _)) (Nat.le_refl _)
  have kk1 : Blk ((w3.alloc (.cells #[.int .i64 0, .int .i64 0, .slice none 0 0, .int .i64 0, .int .i64 0, .int .i64 0, .int .i64 0, .slice none 0 0, .slice none 0 0, .slice none 0 0] 39)).alloc (.cells #[.slice none 0 0] 29)) w3.heap.size #[.int .i64 0, .int .i64 0, .slice none 0 0, .int .i64 0, .int .i64 0, .int .i64 0, .int .i64 0, .slice none 0 0, .slice none 0 0, .slice none 0 0] 39 := (Blk.made _ _ _).alloc _
  have kk2 : Blk ((w3.alloc (.cells #[.int .i64 0, .int .i64 0, .slice none 0 0, .int .i64 0, .int .i64 0, .int .i64 0, .int .i64 0, .slice none 0 0, .slice none 0 0, .slice none 0 0] 39)).alloc (.cells #[.slice none 0 0] 29)) (w3.heap.size + 1) #[.slice none 0 0] 29 := Blk.made_eq (by simp)
  obtain ⟨w4, hW⟩ : ∃ Z, Z = ((w3.alloc (.cells #[.int .i64 0, .int .i64 0, .slice none 0 0, .int .i64 0, .int .i64 0, .int .i64 0, .int .i64 0, .slice none 0 0, .slice none 0 0, .slice none 0 0] 39)).alloc (.cells #[.slice none 0 0] 29)) := ⟨_, rfl⟩
  rw [← hW] at bb kk1 kk2 ⊢
  clear hW
  have BX0 : Hid (Blk w4 (w.heap.size) cs0 24) := BX0.out.below bb
  have BEL : Hid (Below w.heap.size w w4) := Below.next BEL.out bb
  have KK : Hid (Blk w4 w3.heap.size #[.int .i64 0, .int .i64 0, .slice none 0 0, .int .i64 0, .int .i64 0, .int .i64 0, .int .i64 0, .slice none 0 0, .slice none 0 0, .slice none 0 0] 39 ∧ Blk w4 (w3.heap.size + 1) #[.slice none 0 0] 29) := ⟨kk1, kk2⟩
  have TT : Hid (RdE w4 (.agg cwa) ra Ywa ∧ RdRw w4 (.agg cwf) rf Ywf ∧ Own w2.heap.size w4 Ywa ∧ Own w2.heap.size w4 Ywf ∧ (∀ b ∈ Ywa, b ∉ Ywf) ∧ w2.heap.size ≤ w3.heap.size ∧ (∀ b ∈ Ywa, b < w3.heap.size) ∧ (∀ b ∈ Ywf, b < w3.heap.size)) := ⟨TT.out.1.below bb, TT.out.2.1.below bb, TT.out.2.2.1.below TT.out.1.lt bb, TT.out.2.2.2.1.below TT.out.2.1.lt bb, TT.out.2.2.2.2.1, TT.out.2.2.2.2.2, TT.out.1.lt, TT.out.2.1.lt⟩
  clear bb kk1 kk2
  refine store_known 39 w3.heap.size _ cwa 39 KK.out.1 rfl rfl rfl rfl (enSize SZ.out.1.1) SZ.out.1.1.symm SZ.out.1.2 ?_
  go_wp2_with (first | go_skip | (with_reducible refine stopLoad 24 rfl ?_) | (with_reducible refine stopLoad 29 rfl ?_) | (with_reducible refine stopLoad 39 rfl ?_) | (with_reducible refine stopStore 29 rfl ?_) | (with_reducible refine stopStore 39 rfl ?_))
  refine store_known 29 (w3.heap.size + 1) _ cwf 29 (KK.out.2.setRowOther (by omega)) rfl rfl rfl rfl (rwSize SZ.out.2.1) SZ.out.2.1.symm SZ.out.2.2 ?_
  have lk := KK.out.2.lt
  have hsz : ((w4.setRow w3.heap.size cwa).setRow (w3.heap.size + 1) cwf).heap.size = w4.heap.size := by simp
  have agA : Agree w4 ((w4.setRow w3.heap.size cwa).setRow (w3.heap.size + 1) cwf) Ywa := (Agree.row (fun hx => by have := TT.out.2.2.2.2.2.2.1 _ hx; omega) _).trans (Agree.row (fun hx => by have := TT.out.2.2.2.2.2.2.1 _ hx; omega) _)
  have agF : Agree w4 ((w4.setRow w3.heap.size cwa).setRow (w3.heap.size + 1) cwf) Ywf := (Agree.row (fun hx => by have := TT.out.2.2.2.2.2.2.2 _ hx; omega) _).trans (Agree.row (fun hx => by have := TT.out.2.2.2.2.2.2.2 _ hx; omega) _)
  have lop := TT.out.2.2.2.2.2.1
  have VA : VarE ((w4.setRow w3.heap.size cwa).setRow (w3.heap.size + 1) cwf) w2.heap.size ((w4.setRow w3.heap.size cwa).setRow (w3.heap.size + 1) cwf).heap.size w3.heap.size cwa ra Ywa := ⟨KK.out.1.setRow.setRowOther (by omega), TT.out.1.agree agA, SZ.out.1.1, TT.out.2.2.1.agree agA, fun b hb => by have := TT.out.2.2.2.2.2.2.1 b hb; omega, lop, by omega, fun hx => by have := TT.out.2.2.2.2.2.2.1 _ hx; omega⟩
  have VF : VarRw ((w4.setRow w3.heap.size cwa).setRow (w3.heap.size + 1) cwf) w2.heap.size ((w4.setRow w3.heap.size cwa).setRow (w3.heap.size + 1) cwf).heap.size (w3.heap.size + 1) cwf rf Ywf := ⟨(KK.out.2.setRowOther (by omega)).setRow, TT.out.2.1.agree agF, SZ.out.2.1, TT.out.2.2.2.1.agree agF, fun b hb => by have := TT.out.2.2.2.2.2.2.2 b hb; omega, by omega, by omega, fun hx => by have := TT.out.2.2.2.2.2.2.2 _ hx; omega⟩
  have APw : Hid ((∀ b ∈ Ywa, b ∉ Ywf) ∧ w3.heap.size + 1 ∉ Ywa ∧ w3.heap.size ∉ Ywf) := ⟨TT.out.2.2.2.2.1, fun hx => by have := TT.out.2.2.2.2.2.2.1 _ hx; omega, fun hx => by have := TT.out.2.2.2.2.2.2.2 _ hx; omega⟩
  have lpw : w2.heap.size ≤ w4.heap.size := by omega
  have hbox : w.heap.size < w3.heap.size := by have := BEL.out.size; have := LB0.out; have := O1.out; have := LBpw.out; omega
  have BX0 : Hid (Blk ((w4.setRow w3.heap.size cwa).setRow (w3.heap.size + 1) cwf) (w.heap.size) cs0 24) := (BX0.out.setRowOther (by omega)).setRowOther (by omega)
  have BEL : Hid (Below w.heap.size w ((w4.setRow w3.heap.size cwa).setRow (w3.heap.size + 1) cwf)) := below_setRow (below_setRow BEL.out (by omega) _) (by omega) _
  obtain ⟨w5, hW⟩ : ∃ Z, Z = ((w4.setRow w3.heap.size cwa).setRow (w3.heap.size + 1) cwf) := ⟨_, rfl⟩
  rw [← hW] at VA VF hsz BX0 BEL ⊢
  have Vwa : Hid (VarE w5 w2.heap.size w5.heap.size w3.heap.size cwa ra Ywa) := VA
  have Vwf : Hid (VarRw w5 w2.heap.size w5.heap.size (w3.heap.size + 1) cwf rf Ywf) := VF
  have O3 : Hid (w2.heap.size ≤ w5.heap.size) := by show _ ≤ _; omega
  clear hW VA VF hsz agA agF lop lk lpw KK TT SZ hbox
  have HI : Hid (w5.heap.size ≤ w5.heap.size) := Nat.le_refl _
  go_wp2_with (first | go_skip | (with_reducible refine stopLoad 24 rfl ?_) | (with_reducible refine stopLoad 29 rfl ?_) | (with_reducible refine stopLoad 39 rfl ?_) | (with_reducible refine stopStore 29 rfl ?_) | (with_reducible refine stopStore 39 rfl ?_))
  refine load_any 24 (w.heap.size) cs0 24 _ BX0.out rfl rfl rfl Try.underlying24 rfl (lrwSize HC0.out) ?_
  go_wp2_with fail
  refine (toRw_any _ s F _ (HH0.out.1.below BEL.out) HF0.out).mono ?_
  rintro e w6 ⟨zx0, Xx0, rfl, rz, oz, bz⟩
  have BX0 : Hid (Blk w6 (w.heap.size) cs0 24) := BX0.out.below bz
  have BEL : Hid (Below w.heap.size w w6) := Below.next BEL.out bz
  have Vwa : Hid (VarE w6 w2.heap.size w5.heap.size w3.heap.size cwa ra Ywa) := Vwa.out.below bz
  have Vwf : Hid (VarRw w6 w2.heap.size w5.heap.size (w3.heap.size + 1) cwf rf Ywf) := Vwf.out.below bz
  have HI : Hid (w5.heap.size ≤ w6.heap.size) := Nat.le_trans HI.out (bz).size
  have Tx0 : Hid (RdRw w6 zx0 s Xx0 ∧ Own w5.heap.size w6 Xx0 ∧ Below w5.heap.size w5 w6) := ⟨rz, oz, bz⟩
  have O4 : Hid (w5.heap.size ≤ w6.heap.size) := by show _ ≤ _; exact bz.size
  clear rz oz bz
  obtain ⟨cx0, rfl, szx0, onx0⟩ := Tx0.out.1.cells
  have SZ : Hid (cx0.size = 1 ∧ cx0.all (·.oneCell') = true) := ⟨szx0, onx0⟩
  clear szx0 onx0
  go_wp2_with (first | go_skip | (with_reducible refine stopLoad 24 rfl ?_) | (with_reducible refine stopLoad 29 rfl ?_) | (with_reducible refine stopLoad 39 rfl ?_) | (with_reducible refine stopStore 29 rfl ?_) | (with_reducible refine stopStore 39 rfl ?_))
  refine store_fresh 29 w6.heap.size rfl #[.slice none 0 0] cx0 29 rfl rfl rfl rfl (rwSize SZ.out.1) SZ.out.1.symm SZ.out.2 ?_
  intro w7 hg hb
  have BX0 : Hid (Blk w7 (w.heap.size) cs0 24) := BX0.out.below hb
  have BEL : Hid (Below w.heap.size w w7) := Below.next BEL.out hb
  have Vwa : Hid (VarE w7 w2.heap.size w5.heap.size w3.heap.size cwa ra Ywa) := Vwa.out.below hb
  have Vwf : Hid (VarRw w7 w2.heap.size w5.heap.size (w3.heap.size + 1) cwf rf Ywf) := Vwf.out.below hb
  have HI : Hid (w5.heap.size ≤ w7.heap.size) := Nat.le_trans HI.out (hb).size
  have Vx0 : Hid (VarRw w7 w5.heap.size w7.heap.size w6.heap.size cx0 s Xx0) := VarRw.fresh Tx0.out.1 Tx0.out.2.1 Tx0.out.2.2 SZ.out.1 hg hb
  have O5 : Hid (w5.heap.size ≤ w7.heap.size) := by show _ ≤ _; have := Tx0.out.2.2.size; have := hb.size; omega
  clear hg hb Tx0 SZ
  go_wp2_with (first | go_skip | (with_reducible refine stopLoad 24 rfl ?_) | (with_reducible refine stopLoad 29 rfl ?_) | (with_reducible refine stopLoad 39 rfl ?_) | (with_reducible refine stopStore 29 rfl ?_) | (with_reducible refine stopStore 39 rfl ?_))
  refine load_any 29 _ cx0 29 _ Vx0.out.blk rfl rfl rfl Try.underlying29 rfl (rwSize Vx0.out.sz) ?_
  have LBpg : Hid (w.heap.size < w7.heap.size) := BX0.out.lt
  have LHg : Hid (w5.heap.size ≤ w7.heap.size) := HI.out
  clear HI
  go_wp2_with fail
  refine (rowPopImpl_any _ s Xx0 _ (Vx0.out.rd) HF0.out).mono ?_
  rintro e w8 ⟨zv, zu, Yga, Ygf, he, ry, ru, oy, ou, dj, bz⟩
  rw [← HZ.out.1] at ry
  rw [← HZ.out.2.1] at ru
  rw [← HZ.out.2.2] at he
  subst he
  obtain ⟨cga, rfl, sz1, on1⟩ := ry.cells
  obtain ⟨cgf, rfl, sz2, on2⟩ := ru.cells
  have BX0 : Hid (Blk w8 (w.heap.size) cs0 24) := BX0.out.below bz
  have BEL : Hid (Below w.heap.size w w8) := Below.next BEL.out bz
  have Vwa : Hid (VarE w8 w2.heap.size w5.heap.size w3.heap.size cwa ra Ywa) := Vwa.out.below bz
  have Vwf : Hid (VarRw w8 w2.heap.size w5.heap.size (w3.heap.size + 1) cwf rf Ywf) := Vwf.out.below bz
  have Vx0 : Hid (VarRw w8 w5.heap.size w7.heap.size w6.heap.size cx0 s Xx0) := Vx0.out.below bz
  have TT : Hid (RdE w8 (.agg cga) ra Yga ∧ RdRw w8 (.agg cgf) rf Ygf ∧ Own w7.heap.size w8 Yga ∧ Own w7.heap.size w8 Ygf ∧ (∀ b ∈ Yga, b ∉ Ygf) ∧ w7.heap.size ≤ w8.heap.size) := ⟨ry, ru, oy, ou, dj, bz.size⟩
  have SZ : Hid ((cga.size = 10 ∧ cga.all (·.oneCell') = true) ∧ (cgf.size = 1 ∧ cgf.all (·.oneCell') = true)) := ⟨⟨sz1, on1⟩, ⟨sz2, on2⟩⟩
  clear ry ru oy ou dj bz sz1 on1 sz2 on2
  go_wp2_with (first | go_skip | (with_reducible refine stopLoad 24 rfl ?_) | (with_reducible refine stopLoad 29 rfl ?_) | (with_reducible refine stopLoad 39 rfl ?_) | (with_reducible refine stopStore 29 rfl ?_) | (with_reducible refine stopStore 39 rfl ?_))
  have bb : Below w8.heap.size w8 ((w8.alloc (.cells #[.int .i64 0, .int .i64 0, .slice none 0 0, .int .i64 0, .int .i64 0, .int .i64 0, .int .i64 0, .slice none 0 0, .slice none 0 0, .slice none 0 0] 39)).alloc (.cells #[.slice none 0 0] 29)) := Below.allocW _ (Below.allocW _ (Below.refl _ _) (Nat.le_refl _)) (Nat.le_refl _)
  have kk1 : Blk ((w8.alloc (.cells #[.int .i64 0, .int .i64 0, .slice none 0 0, .int .i64 0, .int .i64 0, .int .i64 0, .int .i64 0, .slice none 0 0, .slice none 0 0, .slice none 0 0] 39)).alloc (.cells #[.slice none 0 0] 29)) w8.heap.size #[.int .i64 0, .int .i64 0, .slice none 0 0, .int .i64 0, .int .i64 0, .int .i64 0, .int .i64 0, .slice none 0 0, .slice none 0 0, .slice none 0 0] 39 := (Blk.made _ _ _).alloc _
  have kk2 : Blk ((w8.alloc (.cells #[.int .i64 0, .int .i64 0, .slice none 0 0, .int .i64 0, .int .i64 0, .int .i64 0, .int .i64 0, .slice none 0 0, .slice none 0 0, .slice none 0 0] 39)).alloc (.cells #[.slice none 0 0] 29)) (w8.heap.size + 1) #[.slice none 0 0] 29 := Blk.made_eq (by simp)
  obtain ⟨w9, hW⟩ : ∃ Z, Z = ((w8.alloc (.cells #[.int .i64 0, .int .i64 0, .slice none 0 0, .int .i64 0, .int .i64 0, .int .i64 0, .int .i64 0, .slice none 0 0, .slice none 0 0, .slice none 0 0] 39)).alloc (.cells #[.slice none 0 0] 29)) := ⟨_, rfl⟩
  rw [← hW] at bb kk1 kk2 ⊢
  clear hW
  have BX0 : Hid (Blk w9 (w.heap.size) cs0 24) := BX0.out.below bb
  have BEL : Hid (Below w.heap.size w w9) := Below.next BEL.out bb
  have Vwa : Hid (VarE w9 w2.heap.size w5.heap.size w3.heap.size cwa ra Ywa) := Vwa.out.below bb
  have Vwf : Hid (VarRw w9 w2.heap.size w5.heap.size (w3.heap.size + 1) cwf rf Ywf) := Vwf.out.below bb
  have Vx0 : Hid (VarRw w9 w5.heap.size w7.heap.size w6.heap.size cx0 s Xx0) := Vx0.out.below bb
  have KK : Hid (Blk w9 w8.heap.size #[.int .i64 0, .int .i64 0, .slice none 0 0, .int .i64 0, .int .i64 0, .int .i64 0, .int .i64 0, .slice none 0 0, .slice none 0 0, .slice none 0 0] 39 ∧ Blk w9 (w8.heap.size + 1) #[.slice none 0 0] 29) := ⟨kk1, kk2⟩
  have TT : Hid (RdE w9 (.agg cga) ra Yga ∧ RdRw w9 (.agg cgf) rf Ygf ∧ Own w7.heap.size w9 Yga ∧ Own w7.heap.size w9 Ygf ∧ (∀ b ∈ Yga, b ∉ Ygf) ∧ w7.heap.size ≤ w8.heap.size ∧ (∀ b ∈ Yga, b < w8.heap.size) ∧ (∀ b ∈ Ygf, b < w8.heap.size)) := ⟨TT.out.1.below bb, TT.out.2.1.below bb, TT.out.2.2.1.below TT.out.1.lt bb, TT.out.2.2.2.1.below TT.out.2.1.lt bb, TT.out.2.2.2.2.1, TT.out.2.2.2.2.2, TT.out.1.lt, TT.out.2.1.lt⟩
  clear bb kk1 kk2
  refine store_known 39 w8.heap.size _ cga 39 KK.out.1 rfl rfl rfl rfl (enSize SZ.out.1.1) SZ.out.1.1.symm SZ.out.1.2 ?_
  go_wp2_with (first | go_skip | (with_reducible refine stopLoad 24 rfl ?_) | (with_reducible refine stopLoad 29 rfl ?_) | (with_reducible refine stopLoad 39 rfl ?_) | (with_reducible refine stopStore 29 rfl ?_) | (with_reducible refine stopStore 39 rfl ?_))
  refine store_known 29 (w8.heap.size + 1) _ cgf 29 (KK.out.2.setRowOther (by omega)) rfl rfl rfl rfl (rwSize SZ.out.2.1) SZ.out.2.1.symm SZ.out.2.2 ?_
  have lk := KK.out.2.lt
  have hsz : ((w9.setRow w8.heap.size cga).setRow (w8.heap.size + 1) cgf).heap.size = w9.heap.size := by simp
  have agA : Agree w9 ((w9.setRow w8.heap.size cga).setRow (w8.heap.size + 1) cgf) Yga := (Agree.row (fun hx => by have := TT.out.2.2.2.2.2.2.1 _ hx; omega) _).trans (Agree.row (fun hx => by have := TT.out.2.2.2.2.2.2.1 _ hx; omega) _)
  have agF : Agree w9 ((w9.setRow w8.heap.size cga).setRow (w8.heap.size + 1) cgf) Ygf := (Agree.row (fun hx => by have := TT.out.2.2.2.2.2.2.2 _ hx; omega) _).trans (Agree.row (fun hx => by have := TT.out.2.2.2.2.2.2.2 _ hx; omega) _)
  have lop := TT.out.2.2.2.2.2.1
  have VA : VarE ((w9.setRow w8.heap.size cga).setRow (w8.heap.size + 1) cgf) w7.heap.size ((w9.setRow w8.heap.size cga).setRow (w8.heap.size + 1) cgf).heap.size w8.heap.size cga ra Yga := ⟨KK.out.1.setRow.setRowOther (by omega), TT.out.1.agree agA, SZ.out.1.1, TT.out.2.2.1.agree agA, fun b hb => by have := TT.out.2.2.2.2.2.2.1 b hb; omega, lop, by omega, fun hx => by have := TT.out.2.2.2.2.2.2.1 _ hx; omega⟩
  have VF : VarRw ((w9.setRow w8.heap.size cga).setRow (w8.heap.size + 1) cgf) w7.heap.size ((w9.setRow w8.heap.size cga).setRow (w8.heap.size + 1) cgf).heap.size (w8.heap.size + 1) cgf rf Ygf := ⟨(KK.out.2.setRowOther (by omega)).setRow, TT.out.2.1.agree agF, SZ.out.2.1, TT.out.2.2.2.1.agree agF, fun b hb => by have := TT.out.2.2.2.2.2.2.2 b hb; omega, by omega, by omega, fun hx => by have := TT.out.2.2.2.2.2.2.2 _ hx; omega⟩
  have APg : Hid ((∀ b ∈ Yga, b ∉ Ygf) ∧ w8.heap.size + 1 ∉ Yga ∧ w8.heap.size ∉ Ygf) := ⟨TT.out.2.2.2.2.1, fun hx => by have := TT.out.2.2.2.2.2.2.1 _ hx; omega, fun hx => by have := TT.out.2.2.2.2.2.2.2 _ hx; omega⟩
  have lpw : w7.heap.size ≤ w9.heap.size := by omega
  have hbox : w.heap.size < w8.heap.size := by have := BEL.out.size; have := LB0.out; have := O1.out; have := LBpw.out; have := O3.out; have := O4.out; have := O5.out; have := LBpg.out; have := LHg.out; omega
  have BX0 : Hid (Blk ((w9.setRow w8.heap.size cga).setRow (w8.heap.size + 1) cgf) (w.heap.size) cs0 24) := (BX0.out.setRowOther (by omega)).setRowOther (by omega)
  have BEL : Hid (Below w.heap.size w ((w9.setRow w8.heap.size cga).setRow (w8.heap.size + 1) cgf)) := below_setRow (below_setRow BEL.out (by omega) _) (by omega) _
  have Vwa : Hid (VarE ((w9.setRow w8.heap.size cga).setRow (w8.heap.size + 1) cgf) w2.heap.size w5.heap.size w3.heap.size cwa ra Ywa) := (Vwa.out.row' (by have := LB0.out; have := O1.out; have := LBpw.out; have := O3.out; have := O4.out; have := O5.out; have := LBpg.out; have := LHg.out; omega) _).row' (by have := LB0.out; have := O1.out; have := LBpw.out; have := O3.out; have := O4.out; have := O5.out; have := LBpg.out; have := LHg.out; omega) _
  have Vwf : Hid (VarRw ((w9.setRow w8.heap.size cga).setRow (w8.heap.size + 1) cgf) w2.heap.size w5.heap.size (w3.heap.size + 1) cwf rf Ywf) := (Vwf.out.row' (by have := LB0.out; have := O1.out; have := LBpw.out; have := O3.out; have := O4.out; have := O5.out; have := LBpg.out; have := LHg.out; omega) _).row' (by have := LB0.out; have := O1.out; have := LBpw.out; have := O3.out; have := O4.out; have := O5.out; have := LBpg.out; have := LHg.out; omega) _
  have Vx0 : Hid (VarRw ((w9.setRow w8.heap.size cga).setRow (w8.heap.size + 1) cgf) w5.heap.size w7.heap.size w6.heap.size cx0 s Xx0) := (Vx0.out.row' (by have := LB0.out; have := O1.out; have := LBpw.out; have := O3.out; have := O4.out; have := O5.out; have := LBpg.out; have := LHg.out; omega) _).row' (by have := LB0.out; have := O1.out; have := LBpw.out; have := O3.out; have := O4.out; have := O5.out; have := LBpg.out; have := LHg.out; omega) _
  obtain ⟨w10, hW⟩ : ∃ Z, Z = ((w9.setRow w8.heap.size cga).setRow (w8.heap.size + 1) cgf) := ⟨_, rfl⟩
  rw [← hW] at VA VF hsz BX0 BEL Vwa Vwf Vx0 ⊢
  have Vga : Hid (VarE w10 w7.heap.size w10.heap.size w8.heap.size cga ra Yga) := VA
  have Vgf : Hid (VarRw w10 w7.heap.size w10.heap.size (w8.heap.size + 1) cgf rf Ygf) := VF
  have O8 : Hid (w7.heap.size ≤ w10.heap.size) := by show _ ≤ _; omega
  clear hW VA VF hsz agA agF lop lk lpw KK TT SZ hbox
  have HI : Hid (w10.heap.size ≤ w10.heap.size) := Nat.le_refl _
  go_wp2_with (first | go_skip | (with_reducible refine stopLoad 24 rfl ?_) | (with_reducible refine stopLoad 29 rfl ?_) | (with_reducible refine stopLoad 39 rfl ?_) | (with_reducible refine stopStore 29 rfl ?_) | (with_reducible refine stopStore 39 rfl ?_))
  refine load_any 39 _ cga 39 _ Vga.out.blk rfl rfl rfl Try.underlying39 rfl (enSize Vga.out.sz) ?_
  go_wp2_with (first | go_skip | (with_reducible refine stopLoad 24 rfl ?_) | (with_reducible refine stopLoad 29 rfl ?_) | (with_reducible refine stopLoad 39 rfl ?_) | (with_reducible refine stopStore 29 rfl ?_) | (with_reducible refine stopStore 39 rfl ?_))
  refine load_any 39 _ cwa 39 _ Vwa.out.blk rfl rfl rfl Try.underlying39 rfl (enSize Vwa.out.sz) ?_
  go_wp2_with fail
  refine (eqE_any _ _ ra ra Yga Ywa _ Vga.out.rd Vwa.out.rd (HM.out.1) (HM.out.1)).mono ?_
  rintro e w11 ⟨rfl, hb⟩
  have BX0 : Hid (Blk w11 (w.heap.size) cs0 24) := BX0.out.below hb
  have BEL : Hid (Below w.heap.size w w11) := Below.next BEL.out hb
  have Vwa : Hid (VarE w11 w2.heap.size w5.heap.size w3.heap.size cwa ra Ywa) := Vwa.out.below hb
  have Vwf : Hid (VarRw w11 w2.heap.size w5.heap.size (w3.heap.size + 1) cwf rf Ywf) := Vwf.out.below hb
  have Vx0 : Hid (VarRw w11 w5.heap.size w7.heap.size w6.heap.size cx0 s Xx0) := Vx0.out.below hb
  have Vga : Hid (VarE w11 w7.heap.size w10.heap.size w8.heap.size cga ra Yga) := Vga.out.below hb
  have Vgf : Hid (VarRw w11 w7.heap.size w10.heap.size (w8.heap.size + 1) cgf rf Ygf) := Vgf.out.below hb
  have HI : Hid (w10.heap.size ≤ w11.heap.size) := Nat.le_trans HI.out (hb).size
  clear hb
  have hdec : decide (ra = ra) = true := by simp
  rw [hdec]
  clear hdec
  go_wp2_with (first | go_skip | (with_reducible refine stopLoad 24 rfl ?_) | (with_reducible refine stopLoad 29 rfl ?_) | (with_reducible refine stopLoad 39 rfl ?_) | (with_reducible refine stopStore 29 rfl ?_) | (with_reducible refine stopStore 39 rfl ?_))
  refine load_any 29 _ cgf 29 _ Vgf.out.blk rfl rfl rfl Try.underlying29 rfl (rwSize Vgf.out.sz) ?_
  go_wp2_with (first | go_skip | (with_reducible refine stopLoad 24 rfl ?_) | (with_reducible refine stopLoad 29 rfl ?_) | (with_reducible refine stopLoad 39 rfl ?_) | (with_reducible refine stopStore 29 rfl ?_) | (with_reducible refine stopStore 39 rfl ?_))
  refine load_any 29 _ cwf 29 _ Vwf.out.blk rfl rfl rfl Try.underlying29 rfl (rwSize Vwf.out.sz) ?_
  go_wp2_with fail
  refine (eqRw_any _ _ rf rf Ygf Ywf _ Vgf.out.rd Vwf.out.rd (HM.out.2.2.2.1) (HM.out.2.2.2.1)).mono ?_
  rintro e w12 ⟨rfl, hb⟩
  have BX0 : Hid (Blk w12 (w.heap.size) cs0 24) := BX0.out.below hb
  have BEL : Hid (Below w.heap.size w w12) := Below.next BEL.out hb
  have Vwa : Hid (VarE w12 w2.heap.size w5.heap.size w3.heap.size cwa ra Ywa) := Vwa.out.below hb
  have Vwf : Hid (VarRw w12 w2.heap.size w5.heap.size (w3.heap.size + 1) cwf rf Ywf) := Vwf.out.below hb
  have Vx0 : Hid (VarRw w12 w5.heap.size w7.heap.size w6.heap.size cx0 s Xx0) := Vx0.out.below hb
  have Vga : Hid (VarE w12 w7.heap.size w10.heap.size w8.heap.size cga ra Yga) := Vga.out.below hb
  have Vgf : Hid (VarRw w12 w7.heap.size w10.heap.size (w8.heap.size + 1) cgf rf Ygf) := Vgf.out.below hb
  have HI : Hid (w10.heap.size ≤ w12.heap.size) := Nat.le_trans HI.out (hb).size
  clear hb
  have hdec : decide (rf = rf) = true := by simp
  rw [hdec]
  clear hdec
  go_wp2_with fail
  have BD := (Below.refl w12.heap.size w12).drew
  obtain ⟨Y10, hY10⟩ : ∃ Y, Y = w12.drew := ⟨_, rfl⟩
  rw [← hY10] at BD
  have BX0 : Hid (Blk Y10 (w.heap.size) cs0 24) := BX0.out.below BD
  have BEL : Hid (Below w.heap.size w Y10) := Below.next BEL.out BD
  have Vwa : Hid (VarE Y10 w2.heap.size w5.heap.size w3.heap.size cwa ra Ywa) := Vwa.out.below BD
  have Vwf : Hid (VarRw Y10 w2.heap.size w5.heap.size (w3.heap.size + 1) cwf rf Ywf) := Vwf.out.below BD
  have Vx0 : Hid (VarRw Y10 w5.heap.size w7.heap.size w6.heap.size cx0 s Xx0) := Vx0.out.below BD
  have Vga : Hid (VarE Y10 w7.heap.size w10.heap.size w8.heap.size cga ra Yga) := Vga.out.below BD
  have Vgf : Hid (VarRw Y10 w7.heap.size w10.heap.size (w8.heap.size + 1) cgf rf Ygf) := Vgf.out.below BD
  have HI : Hid (w10.heap.size ≤ Y10.heap.size) := Nat.le_trans HI.out (BD).size
  refine wp_region_held (S := fun W => Blk W (w.heap.size) cs0 24 ∧ Blk W (w6.heap.size) cx0 29) (by kernel_rfl) ?_
  change wpAnyH _ _ _ _ _ _ _ _ (World.drew _)
  rw [← hY10]
  clear hY10 BD
  refine takeH (o := ?o1) 0 (.agg cx0) ?h1 ?r1
  case h1 => simp only [aT, aZ]; rfl
  refine ⟨_, by simp [Act.put]; rfl, by kernel_rfl, by kernel_rfl, by kernel_rfl, fun _ _ _ h => h, (yields_whole 29 _ cx0 29 _ rfl rfl rfl Try.underlying29 rfl (rwSize Vx0.out.sz) (fun W hW => hW.2)), ⟨BX0.out, Vx0.out.blk⟩, ?_⟩
  refine takeH (o := ?o2) 1 (.agg cs0) ?h2 ?r2
  case h2 => simp only [aT, aS, aZ]; rfl
  refine ⟨_, by simp [Act.put]; rfl, by kernel_rfl, by kernel_rfl, by kernel_rfl, fun _ _ _ h => h, (yields_whole 24 _ cs0 24 _ rfl rfl rfl Try.underlying24 rfl (lrwSize HC0.out) (fun W hW => hW.1)), ⟨BX0.out, Vx0.out.blk⟩, ?_⟩
  refine onlyH (o := ?o3) 2 (by kernel_rfl) ?h3 ?r3
  case h3 => simp only [aT, aS, aZ]; rfl
  intro K hK
  refine op_call1 8 _ _ Try.f8 (fun v w' => ∃ X, RdRw w' v s X ∧ Below Y10.heap.size Y10 w') rfl rfl Try.func8 (by kernel_rfl) (by kernel_rfl) ((toRw_any _ s F Y10 (HH0.out.1.below BEL.out) HF0.out).mono (by rintro e w' ⟨v, X, rfl, h1, _, h3⟩; exact ⟨_, rfl, X, h1, h3⟩)) ?_
  rintro zq w13 ⟨Xq, rz, bz⟩
  have BX0 : Hid (Blk w13 (w.heap.size) cs0 24) := BX0.out.below bz
  have BEL : Hid (Below w.heap.size w w13) := Below.next BEL.out bz
  have Vwa : Hid (VarE w13 w2.heap.size w5.heap.size w3.heap.size cwa ra Ywa) := Vwa.out.below bz
  have Vwf : Hid (VarRw w13 w2.heap.size w5.heap.size (w3.heap.size + 1) cwf rf Ywf) := Vwf.out.below bz
  have Vx0 : Hid (VarRw w13 w5.heap.size w7.heap.size w6.heap.size cx0 s Xx0) := Vx0.out.below bz
  have Vga : Hid (VarE w13 w7.heap.size w10.heap.size w8.heap.size cga ra Yga) := Vga.out.below bz
  have Vgf : Hid (VarRw w13 w7.heap.size w10.heap.size (w8.heap.size + 1) cgf rf Ygf) := Vgf.out.below bz
  have HI : Hid (w10.heap.size ≤ w13.heap.size) := Nat.le_trans HI.out (bz).size
  have TQ : Hid (RdRw w13 zq s Xq) := rz
  refine ⟨_, by simp [Act.put]; rfl, hK _ _ ⟨⟨BX0.out, Vx0.out.blk⟩, ?_⟩⟩
  clear hK rz bz
  refine onlyH (o := ?o4) 3 (by kernel_rfl) ?h4 ?r4
  case h4 => simp only [aT, aS, aZ]; rfl
  intro K hK
  refine op_call2 10 _ _ _ Try.f10 (fun w' => Below w13.heap.size w13 w') (.bool (decide (s = s))) rfl rfl Try.func10 (by kernel_rfl) (by kernel_rfl) (eqRw_any (.agg cx0) zq s s Xx0 Xq w13 Vx0.out.rd TQ.out HF0.out.wide HF0.out.wide) ⟨_, by simp [Act.put]; rfl, ?_⟩
  intro w14 bz
  have BX0 : Hid (Blk w14 (w.heap.size) cs0 24) := BX0.out.below bz
  have BEL : Hid (Below w.heap.size w w14) := Below.next BEL.out bz
  have Vwa : Hid (VarE w14 w2.heap.size w5.heap.size w3.heap.size cwa ra Ywa) := Vwa.out.below bz
  have Vwf : Hid (VarRw w14 w2.heap.size w5.heap.size (w3.heap.size + 1) cwf rf Ywf) := Vwf.out.below bz
  have Vx0 : Hid (VarRw w14 w5.heap.size w7.heap.size w6.heap.size cx0 s Xx0) := Vx0.out.below bz
  have Vga : Hid (VarE w14 w7.heap.size w10.heap.size w8.heap.size cga ra Yga) := Vga.out.below bz
  have Vgf : Hid (VarRw w14 w7.heap.size w10.heap.size (w8.heap.size + 1) cgf rf Ygf) := Vgf.out.below bz
  have HI : Hid (w10.heap.size ≤ w14.heap.size) := Nat.le_trans HI.out (bz).size
  refine hK _ _ ⟨⟨BX0.out, Vx0.out.blk⟩, ?_⟩
  clear hK bz TQ
  refine takeH (o := ?o5) 4 (.bool false) ?h5 ?r5
  case h5 => simp only [aT, aS, aZ]; rfl
  refine ⟨_, by simp [Act.put]; rfl, by kernel_rfl, by kernel_rfl, by kernel_rfl, fun _ _ _ h => h, (.inl ⟨rfl, fun W _ => by go_simp⟩), ⟨BX0.out, Vx0.out.blk⟩, ?_⟩
  refine wpAnyH_done (by kernel_rfl) ?_ _
  go_wp2_with (first | go_skip | (with_reducible refine stopLoad 24 rfl ?_) | (with_reducible refine stopLoad 29 rfl ?_) | (with_reducible refine stopLoad 39 rfl ?_) | (with_reducible refine stopStore 29 rfl ?_) | (with_reducible refine stopStore 39 rfl ?_))
  refine load_any 29 _ cx0 29 _ Vx0.out.blk rfl rfl rfl Try.underlying29 rfl (rwSize Vx0.out.sz) ?_
  go_wp2_with fail
  refine (markRw_any _ _ s Xx0 1 _ Vx0.out.rd Vx0.out.own HF0.out.wide (by omega) (by have := HMI0.out; omega)).mono ?_
  rintro e w15 ⟨rfl, mk⟩
  have NBX0 : Hid (Blk w15 (w.heap.size) cs0 24) := BX0.out.agree (mk.only.block _ BX0.out.lt (fun hb => by have := Vx0.out.own.ge _ hb; have := LB0.out; have := O1.out; have := LBpw.out; have := O3.out; have := O4.out; have := O5.out; have := LBpg.out; have := LHg.out; have := O8.out; omega))
  have NBEL : Hid (Below w.heap.size w w15) := mk.only.below BEL.out BEL.out.size (fun b hb => by have := Vx0.out.own.ge b hb; have := LB0.out; have := O1.out; have := LBpw.out; have := O3.out; have := O4.out; have := O5.out; have := LBpg.out; have := LHg.out; have := O8.out; omega)
  have NVwa : Hid (VarE w15 w2.heap.size w5.heap.size w3.heap.size cwa ra Ywa) := Vwa.out.only' mk.only Vx0.out.lt Vx0.out.own.ge (.inl (by have := LB0.out; have := O1.out; have := LBpw.out; have := O3.out; have := O4.out; have := O5.out; have := LBpg.out; have := LHg.out; have := O8.out; omega))
  have NVwf : Hid (VarRw w15 w2.heap.size w5.heap.size (w3.heap.size + 1) cwf rf Ywf) := Vwf.out.only' mk.only Vx0.out.lt Vx0.out.own.ge (.inl (by have := LB0.out; have := O1.out; have := LBpw.out; have := O3.out; have := O4.out; have := O5.out; have := LBpg.out; have := LHg.out; have := O8.out; omega))
  have NVga : Hid (VarE w15 w7.heap.size w10.heap.size w8.heap.size cga ra Yga) := Vga.out.only' mk.only Vx0.out.lt Vx0.out.own.ge (.inr (by have := LB0.out; have := O1.out; have := LBpw.out; have := O3.out; have := O4.out; have := O5.out; have := LBpg.out; have := LHg.out; have := O8.out; omega))
  have NVgf : Hid (VarRw w15 w7.heap.size w10.heap.size (w8.heap.size + 1) cgf rf Ygf) := Vgf.out.only' mk.only Vx0.out.lt Vx0.out.own.ge (.inr (by have := LB0.out; have := O1.out; have := LBpw.out; have := O3.out; have := O4.out; have := O5.out; have := LBpg.out; have := LHg.out; have := O8.out; omega))
  have NHI : Hid (w10.heap.size ≤ w15.heap.size) := Nat.le_trans HI.out mk.only.size
  have BX0 : Hid (Blk w15 (w.heap.size) cs0 24) := NBX0.out
  have BEL : Hid (Below w.heap.size w w15) := NBEL.out
  have Vwa : Hid (VarE w15 w2.heap.size w5.heap.size w3.heap.size cwa ra Ywa) := NVwa.out
  have Vwf : Hid (VarRw w15 w2.heap.size w5.heap.size (w3.heap.size + 1) cwf rf Ywf) := NVwf.out
  have Vga : Hid (VarE w15 w7.heap.size w10.heap.size w8.heap.size cga ra Yga) := NVga.out
  have Vgf : Hid (VarRw w15 w7.heap.size w10.heap.size (w8.heap.size + 1) cgf rf Ygf) := NVgf.out
  have HI : Hid (w10.heap.size ≤ w15.heap.size) := NHI.out
  clear NBX0 NBEL NVwa NVwf NVga NVgf NHI
  obtain ⟨ki0, hki⟩ : ∃ k, k = 1 + s.many := ⟨_, rfl⟩
  rw [← hki]
  have HKI0 : Hid (0 ≤ ki0 ∧ ki0 ≤ 20000000) := by have := HMI0.out; exact ⟨by omega, by omega⟩
  clear hki mk Vx0
  have hkid : decide (ki0 < 0) = false := dec_false (by have := HKI0.out; omega)
  go_wp2_with (first | go_skip | (with_reducible refine stopLoad 24 rfl ?_) | (with_reducible refine stopLoad 29 rfl ?_) | (with_reducible refine stopLoad 39 rfl ?_) | (with_reducible refine stopStore 29 rfl ?_) | (with_reducible refine stopStore 39 rfl ?_))
  refine load_any 39 _ cga 39 _ Vga.out.blk rfl rfl rfl Try.underlying39 rfl (enSize Vga.out.sz) ?_
  go_wp2_with (first | go_skip | (with_reducible refine stopLoad 24 rfl ?_) | (with_reducible refine stopLoad 29 rfl ?_) | (with_reducible refine stopLoad 39 rfl ?_) | (with_reducible refine stopStore 29 rfl ?_) | (with_reducible refine stopStore 39 rfl ?_))
  refine load_any 39 _ cwa 39 _ Vwa.out.blk rfl rfl rfl Try.underlying39 rfl (enSize Vwa.out.sz) ?_
  go_wp2_with fail
  refine (eqE_any _ _ ra ra Yga Ywa _ Vga.out.rd Vwa.out.rd (HM.out.1) (HM.out.1)).mono ?_
  rintro e w16 ⟨rfl, hb⟩
  have BX0 : Hid (Blk w16 (w.heap.size) cs0 24) := BX0.out.below hb
  have BEL : Hid (Below w.heap.size w w16) := Below.next BEL.out hb
  have Vwa : Hid (VarE w16 w2.heap.size w5.heap.size w3.heap.size cwa ra Ywa) := Vwa.out.below hb
  have Vwf : Hid (VarRw w16 w2.heap.size w5.heap.size (w3.heap.size + 1) cwf rf Ywf) := Vwf.out.below hb
  have Vga : Hid (VarE w16 w7.heap.size w10.heap.size w8.heap.size cga ra Yga) := Vga.out.below hb
  have Vgf : Hid (VarRw w16 w7.heap.size w10.heap.size (w8.heap.size + 1) cgf rf Ygf) := Vgf.out.below hb
  have HI : Hid (w10.heap.size ≤ w16.heap.size) := Nat.le_trans HI.out (hb).size
  clear hb
  have hdec : decide (ra = ra) = true := by simp
  rw [hdec]
  clear hdec
  go_wp2_with (first | go_skip | (with_reducible refine stopLoad 24 rfl ?_) | (with_reducible refine stopLoad 29 rfl ?_) | (with_reducible refine stopLoad 39 rfl ?_) | (with_reducible refine stopStore 29 rfl ?_) | (with_reducible refine stopStore 39 rfl ?_))
  refine load_any 29 _ cgf 29 _ Vgf.out.blk rfl rfl rfl Try.underlying29 rfl (rwSize Vgf.out.sz) ?_
  go_wp2_with (first | go_skip | (with_reducible refine stopLoad 24 rfl ?_) | (with_reducible refine stopLoad 29 rfl ?_) | (with_reducible refine stopLoad 39 rfl ?_) | (with_reducible refine stopStore 29 rfl ?_) | (with_reducible refine stopStore 39 rfl ?_))
  refine load_any 29 _ cwf 29 _ Vwf.out.blk rfl rfl rfl Try.underlying29 rfl (rwSize Vwf.out.sz) ?_
  go_wp2_with fail
  refine (eqRw_any _ _ rf rf Ygf Ywf _ Vgf.out.rd Vwf.out.rd (HM.out.2.2.2.1) (HM.out.2.2.2.1)).mono ?_
  rintro e w17 ⟨rfl, hb⟩
  have BX0 : Hid (Blk w17 (w.heap.size) cs0 24) := BX0.out.below hb
  have BEL : Hid (Below w.heap.size w w17) := Below.next BEL.out hb
  have Vwa : Hid (VarE w17 w2.heap.size w5.heap.size w3.heap.size cwa ra Ywa) := Vwa.out.below hb
  have Vwf : Hid (VarRw w17 w2.heap.size w5.heap.size (w3.heap.size + 1) cwf rf Ywf) := Vwf.out.below hb
  have Vga : Hid (VarE w17 w7.heap.size w10.heap.size w8.heap.size cga ra Yga) := Vga.out.below hb
  have Vgf : Hid (VarRw w17 w7.heap.size w10.heap.size (w8.heap.size + 1) cgf rf Ygf) := Vgf.out.below hb
  have HI : Hid (w10.heap.size ≤ w17.heap.size) := Nat.le_trans HI.out (hb).size
  clear hb
  have hdec : decide (rf = rf) = true := by simp
  rw [hdec]
  clear hdec
  go_wp2_with (first | go_skip | (with_reducible refine stopLoad 24 rfl ?_) | (with_reducible refine stopLoad 29 rfl ?_) | (with_reducible refine stopLoad 39 rfl ?_) | (with_reducible refine stopStore 29 rfl ?_) | (with_reducible refine stopStore 39 rfl ?_))
  refine load_any 39 _ cga 39 _ Vga.out.blk rfl rfl rfl Try.underlying39 rfl (enSize Vga.out.sz) ?_
  go_wp2_with fail
  refine (markE_any w7.heap.size _ ra Yga 1 _ Vga.out.rd Vga.out.own (HM.out.1) (by omega) (by have := HM.out; omega)).mono ?_
  rintro e w18 ⟨rfl, mk⟩
  have NG : Hid (VarE w18 w7.heap.size w10.heap.size w8.heap.size cga (ra.marked 1) Yga) := Vga.out.mark mk
  have NO : Hid (VarRw w18 w7.heap.size w10.heap.size (w8.heap.size + 1) cgf rf Ygf) := Vgf.out.apartOnly mk.only (fun b hb hx => APg.out.1 b hx hb) APg.out.2.1
  have NBX0 : Hid (Blk w18 (w.heap.size) cs0 24) := BX0.out.agree (mk.only.block _ BX0.out.lt (fun hb => by have := Vga.out.own.ge _ hb; have := LB0.out; have := O1.out; have := LBpw.out; have := O3.out; have := O4.out; have := O5.out; have := LBpg.out; have := LHg.out; have := O8.out; omega))
  have NBEL : Hid (Below w.heap.size w w18) := mk.only.below BEL.out BEL.out.size (fun b hb => by have := Vga.out.own.ge b hb; have := LB0.out; have := O1.out; have := LBpw.out; have := O3.out; have := O4.out; have := O5.out; have := LBpg.out; have := LHg.out; have := O8.out; omega)
  have NVwa : Hid (VarE w18 w2.heap.size w5.heap.size w3.heap.size cwa ra Ywa) := Vwa.out.only' mk.only Vga.out.lt Vga.out.own.ge (.inl (by have := LB0.out; have := O1.out; have := LBpw.out; have := O3.out; have := O4.out; have := O5.out; have := LBpg.out; have := LHg.out; have := O8.out; omega))
  have NVwf : Hid (VarRw w18 w2.heap.size w5.heap.size (w3.heap.size + 1) cwf rf Ywf) := Vwf.out.only' mk.only Vga.out.lt Vga.out.own.ge (.inl (by have := LB0.out; have := O1.out; have := LBpw.out; have := O3.out; have := O4.out; have := O5.out; have := LBpg.out; have := LHg.out; have := O8.out; omega))
  have NHI : Hid (w10.heap.size ≤ w18.heap.size) := Nat.le_trans HI.out mk.only.size
  have BX0 : Hid (Blk w18 (w.heap.size) cs0 24) := NBX0.out
  have BEL : Hid (Below w.heap.size w w18) := NBEL.out
  have Vwa : Hid (VarE w18 w2.heap.size w5.heap.size w3.heap.size cwa ra Ywa) := NVwa.out
  have Vwf : Hid (VarRw w18 w2.heap.size w5.heap.size (w3.heap.size + 1) cwf rf Ywf) := NVwf.out
  have HI : Hid (w10.heap.size ≤ w18.heap.size) := NHI.out
  clear NBX0 NBEL NVwa NVwf NHI
  have Vga : Hid (VarE w18 w7.heap.size w10.heap.size w8.heap.size cga (ra.marked 1) Yga) := NG.out
  have Vgf : Hid (VarRw w18 w7.heap.size w10.heap.size (w8.heap.size + 1) cgf rf Ygf) := NO.out
  obtain ⟨ka, hkm⟩ : ∃ k, k = 1 + ra.many := ⟨_, rfl⟩
  rw [← hkm]
  have HKA : Hid (ka = 1 + ra.many ∧ 0 ≤ ka ∧ ka ≤ 100000000) := ⟨hkm, by have := HM.out; omega, by have := HM.out; omega⟩
  have hka0 : 0 ≤ ka := HKA.out.2.1
  have hkan : decide (ka < 0) = false := dec_false (by omega)
  clear hkm mk NG NO
  go_wp2_with (first | go_skip | (with_reducible refine stopLoad 24 rfl ?_) | (with_reducible refine stopLoad 29 rfl ?_) | (with_reducible refine stopLoad 39 rfl ?_) | (with_reducible refine stopStore 29 rfl ?_) | (with_reducible refine stopStore 39 rfl ?_))
  refine load_any 29 _ cgf 29 _ Vgf.out.blk rfl rfl rfl Try.underlying29 rfl (rwSize Vgf.out.sz) ?_
  go_wp2_with fail
  refine (markRw_any w7.heap.size _ rf Ygf ka _ Vgf.out.rd Vgf.out.own (HM.out.2.2.2.1) (by have := HKA.out; omega) (by have := HM.out; have := HKA.out; omega)).mono ?_
  rintro e w19 ⟨rfl, mk⟩
  have NG : Hid (VarRw w19 w7.heap.size w10.heap.size (w8.heap.size + 1) cgf (rf.marked ka) Ygf) := Vgf.out.mark mk
  have NO : Hid (VarE w19 w7.heap.size w10.heap.size w8.heap.size cga (ra.marked 1) Yga) := Vga.out.apartOnly mk.only (fun b hb hx => APg.out.1 b hb hx) APg.out.2.2
  have NBX0 : Hid (Blk w19 (w.heap.size) cs0 24) := BX0.out.agree (mk.only.block _ BX0.out.lt (fun hb => by have := Vgf.out.own.ge _ hb; have := LB0.out; have := O1.out; have := LBpw.out; have := O3.out; have := O4.out; have := O5.out; have := LBpg.out; have := LHg.out; have := O8.out; omega))
  have NBEL : Hid (Below w.heap.size w w19) := mk.only.below BEL.out BEL.out.size (fun b hb => by have := Vgf.out.own.ge b hb; have := LB0.out; have := O1.out; have := LBpw.out; have := O3.out; have := O4.out; have := O5.out; have := LBpg.out; have := LHg.out; have := O8.out; omega)
  have NVwa : Hid (VarE w19 w2.heap.size w5.heap.size w3.heap.size cwa ra Ywa) := Vwa.out.only' mk.only Vgf.out.lt Vgf.out.own.ge (.inl (by have := LB0.out; have := O1.out; have := LBpw.out; have := O3.out; have := O4.out; have := O5.out; have := LBpg.out; have := LHg.out; have := O8.out; omega))
  have NVwf : Hid (VarRw w19 w2.heap.size w5.heap.size (w3.heap.size + 1) cwf rf Ywf) := Vwf.out.only' mk.only Vgf.out.lt Vgf.out.own.ge (.inl (by have := LB0.out; have := O1.out; have := LBpw.out; have := O3.out; have := O4.out; have := O5.out; have := LBpg.out; have := LHg.out; have := O8.out; omega))
  have NHI : Hid (w10.heap.size ≤ w19.heap.size) := Nat.le_trans HI.out mk.only.size
  have BX0 : Hid (Blk w19 (w.heap.size) cs0 24) := NBX0.out
  have BEL : Hid (Below w.heap.size w w19) := NBEL.out
  have Vwa : Hid (VarE w19 w2.heap.size w5.heap.size w3.heap.size cwa ra Ywa) := NVwa.out
  have Vwf : Hid (VarRw w19 w2.heap.size w5.heap.size (w3.heap.size + 1) cwf rf Ywf) := NVwf.out
  have HI : Hid (w10.heap.size ≤ w19.heap.size) := NHI.out
  clear NBX0 NBEL NVwa NVwf NHI
  have Vgf : Hid (VarRw w19 w7.heap.size w10.heap.size (w8.heap.size + 1) cgf (rf.marked ka) Ygf) := NG.out
  have Vga : Hid (VarE w19 w7.heap.size w10.heap.size w8.heap.size cga (ra.marked 1) Yga) := NO.out
  obtain ⟨km, hkm⟩ : ∃ k, k = ka + rf.many := ⟨_, rfl⟩
  rw [← hkm]
  have HKM : Hid (km = ka + rf.many) := hkm
  have hkm0 : 0 ≤ km := by have := HM.out; omega
  have hkmn : decide (km < 0) = false := dec_false (by omega)
  have hkme : (km != km) = false := by simp
  clear hkm mk NG NO
  go_wp2_with (first | go_skip | (with_reducible refine stopLoad 24 rfl ?_) | (with_reducible refine stopLoad 29 rfl ?_) | (with_reducible refine stopLoad 39 rfl ?_) | (with_reducible refine stopStore 29 rfl ?_) | (with_reducible refine stopStore 39 rfl ?_))
  refine load_any 39 _ cga 39 _ Vga.out.blk rfl rfl rfl Try.underlying39 rfl (enSize Vga.out.sz) ?_
  go_wp2_with fail
  refine (heldE_any _ ra Yga 1 _ Vga.out.rd (HM.out.1) (by omega) (by have := HM.out; omega)).mono ?_
  rintro e w20 ⟨rfl, hb⟩
  have BX0 : Hid (Blk w20 (w.heap.size) cs0 24) := BX0.out.below hb
  have BEL : Hid (Below w.heap.size w w20) := Below.next BEL.out hb
  have Vwa : Hid (VarE w20 w2.heap.size w5.heap.size w3.heap.size cwa ra Ywa) := Vwa.out.below hb
  have Vwf : Hid (VarRw w20 w2.heap.size w5.heap.size (w3.heap.size + 1) cwf rf Ywf) := Vwf.out.below hb
  have Vga : Hid (VarE w20 w7.heap.size w10.heap.size w8.heap.size cga (ra.marked 1) Yga) := Vga.out.below hb
  have Vgf : Hid (VarRw w20 w7.heap.size w10.heap.size (w8.heap.size + 1) cgf (rf.marked ka) Ygf) := Vgf.out.below hb
  have HI : Hid (w10.heap.size ≤ w20.heap.size) := Nat.le_trans HI.out (hb).size
  clear hb
  rw [← HKA.out.1]
  go_wp2_with (first | go_skip | (with_reducible refine stopLoad 24 rfl ?_) | (with_reducible refine stopLoad 29 rfl ?_) | (with_reducible refine stopLoad 39 rfl ?_) | (with_reducible refine stopStore 29 rfl ?_) | (with_reducible refine stopStore 39 rfl ?_))
  refine load_any 29 _ cgf 29 _ Vgf.out.blk rfl rfl rfl Try.underlying29 rfl (rwSize Vgf.out.sz) ?_
  go_wp2_with fail
  refine (heldRw_any _ rf Ygf ka _ Vgf.out.rd (HM.out.2.2.2.1) (by have := HKA.out; omega) (by have := HM.out; have := HKA.out; omega)).mono ?_
  rintro e w21 ⟨rfl, hb⟩
  have BX0 : Hid (Blk w21 (w.heap.size) cs0 24) := BX0.out.below hb
  have BEL : Hid (Below w.heap.size w w21) := Below.next BEL.out hb
  have Vwa : Hid (VarE w21 w2.heap.size w5.heap.size w3.heap.size cwa ra Ywa) := Vwa.out.below hb
  have Vwf : Hid (VarRw w21 w2.heap.size w5.heap.size (w3.heap.size + 1) cwf rf Ywf) := Vwf.out.below hb
  have Vga : Hid (VarE w21 w7.heap.size w10.heap.size w8.heap.size cga (ra.marked 1) Yga) := Vga.out.below hb
  have Vgf : Hid (VarRw w21 w7.heap.size w10.heap.size (w8.heap.size + 1) cgf (rf.marked ka) Ygf) := Vgf.out.below hb
  have HI : Hid (w10.heap.size ≤ w21.heap.size) := Nat.le_trans HI.out (hb).size
  clear hb
  rw [← HKM.out]
  go_wp2_with (first | go_skip | (with_reducible refine stopLoad 24 rfl ?_) | (with_reducible refine stopLoad 29 rfl ?_) | (with_reducible refine stopLoad 39 rfl ?_) | (with_reducible refine stopStore 29 rfl ?_) | (with_reducible refine stopStore 39 rfl ?_))
  refine load_any 24 (w.heap.size) cs0 24 _ BX0.out rfl rfl rfl Try.underlying24 rfl (lrwSize HC0.out) ?_
  go_wp2_with fail
  refine (toRw_any _ s F _ (HH0.out.1.below BEL.out) HF0.out).mono ?_
  rintro e w22 ⟨zth, Xth, rfl, rz, oz, bz⟩
  have BX0 : Hid (Blk w22 (w.heap.size) cs0 24) := BX0.out.below bz
  have BEL : Hid (Below w.heap.size w w22) := Below.next BEL.out bz
  have Vwa : Hid (VarE w22 w2.heap.size w5.heap.size w3.heap.size cwa ra Ywa) := Vwa.out.below bz
  have Vwf : Hid (VarRw w22 w2.heap.size w5.heap.size (w3.heap.size + 1) cwf rf Ywf) := Vwf.out.below bz
  have Vga : Hid (VarE w22 w7.heap.size w10.heap.size w8.heap.size cga (ra.marked 1) Yga) := Vga.out.below bz
  have Vgf : Hid (VarRw w22 w7.heap.size w10.heap.size (w8.heap.size + 1) cgf (rf.marked ka) Ygf) := Vgf.out.below bz
  have HI : Hid (w10.heap.size ≤ w22.heap.size) := Nat.le_trans HI.out (bz).size
  have Tth : Hid (RdRw w22 zth s Xth ∧ Own w21.heap.size w22 Xth ∧ Below w21.heap.size w21 w22) := ⟨rz, oz, bz⟩
  have O9 : Hid (w21.heap.size ≤ w22.heap.size) := by show _ ≤ _; exact bz.size
  clear rz oz bz
  have LBph : Hid (w.heap.size < w22.heap.size) := BX0.out.lt
  have LHh : Hid (w10.heap.size ≤ w22.heap.size) := HI.out
  clear HI
  go_wp2_with fail
  refine (rowPopImpl_any _ s Xth _ (Tth.out.1) HF0.out).mono ?_
  rintro e w23 ⟨zv, zu, Yha, Yhf, he, ry, ru, oy, ou, dj, bz⟩
  rw [← HZ.out.1] at ry
  rw [← HZ.out.2.1] at ru
  rw [← HZ.out.2.2] at he
  subst he
  obtain ⟨cha, rfl, sz1, on1⟩ := ry.cells
  obtain ⟨chf, rfl, sz2, on2⟩ := ru.cells
  have BX0 : Hid (Blk w23 (w.heap.size) cs0 24) := BX0.out.below bz
  have BEL : Hid (Below w.heap.size w w23) := Below.next BEL.out bz
  have Vwa : Hid (VarE w23 w2.heap.size w5.heap.size w3.heap.size cwa ra Ywa) := Vwa.out.below bz
  have Vwf : Hid (VarRw w23 w2.heap.size w5.heap.size (w3.heap.size + 1) cwf rf Ywf) := Vwf.out.below bz
  have Vga : Hid (VarE w23 w7.heap.size w10.heap.size w8.heap.size cga (ra.marked 1) Yga) := Vga.out.below bz
  have Vgf : Hid (VarRw w23 w7.heap.size w10.heap.size (w8.heap.size + 1) cgf (rf.marked ka) Ygf) := Vgf.out.below bz
  have TT : Hid (RdE w23 (.agg cha) ra Yha ∧ RdRw w23 (.agg chf) rf Yhf ∧ Own w22.heap.size w23 Yha ∧ Own w22.heap.size w23 Yhf ∧ (∀ b ∈ Yha, b ∉ Yhf) ∧ w22.heap.size ≤ w23.heap.size) := ⟨ry, ru, oy, ou, dj, bz.size⟩
  have SZ : Hid ((cha.size = 10 ∧ cha.all (·.oneCell') = true) ∧ (chf.size = 1 ∧ chf.all (·.oneCell') = true)) := ⟨⟨sz1, on1⟩, ⟨sz2, on2⟩⟩
  clear ry ru oy ou dj bz sz1 on1 sz2 on2
  clear Tth
  go_wp2_with (first | go_skip | (with_reducible refine stopLoad 24 rfl ?_) | (with_reducible refine stopLoad 29 rfl ?_) | (with_reducible refine stopLoad 39 rfl ?_) | (with_reducible refine stopStore 29 rfl ?_) | (with_reducible refine stopStore 39 rfl ?_))
  have bb : Below w23.heap.size w23 ((w23.alloc (.cells #[.int .i64 0, .int .i64 0, .slice none 0 0, .int .i64 0, .int .i64 0, .int .i64 0, .int .i64 0, .slice none 0 0, .slice none 0 0, .slice none 0 0] 39)).alloc (.cells #[.slice none 0 0] 29)) := Below.allocW _ (Below.allocW _ (Below.refl _ _) (Nat.le_refl _)) (Nat.le_refl _)
  have kk1 : Blk ((w23.alloc (.cells #[.int .i64 0, .int .i64 0, .slice none 0 0, .int .i64 0, .int .i64 0, .int .i64 0, .int .i64 0, .slice none 0 0, .slice none 0 0, .slice none 0 0] 39)).alloc (.cells #[.slice none 0 0] 29)) w23.heap.size #[.int .i64 0, .int .i64 0, .slice none 0 0, .int .i64 0, .int .i64 0, .int .i64 0, .int .i64 0, .slice none 0 0, .slice none 0 0, .slice none 0 0] 39 := (Blk.made _ _ _).alloc _
  have kk2 : Blk ((w23.alloc (.cells #[.int .i64 0, .int .i64 0, .slice none 0 0, .int .i64 0, .int .i64 0, .int .i64 0, .int .i64 0, .slice none 0 0, .slice none 0 0, .slice none 0 0] 39)).alloc (.cells #[.slice none 0 0] 29)) (w23.heap.size + 1) #[.slice none 0 0] 29 := Blk.made_eq (by simp)
  obtain ⟨w24, hW⟩ : ∃ Z, Z = ((w23.alloc (.cells #[.int .i64 0, .int .i64 0, .slice none 0 0, .int .i64 0, .int .i64 0, .int .i64 0, .int .i64 0, .slice none 0 0, .slice none 0 0, .slice none 0 0] 39)).alloc (.cells #[.slice none 0 0] 29)) := ⟨_, rfl⟩
  rw [← hW] at bb kk1 kk2 ⊢
  clear hW
  have BX0 : Hid (Blk w24 (w.heap.size) cs0 24) := BX0.out.below bb
  have BEL : Hid (Below w.heap.size w w24) := Below.next BEL.out bb
  have Vwa : Hid (VarE w24 w2.heap.size w5.heap.size w3.heap.size cwa ra Ywa) := Vwa.out.below bb
  have Vwf : Hid (VarRw w24 w2.heap.size w5.heap.size (w3.heap.size + 1) cwf rf Ywf) := Vwf.out.below bb
  have Vga : Hid (VarE w24 w7.heap.size w10.heap.size w8.heap.size cga (ra.marked 1) Yga) := Vga.out.below bb
  have Vgf : Hid (VarRw w24 w7.heap.size w10.heap.size (w8.heap.size + 1) cgf (rf.marked ka) Ygf) := Vgf.out.below bb
  have KK : Hid (Blk w24 w23.heap.size #[.int .i64 0, .int .i64 0, .slice none 0 0, .int .i64 0, .int .i64 0, .int .i64 0, .int .i64 0, .slice none 0 0, .slice none 0 0, .slice none 0 0] 39 ∧ Blk w24 (w23.heap.size + 1) #[.slice none 0 0] 29) := ⟨kk1, kk2⟩
  have TT : Hid (RdE w24 (.agg cha) ra Yha ∧ RdRw w24 (.agg chf) rf Yhf ∧ Own w22.heap.size w24 Yha ∧ Own w22.heap.size w24 Yhf ∧ (∀ b ∈ Yha, b ∉ Yhf) ∧ w22.heap.size ≤ w23.heap.size ∧ (∀ b ∈ Yha, b < w23.heap.size) ∧ (∀ b ∈ Yhf, b < w23.heap.size)) := ⟨TT.out.1.below bb, TT.out.2.1.below bb, TT.out.2.2.1.below TT.out.1.lt bb, TT.out.2.2.2.1.below TT.out.2.1.lt bb, TT.out.2.2.2.2.1, TT.out.2.2.2.2.2, TT.out.1.lt, TT.out.2.1.lt⟩
  clear bb kk1 kk2
  refine store_known 39 w23.heap.size _ cha 39 KK.out.1 rfl rfl rfl rfl (enSize SZ.out.1.1) SZ.out.1.1.symm SZ.out.1.2 ?_
  go_wp2_with (first | go_skip | (with_reducible refine stopLoad 24 rfl ?_) | (with_reducible refine stopLoad 29 rfl ?_) | (with_reducible refine stopLoad 39 rfl ?_) | (with_reducible refine stopStore 29 rfl ?_) | (with_reducible refine stopStore 39 rfl ?_))
  refine store_known 29 (w23.heap.size + 1) _ chf 29 (KK.out.2.setRowOther (by omega)) rfl rfl rfl rfl (rwSize SZ.out.2.1) SZ.out.2.1.symm SZ.out.2.2 ?_
  have lk := KK.out.2.lt
  have hsz : ((w24.setRow w23.heap.size cha).setRow (w23.heap.size + 1) chf).heap.size = w24.heap.size := by simp
  have agA : Agree w24 ((w24.setRow w23.heap.size cha).setRow (w23.heap.size + 1) chf) Yha := (Agree.row (fun hx => by have := TT.out.2.2.2.2.2.2.1 _ hx; omega) _).trans (Agree.row (fun hx => by have := TT.out.2.2.2.2.2.2.1 _ hx; omega) _)
  have agF : Agree w24 ((w24.setRow w23.heap.size cha).setRow (w23.heap.size + 1) chf) Yhf := (Agree.row (fun hx => by have := TT.out.2.2.2.2.2.2.2 _ hx; omega) _).trans (Agree.row (fun hx => by have := TT.out.2.2.2.2.2.2.2 _ hx; omega) _)
  have lop := TT.out.2.2.2.2.2.1
  have VA : VarE ((w24.setRow w23.heap.size cha).setRow (w23.heap.size + 1) chf) w22.heap.size ((w24.setRow w23.heap.size cha).setRow (w23.heap.size + 1) chf).heap.size w23.heap.size cha ra Yha := ⟨KK.out.1.setRow.setRowOther (by omega), TT.out.1.agree agA, SZ.out.1.1, TT.out.2.2.1.agree agA, fun b hb => by have := TT.out.2.2.2.2.2.2.1 b hb; omega, lop, by omega, fun hx => by have := TT.out.2.2.2.2.2.2.1 _ hx; omega⟩
  have VF : VarRw ((w24.setRow w23.heap.size cha).setRow (w23.heap.size + 1) chf) w22.heap.size ((w24.setRow w23.heap.size cha).setRow (w23.heap.size + 1) chf).heap.size (w23.heap.size + 1) chf rf Yhf := ⟨(KK.out.2.setRowOther (by omega)).setRow, TT.out.2.1.agree agF, SZ.out.2.1, TT.out.2.2.2.1.agree agF, fun b hb => by have := TT.out.2.2.2.2.2.2.2 b hb; omega, by omega, by omega, fun hx => by have := TT.out.2.2.2.2.2.2.2 _ hx; omega⟩
  have APh : Hid ((∀ b ∈ Yha, b ∉ Yhf) ∧ w23.heap.size + 1 ∉ Yha ∧ w23.heap.size ∉ Yhf) := ⟨TT.out.2.2.2.2.1, fun hx => by have := TT.out.2.2.2.2.2.2.1 _ hx; omega, fun hx => by have := TT.out.2.2.2.2.2.2.2 _ hx; omega⟩
  have lpw : w22.heap.size ≤ w24.heap.size := by omega
  have hbox : w.heap.size < w23.heap.size := by have := BEL.out.size; have := LB0.out; have := O1.out; have := LBpw.out; have := O3.out; have := O4.out; have := O5.out; have := LBpg.out; have := LHg.out; have := O8.out; have := O9.out; have := LBph.out; have := LHh.out; omega
  have BX0 : Hid (Blk ((w24.setRow w23.heap.size cha).setRow (w23.heap.size + 1) chf) (w.heap.size) cs0 24) := (BX0.out.setRowOther (by omega)).setRowOther (by omega)
  have BEL : Hid (Below w.heap.size w ((w24.setRow w23.heap.size cha).setRow (w23.heap.size + 1) chf)) := below_setRow (below_setRow BEL.out (by omega) _) (by omega) _
  have Vwa : Hid (VarE ((w24.setRow w23.heap.size cha).setRow (w23.heap.size + 1) chf) w2.heap.size w5.heap.size w3.heap.size cwa ra Ywa) := (Vwa.out.row' (by have := LB0.out; have := O1.out; have := LBpw.out; have := O3.out; have := O4.out; have := O5.out; have := LBpg.out; have := LHg.out; have := O8.out; have := O9.out; have := LBph.out; have := LHh.out; omega) _).row' (by have := LB0.out; have := O1.out; have := LBpw.out; have := O3.out; have := O4.out; have := O5.out; have := LBpg.out; have := LHg.out; have := O8.out; have := O9.out; have := LBph.out; have := LHh.out; omega) _
  have Vwf : Hid (VarRw ((w24.setRow w23.heap.size cha).setRow (w23.heap.size + 1) chf) w2.heap.size w5.heap.size (w3.heap.size + 1) cwf rf Ywf) := (Vwf.out.row' (by have := LB0.out; have := O1.out; have := LBpw.out; have := O3.out; have := O4.out; have := O5.out; have := LBpg.out; have := LHg.out; have := O8.out; have := O9.out; have := LBph.out; have := LHh.out; omega) _).row' (by have := LB0.out; have := O1.out; have := LBpw.out; have := O3.out; have := O4.out; have := O5.out; have := LBpg.out; have := LHg.out; have := O8.out; have := O9.out; have := LBph.out; have := LHh.out; omega) _
  have Vga : Hid (VarE ((w24.setRow w23.heap.size cha).setRow (w23.heap.size + 1) chf) w7.heap.size w10.heap.size w8.heap.size cga (ra.marked 1) Yga) := (Vga.out.row' (by have := LB0.out; have := O1.out; have := LBpw.out; have := O3.out; have := O4.out; have := O5.out; have := LBpg.out; have := LHg.out; have := O8.out; have := O9.out; have := LBph.out; have := LHh.out; omega) _).row' (by have := LB0.out; have := O1.out; have := LBpw.out; have := O3.out; have := O4.out; have := O5.out; have := LBpg.out; have := LHg.out; have := O8.out; have := O9.out; have := LBph.out; have := LHh.out; omega) _
  have Vgf : Hid (VarRw ((w24.setRow w23.heap.size cha).setRow (w23.heap.size + 1) chf) w7.heap.size w10.heap.size (w8.heap.size + 1) cgf (rf.marked ka) Ygf) := (Vgf.out.row' (by have := LB0.out; have := O1.out; have := LBpw.out; have := O3.out; have := O4.out; have := O5.out; have := LBpg.out; have := LHg.out; have := O8.out; have := O9.out; have := LBph.out; have := LHh.out; omega) _).row' (by have := LB0.out; have := O1.out; have := LBpw.out; have := O3.out; have := O4.out; have := O5.out; have := LBpg.out; have := LHg.out; have := O8.out; have := O9.out; have := LBph.out; have := LHh.out; omega) _
  obtain ⟨w25, hW⟩ : ∃ Z, Z = ((w24.setRow w23.heap.size cha).setRow (w23.heap.size + 1) chf) := ⟨_, rfl⟩
  rw [← hW] at VA VF hsz BX0 BEL Vwa Vwf Vga Vgf ⊢
  have Vha : Hid (VarE w25 w22.heap.size w25.heap.size w23.heap.size cha ra Yha) := VA
  have Vhf : Hid (VarRw w25 w22.heap.size w25.heap.size (w23.heap.size + 1) chf rf Yhf) := VF
  have O12 : Hid (w22.heap.size ≤ w25.heap.size) := by show _ ≤ _; omega
  clear hW VA VF hsz agA agF lop lk lpw KK TT SZ hbox
  have HI : Hid (w25.heap.size ≤ w25.heap.size) := Nat.le_refl _
  go_wp2_with (first | go_skip | (with_reducible refine stopLoad 24 rfl ?_) | (with_reducible refine stopLoad 29 rfl ?_) | (with_reducible refine stopLoad 39 rfl ?_) | (with_reducible refine stopStore 29 rfl ?_) | (with_reducible refine stopStore 39 rfl ?_))
  refine load_any 39 _ cha 39 _ Vha.out.blk rfl rfl rfl Try.underlying39 rfl (enSize Vha.out.sz) ?_
  go_wp2_with (first | go_skip | (with_reducible refine stopLoad 24 rfl ?_) | (with_reducible refine stopLoad 29 rfl ?_) | (with_reducible refine stopLoad 39 rfl ?_) | (with_reducible refine stopStore 29 rfl ?_) | (with_reducible refine stopStore 39 rfl ?_))
  refine load_any 39 _ cwa 39 _ Vwa.out.blk rfl rfl rfl Try.underlying39 rfl (enSize Vwa.out.sz) ?_
  go_wp2_with fail
  refine (eqE_any _ _ ra ra Yha Ywa _ Vha.out.rd Vwa.out.rd (HM.out.1) (HM.out.1)).mono ?_
  rintro e w26 ⟨rfl, hb⟩
  have BX0 : Hid (Blk w26 (w.heap.size) cs0 24) := BX0.out.below hb
  have BEL : Hid (Below w.heap.size w w26) := Below.next BEL.out hb
  have Vwa : Hid (VarE w26 w2.heap.size w5.heap.size w3.heap.size cwa ra Ywa) := Vwa.out.below hb
  have Vwf : Hid (VarRw w26 w2.heap.size w5.heap.size (w3.heap.size + 1) cwf rf Ywf) := Vwf.out.below hb
  have Vga : Hid (VarE w26 w7.heap.size w10.heap.size w8.heap.size cga (ra.marked 1) Yga) := Vga.out.below hb
  have Vgf : Hid (VarRw w26 w7.heap.size w10.heap.size (w8.heap.size + 1) cgf (rf.marked ka) Ygf) := Vgf.out.below hb
  have Vha : Hid (VarE w26 w22.heap.size w25.heap.size w23.heap.size cha ra Yha) := Vha.out.below hb
  have Vhf : Hid (VarRw w26 w22.heap.size w25.heap.size (w23.heap.size + 1) chf rf Yhf) := Vhf.out.below hb
  have HI : Hid (w25.heap.size ≤ w26.heap.size) := Nat.le_trans HI.out (hb).size
  clear hb
  have hdec : decide (ra = ra) = true := by simp
  rw [hdec]
  clear hdec
  go_wp2_with (first | go_skip | (with_reducible refine stopLoad 24 rfl ?_) | (with_reducible refine stopLoad 29 rfl ?_) | (with_reducible refine stopLoad 39 rfl ?_) | (with_reducible refine stopStore 29 rfl ?_) | (with_reducible refine stopStore 39 rfl ?_))
  refine load_any 29 _ chf 29 _ Vhf.out.blk rfl rfl rfl Try.underlying29 rfl (rwSize Vhf.out.sz) ?_
  go_wp2_with (first | go_skip | (with_reducible refine stopLoad 24 rfl ?_) | (with_reducible refine stopLoad 29 rfl ?_) | (with_reducible refine stopLoad 39 rfl ?_) | (with_reducible refine stopStore 29 rfl ?_) | (with_reducible refine stopStore 39 rfl ?_))
  refine load_any 29 _ cwf 29 _ Vwf.out.blk rfl rfl rfl Try.underlying29 rfl (rwSize Vwf.out.sz) ?_
  go_wp2_with fail
  refine (eqRw_any _ _ rf rf Yhf Ywf _ Vhf.out.rd Vwf.out.rd (HM.out.2.2.2.1) (HM.out.2.2.2.1)).mono ?_
  rintro e w27 ⟨rfl, hb⟩
  have BX0 : Hid (Blk w27 (w.heap.size) cs0 24) := BX0.out.below hb
  have BEL : Hid (Below w.heap.size w w27) := Below.next BEL.out hb
  have Vwa : Hid (VarE w27 w2.heap.size w5.heap.size w3.heap.size cwa ra Ywa) := Vwa.out.below hb
  have Vwf : Hid (VarRw w27 w2.heap.size w5.heap.size (w3.heap.size + 1) cwf rf Ywf) := Vwf.out.below hb
  have Vga : Hid (VarE w27 w7.heap.size w10.heap.size w8.heap.size cga (ra.marked 1) Yga) := Vga.out.below hb
  have Vgf : Hid (VarRw w27 w7.heap.size w10.heap.size (w8.heap.size + 1) cgf (rf.marked ka) Ygf) := Vgf.out.below hb
  have Vha : Hid (VarE w27 w22.heap.size w25.heap.size w23.heap.size cha ra Yha) := Vha.out.below hb
  have Vhf : Hid (VarRw w27 w22.heap.size w25.heap.size (w23.heap.size + 1) chf rf Yhf) := Vhf.out.below hb
  have HI : Hid (w25.heap.size ≤ w27.heap.size) := Nat.le_trans HI.out (hb).size
  clear hb
  have hdec : decide (rf = rf) = true := by simp
  rw [hdec]
  clear hdec
  go_wp2_with (first | go_skip | (with_reducible refine stopLoad 24 rfl ?_) | (with_reducible refine stopLoad 29 rfl ?_) | (with_reducible refine stopLoad 39 rfl ?_) | (with_reducible refine stopStore 29 rfl ?_) | (with_reducible refine stopStore 39 rfl ?_))
  refine load_any 39 _ cga 39 _ Vga.out.blk rfl rfl rfl Try.underlying39 rfl (enSize Vga.out.sz) ?_
  go_wp2_with fail
  refine (heldE_any _ ra Yga 1 _ Vga.out.rd (HM.out.1) (by omega) (by have := HM.out; omega)).mono ?_
  rintro e w28 ⟨rfl, hb⟩
  have BX0 : Hid (Blk w28 (w.heap.size) cs0 24) := BX0.out.below hb
  have BEL : Hid (Below w.heap.size w w28) := Below.next BEL.out hb
  have Vwa : Hid (VarE w28 w2.heap.size w5.heap.size w3.heap.size cwa ra Ywa) := Vwa.out.below hb
  have Vwf : Hid (VarRw w28 w2.heap.size w5.heap.size (w3.heap.size + 1) cwf rf Ywf) := Vwf.out.below hb
  have Vga : Hid (VarE w28 w7.heap.size w10.heap.size w8.heap.size cga (ra.marked 1) Yga) := Vga.out.below hb
  have Vgf : Hid (VarRw w28 w7.heap.size w10.heap.size (w8.heap.size + 1) cgf (rf.marked ka) Ygf) := Vgf.out.below hb
  have Vha : Hid (VarE w28 w22.heap.size w25.heap.size w23.heap.size cha ra Yha) := Vha.out.below hb
  have Vhf : Hid (VarRw w28 w22.heap.size w25.heap.size (w23.heap.size + 1) chf rf Yhf) := Vhf.out.below hb
  have HI : Hid (w25.heap.size ≤ w28.heap.size) := Nat.le_trans HI.out (hb).size
  clear hb
  rw [← HKA.out.1]
  go_wp2_with (first | go_skip | (with_reducible refine stopLoad 24 rfl ?_) | (with_reducible refine stopLoad 29 rfl ?_) | (with_reducible refine stopLoad 39 rfl ?_) | (with_reducible refine stopStore 29 rfl ?_) | (with_reducible refine stopStore 39 rfl ?_))
  refine load_any 29 _ cgf 29 _ Vgf.out.blk rfl rfl rfl Try.underlying29 rfl (rwSize Vgf.out.sz) ?_
  go_wp2_with fail
  refine (heldRw_any _ rf Ygf ka _ Vgf.out.rd (HM.out.2.2.2.1) (by have := HKA.out; omega) (by have := HM.out; have := HKA.out; omega)).mono ?_
  rintro e w29 ⟨rfl, hb⟩
  have BX0 : Hid (Blk w29 (w.heap.size) cs0 24) := BX0.out.below hb
  have BEL : Hid (Below w.heap.size w w29) := Below.next BEL.out hb
  have Vwa : Hid (VarE w29 w2.heap.size w5.heap.size w3.heap.size cwa ra Ywa) := Vwa.out.below hb
  have Vwf : Hid (VarRw w29 w2.heap.size w5.heap.size (w3.heap.size + 1) cwf rf Ywf) := Vwf.out.below hb
  have Vga : Hid (VarE w29 w7.heap.size w10.heap.size w8.heap.size cga (ra.marked 1) Yga) := Vga.out.below hb
  have Vgf : Hid (VarRw w29 w7.heap.size w10.heap.size (w8.heap.size + 1) cgf (rf.marked ka) Ygf) := Vgf.out.below hb
  have Vha : Hid (VarE w29 w22.heap.size w25.heap.size w23.heap.size cha ra Yha) := Vha.out.below hb
  have Vhf : Hid (VarRw w29 w22.heap.size w25.heap.size (w23.heap.size + 1) chf rf Yhf) := Vhf.out.below hb
  have HI : Hid (w25.heap.size ≤ w29.heap.size) := Nat.le_trans HI.out (hb).size
  clear hb
  rw [← HKM.out]
  go_wp2
  go_ret
  exact ⟨rfl, BEL.out⟩
set_option maxRecDepth 200000 in
theorem lifted (os : Os) (started : os.Started) (H : Type) (enc : TypeId × Value → H) :
    ReturnsInHanded {} Try.checked os 4 .any (Rows.fnExactRowPopSpec.pre6 enc Try.prog Try.f4 Rows.fnExactRowPopRow.domain false) (Rows.fnExactRowPopSpec.post enc Try.prog Try.f4 false true false false) := by
  refine returnsInHanded_of_change (C := Try.checked) own started (by kernel_rfl) Try.func4
    (ChangeSpec.witness6 (enc := enc) (C := Try.checked) false ⟨#[], #[.agg #[.slice none 0 0]], []⟩ 8 (by kernel_rfl) (by kernel_rfl) (by kernel_rfl) (by kernel_rfl)) ?_
  intro W base args ds gs before hval0 hW hcnd _
  have hval : ∀ (j : Nat) t v, Try.f4.params[j]? = some t → args[j]? = some v → Value.okWide Try.prog W .any base t v := hval0
  have hW' := hW
  obtain ⟨p, q, hA0, hV, rfl, hfz, hnd⟩ := hW
  have hA : DataW.TrodAll enc Try.prog W 0 (fun _ => true) true Try.f4.params.toList args.toList ds p := hA0
  rw [Try.params4] at hA hval
  obtain ⟨v0, vs0, d0, ds0, p0, q0, hargs0, rfl, rfl, h0, r0⟩ := trodAll_cons hA
  obtain ⟨rfl, rfl, rfl⟩ := trodAll_nil r0
  obtain rfl : args = #[v0] := by cases args; simp_all
  obtain ⟨rfl, rfl⟩ := trodVars_none hV
  have k0 := h0
  have lt0 : ∀ x ∈ p0, x.block < W.heap.size := by obtain ⟨m, hm⟩ := k0; exact DataW.trod_lt m _ _ _ hm
  obtain ⟨s0, F0, hR0, hv0⟩ := open_Rw (hval 0 24 v0 rfl rfl) h0
  clear hA0 hval0
  refine (walk  v0 s0 F0 W hR0 hv0).mono fun e W' ⟨he, bel⟩ => ?_
  subst he
  exact ⟨_, rfl, _, _, _, [], _, [], hW', trodAll_mk1 (shut_bool Try.underlying4 _), (trodAll_cons_mk (Below.trod laidOut (by kernel_rfl) (of_decide_eq_true (by kernel_rfl)) k0 bel lt0) trodAll_mk0), rfl, bel.frame _, fun h => by cases h⟩
theorem over : Rows.fnExactRowPopRow.holds Try.pinned (OpenSpec.ofChange Rows.fnExactRowPopSpec) :=
  OpenClaim.holds_of_wide 4 Try.f4 rfl rfl rfl rfl rfl rfl rfl ⟨rfl, rfl, rfl, rfl, rfl⟩ rfl rfl rfl rfl rfl (by kernel_rfl) Try.func4 (by kernel_rfl)
    (of_decide_eq_true (by kernel_rfl)) (by unfold Func.isWrapper; first | (rw [if_pos (by decide +kernel)]; kernel_rfl) | (rw [if_neg (by decide +kernel)]; exact ⟨rfl, rfl⟩))
    (fun os started H enc _ => lifted os started H enc)
theorem proved : Rows.FnExactRowPopSaid := over
#print axioms proved
end Go.Proofs.Ytillnoeailnnfaa.fnExactRowPop
