/- For every byte slice (no condition): laws.FnEntries returns true, and its argument reads afterwards as it did: entries of one place are added up in any order, and what is in both is refused. -/
import Derived.Test.YtbmbmnhamogghabLawBase
import Derived.Test.YtbmbmnhamogghabB2
import Derived.Test.YtbmbmnhamogghabB4
import Derived.Test.YtbmbmnhamogghabItSameI
import Derived.Test.YtbmbmnhamogghabRows
import Derived.WalkKit
import Derived.ProofKit
import Derived.OpenShut
import Derived.ShutString
import Derived.ChangeOld
import Derived.Below
namespace Go.Proofs.Ytbmbmnhamogghab.fnEntries
open Go.ChangeShapes Go.WideShapes Go.ChangeAt Go.RowKit
open Go.ChangeMaps (open_string shut_string)
set_option linter.unusedVariables false

theorem own : ownKnob Try.prog.godebug = none := by kernel_rfl
theorem laidOut : laidOutB Try.prog = true := by kernel_rfl

/-- WHAT THE WALK IS TOLD OF A SLICE OF INTEGERS THAT CAME IN: it is nil; or it leads to a row of 'cap' cells, the numbers 'zs' (the first 'len' are its elements, the rest its spare room), each fitting its kind. -/
def IsRow (k : IntKind) (w : World) (a : Option Addr) (len cap : Nat) (zs : List Int) : Prop :=
  (a = none ∧ len = 0 ∧ cap = 0 ∧ zs = []) ∨
  ∃ x, a = some x ∧ len ≤ cap ∧ cap ≤ maxLen ∧ zs.length = cap ∧ (∀ i, i < zs.length → w.cell? (x.add i) = some (.int k (zs.getD i 0))) ∧ ∀ n ∈ zs, (Lit.int k n).wf = true

/-- An entry in a variable. -/
structure VE (W : World) (g : Nat) (ec : Array Value) (z : En) (F G : List Nat) : Prop where
  blk : Blk W g ec 30
  rd : RdEn W (.agg ec) z F G
theorem VE.below {W W' : World} {g : Nat} {ec : Array Value} {z : En} {F G : List Nat} (h : VE W g ec z F G) (b : Below W.heap.size W W') : VE W' g ec z F G := ⟨h.blk.below b, h.rd.below b⟩
theorem VE.sz {W : World} {g : Nat} {ec : Array Value} {z : En} {F G : List Nat} (h : VE W g ec z F G) : (Try.prog.info? 30).map (·.size) = some ec.size := enSizeD (rdEn_cells h.rd).1
/-- All four of them. -/
structure AllS (w : World) (ga : Nat) (ea : Array Value) (x : En) (F G : List Nat) (gb : Nat) (eb : Array Value) (y : En) (F' G' : List Nat) (gx : Nat) (ex : Array Value) (z : En) (X Y : List Nat) (gy : Nat) (ey : Array Value) (X' Y' : List Nat) (W : World) : Prop where
  a : VE W ga ea x F G
  b : VE W gb eb y F' G'
  x : VE W gx ex z X Y
  y : VE W gy ey z X' Y'
  bel : Below w.heap.size w W
theorem AllS.below {w : World} {ga : Nat} {ea : Array Value} {x : En} {F G : List Nat} {gb : Nat} {eb : Array Value} {y : En} {F' G' : List Nat} {gx : Nat} {ex : Array Value} {z : En} {X Y : List Nat} {gy : Nat} {ey : Array Value} {X' Y' : List Nat} {W W' : World} (h : AllS w ga ea x F G gb eb y F' G' gx ex z X Y gy ey X' Y' W) (b : Below W.heap.size W W') : AllS w ga ea x F G gb eb y F' G' gx ex z X Y gy ey X' Y' W' := ⟨h.a.below b, h.b.below b, h.x.below b, h.y.below b, Below.next h.bel b⟩
theorem rdP_of_en {W : World} {k p c0 c1 c2 c3 : Int} {b : Option Addr} {l c : Nat} {u7 u8 u9 : Value} {z : En} {F G : List Nat} (h : RdEn W (.agg #[.int .i64 k, .int .i64 p, .slice b l c, .int .i64 c0, .int .i64 c1, .int .i64 c2, .int .i64 c3, u7, u8, u9]) z F G) : RdP W b l z.ids F := by
  obtain ⟨b', l', k', a1, n1, c1', a2, n2, c2', a3, n3, c3', ev, hp, _⟩ := h
  simp only [Value.agg.injEq, Array.mk.injEq, List.cons.injEq, Value.slice.injEq] at ev
  obtain ⟨_, _, ⟨rfl, rfl, _⟩, _⟩ := ev
  exact hp

set_option maxHeartbeats 16000000 in
set_option maxRecDepth 200000 in
theorem walk (a0 : Option Addr) (len0 cap0 : Nat) (z0 : List Int) (w : World) (w0 : IsRow .u8 w a0 len0 cap0 z0) :
    Calls Try.prog 3 #[.slice a0 len0 cap0] w fun e w' => e = .returned (.bool true) ∧ Below w.heap.size w w' := by
  obtain ⟨hR, hcap, hmax⟩ := rdOf w0
  generalize z0.take len0 = zs at hR
  clear w0 hcap hmax
  by_cases hbig : (1048576 : Int) < (len0 : Int)
  · have hd : decide ((1048576 : Int) < (len0 : Int)) = true := by simpa using hbig
    clear hR hbig
    go_enter Try.func3, Try.ntmps3
    go_wp2_with fail
    refine (big_any _ _ _ _).mono ?_
    rintro e x1 ⟨rfl, rfl⟩
    rw [hd]
    go_wp2
    go_ret
    exact ⟨rfl, Below.refl _ _⟩
  have hlen : len0 ≤ 1048576 := by omega
  have hd : decide ((1048576 : Int) < (len0 : Int)) = false := by simpa using hbig
  have HR : Hid (RdB w a0 len0 zs) := hR
  clear hR hbig
  go_enter Try.func3, Try.ntmps3
  go_wp2_with fail
  refine (big_any _ _ _ _).mono ?_
  rintro e x1 ⟨rfl, hx1⟩
  have hx1' := hx1.symm
  subst hx1'
  rw [hd]
  clear hd hx1
  go_wp2_with fail
  refine (drawEntryAdd_any a0 len0 cap0 zs _ HR.out hlen).mono ?_
  rintro e w1 ⟨ea, x, F, G, eb, y, F', G', rfl, ⟨rx, wx, lx, _⟩, ⟨ry, wy, ly, _⟩, b1⟩
  obtain ⟨hsa, hoa⟩ := rdEn_cells rx
  obtain ⟨hsb, hob⟩ := rdEn_cells ry
  have HW : Hid (x.sk.wide ∧ y.sk.wide ∧ x.ids.length ≤ 8 ∧ y.ids.length ≤ 8) := ⟨wx, wy, lx, ly⟩
  have HX : Hid (RdEn w1 (.agg ea) x F G ∧ RdEn w1 (.agg eb) y F' G' ∧ Below w.heap.size w w1) := ⟨rx, ry, b1⟩
  have HSZ : Hid (ea.size = 10 ∧ eb.size = 10 ∧ ea.all (·.oneCell') = true ∧ eb.all (·.oneCell') = true) := ⟨hsa, hsb, hoa, hob⟩
  have HT : Hid (_ ∧ _ ∧ _) := two_made w1 #[.int .i64 0, .int .i64 0, .slice none 0 0, .int .i64 0, .int .i64 0, .int .i64 0, .int .i64 0, .slice none 0 0, .slice none 0 0, .slice none 0 0] #[.int .i64 0, .int .i64 0, .slice none 0 0, .int .i64 0, .int .i64 0, .int .i64 0, .int .i64 0, .slice none 0 0, .slice none 0 0, .slice none 0 0] 30 30
  clear rx wx lx ry wy ly b1 hsa hoa hsb hob
  go_wp2_with (first | go_skip | (with_reducible refine stopLoad 30 rfl ?_) | (with_reducible refine stopStore 30 rfl ?_))
  refine store_known 30 w1.heap.size _ ea 30 HT.out.1 rfl rfl rfl rfl (enSizeD HSZ.out.1) HSZ.out.1.symm HSZ.out.2.2.1 ?_
  go_wp2_with (first | go_skip | (with_reducible refine stopLoad 30 rfl ?_) | (with_reducible refine stopStore 30 rfl ?_))
  refine store_known 30 (w1.heap.size + 1) _ eb 30 (HT.out.2.1.setRowOther (by omega)) rfl rfl rfl rfl (enSizeD HSZ.out.2.1) HSZ.out.2.1.symm HSZ.out.2.2.2 ?_
  obtain ⟨W2, hW2⟩ : ∃ W, W = (((w1.alloc (.cells #[.int .i64 0, .int .i64 0, .slice none 0 0, .int .i64 0, .int .i64 0, .int .i64 0, .int .i64 0, .slice none 0 0, .slice none 0 0, .slice none 0 0] 30)).alloc (.cells #[.int .i64 0, .int .i64 0, .slice none 0 0, .int .i64 0, .int .i64 0, .int .i64 0, .int .i64 0, .slice none 0 0, .slice none 0 0, .slice none 0 0] 30)).setRow w1.heap.size ea).setRow (w1.heap.size + 1) eb := ⟨_, rfl⟩
  have hb2 : Below w1.heap.size w1 W2 := by rw [hW2]; exact below_setRow (below_setRow HT.out.2.2 (Nat.le_refl _) _) (by omega) _
  have Va : Hid (VE W2 w1.heap.size ea x F G) := ⟨by rw [hW2]; exact HT.out.1.setRow.setRowOther (by omega), HX.out.1.below hb2⟩
  have Vb : Hid (VE W2 (w1.heap.size + 1) eb y F' G') := ⟨by rw [hW2]; exact (HT.out.2.1.setRowOther (by omega)).setRow, HX.out.2.1.below hb2⟩
  have BEL : Hid (Below w.heap.size w W2) := Below.next HX.out.2.2 hb2
  rw [← hW2]
  obtain ⟨ga, hga⟩ : ∃ g, g = w1.heap.size := ⟨_, rfl⟩
  rw [← hga] at Va Vb ⊢
  obtain ⟨gb, hgb⟩ : ∃ g, g = ga + 1 := ⟨_, rfl⟩
  rw [← hgb] at Vb ⊢
  clear hW2 hb2 HT HX HSZ HR hga hgb
  obtain ⟨d, hd⟩ : ∃ d, d = x.addOk y := ⟨_, rfl⟩
  have HD : Hid (d = x.addOk y) := hd
  clear hd
  go_wp2_with (first | go_skip | (with_reducible refine stopLoad 30 rfl ?_) | (with_reducible refine stopStore 30 rfl ?_))
  refine load_any 30 ga ea 30 _ Va.out.blk rfl rfl rfl Try.underlying30 rfl Va.out.sz ?_
  go_wp2_with (first | go_skip | (with_reducible refine stopLoad 30 rfl ?_) | (with_reducible refine stopStore 30 rfl ?_))
  refine load_any 30 gb eb 30 _ Vb.out.blk rfl rfl rfl Try.underlying30 rfl Vb.out.sz ?_
  go_wp2_with fail
  refine (entryAddImpl_any _ _ x y F G F' G' _ Va.out.rd Vb.out.rd HW.out.1 HW.out.2.1 (by have := HW.out.2.2; omega)).mono ?_
  rintro e w3 ⟨zv, Xx, Yx, rfl, rz, _, _, _, bz⟩
  obtain ⟨ex, rfl⟩ : ∃ ez, zv = .agg ez := by
    obtain ⟨b, l, c, a1, n1, c1, a2, n2, c2, a3, n3, c3, ev, _⟩ := rz
    exact ⟨_, ev⟩
  obtain ⟨hsz, hoz⟩ := rdEn_cells rz
  have BEL : Hid (Below w.heap.size w w3) := Below.next BEL.out bz
  have Va : Hid (VE w3 ga ea x F G) := Va.out.below bz
  have Vb : Hid (VE w3 gb eb y F' G') := Vb.out.below bz
  have HZ : Hid (RdEn w3 (.agg ex) (x.addR y) Xx Yx ∧ ex.size = 10 ∧ ex.all (·.oneCell') = true) := ⟨rz, hsz, hoz⟩
  clear rz bz hsz hoz
  rw [← HD.out]
  go_wp2_with (first | go_skip | (with_reducible refine stopLoad 30 rfl ?_) | (with_reducible refine stopStore 30 rfl ?_))
  refine store_fresh 30 w3.heap.size rfl #[.int .i64 0, .int .i64 0, .slice none 0 0, .int .i64 0, .int .i64 0, .int .i64 0, .int .i64 0, .slice none 0 0, .slice none 0 0, .slice none 0 0] ex 30 rfl rfl rfl rfl (enSizeD HZ.out.2.1) HZ.out.2.1.symm HZ.out.2.2 ?_
  intro w4 hg hb
  have BEL : Hid (Below w.heap.size w w4) := Below.next BEL.out hb
  have Va : Hid (VE w4 ga ea x F G) := Va.out.below hb
  have Vb : Hid (VE w4 gb eb y F' G') := Vb.out.below hb
  have Vx : Hid (VE w4 w3.heap.size ex (x.addR y) Xx Yx) := ⟨hg, HZ.out.1.below hb⟩
  obtain ⟨gx, hgn⟩ : ∃ g, g = w3.heap.size := ⟨_, rfl⟩
  rw [← hgn] at Vx ⊢
  clear hg hb hgn HZ
  go_wp2_with (first | go_skip | (with_reducible refine stopLoad 30 rfl ?_) | (with_reducible refine stopStore 30 rfl ?_))
  refine load_any 30 gb eb 30 _ Vb.out.blk rfl rfl rfl Try.underlying30 rfl Vb.out.sz ?_
  go_wp2_with (first | go_skip | (with_reducible refine stopLoad 30 rfl ?_) | (with_reducible refine stopStore 30 rfl ?_))
  refine load_any 30 ga ea 30 _ Va.out.blk rfl rfl rfl Try.underlying30 rfl Va.out.sz ?_
  go_wp2_with fail
  refine (entryAddImpl_any _ _ y x F' G' F G _ Vb.out.rd Va.out.rd HW.out.2.1 HW.out.1 (by have := HW.out.2.2; omega)).mono ?_
  rintro e w5 ⟨zv, Xy, Yy, rfl, rz, _, _, _, bz⟩
  obtain ⟨ey, rfl⟩ : ∃ ez, zv = .agg ez := by
    obtain ⟨b, l, c, a1, n1, c1, a2, n2, c2, a3, n3, c3, ev, _⟩ := rz
    exact ⟨_, ev⟩
  obtain ⟨hsz, hoz⟩ := rdEn_cells rz
  have BEL : Hid (Below w.heap.size w w5) := Below.next BEL.out bz
  have Va : Hid (VE w5 ga ea x F G) := Va.out.below bz
  have Vb : Hid (VE w5 gb eb y F' G') := Vb.out.below bz
  have Vx : Hid (VE w5 gx ex (x.addR y) Xx Yx) := Vx.out.below bz
  have HZ : Hid (RdEn w5 (.agg ey) (y.addR x) Xy Yy ∧ ey.size = 10 ∧ ey.all (·.oneCell') = true) := ⟨rz, hsz, hoz⟩
  clear rz bz hsz hoz
  rw [addOk_comm y x, ← HD.out]
  go_wp2_with (first | go_skip | (with_reducible refine stopLoad 30 rfl ?_) | (with_reducible refine stopStore 30 rfl ?_))
  refine store_fresh 30 w5.heap.size rfl #[.int .i64 0, .int .i64 0, .slice none 0 0, .int .i64 0, .int .i64 0, .int .i64 0, .int .i64 0, .slice none 0 0, .slice none 0 0, .slice none 0 0] ey 30 rfl rfl rfl rfl (enSizeD HZ.out.2.1) HZ.out.2.1.symm HZ.out.2.2 ?_
  intro w6 hg hb
  have BEL : Hid (Below w.heap.size w w6) := Below.next BEL.out hb
  have Va : Hid (VE w6 ga ea x F G) := Va.out.below hb
  have Vb : Hid (VE w6 gb eb y F' G') := Vb.out.below hb
  have Vx : Hid (VE w6 gx ex (x.addR y) Xx Yx) := Vx.out.below hb
  have Vy : Hid (VE w6 w5.heap.size ey (y.addR x) Xy Yy) := ⟨hg, HZ.out.1.below hb⟩
  obtain ⟨gy, hgn⟩ : ∃ g, g = w5.heap.size := ⟨_, rfl⟩
  rw [← hgn] at Vy ⊢
  clear hg hb hgn HZ
  go_wp2_with (first | go_skip | (with_reducible refine stopLoad 30 rfl ?_) | (with_reducible refine stopStore 30 rfl ?_))
  refine load_any 30 ga ea 30 _ Va.out.blk rfl rfl rfl Try.underlying30 rfl Va.out.sz ?_
  go_wp2_with (first | go_skip | (with_reducible refine stopLoad 30 rfl ?_) | (with_reducible refine stopStore 30 rfl ?_))
  refine load_any 30 gb eb 30 _ Vb.out.blk rfl rfl rfl Try.underlying30 rfl Vb.out.sz ?_
  go_wp2_with fail
  refine (entryAddSpec_any _ _ x y F G F' G' _ Va.out.rd Vb.out.rd HW.out.1 HW.out.2.1 (by have := HW.out.2.2; omega)).mono ?_
  rintro e w7 ⟨zv, Xs, Ys, rfl, rz, _, _, _, bz⟩
  obtain ⟨es, rfl⟩ : ∃ ez, zv = .agg ez := by
    obtain ⟨b, l, c, a1, n1, c1, a2, n2, c2, a3, n3, c3, ev, _⟩ := rz
    exact ⟨_, ev⟩
  obtain ⟨hsz, hoz⟩ := rdEn_cells rz
  have BEL : Hid (Below w.heap.size w w7) := Below.next BEL.out bz
  have Va : Hid (VE w7 ga ea x F G) := Va.out.below bz
  have Vb : Hid (VE w7 gb eb y F' G') := Vb.out.below bz
  have Vx : Hid (VE w7 gx ex (x.addR y) Xx Yx) := Vx.out.below bz
  have Vy : Hid (VE w7 gy ey (y.addR x) Xy Yy) := Vy.out.below bz
  have HZ : Hid (RdEn w7 (.agg es) (x.addR y) Xs Ys ∧ es.size = 10 ∧ es.all (·.oneCell') = true) := ⟨rz, hsz, hoz⟩
  clear rz bz hsz hoz
  rw [← HD.out]
  go_wp2_with (first | go_skip | (with_reducible refine stopLoad 30 rfl ?_) | (with_reducible refine stopStore 30 rfl ?_))
  refine store_fresh 30 w7.heap.size rfl #[.int .i64 0, .int .i64 0, .slice none 0 0, .int .i64 0, .int .i64 0, .int .i64 0, .int .i64 0, .slice none 0 0, .slice none 0 0, .slice none 0 0] es 30 rfl rfl rfl rfl (enSizeD HZ.out.2.1) HZ.out.2.1.symm HZ.out.2.2 ?_
  intro w8 hg hb
  have BEL : Hid (Below w.heap.size w w8) := Below.next BEL.out hb
  have Va : Hid (VE w8 ga ea x F G) := Va.out.below hb
  have Vb : Hid (VE w8 gb eb y F' G') := Vb.out.below hb
  have Vx : Hid (VE w8 gx ex (x.addR y) Xx Yx) := Vx.out.below hb
  have Vy : Hid (VE w8 gy ey (y.addR x) Xy Yy) := Vy.out.below hb
  clear hg hb HZ
  have hdd : (d != d) = false := by simp
  cases d
  · have HE : Hid (x.addR y = En.zero) := En.addR_not HD.out.symm
    obtain ⟨pz, lz, kz, e1, r1, f1, e2, r2, f2, e3, r3, f3, ev, hp, _, _⟩ := Vx.out.rd
    have hl : lz = 0 := by rw [← hp.length, HE.out]; rfl
    subst hl
    have k2 : w8.cell? ⟨gx, 2, none⟩ = some (.slice pz 0 kz) := by
      rw [Vx.out.blk.cell]
      injection ev with ev
      rw [ev]; rfl
    clear ev hp
    go_wp2
    go_ret
    exact ⟨rfl, BEL.out⟩
  have HOK : Hid (x.addOk y = true) := HD.out.symm
  have HZW : Hid ((x.addR y).sk.wide ∧ (x.addR y).ids.length ≤ 16) := ⟨addR_skwide, by have := addR_len (x := x) (y := y); have := HW.out.2.2; omega⟩
  have ecm : y.addR x = x.addR y := (addR_comm HOK.out).symm
  rw [ecm] at Vy
  clear ecm hdd
  go_wp2_with (first | go_skip | (with_reducible refine stopLoad 30 rfl ?_) | (with_reducible refine stopStore 30 rfl ?_))
  refine load_any 30 gx ex 30 _ Vx.out.blk rfl rfl rfl Try.underlying30 rfl Vx.out.sz ?_
  go_wp2_with (first | go_skip | (with_reducible refine stopLoad 30 rfl ?_) | (with_reducible refine stopStore 30 rfl ?_))
  refine load_any 30 gb eb 30 _ Vb.out.blk rfl rfl rfl Try.underlying30 rfl Vb.out.sz ?_
  go_wp2_with fail
  refine (entryAddImpl_any _ _ (x.addR y) y Xx Yx F' G' _ Vx.out.rd Vb.out.rd HZW.out.1 HW.out.2.1 (by have := HW.out.2.2; have := HZW.out.2; omega)).mono ?_
  rintro e w9 ⟨zv, Xt, Yt, rfl, rz, _, _, _, bz⟩
  obtain ⟨et, rfl⟩ : ∃ ez, zv = .agg ez := by
    obtain ⟨b, l, c, a1, n1, c1, a2, n2, c2, a3, n3, c3, ev, _⟩ := rz
    exact ⟨_, ev⟩
  obtain ⟨hsz, hoz⟩ := rdEn_cells rz
  have BEL : Hid (Below w.heap.size w w9) := Below.next BEL.out bz
  have Va : Hid (VE w9 ga ea x F G) := Va.out.below bz
  have Vb : Hid (VE w9 gb eb y F' G') := Vb.out.below bz
  have Vx : Hid (VE w9 gx ex (x.addR y) Xx Yx) := Vx.out.below bz
  have Vy : Hid (VE w9 gy ey (x.addR y) Xy Yy) := Vy.out.below bz
  have HZ : Hid (RdEn w9 (.agg et) ((x.addR y).addR y) Xt Yt ∧ et.size = 10 ∧ et.all (·.oneCell') = true) := ⟨rz, hsz, hoz⟩
  clear rz bz hsz hoz
  rw [addR_twice HOK.out]
  go_wp2_with (first | go_skip | (with_reducible refine stopLoad 30 rfl ?_) | (with_reducible refine stopStore 30 rfl ?_))
  refine store_fresh 30 w9.heap.size rfl #[.int .i64 0, .int .i64 0, .slice none 0 0, .int .i64 0, .int .i64 0, .int .i64 0, .int .i64 0, .slice none 0 0, .slice none 0 0, .slice none 0 0] et 30 rfl rfl rfl rfl (enSizeD HZ.out.2.1) HZ.out.2.1.symm HZ.out.2.2 ?_
  intro w10 hg hb
  have BEL : Hid (Below w.heap.size w w10) := Below.next BEL.out hb
  have Va : Hid (VE w10 ga ea x F G) := Va.out.below hb
  have Vb : Hid (VE w10 gb eb y F' G') := Vb.out.below hb
  have Vx : Hid (VE w10 gx ex (x.addR y) Xx Yx) := Vx.out.below hb
  have Vy : Hid (VE w10 gy ey (x.addR y) Xy Yy) := Vy.out.below hb
  clear hg hb HZ
  go_wp2_with (first | go_skip | (with_reducible refine stopLoad 30 rfl ?_) | (with_reducible refine stopStore 30 rfl ?_))
  refine load_any 30 ga ea 30 _ Va.out.blk rfl rfl rfl Try.underlying30 rfl Va.out.sz ?_
  go_wp2_with (first | go_skip | (with_reducible refine stopLoad 30 rfl ?_) | (with_reducible refine stopStore 30 rfl ?_))
  refine load_any 30 ga ea 30 _ Va.out.blk rfl rfl rfl Try.underlying30 rfl Va.out.sz ?_
  go_wp2_with fail
  refine (entryAddImpl_any _ _ x x F G F G _ Va.out.rd Va.out.rd HW.out.1 HW.out.1 (by have := HW.out.2.2; omega)).mono ?_
  rintro e w11 ⟨zv, Xu, Yu, rfl, rz, _, _, _, bz⟩
  obtain ⟨eu, rfl⟩ : ∃ ez, zv = .agg ez := by
    obtain ⟨b, l, c, a1, n1, c1, a2, n2, c2, a3, n3, c3, ev, _⟩ := rz
    exact ⟨_, ev⟩
  obtain ⟨hsz, hoz⟩ := rdEn_cells rz
  have BEL : Hid (Below w.heap.size w w11) := Below.next BEL.out bz
  have Va : Hid (VE w11 ga ea x F G) := Va.out.below bz
  have Vb : Hid (VE w11 gb eb y F' G') := Vb.out.below bz
  have Vx : Hid (VE w11 gx ex (x.addR y) Xx Yx) := Vx.out.below bz
  have Vy : Hid (VE w11 gy ey (x.addR y) Xy Yy) := Vy.out.below bz
  have HZ : Hid (RdEn w11 (.agg eu) (x.addR x) Xu Yu ∧ eu.size = 10 ∧ eu.all (·.oneCell') = true) := ⟨rz, hsz, hoz⟩
  clear rz bz hsz hoz
  rw [self_not (addOk_parts HOK.out).1]
  go_wp2_with (first | go_skip | (with_reducible refine stopLoad 30 rfl ?_) | (with_reducible refine stopStore 30 rfl ?_))
  refine store_fresh 30 w11.heap.size rfl #[.int .i64 0, .int .i64 0, .slice none 0 0, .int .i64 0, .int .i64 0, .int .i64 0, .int .i64 0, .slice none 0 0, .slice none 0 0, .slice none 0 0] eu 30 rfl rfl rfl rfl (enSizeD HZ.out.2.1) HZ.out.2.1.symm HZ.out.2.2 ?_
  intro w12 hg hb
  have BEL : Hid (Below w.heap.size w w12) := Below.next BEL.out hb
  have Va : Hid (VE w12 ga ea x F G) := Va.out.below hb
  have Vb : Hid (VE w12 gb eb y F' G') := Vb.out.below hb
  have Vx : Hid (VE w12 gx ex (x.addR y) Xx Yx) := Vx.out.below hb
  have Vy : Hid (VE w12 gy ey (x.addR y) Xy Yy) := Vy.out.below hb
  clear hg hb HZ
  obtain ⟨z, hz⟩ : ∃ z, z = x.addR y := ⟨_, rfl⟩
  have q1 : z.ok = true := by rw [hz]; exact addR_ok HOK.out
  have q2 : z.ids.size = x.ids.size + y.ids.size := by rw [hz]; exact addR_idsize HOK.out
  have q3 : z.size ≤ x.size + y.size := by rw [hz]; exact addR_esize HOK.out
  have q4 : x.sk.count ≤ z.sk.count := by rw [hz]; exact addR_count HOK.out
  rw [← hz] at Vx Vy HZW
  clear hz
  obtain ⟨sx, hsx⟩ : ∃ n, n = x.ids.size := ⟨_, rfl⟩
  obtain ⟨sy, hsy⟩ : ∃ n, n = y.ids.size := ⟨_, rfl⟩
  obtain ⟨tx, htx⟩ : ∃ n, n = x.size := ⟨_, rfl⟩
  obtain ⟨ty, hty⟩ : ∃ n, n = y.size := ⟨_, rfl⟩
  obtain ⟨tz, htz⟩ : ∃ n, n = z.size := ⟨_, rfl⟩
  have bx := size_range (ps := x.ids)
  have by' := size_range (ps := y.ids)
  have ex' := esize_range (x := x) (by have := HW.out.2.2; omega)
  have ey' := esize_range (x := y) (by have := HW.out.2.2; omega)
  rw [← hsx] at bx
  rw [← hsy] at by'
  rw [← htx] at ex'
  rw [← hty] at ey'
  have hle : decide (tz ≤ tx + ty) = true := by rw [htz, htx, hty]; exact decide_eq_true q3
  have hcn : decide (x.sk.count ≤ z.sk.count) = true := decide_eq_true q4
  have HQ : Hid (z.ok = true ∧ z.ids.size = sx + sy ∧ x.ids.size = sx ∧ y.ids.size = sy ∧ z.size = tz ∧ x.size = tx ∧ y.size = ty) := ⟨q1, by rw [q2, hsx, hsy], hsx.symm, hsy.symm, htz.symm, htx.symm, hty.symm⟩
  obtain ⟨bx0, bx1⟩ := bx
  obtain ⟨by0, by1⟩ := by'
  obtain ⟨ex0, ex1⟩ := ex'
  obtain ⟨ey0, ey1⟩ := ey'
  clear q1 q2 q3 q4 hsx hsy htx hty htz HD HOK
  obtain ⟨pa, la, ka, a1, n1, c1, a2, n2, c2, a3, n3, c3, eva, hpa, _, _⟩ := Va.out.rd
  injection eva with eva
  obtain ⟨pb, lb, kb, b1, m1, d1, b2, m2, d2, b3, m3, d3, evb, hpb, _, _⟩ := Vb.out.rd
  injection evb with evb
  obtain ⟨pz, lz, kz, e1, r1, f1, e2, r2, f2, e3, r3, f3, evz, hpz, _, _⟩ := Vx.out.rd
  injection evz with evz
  subst eva evb evz
  have HL : Hid (la ≤ 2097152 ∧ lb ≤ 2097152 ∧ lz ≤ 2097152) := ⟨by rw [← hpa.length]; have := HW.out.2.2; omega, by rw [← hpb.length]; have := HW.out.2.2; omega, by rw [← hpz.length]; have := HZW.out.2; omega⟩
  clear hpa hpb hpz
  go_wp2
  have HS : Hid (AllS w ga #[.int .i64 x.key, .int .i64 x.window, .slice pa la ka, .int .i64 x.sk.count, .int .i64 x.sk.sum, .int .i64 x.sk.min, .int .i64 x.sk.max, .slice a1 n1 c1, .slice a2 n2 c2, .slice a3 n3 c3] x F G gb #[.int .i64 y.key, .int .i64 y.window, .slice pb lb kb, .int .i64 y.sk.count, .int .i64 y.sk.sum, .int .i64 y.sk.min, .int .i64 y.sk.max, .slice b1 m1 d1, .slice b2 m2 d2, .slice b3 m3 d3] y F' G' gx #[.int .i64 z.key, .int .i64 z.window, .slice pz lz kz, .int .i64 z.sk.count, .int .i64 z.sk.sum, .int .i64 z.sk.min, .int .i64 z.sk.max, .slice e1 r1 f1, .slice e2 r2 f2, .slice e3 r3 f3] z Xx Yx gy ey Xy Yy w12.drew) := ⟨Va.out.below (Below.refl _ _).drew, Vb.out.below (Below.refl _ _).drew, Vx.out.below (Below.refl _ _).drew, Vy.out.below (Below.refl _ _).drew, BEL.out.drew⟩
  obtain ⟨y0, hy0⟩ : ∃ W, W = w12.drew := ⟨_, rfl⟩
  refine wp_region_held (S := AllS w ga #[.int .i64 x.key, .int .i64 x.window, .slice pa la ka, .int .i64 x.sk.count, .int .i64 x.sk.sum, .int .i64 x.sk.min, .int .i64 x.sk.max, .slice a1 n1 c1, .slice a2 n2 c2, .slice a3 n3 c3] x F G gb #[.int .i64 y.key, .int .i64 y.window, .slice pb lb kb, .int .i64 y.sk.count, .int .i64 y.sk.sum, .int .i64 y.sk.min, .int .i64 y.sk.max, .slice b1 m1 d1, .slice b2 m2 d2, .slice b3 m3 d3] y F' G' gx #[.int .i64 z.key, .int .i64 z.window, .slice pz lz kz, .int .i64 z.sk.count, .int .i64 z.sk.sum, .int .i64 z.sk.min, .int .i64 z.sk.max, .slice e1 r1 f1, .slice e2 r2 f2, .slice e3 r3 f3] z Xx Yx gy ey Xy Yy) (by kernel_rfl) ?_
  change wpAnyH _ _ _ _ _ _ _ _ (World.drew _)
  rw [← hy0] at HS ⊢
  clear hy0 Va Vb Vx Vy BEL
  refine takeH (o := ?o1) 0 (.agg #[.int .i64 z.key, .int .i64 z.window, .slice pz lz kz, .int .i64 z.sk.count, .int .i64 z.sk.sum, .int .i64 z.sk.min, .int .i64 z.sk.max, .slice e1 r1 f1, .slice e2 r2 f2, .slice e3 r3 f3]) ?h1 ?r1
  case h1 => simp only [List.getElem?_toArray, List.getElem?_cons_zero]; rfl
  refine ⟨_, by simp [Act.put]; rfl, by kernel_rfl, by kernel_rfl, by kernel_rfl, fun _ _ _ h => h, (yields_whole 30 gx #[.int .i64 z.key, .int .i64 z.window, .slice pz lz kz, .int .i64 z.sk.count, .int .i64 z.sk.sum, .int .i64 z.sk.min, .int .i64 z.sk.max, .slice e1 r1 f1, .slice e2 r2 f2, .slice e3 r3 f3] 30 _ rfl rfl rfl Try.underlying30 rfl (by kernel_rfl) (fun W hW => hW.x.blk)), HS.out, ?_⟩
  refine takeH (o := ?o2) 1 (.agg ey) ?h2 ?r2
  case h2 => simp only [List.getElem?_toArray, List.getElem?_cons_succ, List.getElem?_cons_zero]; rfl
  refine ⟨_, by simp [Act.put]; rfl, by kernel_rfl, by kernel_rfl, by kernel_rfl, fun _ _ _ h => h, (yields_whole 30 gy ey 30 _ rfl rfl rfl Try.underlying30 rfl HS.out.y.sz (fun W hW => hW.y.blk)), HS.out, ?_⟩
  refine onlyH (o := ?o3) 2 (by kernel_rfl) ?h3 ?r3
  case h3 => simp only [List.getElem?_toArray, List.getElem?_cons_succ, List.getElem?_cons_zero]; rfl
  intro K hK
  refine op_call2' 9 _ _ _ Try.f9 (fun v w' => v = .bool true ∧ Below y0.heap.size y0 w') rfl rfl Try.func9 (by kernel_rfl) (by kernel_rfl) ((entrySameImpl_any _ _ z z Xx Yx Xy Yy y0 HS.out.x.rd HS.out.y.rd HZW.out.1 HZW.out.1 (by have := HZW.out.2; omega) (by have := HZW.out.2; omega)).mono (by rintro e w' ⟨rfl, h1⟩; exact ⟨_, rfl, by simp, h1⟩)) ?_
  rintro _ y1 ⟨rfl, bz⟩
  refine ⟨_, by simp [Act.put]; rfl, hK _ _ ⟨HS.out.below bz, ?_⟩⟩
  have HS21 : Hid (AllS w ga #[.int .i64 x.key, .int .i64 x.window, .slice pa la ka, .int .i64 x.sk.count, .int .i64 x.sk.sum, .int .i64 x.sk.min, .int .i64 x.sk.max, .slice a1 n1 c1, .slice a2 n2 c2, .slice a3 n3 c3] x F G gb #[.int .i64 y.key, .int .i64 y.window, .slice pb lb kb, .int .i64 y.sk.count, .int .i64 y.sk.sum, .int .i64 y.sk.min, .int .i64 y.sk.max, .slice b1 m1 d1, .slice b2 m2 d2, .slice b3 m3 d3] y F' G' gx #[.int .i64 z.key, .int .i64 z.window, .slice pz lz kz, .int .i64 z.sk.count, .int .i64 z.sk.sum, .int .i64 z.sk.min, .int .i64 z.sk.max, .slice e1 r1 f1, .slice e2 r2 f2, .slice e3 r3 f3] z Xx Yx gy ey Xy Yy y1) := HS.out.below bz
  clear hK bz HS
  refine takeH (o := ?o4) 3 (.bool true) ?h4 ?r4
  case h4 => simp only [List.getElem?_toArray, List.getElem?_cons_succ, List.getElem?_cons_zero]; rfl
  refine ⟨_, by simp [Act.put]; rfl, by kernel_rfl, by kernel_rfl, by kernel_rfl, fun _ _ _ h => h, (.inl ⟨rfl, fun W _ => by go_simp⟩), HS21.out, ?_⟩
  refine takeH (o := ?o5) 4 (.agg #[.int .i64 z.key, .int .i64 z.window, .slice pz lz kz, .int .i64 z.sk.count, .int .i64 z.sk.sum, .int .i64 z.sk.min, .int .i64 z.sk.max, .slice e1 r1 f1, .slice e2 r2 f2, .slice e3 r3 f3]) ?h5 ?r5
  case h5 => simp only [List.getElem?_toArray, List.getElem?_cons_succ, List.getElem?_cons_zero]; rfl
  refine ⟨_, by simp [Act.put]; rfl, by kernel_rfl, by kernel_rfl, by kernel_rfl, fun _ _ _ h => h, (yields_whole 30 gx #[.int .i64 z.key, .int .i64 z.window, .slice pz lz kz, .int .i64 z.sk.count, .int .i64 z.sk.sum, .int .i64 z.sk.min, .int .i64 z.sk.max, .slice e1 r1 f1, .slice e2 r2 f2, .slice e3 r3 f3] 30 _ rfl rfl rfl Try.underlying30 rfl (by kernel_rfl) (fun W hW => hW.x.blk)), HS21.out, ?_⟩
  refine onlyH (o := ?o6) 5 (by kernel_rfl) ?h6 ?r6
  case h6 => simp only [List.getElem?_toArray, List.getElem?_cons_succ, List.getElem?_cons_zero]; rfl
  intro K hK
  refine op_call1 10 _ _ Try.f10 (fun v w' => v = .bool true ∧ Below y1.heap.size y1 w') rfl rfl Try.func10 (by kernel_rfl) (by kernel_rfl) ((entryOkImpl_en _ z Xx Yx y1 HS21.out.x.rd HZW.out.1 (by have := HZW.out.2; omega)).mono (by rintro e w' ⟨rfl, h1⟩; exact ⟨_, rfl, by rw [HQ.out.1], h1⟩)) ?_
  rintro _ y2 ⟨rfl, bz⟩
  refine ⟨_, by simp [Act.put]; rfl, hK _ _ ⟨HS21.out.below bz, ?_⟩⟩
  have HS22 : Hid (AllS w ga #[.int .i64 x.key, .int .i64 x.window, .slice pa la ka, .int .i64 x.sk.count, .int .i64 x.sk.sum, .int .i64 x.sk.min, .int .i64 x.sk.max, .slice a1 n1 c1, .slice a2 n2 c2, .slice a3 n3 c3] x F G gb #[.int .i64 y.key, .int .i64 y.window, .slice pb lb kb, .int .i64 y.sk.count, .int .i64 y.sk.sum, .int .i64 y.sk.min, .int .i64 y.sk.max, .slice b1 m1 d1, .slice b2 m2 d2, .slice b3 m3 d3] y F' G' gx #[.int .i64 z.key, .int .i64 z.window, .slice pz lz kz, .int .i64 z.sk.count, .int .i64 z.sk.sum, .int .i64 z.sk.min, .int .i64 z.sk.max, .slice e1 r1 f1, .slice e2 r2 f2, .slice e3 r3 f3] z Xx Yx gy ey Xy Yy y2) := HS21.out.below bz
  clear hK bz HS21
  refine takeH (o := ?o7) 6 (.bool true) ?h7 ?r7
  case h7 => simp only [List.getElem?_toArray, List.getElem?_cons_succ, List.getElem?_cons_zero]; rfl
  refine ⟨_, by simp [Act.put]; rfl, by kernel_rfl, by kernel_rfl, by kernel_rfl, fun _ _ _ h => h, (.inl ⟨rfl, fun W _ => by go_simp⟩), HS22.out, ?_⟩
  refine takeH (o := ?o8) 7 (.bool true) ?h8 ?r8
  case h8 => simp only [List.getElem?_toArray, List.getElem?_cons_succ, List.getElem?_cons_zero]; rfl
  refine ⟨_, by simp [Act.put]; rfl, by kernel_rfl, by kernel_rfl, by kernel_rfl, fun _ _ _ h => h, (.inl ⟨rfl, fun W _ => by go_simp⟩), HS22.out, ?_⟩
  refine takeH (o := ?o9) 8 (.bool false) ?h9 ?r9
  case h9 => simp only [List.getElem?_toArray, List.getElem?_cons_succ, List.getElem?_cons_zero]; rfl
  refine ⟨_, by simp [Act.put]; rfl, by kernel_rfl, by kernel_rfl, by kernel_rfl, fun _ _ _ h => h, (.inl ⟨rfl, fun W _ => by go_simp⟩), HS22.out, ?_⟩
  refine takeH (o := ?o10) 9 (.bool true) ?h10 ?r10
  case h10 => simp only [List.getElem?_toArray, List.getElem?_cons_succ, List.getElem?_cons_zero]; rfl
  refine ⟨_, by simp [Act.put]; rfl, by kernel_rfl, by kernel_rfl, by kernel_rfl, fun _ _ _ h => h, (.inl ⟨rfl, fun W _ => by go_simp⟩), HS22.out, ?_⟩
  refine takeH (o := ?o11) 10 (.bool true) ?h11 ?r11
  case h11 => simp only [List.getElem?_toArray, List.getElem?_cons_succ, List.getElem?_cons_zero]; rfl
  refine ⟨_, by simp [Act.put]; rfl, by kernel_rfl, by kernel_rfl, by kernel_rfl, fun _ _ _ h => h, (.inl ⟨rfl, fun W _ => by go_simp⟩), HS22.out, ?_⟩
  refine takeH (o := ?o12) 11 (.bool true) ?h12 ?r12
  case h12 => simp only [List.getElem?_toArray, List.getElem?_cons_succ, List.getElem?_cons_zero]; rfl
  refine ⟨_, by simp [Act.put]; rfl, by kernel_rfl, by kernel_rfl, by kernel_rfl, fun _ _ _ h => h, (.inl ⟨rfl, fun W _ => by go_simp⟩), HS22.out, ?_⟩
  refine takeH (o := ?o13) 12 (.bool false) ?h13 ?r13
  case h13 => simp only [List.getElem?_toArray, List.getElem?_cons_succ, List.getElem?_cons_zero]; rfl
  refine ⟨_, by simp [Act.put]; rfl, by kernel_rfl, by kernel_rfl, by kernel_rfl, fun _ _ _ h => h, (.inl ⟨rfl, fun W _ => by go_simp⟩), HS22.out, ?_⟩
  refine takeH (o := ?o14) 13 (.bool true) ?h14 ?r14
  case h14 => simp only [List.getElem?_toArray, List.getElem?_cons_succ, List.getElem?_cons_zero]; rfl
  refine ⟨_, by simp [Act.put]; rfl, by kernel_rfl, by kernel_rfl, by kernel_rfl, fun _ _ _ h => h, (.inl ⟨rfl, fun W _ => by go_simp⟩), HS22.out, ?_⟩
  refine takeH (o := ?o15) 14 (.bool true) ?h15 ?r15
  case h15 => simp only [List.getElem?_toArray, List.getElem?_cons_succ, List.getElem?_cons_zero]; rfl
  refine ⟨_, by simp [Act.put]; rfl, by kernel_rfl, by kernel_rfl, by kernel_rfl, fun _ _ _ h => h, (.inl ⟨rfl, fun W _ => by go_simp⟩), HS22.out, ?_⟩
  refine takeH (o := ?o16) 15 (.bool true) ?h16 ?r16
  case h16 => simp only [List.getElem?_toArray, List.getElem?_cons_succ, List.getElem?_cons_zero]; rfl
  refine ⟨_, by simp [Act.put]; rfl, by kernel_rfl, by kernel_rfl, by kernel_rfl, fun _ _ _ h => h, (.inl ⟨rfl, fun W _ => by go_simp⟩), HS22.out, ?_⟩
  refine takeH (o := ?o17) 16 (.pointer (some ⟨gx, 2, none⟩)) ?h17 ?r17
  case h17 => simp only [List.getElem?_toArray, List.getElem?_cons_succ, List.getElem?_cons_zero]; rfl
  refine ⟨_, by simp [Act.put]; rfl, by kernel_rfl, by kernel_rfl, by kernel_rfl, fun _ _ _ h => h, (.inl ⟨rfl, fun W _ => by go_simp⟩), HS22.out, ?_⟩
  refine takeH (o := ?o18) 17 (.slice pz lz kz) ?h18 ?r18
  case h18 => simp only [List.getElem?_toArray, List.getElem?_cons_succ, List.getElem?_cons_zero]; rfl
  refine ⟨_, by simp [Act.put]; rfl, by kernel_rfl, by kernel_rfl, by kernel_rfl, fun _ _ _ h => h, (.inl ⟨rfl, fun W hW => by have c := hW.x.blk.cell 2; simp only [List.getElem?_toArray, List.getElem?_cons_succ, List.getElem?_cons_zero] at c; go_simp⟩), HS22.out, ?_⟩
  refine takeH (o := ?o19) 19 (.pointer (some ⟨ga, 2, none⟩)) ?h19 ?r19
  case h19 => simp only [List.getElem?_toArray, List.getElem?_cons_succ, List.getElem?_cons_zero]; rfl
  refine ⟨_, by simp [Act.put]; rfl, by kernel_rfl, by kernel_rfl, by kernel_rfl, fun _ _ _ h => h, (.inl ⟨rfl, fun W _ => by go_simp⟩), HS22.out, ?_⟩
  refine takeH (o := ?o20) 20 (.slice pa la ka) ?h20 ?r20
  case h20 => simp only [List.getElem?_toArray, List.getElem?_cons_succ, List.getElem?_cons_zero]; rfl
  refine ⟨_, by simp [Act.put]; rfl, by kernel_rfl, by kernel_rfl, by kernel_rfl, fun _ _ _ h => h, (.inl ⟨rfl, fun W hW => by have c := hW.a.blk.cell 2; simp only [List.getElem?_toArray, List.getElem?_cons_succ, List.getElem?_cons_zero] at c; go_simp⟩), HS22.out, ?_⟩
  refine takeH (o := ?o21) 22 (.pointer (some ⟨gb, 2, none⟩)) ?h21 ?r21
  case h21 => simp only [List.getElem?_toArray, List.getElem?_cons_succ, List.getElem?_cons_zero]; rfl
  refine ⟨_, by simp [Act.put]; rfl, by kernel_rfl, by kernel_rfl, by kernel_rfl, fun _ _ _ h => h, (.inl ⟨rfl, fun W _ => by go_simp⟩), HS22.out, ?_⟩
  refine takeH (o := ?o22) 23 (.slice pb lb kb) ?h22 ?r22
  case h22 => simp only [List.getElem?_toArray, List.getElem?_cons_succ, List.getElem?_cons_zero]; rfl
  refine ⟨_, by simp [Act.put]; rfl, by kernel_rfl, by kernel_rfl, by kernel_rfl, fun _ _ _ h => h, (.inl ⟨rfl, fun W hW => by have c := hW.b.blk.cell 2; simp only [List.getElem?_toArray, List.getElem?_cons_succ, List.getElem?_cons_zero] at c; go_simp⟩), HS22.out, ?_⟩
  refine onlyH (o := ?o23) 18 (by kernel_rfl) ?h23 ?r23
  case h23 => simp only [List.getElem?_toArray, List.getElem?_cons_succ, List.getElem?_cons_zero]; rfl
  intro K hK
  refine op_call1 11 _ _ Try.f11 (fun v w' => v = .int .i64 (sx + sy) ∧ Below y2.heap.size y2 w') rfl rfl Try.func11 (by kernel_rfl) (by kernel_rfl) ((sizeImpl_any pz lz kz z.ids Xx y2 (rdP_of_en HS22.out.x.rd) HL.out.2.2).mono (by rintro e w' ⟨rfl, h1⟩; exact ⟨_, rfl, by rw [HQ.out.2.1], h1⟩)) ?_
  rintro _ y3 ⟨rfl, bz⟩
  refine ⟨_, by simp [Act.put]; rfl, hK _ _ ⟨HS22.out.below bz, ?_⟩⟩
  have HS23 : Hid (AllS w ga #[.int .i64 x.key, .int .i64 x.window, .slice pa la ka, .int .i64 x.sk.count, .int .i64 x.sk.sum, .int .i64 x.sk.min, .int .i64 x.sk.max, .slice a1 n1 c1, .slice a2 n2 c2, .slice a3 n3 c3] x F G gb #[.int .i64 y.key, .int .i64 y.window, .slice pb lb kb, .int .i64 y.sk.count, .int .i64 y.sk.sum, .int .i64 y.sk.min, .int .i64 y.sk.max, .slice b1 m1 d1, .slice b2 m2 d2, .slice b3 m3 d3] y F' G' gx #[.int .i64 z.key, .int .i64 z.window, .slice pz lz kz, .int .i64 z.sk.count, .int .i64 z.sk.sum, .int .i64 z.sk.min, .int .i64 z.sk.max, .slice e1 r1 f1, .slice e2 r2 f2, .slice e3 r3 f3] z Xx Yx gy ey Xy Yy y3) := HS22.out.below bz
  clear hK bz HS22
  refine onlyH (o := ?o24) 21 (by kernel_rfl) ?h24 ?r24
  case h24 => simp only [List.getElem?_toArray, List.getElem?_cons_succ, List.getElem?_cons_zero]; rfl
  intro K hK
  refine op_call1 11 _ _ Try.f11 (fun v w' => v = .int .i64 sx ∧ Below y3.heap.size y3 w') rfl rfl Try.func11 (by kernel_rfl) (by kernel_rfl) ((sizeImpl_any pa la ka x.ids F y3 (rdP_of_en HS23.out.a.rd) HL.out.1).mono (by rintro e w' ⟨rfl, h1⟩; exact ⟨_, rfl, by rw [HQ.out.2.2.1], h1⟩)) ?_
  rintro _ y4 ⟨rfl, bz⟩
  refine ⟨_, by simp [Act.put]; rfl, hK _ _ ⟨HS23.out.below bz, ?_⟩⟩
  have HS24 : Hid (AllS w ga #[.int .i64 x.key, .int .i64 x.window, .slice pa la ka, .int .i64 x.sk.count, .int .i64 x.sk.sum, .int .i64 x.sk.min, .int .i64 x.sk.max, .slice a1 n1 c1, .slice a2 n2 c2, .slice a3 n3 c3] x F G gb #[.int .i64 y.key, .int .i64 y.window, .slice pb lb kb, .int .i64 y.sk.count, .int .i64 y.sk.sum, .int .i64 y.sk.min, .int .i64 y.sk.max, .slice b1 m1 d1, .slice b2 m2 d2, .slice b3 m3 d3] y F' G' gx #[.int .i64 z.key, .int .i64 z.window, .slice pz lz kz, .int .i64 z.sk.count, .int .i64 z.sk.sum, .int .i64 z.sk.min, .int .i64 z.sk.max, .slice e1 r1 f1, .slice e2 r2 f2, .slice e3 r3 f3] z Xx Yx gy ey Xy Yy y4) := HS23.out.below bz
  clear hK bz HS23
  refine onlyH (o := ?o25) 24 (by kernel_rfl) ?h25 ?r25
  case h25 => simp only [List.getElem?_toArray, List.getElem?_cons_succ, List.getElem?_cons_zero]; rfl
  intro K hK
  refine op_call1 11 _ _ Try.f11 (fun v w' => v = .int .i64 sy ∧ Below y4.heap.size y4 w') rfl rfl Try.func11 (by kernel_rfl) (by kernel_rfl) ((sizeImpl_any pb lb kb y.ids F' y4 (rdP_of_en HS24.out.b.rd) HL.out.2.1).mono (by rintro e w' ⟨rfl, h1⟩; exact ⟨_, rfl, by rw [HQ.out.2.2.2.1], h1⟩)) ?_
  rintro _ y5 ⟨rfl, bz⟩
  refine ⟨_, by simp [Act.put]; rfl, hK _ _ ⟨HS24.out.below bz, ?_⟩⟩
  have HS25 : Hid (AllS w ga #[.int .i64 x.key, .int .i64 x.window, .slice pa la ka, .int .i64 x.sk.count, .int .i64 x.sk.sum, .int .i64 x.sk.min, .int .i64 x.sk.max, .slice a1 n1 c1, .slice a2 n2 c2, .slice a3 n3 c3] x F G gb #[.int .i64 y.key, .int .i64 y.window, .slice pb lb kb, .int .i64 y.sk.count, .int .i64 y.sk.sum, .int .i64 y.sk.min, .int .i64 y.sk.max, .slice b1 m1 d1, .slice b2 m2 d2, .slice b3 m3 d3] y F' G' gx #[.int .i64 z.key, .int .i64 z.window, .slice pz lz kz, .int .i64 z.sk.count, .int .i64 z.sk.sum, .int .i64 z.sk.min, .int .i64 z.sk.max, .slice e1 r1 f1, .slice e2 r2 f2, .slice e3 r3 f3] z Xx Yx gy ey Xy Yy y5) := HS24.out.below bz
  clear hK bz HS24
  refine takeH (o := ?o26) 25 (.int .i64 (sx + sy)) ?h26 ?r26
  case h26 => simp only [List.getElem?_toArray, List.getElem?_cons_succ, List.getElem?_cons_zero]; rfl
  refine ⟨_, by simp [Act.put]; rfl, by kernel_rfl, by kernel_rfl, by kernel_rfl, fun _ _ _ h => h, (.inl ⟨rfl, fun W _ => by go_simp; exact wrapI (by omega)⟩), HS25.out, ?_⟩
  refine takeH (o := ?o27) 26 (.bool true) ?h27 ?r27
  case h27 => simp only [List.getElem?_toArray, List.getElem?_cons_succ, List.getElem?_cons_zero]; rfl
  refine ⟨_, by simp [Act.put]; rfl, by kernel_rfl, by kernel_rfl, by kernel_rfl, fun _ _ _ h => h, (.inl ⟨rfl, fun W _ => by go_simp⟩), HS25.out, ?_⟩
  refine takeH (o := ?o28) 27 (.bool true) ?h28 ?r28
  case h28 => simp only [List.getElem?_toArray, List.getElem?_cons_succ, List.getElem?_cons_zero]; rfl
  refine ⟨_, by simp [Act.put]; rfl, by kernel_rfl, by kernel_rfl, by kernel_rfl, fun _ _ _ h => h, (.inl ⟨rfl, fun W _ => by go_simp⟩), HS25.out, ?_⟩
  refine takeH (o := ?o29) 28 (.bool true) ?h29 ?r29
  case h29 => simp only [List.getElem?_toArray, List.getElem?_cons_succ, List.getElem?_cons_zero]; rfl
  refine ⟨_, by simp [Act.put]; rfl, by kernel_rfl, by kernel_rfl, by kernel_rfl, fun _ _ _ h => h, (.inl ⟨rfl, fun W _ => by go_simp⟩), HS25.out, ?_⟩
  refine takeH (o := ?o30) 29 (.agg #[.int .i64 z.key, .int .i64 z.window, .slice pz lz kz, .int .i64 z.sk.count, .int .i64 z.sk.sum, .int .i64 z.sk.min, .int .i64 z.sk.max, .slice e1 r1 f1, .slice e2 r2 f2, .slice e3 r3 f3]) ?h30 ?r30
  case h30 => simp only [List.getElem?_toArray, List.getElem?_cons_succ, List.getElem?_cons_zero]; rfl
  refine ⟨_, by simp [Act.put]; rfl, by kernel_rfl, by kernel_rfl, by kernel_rfl, fun _ _ _ h => h, (yields_whole 30 gx #[.int .i64 z.key, .int .i64 z.window, .slice pz lz kz, .int .i64 z.sk.count, .int .i64 z.sk.sum, .int .i64 z.sk.min, .int .i64 z.sk.max, .slice e1 r1 f1, .slice e2 r2 f2, .slice e3 r3 f3] 30 _ rfl rfl rfl Try.underlying30 rfl (by kernel_rfl) (fun W hW => hW.x.blk)), HS25.out, ?_⟩
  refine takeH (o := ?o31) 31 (.agg #[.int .i64 x.key, .int .i64 x.window, .slice pa la ka, .int .i64 x.sk.count, .int .i64 x.sk.sum, .int .i64 x.sk.min, .int .i64 x.sk.max, .slice a1 n1 c1, .slice a2 n2 c2, .slice a3 n3 c3]) ?h31 ?r31
  case h31 => simp only [List.getElem?_toArray, List.getElem?_cons_succ, List.getElem?_cons_zero]; rfl
  refine ⟨_, by simp [Act.put]; rfl, by kernel_rfl, by kernel_rfl, by kernel_rfl, fun _ _ _ h => h, (yields_whole 30 ga #[.int .i64 x.key, .int .i64 x.window, .slice pa la ka, .int .i64 x.sk.count, .int .i64 x.sk.sum, .int .i64 x.sk.min, .int .i64 x.sk.max, .slice a1 n1 c1, .slice a2 n2 c2, .slice a3 n3 c3] 30 _ rfl rfl rfl Try.underlying30 rfl (by kernel_rfl) (fun W hW => hW.a.blk)), HS25.out, ?_⟩
  refine takeH (o := ?o32) 33 (.agg #[.int .i64 y.key, .int .i64 y.window, .slice pb lb kb, .int .i64 y.sk.count, .int .i64 y.sk.sum, .int .i64 y.sk.min, .int .i64 y.sk.max, .slice b1 m1 d1, .slice b2 m2 d2, .slice b3 m3 d3]) ?h32 ?r32
  case h32 => simp only [List.getElem?_toArray, List.getElem?_cons_succ, List.getElem?_cons_zero]; rfl
  refine ⟨_, by simp [Act.put]; rfl, by kernel_rfl, by kernel_rfl, by kernel_rfl, fun _ _ _ h => h, (yields_whole 30 gb #[.int .i64 y.key, .int .i64 y.window, .slice pb lb kb, .int .i64 y.sk.count, .int .i64 y.sk.sum, .int .i64 y.sk.min, .int .i64 y.sk.max, .slice b1 m1 d1, .slice b2 m2 d2, .slice b3 m3 d3] 30 _ rfl rfl rfl Try.underlying30 rfl (by kernel_rfl) (fun W hW => hW.b.blk)), HS25.out, ?_⟩
  refine onlyH (o := ?o33) 30 (by kernel_rfl) ?h33 ?r33
  case h33 => simp only [List.getElem?_toArray, List.getElem?_cons_succ, List.getElem?_cons_zero]; rfl
  intro K hK
  refine op_call1 12 _ _ Try.f12 (fun v w' => v = .int .i64 tz ∧ Below y5.heap.size y5 w') rfl rfl Try.func12 (by kernel_rfl) (by kernel_rfl) ((entrySizeImpl_en _ z Xx Yx y5 HS25.out.x.rd HZW.out.1 (by have := HZW.out.2; omega)).mono (by rintro e w' ⟨rfl, h1⟩; exact ⟨_, rfl, by rw [HQ.out.2.2.2.2.1], h1⟩)) ?_
  rintro _ y6 ⟨rfl, bz⟩
  refine ⟨_, by simp [Act.put]; rfl, hK _ _ ⟨HS25.out.below bz, ?_⟩⟩
  have HS26 : Hid (AllS w ga #[.int .i64 x.key, .int .i64 x.window, .slice pa la ka, .int .i64 x.sk.count, .int .i64 x.sk.sum, .int .i64 x.sk.min, .int .i64 x.sk.max, .slice a1 n1 c1, .slice a2 n2 c2, .slice a3 n3 c3] x F G gb #[.int .i64 y.key, .int .i64 y.window, .slice pb lb kb, .int .i64 y.sk.count, .int .i64 y.sk.sum, .int .i64 y.sk.min, .int .i64 y.sk.max, .slice b1 m1 d1, .slice b2 m2 d2, .slice b3 m3 d3] y F' G' gx #[.int .i64 z.key, .int .i64 z.window, .slice pz lz kz, .int .i64 z.sk.count, .int .i64 z.sk.sum, .int .i64 z.sk.min, .int .i64 z.sk.max, .slice e1 r1 f1, .slice e2 r2 f2, .slice e3 r3 f3] z Xx Yx gy ey Xy Yy y6) := HS25.out.below bz
  clear hK bz HS25
  refine onlyH (o := ?o34) 32 (by kernel_rfl) ?h34 ?r34
  case h34 => simp only [List.getElem?_toArray, List.getElem?_cons_succ, List.getElem?_cons_zero]; rfl
  intro K hK
  refine op_call1 12 _ _ Try.f12 (fun v w' => v = .int .i64 tx ∧ Below y6.heap.size y6 w') rfl rfl Try.func12 (by kernel_rfl) (by kernel_rfl) ((entrySizeImpl_en _ x F G y6 HS26.out.a.rd HW.out.1 (by have := HW.out.2.2; omega)).mono (by rintro e w' ⟨rfl, h1⟩; exact ⟨_, rfl, by rw [HQ.out.2.2.2.2.2.1], h1⟩)) ?_
  rintro _ y7 ⟨rfl, bz⟩
  refine ⟨_, by simp [Act.put]; rfl, hK _ _ ⟨HS26.out.below bz, ?_⟩⟩
  have HS27 : Hid (AllS w ga #[.int .i64 x.key, .int .i64 x.window, .slice pa la ka, .int .i64 x.sk.count, .int .i64 x.sk.sum, .int .i64 x.sk.min, .int .i64 x.sk.max, .slice a1 n1 c1, .slice a2 n2 c2, .slice a3 n3 c3] x F G gb #[.int .i64 y.key, .int .i64 y.window, .slice pb lb kb, .int .i64 y.sk.count, .int .i64 y.sk.sum, .int .i64 y.sk.min, .int .i64 y.sk.max, .slice b1 m1 d1, .slice b2 m2 d2, .slice b3 m3 d3] y F' G' gx #[.int .i64 z.key, .int .i64 z.window, .slice pz lz kz, .int .i64 z.sk.count, .int .i64 z.sk.sum, .int .i64 z.sk.min, .int .i64 z.sk.max, .slice e1 r1 f1, .slice e2 r2 f2, .slice e3 r3 f3] z Xx Yx gy ey Xy Yy y7) := HS26.out.below bz
  clear hK bz HS26
  refine onlyH (o := ?o35) 34 (by kernel_rfl) ?h35 ?r35
  case h35 => simp only [List.getElem?_toArray, List.getElem?_cons_succ, List.getElem?_cons_zero]; rfl
  intro K hK
  refine op_call1 12 _ _ Try.f12 (fun v w' => v = .int .i64 ty ∧ Below y7.heap.size y7 w') rfl rfl Try.func12 (by kernel_rfl) (by kernel_rfl) ((entrySizeImpl_en _ y F' G' y7 HS27.out.b.rd HW.out.2.1 (by have := HW.out.2.2; omega)).mono (by rintro e w' ⟨rfl, h1⟩; exact ⟨_, rfl, by rw [HQ.out.2.2.2.2.2.2], h1⟩)) ?_
  rintro _ y8 ⟨rfl, bz⟩
  refine ⟨_, by simp [Act.put]; rfl, hK _ _ ⟨HS27.out.below bz, ?_⟩⟩
  have HS28 : Hid (AllS w ga #[.int .i64 x.key, .int .i64 x.window, .slice pa la ka, .int .i64 x.sk.count, .int .i64 x.sk.sum, .int .i64 x.sk.min, .int .i64 x.sk.max, .slice a1 n1 c1, .slice a2 n2 c2, .slice a3 n3 c3] x F G gb #[.int .i64 y.key, .int .i64 y.window, .slice pb lb kb, .int .i64 y.sk.count, .int .i64 y.sk.sum, .int .i64 y.sk.min, .int .i64 y.sk.max, .slice b1 m1 d1, .slice b2 m2 d2, .slice b3 m3 d3] y F' G' gx #[.int .i64 z.key, .int .i64 z.window, .slice pz lz kz, .int .i64 z.sk.count, .int .i64 z.sk.sum, .int .i64 z.sk.min, .int .i64 z.sk.max, .slice e1 r1 f1, .slice e2 r2 f2, .slice e3 r3 f3] z Xx Yx gy ey Xy Yy y8) := HS27.out.below bz
  clear hK bz HS27
  refine takeH (o := ?o36) 35 (.int .i64 (tx + ty)) ?h36 ?r36
  case h36 => simp only [List.getElem?_toArray, List.getElem?_cons_succ, List.getElem?_cons_zero]; rfl
  refine ⟨_, by simp [Act.put]; rfl, by kernel_rfl, by kernel_rfl, by kernel_rfl, fun _ _ _ h => h, (.inl ⟨rfl, fun W _ => by go_simp; exact wrapI (by omega)⟩), HS28.out, ?_⟩
  refine takeH (o := ?o37) 36 (.bool true) ?h37 ?r37
  case h37 => simp only [List.getElem?_toArray, List.getElem?_cons_succ, List.getElem?_cons_zero]; rfl
  refine ⟨_, by simp [Act.put]; rfl, by kernel_rfl, by kernel_rfl, by kernel_rfl, fun _ _ _ h => h, (.inl ⟨rfl, fun W _ => by go_simp⟩), HS28.out, ?_⟩
  refine takeH (o := ?o38) 37 (.bool true) ?h38 ?r38
  case h38 => simp only [List.getElem?_toArray, List.getElem?_cons_succ, List.getElem?_cons_zero]; rfl
  refine ⟨_, by simp [Act.put]; rfl, by kernel_rfl, by kernel_rfl, by kernel_rfl, fun _ _ _ h => h, (.inl ⟨rfl, fun W _ => by go_simp⟩), HS28.out, ?_⟩
  refine takeH (o := ?o39) 38 (.bool true) ?h39 ?r39
  case h39 => simp only [List.getElem?_toArray, List.getElem?_cons_succ, List.getElem?_cons_zero]; rfl
  refine ⟨_, by simp [Act.put]; rfl, by kernel_rfl, by kernel_rfl, by kernel_rfl, fun _ _ _ h => h, (.inl ⟨rfl, fun W _ => by go_simp⟩), HS28.out, ?_⟩
  refine takeH (o := ?o40) 39 (.pointer (some ⟨gx, 3, none⟩)) ?h40 ?r40
  case h40 => simp only [List.getElem?_toArray, List.getElem?_cons_succ, List.getElem?_cons_zero]; rfl
  refine ⟨_, by simp [Act.put]; rfl, by kernel_rfl, by kernel_rfl, by kernel_rfl, fun _ _ _ h => h, (.inl ⟨rfl, fun W _ => by go_simp⟩), HS28.out, ?_⟩
  refine takeH (o := ?o41) 40 (.pointer (some ⟨gx, 3, none⟩)) ?h41 ?r41
  case h41 => simp only [List.getElem?_toArray, List.getElem?_cons_succ, List.getElem?_cons_zero]; rfl
  refine ⟨_, by simp [Act.put]; rfl, by kernel_rfl, by kernel_rfl, by kernel_rfl, fun _ _ _ h => h, (.inl ⟨rfl, fun W _ => by go_simp⟩), HS28.out, ?_⟩
  refine takeH (o := ?o42) 41 (.int .i64 z.sk.count) ?h42 ?r42
  case h42 => simp only [List.getElem?_toArray, List.getElem?_cons_succ, List.getElem?_cons_zero]; rfl
  refine ⟨_, by simp [Act.put]; rfl, by kernel_rfl, by kernel_rfl, by kernel_rfl, fun _ _ _ h => h, (.inl ⟨rfl, fun W hW => by have c := hW.x.blk.cell 3; simp only [List.getElem?_toArray, List.getElem?_cons_succ, List.getElem?_cons_zero] at c; go_simp⟩), HS28.out, ?_⟩
  refine takeH (o := ?o43) 42 (.pointer (some ⟨ga, 3, none⟩)) ?h43 ?r43
  case h43 => simp only [List.getElem?_toArray, List.getElem?_cons_succ, List.getElem?_cons_zero]; rfl
  refine ⟨_, by simp [Act.put]; rfl, by kernel_rfl, by kernel_rfl, by kernel_rfl, fun _ _ _ h => h, (.inl ⟨rfl, fun W _ => by go_simp⟩), HS28.out, ?_⟩
  refine takeH (o := ?o44) 43 (.pointer (some ⟨ga, 3, none⟩)) ?h44 ?r44
  case h44 => simp only [List.getElem?_toArray, List.getElem?_cons_succ, List.getElem?_cons_zero]; rfl
  refine ⟨_, by simp [Act.put]; rfl, by kernel_rfl, by kernel_rfl, by kernel_rfl, fun _ _ _ h => h, (.inl ⟨rfl, fun W _ => by go_simp⟩), HS28.out, ?_⟩
  refine takeH (o := ?o45) 44 (.int .i64 x.sk.count) ?h45 ?r45
  case h45 => simp only [List.getElem?_toArray, List.getElem?_cons_succ, List.getElem?_cons_zero]; rfl
  refine ⟨_, by simp [Act.put]; rfl, by kernel_rfl, by kernel_rfl, by kernel_rfl, fun _ _ _ h => h, (.inl ⟨rfl, fun W hW => by have c := hW.a.blk.cell 3; simp only [List.getElem?_toArray, List.getElem?_cons_succ, List.getElem?_cons_zero] at c; go_simp⟩), HS28.out, ?_⟩
  refine takeH (o := ?o46) 45 (.bool true) ?h46 ?r46
  case h46 => simp only [List.getElem?_toArray, List.getElem?_cons_succ, List.getElem?_cons_zero]; rfl
  refine ⟨_, by simp [Act.put]; rfl, by kernel_rfl, by kernel_rfl, by kernel_rfl, fun _ _ _ h => h, (.inl ⟨rfl, fun W _ => by go_simp⟩), HS28.out, ?_⟩
  refine takeH (o := ?o47) 46 (.bool true) ?h47 ?r47
  case h47 => simp only [List.getElem?_toArray, List.getElem?_cons_succ, List.getElem?_cons_zero]; rfl
  refine ⟨_, by simp [Act.put]; rfl, by kernel_rfl, by kernel_rfl, by kernel_rfl, fun _ _ _ h => h, (.inl ⟨rfl, fun W _ => by go_simp⟩), HS28.out, ?_⟩
  refine takeH (o := ?o48) 47 (.bool true) ?h48 ?r48
  case h48 => simp only [List.getElem?_toArray, List.getElem?_cons_succ, List.getElem?_cons_zero]; rfl
  refine ⟨_, by simp [Act.put]; rfl, by kernel_rfl, by kernel_rfl, by kernel_rfl, fun _ _ _ h => h, (.inl ⟨rfl, fun W _ => by go_simp⟩), HS28.out, ?_⟩
  refine wpAnyH_done (by kernel_rfl) ?_ _
  go_wp2
  go_ret
  exact ⟨rfl, HS28.out.bel⟩

set_option maxRecDepth 100000 in
theorem lifted (os : Os) (started : os.Started) (H : Type) (enc : TypeId × Value → H) :
    ReturnsInHanded {} Try.checked os 3 .any (Rows.fnEntriesSpec.pre6 enc Try.prog Try.f3 Rows.fnEntriesRow.domain false) (Rows.fnEntriesSpec.post enc Try.prog Try.f3 false true false false) := by
  refine returnsInHanded_of_change (C := Try.checked) own started (by kernel_rfl) Try.func3
    (ChangeSpec.witness6 (enc := enc) (C := Try.checked) false ⟨#[], #[.slice none 0 0], []⟩ 8 (by kernel_rfl) (by kernel_rfl) (by kernel_rfl) (by kernel_rfl)) ?_
  intro W base args ds gs before hval0 hW hcnd _
  have hval : ∀ (j : Nat) t v, Try.f3.params[j]? = some t → args[j]? = some v → Value.okWide Try.prog W .any base t v := hval0
  have hW' := hW
  obtain ⟨p, q, hA0, hV, rfl, hfz, hnd⟩ := hW
  have hA : DataW.TrodAll enc Try.prog W 0 (fun _ => true) true Try.f3.params.toList args.toList ds p := hA0
  rw [Try.params3] at hA hval
  obtain ⟨v0, vs0, d0, ds0, p0, q0, hargs, rfl, rfl, h0, r0⟩ := trodAll_cons hA
  obtain ⟨rfl, rfl, rfl⟩ := trodAll_nil r0
  obtain rfl : args = #[v0] := by cases args; simp_all
  obtain ⟨rfl, rfl⟩ := trodVars_none hV
  obtain ⟨a0, len0, cap0, rfl⟩ := okWide_slice Try.underlying22 (hval 0 22 v0 rfl rfl)
  have k0 := h0
  have lt0 : ∀ x ∈ p0, x.block < W.heap.size := by obtain ⟨m, hm⟩ := k0; exact DataW.trod_lt m _ _ _ hm
  obtain ⟨z0, w0⟩ : ∃ zs, IsRow .u8 W a0 len0 cap0 zs := by
    obtain ⟨fuel, hf⟩ := h0
    rcases open_ints Try.underlying22 Try.underlying5 (by kernel_rfl) hf with ⟨hcs, _⟩ | ⟨x, l, c, zs, hcs, _, hl, hm, hz, _, hcell, hwz⟩
    · simp [Value.cells] at hcs
      obtain ⟨rfl, rfl, rfl⟩ := hcs
      exact ⟨[], .inl ⟨rfl, rfl, rfl, rfl⟩⟩
    · simp [Value.cells] at hcs
      obtain ⟨rfl, rfl, rfl⟩ := hcs
      exact ⟨zs, .inr ⟨_, rfl, hl, hm, by simpa using hz, hcell, hwz⟩⟩
  clear hA0 hval0
  refine (walk a0 len0 cap0 z0 W w0).mono fun e W' ⟨he, bel⟩ => ?_
  subst he
  exact ⟨_, rfl, _, _, _, [], _, [], hW', trodAll_mk1 (shut_bool Try.underlying4 _), (trodAll_cons_mk (Below.trod laidOut (by kernel_rfl) (of_decide_eq_true (by kernel_rfl)) k0 bel lt0) trodAll_mk0), rfl, bel.frame _, fun h => by cases h⟩

theorem over : Rows.fnEntriesRow.holds Try.pinned (OpenSpec.ofChange Rows.fnEntriesSpec) :=
  OpenClaim.holds_of_wide 3 Try.f3 rfl rfl rfl rfl rfl rfl rfl ⟨rfl, rfl, rfl, rfl, rfl⟩ rfl rfl rfl rfl rfl (by kernel_rfl) Try.func3 (by kernel_rfl)
    (of_decide_eq_true (by kernel_rfl)) (by unfold Func.isWrapper; first | (rw [if_pos (by decide +kernel)]; kernel_rfl) | (rw [if_neg (by decide +kernel)]; exact ⟨rfl, rfl⟩))
    (fun os started H enc _ => lifted os started H enc)

theorem proved : Rows.FnEntriesSaid := over
#print axioms proved
end Go.Proofs.Ytbmbmnhamogghab.fnEntries
