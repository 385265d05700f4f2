/- Two rows of numbers of the program's own kind, added up. No statement of the seat is proved here. -/
import Derived.Test.YtjnamoppcklomaaGreatTallyD
import Derived.Test.YtjnamoppcklomaaGreatB2
import Derived.Deep.DeepCutAuto
set_option maxRecDepth 200000
set_option maxHeartbeats 16000000
namespace Go.Proofs.YtjnamoppcklomaaGreat
open Go.RowKit
theorem ret_pair {a b c d : Int} (h1 : a = c) (h2 : b = d) : Ending.returned (.tuple #[.int .i64 a, .int .i64 b]) = .returned (.tuple #[.int .i64 c, .int .i64 d]) := by rw [h1, h2]
def endsN (xs ys : List Int) : Int × Int := if xs.getD 0 0 = 0 then (ys.getD 2 0, ys.getD 3 0) else if ys.getD 0 0 = 0 then (xs.getD 2 0, xs.getD 3 0) else (min (xs.getD 2 0) (ys.getD 2 0), max (xs.getD 3 0) (ys.getD 3 0))
theorem ends_any (xs ys : List Int) (w : World) (hx : xs.length = 28) (hy : ys.length = 28) :
 Calls Tryz.prog 147 #[.agg (tc xs), .agg (tc ys)] w fun e w' => e = .returned (.tuple #[.int .i64 (endsN xs ys).1, .int .i64 (endsN xs ys).2]) ∧ Below w.heap.size w w' := by
 have HT : Hid (_ ∧ _ ∧ _) := two_made w (tc xs) (tc ys) 118 118
 obtain ⟨x0, hx0⟩ : ∃ x, x = xs.getD 0 0 := ⟨_, rfl⟩
 obtain ⟨x2, hx2⟩ : ∃ x, x = xs.getD 2 0 := ⟨_, rfl⟩
 obtain ⟨x3, hx3⟩ : ∃ x, x = xs.getD 3 0 := ⟨_, rfl⟩
 obtain ⟨y0, hy0⟩ : ∃ x, x = ys.getD 0 0 := ⟨_, rfl⟩
 obtain ⟨y2, hy2⟩ : ∃ x, x = ys.getD 2 0 := ⟨_, rfl⟩
 obtain ⟨y3, hy3⟩ : ∃ x, x = ys.getD 3 0 := ⟨_, rfl⟩
 have a0 : (tc xs)[0]? = some (.int .i64 x0) := by rw [hx0]; exact tc_get (by omega)
 have a2 : (tc xs)[2]? = some (.int .i64 x2) := by rw [hx2]; exact tc_get (by omega)
 have a3 : (tc xs)[3]? = some (.int .i64 x3) := by rw [hx3]; exact tc_get (by omega)
 have b0 : (tc ys)[0]? = some (.int .i64 y0) := by rw [hy0]; exact tc_get (by omega)
 have b2 : (tc ys)[2]? = some (.int .i64 y2) := by rw [hy2]; exact tc_get (by omega)
 have b3 : (tc ys)[3]? = some (.int .i64 y3) := by rw [hy3]; exact tc_get (by omega)
 have HE : Hid (endsN xs ys = if x0 = 0 then (y2, y3) else if y0 = 0 then (x2, x3) else (min x2 y2, max x3 y3)) := by
  show _ = _
  unfold endsN; rw [hx0, hx2, hx3, hy0, hy2, hy3]
 clear hx hy hx0 hx2 hx3 hy0 hy2 hy3
 go_enter Tryz.func147, Tryz.ntmps147
 by_cases q0 : x0 = 0
 ·
  have q0' : (x0 == 0) = true := by simpa using q0
  have HV : Hid (endsN xs ys = (y2, y3)) := by show _ = _; rw [HE.out, if_pos q0]
  clear q0
  go_wp2
  go_region
  all_goals
   go_wp2
   go_ret2
   exact ⟨by rw [HV.out]; rfl, HT.out.2.2.drew⟩
 have q0' : (x0 == 0) = false := by simpa using q0
 have Q0 : Hid (¬ x0 = 0) := q0
 clear q0
 by_cases q1 : y0 = 0
 ·
  have q1' : (y0 == 0) = true := by simpa using q1
  have HV : Hid (endsN xs ys = (x2, x3)) := by show _ = _; rw [HE.out, if_neg Q0.out, if_pos q1]
  clear q1
  go_wp2
  go_region
  all_goals
   go_wp2
   go_ret2
   exact ⟨by rw [HV.out]; rfl, HT.out.2.2.drew⟩
 have q1' : (y0 == 0) = false := by simpa using q1
 have HV : Hid ((endsN xs ys).1 = min x2 y2 ∧ (endsN xs ys).2 = max x3 y3) := by show _ ∧ _; rw [HE.out, if_neg Q0.out, if_neg q1]; exact ⟨rfl, rfl⟩
 clear q1
 go_wp2
 go_region
 all_goals go_wp2
 all_goals
  go_ret2
  refine ⟨?_, HT.out.2.2.drew⟩
  rw [HV.out.1, HV.out.2]
  exact ret_pair (by omega) (by omega)
def plusAt (xs ys : List Int) (i : Nat) : Int := if i < 12 then addN (xs.getD i 0) (ys.getD i 0) else if i < 20 then max (xs.getD i 0) (ys.getD i 0) else addN (xs.getD i 0) (ys.getD i 0)
def plusHead (xs ys : List Int) (i : Nat) : Int := if i = 0 then addN (xs.getD 0 0) (ys.getD 0 0) else if i = 1 then addN (xs.getD 1 0) (ys.getD 1 0) else if i = 2 then (endsN xs ys).1 else (endsN xs ys).2
def plusUpto (xs ys : List Int) (m i : Nat) : Int := if i < 4 then plusHead xs ys i else if i < m then plusAt xs ys i else 0
def plusL (xs ys : List Int) (m : Nat) : List Int := (List.range 28).map (plusUpto xs ys m)
theorem plusL_length (xs ys : List Int) (m : Nat) : (plusL xs ys m).length = 28 := by simp [plusL]
theorem plusL_set (xs ys : List Int) (m : Nat) (h4 : 4 ≤ m) (_h : m < 28) : (plusL xs ys m).set m (plusAt xs ys m) = plusL xs ys (m + 1) := by
 apply List.ext_getElem
 ·
  simp [plusL]
 ·
  intro i h1 h2
  simp only [plusL, List.getElem_set, List.getElem_map, List.getElem_range]
  unfold plusUpto
  split
  ·
   rename_i e
   subst e
   rw [if_neg (by omega), if_pos (by omega)]
  ·
   rename_i e
   split
   ·
    rfl
   ·
    by_cases q : i < m
    ·
     rw [if_pos q, if_pos (by omega)]
    ·
     rw [if_neg q, if_neg (by omega)]
structure PlusMid (w : World) (xs ys : List Int) (g : Nat) (zs : List Int) (W : World) : Prop where
 fst : Blk W w.heap.size (tc xs) 118
 snd : Blk W (w.heap.size + 1) (tc ys) 118
 res : Blk W (w.heap.size + 1 + 1) (tc (List.replicate 28 0)) 118
 out : Blk W g (tc zs) 118
 ge : w.heap.size + 1 + 1 < g
 bel : Below w.heap.size w W
theorem tc_set (zs : List Int) (j : Nat) (n : Int) : (tc zs).setIfInBounds j (.int .i64 n) = tc (zs.set j n) := by
 apply Array.ext'
 simp [tc, List.map_set]
theorem PlusMid.set {w : World} {xs ys : List Int} {g : Nat} {zs : List Int} {W : World} (h : PlusMid w xs ys g zs W) (j : Nat) (n : Int) : PlusMid w xs ys g (zs.set j n) (W.setCell ⟨g, j, none⟩ (.int .i64 n)) :=
 ⟨h.fst.setOther (by have := h.ge; omega) _ _, h.snd.setOther (by have := h.ge; omega) _ _, h.res.setOther (by have := h.ge; omega) _ _, by have := h.out.set j (.int .i64 n); rw [tc_set] at this; exact this, h.ge, h.bel.setCell (by have := h.ge; show w.heap.size ≤ g; omega) _⟩
theorem PlusMid.drew {w : World} {xs ys : List Int} {g : Nat} {zs : List Int} {W : World} (h : PlusMid w xs ys g zs W) : PlusMid w xs ys g zs W.drew := ⟨h.fst, h.snd, h.res, h.out, h.ge, h.bel.drew⟩
theorem PlusMid.cells {w : World} {xs ys : List Int} {g : Nat} {zs : List Int} {W : World} (h : PlusMid w xs ys g zs W) (hx : xs.length = 28) (hy : ys.length = 28) (hz : zs.length = 28) (j : Nat) (hj : j < 28) :
 W.cell? ⟨w.heap.size, j, none⟩ = some (.int .i64 (xs.getD j 0)) ∧ W.cell? ⟨w.heap.size + 1, j, none⟩ = some (.int .i64 (ys.getD j 0)) ∧ (∃ v, W.cell? ⟨g, j, none⟩ = some v) ∧ W.frozen? ⟨g, j, none⟩ = false :=
 ⟨by rw [h.fst.cell]; exact tc_get (by omega), by rw [h.snd.cell]; exact tc_get (by omega), ⟨_, by rw [h.out.cell]; exact tc_get (by omega)⟩, h.out.frozen j⟩
theorem three_made (w : World) (A B C : Array Value) (tA tB tC : TypeId) : Blk (((w.alloc (.cells A tA)).alloc (.cells B tB)).alloc (.cells C tC)) w.heap.size A tA ∧ Blk (((w.alloc (.cells A tA)).alloc (.cells B tB)).alloc (.cells C tC)) (w.heap.size + 1) B tB ∧ Blk (((w.alloc (.cells A tA)).alloc (.cells B tB)).alloc (.cells C tC)) (w.heap.size + 1 + 1) C tC ∧ Below w.heap.size w (((w.alloc (.cells A tA)).alloc (.cells B tB)).alloc (.cells C tC)) :=
 ⟨((Blk.made _ _ _).alloc _).alloc _, (Blk.made_eq (by simp)).alloc _, Blk.made_eq (by simp), Below.allocW _ (Below.allocW _ (Below.allocW _ (Below.refl _ _) (Nat.le_refl _)) (Nat.le_refl _)) (Nat.le_refl _)⟩
theorem PlusMid.below {w : World} {xs ys : List Int} {g : Nat} {zs : List Int} {W W' : World} (h : PlusMid w xs ys g zs W) (b : Below W.heap.size W W') : PlusMid w xs ys g zs W' := ⟨h.fst.below b, h.snd.below b, h.res.below b, h.out.below b, h.ge, Below.next h.bel b⟩
def PlusS (w : World) (xs ys : List Int) (g : Nat) (W : World) : Prop := ∃ zs : List Int, zs.length = 28 ∧ PlusMid w xs ys g zs W
def PlusHeld (w : World) (xs ys : List Int) (W : World) : Prop := Blk W w.heap.size (tc xs) 118 ∧ Blk W (w.heap.size + 1) (tc ys) 118
theorem plus_any (xs ys : List Int) (w : World) (hx : xs.length = 28) (hy : ys.length = 28) :
 Calls Tryz.prog 104 #[.agg (tc xs), .agg (tc ys)] w fun e w' => e = .returned (.agg (tc (plusL xs ys 28))) ∧ Below w.heap.size w w' := by
 have HL : Hid (xs.length = 28 ∧ ys.length = 28) := ⟨hx, hy⟩
 obtain ⟨x0, hx0⟩ : ∃ x, x = xs.getD 0 0 := ⟨_, rfl⟩
 obtain ⟨x1, hx1⟩ : ∃ x, x = xs.getD 1 0 := ⟨_, rfl⟩
 obtain ⟨y0, hy0⟩ : ∃ x, x = ys.getD 0 0 := ⟨_, rfl⟩
 obtain ⟨y1, hy1⟩ : ∃ x, x = ys.getD 1 0 := ⟨_, rfl⟩
 have HX : Hid (x0 = xs.getD 0 0 ∧ x1 = xs.getD 1 0 ∧ y0 = ys.getD 0 0 ∧ y1 = ys.getD 1 0) := ⟨hx0, hx1, hy0, hy1⟩
 have HC : Hid (∀ W, PlusHeld w xs ys W → W.cell? ⟨w.heap.size, 0, none⟩ = some (.int .i64 x0) ∧ W.cell? ⟨w.heap.size, 1, none⟩ = some (.int .i64 x1) ∧ W.cell? ⟨w.heap.size + 1, 0, none⟩ = some (.int .i64 y0) ∧ W.cell? ⟨w.heap.size + 1, 1, none⟩ = some (.int .i64 y1)) := fun W h =>
  ⟨by rw [h.1.cell, hx0]; exact tc_get (by omega), by rw [h.1.cell, hx1]; exact tc_get (by omega), by rw [h.2.cell, hy0]; exact tc_get (by omega), by rw [h.2.cell, hy1]; exact tc_get (by omega)⟩
 clear hx hy hx0 hx1 hy0 hy1
 have HT : Hid (_ ∧ _ ∧ _ ∧ _) := three_made w (tc xs) (tc ys) (tc (List.replicate 28 0)) 118 118 118
 go_enter Tryz.func104, Tryz.ntmps104
 go_upto_region 1 with fail
 obtain ⟨W0, hW0⟩ : ∃ W0, W0 = ((w.alloc (.cells (tc xs) 118)).alloc (.cells (tc ys) 118)).alloc (.cells (tc (List.replicate 28 0)) 118) := ⟨_, rfl⟩
 rw [← hW0] at HT
 change Code.wp _ _ _ _ (((w.alloc (.cells (tc xs) 118)).alloc (.cells (tc ys) 118)).alloc (.cells (tc (List.replicate 28 0)) 118))
 rw [← hW0]
 clear hW0
 go_cut [5] (fun s5 wx => ∃ g, s5 = .pointer (some ⟨g, 0, none⟩) ∧ PlusMid w xs ys g ([addN x0 y0, addN x1 y1] ++ List.replicate 26 0) wx)
 case first =>
  have HS : Hid (PlusHeld w xs ys W0.drew) := ⟨HT.out.1.drew, HT.out.2.1.drew⟩
  have HM : Hid (PlusMid w xs ys W0.heap.size ([addN x0 y0, addN x1 y1] ++ List.replicate 26 0) ((W0.drew.alloc (.cells (tc (List.replicate 28 0)) 118)).setRow W0.heap.size (tc ([addN x0 y0, addN x1 y1] ++ List.replicate 26 0))) ∧ PlusHeld w xs ys (W0.drew.alloc (.cells (tc (List.replicate 28 0)) 118)) ∧ PlusHeld w xs ys ((W0.drew.alloc (.cells (tc (List.replicate 28 0)) 118)).setRow W0.heap.size (tc ([addN x0 y0, addN x1 y1] ++ List.replicate 26 0)))) := by
   have l2 := HT.out.2.2.1.lt
   have c1 := HT.out.1.drew.alloc (.cells (tc (List.replicate 28 0)) 118)
   have c2 := HT.out.2.1.drew.alloc (.cells (tc (List.replicate 28 0)) 118)
   have c3 := HT.out.2.2.1.drew.alloc (.cells (tc (List.replicate 28 0)) 118)
   have c4 : Blk (W0.drew.alloc (.cells (tc (List.replicate 28 0)) 118)) W0.heap.size (tc (List.replicate 28 0)) 118 := Blk.made W0.drew _ _
   have c5 := Below.allocW (.cells (tc (List.replicate 28 0)) 118) HT.out.2.2.2.drew (Nat.le_refl _)
   exact ⟨⟨c1.setRowOther (by omega), c2.setRowOther (by omega), c3.setRowOther (by omega), c4.setRow, l2, below_setRow c5 (by omega) _⟩, ⟨c1, c2⟩, ⟨c1.setRowOther (by omega), c2.setRowOther (by omega)⟩⟩
  refine wp_region_held (S := PlusHeld w xs ys) (by kernel_rfl) ?_
  change wpAnyH _ _ _ _ _ _ _ _ (World.drew _)
  refine tg 0 (.pointer (some ⟨w.heap.size, 0, none⟩)) (H := ⟨HS.out, ?_⟩)
  refine tk 1 (.int .i64 x0) (H := ⟨(.inl ⟨rfl, fun W hW => by have c := (HC.out W hW).1; go_simp⟩), HS.out, ?_⟩)
  refine tg 2 (.pointer (some ⟨w.heap.size + 1, 0, none⟩)) (H := ⟨HS.out, ?_⟩)
  refine tk 3 (.int .i64 y0) (H := ⟨(.inl ⟨rfl, fun W hW => by have c := (HC.out W hW).2.2.1; go_simp⟩), HS.out, ?_⟩)
  refine tg 5 (.pointer (some ⟨w.heap.size, 1, none⟩)) (H := ⟨HS.out, ?_⟩)
  refine tk 6 (.int .i64 x1) (H := ⟨(.inl ⟨rfl, fun W hW => by have c := (HC.out W hW).2.1; go_simp⟩), HS.out, ?_⟩)
  refine tg 7 (.pointer (some ⟨w.heap.size + 1, 1, none⟩)) (H := ⟨HS.out, ?_⟩)
  refine tk 8 (.int .i64 y1) (H := ⟨(.inl ⟨rfl, fun W hW => by have c := (HC.out W hW).2.2.2; go_simp⟩), HS.out, ?_⟩)
  refine twoH (o := ?o9) (o' := ?p9) 4 11 (by kernel_rfl) ?h9 ?g9 ?r9 ?s9
  case h9 => simp only [aT, aS, aZ]; rfl
  case g9 => simp only [aT, aS, aZ]; rfl
  case r9 =>
   intro K hK
   refine op_call2 146 _ _ _ Tryz.f146 (fun w' => w' = W0.drew) (.int .i64 (addN x0 y0)) rfl rfl Tryz.func146 (by kernel_rfl) (by kernel_rfl) (addImpl_any x0 y0 _) ⟨_, by simp [Act.put]; rfl, ?_⟩
   rintro _ rfl
   refine hK _ _ ⟨HS.out, ?_⟩
   clear hK
   refine twoH (o := ?o10) (o' := ?p10) 9 11 (by kernel_rfl) ?h10 ?g10 ?r10 ?s10
   case h10 => simp only [aT, aS, aZ]; rfl
   case g10 => simp only [aT, aS, aZ]; rfl
   case r10 =>
    intro K hK
    refine op_call2 146 _ _ _ Tryz.f146 (fun w' => w' = W0.drew) (.int .i64 (addN x1 y1)) rfl rfl Tryz.func146 (by kernel_rfl) (by kernel_rfl) (addImpl_any x1 y1 _) ⟨_, by simp [Act.put]; rfl, ?_⟩
    rintro _ rfl
    refine hK _ _ ⟨HS.out, ?_⟩
    clear hK
    refine tk 10 (.agg (tc ([addN x0 y0, addN x1 y1] ++ List.replicate 26 0))) (H := ⟨(.inl ⟨rfl, fun W _ => by go_simp; rfl⟩), HS.out, ?_⟩)
    refine oq 11 (H := fun K hK => ?_)
    refine op_turn (.pointer (some ⟨W0.heap.size, 0, none⟩)) (W0.drew.alloc (.cells (tc (List.replicate 28 0)) 118)) rfl (by go_simp; rfl) (pk (h := hK _ _ ⟨HM.out.2.1, ?_⟩))
    clear hK
    refine oq 12 (H := fun K hK => ?_)
    refine op_store 118 W0.heap.size (tc (List.replicate 28 0)) (tc ([addN x0 y0, addN x1 y1] ++ List.replicate 26 0)) 118 rfl rfl rfl rfl (Blk.made W0.drew _ _) (tallySize rfl) rfl (tc_one _) (pk (h := hK _ _ ⟨HM.out.2.2, ?_⟩))
    clear hK
    refine wpAnyH_done (by kernel_rfl) ?_ _
    go_wp2_with fail
    go_meet
    case rel => exact ⟨W0.heap.size, rfl, HM.out.1⟩
   case s10 =>
    intro K hK
    refine op_turn (.pointer (some ⟨W0.heap.size, 0, none⟩)) (W0.drew.alloc (.cells (tc (List.replicate 28 0)) 118)) rfl (by go_simp; rfl) (pk (h := hK _ _ ⟨HM.out.2.1, ?_⟩))
    clear hK
    refine oq 9 (H := fun K hK => ?_)
    refine op_call2 146 _ _ _ Tryz.f146 (fun w' => w' = (W0.drew.alloc (.cells (tc (List.replicate 28 0)) 118))) (.int .i64 (addN x1 y1)) rfl rfl Tryz.func146 (by kernel_rfl) (by kernel_rfl) (addImpl_any x1 y1 _) ⟨_, by simp [Act.put]; rfl, ?_⟩
    rintro _ rfl
    refine hK _ _ ⟨HM.out.2.1, ?_⟩
    clear hK
    refine tk 10 (.agg (tc ([addN x0 y0, addN x1 y1] ++ List.replicate 26 0))) (H := ⟨(.inl ⟨rfl, fun W _ => by go_simp; rfl⟩), HM.out.2.1, ?_⟩)
    refine oq 12 (H := fun K hK => ?_)
    refine op_store 118 W0.heap.size (tc (List.replicate 28 0)) (tc ([addN x0 y0, addN x1 y1] ++ List.replicate 26 0)) 118 rfl rfl rfl rfl (Blk.made W0.drew _ _) (tallySize rfl) rfl (tc_one _) (pk (h := hK _ _ ⟨HM.out.2.2, ?_⟩))
    clear hK
    refine wpAnyH_done (by kernel_rfl) ?_ _
    go_wp2_with fail
    go_meet
    case rel => exact ⟨W0.heap.size, rfl, HM.out.1⟩
  case s9 =>
   intro K hK
   refine op_turn (.pointer (some ⟨W0.heap.size, 0, none⟩)) (W0.drew.alloc (.cells (tc (List.replicate 28 0)) 118)) rfl (by go_simp; rfl) (pk (h := hK _ _ ⟨HM.out.2.1, ?_⟩))
   clear hK
   refine oq 4 (H := fun K hK => ?_)
   refine op_call2 146 _ _ _ Tryz.f146 (fun w' => w' = (W0.drew.alloc (.cells (tc (List.replicate 28 0)) 118))) (.int .i64 (addN x0 y0)) rfl rfl Tryz.func146 (by kernel_rfl) (by kernel_rfl) (addImpl_any x0 y0 _) ⟨_, by simp [Act.put]; rfl, ?_⟩
   rintro _ rfl
   refine hK _ _ ⟨HM.out.2.1, ?_⟩
   clear hK
   refine oq 9 (H := fun K hK => ?_)
   refine op_call2 146 _ _ _ Tryz.f146 (fun w' => w' = (W0.drew.alloc (.cells (tc (List.replicate 28 0)) 118))) (.int .i64 (addN x1 y1)) rfl rfl Tryz.func146 (by kernel_rfl) (by kernel_rfl) (addImpl_any x1 y1 _) ⟨_, by simp [Act.put]; rfl, ?_⟩
   rintro _ rfl
   refine hK _ _ ⟨HM.out.2.1, ?_⟩
   clear hK
   refine tk 10 (.agg (tc ([addN x0 y0, addN x1 y1] ++ List.replicate 26 0))) (H := ⟨(.inl ⟨rfl, fun W _ => by go_simp; rfl⟩), HM.out.2.1, ?_⟩)
   refine oq 12 (H := fun K hK => ?_)
   refine op_store 118 W0.heap.size (tc (List.replicate 28 0)) (tc ([addN x0 y0, addN x1 y1] ++ List.replicate 26 0)) 118 rfl rfl rfl rfl (Blk.made W0.drew _ _) (tallySize rfl) rfl (tc_one _) (pk (h := hK _ _ ⟨HM.out.2.2, ?_⟩))
   clear hK
   refine wpAnyH_done (by kernel_rfl) ?_ _
   go_wp2_with fail
   go_meet
   case rel => exact ⟨W0.heap.size, rfl, HM.out.1⟩
 case rest =>
  obtain ⟨g, rfl, hmid⟩ := hcut
  have HM0 : Hid (PlusMid w xs ys g ([addN x0 y0, addN x1 y1] ++ List.replicate 26 0) wc) := hmid
  clear hmid HC
  go_wp2_with (first | go_skip | (with_reducible refine stopLoad 118 rfl ?_))
  refine load_known 118 w.heap.size (tc xs) 118 _ HM0.out.fst rfl rfl rfl Tryz.underlying118 rfl (tallySize HL.out.1) ?_
  go_wp2_with (first | go_skip | (with_reducible refine stopLoad 118 rfl ?_))
  refine load_known 118 (w.heap.size + 1) (tc ys) 118 _ HM0.out.snd rfl rfl rfl Tryz.underlying118 rfl (tallySize HL.out.2) ?_
  go_wp2_with fail
  refine (ends_any xs ys _ HL.out.1 HL.out.2).mono ?_
  rintro e W2 ⟨rfl, hb2⟩
  have HM2 : Hid (PlusMid w xs ys g ([addN x0 y0, addN x1 y1] ++ List.replicate 26 0) W2) := HM0.out.below hb2
  clear hb2 HM0
  obtain ⟨⟨v2, cg2⟩, fg2⟩ := (HM2.out.cells HL.out.1 HL.out.2 rfl 2 (by omega)).2.2
  obtain ⟨⟨v3, cg3⟩, fg3⟩ := (HM2.out.cells HL.out.1 HL.out.2 rfl 3 (by omega)).2.2
  have HM3 : Hid (PlusMid w xs ys g (plusL xs ys 4) ((W2.setCell ⟨g, 2, none⟩ (.int .i64 (endsN xs ys).1)).setCell ⟨g, 3, none⟩ (.int .i64 (endsN xs ys).2))) := by
   have := (HM2.out.set 2 (endsN xs ys).1).set 3 (endsN xs ys).2
   rw [HX.out.1, HX.out.2.1, HX.out.2.2.1, HX.out.2.2.2] at this
   exact this
  go_wp2
  clear cg2 fg2 cg3 fg3
  go_loopw [29] (fun i wr => ∃ k : Nat, k ≤ 8 ∧ i = .int .i64 k ∧ Hid (PlusMid w xs ys g (plusL xs ys (4 + k)) wr)) (fun i _ => 8 - (intOf i).toNat)
  case atStart => exact ⟨0, by omega, rfl, HM3.out⟩
  case round =>
   obtain ⟨k, hk, rfl, HM⟩ := hrel
   by_cases hlt : k < 8
   ·
    obtain ⟨x, hx⟩ : ∃ x, x = xs.getD (4 + k) 0 := ⟨_, rfl⟩
    obtain ⟨y, hy⟩ : ∃ x, x = ys.getD (4 + k) 0 := ⟨_, rfl⟩
    have HC : Hid (∀ W, PlusS w xs ys g W → W.cell? ⟨w.heap.size, 4 + k, none⟩ = some (.int .i64 x) ∧ W.cell? ⟨w.heap.size + 1, 4 + k, none⟩ = some (.int .i64 y)) := fun W ⟨zs, hz, hm⟩ => by
     have c := hm.cells HL.out.1 HL.out.2 hz (4 + k) (by omega)
     rw [hx, hy]; exact ⟨c.1, c.2.1⟩
    have HS : Hid (PlusS w xs ys g wr.drew) := ⟨_, plusL_length _ _ _, HM.out.drew⟩
    have HP : Hid (plusAt xs ys (4 + k) = (addN x y)) := by show _ = _; unfold plusAt; rw [if_pos (by omega), ← hx, ← hy]
    obtain ⟨⟨v0, cg⟩, fg⟩ := (HM.out.drew.cells HL.out.1 HL.out.2 (plusL_length _ _ _) (4 + k) (by omega)).2.2
    have HN : Hid (PlusMid w xs ys g (plusL xs ys (4 + k + 1)) (wr.drew.setCell ⟨g, 4 + k, none⟩ (.int .i64 (addN x y)))) := by
     have := HM.out.drew.set (4 + k) (addN x y)
     rw [← HP.out, plusL_set xs ys _ (by omega) (by omega)] at this
     rw [← HP.out]; exact this
    clear hx hy
    go_wp2
    refine wp_region_held (S := PlusS w xs ys g) (by kernel_rfl) ?_
    change wpAnyH _ _ _ _ _ _ _ _ (World.drew _)
    refine tg 0 (.int .i64 k) (H := ⟨HS.out, ?_⟩)
    refine tg 1 (.int .i64 k) (H := ⟨HS.out, ?_⟩)
    refine tg 2 (.pointer (some ⟨w.heap.size, 4, none⟩)) (H := ⟨HS.out, ?_⟩)
    refine tg 3 (.pointer (some ⟨w.heap.size, 4 + k, none⟩)) (H := ⟨HS.out, ?_⟩)
    refine tk 4 (.int .i64 x) (H := ⟨(.inl ⟨rfl, fun W hW => by have c := (HC.out W hW).1; go_simp⟩), HS.out, ?_⟩)
    refine tg 5 (.int .i64 k) (H := ⟨HS.out, ?_⟩)
    refine tg 6 (.pointer (some ⟨w.heap.size + 1, 4, none⟩)) (H := ⟨HS.out, ?_⟩)
    refine tg 7 (.pointer (some ⟨w.heap.size + 1, 4 + k, none⟩)) (H := ⟨HS.out, ?_⟩)
    refine tk 8 (.int .i64 y) (H := ⟨(.inl ⟨rfl, fun W hW => by have c := (HC.out W hW).2; go_simp⟩), HS.out, ?_⟩)
    refine tg 10 (.pointer (some ⟨g, 4, none⟩)) (H := ⟨HS.out, ?_⟩)
    refine oq 9 (H := fun K hK => ?_)
    refine op_call2 146 _ _ _ Tryz.f146 (fun w' => w' = wr.drew) (.int .i64 (addN x y)) rfl rfl Tryz.func146 (by kernel_rfl) (by kernel_rfl) (addImpl_any x y _) ⟨_, by simp [Act.put]; rfl, ?_⟩
    rintro _ rfl
    refine hK _ _ ⟨HS.out, ?_⟩
    clear hK
    refine tg 11 (.pointer (some ⟨g, 4 + k, none⟩)) (H := ⟨HS.out, ?_⟩)
    refine oq 12 (H := fun K hK => ?_)
    refine op_skip (wr.drew.setCell ⟨g, 4 + k, none⟩ (.int .i64 (addN x y))) rfl (by go_simp) (pk (h := hK _ _ ⟨⟨_, plusL_length _ _ _, HN.out⟩, ?_⟩))
    clear hK
    refine wpAnyH_done (by kernel_rfl) ?_ _
    clear cg fg HC HS
    go_wp2
    go_roundw
    case rel => exact ⟨k + 1, by omega, by go_num, HN.out⟩
    case measure => simp [intOf]; omega
   ·
    obtain rfl : k = 8 := by omega
    clear HM3 hlt
    go_wp2
    simp only [Int.cast_ofNat_Int]
    go_loopw [45] (fun i wr => ∃ k : Nat, k ≤ 8 ∧ i = .int .i64 k ∧ Hid (PlusMid w xs ys g (plusL xs ys (12 + k)) wr)) (fun i _ => 8 - (intOf i).toNat)
    case atStart => exact ⟨0, by omega, rfl, HM.out⟩
    case round =>
     clear HM
     obtain ⟨k, hk, rfl, HM⟩ := hrel
     by_cases hlt : k < 8
     ·
      obtain ⟨x, hx⟩ : ∃ x, x = xs.getD (12 + k) 0 := ⟨_, rfl⟩
      obtain ⟨y, hy⟩ : ∃ x, x = ys.getD (12 + k) 0 := ⟨_, rfl⟩
      obtain ⟨m, hmx⟩ : ∃ m, (if x < y then y else x) = m := ⟨_, rfl⟩
      have HC : Hid (∀ W, PlusS w xs ys g W → W.cell? ⟨w.heap.size, 12 + k, none⟩ = some (.int .i64 x) ∧ W.cell? ⟨w.heap.size + 1, 12 + k, none⟩ = some (.int .i64 y)) := fun W ⟨zs, hz, hm⟩ => by
       have c := hm.cells HL.out.1 HL.out.2 hz (12 + k) (by omega)
       rw [hx, hy]; exact ⟨c.1, c.2.1⟩
      have HS : Hid (PlusS w xs ys g wr.drew) := ⟨_, plusL_length _ _ _, HM.out.drew⟩
      have HP : Hid (plusAt xs ys (12 + k) = m) := by show _ = _; unfold plusAt; rw [if_neg (by omega), if_pos (by omega), ← hx, ← hy, ← hmx]; split <;> omega
      obtain ⟨⟨v0, cg⟩, fg⟩ := (HM.out.drew.cells HL.out.1 HL.out.2 (plusL_length _ _ _) (12 + k) (by omega)).2.2
      have HN : Hid (PlusMid w xs ys g (plusL xs ys (12 + k + 1)) (wr.drew.setCell ⟨g, 12 + k, none⟩ (.int .i64 m))) := by
       have := HM.out.drew.set (12 + k) m
       rw [← HP.out, plusL_set xs ys _ (by omega) (by omega)] at this
       rw [← HP.out]; exact this
      clear hx hy
      go_wp2
      refine wp_region_held (S := PlusS w xs ys g) (by kernel_rfl) ?_
      change wpAnyH _ _ _ _ _ _ _ _ (World.drew _)
      refine tg 0 (.int .i64 k) (H := ⟨HS.out, ?_⟩)
      refine tg 1 (.int .i64 k) (H := ⟨HS.out, ?_⟩)
      refine tg 2 (.pointer (some ⟨w.heap.size, 12, none⟩)) (H := ⟨HS.out, ?_⟩)
      refine tg 3 (.pointer (some ⟨w.heap.size, 12 + k, none⟩)) (H := ⟨HS.out, ?_⟩)
      refine tk 4 (.int .i64 x) (H := ⟨(.inl ⟨rfl, fun W hW => by have c := (HC.out W hW).1; go_simp⟩), HS.out, ?_⟩)
      refine tg 5 (.int .i64 k) (H := ⟨HS.out, ?_⟩)
      refine tg 6 (.pointer (some ⟨w.heap.size + 1, 12, none⟩)) (H := ⟨HS.out, ?_⟩)
      refine tg 7 (.pointer (some ⟨w.heap.size + 1, 12 + k, none⟩)) (H := ⟨HS.out, ?_⟩)
      refine tk 8 (.int .i64 y) (H := ⟨(.inl ⟨rfl, fun W hW => by have c := (HC.out W hW).2; go_simp⟩), HS.out, ?_⟩)
      refine tg 9 (.int .i64 m) (H := ⟨HS.out, ?_⟩)
      refine tg 10 (.pointer (some ⟨g, 12, none⟩)) (H := ⟨HS.out, ?_⟩)
      refine tg 11 (.pointer (some ⟨g, 12 + k, none⟩)) (H := ⟨HS.out, ?_⟩)
      refine oq 12 (H := fun K hK => ?_)
      refine op_skip (wr.drew.setCell ⟨g, 12 + k, none⟩ (.int .i64 m)) rfl (by go_simp) (pk (h := hK _ _ ⟨⟨_, plusL_length _ _ _, HN.out⟩, ?_⟩))
      clear hK
      refine wpAnyH_done (by kernel_rfl) ?_ _
      clear cg fg HC HS
      go_wp2
      go_roundw
      case rel => exact ⟨k + 1, by omega, by go_num, HN.out⟩
      case measure => simp [intOf]; omega
     ·
      obtain rfl : k = 8 := by omega
      clear hlt hk
      go_wp2
      refine wp_loop_rounds 3 ?_
      rw [rounds_succ]
      go_wp2
      try simp only [Int.cast_ofNat_Int]
      go_loopw [64] (fun i wr => ∃ k : Nat, k ≤ 4 ∧ i = .int .i64 k ∧ Hid (PlusMid w xs ys g (plusL xs ys (20 + k)) wr)) (fun i _ => 4 - (intOf i).toNat)
      case atStart => exact ⟨0, by omega, rfl, HM.out⟩
      case round =>
       clear HM
       obtain ⟨k, hk, rfl, HM⟩ := hrel
       by_cases hlt : k < 4
       ·
        obtain ⟨x, hx⟩ : ∃ x, x = xs.getD (20 + k) 0 := ⟨_, rfl⟩
        obtain ⟨y, hy⟩ : ∃ x, x = ys.getD (20 + k) 0 := ⟨_, rfl⟩
        have HC : Hid (∀ W, PlusS w xs ys g W → W.cell? ⟨w.heap.size, 20 + k, none⟩ = some (.int .i64 x) ∧ W.cell? ⟨w.heap.size + 1, 20 + k, none⟩ = some (.int .i64 y)) := fun W ⟨zs, hz, hm⟩ => by
         have c := hm.cells HL.out.1 HL.out.2 hz (20 + k) (by omega)
         rw [hx, hy]; exact ⟨c.1, c.2.1⟩
        have HS : Hid (PlusS w xs ys g wr.drew) := ⟨_, plusL_length _ _ _, HM.out.drew⟩
        have HP : Hid (plusAt xs ys (20 + k) = addN x y) := by show _ = _; unfold plusAt; rw [if_neg (by omega), if_neg (by omega), ← hx, ← hy]
        obtain ⟨⟨v0, cg⟩, fg⟩ := (HM.out.drew.cells HL.out.1 HL.out.2 (plusL_length _ _ _) (20 + k) (by omega)).2.2
        have HN : Hid (PlusMid w xs ys g (plusL xs ys (20 + k + 1)) (wr.drew.setCell ⟨g, 20 + k, none⟩ (.int .i64 (addN x y)))) := by
         have := HM.out.drew.set (20 + k) (addN x y)
         rw [← HP.out, plusL_set xs ys _ (by omega) (by omega)] at this
         rw [← HP.out]; exact this
        clear hx hy
        go_wp2
        refine wp_region_held (S := PlusS w xs ys g) (by kernel_rfl) ?_
        change wpAnyH _ _ _ _ _ _ _ _ (World.drew _)
        refine tg 0 (.int .i64 0) (H := ⟨HS.out, ?_⟩)
        refine tg 1 (.int .i64 k) (H := ⟨HS.out, ?_⟩)
        refine tg 2 (.int .i64 0) (H := ⟨HS.out, ?_⟩)
        refine tg 3 (.int .i64 k) (H := ⟨HS.out, ?_⟩)
        refine tg 4 (.pointer (some ⟨w.heap.size, 20, none⟩)) (H := ⟨HS.out, ?_⟩)
        refine tg 5 (.pointer (some ⟨w.heap.size, 20, none⟩)) (H := ⟨HS.out, ?_⟩)
        refine tg 6 (.pointer (some ⟨w.heap.size, 20 + k, none⟩)) (H := ⟨HS.out, ?_⟩)
        refine tk 7 (.int .i64 x) (H := ⟨(.inl ⟨rfl, fun W hW => by have c := (HC.out W hW).1; go_simp⟩), HS.out, ?_⟩)
        refine tg 8 (.int .i64 0) (H := ⟨HS.out, ?_⟩)
        refine tg 9 (.int .i64 k) (H := ⟨HS.out, ?_⟩)
        refine tg 10 (.pointer (some ⟨w.heap.size + 1, 20, none⟩)) (H := ⟨HS.out, ?_⟩)
        refine tg 11 (.pointer (some ⟨w.heap.size + 1, 20, none⟩)) (H := ⟨HS.out, ?_⟩)
        refine tg 12 (.pointer (some ⟨w.heap.size + 1, 20 + k, none⟩)) (H := ⟨HS.out, ?_⟩)
        refine tk 13 (.int .i64 y) (H := ⟨(.inl ⟨rfl, fun W hW => by have c := (HC.out W hW).2; go_simp⟩), HS.out, ?_⟩)
        refine tg 15 (.pointer (some ⟨g, 20, none⟩)) (H := ⟨HS.out, ?_⟩)
        refine tg 16 (.pointer (some ⟨g, 20, none⟩)) (H := ⟨HS.out, ?_⟩)
        refine oq 14 (H := fun K hK => ?_)
        refine op_call2 146 _ _ _ Tryz.f146 (fun w' => w' = wr.drew) (.int .i64 (addN x y)) rfl rfl Tryz.func146 (by kernel_rfl) (by kernel_rfl) (addImpl_any x y _) ⟨_, by simp [Act.put]; rfl, ?_⟩
        rintro _ rfl
        refine hK _ _ ⟨HS.out, ?_⟩
        clear hK
        refine tg 17 (.pointer (some ⟨g, 20 + k, none⟩)) (H := ⟨HS.out, ?_⟩)
        refine oq 18 (H := fun K hK => ?_)
        refine op_skip (wr.drew.setCell ⟨g, 20 + k, none⟩ (.int .i64 (addN x y))) rfl (by go_simp) (pk (h := hK _ _ ⟨⟨_, plusL_length _ _ _, HN.out⟩, ?_⟩))
        clear hK
        refine wpAnyH_done (by kernel_rfl) ?_ _
        clear cg fg HC HS
        go_wp2
        go_roundw
        case rel => exact ⟨k + 1, by omega, by go_num, HN.out⟩
        case measure => simp [intOf]; omega
       ·
        obtain rfl : k = 4 := by omega
        clear hlt hk
        go_wp2
        rw [rounds_succ]
        go_wp2
        try simp only [Int.cast_ofNat_Int]
        go_loopw [64] (fun i wr => ∃ k : Nat, k ≤ 4 ∧ i = .int .i64 k ∧ Hid (PlusMid w xs ys g (plusL xs ys (24 + k)) wr)) (fun i _ => 4 - (intOf i).toNat)
        case atStart => exact ⟨0, by omega, rfl, HM.out⟩
        case round =>
         clear HM
         obtain ⟨k, hk, rfl, HM⟩ := hrel
         by_cases hlt : k < 4
         ·
          obtain ⟨x, hx⟩ : ∃ x, x = xs.getD (24 + k) 0 := ⟨_, rfl⟩
          obtain ⟨y, hy⟩ : ∃ x, x = ys.getD (24 + k) 0 := ⟨_, rfl⟩
          have HC : Hid (∀ W, PlusS w xs ys g W → W.cell? ⟨w.heap.size, 24 + k, none⟩ = some (.int .i64 x) ∧ W.cell? ⟨w.heap.size + 1, 24 + k, none⟩ = some (.int .i64 y)) := fun W ⟨zs, hz, hm⟩ => by
           have c := hm.cells HL.out.1 HL.out.2 hz (24 + k) (by omega)
           rw [hx, hy]; exact ⟨c.1, c.2.1⟩
          have HS : Hid (PlusS w xs ys g wr.drew) := ⟨_, plusL_length _ _ _, HM.out.drew⟩
          have HP : Hid (plusAt xs ys (24 + k) = addN x y) := by show _ = _; unfold plusAt; rw [if_neg (by omega), if_neg (by omega), ← hx, ← hy]
          obtain ⟨⟨v0, cg⟩, fg⟩ := (HM.out.drew.cells HL.out.1 HL.out.2 (plusL_length _ _ _) (24 + k) (by omega)).2.2
          have HN : Hid (PlusMid w xs ys g (plusL xs ys (24 + k + 1)) (wr.drew.setCell ⟨g, 24 + k, none⟩ (.int .i64 (addN x y)))) := by
           have := HM.out.drew.set (24 + k) (addN x y)
           rw [← HP.out, plusL_set xs ys _ (by omega) (by omega)] at this
           rw [← HP.out]; exact this
          clear hx hy
          go_wp2
          refine wp_region_held (S := PlusS w xs ys g) (by kernel_rfl) ?_
          change wpAnyH _ _ _ _ _ _ _ _ (World.drew _)
          refine tg 0 (.int .i64 1) (H := ⟨HS.out, ?_⟩)
          refine tg 1 (.int .i64 k) (H := ⟨HS.out, ?_⟩)
          refine tg 2 (.int .i64 1) (H := ⟨HS.out, ?_⟩)
          refine tg 3 (.int .i64 k) (H := ⟨HS.out, ?_⟩)
          refine tg 4 (.pointer (some ⟨w.heap.size, 20, none⟩)) (H := ⟨HS.out, ?_⟩)
          refine tg 5 (.pointer (some ⟨w.heap.size, 24, none⟩)) (H := ⟨HS.out, ?_⟩)
          refine tg 6 (.pointer (some ⟨w.heap.size, 24 + k, none⟩)) (H := ⟨HS.out, ?_⟩)
          refine tk 7 (.int .i64 x) (H := ⟨(.inl ⟨rfl, fun W hW => by have c := (HC.out W hW).1; go_simp⟩), HS.out, ?_⟩)
          refine tg 8 (.int .i64 1) (H := ⟨HS.out, ?_⟩)
          refine tg 9 (.int .i64 k) (H := ⟨HS.out, ?_⟩)
          refine tg 10 (.pointer (some ⟨w.heap.size + 1, 20, none⟩)) (H := ⟨HS.out, ?_⟩)
          refine tg 11 (.pointer (some ⟨w.heap.size + 1, 24, none⟩)) (H := ⟨HS.out, ?_⟩)
          refine tg 12 (.pointer (some ⟨w.heap.size + 1, 24 + k, none⟩)) (H := ⟨HS.out, ?_⟩)
          refine tk 13 (.int .i64 y) (H := ⟨(.inl ⟨rfl, fun W hW => by have c := (HC.out W hW).2; go_simp⟩), HS.out, ?_⟩)
          refine tg 15 (.pointer (some ⟨g, 20, none⟩)) (H := ⟨HS.out, ?_⟩)
          refine tg 16 (.pointer (some ⟨g, 24, none⟩)) (H := ⟨HS.out, ?_⟩)
          refine oq 14 (H := fun K hK => ?_)
          refine op_call2 146 _ _ _ Tryz.f146 (fun w' => w' = wr.drew) (.int .i64 (addN x y)) rfl rfl Tryz.func146 (by kernel_rfl) (by kernel_rfl) (addImpl_any x y _) ⟨_, by simp [Act.put]; rfl, ?_⟩
          rintro _ rfl
          refine hK _ _ ⟨HS.out, ?_⟩
          clear hK
          refine tg 17 (.pointer (some ⟨g, 24 + k, none⟩)) (H := ⟨HS.out, ?_⟩)
          refine oq 18 (H := fun K hK => ?_)
          refine op_skip (wr.drew.setCell ⟨g, 24 + k, none⟩ (.int .i64 (addN x y))) rfl (by go_simp) (pk (h := hK _ _ ⟨⟨_, plusL_length _ _ _, HN.out⟩, ?_⟩))
          clear hK
          refine wpAnyH_done (by kernel_rfl) ?_ _
          clear cg fg HC HS
          go_wp2
          go_roundw
          case rel => exact ⟨k + 1, by omega, by go_num, HN.out⟩
          case measure => simp [intOf]; omega
         ·
          obtain rfl : k = 4 := by omega
          clear hlt hk
          go_wp2
          rw [rounds_succ]
          go_wp2_with (first | go_skip | (with_reducible refine stopLoad 118 rfl ?_) | (with_reducible refine stopStore 118 rfl ?_))
          refine load_known 118 g (tc (plusL xs ys 28)) 118 _ HM.out.out rfl rfl rfl Tryz.underlying118 rfl (tallySize (plusL_length _ _ _)) ?_
          go_wp2_with (first | go_skip | (with_reducible refine stopStore 118 rfl ?_))
          refine store_known 118 (w.heap.size + 1 + 1) _ (tc (plusL xs ys 28)) 118 HM.out.res rfl rfl rfl rfl (tallySize (plusL_length _ _ _)) (by rw [tc_size, tc_size, plusL_length]; rfl) (tc_one _) ?_
          go_wp2
          refine bodyPost_ret (results_cell_row Tryz.results104 _ _ (w.heap.size + 1 + 1) _ _ _ _ rfl HM.out.res.setRow Tryz.underlying118 rfl (tallySize (plusL_length _ _ _))) rfl ?_
          exact ⟨rfl, below_setRow HM.out.bel (by omega) _⟩
end Go.Proofs.YtjnamoppcklomaaGreat
