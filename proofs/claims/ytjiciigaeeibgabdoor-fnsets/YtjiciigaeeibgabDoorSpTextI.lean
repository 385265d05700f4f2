/- The walks through the program's SetText. No statement of the seat is proved here. -/
import Derived.Test.YtjiciigaeeibgabDoorSpTextS
import Derived.Test.YtjiciigaeeibgabDoorShelf
namespace Go.Proofs.YtjiciigaeeibgabDoor
open Go.RowKit Go.Sort
set_option maxRecDepth 100000 in
set_option maxHeartbeats 4000000 in
theorem spanText_any (x y : Int) (w : World) (hx : In64 x) (hy : In64 y) {GT : Nat} (gT : Tryd.prog.globalNamed "internal/strconv.uint64pow10" = some GT) (ht : TabAt w) :
    Calls Tryd.prog 31 #[.agg #[.int .i64 x, .int .i64 y]] w fun e w' => e = .returned (.string (spB (x, y))) ∧ Below w.heap.size w w' := by
  obtain ⟨wb, hwb⟩ : ∃ W, W = w.alloc (.cells #[.int .i64 x, .int .i64 y] 39) := ⟨_, rfl⟩
  have HW : Hid (Below w.heap.size w wb ∧ Blk wb w.heap.size #[.int .i64 x, .int .i64 y] 39) := by rw [hwb]; exact ⟨Below.allocW _ (Below.refl _ _) (Nat.le_refl _), Blk.made _ _ _⟩
  have HI : Hid (In64 x ∧ In64 y) := ⟨hx, hy⟩
  have HTB : Hid (∀ W, Below wb.heap.size wb W → TabAt W) := fun W hW => tab_below gT (tab_below gT ht HW.out.1) hW
  have HKE : Hid (∀ W, Below wb.heap.size wb W → Below wb.heap.size wb W ∧ W.cell? ⟨w.heap.size, 0, none⟩ = some (.int .i64 x) ∧ W.cell? ⟨w.heap.size, 1, none⟩ = some (.int .i64 y)) := fun W hW => ⟨hW, (HW.out.2.below hW).cell 0, (HW.out.2.below hW).cell 1⟩
  have HWB : Hid (wb = w.alloc (.cells #[.int .i64 x, .int .i64 y] 39)) := hwb
  obtain ⟨sx, hsx⟩ : ∃ s, s = itB x := ⟨_, rfl⟩
  obtain ⟨sy, hsy⟩ : ∃ s, s = itB y := ⟨_, rfl⟩
  have HS : Hid ((sx = itB x ∧ sx.size ≤ 21) ∧ sy = itB y ∧ sy.size ≤ 21) := ⟨⟨hsx, by rw [hsx]; exact itB_size hx⟩, hsy, by rw [hsy]; exact itB_size hy⟩
  have b0 : wb.cell? ⟨w.heap.size, 0, none⟩ = some (.int .i64 x) := HW.out.2.cell 0
  have b1 : wb.cell? ⟨w.heap.size, 1, none⟩ = some (.int .i64 y) := HW.out.2.cell 1
  have HD : Hid (Below wb.heap.size wb wb.drew) := (Below.refl _ _).drew
  clear gT ht hwb hsx hsy hx hy
  go_enter Tryd.func31, Tryd.ntmps31
  by_cases hxy : y = x
  · have e2 : (y == x) = true := by simp [hxy]
    have HV : Hid (spB (x, y) = sx) := by show _ = _; unfold spB; rw [if_pos hxy.symm, HS.out.1.1]
    clear hxy
    go_wp2
    rw [← HWB.out]
    go_region_held3 (fun W => Below wb.heap.size wb W ∧ W.cell? ⟨w.heap.size, 0, none⟩ = some (.int .i64 x) ∧ W.cell? ⟨w.heap.size, 1, none⟩ = some (.int .i64 y))
      ((refine HKE.out _ ?_; first | (with_reducible exact k1) | (with_reducible exact HD.out)))
      (first
        | (go_at_call 25; refine (single_any x _).mono ?_; rintro e w1 ⟨rfl, hb1⟩; have k1 : Below wb.heap.size wb w1 := (by refine Below.next ?_ hb1; exact And.left (‹Below wb.heap.size wb _ ∧ _›))))
    have K1 : Hid (Below wb.heap.size wb w1) := k1
    have c0 := (HKE.out _ K1.out).2.1
    clear k1 b0 b1 hb1
    go_wp2_with fail
    refine (digImplB x sx HS.out.1.1 _ HI.out.1 (HTB.out _ K1.out)).mono ?_
    rintro e w2 ⟨rfl, hb2⟩
    have HE : Hid (Below w.heap.size w w2) := (Below.next HW.out.1 (Below.next K1.out hb2))
    clear hb2
    go_wp2
    go_ret
    rw [HV.out]
    exact ⟨rfl, HE.out⟩
  · have e2 : (y == x) = false := by simpa using hxy
    obtain ⟨s1, hs1⟩ : ∃ c, c = sx ++ ⟨#[45]⟩ := ⟨_, rfl⟩
    have p1 := addB sx ⟨#[45]⟩ s1 hs1 (by have := HS.out.1.2; rw [size1]; omega)
    obtain ⟨s2, hs2⟩ : ∃ c, c = s1 ++ sy := ⟨_, rfl⟩
    have p2 := addB s1 sy s2 hs2 (by have := HS.out.1.2; have := HS.out.2.2; rw [hs1, ByteArray.size_append, size1]; omega)
    have HV : Hid (spB (x, y) = s2) := by show _ = _; unfold spB; rw [if_neg (fun e => hxy e.symm), hs2, hs1, HS.out.1.1, HS.out.2.1]
    clear hxy hs1 hs2
    go_wp2
    rw [← HWB.out]
    go_region_held3 (fun W => Below wb.heap.size wb W ∧ W.cell? ⟨w.heap.size, 0, none⟩ = some (.int .i64 x) ∧ W.cell? ⟨w.heap.size, 1, none⟩ = some (.int .i64 y))
      ((refine HKE.out _ ?_; first | (with_reducible exact k1) | (with_reducible exact HD.out)))
      (first
        | (go_at_call 25; refine (single_any x _).mono ?_; rintro e w1 ⟨rfl, hb1⟩; have k1 : Below wb.heap.size wb w1 := (by refine Below.next ?_ hb1; exact And.left (‹Below wb.heap.size wb _ ∧ _›))))
    have K1 : Hid (Below wb.heap.size wb w1.drew) := k1.drew
    have c0 := (HKE.out _ k1).2.1
    have c1 := (HKE.out _ k1).2.2
    clear k1 b0 b1 hb1
    go_wp2
    go_region_held3 (fun W => Below wb.heap.size wb W ∧ W.cell? ⟨w.heap.size, 0, none⟩ = some (.int .i64 x) ∧ W.cell? ⟨w.heap.size, 1, none⟩ = some (.int .i64 y))
      ((refine HKE.out _ ?_; first | (with_reducible exact k3) | (with_reducible exact k2) | (with_reducible exact K1.out)))
      (first
        | (have zz := k2; clear zz; go_at_call 41; refine (digImplB x sx HS.out.1.1 _ HI.out.1 (HTB.out _ k2)).mono ?_; rintro e w3 ⟨rfl, hb3⟩; have k3 : Below wb.heap.size wb w3 := Below.next k2 hb3)
        | (have zz := k2; clear zz; go_at_call 41; refine (digImplB y sy HS.out.2.1 _ HI.out.2 (HTB.out _ k2)).mono ?_; rintro e w3 ⟨rfl, hb3⟩; have k3 : Below wb.heap.size wb w3 := Below.next k2 hb3)
        | (go_at_call 41; refine (digImplB x sx HS.out.1.1 _ HI.out.1 (HTB.out _ K1.out)).mono ?_; rintro e w2 ⟨rfl, hb2⟩; have k2 : Below wb.heap.size wb w2 := Below.next K1.out hb2)
        | (go_at_call 41; refine (digImplB y sy HS.out.2.1 _ HI.out.2 (HTB.out _ K1.out)).mono ?_; rintro e w2 ⟨rfl, hb2⟩; have k2 : Below wb.heap.size wb w2 := Below.next K1.out hb2))
    all_goals
      have HE : Hid (Below w.heap.size w w3) := Below.next HW.out.1 k3
      clear k3 k2 hb2 hb3
      go_wp2
      go_ret
      rw [HV.out]
      exact ⟨rfl, HE.out⟩
end Go.Proofs.YtjiciigaeeibgabDoor
