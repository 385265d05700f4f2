/- The walks through the model's helpers of a merging. No statement of the seat is proved here. -/
import Derived.Test.YtjnamoppcklomaaGreatSkOk
import Derived.Deep.RegionHeld3
import Derived.Deep.AppendLies
set_option maxRecDepth 200000
set_option maxHeartbeats 16000000
namespace Go.Proofs.YtjnamoppcklomaaGreat
open Go.RowKit
def sumL (xs ys : List Int) : List Int := List.zipWith addN xs ys
theorem sumL_length (xs ys : List Int) (n : Nat) (hx : xs.length = n) (hy : ys.length = n) : (sumL xs ys).length = n := by simp [sumL, hx, hy]
theorem sumL_snoc (xs ys : List Int) (k : Nat) (hx : k < xs.length) (hy : k < ys.length) : (sumL xs ys).take (k + 1) = (sumL xs ys).take k ++ [addN (xs[k]?.getD 0) (ys[k]?.getD 0)] := by
 rw [take_snoc (sumL xs ys) 0 k (by simp [sumL]; omega)]
 simp [sumL, List.getElem?_zipWith, List.getElem?_eq_getElem hx, List.getElem?_eq_getElem hy]
theorem own_grow {w wr w1 : World} {e : TypeId} {v : Value} {n : Nat} {xs : List Value} {o : Obj} (hbel : Below w.heap.size w wr) (hown : wr.ownsRow w.heap.size e 1 v n xs) (hgrow : ((wr.drew).alloc o).grownBy w1 v.ownBlock):
 Below w.heap.size w w1 := by
 have h1 : Below w.heap.size w (wr.drew.alloc o) := (hbel.drew).alloc hbel.size o
 exact h1.grown hgrow (by simp; have := hbel.size; omega) (fun k hk => (hown.lt k hk).1)
theorem rdI_of_own {w : World} {B e n : Nat} {v : Value} {zs : List Int} (h : w.ownsRow B e 1 v n (zs.map (Value.int .i64))) : ∃ a cap F, v = .slice a n cap ∧ RdI w a n zs F ∧ Own B w F := by
 rcases h.2 with ⟨h1, h2⟩ | ⟨g, cap, cur, h1, _⟩
 ·
  subst h2
  exact ⟨none, 0, [], h1, ⟨by simpa using h.1, .inl ⟨rfl, rfl⟩⟩, Own.nil⟩
 ·
  subst h1
  obtain ⟨F, hr, ho, _⟩ := RdI.of_own h
  exact ⟨_, cap, F, rfl, hr, ho⟩
theorem own_empty (w : World) (e : TypeId) : (w.alloc (.cells #[] e)).ownsRow w.heap.size e 1 (.slice (some ⟨w.heap.size, 0, none⟩) 0 0) 0 [] :=
 ⟨rfl, .inr ⟨w.heap.size, 0, #[], rfl, Nat.le_refl _, Blk.made w #[] e, Nat.le_refl _, by simp, rfl, rfl⟩⟩
theorem cell_new1 (w : World) (u : Value) (t : TypeId) : ∀ (j : Nat) (x : Value), [u][j]? = some x → (w.alloc (.cells #[u] t)).cell? ((⟨w.heap.size, 0, none⟩ : Addr).add j) = some x := by
 intro j x hx
 cases j with
 | zero =>
  obtain rfl : u = x := by simpa using hx
  simp [Addr.add]
 | succ j => simp at hx
theorem l3Sum_any (a b : Option Addr) (la ca cb : Nat) (xs ys : List Int) (F G : List Nat) (w : World) (ha : RdI w a la xs F) (hb : RdI w b la ys G) (hla : la ≤ 1048576) :
 Calls Tryz.prog 113 #[.slice a la ca, .slice b la cb] w fun e w' => NewI w (sumL xs ys) e w' := by
 obtain ⟨i0, hi, hz0, hz1, hz2⟩ := info_parts infoInt
 have Hx : Hid (xs.length = la) := ha.length
 have Hy : Hid (ys.length = la) := hb.length
 by_cases h0 : la = 0
 ·
  subst h0
  have hx : xs = [] := List.eq_nil_of_length_eq_zero ha.length
  subst hx
  clear ha hb
  go_enter Tryz.func113, Tryz.ntmps113
  go_wp2
  refine wp_loop_rounds 1 ?_
  rw [rounds_succ]
  go_wp2
  go_ret
  exact ⟨_, 0, 0, [], rfl, ⟨rfl, .inl ⟨rfl, rfl⟩⟩, Own.nil, (Below.refl _ _).alloc (Nat.le_refl _) _⟩
 obtain ⟨b1, o1, rfl, hc1⟩ : ∃ b off, a = some ⟨b, off, none⟩ ∧ ∀ i, i < la → w.cell? ⟨b, off + i, none⟩ = some (.int .i64 (xs.getD i 0)) := by
  rcases ha.cells with h | ⟨b, off, _, h1, _, h2⟩
  ·
   exact absurd h.1 h0
  ·
   exact ⟨b, off, h1, h2⟩
 obtain ⟨b2, o2, rfl, hc2⟩ : ∃ b' off, b = some ⟨b', off, none⟩ ∧ ∀ i, i < la → w.cell? ⟨b', off + i, none⟩ = some (.int .i64 (ys.getD i 0)) := by
  rcases hb.cells with h | ⟨b, off, _, h1, _, h2⟩
  ·
   exact absurd h.1 h0
  ·
   exact ⟨b, off, h1, h2⟩
 have HC : Hid ((∀ i, i < la → w.cell? ⟨b1, o1 + i, none⟩ = some (.int .i64 (xs.getD i 0))) ∧ ∀ i, i < la → w.cell? ⟨b2, o2 + i, none⟩ = some (.int .i64 (ys.getD i 0))) := ⟨hc1, hc2⟩
 have HB : Hid (b1 < w.heap.size ∧ b2 < w.heap.size) := ⟨World.block_lt_of_cell? _ _ (hc1 0 (by omega)), World.block_lt_of_cell? _ _ (hc2 0 (by omega))⟩
 clear ha hb hc1 hc2
 go_enter Tryz.func113, Tryz.ntmps113
 go_wp2
 go_loopw [5, 6] (fun v i wr => ∃ k : Nat, k ≤ la ∧ i = .int .i64 k ∧ Hid (wr.ownsRow w.heap.size 3 1 v k (((sumL xs ys).take k).map (Value.int .i64))) ∧ Hid (Below w.heap.size w wr)) (fun _ i _ => la - (intOf i).toNat)
 case atStart => exact ⟨0, by omega, rfl, own_empty w _, (Below.refl _ _).alloc (Nat.le_refl _) _⟩
 case round =>
  obtain ⟨k, hk, rfl, HO, HBel⟩ := hrel
  by_cases hlt : k < la
  ·
   obtain ⟨x, hx⟩ : ∃ x, x = xs[k]?.getD 0 := ⟨_, rfl⟩
   obtain ⟨y, hy⟩ : ∃ y, y = ys[k]?.getD 0 := ⟨_, rfl⟩
   have d1 : wr.cell? ⟨b1, o1 + k, none⟩ = some (.int .i64 x) := by rw [HBel.out.cell (p := ⟨b1, o1 + k, none⟩) HB.out.1, HC.out.1 k hlt, hx]; simp
   have d2 : wr.cell? ⟨b2, o2 + k, none⟩ = some (.int .i64 y) := by rw [HBel.out.cell (p := ⟨b2, o2 + k, none⟩) HB.out.2, HC.out.2 k hlt, hy]; simp
   have HS : Hid ((sumL xs ys).take (k + 1) = (sumL xs ys).take k ++ [addN x y]) := by rw [hx, hy]; exact sumL_snoc xs ys k (by rw [Hx.out]; exact hlt) (by rw [Hy.out]; exact hlt)
   clear hx hy
   have hwr : w.heap.size ≤ wr.heap.size := HBel.out.size
   have HKp : Hid (∀ o w1, (wr.drew.alloc o).grownBy w1 u5.ownBlock → w1.cell? ⟨b1, o1 + k, none⟩ = some (.int .i64 x) ∧ w1.cell? ⟨b2, o2 + k, none⟩ = some (.int .i64 y)) := by
    intro o w1 hg
    have hb := own_grow HBel.out HO.out hg
    exact ⟨by rw [hb.cell (p := ⟨b1, o1 + k, none⟩) HB.out.1, ← HBel.out.cell (p := ⟨b1, o1 + k, none⟩) HB.out.1]; exact d1, by rw [hb.cell (p := ⟨b2, o2 + k, none⟩) HB.out.2, ← HBel.out.cell (p := ⟨b2, o2 + k, none⟩) HB.out.2]; exact d2⟩
   go_wp2
   go_region_held3 (fun w' => w'.cell? ⟨b1, o1 + k, none⟩ = some (.int .i64 x) ∧ w'.cell? ⟨b2, o2 + k, none⟩ = some (.int .i64 y)) (first | (exact HKp.out _ _ hgrow) | go_keep)
    (first
      | (refine step_append_lies _ rfl _ _ 28 rfl w.heap.size 3 i0 (.int .i64 0) 1 8 Tryz.underlying28 hi hz0 hz1 hz2 rfl (by decide) _ k (((sumL xs ys).take k).map (Value.int .i64)) rfl (HO.out.alloc _) ⟨wr.heap.size, 0, none⟩ 1 1 [.int .i64 (addN x y)] rfl rfl (cell_new1 _ _ _) (by intro u hu; simp at hu; subst hu; rfl) (by decide) (by unfold maxLen; omega) (by omega) (by simp; omega) _ rfl ?_; intro g cp w1 hown hgrow hat hlt2)
      | (go_at_call 110; refine (addSpec_any _ _ _).mono ?_; rintro e w1 ⟨rfl, rfl⟩))
   have HO2 : Hid (w1.ownsRow w.heap.size 3 1 (.slice (some ⟨g, 0, none⟩) (k + 1) cp) (k + 1) (((sumL xs ys).take (k + 1)).map (Value.int .i64))) := by rw [HS.out, List.map_append]; exact hown
   have HB2 : Hid (Below w.heap.size w w1) := own_grow HBel.out HO.out hgrow
   clear hown hgrow hat HKp HO HBel d1 d2
   go_wp2
   go_roundw
   case rel => exact ⟨k + 1, by omega, by go_num, HO2, HB2⟩
   case measure => simp [intOf]; omega
  ·
   obtain rfl : k = la := by omega
   have HE : Hid ((sumL xs ys).take k = sumL xs ys) := List.take_of_length_le (Nat.le_of_eq (sumL_length xs ys k Hx.out Hy.out))
   go_wp2
   go_ret
   have own := HO.out
   rw [HE.out] at own
   obtain ⟨a, cap, F2, rfl, hr, ho⟩ := rdI_of_own own
   exact ⟨a, k, cap, F2, rfl, hr, ho, HBel.out⟩
end Go.Proofs.YtjnamoppcklomaaGreat
