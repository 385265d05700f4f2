/- The walks through the draws of chapter 3: some list of numbers, some summary. No statement of the seat is proved here. -/
import Derived.Test.YtjnamoppcklomaaGreatDrawPick
import Derived.Test.YtjnamoppcklomaaGreatSkSum
set_option maxRecDepth 200000
set_option maxHeartbeats 16000000
namespace Go.Proofs.YtjnamoppcklomaaGreat
open Go.RowKit
theorem own_keep {w w' : World} {B e size g : Nat} {v : Value} {n : Nat} {xs : List Value} (h : w.ownsRow B e size v n xs) (k : w.grownBy w' (some g)) (hg : g < B) : w'.ownsRow B e size v n xs := by
 refine ⟨h.1, ?_⟩
 rcases h.2 with h' | ⟨b, cap, cur, h1, h2, h3, h4⟩
 ·
  exact .inl h'
 ·
  have hb : b < w.heap.size := (h.lt b (by rw [h1]; rfl)).2
  exact .inr ⟨b, cap, cur, h1, h2, by rw [k.block b hb (fun e => by simp at e; omega)]; exact h3, h4⟩
theorem cur_agree {w w' : World} {g : Nat} {a : Option Addr} {len cap : Nat} {zs : List Int} {i h : Int} (C : Cur w g a len cap zs i h) (_hg : g < w.heap.size) (e : w'.heap[g]? = w.heap[g]?) (hb : ∀ b, b < w.heap.size → (∃ off, a = some ⟨b, off, none⟩ ∧ 0 < len) → w'.heap[b]? = w.heap[b]?) : Cur w' g a len cap zs i h := by
 refine ⟨(World.cell?_of_block (w := w) (a := ⟨g, 0, none⟩) e).trans C.c0, (World.cell?_of_block (w := w) (a := ⟨g, 1, none⟩) e).trans C.c1, (World.cell?_of_block (w := w) (a := ⟨g, 2, none⟩) e).trans C.c2, (World.frozen?_of_block (w := w) (a := ⟨g, 1, none⟩) e).trans C.f1, (World.frozen?_of_block (w := w) (a := ⟨g, 2, none⟩) e).trans C.f2, C.i0, C.i1, ?_, C.ap⟩
 refine ⟨C.rd.length, C.rd.range, ?_⟩
 rcases C.rd.cells with h0 | ⟨b, off, ha, hc⟩
 ·
  exact .inl h0
 ·
  by_cases hl : len = 0
  ·
   exact .inl hl
  ·
   have hlt : b < w.heap.size := World.block_lt_of_cell? _ _ (hc 0 (by omega))
   exact .inr ⟨b, off, ha, fun j hj => (World.cell?_of_block (w := w) (a := ⟨b, off + j, none⟩) (hb b hlt ⟨off, ha, by omega⟩)).trans (hc j hj)⟩
def valList (p : Int) : List Int := [0, 1, 7, 8, 100, 5000, 1000000, p, 1000001, -1]
def DrewList (w : World) (g : Nat) (a : Option Addr) (len cap : Nat) (zs : List Int) (e : Ending) (w' : World) : Prop :=
 ∃ a' n c xs F i' h', e = .returned (.slice a' n c) ∧ RdI w' a' n xs F ∧ n ≤ 6 ∧ Own w.heap.size w' F ∧ Cur w' g a len cap zs i' h' ∧ w.grownBy w' (some g)
theorem l3Values_any (g : Nat) (a : Option Addr) (len cap : Nat) (zs : List Int) (i h : Int) (w : World) (C : Cur w g a len cap zs i h) (hlen : len ≤ 1048576) :
 Calls Tryz.prog 99 #[.pointer (some ⟨g, 0, none⟩)] w fun e w' => DrewList w g a len cap zs e w' := by
 obtain ⟨i0, hi, hz0, hz1, hz2⟩ := info_parts infoInt
 have hgw : g < w.heap.size := World.block_lt_of_cell? _ _ C.c0
 have HA : Hid (∀ b off, a = some ⟨b, off, none⟩ → 0 < len → b < w.heap.size) := fun b off e hp => by
  rcases C.rd.cells with h0 | ⟨b', off', ha, hc⟩
  ·
   omega
  ·
   rw [e] at ha; cases ha; exact World.block_lt_of_cell? _ _ (hc 0 hp)
 have HC : Hid (Cur (w.alloc (.cells #[] 3)) g a len cap zs i h) := C.keep ((Below.refl _ _).alloc (Nat.le_refl _) _)
 have HO : Hid ((w.alloc (.cells #[] 3)).ownsRow w.heap.size 3 1 (.slice (some ⟨w.heap.size, 0, none⟩) 0 0) 0 []) := own_empty w _
 have HG : Hid (w.grownBy (w.alloc (.cells #[] 3)) (some g)) := World.grownBy_alloc _ _ _
 clear C
 go_enter Tryz.func99, Tryz.ntmps99
 go_wp2_with fail
 refine (l1Below_any g a len cap zs i h 6 _ HC.out hlen (by omega) (by omega)).mono ?_
 rintro e w1 ⟨x, i1, h1, rfl, x0, x1, C1, g1⟩
 obtain ⟨n, rfl⟩ := Int.eq_ofNat_of_zero_le x0
 have hn : n ≤ 6 := by omega
 have HC1 : Hid (Cur w1 g a len cap zs i1 h1) := C1
 have HO1 : Hid (w1.ownsRow w.heap.size 3 1 (.slice (some ⟨w.heap.size, 0, none⟩) 0 0) 0 []) := own_keep HO.out g1 hgw
 have HG1 : Hid (w.grownBy w1 (some g)) := grown_tr HG.out g1
 clear C1 g1 HC HO HG x0 x1
 go_wp2
 go_loopw [3, 5] (fun v j wr => ∃ (k : Nat) (xs : List Int) (i2 h2 : Int), k ≤ n ∧ j = .int .i64 k ∧ Hid (wr.ownsRow w.heap.size 3 1 v k (xs.map (Value.int .i64))) ∧ Hid (Cur wr g a len cap zs i2 h2) ∧ Hid (w.grownBy wr (some g))) (fun _ j _ => n - (intOf j).toNat)
 case atStart => exact ⟨0, [], i1, h1, by omega, rfl, HO1, HC1, HG1⟩
 case round =>
  clear HO1 HC1 HG1
  obtain ⟨k, xs, i2, h2, hk, rfl, HO, HC, HG⟩ := hrel
  by_cases hlt : k < n
  ·
   go_wp2_with fail
   refine (l1Byte_any g a len cap zs i2 h2 _ HC.out hlen).mono ?_
   rintro e w3 ⟨x, i3, h3, rfl, x0, x1, C3, g3⟩
   have hg3 : g < w3.heap.size := World.block_lt_of_cell? _ _ C3.c0
   have HC3 : Hid (Cur w3 g a len cap zs i3 h3) := C3
   have HO3 : Hid (w3.ownsRow w.heap.size 3 1 u3 k (xs.map (Value.int .i64))) := own_keep HO.out g3 hgw
   have HG3 : Hid (w.grownBy w3 (some g)) := grown_tr HG.out g3
   clear C3 g3 HO HC HG x0 x1
   go_wp2_with fail
   refine (pickInt_cur g w3.heap.size _ a len cap zs i3 h3 (valList x) _ (HC3.out.keep ((Below.refl _ _).alloc (Nat.le_refl _) _)) hlen (fun j hj => lit_ints w3 (valList x) 3 j hj) (by omega) _ rfl (by simp [valList]) (by simp [valList])).mono ?_
   rintro e w5 ⟨y, i5, h5, _, rfl, C5, g5⟩
   have HC5 : Hid (Cur w5 g a len cap zs i5 h5) := C5
   have HO5 : Hid (w5.ownsRow w.heap.size 3 1 u3 k (xs.map (Value.int .i64))) := own_keep (HO3.out.alloc _) g5 hgw
   have HG5 : Hid (w.grownBy w5 (some g)) := grown_tr (grown_tr HG3.out (World.grownBy_alloc _ _ _)) g5
   have hsz : w.heap.size ≤ w5.heap.size := HG5.out.size
   clear C5 g5 HC3 HO3 HG3
   go_wp2_with (at_builtin; (refine wpList_append_own _ rfl _ _ 28 rfl w.heap.size 3 i0 (.int .i64 0) 1 8 Tryz.underlying28 hi hz0 hz1 hz2 rfl (by decide) _ k (xs.map (Value.int .i64)) rfl (HO5.out.alloc _) ⟨w5.heap.size, 0, none⟩ 1 1 [.int .i64 y] rfl rfl (cell_new1 _ _ _) (by intro u hu; simp at hu; subst hu; rfl) (by unfold maxLen; omega) (by omega) (by simp; omega) ?_))
   intro v' w6 hown hgrow _
   have HO6 : Hid (w6.ownsRow w.heap.size 3 1 v' (k + 1) ((xs ++ [y]).map (Value.int .i64))) := by rw [List.map_append]; exact hown
   have hne : ∀ b, u3.ownBlock = some b → w.heap.size ≤ b := fun b hb => (HO5.out.lt b hb).1
   have HB6 : Hid (Below w5.heap.size w5 (w5.alloc (.cells #[.int .i64 y] 3))) := (Below.refl _ _).alloc (Nat.le_refl _) _
   have hblk : ∀ b, b < w5.heap.size → ¬ u3.ownBlock = some b → w6.heap[b]? = w5.heap[b]? := fun b hb hn => (hgrow.block b (by have := HB6.out.size; omega) (fun e => hn e.symm)).trans (HB6.out.block b hb)
   have HC6 : Hid (Cur w6 g a len cap zs i5 h5) := cur_agree HC5.out (by have := HG5.out.size; omega) (hblk g (by have := HG5.out.size; omega) (fun e => by have := hne g e; omega)) (fun b hb ⟨off, ha, hp⟩ => hblk b hb (fun e => by have := hne b e; have := HA.out b off ha hp; omega))
   have HG6 : Hid (w.grownBy w6 (some g)) := ⟨hgrow.os.trans HG5.out.os, hgrow.tape.trans HG5.out.tape, hgrow.output.trans HG5.out.output, by have := hgrow.size; have := HB6.out.size; omega, fun b hb hn => (hblk b (by omega) (fun e => by have := hne b e; omega)).trans (HG5.out.block b hb hn)⟩
   clear hown hgrow hne hblk HB6 HC5 HO5 HG5
   go_wp2
   go_roundw
   case rel => exact ⟨k + 1, xs ++ [y], i5, h5, by omega, by go_num, HO6, HC6, HG6⟩
   case measure => simp [intOf]; omega
  ·
   obtain rfl : k = n := by omega
   go_wp2
   go_ret
   obtain ⟨a', c', F, rfl, hr, ho⟩ := rdI_of_own HO.out
   exact ⟨a', k, c', xs, F, i2, h2, rfl, hr, hn, ho, HC.out, HG.out⟩
end Go.Proofs.YtjnamoppcklomaaGreat
