/- The walks through the picks of one out of a list, which all draws share. No statement of the seat is proved here. -/
import Derived.Test.YtjnamoppcklomaaGreatDraw
set_option maxRecDepth 200000
set_option maxHeartbeats 16000000
namespace Go.Proofs.YtjnamoppcklomaaGreat
open Go.RowKit
theorem getD_mem {α : Type} (xs : List α) (d : α) (j : Nat) (h : j < xs.length) : xs.getD j d ∈ xs := by
 rw [List.getD_eq_getElem?_getD, List.getElem?_eq_getElem h]; exact List.getElem_mem h
theorem pickInt_cur (g L lcap : Nat) (a : Option Addr) (len cap : Nat) (zs : List Int) (i h : Int) (xs : List Int) (w : World) (C : Cur w g a len cap zs i h) (hlen : len ≤ 1048576)
 (hxs : ∀ j, j < xs.length → w.cell? ⟨L, j, none⟩ = some (.int .i64 (xs.getD j 0))) (hL : ¬ L = g) (n : Nat) (hne : n = xs.length) (hn : 0 < n) (hn' : n ≤ 256) :
 Calls Tryz.prog 62 #[.pointer (some ⟨g, 0, none⟩), .slice (some ⟨L, 0, none⟩) n lcap] w fun e w' => ∃ y i' h', y ∈ xs ∧ e = .returned (.int .i64 y) ∧ Cur w' g a len cap zs i' h' ∧ w.grownBy w' (some g) := by
 have HX : Hid (∀ j, j < xs.length → w.cell? ⟨L, j, none⟩ = some (.int .i64 (xs.getD j 0))) := hxs
 have HN : Hid (n = xs.length) := hne
 have hn0 : (0 : Int) < n := by omega
 have hn1 : (n : Int) ≤ 2147483647 := by omega
 clear hxs hn hn' hne
 go_enter Tryz.func62, Tryz.ntmps62
 go_wp2_with fail
 refine (l1Below_any g a len cap zs i h _ _ C hlen hn0 hn1).mono ?_
 rintro e w1 ⟨x, i', h', rfl, hx0, hx1, C1, g1⟩
 obtain ⟨j, rfl⟩ := Int.eq_ofNat_of_zero_le hx0
 have hj : j < n := by omega
 have hLw : L < w.heap.size := World.block_lt_of_cell? _ _ (HX.out j (by rw [← HN.out]; exact hj))
 have hcj : w1.cell? ⟨L, j, none⟩ = some (.int .i64 (xs.getD j 0)) := (World.cell?_of_block (g1.block L hLw (by simpa using hL))).trans (HX.out j (by rw [← HN.out]; exact hj))
 have Hg1 : Hid (w.grownBy w1 (some g)) := g1
 have Hm : Hid (xs.getD j 0 ∈ xs) := getD_mem xs 0 j (by rw [← HN.out]; exact hj)
 have HC1 : Hid (Cur w1 g a len cap zs i' h') := C1
 clear C C1 g1
 go_wp2
 go_ret
 exact ⟨_, i', h', Hm.out, ret_int (by simp), HC1.out, Hg1.out⟩
theorem lit_ints (w : World) (xs : List Int) (T : TypeId) (j : Nat) (hj : j < xs.length) : (w.alloc (.cells (xs.map (Value.int .i64)).toArray T)).cell? ⟨w.heap.size, j, none⟩ = some (.int .i64 (xs.getD j 0)) := by
 rw [World.cell?_alloc_at (hn := rfl)]
 simp [List.getElem?_eq_getElem hj]
theorem Cur.keep {w w' : World} {g : Nat} {a : Option Addr} {len cap : Nat} {zs : List Int} {i h : Int} (C : Cur w g a len cap zs i h) (hg : Below w.heap.size w w') : Cur w' g a len cap zs i h := by
 have hl : g < w.heap.size := World.block_lt_of_cell? _ _ C.c0
 refine ⟨?_, ?_, ?_, ?_, ?_, C.i0, C.i1, C.rd.below hg, C.ap⟩
 ·
  rw [hg.cell (p := ⟨g, 0, none⟩) hl]; exact C.c0
 ·
  rw [hg.cell (p := ⟨g, 1, none⟩) hl]; exact C.c1
 ·
  rw [hg.cell (p := ⟨g, 2, none⟩) hl]; exact C.c2
 ·
  rw [World.frozen?, hg.block g hl]; exact C.f1
 ·
  rw [World.frozen?, hg.block g hl]; exact C.f2
end Go.Proofs.YtjnamoppcklomaaGreat
