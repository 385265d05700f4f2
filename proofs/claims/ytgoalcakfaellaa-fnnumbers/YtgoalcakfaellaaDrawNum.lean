/- The walks through the draws of chapter 1 that the law on numbers uses. No statement of the seat is proved here. -/
import Derived.Test.YtgoalcakfaellaaDraw
namespace Go.Proofs.Ytgoalcakfaellaa
open Go.RowKit

theorem getD_mem {α : Type} (xs : List α) (d : α) (j : Nat) (h : j < xs.length) : xs.getD j d ∈ xs := by
  rw [List.getD_eq_getElem?_getD, List.getElem?_eq_getElem h]; exact List.getElem_mem h

theorem pickInt_any (g L lcap : Nat) (a : Option Addr) (len cap : Nat) (zs : List Int) (i h : Int) (xs : List Int) (w : World) (C : Cur w g a len cap zs i h) (hlen : len ≤ 1048576)
    (hxs : ∀ j, j < xs.length → w.cell? ⟨L, j, none⟩ = some (.int .i64 (xs.getD j 0))) (hL : ¬ L = g) (n : Nat) (hne : n = xs.length) (hn : 0 < n) (hn' : n ≤ 256) :
    Calls Try.prog 14 #[.pointer (some ⟨g, 0, none⟩), .slice (some ⟨L, 0, none⟩) n lcap] w fun e w' => (∃ y, y ∈ xs ∧ e = .returned (.int .i64 y)) ∧ w.grownBy w' (some g) := by
  have HX : Hid (∀ j, j < xs.length → w.cell? ⟨L, j, none⟩ = some (.int .i64 (xs.getD j 0))) := hxs
  have HN : Hid (n = xs.length) := hne
  have hn0 : (0 : Int) < n := by omega
  have hn1 : (n : Int) ≤ 2147483647 := by omega
  clear hxs hn hn' hne
  go_enter Try.func14, Try.ntmps14
  go_wp2_with fail
  refine (l1Below_any g a len cap zs i h _ _ C hlen hn0 hn1).mono ?_
  rintro e w1 ⟨x, i', h', rfl, hx0, hx1, C1, g1⟩
  obtain ⟨j, rfl⟩ := Int.eq_ofNat_of_zero_le hx0
  have hj : j < n := by omega
  have hLw : L < w.heap.size := World.block_lt_of_cell? _ _ (HX.out j (by rw [← HN.out]; exact hj))
  have hcj : w1.cell? ⟨L, j, none⟩ = some (.int .i64 (xs.getD j 0)) := (World.cell?_of_block (g1.block L hLw (by simpa using hL))).trans (HX.out j (by rw [← HN.out]; exact hj))
  have Hg1 : Hid (w.grownBy w1 (some g)) := g1
  have Hm : Hid (xs.getD j 0 ∈ xs) := getD_mem xs 0 j (by rw [← HN.out]; exact hj)
  clear C C1 g1
  go_wp2
  go_ret
  exact ⟨⟨_, Hm.out, ret_int (by simp)⟩, Hg1.out⟩

theorem pickText_any (g L lcap : Nat) (a : Option Addr) (len cap : Nat) (zs : List Int) (i h : Int) (xs : List ByteArray) (w : World) (C : Cur w g a len cap zs i h) (hlen : len ≤ 1048576)
    (hxs : ∀ j, j < xs.length → w.cell? ⟨L, j, none⟩ = some (.string (xs.getD j ⟨#[]⟩))) (hL : ¬ L = g) (n : Nat) (hne : n = xs.length) (hn : 0 < n) (hn' : n ≤ 256) :
    Calls Try.prog 16 #[.pointer (some ⟨g, 0, none⟩), .slice (some ⟨L, 0, none⟩) n lcap] w fun e w' => (∃ y, y ∈ xs ∧ e = .returned (.string y)) ∧ w.grownBy w' (some g) := by
  have HX : Hid (∀ j, j < xs.length → w.cell? ⟨L, j, none⟩ = some (.string (xs.getD j ⟨#[]⟩))) := hxs
  have HN : Hid (n = xs.length) := hne
  have hn0 : (0 : Int) < n := by omega
  have hn1 : (n : Int) ≤ 2147483647 := by omega
  clear hxs hn hn' hne
  go_enter Try.func16, Try.ntmps16
  go_wp2_with fail
  refine (l1Below_any g a len cap zs i h _ _ C hlen hn0 hn1).mono ?_
  rintro e w1 ⟨x, i', h', rfl, hx0, hx1, C1, g1⟩
  obtain ⟨j, rfl⟩ := Int.eq_ofNat_of_zero_le hx0
  have hj : j < n := by omega
  have hLw : L < w.heap.size := World.block_lt_of_cell? _ _ (HX.out j (by rw [← HN.out]; exact hj))
  obtain ⟨t, ht⟩ : ∃ t, t = xs.getD j ⟨#[]⟩ := ⟨_, rfl⟩
  have hcj : w1.cell? ⟨L, j, none⟩ = some (.string t) := by rw [ht]; exact (World.cell?_of_block (g1.block L hLw (by simpa using hL))).trans (HX.out j (by rw [← HN.out]; exact hj))
  have Hg1 : Hid (w.grownBy w1 (some g)) := g1
  have Hm : Hid (t ∈ xs) := by rw [ht]; exact getD_mem xs _ j (by rw [← HN.out]; exact hj)
  clear C C1 g1 ht
  go_wp2
  go_ret
  exact ⟨⟨_, Hm.out, rfl⟩, Hg1.out⟩

theorem lit_ints (w : World) (xs : List Int) (T : TypeId) (j : Nat) (hj : j < xs.length) : (w.alloc (.cells (xs.map (Value.int .i64)).toArray T)).cell? ⟨w.heap.size, j, none⟩ = some (.int .i64 (xs.getD j 0)) := by
  rw [World.cell?_alloc_at (hn := rfl)]
  simp [List.getElem?_eq_getElem hj]
theorem lit_texts (w : World) (xs : List ByteArray) (T : TypeId) (j : Nat) (hj : j < xs.length) : (w.alloc (.cells (xs.map Value.string).toArray T)).cell? ⟨w.heap.size, j, none⟩ = some (.string (xs.getD j ⟨#[]⟩)) := by
  rw [World.cell?_alloc_at (hn := rfl)]
  simp [List.getElem?_eq_getElem hj]
theorem below_cur {w w1 w2 w3 : World} {o : Obj} (h1 : Below w.heap.size w w1) (h2 : w2 = w1.alloc o) (h3 : w2.grownBy w3 (some w.heap.size)) : Below w.heap.size w w3 := by
  subst h2
  exact (h1.alloc h1.size o).grown h3 (by simp; exact Nat.le_trans h1.size (by omega)) (fun k hk => by simp at hk; omega)


/-- What is drawn. -/
def drawPutNumList : List Int := [0, 1, 127, 128, 300, 16384, 2147483647, 2147483648, -1, 9223372036854775807]
set_option maxHeartbeats 400000 in
theorem drawPutNum_any (a : Option Addr) (len cap : Nat) (zs : List Int) (w : World) (hR : RdB w a len zs) (hlen : len ≤ 1048576) :
    Calls Try.prog 5 #[.slice a len cap] w fun e w' => (∃ y, y ∈ drawPutNumList ∧ e = .returned (.int .i64 y)) ∧ Below w.heap.size w w' := by
  have HR : Hid (RdB w a len zs) := hR
  clear hR
  go_enter Try.func5, Try.ntmps5
  go_wp2_with fail
  refine (l1New_any a len cap zs _ HR.out hlen).mono ?_
  rintro e w1 ⟨rfl, ⟨h, C⟩, b1⟩
  have HC : Hid (Cur w1 w.heap.size a len cap zs 0 h) := C
  have Hb : Hid (Below w.heap.size w w1) := b1
  have hlt : w.heap.size < w1.heap.size := World.block_lt_of_cell? _ _ C.c0
  clear C b1
  go_wp2_with fail
  refine (pickInt_any w.heap.size w1.heap.size _ a len cap zs 0 h drawPutNumList _ (HC.out.alloc _) hlen (fun j hj => lit_ints w1 drawPutNumList 3 j hj) (by omega) _ rfl (by decide) (by decide)).mono ?_
  rintro e w3 ⟨⟨y, hy, rfl⟩, g3⟩
  have Hy : Hid (y ∈ drawPutNumList) := hy
  have HB : Hid (Below w.heap.size w w3) := below_cur Hb.out rfl g3
  clear hy g3
  go_wp2
  go_ret
  exact ⟨⟨y, Hy.out, rfl⟩, HB.out⟩

/-- What is drawn. -/
def drawPutTextList : List ByteArray := [⟨#[]⟩, ⟨#[97]⟩, ⟨#[116, 119, 111, 32, 119, 111, 114, 100, 115]⟩, ⟨#[0, 255]⟩]
set_option maxHeartbeats 400000 in
theorem drawPutText_any (a : Option Addr) (len cap : Nat) (zs : List Int) (w : World) (hR : RdB w a len zs) (hlen : len ≤ 1048576) :
    Calls Try.prog 6 #[.slice a len cap] w fun e w' => (∃ y, y ∈ drawPutTextList ∧ e = .returned (.string y)) ∧ Below w.heap.size w w' := by
  have HR : Hid (RdB w a len zs) := hR
  clear hR
  go_enter Try.func6, Try.ntmps6
  go_wp2_with fail
  refine (l1New_any a len cap zs _ HR.out hlen).mono ?_
  rintro e w1 ⟨rfl, ⟨h, C⟩, b1⟩
  have HC : Hid (Cur w1 w.heap.size a len cap zs 0 h) := C
  have Hb : Hid (Below w.heap.size w w1) := b1
  have hlt : w.heap.size < w1.heap.size := World.block_lt_of_cell? _ _ C.c0
  clear C b1
  go_wp2_with fail
  refine (pickText_any w.heap.size w1.heap.size _ a len cap zs 0 h drawPutTextList _ (HC.out.alloc _) hlen (fun j hj => lit_texts w1 drawPutTextList 9 j hj) (by omega) _ rfl (by decide) (by decide)).mono ?_
  rintro e w3 ⟨⟨y, hy, rfl⟩, g3⟩
  have Hy : Hid (y ∈ drawPutTextList) := hy
  have HB : Hid (Below w.heap.size w w3) := below_cur Hb.out rfl g3
  clear hy g3
  go_wp2
  go_ret
  exact ⟨⟨y, Hy.out, rfl⟩, HB.out⟩
end Go.Proofs.Ytgoalcakfaellaa
