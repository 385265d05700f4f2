/- The walks through the draws of chapter 2. No statement of the seat is proved here. -/
import Derived.Test.YtdinhhfdhlfgpaaDrawPick
namespace Go.Proofs.Ytdinhhfdhlfgpaa
open Go.RowKit

def I64 (n : Int) : Prop := -9223372036854775808 ≤ n ∧ n ≤ 9223372036854775807
def l2List (p q : Int) : List Int := [0, 1, 5, 7, 8, 63, 64, 999999, 1000000, 1000001, 999999999, 1000000000, -1, 9223372036854775807, -9223372036854775808, p, q]
theorem l2List_range (p q y : Int) (hp : I64 p) (hq : I64 q) (h : y ∈ l2List p q) : I64 y := by
  simp only [l2List, List.mem_cons, List.not_mem_nil, or_false] at h
  unfold I64 at *
  omega
theorem mul_byte (x y : Int) (hx0 : 0 ≤ x) (hx1 : x ≤ 255) (hy0 : 0 ≤ y) (hy1 : y ≤ 255) : 0 ≤ x * y ∧ x * y ≤ 65025 := by
  have h1 := Int.mul_nonneg hx0 hy0
  have h2 := Int.mul_le_mul hx1 hy1 hy0 (by omega : (0 : Int) ≤ 255)
  omega
/-- What the drawing of a number tells. -/
def Drew (w : World) (g : Nat) (a : Option Addr) (len cap : Nat) (zs : List Int) (e : Ending) (w' : World) : Prop :=
  ∃ y i' h', e = .returned (.int .i64 y) ∧ I64 y ∧ Cur w' g a len cap zs i' h' ∧ w.grownBy w' (some g)
set_option maxHeartbeats 400000 in
theorem l2Num_any (g : Nat) (a : Option Addr) (len cap : Nat) (zs : List Int) (i h : Int) (w : World) (C : Cur w g a len cap zs i h) (hlen : len ≤ 1048576) :
    Calls Try.prog 31 #[.pointer (some ⟨g, 0, none⟩)] w fun e w' => Drew w g a len cap zs e w' := by
  have HC : Hid (Cur w g a len cap zs i h) := C
  clear C
  go_enter Try.func31, Try.ntmps31
  go_wp2_with fail
  refine (l1Byte_any g a len cap zs i h _ HC.out hlen).mono ?_
  rintro e w1 ⟨x1, i1, h1, rfl, x10, x11, C1, g1⟩
  clear HC
  have HC1 : Hid (Cur w1 g a len cap zs i1 h1) := C1
  have HG1 : Hid (w.grownBy w1 (some g)) := g1
  clear C1 g1
  go_wp2_with fail
  refine (l1Byte_any g a len cap zs i1 h1 _ HC1.out hlen).mono ?_
  rintro e w2 ⟨x2, i2, h2, rfl, x20, x21, C2, g2⟩
  clear HC1
  have HC2 : Hid (Cur w2 g a len cap zs i2 h2) := C2
  have HG2 : Hid (w.grownBy w2 (some g)) := grown_tr HG1.out g2
  clear C2 g2 HG1
  go_wp2_with fail
  refine (l1Byte_any g a len cap zs i2 h2 _ HC2.out hlen).mono ?_
  rintro e w3 ⟨x3, i3, h3, rfl, x30, x31, C3, g3⟩
  clear HC2
  have HC3 : Hid (Cur w3 g a len cap zs i3 h3) := C3
  have HG3 : Hid (w.grownBy w3 (some g)) := grown_tr HG2.out g3
  have hlt : g < w3.heap.size := World.block_lt_of_cell? _ _ C3.c0
  clear C3 g3 HG2
  have hm := mul_byte x2 x3 x20 x21 x30 x31
  obtain ⟨m, hM⟩ : ∃ m, m = x2 * x3 := ⟨_, rfl⟩
  have hr : ∀ y, y ∈ l2List (x1 * 37) (x2 * x3) → I64 y := fun y hy => l2List_range _ _ y (by unfold I64; omega) (by unfold I64; omega) hy
  have HR : Hid (∀ y, y ∈ l2List (x1 * 37) (x2 * x3) → I64 y) := hr
  clear hr hM
  go_wp2_with fail
  refine (pickInt_cur g w3.heap.size _ a len cap zs i3 h3 (l2List (x1 * 37) (x2 * x3)) _ (HC3.out.alloc _) hlen (fun j hj => lit_ints w3 (l2List (x1 * 37) (x2 * x3)) 3 j hj) (by omega) _ rfl (by simp [l2List]) (by simp [l2List])).mono ?_
  rintro e w5 ⟨y, i5, h5, hy, rfl, C5, g5⟩
  have HY := HR.out y hy
  have HY : Hid (I64 y) := HR.out y hy
  have HC5 : Hid (Cur w5 g a len cap zs i5 h5) := C5
  have HG5 : Hid (w.grownBy w5 (some g)) := grown_tr (grown_tr HG3.out (World.grownBy_alloc _ _ _)) g5
  clear hy C5 g5 HG3 HR HC3
  go_wp2
  go_ret
  exact ⟨y, i5, h5, rfl, HY.out, HC5.out, HG5.out⟩
/-- What the drawing of two numbers tells. -/
def Drew2 (w : World) (e : Ending) (w' : World) : Prop :=
  ∃ y z, e = .returned (.tuple #[.int .i64 y, .int .i64 z]) ∧ I64 y ∧ I64 z ∧ Below w.heap.size w w'
theorem drawAdd_any (a : Option Addr) (len cap : Nat) (zs : List Int) (w : World) (hR : RdB w a len zs) (hlen : len ≤ 1048576) :
    Calls Try.prog 15 #[.slice a len cap] w fun e w' => Drew2 w e w' := by
  have HR : Hid (RdB w a len zs) := hR
  clear hR
  go_enter Try.func15, Try.ntmps15
  go_wp2_with fail
  refine (l1New_any a len cap zs _ HR.out hlen).mono ?_
  rintro e w1 ⟨rfl, ⟨h, C⟩, b1⟩
  have HC : Hid (Cur w1 w.heap.size a len cap zs 0 h) := C
  have HB : Hid (Below w.heap.size w w1) := b1
  clear C b1 HR
  go_wp2_with fail
  refine (l2Num_any w.heap.size a len cap zs 0 h _ HC.out hlen).mono ?_
  rintro e w2 ⟨y, i2, h2, rfl, hy, C2, g2⟩
  have HC2 : Hid (Cur w2 w.heap.size a len cap zs i2 h2) := C2
  have HB2 : Hid (Below w.heap.size w w2) := HB.out.grown g2 (Nat.le_trans HB.out.size (Nat.le_refl _)) (fun k hk => by simp at hk; omega)
  have HY : Hid (I64 y) := hy
  clear C2 g2 HB HC hy
  go_wp2_with fail
  refine (l2Num_any w.heap.size a len cap zs i2 h2 _ HC2.out hlen).mono ?_
  rintro e w3 ⟨z, i3, h3, rfl, hz, C3, g3⟩
  have HB3 : Hid (Below w.heap.size w w3) := HB2.out.grown g3 (Nat.le_trans HB2.out.size (Nat.le_refl _)) (fun k hk => by simp at hk; omega)
  have HZ : Hid (I64 z) := hz
  clear C3 g3 HB2 HC2 hz
  go_wp2
  go_ret2
  exact ⟨y, z, rfl, HY.out, HZ.out, HB3.out⟩
end Go.Proofs.Ytdinhhfdhlfgpaa
