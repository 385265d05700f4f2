/- The walks through the model's drawing of sets. No statement of the seat is proved here. -/
import Derived.Test.YtjiciigaeeibgabDoorSpJoin2
import Derived.Test.YtjiciigaeeibgabDoorDrawPick
namespace Go.Proofs.YtjiciigaeeibgabDoor
open Go.RowKit
theorem grow_below {w w' : World} (g : Nat) (b : Below w.heap.size w w') : w.grownBy w' (some g) := ⟨b.os, b.tape, b.output, b.size, fun k hk _ => b.block k hk⟩
theorem ownsKeep {w w' : World} {B e size g : Nat} {v : Value} {n : Nat} {xs : List Value} (h : w.ownsRow B e size v n xs) (k : w.grownBy w' (some g)) (hg : g < B) : w'.ownsRow B e size v n xs := by
  refine ⟨h.1, ?_⟩
  rcases h.2 with e | ⟨b, cap, cur, h1, h2, h3, h4⟩
  · exact .inl e
  · refine .inr ⟨b, cap, cur, h1, h2, ?_, h4⟩
    have hb : b < w.heap.size := by
      by_cases hb : b < w.heap.size
      · exact hb
      · rw [Array.getElem?_eq_none (by omega)] at h3; cases h3
    rw [k.block b hb (fun e => by simp at e; omega)]
    exact h3
theorem ownsBelow {w w' : World} {B e size : Nat} {v : Value} {n : Nat} {xs : List Value} (h : w.ownsRow B e size v n xs) (k : Below w.heap.size w w') : w'.ownsRow B e size v n xs := by
  refine ⟨h.1, ?_⟩
  rcases h.2 with e | ⟨b, cap, cur, h1, h2, h3, h4⟩
  · exact .inl e
  · refine .inr ⟨b, cap, cur, h1, h2, ?_, h4⟩
    have hb : b < w.heap.size := by
      by_cases hb : b < w.heap.size
      · exact hb
      · rw [Array.getElem?_eq_none (by omega)] at h3; cases h3
    rw [k.block b hb]
    exact h3
theorem RdP.grown {w W : World} {B q : Nat} {a : Option Addr} {len : Nat} {ps : Sp} {F : List Nat} (h : RdP w a len ps F) (hF : ∀ b ∈ F, B ≤ b) (k : w.grownBy W (some q)) (hq : q < B) : RdP W a len ps F := h.agree (fun b hb => k.block b (h.lt b hb) (fun e => by have := hF b hb; simp at e; omega))
theorem once_any (g : Nat) (a : Option Addr) (len cap : Nat) (zs : List Int) (i h : Int) (n : Int) (w : World) (C : Cur w g a len cap zs i h) (hlen : len ≤ 1048576) (hn : 0 < n) (hn' : n ≤ 2147483647) :
    Calls Tryd.prog 46 #[.pointer (some ⟨g, 0, none⟩), .int .i64 n] w fun e w' => ∃ b i' h', e = .returned (.bool b) ∧ Cur w' g a len cap zs i' h' ∧ w.grownBy w' (some g) := by
  have HC : Hid (Cur w g a len cap zs i h) := C
  clear C
  go_enter Tryd.func46, Tryd.ntmps46
  go_wp2_with fail
  refine (l1Below_any g a len cap zs i h n _ HC.out hlen hn hn').mono ?_
  rintro e w1 ⟨x, i1, h1, rfl, _, _, C1, g1⟩
  have HC1 : Hid (Cur w1 g a len cap zs i1 h1 ∧ w.grownBy w1 (some g)) := ⟨C1, g1⟩
  clear C1 g1
  go_wp2
  go_ret
  exact ⟨_, i1, h1, rfl, HC1.out.1, HC1.out.2⟩
/-- Midway in a drawing: the set so far, the cursor. -/
structure DrP (w : World) (q : Nat) (a : Option Addr) (len cap : Nat) (zs : List Int) (v : Value) (ps : Sp) (W : World) : Prop where
  own : W.ownsRow w.heap.size 39 2 v ps.length ((flat ps).map (Value.int .i64))
  cur : ∃ i h, Cur W q a len cap zs i h
  grown : w.grownBy W (some q)
  lt : q < w.heap.size
theorem DrP.next {w : World} {q : Nat} {a : Option Addr} {len cap : Nat} {zs : List Int} {v : Value} {ps : Sp} {W W' : World} {i h : Int} (D : DrP w q a len cap zs v ps W) (C : Cur W' q a len cap zs i h) (g : W.grownBy W' (some q)) : DrP w q a len cap zs v ps W' :=
  ⟨ownsKeep D.own g D.lt, ⟨i, h, C⟩, grown_tr D.grown g, D.lt⟩
theorem DrP.below {w : World} {q : Nat} {a : Option Addr} {len cap : Nat} {zs : List Int} {v : Value} {ps : Sp} {W W' : World} (D : DrP w q a len cap zs v ps W) (b : Below W.heap.size W W') : DrP w q a len cap zs v ps W' := by
  obtain ⟨i, h, C⟩ := D.cur
  exact ⟨ownsBelow D.own b, ⟨i, h, C.keep b⟩, grown_tr D.grown (grow_below q b), D.lt⟩
theorem DrP.alloc {w : World} {q : Nat} {a : Option Addr} {len cap : Nat} {zs : List Int} {v : Value} {ps : Sp} {W : World} (D : DrP w q a len cap zs v ps W) (o : Obj) : DrP w q a len cap zs v ps (W.alloc o) := D.below (Below.allocW _ (Below.refl _ _) (Nat.le_refl _))
/-- What a drawing of a set tells. -/
def DrewP (w : World) (q : Nat) (a : Option Addr) (len cap : Nat) (zs : List Int) (n : Nat) (e : Ending) (w' : World) : Prop := ∃ v ps, e = .returned v ∧ DrP w q a len cap zs v ps w' ∧ ps.length ≤ n ∧ v ≠ .slice none 0 0
theorem list3 {x y z u : Int} (h : u ∈ [x, y, z]) : u = x ∨ u = y ∨ u = z := by simpa using h
theorem put_ne (W : World) (B e n : Nat) (v : Value) (xs : List Value) (h : W.ownsRow B e 2 v n xs) (hn : 0 < n) : v ≠ .slice none 0 0 := by
  rcases h.2 with ⟨_, h0⟩ | ⟨b, cap, cur, h1, _⟩
  · omega
  · rw [h1]; intro e; cases e
theorem put_pos : ∀ (ps : Sp) (x : Int × Int), 0 < (put ps x false).length
  | [], x => by simp [put]
  | p :: ps, x => by
    rw [put]
    split
    · simp
    · split
      · simp
      · exact put_pos ps _
set_option maxRecDepth 100000 in
set_option maxHeartbeats 4000000 in
theorem l5Right_any (q : Nat) (a : Option Addr) (len cap : Nat) (zs : List Int) (i h : Int) (w : World) (C : Cur w q a len cap zs i h) (hlen : len ≤ 1048576) :
    Calls Tryd.prog 45 #[.pointer (some ⟨q, 0, none⟩)] w fun e w' => DrewP w q a len cap zs 7 e w' := by
  have hq : q < w.heap.size := World.block_lt_of_cell? _ _ C.c0
  have HD0 : Hid (DrP w q a len cap zs (.slice (some ⟨w.heap.size, 0, none⟩) 0 0) [] (w.alloc (.cells #[] 39))) := ⟨own_empty2 w _, ⟨i, h, C.alloc _⟩, grow_below q ((Below.refl _ _).alloc (Nat.le_refl _) _), hq⟩
  have HC0 : Hid (Cur (w.alloc (.cells #[] 39)) q a len cap zs i h) := C.alloc _
  clear C
  go_enter Tryd.func45, Tryd.ntmps45
  go_wp2_with fail
  refine (l1Below_any q a len cap zs i h 7 _ HC0.out hlen (by omega) (by omega)).mono ?_
  rintro e w1 ⟨m, i1, h1, rfl, m0, m1, C1, g1⟩
  have HD1 : Hid (DrP w q a len cap zs (.slice (some ⟨w.heap.size, 0, none⟩) 0 0) [] w1) := HD0.out.next C1 g1
  clear C1 g1 HD0 HC0
  go_wp2
  go_loopw [3, 5] (fun v i wr => ∃ (k : Nat) (ps : Sp), (k : Int) ≤ m ∧ i = .int .i64 k ∧ ps.length ≤ k ∧ Hid (DrP w q a len cap zs v ps wr ∧ v ≠ .slice none 0 0) ∧ Hid (∀ p ∈ ps, InB p)) (fun _ i _ => (m - intOf i).toNat)
  case atStart => exact ⟨0, [], by omega, rfl, by simp, ⟨HD1.out, fun e => by cases e⟩, by intro p hp; simp at hp⟩
  case round =>
    clear HD1
    obtain ⟨k, ps, hk, rfl, hpl, HD, HIN⟩ := hrel
    by_cases hlt : (k : Int) < m
    · have hcd : decide ((k : Int) < m) = true := decT hlt
      obtain ⟨i2, h2, C2⟩ := HD.out.1.cur
      go_wp2_with fail
      refine (l1Below_any q a len cap zs i2 h2 20 _ C2 hlen (by omega) (by omega)).mono ?_
      rintro e w2 ⟨x1, i3, h3, rfl, x10, x11, C3, g3⟩
      have HD2 : Hid (DrP w q a len cap zs u3 ps w2) := HD.out.1.next C3 g3
      clear g3 C2
      go_wp2_with fail
      refine (l1Below_any q a len cap zs i3 h3 20 _ C3 hlen (by omega) (by omega)).mono ?_
      rintro e w3 ⟨x2, i4, h4, rfl, x20, x21, C4, g4⟩
      have HD3 : Hid (DrP w q a len cap zs u3 ps w3) := HD2.out.next C4 g4
      clear g4 C3 HD2
      go_wp2_with fail
      refine (l1Below_any q a len cap zs i4 h4 10 _ C4 hlen (by omega) (by omega)).mono ?_
      rintro e w4 ⟨x3, i5, h5, rfl, x30, x31, C5, g5⟩
      have HD4 : Hid (DrP w q a len cap zs u3 ps w4) := HD3.out.next C5 g5
      have HC5 : Hid (Cur w4 q a len cap zs i5 h5) := C5
      clear g5 C4 C5 HD3
      go_wp2_with fail
      have hqw4 : q < w4.heap.size := World.block_lt_of_cell? _ _ HC5.out.c0
      refine (pickInt_cur q w4.heap.size 3 a len cap zs i5 h5 [x1, x2, 9990 + x3] _ (HC5.out.alloc _) hlen (fun j hj => lit_ints w4 [x1, x2, 9990 + x3] _ j hj) (by omega) 3 rfl (by omega) (by omega)).mono ?_
      rintro e w5 ⟨y, i6, h6, hy, rfl, C6, g6⟩
      have HD5 : Hid (DrP w q a len cap zs u3 ps w5) := (HD4.out.alloc _).next C6 g6
      have HC6 : Hid (Cur w5 q a len cap zs i6 h6) := C6
      have hy3 := list3 hy
      have y0 : 0 ≤ y := by omega
      have y1 : y ≤ 9999 := by omega
      clear g6 C6 HD4 HC5 hy hy3 x10 x11 x20 x21 x30 x31 hqw4
      go_wp2_with fail
      refine (l1Below_any q a len cap zs i6 h6 3 _ HC6.out hlen (by omega) (by omega)).mono ?_
      rintro e w6 ⟨z, i7, h7, rfl, z0, z1, C7, g7⟩
      have HD6 : Hid (DrP w q a len cap zs u3 ps w6) := HD5.out.next C7 g7
      clear g7 C7 HD5 HC6
      go_wp2_with fail
      refine (l1Min_any _ _ _).mono ?_
      rintro e w7 ⟨rfl, hw7⟩
      have hw7' := hw7.symm
      subst hw7'
      clear hw7
      obtain ⟨t, ht⟩ : ∃ t, t = min (y + z) 9999 := ⟨_, rfl⟩
      rw [← ht]
      have HT : Hid (InB (y, t)) := by rw [ht]; exact ⟨⟨y0, y1⟩, by simp only; omega, by simp only; omega⟩
      clear ht
      obtain ⟨a', c', F', hv, hr, ho, hnn⟩ := rdP_of_own HD6.out.own
      have HV : Hid (u3 = .slice a' ps.length c' ∧ RdP w6 a' ps.length ps F') := ⟨hv, hr⟩
      clear hr ho hnn
      subst hv
      go_wp2_with fail
      refine (l5Put_own a' ps.length c' ps (y, t) F' _ HV.out.2 (by omega) (fun k hk => HIN.out _ (Sp.at_mem hk)) HT.out).mono ?_
      rintro e w8 ⟨v8, rfl, own8, bel8⟩
      have HD8 : Hid (DrP w q a len cap zs v8 (put ps (y, t) false) w8 ∧ v8 ≠ .slice none 0 0) := by
        have := HD6.out.below bel8
        exact ⟨⟨own_mono own8 HD6.out.grown.size, this.cur, this.grown, this.lt⟩, put_ne _ _ _ _ _ _ own8 (put_pos _ _)⟩
      have HIN8 : Hid (∀ p ∈ put ps (y, t) false, InB p) := put_inb HIN.out HT.out
      have hpl8 := put_length ps (y, t) false
      clear own8 bel8 HD6 HV
      go_wp2
      go_roundw
      case rel => exact ⟨k + 1, put ps (y, t) false, by omega, by go_num, by omega, HD8, HIN8⟩
      case measure => simp [intOf]; omega
    · have hcd : decide ((k : Int) < m) = false := decF hlt
      go_wp2
      go_ret
      exact ⟨_, ps, rfl, HD.out.1, by omega, HD.out.2⟩
end Go.Proofs.YtjiciigaeeibgabDoor
