/- The walks through the model's drawing of sets. No statement of the seat is proved here. -/
import Derived.Test.YthimjmkdcocofaaSpJoin2
import Derived.Test.YthimjmkdcocofaaDrawPick
namespace Go.Proofs.Ythimjmkdcocofaa
open Go.RowKit
theorem grow_below {w w' : World} (g : Nat) (b : Below w.heap.size w w') : w.grownBy w' (some g) := ⟨b.os, b.tape, b.output, b.size, fun k hk _ => b.block k hk⟩
theorem ownsKeep {w w' : World} {B e size g : Nat} {v : Value} {n : Nat} {xs : List Value} (h : w.ownsRow B e size v n xs) (k : w.grownBy w' (some g)) (hg : g < B) : w'.ownsRow B e size v n xs := by
  refine ⟨h.1, ?_⟩
  rcases h.2 with e | ⟨b, cap, cur, h1, h2, h3, h4⟩
  · exact .inl e
  · refine .inr ⟨b, cap, cur, h1, h2, ?_, h4⟩
    have hb : b < w.heap.size := by
      by_cases hb : b < w.heap.size
      · exact hb
      · rw [Array.getElem?_eq_none (by omega)] at h3; cases h3
    rw [k.block b hb (fun e => by simp at e; omega)]
    exact h3
theorem ownsBelow {w w' : World} {B e size : Nat} {v : Value} {n : Nat} {xs : List Value} (h : w.ownsRow B e size v n xs) (k : Below w.heap.size w w') : w'.ownsRow B e size v n xs := by
  refine ⟨h.1, ?_⟩
  rcases h.2 with e | ⟨b, cap, cur, h1, h2, h3, h4⟩
  · exact .inl e
  · refine .inr ⟨b, cap, cur, h1, h2, ?_, h4⟩
    have hb : b < w.heap.size := by
      by_cases hb : b < w.heap.size
      · exact hb
      · rw [Array.getElem?_eq_none (by omega)] at h3; cases h3
    rw [k.block b hb]
    exact h3
set_option maxRecDepth 200000 in
theorem RdP.grown {w W : World} {B q : Nat} {a : Option Addr} {len : Nat} {ps : Sp} {F : List Nat} (h : RdP w a len ps F) (hF : ∀ b ∈ F, B ≤ b) (k : w.grownBy W (some q)) (hq : q < B) : RdP W a len ps F := h.agree (fun b hb => k.block b (h.lt b hb) (fun e => by have := hF b hb; simp at e; omega))
set_option maxRecDepth 200000 in
theorem once_any (g : Nat) (a : Option Addr) (len cap : Nat) (zs : List Int) (i h : Int) (n : Int) (w : World) (C : Cur w g a len cap zs i h) (hlen : len ≤ 1048576) (hn : 0 < n) (hn' : n ≤ 2147483647) :
    Calls Try.prog 43 #[.pointer (some ⟨g, 0, none⟩), .int .i64 n] w fun e w' => ∃ b i' h', e = .returned (.bool b) ∧ Cur w' g a len cap zs i' h' ∧ w.grownBy w' (some g) := by
  have HC : Hid (Cur w g a len cap zs i h) := C
  clear C
  go_enter Try.func43, Try.ntmps43
  go_wp2_with fail
  refine (l1Below_any g a len cap zs i h n _ HC.out hlen hn hn').mono ?_
  rintro e w1 ⟨x, i1, h1, rfl, _, _, C1, g1⟩
  have HC1 : Hid (Cur w1 g a len cap zs i1 h1 ∧ w.grownBy w1 (some g)) := ⟨C1, g1⟩
  clear C1 g1
  go_wp2
  go_ret
  exact ⟨_, i1, h1, rfl, HC1.out.1, HC1.out.2⟩
theorem fit_of_inb {ps : Sp} (h : ∀ p ∈ ps, InB p) : ps.fit := fun p hp => by
  have q := h p hp
  exact ⟨⟨by have := q.1.1; omega, by have := q.1.2; omega⟩, ⟨by have := q.2.1; have := q.1.1; omega, by have := q.2.2; omega⟩⟩
theorem list3 {x y z u : Int} (h : u ∈ [x, y, z]) : u = x ∨ u = y ∨ u = z := by simpa using h
theorem put_ne (W : World) (B e n : Nat) (v : Value) (xs : List Value) (h : W.ownsRow B e 2 v n xs) (hn : 0 < n) : v ≠ .slice none 0 0 := by
  rcases h.2 with ⟨_, h0⟩ | ⟨b, cap, cur, h1, _⟩
  · omega
  · rw [h1]; intro e; cases e
theorem put_pos : ∀ (ps : Sp) (x : Int × Int), 0 < (put ps x false).length
  | [], x => by simp [put]
  | p :: ps, x => by
    rw [put]
    split
    · simp
    · split
      · simp
      · exact put_pos ps _
end Go.Proofs.Ythimjmkdcocofaa
