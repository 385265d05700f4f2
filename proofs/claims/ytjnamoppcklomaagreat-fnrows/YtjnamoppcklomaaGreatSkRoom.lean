/- What lies behind a list, up to its capacity. No statement of the seat is proved here. -/
import Derived.Test.YtjnamoppcklomaaGreatDrawSk
import Derived.Test.YtjnamoppcklomaaGreatSkLaw
namespace Go.Proofs.YtjnamoppcklomaaGreat
open Go.RowKit
theorem RdI.at {W : World} {b off n : Nat} {zs : List Int} {F : List Nat} (h : RdI W (some ⟨b, off, none⟩) n zs F) (j : Nat) (hj : j < n) : W.cell? ⟨b, off + j, none⟩ = some (.int .i64 (zs.getD j 0)) := by
 rcases h.cells with ⟨h0, _⟩ | ⟨b', off', _, he, _, hc⟩
 ·
  omega
 ·
  obtain ⟨rfl, rfl⟩ : b = b' ∧ off = off' := by simpa using he
  exact hc j hj
structure Room (W : World) (b o n k : Nat) : Prop where
 off : o = 0
 blk : ∃ cs, Blk W b cs 3 ∧ cs.size = k
 le : n ≤ k
 max : k ≤ maxLen
theorem Room.of_own {W : World} {lo b o n k : Nat} {xs : List Value} (hn : 0 < n) (h : W.ownsRow lo 3 1 (.slice (some ⟨b, o, none⟩) n k) n xs) : Room W b o n k := by
 rcases h.2 with ⟨_, h0⟩ | ⟨g, cap, cur, e, _, hg, h1, h2, h3, _⟩
 ·
  omega
 ·
  cases e
  exact ⟨rfl, ⟨cur, hg, by omega⟩, h1, h2⟩
theorem Room.agree {W W' : World} {b o n k : Nat} (h : Room W b o n k) (e : W'.heap[b]? = W.heap[b]?) : Room W' b o n k := by
 obtain ⟨cs, hb, hs⟩ := h.blk
 exact ⟨h.off, ⟨cs, hb.agree e, hs⟩, h.le, h.max⟩
theorem Room.set {W : World} {b o n k : Nat} (h : Room W b o n k) (b' j : Nat) (v : Value) : Room (W.setCell ⟨b', j, none⟩ v) b o n k := by
 by_cases e : b = b'
 ·
  subst e
  obtain ⟨cs, hb, hs⟩ := h.blk
  exact ⟨h.off, ⟨_, hb.set j v, by simpa using hs⟩, h.le, h.max⟩
 ·
  exact h.agree (Below.heap_setCell W ⟨b', j, none⟩ v b e)
theorem Room.lt {W : World} {b o n k : Nat} (h : Room W b o n k) : b < W.heap.size := by
 obtain ⟨cs, hb, _⟩ := h.blk
 exact hb.lt
theorem Room.below {W W' : World} {b o n k : Nat} (h : Room W b o n k) (hb : Below W.heap.size W W') : Room W' b o n k := h.agree (hb.block b h.lt)
theorem Room.grown {W W' : World} {b o n k q : Nat} (h : Room W b o n k) (hg : W.grownBy W' (some q)) (hq : b ≠ q) : Room W' b o n k := h.agree (hg.block b h.lt (fun e => hq (by simpa using e)))
theorem Room.to_own {W : World} {lo b o n k : Nat} {zs : List Int} {F : List Nat} (h : Room W b o n k) (r : RdI W (some ⟨b, o, none⟩) n zs F) (hl : lo ≤ b) : W.ownsRow lo 3 1 (.slice (some ⟨b, o, none⟩) n k) n (zs.map (Value.int .i64)) := by
 obtain ⟨rfl, ⟨cs, hb, hs⟩, h1, h2⟩ := h
 refine ⟨by rw [List.length_map, r.length]; omega, .inr ⟨b, k, cs, rfl, hl, hb, h1, h2, by omega, ?_⟩⟩
 apply List.ext_getElem?
 intro j
 by_cases hj : j < n
 ·
  have e := r.at j hj
  rw [hb.cell] at e
  rw [List.getElem?_take_of_lt (by omega), Array.getElem?_toList, ← Nat.zero_add j, e, Nat.zero_add, List.getElem?_map]
  have hz : j < zs.length := by rw [r.length]; exact hj
  rw [List.getElem?_eq_getElem hz, List.getD_eq_getElem?_getD, List.getElem?_eq_getElem hz]
  rfl
 ·
  rw [List.getElem?_eq_none (by rw [List.length_take]; omega), List.getElem?_eq_none (by rw [List.length_map, r.length]; omega)]
def RoomS (W : World) (a : Option Addr) (n k : Nat) (F : List Nat) : Prop := ∃ b o, a = some ⟨b, o, none⟩ ∧ F = [b] ∧ Room W b o n k
theorem RoomS.agree {W W' : World} {a : Option Addr} {n k : Nat} {F : List Nat} (h : RoomS W a n k F) (e : Agree W W' F) : RoomS W' a n k F := by
 obtain ⟨b, o, ha, rfl, hr⟩ := h
 exact ⟨b, o, ha, rfl, hr.agree (e b (by simp))⟩
theorem RoomS.below {W W' : World} {a : Option Addr} {n k : Nat} {F : List Nat} (h : RoomS W a n k F) (hb : Below W.heap.size W W') : RoomS W' a n k F := by
 obtain ⟨b, o, ha, rfl, hr⟩ := h
 exact ⟨b, o, ha, rfl, hr.below hb⟩
end Go.Proofs.YtjnamoppcklomaaGreat
