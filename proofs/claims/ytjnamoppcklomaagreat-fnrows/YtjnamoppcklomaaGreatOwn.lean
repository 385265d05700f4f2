/- Blocks that a reading goes through and that are the holder's own: pairwise unlike, none frozen, none elder than B. No statement of the seat is proved here. -/
import Derived.Test.YtjnamoppcklomaaGreatData
namespace Go.Proofs.YtjnamoppcklomaaGreat
open Go.RowKit
structure Own (B : Nat) (w : World) (F : List Nat) : Prop where
 nodup : F.Nodup
 free : ∀ b ∈ F, ∀ o, w.frozen? ⟨b, o, none⟩ = false
 ge : ∀ b ∈ F, B ≤ b
theorem Own.agree {B : Nat} {w w' : World} {F : List Nat} (h : Own B w F) (ha : Agree w w' F) : Own B w' F :=
 ⟨h.nodup, fun b hb o => (World.frozen?_of_block (w := w) (a := ⟨b, o, none⟩) (ha b hb)).trans (h.free b hb o), h.ge⟩
theorem Own.below {B : Nat} {w w' : World} {F : List Nat} (h : Own B w F) (hlt : ∀ b ∈ F, b < w.heap.size) (hb : Below w.heap.size w w') : Own B w' F := h.agree (.below hb hlt)
theorem Own.mono {B B' : Nat} {w : World} {F : List Nat} (h : Own B w F) (hB : B' ≤ B) : Own B' w F := ⟨h.nodup, h.free, fun b hb => Nat.le_trans hB (h.ge b hb)⟩
theorem Own.nil {B : Nat} {w : World} : Own B w [] := ⟨List.nodup_nil, by simp, by simp⟩
theorem Own.left {B : Nat} {w : World} {F G : List Nat} (h : Own B w (F ++ G)) : Own B w F :=
 ⟨(List.nodup_append.1 h.nodup).1, fun b hb => h.free b (List.mem_append_left _ hb), fun b hb => h.ge b (List.mem_append_left _ hb)⟩
theorem Own.right {B : Nat} {w : World} {F G : List Nat} (h : Own B w (F ++ G)) : Own B w G :=
 ⟨(List.nodup_append.1 h.nodup).2.1, fun b hb => h.free b (List.mem_append_right _ hb), fun b hb => h.ge b (List.mem_append_right _ hb)⟩
theorem Own.apart {B : Nat} {w : World} {F G : List Nat} (h : Own B w (F ++ G)) : ∀ b ∈ F, b ∉ G := fun b hb hg => (List.nodup_append.1 h.nodup).2.2 b hb b hg rfl
theorem Own.join {B C : Nat} {w : World} {F G : List Nat} (h : Own B w F) (k : Own C w G) (hlt : ∀ b ∈ F, b < C) (hB : B ≤ C) : Own B w (F ++ G) := by
 refine ⟨List.nodup_append.2 ⟨h.nodup, k.nodup, fun a ha b hb e => ?_⟩, fun b hb => ?_, fun b hb => ?_⟩
 ·
  subst e; have := hlt a ha; have := k.ge a hb; omega
 ·
  rcases List.mem_append.1 hb with h1 | h1
  ·
   exact h.free b h1
  ·
   exact k.free b h1
 ·
  rcases List.mem_append.1 hb with h1 | h1
  ·
   exact h.ge b h1
  ·
   exact Nat.le_trans hB (k.ge b h1)
theorem Own.app {B : Nat} {w : World} {F G : List Nat} (h : Own B w F) (k : Own B w G) (hd : ∀ b ∈ F, b ∉ G) : Own B w (F ++ G) :=
 ⟨List.nodup_append.2 ⟨h.nodup, k.nodup, fun a ha _ hb e => hd a ha (e ▸ hb)⟩, fun b hb => (List.mem_append.1 hb).elim (h.free b) (k.free b), fun b hb => (List.mem_append.1 hb).elim (h.ge b) (k.ge b)⟩
theorem RdI.of_own {w : World} {B e len cap g : Nat} {zs : List Int} (h : w.ownsRow B e 1 (.slice (some ⟨g, 0, none⟩) len cap) len (zs.map (Value.int .i64))) : ∃ F, RdI w (some ⟨g, 0, none⟩) len zs F ∧ Own B w F ∧ ∀ b ∈ F, b = g := by
 have hl : zs.length = len := by simpa using h.1
 by_cases h0 : len = 0
 ·
  exact ⟨[], ⟨hl, .inl ⟨h0, rfl⟩⟩, Own.nil, by simp⟩
 ·
  have hlt := h.lt g rfl
  refine ⟨[g], ⟨hl, .inr ⟨g, 0, by omega, rfl, rfl, fun i hi => ?_⟩⟩, ⟨by simp, fun b hb o => ?_, fun b hb => ?_⟩, by simp⟩
  ·
   rw [Nat.zero_add, h.cellAt i (by omega)]
   simp [List.getElem?_eq_getElem (show i < zs.length by omega)]
  ·
   obtain rfl : b = g := by simpa using hb
   exact h.frozenAt o
  ·
   obtain rfl : b = g := by simpa using hb
   exact hlt.1
theorem RdI.lt {w : World} {a : Option Addr} {len : Nat} {zs : List Int} {F : List Nat} (h : RdI w a len zs F) : ∀ b ∈ F, b < w.heap.size := by
 rcases h.cells with ⟨_, rfl⟩ | ⟨b, off, hp, _, rfl, hc⟩
 ·
  simp
 ·
  intro x hx
  obtain rfl : x = b := by simpa using hx
  exact World.block_lt_of_cell? _ _ (hc 0 hp)
theorem RdII.lt {w : World} {a : Option Addr} {len : Nat} {zss : List (List Int)} {F : List Nat} (h : RdII w a len zss F) : ∀ b ∈ F, b < w.heap.size :=
 (rd_intss.2 ⟨a, len, 0, rfl, h⟩ : Rd w (intss zss) (.slice a len 0) F).lt
theorem RdII.agree {w w' : World} {a : Option Addr} {len : Nat} {zss : List (List Int)} {F : List Nat} (h : RdII w a len zss F) (ha : Agree w w' F) : RdII w' a len zss F := by
 refine ⟨h.length, ?_⟩
 rcases h.cells with h0 | ⟨b, off, F', hp, e, rfl, hm⟩
 ·
  exact .inl h0
 ·
  exact .inr ⟨b, off, F', hp, e, rfl, hm.agree (ha b List.mem_cons_self) (fun x hx => ha x (List.mem_cons_of_mem _ hx))⟩
theorem RdII.below {w w' : World} {a : Option Addr} {len : Nat} {zss : List (List Int)} {F : List Nat} (h : RdII w a len zss F) (hb : Below w.heap.size w w') : RdII w' a len zss F := h.agree (.below hb h.lt)
theorem rdM_of_own {w : World} {g : Nat} : ∀ {cs : List Cl} {vs : List Value} {F : List Nat} (off : Nat), RdS w cs vs F → (∀ i, i < vs.length → w.cell? ⟨g, off + i, none⟩ = vs[i]?) → RdM w cs g off F
 | [], vs, F, off, h, _ => by rw [RdS] at h; rw [RdM]; exact h.2
 | c :: cs, vs, F, off, h, hc => by
  rw [RdS] at h
  obtain ⟨v, vs', F1, F2, rfl, h1, h2, rfl⟩ := h
  rw [RdM]
  refine ⟨v, F1, F2, by simpa using hc 0 (by simp), h1, rdM_of_own (off + 1) h2 (fun i hi => ?_), rfl⟩
  have := hc (i + 1) (by simpa using hi)
  rw [show off + 1 + i = off + (i + 1) by omega]; simpa using this
theorem RdS.length {w : World} : ∀ {cs : List Cl} {vs : List Value} {F : List Nat}, RdS w cs vs F → vs.length = cs.length
 | [], vs, F, h => by rw [RdS] at h; simp [h.1]
 | c :: cs, vs, F, h => by
  rw [RdS] at h
  obtain ⟨v, vs', F1, F2, rfl, h1, h2, rfl⟩ := h
  simp [RdS.length h2]
theorem RdS.snoc {w : World} : ∀ {cs : List Cl} {vs : List Value} {F : List Nat} {c : Cl} {v : Value} {G : List Nat}, RdS w cs vs F → Rd w c v G → RdS w (cs ++ [c]) (vs ++ [v]) (F ++ G)
 | [], vs, F, c, v, G, h, k => by
  rw [RdS] at h
  obtain ⟨rfl, rfl⟩ := h
  simp only [List.nil_append]
  rw [RdS]
  exact ⟨v, [], G, [], rfl, k, by simp [RdS], by simp⟩
 | c0 :: cs, vs, F, c, v, G, h, k => by
  rw [RdS] at h
  obtain ⟨v0, vs', F1, F2, rfl, h1, h2, rfl⟩ := h
  simp only [List.cons_append]
  rw [RdS]
  exact ⟨v0, vs' ++ [v], F1, F2 ++ G, rfl, h1, RdS.snoc h2 k, by simp⟩
end Go.Proofs.YtjnamoppcklomaaGreat
