/- An append onto an empty literal within a region that draws. No statement of the seat is proved here. -/
import Derived.Deep.RegionLawGrows
import Derived.Test.YtjnamoppcklomaaGreatWhole
namespace Go.Proofs.YtjnamoppcklomaaGreat
open Go.RowKit
section
variable {P : Program} {ops : Array Oper} {Q : Exit → Act → World → Prop} {a : Act} {w : World} {o : Oper} {K : Act → World → Prop}
theorem op_grows (s x : Operand) (t : TypeId) (hg : o.guard = none) (hop : o.op = .call { callee := .builtin .append, args := #[s, x], argTypes := #[t, t] })
 (e : TypeId) (i : TypeInfo) (z : Value) (size bytes : Nat) (h1 : P.underlying t = some (.slice e)) (h2 : P.info? e = some i) (h3 : i.zero = some z) (h4 : i.size = size) (h5 : i.bytes = bytes) (h6 : z.cells.size = size) (h7 : 0 < size)
 (ao : Option Addr) (hs : a.eval s = .slice ao 0 0)
 (ad : Addr) (m c : Nat) (news : List Value) (hx : a.eval x = .slice (some ad) m c) (hn : news.length = m * size) (hc : ∀ j u, news[j]? = some u → w.cell? (ad.add j) = some u) (h1c : ∀ u ∈ news, u.oneCell' = true)
 (hm : 0 < m) (b1 : m ≤ maxLen) (b2 : m * bytes ≤ 140737488355328)
 (h : ∀ v' w', w'.ownsRow w.heap.size e size v' m news → Below w.heap.size w w' → ∃ a', a.put o.dst v' = a' ∧ K a' w') : if Region.wanted o (yielded ops a.tmps) = true then Oper.wp P o a w K Q else K (a.put o.dst undef) w := by
 refine step_append_grows hg s x t hop e i z size bytes h1 h2 h3 h4 h5 h6 h7 ao 0 0 [] hs (fun _ => ⟨rfl, rfl⟩) (by simp) (fun _ _ j u hj => by simp at hj) ad m c news hx hn hc h1c (by omega) (by omega) (by simpa using b2) ?_
 intro v' w' k1 k2
 obtain ⟨_, rfl, k3⟩ := h v' w' (by simpa using k1) ((Below.refl _ _).grown k2 (Nat.le_refl _) (fun g e => by cases e))
 exact k3
end
theorem cell_one7 (w : World) (x : Value) (t : TypeId) : ∀ j u, [x][j]? = some u → (w.alloc (.cells #[x] t)).cell? ((⟨w.heap.size, 0, none⟩ : Addr).add j) = some u
 | 0, u, hx => by
  obtain rfl : x = u := by simpa using hx
  simp [Addr.add]
 | j + 1, u, hx => by simp at hx
end Go.Proofs.YtjnamoppcklomaaGreat
