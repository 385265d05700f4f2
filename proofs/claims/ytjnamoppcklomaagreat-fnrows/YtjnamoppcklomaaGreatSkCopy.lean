/- The walk through the model's copying of a summary. No statement of the seat is proved here. -/
import Derived.Test.YtjnamoppcklomaaGreatTallyB
import Derived.Test.YtjnamoppcklomaaGreatSkSum
import Derived.Test.YtjnamoppcklomaaGreatTallyS
import Derived.Test.YtjnamoppcklomaaGreatDrawSk
import Derived.Test.YtjnamoppcklomaaGreatSkRoom
namespace Go.Proofs.YtjnamoppcklomaaGreat
open Go.RowKit
structure Sk.full (s : Sk) : Prop where
 hist : 0 < s.hist.length ∧ s.hist.length ≤ 100
 regs : 0 < s.regs.length ∧ s.regs.length ≤ 100
 rows : s.rows.length ≤ 10
 row : ∀ z ∈ s.rows, 0 < z.length ∧ z.length ≤ 100
section
variable {P : Program} {ops : Array Oper} {Q : Exit → Act → World → Prop} {rest : List Oper} {a : Act} {w : World} {x y : Operand} {o : Oper}
theorem stopAppend {ts : Array TypeId} (_ho : o.op = .call { callee := .builtin .append, args := #[x, y], argTypes := ts }) (h : Stop (wpList P ops Q (o :: rest) a w)) : wpList P ops Q (o :: rest) a w := h
end
theorem RdI.addr {w : World} {a : Option Addr} {n : Nat} {zs : List Int} {F : List Nat} (h : RdI w a n zs F) (hp : 0 < n) : ∃ b off, a = some ⟨b, off, none⟩ := by
 rcases h.cells with ⟨h0, _⟩ | ⟨b, off, _, e, _⟩
 ·
  omega
 ·
  exact ⟨b, off, e⟩
theorem RdI.from {w W : World} {b off n : Nat} {zs : List Int} {F : List Nat} (h : RdI w (some ⟨b, off, none⟩) n zs F) (hb : Below w.heap.size w W) (hp : 0 < n) : ∀ j v, (zs.map (Value.int .i64))[j]? = some v → W.cell? ((⟨b, off, none⟩ : Addr).add j) = some v := by
 obtain ⟨ad, e, hs⟩ := h.src hb hp
 cases e
 exact hs
theorem room_of_own {W : World} {lo n k : Nat} {a : Option Addr} {xs : List Value} {zs : List Int} {F : List Nat} (h : W.ownsRow lo 3 1 (.slice a n k) n xs) (r : RdI W a n zs F) (hn : 0 < n) : RoomS W a n k F := by
 rcases r.cells with ⟨h0, _⟩ | ⟨b, off, _, rfl, rfl, _⟩
 ·
  omega
 ·
  exact ⟨b, off, rfl, rfl, Room.of_own hn h⟩
def Roomy (W : World) (v : Value) : Prop := ∃ x0 x1 x2 x3 a1 n1 k1 F x5 a3 n3 k3, v = .agg #[x0, x1, x2, x3, .slice a1 n1 k1, x5, .slice a3 n3 k3] ∧ RoomS W a1 n1 k1 F ∧ n3 ≤ k3
theorem Roomy.below {W W' : World} {v : Value} (h : Roomy W v) (hb : Below W.heap.size W W') : Roomy W' v := by
 obtain ⟨x0, x1, x2, x3, a1, n1, k1, F, x5, a3, n3, k3, e, r, k⟩ := h
 exact ⟨x0, x1, x2, x3, a1, n1, k1, F, x5, a3, n3, k3, e, r.below hb, k⟩
structure RdR (W : World) (v : Value) (s : Sk) (F : List Nat) : Prop where
 sk : RdSk W v s F
 rm : ∃ x0 x1 x2 x3 a1 n1 k1 F' x5 a3 n3 k3, v = .agg #[x0, x1, x2, x3, .slice a1 n1 k1, x5, .slice a3 n3 k3] ∧ RoomS W a1 n1 k1 F' ∧ (∀ b ∈ F', b ∈ F) ∧ n3 ≤ k3
theorem RdR.cells {W : World} {v : Value} {s : Sk} {F : List Nat} (h : RdR W v s F) : ∃ cs, v = .agg cs ∧ cs.size = 7 ∧ cs.all (·.oneCell') = true := h.sk.cells
theorem RdR.lt {W : World} {v : Value} {s : Sk} {F : List Nat} (h : RdR W v s F) : ∀ b ∈ F, b < W.heap.size := h.sk.lt
theorem RdR.agree {W W' : World} {v : Value} {s : Sk} {F : List Nat} (h : RdR W v s F) (g : Agree W W' F) : RdR W' v s F := by
 obtain ⟨x0, x1, x2, x3, a1, n1, k1, F', x5, a3, n3, k3, e, r, m, k⟩ := h.rm
 exact ⟨h.sk.agree g, x0, x1, x2, x3, a1, n1, k1, F', x5, a3, n3, k3, e, r.agree (fun b hb => g b (m b hb)), m, k⟩
theorem RdR.below {W W' : World} {v : Value} {s : Sk} {F : List Nat} (h : RdR W v s F) (b : Below W.heap.size W W') : RdR W' v s F := h.agree (fun j hj => b.block j (h.lt j hj))
theorem RdR.room {W : World} {v : Value} {s : Sk} {F : List Nat} (h : RdR W v s F) : Roomy W v := by
 obtain ⟨x0, x1, x2, x3, a1, n1, k1, F', x5, a3, n3, k3, e, r, _, k⟩ := h.rm
 exact ⟨x0, x1, x2, x3, a1, n1, k1, F', x5, a3, n3, k3, e, r, k⟩
def CopyS (w : World) (A : Array Value) (W : World) : Prop := Blk W w.heap.size A 31 ∧ Below w.heap.size w W
section
variable {P : Program} (w : World)
theorem op_append {ops : Array Oper} {o : Oper} {a : Act} {K : Act → World → Prop} {Q : Exit → Act → World → Prop} {E : Prop} (hgd : o.guard = none) (s x : Operand) (t : TypeId)
 (ho : o.op = .call { callee := .builtin .append, args := #[s, x], argTypes := #[t, t] })
 (base : Nat) (e : TypeId) (i : TypeInfo) (z : Value) (size bytes : Nat) (ht : P.underlying t = some (.slice e)) (hi : P.info? e = some i) (hz : i.zero = some z)
 (hsize : i.size = size) (hby : i.bytes = bytes) (hzs : z.cells.size = size) (hsz : 0 < size)
 (v : Value) (n : Nat) (xs : List Value) (hs : a.eval s = v) (hown : w.ownsRow base e size v n xs)
 (ad : Addr) (m c : Nat) (news : List Value) (hx : a.eval x = .slice (some ad) m c) (hl : news.length = m * size) (hnews : ∀ j u, news[j]? = some u → w.cell? (ad.add j) = some u) (h1 : ∀ u ∈ news, u.oneCell' = true)
 (hm : 0 < m) (h63 : n + m ≤ maxLen) (hbytes : (n + m) * bytes ≤ 140737488355328) (hbase : base ≤ w.heap.size) (H : Nat) (hH : w.heap.size = H)
 (h : ∀ g cap w', w'.ownsRow base e size (.slice (some ⟨g, 0, none⟩) (n + m) cap) (n + m) (xs ++ news) → w.grownBy w' v.ownBlock → (v.ownBlock = some g ∨ g = H) → g < w'.heap.size → ∃ a', a.put o.dst (.slice (some ⟨g, 0, none⟩) (n + m) cap) = a' ∧ K a' w') :
 if Region.wanted o (yielded ops a.tmps) = true then Oper.wp P o a w K Q else E :=
 step_append_lies w hgd s x t ho base e i z size bytes ht hi hz hsize hby hzs hsz v n xs hs hown ad m c news hx hl hnews h1 hm h63 hbytes hbase H hH (fun g cap w' p1 p2 p3 p4 => by obtain ⟨_, rfl, hk⟩ := h g cap w' p1 p2 p3 p4; exact hk)
end
section
variable {w W W' : World} {A : Array Value} {s : Sk} {x1 x2 : Value} {a1 a2 : Option Addr} {n1 n2 d1 d2 : Nat} {F1 F2 : List Nat} {lo k : Nat} {v : Value} {vs : List Value} {G : List Nat}
end
def NewRoom (w : World) (s : Sk) (e : Ending) (w' : World) : Prop := ∃ v F, e = .returned v ∧ RdSk w' v s F ∧ Own w.heap.size w' F ∧ Below w.heap.size w w' ∧ Roomy w' v
end Go.Proofs.YtjnamoppcklomaaGreat
