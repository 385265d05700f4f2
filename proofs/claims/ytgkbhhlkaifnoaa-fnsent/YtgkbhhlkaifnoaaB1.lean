/- Several texts of mine, laid together. No statement of the seat is proved here. -/
import Derived.Test.YtgkbhhlkaifnoaaDrawSk
import Derived.Test.YtgkbhhlkaifnoaaSkLaw
import Derived.Test.YtgkbhhlkaifnoaaTallyB
import Derived.Test.YtgkbhhlkaifnoaaSkSum
import Derived.Test.YtgkbhhlkaifnoaaTallyS
import Derived.Test.YtgkbhhlkaifnoaaFrModel
import Derived.Test.YtgkbhhlkaifnoaaPutNum
import Derived.WalkKit
import Derived.Laws.BitsAllLaws
import Derived.Test.YtgkbhhlkaifnoaaBase
import Derived.Defers
import Derived.Recover
import Derived.Laws.Pointers
import Derived.Lib.SlBytesConst
import Derived.ArgAppend
import Derived.Deep.RegionLawGrows
import Derived.Test.YtgkbhhlkaifnoaaItHelp
import Derived.Test.YtgkbhhlkaifnoaaLstCopy
import Derived.Test.YtgkbhhlkaifnoaaSpModel
import Derived.Laws.CopyOwn
import Derived.OrdersHeld
import Derived.Laws.AppendOwnNone
import Derived.Test.YtgkbhhlkaifnoaaAgData
import Derived.Test.YtgkbhhlkaifnoaaAgOk
import Derived.Test.YtgkbhhlkaifnoaaStop
/- What lies behind a list, up to its capacity. No statement of the seat is proved here. -/
namespace Go.Proofs.Ytgkbhhlkaifnoaa
open Go.RowKit
theorem RdI.at {W : World} {b off n : Nat} {zs : List Int} {F : List Nat} (h : RdI W (some ⟨b, off, none⟩) n zs F) (j : Nat) (hj : j < n) : W.cell? ⟨b, off + j, none⟩ = some (.int .i64 (zs.getD j 0)) := by
  rcases h.cells with ⟨h0, _⟩ | ⟨b', off', _, he, _, hc⟩
  · omega
  · obtain ⟨rfl, rfl⟩ : b = b' ∧ off = off' := by simpa using he
    exact hc j hj
/-- The list of n numbers begins its block, and the block holds as many cells as the list's capacity says. -/
structure Room (W : World) (b o n k : Nat) : Prop where
  off : o = 0
  blk : ∃ cs, Blk W b cs 3 ∧ cs.size = k
  le : n ≤ k
  max : k ≤ maxLen
theorem Room.of_own {W : World} {lo b o n k : Nat} {xs : List Value} (hn : 0 < n) (h : W.ownsRow lo 3 1 (.slice (some ⟨b, o, none⟩) n k) n xs) : Room W b o n k := by
  rcases h.2 with ⟨_, h0⟩ | ⟨g, cap, cur, e, _, hg, h1, h2, h3, _⟩
  · omega
  · cases e
    exact ⟨rfl, ⟨cur, hg, by omega⟩, h1, h2⟩
theorem Room.agree {W W' : World} {b o n k : Nat} (h : Room W b o n k) (e : W'.heap[b]? = W.heap[b]?) : Room W' b o n k := by
  obtain ⟨cs, hb, hs⟩ := h.blk
  exact ⟨h.off, ⟨cs, hb.agree e, hs⟩, h.le, h.max⟩
theorem Room.set {W : World} {b o n k : Nat} (h : Room W b o n k) (b' j : Nat) (v : Value) : Room (W.setCell ⟨b', j, none⟩ v) b o n k := by
  by_cases e : b = b'
  · subst e
    obtain ⟨cs, hb, hs⟩ := h.blk
    exact ⟨h.off, ⟨_, hb.set j v, by simpa using hs⟩, h.le, h.max⟩
  · exact h.agree (Below.heap_setCell W ⟨b', j, none⟩ v b e)
theorem Room.lt {W : World} {b o n k : Nat} (h : Room W b o n k) : b < W.heap.size := by
  obtain ⟨cs, hb, _⟩ := h.blk
  exact hb.lt
theorem Room.below {W W' : World} {b o n k : Nat} (h : Room W b o n k) (hb : Below W.heap.size W W') : Room W' b o n k := h.agree (hb.block b h.lt)
theorem Room.grown {W W' : World} {b o n k q : Nat} (h : Room W b o n k) (hg : W.grownBy W' (some q)) (hq : b ≠ q) : Room W' b o n k := h.agree (hg.block b h.lt (fun e => hq (by simpa using e)))
theorem Room.to_own {W : World} {lo b o n k : Nat} {zs : List Int} {F : List Nat} (h : Room W b o n k) (r : RdI W (some ⟨b, o, none⟩) n zs F) (hl : lo ≤ b) : W.ownsRow lo 3 1 (.slice (some ⟨b, o, none⟩) n k) n (zs.map (Value.int .i64)) := by
  obtain ⟨rfl, ⟨cs, hb, hs⟩, h1, h2⟩ := h
  refine ⟨by rw [List.length_map, r.length]; omega, .inr ⟨b, k, cs, rfl, hl, hb, h1, h2, by omega, ?_⟩⟩
  apply List.ext_getElem?
  intro j
  by_cases hj : j < n
  · have e := r.at j hj
    rw [hb.cell] at e
    rw [List.getElem?_take_of_lt (by omega), Array.getElem?_toList, ← Nat.zero_add j, e, Nat.zero_add, List.getElem?_map]
    have hz : j < zs.length := by rw [r.length]; exact hj
    rw [List.getElem?_eq_getElem hz, List.getD_eq_getElem?_getD, List.getElem?_eq_getElem hz]
    rfl
  · rw [List.getElem?_eq_none (by rw [List.length_take]; omega), List.getElem?_eq_none (by rw [List.length_map, r.length]; omega)]
/-- The same of a list's address; F: its blocks. -/
def RoomS (W : World) (a : Option Addr) (n k : Nat) (F : List Nat) : Prop := ∃ b o, a = some ⟨b, o, none⟩ ∧ F = [b] ∧ Room W b o n k
theorem RoomS.agree {W W' : World} {a : Option Addr} {n k : Nat} {F : List Nat} (h : RoomS W a n k F) (e : Agree W W' F) : RoomS W' a n k F := by
  obtain ⟨b, o, ha, rfl, hr⟩ := h
  exact ⟨b, o, ha, rfl, hr.agree (e b (by simp))⟩
theorem RoomS.below {W W' : World} {a : Option Addr} {n k : Nat} {F : List Nat} (h : RoomS W a n k F) (hb : Below W.heap.size W W') : RoomS W' a n k F := by
  obtain ⟨b, o, ha, rfl, hr⟩ := h
  exact ⟨b, o, ha, rfl, hr.below hb⟩
end Go.Proofs.Ytgkbhhlkaifnoaa
/- The walk through the model's copying of a summary. No statement of the seat is proved here. -/
namespace Go.Proofs.Ytgkbhhlkaifnoaa
open Go.RowKit
/-- Each list has something, and none is too long. -/
structure Sk.full (s : Sk) : Prop where
  hist : 0 < s.hist.length ∧ s.hist.length ≤ 1048576
  regs : 0 < s.regs.length ∧ s.regs.length ≤ 1048576
  rows : s.rows.length ≤ 1048576
  row : ∀ z ∈ s.rows, 0 < z.length ∧ z.length ≤ 1048576
section
variable {P : Program} {ops : Array Oper} {Q : Exit → Act → World → Prop} {rest : List Oper} {a : Act} {w : World} {x y : Operand} {o : Oper}
theorem stopAppend {ts : Array TypeId} (_ho : o.op = .call { callee := .builtin .append, args := #[x, y], argTypes := ts }) (h : Stop (wpList P ops Q (o :: rest) a w)) : wpList P ops Q (o :: rest) a w := h
end
theorem RdI.addr {w : World} {a : Option Addr} {n : Nat} {zs : List Int} {F : List Nat} (h : RdI w a n zs F) (hp : 0 < n) : ∃ b off, a = some ⟨b, off, none⟩ := by
  rcases h.cells with ⟨h0, _⟩ | ⟨b, off, _, e, _⟩
  · omega
  · exact ⟨b, off, e⟩
theorem RdI.from {w W : World} {b off n : Nat} {zs : List Int} {F : List Nat} (h : RdI w (some ⟨b, off, none⟩) n zs F) (hb : Below w.heap.size w W) (hp : 0 < n) : ∀ j v, (zs.map (Value.int .i64))[j]? = some v → W.cell? ((⟨b, off, none⟩ : Addr).add j) = some v := by
  obtain ⟨ad, e, hs⟩ := h.src hb hp
  cases e
  exact hs
theorem room_of_own {W : World} {lo n k : Nat} {a : Option Addr} {xs : List Value} {zs : List Int} {F : List Nat} (h : W.ownsRow lo 3 1 (.slice a n k) n xs) (r : RdI W a n zs F) (hn : 0 < n) : RoomS W a n k F := by
  rcases r.cells with ⟨h0, _⟩ | ⟨b, off, _, rfl, rfl, _⟩
  · omega
  · exact ⟨b, off, rfl, rfl, Room.of_own hn h⟩
/-- The value has room behind its first list, and its rows' capacity is no less than their number. -/
def Roomy (W : World) (v : Value) : Prop := ∃ x0 x1 x2 x3 a1 n1 k1 F x5 a3 n3 k3, v = .agg #[x0, x1, x2, x3, .slice a1 n1 k1, x5, .slice a3 n3 k3] ∧ RoomS W a1 n1 k1 F ∧ n3 ≤ k3
theorem Roomy.below {W W' : World} {v : Value} (h : Roomy W v) (hb : Below W.heap.size W W') : Roomy W' v := by
  obtain ⟨x0, x1, x2, x3, a1, n1, k1, F, x5, a3, n3, k3, e, r, k⟩ := h
  exact ⟨x0, x1, x2, x3, a1, n1, k1, F, x5, a3, n3, k3, e, r.below hb, k⟩
/-- A summary and its room. -/
structure RdR (W : World) (v : Value) (s : Sk) (F : List Nat) : Prop where
  sk : RdSk W v s F
  rm : ∃ x0 x1 x2 x3 a1 n1 k1 F' x5 a3 n3 k3, v = .agg #[x0, x1, x2, x3, .slice a1 n1 k1, x5, .slice a3 n3 k3] ∧ RoomS W a1 n1 k1 F' ∧ (∀ b ∈ F', b ∈ F) ∧ n3 ≤ k3
theorem RdR.cells {W : World} {v : Value} {s : Sk} {F : List Nat} (h : RdR W v s F) : ∃ cs, v = .agg cs ∧ cs.size = 7 ∧ cs.all (·.oneCell') = true := h.sk.cells
theorem RdR.lt {W : World} {v : Value} {s : Sk} {F : List Nat} (h : RdR W v s F) : ∀ b ∈ F, b < W.heap.size := h.sk.lt
theorem RdR.agree {W W' : World} {v : Value} {s : Sk} {F : List Nat} (h : RdR W v s F) (g : Agree W W' F) : RdR W' v s F := by
  obtain ⟨x0, x1, x2, x3, a1, n1, k1, F', x5, a3, n3, k3, e, r, m, k⟩ := h.rm
  exact ⟨h.sk.agree g, x0, x1, x2, x3, a1, n1, k1, F', x5, a3, n3, k3, e, r.agree (fun b hb => g b (m b hb)), m, k⟩
theorem RdR.below {W W' : World} {v : Value} {s : Sk} {F : List Nat} (h : RdR W v s F) (b : Below W.heap.size W W') : RdR W' v s F := h.agree (fun j hj => b.block j (h.lt j hj))
theorem RdR.room {W : World} {v : Value} {s : Sk} {F : List Nat} (h : RdR W v s F) : Roomy W v := by
  obtain ⟨x0, x1, x2, x3, a1, n1, k1, F', x5, a3, n3, k3, e, r, _, k⟩ := h.rm
  exact ⟨x0, x1, x2, x3, a1, n1, k1, F', x5, a3, n3, k3, e, r, k⟩
/-- What one append onto a new, empty row leaves. -/
theorem fresh_list {W w' : World} {v : Value} {n : Nat} {zs : List Int} (hown : w'.ownsRow W.heap.size 3 1 v (0 + n) ([] ++ zs.map (Value.int .i64))) (hgrow : (W.alloc (.cells #[] 3)).grownBy w' (some W.heap.size)) :
    ∃ a c F, v = .slice a n c ∧ RdI w' a n zs F ∧ Own W.heap.size w' F ∧ Below W.heap.size W w' ∧ (0 < n → RoomS w' a n c F) := by
  rw [Nat.zero_add, List.nil_append] at hown
  obtain ⟨a, c, F, e, h1, h2⟩ := rdI_of_own hown
  exact ⟨a, c, F, e, h1, h2, ((Below.refl W.heap.size W).alloc (Nat.le_refl _) _).grown hgrow (by simp) (fun k hk => by simp at hk; omega), fun hn => room_of_own (e ▸ hown) h1 hn⟩
/-- In the midst of a copying: k rows are done. -/
structure CopySt (w : World) (A : Array Value) (s : Sk) (x1 x2 : Value) (a1 a2 : Option Addr) (n1 n2 d1 d2 : Nat) (F1 F2 : List Nat) (lo k : Nat) (v : Value) (vs : List Value) (G : List Nat) (W : World) : Prop where
  three : Three w A 34 #[.int .i64 0, .int .i64 0, .int .i64 0, .int .i64 0, .slice none 0 0, .slice none 0 0, .slice none 0 0] #[.int .i64 s.count, .int .i64 s.sum, .int .i64 s.min, .int .i64 s.max, .slice a1 n1 d1, .slice a2 n2 d2, v] 34 W
  r1 : RdI W a1 n1 s.hist F1
  r2 : RdI W a2 n2 s.regs F2
  own : Own (w.heap.size + 3) W (F1 ++ F2)
  lt : ∀ b ∈ F1 ++ F2, b < lo
  row : W.ownsRow lo 29 1 v k vs
  rd : RdS W ((s.rows.take k).map ints) vs G
  og : Own lo W G
  ap : ∀ b, v.ownBlock = some b → b ∉ G
  big : w.heap.size + 3 ≤ lo
  lw : lo ≤ W.heap.size
  rm : RoomS W a1 n1 d1 F1
/-- The argument's box lies there, and nothing elder has changed. -/
def CopyS (w : World) (A : Array Value) (W : World) : Prop := Blk W w.heap.size A 34 ∧ Below w.heap.size w W
theorem copyS_below {w : World} {A : Array Value} {W W' : World} (h : CopyS w A W) (b : Below W.heap.size W W') : CopyS w A W' := ⟨h.1.below b, Below.next h.2 b⟩
section
variable {P : Program} (w : World)
theorem op_append {ops : Array Oper} {o : Oper} {a : Act} {K : Act → World → Prop} {Q : Exit → Act → World → Prop} {E : Prop} (hgd : o.guard = none) (s x : Operand) (t : TypeId)
    (ho : o.op = .call { callee := .builtin .append, args := #[s, x], argTypes := #[t, t] })
    (base : Nat) (e : TypeId) (i : TypeInfo) (z : Value) (size bytes : Nat) (ht : P.underlying t = some (.slice e)) (hi : P.info? e = some i) (hz : i.zero = some z)
    (hsize : i.size = size) (hby : i.bytes = bytes) (hzs : z.cells.size = size) (hsz : 0 < size)
    (v : Value) (n : Nat) (xs : List Value) (hs : a.eval s = v) (hown : w.ownsRow base e size v n xs)
    (ad : Addr) (m c : Nat) (news : List Value) (hx : a.eval x = .slice (some ad) m c) (hl : news.length = m * size) (hnews : ∀ j u, news[j]? = some u → w.cell? (ad.add j) = some u) (h1 : ∀ u ∈ news, u.oneCell' = true)
    (hm : 0 < m) (h63 : n + m ≤ maxLen) (hbytes : (n + m) * bytes ≤ 140737488355328) (hbase : base ≤ w.heap.size) (H : Nat) (hH : w.heap.size = H)
    (h : ∀ g cap w', w'.ownsRow base e size (.slice (some ⟨g, 0, none⟩) (n + m) cap) (n + m) (xs ++ news) → w.grownBy w' v.ownBlock → (v.ownBlock = some g ∨ g = H) → g < w'.heap.size → ∃ a', a.put o.dst (.slice (some ⟨g, 0, none⟩) (n + m) cap) = a' ∧ K a' w') :
    if Region.wanted o (yielded ops a.tmps) = true then Oper.wp P o a w K Q else E :=
  step_append_lies w hgd s x t ho base e i z size bytes ht hi hz hsize hby hzs hsz v n xs hs hown ad m c news hx hl hnews h1 hm h63 hbytes hbase H hH (fun g cap w' p1 p2 p3 p4 => by obtain ⟨_, rfl, hk⟩ := h g cap w' p1 p2 p3 p4; exact hk)
end
section
variable {w W W' : World} {A : Array Value} {s : Sk} {x1 x2 : Value} {a1 a2 : Option Addr} {n1 n2 d1 d2 : Nat} {F1 F2 : List Nat} {lo k : Nat} {v : Value} {vs : List Value} {G : List Nat}
theorem CopySt.below (h : CopySt w A s x1 x2 a1 a2 n1 n2 d1 d2 F1 F2 lo k v vs G W) (b : Below W.heap.size W W') : CopySt w A s x1 x2 a1 a2 n1 n2 d1 d2 F1 F2 lo k v vs G W' :=
  ⟨h.three.below b, h.r1.below b, h.r2.below b, h.own.below (fun x hx => (List.mem_append.1 hx).elim (h.r1.lt x) (h.r2.lt x)) b, h.lt, ownsRow_below h.row b, h.rd.below b, h.og.below h.rd.lt b, h.ap, h.big, Nat.le_trans h.lw b.size, h.rm.below b⟩
theorem CopySt.step (h : CopySt w A s x1 x2 a1 a2 n1 n2 d1 d2 F1 F2 lo k v vs G W) {g3 nk cp3 g4 cp4 L : Nat} {Fk : List Nat} (rk : RdI W (some ⟨g3, 0, none⟩) nk (s.rows.getD k []) Fk) (ok : Own L W Fk) (ltG : ∀ b ∈ G, b < L) (ltv : ∀ b, v.ownBlock = some b → b < L) (hL : lo ≤ L)
    (hown : W'.ownsRow lo 29 1 (.slice (some ⟨g4, 0, none⟩) (k + 1) cp4) (k + 1) (vs ++ [.slice (some ⟨g3, 0, none⟩) nk cp3])) (hgrow : W.grownBy W' v.ownBlock) (hat : v.ownBlock = some g4 ∨ g4 = W.heap.size) (hk : k < s.rows.length) :
    CopySt w A s x1 x2 a1 a2 n1 n2 d1 d2 F1 F2 lo (k + 1) (.slice (some ⟨g4, 0, none⟩) (k + 1) cp4) (vs ++ [.slice (some ⟨g3, 0, none⟩) nk cp3]) (G ++ Fk) (W'.setCell ⟨w.heap.size + 1 + 1, 6, none⟩ (.slice (some ⟨g4, 0, none⟩) (k + 1) cp4)) ∧ CopyS w A W' ∧
      W'.cell? ⟨w.heap.size + 1 + 1, 6, none⟩ = some v ∧ W'.frozen? ⟨w.heap.size + 1 + 1, 6, none⟩ = false := by
  have big := h.big
  have blk : ∀ b, b < W.heap.size → ¬ v.ownBlock = some b → W'.heap[b]? = W.heap[b]? := fun b hb hn => hgrow.block b hb (fun e => hn e.symm)
  have vge : ∀ b, v.ownBlock = some b → lo ≤ b := fun b hb => (h.row.lt b hb).1
  have bx := h.three.box.agree (blk _ h.three.box.lt (fun e => by have := vge _ e; omega))
  have rs := h.three.res.agree (blk _ h.three.res.lt (fun e => by have := vge _ e; omega))
  have lc := h.three.loc.agree (blk _ h.three.loc.lt (fun e => by have := vge _ e; omega))
  have bel : Below w.heap.size w W' := h.three.bel.grown hgrow h.three.bel.size (fun b hb => by have := vge b hb; omega)
  have T : Three w A 34 #[.int .i64 0, .int .i64 0, .int .i64 0, .int .i64 0, .slice none 0 0, .slice none 0 0, .slice none 0 0] #[.int .i64 s.count, .int .i64 s.sum, .int .i64 s.min, .int .i64 s.max, .slice a1 n1 d1, .slice a2 n2 d2, v] 34 W' := ⟨bx, rs, lc, bel⟩
  have no : ∀ b ∈ F1 ++ F2 ++ (G ++ Fk), b ≠ w.heap.size + 1 + 1 := fun b hb e => by
    rcases List.mem_append.1 hb with hb | hb
    · have := h.own.ge b hb; omega
    · rcases List.mem_append.1 hb with hb | hb
      · have := h.og.ge b hb; omega
      · have := ok.ge b hb; omega
  have agF : Agree W (W'.setCell ⟨w.heap.size + 1 + 1, 6, none⟩ (.slice (some ⟨g4, 0, none⟩) (k + 1) cp4)) (F1 ++ F2) := Agree.thenSet (fun b hb => blk b ((List.mem_append.1 hb).elim (h.r1.lt b) (h.r2.lt b)) (fun e => by have := vge _ e; have := h.lt b hb; omega)) (fun hx => no _ (List.mem_append_left _ hx) rfl) _ _
  have agG : Agree W (W'.setCell ⟨w.heap.size + 1 + 1, 6, none⟩ (.slice (some ⟨g4, 0, none⟩) (k + 1) cp4)) (G ++ Fk) := Agree.thenSet (fun b hb => blk b ((List.mem_append.1 hb).elim (h.rd.lt b) (rk.lt b)) (fun e => (List.mem_append.1 hb).elim (h.ap b e) (fun hf => by have := ok.ge b hf; have := ltv b e; omega))) (fun hx => no _ (List.mem_append_right _ hx) rfl) _ _
  have hgw : w.heap.size + 1 + 1 < W'.heap.size := lc.lt
  have rowS : (W'.setCell ⟨w.heap.size + 1 + 1, 6, none⟩ (.slice (some ⟨g4, 0, none⟩) (k + 1) cp4)).ownsRow lo 29 1 (.slice (some ⟨g4, 0, none⟩) (k + 1) cp4) (k + 1) (vs ++ [.slice (some ⟨g3, 0, none⟩) nk cp3]) :=
    own_keep hown (grown_set W' (w.heap.size + 1 + 1) 6 _) (by omega)
  refine ⟨⟨T.set 6 _, h.r1.agree agF.left, h.r2.agree agF.right, h.own.agree agF, h.lt, rowS, ?_, ?_, ?_, h.big, ?_, h.rm.agree agF.left⟩, ⟨bx, bel⟩, by rw [lc.cell]; rfl, lc.frozen 6⟩
  · rw [take_snoc s.rows [] k hk, List.map_append]
    exact (h.rd.agree agG.left).snoc (rd_ints.2 ⟨_, _, _, rfl, rk.agree agG.right⟩)
  · exact (h.og.agree agG.left).join (ok.agree agG.right) ltG hL
  · intro b hb hx
    have hb' : b = g4 := by simpa [Value.ownBlock] using hb.symm
    subst hb'
    rcases hat with e | e
    · rcases List.mem_append.1 hx with hx | hx
      · exact h.ap _ e hx
      · have := ok.ge _ hx; have := ltv _ e; omega
    · rcases List.mem_append.1 hx with hx | hx
      · have := h.rd.lt _ hx; omega
      · have := rk.lt _ hx; omega
  · have := hgrow.size; have := h.lw; simp; omega
theorem CopySt.rows (h : CopySt w A s x1 x2 a1 a2 n1 n2 d1 d2 F1 F2 lo k v vs G W) : ∃ a c F, v = .slice a k c ∧ RdII W a k (s.rows.take k) F ∧ Own (w.heap.size + 3) W (F1 ++ (F2 ++ F)) ∧ k ≤ c := by
  have big := h.big
  rcases h.row.2 with ⟨e, e'⟩ | ⟨g, cap, cur, e, e2, e3, e4⟩
  · subst e'
    exact ⟨none, 0, [], e, ⟨by simp, .inl ⟨rfl, rfl⟩⟩, by simpa using h.own, by omega⟩
  · subst e
    have hl : vs.length = k := by simpa using h.row.1
    have hlen := h.rd.length
    by_cases h0 : k = 0
    · subst h0
      exact ⟨_, cap, [], rfl, ⟨by simp, .inl ⟨rfl, rfl⟩⟩, by simpa using h.own, by omega⟩
    · have hm : RdM W ((s.rows.take k).map ints) g 0 G := rdM_of_own 0 h.rd (fun i hi => by rw [Nat.zero_add]; exact h.row.cellAt i (by omega))
      have hg : lo ≤ g := (h.row.lt g rfl).1
      have hgG : g ∉ G := h.ap g rfl
      have og : Own lo W (g :: G) := ⟨List.nodup_cons.2 ⟨hgG, h.og.nodup⟩, fun b hb o => (List.mem_cons.1 hb).elim (fun e => by subst e; exact h.row.frozenAt o) (fun hb => h.og.free b hb o), fun b hb => (List.mem_cons.1 hb).elim (fun e => by omega) (h.og.ge b)⟩
      refine ⟨_, cap, g :: G, rfl, ⟨by rw [List.length_map] at hlen; omega, .inr ⟨g, 0, G, by omega, rfl, rfl, hm⟩⟩, ?_, e4.1⟩
      rw [← List.append_assoc]
      exact h.own.join og h.lt h.big
end
/-- A new summary, with room. -/
def NewRoom (w : World) (s : Sk) (e : Ending) (w' : World) : Prop := ∃ v F, e = .returned v ∧ RdSk w' v s F ∧ Own w.heap.size w' F ∧ Below w.heap.size w w' ∧ Roomy w' v
theorem NewRoom.new {w w' : World} {s : Sk} {e : Ending} (h : NewRoom w s e w') : NewSk w s e w' := by
  obtain ⟨v, F, h1, h2, h3, h4, _⟩ := h
  exact ⟨v, F, h1, h2, h3, h4⟩
set_option maxRecDepth 200000 in
set_option maxHeartbeats 8000000 in
theorem l3Copy_room (v : Value) (s : Sk) (F : List Nat) (w : World) (h : RdSk w v s F) (hf : s.full) :
    Calls Try.prog 58 #[v] w fun e w' => NewRoom w s e w' := by
  obtain ⟨i0, hi, hz0, hz1, hz2⟩ := info_parts infoInt
  obtain ⟨j0, hj, hy0, hy1, hy2⟩ := info_parts infoInts
  obtain ⟨a1, n1, c1, a2, n2, c2, a3, n3, c3, F1, F2, F3, rfl, h1, h2, h3, _⟩ := h
  have l1 := h1.length
  have l2 := h2.length
  have l3 := h3.length
  have hn1 : 0 < n1 ∧ n1 ≤ 1048576 := by rw [← l1]; exact hf.hist
  have hn2 : 0 < n2 ∧ n2 ≤ 1048576 := by rw [← l2]; exact hf.regs
  have hn3 : n3 ≤ 1048576 := by rw [← l3]; exact hf.rows
  obtain ⟨p1, q1, rfl⟩ := h1.addr hn1.1
  obtain ⟨p2, q2, rfl⟩ := h2.addr hn2.1
  have HR : Hid (RdI w (some ⟨p1, q1, none⟩) n1 s.hist F1 ∧ RdI w (some ⟨p2, q2, none⟩) n2 s.regs F2 ∧ RdII w a3 n3 s.rows F3 ∧ s.full) := ⟨h1, h2, h3, hf⟩
  have HL : Hid (s.hist.length = n1 ∧ s.regs.length = n2 ∧ s.rows.length = n3) := ⟨l1, l2, l3⟩
  clear h1 h2 h3 hf l1 l2 l3
  have HT0 : Hid (Three w _ _ _ _ _ _) := Three.made w #[.int .i64 s.count, .int .i64 s.sum, .int .i64 s.min, .int .i64 s.max, .slice (some ⟨p1, q1, none⟩) n1 c1, .slice (some ⟨p2, q2, none⟩) n2 c2, .slice a3 n3 c3] 34 #[.int .i64 0, .int .i64 0, .int .i64 0, .int .i64 0, .slice none 0 0, .slice none 0 0, .slice none 0 0] #[.int .i64 s.count, .int .i64 s.sum, .int .i64 s.min, .int .i64 s.max, .slice (some ⟨p1, q1, none⟩) n1 c1, .slice (some ⟨p2, q2, none⟩) n2 c2, .slice a3 n3 c3] 34
  go_enter Try.func58, Try.ntmps58
  go_wp2_with (with_reducible refine stopAppend rfl ?_)
  obtain ⟨W2, hW2⟩ : ∃ W2, W2 = ((w.alloc (.cells #[.int .i64 s.count, .int .i64 s.sum, .int .i64 s.min, .int .i64 s.max, .slice (some ⟨p1, q1, none⟩) n1 c1, .slice (some ⟨p2, q2, none⟩) n2 c2, .slice a3 n3 c3] 34)).alloc (.cells #[.int .i64 0, .int .i64 0, .int .i64 0, .int .i64 0, .slice none 0 0, .slice none 0 0, .slice none 0 0] 34)).alloc (.cells #[.int .i64 s.count, .int .i64 s.sum, .int .i64 s.min, .int .i64 s.max, .slice (some ⟨p1, q1, none⟩) n1 c1, .slice (some ⟨p2, q2, none⟩) n2 c2, .slice a3 n3 c3] 34) := ⟨_, rfl⟩
  have hs2 : W2.heap.size = w.heap.size + 1 + 1 + 1 := by rw [hW2]; simp
  rw [← hW2] at HT0 ⊢
  clear hW2
  have HO2 : Hid ((W2.alloc (.cells #[] 3)).ownsRow W2.heap.size 3 1 (.slice (some ⟨w.heap.size + 1 + 1 + 1, 0, none⟩) 0 0) 0 []) := by rw [← hs2]; exact own_empty W2 _
  have HB2 : Hid (Below w.heap.size w (W2.alloc (.cells #[] 3))) := Below.next HT0.out.bel ((Below.refl _ _).alloc (Nat.le_refl _) _)
  refine Stop.intro (wpList_append_own _ rfl _ _ 29 rfl W2.heap.size 3 i0 (.int .i64 0) 1 8 Try.underlying29 hi hz0 hz1 hz2 rfl (by decide) _ 0 [] rfl HO2.out ⟨p1, q1, none⟩ n1 c1 (s.hist.map (Value.int .i64)) rfl (by simp [HL.out.1]) (HR.out.1.from HB2.out hn1.1) (ints_one _) (by unfold maxLen; omega) (by omega) (by simp) ?_)
  intro x1 w3 hown hgrow _
  obtain ⟨b1, d1, G1, rfl, r1, o1, B3, rm1⟩ := fresh_list hown (by rw [hs2]; exact hgrow)
  have HM1 : Hid (RoomS w3 b1 n1 d1 G1) := rm1 hn1.1
  clear rm1
  have T1 := HT0.out.below B3
  have HT1 : Hid (Three w _ _ _ _ _ w3) := T1
  have HQ1 : Hid (RdI w3 b1 n1 s.hist G1 ∧ Own W2.heap.size w3 G1 ∧ Below w.heap.size w w3) := ⟨r1, o1, T1.bel⟩
  have c14 := T1.loc.cell 4
  have f14 := T1.loc.frozen 4
  have e15 := T1.box.cell 5
  simp only [aT, aS, aZ] at c14 e15
  have hz3 : w.heap.size + 3 ≤ w3.heap.size := T1.size
  have ne3 : ¬ w.heap.size = w3.heap.size := by omega
  have ne3' : ¬ w3.heap.size = w.heap.size := by omega
  have lt3 : w.heap.size < w3.heap.size := by omega
  clear hown hgrow r1 o1 B3 T1 HT0 HO2 HB2
  go_wp2_with (with_reducible refine stopAppend rfl ?_)
  obtain ⟨W4, hW4⟩ : ∃ W4, W4 = w3.setCell ⟨w.heap.size + 1 + 1, 4, none⟩ (.slice b1 n1 d1) := ⟨_, rfl⟩
  have hs4 : W4.heap.size = w3.heap.size := by rw [hW4]; simp
  have T2 := HT1.out.set 4 (.slice b1 n1 d1)
  rw [← hW4] at T2 ⊢
  have nG1 : w.heap.size + 1 + 1 ∉ G1 := fun hx => by have := HQ1.out.2.1.ge _ hx; omega
  have ag4 : Agree w3 W4 G1 := by rw [hW4]; exact .set nG1 4 _
  have HQ4 : Hid (RdI W4 b1 n1 s.hist G1 ∧ Own (w.heap.size + 3) W4 G1) := ⟨HQ1.out.1.agree ag4, (HQ1.out.2.1.agree ag4).mono (by omega)⟩
  have HT2 : Hid (Three w _ _ _ _ _ W4) := T2
  have HM4 : Hid (RoomS W4 b1 n1 d1 G1) := HM1.out.agree ag4
  clear HM1
  clear hW4 T2 nG1 ag4 HQ1 HT1 c14 f14 e15
  have HO4 : Hid ((W4.alloc (.cells #[] 3)).ownsRow W4.heap.size 3 1 (.slice (some ⟨w3.heap.size, 0, none⟩) 0 0) 0 []) := by rw [← hs4]; exact own_empty W4 _
  have HB4 : Hid (Below w.heap.size w (W4.alloc (.cells #[] 3))) := Below.next HT2.out.bel ((Below.refl _ _).alloc (Nat.le_refl _) _)
  refine Stop.intro (wpList_append_own _ rfl _ _ 29 rfl W4.heap.size 3 i0 (.int .i64 0) 1 8 Try.underlying29 hi hz0 hz1 hz2 rfl (by decide) _ 0 [] rfl HO4.out ⟨p2, q2, none⟩ n2 c2 (s.regs.map (Value.int .i64)) rfl (by simp [HL.out.2.1]) (HR.out.2.1.from HB4.out hn2.1) (ints_one _) (by unfold maxLen; omega) (by omega) (by simp) ?_)
  intro x2 w5 hown hgrow _
  obtain ⟨b2, d2, G2, rfl, r2, o2, B5, _⟩ := fresh_list hown (by rw [hs4]; exact hgrow)
  have HM5 : Hid (RoomS w5 b1 n1 d1 G1) := HM4.out.below B5
  clear HM4
  have T3 := HT2.out.below B5
  have HT3 : Hid (Three w _ _ _ _ _ w5) := T3
  have lt4 : ∀ b ∈ G1, b < W4.heap.size := HQ4.out.1.lt
  have HQ5 : Hid (RdI w5 b1 n1 s.hist G1 ∧ RdI w5 b2 n2 s.regs G2 ∧ Own (w.heap.size + 3) w5 (G1 ++ G2)) := ⟨HQ4.out.1.below B5, r2, (HQ4.out.2.below lt4 B5).join o2 lt4 (by omega)⟩
  have c25 := T3.loc.cell 5
  have f25 := T3.loc.frozen 5
  have c26 := T3.loc.cell 6
  have f26 := T3.loc.frozen 6
  simp only [List.setIfInBounds_toArray, List.set_cons_succ, List.set_cons_zero, aT, aS, aZ] at c25 c26
  have hz5 : w.heap.size + 3 ≤ w5.heap.size := T3.size
  clear hown hgrow r2 o2 B5 T3 HT2 HO4 HB4 HQ4 lt4 ne3 ne3' lt3
  go_wp2
  clear c25 f25 c26 f26
  go_loopw [4] (fun i wr => ∃ (k : Nat) (v : Value) (vs : List Value) (GG : List Nat), k ≤ n3 ∧ i = .int .i64 k ∧ Hid (CopySt w #[.int .i64 s.count, .int .i64 s.sum, .int .i64 s.min, .int .i64 s.max, .slice (some ⟨p1, q1, none⟩) n1 c1, .slice (some ⟨p2, q2, none⟩) n2 c2, .slice a3 n3 c3] s (.slice b1 n1 d1) (.slice b2 n2 d2) b1 b2 n1 n2 d1 d2 G1 G2 w5.heap.size k v vs GG wr)) (fun i _ => n3 - (intOf i).toNat)
  case atStart =>
    have nG : w.heap.size + 1 + 1 ∉ G1 ++ G2 := fun hx => by have := HQ5.out.2.2.ge _ hx; omega
    have ag := ((Agree.refl w5 (G1 ++ G2)).thenSet nG 5 (.slice b2 n2 d2)).thenSet nG 6 (.slice none 0 0)
    have T := (HT3.out.set 5 (.slice b2 n2 d2)).set 6 (.slice none 0 0)
    exact ⟨0, .slice none 0 0, [], [], by omega, rfl, ⟨T, HQ5.out.1.agree ag.left, HQ5.out.2.1.agree ag.right, HQ5.out.2.2.agree ag, fun b hb => (List.mem_append.1 hb).elim (HQ5.out.1.lt b) (HQ5.out.2.1.lt b), ⟨rfl, .inl ⟨rfl, rfl⟩⟩, by simp [RdS], Own.nil, fun b hb => (by cases hb), hz5, (by simp), HM5.out.agree ag.left⟩⟩
  case round =>
    clear HQ5 HT3
    obtain ⟨k, v, vs, GG, hk, rfl, CSS⟩ := hrel
    have e6 := CSS.out.three.box.cell 6
    simp only [aT, aS, aZ] at e6
    by_cases hlt : k < n3
    · obtain ⟨p3, o3, F3', rfl, hm3⟩ : ∃ b off F', a3 = some ⟨b, off, none⟩ ∧ RdM w (s.rows.map ints) b off F' := by
        rcases HR.out.2.2.1.cells with ⟨h0, _⟩ | ⟨b, off, F', _, e, _, hm⟩
        · omega
        · exact ⟨b, off, F', e, hm⟩
      obtain ⟨ak, nk, ck, Yk, hck, hrk, _⟩ := RdII.row hm3 HL.out.2.2 k hlt
      have hful := HR.out.2.2.2.row _ (mem_getD (d := []) (by rw [HL.out.2.2]; exact hlt))
      have hnk : 0 < nk ∧ nk ≤ 1048576 := by rw [← hrk.length]; exact hful
      obtain ⟨pk, qk, rfl⟩ := hrk.addr hnk.1
      have hp3 : p3 < w.heap.size := World.block_lt_of_cell? _ _ hck
      have HQ : Hid (RdI w (some ⟨pk, qk, none⟩) nk (s.rows.getD k []) Yk ∧ 0 < nk ∧ nk ≤ 1048576) := ⟨hrk, hnk.1, hnk.2⟩
      have HLk : Hid (k < s.rows.length) := by show k < _; rw [HL.out.2.2]; exact hlt
      have HC : Hid (∀ W, CopyS w #[.int .i64 s.count, .int .i64 s.sum, .int .i64 s.min, .int .i64 s.max, .slice (some ⟨p1, q1, none⟩) n1 c1, .slice (some ⟨p2, q2, none⟩) n2 c2, .slice (some ⟨p3, o3, none⟩) n3 c3] W → W.cell? ⟨w.heap.size, 6, none⟩ = some (.slice (some ⟨p3, o3, none⟩) n3 c3) ∧ W.cell? ⟨p3, o3 + k, none⟩ = some (.slice (some ⟨pk, qk, none⟩) nk ck)) := fun W h => ⟨by rw [h.1.cell]; rfl, (h.2.cell (by exact hp3)).trans hck⟩
      have HS : Hid (CopyS w #[.int .i64 s.count, .int .i64 s.sum, .int .i64 s.min, .int .i64 s.max, .slice (some ⟨p1, q1, none⟩) n1 c1, .slice (some ⟨p2, q2, none⟩) n2 c2, .slice (some ⟨p3, o3, none⟩) n3 c3] wr.drew) := ⟨CSS.out.three.box.drew, CSS.out.three.bel.drew⟩
      clear hck hrk hful hnk hm3
      go_wp2
      clear e6
      have CSS : Hid (CopySt w #[.int .i64 s.count, .int .i64 s.sum, .int .i64 s.min, .int .i64 s.max, .slice (some ⟨p1, q1, none⟩) n1 c1, .slice (some ⟨p2, q2, none⟩) n2 c2, .slice (some ⟨p3, o3, none⟩) n3 c3] s (.slice b1 n1 d1) (.slice b2 n2 d2) b1 b2 n1 n2 d1 d2 G1 G2 w5.heap.size k v vs GG wr.drew) := CSS.out.below (Below.refl _ _).drew
      refine wp_region_held (S := CopyS w #[.int .i64 s.count, .int .i64 s.sum, .int .i64 s.min, .int .i64 s.max, .slice (some ⟨p1, q1, none⟩) n1 c1, .slice (some ⟨p2, q2, none⟩) n2 c2, .slice (some ⟨p3, o3, none⟩) n3 c3]) (by kernel_rfl) ?_
      change wpAnyH _ _ _ _ _ _ _ _ (World.drew _)
      refine takeH (o := ?o1) 0 (.pointer (some ⟨w.heap.size + 1 + 1, 6, none⟩)) ?h1 ?r1
      case h1 => simp only [aT, aZ]; rfl
      refine ⟨_, by simp [Act.put]; rfl, by kernel_rfl, by kernel_rfl, by kernel_rfl, fun _ _ _ h => h, (.inl ⟨rfl, fun W _ => by go_simp⟩), HS.out, ?_⟩
      refine takeH (o := ?o2) 3 (.pointer (some ⟨w.heap.size, 6, none⟩)) ?h2 ?r2
      case h2 => simp only [aT, aS, aZ]; rfl
      refine ⟨_, by simp [Act.put]; rfl, by kernel_rfl, by kernel_rfl, by kernel_rfl, fun _ _ _ h => h, (.inl ⟨rfl, fun W _ => by go_simp⟩), HS.out, ?_⟩
      refine takeH (o := ?o3) 4 (.slice (some ⟨p3, o3, none⟩) n3 c3) ?h3 ?r3
      case h3 => simp only [aT, aS, aZ]; rfl
      refine ⟨_, by simp [Act.put]; rfl, by kernel_rfl, by kernel_rfl, by kernel_rfl, fun _ _ _ h => h, (.inl ⟨rfl, fun W hW => by have c := (HC.out W hW).1; go_simp⟩), HS.out, ?_⟩
      refine takeH (o := ?o4) 5 (.int .i64 k) ?h4 ?r4
      case h4 => simp only [aT, aS, aZ]; rfl
      refine ⟨_, by simp [Act.put]; rfl, by kernel_rfl, by kernel_rfl, by kernel_rfl, fun _ _ _ h => h, (.inl ⟨rfl, fun W _ => by go_simp⟩), HS.out, ?_⟩
      refine takeH (o := ?o5) 6 (.pointer (some ⟨p3, o3 + k, none⟩)) ?h5 ?r5
      case h5 => simp only [aT, aS, aZ]; rfl
      refine ⟨_, by simp [Act.put]; rfl, by kernel_rfl, by kernel_rfl, by kernel_rfl, fun _ _ _ h => h, (.inl ⟨rfl, fun W _ => by go_simp⟩), HS.out, ?_⟩
      refine takeH (o := ?o6) 7 (.slice (some ⟨pk, qk, none⟩) nk ck) ?h6 ?r6
      case h6 => simp only [aT, aS, aZ]; rfl
      refine ⟨_, by simp [Act.put]; rfl, by kernel_rfl, by kernel_rfl, by kernel_rfl, fun _ _ _ h => h, (.inl ⟨rfl, fun W hW => by have c := (HC.out W hW).2; go_simp⟩), HS.out, ?_⟩
      refine twoH (o := ?o7) (o' := ?p7) 1 2 (by kernel_rfl) ?h7 ?g7 ?r7 ?s7
      case h7 => simp only [aT, aS, aZ]; rfl
      case g7 => simp only [aT, aS, aZ]; rfl
      case r7 =>
        intro K hK
        have co := CSS.out.three.loc.cell 6
        simp only [aT, aS, aZ] at co
        refine op_value v rfl (by go_simp) ⟨_, by simp [Act.put]; rfl, hK _ _ ⟨HS.out, ?_⟩⟩
        clear hK co
        refine onlyH (o := ?o8) 2 (by kernel_rfl) ?h8 ?r8
        case h8 => simp only [aT, aS, aZ]; rfl
        intro K hK
        refine op_turn (.slice (some ⟨wr.drew.heap.size, 0, none⟩) 0 0) (wr.drew.alloc (.cells #[] 3)) rfl (by go_simp) ⟨_, by simp [Act.put]; rfl, hK _ _ ⟨copyS_below HS.out ((Below.refl _ _).alloc (Nat.le_refl _) _), ?_⟩⟩
        have CSS0 := CSS
        have HS0 := HS
        obtain ⟨Y9, hWn⟩ : ∃ W, W = wr.drew.alloc (.cells #[] 3) := ⟨_, rfl⟩
        have hbn : Below wr.drew.heap.size wr.drew Y9 := by rw [hWn]; exact (Below.refl _ _).alloc (Nat.le_refl _) _
        rw [← hWn]
        have HWn : Hid (Y9 = wr.drew.alloc (.cells #[] 3)) := hWn
        have CSS : Hid (CopySt w #[.int .i64 s.count, .int .i64 s.sum, .int .i64 s.min, .int .i64 s.max, .slice (some ⟨p1, q1, none⟩) n1 c1, .slice (some ⟨p2, q2, none⟩) n2 c2, .slice (some ⟨p3, o3, none⟩) n3 c3] s (.slice b1 n1 d1) (.slice b2 n2 d2) b1 b2 n1 n2 d1 d2 G1 G2 w5.heap.size k v vs GG Y9) := CSS.out.below hbn
        have HS : Hid (CopyS w #[.int .i64 s.count, .int .i64 s.sum, .int .i64 s.min, .int .i64 s.max, .slice (some ⟨p1, q1, none⟩) n1 c1, .slice (some ⟨p2, q2, none⟩) n2 c2, .slice (some ⟨p3, o3, none⟩) n3 c3] Y9) := copyS_below HS.out hbn
        clear hK hWn hbn
        refine onlyH (o := ?o10) 8 (by kernel_rfl) ?h10 ?r10
        case h10 => simp only [aT, aS, aZ]; rfl
        intro K hK
        refine op_append Y9 rfl _ _ 29 rfl wr.drew.heap.size 3 i0 (.int .i64 0) 1 8 Try.underlying29 hi hz0 hz1 hz2 rfl (by decide) _ 0 [] rfl (by rw [HWn.out]; exact own_empty wr.drew _) ⟨pk, qk, none⟩ nk ck ((s.rows.getD k []).map (Value.int .i64)) rfl (by rw [List.length_map, HQ.out.1.length]; omega) (HQ.out.1.from HS.out.2 HQ.out.2.1) (ints_one _) HQ.out.2.1 (by have := HQ.out.2.2; unfold maxLen; omega) (by have := HQ.out.2.2; omega) (by rw [HWn.out]; simp) _ rfl ?_
        intro g3 cp3 Y11 hown hgrow _ _
        obtain ⟨a3', c3', Fk, e3, rk, ok, bk, _⟩ := fresh_list (W := wr.drew) (by simpa using hown) (by rw [← HWn.out]; exact hgrow)
        have e3' : a3' = some ⟨g3, 0, none⟩ := by simp only [Value.slice.injEq] at e3; exact e3.1.symm
        subst e3'
        rw [Nat.zero_add] at hown ⊢
        refine ⟨_, by simp [Act.put]; rfl, hK _ _ ⟨copyS_below HS0.out bk, ?_⟩⟩
        have CSS : Hid (CopySt w #[.int .i64 s.count, .int .i64 s.sum, .int .i64 s.min, .int .i64 s.max, .slice (some ⟨p1, q1, none⟩) n1 c1, .slice (some ⟨p2, q2, none⟩) n2 c2, .slice (some ⟨p3, o3, none⟩) n3 c3] s (.slice b1 n1 d1) (.slice b2 n2 d2) b1 b2 n1 n2 d1 d2 G1 G2 w5.heap.size k v vs GG Y11) := CSS0.out.below bk
        have HS : Hid (CopyS w #[.int .i64 s.count, .int .i64 s.sum, .int .i64 s.min, .int .i64 s.max, .slice (some ⟨p1, q1, none⟩) n1 c1, .slice (some ⟨p2, q2, none⟩) n2 c2, .slice (some ⟨p3, o3, none⟩) n3 c3] Y11) := copyS_below HS0.out bk
        have HK3 : Hid (RdI Y11 (some ⟨g3, 0, none⟩) nk (s.rows.getD k []) Fk ∧ Own wr.drew.heap.size Y11 Fk ∧ (∀ b ∈ GG, b < wr.drew.heap.size) ∧ (∀ b, v.ownBlock = some b → b < wr.drew.heap.size) ∧ w5.heap.size ≤ wr.drew.heap.size) := ⟨rk, ok, CSS0.out.rd.lt, fun b hb => (CSS0.out.row.lt b hb).2, CSS0.out.lw⟩
        clear hK hown hgrow e3 rk ok bk CSS0 HS0 HWn
        obtain ⟨Wst, hWst⟩ : ∃ W, W = wr.drew := ⟨_, rfl⟩
        rw [← hWst] at HK3
        clear hWst
        refine onlyH (o := ?o12) 9 (by kernel_rfl) ?h12 ?r12
        case h12 => simp only [aT, aS, aZ]; rfl
        intro K hK
        refine op_turn (.slice (some ⟨Y11.heap.size, 0, none⟩) 1 1) (Y11.alloc (.cells #[.slice (some ⟨g3, 0, none⟩) nk cp3] 29)) rfl (by go_simp) ⟨_, by simp [Act.put]; rfl, hK _ _ ⟨copyS_below HS.out ((Below.refl _ _).alloc (Nat.le_refl _) _), ?_⟩⟩
        obtain ⟨Y13, hWn⟩ : ∃ W, W = Y11.alloc (.cells #[.slice (some ⟨g3, 0, none⟩) nk cp3] 29) := ⟨_, rfl⟩
        have hbn : Below Y11.heap.size Y11 Y13 := by rw [hWn]; exact (Below.refl _ _).alloc (Nat.le_refl _) _
        have HCN : Hid (∀ (j : Nat) (x : Value), [Value.slice (some ⟨g3, 0, none⟩) nk cp3][j]? = some x → Y13.cell? ((⟨Y11.heap.size, 0, none⟩ : Addr).add j) = some x) := by rw [hWn]; exact cell_new1 _ _ _
        rw [← hWn]
        have CSS : Hid (CopySt w #[.int .i64 s.count, .int .i64 s.sum, .int .i64 s.min, .int .i64 s.max, .slice (some ⟨p1, q1, none⟩) n1 c1, .slice (some ⟨p2, q2, none⟩) n2 c2, .slice (some ⟨p3, o3, none⟩) n3 c3] s (.slice b1 n1 d1) (.slice b2 n2 d2) b1 b2 n1 n2 d1 d2 G1 G2 w5.heap.size k v vs GG Y13) := CSS.out.below hbn
        have HS : Hid (CopyS w #[.int .i64 s.count, .int .i64 s.sum, .int .i64 s.min, .int .i64 s.max, .slice (some ⟨p1, q1, none⟩) n1 c1, .slice (some ⟨p2, q2, none⟩) n2 c2, .slice (some ⟨p3, o3, none⟩) n3 c3] Y13) := copyS_below HS.out hbn
        have HK3 : Hid (RdI Y13 (some ⟨g3, 0, none⟩) nk (s.rows.getD k []) Fk ∧ Own Wst.heap.size Y13 Fk ∧ (∀ b ∈ GG, b < Wst.heap.size) ∧ (∀ b, v.ownBlock = some b → b < Wst.heap.size) ∧ w5.heap.size ≤ Wst.heap.size) := ⟨HK3.out.1.below hbn, HK3.out.2.1.below HK3.out.1.lt hbn, HK3.out.2.2.1, HK3.out.2.2.2.1, HK3.out.2.2.2.2⟩
        clear hK hWn hbn
        refine onlyH (o := ?o14) 10 (by kernel_rfl) ?h14 ?r14
        case h14 => simp only [aT, aS, aZ]; rfl
        intro K hK
        refine op_append Y13 rfl _ _ 32 rfl w5.heap.size 29 j0 (.slice none 0 0) 1 24 Try.underlying32 hj hy0 hy1 hy2 rfl (by decide) _ k vs rfl CSS.out.row ⟨Y11.heap.size, 0, none⟩ 1 1 [.slice (some ⟨g3, 0, none⟩) nk cp3] rfl rfl HCN.out (by intro u hu; simp at hu; subst hu; rfl) (by decide) (by unfold maxLen; omega) (by omega) CSS.out.lw _ rfl ?_
        intro g4 cp4 Y15 hown hgrow hat _
        have ST := CSS.out.step HK3.out.1 HK3.out.2.1 HK3.out.2.2.1 HK3.out.2.2.2.1 HK3.out.2.2.2.2 hown hgrow hat HLk.out
        have HST : Hid (CopySt w #[.int .i64 s.count, .int .i64 s.sum, .int .i64 s.min, .int .i64 s.max, .slice (some ⟨p1, q1, none⟩) n1 c1, .slice (some ⟨p2, q2, none⟩) n2 c2, .slice (some ⟨p3, o3, none⟩) n3 c3] s (.slice b1 n1 d1) (.slice b2 n2 d2) b1 b2 n1 n2 d1 d2 G1 G2 w5.heap.size (k + 1) (.slice (some ⟨g4, 0, none⟩) (k + 1) cp4) (vs ++ [.slice (some ⟨g3, 0, none⟩) nk cp3]) (GG ++ Fk) (Y15.setCell ⟨w.heap.size + 1 + 1, 6, none⟩ (.slice (some ⟨g4, 0, none⟩) (k + 1) cp4))) := ST.1
        have HS : Hid (CopyS w #[.int .i64 s.count, .int .i64 s.sum, .int .i64 s.min, .int .i64 s.max, .slice (some ⟨p1, q1, none⟩) n1 c1, .slice (some ⟨p2, q2, none⟩) n2 c2, .slice (some ⟨p3, o3, none⟩) n3 c3] Y15) := ST.2.1
        have co := ST.2.2.1
        have cf := ST.2.2.2
        refine ⟨_, by simp [Act.put]; rfl, hK _ _ ⟨HS.out, ?_⟩⟩
        clear hK hown hgrow hat ST CSS HK3 HCN
        refine takeH (o := ?o16) 11 (.pointer (some ⟨w.heap.size + 1 + 1, 6, none⟩)) ?h16 ?r16
        case h16 => simp only [aT, aS, aZ]; rfl
        refine ⟨_, by simp [Act.put]; rfl, by kernel_rfl, by kernel_rfl, by kernel_rfl, fun _ _ _ h => h, (.inl ⟨rfl, fun W _ => by go_simp⟩), HS.out, ?_⟩
        refine onlyH (o := ?o17) 12 (by kernel_rfl) ?h17 ?r17
        case h17 => simp only [aT, aS, aZ]; rfl
        intro K hK
        refine op_skip (Y15.setCell ⟨w.heap.size + 1 + 1, 6, none⟩ (.slice (some ⟨g4, 0, none⟩) (k + 1) cp4)) rfl (by go_simp) ⟨_, by simp [Act.put]; rfl, hK _ _ ⟨⟨HST.out.three.box, HST.out.three.bel⟩, ?_⟩⟩
        clear hK co cf
        refine wpAnyH_done (by kernel_rfl) ?_ _
        go_wp2
        go_roundw
        case rel => exact ⟨k + 1, _, _, _, by omega, by go_num, HST⟩
        case measure => simp [intOf]; omega
      case s7 =>
        intro K hK
        refine op_turn (.slice (some ⟨wr.drew.heap.size, 0, none⟩) 0 0) (wr.drew.alloc (.cells #[] 3)) rfl (by go_simp) ⟨_, by simp [Act.put]; rfl, hK _ _ ⟨copyS_below HS.out ((Below.refl _ _).alloc (Nat.le_refl _) _), ?_⟩⟩
        have CSS0 := CSS
        have HS0 := HS
        obtain ⟨Y18, hWn⟩ : ∃ W, W = wr.drew.alloc (.cells #[] 3) := ⟨_, rfl⟩
        have hbn : Below wr.drew.heap.size wr.drew Y18 := by rw [hWn]; exact (Below.refl _ _).alloc (Nat.le_refl _) _
        rw [← hWn]
        have HWn : Hid (Y18 = wr.drew.alloc (.cells #[] 3)) := hWn
        have CSS : Hid (CopySt w #[.int .i64 s.count, .int .i64 s.sum, .int .i64 s.min, .int .i64 s.max, .slice (some ⟨p1, q1, none⟩) n1 c1, .slice (some ⟨p2, q2, none⟩) n2 c2, .slice (some ⟨p3, o3, none⟩) n3 c3] s (.slice b1 n1 d1) (.slice b2 n2 d2) b1 b2 n1 n2 d1 d2 G1 G2 w5.heap.size k v vs GG Y18) := CSS.out.below hbn
        have HS : Hid (CopyS w #[.int .i64 s.count, .int .i64 s.sum, .int .i64 s.min, .int .i64 s.max, .slice (some ⟨p1, q1, none⟩) n1 c1, .slice (some ⟨p2, q2, none⟩) n2 c2, .slice (some ⟨p3, o3, none⟩) n3 c3] Y18) := copyS_below HS.out hbn
        clear hK hWn hbn
        refine twoH (o := ?o19) (o' := ?p19) 1 8 (by kernel_rfl) ?h19 ?g19 ?r19 ?s19
        case h19 => simp only [aT, aS, aZ]; rfl
        case g19 => simp only [aT, aS, aZ]; rfl
        case r19 =>
          intro K hK
          have co := CSS.out.three.loc.cell 6
          simp only [aT, aS, aZ] at co
          refine op_value v rfl (by go_simp) ⟨_, by simp [Act.put]; rfl, hK _ _ ⟨HS.out, ?_⟩⟩
          clear hK co
          refine onlyH (o := ?o20) 8 (by kernel_rfl) ?h20 ?r20
          case h20 => simp only [aT, aS, aZ]; rfl
          intro K hK
          refine op_append Y18 rfl _ _ 29 rfl wr.drew.heap.size 3 i0 (.int .i64 0) 1 8 Try.underlying29 hi hz0 hz1 hz2 rfl (by decide) _ 0 [] rfl (by rw [HWn.out]; exact own_empty wr.drew _) ⟨pk, qk, none⟩ nk ck ((s.rows.getD k []).map (Value.int .i64)) rfl (by rw [List.length_map, HQ.out.1.length]; omega) (HQ.out.1.from HS.out.2 HQ.out.2.1) (ints_one _) HQ.out.2.1 (by have := HQ.out.2.2; unfold maxLen; omega) (by have := HQ.out.2.2; omega) (by rw [HWn.out]; simp) _ rfl ?_
          intro g3 cp3 Y21 hown hgrow _ _
          obtain ⟨a3', c3', Fk, e3, rk, ok, bk, _⟩ := fresh_list (W := wr.drew) (by simpa using hown) (by rw [← HWn.out]; exact hgrow)
          have e3' : a3' = some ⟨g3, 0, none⟩ := by simp only [Value.slice.injEq] at e3; exact e3.1.symm
          subst e3'
          rw [Nat.zero_add] at hown ⊢
          refine ⟨_, by simp [Act.put]; rfl, hK _ _ ⟨copyS_below HS0.out bk, ?_⟩⟩
          have CSS : Hid (CopySt w #[.int .i64 s.count, .int .i64 s.sum, .int .i64 s.min, .int .i64 s.max, .slice (some ⟨p1, q1, none⟩) n1 c1, .slice (some ⟨p2, q2, none⟩) n2 c2, .slice (some ⟨p3, o3, none⟩) n3 c3] s (.slice b1 n1 d1) (.slice b2 n2 d2) b1 b2 n1 n2 d1 d2 G1 G2 w5.heap.size k v vs GG Y21) := CSS0.out.below bk
          have HS : Hid (CopyS w #[.int .i64 s.count, .int .i64 s.sum, .int .i64 s.min, .int .i64 s.max, .slice (some ⟨p1, q1, none⟩) n1 c1, .slice (some ⟨p2, q2, none⟩) n2 c2, .slice (some ⟨p3, o3, none⟩) n3 c3] Y21) := copyS_below HS0.out bk
          have HK3 : Hid (RdI Y21 (some ⟨g3, 0, none⟩) nk (s.rows.getD k []) Fk ∧ Own wr.drew.heap.size Y21 Fk ∧ (∀ b ∈ GG, b < wr.drew.heap.size) ∧ (∀ b, v.ownBlock = some b → b < wr.drew.heap.size) ∧ w5.heap.size ≤ wr.drew.heap.size) := ⟨rk, ok, CSS0.out.rd.lt, fun b hb => (CSS0.out.row.lt b hb).2, CSS0.out.lw⟩
          clear hK hown hgrow e3 rk ok bk CSS0 HS0 HWn
          obtain ⟨Wst, hWst⟩ : ∃ W, W = wr.drew := ⟨_, rfl⟩
          rw [← hWst] at HK3
          clear hWst
          refine onlyH (o := ?o22) 9 (by kernel_rfl) ?h22 ?r22
          case h22 => simp only [aT, aS, aZ]; rfl
          intro K hK
          refine op_turn (.slice (some ⟨Y21.heap.size, 0, none⟩) 1 1) (Y21.alloc (.cells #[.slice (some ⟨g3, 0, none⟩) nk cp3] 29)) rfl (by go_simp) ⟨_, by simp [Act.put]; rfl, hK _ _ ⟨copyS_below HS.out ((Below.refl _ _).alloc (Nat.le_refl _) _), ?_⟩⟩
          obtain ⟨Y23, hWn⟩ : ∃ W, W = Y21.alloc (.cells #[.slice (some ⟨g3, 0, none⟩) nk cp3] 29) := ⟨_, rfl⟩
          have hbn : Below Y21.heap.size Y21 Y23 := by rw [hWn]; exact (Below.refl _ _).alloc (Nat.le_refl _) _
          have HCN : Hid (∀ (j : Nat) (x : Value), [Value.slice (some ⟨g3, 0, none⟩) nk cp3][j]? = some x → Y23.cell? ((⟨Y21.heap.size, 0, none⟩ : Addr).add j) = some x) := by rw [hWn]; exact cell_new1 _ _ _
          rw [← hWn]
          have CSS : Hid (CopySt w #[.int .i64 s.count, .int .i64 s.sum, .int .i64 s.min, .int .i64 s.max, .slice (some ⟨p1, q1, none⟩) n1 c1, .slice (some ⟨p2, q2, none⟩) n2 c2, .slice (some ⟨p3, o3, none⟩) n3 c3] s (.slice b1 n1 d1) (.slice b2 n2 d2) b1 b2 n1 n2 d1 d2 G1 G2 w5.heap.size k v vs GG Y23) := CSS.out.below hbn
          have HS : Hid (CopyS w #[.int .i64 s.count, .int .i64 s.sum, .int .i64 s.min, .int .i64 s.max, .slice (some ⟨p1, q1, none⟩) n1 c1, .slice (some ⟨p2, q2, none⟩) n2 c2, .slice (some ⟨p3, o3, none⟩) n3 c3] Y23) := copyS_below HS.out hbn
          have HK3 : Hid (RdI Y23 (some ⟨g3, 0, none⟩) nk (s.rows.getD k []) Fk ∧ Own Wst.heap.size Y23 Fk ∧ (∀ b ∈ GG, b < Wst.heap.size) ∧ (∀ b, v.ownBlock = some b → b < Wst.heap.size) ∧ w5.heap.size ≤ Wst.heap.size) := ⟨HK3.out.1.below hbn, HK3.out.2.1.below HK3.out.1.lt hbn, HK3.out.2.2.1, HK3.out.2.2.2.1, HK3.out.2.2.2.2⟩
          clear hK hWn hbn
          refine onlyH (o := ?o24) 10 (by kernel_rfl) ?h24 ?r24
          case h24 => simp only [aT, aS, aZ]; rfl
          intro K hK
          refine op_append Y23 rfl _ _ 32 rfl w5.heap.size 29 j0 (.slice none 0 0) 1 24 Try.underlying32 hj hy0 hy1 hy2 rfl (by decide) _ k vs rfl CSS.out.row ⟨Y21.heap.size, 0, none⟩ 1 1 [.slice (some ⟨g3, 0, none⟩) nk cp3] rfl rfl HCN.out (by intro u hu; simp at hu; subst hu; rfl) (by decide) (by unfold maxLen; omega) (by omega) CSS.out.lw _ rfl ?_
          intro g4 cp4 Y25 hown hgrow hat _
          have ST := CSS.out.step HK3.out.1 HK3.out.2.1 HK3.out.2.2.1 HK3.out.2.2.2.1 HK3.out.2.2.2.2 hown hgrow hat HLk.out
          have HST : Hid (CopySt w #[.int .i64 s.count, .int .i64 s.sum, .int .i64 s.min, .int .i64 s.max, .slice (some ⟨p1, q1, none⟩) n1 c1, .slice (some ⟨p2, q2, none⟩) n2 c2, .slice (some ⟨p3, o3, none⟩) n3 c3] s (.slice b1 n1 d1) (.slice b2 n2 d2) b1 b2 n1 n2 d1 d2 G1 G2 w5.heap.size (k + 1) (.slice (some ⟨g4, 0, none⟩) (k + 1) cp4) (vs ++ [.slice (some ⟨g3, 0, none⟩) nk cp3]) (GG ++ Fk) (Y25.setCell ⟨w.heap.size + 1 + 1, 6, none⟩ (.slice (some ⟨g4, 0, none⟩) (k + 1) cp4))) := ST.1
          have HS : Hid (CopyS w #[.int .i64 s.count, .int .i64 s.sum, .int .i64 s.min, .int .i64 s.max, .slice (some ⟨p1, q1, none⟩) n1 c1, .slice (some ⟨p2, q2, none⟩) n2 c2, .slice (some ⟨p3, o3, none⟩) n3 c3] Y25) := ST.2.1
          have co := ST.2.2.1
          have cf := ST.2.2.2
          refine ⟨_, by simp [Act.put]; rfl, hK _ _ ⟨HS.out, ?_⟩⟩
          clear hK hown hgrow hat ST CSS HK3 HCN
          refine takeH (o := ?o26) 11 (.pointer (some ⟨w.heap.size + 1 + 1, 6, none⟩)) ?h26 ?r26
          case h26 => simp only [aT, aS, aZ]; rfl
          refine ⟨_, by simp [Act.put]; rfl, by kernel_rfl, by kernel_rfl, by kernel_rfl, fun _ _ _ h => h, (.inl ⟨rfl, fun W _ => by go_simp⟩), HS.out, ?_⟩
          refine onlyH (o := ?o27) 12 (by kernel_rfl) ?h27 ?r27
          case h27 => simp only [aT, aS, aZ]; rfl
          intro K hK
          refine op_skip (Y25.setCell ⟨w.heap.size + 1 + 1, 6, none⟩ (.slice (some ⟨g4, 0, none⟩) (k + 1) cp4)) rfl (by go_simp) ⟨_, by simp [Act.put]; rfl, hK _ _ ⟨⟨HST.out.three.box, HST.out.three.bel⟩, ?_⟩⟩
          clear hK co cf
          refine wpAnyH_done (by kernel_rfl) ?_ _
          go_wp2
          go_roundw
          case rel => exact ⟨k + 1, _, _, _, by omega, by go_num, HST⟩
          case measure => simp [intOf]; omega
        case s19 =>
          intro K hK
          refine op_append Y18 rfl _ _ 29 rfl wr.drew.heap.size 3 i0 (.int .i64 0) 1 8 Try.underlying29 hi hz0 hz1 hz2 rfl (by decide) _ 0 [] rfl (by rw [HWn.out]; exact own_empty wr.drew _) ⟨pk, qk, none⟩ nk ck ((s.rows.getD k []).map (Value.int .i64)) rfl (by rw [List.length_map, HQ.out.1.length]; omega) (HQ.out.1.from HS.out.2 HQ.out.2.1) (ints_one _) HQ.out.2.1 (by have := HQ.out.2.2; unfold maxLen; omega) (by have := HQ.out.2.2; omega) (by rw [HWn.out]; simp) _ rfl ?_
          intro g3 cp3 Y28 hown hgrow _ _
          obtain ⟨a3', c3', Fk, e3, rk, ok, bk, _⟩ := fresh_list (W := wr.drew) (by simpa using hown) (by rw [← HWn.out]; exact hgrow)
          have e3' : a3' = some ⟨g3, 0, none⟩ := by simp only [Value.slice.injEq] at e3; exact e3.1.symm
          subst e3'
          rw [Nat.zero_add] at hown ⊢
          refine ⟨_, by simp [Act.put]; rfl, hK _ _ ⟨copyS_below HS0.out bk, ?_⟩⟩
          have CSS : Hid (CopySt w #[.int .i64 s.count, .int .i64 s.sum, .int .i64 s.min, .int .i64 s.max, .slice (some ⟨p1, q1, none⟩) n1 c1, .slice (some ⟨p2, q2, none⟩) n2 c2, .slice (some ⟨p3, o3, none⟩) n3 c3] s (.slice b1 n1 d1) (.slice b2 n2 d2) b1 b2 n1 n2 d1 d2 G1 G2 w5.heap.size k v vs GG Y28) := CSS0.out.below bk
          have HS : Hid (CopyS w #[.int .i64 s.count, .int .i64 s.sum, .int .i64 s.min, .int .i64 s.max, .slice (some ⟨p1, q1, none⟩) n1 c1, .slice (some ⟨p2, q2, none⟩) n2 c2, .slice (some ⟨p3, o3, none⟩) n3 c3] Y28) := copyS_below HS0.out bk
          have HK3 : Hid (RdI Y28 (some ⟨g3, 0, none⟩) nk (s.rows.getD k []) Fk ∧ Own wr.drew.heap.size Y28 Fk ∧ (∀ b ∈ GG, b < wr.drew.heap.size) ∧ (∀ b, v.ownBlock = some b → b < wr.drew.heap.size) ∧ w5.heap.size ≤ wr.drew.heap.size) := ⟨rk, ok, CSS0.out.rd.lt, fun b hb => (CSS0.out.row.lt b hb).2, CSS0.out.lw⟩
          clear hK hown hgrow e3 rk ok bk CSS0 HS0 HWn
          obtain ⟨Wst, hWst⟩ : ∃ W, W = wr.drew := ⟨_, rfl⟩
          rw [← hWst] at HK3
          clear hWst
          refine twoH (o := ?o29) (o' := ?p29) 1 9 (by kernel_rfl) ?h29 ?g29 ?r29 ?s29
          case h29 => simp only [aT, aS, aZ]; rfl
          case g29 => simp only [aT, aS, aZ]; rfl
          case r29 =>
            intro K hK
            have co := CSS.out.three.loc.cell 6
            simp only [aT, aS, aZ] at co
            refine op_value v rfl (by go_simp) ⟨_, by simp [Act.put]; rfl, hK _ _ ⟨HS.out, ?_⟩⟩
            clear hK co
            refine onlyH (o := ?o30) 9 (by kernel_rfl) ?h30 ?r30
            case h30 => simp only [aT, aS, aZ]; rfl
            intro K hK
            refine op_turn (.slice (some ⟨Y28.heap.size, 0, none⟩) 1 1) (Y28.alloc (.cells #[.slice (some ⟨g3, 0, none⟩) nk cp3] 29)) rfl (by go_simp) ⟨_, by simp [Act.put]; rfl, hK _ _ ⟨copyS_below HS.out ((Below.refl _ _).alloc (Nat.le_refl _) _), ?_⟩⟩
            obtain ⟨Y31, hWn⟩ : ∃ W, W = Y28.alloc (.cells #[.slice (some ⟨g3, 0, none⟩) nk cp3] 29) := ⟨_, rfl⟩
            have hbn : Below Y28.heap.size Y28 Y31 := by rw [hWn]; exact (Below.refl _ _).alloc (Nat.le_refl _) _
            have HCN : Hid (∀ (j : Nat) (x : Value), [Value.slice (some ⟨g3, 0, none⟩) nk cp3][j]? = some x → Y31.cell? ((⟨Y28.heap.size, 0, none⟩ : Addr).add j) = some x) := by rw [hWn]; exact cell_new1 _ _ _
            rw [← hWn]
            have CSS : Hid (CopySt w #[.int .i64 s.count, .int .i64 s.sum, .int .i64 s.min, .int .i64 s.max, .slice (some ⟨p1, q1, none⟩) n1 c1, .slice (some ⟨p2, q2, none⟩) n2 c2, .slice (some ⟨p3, o3, none⟩) n3 c3] s (.slice b1 n1 d1) (.slice b2 n2 d2) b1 b2 n1 n2 d1 d2 G1 G2 w5.heap.size k v vs GG Y31) := CSS.out.below hbn
            have HS : Hid (CopyS w #[.int .i64 s.count, .int .i64 s.sum, .int .i64 s.min, .int .i64 s.max, .slice (some ⟨p1, q1, none⟩) n1 c1, .slice (some ⟨p2, q2, none⟩) n2 c2, .slice (some ⟨p3, o3, none⟩) n3 c3] Y31) := copyS_below HS.out hbn
            have HK3 : Hid (RdI Y31 (some ⟨g3, 0, none⟩) nk (s.rows.getD k []) Fk ∧ Own Wst.heap.size Y31 Fk ∧ (∀ b ∈ GG, b < Wst.heap.size) ∧ (∀ b, v.ownBlock = some b → b < Wst.heap.size) ∧ w5.heap.size ≤ Wst.heap.size) := ⟨HK3.out.1.below hbn, HK3.out.2.1.below HK3.out.1.lt hbn, HK3.out.2.2.1, HK3.out.2.2.2.1, HK3.out.2.2.2.2⟩
            clear hK hWn hbn
            refine onlyH (o := ?o32) 10 (by kernel_rfl) ?h32 ?r32
            case h32 => simp only [aT, aS, aZ]; rfl
            intro K hK
            refine op_append Y31 rfl _ _ 32 rfl w5.heap.size 29 j0 (.slice none 0 0) 1 24 Try.underlying32 hj hy0 hy1 hy2 rfl (by decide) _ k vs rfl CSS.out.row ⟨Y28.heap.size, 0, none⟩ 1 1 [.slice (some ⟨g3, 0, none⟩) nk cp3] rfl rfl HCN.out (by intro u hu; simp at hu; subst hu; rfl) (by decide) (by unfold maxLen; omega) (by omega) CSS.out.lw _ rfl ?_
            intro g4 cp4 Y33 hown hgrow hat _
            have ST := CSS.out.step HK3.out.1 HK3.out.2.1 HK3.out.2.2.1 HK3.out.2.2.2.1 HK3.out.2.2.2.2 hown hgrow hat HLk.out
            have HST : Hid (CopySt w #[.int .i64 s.count, .int .i64 s.sum, .int .i64 s.min, .int .i64 s.max, .slice (some ⟨p1, q1, none⟩) n1 c1, .slice (some ⟨p2, q2, none⟩) n2 c2, .slice (some ⟨p3, o3, none⟩) n3 c3] s (.slice b1 n1 d1) (.slice b2 n2 d2) b1 b2 n1 n2 d1 d2 G1 G2 w5.heap.size (k + 1) (.slice (some ⟨g4, 0, none⟩) (k + 1) cp4) (vs ++ [.slice (some ⟨g3, 0, none⟩) nk cp3]) (GG ++ Fk) (Y33.setCell ⟨w.heap.size + 1 + 1, 6, none⟩ (.slice (some ⟨g4, 0, none⟩) (k + 1) cp4))) := ST.1
            have HS : Hid (CopyS w #[.int .i64 s.count, .int .i64 s.sum, .int .i64 s.min, .int .i64 s.max, .slice (some ⟨p1, q1, none⟩) n1 c1, .slice (some ⟨p2, q2, none⟩) n2 c2, .slice (some ⟨p3, o3, none⟩) n3 c3] Y33) := ST.2.1
            have co := ST.2.2.1
            have cf := ST.2.2.2
            refine ⟨_, by simp [Act.put]; rfl, hK _ _ ⟨HS.out, ?_⟩⟩
            clear hK hown hgrow hat ST CSS HK3 HCN
            refine takeH (o := ?o34) 11 (.pointer (some ⟨w.heap.size + 1 + 1, 6, none⟩)) ?h34 ?r34
            case h34 => simp only [aT, aS, aZ]; rfl
            refine ⟨_, by simp [Act.put]; rfl, by kernel_rfl, by kernel_rfl, by kernel_rfl, fun _ _ _ h => h, (.inl ⟨rfl, fun W _ => by go_simp⟩), HS.out, ?_⟩
            refine onlyH (o := ?o35) 12 (by kernel_rfl) ?h35 ?r35
            case h35 => simp only [aT, aS, aZ]; rfl
            intro K hK
            refine op_skip (Y33.setCell ⟨w.heap.size + 1 + 1, 6, none⟩ (.slice (some ⟨g4, 0, none⟩) (k + 1) cp4)) rfl (by go_simp) ⟨_, by simp [Act.put]; rfl, hK _ _ ⟨⟨HST.out.three.box, HST.out.three.bel⟩, ?_⟩⟩
            clear hK co cf
            refine wpAnyH_done (by kernel_rfl) ?_ _
            go_wp2
            go_roundw
            case rel => exact ⟨k + 1, _, _, _, by omega, by go_num, HST⟩
            case measure => simp [intOf]; omega
          case s29 =>
            intro K hK
            refine op_turn (.slice (some ⟨Y28.heap.size, 0, none⟩) 1 1) (Y28.alloc (.cells #[.slice (some ⟨g3, 0, none⟩) nk cp3] 29)) rfl (by go_simp) ⟨_, by simp [Act.put]; rfl, hK _ _ ⟨copyS_below HS.out ((Below.refl _ _).alloc (Nat.le_refl _) _), ?_⟩⟩
            obtain ⟨Y36, hWn⟩ : ∃ W, W = Y28.alloc (.cells #[.slice (some ⟨g3, 0, none⟩) nk cp3] 29) := ⟨_, rfl⟩
            have hbn : Below Y28.heap.size Y28 Y36 := by rw [hWn]; exact (Below.refl _ _).alloc (Nat.le_refl _) _
            have HCN : Hid (∀ (j : Nat) (x : Value), [Value.slice (some ⟨g3, 0, none⟩) nk cp3][j]? = some x → Y36.cell? ((⟨Y28.heap.size, 0, none⟩ : Addr).add j) = some x) := by rw [hWn]; exact cell_new1 _ _ _
            rw [← hWn]
            have CSS : Hid (CopySt w #[.int .i64 s.count, .int .i64 s.sum, .int .i64 s.min, .int .i64 s.max, .slice (some ⟨p1, q1, none⟩) n1 c1, .slice (some ⟨p2, q2, none⟩) n2 c2, .slice (some ⟨p3, o3, none⟩) n3 c3] s (.slice b1 n1 d1) (.slice b2 n2 d2) b1 b2 n1 n2 d1 d2 G1 G2 w5.heap.size k v vs GG Y36) := CSS.out.below hbn
            have HS : Hid (CopyS w #[.int .i64 s.count, .int .i64 s.sum, .int .i64 s.min, .int .i64 s.max, .slice (some ⟨p1, q1, none⟩) n1 c1, .slice (some ⟨p2, q2, none⟩) n2 c2, .slice (some ⟨p3, o3, none⟩) n3 c3] Y36) := copyS_below HS.out hbn
            have HK3 : Hid (RdI Y36 (some ⟨g3, 0, none⟩) nk (s.rows.getD k []) Fk ∧ Own Wst.heap.size Y36 Fk ∧ (∀ b ∈ GG, b < Wst.heap.size) ∧ (∀ b, v.ownBlock = some b → b < Wst.heap.size) ∧ w5.heap.size ≤ Wst.heap.size) := ⟨HK3.out.1.below hbn, HK3.out.2.1.below HK3.out.1.lt hbn, HK3.out.2.2.1, HK3.out.2.2.2.1, HK3.out.2.2.2.2⟩
            clear hK hWn hbn
            refine onlyH (o := ?o37) 1 (by kernel_rfl) ?h37 ?r37
            case h37 => simp only [aT, aS, aZ]; rfl
            intro K hK
            have co := CSS.out.three.loc.cell 6
            simp only [aT, aS, aZ] at co
            refine op_value v rfl (by go_simp) ⟨_, by simp [Act.put]; rfl, hK _ _ ⟨HS.out, ?_⟩⟩
            clear hK co
            refine onlyH (o := ?o38) 10 (by kernel_rfl) ?h38 ?r38
            case h38 => simp only [aT, aS, aZ]; rfl
            intro K hK
            refine op_append Y36 rfl _ _ 32 rfl w5.heap.size 29 j0 (.slice none 0 0) 1 24 Try.underlying32 hj hy0 hy1 hy2 rfl (by decide) _ k vs rfl CSS.out.row ⟨Y28.heap.size, 0, none⟩ 1 1 [.slice (some ⟨g3, 0, none⟩) nk cp3] rfl rfl HCN.out (by intro u hu; simp at hu; subst hu; rfl) (by decide) (by unfold maxLen; omega) (by omega) CSS.out.lw _ rfl ?_
            intro g4 cp4 Y39 hown hgrow hat _
            have ST := CSS.out.step HK3.out.1 HK3.out.2.1 HK3.out.2.2.1 HK3.out.2.2.2.1 HK3.out.2.2.2.2 hown hgrow hat HLk.out
            have HST : Hid (CopySt w #[.int .i64 s.count, .int .i64 s.sum, .int .i64 s.min, .int .i64 s.max, .slice (some ⟨p1, q1, none⟩) n1 c1, .slice (some ⟨p2, q2, none⟩) n2 c2, .slice (some ⟨p3, o3, none⟩) n3 c3] s (.slice b1 n1 d1) (.slice b2 n2 d2) b1 b2 n1 n2 d1 d2 G1 G2 w5.heap.size (k + 1) (.slice (some ⟨g4, 0, none⟩) (k + 1) cp4) (vs ++ [.slice (some ⟨g3, 0, none⟩) nk cp3]) (GG ++ Fk) (Y39.setCell ⟨w.heap.size + 1 + 1, 6, none⟩ (.slice (some ⟨g4, 0, none⟩) (k + 1) cp4))) := ST.1
            have HS : Hid (CopyS w #[.int .i64 s.count, .int .i64 s.sum, .int .i64 s.min, .int .i64 s.max, .slice (some ⟨p1, q1, none⟩) n1 c1, .slice (some ⟨p2, q2, none⟩) n2 c2, .slice (some ⟨p3, o3, none⟩) n3 c3] Y39) := ST.2.1
            have co := ST.2.2.1
            have cf := ST.2.2.2
            refine ⟨_, by simp [Act.put]; rfl, hK _ _ ⟨HS.out, ?_⟩⟩
            clear hK hown hgrow hat ST CSS HK3 HCN
            refine takeH (o := ?o40) 11 (.pointer (some ⟨w.heap.size + 1 + 1, 6, none⟩)) ?h40 ?r40
            case h40 => simp only [aT, aS, aZ]; rfl
            refine ⟨_, by simp [Act.put]; rfl, by kernel_rfl, by kernel_rfl, by kernel_rfl, fun _ _ _ h => h, (.inl ⟨rfl, fun W _ => by go_simp⟩), HS.out, ?_⟩
            refine onlyH (o := ?o41) 12 (by kernel_rfl) ?h41 ?r41
            case h41 => simp only [aT, aS, aZ]; rfl
            intro K hK
            refine op_skip (Y39.setCell ⟨w.heap.size + 1 + 1, 6, none⟩ (.slice (some ⟨g4, 0, none⟩) (k + 1) cp4)) rfl (by go_simp) ⟨_, by simp [Act.put]; rfl, hK _ _ ⟨⟨HST.out.three.box, HST.out.three.bel⟩, ?_⟩⟩
            clear hK co cf
            refine wpAnyH_done (by kernel_rfl) ?_ _
            go_wp2
            go_roundw
            case rel => exact ⟨k + 1, _, _, _, by omega, by go_num, HST⟩
            case measure => simp [intOf]; omega
    · obtain rfl : k = n3 := by omega
      have HE : Hid (s.rows.take k = s.rows) := List.take_of_length_le (Nat.le_of_eq HL.out.2.2)
      go_wp2_with (first | (with_reducible refine stopLoad 34 rfl ?_) | (with_reducible refine stopStore 34 rfl ?_))
      refine load_known 34 (w.heap.size + 1 + 1) _ 34 _ CSS.out.three.loc rfl rfl rfl Try.underlying34 rfl (by kernel_rfl) ?_
      go_wp2_with (first | (with_reducible refine stopLoad 34 rfl ?_) | (with_reducible refine stopStore 34 rfl ?_))
      obtain ⟨av, cv, Fv, rfl, rv, ov, kc⟩ := CSS.out.rows
      refine store_known 34 (w.heap.size + 1) _ #[.int .i64 s.count, .int .i64 s.sum, .int .i64 s.min, .int .i64 s.max, .slice b1 n1 d1, .slice b2 n2 d2, .slice av k cv] 34 CSS.out.three.res rfl rfl rfl rfl (by kernel_rfl) rfl (by kernel_rfl) ?_
      go_wp2
      refine bodyPost_ret (results_cell_row Try.results58 _ _ (w.heap.size + 1) _ _ _ _ rfl CSS.out.three.res.setRow Try.underlying34 rfl (by kernel_rfl)) rfl ?_
      rw [HE.out] at rv
      have nr : w.heap.size + 1 ∉ G1 ++ (G2 ++ Fv) := fun hx => by have := ov.ge _ hx; omega
      have ag : Agree wr (wr.setRow (w.heap.size + 1) #[.int .i64 s.count, .int .i64 s.sum, .int .i64 s.min, .int .i64 s.max, .slice b1 n1 d1, .slice b2 n2 d2, .slice av k cv]) (G1 ++ (G2 ++ Fv)) := fun b hb => setRow_other wr _ b _ (fun e => nr (e ▸ hb))
      exact ⟨_, G1 ++ (G2 ++ Fv), rfl, ⟨b1, n1, d1, b2, n2, d2, av, k, cv, G1, G2, Fv, rfl, CSS.out.r1.agree ag.left, CSS.out.r2.agree ag.right.left, rv.agree ag.right.right, rfl⟩, (ov.agree ag).mono (by omega), below_setRow CSS.out.three.bel (by omega) _, ⟨_, _, _, _, _, _, _, G1, _, _, _, _, rfl, CSS.out.rm.agree ag.left, kc⟩⟩
end Go.Proofs.Ytgkbhhlkaifnoaa
/- The walks through the model's l7Put, l7Nums and SketchBytes. No statement of the seat is proved here. -/
namespace Go.Proofs.Ytgkbhhlkaifnoaa
open Go.RowKit
def putAll (zs : List Int) : List Int := (zs.map encOf).flatten
def InN (n : Int) : Prop := 0 ≤ n ∧ n ≤ 2147483647
end Go.Proofs.Ytgkbhhlkaifnoaa
/- The walks through the model's l7Nums and SketchBytes. No statement of the seat is proved here. -/
namespace Go.Proofs.Ytgkbhhlkaifnoaa
open Go.RowKit
def Sk.nums (s : Sk) : List Int := [s.count, s.sum, s.min, s.max] ++ s.hist ++ s.regs ++ s.rows.flatten
structure Sk.lens7 (s : Sk) : Prop where
  hist : s.hist.length = 8
  regs : s.regs.length = 8
  rows : s.rows.length = 2
  row : ∀ z ∈ s.rows, z.length = 4
theorem okL_iff {l : List Int} {m : Nat} {most : Int} {z : Bool} (h : okL l m most z = true) : l.length = m ∧ ∀ x ∈ l, 0 ≤ x ∧ x ≤ most := by
  unfold okL at h
  simp only [Bool.and_eq_true, decide_eq_true_eq, List.all_eq_true] at h
  refine ⟨h.1, fun x hx => ?_⟩
  have e := h.2 x hx
  unfold okN at e
  simp only [Bool.and_eq_true, decide_eq_true_eq] at e
  exact e.1
theorem two_rows7 {l : List (List Int)} (h : l.length = 2) : l = [l.getD 0 [], l.getD 1 []] := by
  match l, h with
  | [a, b], _ => rfl
theorem Sk.ok_lens {s : Sk} (h : s.ok = true) : s.lens7 ∧ ∀ x ∈ s.nums, InN x := by
  unfold Sk.ok okHead okLists at h
  simp only [Bool.and_eq_true, decide_eq_true_eq] at h
  obtain ⟨⟨⟨⟨⟨⟨⟨c0, s0⟩, m0⟩, x0⟩, _⟩, r0⟩, _⟩, ⟨⟨⟨h1, h2⟩, h3⟩, h4⟩⟩ := h
  have e1 := okL_iff h1
  have e2 := okL_iff h2
  have e3 := okL_iff h3
  have e4 := okL_iff h4
  refine ⟨⟨e1.1, e2.1, r0, fun z hz => ?_⟩, fun x hx => ?_⟩
  · rw [two_rows7 r0] at hz
    simp only [List.mem_cons, List.not_mem_nil, or_false] at hz
    rcases hz with rfl | rfl
    · exact e3.1
    · exact e4.1
  · unfold Sk.nums at hx
    rw [two_rows7 r0] at hx
    simp only [List.mem_append, List.mem_cons, List.not_mem_nil, or_false, List.flatten_cons, List.flatten_nil, List.append_nil] at hx
    unfold InN
    rcases hx with ((hx | hx) | hx) | hx | hx
    · rcases hx with rfl | rfl | rfl | rfl <;> omega
    · have := e1.2 x hx; omega
    · have := e2.2 x hx; omega
    · have := e3.2 x hx; omega
    · have := e4.2 x hx; omega
/-- A list that grows beside a box. -/
structure NumSt (w : World) (cs : Array Value) (t : TypeId) (v : Value) (xs : List Int) (W : World) : Prop where
  box : Blk W w.heap.size cs t
  own : W.ownsRow (w.heap.size + 1) 3 1 v xs.length (xs.map (Value.int .i64))
  bel : Below w.heap.size w W
theorem NumSt.size {w W : World} {cs : Array Value} {t : TypeId} {v : Value} {xs : List Int} (h : NumSt w cs t v xs W) : w.heap.size + 1 ≤ W.heap.size := h.box.lt
theorem NumSt.app {w W W' : World} {cs : Array Value} {t : TypeId} {v v' : Value} {xs ys : List Int} {m : Nat} (h : NumSt w cs t v xs W) (hm : ys.length = m) (hown : W'.ownsRow (w.heap.size + 1) 3 1 v' (xs.length + m) (xs.map (Value.int .i64) ++ ys.map (Value.int .i64))) (hg : W.grownBy W' v.ownBlock) : NumSt w cs t v' (xs ++ ys) W' := by
  have b : Below (w.heap.size + 1) W W' := (Below.refl _ _).grown hg h.size (fun g e => (h.own.lt g e).1)
  refine ⟨h.box.agree (b.block _ (Nat.lt_succ_self _)), ?_, h.bel.trans (b.mono (by omega))⟩
  rw [List.length_append, List.map_append, hm]
  exact hown
end Go.Proofs.Ytgkbhhlkaifnoaa
/- How chapter 1 reads a number off bytes, over whole numbers. No statement of the seat is proved here. -/
namespace Go.Proofs.Ytgkbhhlkaifnoaa
open Go.RowKit

/-- The number that the bytes begin with, k of its bytes being read already (together acc): it and how many bytes it takes. -/
def dg : List Int → Nat → Int → Option (Int × Nat)
  | [], _, _ => none
  | c :: r, k, acc => if k = 5 then none else if c < 128 then (if (0 < k ∧ c = 0) ∨ 2147483647 < acc + c % 128 * 128 ^ k then none else some (acc + c % 128 * 128 ^ k, k + 1)) else dg r (k + 1) (acc + c % 128 * 128 ^ k)

/-- The number that begins at that place. -/
def res (zs : List Int) (p : Int) : Option (Int × Nat) := if 0 ≤ p ∧ p ≤ zs.length then dg (zs.drop p.toNat) 0 0 else none


section
variable {zs : List Int} {q k : Nat} {X c Y : Int} {r : Option (Int × Nat)}
end
end Go.Proofs.Ytgkbhhlkaifnoaa
/- The walks through GetNum, the program's and the model's. No statement of the seat is proved here. -/
namespace Go.Proofs.Ytgkbhhlkaifnoaa
open Go.RowKit


end Go.Proofs.Ytgkbhhlkaifnoaa
/- The walks through readNum and GetNum of the program: what is no number panics inside and is recovered at the face. No statement of the seat is proved here. -/
namespace Go.Proofs.Ytgkbhhlkaifnoaa
open Go.RowKit





end Go.Proofs.Ytgkbhhlkaifnoaa
/- The walk through the model's l7Get. No statement of the seat is proved here. -/
namespace Go.Proofs.Ytgkbhhlkaifnoaa
open Go.RowKit
theorem cell_one7 (w : World) (x : Value) (t : TypeId) : ∀ j u, [x][j]? = some u → (w.alloc (.cells #[x] t)).cell? ((⟨w.heap.size, 0, none⟩ : Addr).add j) = some u
  | 0, u, hx => by
    obtain rfl : x = u := by simpa using hx
    simp [Addr.add]
  | j + 1, u, hx => by simp at hx
end Go.Proofs.Ytgkbhhlkaifnoaa
/- The walk through the model's SketchBytes. No statement of the seat is proved here. -/
namespace Go.Proofs.Ytgkbhhlkaifnoaa
open Go.RowKit
def Sk.bytes (s : Sk) : List Int := if s.ok = true then putAll s.nums else []
end Go.Proofs.Ytgkbhhlkaifnoaa
/- The check sum of chapter 1 over whole numbers: one step of it on 32 bits and on 64 bits is the same number. No statement of the seat is proved here. -/
namespace Go.Proofs.Ytgkbhhlkaifnoaa
open Go.RowKit

/-- Half, and, where it was odd, exclusive or with the number of the check sum: on 64 bits with a sign; on 32 bits without one. -/
def hb64 (x : Int) : Int := if x % 2 = 1 then bits .xor .i64 (x / 2) 3988292384 else x / 2
def it64 : Nat → Int → Int | 0, x => x | k + 1, x => hb64 (it64 k x)
def crc64 (l : List Int) : Int := l.foldl (fun x b => it64 8 (bits .xor .i64 x b)) 4294967295


theorem takes (zs : List Int) (k : Nat) (hk : k < zs.length) : zs.take (k + 1) = zs.take k ++ [zs[k]?.getD 0] := by
  rw [List.take_add_one, List.getElem?_eq_getElem hk]; rfl
end Go.Proofs.Ytgkbhhlkaifnoaa
/- The walks through the two check sums (the model's and the program's), through the copying and the comparing of byte slices. No statement of the seat is proved here. -/
namespace Go.Proofs.Ytgkbhhlkaifnoaa
open Go.RowKit



end Go.Proofs.Ytgkbhhlkaifnoaa
/- The walk through the model's l7Sum. No statement of the seat is proved here. -/
namespace Go.Proofs.Ytgkbhhlkaifnoaa
open Go.RowKit
def crcOf (zs : List Int) : Int := bits .xor .i64 (crc64 zs) 4294967295
def sumOf (zs : List Int) : List Int := [crcOf zs / 16777216, crcOf zs / 65536 % 256, crcOf zs / 256 % 256, crcOf zs % 256]
end Go.Proofs.Ytgkbhhlkaifnoaa
/- What a right frame's numbers are, and its bytes. No statement of the seat is proved here. -/
namespace Go.Proofs.Ytgkbhhlkaifnoaa
open Go.RowKit
structure Fr.Right (x : Fr) : Prop where
  kind : 0 ≤ x.kind ∧ x.kind ≤ 3
  agent : 0 ≤ x.agent ∧ x.agent ≤ 2
  epoch : 0 ≤ x.epoch ∧ x.epoch ≤ 1000
  granted : 0 ≤ x.granted ∧ x.granted ≤ 60
  ok : x.taken.ok = true
  span : ∀ k, k < x.taken.length → 1 ≤ (x.taken.at k).1 ∧ (x.taken.at k).1 ≤ (x.taken.at k).2 ∧ (x.taken.at k).2 ≤ 60
  many : x.taken.length ≤ 30
  item : if x.kind = 1 then x.item.ok = true else x.item = It.zero
def Fr.body (x : Fr) : List Int := [87, 82] ++ putAll [x.kind, x.agent, x.epoch, x.granted, (x.taken.length : Int)] ++ putAll (flat x.taken) ++ (if x.kind = 1 then putAll [x.item.seq, x.item.cls, x.item.key, x.item.window] ++ x.item.sk.bytes else [])
def Fr.bytes (x : Fr) : List Int := if x.ok = true then x.body ++ sumOf x.body else []
end Go.Proofs.Ytgkbhhlkaifnoaa
/- The walk through the model's l7Body. No statement of the seat is proved here. -/
namespace Go.Proofs.Ytgkbhhlkaifnoaa
open Go.RowKit
/-- Bytes that grow beside a box. -/
structure ByteSt (w : World) (cs : Array Value) (t : TypeId) (v : Value) (xs : List Int) (W : World) : Prop where
  box : Blk W w.heap.size cs t
  own : W.ownsRow (w.heap.size + 1) 5 1 v xs.length (xs.map (Value.int .u8))
  bel : Below w.heap.size w W
theorem ByteSt.size {w W : World} {cs : Array Value} {t : TypeId} {v : Value} {xs : List Int} (h : ByteSt w cs t v xs W) : w.heap.size + 1 ≤ W.heap.size := h.box.lt
theorem ByteSt.below {w W W' : World} {cs : Array Value} {t : TypeId} {v : Value} {xs : List Int} (h : ByteSt w cs t v xs W) (b : Below W.heap.size W W') : ByteSt w cs t v xs W' := ⟨h.box.below b, ownsRow_below h.own b, Below.next h.bel b⟩
theorem ByteSt.app {w W W' : World} {cs : Array Value} {t : TypeId} {v v' : Value} {xs ys : List Int} {m : Nat} (h : ByteSt w cs t v xs W) (hm : ys.length = m) (hown : W'.ownsRow (w.heap.size + 1) 5 1 v' (xs.length + m) (xs.map (Value.int .u8) ++ ys.map (Value.int .u8))) (hg : W.grownBy W' v.ownBlock) : ByteSt w cs t v' (xs ++ ys) W' := by
  have b : Below (w.heap.size + 1) W W' := (Below.refl _ _).grown hg h.size (fun g e => (h.own.lt g e).1)
  refine ⟨h.box.agree (b.block _ (Nat.lt_succ_self _)), ?_, h.bel.trans (b.mono (by omega))⟩
  rw [List.length_append, List.map_append, hm]
  exact hown
end Go.Proofs.Ytgkbhhlkaifnoaa
/- The walk through the helper of the laws that compares two byte slices. No statement of the seat is proved here. -/
namespace Go.Proofs.Ytgkbhhlkaifnoaa
open Go.RowKit



end Go.Proofs.Ytgkbhhlkaifnoaa
/- The walk through the model's FrameBytes. No statement of the seat is proved here. -/
namespace Go.Proofs.Ytgkbhhlkaifnoaa
open Go.RowKit
end Go.Proofs.Ytgkbhhlkaifnoaa
/- What is written is read as it was: the numbers of a frame. No statement of the seat is proved here. -/
namespace Go.Proofs.Ytgkbhhlkaifnoaa
open Go.RowKit

end Go.Proofs.Ytgkbhhlkaifnoaa
/- What is read is what was written: numbers out of their bytes. No statement of the seat is proved here. -/
namespace Go.Proofs.Ytgkbhhlkaifnoaa
open Go.RowKit
/-! ### summaries -/
end Go.Proofs.Ytgkbhhlkaifnoaa
/- What is read is what was written: summaries and frames out of their numbers. No statement of the seat is proved here. -/
namespace Go.Proofs.Ytgkbhhlkaifnoaa
open Go.RowKit
/-! ### frames -/
def Fr.numbers (x : Fr) : List Int := [x.kind, x.agent, x.epoch, x.granted, (x.taken.length : Int)] ++ flat x.taken ++ (if x.kind = 1 then [x.item.seq, x.item.cls, x.item.key, x.item.window] ++ x.item.sk.nums else [])
def Fr.zero : Fr := ⟨0, 0, 0, 0, [], It.zero⟩
end Go.Proofs.Ytgkbhhlkaifnoaa
/- What is read out of bytes, as a result; appends that grow, within a region. No statement of the seat is proved here. -/
namespace Go.Proofs.Ytgkbhhlkaifnoaa
open Go.RowKit
/-- A part of a list that is read. -/
theorem RdI.part {W : World} {b off m : Nat} {l : List Int} {F : List Nat} (h : RdI W (some ⟨b, off, none⟩) m l F) {k n : Nat} (hkn : k + n ≤ m) (hn : 0 < n) : RdI W (some ⟨b, off + k, none⟩) n ((l.drop k).take n) F := by
  rcases h.cells with ⟨h0, _⟩ | ⟨b', off', _, e, hF, hc⟩
  · omega
  · cases e
    refine ⟨by have := h.length; simp; omega, .inr ⟨b, off + k, hn, rfl, hF, fun i hi => ?_⟩⟩
    rw [Nat.add_assoc, hc (k + i) (by omega)]
    simp [hi]
section
variable {P : Program} {ops : Array Oper} {Q : Exit → Act → World → Prop} {a : Act} {w : World} {o : Oper} {K : Act → World → Prop}
theorem op_grows (s x : Operand) (t : TypeId) (hg : o.guard = none) (hop : o.op = .call { callee := .builtin .append, args := #[s, x], argTypes := #[t, t] })
    (e : TypeId) (i : TypeInfo) (z : Value) (size bytes : Nat) (h1 : P.underlying t = some (.slice e)) (h2 : P.info? e = some i) (h3 : i.zero = some z) (h4 : i.size = size) (h5 : i.bytes = bytes) (h6 : z.cells.size = size) (h7 : 0 < size)
    (ao : Option Addr) (hs : a.eval s = .slice ao 0 0)
    (ad : Addr) (m c : Nat) (news : List Value) (hx : a.eval x = .slice (some ad) m c) (hn : news.length = m * size) (hc : ∀ j u, news[j]? = some u → w.cell? (ad.add j) = some u) (h1c : ∀ u ∈ news, u.oneCell' = true)
    (hm : 0 < m) (b1 : m ≤ maxLen) (b2 : m * bytes ≤ 140737488355328)
    (h : ∀ v' w', w'.ownsRow w.heap.size e size v' m news → Below w.heap.size w w' → ∃ a', a.put o.dst v' = a' ∧ K a' w') : if Region.wanted o (yielded ops a.tmps) = true then Oper.wp P o a w K Q else K (a.put o.dst undef) w := by
  refine step_append_grows hg s x t hop e i z size bytes h1 h2 h3 h4 h5 h6 h7 ao 0 0 [] hs (fun _ => ⟨rfl, rfl⟩) (by simp) (fun _ _ j u hj => by simp at hj) ad m c news hx hn hc h1c (by omega) (by omega) (by simpa using b2) ?_
  intro v' w' k1 k2
  obtain ⟨_, rfl, k3⟩ := h v' w' (by simpa using k1) ((Below.refl _ _).grown k2 (Nat.le_refl _) (fun g e => by cases e))
  exact k3
end
end Go.Proofs.Ytgkbhhlkaifnoaa
/- Appending a slice of numbers, whatever its length, onto an empty literal. No statement of the seat is proved here. -/
namespace Go.Proofs.Ytgkbhhlkaifnoaa
open Go.RowKit
theorem run_append_zero {P : Program} {w : World} (t ty e : TypeId) (i : TypeInfo) (ht : P.underlying t = some (.slice e)) (hi : P.info? e = some i) (ao ax : Option Addr) (c : Nat) :
    (Builtin.append_ #[t, t] ty #[.slice ao 0 0, .slice ax 0 c]).run P w = .ok (.slice ao 0 0) w := by
  have hl : ∀ ad : Addr, (loadCells ad 0).run P w = .ok #[] w := fun ad => by
    have := run_loadCells_list (P := P) w ad [] (fun j v hj => by simp at hj)
    simpa using this
  cases ao <;> cases ax <;> simp [Builtin.append_, run_underlying ht, sizeOf, typeInfo, hi, Builtin.lenOf, Builtin.firstCells, storeCells, hl]
section
variable {P : Program} {ops : Array Oper} {Q : Exit → Act → World → Prop} {a : Act} {w : World} {o : Oper} {K : Act → World → Prop}
theorem op_growsI (s x : Operand) (t : TypeId) (hg : o.guard = none) (hop : o.op = .call { callee := .builtin .append, args := #[s, x], argTypes := #[t, t] })
    (e : TypeId) (i : TypeInfo) (h1 : P.underlying t = some (.slice e)) (h2 : P.info? e = some i) (h3 : i.zero = some (.int .i64 0)) (h4 : i.size = 1) (h5 : i.bytes = 8)
    (ao : Option Addr) (hs : a.eval s = .slice ao 0 0) (ax : Option Addr) (m c : Nat) (zs : List Int) (F : List Nat) (hx : a.eval x = .slice ax m c) (hr : RdI w ax m zs F) (hm : m ≤ 1048576)
    (h : ∀ a' c' F' w', RdI w' a' m zs F' → Own w.heap.size w' F' → Below w.heap.size w w' → (∀ b, a'.map (·.block) = some b → ao.map (·.block) = some b ∨ w.heap.size ≤ b) → ∃ a2, a.put o.dst (.slice a' m c') = a2 ∧ K a2 w') : if Region.wanted o (yielded ops a.tmps) = true then Oper.wp P o a w K Q else K (a.put o.dst undef) w := by
  by_cases h0 : m = 0
  · subst h0
    have hz : zs = [] := List.eq_nil_of_length_eq_zero hr.length
    subst hz
    have hw : Region.wanted o (yielded ops a.tmps) = true := by unfold Region.wanted; rw [hg]
    rw [if_pos hw]
    obtain ⟨_, rfl, k⟩ := h ao 0 [] w ⟨rfl, .inl ⟨rfl, rfl⟩⟩ Own.nil (Below.refl _ _) (fun b hb => .inl hb)
    have hrun := run_append_zero (P := P) (w := w) t o.type e i h1 h2 ao ax c
    unfold Oper.wp
    simp [execOp, hop, resolve, invoke, builtin, hs, hx, hrun, Result.andThen]
    exact k
  · obtain ⟨b, off, rfl⟩ := hr.addr (by omega)
    refine op_grows s x t hg hop e i (.int .i64 0) 1 8 h1 h2 h3 h4 h5 rfl (by decide) ao hs ⟨b, off, none⟩ m c (zs.map (Value.int .i64)) hx (by rw [List.length_map, hr.length]; omega) (hr.from (Below.refl _ _) (by omega)) (ints_one _) (by omega) (by unfold maxLen; omega) (by omega) ?_
    intro v' w' hown hb
    obtain ⟨a', c', F', rfl, hr', ho'⟩ := rdI_of_own hown
    refine h a' c' F' w' hr' ho' hb (fun g hg => ?_)
    rcases hr'.cells with ⟨q, _⟩ | ⟨b', off', _, e', hF, _⟩
    · omega
    · subst e'
      right
      simp at hg
      subst hg
      exact ho'.ge _ (by rw [hF]; simp)
end
end Go.Proofs.Ytgkbhhlkaifnoaa
/- The walk through the model's copying of a summary, whatever lists it has. No statement of the seat is proved here. -/
namespace Go.Proofs.Ytgkbhhlkaifnoaa
open Go.RowKit
/-- What is copied behind k rows. -/
structure CopyA (w : World) (A : Array Value) (s : Sk) (a1 a2 : Option Addr) (n1 n2 d1 d2 : Nat) (F1 F2 : List Nat) (lo k : Nat) (v : Value) (vs : List Value) (G : List Nat) (W : World) : Prop where
  three : Three w A 34 #[.int .i64 0, .int .i64 0, .int .i64 0, .int .i64 0, .slice none 0 0, .slice none 0 0, .slice none 0 0] #[.int .i64 s.count, .int .i64 s.sum, .int .i64 s.min, .int .i64 s.max, .slice a1 n1 d1, .slice a2 n2 d2, v] 34 W
  r1 : RdI W a1 n1 s.hist F1
  r2 : RdI W a2 n2 s.regs F2
  own : Own (w.heap.size + 3) W (F1 ++ F2)
  lt : ∀ b ∈ F1 ++ F2, b < lo
  row : W.ownsRow lo 29 1 v k vs
  rd : RdS W ((s.rows.take k).map ints) vs G
  og : Own lo W G
  ap : ∀ b, v.ownBlock = some b → b ∉ G
  big : w.heap.size + 3 ≤ lo
  lw : lo ≤ W.heap.size
section
variable {w W W' : World} {A : Array Value} {s : Sk} {a1 a2 : Option Addr} {n1 n2 d1 d2 : Nat} {F1 F2 : List Nat} {lo k : Nat} {v : Value} {vs : List Value} {G : List Nat}
theorem CopyA.below (h : CopyA w A s a1 a2 n1 n2 d1 d2 F1 F2 lo k v vs G W) (b : Below W.heap.size W W') : CopyA w A s a1 a2 n1 n2 d1 d2 F1 F2 lo k v vs G W' :=
  ⟨h.three.below b, h.r1.below b, h.r2.below b, h.own.below (fun x hx => (List.mem_append.1 hx).elim (h.r1.lt x) (h.r2.lt x)) b, h.lt, ownsRow_below h.row b, h.rd.below b, h.og.below h.rd.lt b, h.ap, h.big, Nat.le_trans h.lw b.size⟩
theorem CopyA.step (h : CopyA w A s a1 a2 n1 n2 d1 d2 F1 F2 lo k v vs G W) {ak : Option Addr} {nk cp3 g4 cp4 L : Nat} {Fk : List Nat} (rk : RdI W ak nk (s.rows.getD k []) Fk) (ok : Own L W Fk) (ltG : ∀ b ∈ G, b < L) (ltv : ∀ b, v.ownBlock = some b → b < L) (hL : lo ≤ L)
    (hown : W'.ownsRow lo 29 1 (.slice (some ⟨g4, 0, none⟩) (k + 1) cp4) (k + 1) (vs ++ [.slice ak nk cp3])) (hgrow : W.grownBy W' v.ownBlock) (hat : v.ownBlock = some g4 ∨ g4 = W.heap.size) (hk : k < s.rows.length) :
    CopyA w A s a1 a2 n1 n2 d1 d2 F1 F2 lo (k + 1) (.slice (some ⟨g4, 0, none⟩) (k + 1) cp4) (vs ++ [.slice ak nk cp3]) (G ++ Fk) (W'.setCell ⟨w.heap.size + 1 + 1, 6, none⟩ (.slice (some ⟨g4, 0, none⟩) (k + 1) cp4)) ∧ CopyS w A W' ∧
      W'.cell? ⟨w.heap.size + 1 + 1, 6, none⟩ = some v ∧ W'.frozen? ⟨w.heap.size + 1 + 1, 6, none⟩ = false := by
  have big := h.big
  have blk : ∀ b, b < W.heap.size → ¬ v.ownBlock = some b → W'.heap[b]? = W.heap[b]? := fun b hb hn => hgrow.block b hb (fun e => hn e.symm)
  have vge : ∀ b, v.ownBlock = some b → lo ≤ b := fun b hb => (h.row.lt b hb).1
  have bx := h.three.box.agree (blk _ h.three.box.lt (fun e => by have := vge _ e; omega))
  have rs := h.three.res.agree (blk _ h.three.res.lt (fun e => by have := vge _ e; omega))
  have lc := h.three.loc.agree (blk _ h.three.loc.lt (fun e => by have := vge _ e; omega))
  have bel : Below w.heap.size w W' := h.three.bel.grown hgrow h.three.bel.size (fun b hb => by have := vge b hb; omega)
  have T : Three w A 34 #[.int .i64 0, .int .i64 0, .int .i64 0, .int .i64 0, .slice none 0 0, .slice none 0 0, .slice none 0 0] #[.int .i64 s.count, .int .i64 s.sum, .int .i64 s.min, .int .i64 s.max, .slice a1 n1 d1, .slice a2 n2 d2, v] 34 W' := ⟨bx, rs, lc, bel⟩
  have no : ∀ b ∈ F1 ++ F2 ++ (G ++ Fk), b ≠ w.heap.size + 1 + 1 := fun b hb e => by
    rcases List.mem_append.1 hb with hb | hb
    · have := h.own.ge b hb; omega
    · rcases List.mem_append.1 hb with hb | hb
      · have := h.og.ge b hb; omega
      · have := ok.ge b hb; omega
  have agF : Agree W (W'.setCell ⟨w.heap.size + 1 + 1, 6, none⟩ (.slice (some ⟨g4, 0, none⟩) (k + 1) cp4)) (F1 ++ F2) := Agree.thenSet (fun b hb => blk b ((List.mem_append.1 hb).elim (h.r1.lt b) (h.r2.lt b)) (fun e => by have := vge _ e; have := h.lt b hb; omega)) (fun hx => no _ (List.mem_append_left _ hx) rfl) _ _
  have agG : Agree W (W'.setCell ⟨w.heap.size + 1 + 1, 6, none⟩ (.slice (some ⟨g4, 0, none⟩) (k + 1) cp4)) (G ++ Fk) := Agree.thenSet (fun b hb => blk b ((List.mem_append.1 hb).elim (h.rd.lt b) (rk.lt b)) (fun e => (List.mem_append.1 hb).elim (h.ap b e) (fun hf => by have := ok.ge b hf; have := ltv b e; omega))) (fun hx => no _ (List.mem_append_right _ hx) rfl) _ _
  have hgw : w.heap.size + 1 + 1 < W'.heap.size := lc.lt
  have rowS : (W'.setCell ⟨w.heap.size + 1 + 1, 6, none⟩ (.slice (some ⟨g4, 0, none⟩) (k + 1) cp4)).ownsRow lo 29 1 (.slice (some ⟨g4, 0, none⟩) (k + 1) cp4) (k + 1) (vs ++ [.slice ak nk cp3]) :=
    own_keep hown (grown_set W' (w.heap.size + 1 + 1) 6 _) (by omega)
  refine ⟨⟨T.set 6 _, h.r1.agree agF.left, h.r2.agree agF.right, h.own.agree agF, h.lt, rowS, ?_, ?_, ?_, h.big, ?_⟩, ⟨bx, bel⟩, by rw [lc.cell]; rfl, lc.frozen 6⟩
  · rw [take_snoc s.rows [] k hk, List.map_append]
    exact (h.rd.agree agG.left).snoc (rd_ints.2 ⟨_, _, _, rfl, rk.agree agG.right⟩)
  · exact (h.og.agree agG.left).join (ok.agree agG.right) ltG hL
  · intro b hb hx
    have hb' : b = g4 := by simpa [Value.ownBlock] using hb.symm
    subst hb'
    rcases hat with e | e
    · rcases List.mem_append.1 hx with hx | hx
      · exact h.ap _ e hx
      · have := ok.ge _ hx; have := ltv _ e; omega
    · rcases List.mem_append.1 hx with hx | hx
      · have := h.rd.lt _ hx; omega
      · have := rk.lt _ hx; omega
  · have := hgrow.size; have := h.lw; simp; omega
theorem CopyA.rows (h : CopyA w A s a1 a2 n1 n2 d1 d2 F1 F2 lo k v vs G W) : ∃ a c F, v = .slice a k c ∧ RdII W a k (s.rows.take k) F ∧ Own (w.heap.size + 3) W (F1 ++ (F2 ++ F)) ∧ k ≤ c := by
  have big := h.big
  rcases h.row.2 with ⟨e, e'⟩ | ⟨g, cap, cur, e, e2, e3, e4⟩
  · subst e'
    exact ⟨none, 0, [], e, ⟨by simp, .inl ⟨rfl, rfl⟩⟩, by simpa using h.own, by omega⟩
  · subst e
    have hl : vs.length = k := by simpa using h.row.1
    have hlen := h.rd.length
    by_cases h0 : k = 0
    · subst h0
      exact ⟨_, cap, [], rfl, ⟨by simp, .inl ⟨rfl, rfl⟩⟩, by simpa using h.own, by omega⟩
    · have hm : RdM W ((s.rows.take k).map ints) g 0 G := rdM_of_own 0 h.rd (fun i hi => by rw [Nat.zero_add]; exact h.row.cellAt i (by omega))
      have hg : lo ≤ g := (h.row.lt g rfl).1
      have hgG : g ∉ G := h.ap g rfl
      have og : Own lo W (g :: G) := ⟨List.nodup_cons.2 ⟨hgG, h.og.nodup⟩, fun b hb o => (List.mem_cons.1 hb).elim (fun e => by subst e; exact h.row.frozenAt o) (fun hb => h.og.free b hb o), fun b hb => (List.mem_cons.1 hb).elim (fun e => by omega) (h.og.ge b)⟩
      refine ⟨_, cap, g :: G, rfl, ⟨by rw [List.length_map] at hlen; omega, .inr ⟨g, 0, G, by omega, rfl, rfl, hm⟩⟩, ?_, e4.1⟩
      rw [← List.append_assoc]
      exact h.own.join og h.lt h.big
end
set_option maxRecDepth 200000 in
set_option maxHeartbeats 8000000 in
theorem l3Copy_all (v : Value) (s : Sk) (F : List Nat) (w : World) (h : RdSk w v s F) (hf : s.fits) :
    Calls Try.prog 58 #[v] w fun e w' => NewSk w s e w' := by
  obtain ⟨i0, hi, hz0, hz1, hz2⟩ := info_parts infoInt
  obtain ⟨j0, hj, hy0, hy1, hy2⟩ := info_parts infoInts
  obtain ⟨a1, n1, c1, a2, n2, c2, a3, n3, c3, F1, F2, F3, rfl, h1, h2, h3, _⟩ := h
  have l1 := h1.length
  have l2 := h2.length
  have l3 := h3.length
  have hn1 : n1 ≤ 1048576 := by rw [← l1]; exact hf.hist
  have hn2 : n2 ≤ 1048576 := by rw [← l2]; exact hf.regs
  have hn3 : n3 ≤ 1048576 := by rw [← l3]; exact hf.rows
  have HR : Hid (RdI w a1 n1 s.hist F1 ∧ RdI w a2 n2 s.regs F2 ∧ RdII w a3 n3 s.rows F3 ∧ s.fits) := ⟨h1, h2, h3, hf⟩
  have HL : Hid (s.hist.length = n1 ∧ s.regs.length = n2 ∧ s.rows.length = n3) := ⟨l1, l2, l3⟩
  clear h1 h2 h3 hf l1 l2 l3
  have HT0 : Hid (Three w _ _ _ _ _ _) := Three.made w #[.int .i64 s.count, .int .i64 s.sum, .int .i64 s.min, .int .i64 s.max, .slice a1 n1 c1, .slice a2 n2 c2, .slice a3 n3 c3] 34 #[.int .i64 0, .int .i64 0, .int .i64 0, .int .i64 0, .slice none 0 0, .slice none 0 0, .slice none 0 0] #[.int .i64 s.count, .int .i64 s.sum, .int .i64 s.min, .int .i64 s.max, .slice a1 n1 c1, .slice a2 n2 c2, .slice a3 n3 c3] 34
  go_enter Try.func58, Try.ntmps58
  go_wp2_with (with_reducible refine stopAppend rfl ?_)
  obtain ⟨W2, hW2⟩ : ∃ W2, W2 = ((w.alloc (.cells #[.int .i64 s.count, .int .i64 s.sum, .int .i64 s.min, .int .i64 s.max, .slice a1 n1 c1, .slice a2 n2 c2, .slice a3 n3 c3] 34)).alloc (.cells #[.int .i64 0, .int .i64 0, .int .i64 0, .int .i64 0, .slice none 0 0, .slice none 0 0, .slice none 0 0] 34)).alloc (.cells #[.int .i64 s.count, .int .i64 s.sum, .int .i64 s.min, .int .i64 s.max, .slice a1 n1 c1, .slice a2 n2 c2, .slice a3 n3 c3] 34) := ⟨_, rfl⟩
  have hs2 : W2.heap.size = w.heap.size + 3 := by rw [hW2]; simp
  rw [← hW2] at HT0 ⊢
  clear hW2
  have bE2 : Below W2.heap.size W2 (W2.alloc (.cells #[] 3)) := (Below.refl _ _).alloc (Nat.le_refl _) _
  have HT1 : Hid (Three w #[.int .i64 s.count, .int .i64 s.sum, .int .i64 s.min, .int .i64 s.max, .slice a1 n1 c1, .slice a2 n2 c2, .slice a3 n3 c3] 34 #[.int .i64 0, .int .i64 0, .int .i64 0, .int .i64 0, .slice none 0 0, .slice none 0 0, .slice none 0 0] #[.int .i64 s.count, .int .i64 s.sum, .int .i64 s.min, .int .i64 s.max, .slice a1 n1 c1, .slice a2 n2 c2, .slice a3 n3 c3] 34 (W2.alloc (.cells #[] 3))) := HT0.out.below bE2
  refine Stop.intro (wpList_step fun K hK => op_growsI _ _ 29 rfl rfl 3 i0 Try.underlying29 hi hz0 hz1 hz2 (some _) rfl a1 n1 c1 s.hist F1 rfl (HR.out.1.below HT1.out.bel) hn1 ?_)
  intro b1 d1 G1 w3 r1 o1 hb1 _
  have HT3 : Hid (Three w #[.int .i64 s.count, .int .i64 s.sum, .int .i64 s.min, .int .i64 s.max, .slice a1 n1 c1, .slice a2 n2 c2, .slice a3 n3 c3] 34 #[.int .i64 0, .int .i64 0, .int .i64 0, .int .i64 0, .slice none 0 0, .slice none 0 0, .slice none 0 0] #[.int .i64 s.count, .int .i64 s.sum, .int .i64 s.min, .int .i64 s.max, .slice a1 n1 c1, .slice a2 n2 c2, .slice a3 n3 c3] 34 w3) := HT1.out.below hb1
  have HQ3 : Hid (RdI w3 b1 n1 s.hist G1 ∧ Own (w.heap.size + 3) w3 G1) := ⟨r1, o1.mono (by have := bE2.size; omega)⟩
  refine ⟨_, by simp [Act.put]; rfl, hK _ _ ?_⟩
  clear hK r1 o1 hb1 bE2 HT1 HT0 hs2
  have c4 := HT3.out.loc.cell 4
  have f4 := HT3.out.loc.frozen 4
  have e5 := HT3.out.box.cell 5
  simp only [aT, aS, aZ] at c4 e5
  have sz3 := HT3.out.size
  have ne3 : ¬ w.heap.size = w3.heap.size := by omega
  have ne3' : ¬ w3.heap.size = w.heap.size := by omega
  have lt3 : w.heap.size < w3.heap.size := by omega
  go_wp2_with (with_reducible refine stopAppend rfl ?_)
  clear ne3 ne3' lt3 sz3
  have ng1 : w.heap.size + 1 + 1 ∉ G1 := fun hx => by have := HQ3.out.2.ge _ hx; omega
  have HT4 : Hid (Three w #[.int .i64 s.count, .int .i64 s.sum, .int .i64 s.min, .int .i64 s.max, .slice a1 n1 c1, .slice a2 n2 c2, .slice a3 n3 c3] 34 #[.int .i64 0, .int .i64 0, .int .i64 0, .int .i64 0, .slice none 0 0, .slice none 0 0, .slice none 0 0] #[.int .i64 s.count, .int .i64 s.sum, .int .i64 s.min, .int .i64 s.max, .slice b1 n1 d1, .slice a2 n2 c2, .slice a3 n3 c3] 34 (w3.setCell ⟨w.heap.size + 1 + 1, 4, none⟩ (.slice b1 n1 d1))) := HT3.out.set 4 _
  have HQ4 : Hid (RdI (w3.setCell ⟨w.heap.size + 1 + 1, 4, none⟩ (.slice b1 n1 d1)) b1 n1 s.hist G1 ∧ Own (w.heap.size + 3) (w3.setCell ⟨w.heap.size + 1 + 1, 4, none⟩ (.slice b1 n1 d1)) G1) := ⟨HQ3.out.1.agree (.set ng1 4 _), HQ3.out.2.agree (.set ng1 4 _)⟩
  obtain ⟨W4, hW4⟩ : ∃ W, W = w3.setCell ⟨w.heap.size + 1 + 1, 4, none⟩ (.slice b1 n1 d1) := ⟨_, rfl⟩
  try rw [show w3.heap.size = W4.heap.size from by rw [hW4]; simp]
  rw [← hW4] at HT4 HQ4 ⊢
  clear hW4 ng1 c4 f4 e5 HT3 HQ3
  have bE4 : Below W4.heap.size W4 (W4.alloc (.cells #[] 3)) := (Below.refl _ _).alloc (Nat.le_refl _) _
  have HT5 : Hid (Three w #[.int .i64 s.count, .int .i64 s.sum, .int .i64 s.min, .int .i64 s.max, .slice a1 n1 c1, .slice a2 n2 c2, .slice a3 n3 c3] 34 #[.int .i64 0, .int .i64 0, .int .i64 0, .int .i64 0, .slice none 0 0, .slice none 0 0, .slice none 0 0] #[.int .i64 s.count, .int .i64 s.sum, .int .i64 s.min, .int .i64 s.max, .slice b1 n1 d1, .slice a2 n2 c2, .slice a3 n3 c3] 34 (W4.alloc (.cells #[] 3))) := HT4.out.below bE4
  have HQ5 : Hid (RdI (W4.alloc (.cells #[] 3)) b1 n1 s.hist G1 ∧ Own (w.heap.size + 3) (W4.alloc (.cells #[] 3)) G1 ∧ (∀ b ∈ G1, b < W4.heap.size) ∧ w.heap.size + 3 ≤ W4.heap.size) := ⟨HQ4.out.1.below bE4, HQ4.out.2.below HQ4.out.1.lt bE4, HQ4.out.1.lt, HT4.out.size⟩
  refine Stop.intro (wpList_step fun K hK => op_growsI _ _ 29 rfl rfl 3 i0 Try.underlying29 hi hz0 hz1 hz2 (some _) rfl a2 n2 c2 s.regs F2 rfl (HR.out.2.1.below HT5.out.bel) hn2 ?_)
  intro b2 d2 G2 w5 r2 o2 hb2 _
  have HT6 : Hid (Three w #[.int .i64 s.count, .int .i64 s.sum, .int .i64 s.min, .int .i64 s.max, .slice a1 n1 c1, .slice a2 n2 c2, .slice a3 n3 c3] 34 #[.int .i64 0, .int .i64 0, .int .i64 0, .int .i64 0, .slice none 0 0, .slice none 0 0, .slice none 0 0] #[.int .i64 s.count, .int .i64 s.sum, .int .i64 s.min, .int .i64 s.max, .slice b1 n1 d1, .slice a2 n2 c2, .slice a3 n3 c3] 34 w5) := HT5.out.below hb2
  have HQ6 : Hid (RdI w5 b1 n1 s.hist G1 ∧ RdI w5 b2 n2 s.regs G2 ∧ Own (w.heap.size + 3) w5 (G1 ++ G2)) := ⟨HQ5.out.1.below hb2, r2, (HQ5.out.2.1.below HQ5.out.1.lt hb2).join o2 (fun b hb => by have := HQ5.out.2.2.1 b hb; have := bE4.size; omega) (by have := HQ5.out.2.2.2; have := bE4.size; omega)⟩
  refine ⟨_, by simp [Act.put]; rfl, hK _ _ ?_⟩
  clear hK r2 o2 hb2 bE4 HT5 HT4 HQ4 HQ5
  have c5 := HT6.out.loc.cell 5
  have f5 := HT6.out.loc.frozen 5
  have c6 := HT6.out.loc.cell 6
  have f6 := HT6.out.loc.frozen 6
  simp only [aT, aS, aZ] at c5 c6
  have hz5 : w.heap.size + 3 ≤ w5.heap.size := HT6.out.size
  go_wp2
  clear c5 f5 c6 f6
  go_loopw [4] (fun i wr => ∃ (k : Nat) (v : Value) (vs : List Value) (GG : List Nat), k ≤ n3 ∧ i = .int .i64 k ∧ Hid (CopyA w #[.int .i64 s.count, .int .i64 s.sum, .int .i64 s.min, .int .i64 s.max, .slice a1 n1 c1, .slice a2 n2 c2, .slice a3 n3 c3] s b1 b2 n1 n2 d1 d2 G1 G2 w5.heap.size k v vs GG wr)) (fun i _ => n3 - (intOf i).toNat)
  case atStart =>
    have nG : w.heap.size + 1 + 1 ∉ G1 ++ G2 := fun hx => by have := HQ6.out.2.2.ge _ hx; omega
    have ag := ((Agree.refl w5 (G1 ++ G2)).thenSet nG 5 (.slice b2 n2 d2)).thenSet nG 6 (.slice none 0 0)
    have T := (HT6.out.set 5 (.slice b2 n2 d2)).set 6 (.slice none 0 0)
    exact ⟨0, .slice none 0 0, [], [], by omega, rfl, ⟨T, HQ6.out.1.agree ag.left, HQ6.out.2.1.agree ag.right, HQ6.out.2.2.agree ag, fun b hb => (List.mem_append.1 hb).elim (HQ6.out.1.lt b) (HQ6.out.2.1.lt b), ⟨rfl, .inl ⟨rfl, rfl⟩⟩, by simp [RdS], Own.nil, fun b hb => (by cases hb), hz5, by simp⟩⟩
  case round =>
    clear HQ6 HT6
    obtain ⟨k, v, vs, GG, hk, rfl, CSS⟩ := hrel
    have e6 := CSS.out.three.box.cell 6
    simp only [aT, aS, aZ] at e6
    by_cases hlt : k < n3
    · have hI : (k : Int) < (n3 : Int) := by omega
      obtain ⟨p3, o3, F3', rfl, hm3⟩ : ∃ b off F', a3 = some ⟨b, off, none⟩ ∧ RdM w (s.rows.map ints) b off F' := by
        rcases HR.out.2.2.1.cells with ⟨h0, _⟩ | ⟨b, off, F', _, e, _, hm⟩
        · omega
        · exact ⟨b, off, F', e, hm⟩
      obtain ⟨ak, nk, ck, Yk, hck, hrk, _⟩ := RdII.row hm3 HL.out.2.2 k hlt
      have hnk : nk ≤ 1048576 := by rw [← hrk.length]; exact HR.out.2.2.2.row _ (mem_getD (d := []) (by rw [HL.out.2.2]; exact hlt))
      have hp3 : p3 < w.heap.size := World.block_lt_of_cell? _ _ hck
      have HQ : Hid (RdI w ak nk (s.rows.getD k []) Yk ∧ k < s.rows.length) := ⟨hrk, by rw [HL.out.2.2]; exact hlt⟩
      have HC : Hid (∀ W, CopyS w #[.int .i64 s.count, .int .i64 s.sum, .int .i64 s.min, .int .i64 s.max, .slice a1 n1 c1, .slice a2 n2 c2, .slice (some ⟨p3, o3, none⟩) n3 c3] W → W.cell? ⟨w.heap.size, 6, none⟩ = some (.slice (some ⟨p3, o3, none⟩) n3 c3) ∧ W.cell? ⟨p3, o3 + k, none⟩ = some (.slice ak nk ck)) := fun W hW => ⟨by rw [hW.1.cell]; rfl, by
        have q : W.cell? ⟨p3, o3 + k, none⟩ = w.cell? ⟨p3, o3 + k, none⟩ := hW.2.cell (p := ⟨p3, o3 + k, none⟩) hp3
        exact q.trans hck⟩
      have HB0 : Hid (∀ b, b < w.heap.size → b < wr.heap.size) := fun b hb => by have := CSS.out.three.bel.size; omega
      clear hck hrk hm3
      go_wp2_with fail
      clear e6
      have CSd : Hid (CopyA w #[.int .i64 s.count, .int .i64 s.sum, .int .i64 s.min, .int .i64 s.max, .slice a1 n1 c1, .slice a2 n2 c2, .slice (some ⟨p3, o3, none⟩) n3 c3] s b1 b2 n1 n2 d1 d2 G1 G2 w5.heap.size k v vs GG wr.drew) := CSS.out.below (Below.refl _ _).drew
      obtain ⟨Y0, hY0⟩ : ∃ Y, Y = wr.drew := ⟨_, rfl⟩
      rw [← hY0] at CSd
      have HLim : Hid ((∀ b ∈ GG, b < Y0.heap.size) ∧ (∀ b, v.ownBlock = some b → b < Y0.heap.size) ∧ w5.heap.size ≤ Y0.heap.size) := ⟨CSd.out.rd.lt, fun b hb => (CSd.out.row.lt b hb).2, CSd.out.lw⟩
      clear CSS HB0
      refine wp_region_held (S := CopyS w #[.int .i64 s.count, .int .i64 s.sum, .int .i64 s.min, .int .i64 s.max, .slice a1 n1 c1, .slice a2 n2 c2, .slice (some ⟨p3, o3, none⟩) n3 c3]) (by kernel_rfl) ?_
      change wpAnyH _ _ _ _ _ _ _ _ (World.drew _)
      rw [← hY0]
      clear hY0
      refine takeH (o := ?o1) 0 (.pointer (some ⟨w.heap.size + 1 + 1, 6, none⟩)) ?h1 ?r1
      case h1 => simp only [aT, aZ]; rfl
      refine ⟨_, by simp [Act.put]; rfl, by kernel_rfl, by kernel_rfl, by kernel_rfl, fun _ _ _ h => h, (.inl ⟨rfl, fun W _ => by kernel_rfl⟩), ⟨CSd.out.three.box, CSd.out.three.bel⟩, ?_⟩
      refine takeH (o := ?o2) 3 (.pointer (some ⟨w.heap.size, 6, none⟩)) ?h2 ?r2
      case h2 => simp only [aT, aS, aZ]; rfl
      refine ⟨_, by simp [Act.put]; rfl, by kernel_rfl, by kernel_rfl, by kernel_rfl, fun _ _ _ h => h, (.inl ⟨rfl, fun W _ => by kernel_rfl⟩), ⟨CSd.out.three.box, CSd.out.three.bel⟩, ?_⟩
      refine takeH (o := ?o3) 4 (.slice (some ⟨p3, o3, none⟩) n3 c3) ?h3 ?r3
      case h3 => simp only [aT, aS, aZ]; rfl
      refine ⟨_, by simp [Act.put]; rfl, by kernel_rfl, by kernel_rfl, by kernel_rfl, fun _ _ _ h => h, (.inl ⟨rfl, fun W hW => by have c := (HC.out W hW).1; go_simp⟩), ⟨CSd.out.three.box, CSd.out.three.bel⟩, ?_⟩
      refine takeH (o := ?o4) 5 (.int .i64 k) ?h4 ?r4
      case h4 => simp only [aT, aS, aZ]; rfl
      refine ⟨_, by simp [Act.put]; rfl, by kernel_rfl, by kernel_rfl, by kernel_rfl, fun _ _ _ h => h, (.inl ⟨rfl, fun W _ => by kernel_rfl⟩), ⟨CSd.out.three.box, CSd.out.three.bel⟩, ?_⟩
      refine takeH (o := ?o5) 6 (.pointer (some ⟨p3, o3 + k, none⟩)) ?h5 ?r5
      case h5 => simp only [aT, aS, aZ]; rfl
      refine ⟨_, by simp [Act.put]; rfl, by kernel_rfl, by kernel_rfl, by kernel_rfl, fun _ _ _ h => h, (.inl ⟨rfl, fun W _ => by go_simp⟩), ⟨CSd.out.three.box, CSd.out.three.bel⟩, ?_⟩
      refine takeH (o := ?o6) 7 (.slice ak nk ck) ?h6 ?r6
      case h6 => simp only [aT, aS, aZ]; rfl
      refine ⟨_, by simp [Act.put]; rfl, by kernel_rfl, by kernel_rfl, by kernel_rfl, fun _ _ _ h => h, (.inl ⟨rfl, fun W hW => by have c := (HC.out W hW).2; go_simp⟩), ⟨CSd.out.three.box, CSd.out.three.bel⟩, ?_⟩
      refine twoH (o := ?o7) (o' := ?p7) 1 2 (by kernel_rfl) ?h7 ?g7 ?r7 ?s7
      case h7 => simp only [aT, aS, aZ]; rfl
      case g7 => simp only [aT, aS, aZ]; rfl
      case r7 =>
        intro K hK
        have co := CSd.out.three.loc.cell 6
        simp only [aT, aS, aZ] at co
        refine op_value v rfl (by go_simp) ⟨_, by simp [Act.put]; rfl, hK _ _ ⟨⟨CSd.out.three.box, CSd.out.three.bel⟩, ?_⟩⟩
        clear hK co
        refine onlyH (o := ?o8) 2 (by kernel_rfl) ?h8 ?r8
        case h8 => simp only [aT, aS, aZ]; rfl
        intro K hK
        have bl : Below Y0.heap.size Y0 (Y0.alloc (.cells #[] 3)) := (Below.refl _ _).alloc (Nat.le_refl _) _
        have CS1 : Hid (CopyA w #[.int .i64 s.count, .int .i64 s.sum, .int .i64 s.min, .int .i64 s.max, .slice a1 n1 c1, .slice a2 n2 c2, .slice (some ⟨p3, o3, none⟩) n3 c3] s b1 b2 n1 n2 d1 d2 G1 G2 w5.heap.size k v vs GG (Y0.alloc (.cells #[] 3)) ∧ Y0.heap.size ≤ Y0.heap.size) := ⟨CSd.out.below bl, (Nat.le_refl _)⟩
        refine op_turn (.slice (some ⟨Y0.heap.size, 0, none⟩) 0 0) (Y0.alloc (.cells #[] 3)) rfl (by kernel_rfl) ⟨_, by simp [Act.put]; rfl, hK _ _ ⟨⟨CS1.out.1.three.box, CS1.out.1.three.bel⟩, ?_⟩⟩
        clear hK bl
        obtain ⟨Y1, hY1⟩ : ∃ Z, Z = Y0.alloc (.cells #[] 3) := ⟨_, rfl⟩
        have g1 : Hid (Y0.heap.size ≤ Y1.heap.size) := by have := CS1.out.2; show _ ≤ _; rw [hY1]; exact Nat.le_trans this (by simp)
        rw [← hY1] at CS1 ⊢
        have CS1 : Hid (CopyA w #[.int .i64 s.count, .int .i64 s.sum, .int .i64 s.min, .int .i64 s.max, .slice a1 n1 c1, .slice a2 n2 c2, .slice (some ⟨p3, o3, none⟩) n3 c3] s b1 b2 n1 n2 d1 d2 G1 G2 w5.heap.size k v vs GG Y1) := CS1.out.1
        clear hY1
        refine onlyH (o := ?o9) 8 (by kernel_rfl) ?h9 ?r9
        case h9 => simp only [aT, aS, aZ]; rfl
        intro K hK
        refine op_growsI _ _ 29 rfl rfl 3 i0 Try.underlying29 hi hz0 hz1 hz2 (some _) rfl ak nk ck (s.rows.getD k []) Yk rfl (HQ.out.1.below CS1.out.three.bel) hnk ?_
        intro ar cr Fr Y2 rr ro rb _
        have g2 : Hid (Y0.heap.size ≤ Y2.heap.size) := Nat.le_trans g1.out rb.size
        have RR2 : Hid (RdI Y2 ar nk (s.rows.getD k []) Fr ∧ Own Y0.heap.size Y2 Fr) := ⟨rr, ro.mono g1.out⟩
        have CS2 : Hid (CopyA w #[.int .i64 s.count, .int .i64 s.sum, .int .i64 s.min, .int .i64 s.max, .slice a1 n1 c1, .slice a2 n2 c2, .slice (some ⟨p3, o3, none⟩) n3 c3] s b1 b2 n1 n2 d1 d2 G1 G2 w5.heap.size k v vs GG Y2) := CS1.out.below rb
        refine ⟨_, by simp [Act.put]; rfl, hK _ _ ⟨⟨CS2.out.three.box, CS2.out.three.bel⟩, ?_⟩⟩
        clear hK rr ro rb
        refine onlyH (o := ?o10) 9 (by kernel_rfl) ?h10 ?r10
        case h10 => simp only [aT, aS, aZ]; rfl
        intro K hK
        have bl : Below Y2.heap.size Y2 (Y2.alloc (.cells #[.slice ar nk cr] 29)) := (Below.refl _ _).alloc (Nat.le_refl _) _
        have CS3 : Hid (CopyA w #[.int .i64 s.count, .int .i64 s.sum, .int .i64 s.min, .int .i64 s.max, .slice a1 n1 c1, .slice a2 n2 c2, .slice (some ⟨p3, o3, none⟩) n3 c3] s b1 b2 n1 n2 d1 d2 G1 G2 w5.heap.size k v vs GG (Y2.alloc (.cells #[.slice ar nk cr] 29))) := CS2.out.below bl
        have RR3 : Hid (RdI (Y2.alloc (.cells #[.slice ar nk cr] 29)) ar nk (s.rows.getD k []) Fr ∧ Own Y0.heap.size (Y2.alloc (.cells #[.slice ar nk cr] 29)) Fr) := ⟨RR2.out.1.below bl, RR2.out.2.below RR2.out.1.lt bl⟩
        have NW3 : Hid (∀ j u, [Value.slice ar nk cr][j]? = some u → ((Y2.alloc (.cells #[.slice ar nk cr] 29))).cell? ((⟨Y2.heap.size, 0, none⟩ : Addr).add j) = some u) := cell_one7 _ _ _
        refine op_turn (.slice (some ⟨Y2.heap.size, 0, none⟩) 1 1) (Y2.alloc (.cells #[.slice ar nk cr] 29)) rfl (by kernel_rfl) ⟨_, by simp [Act.put]; rfl, hK _ _ ⟨⟨CS3.out.three.box, CS3.out.three.bel⟩, ?_⟩⟩
        clear hK bl
        obtain ⟨L3, hL3⟩ : ∃ z, z = Y2.heap.size := ⟨_, rfl⟩
        obtain ⟨Y3, hY3⟩ : ∃ Z, Z = (Y2.alloc (.cells #[.slice ar nk cr] 29)) := ⟨_, rfl⟩
        rw [← hY3, ← hL3] at NW3
        rw [← hY3] at CS3 RR3 ⊢
        rw [← hL3]
        clear hY3 hL3
        refine onlyH (o := ?o11) 10 (by kernel_rfl) ?h11 ?r11
        case h11 => simp only [aT, aS, aZ]; rfl
        intro K hK
        refine op_append Y3 rfl _ _ 32 rfl w5.heap.size 29 j0 (.slice none 0 0) 1 24 Try.underlying32 hj hy0 hy1 hy2 rfl (by decide) v k vs rfl CS3.out.row ⟨L3, 0, none⟩ 1 1 [.slice ar nk cr] rfl rfl NW3.out (by intro u hu; simp at hu; rw [hu]; rfl) (by decide) (by unfold maxLen; omega) (by omega) CS3.out.lw _ rfl ?_
        intro g4 cp4 Y4 hown hgrow hat _
        have ST := CS3.out.step RR3.out.1 RR3.out.2 HLim.out.1 HLim.out.2.1 HLim.out.2.2 hown hgrow hat HQ.out.2
        have CS4 : Hid (CopyA w #[.int .i64 s.count, .int .i64 s.sum, .int .i64 s.min, .int .i64 s.max, .slice a1 n1 c1, .slice a2 n2 c2, .slice (some ⟨p3, o3, none⟩) n3 c3] s b1 b2 n1 n2 d1 d2 G1 G2 w5.heap.size (k + 1) (.slice (some ⟨g4, 0, none⟩) (k + 1) cp4) (vs ++ [.slice ar nk cr]) (GG ++ Fr) (Y4.setCell ⟨w.heap.size + 1 + 1, 6, none⟩ (.slice (some ⟨g4, 0, none⟩) (k + 1) cp4)) ∧ CopyS w #[.int .i64 s.count, .int .i64 s.sum, .int .i64 s.min, .int .i64 s.max, .slice a1 n1 c1, .slice a2 n2 c2, .slice (some ⟨p3, o3, none⟩) n3 c3] Y4) := ⟨ST.1, ST.2.1⟩
        have co := ST.2.2.1
        have fo := ST.2.2.2
        refine ⟨_, by simp [Act.put]; rfl, hK _ _ ⟨CS4.out.2, ?_⟩⟩
        clear hK hown hgrow hat ST
        refine takeH (o := ?o12) 11 (.pointer (some ⟨w.heap.size + 1 + 1, 6, none⟩)) ?h12 ?r12
        case h12 => simp only [aT, aS, aZ]; rfl
        refine ⟨_, by simp [Act.put]; rfl, by kernel_rfl, by kernel_rfl, by kernel_rfl, fun _ _ _ h => h, (.inl ⟨rfl, fun W _ => by kernel_rfl⟩), CS4.out.2, ?_⟩
        refine onlyH (o := ?o13) 12 (by kernel_rfl) ?h13 ?r13
        case h13 => simp only [aT, aS, aZ]; rfl
        intro K hK
        refine op_skip (Y4.setCell ⟨w.heap.size + 1 + 1, 6, none⟩ (.slice (some ⟨g4, 0, none⟩) (k + 1) cp4)) rfl (by go_simp) ⟨_, by simp [Act.put]; rfl, hK _ _ ⟨⟨CS4.out.1.three.box, CS4.out.1.three.bel⟩, ?_⟩⟩
        clear hK co fo
        refine wpAnyH_done (by kernel_rfl) ?_ _
        have HF : Hid (CopyA w #[.int .i64 s.count, .int .i64 s.sum, .int .i64 s.min, .int .i64 s.max, .slice a1 n1 c1, .slice a2 n2 c2, .slice (some ⟨p3, o3, none⟩) n3 c3] s b1 b2 n1 n2 d1 d2 G1 G2 w5.heap.size (k + 1) (.slice (some ⟨g4, 0, none⟩) (k + 1) cp4) (vs ++ [.slice ar nk cr]) (GG ++ Fr) (Y4.setCell ⟨w.heap.size + 1 + 1, 6, none⟩ (.slice (some ⟨g4, 0, none⟩) (k + 1) cp4))) := CS4.out.1
        obtain ⟨YZ, hYZ⟩ : ∃ Z, Z = Y4.setCell ⟨w.heap.size + 1 + 1, 6, none⟩ (.slice (some ⟨g4, 0, none⟩) (k + 1) cp4) := ⟨_, rfl⟩
        rw [← hYZ] at HF ⊢
        clear hYZ CS4
        go_wp2
        go_roundw
        case rel => exact ⟨k + 1, _, _, _, by omega, by go_num, HF.out⟩
        case measure => simp [intOf]; omega
      case s7 =>
        intro K hK
        have bl : Below Y0.heap.size Y0 (Y0.alloc (.cells #[] 3)) := (Below.refl _ _).alloc (Nat.le_refl _) _
        have CS5 : Hid (CopyA w #[.int .i64 s.count, .int .i64 s.sum, .int .i64 s.min, .int .i64 s.max, .slice a1 n1 c1, .slice a2 n2 c2, .slice (some ⟨p3, o3, none⟩) n3 c3] s b1 b2 n1 n2 d1 d2 G1 G2 w5.heap.size k v vs GG (Y0.alloc (.cells #[] 3)) ∧ Y0.heap.size ≤ Y0.heap.size) := ⟨CSd.out.below bl, (Nat.le_refl _)⟩
        refine op_turn (.slice (some ⟨Y0.heap.size, 0, none⟩) 0 0) (Y0.alloc (.cells #[] 3)) rfl (by kernel_rfl) ⟨_, by simp [Act.put]; rfl, hK _ _ ⟨⟨CS5.out.1.three.box, CS5.out.1.three.bel⟩, ?_⟩⟩
        clear hK bl
        obtain ⟨Y5, hY5⟩ : ∃ Z, Z = Y0.alloc (.cells #[] 3) := ⟨_, rfl⟩
        have g5 : Hid (Y0.heap.size ≤ Y5.heap.size) := by have := CS5.out.2; show _ ≤ _; rw [hY5]; exact Nat.le_trans this (by simp)
        rw [← hY5] at CS5 ⊢
        have CS5 : Hid (CopyA w #[.int .i64 s.count, .int .i64 s.sum, .int .i64 s.min, .int .i64 s.max, .slice a1 n1 c1, .slice a2 n2 c2, .slice (some ⟨p3, o3, none⟩) n3 c3] s b1 b2 n1 n2 d1 d2 G1 G2 w5.heap.size k v vs GG Y5) := CS5.out.1
        clear hY5
        refine twoH (o := ?o14) (o' := ?p14) 1 8 (by kernel_rfl) ?h14 ?g14 ?r14 ?s14
        case h14 => simp only [aT, aS, aZ]; rfl
        case g14 => simp only [aT, aS, aZ]; rfl
        case r14 =>
          intro K hK
          have co := CS5.out.three.loc.cell 6
          simp only [aT, aS, aZ] at co
          refine op_value v rfl (by go_simp) ⟨_, by simp [Act.put]; rfl, hK _ _ ⟨⟨CS5.out.three.box, CS5.out.three.bel⟩, ?_⟩⟩
          clear hK co
          refine onlyH (o := ?o15) 8 (by kernel_rfl) ?h15 ?r15
          case h15 => simp only [aT, aS, aZ]; rfl
          intro K hK
          refine op_growsI _ _ 29 rfl rfl 3 i0 Try.underlying29 hi hz0 hz1 hz2 (some _) rfl ak nk ck (s.rows.getD k []) Yk rfl (HQ.out.1.below CS5.out.three.bel) hnk ?_
          intro ar cr Fr Y6 rr ro rb _
          have g6 : Hid (Y0.heap.size ≤ Y6.heap.size) := Nat.le_trans g5.out rb.size
          have RR6 : Hid (RdI Y6 ar nk (s.rows.getD k []) Fr ∧ Own Y0.heap.size Y6 Fr) := ⟨rr, ro.mono g5.out⟩
          have CS6 : Hid (CopyA w #[.int .i64 s.count, .int .i64 s.sum, .int .i64 s.min, .int .i64 s.max, .slice a1 n1 c1, .slice a2 n2 c2, .slice (some ⟨p3, o3, none⟩) n3 c3] s b1 b2 n1 n2 d1 d2 G1 G2 w5.heap.size k v vs GG Y6) := CS5.out.below rb
          refine ⟨_, by simp [Act.put]; rfl, hK _ _ ⟨⟨CS6.out.three.box, CS6.out.three.bel⟩, ?_⟩⟩
          clear hK rr ro rb
          refine onlyH (o := ?o16) 9 (by kernel_rfl) ?h16 ?r16
          case h16 => simp only [aT, aS, aZ]; rfl
          intro K hK
          have bl : Below Y6.heap.size Y6 (Y6.alloc (.cells #[.slice ar nk cr] 29)) := (Below.refl _ _).alloc (Nat.le_refl _) _
          have CS7 : Hid (CopyA w #[.int .i64 s.count, .int .i64 s.sum, .int .i64 s.min, .int .i64 s.max, .slice a1 n1 c1, .slice a2 n2 c2, .slice (some ⟨p3, o3, none⟩) n3 c3] s b1 b2 n1 n2 d1 d2 G1 G2 w5.heap.size k v vs GG (Y6.alloc (.cells #[.slice ar nk cr] 29))) := CS6.out.below bl
          have RR7 : Hid (RdI (Y6.alloc (.cells #[.slice ar nk cr] 29)) ar nk (s.rows.getD k []) Fr ∧ Own Y0.heap.size (Y6.alloc (.cells #[.slice ar nk cr] 29)) Fr) := ⟨RR6.out.1.below bl, RR6.out.2.below RR6.out.1.lt bl⟩
          have NW7 : Hid (∀ j u, [Value.slice ar nk cr][j]? = some u → ((Y6.alloc (.cells #[.slice ar nk cr] 29))).cell? ((⟨Y6.heap.size, 0, none⟩ : Addr).add j) = some u) := cell_one7 _ _ _
          refine op_turn (.slice (some ⟨Y6.heap.size, 0, none⟩) 1 1) (Y6.alloc (.cells #[.slice ar nk cr] 29)) rfl (by kernel_rfl) ⟨_, by simp [Act.put]; rfl, hK _ _ ⟨⟨CS7.out.three.box, CS7.out.three.bel⟩, ?_⟩⟩
          clear hK bl
          obtain ⟨L7, hL7⟩ : ∃ z, z = Y6.heap.size := ⟨_, rfl⟩
          obtain ⟨Y7, hY7⟩ : ∃ Z, Z = (Y6.alloc (.cells #[.slice ar nk cr] 29)) := ⟨_, rfl⟩
          rw [← hY7, ← hL7] at NW7
          rw [← hY7] at CS7 RR7 ⊢
          rw [← hL7]
          clear hY7 hL7
          refine onlyH (o := ?o17) 10 (by kernel_rfl) ?h17 ?r17
          case h17 => simp only [aT, aS, aZ]; rfl
          intro K hK
          refine op_append Y7 rfl _ _ 32 rfl w5.heap.size 29 j0 (.slice none 0 0) 1 24 Try.underlying32 hj hy0 hy1 hy2 rfl (by decide) v k vs rfl CS7.out.row ⟨L7, 0, none⟩ 1 1 [.slice ar nk cr] rfl rfl NW7.out (by intro u hu; simp at hu; rw [hu]; rfl) (by decide) (by unfold maxLen; omega) (by omega) CS7.out.lw _ rfl ?_
          intro g4 cp4 Y8 hown hgrow hat _
          have ST := CS7.out.step RR7.out.1 RR7.out.2 HLim.out.1 HLim.out.2.1 HLim.out.2.2 hown hgrow hat HQ.out.2
          have CS8 : Hid (CopyA w #[.int .i64 s.count, .int .i64 s.sum, .int .i64 s.min, .int .i64 s.max, .slice a1 n1 c1, .slice a2 n2 c2, .slice (some ⟨p3, o3, none⟩) n3 c3] s b1 b2 n1 n2 d1 d2 G1 G2 w5.heap.size (k + 1) (.slice (some ⟨g4, 0, none⟩) (k + 1) cp4) (vs ++ [.slice ar nk cr]) (GG ++ Fr) (Y8.setCell ⟨w.heap.size + 1 + 1, 6, none⟩ (.slice (some ⟨g4, 0, none⟩) (k + 1) cp4)) ∧ CopyS w #[.int .i64 s.count, .int .i64 s.sum, .int .i64 s.min, .int .i64 s.max, .slice a1 n1 c1, .slice a2 n2 c2, .slice (some ⟨p3, o3, none⟩) n3 c3] Y8) := ⟨ST.1, ST.2.1⟩
          have co := ST.2.2.1
          have fo := ST.2.2.2
          refine ⟨_, by simp [Act.put]; rfl, hK _ _ ⟨CS8.out.2, ?_⟩⟩
          clear hK hown hgrow hat ST
          refine takeH (o := ?o18) 11 (.pointer (some ⟨w.heap.size + 1 + 1, 6, none⟩)) ?h18 ?r18
          case h18 => simp only [aT, aS, aZ]; rfl
          refine ⟨_, by simp [Act.put]; rfl, by kernel_rfl, by kernel_rfl, by kernel_rfl, fun _ _ _ h => h, (.inl ⟨rfl, fun W _ => by kernel_rfl⟩), CS8.out.2, ?_⟩
          refine onlyH (o := ?o19) 12 (by kernel_rfl) ?h19 ?r19
          case h19 => simp only [aT, aS, aZ]; rfl
          intro K hK
          refine op_skip (Y8.setCell ⟨w.heap.size + 1 + 1, 6, none⟩ (.slice (some ⟨g4, 0, none⟩) (k + 1) cp4)) rfl (by go_simp) ⟨_, by simp [Act.put]; rfl, hK _ _ ⟨⟨CS8.out.1.three.box, CS8.out.1.three.bel⟩, ?_⟩⟩
          clear hK co fo
          refine wpAnyH_done (by kernel_rfl) ?_ _
          have HF : Hid (CopyA w #[.int .i64 s.count, .int .i64 s.sum, .int .i64 s.min, .int .i64 s.max, .slice a1 n1 c1, .slice a2 n2 c2, .slice (some ⟨p3, o3, none⟩) n3 c3] s b1 b2 n1 n2 d1 d2 G1 G2 w5.heap.size (k + 1) (.slice (some ⟨g4, 0, none⟩) (k + 1) cp4) (vs ++ [.slice ar nk cr]) (GG ++ Fr) (Y8.setCell ⟨w.heap.size + 1 + 1, 6, none⟩ (.slice (some ⟨g4, 0, none⟩) (k + 1) cp4))) := CS8.out.1
          obtain ⟨YZ, hYZ⟩ : ∃ Z, Z = Y8.setCell ⟨w.heap.size + 1 + 1, 6, none⟩ (.slice (some ⟨g4, 0, none⟩) (k + 1) cp4) := ⟨_, rfl⟩
          rw [← hYZ] at HF ⊢
          clear hYZ CS8
          go_wp2
          go_roundw
          case rel => exact ⟨k + 1, _, _, _, by omega, by go_num, HF.out⟩
          case measure => simp [intOf]; omega
        case s14 =>
          intro K hK
          refine op_growsI _ _ 29 rfl rfl 3 i0 Try.underlying29 hi hz0 hz1 hz2 (some _) rfl ak nk ck (s.rows.getD k []) Yk rfl (HQ.out.1.below CS5.out.three.bel) hnk ?_
          intro ar cr Fr Y9 rr ro rb _
          have g9 : Hid (Y0.heap.size ≤ Y9.heap.size) := Nat.le_trans g5.out rb.size
          have RR9 : Hid (RdI Y9 ar nk (s.rows.getD k []) Fr ∧ Own Y0.heap.size Y9 Fr) := ⟨rr, ro.mono g5.out⟩
          have CS9 : Hid (CopyA w #[.int .i64 s.count, .int .i64 s.sum, .int .i64 s.min, .int .i64 s.max, .slice a1 n1 c1, .slice a2 n2 c2, .slice (some ⟨p3, o3, none⟩) n3 c3] s b1 b2 n1 n2 d1 d2 G1 G2 w5.heap.size k v vs GG Y9) := CS5.out.below rb
          refine ⟨_, by simp [Act.put]; rfl, hK _ _ ⟨⟨CS9.out.three.box, CS9.out.three.bel⟩, ?_⟩⟩
          clear hK rr ro rb
          refine twoH (o := ?o20) (o' := ?p20) 1 9 (by kernel_rfl) ?h20 ?g20 ?r20 ?s20
          case h20 => simp only [aT, aS, aZ]; rfl
          case g20 => simp only [aT, aS, aZ]; rfl
          case r20 =>
            intro K hK
            have co := CS9.out.three.loc.cell 6
            simp only [aT, aS, aZ] at co
            refine op_value v rfl (by go_simp) ⟨_, by simp [Act.put]; rfl, hK _ _ ⟨⟨CS9.out.three.box, CS9.out.three.bel⟩, ?_⟩⟩
            clear hK co
            refine onlyH (o := ?o21) 9 (by kernel_rfl) ?h21 ?r21
            case h21 => simp only [aT, aS, aZ]; rfl
            intro K hK
            have bl : Below Y9.heap.size Y9 (Y9.alloc (.cells #[.slice ar nk cr] 29)) := (Below.refl _ _).alloc (Nat.le_refl _) _
            have CS10 : Hid (CopyA w #[.int .i64 s.count, .int .i64 s.sum, .int .i64 s.min, .int .i64 s.max, .slice a1 n1 c1, .slice a2 n2 c2, .slice (some ⟨p3, o3, none⟩) n3 c3] s b1 b2 n1 n2 d1 d2 G1 G2 w5.heap.size k v vs GG (Y9.alloc (.cells #[.slice ar nk cr] 29))) := CS9.out.below bl
            have RR10 : Hid (RdI (Y9.alloc (.cells #[.slice ar nk cr] 29)) ar nk (s.rows.getD k []) Fr ∧ Own Y0.heap.size (Y9.alloc (.cells #[.slice ar nk cr] 29)) Fr) := ⟨RR9.out.1.below bl, RR9.out.2.below RR9.out.1.lt bl⟩
            have NW10 : Hid (∀ j u, [Value.slice ar nk cr][j]? = some u → ((Y9.alloc (.cells #[.slice ar nk cr] 29))).cell? ((⟨Y9.heap.size, 0, none⟩ : Addr).add j) = some u) := cell_one7 _ _ _
            refine op_turn (.slice (some ⟨Y9.heap.size, 0, none⟩) 1 1) (Y9.alloc (.cells #[.slice ar nk cr] 29)) rfl (by kernel_rfl) ⟨_, by simp [Act.put]; rfl, hK _ _ ⟨⟨CS10.out.three.box, CS10.out.three.bel⟩, ?_⟩⟩
            clear hK bl
            obtain ⟨L10, hL10⟩ : ∃ z, z = Y9.heap.size := ⟨_, rfl⟩
            obtain ⟨Y10, hY10⟩ : ∃ Z, Z = (Y9.alloc (.cells #[.slice ar nk cr] 29)) := ⟨_, rfl⟩
            rw [← hY10, ← hL10] at NW10
            rw [← hY10] at CS10 RR10 ⊢
            rw [← hL10]
            clear hY10 hL10
            refine onlyH (o := ?o22) 10 (by kernel_rfl) ?h22 ?r22
            case h22 => simp only [aT, aS, aZ]; rfl
            intro K hK
            refine op_append Y10 rfl _ _ 32 rfl w5.heap.size 29 j0 (.slice none 0 0) 1 24 Try.underlying32 hj hy0 hy1 hy2 rfl (by decide) v k vs rfl CS10.out.row ⟨L10, 0, none⟩ 1 1 [.slice ar nk cr] rfl rfl NW10.out (by intro u hu; simp at hu; rw [hu]; rfl) (by decide) (by unfold maxLen; omega) (by omega) CS10.out.lw _ rfl ?_
            intro g4 cp4 Y11 hown hgrow hat _
            have ST := CS10.out.step RR10.out.1 RR10.out.2 HLim.out.1 HLim.out.2.1 HLim.out.2.2 hown hgrow hat HQ.out.2
            have CS11 : Hid (CopyA w #[.int .i64 s.count, .int .i64 s.sum, .int .i64 s.min, .int .i64 s.max, .slice a1 n1 c1, .slice a2 n2 c2, .slice (some ⟨p3, o3, none⟩) n3 c3] s b1 b2 n1 n2 d1 d2 G1 G2 w5.heap.size (k + 1) (.slice (some ⟨g4, 0, none⟩) (k + 1) cp4) (vs ++ [.slice ar nk cr]) (GG ++ Fr) (Y11.setCell ⟨w.heap.size + 1 + 1, 6, none⟩ (.slice (some ⟨g4, 0, none⟩) (k + 1) cp4)) ∧ CopyS w #[.int .i64 s.count, .int .i64 s.sum, .int .i64 s.min, .int .i64 s.max, .slice a1 n1 c1, .slice a2 n2 c2, .slice (some ⟨p3, o3, none⟩) n3 c3] Y11) := ⟨ST.1, ST.2.1⟩
            have co := ST.2.2.1
            have fo := ST.2.2.2
            refine ⟨_, by simp [Act.put]; rfl, hK _ _ ⟨CS11.out.2, ?_⟩⟩
            clear hK hown hgrow hat ST
            refine takeH (o := ?o23) 11 (.pointer (some ⟨w.heap.size + 1 + 1, 6, none⟩)) ?h23 ?r23
            case h23 => simp only [aT, aS, aZ]; rfl
            refine ⟨_, by simp [Act.put]; rfl, by kernel_rfl, by kernel_rfl, by kernel_rfl, fun _ _ _ h => h, (.inl ⟨rfl, fun W _ => by kernel_rfl⟩), CS11.out.2, ?_⟩
            refine onlyH (o := ?o24) 12 (by kernel_rfl) ?h24 ?r24
            case h24 => simp only [aT, aS, aZ]; rfl
            intro K hK
            refine op_skip (Y11.setCell ⟨w.heap.size + 1 + 1, 6, none⟩ (.slice (some ⟨g4, 0, none⟩) (k + 1) cp4)) rfl (by go_simp) ⟨_, by simp [Act.put]; rfl, hK _ _ ⟨⟨CS11.out.1.three.box, CS11.out.1.three.bel⟩, ?_⟩⟩
            clear hK co fo
            refine wpAnyH_done (by kernel_rfl) ?_ _
            have HF : Hid (CopyA w #[.int .i64 s.count, .int .i64 s.sum, .int .i64 s.min, .int .i64 s.max, .slice a1 n1 c1, .slice a2 n2 c2, .slice (some ⟨p3, o3, none⟩) n3 c3] s b1 b2 n1 n2 d1 d2 G1 G2 w5.heap.size (k + 1) (.slice (some ⟨g4, 0, none⟩) (k + 1) cp4) (vs ++ [.slice ar nk cr]) (GG ++ Fr) (Y11.setCell ⟨w.heap.size + 1 + 1, 6, none⟩ (.slice (some ⟨g4, 0, none⟩) (k + 1) cp4))) := CS11.out.1
            obtain ⟨YZ, hYZ⟩ : ∃ Z, Z = Y11.setCell ⟨w.heap.size + 1 + 1, 6, none⟩ (.slice (some ⟨g4, 0, none⟩) (k + 1) cp4) := ⟨_, rfl⟩
            rw [← hYZ] at HF ⊢
            clear hYZ CS11
            go_wp2
            go_roundw
            case rel => exact ⟨k + 1, _, _, _, by omega, by go_num, HF.out⟩
            case measure => simp [intOf]; omega
          case s20 =>
            intro K hK
            have bl : Below Y9.heap.size Y9 (Y9.alloc (.cells #[.slice ar nk cr] 29)) := (Below.refl _ _).alloc (Nat.le_refl _) _
            have CS12 : Hid (CopyA w #[.int .i64 s.count, .int .i64 s.sum, .int .i64 s.min, .int .i64 s.max, .slice a1 n1 c1, .slice a2 n2 c2, .slice (some ⟨p3, o3, none⟩) n3 c3] s b1 b2 n1 n2 d1 d2 G1 G2 w5.heap.size k v vs GG (Y9.alloc (.cells #[.slice ar nk cr] 29))) := CS9.out.below bl
            have RR12 : Hid (RdI (Y9.alloc (.cells #[.slice ar nk cr] 29)) ar nk (s.rows.getD k []) Fr ∧ Own Y0.heap.size (Y9.alloc (.cells #[.slice ar nk cr] 29)) Fr) := ⟨RR9.out.1.below bl, RR9.out.2.below RR9.out.1.lt bl⟩
            have NW12 : Hid (∀ j u, [Value.slice ar nk cr][j]? = some u → ((Y9.alloc (.cells #[.slice ar nk cr] 29))).cell? ((⟨Y9.heap.size, 0, none⟩ : Addr).add j) = some u) := cell_one7 _ _ _
            refine op_turn (.slice (some ⟨Y9.heap.size, 0, none⟩) 1 1) (Y9.alloc (.cells #[.slice ar nk cr] 29)) rfl (by kernel_rfl) ⟨_, by simp [Act.put]; rfl, hK _ _ ⟨⟨CS12.out.three.box, CS12.out.three.bel⟩, ?_⟩⟩
            clear hK bl
            obtain ⟨L12, hL12⟩ : ∃ z, z = Y9.heap.size := ⟨_, rfl⟩
            obtain ⟨Y12, hY12⟩ : ∃ Z, Z = (Y9.alloc (.cells #[.slice ar nk cr] 29)) := ⟨_, rfl⟩
            rw [← hY12, ← hL12] at NW12
            rw [← hY12] at CS12 RR12 ⊢
            rw [← hL12]
            clear hY12 hL12
            refine onlyH (o := ?o25) 1 (by kernel_rfl) ?h25 ?r25
            case h25 => simp only [aT, aS, aZ]; rfl
            intro K hK
            have co := CS12.out.three.loc.cell 6
            simp only [aT, aS, aZ] at co
            refine op_value v rfl (by go_simp) ⟨_, by simp [Act.put]; rfl, hK _ _ ⟨⟨CS12.out.three.box, CS12.out.three.bel⟩, ?_⟩⟩
            clear hK co
            refine onlyH (o := ?o26) 10 (by kernel_rfl) ?h26 ?r26
            case h26 => simp only [aT, aS, aZ]; rfl
            intro K hK
            refine op_append Y12 rfl _ _ 32 rfl w5.heap.size 29 j0 (.slice none 0 0) 1 24 Try.underlying32 hj hy0 hy1 hy2 rfl (by decide) v k vs rfl CS12.out.row ⟨L12, 0, none⟩ 1 1 [.slice ar nk cr] rfl rfl NW12.out (by intro u hu; simp at hu; rw [hu]; rfl) (by decide) (by unfold maxLen; omega) (by omega) CS12.out.lw _ rfl ?_
            intro g4 cp4 Y13 hown hgrow hat _
            have ST := CS12.out.step RR12.out.1 RR12.out.2 HLim.out.1 HLim.out.2.1 HLim.out.2.2 hown hgrow hat HQ.out.2
            have CS13 : Hid (CopyA w #[.int .i64 s.count, .int .i64 s.sum, .int .i64 s.min, .int .i64 s.max, .slice a1 n1 c1, .slice a2 n2 c2, .slice (some ⟨p3, o3, none⟩) n3 c3] s b1 b2 n1 n2 d1 d2 G1 G2 w5.heap.size (k + 1) (.slice (some ⟨g4, 0, none⟩) (k + 1) cp4) (vs ++ [.slice ar nk cr]) (GG ++ Fr) (Y13.setCell ⟨w.heap.size + 1 + 1, 6, none⟩ (.slice (some ⟨g4, 0, none⟩) (k + 1) cp4)) ∧ CopyS w #[.int .i64 s.count, .int .i64 s.sum, .int .i64 s.min, .int .i64 s.max, .slice a1 n1 c1, .slice a2 n2 c2, .slice (some ⟨p3, o3, none⟩) n3 c3] Y13) := ⟨ST.1, ST.2.1⟩
            have co := ST.2.2.1
            have fo := ST.2.2.2
            refine ⟨_, by simp [Act.put]; rfl, hK _ _ ⟨CS13.out.2, ?_⟩⟩
            clear hK hown hgrow hat ST
            refine takeH (o := ?o27) 11 (.pointer (some ⟨w.heap.size + 1 + 1, 6, none⟩)) ?h27 ?r27
            case h27 => simp only [aT, aS, aZ]; rfl
            refine ⟨_, by simp [Act.put]; rfl, by kernel_rfl, by kernel_rfl, by kernel_rfl, fun _ _ _ h => h, (.inl ⟨rfl, fun W _ => by kernel_rfl⟩), CS13.out.2, ?_⟩
            refine onlyH (o := ?o28) 12 (by kernel_rfl) ?h28 ?r28
            case h28 => simp only [aT, aS, aZ]; rfl
            intro K hK
            refine op_skip (Y13.setCell ⟨w.heap.size + 1 + 1, 6, none⟩ (.slice (some ⟨g4, 0, none⟩) (k + 1) cp4)) rfl (by go_simp) ⟨_, by simp [Act.put]; rfl, hK _ _ ⟨⟨CS13.out.1.three.box, CS13.out.1.three.bel⟩, ?_⟩⟩
            clear hK co fo
            refine wpAnyH_done (by kernel_rfl) ?_ _
            have HF : Hid (CopyA w #[.int .i64 s.count, .int .i64 s.sum, .int .i64 s.min, .int .i64 s.max, .slice a1 n1 c1, .slice a2 n2 c2, .slice (some ⟨p3, o3, none⟩) n3 c3] s b1 b2 n1 n2 d1 d2 G1 G2 w5.heap.size (k + 1) (.slice (some ⟨g4, 0, none⟩) (k + 1) cp4) (vs ++ [.slice ar nk cr]) (GG ++ Fr) (Y13.setCell ⟨w.heap.size + 1 + 1, 6, none⟩ (.slice (some ⟨g4, 0, none⟩) (k + 1) cp4))) := CS13.out.1
            obtain ⟨YZ, hYZ⟩ : ∃ Z, Z = Y13.setCell ⟨w.heap.size + 1 + 1, 6, none⟩ (.slice (some ⟨g4, 0, none⟩) (k + 1) cp4) := ⟨_, rfl⟩
            rw [← hYZ] at HF ⊢
            clear hYZ CS13
            go_wp2
            go_roundw
            case rel => exact ⟨k + 1, _, _, _, by omega, by go_num, HF.out⟩
            case measure => simp [intOf]; omega
    · obtain rfl : k = n3 := by omega
      obtain ⟨b3, d3, F4, rfl, rII, oA, _⟩ := CSS.out.rows
      have HE : Hid (Three w #[.int .i64 s.count, .int .i64 s.sum, .int .i64 s.min, .int .i64 s.max, .slice a1 n1 c1, .slice a2 n2 c2, .slice a3 k c3] 34 #[.int .i64 0, .int .i64 0, .int .i64 0, .int .i64 0, .slice none 0 0, .slice none 0 0, .slice none 0 0] #[.int .i64 s.count, .int .i64 s.sum, .int .i64 s.min, .int .i64 s.max, .slice b1 n1 d1, .slice b2 n2 d2, .slice b3 k d3] 34 wr ∧ RdSk wr (.agg #[.int .i64 s.count, .int .i64 s.sum, .int .i64 s.min, .int .i64 s.max, .slice b1 n1 d1, .slice b2 n2 d2, .slice b3 k d3]) s (G1 ++ (G2 ++ F4)) ∧ Own (w.heap.size + 3) wr (G1 ++ (G2 ++ F4))) := by
        rw [List.take_of_length_le (by rw [HL.out.2.2]; exact Nat.le_refl _)] at rII
        exact ⟨CSS.out.three, ⟨b1, n1, d1, b2, n2, d2, b3, k, d3, G1, G2, F4, rfl, CSS.out.r1, CSS.out.r2, rII, rfl⟩, oA⟩
      clear rII oA CSS e6
      have hI : ¬ (k : Int) < (k : Int) := by omega
      have e6 := HE.out.1.box.cell 6
      simp only [aT, aS, aZ] at e6
      go_wp2_with (first | go_skip | (with_reducible refine stopLoad 34 rfl ?_))
      refine load_known 34 (w.heap.size + 1 + 1) _ 34 _ HE.out.1.loc rfl rfl rfl Try.underlying34 rfl infoSkI ?_
      go_wp2_with (first | go_skip | (with_reducible refine stopStore 34 rfl ?_))
      refine store_known 34 (w.heap.size + 1) _ #[.int .i64 s.count, .int .i64 s.sum, .int .i64 s.min, .int .i64 s.max, .slice b1 n1 d1, .slice b2 n2 d2, .slice b3 k d3] 34 HE.out.1.res rfl rfl rfl rfl infoSkI rfl (by simp [Value.oneCell']) ?_
      go_wp2
      refine bodyPost_ret (results_cell_row Try.results58 _ _ (w.heap.size + 1) _ _ (0, 0) _ rfl HE.out.1.res.setRow Try.underlying34 rfl infoSkI) rfl ?_
      have nr : w.heap.size + 1 ∉ G1 ++ (G2 ++ F4) := fun hx => by have := HE.out.2.2.ge _ hx; omega
      exact ⟨_, _, rfl, HE.out.2.1.agree (Agree.row nr _), (HE.out.2.2.agree (Agree.row nr _)).mono (by omega), below_setRow HE.out.1.bel (by omega) _⟩
end Go.Proofs.Ytgkbhhlkaifnoaa
/- A slice of structs that grows by appending, element by element. No statement of the seat is proved here. -/
namespace Go.Proofs.Ytgkbhhlkaifnoaa
open Go.RowKit
section
variable {α : Type} {K : ElK α} {e : TypeId} {xs : List α} {lo k : Nat} {v : Value} {vs : List Value} {G : List Nat} {W W' : World}
/-- What has been appended behind k rounds. -/
structure GrowL (K : ElK α) (e : TypeId) (xs : List α) (lo k : Nat) (v : Value) (vs : List Value) (G : List Nat) (W : World) : Prop where
  row : W.ownsRow lo e K.n v k vs
  rd : RdC K W (xs.take k) vs G
  og : Own lo W G
  ap : ∀ b, v.ownBlock = some b → b ∉ G
  lw : lo ≤ W.heap.size
theorem GrowL.start (hw : lo ≤ W.heap.size) : GrowL K e xs lo 0 (.slice none 0 0) [] [] W := ⟨World.ownsRow_nil _ _ _ _, by rw [List.take_zero]; exact RdC.nil, Own.nil, (fun b hb => by cases hb), hw⟩
theorem GrowL.below (h : GrowL K e xs lo k v vs G W) (b : Below W.heap.size W W') : GrowL K e xs lo k v vs G W' := by
  refine ⟨?_, h.rd.below b, h.og.below h.rd.lt b, h.ap, Nat.le_trans h.lw b.size⟩
  refine ⟨h.row.1, ?_⟩
  rcases h.row.2 with q | ⟨g, cap, cur, h1, h2, h3, h4⟩
  · exact .inl q
  · refine .inr ⟨g, cap, cur, h1, h2, ?_, h4⟩
    rw [b.block g (h.row.lt g (by rw [h1]; rfl)).2]
    exact h3
theorem GrowL.set {g j : Nat} {u : Value} (h : GrowL K e xs lo k v vs G W) (hg : g < lo) : GrowL K e xs lo k v vs G (W.setCell ⟨g, j, none⟩ u) := by
  have nG : g ∉ G := fun hx => by have := h.og.ge _ hx; omega
  refine ⟨⟨h.row.1, ?_⟩, h.rd.agree (.set nG _ _), h.og.agree (.set nG _ _), h.ap, by simpa using h.lw⟩
  rcases h.row.2 with q | ⟨g', cap, cur, h1, h2, h3, h4⟩
  · exact .inl q
  · exact .inr ⟨g', cap, cur, h1, h2, by rw [Below.heap_setCell W ⟨g, j, none⟩ u g' (by show g' ≠ g; omega)]; exact h3, h4⟩
theorem GrowL.setRow {g : Nat} {ds : Array Value} (h : GrowL K e xs lo k v vs G W) (hg : g < lo) : GrowL K e xs lo k v vs G (W.setRow g ds) := by
  have nG : g ∉ G := fun hx => by have := h.og.ge _ hx; omega
  refine ⟨⟨h.row.1, ?_⟩, h.rd.agree (Agree.row nG _), h.og.agree (Agree.row nG _), h.ap, ?_⟩
  · rcases h.row.2 with q | ⟨g', cap, cur, h1, h2, h3, h4⟩
    · exact .inl q
    · exact .inr ⟨g', cap, cur, h1, h2, by rw [setRow_other W g g' ds (by omega)]; exact h3, h4⟩
  · have := (below_setRow (Below.refl 0 W) (Nat.zero_le g) ds).size
    exact Nat.le_trans h.lw this
theorem GrowL.lts (h : GrowL K e xs lo k v vs G W) : (∀ b ∈ G, b < W.heap.size) ∧ (∀ b, v.ownBlock = some b → b < W.heap.size) ∧ lo ≤ W.heap.size := ⟨h.rd.lt, fun b hb => (h.row.lt b hb).2, h.lw⟩
theorem GrowL.step (h : GrowL K e xs lo k v vs G W) {x : α} {cs : Array Value} {Fk : List Nat} {L g4 cp4 : Nat} (hx : xs[k]? = some x) (rk : K.R W (.agg cs) x Fk) (hn : cs.size = K.n) (ok : Own L W Fk) (ltG : ∀ b ∈ G, b < L) (ltv : ∀ b, v.ownBlock = some b → b < L) (hL : lo ≤ L)
    (hown : W'.ownsRow lo e K.n (.slice (some ⟨g4, 0, none⟩) (k + 1) cp4) (k + 1) (vs ++ cs.toList)) (hgrow : W.grownBy W' v.ownBlock) (hat : v.ownBlock = some g4 ∨ g4 = W.heap.size) :
    GrowL K e xs lo (k + 1) (.slice (some ⟨g4, 0, none⟩) (k + 1) cp4) (vs ++ cs.toList) (G ++ Fk) W' := by
  have blk : ∀ b, b < W.heap.size → ¬ v.ownBlock = some b → W'.heap[b]? = W.heap[b]? := fun b hb hn => hgrow.block b hb (fun e => hn e.symm)
  have agG : Agree W W' G := fun b hb => blk b (h.rd.lt b hb) (fun e => h.ap b e hb)
  have agF : Agree W W' Fk := fun b hb => blk b (K.lt rk b hb) (fun e => by have := ok.ge b hb; have := ltv b e; omega)
  refine ⟨hown, ?_, ?_, ?_, Nat.le_trans h.lw hgrow.size⟩
  · rw [take_snoc_at hx]
    exact (h.rd.agree agG).snoc (K.agree rk agF) hn
  · exact (h.og.agree agG).join (ok.agree agF) ltG hL
  · intro b hb hx
    have hb' : b = g4 := by simpa [Value.ownBlock] using hb.symm
    subst hb'
    rcases hat with q | q
    · rcases List.mem_append.1 hx with hx | hx
      · exact h.ap _ q hx
      · have := ok.ge _ hx; have := ltv _ q; omega
    · rcases List.mem_append.1 hx with hx | hx
      · have := h.rd.lt _ hx; omega
      · have := K.lt rk _ hx; omega
/-- What lies elsewhere stays, where only the growing row is written. -/
theorem GrowL.other (h : GrowL K e xs lo k v vs G W) (hgrow : W.grownBy W' v.ownBlock) {b : Nat} (hb : b < lo) : W'.heap[b]? = W.heap[b]? := hgrow.block b (Nat.lt_of_lt_of_le hb h.lw) (fun e => by have := (h.row.lt b e.symm).1; omega)
theorem GrowL.done (h : GrowL K e xs lo k v vs G W) (hk : xs.length = k) : ∃ a cap F, v = .slice a k cap ∧ RdL K W a k xs F ∧ Own lo W F ∧ Capd a k cap := by
  have rd := h.rd
  rw [List.take_of_length_le (Nat.le_of_eq hk)] at rd
  exact rdL_of_own h.row rd h.og h.ap
/-- The same, and where its blocks lie. -/
theorem GrowL.done2 (h : GrowL K e xs lo k v vs G W) (hk : xs.length = k) : ∃ a cap F, v = .slice a k cap ∧ RdL K W a k xs F ∧ Own lo W F ∧ Capd a k cap ∧ ∀ b ∈ F, v.ownBlock = some b ∨ b ∈ G := by
  have rd := h.rd
  rw [List.take_of_length_le (Nat.le_of_eq hk)] at rd
  have hr := h.row
  have hl : xs.length = k := hk
  rcases hr.2 with ⟨e1, e2⟩ | ⟨g, cap, cur, e1, h1, h2, h3, h4, h5, h6⟩
  · subst e2
    obtain rfl : xs = [] := List.eq_nil_of_length_eq_zero hl
    exact ⟨_, 0, [], e1, RdL.nil, Own.nil, ⟨fun _ => rfl, Nat.le_refl _⟩, fun b hb => by cases hb⟩
  · by_cases h0 : k = 0
    · subst h0
      obtain rfl : xs = [] := List.eq_nil_of_length_eq_zero hl
      exact ⟨_, cap, [], e1, RdL.zero, Own.nil, ⟨fun e => (by cases e), h3⟩, fun b hb => by cases hb⟩
    · subst e1
      refine ⟨_, cap, g :: G, rfl, ⟨hl, .inr ⟨g, 0, G, by omega, rfl, rfl, rdEls_of 0 rd (fun i hi => ?_)⟩⟩, ⟨?_, fun b hb o => ?_, fun b hb => ?_⟩, ⟨(fun e => by cases e), h3⟩, fun b hb => ?_⟩
      · rw [Nat.zero_add]; exact hr.cellAt i (by rw [← hr.1]; exact hi)
      · exact List.nodup_cons.2 ⟨h.ap g rfl, h.og.nodup⟩
      · rcases List.mem_cons.1 hb with rfl | hb
        · exact hr.frozenAt o
        · exact h.og.free b hb o
      · rcases List.mem_cons.1 hb with rfl | hb
        · exact h1
        · exact h.og.ge b hb
      · rcases List.mem_cons.1 hb with rfl | hb
        · exact .inl rfl
        · exact .inr hb
end
theorem news_lit (w : World) (cs : Array Value) (t : TypeId) : ∀ j u, cs.toList[j]? = some u → (w.alloc (.cells cs t)).cell? ((⟨w.heap.size, 0, none⟩ : Addr).add j) = some u := by
  intro j u hu
  have ea : ((⟨w.heap.size, 0, none⟩ : Addr).add j) = ⟨w.heap.size, j, none⟩ := by simp [Addr.add]; try (intro h; omega)
  rw [ea, (Blk.made w cs t).cell j, ← Array.getElem?_toList]
  exact hu
end Go.Proofs.Ytgkbhhlkaifnoaa
/- The walks through the model's SetSize and SetApart. No statement of the seat is proved here. -/
namespace Go.Proofs.Ytgkbhhlkaifnoaa
open Go.RowKit
def Sp.sum (ps : Sp) : Int := (ps.map fun p => p.2 - p.1 + 1).sum
def Sp.size (ps : Sp) : Int := if ps.ok = true then ps.sum else 0
def meet (p q : Int × Int) : Bool := decide (p.1 ≤ q.2 ∧ q.1 ≤ p.2)
def Sp.apart (ps qs : Sp) : Bool := ps.ok && qs.ok && ps.all fun p => qs.all fun q => !meet p q
end Go.Proofs.Ytgkbhhlkaifnoaa
/- The walk through the model's SetApart. No statement of the seat is proved here. -/
namespace Go.Proofs.Ytgkbhhlkaifnoaa
open Go.RowKit
theorem QuietTo.trans {a b c : World} (h : QuietTo a b) (k : QuietTo b c) : QuietTo a c := by
  obtain ⟨m, rfl⟩ := h
  obtain ⟨n, rfl⟩ := k
  exact ⟨m + n, World.drewN_drewN ..⟩
end Go.Proofs.Ytgkbhhlkaifnoaa
/- The walks through the model's putting of a span into a set, and what is made of it. No statement of the seat is proved here. -/
namespace Go.Proofs.Ytgkbhhlkaifnoaa
open Go.RowKit
section
variable {P : Program} {ops : Array Oper} {Q : Exit → Act → World → Prop} {rest : List Oper} {a : Act} {w : World} {x y : Operand} {o : Oper}
theorem stopAppend2 {ts : Array TypeId} (_ho : o.op = .call { callee := .builtin .append, args := #[x, y], argTypes := ts }) (h : Stop (wpList P ops Q (o :: rest) a w)) : wpList P ops Q (o :: rest) a w := h
end
theorem rdP_of_own {w : World} {B e n : Nat} {v : Value} {ps : Sp} (h : w.ownsRow B e 2 v n ((flat ps).map (Value.int .i64))) : ∃ a cap F, v = .slice a n cap ∧ RdP w a n ps F ∧ Own B w F ∧ Capd a n cap := by
  rcases h.2 with ⟨h1, h2⟩ | ⟨g, cap, cur, h1, _, _, hcap, _⟩
  · subst h2
    have hl : (flat ps).length = 0 := by simpa using h.1
    rw [flat_length] at hl
    obtain rfl : ps = [] := List.eq_nil_of_length_eq_zero (by omega)
    exact ⟨none, 0, [], h1, RdP.nil, Own.nil, fun _ => rfl, Nat.le_refl _⟩
  · subst h1
    obtain ⟨F, hr, ho, _⟩ := RdP.of_own h
    exact ⟨_, cap, F, rfl, hr, ho, (fun e => by cases e), hcap⟩
theorem own_mono {w : World} {B B' e size n : Nat} {v : Value} {xs : List Value} (h : w.ownsRow B e size v n xs) (hB : B' ≤ B) : w.ownsRow B' e size v n xs := by
  refine ⟨h.1, ?_⟩
  rcases h.2 with e | ⟨g, cap, cur, h1, h2, h3⟩
  · exact .inl e
  · exact .inr ⟨g, cap, cur, h1, Nat.le_trans hB h2, h3⟩
theorem own_empty2 (w : World) (e : TypeId) : (w.alloc (.cells #[] e)).ownsRow w.heap.size e 2 (.slice (some ⟨w.heap.size, 0, none⟩) 0 0) 0 [] :=
  ⟨rfl, .inr ⟨w.heap.size, 0, #[], rfl, Nat.le_refl _, Blk.made w #[] e, Nat.le_refl _, by simp, rfl, rfl⟩⟩
theorem cell_new2 (w : World) (u v : Value) (t : TypeId) : ∀ (j : Nat) (x : Value), [u, v][j]? = some x → (w.alloc (.cells #[u, v] t)).cell? ((⟨w.heap.size, 0, none⟩ : Addr).add j) = some x := by
  intro j x hx
  match j, hx with
  | 0, hx =>
    obtain rfl : u = x := by simpa using hx
    simp [Addr.add]
  | 1, hx =>
    obtain rfl : v = x := by simpa using hx
    simp [Addr.add]
  | j + 2, hx => simp at hx
/-- What is put behind what has come: the rest of the set, the span, whether it has been put. -/
def put : Sp → Int × Int → Bool → Sp
  | [], x, d => if d then [] else [x]
  | p :: ps, x, d => if p.2 + 1 < x.1 then p :: put ps x d else if x.2 + 1 < p.1 then (if d then [] else [x]) ++ p :: put ps x true else put ps (min x.1 p.1, max x.2 p.2) d
/-- All numbers are in bounds. -/
def InB (p : Int × Int) : Prop := (0 ≤ p.1 ∧ p.1 ≤ 9999) ∧ 0 ≤ p.2 ∧ p.2 ≤ 9999
theorem drop_at {ps : Sp} {k : Nat} (hk : k < ps.length) : ps.drop k = ps.at k :: ps.drop (k + 1) := by
  unfold Sp.at
  rw [List.drop_eq_getElem_cons hk, List.getElem?_eq_getElem hk]
  rfl
theorem put_a {ps : Sp} {k : Nat} {x : Int × Int} {d : Bool} (hk : k < ps.length) (h : (ps.at k).2 + 1 < x.1) : put (ps.drop k) x d = ps.at k :: put (ps.drop (k + 1)) x d := by rw [drop_at hk, put, if_pos h]
theorem put_b {ps : Sp} {k : Nat} {x : Int × Int} {d : Bool} (hk : k < ps.length) (h : ¬ (ps.at k).2 + 1 < x.1) (h2 : x.2 + 1 < (ps.at k).1) : put (ps.drop k) x d = (if d then [] else [x]) ++ ps.at k :: put (ps.drop (k + 1)) x true := by rw [drop_at hk, put, if_neg h, if_pos h2]
theorem put_c {ps : Sp} {k : Nat} {x : Int × Int} {d : Bool} (hk : k < ps.length) (h : ¬ (ps.at k).2 + 1 < x.1) (h2 : ¬ x.2 + 1 < (ps.at k).1) : put (ps.drop k) x d = put (ps.drop (k + 1)) (min x.1 (ps.at k).1, max x.2 (ps.at k).2) d := by rw [drop_at hk, put, if_neg h, if_neg h2]
theorem put_length : ∀ (ps : Sp) (x : Int × Int) (d : Bool), (put ps x d).length ≤ ps.length + 1
  | [], x, d => by cases d <;> simp [put]
  | p :: ps, x, d => by
    rw [put]
    split
    · have := put_length ps x d; simp; omega
    · split
      · cases d
        · have := put_true ps x; simp; omega
        · have := put_length ps x true; simp; omega
      · have := put_length ps (min x.1 p.1, max x.2 p.2) d; simp; omega
where put_true : ∀ (ps : Sp) (x : Int × Int), (put ps x true).length ≤ ps.length
  | [], x => by simp [put]
  | p :: ps, x => by
    rw [put]
    split
    · have := put_true ps x; simp; omega
    · split
      · have := put_true ps x; simp; omega
      · have := put_true ps (min x.1 p.1, max x.2 p.2); simp; omega
/-- Where the putting is: what has come, the span's box. -/
structure PutAt (w : World) (v : Value) (o : Sp) (x : Int × Int) (W : World) : Prop where
  own : W.ownsRow (w.heap.size + 1) 81 2 v o.length ((flat o).map (Value.int .i64))
  box : Blk W w.heap.size #[.int .i64 x.1, .int .i64 x.2] 81
  bel : Below w.heap.size w W
theorem PutAt.app {w W W6 : World} {v v' : Value} {o : Sp} {x : Int × Int} {p q : Int} (h : PutAt w v o x W) (hown : W6.ownsRow (w.heap.size + 1) 81 2 v' (o.length + 1) ((flat o).map (Value.int .i64) ++ [.int .i64 p, .int .i64 q])) (hgrow : (W.alloc (.cells #[.int .i64 p, .int .i64 q] 81)).grownBy W6 v.ownBlock) : PutAt w v' (o ++ [(p, q)]) x W6 := by
  have hne : ∀ k, v.ownBlock = some k → w.heap.size + 1 ≤ k := fun k hk => (h.own.lt k hk).1
  have hb : Below w.heap.size w (W.alloc (.cells #[.int .i64 p, .int .i64 q] 81)) := Below.allocW _ h.bel (Nat.le_refl _)
  refine ⟨?_, ?_, ?_⟩
  · rw [flat_append, List.map_append, List.length_append]
    exact hown
  · exact (h.box.alloc _).agree (hgrow.block _ (h.box.alloc _).lt (fun e => by have := hne _ e.symm; omega))
  · exact hb.grown hgrow hb.size (fun k hk => by have := hne k hk; omega)
theorem PutAt.drewN {w W : World} {v : Value} {o : Sp} {x : Int × Int} (h : PutAt w v o x W) (m : Nat) : PutAt w v o x (W.drewN m) := ⟨⟨h.own.1, h.own.2⟩, h.box, ⟨h.bel.os, h.bel.tape, h.bel.output, h.bel.size, h.bel.block⟩⟩
/-- A span lies in memory. -/
def SpanAt (b c : Nat) (p q : Int) (W : World) : Prop := W.cell? ⟨b, c, none⟩ = some (.int .i64 p) ∧ W.cell? ⟨b, c + 1, none⟩ = some (.int .i64 q)
theorem SpanAt.setRow {b c g : Nat} {p q : Int} {W : World} {cs : Array Value} (h : SpanAt b c p q W) (hn : b ≠ g) : SpanAt b c p q (W.setRow g cs) :=
  ⟨(World.cell?_of_block (w := W) (a := ⟨b, c, none⟩) (setRow_other W g b cs hn)).trans h.1, (World.cell?_of_block (w := W) (a := ⟨b, c + 1, none⟩) (setRow_other W g b cs hn)).trans h.2⟩
theorem PutAt.setBox {w W : World} {v : Value} {o : Sp} {x z : Int × Int} (h : PutAt w v o x W) : PutAt w v o z (W.setRow w.heap.size #[.int .i64 z.1, .int .i64 z.2]) := by
  refine ⟨⟨h.own.1, ?_⟩, h.box.setRow, below_setRow h.bel (Nat.le_refl _) _⟩
  rcases h.own.2 with e | ⟨g, cap, cur, h1, h2, h3, h4⟩
  · exact .inl e
  · exact .inr ⟨g, cap, cur, h1, h2, (setRow_other W _ g _ (by omega)).trans h3, h4⟩
set_option maxRecDepth 100000 in
set_option maxHeartbeats 8000000 in
theorem l5Put_own (a : Option Addr) (len cap : Nat) (ps : Sp) (x0 : Int × Int) (F : List Nat) (w : World) (h : RdP w a len ps F) (hlen : len ≤ 2097152) (hin : ∀ k, k < len → InB (ps.at k)) (hx : InB x0) :
    Calls Try.prog 101 #[.slice a len cap, .agg #[.int .i64 x0.1, .int .i64 x0.2]] w fun e w' => ∃ v, e = .returned v ∧ w'.ownsRow w.heap.size 81 2 v (put ps x0 false).length ((flat (put ps x0 false)).map (Value.int .i64)) ∧ Below w.heap.size w w' := by
  obtain ⟨t0, hi, hz0, hz1, hz2⟩ := info_parts infoSpan
  have HL : Hid (ps.length = len) := h.length
  have HIN : Hid ((∀ k, k < len → InB (ps.at k)) ∧ InB x0) := ⟨hin, hx⟩
  have HP0 : Hid (PutAt w (.slice (some ⟨w.heap.size + 1, 0, none⟩) 0 0) [] x0 ((w.alloc (.cells #[.int .i64 x0.1, .int .i64 x0.2] 81)).alloc (.cells #[] 81))) := by
    have e := own_empty2 (w.alloc (.cells #[.int .i64 x0.1, .int .i64 x0.2] 81)) 81
    simp only [World.size_alloc] at e
    exact ⟨e, (Blk.made _ _ _).alloc _, Below.allocW _ (Below.allocW _ (Below.refl _ _) (Nat.le_refl _)) (Nat.le_refl _)⟩
  have HC : Hid (len = 0 ∨ ∃ b off, a = some ⟨b, off, none⟩ ∧ b < w.heap.size ∧ SpCells w b off len ps) := by
    rcases h.cells with ⟨h0, _⟩ | ⟨b, off, hp, e, _, hc⟩
    · exact .inl h0
    · exact .inr ⟨b, off, e, World.block_lt_of_cell? _ _ (hc 0 hp).1, hc⟩
  clear h hin hx
  obtain ⟨xa, xb⟩ := x0
  go_enter Try.func101, Try.ntmps101
  go_wp2
  go_loopw [5, 6, 7] (fun v d i wr => ∃ (k : Nat) (o : Sp) (x : Int × Int) (f : Bool), k ≤ len ∧ i = .int .i64 k ∧ d = .bool f ∧ o.length ≤ k + 1 ∧ Hid (PutAt w v o x wr) ∧ Hid (InB x) ∧ Hid (o ++ put (ps.drop k) x f = put ps (xa, xb) false) ∧ Hid (f = false → o.length ≤ k)) (fun _ _ i _ => len - (intOf i).toNat)
  case atStart => exact ⟨0, [], (xa, xb), false, by omega, rfl, rfl, by simp, HP0, HIN.out.2, rfl, fun _ => by simp⟩
  case round =>
    clear HP0
    obtain ⟨k, o, ⟨x, y⟩, f, hk, rfl, rfl, hol, HP, HX, HN, HF⟩ := hrel
    obtain ⟨⟨x0, x1⟩, y0, y1⟩ := HX.out
    by_cases hlt : k < len
    · have hca := HC.out
      rcases hca with h0 | ⟨b, off, rfl, hbw, hc⟩
      · omega
      obtain ⟨p, hp⟩ : ∃ x, x = (ps.at k).1 := ⟨_, rfl⟩
      obtain ⟨q, hq⟩ : ∃ x, x = (ps.at k).2 := ⟨_, rfl⟩
      have e := hc k hlt
      have hb := HIN.out.1 k hlt
      have HPQ : Hid (ps.at k = (p, q)) := by rw [hp, hq]; rfl
      rw [HPQ.out] at hb e
      obtain ⟨⟨p0, p1⟩, q0, q1⟩ := hb
      have d1 : wr.cell? ⟨b, off + k * 2, none⟩ = some (.int .i64 p) := (HP.out.bel.cell (by exact hbw)).trans e.1
      have d2 : wr.cell? ⟨b, off + k * 2 + 1, none⟩ = some (.int .i64 q) := (HP.out.bel.cell (by exact hbw)).trans e.2
      have b1 : wr.cell? ⟨w.heap.size, 0, none⟩ = some (.int .i64 x) := by rw [HP.out.box.cell]; rfl
      have b2 : wr.cell? ⟨w.heap.size, 1, none⟩ = some (.int .i64 y) := by rw [HP.out.box.cell]; rfl
      have hI : (k : Int) < (len : Int) := by omega
      have hkl : k < ps.length := by rw [HL.out]; exact hlt
      clear e hp hq hc
      by_cases c1 : q + 1 < x
      · have c1d : decide (q + 1 < x) = true := decT c1
        have HN2 : Hid (o ++ [(p, q)] ++ put (ps.drop (k + 1)) (x, y) f = put ps (xa, xb) false) := by
          rw [put_a hkl (by rw [HPQ.out]; exact c1), HPQ.out] at HN
          show _ = _
          rw [← HN.out]; simp
        go_wp2
        go_quiet (fail)
        have HP1 : Hid (PutAt w u5 o (x, y) (wr.drewN nq)) := HP.out.drewN nq
        go_wp2_with (first | go_skip | (with_reducible refine stopAppend2 rfl ?_))
        refine Stop.intro (wpList_append_own _ rfl _ _ 25 rfl (w.heap.size + 1) 81 t0 (.agg #[.int .i64 0, .int .i64 0]) 2 16 Try.underlying25 hi hz0 hz1 hz2 rfl (by decide) _ (o).length ((flat (o)).map (Value.int .i64)) rfl (HP1.out.own.alloc _) ⟨(wr.drewN nq).heap.size, 0, none⟩ 1 1 [.int .i64 p, .int .i64 q] rfl rfl (cell_new2 _ _ _ _) (by intro u hu; simp at hu; rcases hu with rfl | rfl <;> rfl) (by unfold maxLen; omega) (by omega) (by have := HP1.out.box.lt; simp at this ⊢; omega) ?_)
        intro v2 w2 hown hgrow _
        have HP2 : Hid (PutAt w v2 (o ++ [(p, q)]) (x, y) w2) := HP1.out.app hown hgrow
        have HF2 : Hid (f = false → (o ++ [(p, q)]).length ≤ k + 1) := fun e => by have := HF.out e; simp; omega
        clear hown hgrow HP1
        go_wp2
        go_roundw
        case rel => exact ⟨k + 1, o ++ [(p, q)], (x, y), f, by omega, by go_num, rfl, by simp; omega, HP2, HX, HN2, HF2⟩
        case measure => simp [intOf]; omega
      have c1d : decide (q + 1 < x) = false := decF c1
      by_cases c2 : y + 1 < p
      · have c2d : decide (y + 1 < p) = true := decT c2
        cases f
        · have hol2 : o.length ≤ k := HF.out rfl
          have HN2 : Hid (o ++ [(x, y)] ++ [(p, q)] ++ put (ps.drop (k + 1)) (x, y) true = put ps (xa, xb) false) := by
            rw [put_b hkl (by rw [HPQ.out]; exact c1) (by rw [HPQ.out]; exact c2), HPQ.out] at HN
            show _ = _
            rw [← HN.out]; simp
          go_wp2
          go_quiet (fail)
          obtain ⟨wq, hwq⟩ : ∃ W, W = wr.drewN nq := ⟨_, rfl⟩
          have HPq : Hid (PutAt w u5 o (x, y) wq) := by rw [hwq]; exact HP.out.drewN nq
          have d1 : wq.cell? ⟨b, off + k * 2, none⟩ = some (.int .i64 p) := by rw [hwq]; exact d1
          have d2 : wq.cell? ⟨b, off + k * 2 + 1, none⟩ = some (.int .i64 q) := by rw [hwq]; exact d2
          have b1 : wq.cell? ⟨w.heap.size, 0, none⟩ = some (.int .i64 x) := by rw [hwq]; exact b1
          have b2 : wq.cell? ⟨w.heap.size, 1, none⟩ = some (.int .i64 y) := by rw [hwq]; exact b2
          rw [← hwq]
          clear HP hwq
          go_wp2
          go_quiet (fail)
          have HP1 : Hid (PutAt w u5 o (x, y) (wq.drewN nq)) := HPq.out.drewN nq
          go_wp2_with (first | go_skip | (with_reducible refine stopAppend2 rfl ?_))
          refine Stop.intro (wpList_append_own _ rfl _ _ 25 rfl (w.heap.size + 1) 81 t0 (.agg #[.int .i64 0, .int .i64 0]) 2 16 Try.underlying25 hi hz0 hz1 hz2 rfl (by decide) _ (o).length ((flat (o)).map (Value.int .i64)) rfl (HP1.out.own.alloc _) ⟨(wq.drewN nq).heap.size, 0, none⟩ 1 1 [.int .i64 x, .int .i64 y] rfl rfl (cell_new2 _ _ _ _) (by intro u hu; simp at hu; rcases hu with rfl | rfl <;> rfl) (by unfold maxLen; omega) (by omega) (by have := HP1.out.box.lt; simp at this ⊢; omega) ?_)
          intro v2 w2 hown hgrow _
          have HP2 : Hid (PutAt w v2 (o ++ [(x, y)]) (x, y) w2) := HP1.out.app hown hgrow
          have hl2 : (o ++ [(x, y)]).length = o.length + 1 := by simp
          have d1 : w2.cell? ⟨b, off + k * 2, none⟩ = some (.int .i64 p) := ((HP2.out.bel.cell (by exact hbw)).trans ((HPq.out.bel.cell (by exact hbw)).symm.trans d1))
          have d2 : w2.cell? ⟨b, off + k * 2 + 1, none⟩ = some (.int .i64 q) := ((HP2.out.bel.cell (by exact hbw)).trans ((HPq.out.bel.cell (by exact hbw)).symm.trans d2))
          obtain ⟨o2, ho2⟩ : ∃ o2, o2 = o ++ [(x, y)] := ⟨_, rfl⟩
          rw [← ho2] at HP2 hl2 HN2
          clear hown hgrow HP1 b1 b2 HPq
          go_wp2_with (first | go_skip | (with_reducible refine stopAppend2 rfl ?_))
          refine Stop.intro (wpList_append_own _ rfl _ _ 25 rfl (w.heap.size + 1) 81 t0 (.agg #[.int .i64 0, .int .i64 0]) 2 16 Try.underlying25 hi hz0 hz1 hz2 rfl (by decide) _ (o2).length ((flat (o2)).map (Value.int .i64)) rfl (HP2.out.own.alloc _) ⟨w2.heap.size, 0, none⟩ 1 1 [.int .i64 p, .int .i64 q] rfl rfl (cell_new2 _ _ _ _) (by intro u hu; simp at hu; rcases hu with rfl | rfl <;> rfl) (by unfold maxLen; omega) (by omega) (by have := HP2.out.box.lt; simp at this ⊢; omega) ?_)
          intro v3 w3 hown hgrow _
          have HP3 : Hid (PutAt w v3 (o2 ++ [(p, q)]) (x, y) w3) := HP2.out.app hown hgrow
          clear hown hgrow HP2
          go_wp2
          go_roundw
          case rel => exact ⟨k + 1, o2 ++ [(p, q)], (x, y), true, by omega, by go_num, rfl, by simp; omega, HP3, HX, HN2, fun e => by cases e⟩
          case measure => simp [intOf]; omega
        · have HN2 : Hid (o ++ [(p, q)] ++ put (ps.drop (k + 1)) (x, y) true = put ps (xa, xb) false) := by
            rw [put_b hkl (by rw [HPQ.out]; exact c1) (by rw [HPQ.out]; exact c2), HPQ.out] at HN
            show _ = _
            rw [← HN.out]; simp
          go_wp2
          go_quiet (fail)
          obtain ⟨wq, hwq⟩ : ∃ W, W = wr.drewN nq := ⟨_, rfl⟩
          have HPq : Hid (PutAt w u5 o (x, y) wq) := by rw [hwq]; exact HP.out.drewN nq
          have d1 : wq.cell? ⟨b, off + k * 2, none⟩ = some (.int .i64 p) := by rw [hwq]; exact d1
          have d2 : wq.cell? ⟨b, off + k * 2 + 1, none⟩ = some (.int .i64 q) := by rw [hwq]; exact d2
          have b1 : wq.cell? ⟨w.heap.size, 0, none⟩ = some (.int .i64 x) := by rw [hwq]; exact b1
          have b2 : wq.cell? ⟨w.heap.size, 1, none⟩ = some (.int .i64 y) := by rw [hwq]; exact b2
          rw [← hwq]
          clear HP hwq
          go_wp2
          go_quiet (fail)
          have HP1 : Hid (PutAt w u5 o (x, y) (wq.drewN nq)) := HPq.out.drewN nq
          go_wp2_with (first | go_skip | (with_reducible refine stopAppend2 rfl ?_))
          refine Stop.intro (wpList_append_own _ rfl _ _ 25 rfl (w.heap.size + 1) 81 t0 (.agg #[.int .i64 0, .int .i64 0]) 2 16 Try.underlying25 hi hz0 hz1 hz2 rfl (by decide) _ (o).length ((flat (o)).map (Value.int .i64)) rfl (HP1.out.own.alloc _) ⟨(wq.drewN nq).heap.size, 0, none⟩ 1 1 [.int .i64 p, .int .i64 q] rfl rfl (cell_new2 _ _ _ _) (by intro u hu; simp at hu; rcases hu with rfl | rfl <;> rfl) (by unfold maxLen; omega) (by omega) (by have := HP1.out.box.lt; simp at this ⊢; omega) ?_)
          intro v2 w2 hown hgrow _
          have HP2 : Hid (PutAt w v2 (o ++ [(p, q)]) (x, y) w2) := HP1.out.app hown hgrow
          clear hown hgrow HP1
          go_wp2
          go_roundw
          case rel => exact ⟨k + 1, o ++ [(p, q)], (x, y), true, by omega, by go_num, rfl, by simp; omega, HP2, HX, HN2, fun e => by cases e⟩
          case measure => simp [intOf]; omega
      have c2d : decide (y + 1 < p) = false := decF c2
      have HN2 : Hid (o ++ put (ps.drop (k + 1)) (min x p, max y q) f = put ps (xa, xb) false) := by
        rw [put_c hkl (by rw [HPQ.out]; exact c1) (by rw [HPQ.out]; exact c2), HPQ.out] at HN
        exact HN
      have HX2 : Hid (InB (min x p, max y q)) := by show InB _; unfold InB; simp only; omega
      go_wp2
      go_quiet (fail)
      obtain ⟨wq, hwq⟩ : ∃ W, W = wr.drewN nq := ⟨_, rfl⟩
      have HPq : Hid (PutAt w u5 o (x, y) wq) := by rw [hwq]; exact HP.out.drewN nq
      have d1 : wq.cell? ⟨b, off + k * 2, none⟩ = some (.int .i64 p) := by rw [hwq]; exact d1
      have d2 : wq.cell? ⟨b, off + k * 2 + 1, none⟩ = some (.int .i64 q) := by rw [hwq]; exact d2
      have b1 : wq.cell? ⟨w.heap.size, 0, none⟩ = some (.int .i64 x) := by rw [hwq]; exact b1
      have b2 : wq.cell? ⟨w.heap.size, 1, none⟩ = some (.int .i64 y) := by rw [hwq]; exact b2
      rw [← hwq]
      clear HP hwq
      go_wp2
      go_quiet (fail)
      have HP1 : Hid (PutAt w u5 o (x, y) (wq.drewN nq).drew) := (HPq.out.drewN nq).drewN 1
      have HS : Hid (((wq.drewN nq).drew.cell? ⟨w.heap.size, 0, none⟩ = some (.int .i64 x) ∧ (wq.drewN nq).drew.cell? ⟨w.heap.size, 1, none⟩ = some (.int .i64 y)) ∧ SpanAt b (off + k * 2) p q (wq.drewN nq).drew) := ⟨⟨b1, b2⟩, d1, d2⟩
      clear d1 d2 b1 b2 HPq
      go_wp2
      refine wp_region_held (S := SpanAt b (off + k * 2) p q) (by kernel_rfl) ?_
      change wpAnyH _ _ _ _ _ _ _ _ (World.drew _)
      refine takeH (o := ?o1) 0 (.pointer (some ⟨w.heap.size, 0, none⟩)) ?h1 ?r1
      case h1 => simp only [aT, aZ]; rfl
      refine ⟨_, by simp [Act.put]; rfl, by kernel_rfl, by kernel_rfl, by kernel_rfl, fun _ _ _ h => h, (.inl ⟨rfl, fun W _ => by go_simp⟩), HS.out.2, ?_⟩
      refine takeH (o := ?o2) 2 (.slice (some ⟨b, off, none⟩) len cap) ?h2 ?r2
      case h2 => simp only [aT, aS, aZ]; rfl
      refine ⟨_, by simp [Act.put]; rfl, by kernel_rfl, by kernel_rfl, by kernel_rfl, fun _ _ _ h => h, (.inl ⟨rfl, fun W _ => by go_simp⟩), HS.out.2, ?_⟩
      refine takeH (o := ?o3) 3 (.int .i64 k) ?h3 ?r3
      case h3 => simp only [aT, aS, aZ]; rfl
      refine ⟨_, by simp [Act.put]; rfl, by kernel_rfl, by kernel_rfl, by kernel_rfl, fun _ _ _ h => h, (.inl ⟨rfl, fun W _ => by go_simp⟩), HS.out.2, ?_⟩
      refine takeH (o := ?o4) 4 (.pointer (some ⟨b, off + k * 2, none⟩)) ?h4 ?r4
      case h4 => simp only [aT, aS, aZ]; rfl
      refine ⟨_, by simp [Act.put]; rfl, by kernel_rfl, by kernel_rfl, by kernel_rfl, fun _ _ _ h => h, (.inl ⟨rfl, fun W _ => by go_simp⟩), HS.out.2, ?_⟩
      refine takeH (o := ?o5) 5 (.pointer (some ⟨b, off + k * 2, none⟩)) ?h5 ?r5
      case h5 => simp only [aT, aS, aZ]; rfl
      refine ⟨_, by simp [Act.put]; rfl, by kernel_rfl, by kernel_rfl, by kernel_rfl, fun _ _ _ h => h, (.inl ⟨rfl, fun W _ => by go_simp⟩), HS.out.2, ?_⟩
      refine takeH (o := ?o6) 6 (.int .i64 p) ?h6 ?r6
      case h6 => simp only [aT, aS, aZ]; rfl
      refine ⟨_, by simp [Act.put]; rfl, by kernel_rfl, by kernel_rfl, by kernel_rfl, fun _ _ _ h => h, (.inl ⟨rfl, fun W hW => by have c := hW.1; go_simp⟩), HS.out.2, ?_⟩
      refine takeH (o := ?o7) 8 (.pointer (some ⟨w.heap.size, 1, none⟩)) ?h7 ?r7
      case h7 => simp only [aT, aS, aZ]; rfl
      refine ⟨_, by simp [Act.put]; rfl, by kernel_rfl, by kernel_rfl, by kernel_rfl, fun _ _ _ h => h, (.inl ⟨rfl, fun W _ => by go_simp⟩), HS.out.2, ?_⟩
      refine takeH (o := ?o8) 10 (.slice (some ⟨b, off, none⟩) len cap) ?h8 ?r8
      case h8 => simp only [aT, aS, aZ]; rfl
      refine ⟨_, by simp [Act.put]; rfl, by kernel_rfl, by kernel_rfl, by kernel_rfl, fun _ _ _ h => h, (.inl ⟨rfl, fun W _ => by go_simp⟩), HS.out.2, ?_⟩
      refine takeH (o := ?o9) 11 (.int .i64 k) ?h9 ?r9
      case h9 => simp only [aT, aS, aZ]; rfl
      refine ⟨_, by simp [Act.put]; rfl, by kernel_rfl, by kernel_rfl, by kernel_rfl, fun _ _ _ h => h, (.inl ⟨rfl, fun W _ => by go_simp⟩), HS.out.2, ?_⟩
      refine takeH (o := ?o10) 12 (.pointer (some ⟨b, off + k * 2, none⟩)) ?h10 ?r10
      case h10 => simp only [aT, aS, aZ]; rfl
      refine ⟨_, by simp [Act.put]; rfl, by kernel_rfl, by kernel_rfl, by kernel_rfl, fun _ _ _ h => h, (.inl ⟨rfl, fun W _ => by go_simp⟩), HS.out.2, ?_⟩
      refine takeH (o := ?o11) 13 (.pointer (some ⟨b, off + k * 2 + 1, none⟩)) ?h11 ?r11
      case h11 => simp only [aT, aS, aZ]; rfl
      refine ⟨_, by simp [Act.put]; rfl, by kernel_rfl, by kernel_rfl, by kernel_rfl, fun _ _ _ h => h, (.inl ⟨rfl, fun W _ => by go_simp⟩), HS.out.2, ?_⟩
      refine takeH (o := ?o12) 14 (.int .i64 q) ?h12 ?r12
      case h12 => simp only [aT, aS, aZ]; rfl
      refine ⟨_, by simp [Act.put]; rfl, by kernel_rfl, by kernel_rfl, by kernel_rfl, fun _ _ _ h => h, (.inl ⟨rfl, fun W hW => by have c := hW.2; go_simp⟩), HS.out.2, ?_⟩
      refine twoH (o := ?o13) (o' := ?p13) 1 9 (by kernel_rfl) ?h13 ?g13 ?r13 ?s13
      case h13 => simp only [aT, aS, aZ]; rfl
      case g13 => simp only [aT, aS, aZ]; rfl
      case r13 =>
        intro K hK
        refine op_value (.int .i64 x) rfl (by have c : wq.cell? ⟨w.heap.size, 0, none⟩ = some (.int .i64 x) := HS.out.1.1; go_simp) ⟨_, by simp [Act.put]; rfl, hK _ _ ⟨HS.out.2, ?_⟩⟩
        clear hK
        refine twoH (o := ?o14) (o' := ?p14) 7 9 (by kernel_rfl) ?h14 ?g14 ?r14 ?s14
        case h14 => simp only [aT, aS, aZ]; rfl
        case g14 => simp only [aT, aS, aZ]; rfl
        case r14 =>
          intro K hK
          refine op_call2 118 _ _ _ Try.f118 (fun w' => w' = (wq.drewN nq).drew) (.int .i64 (min x p)) rfl rfl Try.func118 (by kernel_rfl) (by kernel_rfl) (l1Min_any x p _) ⟨_, by simp [Act.put]; rfl, ?_⟩
          intro wc hwc
          subst hwc
          refine hK _ _ ⟨HS.out.2, ?_⟩
          clear hK
          refine onlyH (o := ?o15) 9 (by kernel_rfl) ?h15 ?r15
          case h15 => simp only [aT, aS, aZ]; rfl
          intro K hK
          refine op_value (.int .i64 y) rfl (by have c : wq.cell? ⟨w.heap.size, 1, none⟩ = some (.int .i64 y) := HS.out.1.2; go_simp) ⟨_, by simp [Act.put]; rfl, hK _ _ ⟨HS.out.2, ?_⟩⟩
          clear hK
          refine onlyH (o := ?o16) 15 (by kernel_rfl) ?h16 ?r16
          case h16 => simp only [aT, aS, aZ]; rfl
          intro K hK
          refine op_call2 68 _ _ _ Try.f68 (fun w' => w' = (wq.drewN nq).drew) (.int .i64 (max y q)) rfl rfl Try.func68 (by kernel_rfl) (by kernel_rfl) (l1Max_any y q _) ⟨_, by simp [Act.put]; rfl, ?_⟩
          intro wc hwc
          subst hwc
          refine hK _ _ ⟨HS.out.2, ?_⟩
          clear hK
          refine takeH (o := ?o17) 16 (.agg #[.int .i64 (min x p), .int .i64 (max y q)]) ?h17 ?r17
          case h17 => simp only [aT, aS, aZ]; rfl
          refine ⟨_, by simp [Act.put]; rfl, by kernel_rfl, by kernel_rfl, by kernel_rfl, fun _ _ _ h => h, (.inl ⟨rfl, fun W _ => by go_simp⟩), HS.out.2, ?_⟩
          refine onlyH (o := ?o18) 17 (by kernel_rfl) ?h18 ?r18
          case h18 => simp only [aT, aS, aZ]; rfl
          intro K hK
          refine op_store 81 w.heap.size #[.int .i64 x, .int .i64 y] #[.int .i64 (min x p), .int .i64 (max y q)] 81 rfl rfl rfl rfl HP1.out.box (by kernel_rfl) rfl (by kernel_rfl) ⟨_, by simp [Act.put]; rfl, hK _ _ ⟨HS.out.2.setRow (by omega), ?_⟩⟩
          clear hK
          refine wpAnyH_done (by kernel_rfl) ?_ _
          have HP2 : Hid (PutAt w u5 o (min x p, max y q) ((wq.drewN nq).drew.setRow w.heap.size #[.int .i64 (min x p), .int .i64 (max y q)])) := HP1.out.setBox
          have HF2 : Hid (f = false → o.length ≤ k + 1) := fun e => by have := HF.out e; omega
          clear HP1 HS
          go_wp2
          go_roundw
          case rel => exact ⟨k + 1, o, (min x p, max y q), f, by omega, by go_num, rfl, by omega, HP2, HX2, HN2, HF2⟩
          case measure => simp [intOf]; omega
        case s14 =>
          intro K hK
          refine op_value (.int .i64 y) rfl (by have c : wq.cell? ⟨w.heap.size, 1, none⟩ = some (.int .i64 y) := HS.out.1.2; go_simp) ⟨_, by simp [Act.put]; rfl, hK _ _ ⟨HS.out.2, ?_⟩⟩
          clear hK
          refine onlyH (o := ?o19) 7 (by kernel_rfl) ?h19 ?r19
          case h19 => simp only [aT, aS, aZ]; rfl
          intro K hK
          refine op_call2 118 _ _ _ Try.f118 (fun w' => w' = (wq.drewN nq).drew) (.int .i64 (min x p)) rfl rfl Try.func118 (by kernel_rfl) (by kernel_rfl) (l1Min_any x p _) ⟨_, by simp [Act.put]; rfl, ?_⟩
          intro wc hwc
          subst hwc
          refine hK _ _ ⟨HS.out.2, ?_⟩
          clear hK
          refine onlyH (o := ?o20) 15 (by kernel_rfl) ?h20 ?r20
          case h20 => simp only [aT, aS, aZ]; rfl
          intro K hK
          refine op_call2 68 _ _ _ Try.f68 (fun w' => w' = (wq.drewN nq).drew) (.int .i64 (max y q)) rfl rfl Try.func68 (by kernel_rfl) (by kernel_rfl) (l1Max_any y q _) ⟨_, by simp [Act.put]; rfl, ?_⟩
          intro wc hwc
          subst hwc
          refine hK _ _ ⟨HS.out.2, ?_⟩
          clear hK
          refine takeH (o := ?o21) 16 (.agg #[.int .i64 (min x p), .int .i64 (max y q)]) ?h21 ?r21
          case h21 => simp only [aT, aS, aZ]; rfl
          refine ⟨_, by simp [Act.put]; rfl, by kernel_rfl, by kernel_rfl, by kernel_rfl, fun _ _ _ h => h, (.inl ⟨rfl, fun W _ => by go_simp⟩), HS.out.2, ?_⟩
          refine onlyH (o := ?o22) 17 (by kernel_rfl) ?h22 ?r22
          case h22 => simp only [aT, aS, aZ]; rfl
          intro K hK
          refine op_store 81 w.heap.size #[.int .i64 x, .int .i64 y] #[.int .i64 (min x p), .int .i64 (max y q)] 81 rfl rfl rfl rfl HP1.out.box (by kernel_rfl) rfl (by kernel_rfl) ⟨_, by simp [Act.put]; rfl, hK _ _ ⟨HS.out.2.setRow (by omega), ?_⟩⟩
          clear hK
          refine wpAnyH_done (by kernel_rfl) ?_ _
          have HP2 : Hid (PutAt w u5 o (min x p, max y q) ((wq.drewN nq).drew.setRow w.heap.size #[.int .i64 (min x p), .int .i64 (max y q)])) := HP1.out.setBox
          have HF2 : Hid (f = false → o.length ≤ k + 1) := fun e => by have := HF.out e; omega
          clear HP1 HS
          go_wp2
          go_roundw
          case rel => exact ⟨k + 1, o, (min x p, max y q), f, by omega, by go_num, rfl, by omega, HP2, HX2, HN2, HF2⟩
          case measure => simp [intOf]; omega
      case s13 =>
        intro K hK
        refine op_value (.int .i64 y) rfl (by have c : wq.cell? ⟨w.heap.size, 1, none⟩ = some (.int .i64 y) := HS.out.1.2; go_simp) ⟨_, by simp [Act.put]; rfl, hK _ _ ⟨HS.out.2, ?_⟩⟩
        clear hK
        refine onlyH (o := ?o23) 1 (by kernel_rfl) ?h23 ?r23
        case h23 => simp only [aT, aS, aZ]; rfl
        intro K hK
        refine op_value (.int .i64 x) rfl (by have c : wq.cell? ⟨w.heap.size, 0, none⟩ = some (.int .i64 x) := HS.out.1.1; go_simp) ⟨_, by simp [Act.put]; rfl, hK _ _ ⟨HS.out.2, ?_⟩⟩
        clear hK
        refine onlyH (o := ?o24) 7 (by kernel_rfl) ?h24 ?r24
        case h24 => simp only [aT, aS, aZ]; rfl
        intro K hK
        refine op_call2 118 _ _ _ Try.f118 (fun w' => w' = (wq.drewN nq).drew) (.int .i64 (min x p)) rfl rfl Try.func118 (by kernel_rfl) (by kernel_rfl) (l1Min_any x p _) ⟨_, by simp [Act.put]; rfl, ?_⟩
        intro wc hwc
        subst hwc
        refine hK _ _ ⟨HS.out.2, ?_⟩
        clear hK
        refine onlyH (o := ?o25) 15 (by kernel_rfl) ?h25 ?r25
        case h25 => simp only [aT, aS, aZ]; rfl
        intro K hK
        refine op_call2 68 _ _ _ Try.f68 (fun w' => w' = (wq.drewN nq).drew) (.int .i64 (max y q)) rfl rfl Try.func68 (by kernel_rfl) (by kernel_rfl) (l1Max_any y q _) ⟨_, by simp [Act.put]; rfl, ?_⟩
        intro wc hwc
        subst hwc
        refine hK _ _ ⟨HS.out.2, ?_⟩
        clear hK
        refine takeH (o := ?o26) 16 (.agg #[.int .i64 (min x p), .int .i64 (max y q)]) ?h26 ?r26
        case h26 => simp only [aT, aS, aZ]; rfl
        refine ⟨_, by simp [Act.put]; rfl, by kernel_rfl, by kernel_rfl, by kernel_rfl, fun _ _ _ h => h, (.inl ⟨rfl, fun W _ => by go_simp⟩), HS.out.2, ?_⟩
        refine onlyH (o := ?o27) 17 (by kernel_rfl) ?h27 ?r27
        case h27 => simp only [aT, aS, aZ]; rfl
        intro K hK
        refine op_store 81 w.heap.size #[.int .i64 x, .int .i64 y] #[.int .i64 (min x p), .int .i64 (max y q)] 81 rfl rfl rfl rfl HP1.out.box (by kernel_rfl) rfl (by kernel_rfl) ⟨_, by simp [Act.put]; rfl, hK _ _ ⟨HS.out.2.setRow (by omega), ?_⟩⟩
        clear hK
        refine wpAnyH_done (by kernel_rfl) ?_ _
        have HP2 : Hid (PutAt w u5 o (min x p, max y q) ((wq.drewN nq).drew.setRow w.heap.size #[.int .i64 (min x p), .int .i64 (max y q)])) := HP1.out.setBox
        have HF2 : Hid (f = false → o.length ≤ k + 1) := fun e => by have := HF.out e; omega
        clear HP1 HS
        go_wp2
        go_roundw
        case rel => exact ⟨k + 1, o, (min x p, max y q), f, by omega, by go_num, rfl, by omega, HP2, HX2, HN2, HF2⟩
        case measure => simp [intOf]; omega
    · obtain rfl : k = len := by omega
      have hdr : ps.drop k = [] := List.drop_of_length_le (by rw [HL.out]; omega)
      cases f
      · have HV : Hid (o ++ [(x, y)] = put ps (xa, xb) false) := by
          have e := HN.out
          rw [hdr] at e
          exact e
        have hol2 : o.length ≤ k := HF.out rfl
        have b1 : wr.cell? ⟨w.heap.size, 0, none⟩ = some (.int .i64 x) := by rw [HP.out.box.cell]; rfl
        have b2 : wr.cell? ⟨w.heap.size, 1, none⟩ = some (.int .i64 y) := by rw [HP.out.box.cell]; rfl
        clear hdr
        go_wp2_with (first | go_skip | (with_reducible refine stopAppend2 rfl ?_))
        refine Stop.intro (wpList_append_own _ rfl _ _ 25 rfl (w.heap.size + 1) 81 t0 (.agg #[.int .i64 0, .int .i64 0]) 2 16 Try.underlying25 hi hz0 hz1 hz2 rfl (by decide) _ (o).length ((flat (o)).map (Value.int .i64)) rfl (HP.out.own.alloc _) ⟨wr.heap.size, 0, none⟩ 1 1 [.int .i64 x, .int .i64 y] rfl rfl (cell_new2 _ _ _ _) (by intro u hu; simp at hu; rcases hu with rfl | rfl <;> rfl) (by unfold maxLen; omega) (by omega) (by have := HP.out.box.lt; simp at this ⊢; omega) ?_)
        intro v2 w2 hown hgrow _
        have HP2 : Hid (PutAt w v2 (o ++ [(x, y)]) (x, y) w2) := HP.out.app hown hgrow
        clear hown hgrow
        go_wp2
        go_ret
        have e := HP2.out.own
        rw [HV.out] at e
        exact ⟨_, rfl, own_mono e (by omega), HP2.out.bel⟩
      · have HV : Hid (o = put ps (xa, xb) false) := by
          have e := HN.out
          rw [hdr] at e
          show _ = _
          simpa [put] using e
        clear hdr
        go_wp2
        go_ret
        have e := HP.out.own
        rw [HV.out] at e
        exact ⟨_, rfl, own_mono e (by omega), HP.out.bel⟩
set_option maxRecDepth 200000 in
theorem l5Put_any (a : Option Addr) (len cap : Nat) (ps : Sp) (x0 : Int × Int) (F : List Nat) (w : World) (h : RdP w a len ps F) (hlen : len ≤ 2097152) (hin : ∀ k, k < len → InB (ps.at k)) (hx : InB x0) :
    Calls Try.prog 101 #[.slice a len cap, .agg #[.int .i64 x0.1, .int .i64 x0.2]] w fun e w' => NewP w (put ps x0 false) e w' :=
  (l5Put_own a len cap ps x0 F w h hlen hin hx).mono (fun _ _ h => by
    obtain ⟨v, rfl, h1, h2⟩ := h
    obtain ⟨a', c', F', rfl, hr, ho, hnn⟩ := rdP_of_own h1
    exact ⟨_, _, _, F', rfl, hr, ho, h2, hnn⟩)
end Go.Proofs.Ytgkbhhlkaifnoaa
/- The walks through the model's SetAdd and SetJoin. No statement of the seat is proved here. -/
namespace Go.Proofs.Ytgkbhhlkaifnoaa
open Go.RowKit
theorem NewP.from {w w1 w' : World} {ps : Sp} {e : Ending} (hb : Below w.heap.size w w1) (h : NewP w1 ps e w') : NewP w ps e w' := by
  obtain ⟨a, len, cap, F, h1, h2, h3, h4, h5⟩ := h
  exact ⟨a, len, cap, F, h1, h2, h3.mono hb.size, Below.next hb h4, h5⟩
theorem cells_flat {w : World} {b off len : Nat} {ps : Sp} {F : List Nat} (h : RdP w (some ⟨b, off, none⟩) len ps F) (hp : 0 < len) : ∀ j v, ((flat ps).map (Value.int .i64))[j]? = some v → w.cell? ((⟨b, off, none⟩ : Addr).add j) = some v := by
  intro j v hj
  rcases h.rd.cells with ⟨h0, _⟩ | ⟨b', off', _, he, _, hc⟩
  · omega
  · obtain ⟨rfl, rfl⟩ : b = b' ∧ off = off' := by simpa using he
    have hjl : j < (flat ps).length := by
      have := (List.getElem?_eq_some_iff.1 hj).1
      simpa using this
    rw [flat_length, h.length] at hjl
    rw [sp_add, hc j hjl]
    rw [List.getElem?_map] at hj
    rw [List.getD_eq_getElem?_getD]
    have hjl' : j < (flat ps).length := by rw [flat_length, h.length]; exact hjl
    rw [List.getElem?_eq_getElem hjl'] at hj ⊢
    simpa using hj
set_option maxRecDepth 200000 in
set_option maxHeartbeats 1000000 in
theorem l5Copy_any (a : Option Addr) (len cap : Nat) (ps : Sp) (F : List Nat) (w : World) (h : RdP w a len ps F) (hlen : len ≤ 2097152) (hn : a = none → cap = 0) :
    Calls Try.prog 85 #[.slice a len cap] w fun e w' => NewP w ps e w' := by
  obtain ⟨t0, hi, hz0, hz1, hz2⟩ := info_parts infoSpan
  have HO : Hid ((w.alloc (.cells #[] 81)).ownsRow w.heap.size 81 2 (.slice (some ⟨w.heap.size, 0, none⟩) 0 0) 0 []) := own_empty2 w _
  have HB : Hid (Below w.heap.size w (w.alloc (.cells #[] 81))) := (Below.refl _ _).alloc (Nat.le_refl _) _
  cases a with
  | none =>
    obtain rfl : cap = 0 := hn rfl
    rcases h.cells with ⟨rfl, _, rfl⟩ | ⟨b, off, hp, e, _⟩
    rotate_left
    · cases e
    clear h hn
    go_enter Try.func85, Try.ntmps85
    go_wp2_with (first | go_skip | (with_reducible refine stopAppend2 rfl ?_))
    refine Stop.intro (wpList_append_own_none rfl _ _ 25 rfl w.heap.size 81 t0 2 Try.underlying25 hi _ 0 [] rfl HO.out rfl ?_)
    go_wp2
    go_ret
    exact ⟨_, 0, 0, [], rfl, RdP.nil, Own.nil, HB.out, (fun e => by cases e), Nat.le_refl _⟩
  | some ad =>
    have HC : Hid (∀ j v, ((flat ps).map (Value.int .i64))[j]? = some v → (w.alloc (.cells #[] 81)).cell? (ad.add j) = some v) := by
      rcases h.cells with ⟨rfl, _, rfl⟩ | ⟨b, off, hp, e, _⟩
      · exact fun j v hj => by simp [flat] at hj
      · cases e
        exact cells_flat (h.below HB.out) hp
    have HL : Hid (((flat ps).map (Value.int .i64)).length = len * 2) := by
      show _ = _
      rw [List.length_map, flat_length, h.length]; omega
    clear h hn
    go_enter Try.func85, Try.ntmps85
    go_wp2_with (first | go_skip | (with_reducible refine stopAppend2 rfl ?_))
    refine Stop.intro (wpList_append_own _ rfl _ _ 25 rfl w.heap.size 81 t0 (.agg #[.int .i64 0, .int .i64 0]) 2 16 Try.underlying25 hi hz0 hz1 hz2 rfl (by decide) _ 0 [] rfl HO.out ad len cap ((flat ps).map (Value.int .i64)) rfl HL.out HC.out (by intro u hu; simp at hu; obtain ⟨z, _, rfl⟩ := hu; rfl) (by unfold maxLen; omega) (by omega) (by simp) ?_)
    intro v' w1 hown hgrow _
    have HN : Hid (w1.ownsRow w.heap.size 81 2 v' len ((flat ps).map (Value.int .i64)) ∧ Below w.heap.size w w1) := by
      refine ⟨by simpa using hown, HB.out.grown hgrow HB.out.size (fun k hk => (HO.out.lt k hk).1)⟩
    clear hown hgrow
    go_wp2
    go_ret
    obtain ⟨a', c', F', rfl, hr, ho, hnn⟩ := rdP_of_own HN.out.1
    exact ⟨_, _, _, F', rfl, hr, ho, HN.out.2, hnn⟩
def Sp.add (ps : Sp) (n : Int) : Sp × Bool := if ps.ok = true ∧ (0 ≤ n ∧ n ≤ 9999) ∧ ps.has n = false then (put ps (n, n) false, true) else (ps, false)
end Go.Proofs.Ytgkbhhlkaifnoaa
/- The walks through the model's copying of an item and of an agent. No statement of the seat is proved here. -/
namespace Go.Proofs.Ytgkbhhlkaifnoaa
open Go.RowKit
theorem infoItC8 : (Try.prog.info? 36).map (·.size) = some 11 := by kernel_rfl
set_option maxRecDepth 200000 in
set_option maxHeartbeats 2000000 in
theorem l6Item_all (v : Value) (x : It) (F : List Nat) (w : World) (h : RdIt w v x F) (hf : x.sk.fits) :
    Calls Try.prog 44 #[v] w fun e w' => NewIt w x e w' := by
  obtain ⟨a1, n1, c1, a2, n2, c2, a3, n3, c3, rfl, hr⟩ := h
  have HR : Hid (RdSk w (.agg #[.int .i64 x.sk.count, .int .i64 x.sk.sum, .int .i64 x.sk.min, .int .i64 x.sk.max, .slice a1 n1 c1, .slice a2 n2 c2, .slice a3 n3 c3]) x.sk F ∧ x.sk.fits) := ⟨hr, hf⟩
  clear hr hf
  have HT0 : Hid (Three w #[.int .i64 x.seq, .int .i64 x.cls, .int .i64 x.key, .int .i64 x.window, .int .i64 x.sk.count, .int .i64 x.sk.sum, .int .i64 x.sk.min, .int .i64 x.sk.max, .slice a1 n1 c1, .slice a2 n2 c2, .slice a3 n3 c3] 36 #[.int .i64 0, .int .i64 0, .int .i64 0, .int .i64 0, .int .i64 0, .int .i64 0, .int .i64 0, .int .i64 0, .slice none 0 0, .slice none 0 0, .slice none 0 0] #[.int .i64 x.seq, .int .i64 x.cls, .int .i64 x.key, .int .i64 x.window, .int .i64 x.sk.count, .int .i64 x.sk.sum, .int .i64 x.sk.min, .int .i64 x.sk.max, .slice a1 n1 c1, .slice a2 n2 c2, .slice a3 n3 c3] 36 _) := Three.made w #[.int .i64 x.seq, .int .i64 x.cls, .int .i64 x.key, .int .i64 x.window, .int .i64 x.sk.count, .int .i64 x.sk.sum, .int .i64 x.sk.min, .int .i64 x.sk.max, .slice a1 n1 c1, .slice a2 n2 c2, .slice a3 n3 c3] 36 #[.int .i64 0, .int .i64 0, .int .i64 0, .int .i64 0, .int .i64 0, .int .i64 0, .int .i64 0, .int .i64 0, .slice none 0 0, .slice none 0 0, .slice none 0 0] #[.int .i64 x.seq, .int .i64 x.cls, .int .i64 x.key, .int .i64 x.window, .int .i64 x.sk.count, .int .i64 x.sk.sum, .int .i64 x.sk.min, .int .i64 x.sk.max, .slice a1 n1 c1, .slice a2 n2 c2, .slice a3 n3 c3] 36
  go_enter Try.func44, Try.ntmps44
  go_wp2_with (first | go_skip | (with_reducible refine stopLoad 34 rfl ?_))
  obtain ⟨W0, hW0⟩ : ∃ W, W = ((w.alloc (.cells #[.int .i64 x.seq, .int .i64 x.cls, .int .i64 x.key, .int .i64 x.window, .int .i64 x.sk.count, .int .i64 x.sk.sum, .int .i64 x.sk.min, .int .i64 x.sk.max, .slice a1 n1 c1, .slice a2 n2 c2, .slice a3 n3 c3] 36)).alloc (.cells #[.int .i64 0, .int .i64 0, .int .i64 0, .int .i64 0, .int .i64 0, .int .i64 0, .int .i64 0, .int .i64 0, .slice none 0 0, .slice none 0 0, .slice none 0 0] 36)).alloc (.cells #[.int .i64 x.seq, .int .i64 x.cls, .int .i64 x.key, .int .i64 x.window, .int .i64 x.sk.count, .int .i64 x.sk.sum, .int .i64 x.sk.min, .int .i64 x.sk.max, .slice a1 n1 c1, .slice a2 n2 c2, .slice a3 n3 c3] 36) := ⟨_, rfl⟩
  rw [← hW0] at HT0 ⊢
  clear hW0
  refine load_cut 34 w.heap.size 4 7 _ #[.int .i64 x.sk.count, .int .i64 x.sk.sum, .int .i64 x.sk.min, .int .i64 x.sk.max, .slice a1 n1 c1, .slice a2 n2 c2, .slice a3 n3 c3] 36 _ HT0.out.box rfl rfl rfl Try.underlying34 rfl infoSkI (by simp) rfl ?_
  go_wp2_with fail
  refine (l3Copy_all _ x.sk F _ (HR.out.1.below HT0.out.bel) HR.out.2).mono ?_
  rintro e w1 ⟨v1, G, rfl, r1, o1, hb1⟩
  obtain ⟨b1, m1, d1, b2, m2, d2, b3, m3, d3, rfl⟩ := r1.cells7
  have HT1 : Hid (Three w #[.int .i64 x.seq, .int .i64 x.cls, .int .i64 x.key, .int .i64 x.window, .int .i64 x.sk.count, .int .i64 x.sk.sum, .int .i64 x.sk.min, .int .i64 x.sk.max, .slice a1 n1 c1, .slice a2 n2 c2, .slice a3 n3 c3] 36 #[.int .i64 0, .int .i64 0, .int .i64 0, .int .i64 0, .int .i64 0, .int .i64 0, .int .i64 0, .int .i64 0, .slice none 0 0, .slice none 0 0, .slice none 0 0] #[.int .i64 x.seq, .int .i64 x.cls, .int .i64 x.key, .int .i64 x.window, .int .i64 x.sk.count, .int .i64 x.sk.sum, .int .i64 x.sk.min, .int .i64 x.sk.max, .slice a1 n1 c1, .slice a2 n2 c2, .slice a3 n3 c3] 36 w1) := HT0.out.below hb1
  have HG : Hid (RdSk w1 (.agg #[.int .i64 x.sk.count, .int .i64 x.sk.sum, .int .i64 x.sk.min, .int .i64 x.sk.max, .slice b1 m1 d1, .slice b2 m2 d2, .slice b3 m3 d3]) x.sk G ∧ Own (w.heap.size + 3) w1 G) := ⟨r1, o1.mono HT0.out.size⟩
  clear HT0 hb1 r1 o1 HR
  go_wp2_with (first | go_skip | (with_reducible refine stopStore 34 rfl ?_))
  refine store_cut 34 (w.heap.size + 1 + 1) 4 _ #[.int .i64 x.sk.count, .int .i64 x.sk.sum, .int .i64 x.sk.min, .int .i64 x.sk.max, .slice b1 m1 d1, .slice b2 m2 d2, .slice b3 m3 d3] #[.int .i64 x.seq, .int .i64 x.cls, .int .i64 x.key, .int .i64 x.window, .int .i64 x.sk.count, .int .i64 x.sk.sum, .int .i64 x.sk.min, .int .i64 x.sk.max, .slice b1 m1 d1, .slice b2 m2 d2, .slice b3 m3 d3] 36 HT1.out.loc rfl rfl rfl rfl infoSkI (by exact Nat.le_refl 11) (by simp [Value.oneCell']) rfl ?_
  obtain ⟨E, hE⟩ : ∃ E : Array Value, E = #[.int .i64 x.seq, .int .i64 x.cls, .int .i64 x.key, .int .i64 x.window, .int .i64 x.sk.count, .int .i64 x.sk.sum, .int .i64 x.sk.min, .int .i64 x.sk.max, .slice b1 m1 d1, .slice b2 m2 d2, .slice b3 m3 d3] := ⟨_, rfl⟩
  rw [← hE]
  have HE : Hid (E = #[.int .i64 x.seq, .int .i64 x.cls, .int .i64 x.key, .int .i64 x.window, .int .i64 x.sk.count, .int .i64 x.sk.sum, .int .i64 x.sk.min, .int .i64 x.sk.max, .slice b1 m1 d1, .slice b2 m2 d2, .slice b3 m3 d3]) := hE
  have hE11 : E.size = 11 := by rw [hE]; rfl
  have hEone : E.all (·.oneCell') = true := by rw [hE]; simp [Value.oneCell']
  have nl : w.heap.size + 1 + 1 ∉ G := fun hx => by have := HG.out.2.ge _ hx; omega
  have HT2 : Hid (Three w #[.int .i64 x.seq, .int .i64 x.cls, .int .i64 x.key, .int .i64 x.window, .int .i64 x.sk.count, .int .i64 x.sk.sum, .int .i64 x.sk.min, .int .i64 x.sk.max, .slice a1 n1 c1, .slice a2 n2 c2, .slice a3 n3 c3] 36 #[.int .i64 0, .int .i64 0, .int .i64 0, .int .i64 0, .int .i64 0, .int .i64 0, .int .i64 0, .int .i64 0, .slice none 0 0, .slice none 0 0, .slice none 0 0] E 36 (w1.setRow (w.heap.size + 1 + 1) E)) := ⟨HT1.out.box.setRowOther (by omega), HT1.out.res.setRowOther (by omega), HT1.out.loc.setRow, below_setRow HT1.out.bel (by omega) _⟩
  have HG2 : Hid (RdSk (w1.setRow (w.heap.size + 1 + 1) E) (.agg #[.int .i64 x.sk.count, .int .i64 x.sk.sum, .int .i64 x.sk.min, .int .i64 x.sk.max, .slice b1 m1 d1, .slice b2 m2 d2, .slice b3 m3 d3]) x.sk G ∧ Own (w.heap.size + 3) (w1.setRow (w.heap.size + 1 + 1) E) G) := ⟨HG.out.1.agree (Agree.row nl E), HG.out.2.agree (Agree.row nl E)⟩
  obtain ⟨w2, hw2⟩ : ∃ W, W = w1.setRow (w.heap.size + 1 + 1) E := ⟨_, rfl⟩
  rw [← hw2] at HT2 HG2 ⊢
  clear hw2 HT1 HG nl hE
  go_wp2_with (first | go_skip | (with_reducible refine stopLoad 36 rfl ?_))
  refine load_known 36 (w.heap.size + 1 + 1) E 36 _ HT2.out.loc rfl rfl rfl Try.underlying36 rfl (by rw [hE11]; exact infoItC8) ?_
  go_wp2_with (first | go_skip | (with_reducible refine stopStore 36 rfl ?_))
  refine store_known 36 (w.heap.size + 1) _ E 36 HT2.out.res rfl rfl rfl rfl (by rw [hE11]; exact infoItC8) (by rw [hE11]; rfl) hEone ?_
  have nr : w.heap.size + 1 ∉ G := fun hx => by have := HG2.out.2.ge _ hx; omega
  have HF : Hid (RdSk (w2.setRow (w.heap.size + 1) E) (.agg #[.int .i64 x.sk.count, .int .i64 x.sk.sum, .int .i64 x.sk.min, .int .i64 x.sk.max, .slice b1 m1 d1, .slice b2 m2 d2, .slice b3 m3 d3]) x.sk G ∧ Own w.heap.size (w2.setRow (w.heap.size + 1) E) G ∧ Below w.heap.size w (w2.setRow (w.heap.size + 1) E) ∧ Blk (w2.setRow (w.heap.size + 1) E) (w.heap.size + 1) E 36) := ⟨HG2.out.1.agree (Agree.row nr E), (HG2.out.2.agree (Agree.row nr E)).mono (by omega), below_setRow HT2.out.bel (by omega) _, HT2.out.res.setRow⟩
  clear HT2 HG2 nr
  go_wp2
  refine bodyPost_ret (results_cell_row Try.results44 _ _ (w.heap.size + 1) _ _ (0, 0) _ rfl HF.out.2.2.2 Try.underlying36 rfl (by rw [hE11]; exact infoItC8)) rfl ?_
  exact ⟨_, G, rfl, ⟨b1, m1, d1, b2, m2, d2, b3, m3, d3, by rw [HE.out], HF.out.1⟩, HF.out.2.1, HF.out.2.2.1⟩
theorem infoAgC8 : (Try.prog.info? 27).map (·.size) = some 7 := by kernel_rfl
theorem infoItsC8 : (Try.prog.info? 36).map (fun i => (i.zero, i.size, i.bytes)) = some (some (.agg #[.int .i64 0, .int .i64 0, .int .i64 0, .int .i64 0, .int .i64 0, .int .i64 0, .int .i64 0, .int .i64 0, .slice none 0 0, .slice none 0 0, .slice none 0 0]), 11, 136) := by kernel_rfl
/-- An agent's copy, behind k items. -/
structure CopyG (w : World) (A : Array Value) (x : Ag) (p2 : Option Addr) (l2 k2 : Nat) (G2 : List Nat) (lo k : Nat) (v : Value) (vs : List Value) (G : List Nat) (W : World) : Prop where
  three : Three w A 27 #[.int .i64 0, .int .i64 0, .bool false, .int .i64 0, .slice none 0 0, .slice none 0 0, .int .i64 0] #[.int .i64 x.id, .int .i64 x.epoch, .bool x.live, .int .i64 x.granted, v, .slice p2 l2 k2, .int .i64 x.next] 27 W
  r2 : RdP W p2 l2 x.taken G2
  o2 : Own (w.heap.size + 3) W G2
  lt : ∀ b ∈ G2, b < lo
  grow : GrowL itK 36 x.sealed lo k v vs G W
  big : w.heap.size + 3 ≤ lo
theorem CopyG.below {w W W' : World} {A : Array Value} {x : Ag} {p2 : Option Addr} {l2 k2 : Nat} {G2 : List Nat} {lo k : Nat} {v : Value} {vs : List Value} {G : List Nat} (h : CopyG w A x p2 l2 k2 G2 lo k v vs G W) (b : Below W.heap.size W W') : CopyG w A x p2 l2 k2 G2 lo k v vs G W' :=
  ⟨h.three.below b, h.r2.below b, h.o2.below h.r2.lt b, h.lt, h.grow.below b, h.big⟩
theorem CopyG.step {w W W' : World} {A : Array Value} {x : Ag} {p2 : Option Addr} {l2 k2 : Nat} {G2 : List Nat} {lo k : Nat} {v v' : Value} {vs vs' : List Value} {G G' : List Nat} (h : CopyG w A x p2 l2 k2 G2 lo k v vs G W) (hgrow : W.grownBy W' v.ownBlock) (hg : GrowL itK 36 x.sealed lo (k + 1) v' vs' G' W') :
    CopyG w A x p2 l2 k2 G2 lo (k + 1) v' vs' G' (W'.setCell ⟨w.heap.size + 1 + 1, 4, none⟩ v') ∧ Blk W' w.heap.size A 27 ∧ Below w.heap.size w W' ∧ Blk W' (w.heap.size + 1 + 1) #[.int .i64 x.id, .int .i64 x.epoch, .bool x.live, .int .i64 x.granted, v, .slice p2 l2 k2, .int .i64 x.next] 27 := by
  have big := h.big
  have ot : ∀ b, b < lo → W'.heap[b]? = W.heap[b]? := fun b hb => h.grow.other hgrow hb
  have bx := h.three.box.agree (ot _ (by omega))
  have rs := h.three.res.agree (ot _ (by omega))
  have lc := h.three.loc.agree (ot _ (by omega))
  have bel : Below w.heap.size w W' := h.three.bel.grown hgrow h.three.bel.size (fun b hb => by have := (h.grow.row.lt b hb).1; omega)
  have T : Three w A 27 #[.int .i64 0, .int .i64 0, .bool false, .int .i64 0, .slice none 0 0, .slice none 0 0, .int .i64 0] #[.int .i64 x.id, .int .i64 x.epoch, .bool x.live, .int .i64 x.granted, v, .slice p2 l2 k2, .int .i64 x.next] 27 W' := ⟨bx, rs, lc, bel⟩
  have n2 : w.heap.size + 1 + 1 ∉ G2 := fun hx => by have := h.o2.ge _ hx; omega
  have ag : Agree W (W'.setCell ⟨w.heap.size + 1 + 1, 4, none⟩ v') G2 := Agree.thenSet (fun b hb => ot b (h.lt b hb)) n2 _ _
  exact ⟨⟨T.set 4 v', h.r2.agree ag, h.o2.agree ag, h.lt, hg.set (by omega), h.big⟩, bx, bel, lc⟩
/-- A new agent whose list can grow. -/
def NewAgG (w : World) (x : Ag) (e : Ending) (w' : World) : Prop := ∃ (q1 : Option Addr) (k1 : Nat) (q2 : Option Addr) (l2 k2 : Nat) (F G : List Nat) (lo : Nat) (vs : List Value) (GG : List Nat),
  e = .returned (.agg #[.int .i64 x.id, .int .i64 x.epoch, .bool x.live, .int .i64 x.granted, .slice q1 x.sealed.length k1, .slice q2 l2 k2, .int .i64 x.next]) ∧ RdL itK w' q1 x.sealed.length x.sealed F ∧ RdP w' q2 l2 x.taken G ∧ Capd q1 x.sealed.length k1 ∧ Capd q2 l2 k2 ∧ Own w.heap.size w' F ∧ Own w.heap.size w' G ∧ (∀ b ∈ F, b ∉ G) ∧ Below w.heap.size w w' ∧
  GrowL itK 36 x.sealed lo x.sealed.length (.slice q1 x.sealed.length k1) vs GG w' ∧ w.heap.size ≤ lo ∧ ∀ b ∈ G, b < lo
set_option maxRecDepth 200000 in
set_option maxHeartbeats 8000000 in
theorem l8Copy_grow (v : Value) (x : Ag) (F0 G0 : List Nat) (w : World) (h : RdAg w v x F0 G0) (hf : ∀ y ∈ x.sealed, y.sk.fits) (hs : x.sealed.length ≤ 1048576) (hp : x.taken.length ≤ 1048576) :
    Calls Try.prog 43 #[v] w fun e w' => NewAgG w x e w' := by
  obtain ⟨j0, hj, hy0, hy1, hy2⟩ := info_parts infoItsC8
  obtain ⟨a1, n1, c1, a2, n2, c2, rfl, hL, hP, hc1, hc2⟩ := h
  have hn1 : n1 ≤ 1048576 := by rw [← hL.length]; exact hs
  have HL : Hid (RdL itK w a1 n1 x.sealed F0 ∧ (∀ y ∈ x.sealed, y.sk.fits) ∧ x.sealed.length = n1) := ⟨hL, hf, hL.length⟩
  have HP : Hid (RdP w a2 n2 x.taken G0 ∧ n2 ≤ 2097152 ∧ (a2 = none → c2 = 0)) := ⟨hP, by rw [← hP.length]; omega, hc2.1⟩
  clear hL hP hf hs hp hc1 hc2
  have HT0 : Hid (Three w #[.int .i64 x.id, .int .i64 x.epoch, .bool x.live, .int .i64 x.granted, .slice a1 n1 c1, .slice a2 n2 c2, .int .i64 x.next] 27 #[.int .i64 0, .int .i64 0, .bool false, .int .i64 0, .slice none 0 0, .slice none 0 0, .int .i64 0] #[.int .i64 x.id, .int .i64 x.epoch, .bool x.live, .int .i64 x.granted, .slice a1 n1 c1, .slice a2 n2 c2, .int .i64 x.next] 27 _) := Three.made w #[.int .i64 x.id, .int .i64 x.epoch, .bool x.live, .int .i64 x.granted, .slice a1 n1 c1, .slice a2 n2 c2, .int .i64 x.next] 27 #[.int .i64 0, .int .i64 0, .bool false, .int .i64 0, .slice none 0 0, .slice none 0 0, .int .i64 0] #[.int .i64 x.id, .int .i64 x.epoch, .bool x.live, .int .i64 x.granted, .slice a1 n1 c1, .slice a2 n2 c2, .int .i64 x.next] 27
  go_enter Try.func43, Try.ntmps43
  go_wp2_with fail
  obtain ⟨W0, hW0⟩ : ∃ W, W = ((w.alloc (.cells #[.int .i64 x.id, .int .i64 x.epoch, .bool x.live, .int .i64 x.granted, .slice a1 n1 c1, .slice a2 n2 c2, .int .i64 x.next] 27)).alloc (.cells #[.int .i64 0, .int .i64 0, .bool false, .int .i64 0, .slice none 0 0, .slice none 0 0, .int .i64 0] 27)).alloc (.cells #[.int .i64 x.id, .int .i64 x.epoch, .bool x.live, .int .i64 x.granted, .slice a1 n1 c1, .slice a2 n2 c2, .int .i64 x.next] 27) := ⟨_, rfl⟩
  rw [← hW0] at HT0 ⊢
  clear hW0
  refine (l5Copy_any a2 n2 c2 x.taken G0 _ (HP.out.1.below HT0.out.bel) HP.out.2.1 HP.out.2.2).mono ?_
  rintro e w1 ⟨p2, l2, k2, G2, rfl, r2, o2, hb1, hc2⟩
  have HT1 : Hid (Three w #[.int .i64 x.id, .int .i64 x.epoch, .bool x.live, .int .i64 x.granted, .slice a1 n1 c1, .slice a2 n2 c2, .int .i64 x.next] 27 #[.int .i64 0, .int .i64 0, .bool false, .int .i64 0, .slice none 0 0, .slice none 0 0, .int .i64 0] #[.int .i64 x.id, .int .i64 x.epoch, .bool x.live, .int .i64 x.granted, .slice a1 n1 c1, .slice a2 n2 c2, .int .i64 x.next] 27 w1) := HT0.out.below hb1
  have HG1 : Hid (RdP w1 p2 l2 x.taken G2 ∧ Own (w.heap.size + 3) w1 G2 ∧ Capd p2 l2 k2) := ⟨r2, o2.mono HT0.out.size, hc2⟩
  clear HT0 hb1 r2 o2 hc2
  have c5 := HT1.out.loc.cell 5
  have f5 := HT1.out.loc.frozen 5
  have c4 := HT1.out.loc.cell 4
  have f4 := HT1.out.loc.frozen 4
  simp only [aT, aS, aZ] at c5 c4
  go_wp2
  clear c5 f5 c4 f4
  have hz1 : w.heap.size + 3 ≤ w1.heap.size := HT1.out.size
  go_loopw [4] (fun i wr => ∃ (k : Nat) (v : Value) (vs : List Value) (GG : List Nat), k ≤ n1 ∧ i = .int .i64 k ∧ Hid (CopyG w #[.int .i64 x.id, .int .i64 x.epoch, .bool x.live, .int .i64 x.granted, .slice a1 n1 c1, .slice a2 n2 c2, .int .i64 x.next] x p2 l2 k2 G2 w1.heap.size k v vs GG wr)) (fun i _ => n1 - (intOf i).toNat)
  case atStart =>
    have nG : w.heap.size + 1 + 1 ∉ G2 := fun hx => by have := HG1.out.2.1.ge _ hx; omega
    have ag := ((Agree.refl w1 G2).thenSet nG 5 (.slice p2 l2 k2)).thenSet nG 4 (.slice none 0 0)
    have T := (HT1.out.set 5 (.slice p2 l2 k2)).set 4 (.slice none 0 0)
    exact ⟨0, .slice none 0 0, [], [], by omega, rfl, ⟨T, HG1.out.1.agree ag, HG1.out.2.1.agree ag, HG1.out.1.lt, GrowL.start (by simp), hz1⟩⟩
  case round =>
    obtain ⟨k, v, vs, GG, hk, rfl, CSS⟩ := hrel
    have e4 := CSS.out.three.box.cell 4
    simp only [aT, aS, aZ] at e4
    by_cases hlt : k < n1
    · have hI : (k : Int) < (n1 : Int) := by omega
      obtain ⟨b, off, ha, hbF, cs, Fi, hcs, hcc, hr, _⟩ := HL.out.1.get k hlt
      have ha' := ha.symm
      subst ha'
      have hbw : b < w.heap.size := HL.out.1.lt b hbF
      obtain ⟨y, hy⟩ : ∃ y, x.sealed[k]? = some y := ⟨_, List.getElem?_eq_getElem (by rw [HL.out.2.2]; exact hlt)⟩
      have HY : Hid (x.sealed[k]? = some y ∧ y.sk.fits ∧ cs.size = 11 ∧ RdIt w (.agg cs) y Fi) := ⟨hy, HL.out.2.1 y (List.mem_of_getElem? hy), hcs, hr y hy⟩
      have HC : Hid (∀ W, Blk W w.heap.size #[.int .i64 x.id, .int .i64 x.epoch, .bool x.live, .int .i64 x.granted, .slice (some ⟨b, off, none⟩) n1 c1, .slice a2 n2 c2, .int .i64 x.next] 27 ∧ Below w.heap.size w W → W.cell? ⟨w.heap.size, 4, none⟩ = some (.slice (some ⟨b, off, none⟩) n1 c1) ∧ ∀ j, j < 11 → W.cell? ⟨b, off + k * 11 + j, none⟩ = cs[j]?) := fun W hW => ⟨by rw [hW.1.cell]; rfl, fun j hj => by
        have q : W.cell? ⟨b, off + k * 11 + j, none⟩ = w.cell? ⟨b, off + k * 11 + j, none⟩ := hW.2.cell (p := ⟨b, off + k * 11 + j, none⟩) hbw
        exact q.trans (hcc j hj)⟩
      clear ha hbF hcs hcc hr hy
      go_wp2_with fail
      clear e4
      have CSd : Hid (CopyG w #[.int .i64 x.id, .int .i64 x.epoch, .bool x.live, .int .i64 x.granted, .slice (some ⟨b, off, none⟩) n1 c1, .slice a2 n2 c2, .int .i64 x.next] x p2 l2 k2 G2 w1.heap.size k v vs GG wr.drew) := CSS.out.below (Below.refl _ _).drew
      obtain ⟨Y0, hY0⟩ : ∃ Y, Y = wr.drew := ⟨_, rfl⟩
      rw [← hY0] at CSd
      have HLim : Hid ((∀ b ∈ GG, b < Y0.heap.size) ∧ (∀ b, v.ownBlock = some b → b < Y0.heap.size) ∧ w1.heap.size ≤ Y0.heap.size) := CSd.out.grow.lts
      clear CSS
      refine wp_region_held (S := fun W => Blk W w.heap.size #[.int .i64 x.id, .int .i64 x.epoch, .bool x.live, .int .i64 x.granted, .slice (some ⟨b, off, none⟩) n1 c1, .slice a2 n2 c2, .int .i64 x.next] 27 ∧ Below w.heap.size w W) (by kernel_rfl) ?_
      change wpAnyH _ _ _ _ _ _ _ _ (World.drew _)
      rw [← hY0]
      clear hY0
      refine takeH (o := ?o1) 0 (.pointer (some ⟨w.heap.size + 1 + 1, 4, none⟩)) ?h1 ?r1
      case h1 => simp only [aT, aZ]; rfl
      refine ⟨_, by simp [Act.put]; rfl, by kernel_rfl, by kernel_rfl, by kernel_rfl, fun _ _ _ h => h, (.inl ⟨rfl, fun W _ => by kernel_rfl⟩), ⟨CSd.out.three.box, CSd.out.three.bel⟩, ?_⟩
      refine takeH (o := ?o2) 2 (.pointer (some ⟨w.heap.size, 4, none⟩)) ?h2 ?r2
      case h2 => simp only [aT, aS, aZ]; rfl
      refine ⟨_, by simp [Act.put]; rfl, by kernel_rfl, by kernel_rfl, by kernel_rfl, fun _ _ _ h => h, (.inl ⟨rfl, fun W _ => by kernel_rfl⟩), ⟨CSd.out.three.box, CSd.out.three.bel⟩, ?_⟩
      refine takeH (o := ?o3) 3 (.slice (some ⟨b, off, none⟩) n1 c1) ?h3 ?r3
      case h3 => simp only [aT, aS, aZ]; rfl
      refine ⟨_, by simp [Act.put]; rfl, by kernel_rfl, by kernel_rfl, by kernel_rfl, fun _ _ _ h => h, (.inl ⟨rfl, fun W hW => by have c := (HC.out W hW).1; go_simp⟩), ⟨CSd.out.three.box, CSd.out.three.bel⟩, ?_⟩
      refine takeH (o := ?o4) 4 (.int .i64 k) ?h4 ?r4
      case h4 => simp only [aT, aS, aZ]; rfl
      refine ⟨_, by simp [Act.put]; rfl, by kernel_rfl, by kernel_rfl, by kernel_rfl, fun _ _ _ h => h, (.inl ⟨rfl, fun W _ => by kernel_rfl⟩), ⟨CSd.out.three.box, CSd.out.three.bel⟩, ?_⟩
      refine takeH (o := ?o5) 5 (.pointer (some ⟨b, off + k * 11, none⟩)) ?h5 ?r5
      case h5 => simp only [aT, aS, aZ]; rfl
      refine ⟨_, by simp [Act.put]; rfl, by kernel_rfl, by kernel_rfl, by kernel_rfl, fun _ _ _ h => h, (.inl ⟨rfl, fun W _ => by go_simp; first | done | (intro h; omega) | (rw [if_pos (by omega)]; rfl)⟩), ⟨CSd.out.three.box, CSd.out.three.bel⟩, ?_⟩
      refine takeH (o := ?o6) 6 (.agg cs) ?h6 ?r6
      case h6 => simp only [aT, aS, aZ]; rfl
      refine ⟨_, by simp [Act.put]; rfl, by kernel_rfl, by kernel_rfl, by kernel_rfl, fun _ _ _ h => h, (yields_at 36 b (off + k * 11) 11 cs _ rfl rfl rfl Try.underlying36 rfl infoItC8 HY.out.2.2.1 (fun W hW => (HC.out W hW).2)), ⟨CSd.out.three.box, CSd.out.three.bel⟩, ?_⟩
      refine twoH (o := ?o7) (o' := ?p7) 1 7 (by kernel_rfl) ?h7 ?g7 ?r7 ?s7
      case h7 => simp only [aT, aS, aZ]; rfl
      case g7 => simp only [aT, aS, aZ]; rfl
      case r7 =>
        intro K hK
        have co := CSd.out.three.loc.cell 4
        simp only [aT, aS, aZ] at co
        refine op_value v rfl (by go_simp) ⟨_, by simp [Act.put]; rfl, hK _ _ ⟨⟨CSd.out.three.box, CSd.out.three.bel⟩, ?_⟩⟩
        clear hK co
        refine onlyH (o := ?o8) 7 (by kernel_rfl) ?h8 ?r8
        case h8 => simp only [aT, aS, aZ]; rfl
        intro K hK
        refine op_call1 44 _ _ Try.f44 (fun v w' => ∃ F, RdIt w' v y F ∧ Own Y0.heap.size w' F ∧ Below Y0.heap.size Y0 w') rfl rfl Try.func44 (by kernel_rfl) (by kernel_rfl) ((l6Item_all (.agg cs) y Fi Y0 (HY.out.2.2.2.below CSd.out.three.bel) HY.out.2.1).mono (by rintro e w' ⟨v, F, rfl, k1, k2, k3⟩; exact ⟨_, rfl, F, k1, k2, k3⟩)) ?_
        rintro vr Y1 ⟨Fr, rr, ro, rb⟩
        obtain ⟨ds, rfl, hd11, hd1⟩ := itK.cells (w := Y1) rr
        have RR1 : Hid (RdIt Y1 (.agg ds) y Fr ∧ Own Y0.heap.size Y1 Fr ∧ ds.size = 11 ∧ ds.all (·.oneCell') = true) := ⟨rr, ro.mono (Nat.le_refl _), hd11, hd1⟩
        have CS1 : Hid (CopyG w #[.int .i64 x.id, .int .i64 x.epoch, .bool x.live, .int .i64 x.granted, .slice (some ⟨b, off, none⟩) n1 c1, .slice a2 n2 c2, .int .i64 x.next] x p2 l2 k2 G2 w1.heap.size k v vs GG Y1) := CSd.out.below rb
        refine ⟨_, by simp [Act.put]; rfl, hK _ _ ⟨⟨CS1.out.three.box, CS1.out.three.bel⟩, ?_⟩⟩
        clear hK rr ro rb hd11 hd1
        refine onlyH (o := ?o9) 8 (by kernel_rfl) ?h9 ?r9
        case h9 => simp only [aT, aS, aZ]; rfl
        intro K hK
        have bl : Below Y1.heap.size Y1 (Y1.alloc (.cells ds 36)) := (Below.refl _ _).alloc (Nat.le_refl _) _
        have CS2 : Hid (CopyG w #[.int .i64 x.id, .int .i64 x.epoch, .bool x.live, .int .i64 x.granted, .slice (some ⟨b, off, none⟩) n1 c1, .slice a2 n2 c2, .int .i64 x.next] x p2 l2 k2 G2 w1.heap.size k v vs GG (Y1.alloc (.cells ds 36))) := CS1.out.below bl
        have RR2 : Hid (RdIt (Y1.alloc (.cells ds 36)) (.agg ds) y Fr ∧ Own Y0.heap.size (Y1.alloc (.cells ds 36)) Fr ∧ ds.size = 11 ∧ ds.all (·.oneCell') = true) := ⟨RR1.out.1.below bl, RR1.out.2.1.below RR1.out.1.lt bl, RR1.out.2.2⟩
        have NW2 : Hid (∀ j u, ds.toList[j]? = some u → ((Y1.alloc (.cells ds 36))).cell? ((⟨Y1.heap.size, 0, none⟩ : Addr).add j) = some u) := news_lit _ _ _
        refine op_turn (.slice (some ⟨Y1.heap.size, 0, none⟩) 1 1) (Y1.alloc (.cells ds 36)) rfl (by obtain ⟨_, _, _, _, _, _, _, _, _, ev⟩ := RdIt.cells11 RR2.out.1; injection ev with ev; rw [ev]; kernel_rfl) ⟨_, by simp [Act.put]; rfl, hK _ _ ⟨⟨CS2.out.three.box, CS2.out.three.bel⟩, ?_⟩⟩
        clear hK bl
        obtain ⟨L2, hL2⟩ : ∃ z, z = Y1.heap.size := ⟨_, rfl⟩
        obtain ⟨Y2, hY2⟩ : ∃ Z, Z = (Y1.alloc (.cells ds 36)) := ⟨_, rfl⟩
        rw [← hY2, ← hL2] at NW2
        rw [← hY2] at CS2 RR2 ⊢
        rw [← hL2]
        clear hY2 hL2
        refine onlyH (o := ?o10) 9 (by kernel_rfl) ?h10 ?r10
        case h10 => simp only [aT, aS, aZ]; rfl
        intro K hK
        refine op_append Y2 rfl _ _ 24 rfl w1.heap.size 36 j0 (.agg #[.int .i64 0, .int .i64 0, .int .i64 0, .int .i64 0, .int .i64 0, .int .i64 0, .int .i64 0, .int .i64 0, .slice none 0 0, .slice none 0 0, .slice none 0 0]) 11 136 Try.underlying24 hj hy0 hy1 hy2 rfl (by decide) v k vs rfl CS2.out.grow.row ⟨L2, 0, none⟩ 1 1 ds.toList rfl (by rw [Array.length_toList, RR2.out.2.2.1]) NW2.out (fun u hu => (Array.all_eq_true_iff_forall_mem.1 RR2.out.2.2.2) u (by simpa using hu)) (by decide) (by unfold maxLen; omega) (by omega) CS2.out.grow.lw _ rfl ?_
        intro g4 cp4 Y3 hown hgrow hat _
        have GS := CS2.out.grow.step HY.out.1 RR2.out.1 RR2.out.2.2.1 RR2.out.2.1 HLim.out.1 HLim.out.2.1 HLim.out.2.2 hown hgrow hat
        have ST := CS2.out.step hgrow GS
        have CS3 : Hid (CopyG w #[.int .i64 x.id, .int .i64 x.epoch, .bool x.live, .int .i64 x.granted, .slice (some ⟨b, off, none⟩) n1 c1, .slice a2 n2 c2, .int .i64 x.next] x p2 l2 k2 G2 w1.heap.size (k + 1) (.slice (some ⟨g4, 0, none⟩) (k + 1) cp4) (vs ++ ds.toList) (GG ++ Fr) (Y3.setCell ⟨w.heap.size + 1 + 1, 4, none⟩ (.slice (some ⟨g4, 0, none⟩) (k + 1) cp4)) ∧ Blk Y3 w.heap.size #[.int .i64 x.id, .int .i64 x.epoch, .bool x.live, .int .i64 x.granted, .slice (some ⟨b, off, none⟩) n1 c1, .slice a2 n2 c2, .int .i64 x.next] 27 ∧ Below w.heap.size w Y3) := ⟨ST.1, ST.2.1, ST.2.2.1⟩
        have co := ST.2.2.2.cell 4
        have fo := ST.2.2.2.frozen 4
        simp only [aT, aS, aZ] at co
        refine ⟨_, by simp [Act.put]; rfl, hK _ _ ⟨CS3.out.2, ?_⟩⟩
        clear hK hown hgrow hat ST GS
        refine takeH (o := ?o11) 10 (.pointer (some ⟨w.heap.size + 1 + 1, 4, none⟩)) ?h11 ?r11
        case h11 => simp only [aT, aS, aZ]; rfl
        refine ⟨_, by simp [Act.put]; rfl, by kernel_rfl, by kernel_rfl, by kernel_rfl, fun _ _ _ h => h, (.inl ⟨rfl, fun W _ => by kernel_rfl⟩), CS3.out.2, ?_⟩
        refine onlyH (o := ?o12) 11 (by kernel_rfl) ?h12 ?r12
        case h12 => simp only [aT, aS, aZ]; rfl
        intro K hK
        refine op_skip (Y3.setCell ⟨w.heap.size + 1 + 1, 4, none⟩ (.slice (some ⟨g4, 0, none⟩) (k + 1) cp4)) rfl (by go_simp) ⟨_, by simp [Act.put]; rfl, hK _ _ ⟨⟨CS3.out.1.three.box, CS3.out.1.three.bel⟩, ?_⟩⟩
        clear hK co fo
        refine wpAnyH_done (by kernel_rfl) ?_ _
        have HF : Hid (CopyG w #[.int .i64 x.id, .int .i64 x.epoch, .bool x.live, .int .i64 x.granted, .slice (some ⟨b, off, none⟩) n1 c1, .slice a2 n2 c2, .int .i64 x.next] x p2 l2 k2 G2 w1.heap.size (k + 1) (.slice (some ⟨g4, 0, none⟩) (k + 1) cp4) (vs ++ ds.toList) (GG ++ Fr) (Y3.setCell ⟨w.heap.size + 1 + 1, 4, none⟩ (.slice (some ⟨g4, 0, none⟩) (k + 1) cp4))) := CS3.out.1
        obtain ⟨YZ, hYZ⟩ : ∃ Z, Z = Y3.setCell ⟨w.heap.size + 1 + 1, 4, none⟩ (.slice (some ⟨g4, 0, none⟩) (k + 1) cp4) := ⟨_, rfl⟩
        rw [← hYZ] at HF ⊢
        clear hYZ CS3
        go_wp2
        go_roundw
        case rel => exact ⟨k + 1, _, _, _, by omega, by go_num, HF.out⟩
        case measure => simp [intOf]; omega
      case s7 =>
        intro K hK
        refine op_call1 44 _ _ Try.f44 (fun v w' => ∃ F, RdIt w' v y F ∧ Own Y0.heap.size w' F ∧ Below Y0.heap.size Y0 w') rfl rfl Try.func44 (by kernel_rfl) (by kernel_rfl) ((l6Item_all (.agg cs) y Fi Y0 (HY.out.2.2.2.below CSd.out.three.bel) HY.out.2.1).mono (by rintro e w' ⟨v, F, rfl, k1, k2, k3⟩; exact ⟨_, rfl, F, k1, k2, k3⟩)) ?_
        rintro vr Y4 ⟨Fr, rr, ro, rb⟩
        obtain ⟨ds, rfl, hd11, hd1⟩ := itK.cells (w := Y4) rr
        have RR4 : Hid (RdIt Y4 (.agg ds) y Fr ∧ Own Y0.heap.size Y4 Fr ∧ ds.size = 11 ∧ ds.all (·.oneCell') = true) := ⟨rr, ro.mono (Nat.le_refl _), hd11, hd1⟩
        have CS4 : Hid (CopyG w #[.int .i64 x.id, .int .i64 x.epoch, .bool x.live, .int .i64 x.granted, .slice (some ⟨b, off, none⟩) n1 c1, .slice a2 n2 c2, .int .i64 x.next] x p2 l2 k2 G2 w1.heap.size k v vs GG Y4) := CSd.out.below rb
        refine ⟨_, by simp [Act.put]; rfl, hK _ _ ⟨⟨CS4.out.three.box, CS4.out.three.bel⟩, ?_⟩⟩
        clear hK rr ro rb hd11 hd1
        refine twoH (o := ?o13) (o' := ?p13) 1 8 (by kernel_rfl) ?h13 ?g13 ?r13 ?s13
        case h13 => simp only [aT, aS, aZ]; rfl
        case g13 => simp only [aT, aS, aZ]; rfl
        case r13 =>
          intro K hK
          have co := CS4.out.three.loc.cell 4
          simp only [aT, aS, aZ] at co
          refine op_value v rfl (by go_simp) ⟨_, by simp [Act.put]; rfl, hK _ _ ⟨⟨CS4.out.three.box, CS4.out.three.bel⟩, ?_⟩⟩
          clear hK co
          refine onlyH (o := ?o14) 8 (by kernel_rfl) ?h14 ?r14
          case h14 => simp only [aT, aS, aZ]; rfl
          intro K hK
          have bl : Below Y4.heap.size Y4 (Y4.alloc (.cells ds 36)) := (Below.refl _ _).alloc (Nat.le_refl _) _
          have CS5 : Hid (CopyG w #[.int .i64 x.id, .int .i64 x.epoch, .bool x.live, .int .i64 x.granted, .slice (some ⟨b, off, none⟩) n1 c1, .slice a2 n2 c2, .int .i64 x.next] x p2 l2 k2 G2 w1.heap.size k v vs GG (Y4.alloc (.cells ds 36))) := CS4.out.below bl
          have RR5 : Hid (RdIt (Y4.alloc (.cells ds 36)) (.agg ds) y Fr ∧ Own Y0.heap.size (Y4.alloc (.cells ds 36)) Fr ∧ ds.size = 11 ∧ ds.all (·.oneCell') = true) := ⟨RR4.out.1.below bl, RR4.out.2.1.below RR4.out.1.lt bl, RR4.out.2.2⟩
          have NW5 : Hid (∀ j u, ds.toList[j]? = some u → ((Y4.alloc (.cells ds 36))).cell? ((⟨Y4.heap.size, 0, none⟩ : Addr).add j) = some u) := news_lit _ _ _
          refine op_turn (.slice (some ⟨Y4.heap.size, 0, none⟩) 1 1) (Y4.alloc (.cells ds 36)) rfl (by obtain ⟨_, _, _, _, _, _, _, _, _, ev⟩ := RdIt.cells11 RR5.out.1; injection ev with ev; rw [ev]; kernel_rfl) ⟨_, by simp [Act.put]; rfl, hK _ _ ⟨⟨CS5.out.three.box, CS5.out.three.bel⟩, ?_⟩⟩
          clear hK bl
          obtain ⟨L5, hL5⟩ : ∃ z, z = Y4.heap.size := ⟨_, rfl⟩
          obtain ⟨Y5, hY5⟩ : ∃ Z, Z = (Y4.alloc (.cells ds 36)) := ⟨_, rfl⟩
          rw [← hY5, ← hL5] at NW5
          rw [← hY5] at CS5 RR5 ⊢
          rw [← hL5]
          clear hY5 hL5
          refine onlyH (o := ?o15) 9 (by kernel_rfl) ?h15 ?r15
          case h15 => simp only [aT, aS, aZ]; rfl
          intro K hK
          refine op_append Y5 rfl _ _ 24 rfl w1.heap.size 36 j0 (.agg #[.int .i64 0, .int .i64 0, .int .i64 0, .int .i64 0, .int .i64 0, .int .i64 0, .int .i64 0, .int .i64 0, .slice none 0 0, .slice none 0 0, .slice none 0 0]) 11 136 Try.underlying24 hj hy0 hy1 hy2 rfl (by decide) v k vs rfl CS5.out.grow.row ⟨L5, 0, none⟩ 1 1 ds.toList rfl (by rw [Array.length_toList, RR5.out.2.2.1]) NW5.out (fun u hu => (Array.all_eq_true_iff_forall_mem.1 RR5.out.2.2.2) u (by simpa using hu)) (by decide) (by unfold maxLen; omega) (by omega) CS5.out.grow.lw _ rfl ?_
          intro g4 cp4 Y6 hown hgrow hat _
          have GS := CS5.out.grow.step HY.out.1 RR5.out.1 RR5.out.2.2.1 RR5.out.2.1 HLim.out.1 HLim.out.2.1 HLim.out.2.2 hown hgrow hat
          have ST := CS5.out.step hgrow GS
          have CS6 : Hid (CopyG w #[.int .i64 x.id, .int .i64 x.epoch, .bool x.live, .int .i64 x.granted, .slice (some ⟨b, off, none⟩) n1 c1, .slice a2 n2 c2, .int .i64 x.next] x p2 l2 k2 G2 w1.heap.size (k + 1) (.slice (some ⟨g4, 0, none⟩) (k + 1) cp4) (vs ++ ds.toList) (GG ++ Fr) (Y6.setCell ⟨w.heap.size + 1 + 1, 4, none⟩ (.slice (some ⟨g4, 0, none⟩) (k + 1) cp4)) ∧ Blk Y6 w.heap.size #[.int .i64 x.id, .int .i64 x.epoch, .bool x.live, .int .i64 x.granted, .slice (some ⟨b, off, none⟩) n1 c1, .slice a2 n2 c2, .int .i64 x.next] 27 ∧ Below w.heap.size w Y6) := ⟨ST.1, ST.2.1, ST.2.2.1⟩
          have co := ST.2.2.2.cell 4
          have fo := ST.2.2.2.frozen 4
          simp only [aT, aS, aZ] at co
          refine ⟨_, by simp [Act.put]; rfl, hK _ _ ⟨CS6.out.2, ?_⟩⟩
          clear hK hown hgrow hat ST GS
          refine takeH (o := ?o16) 10 (.pointer (some ⟨w.heap.size + 1 + 1, 4, none⟩)) ?h16 ?r16
          case h16 => simp only [aT, aS, aZ]; rfl
          refine ⟨_, by simp [Act.put]; rfl, by kernel_rfl, by kernel_rfl, by kernel_rfl, fun _ _ _ h => h, (.inl ⟨rfl, fun W _ => by kernel_rfl⟩), CS6.out.2, ?_⟩
          refine onlyH (o := ?o17) 11 (by kernel_rfl) ?h17 ?r17
          case h17 => simp only [aT, aS, aZ]; rfl
          intro K hK
          refine op_skip (Y6.setCell ⟨w.heap.size + 1 + 1, 4, none⟩ (.slice (some ⟨g4, 0, none⟩) (k + 1) cp4)) rfl (by go_simp) ⟨_, by simp [Act.put]; rfl, hK _ _ ⟨⟨CS6.out.1.three.box, CS6.out.1.three.bel⟩, ?_⟩⟩
          clear hK co fo
          refine wpAnyH_done (by kernel_rfl) ?_ _
          have HF : Hid (CopyG w #[.int .i64 x.id, .int .i64 x.epoch, .bool x.live, .int .i64 x.granted, .slice (some ⟨b, off, none⟩) n1 c1, .slice a2 n2 c2, .int .i64 x.next] x p2 l2 k2 G2 w1.heap.size (k + 1) (.slice (some ⟨g4, 0, none⟩) (k + 1) cp4) (vs ++ ds.toList) (GG ++ Fr) (Y6.setCell ⟨w.heap.size + 1 + 1, 4, none⟩ (.slice (some ⟨g4, 0, none⟩) (k + 1) cp4))) := CS6.out.1
          obtain ⟨YZ, hYZ⟩ : ∃ Z, Z = Y6.setCell ⟨w.heap.size + 1 + 1, 4, none⟩ (.slice (some ⟨g4, 0, none⟩) (k + 1) cp4) := ⟨_, rfl⟩
          rw [← hYZ] at HF ⊢
          clear hYZ CS6
          go_wp2
          go_roundw
          case rel => exact ⟨k + 1, _, _, _, by omega, by go_num, HF.out⟩
          case measure => simp [intOf]; omega
        case s13 =>
          intro K hK
          have bl : Below Y4.heap.size Y4 (Y4.alloc (.cells ds 36)) := (Below.refl _ _).alloc (Nat.le_refl _) _
          have CS7 : Hid (CopyG w #[.int .i64 x.id, .int .i64 x.epoch, .bool x.live, .int .i64 x.granted, .slice (some ⟨b, off, none⟩) n1 c1, .slice a2 n2 c2, .int .i64 x.next] x p2 l2 k2 G2 w1.heap.size k v vs GG (Y4.alloc (.cells ds 36))) := CS4.out.below bl
          have RR7 : Hid (RdIt (Y4.alloc (.cells ds 36)) (.agg ds) y Fr ∧ Own Y0.heap.size (Y4.alloc (.cells ds 36)) Fr ∧ ds.size = 11 ∧ ds.all (·.oneCell') = true) := ⟨RR4.out.1.below bl, RR4.out.2.1.below RR4.out.1.lt bl, RR4.out.2.2⟩
          have NW7 : Hid (∀ j u, ds.toList[j]? = some u → ((Y4.alloc (.cells ds 36))).cell? ((⟨Y4.heap.size, 0, none⟩ : Addr).add j) = some u) := news_lit _ _ _
          refine op_turn (.slice (some ⟨Y4.heap.size, 0, none⟩) 1 1) (Y4.alloc (.cells ds 36)) rfl (by obtain ⟨_, _, _, _, _, _, _, _, _, ev⟩ := RdIt.cells11 RR7.out.1; injection ev with ev; rw [ev]; kernel_rfl) ⟨_, by simp [Act.put]; rfl, hK _ _ ⟨⟨CS7.out.three.box, CS7.out.three.bel⟩, ?_⟩⟩
          clear hK bl
          obtain ⟨L7, hL7⟩ : ∃ z, z = Y4.heap.size := ⟨_, rfl⟩
          obtain ⟨Y7, hY7⟩ : ∃ Z, Z = (Y4.alloc (.cells ds 36)) := ⟨_, rfl⟩
          rw [← hY7, ← hL7] at NW7
          rw [← hY7] at CS7 RR7 ⊢
          rw [← hL7]
          clear hY7 hL7
          refine onlyH (o := ?o18) 1 (by kernel_rfl) ?h18 ?r18
          case h18 => simp only [aT, aS, aZ]; rfl
          intro K hK
          have co := CS7.out.three.loc.cell 4
          simp only [aT, aS, aZ] at co
          refine op_value v rfl (by go_simp) ⟨_, by simp [Act.put]; rfl, hK _ _ ⟨⟨CS7.out.three.box, CS7.out.three.bel⟩, ?_⟩⟩
          clear hK co
          refine onlyH (o := ?o19) 9 (by kernel_rfl) ?h19 ?r19
          case h19 => simp only [aT, aS, aZ]; rfl
          intro K hK
          refine op_append Y7 rfl _ _ 24 rfl w1.heap.size 36 j0 (.agg #[.int .i64 0, .int .i64 0, .int .i64 0, .int .i64 0, .int .i64 0, .int .i64 0, .int .i64 0, .int .i64 0, .slice none 0 0, .slice none 0 0, .slice none 0 0]) 11 136 Try.underlying24 hj hy0 hy1 hy2 rfl (by decide) v k vs rfl CS7.out.grow.row ⟨L7, 0, none⟩ 1 1 ds.toList rfl (by rw [Array.length_toList, RR7.out.2.2.1]) NW7.out (fun u hu => (Array.all_eq_true_iff_forall_mem.1 RR7.out.2.2.2) u (by simpa using hu)) (by decide) (by unfold maxLen; omega) (by omega) CS7.out.grow.lw _ rfl ?_
          intro g4 cp4 Y8 hown hgrow hat _
          have GS := CS7.out.grow.step HY.out.1 RR7.out.1 RR7.out.2.2.1 RR7.out.2.1 HLim.out.1 HLim.out.2.1 HLim.out.2.2 hown hgrow hat
          have ST := CS7.out.step hgrow GS
          have CS8 : Hid (CopyG w #[.int .i64 x.id, .int .i64 x.epoch, .bool x.live, .int .i64 x.granted, .slice (some ⟨b, off, none⟩) n1 c1, .slice a2 n2 c2, .int .i64 x.next] x p2 l2 k2 G2 w1.heap.size (k + 1) (.slice (some ⟨g4, 0, none⟩) (k + 1) cp4) (vs ++ ds.toList) (GG ++ Fr) (Y8.setCell ⟨w.heap.size + 1 + 1, 4, none⟩ (.slice (some ⟨g4, 0, none⟩) (k + 1) cp4)) ∧ Blk Y8 w.heap.size #[.int .i64 x.id, .int .i64 x.epoch, .bool x.live, .int .i64 x.granted, .slice (some ⟨b, off, none⟩) n1 c1, .slice a2 n2 c2, .int .i64 x.next] 27 ∧ Below w.heap.size w Y8) := ⟨ST.1, ST.2.1, ST.2.2.1⟩
          have co := ST.2.2.2.cell 4
          have fo := ST.2.2.2.frozen 4
          simp only [aT, aS, aZ] at co
          refine ⟨_, by simp [Act.put]; rfl, hK _ _ ⟨CS8.out.2, ?_⟩⟩
          clear hK hown hgrow hat ST GS
          refine takeH (o := ?o20) 10 (.pointer (some ⟨w.heap.size + 1 + 1, 4, none⟩)) ?h20 ?r20
          case h20 => simp only [aT, aS, aZ]; rfl
          refine ⟨_, by simp [Act.put]; rfl, by kernel_rfl, by kernel_rfl, by kernel_rfl, fun _ _ _ h => h, (.inl ⟨rfl, fun W _ => by kernel_rfl⟩), CS8.out.2, ?_⟩
          refine onlyH (o := ?o21) 11 (by kernel_rfl) ?h21 ?r21
          case h21 => simp only [aT, aS, aZ]; rfl
          intro K hK
          refine op_skip (Y8.setCell ⟨w.heap.size + 1 + 1, 4, none⟩ (.slice (some ⟨g4, 0, none⟩) (k + 1) cp4)) rfl (by go_simp) ⟨_, by simp [Act.put]; rfl, hK _ _ ⟨⟨CS8.out.1.three.box, CS8.out.1.three.bel⟩, ?_⟩⟩
          clear hK co fo
          refine wpAnyH_done (by kernel_rfl) ?_ _
          have HF : Hid (CopyG w #[.int .i64 x.id, .int .i64 x.epoch, .bool x.live, .int .i64 x.granted, .slice (some ⟨b, off, none⟩) n1 c1, .slice a2 n2 c2, .int .i64 x.next] x p2 l2 k2 G2 w1.heap.size (k + 1) (.slice (some ⟨g4, 0, none⟩) (k + 1) cp4) (vs ++ ds.toList) (GG ++ Fr) (Y8.setCell ⟨w.heap.size + 1 + 1, 4, none⟩ (.slice (some ⟨g4, 0, none⟩) (k + 1) cp4))) := CS8.out.1
          obtain ⟨YZ, hYZ⟩ : ∃ Z, Z = Y8.setCell ⟨w.heap.size + 1 + 1, 4, none⟩ (.slice (some ⟨g4, 0, none⟩) (k + 1) cp4) := ⟨_, rfl⟩
          rw [← hYZ] at HF ⊢
          clear hYZ CS8
          go_wp2
          go_roundw
          case rel => exact ⟨k + 1, _, _, _, by omega, by go_num, HF.out⟩
          case measure => simp [intOf]; omega
    · obtain rfl : k = n1 := by omega
      obtain ⟨q1, d1, F1, rfl, rL, oL, hcp⟩ := CSS.out.grow.done HL.out.2.2
      have HE : Hid (Three w #[.int .i64 x.id, .int .i64 x.epoch, .bool x.live, .int .i64 x.granted, .slice a1 k c1, .slice a2 n2 c2, .int .i64 x.next] 27 #[.int .i64 0, .int .i64 0, .bool false, .int .i64 0, .slice none 0 0, .slice none 0 0, .int .i64 0] #[.int .i64 x.id, .int .i64 x.epoch, .bool x.live, .int .i64 x.granted, .slice q1 k d1, .slice p2 l2 k2, .int .i64 x.next] 27 wr ∧ RdL itK wr q1 k x.sealed F1 ∧ Own w1.heap.size wr F1 ∧ RdP wr p2 l2 x.taken G2 ∧ Own (w.heap.size + 3) wr G2 ∧ (∀ b ∈ F1, b ∉ G2) ∧ Capd q1 k d1 ∧ Capd p2 l2 k2) := ⟨CSS.out.three, rL, oL, CSS.out.r2, CSS.out.o2, fun b hb hx => by have h1 := oL.ge b hb; have h2 := CSS.out.lt b hx; omega, hcp, HG1.out.2.2⟩
      have HGW : Hid (GrowL itK 36 x.sealed w1.heap.size k (.slice q1 k d1) vs GG wr ∧ w.heap.size + 3 ≤ w1.heap.size ∧ ∀ b ∈ G2, b < w1.heap.size) := ⟨CSS.out.grow, hz1, CSS.out.lt⟩
      clear rL oL hcp CSS
      have hI : ¬ (k : Int) < (k : Int) := by omega
      go_wp2_with (first | go_skip | (with_reducible refine stopLoad 27 rfl ?_))
      refine load_known 27 (w.heap.size + 1 + 1) _ 27 _ HE.out.1.loc rfl rfl rfl Try.underlying27 rfl infoAgC8 ?_
      go_wp2_with (first | go_skip | (with_reducible refine stopStore 27 rfl ?_))
      refine store_known 27 (w.heap.size + 1) _ #[.int .i64 x.id, .int .i64 x.epoch, .bool x.live, .int .i64 x.granted, .slice q1 k d1, .slice p2 l2 k2, .int .i64 x.next] 27 HE.out.1.res rfl rfl rfl rfl infoAgC8 rfl (by simp [Value.oneCell']) ?_
      go_wp2
      refine bodyPost_ret (results_cell_row Try.results43 _ _ (w.heap.size + 1) _ _ (0, 0) _ rfl HE.out.1.res.setRow Try.underlying27 rfl infoAgC8) rfl ?_
      have nr : w.heap.size + 1 ∉ F1 := fun hx => by have := HE.out.2.2.1.ge _ hx; omega
      have mr : w.heap.size + 1 ∉ G2 := fun hx => by have := HE.out.2.2.2.2.1.ge _ hx; omega
      have hk' := HL.out.2.2
      subst hk'
      exact ⟨q1, d1, p2, l2, k2, F1, G2, w1.heap.size, vs, GG, rfl, HE.out.2.1.agree (Agree.row nr _), HE.out.2.2.2.1.agree (Agree.row mr _), HE.out.2.2.2.2.2.2.1, HE.out.2.2.2.2.2.2.2, (HE.out.2.2.1.agree (Agree.row nr _)).mono (by omega), (HE.out.2.2.2.2.1.agree (Agree.row mr _)).mono (by omega), HE.out.2.2.2.2.2.1, below_setRow HE.out.1.bel (by omega) _, HGW.out.1.setRow (by have := HGW.out.2.1; omega), by have := HGW.out.2.1; omega, HGW.out.2.2⟩
set_option maxRecDepth 200000 in
theorem l8Copy_any (v : Value) (x : Ag) (F0 G0 : List Nat) (w : World) (h : RdAg w v x F0 G0) (hf : ∀ y ∈ x.sealed, y.sk.fits) (hs : x.sealed.length ≤ 1048576) (hp : x.taken.length ≤ 1048576) :
    Calls Try.prog 43 #[v] w fun e w' => NewAg w x e w' :=
  (l8Copy_grow v x F0 G0 w h hf hs hp).mono fun e w' h => by
    obtain ⟨q1, k1, q2, l2, k2, F, G, lo, vs, GG, rfl, r1, r2, c1, c2, o1, o2, ap, b, _⟩ := h
    exact ⟨_, F, G, rfl, ⟨q1, _, k1, q2, l2, k2, rfl, r1, r2, c1, c2⟩, o1, o2, ap, b⟩
end Go.Proofs.Ytgkbhhlkaifnoaa
/- The walks through the model's SetJoin. No statement of the seat is proved here. -/
namespace Go.Proofs.Ytgkbhhlkaifnoaa
open Go.RowKit
theorem Sp.at_mem {ps : Sp} {k : Nat} (hk : k < ps.length) : ps.at k ∈ ps := by
  unfold Sp.at
  rw [List.getElem?_eq_getElem hk]
  exact List.getElem_mem hk
theorem put_inb : ∀ {ps : Sp} {x : Int × Int} {d : Bool}, (∀ p ∈ ps, InB p) → InB x → ∀ p ∈ put ps x d, InB p
  | [], x, d, _, hx, p, hp => by
    cases d <;> simp [put] at hp
    subst hp; exact hx
  | q :: ps, x, d, h, hx, p, hp => by
    have hq := h q (by simp)
    have hr : ∀ p ∈ ps, InB p := fun p hp => h p (by simp [hp])
    rw [put] at hp
    split at hp
    · rcases List.mem_cons.1 hp with rfl | hp
      · exact hq
      · exact put_inb hr hx p hp
    · split at hp
      · rcases List.mem_append.1 hp with hp | hp
        · cases d <;> simp at hp
          subst hp; exact hx
        · rcases List.mem_cons.1 hp with rfl | hp
          · exact hq
          · exact put_inb hr hx p hp
      · exact put_inb hr (by unfold InB at hq hx ⊢; simp only; omega) p hp
def joinTo (ps qs : Sp) (k : Nat) : Sp := (qs.take k).foldl (fun o q => put o q false) ps
def Sp.join (ps qs : Sp) : Sp := if (ps.ok && qs.ok) = true then joinTo ps qs qs.length else []
end Go.Proofs.Ytgkbhhlkaifnoaa
/- The walk through the model's AgentHear. No statement of the seat is proved here. -/
namespace Go.Proofs.Ytgkbhhlkaifnoaa
open Go.RowKit
def NewAg2 (w : World) (z : Ag × Int) (e : Ending) (w' : World) : Prop := ∃ v F G c, e = .returned (.tuple #[v, .int .i64 c]) ∧ RdAg w' v z.1 F G ∧ c = z.2 ∧ Own w.heap.size w' F ∧ Own w.heap.size w' G ∧ (∀ b ∈ F, b ∉ G) ∧ Below w.heap.size w w'
section
variable {P : Program} {ops : Array Oper} {Q : Exit → Act → World → Prop} {a : Act} {w : World} {o : Oper} {rest : List Oper} {x y : Operand}
theorem load_knownw8 (ty : TypeId) (g : Nat) (cells : Array Value) (t : TypeId) (d : TypeDesc) (hg : Blk w g cells t) (hw : Region.wanted o (yielded ops a.tmps) = true) (ho : o.op = .load ty x) (hx : a.eval x = .pointer (some ⟨g, 0, none⟩))
    (hu : P.underlying ty = some d) (hd : (match d with | .struct _ | .array _ _ => true | _ => false) = true) (hi : (P.info? ty).map (·.size) = some cells.size)
    (h : wpList P ops Q rest (a.put o.dst (.agg cells)) w) : Stop (wpList P ops Q (o :: rest) a w) := by
  refine wpList_step fun K hK => ?_
  rw [if_pos hw]
  unfold Oper.wp execOp
  simp only [ho, hx, Instr.loadAt, Instr.sureAddr, Sem.run_bind, Sem.run_pure, Result.andThen_ok, run_loadVar_row w g t ty cells (0, 0) d hg hu hd hi]
  exact hK _ _ h
end
structure HearW (w : World) (A B : Array Value) (L : Nat) (C : Array Value) (W : World) : Prop where
  box : Blk W w.heap.size A 27
  fr : Blk W (w.heap.size + 1) B 38
  res : Blk W (w.heap.size + 1 + 1) #[.int .i64 0, .int .i64 0, .bool false, .int .i64 0, .slice none 0 0, .slice none 0 0, .int .i64 0] 27
  loc : Blk W L C 27
  bel : Below w.heap.size w W
  ord : w.heap.size + 1 + 1 < L
theorem HearW.below {w W W' : World} {A B C : Array Value} {L : Nat} (h : HearW w A B L C W) (b : Below W.heap.size W W') : HearW w A B L C W' := ⟨h.box.below b, h.fr.below b, h.res.below b, h.loc.below b, Below.next h.bel b, h.ord⟩
theorem HearW.set {w W : World} {A B C : Array Value} {L : Nat} (h : HearW w A B L C W) (j : Nat) (v : Value) : HearW w A B L (C.setIfInBounds j v) (W.setCell ⟨L, j, none⟩ v) := by
  have o := h.ord
  have b : Below w.heap.size w (W.setCell ⟨L, j, none⟩ v) := h.bel.setCell (by show w.heap.size ≤ L; omega) v
  exact ⟨h.box.setOther (by omega) j v, h.fr.setOther (by omega) j v, h.res.setOther (by omega) j v, h.loc.set j v, b, o⟩
end Go.Proofs.Ytgkbhhlkaifnoaa
