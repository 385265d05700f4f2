/- The walk through the model's copying of a summary. No statement of the seat is proved here. -/
import Derived.Test.YtjndcfamfminkaqTallyB
import Derived.Test.YtjndcfamfminkaqSkSum
import Derived.Test.YtjndcfamfminkaqTallyS
import Derived.Test.YtjndcfamfminkaqDrawSk
import Derived.Test.YtjndcfamfminkaqSkRoom
namespace Go.Proofs.Ytjndcfamfminkaq
open Go.RowKit
/-- Each list has something, and none is too long. -/
structure Sk.full (s : Sk) : Prop where
  hist : 0 < s.hist.length ∧ s.hist.length ≤ 1048576
  regs : 0 < s.regs.length ∧ s.regs.length ≤ 1048576
  rows : s.rows.length ≤ 1048576
  row : ∀ z ∈ s.rows, 0 < z.length ∧ z.length ≤ 1048576
section
variable {P : Program} {ops : Array Oper} {Q : Exit → Act → World → Prop} {rest : List Oper} {a : Act} {w : World} {x y : Operand} {o : Oper}
theorem stopAppend {ts : Array TypeId} (_ho : o.op = .call { callee := .builtin .append, args := #[x, y], argTypes := ts }) (h : Stop (wpList P ops Q (o :: rest) a w)) : wpList P ops Q (o :: rest) a w := h
end
theorem RdI.addr {w : World} {a : Option Addr} {n : Nat} {zs : List Int} {F : List Nat} (h : RdI w a n zs F) (hp : 0 < n) : ∃ b off, a = some ⟨b, off, none⟩ := by
  rcases h.cells with ⟨h0, _⟩ | ⟨b, off, _, e, _⟩
  · omega
  · exact ⟨b, off, e⟩
theorem RdI.from {w W : World} {b off n : Nat} {zs : List Int} {F : List Nat} (h : RdI w (some ⟨b, off, none⟩) n zs F) (hb : Below w.heap.size w W) (hp : 0 < n) : ∀ j v, (zs.map (Value.int .i64))[j]? = some v → W.cell? ((⟨b, off, none⟩ : Addr).add j) = some v := by
  obtain ⟨ad, e, hs⟩ := h.src hb hp
  cases e
  exact hs
theorem room_of_own {W : World} {lo n k : Nat} {a : Option Addr} {xs : List Value} {zs : List Int} {F : List Nat} (h : W.ownsRow lo 3 1 (.slice a n k) n xs) (r : RdI W a n zs F) (hn : 0 < n) : RoomS W a n k F := by
  rcases r.cells with ⟨h0, _⟩ | ⟨b, off, _, rfl, rfl, _⟩
  · omega
  · exact ⟨b, off, rfl, rfl, Room.of_own hn h⟩
/-- The value has room behind its first list, and its rows' capacity is no less than their number. -/
def Roomy (W : World) (v : Value) : Prop := ∃ x0 x1 x2 x3 a1 n1 k1 F x5 a3 n3 k3, v = .agg #[x0, x1, x2, x3, .slice a1 n1 k1, x5, .slice a3 n3 k3] ∧ RoomS W a1 n1 k1 F ∧ n3 ≤ k3
theorem Roomy.below {W W' : World} {v : Value} (h : Roomy W v) (hb : Below W.heap.size W W') : Roomy W' v := by
  obtain ⟨x0, x1, x2, x3, a1, n1, k1, F, x5, a3, n3, k3, e, r, k⟩ := h
  exact ⟨x0, x1, x2, x3, a1, n1, k1, F, x5, a3, n3, k3, e, r.below hb, k⟩
/-- A summary and its room. -/
structure RdR (W : World) (v : Value) (s : Sk) (F : List Nat) : Prop where
  sk : RdSk W v s F
  rm : ∃ x0 x1 x2 x3 a1 n1 k1 F' x5 a3 n3 k3, v = .agg #[x0, x1, x2, x3, .slice a1 n1 k1, x5, .slice a3 n3 k3] ∧ RoomS W a1 n1 k1 F' ∧ (∀ b ∈ F', b ∈ F) ∧ n3 ≤ k3
theorem RdR.cells {W : World} {v : Value} {s : Sk} {F : List Nat} (h : RdR W v s F) : ∃ cs, v = .agg cs ∧ cs.size = 7 ∧ cs.all (·.oneCell') = true := h.sk.cells
theorem RdR.lt {W : World} {v : Value} {s : Sk} {F : List Nat} (h : RdR W v s F) : ∀ b ∈ F, b < W.heap.size := h.sk.lt
theorem RdR.agree {W W' : World} {v : Value} {s : Sk} {F : List Nat} (h : RdR W v s F) (g : Agree W W' F) : RdR W' v s F := by
  obtain ⟨x0, x1, x2, x3, a1, n1, k1, F', x5, a3, n3, k3, e, r, m, k⟩ := h.rm
  exact ⟨h.sk.agree g, x0, x1, x2, x3, a1, n1, k1, F', x5, a3, n3, k3, e, r.agree (fun b hb => g b (m b hb)), m, k⟩
theorem RdR.below {W W' : World} {v : Value} {s : Sk} {F : List Nat} (h : RdR W v s F) (b : Below W.heap.size W W') : RdR W' v s F := h.agree (fun j hj => b.block j (h.lt j hj))
theorem RdR.room {W : World} {v : Value} {s : Sk} {F : List Nat} (h : RdR W v s F) : Roomy W v := by
  obtain ⟨x0, x1, x2, x3, a1, n1, k1, F', x5, a3, n3, k3, e, r, _, k⟩ := h.rm
  exact ⟨x0, x1, x2, x3, a1, n1, k1, F', x5, a3, n3, k3, e, r, k⟩
/-- What one append onto a new, empty row leaves. -/
theorem fresh_list {W w' : World} {v : Value} {n : Nat} {zs : List Int} (hown : w'.ownsRow W.heap.size 3 1 v (0 + n) ([] ++ zs.map (Value.int .i64))) (hgrow : (W.alloc (.cells #[] 3)).grownBy w' (some W.heap.size)) :
    ∃ a c F, v = .slice a n c ∧ RdI w' a n zs F ∧ Own W.heap.size w' F ∧ Below W.heap.size W w' ∧ (0 < n → RoomS w' a n c F) := by
  rw [Nat.zero_add, List.nil_append] at hown
  obtain ⟨a, c, F, e, h1, h2⟩ := rdI_of_own hown
  exact ⟨a, c, F, e, h1, h2, ((Below.refl W.heap.size W).alloc (Nat.le_refl _) _).grown hgrow (by simp) (fun k hk => by simp at hk; omega), fun hn => room_of_own (e ▸ hown) h1 hn⟩
/-- In the midst of a copying: k rows are done. -/
structure CopySt (w : World) (A : Array Value) (s : Sk) (x1 x2 : Value) (a1 a2 : Option Addr) (n1 n2 d1 d2 : Nat) (F1 F2 : List Nat) (lo k : Nat) (v : Value) (vs : List Value) (G : List Nat) (W : World) : Prop where
  three : Three w A 29 #[.int .i64 0, .int .i64 0, .int .i64 0, .int .i64 0, .slice none 0 0, .slice none 0 0, .slice none 0 0] #[.int .i64 s.count, .int .i64 s.sum, .int .i64 s.min, .int .i64 s.max, .slice a1 n1 d1, .slice a2 n2 d2, v] 29 W
  r1 : RdI W a1 n1 s.hist F1
  r2 : RdI W a2 n2 s.regs F2
  own : Own (w.heap.size + 3) W (F1 ++ F2)
  lt : ∀ b ∈ F1 ++ F2, b < lo
  row : W.ownsRow lo 22 1 v k vs
  rd : RdS W ((s.rows.take k).map ints) vs G
  og : Own lo W G
  ap : ∀ b, v.ownBlock = some b → b ∉ G
  big : w.heap.size + 3 ≤ lo
  lw : lo ≤ W.heap.size
  rm : RoomS W a1 n1 d1 F1
/-- The argument's box lies there, and nothing elder has changed. -/
def CopyS (w : World) (A : Array Value) (W : World) : Prop := Blk W w.heap.size A 29 ∧ Below w.heap.size w W
theorem copyS_below {w : World} {A : Array Value} {W W' : World} (h : CopyS w A W) (b : Below W.heap.size W W') : CopyS w A W' := ⟨h.1.below b, Below.next h.2 b⟩
section
variable {P : Program} (w : World)
theorem op_append {ops : Array Oper} {o : Oper} {a : Act} {K : Act → World → Prop} {Q : Exit → Act → World → Prop} {E : Prop} (hgd : o.guard = none) (s x : Operand) (t : TypeId)
    (ho : o.op = .call { callee := .builtin .append, args := #[s, x], argTypes := #[t, t] })
    (base : Nat) (e : TypeId) (i : TypeInfo) (z : Value) (size bytes : Nat) (ht : P.underlying t = some (.slice e)) (hi : P.info? e = some i) (hz : i.zero = some z)
    (hsize : i.size = size) (hby : i.bytes = bytes) (hzs : z.cells.size = size) (hsz : 0 < size)
    (v : Value) (n : Nat) (xs : List Value) (hs : a.eval s = v) (hown : w.ownsRow base e size v n xs)
    (ad : Addr) (m c : Nat) (news : List Value) (hx : a.eval x = .slice (some ad) m c) (hl : news.length = m * size) (hnews : ∀ j u, news[j]? = some u → w.cell? (ad.add j) = some u) (h1 : ∀ u ∈ news, u.oneCell' = true)
    (hm : 0 < m) (h63 : n + m ≤ maxLen) (hbytes : (n + m) * bytes ≤ 140737488355328) (hbase : base ≤ w.heap.size) (H : Nat) (hH : w.heap.size = H)
    (h : ∀ g cap w', w'.ownsRow base e size (.slice (some ⟨g, 0, none⟩) (n + m) cap) (n + m) (xs ++ news) → w.grownBy w' v.ownBlock → (v.ownBlock = some g ∨ g = H) → g < w'.heap.size → ∃ a', a.put o.dst (.slice (some ⟨g, 0, none⟩) (n + m) cap) = a' ∧ K a' w') :
    if Region.wanted o (yielded ops a.tmps) = true then Oper.wp P o a w K Q else E :=
  step_append_lies w hgd s x t ho base e i z size bytes ht hi hz hsize hby hzs hsz v n xs hs hown ad m c news hx hl hnews h1 hm h63 hbytes hbase H hH (fun g cap w' p1 p2 p3 p4 => by obtain ⟨_, rfl, hk⟩ := h g cap w' p1 p2 p3 p4; exact hk)
end
section
variable {w W W' : World} {A : Array Value} {s : Sk} {x1 x2 : Value} {a1 a2 : Option Addr} {n1 n2 d1 d2 : Nat} {F1 F2 : List Nat} {lo k : Nat} {v : Value} {vs : List Value} {G : List Nat}
theorem CopySt.below (h : CopySt w A s x1 x2 a1 a2 n1 n2 d1 d2 F1 F2 lo k v vs G W) (b : Below W.heap.size W W') : CopySt w A s x1 x2 a1 a2 n1 n2 d1 d2 F1 F2 lo k v vs G W' :=
  ⟨h.three.below b, h.r1.below b, h.r2.below b, h.own.below (fun x hx => (List.mem_append.1 hx).elim (h.r1.lt x) (h.r2.lt x)) b, h.lt, ownsRow_below h.row b, h.rd.below b, h.og.below h.rd.lt b, h.ap, h.big, Nat.le_trans h.lw b.size, h.rm.below b⟩
theorem CopySt.step (h : CopySt w A s x1 x2 a1 a2 n1 n2 d1 d2 F1 F2 lo k v vs G W) {g3 nk cp3 g4 cp4 L : Nat} {Fk : List Nat} (rk : RdI W (some ⟨g3, 0, none⟩) nk (s.rows.getD k []) Fk) (ok : Own L W Fk) (ltG : ∀ b ∈ G, b < L) (ltv : ∀ b, v.ownBlock = some b → b < L) (hL : lo ≤ L)
    (hown : W'.ownsRow lo 22 1 (.slice (some ⟨g4, 0, none⟩) (k + 1) cp4) (k + 1) (vs ++ [.slice (some ⟨g3, 0, none⟩) nk cp3])) (hgrow : W.grownBy W' v.ownBlock) (hat : v.ownBlock = some g4 ∨ g4 = W.heap.size) (hk : k < s.rows.length) :
    CopySt w A s x1 x2 a1 a2 n1 n2 d1 d2 F1 F2 lo (k + 1) (.slice (some ⟨g4, 0, none⟩) (k + 1) cp4) (vs ++ [.slice (some ⟨g3, 0, none⟩) nk cp3]) (G ++ Fk) (W'.setCell ⟨w.heap.size + 1 + 1, 6, none⟩ (.slice (some ⟨g4, 0, none⟩) (k + 1) cp4)) ∧ CopyS w A W' ∧
      W'.cell? ⟨w.heap.size + 1 + 1, 6, none⟩ = some v ∧ W'.frozen? ⟨w.heap.size + 1 + 1, 6, none⟩ = false := by
  have big := h.big
  have blk : ∀ b, b < W.heap.size → ¬ v.ownBlock = some b → W'.heap[b]? = W.heap[b]? := fun b hb hn => hgrow.block b hb (fun e => hn e.symm)
  have vge : ∀ b, v.ownBlock = some b → lo ≤ b := fun b hb => (h.row.lt b hb).1
  have bx := h.three.box.agree (blk _ h.three.box.lt (fun e => by have := vge _ e; omega))
  have rs := h.three.res.agree (blk _ h.three.res.lt (fun e => by have := vge _ e; omega))
  have lc := h.three.loc.agree (blk _ h.three.loc.lt (fun e => by have := vge _ e; omega))
  have bel : Below w.heap.size w W' := h.three.bel.grown hgrow h.three.bel.size (fun b hb => by have := vge b hb; omega)
  have T : Three w A 29 #[.int .i64 0, .int .i64 0, .int .i64 0, .int .i64 0, .slice none 0 0, .slice none 0 0, .slice none 0 0] #[.int .i64 s.count, .int .i64 s.sum, .int .i64 s.min, .int .i64 s.max, .slice a1 n1 d1, .slice a2 n2 d2, v] 29 W' := ⟨bx, rs, lc, bel⟩
  have no : ∀ b ∈ F1 ++ F2 ++ (G ++ Fk), b ≠ w.heap.size + 1 + 1 := fun b hb e => by
    rcases List.mem_append.1 hb with hb | hb
    · have := h.own.ge b hb; omega
    · rcases List.mem_append.1 hb with hb | hb
      · have := h.og.ge b hb; omega
      · have := ok.ge b hb; omega
  have agF : Agree W (W'.setCell ⟨w.heap.size + 1 + 1, 6, none⟩ (.slice (some ⟨g4, 0, none⟩) (k + 1) cp4)) (F1 ++ F2) := Agree.thenSet (fun b hb => blk b ((List.mem_append.1 hb).elim (h.r1.lt b) (h.r2.lt b)) (fun e => by have := vge _ e; have := h.lt b hb; omega)) (fun hx => no _ (List.mem_append_left _ hx) rfl) _ _
  have agG : Agree W (W'.setCell ⟨w.heap.size + 1 + 1, 6, none⟩ (.slice (some ⟨g4, 0, none⟩) (k + 1) cp4)) (G ++ Fk) := Agree.thenSet (fun b hb => blk b ((List.mem_append.1 hb).elim (h.rd.lt b) (rk.lt b)) (fun e => (List.mem_append.1 hb).elim (h.ap b e) (fun hf => by have := ok.ge b hf; have := ltv b e; omega))) (fun hx => no _ (List.mem_append_right _ hx) rfl) _ _
  have hgw : w.heap.size + 1 + 1 < W'.heap.size := lc.lt
  have rowS : (W'.setCell ⟨w.heap.size + 1 + 1, 6, none⟩ (.slice (some ⟨g4, 0, none⟩) (k + 1) cp4)).ownsRow lo 22 1 (.slice (some ⟨g4, 0, none⟩) (k + 1) cp4) (k + 1) (vs ++ [.slice (some ⟨g3, 0, none⟩) nk cp3]) :=
    own_keep hown (grown_set W' (w.heap.size + 1 + 1) 6 _) (by omega)
  refine ⟨⟨T.set 6 _, h.r1.agree agF.left, h.r2.agree agF.right, h.own.agree agF, h.lt, rowS, ?_, ?_, ?_, h.big, ?_, h.rm.agree agF.left⟩, ⟨bx, bel⟩, by rw [lc.cell]; rfl, lc.frozen 6⟩
  · rw [take_snoc s.rows [] k hk, List.map_append]
    exact (h.rd.agree agG.left).snoc (rd_ints.2 ⟨_, _, _, rfl, rk.agree agG.right⟩)
  · exact (h.og.agree agG.left).join (ok.agree agG.right) ltG hL
  · intro b hb hx
    have hb' : b = g4 := by simpa [Value.ownBlock] using hb.symm
    subst hb'
    rcases hat with e | e
    · rcases List.mem_append.1 hx with hx | hx
      · exact h.ap _ e hx
      · have := ok.ge _ hx; have := ltv _ e; omega
    · rcases List.mem_append.1 hx with hx | hx
      · have := h.rd.lt _ hx; omega
      · have := rk.lt _ hx; omega
  · have := hgrow.size; have := h.lw; simp; omega
theorem CopySt.rows (h : CopySt w A s x1 x2 a1 a2 n1 n2 d1 d2 F1 F2 lo k v vs G W) : ∃ a c F, v = .slice a k c ∧ RdII W a k (s.rows.take k) F ∧ Own (w.heap.size + 3) W (F1 ++ (F2 ++ F)) ∧ k ≤ c := by
  have big := h.big
  rcases h.row.2 with ⟨e, e'⟩ | ⟨g, cap, cur, e, e2, e3, e4⟩
  · subst e'
    exact ⟨none, 0, [], e, ⟨by simp, .inl ⟨rfl, rfl⟩⟩, by simpa using h.own, by omega⟩
  · subst e
    have hl : vs.length = k := by simpa using h.row.1
    have hlen := h.rd.length
    by_cases h0 : k = 0
    · subst h0
      exact ⟨_, cap, [], rfl, ⟨by simp, .inl ⟨rfl, rfl⟩⟩, by simpa using h.own, by omega⟩
    · have hm : RdM W ((s.rows.take k).map ints) g 0 G := rdM_of_own 0 h.rd (fun i hi => by rw [Nat.zero_add]; exact h.row.cellAt i (by omega))
      have hg : lo ≤ g := (h.row.lt g rfl).1
      have hgG : g ∉ G := h.ap g rfl
      have og : Own lo W (g :: G) := ⟨List.nodup_cons.2 ⟨hgG, h.og.nodup⟩, fun b hb o => (List.mem_cons.1 hb).elim (fun e => by subst e; exact h.row.frozenAt o) (fun hb => h.og.free b hb o), fun b hb => (List.mem_cons.1 hb).elim (fun e => by omega) (h.og.ge b)⟩
      refine ⟨_, cap, g :: G, rfl, ⟨by rw [List.length_map] at hlen; omega, .inr ⟨g, 0, G, by omega, rfl, rfl, hm⟩⟩, ?_, e4.1⟩
      rw [← List.append_assoc]
      exact h.own.join og h.lt h.big
end
/-- A new summary, with room. -/
def NewRoom (w : World) (s : Sk) (e : Ending) (w' : World) : Prop := ∃ v F, e = .returned v ∧ RdSk w' v s F ∧ Own w.heap.size w' F ∧ Below w.heap.size w w' ∧ Roomy w' v
theorem NewRoom.new {w w' : World} {s : Sk} {e : Ending} (h : NewRoom w s e w') : NewSk w s e w' := by
  obtain ⟨v, F, h1, h2, h3, h4, _⟩ := h
  exact ⟨v, F, h1, h2, h3, h4⟩
end Go.Proofs.Ytjndcfamfminkaq
