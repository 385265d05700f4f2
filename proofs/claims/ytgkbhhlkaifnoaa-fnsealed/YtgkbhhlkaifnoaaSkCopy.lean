/- The walk through the model's copying of a summary. No statement of the seat is proved here. -/
import Derived.Test.YtgkbhhlkaifnoaaTallyB
import Derived.Test.YtgkbhhlkaifnoaaSkSum
import Derived.Test.YtgkbhhlkaifnoaaTallyS
import Derived.Test.YtgkbhhlkaifnoaaDrawSk
import Derived.Test.YtgkbhhlkaifnoaaSkRoom
namespace Go.Proofs.Ytgkbhhlkaifnoaa
open Go.RowKit
/-- Each list has something, and none is too long. -/
structure Sk.full (s : Sk) : Prop where
 hist : 0 < s.hist.length ∧ s.hist.length ≤ 1048576
 regs : 0 < s.regs.length ∧ s.regs.length ≤ 1048576
 rows : s.rows.length ≤ 1048576
 row : ∀ z ∈ s.rows, 0 < z.length ∧ z.length ≤ 1048576
section
variable {P : Program} {ops : Array Oper} {Q : Exit → Act → World → Prop} {rest : List Oper} {a : Act} {w : World} {x y : Operand} {o : Oper}
theorem stopAppend {ts : Array TypeId} (_ho : o.op = .call { callee := .builtin .append, args := #[x, y], argTypes := ts }) (h : Stop (wpList P ops Q (o :: rest) a w)) : wpList P ops Q (o :: rest) a w := h
end
theorem RdI.addr {w : World} {a : Option Addr} {n : Nat} {zs : List Int} {F : List Nat} (h : RdI w a n zs F) (hp : 0 < n) : ∃ b off, a = some ⟨b, off, none⟩ := by
 rcases h.cells with ⟨h0, _⟩ | ⟨b, off, _, e, _⟩
 ·
  omega
 ·
  exact ⟨b, off, e⟩
theorem RdI.from {w W : World} {b off n : Nat} {zs : List Int} {F : List Nat} (h : RdI w (some ⟨b, off, none⟩) n zs F) (hb : Below w.heap.size w W) (hp : 0 < n) : ∀ j v, (zs.map (Value.int .i64))[j]? = some v → W.cell? ((⟨b, off, none⟩ : Addr).add j) = some v := by
 obtain ⟨ad, e, hs⟩ := h.src hb hp
 cases e
 exact hs
theorem room_of_own {W : World} {lo n k : Nat} {a : Option Addr} {xs : List Value} {zs : List Int} {F : List Nat} (h : W.ownsRow lo 3 1 (.slice a n k) n xs) (r : RdI W a n zs F) (hn : 0 < n) : RoomS W a n k F := by
 rcases r.cells with ⟨h0, _⟩ | ⟨b, off, _, rfl, rfl, _⟩
 ·
  omega
 ·
  exact ⟨b, off, rfl, rfl, Room.of_own hn h⟩
/-- The value has room behind its first list, and its rows' capacity is no less than their number. -/
def Roomy (W : World) (v : Value) : Prop := ∃ x0 x1 x2 x3 a1 n1 k1 F x5 a3 n3 k3, v = .agg #[x0, x1, x2, x3, .slice a1 n1 k1, x5, .slice a3 n3 k3] ∧ RoomS W a1 n1 k1 F ∧ n3 ≤ k3
theorem Roomy.below {W W' : World} {v : Value} (h : Roomy W v) (hb : Below W.heap.size W W') : Roomy W' v := by
 obtain ⟨x0, x1, x2, x3, a1, n1, k1, F, x5, a3, n3, k3, e, r, k⟩ := h
 exact ⟨x0, x1, x2, x3, a1, n1, k1, F, x5, a3, n3, k3, e, r.below hb, k⟩
/-- A summary and its room. -/
structure RdR (W : World) (v : Value) (s : Sk) (F : List Nat) : Prop where
 sk : RdSk W v s F
 rm : ∃ x0 x1 x2 x3 a1 n1 k1 F' x5 a3 n3 k3, v = .agg #[x0, x1, x2, x3, .slice a1 n1 k1, x5, .slice a3 n3 k3] ∧ RoomS W a1 n1 k1 F' ∧ (∀ b ∈ F', b ∈ F) ∧ n3 ≤ k3
theorem RdR.cells {W : World} {v : Value} {s : Sk} {F : List Nat} (h : RdR W v s F) : ∃ cs, v = .agg cs ∧ cs.size = 7 ∧ cs.all (·.oneCell') = true := h.sk.cells
theorem RdR.lt {W : World} {v : Value} {s : Sk} {F : List Nat} (h : RdR W v s F) : ∀ b ∈ F, b < W.heap.size := h.sk.lt
theorem RdR.agree {W W' : World} {v : Value} {s : Sk} {F : List Nat} (h : RdR W v s F) (g : Agree W W' F) : RdR W' v s F := by
 obtain ⟨x0, x1, x2, x3, a1, n1, k1, F', x5, a3, n3, k3, e, r, m, k⟩ := h.rm
 exact ⟨h.sk.agree g, x0, x1, x2, x3, a1, n1, k1, F', x5, a3, n3, k3, e, r.agree (fun b hb => g b (m b hb)), m, k⟩
theorem RdR.below {W W' : World} {v : Value} {s : Sk} {F : List Nat} (h : RdR W v s F) (b : Below W.heap.size W W') : RdR W' v s F := h.agree (fun j hj => b.block j (h.lt j hj))
theorem RdR.room {W : World} {v : Value} {s : Sk} {F : List Nat} (h : RdR W v s F) : Roomy W v := by
 obtain ⟨x0, x1, x2, x3, a1, n1, k1, F', x5, a3, n3, k3, e, r, _, k⟩ := h.rm
 exact ⟨x0, x1, x2, x3, a1, n1, k1, F', x5, a3, n3, k3, e, r, k⟩
/-- What one append onto a new, empty row leaves. -/
theorem fresh_list {W w' : World} {v : Value} {n : Nat} {zs : List Int} (hown : w'.ownsRow W.heap.size 3 1 v (0 + n) ([] ++ zs.map (Value.int .i64))) (hgrow : (W.alloc (.cells #[] 3)).grownBy w' (some W.heap.size)) :
 ∃ a c F, v = .slice a n c ∧ RdI w' a n zs F ∧ Own W.heap.size w' F ∧ Below W.heap.size W w' ∧ (0 < n → RoomS w' a n c F) := by
 rw [Nat.zero_add, List.nil_append] at hown
 obtain ⟨a, c, F, e, h1, h2⟩ := rdI_of_own hown
 exact ⟨a, c, F, e, h1, h2, ((Below.refl W.heap.size W).alloc (Nat.le_refl _) _).grown hgrow (by simp) (fun k hk => by simp at hk; omega), fun hn => room_of_own (e ▸ hown) h1 hn⟩
/-- In the midst of a copying: k rows are done. -/
structure CopySt (w : World) (A : Array Value) (s : Sk) (x1 x2 : Value) (a1 a2 : Option Addr) (n1 n2 d1 d2 : Nat) (F1 F2 : List Nat) (lo k : Nat) (v : Value) (vs : List Value) (G : List Nat) (W : World) : Prop where
 three : Three w A 34 #[.int .i64 0, .int .i64 0, .int .i64 0, .int .i64 0, .slice none 0 0, .slice none 0 0, .slice none 0 0] #[.int .i64 s.count, .int .i64 s.sum, .int .i64 s.min, .int .i64 s.max, .slice a1 n1 d1, .slice a2 n2 d2, v] 34 W
 r1 : RdI W a1 n1 s.hist F1
 r2 : RdI W a2 n2 s.regs F2
 own : Own (w.heap.size + 3) W (F1 ++ F2)
 lt : ∀ b ∈ F1 ++ F2, b < lo
 row : W.ownsRow lo 29 1 v k vs
 rd : RdS W ((s.rows.take k).map ints) vs G
 og : Own lo W G
 ap : ∀ b, v.ownBlock = some b → b ∉ G
 big : w.heap.size + 3 ≤ lo
 lw : lo ≤ W.heap.size
 rm : RoomS W a1 n1 d1 F1
/-- The argument's box lies there, and nothing elder has changed. -/
def CopyS (w : World) (A : Array Value) (W : World) : Prop := Blk W w.heap.size A 34 ∧ Below w.heap.size w W
theorem copyS_below {w : World} {A : Array Value} {W W' : World} (h : CopyS w A W) (b : Below W.heap.size W W') : CopyS w A W' := ⟨h.1.below b, Below.next h.2 b⟩
section
variable {P : Program} (w : World)
theorem op_append {ops : Array Oper} {o : Oper} {a : Act} {K : Act → World → Prop} {Q : Exit → Act → World → Prop} {E : Prop} (hgd : o.guard = none) (s x : Operand) (t : TypeId)
 (ho : o.op = .call { callee := .builtin .append, args := #[s, x], argTypes := #[t, t] })
 (base : Nat) (e : TypeId) (i : TypeInfo) (z : Value) (size bytes : Nat) (ht : P.underlying t = some (.slice e)) (hi : P.info? e = some i) (hz : i.zero = some z)
 (hsize : i.size = size) (hby : i.bytes = bytes) (hzs : z.cells.size = size) (hsz : 0 < size)
 (v : Value) (n : Nat) (xs : List Value) (hs : a.eval s = v) (hown : w.ownsRow base e size v n xs)
 (ad : Addr) (m c : Nat) (news : List Value) (hx : a.eval x = .slice (some ad) m c) (hl : news.length = m * size) (hnews : ∀ j u, news[j]? = some u → w.cell? (ad.add j) = some u) (h1 : ∀ u ∈ news, u.oneCell' = true)
 (hm : 0 < m) (h63 : n + m ≤ maxLen) (hbytes : (n + m) * bytes ≤ 140737488355328) (hbase : base ≤ w.heap.size) (H : Nat) (hH : w.heap.size = H)
 (h : ∀ g cap w', w'.ownsRow base e size (.slice (some ⟨g, 0, none⟩) (n + m) cap) (n + m) (xs ++ news) → w.grownBy w' v.ownBlock → (v.ownBlock = some g ∨ g = H) → g < w'.heap.size → ∃ a', a.put o.dst (.slice (some ⟨g, 0, none⟩) (n + m) cap) = a' ∧ K a' w') :
 if Region.wanted o (yielded ops a.tmps) = true then Oper.wp P o a w K Q else E :=
 step_append_lies w hgd s x t ho base e i z size bytes ht hi hz hsize hby hzs hsz v n xs hs hown ad m c news hx hl hnews h1 hm h63 hbytes hbase H hH (fun g cap w' p1 p2 p3 p4 => by obtain ⟨_, rfl, hk⟩ := h g cap w' p1 p2 p3 p4; exact hk)
end
section
variable {w W W' : World} {A : Array Value} {s : Sk} {x1 x2 : Value} {a1 a2 : Option Addr} {n1 n2 d1 d2 : Nat} {F1 F2 : List Nat} {lo k : Nat} {v : Value} {vs : List Value} {G : List Nat}
theorem CopySt.below (h : CopySt w A s x1 x2 a1 a2 n1 n2 d1 d2 F1 F2 lo k v vs G W) (b : Below W.heap.size W W') : CopySt w A s x1 x2 a1 a2 n1 n2 d1 d2 F1 F2 lo k v vs G W' :=
 ⟨h.three.below b, h.r1.below b, h.r2.below b, h.own.below (fun x hx => (List.mem_append.1 hx).elim (h.r1.lt x) (h.r2.lt x)) b, h.lt, ownsRow_below h.row b, h.rd.below b, h.og.below h.rd.lt b, h.ap, h.big, Nat.le_trans h.lw b.size, h.rm.below b⟩
theorem CopySt.step (h : CopySt w A s x1 x2 a1 a2 n1 n2 d1 d2 F1 F2 lo k v vs G W) {g3 nk cp3 g4 cp4 L : Nat} {Fk : List Nat} (rk : RdI W (some ⟨g3, 0, none⟩) nk (s.rows.getD k []) Fk) (ok : Own L W Fk) (ltG : ∀ b ∈ G, b < L) (ltv : ∀ b, v.ownBlock = some b → b < L) (hL : lo ≤ L)
 (hown : W'.ownsRow lo 29 1 (.slice (some ⟨g4, 0, none⟩) (k + 1) cp4) (k + 1) (vs ++ [.slice (some ⟨g3, 0, none⟩) nk cp3])) (hgrow : W.grownBy W' v.ownBlock) (hat : v.ownBlock = some g4 ∨ g4 = W.heap.size) (hk : k < s.rows.length) :
 CopySt w A s x1 x2 a1 a2 n1 n2 d1 d2 F1 F2 lo (k + 1) (.slice (some ⟨g4, 0, none⟩) (k + 1) cp4) (vs ++ [.slice (some ⟨g3, 0, none⟩) nk cp3]) (G ++ Fk) (W'.setCell ⟨w.heap.size + 1 + 1, 6, none⟩ (.slice (some ⟨g4, 0, none⟩) (k + 1) cp4)) ∧ CopyS w A W' ∧
  W'.cell? ⟨w.heap.size + 1 + 1, 6, none⟩ = some v ∧ W'.frozen? ⟨w.heap.size + 1 + 1, 6, none⟩ = false := by
 have big := h.big
 have blk : ∀ b, b < W.heap.size → ¬ v.ownBlock = some b → W'.heap[b]? = W.heap[b]? := fun b hb hn => hgrow.block b hb (fun e => hn e.symm)
 have vge : ∀ b, v.ownBlock = some b → lo ≤ b := fun b hb => (h.row.lt b hb).1
 have bx := h.three.box.agree (blk _ h.three.box.lt (fun e => by have := vge _ e; omega))
 have rs := h.three.res.agree (blk _ h.three.res.lt (fun e => by have := vge _ e; omega))
 have lc := h.three.loc.agree (blk _ h.three.loc.lt (fun e => by have := vge _ e; omega))
 have bel : Below w.heap.size w W' := h.three.bel.grown hgrow h.three.bel.size (fun b hb => by have := vge b hb; omega)
 have T : Three w A 34 #[.int .i64 0, .int .i64 0, .int .i64 0, .int .i64 0, .slice none 0 0, .slice none 0 0, .slice none 0 0] #[.int .i64 s.count, .int .i64 s.sum, .int .i64 s.min, .int .i64 s.max, .slice a1 n1 d1, .slice a2 n2 d2, v] 34 W' := ⟨bx, rs, lc, bel⟩
 have no : ∀ b ∈ F1 ++ F2 ++ (G ++ Fk), b ≠ w.heap.size + 1 + 1 := fun b hb e => by
  rcases List.mem_append.1 hb with hb | hb
  ·
   have := h.own.ge b hb; omega
  ·
   rcases List.mem_append.1 hb with hb | hb
   ·
    have := h.og.ge b hb; omega
   ·
    have := ok.ge b hb; omega
 have agF : Agree W (W'.setCell ⟨w.heap.size + 1 + 1, 6, none⟩ (.slice (some ⟨g4, 0, none⟩) (k + 1) cp4)) (F1 ++ F2) := Agree.thenSet (fun b hb => blk b ((List.mem_append.1 hb).elim (h.r1.lt b) (h.r2.lt b)) (fun e => by have := vge _ e; have := h.lt b hb; omega)) (fun hx => no _ (List.mem_append_left _ hx) rfl) _ _
 have agG : Agree W (W'.setCell ⟨w.heap.size + 1 + 1, 6, none⟩ (.slice (some ⟨g4, 0, none⟩) (k + 1) cp4)) (G ++ Fk) := Agree.thenSet (fun b hb => blk b ((List.mem_append.1 hb).elim (h.rd.lt b) (rk.lt b)) (fun e => (List.mem_append.1 hb).elim (h.ap b e) (fun hf => by have := ok.ge b hf; have := ltv b e; omega))) (fun hx => no _ (List.mem_append_right _ hx) rfl) _ _
 have hgw : w.heap.size + 1 + 1 < W'.heap.size := lc.lt
 have rowS : (W'.setCell ⟨w.heap.size + 1 + 1, 6, none⟩ (.slice (some ⟨g4, 0, none⟩) (k + 1) cp4)).ownsRow lo 29 1 (.slice (some ⟨g4, 0, none⟩) (k + 1) cp4) (k + 1) (vs ++ [.slice (some ⟨g3, 0, none⟩) nk cp3]) :=
  own_keep hown (grown_set W' (w.heap.size + 1 + 1) 6 _) (by omega)
 refine ⟨⟨T.set 6 _, h.r1.agree agF.left, h.r2.agree agF.right, h.own.agree agF, h.lt, rowS, ?_, ?_, ?_, h.big, ?_, h.rm.agree agF.left⟩, ⟨bx, bel⟩, by rw [lc.cell]; rfl, lc.frozen 6⟩
 ·
  rw [take_snoc s.rows [] k hk, List.map_append]
  exact (h.rd.agree agG.left).snoc (rd_ints.2 ⟨_, _, _, rfl, rk.agree agG.right⟩)
 ·
  exact (h.og.agree agG.left).join (ok.agree agG.right) ltG hL
 ·
  intro b hb hx
  have hb' : b = g4 := by simpa [Value.ownBlock] using hb.symm
  subst hb'
  rcases hat with e | e
  ·
   rcases List.mem_append.1 hx with hx | hx
   ·
    exact h.ap _ e hx
   ·
    have := ok.ge _ hx; have := ltv _ e; omega
  ·
   rcases List.mem_append.1 hx with hx | hx
   ·
    have := h.rd.lt _ hx; omega
   ·
    have := rk.lt _ hx; omega
 ·
  have := hgrow.size; have := h.lw; simp; omega
theorem CopySt.rows (h : CopySt w A s x1 x2 a1 a2 n1 n2 d1 d2 F1 F2 lo k v vs G W) : ∃ a c F, v = .slice a k c ∧ RdII W a k (s.rows.take k) F ∧ Own (w.heap.size + 3) W (F1 ++ (F2 ++ F)) ∧ k ≤ c := by
 have big := h.big
 rcases h.row.2 with ⟨e, e'⟩ | ⟨g, cap, cur, e, e2, e3, e4⟩
 ·
  subst e'
  exact ⟨none, 0, [], e, ⟨by simp, .inl ⟨rfl, rfl⟩⟩, by simpa using h.own, by omega⟩
 ·
  subst e
  have hl : vs.length = k := by simpa using h.row.1
  have hlen := h.rd.length
  by_cases h0 : k = 0
  ·
   subst h0
   exact ⟨_, cap, [], rfl, ⟨by simp, .inl ⟨rfl, rfl⟩⟩, by simpa using h.own, by omega⟩
  ·
   have hm : RdM W ((s.rows.take k).map ints) g 0 G := rdM_of_own 0 h.rd (fun i hi => by rw [Nat.zero_add]; exact h.row.cellAt i (by omega))
   have hg : lo ≤ g := (h.row.lt g rfl).1
   have hgG : g ∉ G := h.ap g rfl
   have og : Own lo W (g :: G) := ⟨List.nodup_cons.2 ⟨hgG, h.og.nodup⟩, fun b hb o => (List.mem_cons.1 hb).elim (fun e => by subst e; exact h.row.frozenAt o) (fun hb => h.og.free b hb o), fun b hb => (List.mem_cons.1 hb).elim (fun e => by omega) (h.og.ge b)⟩
   refine ⟨_, cap, g :: G, rfl, ⟨by rw [List.length_map] at hlen; omega, .inr ⟨g, 0, G, by omega, rfl, rfl, hm⟩⟩, ?_, e4.1⟩
   rw [← List.append_assoc]
   exact h.own.join og h.lt h.big
end
/-- A new summary, with room. -/
def NewRoom (w : World) (s : Sk) (e : Ending) (w' : World) : Prop := ∃ v F, e = .returned v ∧ RdSk w' v s F ∧ Own w.heap.size w' F ∧ Below w.heap.size w w' ∧ Roomy w' v
theorem NewRoom.new {w w' : World} {s : Sk} {e : Ending} (h : NewRoom w s e w') : NewSk w s e w' := by
 obtain ⟨v, F, h1, h2, h3, h4, _⟩ := h
 exact ⟨v, F, h1, h2, h3, h4⟩
set_option maxRecDepth 200000 in
set_option maxHeartbeats 8000000 in
theorem l3Copy_room (v : Value) (s : Sk) (F : List Nat) (w : World) (h : RdSk w v s F) (hf : s.full) :
 Calls Try.prog 58 #[v] w fun e w' => NewRoom w s e w' := by
 obtain ⟨i0, hi, hz0, hz1, hz2⟩ := info_parts infoInt
 obtain ⟨j0, hj, hy0, hy1, hy2⟩ := info_parts infoInts
 obtain ⟨a1, n1, c1, a2, n2, c2, a3, n3, c3, F1, F2, F3, rfl, h1, h2, h3, _⟩ := h
 have l1 := h1.length
 have l2 := h2.length
 have l3 := h3.length
 have hn1 : 0 < n1 ∧ n1 ≤ 1048576 := by rw [← l1]; exact hf.hist
 have hn2 : 0 < n2 ∧ n2 ≤ 1048576 := by rw [← l2]; exact hf.regs
 have hn3 : n3 ≤ 1048576 := by rw [← l3]; exact hf.rows
 obtain ⟨p1, q1, rfl⟩ := h1.addr hn1.1
 obtain ⟨p2, q2, rfl⟩ := h2.addr hn2.1
 have HR : Hid (RdI w (some ⟨p1, q1, none⟩) n1 s.hist F1 ∧ RdI w (some ⟨p2, q2, none⟩) n2 s.regs F2 ∧ RdII w a3 n3 s.rows F3 ∧ s.full) := ⟨h1, h2, h3, hf⟩
 have HL : Hid (s.hist.length = n1 ∧ s.regs.length = n2 ∧ s.rows.length = n3) := ⟨l1, l2, l3⟩
 clear h1 h2 h3 hf l1 l2 l3
 have HT0 : Hid (Three w _ _ _ _ _ _) := Three.made w #[.int .i64 s.count, .int .i64 s.sum, .int .i64 s.min, .int .i64 s.max, .slice (some ⟨p1, q1, none⟩) n1 c1, .slice (some ⟨p2, q2, none⟩) n2 c2, .slice a3 n3 c3] 34 #[.int .i64 0, .int .i64 0, .int .i64 0, .int .i64 0, .slice none 0 0, .slice none 0 0, .slice none 0 0] #[.int .i64 s.count, .int .i64 s.sum, .int .i64 s.min, .int .i64 s.max, .slice (some ⟨p1, q1, none⟩) n1 c1, .slice (some ⟨p2, q2, none⟩) n2 c2, .slice a3 n3 c3] 34
 go_enter Try.func58, Try.ntmps58
 go_wp2_with (with_reducible refine stopAppend rfl ?_)
 obtain ⟨W2, hW2⟩ : ∃ W2, W2 = ((w.alloc (.cells #[.int .i64 s.count, .int .i64 s.sum, .int .i64 s.min, .int .i64 s.max, .slice (some ⟨p1, q1, none⟩) n1 c1, .slice (some ⟨p2, q2, none⟩) n2 c2, .slice a3 n3 c3] 34)).alloc (.cells #[.int .i64 0, .int .i64 0, .int .i64 0, .int .i64 0, .slice none 0 0, .slice none 0 0, .slice none 0 0] 34)).alloc (.cells #[.int .i64 s.count, .int .i64 s.sum, .int .i64 s.min, .int .i64 s.max, .slice (some ⟨p1, q1, none⟩) n1 c1, .slice (some ⟨p2, q2, none⟩) n2 c2, .slice a3 n3 c3] 34) := ⟨_, rfl⟩
 have hs2 : W2.heap.size = w.heap.size + 1 + 1 + 1 := by rw [hW2]; simp
 rw [← hW2] at HT0 ⊢
 clear hW2
 have HO2 : Hid ((W2.alloc (.cells #[] 3)).ownsRow W2.heap.size 3 1 (.slice (some ⟨w.heap.size + 1 + 1 + 1, 0, none⟩) 0 0) 0 []) := by rw [← hs2]; exact own_empty W2 _
 have HB2 : Hid (Below w.heap.size w (W2.alloc (.cells #[] 3))) := Below.next HT0.out.bel ((Below.refl _ _).alloc (Nat.le_refl _) _)
 refine Stop.intro (wpList_append_own _ rfl _ _ 29 rfl W2.heap.size 3 i0 (.int .i64 0) 1 8 Try.underlying29 hi hz0 hz1 hz2 rfl (by decide) _ 0 [] rfl HO2.out ⟨p1, q1, none⟩ n1 c1 (s.hist.map (Value.int .i64)) rfl (by simp [HL.out.1]) (HR.out.1.from HB2.out hn1.1) (ints_one _) (by unfold maxLen; omega) (by omega) (by simp) ?_)
 intro x1 w3 hown hgrow _
 obtain ⟨b1, d1, G1, rfl, r1, o1, B3, rm1⟩ := fresh_list hown (by rw [hs2]; exact hgrow)
 have HM1 : Hid (RoomS w3 b1 n1 d1 G1) := rm1 hn1.1
 clear rm1
 have T1 := HT0.out.below B3
 have HT1 : Hid (Three w _ _ _ _ _ w3) := T1
 have HQ1 : Hid (RdI w3 b1 n1 s.hist G1 ∧ Own W2.heap.size w3 G1 ∧ Below w.heap.size w w3) := ⟨r1, o1, T1.bel⟩
 have c14 := T1.loc.cell 4
 have f14 := T1.loc.frozen 4
 have e15 := T1.box.cell 5
 simp only [aT, aS, aZ] at c14 e15
 have hz3 : w.heap.size + 3 ≤ w3.heap.size := T1.size
 have ne3 : ¬ w.heap.size = w3.heap.size := by omega
 have ne3' : ¬ w3.heap.size = w.heap.size := by omega
 have lt3 : w.heap.size < w3.heap.size := by omega
 clear hown hgrow r1 o1 B3 T1 HT0 HO2 HB2
 go_wp2_with (with_reducible refine stopAppend rfl ?_)
 obtain ⟨W4, hW4⟩ : ∃ W4, W4 = w3.setCell ⟨w.heap.size + 1 + 1, 4, none⟩ (.slice b1 n1 d1) := ⟨_, rfl⟩
 have hs4 : W4.heap.size = w3.heap.size := by rw [hW4]; simp
 have T2 := HT1.out.set 4 (.slice b1 n1 d1)
 rw [← hW4] at T2 ⊢
 have nG1 : w.heap.size + 1 + 1 ∉ G1 := fun hx => by have := HQ1.out.2.1.ge _ hx; omega
 have ag4 : Agree w3 W4 G1 := by rw [hW4]; exact .set nG1 4 _
 have HQ4 : Hid (RdI W4 b1 n1 s.hist G1 ∧ Own (w.heap.size + 3) W4 G1) := ⟨HQ1.out.1.agree ag4, (HQ1.out.2.1.agree ag4).mono (by omega)⟩
 have HT2 : Hid (Three w _ _ _ _ _ W4) := T2
 have HM4 : Hid (RoomS W4 b1 n1 d1 G1) := HM1.out.agree ag4
 clear HM1
 clear hW4 T2 nG1 ag4 HQ1 HT1 c14 f14 e15
 have HO4 : Hid ((W4.alloc (.cells #[] 3)).ownsRow W4.heap.size 3 1 (.slice (some ⟨w3.heap.size, 0, none⟩) 0 0) 0 []) := by rw [← hs4]; exact own_empty W4 _
 have HB4 : Hid (Below w.heap.size w (W4.alloc (.cells #[] 3))) := Below.next HT2.out.bel ((Below.refl _ _).alloc (Nat.le_refl _) _)
 refine Stop.intro (wpList_append_own _ rfl _ _ 29 rfl W4.heap.size 3 i0 (.int .i64 0) 1 8 Try.underlying29 hi hz0 hz1 hz2 rfl (by decide) _ 0 [] rfl HO4.out ⟨p2, q2, none⟩ n2 c2 (s.regs.map (Value.int .i64)) rfl (by simp [HL.out.2.1]) (HR.out.2.1.from HB4.out hn2.1) (ints_one _) (by unfold maxLen; omega) (by omega) (by simp) ?_)
 intro x2 w5 hown hgrow _
 obtain ⟨b2, d2, G2, rfl, r2, o2, B5, _⟩ := fresh_list hown (by rw [hs4]; exact hgrow)
 have HM5 : Hid (RoomS w5 b1 n1 d1 G1) := HM4.out.below B5
 clear HM4
 have T3 := HT2.out.below B5
 have HT3 : Hid (Three w _ _ _ _ _ w5) := T3
 have lt4 : ∀ b ∈ G1, b < W4.heap.size := HQ4.out.1.lt
 have HQ5 : Hid (RdI w5 b1 n1 s.hist G1 ∧ RdI w5 b2 n2 s.regs G2 ∧ Own (w.heap.size + 3) w5 (G1 ++ G2)) := ⟨HQ4.out.1.below B5, r2, (HQ4.out.2.below lt4 B5).join o2 lt4 (by omega)⟩
 have c25 := T3.loc.cell 5
 have f25 := T3.loc.frozen 5
 have c26 := T3.loc.cell 6
 have f26 := T3.loc.frozen 6
 simp only [List.setIfInBounds_toArray, List.set_cons_succ, List.set_cons_zero, aT, aS, aZ] at c25 c26
 have hz5 : w.heap.size + 3 ≤ w5.heap.size := T3.size
 clear hown hgrow r2 o2 B5 T3 HT2 HO4 HB4 HQ4 lt4 ne3 ne3' lt3
 go_wp2
 clear c25 f25 c26 f26
 go_loopw [4] (fun i wr => ∃ (k : Nat) (v : Value) (vs : List Value) (GG : List Nat), k ≤ n3 ∧ i = .int .i64 k ∧ Hid (CopySt w #[.int .i64 s.count, .int .i64 s.sum, .int .i64 s.min, .int .i64 s.max, .slice (some ⟨p1, q1, none⟩) n1 c1, .slice (some ⟨p2, q2, none⟩) n2 c2, .slice a3 n3 c3] s (.slice b1 n1 d1) (.slice b2 n2 d2) b1 b2 n1 n2 d1 d2 G1 G2 w5.heap.size k v vs GG wr)) (fun i _ => n3 - (intOf i).toNat)
 case atStart =>
  have nG : w.heap.size + 1 + 1 ∉ G1 ++ G2 := fun hx => by have := HQ5.out.2.2.ge _ hx; omega
  have ag := ((Agree.refl w5 (G1 ++ G2)).thenSet nG 5 (.slice b2 n2 d2)).thenSet nG 6 (.slice none 0 0)
  have T := (HT3.out.set 5 (.slice b2 n2 d2)).set 6 (.slice none 0 0)
  exact ⟨0, .slice none 0 0, [], [], by omega, rfl, ⟨T, HQ5.out.1.agree ag.left, HQ5.out.2.1.agree ag.right, HQ5.out.2.2.agree ag, fun b hb => (List.mem_append.1 hb).elim (HQ5.out.1.lt b) (HQ5.out.2.1.lt b), ⟨rfl, .inl ⟨rfl, rfl⟩⟩, by simp [RdS], Own.nil, fun b hb => (by cases hb), hz5, (by simp), HM5.out.agree ag.left⟩⟩
 case round =>
  clear HQ5 HT3
  obtain ⟨k, v, vs, GG, hk, rfl, CSS⟩ := hrel
  have e6 := CSS.out.three.box.cell 6
  simp only [aT, aS, aZ] at e6
  by_cases hlt : k < n3
  ·
   obtain ⟨p3, o3, F3', rfl, hm3⟩ : ∃ b off F', a3 = some ⟨b, off, none⟩ ∧ RdM w (s.rows.map ints) b off F' := by
    rcases HR.out.2.2.1.cells with ⟨h0, _⟩ | ⟨b, off, F', _, e, _, hm⟩
    ·
     omega
    ·
     exact ⟨b, off, F', e, hm⟩
   obtain ⟨ak, nk, ck, Yk, hck, hrk, _⟩ := RdII.row hm3 HL.out.2.2 k hlt
   have hful := HR.out.2.2.2.row _ (mem_getD (d := []) (by rw [HL.out.2.2]; exact hlt))
   have hnk : 0 < nk ∧ nk ≤ 1048576 := by rw [← hrk.length]; exact hful
   obtain ⟨pk, qk, rfl⟩ := hrk.addr hnk.1
   have hp3 : p3 < w.heap.size := World.block_lt_of_cell? _ _ hck
   have HQ : Hid (RdI w (some ⟨pk, qk, none⟩) nk (s.rows.getD k []) Yk ∧ 0 < nk ∧ nk ≤ 1048576) := ⟨hrk, hnk.1, hnk.2⟩
   have HLk : Hid (k < s.rows.length) := by show k < _; rw [HL.out.2.2]; exact hlt
   have HC : Hid (∀ W, CopyS w #[.int .i64 s.count, .int .i64 s.sum, .int .i64 s.min, .int .i64 s.max, .slice (some ⟨p1, q1, none⟩) n1 c1, .slice (some ⟨p2, q2, none⟩) n2 c2, .slice (some ⟨p3, o3, none⟩) n3 c3] W → W.cell? ⟨w.heap.size, 6, none⟩ = some (.slice (some ⟨p3, o3, none⟩) n3 c3) ∧ W.cell? ⟨p3, o3 + k, none⟩ = some (.slice (some ⟨pk, qk, none⟩) nk ck)) := fun W h => ⟨by rw [h.1.cell]; rfl, (h.2.cell (by exact hp3)).trans hck⟩
   have HS : Hid (CopyS w #[.int .i64 s.count, .int .i64 s.sum, .int .i64 s.min, .int .i64 s.max, .slice (some ⟨p1, q1, none⟩) n1 c1, .slice (some ⟨p2, q2, none⟩) n2 c2, .slice (some ⟨p3, o3, none⟩) n3 c3] wr.drew) := ⟨CSS.out.three.box.drew, CSS.out.three.bel.drew⟩
   clear hck hrk hful hnk hm3
   go_wp2
   clear e6
   have CSS : Hid (CopySt w #[.int .i64 s.count, .int .i64 s.sum, .int .i64 s.min, .int .i64 s.max, .slice (some ⟨p1, q1, none⟩) n1 c1, .slice (some ⟨p2, q2, none⟩) n2 c2, .slice (some ⟨p3, o3, none⟩) n3 c3] s (.slice b1 n1 d1) (.slice b2 n2 d2) b1 b2 n1 n2 d1 d2 G1 G2 w5.heap.size k v vs GG wr.drew) := CSS.out.below (Below.refl _ _).drew
   refine wp_region_held (S := CopyS w #[.int .i64 s.count, .int .i64 s.sum, .int .i64 s.min, .int .i64 s.max, .slice (some ⟨p1, q1, none⟩) n1 c1, .slice (some ⟨p2, q2, none⟩) n2 c2, .slice (some ⟨p3, o3, none⟩) n3 c3]) (by kernel_rfl) ?_
   change wpAnyH _ _ _ _ _ _ _ _ (World.drew _)
   refine takeH (o := ?o1) 0 (.pointer (some ⟨w.heap.size + 1 + 1, 6, none⟩)) ?h1 ?r1
   case h1 => simp only [aT, aZ]; rfl
   refine ⟨_, by simp [Act.put]; rfl, by kernel_rfl, by kernel_rfl, by kernel_rfl, fun _ _ _ h => h, (.inl ⟨rfl, fun W _ => by go_simp⟩), HS.out, ?_⟩
   refine takeH (o := ?o2) 3 (.pointer (some ⟨w.heap.size, 6, none⟩)) ?h2 ?r2
   case h2 => simp only [aT, aS, aZ]; rfl
   refine ⟨_, by simp [Act.put]; rfl, by kernel_rfl, by kernel_rfl, by kernel_rfl, fun _ _ _ h => h, (.inl ⟨rfl, fun W _ => by go_simp⟩), HS.out, ?_⟩
   refine takeH (o := ?o3) 4 (.slice (some ⟨p3, o3, none⟩) n3 c3) ?h3 ?r3
   case h3 => simp only [aT, aS, aZ]; rfl
   refine ⟨_, by simp [Act.put]; rfl, by kernel_rfl, by kernel_rfl, by kernel_rfl, fun _ _ _ h => h, (.inl ⟨rfl, fun W hW => by have c := (HC.out W hW).1; go_simp⟩), HS.out, ?_⟩
   refine takeH (o := ?o4) 5 (.int .i64 k) ?h4 ?r4
   case h4 => simp only [aT, aS, aZ]; rfl
   refine ⟨_, by simp [Act.put]; rfl, by kernel_rfl, by kernel_rfl, by kernel_rfl, fun _ _ _ h => h, (.inl ⟨rfl, fun W _ => by go_simp⟩), HS.out, ?_⟩
   refine takeH (o := ?o5) 6 (.pointer (some ⟨p3, o3 + k, none⟩)) ?h5 ?r5
   case h5 => simp only [aT, aS, aZ]; rfl
   refine ⟨_, by simp [Act.put]; rfl, by kernel_rfl, by kernel_rfl, by kernel_rfl, fun _ _ _ h => h, (.inl ⟨rfl, fun W _ => by go_simp⟩), HS.out, ?_⟩
   refine takeH (o := ?o6) 7 (.slice (some ⟨pk, qk, none⟩) nk ck) ?h6 ?r6
   case h6 => simp only [aT, aS, aZ]; rfl
   refine ⟨_, by simp [Act.put]; rfl, by kernel_rfl, by kernel_rfl, by kernel_rfl, fun _ _ _ h => h, (.inl ⟨rfl, fun W hW => by have c := (HC.out W hW).2; go_simp⟩), HS.out, ?_⟩
   refine twoH (o := ?o7) (o' := ?p7) 1 2 (by kernel_rfl) ?h7 ?g7 ?r7 ?s7
   case h7 => simp only [aT, aS, aZ]; rfl
   case g7 => simp only [aT, aS, aZ]; rfl
   case r7 =>
    intro K hK
    have co := CSS.out.three.loc.cell 6
    simp only [aT, aS, aZ] at co
    refine op_value v rfl (by go_simp) ⟨_, by simp [Act.put]; rfl, hK _ _ ⟨HS.out, ?_⟩⟩
    clear hK co
    refine onlyH (o := ?o8) 2 (by kernel_rfl) ?h8 ?r8
    case h8 => simp only [aT, aS, aZ]; rfl
    intro K hK
    refine op_turn (.slice (some ⟨wr.drew.heap.size, 0, none⟩) 0 0) (wr.drew.alloc (.cells #[] 3)) rfl (by go_simp) ⟨_, by simp [Act.put]; rfl, hK _ _ ⟨copyS_below HS.out ((Below.refl _ _).alloc (Nat.le_refl _) _), ?_⟩⟩
    have CSS0 := CSS
    have HS0 := HS
    obtain ⟨Y9, hWn⟩ : ∃ W, W = wr.drew.alloc (.cells #[] 3) := ⟨_, rfl⟩
    have hbn : Below wr.drew.heap.size wr.drew Y9 := by rw [hWn]; exact (Below.refl _ _).alloc (Nat.le_refl _) _
    rw [← hWn]
    have HWn : Hid (Y9 = wr.drew.alloc (.cells #[] 3)) := hWn
    have CSS : Hid (CopySt w #[.int .i64 s.count, .int .i64 s.sum, .int .i64 s.min, .int .i64 s.max, .slice (some ⟨p1, q1, none⟩) n1 c1, .slice (some ⟨p2, q2, none⟩) n2 c2, .slice (some ⟨p3, o3, none⟩) n3 c3] s (.slice b1 n1 d1) (.slice b2 n2 d2) b1 b2 n1 n2 d1 d2 G1 G2 w5.heap.size k v vs GG Y9) := CSS.out.below hbn
    have HS : Hid (CopyS w #[.int .i64 s.count, .int .i64 s.sum, .int .i64 s.min, .int .i64 s.max, .slice (some ⟨p1, q1, none⟩) n1 c1, .slice (some ⟨p2, q2, none⟩) n2 c2, .slice (some ⟨p3, o3, none⟩) n3 c3] Y9) := copyS_below HS.out hbn
    clear hK hWn hbn
    refine onlyH (o := ?o10) 8 (by kernel_rfl) ?h10 ?r10
    case h10 => simp only [aT, aS, aZ]; rfl
    intro K hK
    refine op_append Y9 rfl _ _ 29 rfl wr.drew.heap.size 3 i0 (.int .i64 0) 1 8 Try.underlying29 hi hz0 hz1 hz2 rfl (by decide) _ 0 [] rfl (by rw [HWn.out]; exact own_empty wr.drew _) ⟨pk, qk, none⟩ nk ck ((s.rows.getD k []).map (Value.int .i64)) rfl (by rw [List.length_map, HQ.out.1.length]; omega) (HQ.out.1.from HS.out.2 HQ.out.2.1) (ints_one _) HQ.out.2.1 (by have := HQ.out.2.2; unfold maxLen; omega) (by have := HQ.out.2.2; omega) (by rw [HWn.out]; simp) _ rfl ?_
    intro g3 cp3 Y11 hown hgrow _ _
    obtain ⟨a3', c3', Fk, e3, rk, ok, bk, _⟩ := fresh_list (W := wr.drew) (by simpa using hown) (by rw [← HWn.out]; exact hgrow)
    have e3' : a3' = some ⟨g3, 0, none⟩ := by simp only [Value.slice.injEq] at e3; exact e3.1.symm
    subst e3'
    rw [Nat.zero_add] at hown ⊢
    refine ⟨_, by simp [Act.put]; rfl, hK _ _ ⟨copyS_below HS0.out bk, ?_⟩⟩
    have CSS : Hid (CopySt w #[.int .i64 s.count, .int .i64 s.sum, .int .i64 s.min, .int .i64 s.max, .slice (some ⟨p1, q1, none⟩) n1 c1, .slice (some ⟨p2, q2, none⟩) n2 c2, .slice (some ⟨p3, o3, none⟩) n3 c3] s (.slice b1 n1 d1) (.slice b2 n2 d2) b1 b2 n1 n2 d1 d2 G1 G2 w5.heap.size k v vs GG Y11) := CSS0.out.below bk
    have HS : Hid (CopyS w #[.int .i64 s.count, .int .i64 s.sum, .int .i64 s.min, .int .i64 s.max, .slice (some ⟨p1, q1, none⟩) n1 c1, .slice (some ⟨p2, q2, none⟩) n2 c2, .slice (some ⟨p3, o3, none⟩) n3 c3] Y11) := copyS_below HS0.out bk
    have HK3 : Hid (RdI Y11 (some ⟨g3, 0, none⟩) nk (s.rows.getD k []) Fk ∧ Own wr.drew.heap.size Y11 Fk ∧ (∀ b ∈ GG, b < wr.drew.heap.size) ∧ (∀ b, v.ownBlock = some b → b < wr.drew.heap.size) ∧ w5.heap.size ≤ wr.drew.heap.size) := ⟨rk, ok, CSS0.out.rd.lt, fun b hb => (CSS0.out.row.lt b hb).2, CSS0.out.lw⟩
    clear hK hown hgrow e3 rk ok bk CSS0 HS0 HWn
    obtain ⟨Wst, hWst⟩ : ∃ W, W = wr.drew := ⟨_, rfl⟩
    rw [← hWst] at HK3
    clear hWst
    refine onlyH (o := ?o12) 9 (by kernel_rfl) ?h12 ?r12
    case h12 => simp only [aT, aS, aZ]; rfl
    intro K hK
    refine op_turn (.slice (some ⟨Y11.heap.size, 0, none⟩) 1 1) (Y11.alloc (.cells #[.slice (some ⟨g3, 0, none⟩) nk cp3] 29)) rfl (by go_simp) ⟨_, by simp [Act.put]; rfl, hK _ _ ⟨copyS_below HS.out ((Below.refl _ _).alloc (Nat.le_refl _) _), ?_⟩⟩
    obtain ⟨Y13, hWn⟩ : ∃ W, W = Y11.alloc (.cells #[.slice (some ⟨g3, 0, none⟩) nk cp3] 29) := ⟨_, rfl⟩
    have hbn : Below Y11.heap.size Y11 Y13 := by rw [hWn]; exact (Below.refl _ _).alloc (Nat.le_refl _) _
    have HCN : Hid (∀ (j : Nat) (x : Value), [Value.slice (some ⟨g3, 0, none⟩) nk cp3][j]? = some x → Y13.cell? ((⟨Y11.heap.size, 0, none⟩ : Addr).add j) = some x) := by rw [hWn]; exact cell_new1 _ _ _
    rw [← hWn]
    have CSS : Hid (CopySt w #[.int .i64 s.count, .int .i64 s.sum, .int .i64 s.min, .int .i64 s.max, .slice (some ⟨p1, q1, none⟩) n1 c1, .slice (some ⟨p2, q2, none⟩) n2 c2, .slice (some ⟨p3, o3, none⟩) n3 c3] s (.slice b1 n1 d1) (.slice b2 n2 d2) b1 b2 n1 n2 d1 d2 G1 G2 w5.heap.size k v vs GG Y13) := CSS.out.below hbn
    have HS : Hid (CopyS w #[.int .i64 s.count, .int .i64 s.sum, .int .i64 s.min, .int .i64 s.max, .slice (some ⟨p1, q1, none⟩) n1 c1, .slice (some ⟨p2, q2, none⟩) n2 c2, .slice (some ⟨p3, o3, none⟩) n3 c3] Y13) := copyS_below HS.out hbn
    have HK3 : Hid (RdI Y13 (some ⟨g3, 0, none⟩) nk (s.rows.getD k []) Fk ∧ Own Wst.heap.size Y13 Fk ∧ (∀ b ∈ GG, b < Wst.heap.size) ∧ (∀ b, v.ownBlock = some b → b < Wst.heap.size) ∧ w5.heap.size ≤ Wst.heap.size) := ⟨HK3.out.1.below hbn, HK3.out.2.1.below HK3.out.1.lt hbn, HK3.out.2.2.1, HK3.out.2.2.2.1, HK3.out.2.2.2.2⟩
    clear hK hWn hbn
    refine onlyH (o := ?o14) 10 (by kernel_rfl) ?h14 ?r14
    case h14 => simp only [aT, aS, aZ]; rfl
    intro K hK
    refine op_append Y13 rfl _ _ 32 rfl w5.heap.size 29 j0 (.slice none 0 0) 1 24 Try.underlying32 hj hy0 hy1 hy2 rfl (by decide) _ k vs rfl CSS.out.row ⟨Y11.heap.size, 0, none⟩ 1 1 [.slice (some ⟨g3, 0, none⟩) nk cp3] rfl rfl HCN.out (by intro u hu; simp at hu; subst hu; rfl) (by decide) (by unfold maxLen; omega) (by omega) CSS.out.lw _ rfl ?_
    intro g4 cp4 Y15 hown hgrow hat _
    have ST := CSS.out.step HK3.out.1 HK3.out.2.1 HK3.out.2.2.1 HK3.out.2.2.2.1 HK3.out.2.2.2.2 hown hgrow hat HLk.out
    have HST : Hid (CopySt w #[.int .i64 s.count, .int .i64 s.sum, .int .i64 s.min, .int .i64 s.max, .slice (some ⟨p1, q1, none⟩) n1 c1, .slice (some ⟨p2, q2, none⟩) n2 c2, .slice (some ⟨p3, o3, none⟩) n3 c3] s (.slice b1 n1 d1) (.slice b2 n2 d2) b1 b2 n1 n2 d1 d2 G1 G2 w5.heap.size (k + 1) (.slice (some ⟨g4, 0, none⟩) (k + 1) cp4) (vs ++ [.slice (some ⟨g3, 0, none⟩) nk cp3]) (GG ++ Fk) (Y15.setCell ⟨w.heap.size + 1 + 1, 6, none⟩ (.slice (some ⟨g4, 0, none⟩) (k + 1) cp4))) := ST.1
    have HS : Hid (CopyS w #[.int .i64 s.count, .int .i64 s.sum, .int .i64 s.min, .int .i64 s.max, .slice (some ⟨p1, q1, none⟩) n1 c1, .slice (some ⟨p2, q2, none⟩) n2 c2, .slice (some ⟨p3, o3, none⟩) n3 c3] Y15) := ST.2.1
    have co := ST.2.2.1
    have cf := ST.2.2.2
    refine ⟨_, by simp [Act.put]; rfl, hK _ _ ⟨HS.out, ?_⟩⟩
    clear hK hown hgrow hat ST CSS HK3 HCN
    refine takeH (o := ?o16) 11 (.pointer (some ⟨w.heap.size + 1 + 1, 6, none⟩)) ?h16 ?r16
    case h16 => simp only [aT, aS, aZ]; rfl
    refine ⟨_, by simp [Act.put]; rfl, by kernel_rfl, by kernel_rfl, by kernel_rfl, fun _ _ _ h => h, (.inl ⟨rfl, fun W _ => by go_simp⟩), HS.out, ?_⟩
    refine onlyH (o := ?o17) 12 (by kernel_rfl) ?h17 ?r17
    case h17 => simp only [aT, aS, aZ]; rfl
    intro K hK
    refine op_skip (Y15.setCell ⟨w.heap.size + 1 + 1, 6, none⟩ (.slice (some ⟨g4, 0, none⟩) (k + 1) cp4)) rfl (by go_simp) ⟨_, by simp [Act.put]; rfl, hK _ _ ⟨⟨HST.out.three.box, HST.out.three.bel⟩, ?_⟩⟩
    clear hK co cf
    refine wpAnyH_done (by kernel_rfl) ?_ _
    go_wp2
    go_roundw
    case rel => exact ⟨k + 1, _, _, _, by omega, by go_num, HST⟩
    case measure => simp [intOf]; omega
   case s7 =>
    intro K hK
    refine op_turn (.slice (some ⟨wr.drew.heap.size, 0, none⟩) 0 0) (wr.drew.alloc (.cells #[] 3)) rfl (by go_simp) ⟨_, by simp [Act.put]; rfl, hK _ _ ⟨copyS_below HS.out ((Below.refl _ _).alloc (Nat.le_refl _) _), ?_⟩⟩
    have CSS0 := CSS
    have HS0 := HS
    obtain ⟨Y18, hWn⟩ : ∃ W, W = wr.drew.alloc (.cells #[] 3) := ⟨_, rfl⟩
    have hbn : Below wr.drew.heap.size wr.drew Y18 := by rw [hWn]; exact (Below.refl _ _).alloc (Nat.le_refl _) _
    rw [← hWn]
    have HWn : Hid (Y18 = wr.drew.alloc (.cells #[] 3)) := hWn
    have CSS : Hid (CopySt w #[.int .i64 s.count, .int .i64 s.sum, .int .i64 s.min, .int .i64 s.max, .slice (some ⟨p1, q1, none⟩) n1 c1, .slice (some ⟨p2, q2, none⟩) n2 c2, .slice (some ⟨p3, o3, none⟩) n3 c3] s (.slice b1 n1 d1) (.slice b2 n2 d2) b1 b2 n1 n2 d1 d2 G1 G2 w5.heap.size k v vs GG Y18) := CSS.out.below hbn
    have HS : Hid (CopyS w #[.int .i64 s.count, .int .i64 s.sum, .int .i64 s.min, .int .i64 s.max, .slice (some ⟨p1, q1, none⟩) n1 c1, .slice (some ⟨p2, q2, none⟩) n2 c2, .slice (some ⟨p3, o3, none⟩) n3 c3] Y18) := copyS_below HS.out hbn
    clear hK hWn hbn
    refine twoH (o := ?o19) (o' := ?p19) 1 8 (by kernel_rfl) ?h19 ?g19 ?r19 ?s19
    case h19 => simp only [aT, aS, aZ]; rfl
    case g19 => simp only [aT, aS, aZ]; rfl
    case r19 =>
     intro K hK
     have co := CSS.out.three.loc.cell 6
     simp only [aT, aS, aZ] at co
     refine op_value v rfl (by go_simp) ⟨_, by simp [Act.put]; rfl, hK _ _ ⟨HS.out, ?_⟩⟩
     clear hK co
     refine onlyH (o := ?o20) 8 (by kernel_rfl) ?h20 ?r20
     case h20 => simp only [aT, aS, aZ]; rfl
     intro K hK
     refine op_append Y18 rfl _ _ 29 rfl wr.drew.heap.size 3 i0 (.int .i64 0) 1 8 Try.underlying29 hi hz0 hz1 hz2 rfl (by decide) _ 0 [] rfl (by rw [HWn.out]; exact own_empty wr.drew _) ⟨pk, qk, none⟩ nk ck ((s.rows.getD k []).map (Value.int .i64)) rfl (by rw [List.length_map, HQ.out.1.length]; omega) (HQ.out.1.from HS.out.2 HQ.out.2.1) (ints_one _) HQ.out.2.1 (by have := HQ.out.2.2; unfold maxLen; omega) (by have := HQ.out.2.2; omega) (by rw [HWn.out]; simp) _ rfl ?_
     intro g3 cp3 Y21 hown hgrow _ _
     obtain ⟨a3', c3', Fk, e3, rk, ok, bk, _⟩ := fresh_list (W := wr.drew) (by simpa using hown) (by rw [← HWn.out]; exact hgrow)
     have e3' : a3' = some ⟨g3, 0, none⟩ := by simp only [Value.slice.injEq] at e3; exact e3.1.symm
     subst e3'
     rw [Nat.zero_add] at hown ⊢
     refine ⟨_, by simp [Act.put]; rfl, hK _ _ ⟨copyS_below HS0.out bk, ?_⟩⟩
     have CSS : Hid (CopySt w #[.int .i64 s.count, .int .i64 s.sum, .int .i64 s.min, .int .i64 s.max, .slice (some ⟨p1, q1, none⟩) n1 c1, .slice (some ⟨p2, q2, none⟩) n2 c2, .slice (some ⟨p3, o3, none⟩) n3 c3] s (.slice b1 n1 d1) (.slice b2 n2 d2) b1 b2 n1 n2 d1 d2 G1 G2 w5.heap.size k v vs GG Y21) := CSS0.out.below bk
     have HS : Hid (CopyS w #[.int .i64 s.count, .int .i64 s.sum, .int .i64 s.min, .int .i64 s.max, .slice (some ⟨p1, q1, none⟩) n1 c1, .slice (some ⟨p2, q2, none⟩) n2 c2, .slice (some ⟨p3, o3, none⟩) n3 c3] Y21) := copyS_below HS0.out bk
     have HK3 : Hid (RdI Y21 (some ⟨g3, 0, none⟩) nk (s.rows.getD k []) Fk ∧ Own wr.drew.heap.size Y21 Fk ∧ (∀ b ∈ GG, b < wr.drew.heap.size) ∧ (∀ b, v.ownBlock = some b → b < wr.drew.heap.size) ∧ w5.heap.size ≤ wr.drew.heap.size) := ⟨rk, ok, CSS0.out.rd.lt, fun b hb => (CSS0.out.row.lt b hb).2, CSS0.out.lw⟩
     clear hK hown hgrow e3 rk ok bk CSS0 HS0 HWn
     obtain ⟨Wst, hWst⟩ : ∃ W, W = wr.drew := ⟨_, rfl⟩
     rw [← hWst] at HK3
     clear hWst
     refine onlyH (o := ?o22) 9 (by kernel_rfl) ?h22 ?r22
     case h22 => simp only [aT, aS, aZ]; rfl
     intro K hK
     refine op_turn (.slice (some ⟨Y21.heap.size, 0, none⟩) 1 1) (Y21.alloc (.cells #[.slice (some ⟨g3, 0, none⟩) nk cp3] 29)) rfl (by go_simp) ⟨_, by simp [Act.put]; rfl, hK _ _ ⟨copyS_below HS.out ((Below.refl _ _).alloc (Nat.le_refl _) _), ?_⟩⟩
     obtain ⟨Y23, hWn⟩ : ∃ W, W = Y21.alloc (.cells #[.slice (some ⟨g3, 0, none⟩) nk cp3] 29) := ⟨_, rfl⟩
     have hbn : Below Y21.heap.size Y21 Y23 := by rw [hWn]; exact (Below.refl _ _).alloc (Nat.le_refl _) _
     have HCN : Hid (∀ (j : Nat) (x : Value), [Value.slice (some ⟨g3, 0, none⟩) nk cp3][j]? = some x → Y23.cell? ((⟨Y21.heap.size, 0, none⟩ : Addr).add j) = some x) := by rw [hWn]; exact cell_new1 _ _ _
     rw [← hWn]
     have CSS : Hid (CopySt w #[.int .i64 s.count, .int .i64 s.sum, .int .i64 s.min, .int .i64 s.max, .slice (some ⟨p1, q1, none⟩) n1 c1, .slice (some ⟨p2, q2, none⟩) n2 c2, .slice (some ⟨p3, o3, none⟩) n3 c3] s (.slice b1 n1 d1) (.slice b2 n2 d2) b1 b2 n1 n2 d1 d2 G1 G2 w5.heap.size k v vs GG Y23) := CSS.out.below hbn
     have HS : Hid (CopyS w #[.int .i64 s.count, .int .i64 s.sum, .int .i64 s.min, .int .i64 s.max, .slice (some ⟨p1, q1, none⟩) n1 c1, .slice (some ⟨p2, q2, none⟩) n2 c2, .slice (some ⟨p3, o3, none⟩) n3 c3] Y23) := copyS_below HS.out hbn
     have HK3 : Hid (RdI Y23 (some ⟨g3, 0, none⟩) nk (s.rows.getD k []) Fk ∧ Own Wst.heap.size Y23 Fk ∧ (∀ b ∈ GG, b < Wst.heap.size) ∧ (∀ b, v.ownBlock = some b → b < Wst.heap.size) ∧ w5.heap.size ≤ Wst.heap.size) := ⟨HK3.out.1.below hbn, HK3.out.2.1.below HK3.out.1.lt hbn, HK3.out.2.2.1, HK3.out.2.2.2.1, HK3.out.2.2.2.2⟩
     clear hK hWn hbn
     refine onlyH (o := ?o24) 10 (by kernel_rfl) ?h24 ?r24
     case h24 => simp only [aT, aS, aZ]; rfl
     intro K hK
     refine op_append Y23 rfl _ _ 32 rfl w5.heap.size 29 j0 (.slice none 0 0) 1 24 Try.underlying32 hj hy0 hy1 hy2 rfl (by decide) _ k vs rfl CSS.out.row ⟨Y21.heap.size, 0, none⟩ 1 1 [.slice (some ⟨g3, 0, none⟩) nk cp3] rfl rfl HCN.out (by intro u hu; simp at hu; subst hu; rfl) (by decide) (by unfold maxLen; omega) (by omega) CSS.out.lw _ rfl ?_
     intro g4 cp4 Y25 hown hgrow hat _
     have ST := CSS.out.step HK3.out.1 HK3.out.2.1 HK3.out.2.2.1 HK3.out.2.2.2.1 HK3.out.2.2.2.2 hown hgrow hat HLk.out
     have HST : Hid (CopySt w #[.int .i64 s.count, .int .i64 s.sum, .int .i64 s.min, .int .i64 s.max, .slice (some ⟨p1, q1, none⟩) n1 c1, .slice (some ⟨p2, q2, none⟩) n2 c2, .slice (some ⟨p3, o3, none⟩) n3 c3] s (.slice b1 n1 d1) (.slice b2 n2 d2) b1 b2 n1 n2 d1 d2 G1 G2 w5.heap.size (k + 1) (.slice (some ⟨g4, 0, none⟩) (k + 1) cp4) (vs ++ [.slice (some ⟨g3, 0, none⟩) nk cp3]) (GG ++ Fk) (Y25.setCell ⟨w.heap.size + 1 + 1, 6, none⟩ (.slice (some ⟨g4, 0, none⟩) (k + 1) cp4))) := ST.1
     have HS : Hid (CopyS w #[.int .i64 s.count, .int .i64 s.sum, .int .i64 s.min, .int .i64 s.max, .slice (some ⟨p1, q1, none⟩) n1 c1, .slice (some ⟨p2, q2, none⟩) n2 c2, .slice (some ⟨p3, o3, none⟩) n3 c3] Y25) := ST.2.1
     have co := ST.2.2.1
     have cf := ST.2.2.2
     refine ⟨_, by simp [Act.put]; rfl, hK _ _ ⟨HS.out, ?_⟩⟩
     clear hK hown hgrow hat ST CSS HK3 HCN
     refine takeH (o := ?o26) 11 (.pointer (some ⟨w.heap.size + 1 + 1, 6, none⟩)) ?h26 ?r26
     case h26 => simp only [aT, aS, aZ]; rfl
     refine ⟨_, by simp [Act.put]; rfl, by kernel_rfl, by kernel_rfl, by kernel_rfl, fun _ _ _ h => h, (.inl ⟨rfl, fun W _ => by go_simp⟩), HS.out, ?_⟩
     refine onlyH (o := ?o27) 12 (by kernel_rfl) ?h27 ?r27
     case h27 => simp only [aT, aS, aZ]; rfl
     intro K hK
     refine op_skip (Y25.setCell ⟨w.heap.size + 1 + 1, 6, none⟩ (.slice (some ⟨g4, 0, none⟩) (k + 1) cp4)) rfl (by go_simp) ⟨_, by simp [Act.put]; rfl, hK _ _ ⟨⟨HST.out.three.box, HST.out.three.bel⟩, ?_⟩⟩
     clear hK co cf
     refine wpAnyH_done (by kernel_rfl) ?_ _
     go_wp2
     go_roundw
     case rel => exact ⟨k + 1, _, _, _, by omega, by go_num, HST⟩
     case measure => simp [intOf]; omega
    case s19 =>
     intro K hK
     refine op_append Y18 rfl _ _ 29 rfl wr.drew.heap.size 3 i0 (.int .i64 0) 1 8 Try.underlying29 hi hz0 hz1 hz2 rfl (by decide) _ 0 [] rfl (by rw [HWn.out]; exact own_empty wr.drew _) ⟨pk, qk, none⟩ nk ck ((s.rows.getD k []).map (Value.int .i64)) rfl (by rw [List.length_map, HQ.out.1.length]; omega) (HQ.out.1.from HS.out.2 HQ.out.2.1) (ints_one _) HQ.out.2.1 (by have := HQ.out.2.2; unfold maxLen; omega) (by have := HQ.out.2.2; omega) (by rw [HWn.out]; simp) _ rfl ?_
     intro g3 cp3 Y28 hown hgrow _ _
     obtain ⟨a3', c3', Fk, e3, rk, ok, bk, _⟩ := fresh_list (W := wr.drew) (by simpa using hown) (by rw [← HWn.out]; exact hgrow)
     have e3' : a3' = some ⟨g3, 0, none⟩ := by simp only [Value.slice.injEq] at e3; exact e3.1.symm
     subst e3'
     rw [Nat.zero_add] at hown ⊢
     refine ⟨_, by simp [Act.put]; rfl, hK _ _ ⟨copyS_below HS0.out bk, ?_⟩⟩
     have CSS : Hid (CopySt w #[.int .i64 s.count, .int .i64 s.sum, .int .i64 s.min, .int .i64 s.max, .slice (some ⟨p1, q1, none⟩) n1 c1, .slice (some ⟨p2, q2, none⟩) n2 c2, .slice (some ⟨p3, o3, none⟩) n3 c3] s (.slice b1 n1 d1) (.slice b2 n2 d2) b1 b2 n1 n2 d1 d2 G1 G2 w5.heap.size k v vs GG Y28) := CSS0.out.below bk
     have HS : Hid (CopyS w #[.int .i64 s.count, .int .i64 s.sum, .int .i64 s.min, .int .i64 s.max, .slice (some ⟨p1, q1, none⟩) n1 c1, .slice (some ⟨p2, q2, none⟩) n2 c2, .slice (some ⟨p3, o3, none⟩) n3 c3] Y28) := copyS_below HS0.out bk
     have HK3 : Hid (RdI Y28 (some ⟨g3, 0, none⟩) nk (s.rows.getD k []) Fk ∧ Own wr.drew.heap.size Y28 Fk ∧ (∀ b ∈ GG, b < wr.drew.heap.size) ∧ (∀ b, v.ownBlock = some b → b < wr.drew.heap.size) ∧ w5.heap.size ≤ wr.drew.heap.size) := ⟨rk, ok, CSS0.out.rd.lt, fun b hb => (CSS0.out.row.lt b hb).2, CSS0.out.lw⟩
     clear hK hown hgrow e3 rk ok bk CSS0 HS0 HWn
     obtain ⟨Wst, hWst⟩ : ∃ W, W = wr.drew := ⟨_, rfl⟩
     rw [← hWst] at HK3
     clear hWst
     refine twoH (o := ?o29) (o' := ?p29) 1 9 (by kernel_rfl) ?h29 ?g29 ?r29 ?s29
     case h29 => simp only [aT, aS, aZ]; rfl
     case g29 => simp only [aT, aS, aZ]; rfl
     case r29 =>
      intro K hK
      have co := CSS.out.three.loc.cell 6
      simp only [aT, aS, aZ] at co
      refine op_value v rfl (by go_simp) ⟨_, by simp [Act.put]; rfl, hK _ _ ⟨HS.out, ?_⟩⟩
      clear hK co
      refine onlyH (o := ?o30) 9 (by kernel_rfl) ?h30 ?r30
      case h30 => simp only [aT, aS, aZ]; rfl
      intro K hK
      refine op_turn (.slice (some ⟨Y28.heap.size, 0, none⟩) 1 1) (Y28.alloc (.cells #[.slice (some ⟨g3, 0, none⟩) nk cp3] 29)) rfl (by go_simp) ⟨_, by simp [Act.put]; rfl, hK _ _ ⟨copyS_below HS.out ((Below.refl _ _).alloc (Nat.le_refl _) _), ?_⟩⟩
      obtain ⟨Y31, hWn⟩ : ∃ W, W = Y28.alloc (.cells #[.slice (some ⟨g3, 0, none⟩) nk cp3] 29) := ⟨_, rfl⟩
      have hbn : Below Y28.heap.size Y28 Y31 := by rw [hWn]; exact (Below.refl _ _).alloc (Nat.le_refl _) _
      have HCN : Hid (∀ (j : Nat) (x : Value), [Value.slice (some ⟨g3, 0, none⟩) nk cp3][j]? = some x → Y31.cell? ((⟨Y28.heap.size, 0, none⟩ : Addr).add j) = some x) := by rw [hWn]; exact cell_new1 _ _ _
      rw [← hWn]
      have CSS : Hid (CopySt w #[.int .i64 s.count, .int .i64 s.sum, .int .i64 s.min, .int .i64 s.max, .slice (some ⟨p1, q1, none⟩) n1 c1, .slice (some ⟨p2, q2, none⟩) n2 c2, .slice (some ⟨p3, o3, none⟩) n3 c3] s (.slice b1 n1 d1) (.slice b2 n2 d2) b1 b2 n1 n2 d1 d2 G1 G2 w5.heap.size k v vs GG Y31) := CSS.out.below hbn
      have HS : Hid (CopyS w #[.int .i64 s.count, .int .i64 s.sum, .int .i64 s.min, .int .i64 s.max, .slice (some ⟨p1, q1, none⟩) n1 c1, .slice (some ⟨p2, q2, none⟩) n2 c2, .slice (some ⟨p3, o3, none⟩) n3 c3] Y31) := copyS_below HS.out hbn
      have HK3 : Hid (RdI Y31 (some ⟨g3, 0, none⟩) nk (s.rows.getD k []) Fk ∧ Own Wst.heap.size Y31 Fk ∧ (∀ b ∈ GG, b < Wst.heap.size) ∧ (∀ b, v.ownBlock = some b → b < Wst.heap.size) ∧ w5.heap.size ≤ Wst.heap.size) := ⟨HK3.out.1.below hbn, HK3.out.2.1.below HK3.out.1.lt hbn, HK3.out.2.2.1, HK3.out.2.2.2.1, HK3.out.2.2.2.2⟩
      clear hK hWn hbn
      refine onlyH (o := ?o32) 10 (by kernel_rfl) ?h32 ?r32
      case h32 => simp only [aT, aS, aZ]; rfl
      intro K hK
      refine op_append Y31 rfl _ _ 32 rfl w5.heap.size 29 j0 (.slice none 0 0) 1 24 Try.underlying32 hj hy0 hy1 hy2 rfl (by decide) _ k vs rfl CSS.out.row ⟨Y28.heap.size, 0, none⟩ 1 1 [.slice (some ⟨g3, 0, none⟩) nk cp3] rfl rfl HCN.out (by intro u hu; simp at hu; subst hu; rfl) (by decide) (by unfold maxLen; omega) (by omega) CSS.out.lw _ rfl ?_
      intro g4 cp4 Y33 hown hgrow hat _
      have ST := CSS.out.step HK3.out.1 HK3.out.2.1 HK3.out.2.2.1 HK3.out.2.2.2.1 HK3.out.2.2.2.2 hown hgrow hat HLk.out
      have HST : Hid (CopySt w #[.int .i64 s.count, .int .i64 s.sum, .int .i64 s.min, .int .i64 s.max, .slice (some ⟨p1, q1, none⟩) n1 c1, .slice (some ⟨p2, q2, none⟩) n2 c2, .slice (some ⟨p3, o3, none⟩) n3 c3] s (.slice b1 n1 d1) (.slice b2 n2 d2) b1 b2 n1 n2 d1 d2 G1 G2 w5.heap.size (k + 1) (.slice (some ⟨g4, 0, none⟩) (k + 1) cp4) (vs ++ [.slice (some ⟨g3, 0, none⟩) nk cp3]) (GG ++ Fk) (Y33.setCell ⟨w.heap.size + 1 + 1, 6, none⟩ (.slice (some ⟨g4, 0, none⟩) (k + 1) cp4))) := ST.1
      have HS : Hid (CopyS w #[.int .i64 s.count, .int .i64 s.sum, .int .i64 s.min, .int .i64 s.max, .slice (some ⟨p1, q1, none⟩) n1 c1, .slice (some ⟨p2, q2, none⟩) n2 c2, .slice (some ⟨p3, o3, none⟩) n3 c3] Y33) := ST.2.1
      have co := ST.2.2.1
      have cf := ST.2.2.2
      refine ⟨_, by simp [Act.put]; rfl, hK _ _ ⟨HS.out, ?_⟩⟩
      clear hK hown hgrow hat ST CSS HK3 HCN
      refine takeH (o := ?o34) 11 (.pointer (some ⟨w.heap.size + 1 + 1, 6, none⟩)) ?h34 ?r34
      case h34 => simp only [aT, aS, aZ]; rfl
      refine ⟨_, by simp [Act.put]; rfl, by kernel_rfl, by kernel_rfl, by kernel_rfl, fun _ _ _ h => h, (.inl ⟨rfl, fun W _ => by go_simp⟩), HS.out, ?_⟩
      refine onlyH (o := ?o35) 12 (by kernel_rfl) ?h35 ?r35
      case h35 => simp only [aT, aS, aZ]; rfl
      intro K hK
      refine op_skip (Y33.setCell ⟨w.heap.size + 1 + 1, 6, none⟩ (.slice (some ⟨g4, 0, none⟩) (k + 1) cp4)) rfl (by go_simp) ⟨_, by simp [Act.put]; rfl, hK _ _ ⟨⟨HST.out.three.box, HST.out.three.bel⟩, ?_⟩⟩
      clear hK co cf
      refine wpAnyH_done (by kernel_rfl) ?_ _
      go_wp2
      go_roundw
      case rel => exact ⟨k + 1, _, _, _, by omega, by go_num, HST⟩
      case measure => simp [intOf]; omega
     case s29 =>
      intro K hK
      refine op_turn (.slice (some ⟨Y28.heap.size, 0, none⟩) 1 1) (Y28.alloc (.cells #[.slice (some ⟨g3, 0, none⟩) nk cp3] 29)) rfl (by go_simp) ⟨_, by simp [Act.put]; rfl, hK _ _ ⟨copyS_below HS.out ((Below.refl _ _).alloc (Nat.le_refl _) _), ?_⟩⟩
      obtain ⟨Y36, hWn⟩ : ∃ W, W = Y28.alloc (.cells #[.slice (some ⟨g3, 0, none⟩) nk cp3] 29) := ⟨_, rfl⟩
      have hbn : Below Y28.heap.size Y28 Y36 := by rw [hWn]; exact (Below.refl _ _).alloc (Nat.le_refl _) _
      have HCN : Hid (∀ (j : Nat) (x : Value), [Value.slice (some ⟨g3, 0, none⟩) nk cp3][j]? = some x → Y36.cell? ((⟨Y28.heap.size, 0, none⟩ : Addr).add j) = some x) := by rw [hWn]; exact cell_new1 _ _ _
      rw [← hWn]
      have CSS : Hid (CopySt w #[.int .i64 s.count, .int .i64 s.sum, .int .i64 s.min, .int .i64 s.max, .slice (some ⟨p1, q1, none⟩) n1 c1, .slice (some ⟨p2, q2, none⟩) n2 c2, .slice (some ⟨p3, o3, none⟩) n3 c3] s (.slice b1 n1 d1) (.slice b2 n2 d2) b1 b2 n1 n2 d1 d2 G1 G2 w5.heap.size k v vs GG Y36) := CSS.out.below hbn
      have HS : Hid (CopyS w #[.int .i64 s.count, .int .i64 s.sum, .int .i64 s.min, .int .i64 s.max, .slice (some ⟨p1, q1, none⟩) n1 c1, .slice (some ⟨p2, q2, none⟩) n2 c2, .slice (some ⟨p3, o3, none⟩) n3 c3] Y36) := copyS_below HS.out hbn
      have HK3 : Hid (RdI Y36 (some ⟨g3, 0, none⟩) nk (s.rows.getD k []) Fk ∧ Own Wst.heap.size Y36 Fk ∧ (∀ b ∈ GG, b < Wst.heap.size) ∧ (∀ b, v.ownBlock = some b → b < Wst.heap.size) ∧ w5.heap.size ≤ Wst.heap.size) := ⟨HK3.out.1.below hbn, HK3.out.2.1.below HK3.out.1.lt hbn, HK3.out.2.2.1, HK3.out.2.2.2.1, HK3.out.2.2.2.2⟩
      clear hK hWn hbn
      refine onlyH (o := ?o37) 1 (by kernel_rfl) ?h37 ?r37
      case h37 => simp only [aT, aS, aZ]; rfl
      intro K hK
      have co := CSS.out.three.loc.cell 6
      simp only [aT, aS, aZ] at co
      refine op_value v rfl (by go_simp) ⟨_, by simp [Act.put]; rfl, hK _ _ ⟨HS.out, ?_⟩⟩
      clear hK co
      refine onlyH (o := ?o38) 10 (by kernel_rfl) ?h38 ?r38
      case h38 => simp only [aT, aS, aZ]; rfl
      intro K hK
      refine op_append Y36 rfl _ _ 32 rfl w5.heap.size 29 j0 (.slice none 0 0) 1 24 Try.underlying32 hj hy0 hy1 hy2 rfl (by decide) _ k vs rfl CSS.out.row ⟨Y28.heap.size, 0, none⟩ 1 1 [.slice (some ⟨g3, 0, none⟩) nk cp3] rfl rfl HCN.out (by intro u hu; simp at hu; subst hu; rfl) (by decide) (by unfold maxLen; omega) (by omega) CSS.out.lw _ rfl ?_
      intro g4 cp4 Y39 hown hgrow hat _
      have ST := CSS.out.step HK3.out.1 HK3.out.2.1 HK3.out.2.2.1 HK3.out.2.2.2.1 HK3.out.2.2.2.2 hown hgrow hat HLk.out
      have HST : Hid (CopySt w #[.int .i64 s.count, .int .i64 s.sum, .int .i64 s.min, .int .i64 s.max, .slice (some ⟨p1, q1, none⟩) n1 c1, .slice (some ⟨p2, q2, none⟩) n2 c2, .slice (some ⟨p3, o3, none⟩) n3 c3] s (.slice b1 n1 d1) (.slice b2 n2 d2) b1 b2 n1 n2 d1 d2 G1 G2 w5.heap.size (k + 1) (.slice (some ⟨g4, 0, none⟩) (k + 1) cp4) (vs ++ [.slice (some ⟨g3, 0, none⟩) nk cp3]) (GG ++ Fk) (Y39.setCell ⟨w.heap.size + 1 + 1, 6, none⟩ (.slice (some ⟨g4, 0, none⟩) (k + 1) cp4))) := ST.1
      have HS : Hid (CopyS w #[.int .i64 s.count, .int .i64 s.sum, .int .i64 s.min, .int .i64 s.max, .slice (some ⟨p1, q1, none⟩) n1 c1, .slice (some ⟨p2, q2, none⟩) n2 c2, .slice (some ⟨p3, o3, none⟩) n3 c3] Y39) := ST.2.1
      have co := ST.2.2.1
      have cf := ST.2.2.2
      refine ⟨_, by simp [Act.put]; rfl, hK _ _ ⟨HS.out, ?_⟩⟩
      clear hK hown hgrow hat ST CSS HK3 HCN
      refine takeH (o := ?o40) 11 (.pointer (some ⟨w.heap.size + 1 + 1, 6, none⟩)) ?h40 ?r40
      case h40 => simp only [aT, aS, aZ]; rfl
      refine ⟨_, by simp [Act.put]; rfl, by kernel_rfl, by kernel_rfl, by kernel_rfl, fun _ _ _ h => h, (.inl ⟨rfl, fun W _ => by go_simp⟩), HS.out, ?_⟩
      refine onlyH (o := ?o41) 12 (by kernel_rfl) ?h41 ?r41
      case h41 => simp only [aT, aS, aZ]; rfl
      intro K hK
      refine op_skip (Y39.setCell ⟨w.heap.size + 1 + 1, 6, none⟩ (.slice (some ⟨g4, 0, none⟩) (k + 1) cp4)) rfl (by go_simp) ⟨_, by simp [Act.put]; rfl, hK _ _ ⟨⟨HST.out.three.box, HST.out.three.bel⟩, ?_⟩⟩
      clear hK co cf
      refine wpAnyH_done (by kernel_rfl) ?_ _
      go_wp2
      go_roundw
      case rel => exact ⟨k + 1, _, _, _, by omega, by go_num, HST⟩
      case measure => simp [intOf]; omega
  ·
   obtain rfl : k = n3 := by omega
   have HE : Hid (s.rows.take k = s.rows) := List.take_of_length_le (Nat.le_of_eq HL.out.2.2)
   go_wp2_with (first | (with_reducible refine stopLoad 34 rfl ?_) | (with_reducible refine stopStore 34 rfl ?_))
   refine load_known 34 (w.heap.size + 1 + 1) _ 34 _ CSS.out.three.loc rfl rfl rfl Try.underlying34 rfl (by kernel_rfl) ?_
   go_wp2_with (first | (with_reducible refine stopLoad 34 rfl ?_) | (with_reducible refine stopStore 34 rfl ?_))
   obtain ⟨av, cv, Fv, rfl, rv, ov, kc⟩ := CSS.out.rows
   refine store_known 34 (w.heap.size + 1) _ #[.int .i64 s.count, .int .i64 s.sum, .int .i64 s.min, .int .i64 s.max, .slice b1 n1 d1, .slice b2 n2 d2, .slice av k cv] 34 CSS.out.three.res rfl rfl rfl rfl (by kernel_rfl) rfl (by kernel_rfl) ?_
   go_wp2
   refine bodyPost_ret (results_cell_row Try.results58 _ _ (w.heap.size + 1) _ _ _ _ rfl CSS.out.three.res.setRow Try.underlying34 rfl (by kernel_rfl)) rfl ?_
   rw [HE.out] at rv
   have nr : w.heap.size + 1 ∉ G1 ++ (G2 ++ Fv) := fun hx => by have := ov.ge _ hx; omega
   have ag : Agree wr (wr.setRow (w.heap.size + 1) #[.int .i64 s.count, .int .i64 s.sum, .int .i64 s.min, .int .i64 s.max, .slice b1 n1 d1, .slice b2 n2 d2, .slice av k cv]) (G1 ++ (G2 ++ Fv)) := fun b hb => setRow_other wr _ b _ (fun e => nr (e ▸ hb))
   exact ⟨_, G1 ++ (G2 ++ Fv), rfl, ⟨b1, n1, d1, b2, n2, d2, av, k, cv, G1, G2, Fv, rfl, CSS.out.r1.agree ag.left, CSS.out.r2.agree ag.right.left, rv.agree ag.right.right, rfl⟩, (ov.agree ag).mono (by omega), below_setRow CSS.out.three.bel (by omega) _, ⟨_, _, _, _, _, _, _, G1, _, _, _, _, rfl, CSS.out.rm.agree ag.left, kc⟩⟩
end Go.Proofs.Ytgkbhhlkaifnoaa
