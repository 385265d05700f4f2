/- Several texts of mine, laid together. No statement of the seat is proved here. -/
import Derived.Test.YtgkbhhlkaifnoaaB4
import Derived.Test.YtgkbhhlkaifnoaaItOf
import Derived.Test.YtgkbhhlkaifnoaaB3
import Derived.Test.YtgkbhhlkaifnoaaB2
import Derived.StillTactics
/- The walk through the model's DrawAgentHear. No statement of the seat is proved here. -/
namespace Go.Proofs.Ytgkbhhlkaifnoaa
open Go.RowKit
theorem results_row_twoH {P : Program} {fn : Func} {p u : Tmp} {ty tz : TypeId} (h : fn.results = #[.cell p ty, .cell u tz]) (tmps : Array Value) (w : World) (g k : Nat) (t t' : TypeId) (cs ds : Array Value) (d d' : TypeDesc)
 (hp : tmps.getD p undef = .pointer (some ⟨g, 0, none⟩)) (hq : tmps.getD u undef = .pointer (some ⟨k, 0, none⟩)) (hg : Blk w g cs t) (hk : Blk w k ds t')
 (hu : P.underlying ty = some d) (hd : (match d with | .struct _ | .array _ _ => true | _ => false) = true) (hi : (P.info? ty).map (·.size) = some cs.size)
 (hu' : P.underlying tz = some d') (hd' : (match d' with | .struct _ | .array _ _ => true | _ => false) = true) (hj : (P.info? tz).map (·.size) = some ds.size) :
 (results fn tmps).run P w = .ok (.tuple #[.agg cs, .agg ds]) w := by
 have e : (results fn tmps).run P w = ((asAddr (tmps.getD p undef)).run P w).andThen fun a w₁ => ((loadVar ty a).run P w₁).andThen fun v w₂ => ((asAddr (tmps.getD u undef)).run P w₂).andThen fun a w₁ => ((loadVar tz a).run P w₁).andThen fun v' w₂ => .ok (.tuple #[v, v']) w₂ := by
  simp only [results, h]
  simp [Sem.run_bind, Result.andThen]
 rw [e, hp, hq]
 simp [asAddr, run_loadVar_row w g t ty cs (0, 0) d hg hu hd hi, run_loadVar_row w k t' tz ds (0, 0) d' hk hu' hd' hj, Result.andThen]
theorem rdB_lt {w : World} {a : Option Addr} {len : Nat} {zs : List Int} (h : RdB w a len zs) (b : Nat) (hb : ∃ off, a = some ⟨b, off, none⟩ ∧ 0 < len) : b < w.heap.size := by
 obtain ⟨off, ha, hp⟩ := hb
 rcases h.cells with h0 | ⟨b', off', ha', hc⟩
 ·
  omega
 ·
  rw [ha] at ha'
  cases ha'
  exact World.block_lt_of_cell? _ _ (hc 0 hp)
def DrewAH (w : World) (e : Ending) (w' : World) : Prop := ∃ v u x f F G F' G', e = .returned (.tuple #[v, u]) ∧ RdAg w' v x F G ∧ RdFr w' u f F' G' ∧ Sm8 x.sealed x.taken ∧ (f.item.sk.wide ∧ f.taken.length ≤ 20) ∧ Below w.heap.size w w'
/-- The drawn agent in a variable, the results' places, the cursor. -/
structure AH0 (w : World) (q : Nat) (a : Option Addr) (len cap : Nat) (zs : List Int) (i h : Int) (gA : Nat) (ca : Array Value) (x : Ag) (F G : List Nat) (W : World) : Prop where
 r1 : Blk W w.heap.size #[.int .i64 0, .int .i64 0, .bool false, .int .i64 0, .slice none 0 0, .slice none 0 0, .int .i64 0] 27
 r2 : Blk W (w.heap.size + 1) #[.int .i64 0, .int .i64 0, .int .i64 0, .int .i64 0, .slice none 0 0, .int .i64 0, .int .i64 0, .int .i64 0, .int .i64 0, .int .i64 0, .int .i64 0, .int .i64 0, .int .i64 0, .slice none 0 0, .slice none 0 0, .slice none 0 0] 38
 cur : Cur W q a len cap zs i h
 bel : Below w.heap.size w W
 va : Blk W gA ca 27
 ra : RdAg W (.agg ca) x F G
 lt1 : w.heap.size + 1 < q
 lt2 : q < gA
 nF : ∀ b ∈ F, q < b ∧ b < gA
 nG : ∀ b ∈ G, q < b ∧ b < gA
/-- .. and the drawn frame. -/
structure AH1 (w : World) (q : Nat) (a : Option Addr) (len cap : Nat) (zs : List Int) (i h : Int) (gA : Nat) (ca : Array Value) (x : Ag) (F G : List Nat) (gF : Nat) (cf : Array Value) (f : Fr) (F' G' : List Nat) (W : World) : Prop where
 b : AH0 w q a len cap zs i h gA ca x F G W
 vf : Blk W gF cf 38
 rf : RdFr W (.agg cf) f F' G'
 lt3 : gA < gF
 nF : ∀ b ∈ F', gA < b ∧ b ≠ gF
 nG : ∀ b ∈ G', gA < b ∧ b ≠ gF
section
variable {w W W' : World} {q : Nat} {a : Option Addr} {len cap : Nat} {zs : List Int} {i h i' h' : Int} {gA gF : Nat} {ca cf : Array Value} {x : Ag} {f : Fr} {F G F' G' : List Nat}
theorem AH0.next (H : AH0 w q a len cap zs i h gA ca x F G W) (C : Cur W' q a len cap zs i' h') (g : W.grownBy W' (some q)) : AH0 w q a len cap zs i' h' gA ca x F G W' := by
 have l1 := H.lt1; have l2 := H.lt2
 exact ⟨H.r1.grown g (by omega), H.r2.grown g (by omega), C, H.bel.grown g H.bel.size (fun k hk => by simp at hk; omega), H.va.grown g (by omega), H.ra.agree (fun b hb => g.block b (H.ra.lt1 b hb) (fun e => by have := H.nF b hb; simp at e; omega)) (fun b hb => g.block b (H.ra.lt2 b hb) (fun e => by have := H.nG b hb; simp at e; omega)), H.lt1, H.lt2, H.nF, H.nG⟩
theorem AH0.below (H : AH0 w q a len cap zs i h gA ca x F G W) (k : Below W.heap.size W W') : AH0 w q a len cap zs i h gA ca x F G W' :=
 ⟨H.r1.below k, H.r2.below k, H.cur.below k, Below.next H.bel k, H.va.below k, H.ra.below k, H.lt1, H.lt2, H.nF, H.nG⟩
theorem AH0.row (H : AH0 w q a len cap zs i h gA ca x F G W) (ha : ∀ b, (∃ off, a = some ⟨b, off, none⟩ ∧ 0 < len) → b < w.heap.size) (hg : gA < gF) (ds : Array Value) : AH0 w q a len cap zs i h gA ca x F G (W.setRow gF ds) := by
 have l1 := H.lt1; have l2 := H.lt2
 exact ⟨H.r1.setRowOther (by omega), H.r2.setRowOther (by omega), cur_row H.cur (by omega) (fun b hb => by have := ha b hb; omega), below_setRow H.bel (by omega) _, H.va.setRowOther (by omega), H.ra.agree (Agree.row (fun hx => by have := H.nF _ hx; omega) _) (Agree.row (fun hx => by have := H.nG _ hx; omega) _), H.lt1, H.lt2, H.nF, H.nG⟩
theorem AH0.cell (H : AH0 w q a len cap zs i h gA ca x F G W) (ha : ∀ b, (∃ off, a = some ⟨b, off, none⟩ ∧ 0 < len) → b < w.heap.size) (hg : gA < gF) (j : Nat) (v : Value) : AH0 w q a len cap zs i h gA ca x F G (W.setCell ⟨gF, j, none⟩ v) := by
 have l1 := H.lt1; have l2 := H.lt2
 exact ⟨H.r1.setOther (by omega) _ _, H.r2.setOther (by omega) _ _, cur_cell H.cur (by omega) (fun b hb => by have := ha b hb; omega), H.bel.setCell (by show w.heap.size ≤ gF; omega) _, H.va.setOther (by omega) _ _, H.ra.agree (.set (fun hx => by have := H.nF _ hx; omega) _ _) (.set (fun hx => by have := H.nG _ hx; omega) _ _), H.lt1, H.lt2, H.nF, H.nG⟩
theorem AH1.next (H : AH1 w q a len cap zs i h gA ca x F G gF cf f F' G' W) (C : Cur W' q a len cap zs i' h') (g : W.grownBy W' (some q)) : AH1 w q a len cap zs i' h' gA ca x F G gF cf f F' G' W' := by
 have l1 := H.b.lt1; have l2 := H.b.lt2; have l3 := H.lt3
 exact ⟨H.b.next C g, H.vf.grown g (by omega), H.rf.agree (fun b hb => g.block b (H.rf.lt1 b hb) (fun e => by have := H.nF b hb; simp at e; omega)) (fun b hb => g.block b (H.rf.lt2 b hb) (fun e => by have := H.nG b hb; simp at e; omega)), H.lt3, H.nF, H.nG⟩
theorem AH1.below (H : AH1 w q a len cap zs i h gA ca x F G gF cf f F' G' W) (k : Below W.heap.size W W') : AH1 w q a len cap zs i h gA ca x F G gF cf f F' G' W' :=
 ⟨H.b.below k, H.vf.below k, H.rf.below k, H.lt3, H.nF, H.nG⟩
theorem AH1.drew (H : AH1 w q a len cap zs i h gA ca x F G gF cf f F' G' W) : AH1 w q a len cap zs i h gA ca x F G gF cf f F' G' W.drew := H.below (Below.refl _ _).drew
theorem rdFr_lit (W : World) (k n e g : Int) {b : Option Addr} {l c : Nat} {ts : Sp} {X : List Nat} (h : RdP W b l ts X) (hc : Capd b l c) : RdFr W (.agg #[.int .i64 k, .int .i64 n, .int .i64 e, .int .i64 g, .slice b l c, .int .i64 0, .int .i64 0, .int .i64 0, .int .i64 0, .int .i64 0, .int .i64 0, .int .i64 0, .int .i64 0, .slice none 0 0, .slice none 0 0, .slice none 0 0]) ⟨k, n, e, g, ts, It.zero⟩ X [] :=
 ⟨b, l, c, none, 0, 0, none, 0, 0, none, 0, 0, rfl, h, rdIt_zeroD _, hc⟩
theorem AH1.frame (H : AH1 w q a len cap zs i h gA ca x F G gF cf f F' G' W) (ha : ∀ b, (∃ off, a = some ⟨b, off, none⟩ ∧ 0 < len) → b < w.heap.size) (k n e g : Int) : AH1 w q a len cap zs i h gA ca x F G gF #[.int .i64 k, .int .i64 n, .int .i64 e, .int .i64 g, .slice none 0 0, .int .i64 0, .int .i64 0, .int .i64 0, .int .i64 0, .int .i64 0, .int .i64 0, .int .i64 0, .int .i64 0, .slice none 0 0, .slice none 0 0, .slice none 0 0] ⟨k, n, e, g, [], It.zero⟩ [] [] (W.setRow gF #[.int .i64 k, .int .i64 n, .int .i64 e, .int .i64 g, .slice none 0 0, .int .i64 0, .int .i64 0, .int .i64 0, .int .i64 0, .int .i64 0, .int .i64 0, .int .i64 0, .int .i64 0, .slice none 0 0, .slice none 0 0, .slice none 0 0]) :=
 ⟨H.b.row ha H.lt3 _, H.vf.setRow, rdFr_lit _ k n e g RdP.nil ⟨fun _ => rfl, Nat.le_refl _⟩, H.lt3, (fun b hb => by cases hb), fun b hb => by cases hb⟩
theorem AH1.taken {k n e g m : Int} {J : Nat} (H : AH1 w q a len cap zs i h gA ca x F G gF #[.int .i64 k, .int .i64 n, .int .i64 e, .int .i64 g, .slice none 0 0, .int .i64 0, .int .i64 0, .int .i64 0, .int .i64 0, .int .i64 0, .int .i64 0, .int .i64 0, .int .i64 0, .slice none 0 0, .slice none 0 0, .slice none 0 0] ⟨k, n, e, g, [], It.zero⟩ [] [] W) (ha : ∀ b, (∃ off, a = some ⟨b, off, none⟩ ∧ 0 < len) → b < w.heap.size) (hJ : gF < J) {t : TypeId} (hb : Blk W J #[.int .i64 m, .int .i64 m] t) :
 AH1 w q a len cap zs i h gA ca x F G gF #[.int .i64 k, .int .i64 n, .int .i64 e, .int .i64 g, .slice (some ⟨J, 0, none⟩) 1 1, .int .i64 0, .int .i64 0, .int .i64 0, .int .i64 0, .int .i64 0, .int .i64 0, .int .i64 0, .int .i64 0, .slice none 0 0, .slice none 0 0, .slice none 0 0] ⟨k, n, e, g, [(m, m)], It.zero⟩ [J] [] (W.setCell ⟨gF, 4, none⟩ (.slice (some ⟨J, 0, none⟩) 1 1)) := by
 have l3 := H.lt3
 exact ⟨H.b.cell ha H.lt3 _ _, H.vf.set 4 _, rdFr_lit _ k n e g (rdP_single (hb.setOther (by omega) _ _)) ⟨(fun e => by cases e), Nat.le_refl _⟩, H.lt3, (fun b hb => by rw [List.mem_singleton.1 hb]; omega), fun b hb => by cases hb⟩
theorem infoAgH8 : (Try.prog.info? 27).map (·.size) = some 7 := by kernel_rfl
theorem infoFrH8 : (Try.prog.info? 38).map (·.size) = some 16 := by kernel_rfl
end
set_option maxRecDepth 200000 in
set_option maxHeartbeats 8000000 in
theorem drawAgentHear_any (a : Option Addr) (len cap : Nat) (zs : List Int) (w : World) (hR : RdB w a len zs) (hlen : len ≤ 1048576) :
 Calls Try.prog 23 #[.slice a len cap] w fun e w' => DrewAH w e w' := by
 have HZ : Hid (Blk ((w.alloc (.cells #[.int .i64 0, .int .i64 0, .bool false, .int .i64 0, .slice none 0 0, .slice none 0 0, .int .i64 0] 27)).alloc (.cells #[.int .i64 0, .int .i64 0, .int .i64 0, .int .i64 0, .slice none 0 0, .int .i64 0, .int .i64 0, .int .i64 0, .int .i64 0, .int .i64 0, .int .i64 0, .int .i64 0, .int .i64 0, .slice none 0 0, .slice none 0 0, .slice none 0 0] 38)) w.heap.size #[.int .i64 0, .int .i64 0, .bool false, .int .i64 0, .slice none 0 0, .slice none 0 0, .int .i64 0] 27 ∧ Blk ((w.alloc (.cells #[.int .i64 0, .int .i64 0, .bool false, .int .i64 0, .slice none 0 0, .slice none 0 0, .int .i64 0] 27)).alloc (.cells #[.int .i64 0, .int .i64 0, .int .i64 0, .int .i64 0, .slice none 0 0, .int .i64 0, .int .i64 0, .int .i64 0, .int .i64 0, .int .i64 0, .int .i64 0, .int .i64 0, .int .i64 0, .slice none 0 0, .slice none 0 0, .slice none 0 0] 38)) (w.heap.size + 1) #[.int .i64 0, .int .i64 0, .int .i64 0, .int .i64 0, .slice none 0 0, .int .i64 0, .int .i64 0, .int .i64 0, .int .i64 0, .int .i64 0, .int .i64 0, .int .i64 0, .int .i64 0, .slice none 0 0, .slice none 0 0, .slice none 0 0] 38 ∧ Below w.heap.size w ((w.alloc (.cells #[.int .i64 0, .int .i64 0, .bool false, .int .i64 0, .slice none 0 0, .slice none 0 0, .int .i64 0] 27)).alloc (.cells #[.int .i64 0, .int .i64 0, .int .i64 0, .int .i64 0, .slice none 0 0, .int .i64 0, .int .i64 0, .int .i64 0, .int .i64 0, .int .i64 0, .int .i64 0, .int .i64 0, .int .i64 0, .slice none 0 0, .slice none 0 0, .slice none 0 0] 38))) := ⟨(Blk.made _ _ _).alloc _, Blk.made_eq (by simp), Below.allocW _ (Below.allocW _ (Below.refl _ _) (Nat.le_refl _)) (Nat.le_refl _)⟩
 have HR : Hid (RdB ((w.alloc (.cells #[.int .i64 0, .int .i64 0, .bool false, .int .i64 0, .slice none 0 0, .slice none 0 0, .int .i64 0] 27)).alloc (.cells #[.int .i64 0, .int .i64 0, .int .i64 0, .int .i64 0, .slice none 0 0, .int .i64 0, .int .i64 0, .int .i64 0, .int .i64 0, .int .i64 0, .int .i64 0, .int .i64 0, .int .i64 0, .slice none 0 0, .slice none 0 0, .slice none 0 0] 38)) a len zs) := hR.below HZ.out.2.2
 have HA : Hid (∀ b, (∃ off, a = some ⟨b, off, none⟩ ∧ 0 < len) → b < w.heap.size) := rdB_lt hR
 clear hR
 go_enter Try.func23, Try.ntmps23
 go_wp2_with fail
 obtain ⟨W0, hW0⟩ : ∃ W, W = ((w.alloc (.cells #[.int .i64 0, .int .i64 0, .bool false, .int .i64 0, .slice none 0 0, .slice none 0 0, .int .i64 0] 27)).alloc (.cells #[.int .i64 0, .int .i64 0, .int .i64 0, .int .i64 0, .slice none 0 0, .int .i64 0, .int .i64 0, .int .i64 0, .int .i64 0, .int .i64 0, .int .i64 0, .int .i64 0, .int .i64 0, .slice none 0 0, .slice none 0 0, .slice none 0 0] 38)) := ⟨_, rfl⟩
 rw [← hW0] at HZ HR ⊢
 clear hW0
 refine (l1New_any a len cap zs _ HR.out hlen).mono ?_
 rintro e w1 ⟨rfl, ⟨h, C1⟩, b1⟩
 have HZ1 : Hid (Blk w1 w.heap.size #[.int .i64 0, .int .i64 0, .bool false, .int .i64 0, .slice none 0 0, .slice none 0 0, .int .i64 0] 27 ∧ Blk w1 (w.heap.size + 1) #[.int .i64 0, .int .i64 0, .int .i64 0, .int .i64 0, .slice none 0 0, .int .i64 0, .int .i64 0, .int .i64 0, .int .i64 0, .int .i64 0, .int .i64 0, .int .i64 0, .int .i64 0, .slice none 0 0, .slice none 0 0, .slice none 0 0] 38 ∧ Below w.heap.size w w1 ∧ W0.heap.size < w1.heap.size ∧ w.heap.size + 1 < W0.heap.size) := ⟨HZ.out.1.below b1, HZ.out.2.1.below b1, Below.next HZ.out.2.2 b1, World.block_lt_of_cell? _ _ C1.c0, HZ.out.2.1.lt⟩
 obtain ⟨q, hqe⟩ : ∃ q, q = W0.heap.size := ⟨_, rfl⟩
 rw [← hqe] at C1 HZ1 ⊢
 have HC1 : Hid (Cur w1 q a len cap zs 0 h) := C1
 clear C1 b1 HZ HR hqe
 go_wp2_with fail
 refine (l8Draw_any q a len cap zs 0 h _ HC1.out hlen).mono ?_
 rintro e w2 ⟨v, X, F, G, i2, h2, rfl, r2, s2, oF, oG, _, C2, g2⟩
 obtain ⟨id, ep, lv, gr, xs, ts, nx⟩ := X
 obtain ⟨b1, n1, c1, b2, n2, c2, rfl, rL, rP, k1, k2⟩ := r2.opened
 have hn1 : xs.length = n1 := rL.length
 have HSM : Hid (Sm8 xs ts ∧ n1 ≤ 7) := ⟨s2, by have e : xs.length ≤ 7 := s2.2.1; omega⟩
 have H2 : Hid (Blk w2 w.heap.size #[.int .i64 0, .int .i64 0, .bool false, .int .i64 0, .slice none 0 0, .slice none 0 0, .int .i64 0] 27 ∧ Blk w2 (w.heap.size + 1) #[.int .i64 0, .int .i64 0, .int .i64 0, .int .i64 0, .slice none 0 0, .int .i64 0, .int .i64 0, .int .i64 0, .int .i64 0, .int .i64 0, .int .i64 0, .int .i64 0, .int .i64 0, .slice none 0 0, .slice none 0 0, .slice none 0 0] 38 ∧ Cur w2 q a len cap zs i2 h2 ∧ Below w.heap.size w w2 ∧ RdAg w2 (.agg #[.int .i64 id, .int .i64 ep, .bool lv, .int .i64 gr, .slice b1 n1 c1, .slice b2 n2 c2, .int .i64 nx]) ⟨id, ep, lv, gr, xs, ts, nx⟩ F G ∧ w.heap.size + 1 < q ∧ q < w2.heap.size ∧ (∀ b ∈ F, q < b ∧ b < w2.heap.size) ∧ (∀ b ∈ G, q < b ∧ b < w2.heap.size)) := by
  have l1 := HZ1.out.2.2.2.1; have l2 := HZ1.out.2.2.2.2; have l3 := g2.size
  exact ⟨HZ1.out.1.grown g2 (by omega), HZ1.out.2.1.grown g2 (by omega), C2, HZ1.out.2.2.1.grown g2 HZ1.out.2.2.1.size (fun k hk => by simp at hk; omega), r2, l2, by omega, fun b hb => ⟨by have := oF.ge b hb; omega, r2.lt1 b hb⟩, fun b hb => ⟨by have := oG.ge b hb; omega, r2.lt2 b hb⟩⟩
 clear rL rP k1 k2 r2 s2 oF oG C2 g2 HZ1 HC1 hn1
 go_wp2_with (first | go_skip | (with_reducible refine stopLoad 27 rfl ?_) | (with_reducible refine stopStore 27 rfl ?_) | (with_reducible refine stopLoad 38 rfl ?_) | (with_reducible refine stopStore 38 rfl ?_))
 refine store_fresh 27 w2.heap.size rfl #[.int .i64 0, .int .i64 0, .bool false, .int .i64 0, .slice none 0 0, .slice none 0 0, .int .i64 0] #[.int .i64 id, .int .i64 ep, .bool lv, .int .i64 gr, .slice b1 n1 c1, .slice b2 n2 c2, .int .i64 nx] 27 rfl rfl rfl rfl infoAgH8 rfl (by simp [Value.oneCell']) ?_
 intro w3 hg3 hb3
 have H3 : Hid (AH0 w q a len cap zs i2 h2 w2.heap.size #[.int .i64 id, .int .i64 ep, .bool lv, .int .i64 gr, .slice b1 n1 c1, .slice b2 n2 c2, .int .i64 nx] ⟨id, ep, lv, gr, xs, ts, nx⟩ F G w3) := ⟨H2.out.1.below hb3, H2.out.2.1.below hb3, H2.out.2.2.1.below hb3, Below.next H2.out.2.2.2.1 hb3, hg3, H2.out.2.2.2.2.1.below hb3, H2.out.2.2.2.2.2.1, H2.out.2.2.2.2.2.2.1, H2.out.2.2.2.2.2.2.2.1, H2.out.2.2.2.2.2.2.2.2⟩
 obtain ⟨gA, hL⟩ : ∃ L, L = w2.heap.size := ⟨_, rfl⟩
 rw [← hL] at H3 ⊢
 clear hg3 hb3 H2 hL
 go_wp2_with fail
 refine (l7Draw_any q a len cap zs i2 h2 _ H3.out.cur hlen).mono ?_
 rintro e w4 ⟨u, f, F', G', i4, h4, rfl, rf, wf, mf, oF, oG, _, C4, g4⟩
 obtain ⟨bt, lt, ct, p1, m1, e1, p2, m2, e2, p3, m3, e3, rfl, kP, kI, kc⟩ := rf
 have rf : RdFr w4 _ f F' G' := ⟨bt, lt, ct, p1, m1, e1, p2, m2, e2, p3, m3, e3, rfl, kP, kI, kc⟩
 have HSF : Hid (f.item.sk.wide ∧ f.taken.length ≤ 20) := ⟨wf, mf⟩
 obtain ⟨cf, hcf, hcs, hone⟩ : ∃ cf : Array Value, Value.agg #[.int .i64 f.kind, .int .i64 f.agent, .int .i64 f.epoch, .int .i64 f.granted, .slice bt lt ct, .int .i64 f.item.seq, .int .i64 f.item.cls, .int .i64 f.item.key, .int .i64 f.item.window, .int .i64 f.item.sk.count, .int .i64 f.item.sk.sum, .int .i64 f.item.sk.min, .int .i64 f.item.sk.max, .slice p1 m1 e1, .slice p2 m2 e2, .slice p3 m3 e3] = .agg cf ∧ cf.size = 16 ∧ cf.all (·.oneCell') = true := ⟨_, rfl, rfl, by simp [Value.oneCell']⟩
 rw [hcf] at rf ⊢
 have H4 : Hid (AH0 w q a len cap zs i4 h4 gA #[.int .i64 id, .int .i64 ep, .bool lv, .int .i64 gr, .slice b1 n1 c1, .slice b2 n2 c2, .int .i64 nx] ⟨id, ep, lv, gr, xs, ts, nx⟩ F G w4 ∧ RdFr w4 (.agg cf) f F' G' ∧ (∀ b ∈ F', gA < b) ∧ (∀ b ∈ G', gA < b)) := ⟨H3.out.next C4 g4, rf, fun b hb => by have := oF.ge b hb; have := H3.out.va.lt; omega, fun b hb => by have := oG.ge b hb; have := H3.out.va.lt; omega⟩
 have hfi : (Try.prog.info? 38).map (·.size) = some cf.size := by rw [hcs]; exact infoFrH8
 clear rf wf mf oF oG C4 g4 H3 kP kI kc hcf
 go_wp2_with (first | go_skip | (with_reducible refine stopLoad 27 rfl ?_) | (with_reducible refine stopStore 27 rfl ?_) | (with_reducible refine stopLoad 38 rfl ?_) | (with_reducible refine stopStore 38 rfl ?_))
 refine store_fresh 38 w4.heap.size rfl #[.int .i64 0, .int .i64 0, .int .i64 0, .int .i64 0, .slice none 0 0, .int .i64 0, .int .i64 0, .int .i64 0, .int .i64 0, .int .i64 0, .int .i64 0, .int .i64 0, .int .i64 0, .slice none 0 0, .slice none 0 0, .slice none 0 0] cf 38 rfl rfl rfl rfl hfi (by rw [hcs]; rfl) hone ?_
 intro w5 hg5 hb5
 have H5 : Hid (AH1 w q a len cap zs i4 h4 gA #[.int .i64 id, .int .i64 ep, .bool lv, .int .i64 gr, .slice b1 n1 c1, .slice b2 n2 c2, .int .i64 nx] ⟨id, ep, lv, gr, xs, ts, nx⟩ F G w4.heap.size cf f F' G' w5) := ⟨H4.out.1.below hb5, hg5, H4.out.2.1.below hb5, H4.out.1.va.lt, fun b hb => ⟨H4.out.2.2.1 b hb, by have := H4.out.2.1.lt1 b hb; omega⟩, fun b hb => ⟨H4.out.2.2.2 b hb, by have := H4.out.2.1.lt2 b hb; omega⟩⟩
 obtain ⟨gF, hL⟩ : ∃ L, L = w4.heap.size := ⟨_, rfl⟩
 rw [← hL] at H5 ⊢
 clear hg5 hb5 H4 hL
 go_wp2_with fail
 refine (l1Once_any q a len cap zs i4 h4 4 _ H5.out.b.cur hlen (by omega) (by omega)).mono ?_
 rintro e w6 ⟨d6, i6, h6, rfl, C6, g6⟩
 have H6 : Hid (AH1 w q a len cap zs i6 h6 gA #[.int .i64 id, .int .i64 ep, .bool lv, .int .i64 gr, .slice b1 n1 c1, .slice b2 n2 c2, .int .i64 nx] ⟨id, ep, lv, gr, xs, ts, nx⟩ F G gF cf f F' G' w6) := H5.out.next C6 g6
 clear C6 g6 H5
 cases d6
 ·
  go_wp2_with fail
  obtain ⟨WD, hWD⟩ : ∃ W, W = w6.drew := ⟨_, rfl⟩
  have HD0 := H6.out.drew
  rw [← hWD] at HD0
  have HD5 : Hid (AH1 w q a len cap zs i6 h6 gA #[.int .i64 id, .int .i64 ep, .bool lv, .int .i64 gr, .slice b1 n1 c1, .slice b2 n2 c2, .int .i64 nx] ⟨id, ep, lv, gr, xs, ts, nx⟩ F G gF cf f F' G' WD) := HD0
  clear HD0 H6
  refine wp_region_held (S := fun W => Blk W gA #[.int .i64 id, .int .i64 ep, .bool lv, .int .i64 gr, .slice b1 n1 c1, .slice b2 n2 c2, .int .i64 nx] 27) (by kernel_rfl) ?_
  change wpAnyH _ _ _ _ _ _ _ _ (World.drew _)
  rw [← hWD]
  clear hWD
  refine takeH (o := ?o62) 0 (.pointer (some ⟨q, 0, none⟩)) ?h62 ?r62
  case h62 => simp only [aT, aZ]; rfl
  refine ⟨_, by simp [Act.put]; rfl, by kernel_rfl, by kernel_rfl, by kernel_rfl, fun _ _ _ h => h, (.inl ⟨rfl, fun W _ => by kernel_rfl⟩), HD5.out.b.va, ?_⟩
  refine takeH (o := ?o63) 3 (.pointer (some ⟨gA, 0, none⟩)) ?h63 ?r63
  case h63 => simp only [aT, aS, aZ]; rfl
  refine ⟨_, by simp [Act.put]; rfl, by kernel_rfl, by kernel_rfl, by kernel_rfl, fun _ _ _ h => h, (.inl ⟨rfl, fun W _ => by kernel_rfl⟩), HD5.out.b.va, ?_⟩
  refine takeH (o := ?o64) 4 (.int .i64 id) ?h64 ?r64
  case h64 => simp only [aT, aS, aZ]; rfl
  refine ⟨_, by simp [Act.put]; rfl, by kernel_rfl, by kernel_rfl, by kernel_rfl, fun _ _ _ h => h, (.inl ⟨rfl, fun W hW => by have c := hW.cell 0; simp only [aT, aZ] at c; go_simp⟩), HD5.out.b.va, ?_⟩
  refine takeH (o := ?o65) 5 (.pointer (some ⟨q, 0, none⟩)) ?h65 ?r65
  case h65 => simp only [aT, aS, aZ]; rfl
  refine ⟨_, by simp [Act.put]; rfl, by kernel_rfl, by kernel_rfl, by kernel_rfl, fun _ _ _ h => h, (.inl ⟨rfl, fun W _ => by kernel_rfl⟩), HD5.out.b.va, ?_⟩
  refine takeH (o := ?o66) 7 (.pointer (some ⟨q, 0, none⟩)) ?h66 ?r66
  case h66 => simp only [aT, aS, aZ]; rfl
  refine ⟨_, by simp [Act.put]; rfl, by kernel_rfl, by kernel_rfl, by kernel_rfl, fun _ _ _ h => h, (.inl ⟨rfl, fun W _ => by kernel_rfl⟩), HD5.out.b.va, ?_⟩
  refine onlyH (o := ?o67) 1 (by kernel_rfl) ?h67 ?r67
  case h67 => simp only [aT, aS, aZ]; rfl
  intro K hK
  refine op_call2v 61 _ _ _ Try.f61 (fun v w' => ∃ x i' h', v = .int .i64 x ∧ 0 ≤ x ∧ x < 2 ∧ Cur w' q a len cap zs i' h' ∧ WD.grownBy w' (some q)) rfl rfl Try.func61 (by kernel_rfl) (by kernel_rfl) ((l1Below_any q a len cap zs i6 h6 2 WD HD5.out.b.cur hlen (by omega) (by omega)).mono (by rintro e w' ⟨x, i', h', rfl, r⟩; exact ⟨_, rfl, x, i', h', rfl, r⟩)) ?_
  rintro v x1 ⟨y1, j1, t1, rfl, _, y1lt, C9, g9⟩
  have HX1 : Hid (AH1 w q a len cap zs j1 t1 gA #[.int .i64 id, .int .i64 ep, .bool lv, .int .i64 gr, .slice b1 n1 c1, .slice b2 n2 c2, .int .i64 nx] ⟨id, ep, lv, gr, xs, ts, nx⟩ F G gF cf f F' G' x1) := HD5.out.next C9 g9
  clear C9 g9 HD5
  refine ⟨_, by simp [Act.put]; rfl, hK _ _ ⟨HX1.out.b.va, ?_⟩⟩
  clear hK
  obtain ⟨kd, hkd⟩ : ∃ n, n = 2 + y1 := ⟨_, rfl⟩
  have hwk : IntKind.i64.wrap (2 + y1) = kd := by rw [hkd]; exact wrapD (by omega) (by omega)
  refine takeH (o := ?o68) 2 (.int .i64 kd) ?h68 ?r68
  case h68 => simp only [aT, aS, aZ]; rfl
  refine ⟨_, by simp [Act.put]; rfl, by kernel_rfl, by kernel_rfl, by kernel_rfl, fun _ _ _ h => h, (.inl ⟨rfl, fun W _ => by first | (go_simp; done) | (go_simp; exact hwk)⟩), HX1.out.b.va, ?_⟩
  refine onlyH (o := ?o69) 6 (by kernel_rfl) ?h69 ?r69
  case h69 => simp only [aT, aS, aZ]; rfl
  intro K hK
  refine op_call2v 61 _ _ _ Try.f61 (fun v w' => ∃ x i' h', v = .int .i64 x ∧ 0 ≤ x ∧ x < 4 ∧ Cur w' q a len cap zs i' h' ∧ x1.grownBy w' (some q)) rfl rfl Try.func61 (by kernel_rfl) (by kernel_rfl) ((l1Below_any q a len cap zs j1 t1 4 x1 HX1.out.b.cur hlen (by omega) (by omega)).mono (by rintro e w' ⟨x, i', h', rfl, r⟩; exact ⟨_, rfl, x, i', h', rfl, r⟩)) ?_
  rintro v x2 ⟨y2, j2, t2, rfl, _, y2lt, C9, g9⟩
  have HX2 : Hid (AH1 w q a len cap zs j2 t2 gA #[.int .i64 id, .int .i64 ep, .bool lv, .int .i64 gr, .slice b1 n1 c1, .slice b2 n2 c2, .int .i64 nx] ⟨id, ep, lv, gr, xs, ts, nx⟩ F G gF cf f F' G' x2) := HX1.out.next C9 g9
  clear C9 g9 HX1
  refine ⟨_, by simp [Act.put]; rfl, hK _ _ ⟨HX2.out.b.va, ?_⟩⟩
  clear hK
  refine onlyH (o := ?o70) 8 (by kernel_rfl) ?h70 ?r70
  case h70 => simp only [aT, aS, aZ]; rfl
  intro K hK
  refine op_call2v 61 _ _ _ Try.f61 (fun v w' => ∃ x i' h', v = .int .i64 x ∧ 0 ≤ x ∧ x < 9 ∧ Cur w' q a len cap zs i' h' ∧ x2.grownBy w' (some q)) rfl rfl Try.func61 (by kernel_rfl) (by kernel_rfl) ((l1Below_any q a len cap zs j2 t2 9 x2 HX2.out.b.cur hlen (by omega) (by omega)).mono (by rintro e w' ⟨x, i', h', rfl, r⟩; exact ⟨_, rfl, x, i', h', rfl, r⟩)) ?_
  rintro v x3 ⟨y3, j3, t3, rfl, _, y3lt, C9, g9⟩
  have HX3 : Hid (AH1 w q a len cap zs j3 t3 gA #[.int .i64 id, .int .i64 ep, .bool lv, .int .i64 gr, .slice b1 n1 c1, .slice b2 n2 c2, .int .i64 nx] ⟨id, ep, lv, gr, xs, ts, nx⟩ F G gF cf f F' G' x3) := HX2.out.next C9 g9
  clear C9 g9 HX2
  refine ⟨_, by simp [Act.put]; rfl, hK _ _ ⟨HX3.out.b.va, ?_⟩⟩
  clear hK
  refine takeH (o := ?o71) 9 (.agg #[.int .i64 kd, .int .i64 id, .int .i64 y2, .int .i64 y3, .slice none 0 0, .int .i64 0, .int .i64 0, .int .i64 0, .int .i64 0, .int .i64 0, .int .i64 0, .int .i64 0, .int .i64 0, .slice none 0 0, .slice none 0 0, .slice none 0 0]) ?h71 ?r71
  case h71 => simp only [aT, aS, aZ]; rfl
  refine ⟨_, by simp [Act.put]; rfl, by kernel_rfl, by kernel_rfl, by kernel_rfl, fun _ _ _ h => h, (.inl ⟨rfl, fun W _ => by kernel_rfl⟩), HX3.out.b.va, ?_⟩
  refine onlyH (o := ?o72) 10 (by kernel_rfl) ?h72 ?r72
  case h72 => simp only [aT, aS, aZ]; rfl
  intro K hK
  have HY0 := HX3.out.frame HA.out kd id y2 y3
  have l3 := HX3.out.lt3
  refine op_store 38 gF cf #[.int .i64 kd, .int .i64 id, .int .i64 y2, .int .i64 y3, .slice none 0 0, .int .i64 0, .int .i64 0, .int .i64 0, .int .i64 0, .int .i64 0, .int .i64 0, .int .i64 0, .int .i64 0, .slice none 0 0, .slice none 0 0, .slice none 0 0] 38 rfl rfl rfl rfl HX3.out.vf infoFrH8 (by rw [hcs]; rfl) (by simp [Value.oneCell']) ⟨_, by simp [Act.put]; rfl, hK _ _ ⟨HY0.b.va, ?_⟩⟩
  clear hK
  refine wpAnyH_done (by kernel_rfl) ?_ _
  obtain ⟨w7, hw7⟩ : ∃ W, W = x3.setRow gF #[.int .i64 kd, .int .i64 id, .int .i64 y2, .int .i64 y3, .slice none 0 0, .int .i64 0, .int .i64 0, .int .i64 0, .int .i64 0, .int .i64 0, .int .i64 0, .int .i64 0, .int .i64 0, .slice none 0 0, .slice none 0 0, .slice none 0 0] := ⟨_, rfl⟩
  rw [← hw7] at HY0 ⊢
  have H7 : Hid (AH1 w q a len cap zs j3 t3 gA #[.int .i64 id, .int .i64 ep, .bool lv, .int .i64 gr, .slice b1 n1 c1, .slice b2 n2 c2, .int .i64 nx] ⟨id, ep, lv, gr, xs, ts, nx⟩ F G gF #[.int .i64 kd, .int .i64 id, .int .i64 y2, .int .i64 y3, .slice none 0 0, .int .i64 0, .int .i64 0, .int .i64 0, .int .i64 0, .int .i64 0, .int .i64 0, .int .i64 0, .int .i64 0, .slice none 0 0, .slice none 0 0, .slice none 0 0] ⟨kd, id, y2, y3, [], It.zero⟩ [] [] w7) := HY0
  have HSZ : Hid (It.zero.sk.wide ∧ ([] : Sp).length ≤ 20) := ⟨zero_wideD, by simp⟩
  clear HY0 hw7 HX3 l3 hwk hkd y1lt y2lt y3lt hone hfi hcs
  have c4' := H7.out.b.va.cell 4
  simp only [aT, aS, aZ] at c4'
  by_cases hn : 0 < n1
  ·
   have hcd : decide ((n1 : Int) > 0) = true := decT (by omega)
   have hcd' : decide ((0 : Int) < (n1 : Int)) = true := decT (by omega)
   go_wp2_with fail
   refine (l1Once_any q a len cap zs j3 t3 2 _ H7.out.b.cur hlen (by omega) (by omega)).mono ?_
   rintro e w8 ⟨d8, i8, h8, rfl, C8, g8⟩
   have H8 : Hid (AH1 w q a len cap zs i8 h8 gA #[.int .i64 id, .int .i64 ep, .bool lv, .int .i64 gr, .slice b1 n1 c1, .slice b2 n2 c2, .int .i64 nx] ⟨id, ep, lv, gr, xs, ts, nx⟩ F G gF #[.int .i64 kd, .int .i64 id, .int .i64 y2, .int .i64 y3, .slice none 0 0, .int .i64 0, .int .i64 0, .int .i64 0, .int .i64 0, .int .i64 0, .int .i64 0, .int .i64 0, .int .i64 0, .slice none 0 0, .slice none 0 0, .slice none 0 0] ⟨kd, id, y2, y3, [], It.zero⟩ [] [] w8) := H7.out.next C8 g8
   clear C8 g8 H7 c4' hcd hcd'
   cases d8
   ·
    go_wp2_with fail
    obtain ⟨WD, hWD⟩ : ∃ W, W = w8.drew := ⟨_, rfl⟩
    have HD0 := H8.out.drew
    rw [← hWD] at HD0
    have HD : Hid (AH1 w q a len cap zs i8 h8 gA #[.int .i64 id, .int .i64 ep, .bool lv, .int .i64 gr, .slice b1 n1 c1, .slice b2 n2 c2, .int .i64 nx] ⟨id, ep, lv, gr, xs, ts, nx⟩ F G gF #[.int .i64 kd, .int .i64 id, .int .i64 y2, .int .i64 y3, .slice none 0 0, .int .i64 0, .int .i64 0, .int .i64 0, .int .i64 0, .int .i64 0, .int .i64 0, .int .i64 0, .int .i64 0, .slice none 0 0, .slice none 0 0, .slice none 0 0] ⟨kd, id, y2, y3, [], It.zero⟩ [] [] WD) := HD0
    clear HD0 H8
    refine wp_region_held (S := fun W => Blk W gA #[.int .i64 id, .int .i64 ep, .bool lv, .int .i64 gr, .slice b1 n1 c1, .slice b2 n2 c2, .int .i64 nx] 27 ∧ Blk W gF #[.int .i64 kd, .int .i64 id, .int .i64 y2, .int .i64 y3, .slice none 0 0, .int .i64 0, .int .i64 0, .int .i64 0, .int .i64 0, .int .i64 0, .int .i64 0, .int .i64 0, .int .i64 0, .slice none 0 0, .slice none 0 0, .slice none 0 0] 38) (by kernel_rfl) ?_
    change wpAnyH _ _ _ _ _ _ _ _ (World.drew _)
    rw [← hWD]
    clear hWD
    have l1 := HD.out.b.lt1
    have l2 := HD.out.b.lt2
    have l3 := HD.out.lt3
    refine takeH (o := ?o77) 0 (.agg #[.int .i64 id, .int .i64 ep, .bool lv, .int .i64 gr, .slice b1 n1 c1, .slice b2 n2 c2, .int .i64 nx]) ?h77 ?r77
    case h77 => simp only [aT, aZ]; rfl
    refine ⟨_, by simp [Act.put]; rfl, by kernel_rfl, by kernel_rfl, by kernel_rfl, fun _ _ _ h => h, (yields_whole 27 gA #[.int .i64 id, .int .i64 ep, .bool lv, .int .i64 gr, .slice b1 n1 c1, .slice b2 n2 c2, .int .i64 nx] 27 _ rfl rfl rfl Try.underlying27 rfl infoAgH8 (fun W hW => hW.1)), ⟨HD.out.b.va, HD.out.vf⟩, ?_⟩
    refine takeH (o := ?o78) 1 (.agg #[.int .i64 kd, .int .i64 id, .int .i64 y2, .int .i64 y3, .slice none 0 0, .int .i64 0, .int .i64 0, .int .i64 0, .int .i64 0, .int .i64 0, .int .i64 0, .int .i64 0, .int .i64 0, .slice none 0 0, .slice none 0 0, .slice none 0 0]) ?h78 ?r78
    case h78 => simp only [aT, aS, aZ]; rfl
    refine ⟨_, by simp [Act.put]; rfl, by kernel_rfl, by kernel_rfl, by kernel_rfl, fun _ _ _ h => h, (yields_whole 38 gF #[.int .i64 kd, .int .i64 id, .int .i64 y2, .int .i64 y3, .slice none 0 0, .int .i64 0, .int .i64 0, .int .i64 0, .int .i64 0, .int .i64 0, .int .i64 0, .int .i64 0, .int .i64 0, .slice none 0 0, .slice none 0 0, .slice none 0 0] 38 _ rfl rfl rfl Try.underlying38 rfl infoFrH8 (fun W hW => hW.2)), ⟨HD.out.b.va, HD.out.vf⟩, ?_⟩
    refine onlyH (o := ?o79) 2 (by kernel_rfl) ?h79 ?r79
    case h79 => simp only [aT, aS, aZ]; rfl
    intro K hK
    refine op_store 27 w.heap.size #[.int .i64 0, .int .i64 0, .bool false, .int .i64 0, .slice none 0 0, .slice none 0 0, .int .i64 0] #[.int .i64 id, .int .i64 ep, .bool lv, .int .i64 gr, .slice b1 n1 c1, .slice b2 n2 c2, .int .i64 nx] 27 rfl rfl rfl rfl HD.out.b.r1 infoAgH8 rfl (by simp [Value.oneCell']) ⟨_, by simp [Act.put]; rfl, hK _ _ ⟨⟨HD.out.b.va.setRowOther (by omega), HD.out.vf.setRowOther (by omega)⟩, ?_⟩⟩
    clear hK
    refine onlyH (o := ?o80) 3 (by kernel_rfl) ?h80 ?r80
    case h80 => simp only [aT, aS, aZ]; rfl
    intro K hK
    refine op_store 38 (w.heap.size + 1) #[.int .i64 0, .int .i64 0, .int .i64 0, .int .i64 0, .slice none 0 0, .int .i64 0, .int .i64 0, .int .i64 0, .int .i64 0, .int .i64 0, .int .i64 0, .int .i64 0, .int .i64 0, .slice none 0 0, .slice none 0 0, .slice none 0 0] #[.int .i64 kd, .int .i64 id, .int .i64 y2, .int .i64 y3, .slice none 0 0, .int .i64 0, .int .i64 0, .int .i64 0, .int .i64 0, .int .i64 0, .int .i64 0, .int .i64 0, .int .i64 0, .slice none 0 0, .slice none 0 0, .slice none 0 0] 38 rfl rfl rfl rfl (HD.out.b.r2.setRowOther (by omega)) infoFrH8 rfl (by simp [Value.oneCell']) ⟨_, by simp [Act.put]; rfl, hK _ _ ⟨⟨(HD.out.b.va.setRowOther (by omega)).setRowOther (by omega), (HD.out.vf.setRowOther (by omega)).setRowOther (by omega)⟩, ?_⟩⟩
    clear hK
    refine wpAnyH_done (by kernel_rfl) ?_ _
    obtain ⟨WE, hWE⟩ : ∃ W, W = ((WD.setRow w.heap.size #[.int .i64 id, .int .i64 ep, .bool lv, .int .i64 gr, .slice b1 n1 c1, .slice b2 n2 c2, .int .i64 nx]).setRow (w.heap.size + 1) #[.int .i64 kd, .int .i64 id, .int .i64 y2, .int .i64 y3, .slice none 0 0, .int .i64 0, .int .i64 0, .int .i64 0, .int .i64 0, .int .i64 0, .int .i64 0, .int .i64 0, .int .i64 0, .slice none 0 0, .slice none 0 0, .slice none 0 0]) := ⟨_, rfl⟩
    have e1 : Blk WE w.heap.size #[.int .i64 id, .int .i64 ep, .bool lv, .int .i64 gr, .slice b1 n1 c1, .slice b2 n2 c2, .int .i64 nx] 27 := by rw [hWE]; exact (HD.out.b.r1.setRow).setRowOther (by omega)
    have e2 : Blk WE (w.heap.size + 1) #[.int .i64 kd, .int .i64 id, .int .i64 y2, .int .i64 y3, .slice none 0 0, .int .i64 0, .int .i64 0, .int .i64 0, .int .i64 0, .int .i64 0, .int .i64 0, .int .i64 0, .int .i64 0, .slice none 0 0, .slice none 0 0, .slice none 0 0] 38 := by rw [hWE]; exact (HD.out.b.r2.setRowOther (by omega)).setRow
    have e3 : RdAg WE (.agg #[.int .i64 id, .int .i64 ep, .bool lv, .int .i64 gr, .slice b1 n1 c1, .slice b2 n2 c2, .int .i64 nx]) ⟨id, ep, lv, gr, xs, ts, nx⟩ F G := by
     rw [hWE]
     exact (HD.out.b.ra.agree (Agree.row (fun hx => by have := HD.out.b.nF _ hx; omega) _) (Agree.row (fun hx => by have := HD.out.b.nG _ hx; omega) _)).agree (Agree.row (fun hx => by have := HD.out.b.nF _ hx; omega) _) (Agree.row (fun hx => by have := HD.out.b.nG _ hx; omega) _)
    have e4 : RdFr WE (.agg #[.int .i64 kd, .int .i64 id, .int .i64 y2, .int .i64 y3, .slice none 0 0, .int .i64 0, .int .i64 0, .int .i64 0, .int .i64 0, .int .i64 0, .int .i64 0, .int .i64 0, .int .i64 0, .slice none 0 0, .slice none 0 0, .slice none 0 0]) ⟨kd, id, y2, y3, [], It.zero⟩ [] [] := by
     rw [hWE]
     exact (HD.out.rf.agree (Agree.row (fun hx => by have := HD.out.nF _ hx; omega) _) (Agree.row (fun hx => by have := HD.out.nG _ hx; omega) _)).agree (Agree.row (fun hx => by have := HD.out.nF _ hx; omega) _) (Agree.row (fun hx => by have := HD.out.nG _ hx; omega) _)
    have e5 : Below w.heap.size w WE := by rw [hWE]; exact below_setRow (below_setRow HD.out.b.bel (by omega) _) (by omega) _
    rw [← hWE]
    clear hWE HD
    go_wp2
    refine bodyPost_ret (results_row_twoH Try.results23 _ _ w.heap.size (w.heap.size + 1) _ _ _ _ _ _ rfl rfl e1 e2 Try.underlying27 rfl infoAgH8 Try.underlying38 rfl infoFrH8) rfl ?_
    exact ⟨_, _, ⟨id, ep, lv, gr, xs, ts, nx⟩, ⟨kd, id, y2, y3, [], It.zero⟩, F, G, [], [], rfl, e3, e4, HSM.out.1, HSZ.out, e5⟩
   ·
    have c4' := H8.out.b.va.cell 4
    simp only [aT, aS, aZ] at c4'
    go_wp2_with fail
    have hn7 := HSM.out.2
    refine (l1Below_any q a len cap zs i8 h8 n1 _ H8.out.b.cur hlen (by omega) (by omega)).mono ?_
    rintro e w9 ⟨y9, i9, h9, rfl, z0, z1, C9, g9⟩
    have H9 : Hid (AH1 w q a len cap zs i9 h9 gA #[.int .i64 id, .int .i64 ep, .bool lv, .int .i64 gr, .slice b1 n1 c1, .slice b2 n2 c2, .int .i64 nx] ⟨id, ep, lv, gr, xs, ts, nx⟩ F G gF #[.int .i64 kd, .int .i64 id, .int .i64 y2, .int .i64 y3, .slice none 0 0, .int .i64 0, .int .i64 0, .int .i64 0, .int .i64 0, .int .i64 0, .int .i64 0, .int .i64 0, .int .i64 0, .slice none 0 0, .slice none 0 0, .slice none 0 0] ⟨kd, id, y2, y3, [], It.zero⟩ [] [] w9) := H8.out.next C9 g9
    obtain ⟨mm, hmm⟩ : ∃ n, n = 1 + y9 := ⟨_, rfl⟩
    have hwm : IntKind.i64.wrap (1 + y9) = mm := by rw [hmm]; exact wrapD (by omega) (by omega)
    clear C9 g9 H8 c4' hmm z0 z1
    go_wp2_with fail
    try rw [hwm]
    refine (l8One_any mm _).mono ?_
    rintro e w10 ⟨rfl, bz⟩
    have H10 : Hid (AH1 w q a len cap zs i9 h9 gA #[.int .i64 id, .int .i64 ep, .bool lv, .int .i64 gr, .slice b1 n1 c1, .slice b2 n2 c2, .int .i64 nx] ⟨id, ep, lv, gr, xs, ts, nx⟩ F G gF #[.int .i64 kd, .int .i64 id, .int .i64 y2, .int .i64 y3, .slice none 0 0, .int .i64 0, .int .i64 0, .int .i64 0, .int .i64 0, .int .i64 0, .int .i64 0, .int .i64 0, .int .i64 0, .slice none 0 0, .slice none 0 0, .slice none 0 0] ⟨kd, id, y2, y3, [], It.zero⟩ [] [] w10) := H9.out.below bz
    clear bz H9
    have c4' := H10.out.vf.cell 4
    have f4' := H10.out.vf.frozen 4
    simp only [aT, aS, aZ] at c4'
    have bl0 : Below w10.heap.size w10 (w10.alloc (.cells #[.int .i64 mm, .int .i64 mm] 81)) := (Below.refl _ _).alloc (Nat.le_refl _) _
    have c4a := (H10.out.below bl0).vf.cell 4
    have f4a := (H10.out.below bl0).vf.frozen 4
    simp only [aT, aS, aZ] at c4a
    go_wp2_with fail
    clear c4a f4a bl0
    obtain ⟨J, hJ⟩ : ∃ z, z = w10.heap.size := ⟨_, rfl⟩
    obtain ⟨w11, hw11⟩ : ∃ W, W = w10.alloc (.cells #[.int .i64 mm, .int .i64 mm] 81) := ⟨_, rfl⟩
    have bl : Below w10.heap.size w10 w11 := by rw [hw11]; exact (Below.refl _ _).alloc (Nat.le_refl _) _
    have bJ : Blk w11 J #[.int .i64 mm, .int .i64 mm] 81 := by rw [hw11, hJ]; exact Blk.made _ _ _
    have hgJ : gF < J := by rw [hJ]; exact H10.out.vf.lt
    have HT0 := (H10.out.below bl).taken HA.out hgJ bJ
    try rw [← hw11]
    try rw [← hJ]
    obtain ⟨w12, hw12⟩ : ∃ W, W = w11.setCell ⟨gF, 4, none⟩ (.slice (some ⟨J, 0, none⟩) 1 1) := ⟨_, rfl⟩
    rw [← hw12] at HT0 ⊢
    have HT : Hid (AH1 w q a len cap zs i9 h9 gA #[.int .i64 id, .int .i64 ep, .bool lv, .int .i64 gr, .slice b1 n1 c1, .slice b2 n2 c2, .int .i64 nx] ⟨id, ep, lv, gr, xs, ts, nx⟩ F G gF #[.int .i64 kd, .int .i64 id, .int .i64 y2, .int .i64 y3, .slice (some ⟨J, 0, none⟩) 1 1, .int .i64 0, .int .i64 0, .int .i64 0, .int .i64 0, .int .i64 0, .int .i64 0, .int .i64 0, .int .i64 0, .slice none 0 0, .slice none 0 0, .slice none 0 0] ⟨kd, id, y2, y3, [(mm, mm)], It.zero⟩ [J] [] w12) := HT0
    have HSZ2 : Hid (It.zero.sk.wide ∧ ([(mm, mm)] : Sp).length ≤ 20) := ⟨zero_wideD, by simp⟩
    clear HT0 hw12 bl bJ hgJ H10 hw11 hJ c4' f4' hwm HSZ
    go_wp2_with fail
    obtain ⟨WD, hWD⟩ : ∃ W, W = w12.drew := ⟨_, rfl⟩
    have HD0 := HT.out.drew
    rw [← hWD] at HD0
    have HD : Hid (AH1 w q a len cap zs i9 h9 gA #[.int .i64 id, .int .i64 ep, .bool lv, .int .i64 gr, .slice b1 n1 c1, .slice b2 n2 c2, .int .i64 nx] ⟨id, ep, lv, gr, xs, ts, nx⟩ F G gF #[.int .i64 kd, .int .i64 id, .int .i64 y2, .int .i64 y3, .slice (some ⟨J, 0, none⟩) 1 1, .int .i64 0, .int .i64 0, .int .i64 0, .int .i64 0, .int .i64 0, .int .i64 0, .int .i64 0, .int .i64 0, .slice none 0 0, .slice none 0 0, .slice none 0 0] ⟨kd, id, y2, y3, [(mm, mm)], It.zero⟩ [J] [] WD) := HD0
    clear HD0 HT
    refine wp_region_held (S := fun W => Blk W gA #[.int .i64 id, .int .i64 ep, .bool lv, .int .i64 gr, .slice b1 n1 c1, .slice b2 n2 c2, .int .i64 nx] 27 ∧ Blk W gF #[.int .i64 kd, .int .i64 id, .int .i64 y2, .int .i64 y3, .slice (some ⟨J, 0, none⟩) 1 1, .int .i64 0, .int .i64 0, .int .i64 0, .int .i64 0, .int .i64 0, .int .i64 0, .int .i64 0, .int .i64 0, .slice none 0 0, .slice none 0 0, .slice none 0 0] 38) (by kernel_rfl) ?_
    change wpAnyH _ _ _ _ _ _ _ _ (World.drew _)
    rw [← hWD]
    clear hWD
    have l1 := HD.out.b.lt1
    have l2 := HD.out.b.lt2
    have l3 := HD.out.lt3
    refine takeH (o := ?o73) 0 (.agg #[.int .i64 id, .int .i64 ep, .bool lv, .int .i64 gr, .slice b1 n1 c1, .slice b2 n2 c2, .int .i64 nx]) ?h73 ?r73
    case h73 => simp only [aT, aZ]; rfl
    refine ⟨_, by simp [Act.put]; rfl, by kernel_rfl, by kernel_rfl, by kernel_rfl, fun _ _ _ h => h, (yields_whole 27 gA #[.int .i64 id, .int .i64 ep, .bool lv, .int .i64 gr, .slice b1 n1 c1, .slice b2 n2 c2, .int .i64 nx] 27 _ rfl rfl rfl Try.underlying27 rfl infoAgH8 (fun W hW => hW.1)), ⟨HD.out.b.va, HD.out.vf⟩, ?_⟩
    refine takeH (o := ?o74) 1 (.agg #[.int .i64 kd, .int .i64 id, .int .i64 y2, .int .i64 y3, .slice (some ⟨J, 0, none⟩) 1 1, .int .i64 0, .int .i64 0, .int .i64 0, .int .i64 0, .int .i64 0, .int .i64 0, .int .i64 0, .int .i64 0, .slice none 0 0, .slice none 0 0, .slice none 0 0]) ?h74 ?r74
    case h74 => simp only [aT, aS, aZ]; rfl
    refine ⟨_, by simp [Act.put]; rfl, by kernel_rfl, by kernel_rfl, by kernel_rfl, fun _ _ _ h => h, (yields_whole 38 gF #[.int .i64 kd, .int .i64 id, .int .i64 y2, .int .i64 y3, .slice (some ⟨J, 0, none⟩) 1 1, .int .i64 0, .int .i64 0, .int .i64 0, .int .i64 0, .int .i64 0, .int .i64 0, .int .i64 0, .int .i64 0, .slice none 0 0, .slice none 0 0, .slice none 0 0] 38 _ rfl rfl rfl Try.underlying38 rfl infoFrH8 (fun W hW => hW.2)), ⟨HD.out.b.va, HD.out.vf⟩, ?_⟩
    refine onlyH (o := ?o75) 2 (by kernel_rfl) ?h75 ?r75
    case h75 => simp only [aT, aS, aZ]; rfl
    intro K hK
    refine op_store 27 w.heap.size #[.int .i64 0, .int .i64 0, .bool false, .int .i64 0, .slice none 0 0, .slice none 0 0, .int .i64 0] #[.int .i64 id, .int .i64 ep, .bool lv, .int .i64 gr, .slice b1 n1 c1, .slice b2 n2 c2, .int .i64 nx] 27 rfl rfl rfl rfl HD.out.b.r1 infoAgH8 rfl (by simp [Value.oneCell']) ⟨_, by simp [Act.put]; rfl, hK _ _ ⟨⟨HD.out.b.va.setRowOther (by omega), HD.out.vf.setRowOther (by omega)⟩, ?_⟩⟩
    clear hK
    refine onlyH (o := ?o76) 3 (by kernel_rfl) ?h76 ?r76
    case h76 => simp only [aT, aS, aZ]; rfl
    intro K hK
    refine op_store 38 (w.heap.size + 1) #[.int .i64 0, .int .i64 0, .int .i64 0, .int .i64 0, .slice none 0 0, .int .i64 0, .int .i64 0, .int .i64 0, .int .i64 0, .int .i64 0, .int .i64 0, .int .i64 0, .int .i64 0, .slice none 0 0, .slice none 0 0, .slice none 0 0] #[.int .i64 kd, .int .i64 id, .int .i64 y2, .int .i64 y3, .slice (some ⟨J, 0, none⟩) 1 1, .int .i64 0, .int .i64 0, .int .i64 0, .int .i64 0, .int .i64 0, .int .i64 0, .int .i64 0, .int .i64 0, .slice none 0 0, .slice none 0 0, .slice none 0 0] 38 rfl rfl rfl rfl (HD.out.b.r2.setRowOther (by omega)) infoFrH8 rfl (by simp [Value.oneCell']) ⟨_, by simp [Act.put]; rfl, hK _ _ ⟨⟨(HD.out.b.va.setRowOther (by omega)).setRowOther (by omega), (HD.out.vf.setRowOther (by omega)).setRowOther (by omega)⟩, ?_⟩⟩
    clear hK
    refine wpAnyH_done (by kernel_rfl) ?_ _
    obtain ⟨WE, hWE⟩ : ∃ W, W = ((WD.setRow w.heap.size #[.int .i64 id, .int .i64 ep, .bool lv, .int .i64 gr, .slice b1 n1 c1, .slice b2 n2 c2, .int .i64 nx]).setRow (w.heap.size + 1) #[.int .i64 kd, .int .i64 id, .int .i64 y2, .int .i64 y3, .slice (some ⟨J, 0, none⟩) 1 1, .int .i64 0, .int .i64 0, .int .i64 0, .int .i64 0, .int .i64 0, .int .i64 0, .int .i64 0, .int .i64 0, .slice none 0 0, .slice none 0 0, .slice none 0 0]) := ⟨_, rfl⟩
    have e1 : Blk WE w.heap.size #[.int .i64 id, .int .i64 ep, .bool lv, .int .i64 gr, .slice b1 n1 c1, .slice b2 n2 c2, .int .i64 nx] 27 := by rw [hWE]; exact (HD.out.b.r1.setRow).setRowOther (by omega)
    have e2 : Blk WE (w.heap.size + 1) #[.int .i64 kd, .int .i64 id, .int .i64 y2, .int .i64 y3, .slice (some ⟨J, 0, none⟩) 1 1, .int .i64 0, .int .i64 0, .int .i64 0, .int .i64 0, .int .i64 0, .int .i64 0, .int .i64 0, .int .i64 0, .slice none 0 0, .slice none 0 0, .slice none 0 0] 38 := by rw [hWE]; exact (HD.out.b.r2.setRowOther (by omega)).setRow
    have e3 : RdAg WE (.agg #[.int .i64 id, .int .i64 ep, .bool lv, .int .i64 gr, .slice b1 n1 c1, .slice b2 n2 c2, .int .i64 nx]) ⟨id, ep, lv, gr, xs, ts, nx⟩ F G := by
     rw [hWE]
     exact (HD.out.b.ra.agree (Agree.row (fun hx => by have := HD.out.b.nF _ hx; omega) _) (Agree.row (fun hx => by have := HD.out.b.nG _ hx; omega) _)).agree (Agree.row (fun hx => by have := HD.out.b.nF _ hx; omega) _) (Agree.row (fun hx => by have := HD.out.b.nG _ hx; omega) _)
    have e4 : RdFr WE (.agg #[.int .i64 kd, .int .i64 id, .int .i64 y2, .int .i64 y3, .slice (some ⟨J, 0, none⟩) 1 1, .int .i64 0, .int .i64 0, .int .i64 0, .int .i64 0, .int .i64 0, .int .i64 0, .int .i64 0, .int .i64 0, .slice none 0 0, .slice none 0 0, .slice none 0 0]) ⟨kd, id, y2, y3, [(mm, mm)], It.zero⟩ [J] [] := by
     rw [hWE]
     exact (HD.out.rf.agree (Agree.row (fun hx => by have := HD.out.nF _ hx; omega) _) (Agree.row (fun hx => by have := HD.out.nG _ hx; omega) _)).agree (Agree.row (fun hx => by have := HD.out.nF _ hx; omega) _) (Agree.row (fun hx => by have := HD.out.nG _ hx; omega) _)
    have e5 : Below w.heap.size w WE := by rw [hWE]; exact below_setRow (below_setRow HD.out.b.bel (by omega) _) (by omega) _
    rw [← hWE]
    clear hWE HD
    go_wp2
    refine bodyPost_ret (results_row_twoH Try.results23 _ _ w.heap.size (w.heap.size + 1) _ _ _ _ _ _ rfl rfl e1 e2 Try.underlying27 rfl infoAgH8 Try.underlying38 rfl infoFrH8) rfl ?_
    exact ⟨_, _, ⟨id, ep, lv, gr, xs, ts, nx⟩, ⟨kd, id, y2, y3, [(mm, mm)], It.zero⟩, F, G, [J], [], rfl, e3, e4, HSM.out.1, HSZ2.out, e5⟩
  ·
   have hcd : decide ((n1 : Int) > 0) = false := dec_false (by omega)
   have hcd' : decide ((0 : Int) < (n1 : Int)) = false := dec_false (by omega)
   go_wp2_with fail
   obtain ⟨WD, hWD⟩ : ∃ W, W = w7.drew := ⟨_, rfl⟩
   have HD0 := H7.out.drew
   rw [← hWD] at HD0
   have HD : Hid (AH1 w q a len cap zs j3 t3 gA #[.int .i64 id, .int .i64 ep, .bool lv, .int .i64 gr, .slice b1 n1 c1, .slice b2 n2 c2, .int .i64 nx] ⟨id, ep, lv, gr, xs, ts, nx⟩ F G gF #[.int .i64 kd, .int .i64 id, .int .i64 y2, .int .i64 y3, .slice none 0 0, .int .i64 0, .int .i64 0, .int .i64 0, .int .i64 0, .int .i64 0, .int .i64 0, .int .i64 0, .int .i64 0, .slice none 0 0, .slice none 0 0, .slice none 0 0] ⟨kd, id, y2, y3, [], It.zero⟩ [] [] WD) := HD0
   clear HD0 H7
   refine wp_region_held (S := fun W => Blk W gA #[.int .i64 id, .int .i64 ep, .bool lv, .int .i64 gr, .slice b1 n1 c1, .slice b2 n2 c2, .int .i64 nx] 27 ∧ Blk W gF #[.int .i64 kd, .int .i64 id, .int .i64 y2, .int .i64 y3, .slice none 0 0, .int .i64 0, .int .i64 0, .int .i64 0, .int .i64 0, .int .i64 0, .int .i64 0, .int .i64 0, .int .i64 0, .slice none 0 0, .slice none 0 0, .slice none 0 0] 38) (by kernel_rfl) ?_
   change wpAnyH _ _ _ _ _ _ _ _ (World.drew _)
   rw [← hWD]
   clear hWD
   have l1 := HD.out.b.lt1
   have l2 := HD.out.b.lt2
   have l3 := HD.out.lt3
   refine takeH (o := ?o81) 0 (.agg #[.int .i64 id, .int .i64 ep, .bool lv, .int .i64 gr, .slice b1 n1 c1, .slice b2 n2 c2, .int .i64 nx]) ?h81 ?r81
   case h81 => simp only [aT, aZ]; rfl
   refine ⟨_, by simp [Act.put]; rfl, by kernel_rfl, by kernel_rfl, by kernel_rfl, fun _ _ _ h => h, (yields_whole 27 gA #[.int .i64 id, .int .i64 ep, .bool lv, .int .i64 gr, .slice b1 n1 c1, .slice b2 n2 c2, .int .i64 nx] 27 _ rfl rfl rfl Try.underlying27 rfl infoAgH8 (fun W hW => hW.1)), ⟨HD.out.b.va, HD.out.vf⟩, ?_⟩
   refine takeH (o := ?o82) 1 (.agg #[.int .i64 kd, .int .i64 id, .int .i64 y2, .int .i64 y3, .slice none 0 0, .int .i64 0, .int .i64 0, .int .i64 0, .int .i64 0, .int .i64 0, .int .i64 0, .int .i64 0, .int .i64 0, .slice none 0 0, .slice none 0 0, .slice none 0 0]) ?h82 ?r82
   case h82 => simp only [aT, aS, aZ]; rfl
   refine ⟨_, by simp [Act.put]; rfl, by kernel_rfl, by kernel_rfl, by kernel_rfl, fun _ _ _ h => h, (yields_whole 38 gF #[.int .i64 kd, .int .i64 id, .int .i64 y2, .int .i64 y3, .slice none 0 0, .int .i64 0, .int .i64 0, .int .i64 0, .int .i64 0, .int .i64 0, .int .i64 0, .int .i64 0, .int .i64 0, .slice none 0 0, .slice none 0 0, .slice none 0 0] 38 _ rfl rfl rfl Try.underlying38 rfl infoFrH8 (fun W hW => hW.2)), ⟨HD.out.b.va, HD.out.vf⟩, ?_⟩
   refine onlyH (o := ?o83) 2 (by kernel_rfl) ?h83 ?r83
   case h83 => simp only [aT, aS, aZ]; rfl
   intro K hK
   refine op_store 27 w.heap.size #[.int .i64 0, .int .i64 0, .bool false, .int .i64 0, .slice none 0 0, .slice none 0 0, .int .i64 0] #[.int .i64 id, .int .i64 ep, .bool lv, .int .i64 gr, .slice b1 n1 c1, .slice b2 n2 c2, .int .i64 nx] 27 rfl rfl rfl rfl HD.out.b.r1 infoAgH8 rfl (by simp [Value.oneCell']) ⟨_, by simp [Act.put]; rfl, hK _ _ ⟨⟨HD.out.b.va.setRowOther (by omega), HD.out.vf.setRowOther (by omega)⟩, ?_⟩⟩
   clear hK
   refine onlyH (o := ?o84) 3 (by kernel_rfl) ?h84 ?r84
   case h84 => simp only [aT, aS, aZ]; rfl
   intro K hK
   refine op_store 38 (w.heap.size + 1) #[.int .i64 0, .int .i64 0, .int .i64 0, .int .i64 0, .slice none 0 0, .int .i64 0, .int .i64 0, .int .i64 0, .int .i64 0, .int .i64 0, .int .i64 0, .int .i64 0, .int .i64 0, .slice none 0 0, .slice none 0 0, .slice none 0 0] #[.int .i64 kd, .int .i64 id, .int .i64 y2, .int .i64 y3, .slice none 0 0, .int .i64 0, .int .i64 0, .int .i64 0, .int .i64 0, .int .i64 0, .int .i64 0, .int .i64 0, .int .i64 0, .slice none 0 0, .slice none 0 0, .slice none 0 0] 38 rfl rfl rfl rfl (HD.out.b.r2.setRowOther (by omega)) infoFrH8 rfl (by simp [Value.oneCell']) ⟨_, by simp [Act.put]; rfl, hK _ _ ⟨⟨(HD.out.b.va.setRowOther (by omega)).setRowOther (by omega), (HD.out.vf.setRowOther (by omega)).setRowOther (by omega)⟩, ?_⟩⟩
   clear hK
   refine wpAnyH_done (by kernel_rfl) ?_ _
   obtain ⟨WE, hWE⟩ : ∃ W, W = ((WD.setRow w.heap.size #[.int .i64 id, .int .i64 ep, .bool lv, .int .i64 gr, .slice b1 n1 c1, .slice b2 n2 c2, .int .i64 nx]).setRow (w.heap.size + 1) #[.int .i64 kd, .int .i64 id, .int .i64 y2, .int .i64 y3, .slice none 0 0, .int .i64 0, .int .i64 0, .int .i64 0, .int .i64 0, .int .i64 0, .int .i64 0, .int .i64 0, .int .i64 0, .slice none 0 0, .slice none 0 0, .slice none 0 0]) := ⟨_, rfl⟩
   have e1 : Blk WE w.heap.size #[.int .i64 id, .int .i64 ep, .bool lv, .int .i64 gr, .slice b1 n1 c1, .slice b2 n2 c2, .int .i64 nx] 27 := by rw [hWE]; exact (HD.out.b.r1.setRow).setRowOther (by omega)
   have e2 : Blk WE (w.heap.size + 1) #[.int .i64 kd, .int .i64 id, .int .i64 y2, .int .i64 y3, .slice none 0 0, .int .i64 0, .int .i64 0, .int .i64 0, .int .i64 0, .int .i64 0, .int .i64 0, .int .i64 0, .int .i64 0, .slice none 0 0, .slice none 0 0, .slice none 0 0] 38 := by rw [hWE]; exact (HD.out.b.r2.setRowOther (by omega)).setRow
   have e3 : RdAg WE (.agg #[.int .i64 id, .int .i64 ep, .bool lv, .int .i64 gr, .slice b1 n1 c1, .slice b2 n2 c2, .int .i64 nx]) ⟨id, ep, lv, gr, xs, ts, nx⟩ F G := by
    rw [hWE]
    exact (HD.out.b.ra.agree (Agree.row (fun hx => by have := HD.out.b.nF _ hx; omega) _) (Agree.row (fun hx => by have := HD.out.b.nG _ hx; omega) _)).agree (Agree.row (fun hx => by have := HD.out.b.nF _ hx; omega) _) (Agree.row (fun hx => by have := HD.out.b.nG _ hx; omega) _)
   have e4 : RdFr WE (.agg #[.int .i64 kd, .int .i64 id, .int .i64 y2, .int .i64 y3, .slice none 0 0, .int .i64 0, .int .i64 0, .int .i64 0, .int .i64 0, .int .i64 0, .int .i64 0, .int .i64 0, .int .i64 0, .slice none 0 0, .slice none 0 0, .slice none 0 0]) ⟨kd, id, y2, y3, [], It.zero⟩ [] [] := by
    rw [hWE]
    exact (HD.out.rf.agree (Agree.row (fun hx => by have := HD.out.nF _ hx; omega) _) (Agree.row (fun hx => by have := HD.out.nG _ hx; omega) _)).agree (Agree.row (fun hx => by have := HD.out.nF _ hx; omega) _) (Agree.row (fun hx => by have := HD.out.nG _ hx; omega) _)
   have e5 : Below w.heap.size w WE := by rw [hWE]; exact below_setRow (below_setRow HD.out.b.bel (by omega) _) (by omega) _
   rw [← hWE]
   clear hWE HD
   go_wp2
   refine bodyPost_ret (results_row_twoH Try.results23 _ _ w.heap.size (w.heap.size + 1) _ _ _ _ _ _ rfl rfl e1 e2 Try.underlying27 rfl infoAgH8 Try.underlying38 rfl infoFrH8) rfl ?_
   exact ⟨_, _, ⟨id, ep, lv, gr, xs, ts, nx⟩, ⟨kd, id, y2, y3, [], It.zero⟩, F, G, [], [], rfl, e3, e4, HSM.out.1, HSZ.out, e5⟩
 ·
  go_wp2_with fail
  obtain ⟨WD, hWD⟩ : ∃ W, W = w6.drew := ⟨_, rfl⟩
  have HD0 := H6.out.drew
  rw [← hWD] at HD0
  have HD : Hid (AH1 w q a len cap zs i6 h6 gA #[.int .i64 id, .int .i64 ep, .bool lv, .int .i64 gr, .slice b1 n1 c1, .slice b2 n2 c2, .int .i64 nx] ⟨id, ep, lv, gr, xs, ts, nx⟩ F G gF cf f F' G' WD) := HD0
  clear HD0 H6
  refine wp_region_held (S := fun W => Blk W gA #[.int .i64 id, .int .i64 ep, .bool lv, .int .i64 gr, .slice b1 n1 c1, .slice b2 n2 c2, .int .i64 nx] 27 ∧ Blk W gF cf 38) (by kernel_rfl) ?_
  change wpAnyH _ _ _ _ _ _ _ _ (World.drew _)
  rw [← hWD]
  clear hWD
  have l1 := HD.out.b.lt1
  have l2 := HD.out.b.lt2
  have l3 := HD.out.lt3
  refine takeH (o := ?o58) 0 (.agg #[.int .i64 id, .int .i64 ep, .bool lv, .int .i64 gr, .slice b1 n1 c1, .slice b2 n2 c2, .int .i64 nx]) ?h58 ?r58
  case h58 => simp only [aT, aZ]; rfl
  refine ⟨_, by simp [Act.put]; rfl, by kernel_rfl, by kernel_rfl, by kernel_rfl, fun _ _ _ h => h, (yields_whole 27 gA #[.int .i64 id, .int .i64 ep, .bool lv, .int .i64 gr, .slice b1 n1 c1, .slice b2 n2 c2, .int .i64 nx] 27 _ rfl rfl rfl Try.underlying27 rfl infoAgH8 (fun W hW => hW.1)), ⟨HD.out.b.va, HD.out.vf⟩, ?_⟩
  refine takeH (o := ?o59) 1 (.agg cf) ?h59 ?r59
  case h59 => simp only [aT, aS, aZ]; rfl
  refine ⟨_, by simp [Act.put]; rfl, by kernel_rfl, by kernel_rfl, by kernel_rfl, fun _ _ _ h => h, (yields_whole 38 gF cf 38 _ rfl rfl rfl Try.underlying38 rfl hfi (fun W hW => hW.2)), ⟨HD.out.b.va, HD.out.vf⟩, ?_⟩
  refine onlyH (o := ?o60) 2 (by kernel_rfl) ?h60 ?r60
  case h60 => simp only [aT, aS, aZ]; rfl
  intro K hK
  refine op_store 27 w.heap.size #[.int .i64 0, .int .i64 0, .bool false, .int .i64 0, .slice none 0 0, .slice none 0 0, .int .i64 0] #[.int .i64 id, .int .i64 ep, .bool lv, .int .i64 gr, .slice b1 n1 c1, .slice b2 n2 c2, .int .i64 nx] 27 rfl rfl rfl rfl HD.out.b.r1 infoAgH8 rfl (by simp [Value.oneCell']) ⟨_, by simp [Act.put]; rfl, hK _ _ ⟨⟨HD.out.b.va.setRowOther (by omega), HD.out.vf.setRowOther (by omega)⟩, ?_⟩⟩
  clear hK
  refine onlyH (o := ?o61) 3 (by kernel_rfl) ?h61 ?r61
  case h61 => simp only [aT, aS, aZ]; rfl
  intro K hK
  refine op_store 38 (w.heap.size + 1) #[.int .i64 0, .int .i64 0, .int .i64 0, .int .i64 0, .slice none 0 0, .int .i64 0, .int .i64 0, .int .i64 0, .int .i64 0, .int .i64 0, .int .i64 0, .int .i64 0, .int .i64 0, .slice none 0 0, .slice none 0 0, .slice none 0 0] cf 38 rfl rfl rfl rfl (HD.out.b.r2.setRowOther (by omega)) hfi (by rw [hcs]; rfl) hone ⟨_, by simp [Act.put]; rfl, hK _ _ ⟨⟨(HD.out.b.va.setRowOther (by omega)).setRowOther (by omega), (HD.out.vf.setRowOther (by omega)).setRowOther (by omega)⟩, ?_⟩⟩
  clear hK
  refine wpAnyH_done (by kernel_rfl) ?_ _
  obtain ⟨WE, hWE⟩ : ∃ W, W = ((WD.setRow w.heap.size #[.int .i64 id, .int .i64 ep, .bool lv, .int .i64 gr, .slice b1 n1 c1, .slice b2 n2 c2, .int .i64 nx]).setRow (w.heap.size + 1) cf) := ⟨_, rfl⟩
  have e1 : Blk WE w.heap.size #[.int .i64 id, .int .i64 ep, .bool lv, .int .i64 gr, .slice b1 n1 c1, .slice b2 n2 c2, .int .i64 nx] 27 := by rw [hWE]; exact (HD.out.b.r1.setRow).setRowOther (by omega)
  have e2 : Blk WE (w.heap.size + 1) cf 38 := by rw [hWE]; exact (HD.out.b.r2.setRowOther (by omega)).setRow
  have e3 : RdAg WE (.agg #[.int .i64 id, .int .i64 ep, .bool lv, .int .i64 gr, .slice b1 n1 c1, .slice b2 n2 c2, .int .i64 nx]) ⟨id, ep, lv, gr, xs, ts, nx⟩ F G := by
   rw [hWE]
   exact (HD.out.b.ra.agree (Agree.row (fun hx => by have := HD.out.b.nF _ hx; omega) _) (Agree.row (fun hx => by have := HD.out.b.nG _ hx; omega) _)).agree (Agree.row (fun hx => by have := HD.out.b.nF _ hx; omega) _) (Agree.row (fun hx => by have := HD.out.b.nG _ hx; omega) _)
  have e4 : RdFr WE (.agg cf) f F' G' := by
   rw [hWE]
   exact (HD.out.rf.agree (Agree.row (fun hx => by have := HD.out.nF _ hx; omega) _) (Agree.row (fun hx => by have := HD.out.nG _ hx; omega) _)).agree (Agree.row (fun hx => by have := HD.out.nF _ hx; omega) _) (Agree.row (fun hx => by have := HD.out.nG _ hx; omega) _)
  have e5 : Below w.heap.size w WE := by rw [hWE]; exact below_setRow (below_setRow HD.out.b.bel (by omega) _) (by omega) _
  rw [← hWE]
  clear hWE HD
  go_wp2
  refine bodyPost_ret (results_row_twoH Try.results23 _ _ w.heap.size (w.heap.size + 1) _ _ _ _ _ _ rfl rfl e1 e2 Try.underlying27 rfl infoAgH8 Try.underlying38 rfl hfi) rfl ?_
  exact ⟨_, _, ⟨id, ep, lv, gr, xs, ts, nx⟩, f, F, G, F', G', rfl, e3, e4, HSM.out.1, HSF.out, e5⟩
end Go.Proofs.Ytgkbhhlkaifnoaa
/- The walks through the program's SetAdd and SetJoin. No statement of the seat is proved here. -/
namespace Go.Proofs.Ytgkbhhlkaifnoaa
open Go.RowKit
theorem inb_ok {ps : Sp} (h : ps.ok = true) : ∀ p ∈ ps, InB p := inb_iff.1 (ok_inb h)
set_option maxRecDepth 200000 in
set_option maxHeartbeats 4000000 in
theorem joinImpl_any (a b : Option Addr) (la lb ca cb : Nat) (ps qs : Sp) (F G : List Nat) (w : World) (h : RdP w a la ps F) (k : RdP w b lb qs G) (hlen : la + lb ≤ 2097152) (hca : la ≤ ca) :
 Calls Try.prog 64 #[.slice a la ca, .slice b lb cb] w fun e w' => NewP2 w (ps.join qs) (ps.ok && qs.ok) e w' := by
 have HR : Hid (RdP w a la ps F ∧ RdP w b lb qs G) := ⟨h, k⟩
 clear h k
 go_enter Try.func64, Try.ntmps64
 go_wp2_with fail
 refine (setOkImpl_any a la ca ps F _ HR.out.1 (by omega)).mono ?_
 rintro e w1 ⟨rfl, hb⟩
 have HB0 : Hid (Below w.heap.size w w1) := hb
 clear hb
 obtain ⟨d, hd⟩ : ∃ d, d = ps.ok := ⟨_, rfl⟩
 rw [← hd]
 have HD : Hid (d = ps.ok) := hd
 clear hd
 cases d
 ·
  have HV : Hid (ps.join qs = [] ∧ (ps.ok && qs.ok) = false) := ⟨Sp.join_not (by rw [← HD.out]; rfl), by rw [← HD.out]; rfl⟩
  go_wp2
  go_ret2
  rw [HV.out.1, HV.out.2]
  exact ⟨_, 0, 0, [], rfl, RdP.nil, Own.nil, HB0.out, fun _ => rfl, Nat.le_refl _⟩
 go_wp2_with fail
 refine (setOkImpl_any b lb cb qs G _ (HR.out.2.below HB0.out) (by omega)).mono ?_
 rintro e w2 ⟨rfl, hb⟩
 have HB1 : Hid (Below w.heap.size w w2) := Below.next HB0.out hb
 clear hb HB0
 obtain ⟨d, hd⟩ : ∃ d, d = qs.ok := ⟨_, rfl⟩
 rw [← hd]
 have HE : Hid (d = qs.ok) := hd
 clear hd
 cases d
 ·
  have HV : Hid (ps.join qs = [] ∧ (ps.ok && qs.ok) = false) := ⟨Sp.join_not (by rw [← HD.out, ← HE.out]; rfl), by rw [← HD.out, ← HE.out]; rfl⟩
  go_wp2
  go_ret2
  rw [HV.out.1, HV.out.2]
  exact ⟨_, 0, 0, [], rfl, RdP.nil, Own.nil, HB1.out, fun _ => rfl, Nat.le_refl _⟩
 have HV : Hid (both ps qs [] = ps.join qs ∧ (ps.ok && qs.ok) = true) := ⟨both_join HD.out.symm HE.out.symm, by rw [← HD.out, ← HE.out]; rfl⟩
 go_wp2_with fail
 refine (spansOfBoth_any a b la lb ca cb ps qs F G _ (HR.out.1.below HB1.out) (HR.out.2.below HB1.out) (by omega) hca (inb_ok HD.out.symm) (inb_ok HE.out.symm)).mono ?_
 rintro e w3 ⟨a', l', c', F', rfl, g1, g2, g3, g4⟩
 have HN : Hid (RdP w3 a' l' (ps.join qs) F' ∧ Own w.heap.size w3 F' ∧ Below w.heap.size w w3 ∧ Capd a' l' c') := ⟨by rw [← HV.out.1]; exact g1, g2.mono HB1.out.size, Below.next HB1.out g3, g4⟩
 clear g1 g2 g3 g4
 go_wp2
 go_ret2
 rw [HV.out.2]
 exact ⟨a', l', c', F', rfl, HN.out⟩
end Go.Proofs.Ytgkbhhlkaifnoaa
/- The walks through the program's newsFor, turnedBy and AgentHear. No statement of the seat is proved here. -/
namespace Go.Proofs.Ytgkbhhlkaifnoaa
open Go.RowKit
section
variable {P : Program} {ops : Array Oper} {Q : Exit → Act → World → Prop} {a : Act} {w : World} {o : Oper} {K : Act → World → Prop}
/-- A method called on an interface value whose type is known. -/
theorem op_invoke0 (x : Operand) (name : String) (T : TypeId) (rv : Value) (f : FuncId) (fn : Func) (R : Value → World → Prop) (hw : Region.wanted o (yielded ops a.tmps) = true) (ho : o.op = Op.call { callee := Callee.invoke x name, args := #[], argTypes := #[] })
 (hx : a.eval x = .iface T rv) (hm : ∀ w k, (method (k + 1) T rv name).run P w = .ok (f, rv) w)
 (hfn : P.funcs[f]? = some fn) (hnm : (fn.name == "runtime.NumGoroutine") = false) (hbd : fn.body.isNone = false) (hc : Calls P f #[rv] w fun e w' => ∃ v, e = .returned v ∧ R v w') (h : ∀ v w', R v w' → ∃ a', a.put o.dst v = a' ∧ K a' w') : if Region.wanted o (yielded ops a.tmps) = true then Oper.wp P o a w K Q else K (a.put o.dst undef) w := by
 rw [if_pos hw]
 have hnm' : ¬ fn.name = "runtime.NumGoroutine" := by simpa using hnm
 have hbd' : ¬ fn.body = none := by intro e; rw [e] at hbd; cases hbd
 unfold Oper.wp
 simp [Act.eval, go_sem] at hx
 simp only [execOp, ho, resolve, invoke, Oper.upon, go_sem]
 simp [hx, hm, callFunc, hfn, hnm', hbd', go_sem]
 refine Calls.mono hc ?_
 rintro e w1 ⟨v, rfl, hR⟩
 obtain ⟨_, rfl, hk⟩ := h v w1 hR
 exact hk
end
set_option maxRecDepth 200000 in
theorem ackOf_any (e g : Int) (w : World) : Calls Try.prog 146 #[.agg #[.int .i64 e, .int .i64 g]] w fun r w' => r = .returned (.int .i64 e) ∧ Below w.heap.size w w' := by
 have HB : Hid (Below w.heap.size w (w.alloc (.cells #[.int .i64 e, .int .i64 g] 126))) := Below.allocW _ (Below.refl _ _) (Nat.le_refl _)
 go_enter Try.func146, Try.ntmps146
 go_wp2
 go_ret
 exact ⟨rfl, HB.out⟩
set_option maxRecDepth 200000 in
theorem resetOf_any (e : Int) (w : World) : Calls Try.prog 147 #[.agg #[.int .i64 e]] w fun r w' => r = .returned (.int .i64 e) ∧ Below w.heap.size w w' := by
 have HB : Hid (Below w.heap.size w (w.alloc (.cells #[.int .i64 e] 128))) := Below.allocW _ (Below.refl _ _) (Nat.le_refl _)
 go_enter Try.func147, Try.ntmps147
 go_wp2
 go_ret
 exact ⟨rfl, HB.out⟩
theorem assertAA (e g : Int) (w : World) : (Instr.typeAssert (.iface 126 (.agg #[.int .i64 e, .int .i64 g])) 90 126 true).run Try.prog w = .ok (.tuple #[.agg #[.int .i64 e, .int .i64 g], .bool true]) w := by kernel_rfl
theorem assertRA (e : Int) (w : World) : (Instr.typeAssert (.iface 128 (.agg #[.int .i64 e])) 90 126 true).run Try.prog w = .ok (.tuple #[.agg #[.int .i64 0, .int .i64 0], .bool false]) w := by kernel_rfl
theorem assertRR (e : Int) (w : World) : (Instr.typeAssert (.iface 128 (.agg #[.int .i64 e])) 90 128 true).run Try.prog w = .ok (.tuple #[.agg #[.int .i64 e], .bool true]) w := by kernel_rfl
theorem methodA (e g : Int) (w : World) (k : Nat) : (method (k + 1) 126 (.agg #[.int .i64 e, .int .i64 g]) "loop.example/g00491/impl.of").run Try.prog w = .ok (146, .agg #[.int .i64 e, .int .i64 g]) w := by kernel_rfl
theorem methodR (e : Int) (w : World) (k : Nat) : (method (k + 1) 128 (.agg #[.int .i64 e]) "loop.example/g00491/impl.of").run Try.prog w = .ok (147, .agg #[.int .i64 e]) w := by kernel_rfl
theorem infoAgT : (Try.prog.info? 27).map (·.size) = some 7 := by kernel_rfl
theorem infoFrT : (Try.prog.info? 38).map (·.size) = some 16 := by kernel_rfl
set_option maxRecDepth 200000 in
set_option maxHeartbeats 2000000 in
theorem turnedAck1 (i ep gr nx e g : Int) (lv : Bool) (a1 a2 : Option Addr) (n1 c1 n2 c2 : Nat) (w : World) (h : ep < e) :
 Calls Try.prog 65 #[.agg #[.int .i64 i, .int .i64 ep, .bool lv, .int .i64 gr, .slice a1 n1 c1, .slice a2 n2 c2, .int .i64 nx], .iface 126 (.agg #[.int .i64 e, .int .i64 g])] w fun r w' => r = .returned (.agg #[.int .i64 i, .int .i64 e, .bool true, .int .i64 (max 0 g), .slice a1 n1 c1, .slice a2 n2 c2, .int .i64 nx]) ∧ Below w.heap.size w w' := by
 have z : decide (ep < e) = true := dec_true h
 have HB : Hid (Blk (((w.alloc (.cells #[.int .i64 i, .int .i64 ep, .bool lv, .int .i64 0, .slice a1 n1 c1, .slice a2 n2 c2, .int .i64 nx] 27)).alloc (.cells #[.int .i64 0, .int .i64 0, .bool false, .int .i64 0, .slice none 0 0, .slice none 0 0, .int .i64 0] 27)).alloc (.cells #[.int .i64 e, .int .i64 g] 126)) w.heap.size #[.int .i64 i, .int .i64 ep, .bool lv, .int .i64 0, .slice a1 n1 c1, .slice a2 n2 c2, .int .i64 nx] 27 ∧ Blk (((w.alloc (.cells #[.int .i64 i, .int .i64 ep, .bool lv, .int .i64 0, .slice a1 n1 c1, .slice a2 n2 c2, .int .i64 nx] 27)).alloc (.cells #[.int .i64 0, .int .i64 0, .bool false, .int .i64 0, .slice none 0 0, .slice none 0 0, .int .i64 0] 27)).alloc (.cells #[.int .i64 e, .int .i64 g] 126)) (w.heap.size + 1) #[.int .i64 0, .int .i64 0, .bool false, .int .i64 0, .slice none 0 0, .slice none 0 0, .int .i64 0] 27 ∧ Blk (((w.alloc (.cells #[.int .i64 i, .int .i64 ep, .bool lv, .int .i64 0, .slice a1 n1 c1, .slice a2 n2 c2, .int .i64 nx] 27)).alloc (.cells #[.int .i64 0, .int .i64 0, .bool false, .int .i64 0, .slice none 0 0, .slice none 0 0, .int .i64 0] 27)).alloc (.cells #[.int .i64 e, .int .i64 g] 126)) (w.heap.size + 1 + 1) #[.int .i64 e, .int .i64 g] 126 ∧ Below w.heap.size w (((w.alloc (.cells #[.int .i64 i, .int .i64 ep, .bool lv, .int .i64 0, .slice a1 n1 c1, .slice a2 n2 c2, .int .i64 nx] 27)).alloc (.cells #[.int .i64 0, .int .i64 0, .bool false, .int .i64 0, .slice none 0 0, .slice none 0 0, .int .i64 0] 27)).alloc (.cells #[.int .i64 e, .int .i64 g] 126))) :=
  ⟨((Blk.made _ _ _).alloc _).alloc _, (Blk.made_eq (by simp)).alloc _, Blk.made_eq (by simp), Below.allocW _ (Below.allocW _ (Below.allocW _ (Below.refl _ _) (Nat.le_refl _)) (Nat.le_refl _)) (Nat.le_refl _)⟩
 have hA := assertAA e g
 have hM := methodA e g
 clear h
 go_enter Try.func65, Try.ntmps65
 go_wp2_with fail
 obtain ⟨W0, hW0⟩ : ∃ W, W = ((w.alloc (.cells #[.int .i64 i, .int .i64 ep, .bool lv, .int .i64 0, .slice a1 n1 c1, .slice a2 n2 c2, .int .i64 nx] 27)).alloc (.cells #[.int .i64 0, .int .i64 0, .bool false, .int .i64 0, .slice none 0 0, .slice none 0 0, .int .i64 0] 27)).alloc (.cells #[.int .i64 e, .int .i64 g] 126) := ⟨_, rfl⟩
 rw [← hW0] at HB ⊢
 clear hW0 z
 have HD : Hid (Blk W0.drew w.heap.size #[.int .i64 i, .int .i64 ep, .bool lv, .int .i64 0, .slice a1 n1 c1, .slice a2 n2 c2, .int .i64 nx] 27 ∧ Blk W0.drew (w.heap.size + 1) #[.int .i64 0, .int .i64 0, .bool false, .int .i64 0, .slice none 0 0, .slice none 0 0, .int .i64 0] 27 ∧ Blk W0.drew (w.heap.size + 1 + 1) #[.int .i64 e, .int .i64 g] 126 ∧ Below w.heap.size w W0.drew) := by
  have bd := (Below.refl W0.heap.size W0).drew
  exact ⟨HB.out.1.below bd, HB.out.2.1.below bd, HB.out.2.2.1.below bd, Below.next HB.out.2.2.2 bd⟩
 obtain ⟨Y0, hY0⟩ : ∃ Y, Y = W0.drew := ⟨_, rfl⟩
 rw [← hY0] at HD
 clear HB
 refine wp_region_held (S := fun W => Blk W (w.heap.size + 1 + 1) #[.int .i64 e, .int .i64 g] 126) (by kernel_rfl) ?_
 change wpAnyH _ _ _ _ _ _ _ _ (World.drew _)
 rw [← hY0]
 clear hY0
 refine takeH (o := ?o1) 0 (.pointer (some ⟨w.heap.size, 3, none⟩)) ?h1 ?r1
 case h1 => simp only [aT, aZ]; rfl
 refine ⟨_, by simp [Act.put]; rfl, by kernel_rfl, by kernel_rfl, by kernel_rfl, fun _ _ _ h => h, (.inl ⟨rfl, fun W _ => by kernel_rfl⟩), HD.out.2.2.1, ?_⟩
 refine takeH (o := ?o2) 2 (.pointer (some ⟨w.heap.size + 1 + 1, 1, none⟩)) ?h2 ?r2
 case h2 => simp only [aT, aS, aZ]; rfl
 refine ⟨_, by simp [Act.put]; rfl, by kernel_rfl, by kernel_rfl, by kernel_rfl, fun _ _ _ h => h, (.inl ⟨rfl, fun W _ => by kernel_rfl⟩), HD.out.2.2.1, ?_⟩
 refine takeH (o := ?o3) 3 (.int .i64 g) ?h3 ?r3
 case h3 => simp only [aT, aS, aZ]; rfl
 refine ⟨_, by simp [Act.put]; rfl, by kernel_rfl, by kernel_rfl, by kernel_rfl, fun _ _ _ h => h, (.inl ⟨rfl, fun W hW => by have c := hW.cell 1; simp only [aT, aS, aZ] at c; go_simp⟩), HD.out.2.2.1, ?_⟩
 refine onlyH (o := ?o4) 1 (by kernel_rfl) ?h4 ?r4
 case h4 => simp only [aT, aS, aZ]; rfl
 intro K hK
 have co := HD.out.1.cell 3
 simp only [aT, aS, aZ] at co
 refine op_value (.int .i64 0) rfl (by go_simp) ⟨_, by simp [Act.put]; rfl, hK _ _ ⟨HD.out.2.2.1, ?_⟩⟩
 clear hK co
 refine takeH (o := ?o5) 4 (.int .i64 (max 0 g)) ?h5 ?r5
 case h5 => simp only [aT, aS, aZ]; rfl
 refine ⟨_, by simp [Act.put]; rfl, by kernel_rfl, by kernel_rfl, by kernel_rfl, fun _ _ _ h => h, (.inl ⟨rfl, fun W _ => by go_simp; first | done | (rw [Int.max_def]; split <;> split <;> first | rfl | omega) | (simp [Int.max_def]; omega)⟩), HD.out.2.2.1, ?_⟩
 refine takeH (o := ?o6) 5 (.pointer (some ⟨w.heap.size, 2, none⟩)) ?h6 ?r6
 case h6 => simp only [aT, aS, aZ]; rfl
 refine ⟨_, by simp [Act.put]; rfl, by kernel_rfl, by kernel_rfl, by kernel_rfl, fun _ _ _ h => h, (.inl ⟨rfl, fun W _ => by kernel_rfl⟩), HD.out.2.2.1, ?_⟩
 refine onlyH (o := ?o7) 6 (by kernel_rfl) ?h7 ?r7
 case h7 => simp only [aT, aS, aZ]; rfl
 intro K hK
 have co := HD.out.1.cell 2
 have fo := HD.out.1.frozen 2
 simp only [aT, aS, aZ] at co
 have H2 : Hid (Blk (Y0.setCell ⟨w.heap.size, 2, none⟩ (.bool true)) w.heap.size #[.int .i64 i, .int .i64 ep, .bool true, .int .i64 0, .slice a1 n1 c1, .slice a2 n2 c2, .int .i64 nx] 27 ∧ Blk (Y0.setCell ⟨w.heap.size, 2, none⟩ (.bool true)) (w.heap.size + 1) #[.int .i64 0, .int .i64 0, .bool false, .int .i64 0, .slice none 0 0, .slice none 0 0, .int .i64 0] 27 ∧ Blk (Y0.setCell ⟨w.heap.size, 2, none⟩ (.bool true)) (w.heap.size + 1 + 1) #[.int .i64 e, .int .i64 g] 126 ∧ Below w.heap.size w (Y0.setCell ⟨w.heap.size, 2, none⟩ (.bool true))) :=
  ⟨HD.out.1.set 2 _, HD.out.2.1.setOther (by omega) 2 _, HD.out.2.2.1.setOther (by omega) 2 _, HD.out.2.2.2.setCell (by show w.heap.size ≤ w.heap.size; omega) _⟩
 refine op_skip (Y0.setCell ⟨w.heap.size, 2, none⟩ (.bool true)) rfl (by go_simp) ⟨_, by simp [Act.put]; rfl, hK _ _ ⟨H2.out.2.2.1, ?_⟩⟩
 clear hK co fo HD
 obtain ⟨Y1, hY1⟩ : ∃ Y, Y = Y0.setCell ⟨w.heap.size, 2, none⟩ (.bool true) := ⟨_, rfl⟩
 rw [← hY1] at H2 ⊢
 clear hY1
 refine takeH (o := ?o8) 7 (.pointer (some ⟨w.heap.size, 3, none⟩)) ?h8 ?r8
 case h8 => simp only [aT, aS, aZ]; rfl
 refine ⟨_, by simp [Act.put]; rfl, by kernel_rfl, by kernel_rfl, by kernel_rfl, fun _ _ _ h => h, (.inl ⟨rfl, fun W _ => by kernel_rfl⟩), H2.out.2.2.1, ?_⟩
 refine onlyH (o := ?o9) 8 (by kernel_rfl) ?h9 ?r9
 case h9 => simp only [aT, aS, aZ]; rfl
 intro K hK
 have co := H2.out.1.cell 3
 have fo := H2.out.1.frozen 3
 simp only [aT, aS, aZ] at co
 have H3 : Hid (Blk (Y1.setCell ⟨w.heap.size, 3, none⟩ (.int .i64 (max 0 g))) w.heap.size #[.int .i64 i, .int .i64 ep, .bool true, .int .i64 (max 0 g), .slice a1 n1 c1, .slice a2 n2 c2, .int .i64 nx] 27 ∧ Blk (Y1.setCell ⟨w.heap.size, 3, none⟩ (.int .i64 (max 0 g))) (w.heap.size + 1) #[.int .i64 0, .int .i64 0, .bool false, .int .i64 0, .slice none 0 0, .slice none 0 0, .int .i64 0] 27 ∧ Blk (Y1.setCell ⟨w.heap.size, 3, none⟩ (.int .i64 (max 0 g))) (w.heap.size + 1 + 1) #[.int .i64 e, .int .i64 g] 126 ∧ Below w.heap.size w (Y1.setCell ⟨w.heap.size, 3, none⟩ (.int .i64 (max 0 g)))) :=
  ⟨H2.out.1.set 3 _, H2.out.2.1.setOther (by omega) 3 _, H2.out.2.2.1.setOther (by omega) 3 _, H2.out.2.2.2.setCell (by show w.heap.size ≤ w.heap.size; omega) _⟩
 refine op_skip (Y1.setCell ⟨w.heap.size, 3, none⟩ (.int .i64 (max 0 g))) rfl (by go_simp) ⟨_, by simp [Act.put]; rfl, hK _ _ ⟨H3.out.2.2.1, ?_⟩⟩
 clear hK co fo H2
 refine wpAnyH_done (by kernel_rfl) ?_ _
 obtain ⟨Y2, hY2⟩ : ∃ Y, Y = Y1.setCell ⟨w.heap.size, 3, none⟩ (.int .i64 (max 0 g)) := ⟨_, rfl⟩
 rw [← hY2] at H3 ⊢
 clear hY2
 have H4 : Hid (Blk Y2 w.heap.size #[.int .i64 i, .int .i64 ep, .bool true, .int .i64 (max 0 g), .slice a1 n1 c1, .slice a2 n2 c2, .int .i64 nx] 27 ∧ Blk Y2 (w.heap.size + 1) #[.int .i64 0, .int .i64 0, .bool false, .int .i64 0, .slice none 0 0, .slice none 0 0, .int .i64 0] 27 ∧ Below w.heap.size w Y2) := ⟨H3.out.1, H3.out.2.1, H3.out.2.2.2⟩
 clear H3
 go_wp2_with fail
 refine (ackOf_any e g _).mono ?_
 rintro r w5 ⟨rfl, hb5⟩
 have H5 : Hid (Blk w5 w.heap.size #[.int .i64 i, .int .i64 ep, .bool true, .int .i64 (max 0 g), .slice a1 n1 c1, .slice a2 n2 c2, .int .i64 nx] 27 ∧ Blk w5 (w.heap.size + 1) #[.int .i64 0, .int .i64 0, .bool false, .int .i64 0, .slice none 0 0, .slice none 0 0, .int .i64 0] 27 ∧ Below w.heap.size w w5) := ⟨H4.out.1.below hb5, H4.out.2.1.below hb5, Below.next H4.out.2.2 hb5⟩
 have c1' := H5.out.1.cell 1
 have f1' := H5.out.1.frozen 1
 simp only [aT, aS, aZ] at c1'
 clear hb5
 go_wp2_with (first | go_skip | (with_reducible refine stopLoad 27 rfl ?_))
 obtain ⟨w6, hw6⟩ : ∃ W, W = w5.setCell ⟨w.heap.size, 1, none⟩ (.int .i64 e) := ⟨_, rfl⟩
 have H6 : Hid (Blk w6 w.heap.size #[.int .i64 i, .int .i64 e, .bool true, .int .i64 (max 0 g), .slice a1 n1 c1, .slice a2 n2 c2, .int .i64 nx] 27 ∧ Blk w6 (w.heap.size + 1) #[.int .i64 0, .int .i64 0, .bool false, .int .i64 0, .slice none 0 0, .slice none 0 0, .int .i64 0] 27 ∧ Below w.heap.size w w6) := by
  rw [hw6]
  exact ⟨H5.out.1.set 1 _, H5.out.2.1.setOther (by omega) 1 _, H5.out.2.2.setCell (by show w.heap.size ≤ w.heap.size; omega) _⟩
 rw [← hw6]
 clear hw6 H5 c1' f1'
 refine load_known 27 w.heap.size _ 27 _ H6.out.1 rfl rfl rfl Try.underlying27 rfl infoAgT ?_
 go_wp2_with (first | go_skip | (with_reducible refine stopStore 27 rfl ?_))
 refine store_known 27 (w.heap.size + 1) _ #[.int .i64 i, .int .i64 e, .bool true, .int .i64 (max 0 g), .slice a1 n1 c1, .slice a2 n2 c2, .int .i64 nx] 27 H6.out.2.1 rfl rfl rfl rfl infoAgT rfl (by simp [Value.oneCell']) ?_
 go_wp2
 refine bodyPost_ret (results_cell_row Try.results65 _ _ (w.heap.size + 1) _ _ (0, 0) _ rfl H6.out.2.1.setRow Try.underlying27 rfl infoAgT) rfl ?_
 exact ⟨rfl, below_setRow H6.out.2.2 (by omega) _⟩
set_option maxRecDepth 200000 in
set_option maxHeartbeats 2000000 in
theorem turnedAck2 (i ep gr nx e g : Int) (lv : Bool) (a1 a2 : Option Addr) (n1 c1 n2 c2 : Nat) (w : World) (h : ¬ ep < e) :
 Calls Try.prog 65 #[.agg #[.int .i64 i, .int .i64 ep, .bool lv, .int .i64 gr, .slice a1 n1 c1, .slice a2 n2 c2, .int .i64 nx], .iface 126 (.agg #[.int .i64 e, .int .i64 g])] w fun r w' => r = .returned (.agg #[.int .i64 i, .int .i64 e, .bool true, .int .i64 (max gr g), .slice a1 n1 c1, .slice a2 n2 c2, .int .i64 nx]) ∧ Below w.heap.size w w' := by
 have z : decide (ep < e) = false := dec_false h
 have HB : Hid (Blk (((w.alloc (.cells #[.int .i64 i, .int .i64 ep, .bool lv, .int .i64 gr, .slice a1 n1 c1, .slice a2 n2 c2, .int .i64 nx] 27)).alloc (.cells #[.int .i64 0, .int .i64 0, .bool false, .int .i64 0, .slice none 0 0, .slice none 0 0, .int .i64 0] 27)).alloc (.cells #[.int .i64 e, .int .i64 g] 126)) w.heap.size #[.int .i64 i, .int .i64 ep, .bool lv, .int .i64 gr, .slice a1 n1 c1, .slice a2 n2 c2, .int .i64 nx] 27 ∧ Blk (((w.alloc (.cells #[.int .i64 i, .int .i64 ep, .bool lv, .int .i64 gr, .slice a1 n1 c1, .slice a2 n2 c2, .int .i64 nx] 27)).alloc (.cells #[.int .i64 0, .int .i64 0, .bool false, .int .i64 0, .slice none 0 0, .slice none 0 0, .int .i64 0] 27)).alloc (.cells #[.int .i64 e, .int .i64 g] 126)) (w.heap.size + 1) #[.int .i64 0, .int .i64 0, .bool false, .int .i64 0, .slice none 0 0, .slice none 0 0, .int .i64 0] 27 ∧ Blk (((w.alloc (.cells #[.int .i64 i, .int .i64 ep, .bool lv, .int .i64 gr, .slice a1 n1 c1, .slice a2 n2 c2, .int .i64 nx] 27)).alloc (.cells #[.int .i64 0, .int .i64 0, .bool false, .int .i64 0, .slice none 0 0, .slice none 0 0, .int .i64 0] 27)).alloc (.cells #[.int .i64 e, .int .i64 g] 126)) (w.heap.size + 1 + 1) #[.int .i64 e, .int .i64 g] 126 ∧ Below w.heap.size w (((w.alloc (.cells #[.int .i64 i, .int .i64 ep, .bool lv, .int .i64 gr, .slice a1 n1 c1, .slice a2 n2 c2, .int .i64 nx] 27)).alloc (.cells #[.int .i64 0, .int .i64 0, .bool false, .int .i64 0, .slice none 0 0, .slice none 0 0, .int .i64 0] 27)).alloc (.cells #[.int .i64 e, .int .i64 g] 126))) :=
  ⟨((Blk.made _ _ _).alloc _).alloc _, (Blk.made_eq (by simp)).alloc _, Blk.made_eq (by simp), Below.allocW _ (Below.allocW _ (Below.allocW _ (Below.refl _ _) (Nat.le_refl _)) (Nat.le_refl _)) (Nat.le_refl _)⟩
 have hA := assertAA e g
 have hM := methodA e g
 clear h
 go_enter Try.func65, Try.ntmps65
 go_wp2_with fail
 obtain ⟨W0, hW0⟩ : ∃ W, W = ((w.alloc (.cells #[.int .i64 i, .int .i64 ep, .bool lv, .int .i64 gr, .slice a1 n1 c1, .slice a2 n2 c2, .int .i64 nx] 27)).alloc (.cells #[.int .i64 0, .int .i64 0, .bool false, .int .i64 0, .slice none 0 0, .slice none 0 0, .int .i64 0] 27)).alloc (.cells #[.int .i64 e, .int .i64 g] 126) := ⟨_, rfl⟩
 rw [← hW0] at HB ⊢
 clear hW0 z
 have HD : Hid (Blk W0.drew w.heap.size #[.int .i64 i, .int .i64 ep, .bool lv, .int .i64 gr, .slice a1 n1 c1, .slice a2 n2 c2, .int .i64 nx] 27 ∧ Blk W0.drew (w.heap.size + 1) #[.int .i64 0, .int .i64 0, .bool false, .int .i64 0, .slice none 0 0, .slice none 0 0, .int .i64 0] 27 ∧ Blk W0.drew (w.heap.size + 1 + 1) #[.int .i64 e, .int .i64 g] 126 ∧ Below w.heap.size w W0.drew) := by
  have bd := (Below.refl W0.heap.size W0).drew
  exact ⟨HB.out.1.below bd, HB.out.2.1.below bd, HB.out.2.2.1.below bd, Below.next HB.out.2.2.2 bd⟩
 obtain ⟨Y0, hY0⟩ : ∃ Y, Y = W0.drew := ⟨_, rfl⟩
 rw [← hY0] at HD
 clear HB
 refine wp_region_held (S := fun W => Blk W (w.heap.size + 1 + 1) #[.int .i64 e, .int .i64 g] 126) (by kernel_rfl) ?_
 change wpAnyH _ _ _ _ _ _ _ _ (World.drew _)
 rw [← hY0]
 clear hY0
 refine takeH (o := ?o10) 0 (.pointer (some ⟨w.heap.size, 3, none⟩)) ?h10 ?r10
 case h10 => simp only [aT, aZ]; rfl
 refine ⟨_, by simp [Act.put]; rfl, by kernel_rfl, by kernel_rfl, by kernel_rfl, fun _ _ _ h => h, (.inl ⟨rfl, fun W _ => by kernel_rfl⟩), HD.out.2.2.1, ?_⟩
 refine takeH (o := ?o11) 2 (.pointer (some ⟨w.heap.size + 1 + 1, 1, none⟩)) ?h11 ?r11
 case h11 => simp only [aT, aS, aZ]; rfl
 refine ⟨_, by simp [Act.put]; rfl, by kernel_rfl, by kernel_rfl, by kernel_rfl, fun _ _ _ h => h, (.inl ⟨rfl, fun W _ => by kernel_rfl⟩), HD.out.2.2.1, ?_⟩
 refine takeH (o := ?o12) 3 (.int .i64 g) ?h12 ?r12
 case h12 => simp only [aT, aS, aZ]; rfl
 refine ⟨_, by simp [Act.put]; rfl, by kernel_rfl, by kernel_rfl, by kernel_rfl, fun _ _ _ h => h, (.inl ⟨rfl, fun W hW => by have c := hW.cell 1; simp only [aT, aS, aZ] at c; go_simp⟩), HD.out.2.2.1, ?_⟩
 refine onlyH (o := ?o13) 1 (by kernel_rfl) ?h13 ?r13
 case h13 => simp only [aT, aS, aZ]; rfl
 intro K hK
 have co := HD.out.1.cell 3
 simp only [aT, aS, aZ] at co
 refine op_value (.int .i64 gr) rfl (by go_simp) ⟨_, by simp [Act.put]; rfl, hK _ _ ⟨HD.out.2.2.1, ?_⟩⟩
 clear hK co
 refine takeH (o := ?o14) 4 (.int .i64 (max gr g)) ?h14 ?r14
 case h14 => simp only [aT, aS, aZ]; rfl
 refine ⟨_, by simp [Act.put]; rfl, by kernel_rfl, by kernel_rfl, by kernel_rfl, fun _ _ _ h => h, (.inl ⟨rfl, fun W _ => by go_simp; first | done | (rw [Int.max_def]; split <;> split <;> first | rfl | omega) | (simp [Int.max_def]; omega)⟩), HD.out.2.2.1, ?_⟩
 refine takeH (o := ?o15) 5 (.pointer (some ⟨w.heap.size, 2, none⟩)) ?h15 ?r15
 case h15 => simp only [aT, aS, aZ]; rfl
 refine ⟨_, by simp [Act.put]; rfl, by kernel_rfl, by kernel_rfl, by kernel_rfl, fun _ _ _ h => h, (.inl ⟨rfl, fun W _ => by kernel_rfl⟩), HD.out.2.2.1, ?_⟩
 refine onlyH (o := ?o16) 6 (by kernel_rfl) ?h16 ?r16
 case h16 => simp only [aT, aS, aZ]; rfl
 intro K hK
 have co := HD.out.1.cell 2
 have fo := HD.out.1.frozen 2
 simp only [aT, aS, aZ] at co
 have H2 : Hid (Blk (Y0.setCell ⟨w.heap.size, 2, none⟩ (.bool true)) w.heap.size #[.int .i64 i, .int .i64 ep, .bool true, .int .i64 gr, .slice a1 n1 c1, .slice a2 n2 c2, .int .i64 nx] 27 ∧ Blk (Y0.setCell ⟨w.heap.size, 2, none⟩ (.bool true)) (w.heap.size + 1) #[.int .i64 0, .int .i64 0, .bool false, .int .i64 0, .slice none 0 0, .slice none 0 0, .int .i64 0] 27 ∧ Blk (Y0.setCell ⟨w.heap.size, 2, none⟩ (.bool true)) (w.heap.size + 1 + 1) #[.int .i64 e, .int .i64 g] 126 ∧ Below w.heap.size w (Y0.setCell ⟨w.heap.size, 2, none⟩ (.bool true))) :=
  ⟨HD.out.1.set 2 _, HD.out.2.1.setOther (by omega) 2 _, HD.out.2.2.1.setOther (by omega) 2 _, HD.out.2.2.2.setCell (by show w.heap.size ≤ w.heap.size; omega) _⟩
 refine op_skip (Y0.setCell ⟨w.heap.size, 2, none⟩ (.bool true)) rfl (by go_simp) ⟨_, by simp [Act.put]; rfl, hK _ _ ⟨H2.out.2.2.1, ?_⟩⟩
 clear hK co fo HD
 obtain ⟨Y1, hY1⟩ : ∃ Y, Y = Y0.setCell ⟨w.heap.size, 2, none⟩ (.bool true) := ⟨_, rfl⟩
 rw [← hY1] at H2 ⊢
 clear hY1
 refine takeH (o := ?o17) 7 (.pointer (some ⟨w.heap.size, 3, none⟩)) ?h17 ?r17
 case h17 => simp only [aT, aS, aZ]; rfl
 refine ⟨_, by simp [Act.put]; rfl, by kernel_rfl, by kernel_rfl, by kernel_rfl, fun _ _ _ h => h, (.inl ⟨rfl, fun W _ => by kernel_rfl⟩), H2.out.2.2.1, ?_⟩
 refine onlyH (o := ?o18) 8 (by kernel_rfl) ?h18 ?r18
 case h18 => simp only [aT, aS, aZ]; rfl
 intro K hK
 have co := H2.out.1.cell 3
 have fo := H2.out.1.frozen 3
 simp only [aT, aS, aZ] at co
 have H3 : Hid (Blk (Y1.setCell ⟨w.heap.size, 3, none⟩ (.int .i64 (max gr g))) w.heap.size #[.int .i64 i, .int .i64 ep, .bool true, .int .i64 (max gr g), .slice a1 n1 c1, .slice a2 n2 c2, .int .i64 nx] 27 ∧ Blk (Y1.setCell ⟨w.heap.size, 3, none⟩ (.int .i64 (max gr g))) (w.heap.size + 1) #[.int .i64 0, .int .i64 0, .bool false, .int .i64 0, .slice none 0 0, .slice none 0 0, .int .i64 0] 27 ∧ Blk (Y1.setCell ⟨w.heap.size, 3, none⟩ (.int .i64 (max gr g))) (w.heap.size + 1 + 1) #[.int .i64 e, .int .i64 g] 126 ∧ Below w.heap.size w (Y1.setCell ⟨w.heap.size, 3, none⟩ (.int .i64 (max gr g)))) :=
  ⟨H2.out.1.set 3 _, H2.out.2.1.setOther (by omega) 3 _, H2.out.2.2.1.setOther (by omega) 3 _, H2.out.2.2.2.setCell (by show w.heap.size ≤ w.heap.size; omega) _⟩
 refine op_skip (Y1.setCell ⟨w.heap.size, 3, none⟩ (.int .i64 (max gr g))) rfl (by go_simp) ⟨_, by simp [Act.put]; rfl, hK _ _ ⟨H3.out.2.2.1, ?_⟩⟩
 clear hK co fo H2
 refine wpAnyH_done (by kernel_rfl) ?_ _
 obtain ⟨Y2, hY2⟩ : ∃ Y, Y = Y1.setCell ⟨w.heap.size, 3, none⟩ (.int .i64 (max gr g)) := ⟨_, rfl⟩
 rw [← hY2] at H3 ⊢
 clear hY2
 have H4 : Hid (Blk Y2 w.heap.size #[.int .i64 i, .int .i64 ep, .bool true, .int .i64 (max gr g), .slice a1 n1 c1, .slice a2 n2 c2, .int .i64 nx] 27 ∧ Blk Y2 (w.heap.size + 1) #[.int .i64 0, .int .i64 0, .bool false, .int .i64 0, .slice none 0 0, .slice none 0 0, .int .i64 0] 27 ∧ Below w.heap.size w Y2) := ⟨H3.out.1, H3.out.2.1, H3.out.2.2.2⟩
 clear H3
 go_wp2_with fail
 refine (ackOf_any e g _).mono ?_
 rintro r w5 ⟨rfl, hb5⟩
 have H5 : Hid (Blk w5 w.heap.size #[.int .i64 i, .int .i64 ep, .bool true, .int .i64 (max gr g), .slice a1 n1 c1, .slice a2 n2 c2, .int .i64 nx] 27 ∧ Blk w5 (w.heap.size + 1) #[.int .i64 0, .int .i64 0, .bool false, .int .i64 0, .slice none 0 0, .slice none 0 0, .int .i64 0] 27 ∧ Below w.heap.size w w5) := ⟨H4.out.1.below hb5, H4.out.2.1.below hb5, Below.next H4.out.2.2 hb5⟩
 have c1' := H5.out.1.cell 1
 have f1' := H5.out.1.frozen 1
 simp only [aT, aS, aZ] at c1'
 clear hb5
 go_wp2_with (first | go_skip | (with_reducible refine stopLoad 27 rfl ?_))
 obtain ⟨w6, hw6⟩ : ∃ W, W = w5.setCell ⟨w.heap.size, 1, none⟩ (.int .i64 e) := ⟨_, rfl⟩
 have H6 : Hid (Blk w6 w.heap.size #[.int .i64 i, .int .i64 e, .bool true, .int .i64 (max gr g), .slice a1 n1 c1, .slice a2 n2 c2, .int .i64 nx] 27 ∧ Blk w6 (w.heap.size + 1) #[.int .i64 0, .int .i64 0, .bool false, .int .i64 0, .slice none 0 0, .slice none 0 0, .int .i64 0] 27 ∧ Below w.heap.size w w6) := by
  rw [hw6]
  exact ⟨H5.out.1.set 1 _, H5.out.2.1.setOther (by omega) 1 _, H5.out.2.2.setCell (by show w.heap.size ≤ w.heap.size; omega) _⟩
 rw [← hw6]
 clear hw6 H5 c1' f1'
 refine load_known 27 w.heap.size _ 27 _ H6.out.1 rfl rfl rfl Try.underlying27 rfl infoAgT ?_
 go_wp2_with (first | go_skip | (with_reducible refine stopStore 27 rfl ?_))
 refine store_known 27 (w.heap.size + 1) _ #[.int .i64 i, .int .i64 e, .bool true, .int .i64 (max gr g), .slice a1 n1 c1, .slice a2 n2 c2, .int .i64 nx] 27 H6.out.2.1 rfl rfl rfl rfl infoAgT rfl (by simp [Value.oneCell']) ?_
 go_wp2
 refine bodyPost_ret (results_cell_row Try.results65 _ _ (w.heap.size + 1) _ _ (0, 0) _ rfl H6.out.2.1.setRow Try.underlying27 rfl infoAgT) rfl ?_
 exact ⟨rfl, below_setRow H6.out.2.2 (by omega) _⟩
set_option maxRecDepth 200000 in
set_option maxHeartbeats 2000000 in
theorem turnedReset (i ep gr nx e : Int) (lv : Bool) (a1 a2 : Option Addr) (n1 c1 n2 c2 : Nat) (w : World) :
 Calls Try.prog 65 #[.agg #[.int .i64 i, .int .i64 ep, .bool lv, .int .i64 gr, .slice a1 n1 c1, .slice a2 n2 c2, .int .i64 nx], .iface 128 (.agg #[.int .i64 e])] w fun r w' => r = .returned (.agg #[.int .i64 i, .int .i64 e, .bool false, .int .i64 0, .slice a1 n1 c1, .slice a2 n2 c2, .int .i64 nx]) ∧ Below w.heap.size w w' := by
 have HB : Hid (Blk (((w.alloc (.cells #[.int .i64 i, .int .i64 ep, .bool false, .int .i64 0, .slice a1 n1 c1, .slice a2 n2 c2, .int .i64 nx] 27)).alloc (.cells #[.int .i64 0, .int .i64 0, .bool false, .int .i64 0, .slice none 0 0, .slice none 0 0, .int .i64 0] 27)).alloc (.cells #[.int .i64 e] 128)) w.heap.size #[.int .i64 i, .int .i64 ep, .bool false, .int .i64 0, .slice a1 n1 c1, .slice a2 n2 c2, .int .i64 nx] 27 ∧ Blk (((w.alloc (.cells #[.int .i64 i, .int .i64 ep, .bool false, .int .i64 0, .slice a1 n1 c1, .slice a2 n2 c2, .int .i64 nx] 27)).alloc (.cells #[.int .i64 0, .int .i64 0, .bool false, .int .i64 0, .slice none 0 0, .slice none 0 0, .int .i64 0] 27)).alloc (.cells #[.int .i64 e] 128)) (w.heap.size + 1) #[.int .i64 0, .int .i64 0, .bool false, .int .i64 0, .slice none 0 0, .slice none 0 0, .int .i64 0] 27 ∧ Below w.heap.size w (((w.alloc (.cells #[.int .i64 i, .int .i64 ep, .bool false, .int .i64 0, .slice a1 n1 c1, .slice a2 n2 c2, .int .i64 nx] 27)).alloc (.cells #[.int .i64 0, .int .i64 0, .bool false, .int .i64 0, .slice none 0 0, .slice none 0 0, .int .i64 0] 27)).alloc (.cells #[.int .i64 e] 128))) :=
  ⟨((Blk.made _ _ _).alloc _).alloc _, (Blk.made_eq (by simp)).alloc _, Below.allocW _ (Below.allocW _ (Below.allocW _ (Below.refl _ _) (Nat.le_refl _)) (Nat.le_refl _)) (Nat.le_refl _)⟩
 have hA := assertRA e
 have hB := assertRR e
 have hM := methodR e
 go_enter Try.func65, Try.ntmps65
 go_wp2_with fail
 refine (resetOf_any e _).mono ?_
 rintro r w5 ⟨rfl, hb5⟩
 have H5 : Hid (Blk w5 w.heap.size #[.int .i64 i, .int .i64 ep, .bool false, .int .i64 0, .slice a1 n1 c1, .slice a2 n2 c2, .int .i64 nx] 27 ∧ Blk w5 (w.heap.size + 1) #[.int .i64 0, .int .i64 0, .bool false, .int .i64 0, .slice none 0 0, .slice none 0 0, .int .i64 0] 27 ∧ Below w.heap.size w w5) := ⟨HB.out.1.below hb5, HB.out.2.1.below hb5, Below.next HB.out.2.2 hb5⟩
 have c1' := H5.out.1.cell 1
 have f1' := H5.out.1.frozen 1
 simp only [aT, aS, aZ] at c1'
 clear hb5
 go_wp2_with (first | go_skip | (with_reducible refine stopLoad 27 rfl ?_))
 obtain ⟨w6, hw6⟩ : ∃ W, W = w5.setCell ⟨w.heap.size, 1, none⟩ (.int .i64 e) := ⟨_, rfl⟩
 have H6 : Hid (Blk w6 w.heap.size #[.int .i64 i, .int .i64 e, .bool false, .int .i64 0, .slice a1 n1 c1, .slice a2 n2 c2, .int .i64 nx] 27 ∧ Blk w6 (w.heap.size + 1) #[.int .i64 0, .int .i64 0, .bool false, .int .i64 0, .slice none 0 0, .slice none 0 0, .int .i64 0] 27 ∧ Below w.heap.size w w6) := by
  rw [hw6]
  exact ⟨H5.out.1.set 1 _, H5.out.2.1.setOther (by omega) 1 _, H5.out.2.2.setCell (by show w.heap.size ≤ w.heap.size; omega) _⟩
 rw [← hw6]
 clear hw6 H5 c1' f1'
 refine load_known 27 w.heap.size _ 27 _ H6.out.1 rfl rfl rfl Try.underlying27 rfl infoAgT ?_
 go_wp2_with (first | go_skip | (with_reducible refine stopStore 27 rfl ?_))
 refine store_known 27 (w.heap.size + 1) _ #[.int .i64 i, .int .i64 e, .bool false, .int .i64 0, .slice a1 n1 c1, .slice a2 n2 c2, .int .i64 nx] 27 H6.out.2.1 rfl rfl rfl rfl infoAgT rfl (by simp [Value.oneCell']) ?_
 go_wp2
 refine bodyPost_ret (results_cell_row Try.results65 _ _ (w.heap.size + 1) _ _ (0, 0) _ rfl H6.out.2.1.setRow Try.underlying27 rfl infoAgT) rfl ?_
 exact ⟨rfl, below_setRow H6.out.2.2 (by omega) _⟩
/-- What a frame tells an agent that it is for. -/
def newsVal (f : Fr) : Value := if f.kind = 2 then .iface 126 (.agg #[.int .i64 f.epoch, .int .i64 f.granted]) else .iface 128 (.agg #[.int .i64 f.epoch])
theorem hears_kind {x : Ag} {f : Fr} (h : x.hears f = true) : (f.kind = 2 ∨ f.kind = 3) ∧ f.ok = true ∧ x.ok = true ∧ f.taken.ok = true := by
 unfold Ag.hears at h
 simp only [Bool.and_eq_true, decide_eq_true_eq] at h
 obtain ⟨⟨⟨⟨h1, h2⟩, h3⟩, h4⟩, h5, h6⟩ := h
 have h2' := h2
 unfold Fr.ok at h2
 simp only [Bool.and_eq_true, decide_eq_true_eq] at h2
 obtain ⟨⟨⟨⟨⟨⟨g1, _⟩, _⟩, _⟩, _⟩, _⟩, _⟩ := h2
 exact ⟨by omega, h2', h1, h5⟩
def NewsR (w : World) (b : Bool) (nv : Value) (e : Ending) (w' : World) : Prop := e = .returned (.tuple #[if b = true then nv else .nilIface, .bool b]) ∧ Below w.heap.size w w'
set_option maxRecDepth 200000 in
set_option maxHeartbeats 8000000 in
theorem newsFor_any (v u : Value) (x : Ag) (f : Fr) (F G F' G' : List Nat) (w : World) (h : RdAg w v x F G) (k : RdFr w u f F' G') (hf : ∀ y ∈ x.sealed, y.sk.fits) (hs : x.sealed.length ≤ 1048576) (hl : x.taken.length ≤ 1048576) (kw : f.item.sk.wide) (kl : f.taken.length ≤ 1048576) :
 Calls Try.prog 63 #[v, u] w fun e w' => NewsR w (x.hears f) (newsVal f) e w' := by
 obtain ⟨a1, n1, c1, a2, n2, c2, rfl, hL, hP, hc1, hc2⟩ := h
 obtain ⟨bt, lt, ct, b1, m1, e1, b2, m2, e2, b3, m3, e3, rfl, kP, kI, kc⟩ := k
 have HX : Hid (RdAg w (.agg #[.int .i64 x.id, .int .i64 x.epoch, .bool x.live, .int .i64 x.granted, .slice a1 n1 c1, .slice a2 n2 c2, .int .i64 x.next]) x F G ∧ (∀ y ∈ x.sealed, y.sk.wide) ∧ x.sealed.length ≤ 2097152 ∧ x.taken.length ≤ 2097152) := ⟨⟨a1, n1, c1, a2, n2, c2, rfl, hL, hP, hc1, hc2⟩, fun y hy => (hf y hy).wide, by omega, by omega⟩
 have HF : Hid (RdFr w (.agg #[.int .i64 f.kind, .int .i64 f.agent, .int .i64 f.epoch, .int .i64 f.granted, .slice bt lt ct, .int .i64 f.item.seq, .int .i64 f.item.cls, .int .i64 f.item.key, .int .i64 f.item.window, .int .i64 f.item.sk.count, .int .i64 f.item.sk.sum, .int .i64 f.item.sk.min, .int .i64 f.item.sk.max, .slice b1 m1 e1, .slice b2 m2 e2, .slice b3 m3 e3]) f F' G' ∧ f.item.sk.wide ∧ f.taken.length ≤ 2097152 ∧ RdP w bt lt f.taken F' ∧ lt ≤ 2097152) := ⟨⟨bt, lt, ct, b1, m1, e1, b2, m2, e2, b3, m3, e3, rfl, kP, kI, kc⟩, kw, by omega, kP, by rw [← kP.length]; omega⟩
 have HOK : Hid (x.hears f = (x.ok && f.ok && decide (2 ≤ f.kind) && decide (f.agent = x.id) && (f.taken.ok && f.taken.under n1))) := by show _ = _; unfold Ag.hears; rw [hL.length]
 clear hL hP hc1 hc2 kP kI kc hf hs hl kw kl
 have HB : Hid (Blk ((w.alloc (.cells #[.int .i64 x.id, .int .i64 x.epoch, .bool x.live, .int .i64 x.granted, .slice a1 n1 c1, .slice a2 n2 c2, .int .i64 x.next] 27)).alloc (.cells #[.int .i64 f.kind, .int .i64 f.agent, .int .i64 f.epoch, .int .i64 f.granted, .slice bt lt ct, .int .i64 f.item.seq, .int .i64 f.item.cls, .int .i64 f.item.key, .int .i64 f.item.window, .int .i64 f.item.sk.count, .int .i64 f.item.sk.sum, .int .i64 f.item.sk.min, .int .i64 f.item.sk.max, .slice b1 m1 e1, .slice b2 m2 e2, .slice b3 m3 e3] 38)) w.heap.size #[.int .i64 x.id, .int .i64 x.epoch, .bool x.live, .int .i64 x.granted, .slice a1 n1 c1, .slice a2 n2 c2, .int .i64 x.next] 27 ∧ Blk ((w.alloc (.cells #[.int .i64 x.id, .int .i64 x.epoch, .bool x.live, .int .i64 x.granted, .slice a1 n1 c1, .slice a2 n2 c2, .int .i64 x.next] 27)).alloc (.cells #[.int .i64 f.kind, .int .i64 f.agent, .int .i64 f.epoch, .int .i64 f.granted, .slice bt lt ct, .int .i64 f.item.seq, .int .i64 f.item.cls, .int .i64 f.item.key, .int .i64 f.item.window, .int .i64 f.item.sk.count, .int .i64 f.item.sk.sum, .int .i64 f.item.sk.min, .int .i64 f.item.sk.max, .slice b1 m1 e1, .slice b2 m2 e2, .slice b3 m3 e3] 38)) (w.heap.size + 1) #[.int .i64 f.kind, .int .i64 f.agent, .int .i64 f.epoch, .int .i64 f.granted, .slice bt lt ct, .int .i64 f.item.seq, .int .i64 f.item.cls, .int .i64 f.item.key, .int .i64 f.item.window, .int .i64 f.item.sk.count, .int .i64 f.item.sk.sum, .int .i64 f.item.sk.min, .int .i64 f.item.sk.max, .slice b1 m1 e1, .slice b2 m2 e2, .slice b3 m3 e3] 38 ∧ Below w.heap.size w ((w.alloc (.cells #[.int .i64 x.id, .int .i64 x.epoch, .bool x.live, .int .i64 x.granted, .slice a1 n1 c1, .slice a2 n2 c2, .int .i64 x.next] 27)).alloc (.cells #[.int .i64 f.kind, .int .i64 f.agent, .int .i64 f.epoch, .int .i64 f.granted, .slice bt lt ct, .int .i64 f.item.seq, .int .i64 f.item.cls, .int .i64 f.item.key, .int .i64 f.item.window, .int .i64 f.item.sk.count, .int .i64 f.item.sk.sum, .int .i64 f.item.sk.min, .int .i64 f.item.sk.max, .slice b1 m1 e1, .slice b2 m2 e2, .slice b3 m3 e3] 38))) :=
  ⟨(Blk.made _ _ _).alloc _, Blk.made_eq (by simp), Below.allocW _ (Below.allocW _ (Below.refl _ _) (Nat.le_refl _)) (Nat.le_refl _)⟩
 go_enter Try.func63, Try.ntmps63
 go_wp2_with (first | go_skip | (with_reducible refine stopLoad 27 rfl ?_))
 obtain ⟨W0, hW0⟩ : ∃ W, W = (w.alloc (.cells #[.int .i64 x.id, .int .i64 x.epoch, .bool x.live, .int .i64 x.granted, .slice a1 n1 c1, .slice a2 n2 c2, .int .i64 x.next] 27)).alloc (.cells #[.int .i64 f.kind, .int .i64 f.agent, .int .i64 f.epoch, .int .i64 f.granted, .slice bt lt ct, .int .i64 f.item.seq, .int .i64 f.item.cls, .int .i64 f.item.key, .int .i64 f.item.window, .int .i64 f.item.sk.count, .int .i64 f.item.sk.sum, .int .i64 f.item.sk.min, .int .i64 f.item.sk.max, .slice b1 m1 e1, .slice b2 m2 e2, .slice b3 m3 e3] 38) := ⟨_, rfl⟩
 rw [← hW0] at HB ⊢
 clear hW0
 refine load_known 27 w.heap.size _ 27 _ HB.out.1 rfl rfl rfl Try.underlying27 rfl infoAgT ?_
 go_wp2_with fail
 refine (agentOkImpl_any _ x F G _ (HX.out.1.below HB.out.2.2) HX.out.2.1 HX.out.2.2.1 HX.out.2.2.2).mono ?_
 rintro e w1 ⟨rfl, hb1⟩
 have HB1 : Hid (Blk w1 w.heap.size #[.int .i64 x.id, .int .i64 x.epoch, .bool x.live, .int .i64 x.granted, .slice a1 n1 c1, .slice a2 n2 c2, .int .i64 x.next] 27 ∧ Blk w1 (w.heap.size + 1) #[.int .i64 f.kind, .int .i64 f.agent, .int .i64 f.epoch, .int .i64 f.granted, .slice bt lt ct, .int .i64 f.item.seq, .int .i64 f.item.cls, .int .i64 f.item.key, .int .i64 f.item.window, .int .i64 f.item.sk.count, .int .i64 f.item.sk.sum, .int .i64 f.item.sk.min, .int .i64 f.item.sk.max, .slice b1 m1 e1, .slice b2 m2 e2, .slice b3 m3 e3] 38 ∧ Below w.heap.size w w1) := ⟨HB.out.1.below hb1, HB.out.2.1.below hb1, Below.next HB.out.2.2 hb1⟩
 obtain ⟨d1, hd1⟩ : ∃ d, d = x.ok := ⟨_, rfl⟩
 rw [← hd1]
 rw [← hd1] at HOK
 clear hb1 hd1 HB
 cases d1
 ·
  have HV : Hid (x.hears f = false) := by show _ = _; rw [HOK.out]; rfl
  go_wp2
  go_ret2
  rw [HV.out]
  exact ⟨rfl, HB1.out.2.2⟩
 go_wp2_with (first | go_skip | (with_reducible refine stopLoad 38 rfl ?_))
 refine load_knownw8 38 (w.heap.size + 1) _ 38 _ HB1.out.2.1 rfl rfl rfl Try.underlying38 rfl infoFrT ?_
 go_wp2_with fail
 refine (frameOkImpl_any _ f F' G' _ (HF.out.1.below HB1.out.2.2) HF.out.2.1 HF.out.2.2.1).mono ?_
 rintro e w2 ⟨rfl, hb2⟩
 have HB2 : Hid (Blk w2 w.heap.size #[.int .i64 x.id, .int .i64 x.epoch, .bool x.live, .int .i64 x.granted, .slice a1 n1 c1, .slice a2 n2 c2, .int .i64 x.next] 27 ∧ Blk w2 (w.heap.size + 1) #[.int .i64 f.kind, .int .i64 f.agent, .int .i64 f.epoch, .int .i64 f.granted, .slice bt lt ct, .int .i64 f.item.seq, .int .i64 f.item.cls, .int .i64 f.item.key, .int .i64 f.item.window, .int .i64 f.item.sk.count, .int .i64 f.item.sk.sum, .int .i64 f.item.sk.min, .int .i64 f.item.sk.max, .slice b1 m1 e1, .slice b2 m2 e2, .slice b3 m3 e3] 38 ∧ Below w.heap.size w w2) := ⟨HB1.out.1.below hb2, HB1.out.2.1.below hb2, Below.next HB1.out.2.2 hb2⟩
 obtain ⟨d2, hd2⟩ : ∃ d, d = f.ok := ⟨_, rfl⟩
 rw [← hd2]
 have HFO : Hid (d2 = f.ok) := hd2
 rw [← hd2] at HOK
 clear hb2 hd2 HB1
 cases d2
 ·
  have HV : Hid (x.hears f = false) := by show _ = _; rw [HOK.out]; rfl
  go_wp2
  go_ret2
  rw [HV.out]
  exact ⟨rfl, HB2.out.2.2⟩
 have c0 := HB2.out.1.cell 0
 have c4 := HB2.out.1.cell 4
 have k0 := HB2.out.2.1.cell 0
 have k1 := HB2.out.2.1.cell 1
 have k2 := HB2.out.2.1.cell 2
 have k3 := HB2.out.2.1.cell 3
 have k4 := HB2.out.2.1.cell 4
 simp only [aT, aS, aZ] at c0 c4 k0 k1 k2 k3 k4
 by_cases ha : f.agent = x.id
 rotate_left
 ·
  have z : (f.agent != x.id) = true := by simpa using ha
  have HV : Hid (x.hears f = false) := by show _ = _; rw [HOK.out, decide_eq_false ha, Bool.and_false, Bool.false_and]
  clear ha
  go_wp2
  go_ret2
  rw [HV.out]
  exact ⟨rfl, HB2.out.2.2⟩
 have z : (f.agent != x.id) = false := by simpa using ha
 have HOK2 : Hid (x.hears f = (decide (2 ≤ f.kind) && (f.taken.ok && f.taken.under n1))) := by show _ = _; rw [HOK.out, decide_eq_true ha, Bool.and_true, Bool.true_and, Bool.true_and]
 clear ha HOK
 go_wp2_with fail
 refine (areSeqs_any bt lt ct n1 f.taken F' _ (HF.out.2.2.2.1.below HB2.out.2.2) HF.out.2.2.2.2).mono ?_
 rintro e w3 ⟨rfl, hb3⟩
 have HB3 : Hid (Blk w3 w.heap.size #[.int .i64 x.id, .int .i64 x.epoch, .bool x.live, .int .i64 x.granted, .slice a1 n1 c1, .slice a2 n2 c2, .int .i64 x.next] 27 ∧ Blk w3 (w.heap.size + 1) #[.int .i64 f.kind, .int .i64 f.agent, .int .i64 f.epoch, .int .i64 f.granted, .slice bt lt ct, .int .i64 f.item.seq, .int .i64 f.item.cls, .int .i64 f.item.key, .int .i64 f.item.window, .int .i64 f.item.sk.count, .int .i64 f.item.sk.sum, .int .i64 f.item.sk.min, .int .i64 f.item.sk.max, .slice b1 m1 e1, .slice b2 m2 e2, .slice b3 m3 e3] 38 ∧ Below w.heap.size w w3) := ⟨HB2.out.1.below hb3, HB2.out.2.1.below hb3, Below.next HB2.out.2.2 hb3⟩
 obtain ⟨d3, hd3⟩ : ∃ d, d = (f.taken.ok && f.taken.under n1) := ⟨_, rfl⟩
 rw [← hd3]
 rw [← hd3] at HOK2
 clear hb3 hd3 HB2 c0 c4 k0 k1 k2 k3 k4 z
 cases d3
 ·
  have HV : Hid (x.hears f = false) := by show _ = _; rw [HOK2.out, Bool.and_false]
  go_wp2
  go_ret2
  rw [HV.out]
  exact ⟨rfl, HB3.out.2.2⟩
 have k0 := HB3.out.2.1.cell 0
 have k2 := HB3.out.2.1.cell 2
 have k3 := HB3.out.2.1.cell 3
 simp only [aT, aS, aZ] at k0 k2 k3
 by_cases h2 : f.kind = 2
 ·
  have z2 : (f.kind == 2) = true := by simpa using h2
  have HV : Hid (x.hears f = true ∧ newsVal f = .iface 126 (.agg #[.int .i64 f.epoch, .int .i64 f.granted])) := ⟨by rw [HOK2.out, decide_eq_true (by omega)]; rfl, by unfold newsVal; rw [if_pos h2]⟩
  clear h2
  go_wp2
  go_ret2
  rw [HV.out.1, HV.out.2]
  exact ⟨rfl, HB3.out.2.2⟩
 have z2 : (f.kind == 2) = false := by simpa using h2
 by_cases h3 : f.kind = 3
 ·
  have z3 : (f.kind == 3) = true := by simpa using h3
  have HV : Hid (x.hears f = true ∧ newsVal f = .iface 128 (.agg #[.int .i64 f.epoch])) := ⟨by rw [HOK2.out, decide_eq_true (by omega)]; rfl, by unfold newsVal; rw [if_neg h2]⟩
  clear h2 h3
  go_wp2
  go_ret2
  rw [HV.out.1, HV.out.2]
  exact ⟨rfl, HB3.out.2.2⟩
 have z3 : (f.kind == 3) = false := by simpa using h3
 have HV : Hid (x.hears f = false) := by
  show _ = _
  rw [HOK2.out]
  have q := HFO.out.symm
  unfold Fr.ok at q
  simp only [Bool.and_eq_true, decide_eq_true_eq] at q
  obtain ⟨⟨⟨⟨⟨⟨g1, _⟩, _⟩, _⟩, _⟩, _⟩, _⟩ := q
  rw [decide_eq_false (by omega)]; rfl
 clear h2 h3
 go_wp2
 go_ret2
 rw [HV.out]
 exact ⟨rfl, HB3.out.2.2⟩
/-- What an AgentHear has: both arguments, the result's place, the copy at L. -/
structure HearI (w : World) (A B : Array Value) (L : Nat) (C : Array Value) (y : Ag) (F G : List Nat) (W : World) : Prop where
 box : Blk W w.heap.size A 27
 fr : Blk W (w.heap.size + 1) B 38
 res : Blk W (w.heap.size + 1 + 1) #[.int .i64 0, .int .i64 0, .bool false, .int .i64 0, .slice none 0 0, .slice none 0 0, .int .i64 0] 27
 bel : Below w.heap.size w W
 loc : Blk W L C 27
 rd : RdAg W (.agg C) y F G
 oF : Own (w.heap.size + 3) W F
 oG : Own (w.heap.size + 3) W G
 ap : ∀ b ∈ F, b ∉ G
 gL : w.heap.size + 3 ≤ L
 lF : ∀ b ∈ F, b < L
theorem HearI.below {w : World} {A B : Array Value} {L : Nat} {C : Array Value} {y : Ag} {F G : List Nat} {W W' : World} (h : HearI w A B L C y F G W) (b : Below W.heap.size W W') : HearI w A B L C y F G W' :=
 ⟨h.box.below b, h.fr.below b, h.res.below b, Below.next h.bel b, h.loc.below b, h.rd.below b, h.oF.below h.rd.lt1 b, h.oG.below h.rd.lt2 b, h.ap, h.gL, h.lF⟩
/-- The result is laid. -/
theorem HearI.put {w : World} {A B : Array Value} {L : Nat} {C D : Array Value} {x y : Ag} {F G : List Nat} {W : World} {c c' : Int} (h : HearI w A B L C x F G W) (hr : RdAg W (.agg D) y F G) (hc : c = c') :
 NewAg2 w (y, c') (.returned (.tuple #[.agg D, .int .i64 c])) (W.setRow (w.heap.size + 1 + 1) D) := by
 have nF : w.heap.size + 1 + 1 ∉ F := fun hx => by have := h.oF.ge _ hx; omega
 have nG : w.heap.size + 1 + 1 ∉ G := fun hx => by have := h.oG.ge _ hx; omega
 exact ⟨_, F, G, c, rfl, hr.agree (Agree.row nF _) (Agree.row nG _), hc, (h.oF.agree (Agree.row nF _)).mono (by omega), (h.oG.agree (Agree.row nG _)).mono (by omega), h.ap, below_setRow h.bel (by omega) _⟩
theorem rdAg_other {W : World} {x y : Ag} {F G : List Nat} {q1 q2 : Option Addr} {r1 k1 r2 k2 : Nat} {i e g nx : Int} {lv : Bool} (h : RdAg W (.agg #[.int .i64 x.id, .int .i64 x.epoch, .bool x.live, .int .i64 x.granted, .slice q1 r1 k1, .slice q2 r2 k2, .int .i64 x.next]) x F G) (e1 : y.id = i) (e2 : y.epoch = e) (e3 : y.live = lv) (e4 : y.granted = g) (e5 : y.sealed = x.sealed) (e6 : y.taken = x.taken) (e7 : y.next = nx) : RdAg W (.agg #[.int .i64 i, .int .i64 e, .bool lv, .int .i64 g, .slice q1 r1 k1, .slice q2 r2 k2, .int .i64 nx]) y F G := by
 obtain ⟨a1, m1, c1, a2, m2, c2, e, g1, g2, g3, g4⟩ := h
 injection e with e
 injection e with e
 simp at e
 obtain ⟨h1, h2⟩ := e
 obtain ⟨rfl, rfl, rfl⟩ := h1
 obtain ⟨rfl, rfl, rfl⟩ := h2
 exact ⟨_, _, _, _, _, _, by rw [e1, e2, e3, e4, e7], by rw [e5]; exact g1, by rw [e6]; exact g2, g3, g4⟩
set_option maxRecDepth 200000 in
set_option maxHeartbeats 8000000 in
theorem hearImpl_any (v u : Value) (x : Ag) (f : Fr) (F0 G0 F' G' : List Nat) (w : World) (h : RdAg w v x F0 G0) (k : RdFr w u f F' G') (hf : ∀ y ∈ x.sealed, y.sk.fits) (hs : x.sealed.length ≤ 1048576) (hl : x.taken.length ≤ 1048576) (kw : f.item.sk.wide) (kl : f.taken.length ≤ 1048576) :
 Calls Try.prog 24 #[v, u] w fun e w' => NewAg2 w (x.hear f) e w' := by
 obtain ⟨a1, n1, c1, a2, n2, c2, rfl, hL, hP, hc1, hc2⟩ := h
 obtain ⟨bt, lt, ct, b1, m1, e1, b2, m2, e2, b3, m3, e3, rfl, kP, kI, kc⟩ := k
 have HX : Hid (RdAg w (.agg #[.int .i64 x.id, .int .i64 x.epoch, .bool x.live, .int .i64 x.granted, .slice a1 n1 c1, .slice a2 n2 c2, .int .i64 x.next]) x F0 G0 ∧ RdP w a2 n2 x.taken G0 ∧ n2 ≤ c2) := ⟨⟨a1, n1, c1, a2, n2, c2, rfl, hL, hP, hc1, hc2⟩, hP, hc2.2⟩
 have HF : Hid (RdFr w (.agg #[.int .i64 f.kind, .int .i64 f.agent, .int .i64 f.epoch, .int .i64 f.granted, .slice bt lt ct, .int .i64 f.item.seq, .int .i64 f.item.cls, .int .i64 f.item.key, .int .i64 f.item.window, .int .i64 f.item.sk.count, .int .i64 f.item.sk.sum, .int .i64 f.item.sk.min, .int .i64 f.item.sk.max, .slice b1 m1 e1, .slice b2 m2 e2, .slice b3 m3 e3]) f F' G' ∧ RdP w bt lt f.taken F' ∧ n2 + lt ≤ 2097152) := ⟨⟨bt, lt, ct, b1, m1, e1, b2, m2, e2, b3, m3, e3, rfl, kP, kI, kc⟩, kP, by rw [← kP.length, ← hP.length]; omega⟩
 have HS : Hid ((∀ y ∈ x.sealed, y.sk.fits) ∧ x.sealed.length ≤ 1048576 ∧ x.taken.length ≤ 1048576 ∧ f.item.sk.wide ∧ f.taken.length ≤ 1048576) := ⟨hf, hs, hl, kw, kl⟩
 clear hL hP hc1 hc2 kP kI kc hf hs hl kw kl
 have HB : Hid (Blk (((w.alloc (.cells #[.int .i64 x.id, .int .i64 x.epoch, .bool x.live, .int .i64 x.granted, .slice a1 n1 c1, .slice a2 n2 c2, .int .i64 x.next] 27)).alloc (.cells #[.int .i64 f.kind, .int .i64 f.agent, .int .i64 f.epoch, .int .i64 f.granted, .slice bt lt ct, .int .i64 f.item.seq, .int .i64 f.item.cls, .int .i64 f.item.key, .int .i64 f.item.window, .int .i64 f.item.sk.count, .int .i64 f.item.sk.sum, .int .i64 f.item.sk.min, .int .i64 f.item.sk.max, .slice b1 m1 e1, .slice b2 m2 e2, .slice b3 m3 e3] 38)).alloc (.cells #[.int .i64 0, .int .i64 0, .bool false, .int .i64 0, .slice none 0 0, .slice none 0 0, .int .i64 0] 27)) w.heap.size #[.int .i64 x.id, .int .i64 x.epoch, .bool x.live, .int .i64 x.granted, .slice a1 n1 c1, .slice a2 n2 c2, .int .i64 x.next] 27 ∧ Blk (((w.alloc (.cells #[.int .i64 x.id, .int .i64 x.epoch, .bool x.live, .int .i64 x.granted, .slice a1 n1 c1, .slice a2 n2 c2, .int .i64 x.next] 27)).alloc (.cells #[.int .i64 f.kind, .int .i64 f.agent, .int .i64 f.epoch, .int .i64 f.granted, .slice bt lt ct, .int .i64 f.item.seq, .int .i64 f.item.cls, .int .i64 f.item.key, .int .i64 f.item.window, .int .i64 f.item.sk.count, .int .i64 f.item.sk.sum, .int .i64 f.item.sk.min, .int .i64 f.item.sk.max, .slice b1 m1 e1, .slice b2 m2 e2, .slice b3 m3 e3] 38)).alloc (.cells #[.int .i64 0, .int .i64 0, .bool false, .int .i64 0, .slice none 0 0, .slice none 0 0, .int .i64 0] 27)) (w.heap.size + 1) #[.int .i64 f.kind, .int .i64 f.agent, .int .i64 f.epoch, .int .i64 f.granted, .slice bt lt ct, .int .i64 f.item.seq, .int .i64 f.item.cls, .int .i64 f.item.key, .int .i64 f.item.window, .int .i64 f.item.sk.count, .int .i64 f.item.sk.sum, .int .i64 f.item.sk.min, .int .i64 f.item.sk.max, .slice b1 m1 e1, .slice b2 m2 e2, .slice b3 m3 e3] 38 ∧ Blk (((w.alloc (.cells #[.int .i64 x.id, .int .i64 x.epoch, .bool x.live, .int .i64 x.granted, .slice a1 n1 c1, .slice a2 n2 c2, .int .i64 x.next] 27)).alloc (.cells #[.int .i64 f.kind, .int .i64 f.agent, .int .i64 f.epoch, .int .i64 f.granted, .slice bt lt ct, .int .i64 f.item.seq, .int .i64 f.item.cls, .int .i64 f.item.key, .int .i64 f.item.window, .int .i64 f.item.sk.count, .int .i64 f.item.sk.sum, .int .i64 f.item.sk.min, .int .i64 f.item.sk.max, .slice b1 m1 e1, .slice b2 m2 e2, .slice b3 m3 e3] 38)).alloc (.cells #[.int .i64 0, .int .i64 0, .bool false, .int .i64 0, .slice none 0 0, .slice none 0 0, .int .i64 0] 27)) (w.heap.size + 1 + 1) #[.int .i64 0, .int .i64 0, .bool false, .int .i64 0, .slice none 0 0, .slice none 0 0, .int .i64 0] 27 ∧ Below w.heap.size w (((w.alloc (.cells #[.int .i64 x.id, .int .i64 x.epoch, .bool x.live, .int .i64 x.granted, .slice a1 n1 c1, .slice a2 n2 c2, .int .i64 x.next] 27)).alloc (.cells #[.int .i64 f.kind, .int .i64 f.agent, .int .i64 f.epoch, .int .i64 f.granted, .slice bt lt ct, .int .i64 f.item.seq, .int .i64 f.item.cls, .int .i64 f.item.key, .int .i64 f.item.window, .int .i64 f.item.sk.count, .int .i64 f.item.sk.sum, .int .i64 f.item.sk.min, .int .i64 f.item.sk.max, .slice b1 m1 e1, .slice b2 m2 e2, .slice b3 m3 e3] 38)).alloc (.cells #[.int .i64 0, .int .i64 0, .bool false, .int .i64 0, .slice none 0 0, .slice none 0 0, .int .i64 0] 27))) :=
  ⟨((Blk.made _ _ _).alloc _).alloc _, (Blk.made_eq (by simp)).alloc _, Blk.made_eq (by simp), Below.allocW _ (Below.allocW _ (Below.allocW _ (Below.refl _ _) (Nat.le_refl _)) (Nat.le_refl _)) (Nat.le_refl _)⟩
 go_enter Try.func24, Try.ntmps24
 go_wp2_with (first | go_skip | (with_reducible refine stopLoad 27 rfl ?_))
 obtain ⟨W0, hW0⟩ : ∃ W, W = ((w.alloc (.cells #[.int .i64 x.id, .int .i64 x.epoch, .bool x.live, .int .i64 x.granted, .slice a1 n1 c1, .slice a2 n2 c2, .int .i64 x.next] 27)).alloc (.cells #[.int .i64 f.kind, .int .i64 f.agent, .int .i64 f.epoch, .int .i64 f.granted, .slice bt lt ct, .int .i64 f.item.seq, .int .i64 f.item.cls, .int .i64 f.item.key, .int .i64 f.item.window, .int .i64 f.item.sk.count, .int .i64 f.item.sk.sum, .int .i64 f.item.sk.min, .int .i64 f.item.sk.max, .slice b1 m1 e1, .slice b2 m2 e2, .slice b3 m3 e3] 38)).alloc (.cells #[.int .i64 0, .int .i64 0, .bool false, .int .i64 0, .slice none 0 0, .slice none 0 0, .int .i64 0] 27) := ⟨_, rfl⟩
 rw [← hW0] at HB ⊢
 clear hW0
 refine load_known 27 w.heap.size _ 27 _ HB.out.1 rfl rfl rfl Try.underlying27 rfl infoAgT ?_
 go_wp2_with fail
 refine (copiedAgent_any _ x F0 G0 _ (HX.out.1.below HB.out.2.2.2) HS.out.1 HS.out.2.1 HS.out.2.2.1).mono ?_
 rintro e w2 ⟨v2, F, G, rfl, g2, o2, p2, ap2, hb2⟩
 obtain ⟨q1, r1, k1, q2, r2, k2, rfl, _⟩ := id g2
 have H2 : Hid (Blk w2 w.heap.size #[.int .i64 x.id, .int .i64 x.epoch, .bool x.live, .int .i64 x.granted, .slice a1 n1 c1, .slice a2 n2 c2, .int .i64 x.next] 27 ∧ Blk w2 (w.heap.size + 1) #[.int .i64 f.kind, .int .i64 f.agent, .int .i64 f.epoch, .int .i64 f.granted, .slice bt lt ct, .int .i64 f.item.seq, .int .i64 f.item.cls, .int .i64 f.item.key, .int .i64 f.item.window, .int .i64 f.item.sk.count, .int .i64 f.item.sk.sum, .int .i64 f.item.sk.min, .int .i64 f.item.sk.max, .slice b1 m1 e1, .slice b2 m2 e2, .slice b3 m3 e3] 38 ∧ Blk w2 (w.heap.size + 1 + 1) #[.int .i64 0, .int .i64 0, .bool false, .int .i64 0, .slice none 0 0, .slice none 0 0, .int .i64 0] 27 ∧ Below w.heap.size w w2 ∧ RdAg w2 (.agg #[.int .i64 x.id, .int .i64 x.epoch, .bool x.live, .int .i64 x.granted, .slice q1 r1 k1, .slice q2 r2 k2, .int .i64 x.next]) x F G ∧ Own (w.heap.size + 3) w2 F ∧ Own (w.heap.size + 3) w2 G ∧ (∀ b ∈ F, b ∉ G) ∧ w.heap.size + 3 ≤ w2.heap.size) := ⟨HB.out.1.below hb2, HB.out.2.1.below hb2, HB.out.2.2.1.below hb2, Below.next HB.out.2.2.2 hb2, g2, o2.mono HB.out.2.2.1.lt, p2.mono HB.out.2.2.1.lt, ap2, by have := HB.out.2.2.1.lt; have := hb2.size; omega⟩
 clear g2 o2 p2 ap2 hb2 HB
 go_wp2_with (first | go_skip | (with_reducible refine stopStore 27 rfl ?_))
 refine store_fresh 27 w2.heap.size rfl #[.int .i64 0, .int .i64 0, .bool false, .int .i64 0, .slice none 0 0, .slice none 0 0, .int .i64 0] #[.int .i64 x.id, .int .i64 x.epoch, .bool x.live, .int .i64 x.granted, .slice q1 r1 k1, .slice q2 r2 k2, .int .i64 x.next] 27 rfl rfl rfl rfl infoAgT rfl (by simp [Value.oneCell']) ?_
 intro w3 hg3 hb3
 have H3 : Hid (HearI w #[.int .i64 x.id, .int .i64 x.epoch, .bool x.live, .int .i64 x.granted, .slice a1 n1 c1, .slice a2 n2 c2, .int .i64 x.next] #[.int .i64 f.kind, .int .i64 f.agent, .int .i64 f.epoch, .int .i64 f.granted, .slice bt lt ct, .int .i64 f.item.seq, .int .i64 f.item.cls, .int .i64 f.item.key, .int .i64 f.item.window, .int .i64 f.item.sk.count, .int .i64 f.item.sk.sum, .int .i64 f.item.sk.min, .int .i64 f.item.sk.max, .slice b1 m1 e1, .slice b2 m2 e2, .slice b3 m3 e3] w2.heap.size #[.int .i64 x.id, .int .i64 x.epoch, .bool x.live, .int .i64 x.granted, .slice q1 r1 k1, .slice q2 r2 k2, .int .i64 x.next] x F G w3) := ⟨H2.out.1.below hb3, H2.out.2.1.below hb3, H2.out.2.2.1.below hb3, Below.next H2.out.2.2.2.1 hb3, hg3, H2.out.2.2.2.2.1.below hb3, H2.out.2.2.2.2.2.1.below H2.out.2.2.2.2.1.lt1 hb3, H2.out.2.2.2.2.2.2.1.below H2.out.2.2.2.2.1.lt2 hb3, H2.out.2.2.2.2.2.2.2.1, H2.out.2.2.2.2.2.2.2.2, H2.out.2.2.2.2.1.lt1⟩
 obtain ⟨L, hL⟩ : ∃ L, L = w2.heap.size := ⟨_, rfl⟩
 rw [← hL] at H3 ⊢
 clear hg3 hb3 H2 hL
 go_wp2_with (first | go_skip | (with_reducible refine stopLoad 27 rfl ?_) | (with_reducible refine stopLoad 38 rfl ?_))
 refine load_known 27 w.heap.size _ 27 _ H3.out.box rfl rfl rfl Try.underlying27 rfl infoAgT ?_
 go_wp2_with (first | go_skip | (with_reducible refine stopLoad 38 rfl ?_))
 refine load_known 38 (w.heap.size + 1) _ 38 _ H3.out.fr rfl rfl rfl Try.underlying38 rfl infoFrT ?_
 go_wp2_with fail
 refine (newsFor_any _ _ x f F0 G0 F' G' _ (HX.out.1.below H3.out.bel) (HF.out.1.below H3.out.bel) HS.out.1 HS.out.2.1 HS.out.2.2.1 HS.out.2.2.2.1 HS.out.2.2.2.2).mono ?_
 rintro e w4 ⟨rfl, hb4⟩
 have H4 : Hid (HearI w #[.int .i64 x.id, .int .i64 x.epoch, .bool x.live, .int .i64 x.granted, .slice a1 n1 c1, .slice a2 n2 c2, .int .i64 x.next] #[.int .i64 f.kind, .int .i64 f.agent, .int .i64 f.epoch, .int .i64 f.granted, .slice bt lt ct, .int .i64 f.item.seq, .int .i64 f.item.cls, .int .i64 f.item.key, .int .i64 f.item.window, .int .i64 f.item.sk.count, .int .i64 f.item.sk.sum, .int .i64 f.item.sk.min, .int .i64 f.item.sk.max, .slice b1 m1 e1, .slice b2 m2 e2, .slice b3 m3 e3] L #[.int .i64 x.id, .int .i64 x.epoch, .bool x.live, .int .i64 x.granted, .slice q1 r1 k1, .slice q2 r2 k2, .int .i64 x.next] x F G w4) := H3.out.below hb4
 obtain ⟨d, hd⟩ : ∃ d, d = x.hears f := ⟨_, rfl⟩
 rw [← hd]
 have HD : Hid (d = x.hears f) := hd
 clear hb4 hd H3
 cases d
 ·
  have HV : Hid (x.hear f = (x, 1)) := by show _ = _; unfold Ag.hear; rw [if_pos HD.out.symm]
  simp only [Bool.false_eq_true, if_false]
  go_wp2_with (first | go_skip | (with_reducible refine stopLoad 27 rfl ?_))
  refine load_known 27 L _ 27 _ H4.out.loc rfl rfl rfl Try.underlying27 rfl infoAgT ?_
  go_wp2_with (first | go_skip | (with_reducible refine stopStore 27 rfl ?_))
  refine store_known 27 (w.heap.size + 1 + 1) _ #[.int .i64 x.id, .int .i64 x.epoch, .bool x.live, .int .i64 x.granted, .slice q1 r1 k1, .slice q2 r2 k2, .int .i64 x.next] 27 H4.out.res rfl rfl rfl rfl infoAgT rfl (by simp [Value.oneCell']) ?_
  have HE := H4.out.put (c := 1) H4.out.rd rfl
  go_wp2
  refine bodyPost_ret (results_row_tmp Try.results24 _ _ (w.heap.size + 1 + 1) _ _ _ _ rfl H4.out.res.setRow Try.underlying27 rfl infoAgT) rfl ?_
  rw [HV.out]
  exact HE
 have HH := hears_kind HD.out.symm
 have HK : Hid (f.ok = true ∧ x.ok = true ∧ f.taken.ok = true ∧ x.hears f = true) := ⟨HH.2.1, HH.2.2.1, HH.2.2.2, HD.out.symm⟩
 have HKI := HH.1
 clear HH HD
 simp only [if_true]
 by_cases h2 : f.kind = 2
 ·
  have hnv : newsVal f = .iface 126 (.agg #[.int .i64 f.epoch, .int .i64 f.granted]) := by unfold newsVal; rw [if_pos h2]
  rw [hnv]
  have HK2 : Hid (f.kind = 2) := h2
  have hM := methodA f.epoch f.granted
  clear hnv h2 HKI
  go_wp2_with fail
  have H5 : Hid (HearI w #[.int .i64 x.id, .int .i64 x.epoch, .bool x.live, .int .i64 x.granted, .slice a1 n1 c1, .slice a2 n2 c2, .int .i64 x.next] #[.int .i64 f.kind, .int .i64 f.agent, .int .i64 f.epoch, .int .i64 f.granted, .slice bt lt ct, .int .i64 f.item.seq, .int .i64 f.item.cls, .int .i64 f.item.key, .int .i64 f.item.window, .int .i64 f.item.sk.count, .int .i64 f.item.sk.sum, .int .i64 f.item.sk.min, .int .i64 f.item.sk.max, .slice b1 m1 e1, .slice b2 m2 e2, .slice b3 m3 e3] L #[.int .i64 x.id, .int .i64 x.epoch, .bool x.live, .int .i64 x.granted, .slice q1 r1 k1, .slice q2 r2 k2, .int .i64 x.next] x F G w4.drew) := H4.out.below (Below.refl _ _).drew
  obtain ⟨Y0, hY0⟩ : ∃ Y, Y = w4.drew := ⟨_, rfl⟩
  rw [← hY0] at H5
  clear H4
  refine wp_region_held (S := fun W => Blk W w.heap.size #[.int .i64 x.id, .int .i64 x.epoch, .bool x.live, .int .i64 x.granted, .slice a1 n1 c1, .slice a2 n2 c2, .int .i64 x.next] 27) (by kernel_rfl) ?_
  change wpAnyH _ _ _ _ _ _ _ _ (World.drew _)
  rw [← hY0]
  clear hY0
  refine takeH (o := ?o19) 0 (.iface 126 (.agg #[.int .i64 f.epoch, .int .i64 f.granted])) ?h19 ?r19
  case h19 => simp only [aT, aZ]; rfl
  refine ⟨_, by simp [Act.put]; rfl, by kernel_rfl, by kernel_rfl, by kernel_rfl, fun _ _ _ h => h, (.inl ⟨rfl, fun W _ => by kernel_rfl⟩), H5.out.box, ?_⟩
  refine takeH (o := ?o20) 2 (.pointer (some ⟨w.heap.size, 1, none⟩)) ?h20 ?r20
  case h20 => simp only [aT, aS, aZ]; rfl
  refine ⟨_, by simp [Act.put]; rfl, by kernel_rfl, by kernel_rfl, by kernel_rfl, fun _ _ _ h => h, (.inl ⟨rfl, fun W _ => by kernel_rfl⟩), H5.out.box, ?_⟩
  refine takeH (o := ?o21) 3 (.int .i64 x.epoch) ?h21 ?r21
  case h21 => simp only [aT, aS, aZ]; rfl
  refine ⟨_, by simp [Act.put]; rfl, by kernel_rfl, by kernel_rfl, by kernel_rfl, fun _ _ _ h => h, (.inl ⟨rfl, fun W hW => by have c := hW.cell 1; simp only [aT, aS, aZ] at c; go_simp⟩), H5.out.box, ?_⟩
  refine onlyH (o := ?o22) 1 (by kernel_rfl) ?h22 ?r22
  case h22 => simp only [aT, aS, aZ]; rfl
  intro K hK
  refine op_invoke0 _ _ 126 (.agg #[.int .i64 f.epoch, .int .i64 f.granted]) 146 Try.f146 (fun v w' => v = .int .i64 f.epoch ∧ Below Y0.heap.size Y0 w') rfl rfl rfl (methodA f.epoch f.granted) Try.func146 (by kernel_rfl) (by kernel_rfl) ((ackOf_any f.epoch f.granted Y0).mono (by rintro e w' ⟨rfl, k1⟩; exact ⟨_, rfl, rfl, k1⟩)) ?_
  rintro vr w5 ⟨rfl, rb⟩
  have H6 : Hid (HearI w #[.int .i64 x.id, .int .i64 x.epoch, .bool x.live, .int .i64 x.granted, .slice a1 n1 c1, .slice a2 n2 c2, .int .i64 x.next] #[.int .i64 f.kind, .int .i64 f.agent, .int .i64 f.epoch, .int .i64 f.granted, .slice bt lt ct, .int .i64 f.item.seq, .int .i64 f.item.cls, .int .i64 f.item.key, .int .i64 f.item.window, .int .i64 f.item.sk.count, .int .i64 f.item.sk.sum, .int .i64 f.item.sk.min, .int .i64 f.item.sk.max, .slice b1 m1 e1, .slice b2 m2 e2, .slice b3 m3 e3] L #[.int .i64 x.id, .int .i64 x.epoch, .bool x.live, .int .i64 x.granted, .slice q1 r1 k1, .slice q2 r2 k2, .int .i64 x.next] x F G w5) := H5.out.below rb
  refine ⟨_, by simp [Act.put]; rfl, hK _ _ ⟨H6.out.box, ?_⟩⟩
  clear hK rb H5
  refine takeH (o := ?o23) 4 (.bool (decide (f.epoch < x.epoch))) ?h23 ?r23
  case h23 => simp only [aT, aS, aZ]; rfl
  refine ⟨_, by simp [Act.put]; rfl, by kernel_rfl, by kernel_rfl, by kernel_rfl, fun _ _ _ h => h, (.inl ⟨rfl, fun W _ => by go_simp⟩), H6.out.box, ?_⟩
  refine wpAnyH_done (by kernel_rfl) ?_ _
  by_cases h3 : f.epoch < x.epoch
  ·
   have hz : decide (f.epoch < x.epoch) = true := dec_true h3
   have HV : Hid (x.hear f = (x, 2)) := by show _ = _; unfold Ag.hear; rw [if_neg (by rw [HK.out.2.2.2]; simp), if_pos h3]
   rw [hz]
   clear h3 hz
   go_wp2_with (first | go_skip | (with_reducible refine stopLoad 27 rfl ?_))
   refine load_known 27 L _ 27 _ H6.out.loc rfl rfl rfl Try.underlying27 rfl infoAgT ?_
   go_wp2_with (first | go_skip | (with_reducible refine stopStore 27 rfl ?_))
   refine store_known 27 (w.heap.size + 1 + 1) _ #[.int .i64 x.id, .int .i64 x.epoch, .bool x.live, .int .i64 x.granted, .slice q1 r1 k1, .slice q2 r2 k2, .int .i64 x.next] 27 H6.out.res rfl rfl rfl rfl infoAgT rfl (by simp [Value.oneCell']) ?_
   have HE := H6.out.put (c := 2) H6.out.rd rfl
   go_wp2
   refine bodyPost_ret (results_row_tmp Try.results24 _ _ (w.heap.size + 1 + 1) _ _ _ _ rfl H6.out.res.setRow Try.underlying27 rfl infoAgT) rfl ?_
   rw [HV.out]
   exact HE
  have hz : decide (f.epoch < x.epoch) = false := dec_false h3
  rw [hz]
  have HLE : Hid (x.epoch ≤ f.epoch) := by show _ ≤ _; omega
  have c5 := H6.out.box.cell 5
  have k4 := H6.out.fr.cell 4
  simp only [aT, aS, aZ] at c5 k4
  clear hz h3
  go_wp2_with fail
  refine (joinImpl_any a2 bt n2 lt c2 ct x.taken f.taken G0 F' _ (HX.out.2.1.below H6.out.bel) (HF.out.2.1.below H6.out.bel) HF.out.2.2 HX.out.2.2).mono ?_
  rintro e w7 ⟨p, l, g, Gj, rfl, gj, oj, hb7, cj⟩
  have HJ : Hid (x.taken.join f.taken = joinTo x.taken f.taken f.taken.length) := Sp.join_yes (by have q := HK.out.2.1; unfold Ag.ok at q; simp only [Bool.and_eq_true] at q; exact q.1.1.2.1) HK.out.2.2.1
  have H7 : Hid (HearI w #[.int .i64 x.id, .int .i64 x.epoch, .bool x.live, .int .i64 x.granted, .slice a1 n1 c1, .slice a2 n2 c2, .int .i64 x.next] #[.int .i64 f.kind, .int .i64 f.agent, .int .i64 f.epoch, .int .i64 f.granted, .slice bt lt ct, .int .i64 f.item.seq, .int .i64 f.item.cls, .int .i64 f.item.key, .int .i64 f.item.window, .int .i64 f.item.sk.count, .int .i64 f.item.sk.sum, .int .i64 f.item.sk.min, .int .i64 f.item.sk.max, .slice b1 m1 e1, .slice b2 m2 e2, .slice b3 m3 e3] L #[.int .i64 x.id, .int .i64 x.epoch, .bool x.live, .int .i64 x.granted, .slice q1 r1 k1, .slice q2 r2 k2, .int .i64 x.next] x F G w7 ∧ RdP w7 p l (joinTo x.taken f.taken f.taken.length) Gj ∧ Own (L + 1) w7 Gj ∧ Capd p l g) := ⟨H6.out.below hb7, by rw [← HJ.out]; exact gj, oj.mono H6.out.loc.lt, cj⟩
  have l5 := H7.out.1.loc.cell 5
  have f5 := H7.out.1.loc.frozen 5
  simp only [aT, aS, aZ] at l5
  clear gj oj hb7 cj HJ H6 c5 k4
  go_wp2_with (first | go_skip | (with_reducible refine stopLoad 27 rfl ?_))
  have H8 : Hid (HearI w #[.int .i64 x.id, .int .i64 x.epoch, .bool x.live, .int .i64 x.granted, .slice a1 n1 c1, .slice a2 n2 c2, .int .i64 x.next] #[.int .i64 f.kind, .int .i64 f.agent, .int .i64 f.epoch, .int .i64 f.granted, .slice bt lt ct, .int .i64 f.item.seq, .int .i64 f.item.cls, .int .i64 f.item.key, .int .i64 f.item.window, .int .i64 f.item.sk.count, .int .i64 f.item.sk.sum, .int .i64 f.item.sk.min, .int .i64 f.item.sk.max, .slice b1 m1 e1, .slice b2 m2 e2, .slice b3 m3 e3] L #[.int .i64 x.id, .int .i64 x.epoch, .bool x.live, .int .i64 x.granted, .slice q1 r1 k1, .slice p l g, .int .i64 x.next] ⟨x.id, x.epoch, x.live, x.granted, x.sealed, joinTo x.taken f.taken f.taken.length, x.next⟩ F Gj (w7.setCell ⟨L, 5, none⟩ (.slice p l g))) := by
   have gL := H7.out.1.gL
   have nF : L ∉ F := fun hx => by have := H7.out.1.lF L hx; omega
   have nG : L ∉ Gj := fun hx => by have := H7.out.2.2.1.ge L hx; omega
   obtain ⟨s1, s2, s3, s4, s5, s6, es, g1, g2, g3, g4⟩ := H7.out.1.rd
   injection es with es
   injection es with es
   simp at es
   obtain ⟨es1, es2⟩ := es
   obtain ⟨rfl, rfl, rfl⟩ := es1
   exact ⟨H7.out.1.box.setOther (by omega) 5 _, H7.out.1.fr.setOther (by omega) 5 _, H7.out.1.res.setOther (by omega) 5 _, H7.out.1.bel.setCell (by show w.heap.size ≤ L; omega) _, H7.out.1.loc.set 5 _, ⟨_, _, _, _, _, _, rfl, g1.agree (.set nF 5 _), H7.out.2.1.agree (.set nG 5 _), g3, H7.out.2.2.2⟩, H7.out.1.oF.agree (.set nF 5 _), (H7.out.2.2.1.agree (.set nG 5 _)).mono (by omega), fun b hb hx => by have := H7.out.1.lF b hb; have := H7.out.2.2.1.ge b hx; omega, gL, H7.out.1.lF⟩
  obtain ⟨w8, hw8⟩ : ∃ W, W = w7.setCell ⟨L, 5, none⟩ (.slice p l g) := ⟨_, rfl⟩
  rw [← hw8] at H8 ⊢
  clear hw8 H7 l5 f5
  refine load_known 27 L _ 27 _ H8.out.loc rfl rfl rfl Try.underlying27 rfl infoAgT ?_
  have HG : Hid (0 ≤ f.granted) := by
   have q := HK.out.1
   unfold Fr.ok at q
   simp only [Bool.and_eq_true, decide_eq_true_eq] at q
   obtain ⟨⟨⟨⟨⟨⟨_, _⟩, _⟩, g4⟩, _⟩, _⟩, _⟩ := q
   exact g4.1
  by_cases h4 : x.epoch < f.epoch
  ·
   have HV : Hid (x.hear f = (⟨x.id, f.epoch, true, max 0 f.granted, x.sealed, joinTo x.taken f.taken f.taken.length, x.next⟩, 0)) := by
    show _ = _
    unfold Ag.hear
    rw [if_neg (by rw [HK.out.2.2.2]; simp), if_neg (by omega), if_neg (by omega), decide_eq_true HK2.out, if_pos HK2.out, show max 0 f.granted = f.granted from Int.max_eq_right HG.out]
   go_wp2_with fail
   refine (turnedAck1 x.id x.epoch x.granted x.next f.epoch f.granted x.live q1 p r1 k1 l g _ (by omega)).mono ?_
   rintro r w9 ⟨rfl, hb9⟩
   have H9 : Hid (HearI w #[.int .i64 x.id, .int .i64 x.epoch, .bool x.live, .int .i64 x.granted, .slice a1 n1 c1, .slice a2 n2 c2, .int .i64 x.next] #[.int .i64 f.kind, .int .i64 f.agent, .int .i64 f.epoch, .int .i64 f.granted, .slice bt lt ct, .int .i64 f.item.seq, .int .i64 f.item.cls, .int .i64 f.item.key, .int .i64 f.item.window, .int .i64 f.item.sk.count, .int .i64 f.item.sk.sum, .int .i64 f.item.sk.min, .int .i64 f.item.sk.max, .slice b1 m1 e1, .slice b2 m2 e2, .slice b3 m3 e3] L #[.int .i64 x.id, .int .i64 x.epoch, .bool x.live, .int .i64 x.granted, .slice q1 r1 k1, .slice p l g, .int .i64 x.next] ⟨x.id, x.epoch, x.live, x.granted, x.sealed, joinTo x.taken f.taken f.taken.length, x.next⟩ F Gj w9) := H8.out.below hb9
   clear hb9 H8
   go_wp2_with (first | go_skip | (with_reducible refine stopStore 27 rfl ?_))
   refine store_known 27 (w.heap.size + 1 + 1) _ #[.int .i64 x.id, .int .i64 f.epoch, .bool true, .int .i64 (max 0 f.granted), .slice q1 r1 k1, .slice p l g, .int .i64 x.next] 27 H9.out.res rfl rfl rfl rfl infoAgT rfl (by simp [Value.oneCell']) ?_
   have HE := H9.out.put (c := 0) (rdAg_other (y := ⟨x.id, f.epoch, true, (max 0 f.granted), x.sealed, joinTo x.taken f.taken f.taken.length, x.next⟩) (x := ⟨x.id, x.epoch, x.live, x.granted, x.sealed, joinTo x.taken f.taken f.taken.length, x.next⟩) H9.out.rd rfl rfl rfl rfl rfl rfl rfl) rfl
   go_wp2
   refine bodyPost_ret (results_row_tmp Try.results24 _ _ (w.heap.size + 1 + 1) _ _ _ _ rfl H9.out.res.setRow Try.underlying27 rfl infoAgT) rfl ?_
   rw [HV.out]
   exact HE
  ·
   have HV : Hid (x.hear f = (⟨x.id, f.epoch, true, max x.granted f.granted, x.sealed, joinTo x.taken f.taken f.taken.length, x.next⟩, 0)) := by
    have e : f.epoch = x.epoch := by have := HLE.out; omega
    show _ = _
    unfold Ag.hear
    rw [if_neg (by rw [HK.out.2.2.2]; simp), if_neg (by omega), if_pos ⟨HK2.out, e⟩, e]
   go_wp2_with fail
   refine (turnedAck2 x.id x.epoch x.granted x.next f.epoch f.granted x.live q1 p r1 k1 l g _ (by omega)).mono ?_
   rintro r w9 ⟨rfl, hb9⟩
   have H9 : Hid (HearI w #[.int .i64 x.id, .int .i64 x.epoch, .bool x.live, .int .i64 x.granted, .slice a1 n1 c1, .slice a2 n2 c2, .int .i64 x.next] #[.int .i64 f.kind, .int .i64 f.agent, .int .i64 f.epoch, .int .i64 f.granted, .slice bt lt ct, .int .i64 f.item.seq, .int .i64 f.item.cls, .int .i64 f.item.key, .int .i64 f.item.window, .int .i64 f.item.sk.count, .int .i64 f.item.sk.sum, .int .i64 f.item.sk.min, .int .i64 f.item.sk.max, .slice b1 m1 e1, .slice b2 m2 e2, .slice b3 m3 e3] L #[.int .i64 x.id, .int .i64 x.epoch, .bool x.live, .int .i64 x.granted, .slice q1 r1 k1, .slice p l g, .int .i64 x.next] ⟨x.id, x.epoch, x.live, x.granted, x.sealed, joinTo x.taken f.taken f.taken.length, x.next⟩ F Gj w9) := H8.out.below hb9
   clear hb9 H8
   go_wp2_with (first | go_skip | (with_reducible refine stopStore 27 rfl ?_))
   refine store_known 27 (w.heap.size + 1 + 1) _ #[.int .i64 x.id, .int .i64 f.epoch, .bool true, .int .i64 (max x.granted f.granted), .slice q1 r1 k1, .slice p l g, .int .i64 x.next] 27 H9.out.res rfl rfl rfl rfl infoAgT rfl (by simp [Value.oneCell']) ?_
   have HE := H9.out.put (c := 0) (rdAg_other (y := ⟨x.id, f.epoch, true, (max x.granted f.granted), x.sealed, joinTo x.taken f.taken f.taken.length, x.next⟩) (x := ⟨x.id, x.epoch, x.live, x.granted, x.sealed, joinTo x.taken f.taken f.taken.length, x.next⟩) H9.out.rd rfl rfl rfl rfl rfl rfl rfl) rfl
   go_wp2
   refine bodyPost_ret (results_row_tmp Try.results24 _ _ (w.heap.size + 1 + 1) _ _ _ _ rfl H9.out.res.setRow Try.underlying27 rfl infoAgT) rfl ?_
   rw [HV.out]
   exact HE
 ·
  have hnv : newsVal f = .iface 128 (.agg #[.int .i64 f.epoch]) := by unfold newsVal; rw [if_neg h2]
  rw [hnv]
  have HK2 : Hid (f.kind = 3) := (by show _ = _; omega)
  have hM := methodR f.epoch
  clear hnv h2 HKI
  go_wp2_with fail
  have H5 : Hid (HearI w #[.int .i64 x.id, .int .i64 x.epoch, .bool x.live, .int .i64 x.granted, .slice a1 n1 c1, .slice a2 n2 c2, .int .i64 x.next] #[.int .i64 f.kind, .int .i64 f.agent, .int .i64 f.epoch, .int .i64 f.granted, .slice bt lt ct, .int .i64 f.item.seq, .int .i64 f.item.cls, .int .i64 f.item.key, .int .i64 f.item.window, .int .i64 f.item.sk.count, .int .i64 f.item.sk.sum, .int .i64 f.item.sk.min, .int .i64 f.item.sk.max, .slice b1 m1 e1, .slice b2 m2 e2, .slice b3 m3 e3] L #[.int .i64 x.id, .int .i64 x.epoch, .bool x.live, .int .i64 x.granted, .slice q1 r1 k1, .slice q2 r2 k2, .int .i64 x.next] x F G w4.drew) := H4.out.below (Below.refl _ _).drew
  obtain ⟨Y0, hY0⟩ : ∃ Y, Y = w4.drew := ⟨_, rfl⟩
  rw [← hY0] at H5
  clear H4
  refine wp_region_held (S := fun W => Blk W w.heap.size #[.int .i64 x.id, .int .i64 x.epoch, .bool x.live, .int .i64 x.granted, .slice a1 n1 c1, .slice a2 n2 c2, .int .i64 x.next] 27) (by kernel_rfl) ?_
  change wpAnyH _ _ _ _ _ _ _ _ (World.drew _)
  rw [← hY0]
  clear hY0
  refine takeH (o := ?o24y) 0 (.iface 128 (.agg #[.int .i64 f.epoch])) ?h24y ?r24y
  case h24y => simp only [aT, aZ]; rfl
  refine ⟨_, by simp [Act.put]; rfl, by kernel_rfl, by kernel_rfl, by kernel_rfl, fun _ _ _ h => h, (.inl ⟨rfl, fun W _ => by kernel_rfl⟩), H5.out.box, ?_⟩
  refine takeH (o := ?o25y) 2 (.pointer (some ⟨w.heap.size, 1, none⟩)) ?h25y ?r25y
  case h25y => simp only [aT, aS, aZ]; rfl
  refine ⟨_, by simp [Act.put]; rfl, by kernel_rfl, by kernel_rfl, by kernel_rfl, fun _ _ _ h => h, (.inl ⟨rfl, fun W _ => by kernel_rfl⟩), H5.out.box, ?_⟩
  refine takeH (o := ?o26y) 3 (.int .i64 x.epoch) ?h26y ?r26y
  case h26y => simp only [aT, aS, aZ]; rfl
  refine ⟨_, by simp [Act.put]; rfl, by kernel_rfl, by kernel_rfl, by kernel_rfl, fun _ _ _ h => h, (.inl ⟨rfl, fun W hW => by have c := hW.cell 1; simp only [aT, aS, aZ] at c; go_simp⟩), H5.out.box, ?_⟩
  refine onlyH (o := ?o27y) 1 (by kernel_rfl) ?h27y ?r27y
  case h27y => simp only [aT, aS, aZ]; rfl
  intro K hK
  refine op_invoke0 _ _ 128 (.agg #[.int .i64 f.epoch]) 147 Try.f147 (fun v w' => v = .int .i64 f.epoch ∧ Below Y0.heap.size Y0 w') rfl rfl rfl (methodR f.epoch) Try.func147 (by kernel_rfl) (by kernel_rfl) ((resetOf_any f.epoch Y0).mono (by rintro e w' ⟨rfl, k1⟩; exact ⟨_, rfl, rfl, k1⟩)) ?_
  rintro vr w5 ⟨rfl, rb⟩
  have H6 : Hid (HearI w #[.int .i64 x.id, .int .i64 x.epoch, .bool x.live, .int .i64 x.granted, .slice a1 n1 c1, .slice a2 n2 c2, .int .i64 x.next] #[.int .i64 f.kind, .int .i64 f.agent, .int .i64 f.epoch, .int .i64 f.granted, .slice bt lt ct, .int .i64 f.item.seq, .int .i64 f.item.cls, .int .i64 f.item.key, .int .i64 f.item.window, .int .i64 f.item.sk.count, .int .i64 f.item.sk.sum, .int .i64 f.item.sk.min, .int .i64 f.item.sk.max, .slice b1 m1 e1, .slice b2 m2 e2, .slice b3 m3 e3] L #[.int .i64 x.id, .int .i64 x.epoch, .bool x.live, .int .i64 x.granted, .slice q1 r1 k1, .slice q2 r2 k2, .int .i64 x.next] x F G w5) := H5.out.below rb
  refine ⟨_, by simp [Act.put]; rfl, hK _ _ ⟨H6.out.box, ?_⟩⟩
  clear hK rb H5
  refine takeH (o := ?o28y) 4 (.bool (decide (f.epoch < x.epoch))) ?h28y ?r28y
  case h28y => simp only [aT, aS, aZ]; rfl
  refine ⟨_, by simp [Act.put]; rfl, by kernel_rfl, by kernel_rfl, by kernel_rfl, fun _ _ _ h => h, (.inl ⟨rfl, fun W _ => by go_simp⟩), H6.out.box, ?_⟩
  refine wpAnyH_done (by kernel_rfl) ?_ _
  by_cases h3 : f.epoch < x.epoch
  ·
   have hz : decide (f.epoch < x.epoch) = true := dec_true h3
   have HV : Hid (x.hear f = (x, 2)) := by show _ = _; unfold Ag.hear; rw [if_neg (by rw [HK.out.2.2.2]; simp), if_pos h3]
   rw [hz]
   clear h3 hz
   go_wp2_with (first | go_skip | (with_reducible refine stopLoad 27 rfl ?_))
   refine load_known 27 L _ 27 _ H6.out.loc rfl rfl rfl Try.underlying27 rfl infoAgT ?_
   go_wp2_with (first | go_skip | (with_reducible refine stopStore 27 rfl ?_))
   refine store_known 27 (w.heap.size + 1 + 1) _ #[.int .i64 x.id, .int .i64 x.epoch, .bool x.live, .int .i64 x.granted, .slice q1 r1 k1, .slice q2 r2 k2, .int .i64 x.next] 27 H6.out.res rfl rfl rfl rfl infoAgT rfl (by simp [Value.oneCell']) ?_
   have HE := H6.out.put (c := 2) H6.out.rd rfl
   go_wp2
   refine bodyPost_ret (results_row_tmp Try.results24 _ _ (w.heap.size + 1 + 1) _ _ _ _ rfl H6.out.res.setRow Try.underlying27 rfl infoAgT) rfl ?_
   rw [HV.out]
   exact HE
  have hz : decide (f.epoch < x.epoch) = false := dec_false h3
  rw [hz]
  have HLE : Hid (x.epoch ≤ f.epoch) := by show _ ≤ _; omega
  have c5 := H6.out.box.cell 5
  have k4 := H6.out.fr.cell 4
  simp only [aT, aS, aZ] at c5 k4
  clear hz h3
  go_wp2_with fail
  refine (joinImpl_any a2 bt n2 lt c2 ct x.taken f.taken G0 F' _ (HX.out.2.1.below H6.out.bel) (HF.out.2.1.below H6.out.bel) HF.out.2.2 HX.out.2.2).mono ?_
  rintro e w7 ⟨p, l, g, Gj, rfl, gj, oj, hb7, cj⟩
  have HJ : Hid (x.taken.join f.taken = joinTo x.taken f.taken f.taken.length) := Sp.join_yes (by have q := HK.out.2.1; unfold Ag.ok at q; simp only [Bool.and_eq_true] at q; exact q.1.1.2.1) HK.out.2.2.1
  have H7 : Hid (HearI w #[.int .i64 x.id, .int .i64 x.epoch, .bool x.live, .int .i64 x.granted, .slice a1 n1 c1, .slice a2 n2 c2, .int .i64 x.next] #[.int .i64 f.kind, .int .i64 f.agent, .int .i64 f.epoch, .int .i64 f.granted, .slice bt lt ct, .int .i64 f.item.seq, .int .i64 f.item.cls, .int .i64 f.item.key, .int .i64 f.item.window, .int .i64 f.item.sk.count, .int .i64 f.item.sk.sum, .int .i64 f.item.sk.min, .int .i64 f.item.sk.max, .slice b1 m1 e1, .slice b2 m2 e2, .slice b3 m3 e3] L #[.int .i64 x.id, .int .i64 x.epoch, .bool x.live, .int .i64 x.granted, .slice q1 r1 k1, .slice q2 r2 k2, .int .i64 x.next] x F G w7 ∧ RdP w7 p l (joinTo x.taken f.taken f.taken.length) Gj ∧ Own (L + 1) w7 Gj ∧ Capd p l g) := ⟨H6.out.below hb7, by rw [← HJ.out]; exact gj, oj.mono H6.out.loc.lt, cj⟩
  have l5 := H7.out.1.loc.cell 5
  have f5 := H7.out.1.loc.frozen 5
  simp only [aT, aS, aZ] at l5
  clear gj oj hb7 cj HJ H6 c5 k4
  go_wp2_with (first | go_skip | (with_reducible refine stopLoad 27 rfl ?_))
  have H8 : Hid (HearI w #[.int .i64 x.id, .int .i64 x.epoch, .bool x.live, .int .i64 x.granted, .slice a1 n1 c1, .slice a2 n2 c2, .int .i64 x.next] #[.int .i64 f.kind, .int .i64 f.agent, .int .i64 f.epoch, .int .i64 f.granted, .slice bt lt ct, .int .i64 f.item.seq, .int .i64 f.item.cls, .int .i64 f.item.key, .int .i64 f.item.window, .int .i64 f.item.sk.count, .int .i64 f.item.sk.sum, .int .i64 f.item.sk.min, .int .i64 f.item.sk.max, .slice b1 m1 e1, .slice b2 m2 e2, .slice b3 m3 e3] L #[.int .i64 x.id, .int .i64 x.epoch, .bool x.live, .int .i64 x.granted, .slice q1 r1 k1, .slice p l g, .int .i64 x.next] ⟨x.id, x.epoch, x.live, x.granted, x.sealed, joinTo x.taken f.taken f.taken.length, x.next⟩ F Gj (w7.setCell ⟨L, 5, none⟩ (.slice p l g))) := by
   have gL := H7.out.1.gL
   have nF : L ∉ F := fun hx => by have := H7.out.1.lF L hx; omega
   have nG : L ∉ Gj := fun hx => by have := H7.out.2.2.1.ge L hx; omega
   obtain ⟨s1, s2, s3, s4, s5, s6, es, g1, g2, g3, g4⟩ := H7.out.1.rd
   injection es with es
   injection es with es
   simp at es
   obtain ⟨es1, es2⟩ := es
   obtain ⟨rfl, rfl, rfl⟩ := es1
   exact ⟨H7.out.1.box.setOther (by omega) 5 _, H7.out.1.fr.setOther (by omega) 5 _, H7.out.1.res.setOther (by omega) 5 _, H7.out.1.bel.setCell (by show w.heap.size ≤ L; omega) _, H7.out.1.loc.set 5 _, ⟨_, _, _, _, _, _, rfl, g1.agree (.set nF 5 _), H7.out.2.1.agree (.set nG 5 _), g3, H7.out.2.2.2⟩, H7.out.1.oF.agree (.set nF 5 _), (H7.out.2.2.1.agree (.set nG 5 _)).mono (by omega), fun b hb hx => by have := H7.out.1.lF b hb; have := H7.out.2.2.1.ge b hx; omega, gL, H7.out.1.lF⟩
  obtain ⟨w8, hw8⟩ : ∃ W, W = w7.setCell ⟨L, 5, none⟩ (.slice p l g) := ⟨_, rfl⟩
  rw [← hw8] at H8 ⊢
  clear hw8 H7 l5 f5
  refine load_known 27 L _ 27 _ H8.out.loc rfl rfl rfl Try.underlying27 rfl infoAgT ?_
  have HV : Hid (x.hear f = (⟨x.id, f.epoch, false, 0, x.sealed, joinTo x.taken f.taken f.taken.length, x.next⟩, 0)) := by
   have hn : ¬ f.kind = 2 := by have := HK2.out; omega
   have := HLE.out
   show _ = _
   unfold Ag.hear
   rw [if_neg (by rw [HK.out.2.2.2]; simp), if_neg (by omega), if_neg (fun e => hn e.1), decide_eq_false hn, if_neg hn]
  go_wp2_with fail
  refine (turnedReset x.id x.epoch x.granted x.next f.epoch x.live q1 p r1 k1 l g _).mono ?_
  rintro r w9 ⟨rfl, hb9⟩
  have H9 : Hid (HearI w #[.int .i64 x.id, .int .i64 x.epoch, .bool x.live, .int .i64 x.granted, .slice a1 n1 c1, .slice a2 n2 c2, .int .i64 x.next] #[.int .i64 f.kind, .int .i64 f.agent, .int .i64 f.epoch, .int .i64 f.granted, .slice bt lt ct, .int .i64 f.item.seq, .int .i64 f.item.cls, .int .i64 f.item.key, .int .i64 f.item.window, .int .i64 f.item.sk.count, .int .i64 f.item.sk.sum, .int .i64 f.item.sk.min, .int .i64 f.item.sk.max, .slice b1 m1 e1, .slice b2 m2 e2, .slice b3 m3 e3] L #[.int .i64 x.id, .int .i64 x.epoch, .bool x.live, .int .i64 x.granted, .slice q1 r1 k1, .slice p l g, .int .i64 x.next] ⟨x.id, x.epoch, x.live, x.granted, x.sealed, joinTo x.taken f.taken f.taken.length, x.next⟩ F Gj w9) := H8.out.below hb9
  clear hb9 H8
  go_wp2_with (first | go_skip | (with_reducible refine stopStore 27 rfl ?_))
  refine store_known 27 (w.heap.size + 1 + 1) _ #[.int .i64 x.id, .int .i64 f.epoch, .bool false, .int .i64 0, .slice q1 r1 k1, .slice p l g, .int .i64 x.next] 27 H9.out.res rfl rfl rfl rfl infoAgT rfl (by simp [Value.oneCell']) ?_
  have HE := H9.out.put (c := 0) (rdAg_other (y := ⟨x.id, f.epoch, false, 0, x.sealed, joinTo x.taken f.taken f.taken.length, x.next⟩) (x := ⟨x.id, x.epoch, x.live, x.granted, x.sealed, joinTo x.taken f.taken f.taken.length, x.next⟩) H9.out.rd rfl rfl rfl rfl rfl rfl rfl) rfl
  go_wp2
  refine bodyPost_ret (results_row_tmp Try.results24 _ _ (w.heap.size + 1 + 1) _ _ _ _ rfl H9.out.res.setRow Try.underlying27 rfl infoAgT) rfl ?_
  rw [HV.out]
  exact HE
end Go.Proofs.Ytgkbhhlkaifnoaa
/- The walk through the program's Seal. No statement of the seat is proved here. -/
namespace Go.Proofs.Ytgkbhhlkaifnoaa
open Go.RowKit
theorem SealL.row {w : World} {A S : Array Value} {B L lo n1 : Nat} {x : Ag} {q1 : Option Addr} {k1 : Nat} {q2 : Option Addr} {l2 k2 : Nat} {F G GG : List Nat} {vs : List Value} {W : World} {X : Nat} (h : SealL w A S B L lo n1 x q1 k1 q2 l2 k2 F G GG vs W) (hX : L < X) (ds : Array Value) : SealL w A S B L lo n1 x q1 k1 q2 l2 k2 F G GG vs (W.setRow X ds) := by
 have gB := h.gB; have gL := h.gL
 refine ⟨⟨h.base.box.setRowOther (by omega), h.base.sk.setRowOther (by omega), h.base.res.setRowOther (by omega), below_setRow h.base.bel (by omega) _⟩, h.loc.setRowOther (by omega), ?_, gB, gL⟩
 have nF : X ∉ F := fun hx => by have := h.c.l1 _ hx; omega
 have nG : X ∉ G := fun hx => by have := h.c.l2' _ hx; omega
 have nK : X ∉ GG := fun hx => by have := h.c.l3 _ hx; omega
 have nV : ¬ (Value.slice q1 n1 k1).ownBlock = some X := fun e => by have := h.c.l4 _ e; omega
 refine ⟨h.c.len, h.c.rl.agree (Agree.row nF _), h.c.rp.agree (Agree.row nG _), h.c.cp1, h.c.cp2, h.c.oF.agree (Agree.row nF _), h.c.oG.agree (Agree.row nG _), h.c.ap, ⟨?_, h.c.gr.rd.agree (Agree.row nK _), h.c.gr.og.agree (Agree.row nK _), h.c.gr.ap, ?_⟩, h.c.hlo, h.c.g1, h.c.g2, h.c.l1, h.c.l2', h.c.l3, h.c.l4, h.c.l5⟩
 ·
  refine ⟨h.c.gr.row.1, ?_⟩
  rcases h.c.gr.row.2 with q | ⟨g', cap, cur, h1, h2, h3, h4⟩
  ·
   exact .inl q
  ·
   exact .inr ⟨g', cap, cur, h1, h2, by rw [setRow_other W X g' ds (fun e => nV (by rw [h1, ← e]; rfl))]; exact h3, h4⟩
 ·
  have := (below_setRow (Below.refl 0 W) (Nat.zero_le X) ds).size
  exact Nat.le_trans h.c.gr.lw this
theorem infoAgQImpl : (Try.prog.info? 27).map (·.size) = some 7 := by kernel_rfl
theorem infoItQImpl : (Try.prog.info? 36).map (·.size) = some 11 := by kernel_rfl
theorem infoSkQImpl : (Try.prog.info? 34).map (·.size) = some 7 := by kernel_rfl
theorem infoItsQImpl : (Try.prog.info? 36).map (fun i => (i.zero, i.size, i.bytes)) = some (some (.agg #[.int .i64 0, .int .i64 0, .int .i64 0, .int .i64 0, .int .i64 0, .int .i64 0, .int .i64 0, .int .i64 0, .slice none 0 0, .slice none 0 0, .slice none 0 0]), 11, 136) := by kernel_rfl
set_option maxRecDepth 200000 in
set_option maxHeartbeats 8000000 in
theorem sealImpl_any (v u : Value) (x : Ag) (c k n : Int) (s : Sk) (F0 G0 H0 : List Nat) (w : World) (h : RdAg w v x F0 G0) (hu : RdSk w u s H0) (hf : ∀ y ∈ x.sealed, y.sk.fits) (hs : x.sealed.length ≤ 1048576) (hl : x.taken.length ≤ 1048576) (hsf : s.fits) :
 Calls Try.prog 21 #[v, .int .i64 c, .int .i64 k, .int .i64 n, u] w fun e w' => NewAg2 w (x.seal c k n s) e w' := by
 obtain ⟨j0, hj, hy0, hy1, hy2⟩ := info_parts infoItsQImpl
 obtain ⟨a1, n1, c1, a2, n2, c2, rfl, hL, hP, hc1, hc2⟩ := h
 obtain ⟨b1, m1, d1, b2, m2, d2, b3, m3, d3, rfl⟩ := hu.cells7
 have HX : Hid (RdAg w (.agg #[.int .i64 x.id, .int .i64 x.epoch, .bool x.live, .int .i64 x.granted, .slice a1 n1 c1, .slice a2 n2 c2, .int .i64 x.next]) x F0 G0 ∧ x.sealed.length = n1) := ⟨⟨a1, n1, c1, a2, n2, c2, rfl, hL, hP, hc1, hc2⟩, hL.length⟩
 have HU : Hid (RdSk w (.agg #[.int .i64 s.count, .int .i64 s.sum, .int .i64 s.min, .int .i64 s.max, .slice b1 m1 d1, .slice b2 m2 d2, .slice b3 m3 d3]) s H0 ∧ s.fits) := ⟨hu, hsf⟩
 have HF : Hid ((∀ y ∈ x.sealed, y.sk.fits) ∧ x.sealed.length ≤ 1048576 ∧ x.taken.length ≤ 1048576) := ⟨hf, hs, hl⟩
 have hn1 : n1 ≤ 1048576 := by rw [← hL.length]; exact hs
 have HI : Hid (x.item c k n s = ⟨(n1 : Int) + 1, c, k, n, s⟩ ∧ (x.sealed.length : Int) + 1 = (n1 : Int) + 1) := ⟨by unfold Ag.item; rw [hL.length], by rw [hL.length]⟩
 clear hL hP hc1 hc2 hu hsf hf hs hl
 have HB0 : Hid (SealW w #[.int .i64 x.id, .int .i64 x.epoch, .bool x.live, .int .i64 x.granted, .slice a1 n1 c1, .slice a2 n2 c2, .int .i64 x.next] #[.int .i64 s.count, .int .i64 s.sum, .int .i64 s.min, .int .i64 s.max, .slice b1 m1 d1, .slice b2 m2 d2, .slice b3 m3 d3] (((w.alloc (.cells #[.int .i64 x.id, .int .i64 x.epoch, .bool x.live, .int .i64 x.granted, .slice a1 n1 c1, .slice a2 n2 c2, .int .i64 x.next] 27)).alloc (.cells #[.int .i64 s.count, .int .i64 s.sum, .int .i64 s.min, .int .i64 s.max, .slice b1 m1 d1, .slice b2 m2 d2, .slice b3 m3 d3] 34)).alloc (.cells #[.int .i64 0, .int .i64 0, .bool false, .int .i64 0, .slice none 0 0, .slice none 0 0, .int .i64 0] 27))) := SealW.made _ _ _
 go_enter Try.func21, Try.ntmps21
 go_wp2_with (first | go_skip | (with_reducible refine stopLoad 27 rfl ?_))
 obtain ⟨W0, hW0⟩ : ∃ W, W = ((w.alloc (.cells #[.int .i64 x.id, .int .i64 x.epoch, .bool x.live, .int .i64 x.granted, .slice a1 n1 c1, .slice a2 n2 c2, .int .i64 x.next] 27)).alloc (.cells #[.int .i64 s.count, .int .i64 s.sum, .int .i64 s.min, .int .i64 s.max, .slice b1 m1 d1, .slice b2 m2 d2, .slice b3 m3 d3] 34)).alloc (.cells #[.int .i64 0, .int .i64 0, .bool false, .int .i64 0, .slice none 0 0, .slice none 0 0, .int .i64 0] 27) := ⟨_, rfl⟩
 rw [← hW0] at HB0 ⊢
 clear hW0
 refine load_known 27 w.heap.size _ 27 _ HB0.out.box rfl rfl rfl Try.underlying27 rfl infoAgQImpl ?_
 go_wp2_with fail
 refine (copiedAgent_grow _ x F0 G0 _ (HX.out.1.below HB0.out.bel) HF.out.1 HF.out.2.1 HF.out.2.2).mono ?_
 intro e w2 hnew
 obtain ⟨q1, k1, q2, l2, k2, F, G, GG, lo, vs, rfl, hsc, hb2⟩ := hnew.at HX.out.2
 have HC2 : Hid (SealW w #[.int .i64 x.id, .int .i64 x.epoch, .bool x.live, .int .i64 x.granted, .slice a1 n1 c1, .slice a2 n2 c2, .int .i64 x.next] #[.int .i64 s.count, .int .i64 s.sum, .int .i64 s.min, .int .i64 s.max, .slice b1 m1 d1, .slice b2 m2 d2, .slice b3 m3 d3] w2 ∧ SealC W0.heap.size w2.heap.size lo n1 x q1 k1 q2 l2 k2 F G GG vs w2 ∧ w.heap.size + 3 ≤ W0.heap.size ∧ W0.heap.size ≤ w2.heap.size) := ⟨HB0.out.below hb2, hsc, HB0.out.res.lt, hb2.size⟩
 obtain ⟨B, hB⟩ : ∃ B, B = W0.heap.size := ⟨_, rfl⟩
 rw [← hB] at HC2
 clear hnew hsc hb2 HB0 hB
 go_wp2_with (first | go_skip | (with_reducible refine stopStore 27 rfl ?_))
 refine store_fresh 27 w2.heap.size rfl #[.int .i64 0, .int .i64 0, .bool false, .int .i64 0, .slice none 0 0, .slice none 0 0, .int .i64 0] #[.int .i64 x.id, .int .i64 x.epoch, .bool x.live, .int .i64 x.granted, .slice q1 n1 k1, .slice q2 l2 k2, .int .i64 x.next] 27 rfl rfl rfl rfl infoAgQImpl rfl (by simp [Value.oneCell']) ?_
 intro w3 hg3 hb3
 have HL3 : Hid (SealL w #[.int .i64 x.id, .int .i64 x.epoch, .bool x.live, .int .i64 x.granted, .slice a1 n1 c1, .slice a2 n2 c2, .int .i64 x.next] #[.int .i64 s.count, .int .i64 s.sum, .int .i64 s.min, .int .i64 s.max, .slice b1 m1 d1, .slice b2 m2 d2, .slice b3 m3 d3] B w2.heap.size lo n1 x q1 k1 q2 l2 k2 F G GG vs w3) := ⟨HC2.out.1.below hb3, hg3, HC2.out.2.1.below hb3, HC2.out.2.2.1, HC2.out.2.2.2⟩
 obtain ⟨L, hL⟩ : ∃ L, L = w2.heap.size := ⟨_, rfl⟩
 rw [← hL] at HL3 ⊢
 clear hg3 hb3 HC2 hL
 go_wp2_with fail
 have HLd : Hid (SealL w #[.int .i64 x.id, .int .i64 x.epoch, .bool x.live, .int .i64 x.granted, .slice a1 n1 c1, .slice a2 n2 c2, .int .i64 x.next] #[.int .i64 s.count, .int .i64 s.sum, .int .i64 s.min, .int .i64 s.max, .slice b1 m1 d1, .slice b2 m2 d2, .slice b3 m3 d3] B L lo n1 x q1 k1 q2 l2 k2 F G GG vs w3.drew) := HL3.out.below (Below.refl _ _).drew
 obtain ⟨Y0, hY0⟩ : ∃ Y, Y = w3.drew := ⟨_, rfl⟩
 rw [← hY0] at HLd
 clear HL3
 refine wp_region_held (S := SealW w #[.int .i64 x.id, .int .i64 x.epoch, .bool x.live, .int .i64 x.granted, .slice a1 n1 c1, .slice a2 n2 c2, .int .i64 x.next] #[.int .i64 s.count, .int .i64 s.sum, .int .i64 s.min, .int .i64 s.max, .slice b1 m1 d1, .slice b2 m2 d2, .slice b3 m3 d3]) (by kernel_rfl) ?_
 change wpAnyH _ _ _ _ _ _ _ _ (World.drew _)
 rw [← hY0]
 clear hY0
 refine takeH (o := ?o33) 0 (.pointer (some ⟨w.heap.size, 4, none⟩)) ?h33 ?r33
 case h33 => simp only [aT, aZ]; rfl
 refine ⟨_, by simp [Act.put]; rfl, by kernel_rfl, by kernel_rfl, by kernel_rfl, fun _ _ _ h => h, (.inl ⟨rfl, fun W _ => by kernel_rfl⟩), HLd.out.base, ?_⟩
 refine takeH (o := ?o34) 1 (.slice a1 n1 c1) ?h34 ?r34
 case h34 => simp only [aT, aS, aZ]; rfl
 refine ⟨_, by simp [Act.put]; rfl, by kernel_rfl, by kernel_rfl, by kernel_rfl, fun _ _ _ h => h, (.inl ⟨rfl, fun W hW => by have c := hW.box.cell 4; simp only [aT, aS, aZ] at c; go_simp⟩), HLd.out.base, ?_⟩
 refine takeH (o := ?o35) 2 (.int .i64 n1) ?h35 ?r35
 case h35 => simp only [aT, aS, aZ]; rfl
 refine ⟨_, by simp [Act.put]; rfl, by kernel_rfl, by kernel_rfl, by kernel_rfl, fun _ _ _ h => h, (.inl ⟨rfl, fun W _ => by go_simp⟩), HLd.out.base, ?_⟩
 refine takeH (o := ?o36) 3 (.int .i64 ((n1 : Int) + 1)) ?h36 ?r36
 case h36 => simp only [aT, aS, aZ]; rfl
 refine ⟨_, by simp [Act.put]; rfl, by kernel_rfl, by kernel_rfl, by kernel_rfl, fun _ _ _ h => h, (.inl ⟨rfl, fun W _ => by go_simp; exact wrapI (by omega)⟩), HLd.out.base, ?_⟩
 refine takeH (o := ?o37) 4 (.int .i64 c) ?h37 ?r37
 case h37 => simp only [aT, aS, aZ]; rfl
 refine ⟨_, by simp [Act.put]; rfl, by kernel_rfl, by kernel_rfl, by kernel_rfl, fun _ _ _ h => h, (.inl ⟨rfl, fun W _ => by kernel_rfl⟩), HLd.out.base, ?_⟩
 refine takeH (o := ?o38) 5 (.int .i64 k) ?h38 ?r38
 case h38 => simp only [aT, aS, aZ]; rfl
 refine ⟨_, by simp [Act.put]; rfl, by kernel_rfl, by kernel_rfl, by kernel_rfl, fun _ _ _ h => h, (.inl ⟨rfl, fun W _ => by kernel_rfl⟩), HLd.out.base, ?_⟩
 refine takeH (o := ?o39) 6 (.int .i64 n) ?h39 ?r39
 case h39 => simp only [aT, aS, aZ]; rfl
 refine ⟨_, by simp [Act.put]; rfl, by kernel_rfl, by kernel_rfl, by kernel_rfl, fun _ _ _ h => h, (.inl ⟨rfl, fun W _ => by kernel_rfl⟩), HLd.out.base, ?_⟩
 refine takeH (o := ?o40) 7 (.agg #[.int .i64 s.count, .int .i64 s.sum, .int .i64 s.min, .int .i64 s.max, .slice b1 m1 d1, .slice b2 m2 d2, .slice b3 m3 d3]) ?h40 ?r40
 case h40 => simp only [aT, aS, aZ]; rfl
 refine ⟨_, by simp [Act.put]; rfl, by kernel_rfl, by kernel_rfl, by kernel_rfl, fun _ _ _ h => h, (yields_whole 34 (w.heap.size + 1) #[.int .i64 s.count, .int .i64 s.sum, .int .i64 s.min, .int .i64 s.max, .slice b1 m1 d1, .slice b2 m2 d2, .slice b3 m3 d3] 34 _ rfl rfl rfl Try.underlying34 rfl infoSkQImpl (fun W hW => hW.sk)), HLd.out.base, ?_⟩
 refine twoH (o := ?o41) (o' := ?p41) 8 10 (by kernel_rfl) ?h41 ?g41 ?r41 ?s41
 case h41 => simp only [aT, aS, aZ]; rfl
 case g41 => simp only [aT, aS, aZ]; rfl
 case r41 =>
  intro K hK
  refine op_call1 56 _ _ Try.f56 (fun v w' => ∃ F, RdSk w' v s F ∧ Own Y0.heap.size w' F ∧ Below Y0.heap.size Y0 w') rfl rfl Try.func56 (by kernel_rfl) (by kernel_rfl) ((copiedSketch_all (.agg #[.int .i64 s.count, .int .i64 s.sum, .int .i64 s.min, .int .i64 s.max, .slice b1 m1 d1, .slice b2 m2 d2, .slice b3 m3 d3]) s H0 Y0 (HU.out.1.below HLd.out.base.bel) HU.out.2).mono (by rintro e w' ⟨v, F, rfl, k1, k2, k3⟩; exact ⟨_, rfl, F, k1, k2, k3⟩)) ?_
  rintro vr Y9 ⟨Fr, rr, ro, rb⟩
  obtain ⟨u1, v1, y1, u2, v2, y2, u3, v3, y3, rfl⟩ := rr.cells7
  have RR9 : Hid (RdIt Y9 (.agg #[.int .i64 ((n1 : Int) + 1), .int .i64 c, .int .i64 k, .int .i64 n, .int .i64 s.count, .int .i64 s.sum, .int .i64 s.min, .int .i64 s.max, .slice u1 v1 y1, .slice u2 v2 y2, .slice u3 v3 y3]) ⟨(n1 : Int) + 1, c, k, n, s⟩ Fr ∧ Own (L + 1) Y9 Fr) := ⟨⟨u1, v1, y1, u2, v2, y2, u3, v3, y3, rfl, rr⟩, ro.mono HLd.out.loc.lt⟩
  have HL9 : Hid (SealL w #[.int .i64 x.id, .int .i64 x.epoch, .bool x.live, .int .i64 x.granted, .slice a1 n1 c1, .slice a2 n2 c2, .int .i64 x.next] #[.int .i64 s.count, .int .i64 s.sum, .int .i64 s.min, .int .i64 s.max, .slice b1 m1 d1, .slice b2 m2 d2, .slice b3 m3 d3] B L lo n1 x q1 k1 q2 l2 k2 F G GG vs Y9) := HLd.out.below rb

  refine ⟨_, by simp [Act.put]; rfl, hK _ _ ⟨HL9.out.base, ?_⟩⟩
  clear hK rr ro rb
  refine takeH (o := ?o42) 9 (.agg #[.int .i64 ((n1 : Int) + 1), .int .i64 c, .int .i64 k, .int .i64 n, .int .i64 s.count, .int .i64 s.sum, .int .i64 s.min, .int .i64 s.max, .slice u1 v1 y1, .slice u2 v2 y2, .slice u3 v3 y3]) ?h42 ?r42
  case h42 => simp only [aT, aS, aZ]; rfl
  refine ⟨_, by simp [Act.put]; rfl, by kernel_rfl, by kernel_rfl, by kernel_rfl, fun _ _ _ h => h, (.inl ⟨rfl, fun W _ => by kernel_rfl⟩), HL9.out.base, ?_⟩
  refine onlyH (o := ?o43) 10 (by kernel_rfl) ?h43 ?r43
  case h43 => simp only [aT, aS, aZ]; rfl
  intro K hK
  have bl : Below Y9.heap.size Y9 (Y9.alloc (.cells #[.int .i64 0, .int .i64 0, .int .i64 0, .int .i64 0, .int .i64 0, .int .i64 0, .int .i64 0, .int .i64 0, .slice none 0 0, .slice none 0 0, .slice none 0 0] 36)) := (Below.refl _ _).alloc (Nat.le_refl _) _
  have HL10 : Hid (SealL w #[.int .i64 x.id, .int .i64 x.epoch, .bool x.live, .int .i64 x.granted, .slice a1 n1 c1, .slice a2 n2 c2, .int .i64 x.next] #[.int .i64 s.count, .int .i64 s.sum, .int .i64 s.min, .int .i64 s.max, .slice b1 m1 d1, .slice b2 m2 d2, .slice b3 m3 d3] B L lo n1 x q1 k1 q2 l2 k2 F G GG vs (Y9.alloc (.cells #[.int .i64 0, .int .i64 0, .int .i64 0, .int .i64 0, .int .i64 0, .int .i64 0, .int .i64 0, .int .i64 0, .slice none 0 0, .slice none 0 0, .slice none 0 0] 36))) := HL9.out.below bl
  have RR10 : Hid (RdIt (Y9.alloc (.cells #[.int .i64 0, .int .i64 0, .int .i64 0, .int .i64 0, .int .i64 0, .int .i64 0, .int .i64 0, .int .i64 0, .slice none 0 0, .slice none 0 0, .slice none 0 0] 36)) (.agg #[.int .i64 ((n1 : Int) + 1), .int .i64 c, .int .i64 k, .int .i64 n, .int .i64 s.count, .int .i64 s.sum, .int .i64 s.min, .int .i64 s.max, .slice u1 v1 y1, .slice u2 v2 y2, .slice u3 v3 y3]) ⟨(n1 : Int) + 1, c, k, n, s⟩ Fr ∧ Own (L + 1) (Y9.alloc (.cells #[.int .i64 0, .int .i64 0, .int .i64 0, .int .i64 0, .int .i64 0, .int .i64 0, .int .i64 0, .int .i64 0, .slice none 0 0, .slice none 0 0, .slice none 0 0] 36)) Fr) := ⟨RR9.out.1.below bl, RR9.out.2.below (RdIt.lt RR9.out.1) bl⟩
  have HX10 : Hid (Blk (Y9.alloc (.cells #[.int .i64 0, .int .i64 0, .int .i64 0, .int .i64 0, .int .i64 0, .int .i64 0, .int .i64 0, .int .i64 0, .slice none 0 0, .slice none 0 0, .slice none 0 0] 36)) Y9.heap.size #[.int .i64 0, .int .i64 0, .int .i64 0, .int .i64 0, .int .i64 0, .int .i64 0, .int .i64 0, .int .i64 0, .slice none 0 0, .slice none 0 0, .slice none 0 0] 36 ∧ Y9.heap.size ∉ Fr ∧ L < Y9.heap.size) := ⟨Blk.made _ _ _, fun hx => by have := RdIt.lt RR9.out.1 _ hx; omega, HL9.out.loc.lt⟩
  refine op_turn (.pointer (some ⟨Y9.heap.size, 0, none⟩)) (Y9.alloc (.cells #[.int .i64 0, .int .i64 0, .int .i64 0, .int .i64 0, .int .i64 0, .int .i64 0, .int .i64 0, .int .i64 0, .slice none 0 0, .slice none 0 0, .slice none 0 0] 36)) rfl (by kernel_rfl) ⟨_, by simp [Act.put]; rfl, hK _ _ ⟨HL10.out.base, ?_⟩⟩
  clear hK bl
  obtain ⟨X10, hL10⟩ : ∃ z, z = Y9.heap.size := ⟨_, rfl⟩
  obtain ⟨Y10, hY10⟩ : ∃ Z, Z = (Y9.alloc (.cells #[.int .i64 0, .int .i64 0, .int .i64 0, .int .i64 0, .int .i64 0, .int .i64 0, .int .i64 0, .int .i64 0, .slice none 0 0, .slice none 0 0, .slice none 0 0] 36)) := ⟨_, rfl⟩
  rw [← hY10, ← hL10] at HX10
  rw [← hY10] at HL10 RR10 ⊢
  rw [← hL10]
  clear hY10 hL10
  refine onlyH (o := ?o44) 11 (by kernel_rfl) ?h44 ?r44
  case h44 => simp only [aT, aS, aZ]; rfl
  intro K hK
  have HX11 : Hid (SealL w #[.int .i64 x.id, .int .i64 x.epoch, .bool x.live, .int .i64 x.granted, .slice a1 n1 c1, .slice a2 n2 c2, .int .i64 x.next] #[.int .i64 s.count, .int .i64 s.sum, .int .i64 s.min, .int .i64 s.max, .slice b1 m1 d1, .slice b2 m2 d2, .slice b3 m3 d3] B L lo n1 x q1 k1 q2 l2 k2 F G GG vs (Y10.setRow X10 #[.int .i64 ((n1 : Int) + 1), .int .i64 c, .int .i64 k, .int .i64 n, .int .i64 s.count, .int .i64 s.sum, .int .i64 s.min, .int .i64 s.max, .slice u1 v1 y1, .slice u2 v2 y2, .slice u3 v3 y3]) ∧ Blk (Y10.setRow X10 #[.int .i64 ((n1 : Int) + 1), .int .i64 c, .int .i64 k, .int .i64 n, .int .i64 s.count, .int .i64 s.sum, .int .i64 s.min, .int .i64 s.max, .slice u1 v1 y1, .slice u2 v2 y2, .slice u3 v3 y3]) X10 #[.int .i64 ((n1 : Int) + 1), .int .i64 c, .int .i64 k, .int .i64 n, .int .i64 s.count, .int .i64 s.sum, .int .i64 s.min, .int .i64 s.max, .slice u1 v1 y1, .slice u2 v2 y2, .slice u3 v3 y3] 36 ∧ RdIt (Y10.setRow X10 #[.int .i64 ((n1 : Int) + 1), .int .i64 c, .int .i64 k, .int .i64 n, .int .i64 s.count, .int .i64 s.sum, .int .i64 s.min, .int .i64 s.max, .slice u1 v1 y1, .slice u2 v2 y2, .slice u3 v3 y3]) (.agg #[.int .i64 ((n1 : Int) + 1), .int .i64 c, .int .i64 k, .int .i64 n, .int .i64 s.count, .int .i64 s.sum, .int .i64 s.min, .int .i64 s.max, .slice u1 v1 y1, .slice u2 v2 y2, .slice u3 v3 y3]) ⟨(n1 : Int) + 1, c, k, n, s⟩ Fr ∧ Own (L + 1) (Y10.setRow X10 #[.int .i64 ((n1 : Int) + 1), .int .i64 c, .int .i64 k, .int .i64 n, .int .i64 s.count, .int .i64 s.sum, .int .i64 s.min, .int .i64 s.max, .slice u1 v1 y1, .slice u2 v2 y2, .slice u3 v3 y3]) Fr ∧ L < X10) :=
   ⟨HL10.out.row HX10.out.2.2 _, HX10.out.1.setRow, RdIt.agree RR10.out.1 (Agree.row HX10.out.2.1 _), RR10.out.2.agree (Agree.row HX10.out.2.1 _), HX10.out.2.2⟩
  refine op_store 36 X10 #[.int .i64 0, .int .i64 0, .int .i64 0, .int .i64 0, .int .i64 0, .int .i64 0, .int .i64 0, .int .i64 0, .slice none 0 0, .slice none 0 0, .slice none 0 0] #[.int .i64 ((n1 : Int) + 1), .int .i64 c, .int .i64 k, .int .i64 n, .int .i64 s.count, .int .i64 s.sum, .int .i64 s.min, .int .i64 s.max, .slice u1 v1 y1, .slice u2 v2 y2, .slice u3 v3 y3] 36 rfl rfl rfl rfl HX10.out.1 infoItQImpl rfl (by simp [Value.oneCell']) ⟨_, by simp [Act.put]; rfl, hK _ _ ⟨HX11.out.1.base, ?_⟩⟩
  clear hK
  refine wpAnyH_done (by kernel_rfl) ?_ _
  obtain ⟨w5, hw5⟩ : ∃ W, W = Y10.setRow X10 #[.int .i64 ((n1 : Int) + 1), .int .i64 c, .int .i64 k, .int .i64 n, .int .i64 s.count, .int .i64 s.sum, .int .i64 s.min, .int .i64 s.max, .slice u1 v1 y1, .slice u2 v2 y2, .slice u3 v3 y3] := ⟨_, rfl⟩
  obtain ⟨X, hX⟩ : ∃ z, z = X10 := ⟨_, rfl⟩
  have H5 : Hid (SealL w #[.int .i64 x.id, .int .i64 x.epoch, .bool x.live, .int .i64 x.granted, .slice a1 n1 c1, .slice a2 n2 c2, .int .i64 x.next] #[.int .i64 s.count, .int .i64 s.sum, .int .i64 s.min, .int .i64 s.max, .slice b1 m1 d1, .slice b2 m2 d2, .slice b3 m3 d3] B L lo n1 x q1 k1 q2 l2 k2 F G GG vs w5 ∧ Blk w5 X #[.int .i64 ((n1 : Int) + 1), .int .i64 c, .int .i64 k, .int .i64 n, .int .i64 s.count, .int .i64 s.sum, .int .i64 s.min, .int .i64 s.max, .slice u1 v1 y1, .slice u2 v2 y2, .slice u3 v3 y3] 36 ∧ RdIt w5 (.agg #[.int .i64 ((n1 : Int) + 1), .int .i64 c, .int .i64 k, .int .i64 n, .int .i64 s.count, .int .i64 s.sum, .int .i64 s.min, .int .i64 s.max, .slice u1 v1 y1, .slice u2 v2 y2, .slice u3 v3 y3]) ⟨(n1 : Int) + 1, c, k, n, s⟩ Fr ∧ Own (L + 1) w5 Fr ∧ L < X) := by rw [hw5, hX]; exact HX11.out
  rw [← hw5, ← hX]
  clear hw5 hX HX11 HL10 RR10 HX10
  go_wp2_with (first | go_skip | (with_reducible refine stopLoad 27 rfl ?_))
  refine load_known 27 w.heap.size _ 27 _ H5.out.1.base.box rfl rfl rfl Try.underlying27 rfl infoAgQImpl ?_
  go_wp2_with fail
  refine (agentOkImpl_any _ x F0 G0 _ (HX.out.1.below H5.out.1.base.bel) (fun y hy => (HF.out.1 y hy).wide) (by have := HF.out.2.1; omega) (by have := HF.out.2.2; omega)).mono ?_
  rintro e w6 ⟨rfl, hb6⟩
  have H6 : Hid (SealL w #[.int .i64 x.id, .int .i64 x.epoch, .bool x.live, .int .i64 x.granted, .slice a1 n1 c1, .slice a2 n2 c2, .int .i64 x.next] #[.int .i64 s.count, .int .i64 s.sum, .int .i64 s.min, .int .i64 s.max, .slice b1 m1 d1, .slice b2 m2 d2, .slice b3 m3 d3] B L lo n1 x q1 k1 q2 l2 k2 F G GG vs w6 ∧ Blk w6 X #[.int .i64 ((n1 : Int) + 1), .int .i64 c, .int .i64 k, .int .i64 n, .int .i64 s.count, .int .i64 s.sum, .int .i64 s.min, .int .i64 s.max, .slice u1 v1 y1, .slice u2 v2 y2, .slice u3 v3 y3] 36 ∧ RdIt w6 (.agg #[.int .i64 ((n1 : Int) + 1), .int .i64 c, .int .i64 k, .int .i64 n, .int .i64 s.count, .int .i64 s.sum, .int .i64 s.min, .int .i64 s.max, .slice u1 v1 y1, .slice u2 v2 y2, .slice u3 v3 y3]) ⟨(n1 : Int) + 1, c, k, n, s⟩ Fr ∧ Own (L + 1) w6 Fr ∧ L < X) := ⟨H5.out.1.below hb6, H5.out.2.1.below hb6, RdIt.below H5.out.2.2.1 hb6, H5.out.2.2.2.1.below (RdIt.lt H5.out.2.2.1) hb6, H5.out.2.2.2.2⟩
  obtain ⟨d, hd⟩ : ∃ d, d = x.ok := ⟨_, rfl⟩
  rw [← hd]
  have HD : Hid (d = x.ok) := hd
  clear hb6 hd H5
  cases d
  ·
   have HV : Hid (x.seal c k n s = (x, 0)) := by show _ = _; unfold Ag.seal; rw [← HD.out]; rfl
   go_wp2_with (first | go_skip | (with_reducible refine stopLoad 27 rfl ?_))
   refine load_known 27 L _ 27 _ H6.out.1.loc rfl rfl rfl Try.underlying27 rfl infoAgQImpl ?_
   go_wp2_with (first | go_skip | (with_reducible refine stopStore 27 rfl ?_))
   refine store_known 27 (w.heap.size + 1 + 1) _ #[.int .i64 x.id, .int .i64 x.epoch, .bool x.live, .int .i64 x.granted, .slice q1 n1 k1, .slice q2 l2 k2, .int .i64 x.next] 27 H6.out.1.base.res rfl rfl rfl rfl infoAgQImpl rfl (by simp [Value.oneCell']) ?_
   go_wp2
   refine bodyPost_ret (results_row_tmp Try.results21 _ _ (w.heap.size + 1 + 1) _ _ _ _ rfl H6.out.1.base.res.setRow Try.underlying27 rfl infoAgQImpl) rfl ?_
   have gB := H6.out.1.gB
   have nr : w.heap.size + 1 + 1 ∉ F := fun hx => by have := H6.out.1.c.oF.ge _ hx; omega
   have mr : w.heap.size + 1 + 1 ∉ G := fun hx => by have := H6.out.1.c.oG.ge _ hx; omega
   rw [HV.out]
   exact ⟨_, F, G, _, rfl, ⟨q1, n1, k1, q2, l2, k2, rfl, H6.out.1.c.rl.agree (Agree.row nr _), H6.out.1.c.rp.agree (Agree.row mr _), H6.out.1.c.cp1, H6.out.1.c.cp2⟩, rfl, (H6.out.1.c.oF.agree (Agree.row nr _)).mono (by omega), (H6.out.1.c.oG.agree (Agree.row mr _)).mono (by omega), H6.out.1.c.ap, below_setRow H6.out.1.base.bel (by omega) _⟩
  have HD1 : Hid (x.ok = true) := HD.out.symm
  clear HD
  go_wp2_with (first | go_skip | (with_reducible refine stopLoad 36 rfl ?_))
  refine load_knownw8 36 X _ 36 _ H6.out.2.1 rfl rfl rfl Try.underlying36 rfl infoItQImpl ?_
  go_wp2_with fail
  refine (itemOkImpl_any _ ⟨(n1 : Int) + 1, c, k, n, s⟩ Fr _ H6.out.2.2.1 HU.out.2.wide).mono ?_
  rintro e w7 ⟨rfl, hb7⟩
  have H7 : Hid (SealL w #[.int .i64 x.id, .int .i64 x.epoch, .bool x.live, .int .i64 x.granted, .slice a1 n1 c1, .slice a2 n2 c2, .int .i64 x.next] #[.int .i64 s.count, .int .i64 s.sum, .int .i64 s.min, .int .i64 s.max, .slice b1 m1 d1, .slice b2 m2 d2, .slice b3 m3 d3] B L lo n1 x q1 k1 q2 l2 k2 F G GG vs w7 ∧ Blk w7 X #[.int .i64 ((n1 : Int) + 1), .int .i64 c, .int .i64 k, .int .i64 n, .int .i64 s.count, .int .i64 s.sum, .int .i64 s.min, .int .i64 s.max, .slice u1 v1 y1, .slice u2 v2 y2, .slice u3 v3 y3] 36 ∧ RdIt w7 (.agg #[.int .i64 ((n1 : Int) + 1), .int .i64 c, .int .i64 k, .int .i64 n, .int .i64 s.count, .int .i64 s.sum, .int .i64 s.min, .int .i64 s.max, .slice u1 v1 y1, .slice u2 v2 y2, .slice u3 v3 y3]) ⟨(n1 : Int) + 1, c, k, n, s⟩ Fr ∧ Own (L + 1) w7 Fr ∧ L < X) := ⟨H6.out.1.below hb7, H6.out.2.1.below hb7, RdIt.below H6.out.2.2.1 hb7, H6.out.2.2.2.1.below (RdIt.lt H6.out.2.2.1) hb7, H6.out.2.2.2.2⟩
  obtain ⟨d, hd⟩ : ∃ d, d = It.ok ⟨(n1 : Int) + 1, c, k, n, s⟩ := ⟨_, rfl⟩
  rw [← hd]
  have HD : Hid (d = (x.item c k n s).ok) := by show _ = _; rw [HI.out.1]; exact hd
  clear hb7 hd H6
  cases d
  ·
   have HV : Hid (x.seal c k n s = (x, 0)) := by show _ = _; unfold Ag.seal; rw [← HD.out]; simp
   go_wp2_with (first | go_skip | (with_reducible refine stopLoad 27 rfl ?_))
   refine load_known 27 L _ 27 _ H7.out.1.loc rfl rfl rfl Try.underlying27 rfl infoAgQImpl ?_
   go_wp2_with (first | go_skip | (with_reducible refine stopStore 27 rfl ?_))
   refine store_known 27 (w.heap.size + 1 + 1) _ #[.int .i64 x.id, .int .i64 x.epoch, .bool x.live, .int .i64 x.granted, .slice q1 n1 k1, .slice q2 l2 k2, .int .i64 x.next] 27 H7.out.1.base.res rfl rfl rfl rfl infoAgQImpl rfl (by simp [Value.oneCell']) ?_
   go_wp2
   refine bodyPost_ret (results_row_tmp Try.results21 _ _ (w.heap.size + 1 + 1) _ _ _ _ rfl H7.out.1.base.res.setRow Try.underlying27 rfl infoAgQImpl) rfl ?_
   have gB := H7.out.1.gB
   have nr : w.heap.size + 1 + 1 ∉ F := fun hx => by have := H7.out.1.c.oF.ge _ hx; omega
   have mr : w.heap.size + 1 + 1 ∉ G := fun hx => by have := H7.out.1.c.oG.ge _ hx; omega
   rw [HV.out]
   exact ⟨_, F, G, _, rfl, ⟨q1, n1, k1, q2, l2, k2, rfl, H7.out.1.c.rl.agree (Agree.row nr _), H7.out.1.c.rp.agree (Agree.row mr _), H7.out.1.c.cp1, H7.out.1.c.cp2⟩, rfl, (H7.out.1.c.oF.agree (Agree.row nr _)).mono (by omega), (H7.out.1.c.oG.agree (Agree.row mr _)).mono (by omega), H7.out.1.c.ap, below_setRow H7.out.1.base.bel (by omega) _⟩
  have HV : Hid (x.seal c k n s = (x.plus (x.item c k n s), (n1 : Int) + 1)) := by show _ = _; unfold Ag.seal; rw [if_pos ⟨HD1.out, HD.out.symm⟩, HI.out.2]
  have c4 := H7.out.1.loc.cell 4
  simp only [aT, aS, aZ] at c4
  go_wp2_with (first | go_skip | (with_reducible refine stopLoad 36 rfl ?_))
  refine load_known 36 X _ 36 _ H7.out.2.1 rfl rfl rfl Try.underlying36 rfl infoItQImpl ?_
  go_wp2_with (with_reducible refine stopAppend rfl ?_)
  obtain ⟨W8, hW8⟩ : ∃ W, W = w7.alloc (.cells #[.int .i64 ((n1 : Int) + 1), .int .i64 c, .int .i64 k, .int .i64 n, .int .i64 s.count, .int .i64 s.sum, .int .i64 s.min, .int .i64 s.max, .slice u1 v1 y1, .slice u2 v2 y2, .slice u3 v3 y3] 36) := ⟨_, rfl⟩
  have hbn : Below w7.heap.size w7 W8 := by rw [hW8]; exact (Below.refl _ _).alloc (Nat.le_refl _) _
  have HCN : Hid (∀ (j : Nat) (u : Value), #[.int .i64 ((n1 : Int) + 1), .int .i64 c, .int .i64 k, .int .i64 n, .int .i64 s.count, .int .i64 s.sum, .int .i64 s.min, .int .i64 s.max, .slice u1 v1 y1, .slice u2 v2 y2, .slice u3 v3 y3].toList[j]? = some u → W8.cell? ((⟨w7.heap.size, 0, none⟩ : Addr).add j) = some u) := by rw [hW8]; exact news_lit w7 #[.int .i64 ((n1 : Int) + 1), .int .i64 c, .int .i64 k, .int .i64 n, .int .i64 s.count, .int .i64 s.sum, .int .i64 s.min, .int .i64 s.max, .slice u1 v1 y1, .slice u2 v2 y2, .slice u3 v3 y3] 36
  have H8 : Hid (SealL w #[.int .i64 x.id, .int .i64 x.epoch, .bool x.live, .int .i64 x.granted, .slice a1 n1 c1, .slice a2 n2 c2, .int .i64 x.next] #[.int .i64 s.count, .int .i64 s.sum, .int .i64 s.min, .int .i64 s.max, .slice b1 m1 d1, .slice b2 m2 d2, .slice b3 m3 d3] B L lo n1 x q1 k1 q2 l2 k2 F G GG vs W8 ∧ Blk W8 X #[.int .i64 ((n1 : Int) + 1), .int .i64 c, .int .i64 k, .int .i64 n, .int .i64 s.count, .int .i64 s.sum, .int .i64 s.min, .int .i64 s.max, .slice u1 v1 y1, .slice u2 v2 y2, .slice u3 v3 y3] 36 ∧ RdIt W8 (.agg #[.int .i64 ((n1 : Int) + 1), .int .i64 c, .int .i64 k, .int .i64 n, .int .i64 s.count, .int .i64 s.sum, .int .i64 s.min, .int .i64 s.max, .slice u1 v1 y1, .slice u2 v2 y2, .slice u3 v3 y3]) ⟨(n1 : Int) + 1, c, k, n, s⟩ Fr ∧ Own (L + 1) W8 Fr ∧ L < X) := ⟨H7.out.1.below hbn, H7.out.2.1.below hbn, RdIt.below H7.out.2.2.1 hbn, H7.out.2.2.2.1.below (RdIt.lt H7.out.2.2.1) hbn, H7.out.2.2.2.2⟩
  rw [← hW8]
  clear hW8 hbn H7 c4
  refine Stop.intro (wpList_append_lies _ rfl _ _ 24 rfl lo 36 j0 (.agg #[.int .i64 0, .int .i64 0, .int .i64 0, .int .i64 0, .int .i64 0, .int .i64 0, .int .i64 0, .int .i64 0, .slice none 0 0, .slice none 0 0, .slice none 0 0]) 11 136 Try.underlying24 hj hy0 hy1 hy2 rfl (by decide) (.slice q1 n1 k1) n1 vs rfl H8.out.1.c.gr.row ⟨w7.heap.size, 0, none⟩ 1 1 #[.int .i64 ((n1 : Int) + 1), .int .i64 c, .int .i64 k, .int .i64 n, .int .i64 s.count, .int .i64 s.sum, .int .i64 s.min, .int .i64 s.max, .slice u1 v1 y1, .slice u2 v2 y2, .slice u3 v3 y3].toList rfl rfl HCN.out (by simp [Value.oneCell']) (by omega) (by unfold maxLen; omega) (by omega) H8.out.1.c.gr.lw _ rfl ?_)
  intro g4 cp4 W9 hown hgrow hat hlt9
  obtain ⟨ST1, ST2, F', ST3⟩ := H8.out.1.done H8.out.2.2.1 rfl H8.out.2.2.2.1 hown hgrow hat
  have HXB : Hid (Blk W9 X #[.int .i64 ((n1 : Int) + 1), .int .i64 c, .int .i64 k, .int .i64 n, .int .i64 s.count, .int .i64 s.sum, .int .i64 s.min, .int .i64 s.max, .slice u1 v1 y1, .slice u2 v2 y2, .slice u3 v3 y3] 36 ∧ L < X) := ⟨H8.out.2.1.agree (hgrow.block _ H8.out.2.1.lt (fun e => by have := H8.out.1.c.l4 X e.symm; have := H8.out.2.2.2.2; omega)), H8.out.2.2.2.2⟩
  have H9 : Hid (SealD w #[.int .i64 x.id, .int .i64 x.epoch, .bool x.live, .int .i64 x.granted, .slice a1 n1 c1, .slice a2 n2 c2, .int .i64 x.next] #[.int .i64 s.count, .int .i64 s.sum, .int .i64 s.min, .int .i64 s.max, .slice b1 m1 d1, .slice b2 m2 d2, .slice b3 m3 d3] L #[.int .i64 x.id, .int .i64 x.epoch, .bool x.live, .int .i64 x.granted, .slice (some ⟨g4, 0, none⟩) (n1 + 1) cp4, .slice q2 l2 k2, .int .i64 x.next] (x.plus (x.item c k n s)) F' G (W9.setCell ⟨L, 4, none⟩ (.slice (some ⟨g4, 0, none⟩) (n1 + 1) cp4)) ∧ Blk (W9.setCell ⟨L, 4, none⟩ (.slice (some ⟨g4, 0, none⟩) (n1 + 1) cp4)) X #[.int .i64 ((n1 : Int) + 1), .int .i64 c, .int .i64 k, .int .i64 n, .int .i64 s.count, .int .i64 s.sum, .int .i64 s.min, .int .i64 s.max, .slice u1 v1 y1, .slice u2 v2 y2, .slice u3 v3 y3] 36 ∧ L < X) := ⟨by rw [HI.out.1]; exact ST3, HXB.out.1.setOther (by have := HXB.out.2; omega) 4 _, HXB.out.2⟩
  have c4 := ST2.cell 4
  have f4 := ST2.frozen 4
  simp only [aT, aS, aZ] at c4
  clear hown hgrow hat hlt9 ST1 ST2 ST3 H8 HCN HXB
  go_wp2_with fail
  obtain ⟨w10, hw10⟩ : ∃ W, W = W9.setCell ⟨L, 4, none⟩ (.slice (some ⟨g4, 0, none⟩) (n1 + 1) cp4) := ⟨_, rfl⟩
  rw [← hw10] at H9
  try rw [← hw10]
  have HE : Hid (SealD w #[.int .i64 x.id, .int .i64 x.epoch, .bool x.live, .int .i64 x.granted, .slice a1 n1 c1, .slice a2 n2 c2, .int .i64 x.next] #[.int .i64 s.count, .int .i64 s.sum, .int .i64 s.min, .int .i64 s.max, .slice b1 m1 d1, .slice b2 m2 d2, .slice b3 m3 d3] L #[.int .i64 x.id, .int .i64 x.epoch, .bool x.live, .int .i64 x.granted, .slice (some ⟨g4, 0, none⟩) (n1 + 1) cp4, .slice q2 l2 k2, .int .i64 x.next] (x.plus (x.item c k n s)) F' G w10.drew ∧ Blk w10.drew X #[.int .i64 ((n1 : Int) + 1), .int .i64 c, .int .i64 k, .int .i64 n, .int .i64 s.count, .int .i64 s.sum, .int .i64 s.min, .int .i64 s.max, .slice u1 v1 y1, .slice u2 v2 y2, .slice u3 v3 y3] 36 ∧ L < X) := ⟨H9.out.1.below (Below.refl _ _).drew, H9.out.2.1.below (Below.refl _ _).drew, H9.out.2.2⟩
  obtain ⟨Z0, hZ0⟩ : ∃ Y, Y = w10.drew := ⟨_, rfl⟩
  rw [← hZ0] at HE
  clear H9 c4 f4 hw10
  refine wp_region_held (S := fun W => Blk W L #[.int .i64 x.id, .int .i64 x.epoch, .bool x.live, .int .i64 x.granted, .slice (some ⟨g4, 0, none⟩) (n1 + 1) cp4, .slice q2 l2 k2, .int .i64 x.next] 27 ∧ Blk W X #[.int .i64 ((n1 : Int) + 1), .int .i64 c, .int .i64 k, .int .i64 n, .int .i64 s.count, .int .i64 s.sum, .int .i64 s.min, .int .i64 s.max, .slice u1 v1 y1, .slice u2 v2 y2, .slice u3 v3 y3] 36) (by kernel_rfl) ?_
  change wpAnyH _ _ _ _ _ _ _ _ (World.drew _)
  rw [← hZ0]
  clear hZ0
  refine takeH (o := ?o48x) 0 (.agg #[.int .i64 x.id, .int .i64 x.epoch, .bool x.live, .int .i64 x.granted, .slice (some ⟨g4, 0, none⟩) (n1 + 1) cp4, .slice q2 l2 k2, .int .i64 x.next]) ?h48x ?r48x
  case h48x => simp only [aT, aZ]; rfl
  refine ⟨_, by simp [Act.put]; rfl, by kernel_rfl, by kernel_rfl, by kernel_rfl, fun _ _ _ h => h, (yields_whole 27 L #[.int .i64 x.id, .int .i64 x.epoch, .bool x.live, .int .i64 x.granted, .slice (some ⟨g4, 0, none⟩) (n1 + 1) cp4, .slice q2 l2 k2, .int .i64 x.next] 27 _ rfl rfl rfl Try.underlying27 rfl infoAgQImpl (fun W hW => hW.1)), ⟨HE.out.1.loc, HE.out.2.1⟩, ?_⟩
  refine takeH (o := ?o49x) 1 (.pointer (some ⟨X, 0, none⟩)) ?h49x ?r49x
  case h49x => simp only [aT, aS, aZ]; rfl
  refine ⟨_, by simp [Act.put]; rfl, by kernel_rfl, by kernel_rfl, by kernel_rfl, fun _ _ _ h => h, (.inl ⟨rfl, fun W _ => by kernel_rfl⟩), ⟨HE.out.1.loc, HE.out.2.1⟩, ?_⟩
  refine takeH (o := ?o50x) 2 (.int .i64 ((n1 : Int) + 1)) ?h50x ?r50x
  case h50x => simp only [aT, aS, aZ]; rfl
  refine ⟨_, by simp [Act.put]; rfl, by kernel_rfl, by kernel_rfl, by kernel_rfl, fun _ _ _ h => h, (.inl ⟨rfl, fun W hW => by have c := hW.2.cell 0; simp only [aT, aZ] at c; go_simp⟩), ⟨HE.out.1.loc, HE.out.2.1⟩, ?_⟩
  refine onlyH (o := ?o51x) 3 (by kernel_rfl) ?h51x ?r51x
  case h51x => simp only [aT, aS, aZ]; rfl
  intro K hK
  have gL := HE.out.1.gL
  have gX := HE.out.2.2
  refine op_store 27 (w.heap.size + 1 + 1) #[.int .i64 0, .int .i64 0, .bool false, .int .i64 0, .slice none 0 0, .slice none 0 0, .int .i64 0] #[.int .i64 x.id, .int .i64 x.epoch, .bool x.live, .int .i64 x.granted, .slice (some ⟨g4, 0, none⟩) (n1 + 1) cp4, .slice q2 l2 k2, .int .i64 x.next] 27 rfl rfl rfl rfl HE.out.1.base.res infoAgQImpl rfl (by simp [Value.oneCell']) ⟨_, by simp [Act.put]; rfl, hK _ _ ⟨⟨HE.out.1.loc.setRowOther (by omega), HE.out.2.1.setRowOther (by omega)⟩, ?_⟩⟩
  clear hK
  refine takeH (o := ?o52x) 4 (.int .i64 ((n1 : Int) + 1)) ?h52x ?r52x
  case h52x => simp only [aT, aS, aZ]; rfl
  refine ⟨_, by simp [Act.put]; rfl, by kernel_rfl, by kernel_rfl, by kernel_rfl, fun _ _ _ h => h, (.inl ⟨rfl, fun W _ => by kernel_rfl⟩), ⟨HE.out.1.loc.setRowOther (by omega), HE.out.2.1.setRowOther (by omega)⟩, ?_⟩
  refine wpAnyH_done (by kernel_rfl) ?_ _
  go_wp2
  refine bodyPost_ret (results_row_tmp Try.results21 _ _ (w.heap.size + 1 + 1) _ _ _ _ rfl HE.out.1.base.res.setRow Try.underlying27 rfl infoAgQImpl) rfl ?_
  have nr : w.heap.size + 1 + 1 ∉ F' := fun hx => by have := HE.out.1.oF.ge _ hx; omega
  have mr : w.heap.size + 1 + 1 ∉ G := fun hx => by have := HE.out.1.oG.ge _ hx; omega
  rw [HV.out]
  exact ⟨_, F', G, _, rfl, HE.out.1.rd.agree (Agree.row nr _) (Agree.row mr _), rfl, (HE.out.1.oF.agree (Agree.row nr _)).mono (by omega), (HE.out.1.oG.agree (Agree.row mr _)).mono (by omega), HE.out.1.ap, below_setRow HE.out.1.base.bel (by omega) _⟩
 case s41 =>
  intro K hK
  have bl : Below Y0.heap.size Y0 (Y0.alloc (.cells #[.int .i64 0, .int .i64 0, .int .i64 0, .int .i64 0, .int .i64 0, .int .i64 0, .int .i64 0, .int .i64 0, .slice none 0 0, .slice none 0 0, .slice none 0 0] 36)) := (Below.refl _ _).alloc (Nat.le_refl _) _
  have HL12 : Hid (SealL w #[.int .i64 x.id, .int .i64 x.epoch, .bool x.live, .int .i64 x.granted, .slice a1 n1 c1, .slice a2 n2 c2, .int .i64 x.next] #[.int .i64 s.count, .int .i64 s.sum, .int .i64 s.min, .int .i64 s.max, .slice b1 m1 d1, .slice b2 m2 d2, .slice b3 m3 d3] B L lo n1 x q1 k1 q2 l2 k2 F G GG vs (Y0.alloc (.cells #[.int .i64 0, .int .i64 0, .int .i64 0, .int .i64 0, .int .i64 0, .int .i64 0, .int .i64 0, .int .i64 0, .slice none 0 0, .slice none 0 0, .slice none 0 0] 36))) := HLd.out.below bl
  have HX12 : Hid (Blk (Y0.alloc (.cells #[.int .i64 0, .int .i64 0, .int .i64 0, .int .i64 0, .int .i64 0, .int .i64 0, .int .i64 0, .int .i64 0, .slice none 0 0, .slice none 0 0, .slice none 0 0] 36)) Y0.heap.size #[.int .i64 0, .int .i64 0, .int .i64 0, .int .i64 0, .int .i64 0, .int .i64 0, .int .i64 0, .int .i64 0, .slice none 0 0, .slice none 0 0, .slice none 0 0] 36 ∧ L < Y0.heap.size) := ⟨Blk.made _ _ _, HLd.out.loc.lt⟩
  refine op_turn (.pointer (some ⟨Y0.heap.size, 0, none⟩)) (Y0.alloc (.cells #[.int .i64 0, .int .i64 0, .int .i64 0, .int .i64 0, .int .i64 0, .int .i64 0, .int .i64 0, .int .i64 0, .slice none 0 0, .slice none 0 0, .slice none 0 0] 36)) rfl (by kernel_rfl) ⟨_, by simp [Act.put]; rfl, hK _ _ ⟨HL12.out.base, ?_⟩⟩
  clear hK bl
  obtain ⟨X12, hL12⟩ : ∃ z, z = Y0.heap.size := ⟨_, rfl⟩
  obtain ⟨Y12, hY12⟩ : ∃ Z, Z = (Y0.alloc (.cells #[.int .i64 0, .int .i64 0, .int .i64 0, .int .i64 0, .int .i64 0, .int .i64 0, .int .i64 0, .int .i64 0, .slice none 0 0, .slice none 0 0, .slice none 0 0] 36)) := ⟨_, rfl⟩
  rw [← hY12, ← hL12] at HX12
  rw [← hY12] at HL12 ⊢
  rw [← hL12]
  clear hY12 hL12
  refine onlyH (o := ?o45) 8 (by kernel_rfl) ?h45 ?r45
  case h45 => simp only [aT, aS, aZ]; rfl
  intro K hK
  refine op_call1 56 _ _ Try.f56 (fun v w' => ∃ F, RdSk w' v s F ∧ Own Y12.heap.size w' F ∧ Below Y12.heap.size Y12 w') rfl rfl Try.func56 (by kernel_rfl) (by kernel_rfl) ((copiedSketch_all (.agg #[.int .i64 s.count, .int .i64 s.sum, .int .i64 s.min, .int .i64 s.max, .slice b1 m1 d1, .slice b2 m2 d2, .slice b3 m3 d3]) s H0 Y12 (HU.out.1.below HL12.out.base.bel) HU.out.2).mono (by rintro e w' ⟨v, F, rfl, k1, k2, k3⟩; exact ⟨_, rfl, F, k1, k2, k3⟩)) ?_
  rintro vr Y13 ⟨Fr, rr, ro, rb⟩
  obtain ⟨u1, v1, y1, u2, v2, y2, u3, v3, y3, rfl⟩ := rr.cells7
  have RR13 : Hid (RdIt Y13 (.agg #[.int .i64 ((n1 : Int) + 1), .int .i64 c, .int .i64 k, .int .i64 n, .int .i64 s.count, .int .i64 s.sum, .int .i64 s.min, .int .i64 s.max, .slice u1 v1 y1, .slice u2 v2 y2, .slice u3 v3 y3]) ⟨(n1 : Int) + 1, c, k, n, s⟩ Fr ∧ Own (L + 1) Y13 Fr) := ⟨⟨u1, v1, y1, u2, v2, y2, u3, v3, y3, rfl, rr⟩, ro.mono HL12.out.loc.lt⟩
  have HL13 : Hid (SealL w #[.int .i64 x.id, .int .i64 x.epoch, .bool x.live, .int .i64 x.granted, .slice a1 n1 c1, .slice a2 n2 c2, .int .i64 x.next] #[.int .i64 s.count, .int .i64 s.sum, .int .i64 s.min, .int .i64 s.max, .slice b1 m1 d1, .slice b2 m2 d2, .slice b3 m3 d3] B L lo n1 x q1 k1 q2 l2 k2 F G GG vs Y13) := HL12.out.below rb

  have HX13 : Hid (Blk Y13 X12 #[.int .i64 0, .int .i64 0, .int .i64 0, .int .i64 0, .int .i64 0, .int .i64 0, .int .i64 0, .int .i64 0, .slice none 0 0, .slice none 0 0, .slice none 0 0] 36 ∧ X12 ∉ Fr ∧ L < X12) := ⟨HX12.out.1.below rb, fun hx => by have := ro.ge _ hx; have := HX12.out.1.lt; omega, HX12.out.2⟩
  refine ⟨_, by simp [Act.put]; rfl, hK _ _ ⟨HL13.out.base, ?_⟩⟩
  clear hK rr ro rb
  refine takeH (o := ?o46) 9 (.agg #[.int .i64 ((n1 : Int) + 1), .int .i64 c, .int .i64 k, .int .i64 n, .int .i64 s.count, .int .i64 s.sum, .int .i64 s.min, .int .i64 s.max, .slice u1 v1 y1, .slice u2 v2 y2, .slice u3 v3 y3]) ?h46 ?r46
  case h46 => simp only [aT, aS, aZ]; rfl
  refine ⟨_, by simp [Act.put]; rfl, by kernel_rfl, by kernel_rfl, by kernel_rfl, fun _ _ _ h => h, (.inl ⟨rfl, fun W _ => by kernel_rfl⟩), HL13.out.base, ?_⟩
  refine onlyH (o := ?o47) 11 (by kernel_rfl) ?h47 ?r47
  case h47 => simp only [aT, aS, aZ]; rfl
  intro K hK
  have HX14 : Hid (SealL w #[.int .i64 x.id, .int .i64 x.epoch, .bool x.live, .int .i64 x.granted, .slice a1 n1 c1, .slice a2 n2 c2, .int .i64 x.next] #[.int .i64 s.count, .int .i64 s.sum, .int .i64 s.min, .int .i64 s.max, .slice b1 m1 d1, .slice b2 m2 d2, .slice b3 m3 d3] B L lo n1 x q1 k1 q2 l2 k2 F G GG vs (Y13.setRow X12 #[.int .i64 ((n1 : Int) + 1), .int .i64 c, .int .i64 k, .int .i64 n, .int .i64 s.count, .int .i64 s.sum, .int .i64 s.min, .int .i64 s.max, .slice u1 v1 y1, .slice u2 v2 y2, .slice u3 v3 y3]) ∧ Blk (Y13.setRow X12 #[.int .i64 ((n1 : Int) + 1), .int .i64 c, .int .i64 k, .int .i64 n, .int .i64 s.count, .int .i64 s.sum, .int .i64 s.min, .int .i64 s.max, .slice u1 v1 y1, .slice u2 v2 y2, .slice u3 v3 y3]) X12 #[.int .i64 ((n1 : Int) + 1), .int .i64 c, .int .i64 k, .int .i64 n, .int .i64 s.count, .int .i64 s.sum, .int .i64 s.min, .int .i64 s.max, .slice u1 v1 y1, .slice u2 v2 y2, .slice u3 v3 y3] 36 ∧ RdIt (Y13.setRow X12 #[.int .i64 ((n1 : Int) + 1), .int .i64 c, .int .i64 k, .int .i64 n, .int .i64 s.count, .int .i64 s.sum, .int .i64 s.min, .int .i64 s.max, .slice u1 v1 y1, .slice u2 v2 y2, .slice u3 v3 y3]) (.agg #[.int .i64 ((n1 : Int) + 1), .int .i64 c, .int .i64 k, .int .i64 n, .int .i64 s.count, .int .i64 s.sum, .int .i64 s.min, .int .i64 s.max, .slice u1 v1 y1, .slice u2 v2 y2, .slice u3 v3 y3]) ⟨(n1 : Int) + 1, c, k, n, s⟩ Fr ∧ Own (L + 1) (Y13.setRow X12 #[.int .i64 ((n1 : Int) + 1), .int .i64 c, .int .i64 k, .int .i64 n, .int .i64 s.count, .int .i64 s.sum, .int .i64 s.min, .int .i64 s.max, .slice u1 v1 y1, .slice u2 v2 y2, .slice u3 v3 y3]) Fr ∧ L < X12) :=
   ⟨HL13.out.row HX13.out.2.2 _, HX13.out.1.setRow, RdIt.agree RR13.out.1 (Agree.row HX13.out.2.1 _), RR13.out.2.agree (Agree.row HX13.out.2.1 _), HX13.out.2.2⟩
  refine op_store 36 X12 #[.int .i64 0, .int .i64 0, .int .i64 0, .int .i64 0, .int .i64 0, .int .i64 0, .int .i64 0, .int .i64 0, .slice none 0 0, .slice none 0 0, .slice none 0 0] #[.int .i64 ((n1 : Int) + 1), .int .i64 c, .int .i64 k, .int .i64 n, .int .i64 s.count, .int .i64 s.sum, .int .i64 s.min, .int .i64 s.max, .slice u1 v1 y1, .slice u2 v2 y2, .slice u3 v3 y3] 36 rfl rfl rfl rfl HX13.out.1 infoItQImpl rfl (by simp [Value.oneCell']) ⟨_, by simp [Act.put]; rfl, hK _ _ ⟨HX14.out.1.base, ?_⟩⟩
  clear hK
  refine wpAnyH_done (by kernel_rfl) ?_ _
  obtain ⟨w5, hw5⟩ : ∃ W, W = Y13.setRow X12 #[.int .i64 ((n1 : Int) + 1), .int .i64 c, .int .i64 k, .int .i64 n, .int .i64 s.count, .int .i64 s.sum, .int .i64 s.min, .int .i64 s.max, .slice u1 v1 y1, .slice u2 v2 y2, .slice u3 v3 y3] := ⟨_, rfl⟩
  obtain ⟨X, hX⟩ : ∃ z, z = X12 := ⟨_, rfl⟩
  have H5 : Hid (SealL w #[.int .i64 x.id, .int .i64 x.epoch, .bool x.live, .int .i64 x.granted, .slice a1 n1 c1, .slice a2 n2 c2, .int .i64 x.next] #[.int .i64 s.count, .int .i64 s.sum, .int .i64 s.min, .int .i64 s.max, .slice b1 m1 d1, .slice b2 m2 d2, .slice b3 m3 d3] B L lo n1 x q1 k1 q2 l2 k2 F G GG vs w5 ∧ Blk w5 X #[.int .i64 ((n1 : Int) + 1), .int .i64 c, .int .i64 k, .int .i64 n, .int .i64 s.count, .int .i64 s.sum, .int .i64 s.min, .int .i64 s.max, .slice u1 v1 y1, .slice u2 v2 y2, .slice u3 v3 y3] 36 ∧ RdIt w5 (.agg #[.int .i64 ((n1 : Int) + 1), .int .i64 c, .int .i64 k, .int .i64 n, .int .i64 s.count, .int .i64 s.sum, .int .i64 s.min, .int .i64 s.max, .slice u1 v1 y1, .slice u2 v2 y2, .slice u3 v3 y3]) ⟨(n1 : Int) + 1, c, k, n, s⟩ Fr ∧ Own (L + 1) w5 Fr ∧ L < X) := by rw [hw5, hX]; exact HX14.out
  rw [← hw5, ← hX]
  clear hw5 hX HX14 HL13 RR13 HX13
  go_wp2_with (first | go_skip | (with_reducible refine stopLoad 27 rfl ?_))
  refine load_known 27 w.heap.size _ 27 _ H5.out.1.base.box rfl rfl rfl Try.underlying27 rfl infoAgQImpl ?_
  go_wp2_with fail
  refine (agentOkImpl_any _ x F0 G0 _ (HX.out.1.below H5.out.1.base.bel) (fun y hy => (HF.out.1 y hy).wide) (by have := HF.out.2.1; omega) (by have := HF.out.2.2; omega)).mono ?_
  rintro e w6 ⟨rfl, hb6⟩
  have H6 : Hid (SealL w #[.int .i64 x.id, .int .i64 x.epoch, .bool x.live, .int .i64 x.granted, .slice a1 n1 c1, .slice a2 n2 c2, .int .i64 x.next] #[.int .i64 s.count, .int .i64 s.sum, .int .i64 s.min, .int .i64 s.max, .slice b1 m1 d1, .slice b2 m2 d2, .slice b3 m3 d3] B L lo n1 x q1 k1 q2 l2 k2 F G GG vs w6 ∧ Blk w6 X #[.int .i64 ((n1 : Int) + 1), .int .i64 c, .int .i64 k, .int .i64 n, .int .i64 s.count, .int .i64 s.sum, .int .i64 s.min, .int .i64 s.max, .slice u1 v1 y1, .slice u2 v2 y2, .slice u3 v3 y3] 36 ∧ RdIt w6 (.agg #[.int .i64 ((n1 : Int) + 1), .int .i64 c, .int .i64 k, .int .i64 n, .int .i64 s.count, .int .i64 s.sum, .int .i64 s.min, .int .i64 s.max, .slice u1 v1 y1, .slice u2 v2 y2, .slice u3 v3 y3]) ⟨(n1 : Int) + 1, c, k, n, s⟩ Fr ∧ Own (L + 1) w6 Fr ∧ L < X) := ⟨H5.out.1.below hb6, H5.out.2.1.below hb6, RdIt.below H5.out.2.2.1 hb6, H5.out.2.2.2.1.below (RdIt.lt H5.out.2.2.1) hb6, H5.out.2.2.2.2⟩
  obtain ⟨d, hd⟩ : ∃ d, d = x.ok := ⟨_, rfl⟩
  rw [← hd]
  have HD : Hid (d = x.ok) := hd
  clear hb6 hd H5
  cases d
  ·
   have HV : Hid (x.seal c k n s = (x, 0)) := by show _ = _; unfold Ag.seal; rw [← HD.out]; rfl
   go_wp2_with (first | go_skip | (with_reducible refine stopLoad 27 rfl ?_))
   refine load_known 27 L _ 27 _ H6.out.1.loc rfl rfl rfl Try.underlying27 rfl infoAgQImpl ?_
   go_wp2_with (first | go_skip | (with_reducible refine stopStore 27 rfl ?_))
   refine store_known 27 (w.heap.size + 1 + 1) _ #[.int .i64 x.id, .int .i64 x.epoch, .bool x.live, .int .i64 x.granted, .slice q1 n1 k1, .slice q2 l2 k2, .int .i64 x.next] 27 H6.out.1.base.res rfl rfl rfl rfl infoAgQImpl rfl (by simp [Value.oneCell']) ?_
   go_wp2
   refine bodyPost_ret (results_row_tmp Try.results21 _ _ (w.heap.size + 1 + 1) _ _ _ _ rfl H6.out.1.base.res.setRow Try.underlying27 rfl infoAgQImpl) rfl ?_
   have gB := H6.out.1.gB
   have nr : w.heap.size + 1 + 1 ∉ F := fun hx => by have := H6.out.1.c.oF.ge _ hx; omega
   have mr : w.heap.size + 1 + 1 ∉ G := fun hx => by have := H6.out.1.c.oG.ge _ hx; omega
   rw [HV.out]
   exact ⟨_, F, G, _, rfl, ⟨q1, n1, k1, q2, l2, k2, rfl, H6.out.1.c.rl.agree (Agree.row nr _), H6.out.1.c.rp.agree (Agree.row mr _), H6.out.1.c.cp1, H6.out.1.c.cp2⟩, rfl, (H6.out.1.c.oF.agree (Agree.row nr _)).mono (by omega), (H6.out.1.c.oG.agree (Agree.row mr _)).mono (by omega), H6.out.1.c.ap, below_setRow H6.out.1.base.bel (by omega) _⟩
  have HD1 : Hid (x.ok = true) := HD.out.symm
  clear HD
  go_wp2_with (first | go_skip | (with_reducible refine stopLoad 36 rfl ?_))
  refine load_knownw8 36 X _ 36 _ H6.out.2.1 rfl rfl rfl Try.underlying36 rfl infoItQImpl ?_
  go_wp2_with fail
  refine (itemOkImpl_any _ ⟨(n1 : Int) + 1, c, k, n, s⟩ Fr _ H6.out.2.2.1 HU.out.2.wide).mono ?_
  rintro e w7 ⟨rfl, hb7⟩
  have H7 : Hid (SealL w #[.int .i64 x.id, .int .i64 x.epoch, .bool x.live, .int .i64 x.granted, .slice a1 n1 c1, .slice a2 n2 c2, .int .i64 x.next] #[.int .i64 s.count, .int .i64 s.sum, .int .i64 s.min, .int .i64 s.max, .slice b1 m1 d1, .slice b2 m2 d2, .slice b3 m3 d3] B L lo n1 x q1 k1 q2 l2 k2 F G GG vs w7 ∧ Blk w7 X #[.int .i64 ((n1 : Int) + 1), .int .i64 c, .int .i64 k, .int .i64 n, .int .i64 s.count, .int .i64 s.sum, .int .i64 s.min, .int .i64 s.max, .slice u1 v1 y1, .slice u2 v2 y2, .slice u3 v3 y3] 36 ∧ RdIt w7 (.agg #[.int .i64 ((n1 : Int) + 1), .int .i64 c, .int .i64 k, .int .i64 n, .int .i64 s.count, .int .i64 s.sum, .int .i64 s.min, .int .i64 s.max, .slice u1 v1 y1, .slice u2 v2 y2, .slice u3 v3 y3]) ⟨(n1 : Int) + 1, c, k, n, s⟩ Fr ∧ Own (L + 1) w7 Fr ∧ L < X) := ⟨H6.out.1.below hb7, H6.out.2.1.below hb7, RdIt.below H6.out.2.2.1 hb7, H6.out.2.2.2.1.below (RdIt.lt H6.out.2.2.1) hb7, H6.out.2.2.2.2⟩
  obtain ⟨d, hd⟩ : ∃ d, d = It.ok ⟨(n1 : Int) + 1, c, k, n, s⟩ := ⟨_, rfl⟩
  rw [← hd]
  have HD : Hid (d = (x.item c k n s).ok) := by show _ = _; rw [HI.out.1]; exact hd
  clear hb7 hd H6
  cases d
  ·
   have HV : Hid (x.seal c k n s = (x, 0)) := by show _ = _; unfold Ag.seal; rw [← HD.out]; simp
   go_wp2_with (first | go_skip | (with_reducible refine stopLoad 27 rfl ?_))
   refine load_known 27 L _ 27 _ H7.out.1.loc rfl rfl rfl Try.underlying27 rfl infoAgQImpl ?_
   go_wp2_with (first | go_skip | (with_reducible refine stopStore 27 rfl ?_))
   refine store_known 27 (w.heap.size + 1 + 1) _ #[.int .i64 x.id, .int .i64 x.epoch, .bool x.live, .int .i64 x.granted, .slice q1 n1 k1, .slice q2 l2 k2, .int .i64 x.next] 27 H7.out.1.base.res rfl rfl rfl rfl infoAgQImpl rfl (by simp [Value.oneCell']) ?_
   go_wp2
   refine bodyPost_ret (results_row_tmp Try.results21 _ _ (w.heap.size + 1 + 1) _ _ _ _ rfl H7.out.1.base.res.setRow Try.underlying27 rfl infoAgQImpl) rfl ?_
   have gB := H7.out.1.gB
   have nr : w.heap.size + 1 + 1 ∉ F := fun hx => by have := H7.out.1.c.oF.ge _ hx; omega
   have mr : w.heap.size + 1 + 1 ∉ G := fun hx => by have := H7.out.1.c.oG.ge _ hx; omega
   rw [HV.out]
   exact ⟨_, F, G, _, rfl, ⟨q1, n1, k1, q2, l2, k2, rfl, H7.out.1.c.rl.agree (Agree.row nr _), H7.out.1.c.rp.agree (Agree.row mr _), H7.out.1.c.cp1, H7.out.1.c.cp2⟩, rfl, (H7.out.1.c.oF.agree (Agree.row nr _)).mono (by omega), (H7.out.1.c.oG.agree (Agree.row mr _)).mono (by omega), H7.out.1.c.ap, below_setRow H7.out.1.base.bel (by omega) _⟩
  have HV : Hid (x.seal c k n s = (x.plus (x.item c k n s), (n1 : Int) + 1)) := by show _ = _; unfold Ag.seal; rw [if_pos ⟨HD1.out, HD.out.symm⟩, HI.out.2]
  have c4 := H7.out.1.loc.cell 4
  simp only [aT, aS, aZ] at c4
  go_wp2_with (first | go_skip | (with_reducible refine stopLoad 36 rfl ?_))
  refine load_known 36 X _ 36 _ H7.out.2.1 rfl rfl rfl Try.underlying36 rfl infoItQImpl ?_
  go_wp2_with (with_reducible refine stopAppend rfl ?_)
  obtain ⟨W8, hW8⟩ : ∃ W, W = w7.alloc (.cells #[.int .i64 ((n1 : Int) + 1), .int .i64 c, .int .i64 k, .int .i64 n, .int .i64 s.count, .int .i64 s.sum, .int .i64 s.min, .int .i64 s.max, .slice u1 v1 y1, .slice u2 v2 y2, .slice u3 v3 y3] 36) := ⟨_, rfl⟩
  have hbn : Below w7.heap.size w7 W8 := by rw [hW8]; exact (Below.refl _ _).alloc (Nat.le_refl _) _
  have HCN : Hid (∀ (j : Nat) (u : Value), #[.int .i64 ((n1 : Int) + 1), .int .i64 c, .int .i64 k, .int .i64 n, .int .i64 s.count, .int .i64 s.sum, .int .i64 s.min, .int .i64 s.max, .slice u1 v1 y1, .slice u2 v2 y2, .slice u3 v3 y3].toList[j]? = some u → W8.cell? ((⟨w7.heap.size, 0, none⟩ : Addr).add j) = some u) := by rw [hW8]; exact news_lit w7 #[.int .i64 ((n1 : Int) + 1), .int .i64 c, .int .i64 k, .int .i64 n, .int .i64 s.count, .int .i64 s.sum, .int .i64 s.min, .int .i64 s.max, .slice u1 v1 y1, .slice u2 v2 y2, .slice u3 v3 y3] 36
  have H8 : Hid (SealL w #[.int .i64 x.id, .int .i64 x.epoch, .bool x.live, .int .i64 x.granted, .slice a1 n1 c1, .slice a2 n2 c2, .int .i64 x.next] #[.int .i64 s.count, .int .i64 s.sum, .int .i64 s.min, .int .i64 s.max, .slice b1 m1 d1, .slice b2 m2 d2, .slice b3 m3 d3] B L lo n1 x q1 k1 q2 l2 k2 F G GG vs W8 ∧ Blk W8 X #[.int .i64 ((n1 : Int) + 1), .int .i64 c, .int .i64 k, .int .i64 n, .int .i64 s.count, .int .i64 s.sum, .int .i64 s.min, .int .i64 s.max, .slice u1 v1 y1, .slice u2 v2 y2, .slice u3 v3 y3] 36 ∧ RdIt W8 (.agg #[.int .i64 ((n1 : Int) + 1), .int .i64 c, .int .i64 k, .int .i64 n, .int .i64 s.count, .int .i64 s.sum, .int .i64 s.min, .int .i64 s.max, .slice u1 v1 y1, .slice u2 v2 y2, .slice u3 v3 y3]) ⟨(n1 : Int) + 1, c, k, n, s⟩ Fr ∧ Own (L + 1) W8 Fr ∧ L < X) := ⟨H7.out.1.below hbn, H7.out.2.1.below hbn, RdIt.below H7.out.2.2.1 hbn, H7.out.2.2.2.1.below (RdIt.lt H7.out.2.2.1) hbn, H7.out.2.2.2.2⟩
  rw [← hW8]
  clear hW8 hbn H7 c4
  refine Stop.intro (wpList_append_lies _ rfl _ _ 24 rfl lo 36 j0 (.agg #[.int .i64 0, .int .i64 0, .int .i64 0, .int .i64 0, .int .i64 0, .int .i64 0, .int .i64 0, .int .i64 0, .slice none 0 0, .slice none 0 0, .slice none 0 0]) 11 136 Try.underlying24 hj hy0 hy1 hy2 rfl (by decide) (.slice q1 n1 k1) n1 vs rfl H8.out.1.c.gr.row ⟨w7.heap.size, 0, none⟩ 1 1 #[.int .i64 ((n1 : Int) + 1), .int .i64 c, .int .i64 k, .int .i64 n, .int .i64 s.count, .int .i64 s.sum, .int .i64 s.min, .int .i64 s.max, .slice u1 v1 y1, .slice u2 v2 y2, .slice u3 v3 y3].toList rfl rfl HCN.out (by simp [Value.oneCell']) (by omega) (by unfold maxLen; omega) (by omega) H8.out.1.c.gr.lw _ rfl ?_)
  intro g4 cp4 W9 hown hgrow hat hlt9
  obtain ⟨ST1, ST2, F', ST3⟩ := H8.out.1.done H8.out.2.2.1 rfl H8.out.2.2.2.1 hown hgrow hat
  have HXB : Hid (Blk W9 X #[.int .i64 ((n1 : Int) + 1), .int .i64 c, .int .i64 k, .int .i64 n, .int .i64 s.count, .int .i64 s.sum, .int .i64 s.min, .int .i64 s.max, .slice u1 v1 y1, .slice u2 v2 y2, .slice u3 v3 y3] 36 ∧ L < X) := ⟨H8.out.2.1.agree (hgrow.block _ H8.out.2.1.lt (fun e => by have := H8.out.1.c.l4 X e.symm; have := H8.out.2.2.2.2; omega)), H8.out.2.2.2.2⟩
  have H9 : Hid (SealD w #[.int .i64 x.id, .int .i64 x.epoch, .bool x.live, .int .i64 x.granted, .slice a1 n1 c1, .slice a2 n2 c2, .int .i64 x.next] #[.int .i64 s.count, .int .i64 s.sum, .int .i64 s.min, .int .i64 s.max, .slice b1 m1 d1, .slice b2 m2 d2, .slice b3 m3 d3] L #[.int .i64 x.id, .int .i64 x.epoch, .bool x.live, .int .i64 x.granted, .slice (some ⟨g4, 0, none⟩) (n1 + 1) cp4, .slice q2 l2 k2, .int .i64 x.next] (x.plus (x.item c k n s)) F' G (W9.setCell ⟨L, 4, none⟩ (.slice (some ⟨g4, 0, none⟩) (n1 + 1) cp4)) ∧ Blk (W9.setCell ⟨L, 4, none⟩ (.slice (some ⟨g4, 0, none⟩) (n1 + 1) cp4)) X #[.int .i64 ((n1 : Int) + 1), .int .i64 c, .int .i64 k, .int .i64 n, .int .i64 s.count, .int .i64 s.sum, .int .i64 s.min, .int .i64 s.max, .slice u1 v1 y1, .slice u2 v2 y2, .slice u3 v3 y3] 36 ∧ L < X) := ⟨by rw [HI.out.1]; exact ST3, HXB.out.1.setOther (by have := HXB.out.2; omega) 4 _, HXB.out.2⟩
  have c4 := ST2.cell 4
  have f4 := ST2.frozen 4
  simp only [aT, aS, aZ] at c4
  clear hown hgrow hat hlt9 ST1 ST2 ST3 H8 HCN HXB
  go_wp2_with fail
  obtain ⟨w10, hw10⟩ : ∃ W, W = W9.setCell ⟨L, 4, none⟩ (.slice (some ⟨g4, 0, none⟩) (n1 + 1) cp4) := ⟨_, rfl⟩
  rw [← hw10] at H9
  try rw [← hw10]
  have HE : Hid (SealD w #[.int .i64 x.id, .int .i64 x.epoch, .bool x.live, .int .i64 x.granted, .slice a1 n1 c1, .slice a2 n2 c2, .int .i64 x.next] #[.int .i64 s.count, .int .i64 s.sum, .int .i64 s.min, .int .i64 s.max, .slice b1 m1 d1, .slice b2 m2 d2, .slice b3 m3 d3] L #[.int .i64 x.id, .int .i64 x.epoch, .bool x.live, .int .i64 x.granted, .slice (some ⟨g4, 0, none⟩) (n1 + 1) cp4, .slice q2 l2 k2, .int .i64 x.next] (x.plus (x.item c k n s)) F' G w10.drew ∧ Blk w10.drew X #[.int .i64 ((n1 : Int) + 1), .int .i64 c, .int .i64 k, .int .i64 n, .int .i64 s.count, .int .i64 s.sum, .int .i64 s.min, .int .i64 s.max, .slice u1 v1 y1, .slice u2 v2 y2, .slice u3 v3 y3] 36 ∧ L < X) := ⟨H9.out.1.below (Below.refl _ _).drew, H9.out.2.1.below (Below.refl _ _).drew, H9.out.2.2⟩
  obtain ⟨Z0, hZ0⟩ : ∃ Y, Y = w10.drew := ⟨_, rfl⟩
  rw [← hZ0] at HE
  clear H9 c4 f4 hw10
  refine wp_region_held (S := fun W => Blk W L #[.int .i64 x.id, .int .i64 x.epoch, .bool x.live, .int .i64 x.granted, .slice (some ⟨g4, 0, none⟩) (n1 + 1) cp4, .slice q2 l2 k2, .int .i64 x.next] 27 ∧ Blk W X #[.int .i64 ((n1 : Int) + 1), .int .i64 c, .int .i64 k, .int .i64 n, .int .i64 s.count, .int .i64 s.sum, .int .i64 s.min, .int .i64 s.max, .slice u1 v1 y1, .slice u2 v2 y2, .slice u3 v3 y3] 36) (by kernel_rfl) ?_
  change wpAnyH _ _ _ _ _ _ _ _ (World.drew _)
  rw [← hZ0]
  clear hZ0
  refine takeH (o := ?o48xx) 0 (.agg #[.int .i64 x.id, .int .i64 x.epoch, .bool x.live, .int .i64 x.granted, .slice (some ⟨g4, 0, none⟩) (n1 + 1) cp4, .slice q2 l2 k2, .int .i64 x.next]) ?h48xx ?r48xx
  case h48xx => simp only [aT, aZ]; rfl
  refine ⟨_, by simp [Act.put]; rfl, by kernel_rfl, by kernel_rfl, by kernel_rfl, fun _ _ _ h => h, (yields_whole 27 L #[.int .i64 x.id, .int .i64 x.epoch, .bool x.live, .int .i64 x.granted, .slice (some ⟨g4, 0, none⟩) (n1 + 1) cp4, .slice q2 l2 k2, .int .i64 x.next] 27 _ rfl rfl rfl Try.underlying27 rfl infoAgQImpl (fun W hW => hW.1)), ⟨HE.out.1.loc, HE.out.2.1⟩, ?_⟩
  refine takeH (o := ?o49xx) 1 (.pointer (some ⟨X, 0, none⟩)) ?h49xx ?r49xx
  case h49xx => simp only [aT, aS, aZ]; rfl
  refine ⟨_, by simp [Act.put]; rfl, by kernel_rfl, by kernel_rfl, by kernel_rfl, fun _ _ _ h => h, (.inl ⟨rfl, fun W _ => by kernel_rfl⟩), ⟨HE.out.1.loc, HE.out.2.1⟩, ?_⟩
  refine takeH (o := ?o50xx) 2 (.int .i64 ((n1 : Int) + 1)) ?h50xx ?r50xx
  case h50xx => simp only [aT, aS, aZ]; rfl
  refine ⟨_, by simp [Act.put]; rfl, by kernel_rfl, by kernel_rfl, by kernel_rfl, fun _ _ _ h => h, (.inl ⟨rfl, fun W hW => by have c := hW.2.cell 0; simp only [aT, aZ] at c; go_simp⟩), ⟨HE.out.1.loc, HE.out.2.1⟩, ?_⟩
  refine onlyH (o := ?o51xx) 3 (by kernel_rfl) ?h51xx ?r51xx
  case h51xx => simp only [aT, aS, aZ]; rfl
  intro K hK
  have gL := HE.out.1.gL
  have gX := HE.out.2.2
  refine op_store 27 (w.heap.size + 1 + 1) #[.int .i64 0, .int .i64 0, .bool false, .int .i64 0, .slice none 0 0, .slice none 0 0, .int .i64 0] #[.int .i64 x.id, .int .i64 x.epoch, .bool x.live, .int .i64 x.granted, .slice (some ⟨g4, 0, none⟩) (n1 + 1) cp4, .slice q2 l2 k2, .int .i64 x.next] 27 rfl rfl rfl rfl HE.out.1.base.res infoAgQImpl rfl (by simp [Value.oneCell']) ⟨_, by simp [Act.put]; rfl, hK _ _ ⟨⟨HE.out.1.loc.setRowOther (by omega), HE.out.2.1.setRowOther (by omega)⟩, ?_⟩⟩
  clear hK
  refine takeH (o := ?o52xx) 4 (.int .i64 ((n1 : Int) + 1)) ?h52xx ?r52xx
  case h52xx => simp only [aT, aS, aZ]; rfl
  refine ⟨_, by simp [Act.put]; rfl, by kernel_rfl, by kernel_rfl, by kernel_rfl, fun _ _ _ h => h, (.inl ⟨rfl, fun W _ => by kernel_rfl⟩), ⟨HE.out.1.loc.setRowOther (by omega), HE.out.2.1.setRowOther (by omega)⟩, ?_⟩
  refine wpAnyH_done (by kernel_rfl) ?_ _
  go_wp2
  refine bodyPost_ret (results_row_tmp Try.results21 _ _ (w.heap.size + 1 + 1) _ _ _ _ rfl HE.out.1.base.res.setRow Try.underlying27 rfl infoAgQImpl) rfl ?_
  have nr : w.heap.size + 1 + 1 ∉ F' := fun hx => by have := HE.out.1.oF.ge _ hx; omega
  have mr : w.heap.size + 1 + 1 ∉ G := fun hx => by have := HE.out.1.oG.ge _ hx; omega
  rw [HV.out]
  exact ⟨_, F', G, _, rfl, HE.out.1.rd.agree (Agree.row nr _) (Agree.row mr _), rfl, (HE.out.1.oF.agree (Agree.row nr _)).mono (by omega), (HE.out.1.oG.agree (Agree.row mr _)).mono (by omega), HE.out.1.ap, below_setRow HE.out.1.base.bel (by omega) _⟩
end Go.Proofs.Ytgkbhhlkaifnoaa
