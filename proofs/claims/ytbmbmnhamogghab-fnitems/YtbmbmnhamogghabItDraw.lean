/- The walks through the model's drawing of items. No statement of the seat is proved here. -/
import Derived.Test.YtbmbmnhamogghabItOf
import Derived.Test.YtbmbmnhamogghabSkDraw
import Derived.Test.YtbmbmnhamogghabPart
namespace Go.Proofs.Ytbmbmnhamogghab
open Go.RowKit
theorem results_tmp_row {P : Program} {fn : Func} {p u : Tmp} {ty : TypeId} (h : fn.results = #[.tmp u, .cell p ty]) (tmps : Array Value) (w : World) (g : Nat) (t : TypeId) (cs : Array Value) (fr : Nat × Nat) (d : TypeDesc)
    (hp : tmps.getD p undef = .pointer (some ⟨g, 0, none⟩)) (hg : w.heap[g]? = some (.cells cs t fr))
    (hu : P.underlying ty = some d) (hd : (match d with | .struct _ | .array _ _ => true | _ => false) = true) (hi : (P.info? ty).map (·.size) = some cs.size) :
    (results fn tmps).run P w = .ok (.tuple #[tmps.getD u undef, .agg cs]) w := by
  have e : (results fn tmps).run P w = ((asAddr (tmps.getD p undef)).run P w).andThen fun a w₁ => ((loadVar ty a).run P w₁).andThen fun v w₂ => .ok (.tuple #[tmps.getD u undef, v]) w₂ := by
    simp only [results, h]
    simp [Sem.run_bind, Result.andThen]
  rw [e, hp]
  simp [asAddr, run_loadVar_row w g t ty cs fr d hg hu hd hi, Result.andThen]
theorem cur_row {W : World} {q g : Nat} {a : Option Addr} {len cap : Nat} {zs : List Int} {i h : Int} {cs : Array Value} (C : Cur W q a len cap zs i h) (hq : q ≠ g) (ha : ∀ b, (∃ off, a = some ⟨b, off, none⟩ ∧ 0 < len) → b ≠ g) : Cur (W.setRow g cs) q a len cap zs i h :=
  cur_agree C (World.block_lt_of_cell? _ _ C.c0) (setRow_other W g q cs hq) (fun b _ hx => setRow_other W g b cs (ha b hx))
theorem cur_cell {W : World} {q g j : Nat} {v : Value} {a : Option Addr} {len cap : Nat} {zs : List Int} {i h : Int} (C : Cur W q a len cap zs i h) (hq : q ≠ g) (ha : ∀ b, (∃ off, a = some ⟨b, off, none⟩ ∧ 0 < len) → b ≠ g) : Cur (W.setCell ⟨g, j, none⟩ v) q a len cap zs i h :=
  cur_agree C (World.block_lt_of_cell? _ _ C.c0) (Below.heap_setCell W ⟨g, j, none⟩ v q hq) (fun b _ hx => Below.heap_setCell W ⟨g, j, none⟩ v b (ha b hx))
theorem grown_row {w W : World} {q g : Nat} {cs : Array Value} (k : w.grownBy W (some q)) (hg : w.heap.size ≤ g) : w.grownBy (W.setRow g cs) (some q) :=
  ⟨k.os, k.tape, k.output, by simp; exact k.size, fun b hb hn => (setRow_other W g b cs (by omega)).trans (k.block b hb hn)⟩
theorem grown_cell {w W : World} {q g j : Nat} {v : Value} (k : w.grownBy W (some q)) (hg : w.heap.size ≤ g) : w.grownBy (W.setCell ⟨g, j, none⟩ v) (some q) :=
  ⟨k.os, k.tape, k.output, by simp; exact k.size, fun b hb hn => (Below.heap_setCell W ⟨g, j, none⟩ v b (fun e => by have e2 : b = g := e; omega)).trans (k.block b hb hn)⟩
/-- The result's place and the cursor. -/
structure HeldR (w : World) (q : Nat) (a : Option Addr) (len cap : Nat) (zs : List Int) (i h : Int) (cs : Array Value) (t : TypeId) (W : World) : Prop where
  res : Blk W w.heap.size cs t
  cur : Cur W q a len cap zs i h
  grown : w.grownBy W (some q)
section
variable {w W W' : World} {q : Nat} {a : Option Addr} {len cap : Nat} {zs : List Int} {i h i' h' : Int} {cs : Array Value} {t : TypeId}
theorem HeldR.next (H : HeldR w q a len cap zs i h cs t W) (hq : q < w.heap.size) (C : Cur W' q a len cap zs i' h') (g : W.grownBy W' (some q)) : HeldR w q a len cap zs i' h' cs t W' := ⟨H.res.grown g (by omega), C, grown_tr H.grown g⟩
theorem HeldR.below (H : HeldR w q a len cap zs i h cs t W) (b : Below W.heap.size W W') : HeldR w q a len cap zs i h cs t W' := ⟨H.res.below b, H.cur.below b, grown_tr H.grown (grown_below q b)⟩
theorem HeldR.made (C : Cur w q a len cap zs i h) (cs : Array Value) (t : TypeId) : HeldR w q a len cap zs i h cs t (w.alloc (.cells cs t)) := ⟨Blk.made _ _ _, C.alloc _, grown_below q ((Below.refl _ _).alloc (Nat.le_refl _) _)⟩
end
/-- What a drawing of an item tells. -/
def DrewItem (w : World) (q : Nat) (a : Option Addr) (len cap : Nat) (zs : List Int) (e : Ending) (w' : World) : Prop :=
  ∃ v x F i' h', e = .returned v ∧ RdIt w' v x F ∧ x.sk.full ∧ Own w.heap.size w' F ∧ Cur w' q a len cap zs i' h' ∧ w.grownBy w' (some q)
set_option maxRecDepth 200000 in
set_option maxHeartbeats 4000000 in
theorem l6Right_any (q : Nat) (a : Option Addr) (len cap : Nat) (zs : List Int) (i h : Int) (w : World) (C : Cur w q a len cap zs i h) (hlen : len ≤ 1048576) :
    Calls Try.prog 69 #[.pointer (some ⟨q, 0, none⟩)] w fun e w' => DrewItem w q a len cap zs e w' := by
  have hq : q < w.heap.size := World.block_lt_of_cell? _ _ C.c0
  have HA : Hid (∀ b, (∃ off, a = some ⟨b, off, none⟩ ∧ 0 < len) → b < w.heap.size) := cur_lt C
  have H0 : Hid (HeldR w q a len cap zs i h #[.int .i64 0, .int .i64 0, .int .i64 0, .int .i64 0, .int .i64 0, .int .i64 0, .int .i64 0, .int .i64 0, .slice none 0 0, .slice none 0 0, .slice none 0 0] 40 (w.alloc (.cells #[.int .i64 0, .int .i64 0, .int .i64 0, .int .i64 0, .int .i64 0, .int .i64 0, .int .i64 0, .int .i64 0, .slice none 0 0, .slice none 0 0, .slice none 0 0] 40))) := HeldR.made C _ _
  clear C
  go_enter Try.func69, Try.ntmps69
  go_wp2_with fail
  refine (l1Below_any q a len cap zs i h 8 _ H0.out.cur hlen (by omega) (by omega)).mono ?_
  rintro e w1 ⟨x1, i1, h1, rfl, p1, r1, C1, g1⟩
  have H1 : Hid (HeldR w q a len cap zs i1 h1 #[.int .i64 0, .int .i64 0, .int .i64 0, .int .i64 0, .int .i64 0, .int .i64 0, .int .i64 0, .int .i64 0, .slice none 0 0, .slice none 0 0, .slice none 0 0] 40 w1) := H0.out.next hq C1 g1
  clear C1 g1 H0
  go_wp2_with fail
  refine (l1Below_any q a len cap zs i1 h1 2 _ H1.out.cur hlen (by omega) (by omega)).mono ?_
  rintro e w2 ⟨x2, i2, h2, rfl, p2, r2, C2, g2⟩
  have H2 : Hid (HeldR w q a len cap zs i2 h2 #[.int .i64 0, .int .i64 0, .int .i64 0, .int .i64 0, .int .i64 0, .int .i64 0, .int .i64 0, .int .i64 0, .slice none 0 0, .slice none 0 0, .slice none 0 0] 40 w2) := H1.out.next hq C2 g2
  clear C2 g2 H1
  go_wp2_with fail
  refine (l1Below_any q a len cap zs i2 h2 2 _ H2.out.cur hlen (by omega) (by omega)).mono ?_
  rintro e w3 ⟨x3, i3, h3, rfl, p3, r3, C3, g3⟩
  have H3 : Hid (HeldR w q a len cap zs i3 h3 #[.int .i64 0, .int .i64 0, .int .i64 0, .int .i64 0, .int .i64 0, .int .i64 0, .int .i64 0, .int .i64 0, .slice none 0 0, .slice none 0 0, .slice none 0 0] 40 w3) := H2.out.next hq C3 g3
  clear C3 g3 H2
  go_wp2_with fail
  refine (l1Below_any q a len cap zs i3 h3 3 _ H3.out.cur hlen (by omega) (by omega)).mono ?_
  rintro e w4 ⟨x4, i4, h4, rfl, p4, r4, C4, g4⟩
  have H4 : Hid (HeldR w q a len cap zs i4 h4 #[.int .i64 0, .int .i64 0, .int .i64 0, .int .i64 0, .int .i64 0, .int .i64 0, .int .i64 0, .int .i64 0, .slice none 0 0, .slice none 0 0, .slice none 0 0] 40 w4) := H3.out.next hq C4 g4
  clear C4 g4 H3
  go_wp2_with fail
  refine (l3Values_any q a len cap zs i4 h4 _ H4.out.cur hlen).mono ?_
  rintro e w5 ⟨a', n, c, xs, F5, i5, h5, rfl, r5, n5, o5, C5, g5⟩
  have H5 : Hid (HeldR w q a len cap zs i5 h5 #[.int .i64 0, .int .i64 0, .int .i64 0, .int .i64 0, .int .i64 0, .int .i64 0, .int .i64 0, .int .i64 0, .slice none 0 0, .slice none 0 0, .slice none 0 0] 40 w5) := H4.out.next hq C5 g5
  have HR5 : Hid (RdI w5 a' n xs F5) := r5
  clear C5 g5 H4 r5 o5
  go_wp2_with fail
  refine (sketched_any a' n c xs F5 _ HR5.out (by omega)).mono ?_
  rintro e w6 ⟨v, s, F, rfl, rR, hs, oF, b6⟩
  obtain ⟨e1, r1', f1, e2, r2', f2, e3, r3', f3, rfl⟩ := rR.sk.cells7
  have H6 : Hid (HeldR w q a len cap zs i5 h5 #[.int .i64 0, .int .i64 0, .int .i64 0, .int .i64 0, .int .i64 0, .int .i64 0, .int .i64 0, .int .i64 0, .slice none 0 0, .slice none 0 0, .slice none 0 0] 40 w6) := H5.out.below b6
  have HS : Hid (RdSk w6 (.agg #[.int .i64 s.count, .int .i64 s.sum, .int .i64 s.min, .int .i64 s.max, .slice e1 r1' f1, .slice e2 r2' f2, .slice e3 r3' f3]) s F ∧ s.shaped = true ∧ Own (w.heap.size + 1) w6 F) := ⟨rR.sk, hs, oF.mono H5.out.res.lt⟩
  clear rR hs oF b6 H5 HR5
  go_wp2_with (first | go_skip | (with_reducible refine stopStore 40 rfl ?_))
  refine store_known 40 w.heap.size _ #[.int .i64 (1 + x1), .int .i64 x2, .int .i64 x3, .int .i64 x4, .int .i64 s.count, .int .i64 s.sum, .int .i64 s.min, .int .i64 s.max, .slice e1 r1' f1, .slice e2 r2' f2, .slice e3 r3' f3] 40 H6.out.res rfl rfl rfl rfl (by kernel_rfl) rfl (by simp [Value.oneCell']) ?_
  obtain ⟨E, hE⟩ : ∃ E : Array Value, E = #[.int .i64 (1 + x1), .int .i64 x2, .int .i64 x3, .int .i64 x4, .int .i64 s.count, .int .i64 s.sum, .int .i64 s.min, .int .i64 s.max, .slice e1 r1' f1, .slice e2 r2' f2, .slice e3 r3' f3] := ⟨_, rfl⟩
  rw [← hE]
  have HE : Hid (E = #[.int .i64 (1 + x1), .int .i64 x2, .int .i64 x3, .int .i64 x4, .int .i64 s.count, .int .i64 s.sum, .int .i64 s.min, .int .i64 s.max, .slice e1 r1' f1, .slice e2 r2' f2, .slice e3 r3' f3] ∧ E.size = 11) := ⟨hE, by rw [hE]; rfl⟩
  clear hE
  go_wp2
  refine bodyPost_ret (results_cell_row Try.results69 _ _ w.heap.size _ _ (0, 0) _ rfl H6.out.res.setRow Try.underlying40 rfl (by rw [HE.out.2]; exact infoItA)) rfl ?_
  have nF : w.heap.size ∉ F := fun hx => by have := HS.out.2.2.ge _ hx; omega
  exact ⟨_, ⟨1 + x1, x2, x3, x4, s⟩, F, i5, h5, rfl, ⟨e1, r1', f1, e2, r2', f2, e3, r3', f3, by rw [HE.out.1], HS.out.1.agree (Agree.row nF E)⟩, shaped_full HS.out.2.1, (HS.out.2.2.agree (Agree.row nF E)).mono (by omega), cur_row H6.out.cur (by omega) (fun b hb => by have := HA.out b hb; omega), grown_row H6.out.grown (Nat.le_refl _)⟩
/-- In the midst of a drawing: the item lies in block L. -/
structure LocI (w : World) (q : Nat) (a : Option Addr) (len cap : Nat) (zs : List Int) (i h : Int) (L : Nat) (ic : Array Value) (x : It) (F : List Nat) (W : World) : Prop where
  held : HeldR w q a len cap zs i h #[.int .i64 0, .int .i64 0, .int .i64 0, .int .i64 0, .int .i64 0, .int .i64 0, .int .i64 0, .int .i64 0, .slice none 0 0, .slice none 0 0, .slice none 0 0] 40 W
  loc : Blk W L ic 40
  rd : RdIt W (.agg ic) x F
  own : Own (w.heap.size + 1) W F
  apart : L ∉ F
  gt : w.heap.size < L
  full : x.sk.full
section
variable {w W W' : World} {q : Nat} {a : Option Addr} {len cap : Nat} {zs : List Int} {i h i' h' : Int} {L : Nat} {ic : Array Value} {x : It} {F : List Nat}
theorem LocI.next (H : LocI w q a len cap zs i h L ic x F W) (hq : q < w.heap.size) (C : Cur W' q a len cap zs i' h') (g : W.grownBy W' (some q)) : LocI w q a len cap zs i' h' L ic x F W' := by
  have nq : q ∉ F := fun hx => by have := H.own.ge _ hx; omega
  have ag := agree_grown g H.rd.lt nq
  have := H.gt
  exact ⟨H.held.next hq C g, H.loc.grown g (by omega), H.rd.agree ag, H.own.agree ag, H.apart, H.gt, H.full⟩
theorem LocI.below (H : LocI w q a len cap zs i h L ic x F W) (b : Below W.heap.size W W') : LocI w q a len cap zs i h L ic x F W' := ⟨H.held.below b, H.loc.below b, H.rd.below b, H.own.below H.rd.lt b, H.apart, H.gt, H.full⟩
theorem LocI.done (H : LocI w q a len cap zs i h L ic x F W) (hq : q < w.heap.size) (ha : ∀ b, (∃ off, a = some ⟨b, off, none⟩ ∧ 0 < len) → b < w.heap.size) : DrewItem w q a len cap zs (.returned (.agg ic)) (W.setRow w.heap.size ic) := by
  have nF : w.heap.size ∉ F := fun hx => by have := H.own.ge _ hx; omega
  exact ⟨_, x, F, i, h, rfl, H.rd.agree (Agree.row nF ic), H.full, (H.own.agree (Agree.row nF ic)).mono (by omega), cur_row H.held.cur (by omega) (fun b hb => by have := ha b hb; omega), grown_row H.held.grown (Nat.le_refl _)⟩
theorem LocI.set (H : LocI w q a len cap zs i h L ic x F W) (hq : q < w.heap.size) (ha : ∀ b, (∃ off, a = some ⟨b, off, none⟩ ∧ 0 < len) → b < w.heap.size) (j : Nat) (v : Value) {ic' : Array Value} {y : It} (hic : ic.setIfInBounds j v = ic') (hr : RdIt (W.setCell ⟨L, j, none⟩ v) (.agg ic') y F) (hy : y.sk = x.sk) : LocI w q a len cap zs i h L ic' y F (W.setCell ⟨L, j, none⟩ v) := by
  subst hic
  have hgt := H.gt
  have ag : Agree W (W.setCell ⟨L, j, none⟩ v) F := .set H.apart j v
  exact ⟨⟨H.held.res.setOther (by omega) j v, cur_cell H.held.cur (by omega) (fun b hb => by have := ha b hb; omega), grown_cell H.held.grown (by omega)⟩, H.loc.set j v, hr, H.own.agree ag, H.apart, H.gt, by rw [hy]; exact H.full⟩
end
set_option maxRecDepth 200000 in
set_option maxHeartbeats 8000000 in
theorem l6Draw_any (q : Nat) (a : Option Addr) (len cap : Nat) (zs : List Int) (i h : Int) (w : World) (C : Cur w q a len cap zs i h) (hlen : len ≤ 1048576) :
    Calls Try.prog 36 #[.pointer (some ⟨q, 0, none⟩)] w fun e w' => DrewItem w q a len cap zs e w' := by
  have hq : q < w.heap.size := World.block_lt_of_cell? _ _ C.c0
  have HA : Hid (∀ b, (∃ off, a = some ⟨b, off, none⟩ ∧ 0 < len) → b < w.heap.size) := cur_lt C
  have H0 : Hid (HeldR w q a len cap zs i h #[.int .i64 0, .int .i64 0, .int .i64 0, .int .i64 0, .int .i64 0, .int .i64 0, .int .i64 0, .int .i64 0, .slice none 0 0, .slice none 0 0, .slice none 0 0] 40 (w.alloc (.cells #[.int .i64 0, .int .i64 0, .int .i64 0, .int .i64 0, .int .i64 0, .int .i64 0, .int .i64 0, .int .i64 0, .slice none 0 0, .slice none 0 0, .slice none 0 0] 40))) := HeldR.made C _ _
  clear C
  go_enter Try.func36, Try.ntmps36
  go_wp2_with fail
  refine (l6Right_any q a len cap zs i h _ H0.out.cur hlen).mono ?_
  rintro e w1 ⟨v, x, F, i1, h1, rfl, rx, fx, ox, C1, g1⟩
  obtain ⟨a1, n1, c1, a2, n2, c2, a3, n3, c3, rfl, rs⟩ := rx
  have H1 : Hid (HeldR w q a len cap zs i1 h1 #[.int .i64 0, .int .i64 0, .int .i64 0, .int .i64 0, .int .i64 0, .int .i64 0, .int .i64 0, .int .i64 0, .slice none 0 0, .slice none 0 0, .slice none 0 0] 40 w1) := H0.out.next hq C1 g1
  have HX : Hid (RdIt w1 (.agg #[.int .i64 x.seq, .int .i64 x.cls, .int .i64 x.key, .int .i64 x.window, .int .i64 x.sk.count, .int .i64 x.sk.sum, .int .i64 x.sk.min, .int .i64 x.sk.max, .slice a1 n1 c1, .slice a2 n2 c2, .slice a3 n3 c3]) x F ∧ x.sk.full ∧ Own (w.heap.size + 1) w1 F) := ⟨⟨a1, n1, c1, a2, n2, c2, a3, n3, c3, rfl, rs⟩, fx, ox.mono (by simp)⟩
  clear C1 g1 rs fx ox H0
  go_wp2_with (first | go_skip | (with_reducible refine stopStore 40 rfl ?_))
  refine store_fresh 40 w1.heap.size rfl #[.int .i64 0, .int .i64 0, .int .i64 0, .int .i64 0, .int .i64 0, .int .i64 0, .int .i64 0, .int .i64 0, .slice none 0 0, .slice none 0 0, .slice none 0 0] #[.int .i64 x.seq, .int .i64 x.cls, .int .i64 x.key, .int .i64 x.window, .int .i64 x.sk.count, .int .i64 x.sk.sum, .int .i64 x.sk.min, .int .i64 x.sk.max, .slice a1 n1 c1, .slice a2 n2 c2, .slice a3 n3 c3] 40 rfl rfl rfl rfl (by kernel_rfl) rfl (by simp [Value.oneCell']) ?_
  intro W2 hg2 hb2
  have HL : Hid (LocI w q a len cap zs i1 h1 w1.heap.size #[.int .i64 x.seq, .int .i64 x.cls, .int .i64 x.key, .int .i64 x.window, .int .i64 x.sk.count, .int .i64 x.sk.sum, .int .i64 x.sk.min, .int .i64 x.sk.max, .slice a1 n1 c1, .slice a2 n2 c2, .slice a3 n3 c3] x F W2) := ⟨H1.out.below hb2, hg2, HX.out.1.below hb2, HX.out.2.2.below HX.out.1.lt hb2, fun hx => by have := HX.out.1.lt _ hx; omega, H1.out.res.lt, HX.out.2.1⟩
  obtain ⟨L, hLe⟩ : ∃ L, L = w1.heap.size := ⟨_, rfl⟩
  rw [← hLe] at HL ⊢
  have hLgt : w.heap.size < L := HL.out.gt
  clear hg2 hb2 H1 HX hLe
  go_wp2_with fail
  refine (l1Below_any q a len cap zs i1 h1 14 _ HL.out.held.cur hlen (by omega) (by omega)).mono ?_
  rintro e w3 ⟨n, i3, h3, rfl, n0, n14, C3, g3⟩
  have HL3 : Hid (LocI w q a len cap zs i3 h3 L #[.int .i64 x.seq, .int .i64 x.cls, .int .i64 x.key, .int .i64 x.window, .int .i64 x.sk.count, .int .i64 x.sk.sum, .int .i64 x.sk.min, .int .i64 x.sk.max, .slice a1 n1 c1, .slice a2 n2 c2, .slice a3 n3 c3] x F w3) := HL.out.next hq C3 g3
  clear C3 g3 HL
  by_cases qn0 : n = 0
  · subst qn0
    go_wp2_with fail
    refine (pickInt_cur q w3.heap.size 4 a len cap zs i3 h3 [0, 60, 61, -1] _ (HL3.out.held.cur.alloc _) hlen (fun j hj => lit_ints w3 [0, 60, 61, -1] _ j hj) (by have := HL3.out.held.grown.size; omega) 4 rfl (by omega) (by omega)).mono ?_
    rintro e w4 ⟨y, i4, h4, _, rfl, C4, g4⟩
    have HL4 : Hid (LocI w q a len cap zs i4 h4 L #[.int .i64 x.seq, .int .i64 x.cls, .int .i64 x.key, .int .i64 x.window, .int .i64 x.sk.count, .int .i64 x.sk.sum, .int .i64 x.sk.min, .int .i64 x.sk.max, .slice a1 n1 c1, .slice a2 n2 c2, .slice a3 n3 c3] x F w4) := (HL3.out.below ((Below.refl _ _).alloc (Nat.le_refl _) _)).next hq C4 g4
    have cc := HL4.out.loc.cell 0
    have ff := HL4.out.loc.frozen 0
    simp only [List.getElem?_toArray, List.getElem?_cons_zero] at cc
    clear C4 g4 HL3
    go_wp2_with (first | go_skip | (with_reducible refine stopLoad 40 rfl ?_))
    have HL5 : Hid (LocI w q a len cap zs i4 h4 L #[.int .i64 y, .int .i64 x.cls, .int .i64 x.key, .int .i64 x.window, .int .i64 x.sk.count, .int .i64 x.sk.sum, .int .i64 x.sk.min, .int .i64 x.sk.max, .slice a1 n1 c1, .slice a2 n2 c2, .slice a3 n3 c3] ⟨y, x.cls, x.key, x.window, x.sk⟩ F (w4.setCell ⟨L, 0, none⟩ (.int .i64 y))) := HL4.out.set hq HA.out 0 _ (by simp) (by
      have hrr := HL4.out.rd.agree (.set HL4.out.apart 0 (.int .i64 y))
      obtain ⟨b1, m1, d1, b2, m2, d2, b3, m3, d3, ev, hs⟩ := hrr
      simp at ev
      obtain ⟨⟨rfl, rfl, rfl⟩, ⟨rfl, rfl, rfl⟩, rfl, rfl, rfl⟩ := ev
      exact ⟨_, _, _, _, _, _, _, _, _, rfl, hs⟩) rfl
    obtain ⟨W5, hW5⟩ : ∃ W, W = w4.setCell ⟨L, 0, none⟩ (.int .i64 y) := ⟨_, rfl⟩
    rw [← hW5] at HL5 ⊢
    clear hW5 HL4 cc ff
    refine load_any 40 L _ 40 _ HL5.out.loc rfl rfl rfl Try.underlying40 rfl (by kernel_rfl) ?_
    go_wp2_with (first | go_skip | (with_reducible refine stopStore 40 rfl ?_))
    refine store_known 40 w.heap.size _ #[.int .i64 y, .int .i64 x.cls, .int .i64 x.key, .int .i64 x.window, .int .i64 x.sk.count, .int .i64 x.sk.sum, .int .i64 x.sk.min, .int .i64 x.sk.max, .slice a1 n1 c1, .slice a2 n2 c2, .slice a3 n3 c3] 40 HL5.out.held.res rfl rfl rfl rfl (by kernel_rfl) rfl (by simp [Value.oneCell']) ?_
    obtain ⟨E, hE⟩ : ∃ E : Array Value, E = #[.int .i64 y, .int .i64 x.cls, .int .i64 x.key, .int .i64 x.window, .int .i64 x.sk.count, .int .i64 x.sk.sum, .int .i64 x.sk.min, .int .i64 x.sk.max, .slice a1 n1 c1, .slice a2 n2 c2, .slice a3 n3 c3] := ⟨_, rfl⟩
    have HZ := HL5.out.done hq HA.out
    rw [← hE] at HZ ⊢
    have HE : Hid (DrewItem w q a len cap zs (.returned (.agg E)) (W5.setRow w.heap.size E) ∧ E.size = 11 ∧ Blk (W5.setRow w.heap.size E) w.heap.size E 40) := ⟨HZ, by rw [hE]; rfl, HL5.out.held.res.setRow⟩
    clear hE HZ
    go_wp2
    refine bodyPost_ret (results_cell_row Try.results36 _ _ w.heap.size _ _ (0, 0) _ rfl HE.out.2.2 Try.underlying40 rfl (by rw [HE.out.2.1]; exact infoItA)) rfl ?_
    exact HE.out.1
  by_cases qn1 : n = 1
  · subst qn1
    go_wp2_with fail
    refine (pickInt_cur q w3.heap.size 2 a len cap zs i3 h3 [-1, 2] _ (HL3.out.held.cur.alloc _) hlen (fun j hj => lit_ints w3 [-1, 2] _ j hj) (by have := HL3.out.held.grown.size; omega) 2 rfl (by omega) (by omega)).mono ?_
    rintro e w4 ⟨y, i4, h4, _, rfl, C4, g4⟩
    have HL4 : Hid (LocI w q a len cap zs i4 h4 L #[.int .i64 x.seq, .int .i64 x.cls, .int .i64 x.key, .int .i64 x.window, .int .i64 x.sk.count, .int .i64 x.sk.sum, .int .i64 x.sk.min, .int .i64 x.sk.max, .slice a1 n1 c1, .slice a2 n2 c2, .slice a3 n3 c3] x F w4) := (HL3.out.below ((Below.refl _ _).alloc (Nat.le_refl _) _)).next hq C4 g4
    have cc := HL4.out.loc.cell 1
    have ff := HL4.out.loc.frozen 1
    simp only [List.getElem?_toArray, List.getElem?_cons_succ, List.getElem?_cons_zero] at cc
    clear C4 g4 HL3
    go_wp2_with (first | go_skip | (with_reducible refine stopLoad 40 rfl ?_))
    have HL5 : Hid (LocI w q a len cap zs i4 h4 L #[.int .i64 x.seq, .int .i64 y, .int .i64 x.key, .int .i64 x.window, .int .i64 x.sk.count, .int .i64 x.sk.sum, .int .i64 x.sk.min, .int .i64 x.sk.max, .slice a1 n1 c1, .slice a2 n2 c2, .slice a3 n3 c3] ⟨x.seq, y, x.key, x.window, x.sk⟩ F (w4.setCell ⟨L, 1, none⟩ (.int .i64 y))) := HL4.out.set hq HA.out 1 _ (by simp) (by
      have hrr := HL4.out.rd.agree (.set HL4.out.apart 1 (.int .i64 y))
      obtain ⟨b1, m1, d1, b2, m2, d2, b3, m3, d3, ev, hs⟩ := hrr
      simp at ev
      obtain ⟨⟨rfl, rfl, rfl⟩, ⟨rfl, rfl, rfl⟩, rfl, rfl, rfl⟩ := ev
      exact ⟨_, _, _, _, _, _, _, _, _, rfl, hs⟩) rfl
    obtain ⟨W5, hW5⟩ : ∃ W, W = w4.setCell ⟨L, 1, none⟩ (.int .i64 y) := ⟨_, rfl⟩
    rw [← hW5] at HL5 ⊢
    clear hW5 HL4 cc ff
    refine load_any 40 L _ 40 _ HL5.out.loc rfl rfl rfl Try.underlying40 rfl (by kernel_rfl) ?_
    go_wp2_with (first | go_skip | (with_reducible refine stopStore 40 rfl ?_))
    refine store_known 40 w.heap.size _ #[.int .i64 x.seq, .int .i64 y, .int .i64 x.key, .int .i64 x.window, .int .i64 x.sk.count, .int .i64 x.sk.sum, .int .i64 x.sk.min, .int .i64 x.sk.max, .slice a1 n1 c1, .slice a2 n2 c2, .slice a3 n3 c3] 40 HL5.out.held.res rfl rfl rfl rfl (by kernel_rfl) rfl (by simp [Value.oneCell']) ?_
    obtain ⟨E, hE⟩ : ∃ E : Array Value, E = #[.int .i64 x.seq, .int .i64 y, .int .i64 x.key, .int .i64 x.window, .int .i64 x.sk.count, .int .i64 x.sk.sum, .int .i64 x.sk.min, .int .i64 x.sk.max, .slice a1 n1 c1, .slice a2 n2 c2, .slice a3 n3 c3] := ⟨_, rfl⟩
    have HZ := HL5.out.done hq HA.out
    rw [← hE] at HZ ⊢
    have HE : Hid (DrewItem w q a len cap zs (.returned (.agg E)) (W5.setRow w.heap.size E) ∧ E.size = 11 ∧ Blk (W5.setRow w.heap.size E) w.heap.size E 40) := ⟨HZ, by rw [hE]; rfl, HL5.out.held.res.setRow⟩
    clear hE HZ
    go_wp2
    refine bodyPost_ret (results_cell_row Try.results36 _ _ w.heap.size _ _ (0, 0) _ rfl HE.out.2.2 Try.underlying40 rfl (by rw [HE.out.2.1]; exact infoItA)) rfl ?_
    exact HE.out.1
  by_cases qn2 : n = 2
  · subst qn2
    go_wp2_with fail
    refine (pickInt_cur q w3.heap.size 3 a len cap zs i3 h3 [-1, 4, 5] _ (HL3.out.held.cur.alloc _) hlen (fun j hj => lit_ints w3 [-1, 4, 5] _ j hj) (by have := HL3.out.held.grown.size; omega) 3 rfl (by omega) (by omega)).mono ?_
    rintro e w4 ⟨y, i4, h4, _, rfl, C4, g4⟩
    have HL4 : Hid (LocI w q a len cap zs i4 h4 L #[.int .i64 x.seq, .int .i64 x.cls, .int .i64 x.key, .int .i64 x.window, .int .i64 x.sk.count, .int .i64 x.sk.sum, .int .i64 x.sk.min, .int .i64 x.sk.max, .slice a1 n1 c1, .slice a2 n2 c2, .slice a3 n3 c3] x F w4) := (HL3.out.below ((Below.refl _ _).alloc (Nat.le_refl _) _)).next hq C4 g4
    have cc := HL4.out.loc.cell 2
    have ff := HL4.out.loc.frozen 2
    simp only [List.getElem?_toArray, List.getElem?_cons_succ, List.getElem?_cons_zero] at cc
    clear C4 g4 HL3
    go_wp2_with (first | go_skip | (with_reducible refine stopLoad 40 rfl ?_))
    have HL5 : Hid (LocI w q a len cap zs i4 h4 L #[.int .i64 x.seq, .int .i64 x.cls, .int .i64 y, .int .i64 x.window, .int .i64 x.sk.count, .int .i64 x.sk.sum, .int .i64 x.sk.min, .int .i64 x.sk.max, .slice a1 n1 c1, .slice a2 n2 c2, .slice a3 n3 c3] ⟨x.seq, x.cls, y, x.window, x.sk⟩ F (w4.setCell ⟨L, 2, none⟩ (.int .i64 y))) := HL4.out.set hq HA.out 2 _ (by simp) (by
      have hrr := HL4.out.rd.agree (.set HL4.out.apart 2 (.int .i64 y))
      obtain ⟨b1, m1, d1, b2, m2, d2, b3, m3, d3, ev, hs⟩ := hrr
      simp at ev
      obtain ⟨⟨rfl, rfl, rfl⟩, ⟨rfl, rfl, rfl⟩, rfl, rfl, rfl⟩ := ev
      exact ⟨_, _, _, _, _, _, _, _, _, rfl, hs⟩) rfl
    obtain ⟨W5, hW5⟩ : ∃ W, W = w4.setCell ⟨L, 2, none⟩ (.int .i64 y) := ⟨_, rfl⟩
    rw [← hW5] at HL5 ⊢
    clear hW5 HL4 cc ff
    refine load_any 40 L _ 40 _ HL5.out.loc rfl rfl rfl Try.underlying40 rfl (by kernel_rfl) ?_
    go_wp2_with (first | go_skip | (with_reducible refine stopStore 40 rfl ?_))
    refine store_known 40 w.heap.size _ #[.int .i64 x.seq, .int .i64 x.cls, .int .i64 y, .int .i64 x.window, .int .i64 x.sk.count, .int .i64 x.sk.sum, .int .i64 x.sk.min, .int .i64 x.sk.max, .slice a1 n1 c1, .slice a2 n2 c2, .slice a3 n3 c3] 40 HL5.out.held.res rfl rfl rfl rfl (by kernel_rfl) rfl (by simp [Value.oneCell']) ?_
    obtain ⟨E, hE⟩ : ∃ E : Array Value, E = #[.int .i64 x.seq, .int .i64 x.cls, .int .i64 y, .int .i64 x.window, .int .i64 x.sk.count, .int .i64 x.sk.sum, .int .i64 x.sk.min, .int .i64 x.sk.max, .slice a1 n1 c1, .slice a2 n2 c2, .slice a3 n3 c3] := ⟨_, rfl⟩
    have HZ := HL5.out.done hq HA.out
    rw [← hE] at HZ ⊢
    have HE : Hid (DrewItem w q a len cap zs (.returned (.agg E)) (W5.setRow w.heap.size E) ∧ E.size = 11 ∧ Blk (W5.setRow w.heap.size E) w.heap.size E 40) := ⟨HZ, by rw [hE]; rfl, HL5.out.held.res.setRow⟩
    clear hE HZ
    go_wp2
    refine bodyPost_ret (results_cell_row Try.results36 _ _ w.heap.size _ _ (0, 0) _ rfl HE.out.2.2 Try.underlying40 rfl (by rw [HE.out.2.1]; exact infoItA)) rfl ?_
    exact HE.out.1
  by_cases qn3 : n = 3
  · subst qn3
    go_wp2_with fail
    refine (pickInt_cur q w3.heap.size 3 a len cap zs i3 h3 [-1, 20, 21] _ (HL3.out.held.cur.alloc _) hlen (fun j hj => lit_ints w3 [-1, 20, 21] _ j hj) (by have := HL3.out.held.grown.size; omega) 3 rfl (by omega) (by omega)).mono ?_
    rintro e w4 ⟨y, i4, h4, _, rfl, C4, g4⟩
    have HL4 : Hid (LocI w q a len cap zs i4 h4 L #[.int .i64 x.seq, .int .i64 x.cls, .int .i64 x.key, .int .i64 x.window, .int .i64 x.sk.count, .int .i64 x.sk.sum, .int .i64 x.sk.min, .int .i64 x.sk.max, .slice a1 n1 c1, .slice a2 n2 c2, .slice a3 n3 c3] x F w4) := (HL3.out.below ((Below.refl _ _).alloc (Nat.le_refl _) _)).next hq C4 g4
    have cc := HL4.out.loc.cell 3
    have ff := HL4.out.loc.frozen 3
    simp only [List.getElem?_toArray, List.getElem?_cons_succ, List.getElem?_cons_zero] at cc
    clear C4 g4 HL3
    go_wp2_with (first | go_skip | (with_reducible refine stopLoad 40 rfl ?_))
    have HL5 : Hid (LocI w q a len cap zs i4 h4 L #[.int .i64 x.seq, .int .i64 x.cls, .int .i64 x.key, .int .i64 y, .int .i64 x.sk.count, .int .i64 x.sk.sum, .int .i64 x.sk.min, .int .i64 x.sk.max, .slice a1 n1 c1, .slice a2 n2 c2, .slice a3 n3 c3] ⟨x.seq, x.cls, x.key, y, x.sk⟩ F (w4.setCell ⟨L, 3, none⟩ (.int .i64 y))) := HL4.out.set hq HA.out 3 _ (by simp) (by
      have hrr := HL4.out.rd.agree (.set HL4.out.apart 3 (.int .i64 y))
      obtain ⟨b1, m1, d1, b2, m2, d2, b3, m3, d3, ev, hs⟩ := hrr
      simp at ev
      obtain ⟨⟨rfl, rfl, rfl⟩, ⟨rfl, rfl, rfl⟩, rfl, rfl, rfl⟩ := ev
      exact ⟨_, _, _, _, _, _, _, _, _, rfl, hs⟩) rfl
    obtain ⟨W5, hW5⟩ : ∃ W, W = w4.setCell ⟨L, 3, none⟩ (.int .i64 y) := ⟨_, rfl⟩
    rw [← hW5] at HL5 ⊢
    clear hW5 HL4 cc ff
    refine load_any 40 L _ 40 _ HL5.out.loc rfl rfl rfl Try.underlying40 rfl (by kernel_rfl) ?_
    go_wp2_with (first | go_skip | (with_reducible refine stopStore 40 rfl ?_))
    refine store_known 40 w.heap.size _ #[.int .i64 x.seq, .int .i64 x.cls, .int .i64 x.key, .int .i64 y, .int .i64 x.sk.count, .int .i64 x.sk.sum, .int .i64 x.sk.min, .int .i64 x.sk.max, .slice a1 n1 c1, .slice a2 n2 c2, .slice a3 n3 c3] 40 HL5.out.held.res rfl rfl rfl rfl (by kernel_rfl) rfl (by simp [Value.oneCell']) ?_
    obtain ⟨E, hE⟩ : ∃ E : Array Value, E = #[.int .i64 x.seq, .int .i64 x.cls, .int .i64 x.key, .int .i64 y, .int .i64 x.sk.count, .int .i64 x.sk.sum, .int .i64 x.sk.min, .int .i64 x.sk.max, .slice a1 n1 c1, .slice a2 n2 c2, .slice a3 n3 c3] := ⟨_, rfl⟩
    have HZ := HL5.out.done hq HA.out
    rw [← hE] at HZ ⊢
    have HE : Hid (DrewItem w q a len cap zs (.returned (.agg E)) (W5.setRow w.heap.size E) ∧ E.size = 11 ∧ Blk (W5.setRow w.heap.size E) w.heap.size E 40) := ⟨HZ, by rw [hE]; rfl, HL5.out.held.res.setRow⟩
    clear hE HZ
    go_wp2
    refine bodyPost_ret (results_cell_row Try.results36 _ _ w.heap.size _ _ (0, 0) _ rfl HE.out.2.2 Try.underlying40 rfl (by rw [HE.out.2.1]; exact infoItA)) rfl ?_
    exact HE.out.1
  by_cases qn4 : n = 4
  · subst qn4
    go_wp2_with fail
    refine (l3Draw_any q a len cap zs i3 h3 _ HL3.out.held.cur hlen).mono ?_
    rintro e w4 ⟨v4, s, F4, i4, h4, rfl, r4, f4, o4, C4, g4⟩
    obtain ⟨e1, r1, f1, e2, r2, f2, e3, r3, f3, rfl⟩ := r4.cells7
    have HL4 : Hid (LocI w q a len cap zs i4 h4 L #[.int .i64 x.seq, .int .i64 x.cls, .int .i64 x.key, .int .i64 x.window, .int .i64 x.sk.count, .int .i64 x.sk.sum, .int .i64 x.sk.min, .int .i64 x.sk.max, .slice a1 n1 c1, .slice a2 n2 c2, .slice a3 n3 c3] x F w4) := HL3.out.next hq C4 g4
    have HS4 : Hid (RdSk w4 (.agg #[.int .i64 s.count, .int .i64 s.sum, .int .i64 s.min, .int .i64 s.max, .slice e1 r1 f1, .slice e2 r2 f2, .slice e3 r3 f3]) s F4 ∧ s.full ∧ Own (w.heap.size + 1) w4 F4 ∧ L ∉ F4) := ⟨r4, f4, o4.mono (by have := HL3.out.loc.lt; omega), fun hx => by have := o4.ge _ hx; have := HL3.out.loc.lt; omega⟩
    clear C4 g4 r4 f4 o4 HL3
    go_wp2_with (first | go_skip | (with_reducible refine stopStore 28 rfl ?_))
    refine store_cut 28 L 4 _ #[.int .i64 s.count, .int .i64 s.sum, .int .i64 s.min, .int .i64 s.max, .slice e1 r1 f1, .slice e2 r2 f2, .slice e3 r3 f3] #[.int .i64 x.seq, .int .i64 x.cls, .int .i64 x.key, .int .i64 x.window, .int .i64 s.count, .int .i64 s.sum, .int .i64 s.min, .int .i64 s.max, .slice e1 r1 f1, .slice e2 r2 f2, .slice e3 r3 f3] 40 HL4.out.loc rfl rfl rfl rfl infoSkI (by simp) (one7 ..) (by simp [cutIn]) ?_
    have HL5 : Hid (LocI w q a len cap zs i4 h4 L #[.int .i64 x.seq, .int .i64 x.cls, .int .i64 x.key, .int .i64 x.window, .int .i64 s.count, .int .i64 s.sum, .int .i64 s.min, .int .i64 s.max, .slice e1 r1 f1, .slice e2 r2 f2, .slice e3 r3 f3] ⟨x.seq, x.cls, x.key, x.window, s⟩ F4 (w4.setRow L #[.int .i64 x.seq, .int .i64 x.cls, .int .i64 x.key, .int .i64 x.window, .int .i64 s.count, .int .i64 s.sum, .int .i64 s.min, .int .i64 s.max, .slice e1 r1 f1, .slice e2 r2 f2, .slice e3 r3 f3])) := by
      have ag : Agree w4 (w4.setRow L #[.int .i64 x.seq, .int .i64 x.cls, .int .i64 x.key, .int .i64 x.window, .int .i64 s.count, .int .i64 s.sum, .int .i64 s.min, .int .i64 s.max, .slice e1 r1 f1, .slice e2 r2 f2, .slice e3 r3 f3]) F4 := Agree.row HS4.out.2.2.2 _
      exact ⟨⟨HL4.out.held.res.setRowOther (by omega), cur_row HL4.out.held.cur (by omega) (fun b hb => by have := HA.out b hb; omega), grown_row HL4.out.held.grown (by omega)⟩, HL4.out.loc.setRow, ⟨_, _, _, _, _, _, _, _, _, rfl, HS4.out.1.agree ag⟩, HS4.out.2.2.1.agree ag, HS4.out.2.2.2, hLgt, HS4.out.2.1⟩
    obtain ⟨W5, hW5⟩ : ∃ W, W = w4.setRow L #[.int .i64 x.seq, .int .i64 x.cls, .int .i64 x.key, .int .i64 x.window, .int .i64 s.count, .int .i64 s.sum, .int .i64 s.min, .int .i64 s.max, .slice e1 r1 f1, .slice e2 r2 f2, .slice e3 r3 f3] := ⟨_, rfl⟩
    rw [← hW5] at HL5 ⊢
    clear hW5 HL4 HS4
    go_wp2_with (first | go_skip | (with_reducible refine stopLoad 40 rfl ?_))
    refine load_any 40 L _ 40 _ HL5.out.loc rfl rfl rfl Try.underlying40 rfl (by kernel_rfl) ?_
    go_wp2_with (first | go_skip | (with_reducible refine stopStore 40 rfl ?_))
    refine store_known 40 w.heap.size _ #[.int .i64 x.seq, .int .i64 x.cls, .int .i64 x.key, .int .i64 x.window, .int .i64 s.count, .int .i64 s.sum, .int .i64 s.min, .int .i64 s.max, .slice e1 r1 f1, .slice e2 r2 f2, .slice e3 r3 f3] 40 HL5.out.held.res rfl rfl rfl rfl (by kernel_rfl) rfl (by simp [Value.oneCell']) ?_
    obtain ⟨E, hE⟩ : ∃ E : Array Value, E = #[.int .i64 x.seq, .int .i64 x.cls, .int .i64 x.key, .int .i64 x.window, .int .i64 s.count, .int .i64 s.sum, .int .i64 s.min, .int .i64 s.max, .slice e1 r1 f1, .slice e2 r2 f2, .slice e3 r3 f3] := ⟨_, rfl⟩
    have HZ := HL5.out.done hq HA.out
    rw [← hE] at HZ ⊢
    have HE : Hid (DrewItem w q a len cap zs (.returned (.agg E)) (W5.setRow w.heap.size E) ∧ E.size = 11 ∧ Blk (W5.setRow w.heap.size E) w.heap.size E 40) := ⟨HZ, by rw [hE]; rfl, HL5.out.held.res.setRow⟩
    clear hE HZ
    go_wp2
    refine bodyPost_ret (results_cell_row Try.results36 _ _ w.heap.size _ _ (0, 0) _ rfl HE.out.2.2 Try.underlying40 rfl (by rw [HE.out.2.1]; exact infoItA)) rfl ?_
    exact HE.out.1
  have z0 : (n == 0) = false := by simp; omega
  have z1 : (n == 1) = false := by simp; omega
  have z2 : (n == 2) = false := by simp; omega
  have z3 : (n == 3) = false := by simp; omega
  have z4 : (n == 4) = false := by simp; omega
  clear qn0 qn1 qn2 qn3 qn4
  go_wp2_with (first | go_skip | (with_reducible refine stopLoad 40 rfl ?_))
  refine load_any 40 L _ 40 _ HL3.out.loc rfl rfl rfl Try.underlying40 rfl (by kernel_rfl) ?_
  go_wp2_with (first | go_skip | (with_reducible refine stopStore 40 rfl ?_))
  refine store_known 40 w.heap.size _ #[.int .i64 x.seq, .int .i64 x.cls, .int .i64 x.key, .int .i64 x.window, .int .i64 x.sk.count, .int .i64 x.sk.sum, .int .i64 x.sk.min, .int .i64 x.sk.max, .slice a1 n1 c1, .slice a2 n2 c2, .slice a3 n3 c3] 40 HL3.out.held.res rfl rfl rfl rfl (by kernel_rfl) rfl (by simp [Value.oneCell']) ?_
  obtain ⟨E, hE⟩ : ∃ E : Array Value, E = #[.int .i64 x.seq, .int .i64 x.cls, .int .i64 x.key, .int .i64 x.window, .int .i64 x.sk.count, .int .i64 x.sk.sum, .int .i64 x.sk.min, .int .i64 x.sk.max, .slice a1 n1 c1, .slice a2 n2 c2, .slice a3 n3 c3] := ⟨_, rfl⟩
  have HZ := HL3.out.done hq HA.out
  rw [← hE] at HZ ⊢
  have HE : Hid (DrewItem w q a len cap zs (.returned (.agg E)) (w3.setRow w.heap.size E) ∧ E.size = 11 ∧ Blk (w3.setRow w.heap.size E) w.heap.size E 40) := ⟨HZ, by rw [hE]; rfl, HL3.out.held.res.setRow⟩
  clear hE HZ
  go_wp2
  refine bodyPost_ret (results_cell_row Try.results36 _ _ w.heap.size _ _ (0, 0) _ rfl HE.out.2.2 Try.underlying40 rfl (by rw [HE.out.2.1]; exact infoItA)) rfl ?_
  exact HE.out.1
set_option maxRecDepth 200000 in
set_option maxHeartbeats 4000000 in
theorem drawEntryOf_any (a : Option Addr) (len cap : Nat) (zs : List Int) (w : World) (hR : RdB w a len zs) (hlen : len ≤ 1048576) :
    Calls Try.prog 13 #[.slice a len cap] w fun e w' => ∃ ag v x F, e = .returned (.tuple #[.int .i64 ag, v]) ∧ RdIt w' v x F ∧ x.sk.full ∧ Own w.heap.size w' F ∧ Below w.heap.size w w' := by
  have HZ : Hid (Blk (w.alloc (.cells #[.int .i64 0, .int .i64 0, .int .i64 0, .int .i64 0, .int .i64 0, .int .i64 0, .int .i64 0, .int .i64 0, .slice none 0 0, .slice none 0 0, .slice none 0 0] 40)) w.heap.size #[.int .i64 0, .int .i64 0, .int .i64 0, .int .i64 0, .int .i64 0, .int .i64 0, .int .i64 0, .int .i64 0, .slice none 0 0, .slice none 0 0, .slice none 0 0] 40 ∧ Below w.heap.size w (w.alloc (.cells #[.int .i64 0, .int .i64 0, .int .i64 0, .int .i64 0, .int .i64 0, .int .i64 0, .int .i64 0, .int .i64 0, .slice none 0 0, .slice none 0 0, .slice none 0 0] 40))) := ⟨Blk.made _ _ _, (Below.refl _ _).alloc (Nat.le_refl _) _⟩
  have HR : Hid (RdB (w.alloc (.cells #[.int .i64 0, .int .i64 0, .int .i64 0, .int .i64 0, .int .i64 0, .int .i64 0, .int .i64 0, .int .i64 0, .slice none 0 0, .slice none 0 0, .slice none 0 0] 40)) a len zs) := hR.below HZ.out.2
  clear hR
  go_enter Try.func13, Try.ntmps13
  go_wp2_with fail
  obtain ⟨W0, hW0⟩ : ∃ W, W = w.alloc (.cells #[.int .i64 0, .int .i64 0, .int .i64 0, .int .i64 0, .int .i64 0, .int .i64 0, .int .i64 0, .int .i64 0, .slice none 0 0, .slice none 0 0, .slice none 0 0] 40) := ⟨_, rfl⟩
  rw [← hW0] at HZ HR ⊢
  clear hW0
  refine (l1New_any a len cap zs _ HR.out hlen).mono ?_
  rintro e w1 ⟨rfl, ⟨h, C1⟩, b1⟩
  have HZ1 : Hid (Blk w1 w.heap.size #[.int .i64 0, .int .i64 0, .int .i64 0, .int .i64 0, .int .i64 0, .int .i64 0, .int .i64 0, .int .i64 0, .slice none 0 0, .slice none 0 0, .slice none 0 0] 40 ∧ Below w.heap.size w w1 ∧ W0.heap.size < w1.heap.size ∧ w.heap.size < W0.heap.size) := ⟨HZ.out.1.below b1, Below.next HZ.out.2 b1, World.block_lt_of_cell? _ _ C1.c0, HZ.out.1.lt⟩
  obtain ⟨q, hqe⟩ : ∃ q, q = W0.heap.size := ⟨_, rfl⟩
  rw [← hqe] at C1 HZ1 ⊢
  have HC1 : Hid (Cur w1 q a len cap zs 0 h) := C1
  clear C1 b1 HZ HR hqe
  go_wp2_with fail
  refine (l1Below_any q a len cap zs 0 h 5 _ HC1.out hlen (by omega) (by omega)).mono ?_
  rintro e w2 ⟨n, i2, h2, rfl, n0, n5, C2, g2⟩
  have HZ2 : Hid (Blk w2 w.heap.size #[.int .i64 0, .int .i64 0, .int .i64 0, .int .i64 0, .int .i64 0, .int .i64 0, .int .i64 0, .int .i64 0, .slice none 0 0, .slice none 0 0, .slice none 0 0] 40 ∧ Below w.heap.size w w2 ∧ w.heap.size < w2.heap.size) := ⟨HZ1.out.1.grown g2 (by have := HZ1.out.2.2; omega), HZ1.out.2.1.grown g2 HZ1.out.2.1.size (fun k hk => by simp at hk; have := HZ1.out.2.2; omega), by have := g2.size; have := HZ1.out.2.2; omega⟩
  have HC2 : Hid (Cur w2 q a len cap zs i2 h2 ∧ w.heap.size < q) := ⟨C2, HZ1.out.2.2.2⟩
  clear C2 g2 HC1 HZ1
  go_wp2_with fail
  refine (l6Draw_any q a len cap zs i2 h2 _ HC2.out.1 hlen).mono ?_
  rintro e w3 ⟨v, x, F, i3, h3, rfl, rx, fx, ox, C3, g3⟩
  obtain ⟨E, rfl, hE11, hE1⟩ := (show ∃ cs : Array Value, v = .agg cs ∧ cs.size = 11 ∧ cs.all (·.oneCell') = true by
    obtain ⟨a1, n1, c1, a2, n2, c2, a3, n3, c3, rfl, _⟩ := rx
    exact ⟨_, rfl, rfl, by simp [Value.oneCell']⟩)
  have HZ3 : Hid (Blk w3 w.heap.size #[.int .i64 0, .int .i64 0, .int .i64 0, .int .i64 0, .int .i64 0, .int .i64 0, .int .i64 0, .int .i64 0, .slice none 0 0, .slice none 0 0, .slice none 0 0] 40 ∧ Below w.heap.size w w3) := ⟨HZ2.out.1.grown g3 (by have := HC2.out.2; omega), HZ2.out.2.1.grown g3 HZ2.out.2.1.size (fun k hk => by simp at hk; have := HC2.out.2; omega)⟩
  have HX : Hid (RdIt w3 (.agg E) x F ∧ x.sk.full ∧ Own (w.heap.size + 1) w3 F ∧ E.size = 11 ∧ E.all (·.oneCell') = true) := ⟨rx, fx, ox.mono HZ2.out.2.2, hE11, hE1⟩
  clear C3 g3 rx fx ox hE11 hE1 HZ2 HC2
  go_wp2_with (first | go_skip | (with_reducible refine stopStore 40 rfl ?_))
  refine store_known 40 w.heap.size _ E 40 HZ3.out.1 rfl rfl rfl rfl (by rw [HX.out.2.2.2.1]; exact infoItA) (by rw [HX.out.2.2.2.1]; rfl) HX.out.2.2.2.2 ?_
  go_wp2
  refine bodyPost_ret (results_tmp_row Try.results13 _ _ w.heap.size _ _ (0, 0) _ rfl HZ3.out.1.setRow Try.underlying40 rfl (by rw [HX.out.2.2.2.1]; exact infoItA)) rfl ?_
  have nF : w.heap.size ∉ F := fun hx => by have := HX.out.2.2.1.ge _ hx; omega
  exact ⟨n - 1, _, x, F, rfl, HX.out.1.agree (Agree.row nF E), HX.out.2.1, (HX.out.2.2.1.agree (Agree.row nF E)).mono (by omega), below_setRow HZ3.out.2 (Nat.le_refl _) _⟩
set_option maxRecDepth 200000 in
set_option maxHeartbeats 2000000 in
theorem drawIdOf_any (a : Option Addr) (len cap : Nat) (zs : List Int) (w : World) (hR : RdB w a len zs) (hlen : len ≤ 1048576) :
    Calls Try.prog 16 #[.slice a len cap] w fun e w' => ∃ ag s, e = .returned (.tuple #[.int .i64 ag, .int .i64 s]) ∧ Below w.heap.size w w' := by
  have HR : Hid (RdB w a len zs) := hR
  clear hR
  go_enter Try.func16, Try.ntmps16
  go_wp2_with fail
  refine (l1New_any a len cap zs _ HR.out hlen).mono ?_
  rintro e w1 ⟨rfl, ⟨h, C1⟩, b1⟩
  have HZ1 : Hid (Below w.heap.size w w1) := b1
  have HC1 : Hid (Cur w1 w.heap.size a len cap zs 0 h) := C1
  clear C1 b1 HR
  go_wp2_with fail
  refine (l1Below_any w.heap.size a len cap zs 0 h 5 _ HC1.out hlen (by omega) (by omega)).mono ?_
  rintro e w2 ⟨n, i2, h2, rfl, n0, n5, C2, g2⟩
  have HZ2 : Hid (Below w.heap.size w w2 ∧ w.heap.size < w2.heap.size) := ⟨HZ1.out.grown g2 HZ1.out.size (fun k hk => by simp at hk; omega), by have := World.block_lt_of_cell? _ _ C2.c0; exact this⟩
  have HC2 : Hid (Cur w2 w.heap.size a len cap zs i2 h2) := C2
  clear C2 g2 HC1 HZ1
  go_wp2_with fail
  refine (pickInt_cur w.heap.size w2.heap.size 5 a len cap zs i2 h2 [0, 1, 60, 61, 7] _ (HC2.out.alloc _) hlen (fun j hj => lit_ints w2 [0, 1, 60, 61, 7] _ j hj) (by have := HZ2.out.2; omega) 5 rfl (by omega) (by omega)).mono ?_
  rintro e w3 ⟨y, i3, h3, _, rfl, C3, g3⟩
  have HZ3 : Hid (Below w.heap.size w w3) := (Below.allocW _ HZ2.out.1 (Nat.le_refl _)).grown g3 (by have := HZ2.out.1.size; simp; omega) (fun k hk => by simp at hk; omega)
  clear C3 g3 HC2 HZ2
  go_wp2
  go_ret2
  exact ⟨n - 1, y, rfl, HZ3.out⟩
end Go.Proofs.Ytbmbmnhamogghab
