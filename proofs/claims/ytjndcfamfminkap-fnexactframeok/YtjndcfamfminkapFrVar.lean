/- Frames that are marked; a frame in a variable of the law's own. No statement of the seat is proved here. -/
import Derived.Test.YtjndcfamfminkapFrLaw
import Derived.Test.YtjndcfamfminkapItVar
namespace Go.Proofs.Ytjndcfamfminkap
open Go.RowKit
def It.marked (k : Int) (x : It) : It := { x with sk := x.sk.marked k }
structure MarkedIt (B : Nat) (w : World) (v : Value) (k : Int) (x : It) (F : List Nat) (w' : World) : Prop where
  rd : RdIt w' v (x.marked k) F
  own : Own B w' F
  only : Only F w w'
set_option maxRecDepth 200000 in
set_option maxHeartbeats 1000000 in
theorem markItem_any (B : Nat) (v : Value) (x : It) (F : List Nat) (k : Int) (w : World) (h : RdIt w v x F) (ho : Own B w F) (hw : x.wide) (hk0 : 0 ≤ k) (hk1 : k + x.sk.many ≤ 1000000000000) :
    Calls Try.prog 19 #[v, .int .i64 k] w fun e w' => e = .returned (.int .i64 (k + x.sk.many)) ∧ MarkedIt B w v k x F w' := by
  obtain ⟨a1, n1, c1, a2, n2, c2, a3, n3, c3, rfl, hr⟩ := h
  have hm0 := Sk.many_nonneg x.sk
  have HM : Hid (k + x.sk.many ≤ 1000000000000 ∧ 0 ≤ x.sk.many) := ⟨hk1, hm0⟩
  have HW : Hid (x.sk.wide) := hw
  have HB : Hid (Below w.heap.size w (w.alloc (.cells #[.int .i64 x.seq, .int .i64 x.cls, .int .i64 x.key, .int .i64 x.window, .int .i64 x.sk.count, .int .i64 x.sk.sum, .int .i64 x.sk.min, .int .i64 x.sk.max, .slice a1 n1 c1, .slice a2 n2 c2, .slice a3 n3 c3] 44)) ∧ Blk (w.alloc (.cells #[.int .i64 x.seq, .int .i64 x.cls, .int .i64 x.key, .int .i64 x.window, .int .i64 x.sk.count, .int .i64 x.sk.sum, .int .i64 x.sk.min, .int .i64 x.sk.max, .slice a1 n1 c1, .slice a2 n2 c2, .slice a3 n3 c3] 44)) w.heap.size #[.int .i64 x.seq, .int .i64 x.cls, .int .i64 x.key, .int .i64 x.window, .int .i64 x.sk.count, .int .i64 x.sk.sum, .int .i64 x.sk.min, .int .i64 x.sk.max, .slice a1 n1 c1, .slice a2 n2 c2, .slice a3 n3 c3] 44) := ⟨(Below.refl _ _).alloc (Nat.le_refl _) _, Blk.made _ _ _⟩
  have HR : Hid (RdSk w (.agg #[.int .i64 x.sk.count, .int .i64 x.sk.sum, .int .i64 x.sk.min, .int .i64 x.sk.max, .slice a1 n1 c1, .slice a2 n2 c2, .slice a3 n3 c3]) x.sk F ∧ Own B w F) := ⟨hr, ho⟩
  clear hr ho hw hk1 hm0
  go_enter Try.func19, Try.ntmps19
  go_wp2_with (first | go_skip | (with_reducible refine stopLoad 32 rfl ?_))
  refine load_cutw 32 w.heap.size 4 7 _ #[.int .i64 x.sk.count, .int .i64 x.sk.sum, .int .i64 x.sk.min, .int .i64 x.sk.max, .slice a1 n1 c1, .slice a2 n2 c2, .slice a3 n3 c3] 44 _ HB.out.2 rfl rfl rfl Try.underlying32 rfl infoSkI (by simp) rfl ?_
  go_wp2_with fail
  refine (markSketch_any B _ x.sk F k _ (HR.out.1.below HB.out.1) (HR.out.2.below HR.out.1.lt HB.out.1) HW.out hk0 HM.out.1).mono ?_
  rintro e w2 ⟨rfl, m2⟩
  have H2 : Hid (RdSk w2 (.agg #[.int .i64 x.sk.count, .int .i64 x.sk.sum, .int .i64 x.sk.min, .int .i64 x.sk.max, .slice a1 n1 c1, .slice a2 n2 c2, .slice a3 n3 c3]) (x.sk.marked k) F ∧ Own B w2 F ∧ Only F w w2) := ⟨m2.rd, m2.own, (Only.of_below HB.out.1).trans m2.only⟩
  clear m2
  obtain ⟨y2, hy2⟩ : ∃ y, y = k + x.sk.many := ⟨_, rfl⟩
  rw [← hy2]
  have HY2 : Hid (y2 = k + x.sk.many) := hy2
  clear hy2
  go_wp2
  go_ret
  exact ⟨ret_int HY2.out, ⟨⟨a1, n1, c1, a2, n2, c2, a3, n3, c3, rfl, H2.out.1⟩, H2.out.2.1, H2.out.2.2⟩⟩
def Fr.many (x : Fr) : Int := 2 * x.taken.length + x.item.sk.many
def Fr.marked (k : Int) (x : Fr) : Fr := ⟨x.kind, x.agent, x.epoch, x.granted, markP k x.taken.length, x.item.marked (k + 2 * x.taken.length)⟩
structure MarkedF (B : Nat) (w : World) (v : Value) (k : Int) (x : Fr) (F : List Nat) (w' : World) : Prop where
  rd : RdF w' v (x.marked k) F
  own : Own B w' F
  only : Only F w w'
theorem Fr.fits_sz {x : Fr} (h : x.taken.length + x.item.sk.size ≤ 1048576) : x.fits := by
  have := Sk.size_nonneg x.item.sk
  exact ⟨Sk.fits_of (by omega), by omega⟩
theorem Fr.many_fits {x : Fr} (h : x.taken.length + x.item.sk.size ≤ 1048576) : 0 ≤ x.many ∧ x.many ≤ 4194304 := by
  have h1 := Sk.many_nonneg x.item.sk
  have h2 : x.item.sk.many ≤ x.item.sk.size := by
    have h0 := sumLen_nonneg x.item.sk.rows
    unfold Sk.size Sk.many
    omega
  unfold Fr.many
  omega
/-- An entry in a variable of the call's own: its struct lies in block g, its lists in memory between lo and hi. -/
structure VarF (W : World) (lo hi g : Nat) (cs : Array Value) (s : Fr) (F : List Nat) : Prop where
  blk : Blk W g cs 58
  rd : RdF W (.agg cs) s F
  sz : cs.size = 16
  own : Own lo W F
  lt : ∀ b ∈ F, b < hi
  ge : lo ≤ g
  glt : g < hi
  apart : g ∉ F
theorem VarF.below {W W' : World} {lo hi g : Nat} {cs : Array Value} {s : Fr} {F : List Nat} (h : VarF W lo hi g cs s F) (b : Below W.heap.size W W') : VarF W' lo hi g cs s F :=
  ⟨h.blk.below b, h.rd.below b, h.sz, h.own.below h.rd.lt b, h.lt, h.ge, h.glt, h.apart⟩
theorem VarF.fresh {w0 w1 W : World} {cs : Array Value} {s : Fr} {F : List Nat} (r : RdF w1 (.agg cs) s F) (o : Own w0.heap.size w1 F) (b : Below w0.heap.size w0 w1) (sz : cs.size = 16) (k : Blk W w1.heap.size cs 58) (b2 : Below w1.heap.size w1 W) : VarF W w0.heap.size W.heap.size w1.heap.size cs s F :=
  ⟨k, r.below b2, sz, o.below r.lt b2, fun x hx => by have := r.lt x hx; have := b2.size; omega, b.size, k.lt, fun hx => by have := r.lt _ hx; omega⟩
theorem VarF.only {W W' : World} {lo hi g lo' hi' g' : Nat} {cs ds : Array Value} {s t : Fr} {F G : List Nat} (h : VarF W lo hi g cs s F) (k : VarF W lo' hi' g' ds t G) (o : Only G W W') (hd : hi ≤ lo' ∨ hi' ≤ lo) : VarF W' lo hi g cs s F := by
  have d : ∀ b ∈ F, b ∉ G := fun b hb hg => by have := h.lt b hb; have := h.own.ge b hb; have := k.lt b hg; have := k.own.ge b hg; omega
  have e : g ∉ G := fun hg => by have := h.ge; have := h.glt; have := k.lt g hg; have := k.own.ge g hg; omega
  exact ⟨h.blk.agree (o.block g h.blk.lt e), h.rd.agree (o.agree h.rd.lt d), h.sz, h.own.agree (o.agree h.rd.lt d), h.lt, h.ge, h.glt, h.apart⟩
theorem VarF.only' {W W' : World} {lo hi g lo' hi' : Nat} {cs : Array Value} {s : Fr} {F G : List Nat} (h : VarF W lo hi g cs s F) (o : Only G W W') (kl : ∀ b ∈ G, b < hi') (kg : ∀ b ∈ G, lo' ≤ b) (hd : hi ≤ lo' ∨ hi' ≤ lo) : VarF W' lo hi g cs s F := by
  have d : ∀ b ∈ F, b ∉ G := fun b hb hg => by have := h.lt b hb; have := h.own.ge b hb; have := kl b hg; have := kg b hg; omega
  have e : g ∉ G := fun hg => by have := h.ge; have := h.glt; have := kl g hg; have := kg g hg; omega
  exact ⟨h.blk.agree (o.block g h.blk.lt e), h.rd.agree (o.agree h.rd.lt d), h.sz, h.own.agree (o.agree h.rd.lt d), h.lt, h.ge, h.glt, h.apart⟩
theorem VarF.keep {W W' : World} {lo' hi' g' : Nat} {ds : Array Value} {t : Fr} {G : List Nat} {b : Nat} {cs : Array Value} {ty : TypeId} (k : VarF W lo' hi' g' ds t G) (o : Only G W W') (h : Blk W b cs ty) (hb : b < lo') : Blk W' b cs ty :=
  h.agree (o.block b h.lt (fun hg => by have := k.own.ge b hg; omega))
theorem VarF.bel {w W W' : World} {lo' hi' g' : Nat} {ds : Array Value} {t : Fr} {G : List Nat} (k : VarF W lo' hi' g' ds t G) (o : Only G W W') (h : Below w.heap.size w W) (hb : w.heap.size ≤ lo') : Below w.heap.size w W' :=
  o.below h h.size (fun b hg => by have := k.own.ge b hg; omega)
theorem varF_stored {W : World} {lo g : Nat} {old rr : Array Value} {s : Fr} {X : List Nat} (k : Blk W g old 58) (r : RdF W (.agg rr) s X) (sz : rr.size = 16) (o : Own lo W X) (lt : ∀ b ∈ X, b < W.heap.size) (ge : lo ≤ g) (ap : g ∉ X) : VarF (W.setRow g rr) lo (W.setRow g rr).heap.size g rr s X := by
  have ag : Agree W (W.setRow g rr) X := fun b hb => setRow_other W _ b _ (fun e => ap (e ▸ hb))
  have hs : (W.setRow g rr).heap.size = W.heap.size := by simp
  exact ⟨k.setRow, r.agree ag, sz, o.agree ag, by rw [hs]; exact lt, ge, by rw [hs]; exact k.lt, ap⟩
theorem VarF.mark {W W' : World} {lo hi g : Nat} {cs : Array Value} {s : Fr} {F : List Nat} {k : Int} (h : VarF W lo hi g cs s F) (m : MarkedF lo W (.agg cs) k s F W') : VarF W' lo hi g cs (s.marked k) F :=
  ⟨h.blk.agree (m.only.block g h.blk.lt h.apart), m.rd, h.sz, m.own, h.lt, h.ge, h.glt, h.apart⟩
/-- The boxes of two arguments lie there. -/
def FrBoxes (g : Nat) (cs ds : Array Value) (W : World) : Prop := Blk W g cs 54 ∧ Blk W (g + 1) ds 54
theorem FrBoxes.below {g : Nat} {cs ds : Array Value} {W W' : World} (h : FrBoxes g cs ds W) (b : Below W.heap.size W W') : FrBoxes g cs ds W' := ⟨h.1.below b, h.2.below b⟩
theorem FrBoxes.setRow {g k : Nat} {cs ds es : Array Value} {W : World} (h : FrBoxes g cs ds W) (hk : g + 1 < k) : FrBoxes g cs ds (W.setRow k es) := ⟨h.1.setRowOther (by omega), h.2.setRowOther (by omega)⟩
end Go.Proofs.Ytjndcfamfminkap
