/- Several texts of mine, laid together. No statement of the seat is proved here. -/
import Derived.Test.YtgkbhhlkaifnoaaGreatDoorB4
import Derived.Test.YtgkbhhlkaifnoaaGreatDoorB2
import Derived.Test.YtgkbhhlkaifnoaaGreatDoorItOf
import Derived.Test.YtgkbhhlkaifnoaaGreatDoorB3
import Derived.StillTactics
import Derived.Shelf.Strings.Builder1
import Derived.Shelf.Strings.Builder2
import Derived.Shelf.Strings.OnBuilder
import Derived.Shelf.Strconv.Itoa0
import Derived.Shelf.Strconv.Itoa1
import Derived.Shelf.LaysM
import Derived.Shelf.Strconv.Itoa2
import Derived.Shelf.Strconv.Itoa3
import Derived.Test.YtgkbhhlkaifnoaaGreatDoorProg
import Derived.Test.YtgkbhhlkaifnoaaGreatDoorBase
import Derived.Laws.BytesArg
import Derived.Lib.LaidTab
/- The walk through the model's l7Draw. No statement of the seat is proved here. -/
namespace Go.Proofs.YtgkbhhlkaifnoaaGreatDoor
open Go.RowKit
/-- A frame that is being worked on. -/
structure LocD (w : World) (q : Nat) (a : Option Addr) (len cap : Nat) (zs : List Int) (i h : Int) (L : Nat) (fc : Array Value) (f : Fr) (F G : List Nat) (W : World) : Prop where
  held : HeldR w q a len cap zs i h #[.int .i64 0, .int .i64 0, .int .i64 0, .int .i64 0, .slice none 0 0, .int .i64 0, .int .i64 0, .int .i64 0, .int .i64 0, .int .i64 0, .int .i64 0, .int .i64 0, .int .i64 0, .slice none 0 0, .slice none 0 0, .slice none 0 0] 35 W
  loc : Blk W L fc 35
  rd : RdFr W (.agg fc) f F G
  ownF : Own (w.heap.size + 1) W F
  ownG : Own (w.heap.size + 1) W G
  ap : ∀ b ∈ F, b ∉ G
  nF : L ∉ F
  nG : L ∉ G
  gt : w.heap.size < L
  wide : f.item.sk.wide
  many : f.taken.length ≤ 20
section
variable {w W W' : World} {q : Nat} {a : Option Addr} {len cap : Nat} {zs : List Int} {i h i' h' : Int} {L : Nat} {fc : Array Value} {f : Fr} {F G : List Nat}
theorem LocD.next (H : LocD w q a len cap zs i h L fc f F G W) (hq : q < w.heap.size) (C : Cur W' q a len cap zs i' h') (g : W.grownBy W' (some q)) : LocD w q a len cap zs i' h' L fc f F G W' := by
  have agF : Agree W W' F := fun x hx => g.block x (H.rd.lt1 x hx) (fun e => by have := H.ownF.ge x hx; simp at e; omega)
  have agG : Agree W W' G := fun x hx => g.block x (H.rd.lt2 x hx) (fun e => by have := H.ownG.ge x hx; simp at e; omega)
  have gt := H.gt
  exact ⟨H.held.next hq C g, H.loc.grown g (by omega), H.rd.agree agF agG, H.ownF.agree agF, H.ownG.agree agG, H.ap, H.nF, H.nG, H.gt, H.wide, H.many⟩
theorem LocD.below (H : LocD w q a len cap zs i h L fc f F G W) (k : Below W.heap.size W W') : LocD w q a len cap zs i h L fc f F G W' := ⟨H.held.below k, H.loc.below k, H.rd.below k, H.ownF.below H.rd.lt1 k, H.ownG.below H.rd.lt2 k, H.ap, H.nF, H.nG, H.gt, H.wide, H.many⟩
theorem LocD.done (H : LocD w q a len cap zs i h L fc f F G W) (hq : q < w.heap.size) (ha : ∀ b, (∃ off, a = some ⟨b, off, none⟩ ∧ 0 < len) → b < w.heap.size) : DrewFrame w q a len cap zs (.returned (.agg fc)) (W.setRow w.heap.size fc) := by
  have nF : w.heap.size ∉ F := fun hx => by have := H.ownF.ge _ hx; omega
  have nG : w.heap.size ∉ G := fun hx => by have := H.ownG.ge _ hx; omega
  exact ⟨_, f, F, G, i, h, rfl, H.rd.agree (Agree.row nF _) (Agree.row nG _), H.wide, H.many, (H.ownF.agree (Agree.row nF _)).mono (by omega), (H.ownG.agree (Agree.row nG _)).mono (by omega), H.ap, cur_row H.held.cur (by omega) (fun b hb => by have := ha b hb; omega), grown_row H.held.grown (Nat.le_refl _)⟩
theorem HeldR.cell {cs : Array Value} {t : TypeId} (H : HeldR w q a len cap zs i h cs t W) (hq : q < w.heap.size) (ha : ∀ b, (∃ off, a = some ⟨b, off, none⟩ ∧ 0 < len) → b < w.heap.size) (hL : w.heap.size < L) (j : Nat) (v : Value) : HeldR w q a len cap zs i h cs t (W.setCell ⟨L, j, none⟩ v) :=
  ⟨H.res.setOther (by omega) _ _, cur_cell H.cur (by omega) (fun x hx => by have := ha x hx; omega), grown_cell H.grown (by omega)⟩
theorem HeldR.row {cs : Array Value} {t : TypeId} (H : HeldR w q a len cap zs i h cs t W) (hq : q < w.heap.size) (ha : ∀ b, (∃ off, a = some ⟨b, off, none⟩ ∧ 0 < len) → b < w.heap.size) (hL : w.heap.size < L) (E : Array Value) : HeldR w q a len cap zs i h cs t (W.setRow L E) :=
  ⟨H.res.setRowOther (by omega), cur_row H.cur (by omega) (fun x hx => by have := ha x hx; omega), grown_row H.grown (by omega)⟩
end
set_option maxRecDepth 200000 in
set_option maxHeartbeats 8000000 in
theorem l7Draw_any (q : Nat) (a : Option Addr) (len cap : Nat) (zs : List Int) (i h : Int) (w : World) (C : Cur w q a len cap zs i h) (hlen : len ≤ 1048576) :
    Calls Tryz.prog 26 #[.pointer (some ⟨q, 0, none⟩)] w fun e w' => DrewFrame w q a len cap zs e w' := by
  have hq : q < w.heap.size := World.block_lt_of_cell? _ _ C.c0
  have HA : Hid (∀ b, (∃ off, a = some ⟨b, off, none⟩ ∧ 0 < len) → b < w.heap.size) := cur_lt C
  have H0 : Hid (HeldR w q a len cap zs i h #[.int .i64 0, .int .i64 0, .int .i64 0, .int .i64 0, .slice none 0 0, .int .i64 0, .int .i64 0, .int .i64 0, .int .i64 0, .int .i64 0, .int .i64 0, .int .i64 0, .int .i64 0, .slice none 0 0, .slice none 0 0, .slice none 0 0] 35 (w.alloc (.cells #[.int .i64 0, .int .i64 0, .int .i64 0, .int .i64 0, .slice none 0 0, .int .i64 0, .int .i64 0, .int .i64 0, .int .i64 0, .int .i64 0, .int .i64 0, .int .i64 0, .int .i64 0, .slice none 0 0, .slice none 0 0, .slice none 0 0] 35))) := HeldR.made C _ _
  clear C
  go_enter Tryz.func26, Tryz.ntmps26
  go_wp2_with fail
  refine (l7Right_any q a len cap zs i h _ H0.out.cur hlen).mono ?_
  rintro e w1 ⟨v1, f, F, G, i1, h1, rfl, rf, wf, mf, oF, oG, ap, C1, g1⟩
  obtain ⟨b, l, c, a1, n1, c1, a2, n2, c2, a3, n3, c3, rfl, rp, ri, cpd⟩ := rf
  have HS1 : Hid (RdFr w1 (.agg #[.int .i64 f.kind, .int .i64 f.agent, .int .i64 f.epoch, .int .i64 f.granted, .slice b l c, .int .i64 f.item.seq, .int .i64 f.item.cls, .int .i64 f.item.key, .int .i64 f.item.window, .int .i64 f.item.sk.count, .int .i64 f.item.sk.sum, .int .i64 f.item.sk.min, .int .i64 f.item.sk.max, .slice a1 n1 c1, .slice a2 n2 c2, .slice a3 n3 c3]) f F G ∧ f.item.sk.wide ∧ f.taken.length ≤ 20 ∧ Own (w.heap.size + 1) w1 F ∧ Own (w.heap.size + 1) w1 G ∧ ∀ b ∈ F, b ∉ G) := ⟨⟨b, l, c, a1, n1, c1, a2, n2, c2, a3, n3, c3, rfl, rp, ri, cpd⟩, wf, mf, by simpa using oF, by simpa using oG, ap⟩
  have H1 : Hid (HeldR w q a len cap zs i1 h1 #[.int .i64 0, .int .i64 0, .int .i64 0, .int .i64 0, .slice none 0 0, .int .i64 0, .int .i64 0, .int .i64 0, .int .i64 0, .int .i64 0, .int .i64 0, .int .i64 0, .int .i64 0, .slice none 0 0, .slice none 0 0, .slice none 0 0] 35 w1) := H0.out.next hq C1 g1
  clear rp ri cpd wf mf oF oG ap C1 g1 H0
  go_wp2_with (first | go_skip | (with_reducible refine stopLoad 35 rfl ?_) | (with_reducible refine stopStore 35 rfl ?_) | (with_reducible refine stopStore 33 rfl ?_))
  refine store_fresh 35 w1.heap.size rfl #[.int .i64 0, .int .i64 0, .int .i64 0, .int .i64 0, .slice none 0 0, .int .i64 0, .int .i64 0, .int .i64 0, .int .i64 0, .int .i64 0, .int .i64 0, .int .i64 0, .int .i64 0, .slice none 0 0, .slice none 0 0, .slice none 0 0] #[.int .i64 f.kind, .int .i64 f.agent, .int .i64 f.epoch, .int .i64 f.granted, .slice b l c, .int .i64 f.item.seq, .int .i64 f.item.cls, .int .i64 f.item.key, .int .i64 f.item.window, .int .i64 f.item.sk.count, .int .i64 f.item.sk.sum, .int .i64 f.item.sk.min, .int .i64 f.item.sk.max, .slice a1 n1 c1, .slice a2 n2 c2, .slice a3 n3 c3] 35 rfl rfl rfl rfl infoFrD7 rfl (by simp [Value.oneCell']) ?_
  intro w2 hg2 hb2
  have H2 : Hid (LocD w q a len cap zs i1 h1 w1.heap.size #[.int .i64 f.kind, .int .i64 f.agent, .int .i64 f.epoch, .int .i64 f.granted, .slice b l c, .int .i64 f.item.seq, .int .i64 f.item.cls, .int .i64 f.item.key, .int .i64 f.item.window, .int .i64 f.item.sk.count, .int .i64 f.item.sk.sum, .int .i64 f.item.sk.min, .int .i64 f.item.sk.max, .slice a1 n1 c1, .slice a2 n2 c2, .slice a3 n3 c3] f F G w2) := ⟨H1.out.below hb2, hg2, HS1.out.1.below hb2, HS1.out.2.2.2.1.below HS1.out.1.lt1 hb2, HS1.out.2.2.2.2.1.below HS1.out.1.lt2 hb2, HS1.out.2.2.2.2.2, fun hx => by have := HS1.out.1.lt1 _ hx; omega, fun hx => by have := HS1.out.1.lt2 _ hx; omega, H1.out.res.lt, HS1.out.2.1, HS1.out.2.2.1⟩
  obtain ⟨L, hL⟩ : ∃ L, L = w1.heap.size := ⟨_, rfl⟩
  rw [← hL] at H2 ⊢
  clear hg2 hb2 H1 HS1 hL
  go_wp2_with fail
  refine (l1Below_any q a len cap zs i1 h1 14 _ H2.out.held.cur hlen (by omega) (by omega)).mono ?_
  rintro e w3 ⟨n, i3, h3, rfl, n0, n14, C3, g3⟩
  have H3 : Hid (LocD w q a len cap zs i3 h3 L #[.int .i64 f.kind, .int .i64 f.agent, .int .i64 f.epoch, .int .i64 f.granted, .slice b l c, .int .i64 f.item.seq, .int .i64 f.item.cls, .int .i64 f.item.key, .int .i64 f.item.window, .int .i64 f.item.sk.count, .int .i64 f.item.sk.sum, .int .i64 f.item.sk.min, .int .i64 f.item.sk.max, .slice a1 n1 c1, .slice a2 n2 c2, .slice a3 n3 c3] f F G w3) := H2.out.next hq C3 g3
  clear C3 g3 H2
  by_cases q0 : n = 0
  · subst q0
    go_wp2_with fail
    refine (pickInt_cur q w3.heap.size 4 a len cap zs i3 h3 [-1, 4, 1, 0] _ (H3.out.held.cur.alloc _) hlen (fun j hj => lit_ints w3 [-1, 4, 1, 0] _ j hj) (by have := H3.out.held.grown.size; omega) 4 rfl (by omega) (by omega)).mono ?_
    rintro e w4 ⟨y, i4, h4, _, rfl, C4, g4⟩
    have H4 : Hid (LocD w q a len cap zs i4 h4 L #[.int .i64 f.kind, .int .i64 f.agent, .int .i64 f.epoch, .int .i64 f.granted, .slice b l c, .int .i64 f.item.seq, .int .i64 f.item.cls, .int .i64 f.item.key, .int .i64 f.item.window, .int .i64 f.item.sk.count, .int .i64 f.item.sk.sum, .int .i64 f.item.sk.min, .int .i64 f.item.sk.max, .slice a1 n1 c1, .slice a2 n2 c2, .slice a3 n3 c3] f F G w4) := (H3.out.below ((Below.refl _ _).alloc (Nat.le_refl _) _)).next hq C4 g4
    have H5 : Hid (LocD w q a len cap zs i4 h4 L #[.int .i64 y, .int .i64 f.agent, .int .i64 f.epoch, .int .i64 f.granted, .slice b l c, .int .i64 f.item.seq, .int .i64 f.item.cls, .int .i64 f.item.key, .int .i64 f.item.window, .int .i64 f.item.sk.count, .int .i64 f.item.sk.sum, .int .i64 f.item.sk.min, .int .i64 f.item.sk.max, .slice a1 n1 c1, .slice a2 n2 c2, .slice a3 n3 c3] { f with kind := y } F G (w4.setCell ⟨L, 0, none⟩ (.int .i64 y))) := by
      obtain ⟨b', l', c', a1', n1', c1', a2', n2', c2', a3', n3', c3', ev, rp, ri, cpd⟩ := H4.out.rd
      simp only [Value.agg.injEq] at ev
      cases ev
      exact ⟨H4.out.held.cell hq HA.out H4.out.gt _ _, H4.out.loc.set 0 _, ⟨b, l, c, a1, n1, c1, a2, n2, c2, a3, n3, c3, rfl, rp.agree (.set H4.out.nF _ _), ri.agree (.set H4.out.nG _ _), cpd⟩, H4.out.ownF.agree (.set H4.out.nF _ _), H4.out.ownG.agree (.set H4.out.nG _ _), H4.out.ap, H4.out.nF, H4.out.nG, H4.out.gt, H4.out.wide, H4.out.many⟩
    have cc := H4.out.loc.cell 0
    have ff := H4.out.loc.frozen 0
    simp only [aT, aZ] at cc
    clear C4 g4 H3 H4
    obtain ⟨W, hW⟩ : ∃ W, W = w4.setCell ⟨L, 0, none⟩ (.int .i64 y) := ⟨_, rfl⟩
    go_wp2_with (first | go_skip | (with_reducible refine stopLoad 35 rfl ?_) | (with_reducible refine stopStore 35 rfl ?_) | (with_reducible refine stopStore 33 rfl ?_))
    rw [← hW] at H5 ⊢
    clear hW cc ff
    refine load_known 35 L #[.int .i64 y, .int .i64 f.agent, .int .i64 f.epoch, .int .i64 f.granted, .slice b l c, .int .i64 f.item.seq, .int .i64 f.item.cls, .int .i64 f.item.key, .int .i64 f.item.window, .int .i64 f.item.sk.count, .int .i64 f.item.sk.sum, .int .i64 f.item.sk.min, .int .i64 f.item.sk.max, .slice a1 n1 c1, .slice a2 n2 c2, .slice a3 n3 c3] 35 _ H5.out.loc rfl rfl rfl Tryz.underlying35 rfl infoFrD7 ?_
    go_wp2_with (first | go_skip | (with_reducible refine stopLoad 35 rfl ?_) | (with_reducible refine stopStore 35 rfl ?_) | (with_reducible refine stopStore 33 rfl ?_))
    refine store_known 35 w.heap.size _ #[.int .i64 y, .int .i64 f.agent, .int .i64 f.epoch, .int .i64 f.granted, .slice b l c, .int .i64 f.item.seq, .int .i64 f.item.cls, .int .i64 f.item.key, .int .i64 f.item.window, .int .i64 f.item.sk.count, .int .i64 f.item.sk.sum, .int .i64 f.item.sk.min, .int .i64 f.item.sk.max, .slice a1 n1 c1, .slice a2 n2 c2, .slice a3 n3 c3] 35 H5.out.held.res rfl rfl rfl rfl infoFrD7 rfl (by simp [Value.oneCell']) ?_
    go_wp2
    refine bodyPost_ret (results_cell_row Tryz.results26 _ _ w.heap.size _ _ (0, 0) _ rfl H5.out.held.res.setRow Tryz.underlying35 rfl infoFrD7) rfl ?_
    exact H5.out.done hq HA.out
  have z0 : (n == 0) = false := by simpa using q0
  by_cases q1 : n = 1
  · subst q1
    go_wp2_with fail
    refine (pickInt_cur q w3.heap.size 2 a len cap zs i3 h3 [-1, 3] _ (H3.out.held.cur.alloc _) hlen (fun j hj => lit_ints w3 [-1, 3] _ j hj) (by have := H3.out.held.grown.size; omega) 2 rfl (by omega) (by omega)).mono ?_
    rintro e w4 ⟨y, i4, h4, _, rfl, C4, g4⟩
    have H4 : Hid (LocD w q a len cap zs i4 h4 L #[.int .i64 f.kind, .int .i64 f.agent, .int .i64 f.epoch, .int .i64 f.granted, .slice b l c, .int .i64 f.item.seq, .int .i64 f.item.cls, .int .i64 f.item.key, .int .i64 f.item.window, .int .i64 f.item.sk.count, .int .i64 f.item.sk.sum, .int .i64 f.item.sk.min, .int .i64 f.item.sk.max, .slice a1 n1 c1, .slice a2 n2 c2, .slice a3 n3 c3] f F G w4) := (H3.out.below ((Below.refl _ _).alloc (Nat.le_refl _) _)).next hq C4 g4
    have H5 : Hid (LocD w q a len cap zs i4 h4 L #[.int .i64 f.kind, .int .i64 y, .int .i64 f.epoch, .int .i64 f.granted, .slice b l c, .int .i64 f.item.seq, .int .i64 f.item.cls, .int .i64 f.item.key, .int .i64 f.item.window, .int .i64 f.item.sk.count, .int .i64 f.item.sk.sum, .int .i64 f.item.sk.min, .int .i64 f.item.sk.max, .slice a1 n1 c1, .slice a2 n2 c2, .slice a3 n3 c3] { f with agent := y } F G (w4.setCell ⟨L, 1, none⟩ (.int .i64 y))) := by
      obtain ⟨b', l', c', a1', n1', c1', a2', n2', c2', a3', n3', c3', ev, rp, ri, cpd⟩ := H4.out.rd
      simp only [Value.agg.injEq] at ev
      cases ev
      exact ⟨H4.out.held.cell hq HA.out H4.out.gt _ _, H4.out.loc.set 1 _, ⟨b, l, c, a1, n1, c1, a2, n2, c2, a3, n3, c3, rfl, rp.agree (.set H4.out.nF _ _), ri.agree (.set H4.out.nG _ _), cpd⟩, H4.out.ownF.agree (.set H4.out.nF _ _), H4.out.ownG.agree (.set H4.out.nG _ _), H4.out.ap, H4.out.nF, H4.out.nG, H4.out.gt, H4.out.wide, H4.out.many⟩
    have cc := H4.out.loc.cell 1
    have ff := H4.out.loc.frozen 1
    simp only [aT, aS, aZ] at cc
    clear C4 g4 H3 H4
    obtain ⟨W, hW⟩ : ∃ W, W = w4.setCell ⟨L, 1, none⟩ (.int .i64 y) := ⟨_, rfl⟩
    go_wp2_with (first | go_skip | (with_reducible refine stopLoad 35 rfl ?_) | (with_reducible refine stopStore 35 rfl ?_) | (with_reducible refine stopStore 33 rfl ?_))
    rw [← hW] at H5 ⊢
    clear hW cc ff
    refine load_known 35 L #[.int .i64 f.kind, .int .i64 y, .int .i64 f.epoch, .int .i64 f.granted, .slice b l c, .int .i64 f.item.seq, .int .i64 f.item.cls, .int .i64 f.item.key, .int .i64 f.item.window, .int .i64 f.item.sk.count, .int .i64 f.item.sk.sum, .int .i64 f.item.sk.min, .int .i64 f.item.sk.max, .slice a1 n1 c1, .slice a2 n2 c2, .slice a3 n3 c3] 35 _ H5.out.loc rfl rfl rfl Tryz.underlying35 rfl infoFrD7 ?_
    go_wp2_with (first | go_skip | (with_reducible refine stopLoad 35 rfl ?_) | (with_reducible refine stopStore 35 rfl ?_) | (with_reducible refine stopStore 33 rfl ?_))
    refine store_known 35 w.heap.size _ #[.int .i64 f.kind, .int .i64 y, .int .i64 f.epoch, .int .i64 f.granted, .slice b l c, .int .i64 f.item.seq, .int .i64 f.item.cls, .int .i64 f.item.key, .int .i64 f.item.window, .int .i64 f.item.sk.count, .int .i64 f.item.sk.sum, .int .i64 f.item.sk.min, .int .i64 f.item.sk.max, .slice a1 n1 c1, .slice a2 n2 c2, .slice a3 n3 c3] 35 H5.out.held.res rfl rfl rfl rfl infoFrD7 rfl (by simp [Value.oneCell']) ?_
    go_wp2
    refine bodyPost_ret (results_cell_row Tryz.results26 _ _ w.heap.size _ _ (0, 0) _ rfl H5.out.held.res.setRow Tryz.underlying35 rfl infoFrD7) rfl ?_
    exact H5.out.done hq HA.out
  have z1 : (n == 1) = false := by simpa using q1
  by_cases q2 : n = 2
  · subst q2
    go_wp2_with fail
    refine (pickInt_cur q w3.heap.size 3 a len cap zs i3 h3 [-1, 1000, 1001] _ (H3.out.held.cur.alloc _) hlen (fun j hj => lit_ints w3 [-1, 1000, 1001] _ j hj) (by have := H3.out.held.grown.size; omega) 3 rfl (by omega) (by omega)).mono ?_
    rintro e w4 ⟨y, i4, h4, _, rfl, C4, g4⟩
    have H4 : Hid (LocD w q a len cap zs i4 h4 L #[.int .i64 f.kind, .int .i64 f.agent, .int .i64 f.epoch, .int .i64 f.granted, .slice b l c, .int .i64 f.item.seq, .int .i64 f.item.cls, .int .i64 f.item.key, .int .i64 f.item.window, .int .i64 f.item.sk.count, .int .i64 f.item.sk.sum, .int .i64 f.item.sk.min, .int .i64 f.item.sk.max, .slice a1 n1 c1, .slice a2 n2 c2, .slice a3 n3 c3] f F G w4) := (H3.out.below ((Below.refl _ _).alloc (Nat.le_refl _) _)).next hq C4 g4
    have H5 : Hid (LocD w q a len cap zs i4 h4 L #[.int .i64 f.kind, .int .i64 f.agent, .int .i64 y, .int .i64 f.granted, .slice b l c, .int .i64 f.item.seq, .int .i64 f.item.cls, .int .i64 f.item.key, .int .i64 f.item.window, .int .i64 f.item.sk.count, .int .i64 f.item.sk.sum, .int .i64 f.item.sk.min, .int .i64 f.item.sk.max, .slice a1 n1 c1, .slice a2 n2 c2, .slice a3 n3 c3] { f with epoch := y } F G (w4.setCell ⟨L, 2, none⟩ (.int .i64 y))) := by
      obtain ⟨b', l', c', a1', n1', c1', a2', n2', c2', a3', n3', c3', ev, rp, ri, cpd⟩ := H4.out.rd
      simp only [Value.agg.injEq] at ev
      cases ev
      exact ⟨H4.out.held.cell hq HA.out H4.out.gt _ _, H4.out.loc.set 2 _, ⟨b, l, c, a1, n1, c1, a2, n2, c2, a3, n3, c3, rfl, rp.agree (.set H4.out.nF _ _), ri.agree (.set H4.out.nG _ _), cpd⟩, H4.out.ownF.agree (.set H4.out.nF _ _), H4.out.ownG.agree (.set H4.out.nG _ _), H4.out.ap, H4.out.nF, H4.out.nG, H4.out.gt, H4.out.wide, H4.out.many⟩
    have cc := H4.out.loc.cell 2
    have ff := H4.out.loc.frozen 2
    simp only [aT, aS, aZ] at cc
    clear C4 g4 H3 H4
    obtain ⟨W, hW⟩ : ∃ W, W = w4.setCell ⟨L, 2, none⟩ (.int .i64 y) := ⟨_, rfl⟩
    go_wp2_with (first | go_skip | (with_reducible refine stopLoad 35 rfl ?_) | (with_reducible refine stopStore 35 rfl ?_) | (with_reducible refine stopStore 33 rfl ?_))
    rw [← hW] at H5 ⊢
    clear hW cc ff
    refine load_known 35 L #[.int .i64 f.kind, .int .i64 f.agent, .int .i64 y, .int .i64 f.granted, .slice b l c, .int .i64 f.item.seq, .int .i64 f.item.cls, .int .i64 f.item.key, .int .i64 f.item.window, .int .i64 f.item.sk.count, .int .i64 f.item.sk.sum, .int .i64 f.item.sk.min, .int .i64 f.item.sk.max, .slice a1 n1 c1, .slice a2 n2 c2, .slice a3 n3 c3] 35 _ H5.out.loc rfl rfl rfl Tryz.underlying35 rfl infoFrD7 ?_
    go_wp2_with (first | go_skip | (with_reducible refine stopLoad 35 rfl ?_) | (with_reducible refine stopStore 35 rfl ?_) | (with_reducible refine stopStore 33 rfl ?_))
    refine store_known 35 w.heap.size _ #[.int .i64 f.kind, .int .i64 f.agent, .int .i64 y, .int .i64 f.granted, .slice b l c, .int .i64 f.item.seq, .int .i64 f.item.cls, .int .i64 f.item.key, .int .i64 f.item.window, .int .i64 f.item.sk.count, .int .i64 f.item.sk.sum, .int .i64 f.item.sk.min, .int .i64 f.item.sk.max, .slice a1 n1 c1, .slice a2 n2 c2, .slice a3 n3 c3] 35 H5.out.held.res rfl rfl rfl rfl infoFrD7 rfl (by simp [Value.oneCell']) ?_
    go_wp2
    refine bodyPost_ret (results_cell_row Tryz.results26 _ _ w.heap.size _ _ (0, 0) _ rfl H5.out.held.res.setRow Tryz.underlying35 rfl infoFrD7) rfl ?_
    exact H5.out.done hq HA.out
  have z2 : (n == 2) = false := by simpa using q2
  by_cases q3 : n = 3
  · subst q3
    go_wp2_with fail
    refine (pickInt_cur q w3.heap.size 3 a len cap zs i3 h3 [-1, 60, 61] _ (H3.out.held.cur.alloc _) hlen (fun j hj => lit_ints w3 [-1, 60, 61] _ j hj) (by have := H3.out.held.grown.size; omega) 3 rfl (by omega) (by omega)).mono ?_
    rintro e w4 ⟨y, i4, h4, _, rfl, C4, g4⟩
    have H4 : Hid (LocD w q a len cap zs i4 h4 L #[.int .i64 f.kind, .int .i64 f.agent, .int .i64 f.epoch, .int .i64 f.granted, .slice b l c, .int .i64 f.item.seq, .int .i64 f.item.cls, .int .i64 f.item.key, .int .i64 f.item.window, .int .i64 f.item.sk.count, .int .i64 f.item.sk.sum, .int .i64 f.item.sk.min, .int .i64 f.item.sk.max, .slice a1 n1 c1, .slice a2 n2 c2, .slice a3 n3 c3] f F G w4) := (H3.out.below ((Below.refl _ _).alloc (Nat.le_refl _) _)).next hq C4 g4
    have H5 : Hid (LocD w q a len cap zs i4 h4 L #[.int .i64 f.kind, .int .i64 f.agent, .int .i64 f.epoch, .int .i64 y, .slice b l c, .int .i64 f.item.seq, .int .i64 f.item.cls, .int .i64 f.item.key, .int .i64 f.item.window, .int .i64 f.item.sk.count, .int .i64 f.item.sk.sum, .int .i64 f.item.sk.min, .int .i64 f.item.sk.max, .slice a1 n1 c1, .slice a2 n2 c2, .slice a3 n3 c3] { f with granted := y } F G (w4.setCell ⟨L, 3, none⟩ (.int .i64 y))) := by
      obtain ⟨b', l', c', a1', n1', c1', a2', n2', c2', a3', n3', c3', ev, rp, ri, cpd⟩ := H4.out.rd
      simp only [Value.agg.injEq] at ev
      cases ev
      exact ⟨H4.out.held.cell hq HA.out H4.out.gt _ _, H4.out.loc.set 3 _, ⟨b, l, c, a1, n1, c1, a2, n2, c2, a3, n3, c3, rfl, rp.agree (.set H4.out.nF _ _), ri.agree (.set H4.out.nG _ _), cpd⟩, H4.out.ownF.agree (.set H4.out.nF _ _), H4.out.ownG.agree (.set H4.out.nG _ _), H4.out.ap, H4.out.nF, H4.out.nG, H4.out.gt, H4.out.wide, H4.out.many⟩
    have cc := H4.out.loc.cell 3
    have ff := H4.out.loc.frozen 3
    simp only [aT, aS, aZ] at cc
    clear C4 g4 H3 H4
    obtain ⟨W, hW⟩ : ∃ W, W = w4.setCell ⟨L, 3, none⟩ (.int .i64 y) := ⟨_, rfl⟩
    go_wp2_with (first | go_skip | (with_reducible refine stopLoad 35 rfl ?_) | (with_reducible refine stopStore 35 rfl ?_) | (with_reducible refine stopStore 33 rfl ?_))
    rw [← hW] at H5 ⊢
    clear hW cc ff
    refine load_known 35 L #[.int .i64 f.kind, .int .i64 f.agent, .int .i64 f.epoch, .int .i64 y, .slice b l c, .int .i64 f.item.seq, .int .i64 f.item.cls, .int .i64 f.item.key, .int .i64 f.item.window, .int .i64 f.item.sk.count, .int .i64 f.item.sk.sum, .int .i64 f.item.sk.min, .int .i64 f.item.sk.max, .slice a1 n1 c1, .slice a2 n2 c2, .slice a3 n3 c3] 35 _ H5.out.loc rfl rfl rfl Tryz.underlying35 rfl infoFrD7 ?_
    go_wp2_with (first | go_skip | (with_reducible refine stopLoad 35 rfl ?_) | (with_reducible refine stopStore 35 rfl ?_) | (with_reducible refine stopStore 33 rfl ?_))
    refine store_known 35 w.heap.size _ #[.int .i64 f.kind, .int .i64 f.agent, .int .i64 f.epoch, .int .i64 y, .slice b l c, .int .i64 f.item.seq, .int .i64 f.item.cls, .int .i64 f.item.key, .int .i64 f.item.window, .int .i64 f.item.sk.count, .int .i64 f.item.sk.sum, .int .i64 f.item.sk.min, .int .i64 f.item.sk.max, .slice a1 n1 c1, .slice a2 n2 c2, .slice a3 n3 c3] 35 H5.out.held.res rfl rfl rfl rfl infoFrD7 rfl (by simp [Value.oneCell']) ?_
    go_wp2
    refine bodyPost_ret (results_cell_row Tryz.results26 _ _ w.heap.size _ _ (0, 0) _ rfl H5.out.held.res.setRow Tryz.underlying35 rfl infoFrD7) rfl ?_
    exact H5.out.done hq HA.out
  have z3 : (n == 3) = false := by simpa using q3
  by_cases q4 : n = 4
  · subst q4
    go_wp2_with fail
    refine (l5Draw_any q a len cap zs i3 h3 _ H3.out.held.cur hlen).mono ?_
    rintro e w4 ⟨v4, ps, rfl, D4, hp4, hne, _⟩
    obtain ⟨i4, h4, C4⟩ := D4.cur
    have H4 : Hid (LocD w q a len cap zs i4 h4 L #[.int .i64 f.kind, .int .i64 f.agent, .int .i64 f.epoch, .int .i64 f.granted, .slice b l c, .int .i64 f.item.seq, .int .i64 f.item.cls, .int .i64 f.item.key, .int .i64 f.item.window, .int .i64 f.item.sk.count, .int .i64 f.item.sk.sum, .int .i64 f.item.sk.min, .int .i64 f.item.sk.max, .slice a1 n1 c1, .slice a2 n2 c2, .slice a3 n3 c3] f F G w4) := H3.out.next hq C4 D4.grown
    obtain ⟨e4, k4, X4, rfl, r4, o4, cp4⟩ := rdP_of_own D4.own
    have lX : ∀ y ∈ X4, w3.heap.size ≤ y := o4.ge
    have l3 : L < w3.heap.size := H3.out.loc.lt
    have s3 : w.heap.size < w3.heap.size := by have := H3.out.gt; omega
    have nX : L ∉ X4 := fun hx => by have := lX _ hx; omega
    have H5 : Hid (LocD w q a len cap zs i4 h4 L #[.int .i64 f.kind, .int .i64 f.agent, .int .i64 f.epoch, .int .i64 f.granted, .slice e4 ps.length k4, .int .i64 f.item.seq, .int .i64 f.item.cls, .int .i64 f.item.key, .int .i64 f.item.window, .int .i64 f.item.sk.count, .int .i64 f.item.sk.sum, .int .i64 f.item.sk.min, .int .i64 f.item.sk.max, .slice a1 n1 c1, .slice a2 n2 c2, .slice a3 n3 c3] { f with taken := ps } X4 G (w4.setCell ⟨L, 4, none⟩ (.slice e4 ps.length k4))) := by
      obtain ⟨b', l', c', a1', n1', c1', a2', n2', c2', a3', n3', c3', ev, rp, ri, cpd⟩ := H4.out.rd
      simp only [Value.agg.injEq] at ev
      cases ev
      have hap : ∀ y ∈ X4, y ∉ G := fun y hy hg => by have := H3.out.rd.lt2 y hg; have := lX y hy; omega
      exact ⟨H4.out.held.cell hq HA.out H4.out.gt _ _, H4.out.loc.set 4 _, ⟨e4, ps.length, k4, a1, n1, c1, a2, n2, c2, a3, n3, c3, rfl, r4.agree (.set nX _ _), ri.agree (.set H4.out.nG _ _), cp4⟩, (o4.agree (.set nX _ _)).mono (by omega), H4.out.ownG.agree (.set H4.out.nG _ _), hap, nX, H4.out.nG, H4.out.gt, H4.out.wide, by show ps.length ≤ 20; omega⟩
    have cc := H4.out.loc.cell 4
    have ff := H4.out.loc.frozen 4
    simp only [aT, aS, aZ] at cc
    clear C4 D4 H3 H4 r4 o4 cp4 lX nX hne
    obtain ⟨W, hW⟩ : ∃ W, W = w4.setCell ⟨L, 4, none⟩ (.slice e4 ps.length k4) := ⟨_, rfl⟩
    go_wp2_with (first | go_skip | (with_reducible refine stopLoad 35 rfl ?_) | (with_reducible refine stopStore 35 rfl ?_) | (with_reducible refine stopStore 33 rfl ?_))
    rw [← hW] at H5 ⊢
    clear hW cc ff
    refine load_known 35 L #[.int .i64 f.kind, .int .i64 f.agent, .int .i64 f.epoch, .int .i64 f.granted, .slice e4 ps.length k4, .int .i64 f.item.seq, .int .i64 f.item.cls, .int .i64 f.item.key, .int .i64 f.item.window, .int .i64 f.item.sk.count, .int .i64 f.item.sk.sum, .int .i64 f.item.sk.min, .int .i64 f.item.sk.max, .slice a1 n1 c1, .slice a2 n2 c2, .slice a3 n3 c3] 35 _ H5.out.loc rfl rfl rfl Tryz.underlying35 rfl infoFrD7 ?_
    go_wp2_with (first | go_skip | (with_reducible refine stopLoad 35 rfl ?_) | (with_reducible refine stopStore 35 rfl ?_) | (with_reducible refine stopStore 33 rfl ?_))
    refine store_known 35 w.heap.size _ #[.int .i64 f.kind, .int .i64 f.agent, .int .i64 f.epoch, .int .i64 f.granted, .slice e4 ps.length k4, .int .i64 f.item.seq, .int .i64 f.item.cls, .int .i64 f.item.key, .int .i64 f.item.window, .int .i64 f.item.sk.count, .int .i64 f.item.sk.sum, .int .i64 f.item.sk.min, .int .i64 f.item.sk.max, .slice a1 n1 c1, .slice a2 n2 c2, .slice a3 n3 c3] 35 H5.out.held.res rfl rfl rfl rfl infoFrD7 rfl (by simp [Value.oneCell']) ?_
    go_wp2
    refine bodyPost_ret (results_cell_row Tryz.results26 _ _ w.heap.size _ _ (0, 0) _ rfl H5.out.held.res.setRow Tryz.underlying35 rfl infoFrD7) rfl ?_
    exact H5.out.done hq HA.out
  have z4 : (n == 4) = false := by simpa using q4
  by_cases q5 : n = 5
  rotate_left
  · have z5 : (n == 5) = false := by simpa using q5
    clear q0 q1 q2 q3 q4 q5
    go_wp2_with (first | go_skip | (with_reducible refine stopLoad 35 rfl ?_) | (with_reducible refine stopStore 35 rfl ?_) | (with_reducible refine stopStore 33 rfl ?_))
    refine load_known 35 L #[.int .i64 f.kind, .int .i64 f.agent, .int .i64 f.epoch, .int .i64 f.granted, .slice b l c, .int .i64 f.item.seq, .int .i64 f.item.cls, .int .i64 f.item.key, .int .i64 f.item.window, .int .i64 f.item.sk.count, .int .i64 f.item.sk.sum, .int .i64 f.item.sk.min, .int .i64 f.item.sk.max, .slice a1 n1 c1, .slice a2 n2 c2, .slice a3 n3 c3] 35 _ H3.out.loc rfl rfl rfl Tryz.underlying35 rfl infoFrD7 ?_
    go_wp2_with (first | go_skip | (with_reducible refine stopLoad 35 rfl ?_) | (with_reducible refine stopStore 35 rfl ?_) | (with_reducible refine stopStore 33 rfl ?_))
    refine store_known 35 w.heap.size _ #[.int .i64 f.kind, .int .i64 f.agent, .int .i64 f.epoch, .int .i64 f.granted, .slice b l c, .int .i64 f.item.seq, .int .i64 f.item.cls, .int .i64 f.item.key, .int .i64 f.item.window, .int .i64 f.item.sk.count, .int .i64 f.item.sk.sum, .int .i64 f.item.sk.min, .int .i64 f.item.sk.max, .slice a1 n1 c1, .slice a2 n2 c2, .slice a3 n3 c3] 35 H3.out.held.res rfl rfl rfl rfl infoFrD7 rfl (by simp [Value.oneCell']) ?_
    go_wp2
    refine bodyPost_ret (results_cell_row Tryz.results26 _ _ w.heap.size _ _ (0, 0) _ rfl H3.out.held.res.setRow Tryz.underlying35 rfl infoFrD7) rfl ?_
    exact H3.out.done hq HA.out
  subst q5
  go_wp2_with fail
  refine (l6Draw_any q a len cap zs i3 h3 _ H3.out.held.cur hlen).mono ?_
  rintro e w4 ⟨v4, x, X, i4, h4, rfl, rx, fx, ox, C4, g4⟩
  obtain ⟨e1, m1, d1, e2, m2, d2, e3, m3, d3, rfl⟩ := rx.cells11
  have H4 : Hid (LocD w q a len cap zs i4 h4 L #[.int .i64 f.kind, .int .i64 f.agent, .int .i64 f.epoch, .int .i64 f.granted, .slice b l c, .int .i64 f.item.seq, .int .i64 f.item.cls, .int .i64 f.item.key, .int .i64 f.item.window, .int .i64 f.item.sk.count, .int .i64 f.item.sk.sum, .int .i64 f.item.sk.min, .int .i64 f.item.sk.max, .slice a1 n1 c1, .slice a2 n2 c2, .slice a3 n3 c3] f F G w4) := H3.out.next hq C4 g4
  have l3 : L < w3.heap.size := H3.out.loc.lt
  have nX : L ∉ X := fun hx => by have := ox.ge _ hx; omega
  have s3 : w.heap.size < w3.heap.size := by have := H3.out.gt; omega
  have hap : ∀ y ∈ F, y ∉ X := fun y hy hg => by have := H3.out.rd.lt1 y hy; have := ox.ge y hg; omega
  have HX : Hid (RdIt w4 (.agg #[.int .i64 x.seq, .int .i64 x.cls, .int .i64 x.key, .int .i64 x.window, .int .i64 x.sk.count, .int .i64 x.sk.sum, .int .i64 x.sk.min, .int .i64 x.sk.max, .slice e1 m1 d1, .slice e2 m2 d2, .slice e3 m3 d3]) x X ∧ x.sk.full ∧ Own w3.heap.size w4 X) := ⟨rx, fx, ox⟩
  clear rx fx ox C4 g4 H3
  go_wp2_with (first | go_skip | (with_reducible refine stopLoad 35 rfl ?_) | (with_reducible refine stopStore 35 rfl ?_) | (with_reducible refine stopStore 33 rfl ?_))
  refine store_cut 33 L 5 _ #[.int .i64 x.seq, .int .i64 x.cls, .int .i64 x.key, .int .i64 x.window, .int .i64 x.sk.count, .int .i64 x.sk.sum, .int .i64 x.sk.min, .int .i64 x.sk.max, .slice e1 m1 d1, .slice e2 m2 d2, .slice e3 m3 d3] #[.int .i64 f.kind, .int .i64 f.agent, .int .i64 f.epoch, .int .i64 f.granted, .slice b l c, .int .i64 x.seq, .int .i64 x.cls, .int .i64 x.key, .int .i64 x.window, .int .i64 x.sk.count, .int .i64 x.sk.sum, .int .i64 x.sk.min, .int .i64 x.sk.max, .slice e1 m1 d1, .slice e2 m2 d2, .slice e3 m3 d3] 35 H4.out.loc rfl rfl rfl rfl infoItA7 (by simp) (one11 ..) (by simp [cutIn]) ?_
  have H5 : Hid (LocD w q a len cap zs i4 h4 L #[.int .i64 f.kind, .int .i64 f.agent, .int .i64 f.epoch, .int .i64 f.granted, .slice b l c, .int .i64 x.seq, .int .i64 x.cls, .int .i64 x.key, .int .i64 x.window, .int .i64 x.sk.count, .int .i64 x.sk.sum, .int .i64 x.sk.min, .int .i64 x.sk.max, .slice e1 m1 d1, .slice e2 m2 d2, .slice e3 m3 d3] { f with item := x } F X (w4.setRow L #[.int .i64 f.kind, .int .i64 f.agent, .int .i64 f.epoch, .int .i64 f.granted, .slice b l c, .int .i64 x.seq, .int .i64 x.cls, .int .i64 x.key, .int .i64 x.window, .int .i64 x.sk.count, .int .i64 x.sk.sum, .int .i64 x.sk.min, .int .i64 x.sk.max, .slice e1 m1 d1, .slice e2 m2 d2, .slice e3 m3 d3])) := by
    obtain ⟨b', l', c', a1', n1', c1', a2', n2', c2', a3', n3', c3', ev, rp, ri, cpd⟩ := H4.out.rd
    simp only [Value.agg.injEq] at ev
    cases ev
    exact ⟨H4.out.held.row hq HA.out H4.out.gt _, H4.out.loc.setRow, ⟨b, l, c, e1, m1, d1, e2, m2, d2, e3, m3, d3, rfl, rp.agree (Agree.row H4.out.nF _), HX.out.1.agree (Agree.row nX _), cpd⟩, H4.out.ownF.agree (Agree.row H4.out.nF _), (HX.out.2.2.agree (Agree.row nX _)).mono (by omega), hap, H4.out.nF, nX, H4.out.gt, full_wideF HX.out.2.1, H4.out.many⟩
  obtain ⟨W, hW⟩ : ∃ W, W = w4.setRow L #[.int .i64 f.kind, .int .i64 f.agent, .int .i64 f.epoch, .int .i64 f.granted, .slice b l c, .int .i64 x.seq, .int .i64 x.cls, .int .i64 x.key, .int .i64 x.window, .int .i64 x.sk.count, .int .i64 x.sk.sum, .int .i64 x.sk.min, .int .i64 x.sk.max, .slice e1 m1 d1, .slice e2 m2 d2, .slice e3 m3 d3] := ⟨_, rfl⟩
  rw [← hW] at H5 ⊢
  clear hW H4 HX nX hap
  go_wp2_with (first | go_skip | (with_reducible refine stopLoad 35 rfl ?_) | (with_reducible refine stopStore 35 rfl ?_) | (with_reducible refine stopStore 33 rfl ?_))
  refine load_known 35 L #[.int .i64 f.kind, .int .i64 f.agent, .int .i64 f.epoch, .int .i64 f.granted, .slice b l c, .int .i64 x.seq, .int .i64 x.cls, .int .i64 x.key, .int .i64 x.window, .int .i64 x.sk.count, .int .i64 x.sk.sum, .int .i64 x.sk.min, .int .i64 x.sk.max, .slice e1 m1 d1, .slice e2 m2 d2, .slice e3 m3 d3] 35 _ H5.out.loc rfl rfl rfl Tryz.underlying35 rfl infoFrD7 ?_
  go_wp2_with (first | go_skip | (with_reducible refine stopLoad 35 rfl ?_) | (with_reducible refine stopStore 35 rfl ?_) | (with_reducible refine stopStore 33 rfl ?_))
  refine store_known 35 w.heap.size _ #[.int .i64 f.kind, .int .i64 f.agent, .int .i64 f.epoch, .int .i64 f.granted, .slice b l c, .int .i64 x.seq, .int .i64 x.cls, .int .i64 x.key, .int .i64 x.window, .int .i64 x.sk.count, .int .i64 x.sk.sum, .int .i64 x.sk.min, .int .i64 x.sk.max, .slice e1 m1 d1, .slice e2 m2 d2, .slice e3 m3 d3] 35 H5.out.held.res rfl rfl rfl rfl infoFrD7 rfl (by simp [Value.oneCell']) ?_
  go_wp2
  refine bodyPost_ret (results_cell_row Tryz.results26 _ _ w.heap.size _ _ (0, 0) _ rfl H5.out.held.res.setRow Tryz.underlying35 rfl infoFrD7) rfl ?_
  exact H5.out.done hq HA.out
end Go.Proofs.YtgkbhhlkaifnoaaGreatDoor
/- The walks through the model's drawing of agents, behind l8Right. No statement of the seat is proved here. -/
namespace Go.Proofs.YtgkbhhlkaifnoaaGreatDoor
open Go.RowKit
/-- A drawn agent's lists are short, its sketches full, its spans 64 bit numbers. -/
def Sm8 (xs : List It) (ts : Sp) : Prop := (∀ y ∈ xs, y.sk.full) ∧ xs.length ≤ 7 ∧ ts.length ≤ 8 ∧ ts.fit
def DrewA8 (w : World) (q : Nat) (a : Option Addr) (len cap : Nat) (zs : List Int) (e : Ending) (w' : World) : Prop :=
  ∃ v x F G i' h', e = .returned v ∧ RdAg w' v x F G ∧ Sm8 x.sealed x.taken ∧ Own w.heap.size w' F ∧ Own w.heap.size w' G ∧ (∀ b ∈ F, b ∉ G) ∧ Cur w' q a len cap zs i' h' ∧ w.grownBy w' (some q)
structure LocE (w : World) (q : Nat) (a : Option Addr) (len cap : Nat) (zs : List Int) (i h : Int) (L : Nat) (id ep : Int) (lv : Bool) (gr nx : Int) (xs : List It) (ts : Sp) (b1 : Option Addr) (n1 c1 : Nat) (b2 : Option Addr) (n2 c2 : Nat) (F G : List Nat) (W : World) : Prop where
  held : HeldR w q a len cap zs i h #[.int .i64 0, .int .i64 0, .bool false, .int .i64 0, .slice none 0 0, .slice none 0 0, .int .i64 0] 27 W
  loc : Blk W L #[.int .i64 id, .int .i64 ep, .bool lv, .int .i64 gr, .slice b1 n1 c1, .slice b2 n2 c2, .int .i64 nx] 27
  rl : RdL itK W b1 n1 xs F
  rp : RdP W b2 n2 ts G
  k1 : Capd b1 n1 c1
  k2 : Capd b2 n2 c2
  o1 : Own (w.heap.size + 1) W F
  o2 : Own (w.heap.size + 1) W G
  dj : ∀ b ∈ F, b ∉ G
section
variable {w W W' : World} {q : Nat} {a : Option Addr} {len cap : Nat} {zs : List Int} {i h i' h' : Int} {L : Nat} {id ep : Int} {lv : Bool} {gr nx : Int} {xs : List It} {ts : Sp} {b1 : Option Addr} {n1 c1 : Nat} {b2 : Option Addr} {n2 c2 : Nat} {F G : List Nat}
theorem LocG.e (H : LocG w q a len cap zs i h L id ep lv gr nx xs ts b1 n1 c1 b2 n2 c2 F G W) : LocE w q a len cap zs i h L id ep lv gr nx xs ts b1 n1 c1 b2 n2 c2 F G W := ⟨H.held, H.loc, H.rl, H.rp, H.k1, H.k2, H.o1, H.o2, H.dj⟩
theorem LocE.done (H : LocE w q a len cap zs i h L id ep lv gr nx xs ts b1 n1 c1 b2 n2 c2 F G W) (hs : Sm8 xs ts) (hq : q < w.heap.size) (ha : ∀ b, (∃ off, a = some ⟨b, off, none⟩ ∧ 0 < len) → b < w.heap.size) : DrewA8 w q a len cap zs (.returned (.agg #[.int .i64 id, .int .i64 ep, .bool lv, .int .i64 gr, .slice b1 n1 c1, .slice b2 n2 c2, .int .i64 nx])) (W.setRow w.heap.size #[.int .i64 id, .int .i64 ep, .bool lv, .int .i64 gr, .slice b1 n1 c1, .slice b2 n2 c2, .int .i64 nx]) := by
  have nF : w.heap.size ∉ F := fun hx => by have := H.o1.ge _ hx; omega
  have nG : w.heap.size ∉ G := fun hx => by have := H.o2.ge _ hx; omega
  exact ⟨_, ⟨id, ep, lv, gr, xs, ts, nx⟩, F, G, i, h, rfl, ⟨b1, n1, c1, b2, n2, c2, rfl, H.rl.agree (Agree.row nF _), H.rp.agree (Agree.row nG _), H.k1, H.k2⟩, hs, (H.o1.agree (Agree.row nF _)).mono (by omega), (H.o2.agree (Agree.row nG _)).mono (by omega), H.dj, cur_row H.held.cur (by omega) (fun b hb => by have := ha b hb; omega), grown_row H.held.grown (Nat.le_refl _)⟩
theorem LocG.list (H : LocG w q a len cap zs i h L id ep lv gr nx xs ts b1 n1 c1 b2 n2 c2 F G W) (hq : q < w.heap.size) (ha : ∀ b, (∃ off, a = some ⟨b, off, none⟩ ∧ 0 < len) → b < w.heap.size) {row : Option Nat} (hgrow : W.grownBy W' row) {g4 : Option Addr} {m c4 : Nat} {ys : List It} {F' : List Nat} (r : RdL itK W' g4 m ys F') (o : Own (w.heap.size + 1) W' F') (cp : Capd g4 m c4) (dj : ∀ b ∈ F', b ≠ L ∧ b ∉ G) (hk : ∀ b, b < W.heap.size → (b < w.heap.size + 1 ∨ b = L ∨ b ∈ G) → W'.heap[b]? = W.heap[b]?) :
    Blk W' L #[.int .i64 id, .int .i64 ep, .bool lv, .int .i64 gr, .slice b1 n1 c1, .slice b2 n2 c2, .int .i64 nx] 27 ∧ LocE w q a len cap zs i h L id ep lv gr nx ys ts g4 m c4 b2 n2 c2 F' G (W'.setCell ⟨L, 4, none⟩ (.slice g4 m c4)) := by
  have hgt := H.gt
  have hr := H.held.res.lt
  have hC := H.held.cur
  have lc : Blk W' L #[.int .i64 id, .int .i64 ep, .bool lv, .int .i64 gr, .slice b1 n1 c1, .slice b2 n2 c2, .int .i64 nx] 27 := H.loc.agree (hk L H.loc.lt (.inr (.inl rfl)))
  have cu : Cur W' q a len cap zs i h := cur_agree hC (World.block_lt_of_cell? _ _ hC.c0) (hk q (by omega) (.inl (by omega))) (fun b _ hx => hk b (by have := ha b hx; omega) (.inl (by have := ha b hx; omega)))
  have gw : w.grownBy W' (some q) := ⟨hgrow.os.trans H.held.grown.os, hgrow.tape.trans H.held.grown.tape, hgrow.output.trans H.held.grown.output, Nat.le_trans H.held.grown.size hgrow.size, fun b hb hn => (hk b (by omega) (.inl (by omega))).trans (H.held.grown.block b hb hn)⟩
  have agF : Agree W' (W'.setCell ⟨L, 4, none⟩ (.slice g4 m c4)) F' := .set (fun hx => (dj L hx).1 rfl) 4 _
  have agG : Agree W W' G := fun b hb => hk b (H.rp.lt b hb) (.inr (.inr hb))
  have agG2 : Agree W' (W'.setCell ⟨L, 4, none⟩ (.slice g4 m c4)) G := .set H.a2 4 _
  exact ⟨lc, ⟨⟨(H.held.res.agree (hk _ hr (.inl (by omega)))).setOther (by omega) _ _, cur_cell cu (by omega) (fun b hb => by have := ha b hb; omega), grown_cell gw (by omega)⟩, lc.set 4 _, r.agree agF, (H.rp.agree agG).agree agG2, cp, H.k2, o.agree agF, (H.o2.agree agG).agree agG2, fun b hb => (dj b hb).2⟩⟩
end
theorem sm8_of {x : Ag} (h : x.small 6 2) : Sm8 x.sealed x.taken := ⟨h.full, by have := h.len; omega, by have := h.tlen; omega, fit_of_inb h.inb⟩
theorem sm8_add {xs : List It} {ts : Sp} (h : Sm8 xs ts) (h6 : xs.length ≤ 6) {y : It} (hy : y.sk.full) : Sm8 (xs ++ [y]) ts :=
  ⟨fun z hz => (List.mem_append.1 hz).elim (h.1 z) (fun hz => by rw [List.mem_singleton.1 hz]; exact hy), by rw [List.length_append]; simp; omega, h.2.2⟩
theorem infoIts8 : (Tryz.prog.info? 33).map (fun i => (i.zero, i.size, i.bytes)) = some (some (.agg #[.int .i64 0, .int .i64 0, .int .i64 0, .int .i64 0, .int .i64 0, .int .i64 0, .int .i64 0, .int .i64 0, .slice none 0 0, .slice none 0 0, .slice none 0 0]), 11, 136) := by kernel_rfl
set_option maxRecDepth 200000 in
set_option maxHeartbeats 8000000 in
theorem l8Draw_any (q : Nat) (a : Option Addr) (len cap : Nat) (zs : List Int) (i h : Int) (w : World) (C : Cur w q a len cap zs i h) (hlen : len ≤ 1048576) :
    Calls Tryz.prog 25 #[.pointer (some ⟨q, 0, none⟩)] w fun e w' => DrewA8 w q a len cap zs e w' := by
  obtain ⟨j0, hj, hy0, hy1, hy2⟩ := info_parts infoIts8
  have hq : q < w.heap.size := World.block_lt_of_cell? _ _ C.c0
  have HA : Hid (∀ b, (∃ off, a = some ⟨b, off, none⟩ ∧ 0 < len) → b < w.heap.size) := cur_lt C
  have H0 : Hid (HeldR w q a len cap zs i h #[.int .i64 0, .int .i64 0, .bool false, .int .i64 0, .slice none 0 0, .slice none 0 0, .int .i64 0] 27 (w.alloc (.cells #[.int .i64 0, .int .i64 0, .bool false, .int .i64 0, .slice none 0 0, .slice none 0 0, .int .i64 0] 27))) := HeldR.made C _ _
  clear C
  go_enter Tryz.func25, Tryz.ntmps25
  go_wp2_with fail
  refine (l8Right_any q a len cap zs i h _ H0.out.cur hlen).mono ?_
  rintro e w2 ⟨v2, X, F, G, i2, h2, rfl, r2, s2, o2F, o2G, dj2, C2, g2, cs2, z2, ev, ez, gr2⟩
  obtain ⟨id, ep, lv, gr, xs, ts, nx⟩ := X
  obtain ⟨b1, n1, c1, b2, n2, c2, rfl, rL, rP, k1, k2⟩ := r2.opened
  injection ev with ev
  subst ev
  obtain rfl : Value.slice b1 n1 c1 = z2 := Option.some.inj ez
  have en2 : xs.length = n1 := rL.length
  have HG2 : GrA (w.heap.size + 1) w2.heap.size (.slice b1 n1 c1) n1 xs G w2 := by
    have g : GrA (w.heap.size + 1) w2.heap.size (.slice b1 n1 c1) xs.length xs G w2 := gr2.mono (by have := H0.out.res.lt; omega)
    rwa [en2] at g
  have H2 : Hid (HeldR w q a len cap zs i2 h2 #[.int .i64 0, .int .i64 0, .bool false, .int .i64 0, .slice none 0 0, .slice none 0 0, .int .i64 0] 27 w2 ∧ RdL itK w2 b1 n1 xs F ∧ RdP w2 b2 n2 ts G ∧ Capd b1 n1 c1 ∧ Capd b2 n2 c2 ∧ Own (w.heap.size + 1) w2 F ∧ Own (w.heap.size + 1) w2 G ∧ (∀ b ∈ F, b ∉ G) ∧ GrA (w.heap.size + 1) w2.heap.size (.slice b1 n1 c1) n1 xs G w2) := ⟨H0.out.next hq C2 g2, rL, rP, k1, k2, o2F.mono (by have := H0.out.res.lt; omega), o2G.mono (by have := H0.out.res.lt; omega), dj2, HG2⟩
  have HSM : Hid (Sm8 xs ts ∧ xs.length ≤ 6 ∧ xs.length = n1) := ⟨sm8_of s2, s2.len, en2⟩
  clear HG2 en2 gr2 ez r2 rL rP k1 k2 o2F o2G dj2 C2 g2 s2 H0
  go_wp2_with (first | go_skip | (with_reducible refine stopLoad 27 rfl ?_) | (with_reducible refine stopStore 27 rfl ?_))
  refine store_fresh 27 w2.heap.size rfl #[.int .i64 0, .int .i64 0, .bool false, .int .i64 0, .slice none 0 0, .slice none 0 0, .int .i64 0] #[.int .i64 id, .int .i64 ep, .bool lv, .int .i64 gr, .slice b1 n1 c1, .slice b2 n2 c2, .int .i64 nx] 27 rfl rfl rfl rfl infoAgG rfl (by simp [Value.oneCell']) ?_
  intro w3 hg3 hb3
  have H3 : Hid (LocG w q a len cap zs i2 h2 w2.heap.size id ep lv gr nx xs ts b1 n1 c1 b2 n2 c2 F G w3) := ⟨H2.out.1.below hb3, hg3, H2.out.2.1.agree (.below hb3 H2.out.2.1.lt), H2.out.2.2.1.below hb3, H2.out.2.2.2.1, H2.out.2.2.2.2.1, H2.out.2.2.2.2.2.1.below H2.out.2.1.lt hb3, H2.out.2.2.2.2.2.2.1.below H2.out.2.2.1.lt hb3, H2.out.2.2.2.2.2.2.2.1, fun hx => by have := H2.out.2.1.lt _ hx; omega, fun hx => by have := H2.out.2.2.1.lt _ hx; omega, H2.out.1.res.lt, H2.out.2.2.2.2.2.2.2.2.below hb3⟩
  clear hg3 hb3 H2
  go_wp2_with fail
  refine (l1Below_any q a len cap zs i2 h2 14 _ H3.out.held.cur hlen (by omega) (by omega)).mono ?_
  rintro e w6 ⟨m, i6, h6, rfl, m0, m1, C6, g6⟩
  have H6 : Hid (LocG w q a len cap zs i6 h6 w2.heap.size id ep lv gr nx xs ts b1 n1 c1 b2 n2 c2 F G w6) := H3.out.next hq C6 g6
  obtain ⟨L, hL⟩ : ∃ L, L = w2.heap.size := ⟨_, rfl⟩
  rw [← hL] at H6 ⊢
  clear C6 g6 H3 hL
  by_cases hm0 : m = 0
  · subst hm0
    go_wp2_with fail
    have hqw : q < w6.heap.size := World.block_lt_of_cell? _ _ H6.out.held.cur.c0
    refine (pickInt_cur q w6.heap.size 2 a len cap zs i6 h6 [-1, 3] _ (H6.out.held.cur.alloc _) hlen (fun j hj => lit_ints w6 [-1, 3] _ j hj) (by omega) 2 rfl (by omega) (by omega)).mono ?_
    rintro e w7 ⟨y, i7, h7, hy, rfl, C7, g7⟩
    have H7 : Hid (LocG w q a len cap zs i7 h7 L id ep lv gr nx xs ts b1 n1 c1 b2 n2 c2 F G w7) := (H6.out.below ((Below.refl _ _).alloc (Nat.le_refl _) _)).next hq C7 g7
    clear C7 g7 H6 hqw hy
    have c1' := H7.out.loc.cell 0
    have fz1 := H7.out.loc.frozen 0
    simp only [aT, aZ] at c1'
    go_wp2_with (first | go_skip | (with_reducible refine stopLoad 27 rfl ?_) | (with_reducible refine stopStore 27 rfl ?_))
    have HE : Hid (LocG w q a len cap zs i7 h7 L y ep lv gr nx xs ts b1 n1 c1 b2 n2 c2 F G (w7.setCell ⟨L, 0, none⟩ (.int .i64 y))) := H7.out.set hq HA.out 0 (.int .i64 y) (id' := y) (ep' := ep) (lv' := lv) (gr' := gr) (nx' := nx) rfl
    obtain ⟨WE, hWE⟩ : ∃ W, W = w7.setCell ⟨L, 0, none⟩ (.int .i64 y) := ⟨_, rfl⟩
    rw [← hWE] at HE ⊢
    clear hWE H7 c1' fz1
    refine load_known 27 L _ 27 _ HE.out.loc rfl rfl rfl Tryz.underlying27 rfl infoAgG ?_
    go_wp2_with (first | go_skip | (with_reducible refine stopLoad 27 rfl ?_) | (with_reducible refine stopStore 27 rfl ?_))
    refine store_known 27 w.heap.size _ #[.int .i64 y, .int .i64 ep, .bool lv, .int .i64 gr, .slice b1 n1 c1, .slice b2 n2 c2, .int .i64 nx] 27 HE.out.held.res rfl rfl rfl rfl infoAgG rfl (by simp [Value.oneCell']) ?_
    go_wp2
    refine bodyPost_ret (results_cell_row Tryz.results25 _ _ w.heap.size _ _ (0, 0) _ rfl HE.out.held.res.setRow Tryz.underlying27 rfl infoAgG) rfl ?_
    exact HE.out.e.done HSM.out.1 hq HA.out
  have em0 : (m == 0) = false := by simpa using hm0
  by_cases hm1 : m = 1
  · subst hm1
    go_wp2_with fail
    have hqw : q < w6.heap.size := World.block_lt_of_cell? _ _ H6.out.held.cur.c0
    refine (pickInt_cur q w6.heap.size 3 a len cap zs i6 h6 [-1, 60, 61] _ (H6.out.held.cur.alloc _) hlen (fun j hj => lit_ints w6 [-1, 60, 61] _ j hj) (by omega) 3 rfl (by omega) (by omega)).mono ?_
    rintro e w7 ⟨y, i7, h7, hy, rfl, C7, g7⟩
    have H7 : Hid (LocG w q a len cap zs i7 h7 L id ep lv gr nx xs ts b1 n1 c1 b2 n2 c2 F G w7) := (H6.out.below ((Below.refl _ _).alloc (Nat.le_refl _) _)).next hq C7 g7
    clear C7 g7 H6 hqw hy
    have c1' := H7.out.loc.cell 3
    have fz1 := H7.out.loc.frozen 3
    simp only [aT, aS, aZ] at c1'
    go_wp2_with (first | go_skip | (with_reducible refine stopLoad 27 rfl ?_) | (with_reducible refine stopStore 27 rfl ?_))
    have HE : Hid (LocG w q a len cap zs i7 h7 L id ep lv y nx xs ts b1 n1 c1 b2 n2 c2 F G (w7.setCell ⟨L, 3, none⟩ (.int .i64 y))) := H7.out.set hq HA.out 3 (.int .i64 y) (id' := id) (ep' := ep) (lv' := lv) (gr' := y) (nx' := nx) rfl
    obtain ⟨WE, hWE⟩ : ∃ W, W = w7.setCell ⟨L, 3, none⟩ (.int .i64 y) := ⟨_, rfl⟩
    rw [← hWE] at HE ⊢
    clear hWE H7 c1' fz1
    refine load_known 27 L _ 27 _ HE.out.loc rfl rfl rfl Tryz.underlying27 rfl infoAgG ?_
    go_wp2_with (first | go_skip | (with_reducible refine stopLoad 27 rfl ?_) | (with_reducible refine stopStore 27 rfl ?_))
    refine store_known 27 w.heap.size _ #[.int .i64 id, .int .i64 ep, .bool lv, .int .i64 y, .slice b1 n1 c1, .slice b2 n2 c2, .int .i64 nx] 27 HE.out.held.res rfl rfl rfl rfl infoAgG rfl (by simp [Value.oneCell']) ?_
    go_wp2
    refine bodyPost_ret (results_cell_row Tryz.results25 _ _ w.heap.size _ _ (0, 0) _ rfl HE.out.held.res.setRow Tryz.underlying27 rfl infoAgG) rfl ?_
    exact HE.out.e.done HSM.out.1 hq HA.out
  have em1 : (m == 1) = false := by simpa using hm1
  by_cases hm2 : m = 2
  · subst hm2
    go_wp2_with fail
    obtain ⟨WD, hWD⟩ : ∃ W, W = w6.drew := ⟨_, rfl⟩
    have HDd0 := H6.out.drew
    rw [← hWD] at HDd0
    have HDd : Hid (LocG w q a len cap zs i6 h6 L id ep lv gr nx xs ts b1 n1 c1 b2 n2 c2 F G WD) := HDd0
    clear HDd0 H6
    obtain ⟨lo, vs, GG, glo, ggr, _, gow, gGG⟩ := HDd.out.gr
    have HGR : Hid (GrowL itK 33 xs lo n1 (.slice b1 n1 c1) vs GG WD) := ggr
    have HGS : Hid (w.heap.size + 1 ≤ lo ∧ (∀ b, (Value.slice b1 n1 c1).ownBlock = some b → b ≠ L ∧ b ∉ G) ∧ (∀ b ∈ GG, b ≠ L ∧ b ∉ G)) := ⟨glo, gow, gGG⟩
    obtain ⟨M, hM⟩ : ∃ M, M = WD.heap.size := ⟨_, rfl⟩
    have HM : Hid (lo ≤ M ∧ (∀ b, (Value.slice b1 n1 c1).ownBlock = some b → b < M) ∧ (∀ b ∈ GG, b < M) ∧ (∀ b ∈ G, b < M) ∧ L < M) := by rw [hM]; exact ⟨ggr.lts.2.2, ggr.lts.2.1, ggr.lts.1, HDd.out.rp.lt, HDd.out.loc.lt⟩
    have HMW : Hid (M ≤ WD.heap.size) := Nat.le_of_eq hM
    clear glo ggr gow gGG hM
    refine wp_region_held (S := fun _ => True) (by kernel_rfl) ?_
    change wpAnyH _ _ _ _ _ _ _ _ (World.drew _)
    rw [← hWD]
    clear hWD
    refine takeH (o := ?o41) 0 (.pointer (some ⟨L, 4, none⟩)) ?h41 ?r41
    case h41 => simp only [aT, aZ]; rfl
    refine ⟨_, by simp [Act.put]; rfl, by kernel_rfl, by kernel_rfl, by kernel_rfl, fun _ _ _ h => h, (.inl ⟨rfl, fun W _ => by kernel_rfl⟩), trivial, ?_⟩
    refine takeH (o := ?o42) 2 (.pointer (some ⟨q, 0, none⟩)) ?h42 ?r42
    case h42 => simp only [aT, aS, aZ]; rfl
    refine ⟨_, by simp [Act.put]; rfl, by kernel_rfl, by kernel_rfl, by kernel_rfl, fun _ _ _ h => h, (.inl ⟨rfl, fun W _ => by kernel_rfl⟩), trivial, ?_⟩
    refine twoH (o := ?o43) (o' := ?p43) 1 3 (by kernel_rfl) ?h43 ?g43 ?r43 ?s43
    case h43 => simp only [aT, aS, aZ]; rfl
    case g43 => simp only [aT, aS, aZ]; rfl
    case r43 =>
      intro K hK
      have c5 := HDd.out.loc.cell 4
      simp only [aT, aS, aZ] at c5
      refine op_value (.slice b1 n1 c1) rfl (by go_simp) ⟨_, by simp [Act.put]; rfl, hK _ _ ⟨trivial, ?_⟩⟩
      clear hK c5
      refine onlyH (o := ?o44) 3 (by kernel_rfl) ?h44 ?r44
      case h44 => simp only [aT, aS, aZ]; rfl
      intro K hK
      refine op_call1 60 _ _ Tryz.f60 (fun v w' => DrewItem WD q a len cap zs (.returned v) w') rfl rfl Tryz.func60 (by kernel_rfl) (by kernel_rfl) ((l6Draw_any q a len cap zs i6 h6 WD HDd.out.held.cur hlen).mono (by intro e w' hh; have hh' := hh; obtain ⟨v, _, _, _, _, rfl, _⟩ := hh'; exact ⟨_, rfl, hh⟩)) ?_
      rintro v wb2 ⟨v', x, Fk, ib2, hb2, ev, r5, s5, o5, C5, g5⟩
      injection ev with ev
      subst ev
      obtain ⟨e1, m1', f1, e2, m2, f2, e3, m3, f3, rfl, rs⟩ := r5
      have HI2 : Hid (RdIt wb2 (.agg #[.int .i64 x.seq, .int .i64 x.cls, .int .i64 x.key, .int .i64 x.window, .int .i64 x.sk.count, .int .i64 x.sk.sum, .int .i64 x.sk.min, .int .i64 x.sk.max, .slice e1 m1' f1, .slice e2 m2 f2, .slice e3 m3 f3]) x Fk ∧ x.sk.full ∧ Own M wb2 Fk) := ⟨⟨e1, m1', f1, e2, m2, f2, e3, m3, f3, rfl, rs⟩, s5, o5.mono HMW.out⟩
      have HB2 : Hid (LocG w q a len cap zs ib2 hb2 L id ep lv gr nx xs ts b1 n1 c1 b2 n2 c2 F G wb2) := HDd.out.next hq C5 g5
      have HQ2 : Hid (GrowL itK 33 xs lo n1 (.slice b1 n1 c1) vs GG wb2) := HGR.out.keep (fun b e => g5.block b (HGR.out.row.lt b e).2 (fun e' => by have := (HGR.out.row.lt b e).1; have := HGS.out.1; simp at e'; omega)) (fun b hb => g5.block b (HGR.out.rd.lt b hb) (fun e' => by have := HGR.out.og.ge b hb; have := HGS.out.1; simp at e'; omega)) g5.size
      have HV2 : Hid (M ≤ wb2.heap.size) := Nat.le_trans HMW.out g5.size
      clear rs s5 o5 C5 g5 HDd HGR HMW
      refine ⟨_, by simp [Act.put]; rfl, hK _ _ ⟨trivial, ?_⟩⟩
      clear hK
      refine onlyH (o := ?o45) 4 (by kernel_rfl) ?h45 ?r45
      case h45 => simp only [aT, aS, aZ]; rfl
      intro K hK
      have bl : Below wb2.heap.size wb2 (wb2.alloc (.cells #[.int .i64 x.seq, .int .i64 x.cls, .int .i64 x.key, .int .i64 x.window, .int .i64 x.sk.count, .int .i64 x.sk.sum, .int .i64 x.sk.min, .int .i64 x.sk.max, .slice e1 m1' f1, .slice e2 m2 f2, .slice e3 m3 f3] 33)) := (Below.refl _ _).alloc (Nat.le_refl _) _
      have HB3 : Hid (LocG w q a len cap zs ib2 hb2 L id ep lv gr nx xs ts b1 n1 c1 b2 n2 c2 F G (wb2.alloc (.cells #[.int .i64 x.seq, .int .i64 x.cls, .int .i64 x.key, .int .i64 x.window, .int .i64 x.sk.count, .int .i64 x.sk.sum, .int .i64 x.sk.min, .int .i64 x.sk.max, .slice e1 m1' f1, .slice e2 m2 f2, .slice e3 m3 f3] 33))) := HB2.out.below bl
      have HI3 : Hid (RdIt (wb2.alloc (.cells #[.int .i64 x.seq, .int .i64 x.cls, .int .i64 x.key, .int .i64 x.window, .int .i64 x.sk.count, .int .i64 x.sk.sum, .int .i64 x.sk.min, .int .i64 x.sk.max, .slice e1 m1' f1, .slice e2 m2 f2, .slice e3 m3 f3] 33)) (.agg #[.int .i64 x.seq, .int .i64 x.cls, .int .i64 x.key, .int .i64 x.window, .int .i64 x.sk.count, .int .i64 x.sk.sum, .int .i64 x.sk.min, .int .i64 x.sk.max, .slice e1 m1' f1, .slice e2 m2 f2, .slice e3 m3 f3]) x Fk ∧ x.sk.full ∧ Own M (wb2.alloc (.cells #[.int .i64 x.seq, .int .i64 x.cls, .int .i64 x.key, .int .i64 x.window, .int .i64 x.sk.count, .int .i64 x.sk.sum, .int .i64 x.sk.min, .int .i64 x.sk.max, .slice e1 m1' f1, .slice e2 m2 f2, .slice e3 m3 f3] 33)) Fk) := ⟨HI2.out.1.below bl, HI2.out.2.1, HI2.out.2.2.below (RdIt.lt HI2.out.1) bl⟩
      have HQ3 : Hid (GrowL itK 33 xs lo n1 (.slice b1 n1 c1) vs GG (wb2.alloc (.cells #[.int .i64 x.seq, .int .i64 x.cls, .int .i64 x.key, .int .i64 x.window, .int .i64 x.sk.count, .int .i64 x.sk.sum, .int .i64 x.sk.min, .int .i64 x.sk.max, .slice e1 m1' f1, .slice e2 m2 f2, .slice e3 m3 f3] 33))) := HQ2.out.below bl
      have HV3 : Hid (M ≤ (wb2.alloc (.cells #[.int .i64 x.seq, .int .i64 x.cls, .int .i64 x.key, .int .i64 x.window, .int .i64 x.sk.count, .int .i64 x.sk.sum, .int .i64 x.sk.min, .int .i64 x.sk.max, .slice e1 m1' f1, .slice e2 m2 f2, .slice e3 m3 f3] 33)).heap.size) := Nat.le_trans HV2.out bl.size
      have NW3 : Hid (∀ j u, (#[.int .i64 x.seq, .int .i64 x.cls, .int .i64 x.key, .int .i64 x.window, .int .i64 x.sk.count, .int .i64 x.sk.sum, .int .i64 x.sk.min, .int .i64 x.sk.max, .slice e1 m1' f1, .slice e2 m2 f2, .slice e3 m3 f3] : Array Value).toList[j]? = some u → ((wb2.alloc (.cells #[.int .i64 x.seq, .int .i64 x.cls, .int .i64 x.key, .int .i64 x.window, .int .i64 x.sk.count, .int .i64 x.sk.sum, .int .i64 x.sk.min, .int .i64 x.sk.max, .slice e1 m1' f1, .slice e2 m2 f2, .slice e3 m3 f3] 33))).cell? ((⟨wb2.heap.size, 0, none⟩ : Addr).add j) = some u) := news_lit _ _ _
      refine op_turn (.slice (some ⟨wb2.heap.size, 0, none⟩) 1 1) (wb2.alloc (.cells #[.int .i64 x.seq, .int .i64 x.cls, .int .i64 x.key, .int .i64 x.window, .int .i64 x.sk.count, .int .i64 x.sk.sum, .int .i64 x.sk.min, .int .i64 x.sk.max, .slice e1 m1' f1, .slice e2 m2 f2, .slice e3 m3 f3] 33)) rfl (by kernel_rfl) ⟨_, by simp [Act.put]; rfl, hK _ _ ⟨trivial, ?_⟩⟩
      clear hK bl HB2 HQ2 HV2 HI2
      obtain ⟨J3, hJ3⟩ : ∃ z, z = wb2.heap.size := ⟨_, rfl⟩
      obtain ⟨wb3, hwb3⟩ : ∃ Z, Z = (wb2.alloc (.cells #[.int .i64 x.seq, .int .i64 x.cls, .int .i64 x.key, .int .i64 x.window, .int .i64 x.sk.count, .int .i64 x.sk.sum, .int .i64 x.sk.min, .int .i64 x.sk.max, .slice e1 m1' f1, .slice e2 m2 f2, .slice e3 m3 f3] 33)) := ⟨_, rfl⟩
      rw [← hwb3, ← hJ3] at NW3
      rw [← hwb3] at HB3 HI3 HQ3 HV3 ⊢
      rw [← hJ3]
      clear hwb3 hJ3
      refine onlyH (o := ?o46) 5 (by kernel_rfl) ?h46 ?r46
      case h46 => simp only [aT, aS, aZ]; rfl
      intro K hK
      have hn1 : n1 ≤ 6 := by have := HSM.out.2.1; have := HSM.out.2.2; omega
      refine op_append wb3 rfl _ _ 24 rfl lo 33 j0 (.agg #[.int .i64 0, .int .i64 0, .int .i64 0, .int .i64 0, .int .i64 0, .int .i64 0, .int .i64 0, .int .i64 0, .slice none 0 0, .slice none 0 0, .slice none 0 0]) 11 136 Tryz.underlying24 hj hy0 hy1 hy2 rfl (by decide) (.slice b1 n1 c1) n1 vs rfl HQ3.out.row ⟨J3, 0, none⟩ 1 1 (#[.int .i64 x.seq, .int .i64 x.cls, .int .i64 x.key, .int .i64 x.window, .int .i64 x.sk.count, .int .i64 x.sk.sum, .int .i64 x.sk.min, .int .i64 x.sk.max, .slice e1 m1' f1, .slice e2 m2 f2, .slice e3 m3 f3] : Array Value).toList rfl rfl NW3.out (by simp [Value.oneCell']) (by decide) (by unfold maxLen; omega) (by omega) HQ3.out.lw _ rfl ?_
      intro g4 cp4 wb4 hown hgrow hat _
      obtain ⟨F', q1, q2, q3, q4, q5⟩ := GrA.add HB3.out.gr HGS.out.1 HQ3.out HGS.out.2.1 HGS.out.2.2 HI3.out.1 rfl HI3.out.2.2 HM.out HV3.out hown hgrow hat
      have HF0 := HB3.out.list hq HA.out hgrow q1 q2 q3 q4 q5
      have HF : Hid (Blk wb4 L #[.int .i64 id, .int .i64 ep, .bool lv, .int .i64 gr, .slice b1 n1 c1, .slice b2 n2 c2, .int .i64 nx] 27 ∧ LocE w q a len cap zs ib2 hb2 L id ep lv gr nx (xs ++ [x]) ts (some ⟨g4, 0, none⟩) (n1 + 1) cp4 b2 n2 c2 F' G (wb4.setCell ⟨L, 4, none⟩ (.slice (some ⟨g4, 0, none⟩) (n1 + 1) cp4))) := HF0
      have HSX : Hid (Sm8 (xs ++ [x]) ts) := sm8_add HSM.out.1 HSM.out.2.1 HI3.out.2.1
      refine ⟨_, by simp [Act.put]; rfl, hK _ _ ⟨trivial, ?_⟩⟩
      clear hK hown hgrow hat q1 q2 q3 q4 q5 HF0 HB3 HQ3 HI3 HV3 hn1
      refine takeH (o := ?o47) 6 (.pointer (some ⟨L, 4, none⟩)) ?h47 ?r47
      case h47 => simp only [aT, aS, aZ]; rfl
      refine ⟨_, by simp [Act.put]; rfl, by kernel_rfl, by kernel_rfl, by kernel_rfl, fun _ _ _ h => h, (.inl ⟨rfl, fun W _ => by kernel_rfl⟩), trivial, ?_⟩
      refine onlyH (o := ?o48) 7 (by kernel_rfl) ?h48 ?r48
      case h48 => simp only [aT, aS, aZ]; rfl
      intro K hK
      have c5 := HF.out.1.cell 4
      have f5 := HF.out.1.frozen 4
      simp only [aT, aS, aZ] at c5
      have HE40 := HF.out.2
      refine op_skip (wb4.setCell ⟨L, 4, none⟩ (.slice (some ⟨g4, 0, none⟩) (n1 + 1) cp4)) rfl (by go_simp) ⟨_, by simp [Act.put]; rfl, hK _ _ ⟨trivial, ?_⟩⟩
      clear hK c5 f5 HF
      refine wpAnyH_done (by kernel_rfl) ?_ _
      obtain ⟨WE, hWE⟩ : ∃ W, W = (wb4.setCell ⟨L, 4, none⟩ (.slice (some ⟨g4, 0, none⟩) (n1 + 1) cp4)) := ⟨_, rfl⟩
      rw [← hWE] at HE40
      try rw [← hWE]
      have HE4 : Hid (LocE w q a len cap zs ib2 hb2 L id ep lv gr nx (xs ++ [x]) ts (some ⟨g4, 0, none⟩) (n1 + 1) cp4 b2 n2 c2 F' G WE) := HE40
      clear hWE HE40
      go_wp2_with (first | go_skip | (with_reducible refine stopLoad 27 rfl ?_) | (with_reducible refine stopStore 27 rfl ?_))
      refine load_known 27 L _ 27 _ HE4.out.loc rfl rfl rfl Tryz.underlying27 rfl infoAgG ?_
      go_wp2_with (first | go_skip | (with_reducible refine stopLoad 27 rfl ?_) | (with_reducible refine stopStore 27 rfl ?_))
      refine store_known 27 w.heap.size _ #[.int .i64 id, .int .i64 ep, .bool lv, .int .i64 gr, .slice (some ⟨g4, 0, none⟩) (n1 + 1) cp4, .slice b2 n2 c2, .int .i64 nx] 27 HE4.out.held.res rfl rfl rfl rfl infoAgG rfl (by simp [Value.oneCell']) ?_
      go_wp2
      refine bodyPost_ret (results_cell_row Tryz.results25 _ _ w.heap.size _ _ (0, 0) _ rfl HE4.out.held.res.setRow Tryz.underlying27 rfl infoAgG) rfl ?_
      exact HE4.out.done HSX.out hq HA.out
    case s43 =>
      intro K hK
      refine op_call1 60 _ _ Tryz.f60 (fun v w' => DrewItem WD q a len cap zs (.returned v) w') rfl rfl Tryz.func60 (by kernel_rfl) (by kernel_rfl) ((l6Draw_any q a len cap zs i6 h6 WD HDd.out.held.cur hlen).mono (by intro e w' hh; have hh' := hh; obtain ⟨v, _, _, _, _, rfl, _⟩ := hh'; exact ⟨_, rfl, hh⟩)) ?_
      rintro v wb5 ⟨v', x, Fk, ib5, hb5, ev, r5, s5, o5, C5, g5⟩
      injection ev with ev
      subst ev
      obtain ⟨e1, m1', f1, e2, m2, f2, e3, m3, f3, rfl, rs⟩ := r5
      have HI5 : Hid (RdIt wb5 (.agg #[.int .i64 x.seq, .int .i64 x.cls, .int .i64 x.key, .int .i64 x.window, .int .i64 x.sk.count, .int .i64 x.sk.sum, .int .i64 x.sk.min, .int .i64 x.sk.max, .slice e1 m1' f1, .slice e2 m2 f2, .slice e3 m3 f3]) x Fk ∧ x.sk.full ∧ Own M wb5 Fk) := ⟨⟨e1, m1', f1, e2, m2, f2, e3, m3, f3, rfl, rs⟩, s5, o5.mono HMW.out⟩
      have HB5 : Hid (LocG w q a len cap zs ib5 hb5 L id ep lv gr nx xs ts b1 n1 c1 b2 n2 c2 F G wb5) := HDd.out.next hq C5 g5
      have HQ5 : Hid (GrowL itK 33 xs lo n1 (.slice b1 n1 c1) vs GG wb5) := HGR.out.keep (fun b e => g5.block b (HGR.out.row.lt b e).2 (fun e' => by have := (HGR.out.row.lt b e).1; have := HGS.out.1; simp at e'; omega)) (fun b hb => g5.block b (HGR.out.rd.lt b hb) (fun e' => by have := HGR.out.og.ge b hb; have := HGS.out.1; simp at e'; omega)) g5.size
      have HV5 : Hid (M ≤ wb5.heap.size) := Nat.le_trans HMW.out g5.size
      clear rs s5 o5 C5 g5 HDd HGR HMW
      refine ⟨_, by simp [Act.put]; rfl, hK _ _ ⟨trivial, ?_⟩⟩
      clear hK
      refine twoH (o := ?o49) (o' := ?p49) 1 4 (by kernel_rfl) ?h49 ?g49 ?r49 ?s49
      case h49 => simp only [aT, aS, aZ]; rfl
      case g49 => simp only [aT, aS, aZ]; rfl
      case r49 =>
        intro K hK
        have c5 := HB5.out.loc.cell 4
        simp only [aT, aS, aZ] at c5
        refine op_value (.slice b1 n1 c1) rfl (by go_simp) ⟨_, by simp [Act.put]; rfl, hK _ _ ⟨trivial, ?_⟩⟩
        clear hK c5
        refine onlyH (o := ?o50) 4 (by kernel_rfl) ?h50 ?r50
        case h50 => simp only [aT, aS, aZ]; rfl
        intro K hK
        have bl : Below wb5.heap.size wb5 (wb5.alloc (.cells #[.int .i64 x.seq, .int .i64 x.cls, .int .i64 x.key, .int .i64 x.window, .int .i64 x.sk.count, .int .i64 x.sk.sum, .int .i64 x.sk.min, .int .i64 x.sk.max, .slice e1 m1' f1, .slice e2 m2 f2, .slice e3 m3 f3] 33)) := (Below.refl _ _).alloc (Nat.le_refl _) _
        have HB7 : Hid (LocG w q a len cap zs ib5 hb5 L id ep lv gr nx xs ts b1 n1 c1 b2 n2 c2 F G (wb5.alloc (.cells #[.int .i64 x.seq, .int .i64 x.cls, .int .i64 x.key, .int .i64 x.window, .int .i64 x.sk.count, .int .i64 x.sk.sum, .int .i64 x.sk.min, .int .i64 x.sk.max, .slice e1 m1' f1, .slice e2 m2 f2, .slice e3 m3 f3] 33))) := HB5.out.below bl
        have HI7 : Hid (RdIt (wb5.alloc (.cells #[.int .i64 x.seq, .int .i64 x.cls, .int .i64 x.key, .int .i64 x.window, .int .i64 x.sk.count, .int .i64 x.sk.sum, .int .i64 x.sk.min, .int .i64 x.sk.max, .slice e1 m1' f1, .slice e2 m2 f2, .slice e3 m3 f3] 33)) (.agg #[.int .i64 x.seq, .int .i64 x.cls, .int .i64 x.key, .int .i64 x.window, .int .i64 x.sk.count, .int .i64 x.sk.sum, .int .i64 x.sk.min, .int .i64 x.sk.max, .slice e1 m1' f1, .slice e2 m2 f2, .slice e3 m3 f3]) x Fk ∧ x.sk.full ∧ Own M (wb5.alloc (.cells #[.int .i64 x.seq, .int .i64 x.cls, .int .i64 x.key, .int .i64 x.window, .int .i64 x.sk.count, .int .i64 x.sk.sum, .int .i64 x.sk.min, .int .i64 x.sk.max, .slice e1 m1' f1, .slice e2 m2 f2, .slice e3 m3 f3] 33)) Fk) := ⟨HI5.out.1.below bl, HI5.out.2.1, HI5.out.2.2.below (RdIt.lt HI5.out.1) bl⟩
        have HQ7 : Hid (GrowL itK 33 xs lo n1 (.slice b1 n1 c1) vs GG (wb5.alloc (.cells #[.int .i64 x.seq, .int .i64 x.cls, .int .i64 x.key, .int .i64 x.window, .int .i64 x.sk.count, .int .i64 x.sk.sum, .int .i64 x.sk.min, .int .i64 x.sk.max, .slice e1 m1' f1, .slice e2 m2 f2, .slice e3 m3 f3] 33))) := HQ5.out.below bl
        have HV7 : Hid (M ≤ (wb5.alloc (.cells #[.int .i64 x.seq, .int .i64 x.cls, .int .i64 x.key, .int .i64 x.window, .int .i64 x.sk.count, .int .i64 x.sk.sum, .int .i64 x.sk.min, .int .i64 x.sk.max, .slice e1 m1' f1, .slice e2 m2 f2, .slice e3 m3 f3] 33)).heap.size) := Nat.le_trans HV5.out bl.size
        have NW7 : Hid (∀ j u, (#[.int .i64 x.seq, .int .i64 x.cls, .int .i64 x.key, .int .i64 x.window, .int .i64 x.sk.count, .int .i64 x.sk.sum, .int .i64 x.sk.min, .int .i64 x.sk.max, .slice e1 m1' f1, .slice e2 m2 f2, .slice e3 m3 f3] : Array Value).toList[j]? = some u → ((wb5.alloc (.cells #[.int .i64 x.seq, .int .i64 x.cls, .int .i64 x.key, .int .i64 x.window, .int .i64 x.sk.count, .int .i64 x.sk.sum, .int .i64 x.sk.min, .int .i64 x.sk.max, .slice e1 m1' f1, .slice e2 m2 f2, .slice e3 m3 f3] 33))).cell? ((⟨wb5.heap.size, 0, none⟩ : Addr).add j) = some u) := news_lit _ _ _
        refine op_turn (.slice (some ⟨wb5.heap.size, 0, none⟩) 1 1) (wb5.alloc (.cells #[.int .i64 x.seq, .int .i64 x.cls, .int .i64 x.key, .int .i64 x.window, .int .i64 x.sk.count, .int .i64 x.sk.sum, .int .i64 x.sk.min, .int .i64 x.sk.max, .slice e1 m1' f1, .slice e2 m2 f2, .slice e3 m3 f3] 33)) rfl (by kernel_rfl) ⟨_, by simp [Act.put]; rfl, hK _ _ ⟨trivial, ?_⟩⟩
        clear hK bl HB5 HQ5 HV5 HI5
        obtain ⟨J7, hJ7⟩ : ∃ z, z = wb5.heap.size := ⟨_, rfl⟩
        obtain ⟨wb7, hwb7⟩ : ∃ Z, Z = (wb5.alloc (.cells #[.int .i64 x.seq, .int .i64 x.cls, .int .i64 x.key, .int .i64 x.window, .int .i64 x.sk.count, .int .i64 x.sk.sum, .int .i64 x.sk.min, .int .i64 x.sk.max, .slice e1 m1' f1, .slice e2 m2 f2, .slice e3 m3 f3] 33)) := ⟨_, rfl⟩
        rw [← hwb7, ← hJ7] at NW7
        rw [← hwb7] at HB7 HI7 HQ7 HV7 ⊢
        rw [← hJ7]
        clear hwb7 hJ7
        refine onlyH (o := ?o51) 5 (by kernel_rfl) ?h51 ?r51
        case h51 => simp only [aT, aS, aZ]; rfl
        intro K hK
        have hn1 : n1 ≤ 6 := by have := HSM.out.2.1; have := HSM.out.2.2; omega
        refine op_append wb7 rfl _ _ 24 rfl lo 33 j0 (.agg #[.int .i64 0, .int .i64 0, .int .i64 0, .int .i64 0, .int .i64 0, .int .i64 0, .int .i64 0, .int .i64 0, .slice none 0 0, .slice none 0 0, .slice none 0 0]) 11 136 Tryz.underlying24 hj hy0 hy1 hy2 rfl (by decide) (.slice b1 n1 c1) n1 vs rfl HQ7.out.row ⟨J7, 0, none⟩ 1 1 (#[.int .i64 x.seq, .int .i64 x.cls, .int .i64 x.key, .int .i64 x.window, .int .i64 x.sk.count, .int .i64 x.sk.sum, .int .i64 x.sk.min, .int .i64 x.sk.max, .slice e1 m1' f1, .slice e2 m2 f2, .slice e3 m3 f3] : Array Value).toList rfl rfl NW7.out (by simp [Value.oneCell']) (by decide) (by unfold maxLen; omega) (by omega) HQ7.out.lw _ rfl ?_
        intro g4 cp4 wb8 hown hgrow hat _
        obtain ⟨F', q1, q2, q3, q4, q5⟩ := GrA.add HB7.out.gr HGS.out.1 HQ7.out HGS.out.2.1 HGS.out.2.2 HI7.out.1 rfl HI7.out.2.2 HM.out HV7.out hown hgrow hat
        have HF0 := HB7.out.list hq HA.out hgrow q1 q2 q3 q4 q5
        have HF : Hid (Blk wb8 L #[.int .i64 id, .int .i64 ep, .bool lv, .int .i64 gr, .slice b1 n1 c1, .slice b2 n2 c2, .int .i64 nx] 27 ∧ LocE w q a len cap zs ib5 hb5 L id ep lv gr nx (xs ++ [x]) ts (some ⟨g4, 0, none⟩) (n1 + 1) cp4 b2 n2 c2 F' G (wb8.setCell ⟨L, 4, none⟩ (.slice (some ⟨g4, 0, none⟩) (n1 + 1) cp4))) := HF0
        have HSX : Hid (Sm8 (xs ++ [x]) ts) := sm8_add HSM.out.1 HSM.out.2.1 HI7.out.2.1
        refine ⟨_, by simp [Act.put]; rfl, hK _ _ ⟨trivial, ?_⟩⟩
        clear hK hown hgrow hat q1 q2 q3 q4 q5 HF0 HB7 HQ7 HI7 HV7 hn1
        refine takeH (o := ?o52) 6 (.pointer (some ⟨L, 4, none⟩)) ?h52 ?r52
        case h52 => simp only [aT, aS, aZ]; rfl
        refine ⟨_, by simp [Act.put]; rfl, by kernel_rfl, by kernel_rfl, by kernel_rfl, fun _ _ _ h => h, (.inl ⟨rfl, fun W _ => by kernel_rfl⟩), trivial, ?_⟩
        refine onlyH (o := ?o53) 7 (by kernel_rfl) ?h53 ?r53
        case h53 => simp only [aT, aS, aZ]; rfl
        intro K hK
        have c5 := HF.out.1.cell 4
        have f5 := HF.out.1.frozen 4
        simp only [aT, aS, aZ] at c5
        have HE40 := HF.out.2
        refine op_skip (wb8.setCell ⟨L, 4, none⟩ (.slice (some ⟨g4, 0, none⟩) (n1 + 1) cp4)) rfl (by go_simp) ⟨_, by simp [Act.put]; rfl, hK _ _ ⟨trivial, ?_⟩⟩
        clear hK c5 f5 HF
        refine wpAnyH_done (by kernel_rfl) ?_ _
        obtain ⟨WE, hWE⟩ : ∃ W, W = (wb8.setCell ⟨L, 4, none⟩ (.slice (some ⟨g4, 0, none⟩) (n1 + 1) cp4)) := ⟨_, rfl⟩
        rw [← hWE] at HE40
        try rw [← hWE]
        have HE4 : Hid (LocE w q a len cap zs ib5 hb5 L id ep lv gr nx (xs ++ [x]) ts (some ⟨g4, 0, none⟩) (n1 + 1) cp4 b2 n2 c2 F' G WE) := HE40
        clear hWE HE40
        go_wp2_with (first | go_skip | (with_reducible refine stopLoad 27 rfl ?_) | (with_reducible refine stopStore 27 rfl ?_))
        refine load_known 27 L _ 27 _ HE4.out.loc rfl rfl rfl Tryz.underlying27 rfl infoAgG ?_
        go_wp2_with (first | go_skip | (with_reducible refine stopLoad 27 rfl ?_) | (with_reducible refine stopStore 27 rfl ?_))
        refine store_known 27 w.heap.size _ #[.int .i64 id, .int .i64 ep, .bool lv, .int .i64 gr, .slice (some ⟨g4, 0, none⟩) (n1 + 1) cp4, .slice b2 n2 c2, .int .i64 nx] 27 HE4.out.held.res rfl rfl rfl rfl infoAgG rfl (by simp [Value.oneCell']) ?_
        go_wp2
        refine bodyPost_ret (results_cell_row Tryz.results25 _ _ w.heap.size _ _ (0, 0) _ rfl HE4.out.held.res.setRow Tryz.underlying27 rfl infoAgG) rfl ?_
        exact HE4.out.done HSX.out hq HA.out
      case s49 =>
        intro K hK
        have bl : Below wb5.heap.size wb5 (wb5.alloc (.cells #[.int .i64 x.seq, .int .i64 x.cls, .int .i64 x.key, .int .i64 x.window, .int .i64 x.sk.count, .int .i64 x.sk.sum, .int .i64 x.sk.min, .int .i64 x.sk.max, .slice e1 m1' f1, .slice e2 m2 f2, .slice e3 m3 f3] 33)) := (Below.refl _ _).alloc (Nat.le_refl _) _
        have HB9 : Hid (LocG w q a len cap zs ib5 hb5 L id ep lv gr nx xs ts b1 n1 c1 b2 n2 c2 F G (wb5.alloc (.cells #[.int .i64 x.seq, .int .i64 x.cls, .int .i64 x.key, .int .i64 x.window, .int .i64 x.sk.count, .int .i64 x.sk.sum, .int .i64 x.sk.min, .int .i64 x.sk.max, .slice e1 m1' f1, .slice e2 m2 f2, .slice e3 m3 f3] 33))) := HB5.out.below bl
        have HI9 : Hid (RdIt (wb5.alloc (.cells #[.int .i64 x.seq, .int .i64 x.cls, .int .i64 x.key, .int .i64 x.window, .int .i64 x.sk.count, .int .i64 x.sk.sum, .int .i64 x.sk.min, .int .i64 x.sk.max, .slice e1 m1' f1, .slice e2 m2 f2, .slice e3 m3 f3] 33)) (.agg #[.int .i64 x.seq, .int .i64 x.cls, .int .i64 x.key, .int .i64 x.window, .int .i64 x.sk.count, .int .i64 x.sk.sum, .int .i64 x.sk.min, .int .i64 x.sk.max, .slice e1 m1' f1, .slice e2 m2 f2, .slice e3 m3 f3]) x Fk ∧ x.sk.full ∧ Own M (wb5.alloc (.cells #[.int .i64 x.seq, .int .i64 x.cls, .int .i64 x.key, .int .i64 x.window, .int .i64 x.sk.count, .int .i64 x.sk.sum, .int .i64 x.sk.min, .int .i64 x.sk.max, .slice e1 m1' f1, .slice e2 m2 f2, .slice e3 m3 f3] 33)) Fk) := ⟨HI5.out.1.below bl, HI5.out.2.1, HI5.out.2.2.below (RdIt.lt HI5.out.1) bl⟩
        have HQ9 : Hid (GrowL itK 33 xs lo n1 (.slice b1 n1 c1) vs GG (wb5.alloc (.cells #[.int .i64 x.seq, .int .i64 x.cls, .int .i64 x.key, .int .i64 x.window, .int .i64 x.sk.count, .int .i64 x.sk.sum, .int .i64 x.sk.min, .int .i64 x.sk.max, .slice e1 m1' f1, .slice e2 m2 f2, .slice e3 m3 f3] 33))) := HQ5.out.below bl
        have HV9 : Hid (M ≤ (wb5.alloc (.cells #[.int .i64 x.seq, .int .i64 x.cls, .int .i64 x.key, .int .i64 x.window, .int .i64 x.sk.count, .int .i64 x.sk.sum, .int .i64 x.sk.min, .int .i64 x.sk.max, .slice e1 m1' f1, .slice e2 m2 f2, .slice e3 m3 f3] 33)).heap.size) := Nat.le_trans HV5.out bl.size
        have NW9 : Hid (∀ j u, (#[.int .i64 x.seq, .int .i64 x.cls, .int .i64 x.key, .int .i64 x.window, .int .i64 x.sk.count, .int .i64 x.sk.sum, .int .i64 x.sk.min, .int .i64 x.sk.max, .slice e1 m1' f1, .slice e2 m2 f2, .slice e3 m3 f3] : Array Value).toList[j]? = some u → ((wb5.alloc (.cells #[.int .i64 x.seq, .int .i64 x.cls, .int .i64 x.key, .int .i64 x.window, .int .i64 x.sk.count, .int .i64 x.sk.sum, .int .i64 x.sk.min, .int .i64 x.sk.max, .slice e1 m1' f1, .slice e2 m2 f2, .slice e3 m3 f3] 33))).cell? ((⟨wb5.heap.size, 0, none⟩ : Addr).add j) = some u) := news_lit _ _ _
        refine op_turn (.slice (some ⟨wb5.heap.size, 0, none⟩) 1 1) (wb5.alloc (.cells #[.int .i64 x.seq, .int .i64 x.cls, .int .i64 x.key, .int .i64 x.window, .int .i64 x.sk.count, .int .i64 x.sk.sum, .int .i64 x.sk.min, .int .i64 x.sk.max, .slice e1 m1' f1, .slice e2 m2 f2, .slice e3 m3 f3] 33)) rfl (by kernel_rfl) ⟨_, by simp [Act.put]; rfl, hK _ _ ⟨trivial, ?_⟩⟩
        clear hK bl HB5 HQ5 HV5 HI5
        obtain ⟨J9, hJ9⟩ : ∃ z, z = wb5.heap.size := ⟨_, rfl⟩
        obtain ⟨wb9, hwb9⟩ : ∃ Z, Z = (wb5.alloc (.cells #[.int .i64 x.seq, .int .i64 x.cls, .int .i64 x.key, .int .i64 x.window, .int .i64 x.sk.count, .int .i64 x.sk.sum, .int .i64 x.sk.min, .int .i64 x.sk.max, .slice e1 m1' f1, .slice e2 m2 f2, .slice e3 m3 f3] 33)) := ⟨_, rfl⟩
        rw [← hwb9, ← hJ9] at NW9
        rw [← hwb9] at HB9 HI9 HQ9 HV9 ⊢
        rw [← hJ9]
        clear hwb9 hJ9
        refine onlyH (o := ?o54) 1 (by kernel_rfl) ?h54 ?r54
        case h54 => simp only [aT, aS, aZ]; rfl
        intro K hK
        have c5 := HB9.out.loc.cell 4
        simp only [aT, aS, aZ] at c5
        refine op_value (.slice b1 n1 c1) rfl (by go_simp) ⟨_, by simp [Act.put]; rfl, hK _ _ ⟨trivial, ?_⟩⟩
        clear hK c5
        refine onlyH (o := ?o55) 5 (by kernel_rfl) ?h55 ?r55
        case h55 => simp only [aT, aS, aZ]; rfl
        intro K hK
        have hn1 : n1 ≤ 6 := by have := HSM.out.2.1; have := HSM.out.2.2; omega
        refine op_append wb9 rfl _ _ 24 rfl lo 33 j0 (.agg #[.int .i64 0, .int .i64 0, .int .i64 0, .int .i64 0, .int .i64 0, .int .i64 0, .int .i64 0, .int .i64 0, .slice none 0 0, .slice none 0 0, .slice none 0 0]) 11 136 Tryz.underlying24 hj hy0 hy1 hy2 rfl (by decide) (.slice b1 n1 c1) n1 vs rfl HQ9.out.row ⟨J9, 0, none⟩ 1 1 (#[.int .i64 x.seq, .int .i64 x.cls, .int .i64 x.key, .int .i64 x.window, .int .i64 x.sk.count, .int .i64 x.sk.sum, .int .i64 x.sk.min, .int .i64 x.sk.max, .slice e1 m1' f1, .slice e2 m2 f2, .slice e3 m3 f3] : Array Value).toList rfl rfl NW9.out (by simp [Value.oneCell']) (by decide) (by unfold maxLen; omega) (by omega) HQ9.out.lw _ rfl ?_
        intro g4 cp4 wb11 hown hgrow hat _
        obtain ⟨F', q1, q2, q3, q4, q5⟩ := GrA.add HB9.out.gr HGS.out.1 HQ9.out HGS.out.2.1 HGS.out.2.2 HI9.out.1 rfl HI9.out.2.2 HM.out HV9.out hown hgrow hat
        have HF0 := HB9.out.list hq HA.out hgrow q1 q2 q3 q4 q5
        have HF : Hid (Blk wb11 L #[.int .i64 id, .int .i64 ep, .bool lv, .int .i64 gr, .slice b1 n1 c1, .slice b2 n2 c2, .int .i64 nx] 27 ∧ LocE w q a len cap zs ib5 hb5 L id ep lv gr nx (xs ++ [x]) ts (some ⟨g4, 0, none⟩) (n1 + 1) cp4 b2 n2 c2 F' G (wb11.setCell ⟨L, 4, none⟩ (.slice (some ⟨g4, 0, none⟩) (n1 + 1) cp4))) := HF0
        have HSX : Hid (Sm8 (xs ++ [x]) ts) := sm8_add HSM.out.1 HSM.out.2.1 HI9.out.2.1
        refine ⟨_, by simp [Act.put]; rfl, hK _ _ ⟨trivial, ?_⟩⟩
        clear hK hown hgrow hat q1 q2 q3 q4 q5 HF0 HB9 HQ9 HI9 HV9 hn1
        refine takeH (o := ?o56) 6 (.pointer (some ⟨L, 4, none⟩)) ?h56 ?r56
        case h56 => simp only [aT, aS, aZ]; rfl
        refine ⟨_, by simp [Act.put]; rfl, by kernel_rfl, by kernel_rfl, by kernel_rfl, fun _ _ _ h => h, (.inl ⟨rfl, fun W _ => by kernel_rfl⟩), trivial, ?_⟩
        refine onlyH (o := ?o57) 7 (by kernel_rfl) ?h57 ?r57
        case h57 => simp only [aT, aS, aZ]; rfl
        intro K hK
        have c5 := HF.out.1.cell 4
        have f5 := HF.out.1.frozen 4
        simp only [aT, aS, aZ] at c5
        have HE40 := HF.out.2
        refine op_skip (wb11.setCell ⟨L, 4, none⟩ (.slice (some ⟨g4, 0, none⟩) (n1 + 1) cp4)) rfl (by go_simp) ⟨_, by simp [Act.put]; rfl, hK _ _ ⟨trivial, ?_⟩⟩
        clear hK c5 f5 HF
        refine wpAnyH_done (by kernel_rfl) ?_ _
        obtain ⟨WE, hWE⟩ : ∃ W, W = (wb11.setCell ⟨L, 4, none⟩ (.slice (some ⟨g4, 0, none⟩) (n1 + 1) cp4)) := ⟨_, rfl⟩
        rw [← hWE] at HE40
        try rw [← hWE]
        have HE4 : Hid (LocE w q a len cap zs ib5 hb5 L id ep lv gr nx (xs ++ [x]) ts (some ⟨g4, 0, none⟩) (n1 + 1) cp4 b2 n2 c2 F' G WE) := HE40
        clear hWE HE40
        go_wp2_with (first | go_skip | (with_reducible refine stopLoad 27 rfl ?_) | (with_reducible refine stopStore 27 rfl ?_))
        refine load_known 27 L _ 27 _ HE4.out.loc rfl rfl rfl Tryz.underlying27 rfl infoAgG ?_
        go_wp2_with (first | go_skip | (with_reducible refine stopLoad 27 rfl ?_) | (with_reducible refine stopStore 27 rfl ?_))
        refine store_known 27 w.heap.size _ #[.int .i64 id, .int .i64 ep, .bool lv, .int .i64 gr, .slice (some ⟨g4, 0, none⟩) (n1 + 1) cp4, .slice b2 n2 c2, .int .i64 nx] 27 HE4.out.held.res rfl rfl rfl rfl infoAgG rfl (by simp [Value.oneCell']) ?_
        go_wp2
        refine bodyPost_ret (results_cell_row Tryz.results25 _ _ w.heap.size _ _ (0, 0) _ rfl HE4.out.held.res.setRow Tryz.underlying27 rfl infoAgG) rfl ?_
        exact HE4.out.done HSX.out hq HA.out
  have em2 : (m == 2) = false := by simpa using hm2
  by_cases hm3 : m = 3
  · subst hm3
    go_wp2_with fail
    refine (l5Draw_any q a len cap zs i6 h6 _ H6.out.held.cur hlen).mono ?_
    rintro e w7 ⟨v7, us, rfl, D7, hl7, hne7, hf7⟩
    obtain ⟨i7, h7, C7⟩ := D7.cur
    have H7 : Hid (LocG w q a len cap zs i7 h7 L id ep lv gr nx xs ts b1 n1 c1 b2 n2 c2 F G w7) := H6.out.next hq C7 D7.grown
    obtain ⟨e7, k7, X7, rfl, r7, o7, cp7⟩ := rdP_of_own D7.own
    have HR7 : Hid (RdP w7 e7 us.length us X7 ∧ Capd e7 us.length k7 ∧ Own (w.heap.size + 1) w7 X7 ∧ (∀ b ∈ F, b ∉ X7) ∧ L ∉ X7 ∧ GrA (w.heap.size + 1) L (.slice b1 n1 c1) n1 xs X7 w7) := ⟨r7, cp7, o7.mono (by have := H6.out.held.res.lt; omega), (fun b hb hx => by have h1 := o7.ge _ hx; have h2 := H6.out.rl.lt b hb; omega), (fun hx => by have h1 := o7.ge _ hx; have h2 := H6.out.loc.lt; omega), (H6.out.gr.fresh (fun b hb => o7.ge b hb)).next D7.grown (by omega)⟩
    have HSY : Hid (Sm8 xs us) := ⟨HSM.out.1.1, HSM.out.1.2.1, hl7, hf7⟩
    clear C7 r7 o7 cp7 D7 H6 hne7 hf7
    have c1' := H7.out.loc.cell 5
    have fz1 := H7.out.loc.frozen 5
    simp only [aT, aS, aZ] at c1'
    go_wp2_with (first | go_skip | (with_reducible refine stopLoad 27 rfl ?_) | (with_reducible refine stopStore 27 rfl ?_))
    have HE : Hid (LocG w q a len cap zs i7 h7 L id ep lv gr nx xs us b1 n1 c1 e7 us.length k7 F X7 (w7.setCell ⟨L, 5, none⟩ (.slice e7 us.length k7))) := H7.out.put hq HA.out HR7.out.1 HR7.out.2.1 HR7.out.2.2.1 HR7.out.2.2.2.1 HR7.out.2.2.2.2.1 HR7.out.2.2.2.2.2
    obtain ⟨WE, hWE⟩ : ∃ W, W = w7.setCell ⟨L, 5, none⟩ (.slice e7 us.length k7) := ⟨_, rfl⟩
    rw [← hWE] at HE ⊢
    clear hWE H7 c1' fz1 HR7
    refine load_known 27 L _ 27 _ HE.out.loc rfl rfl rfl Tryz.underlying27 rfl infoAgG ?_
    go_wp2_with (first | go_skip | (with_reducible refine stopLoad 27 rfl ?_) | (with_reducible refine stopStore 27 rfl ?_))
    refine store_known 27 w.heap.size _ #[.int .i64 id, .int .i64 ep, .bool lv, .int .i64 gr, .slice b1 n1 c1, .slice e7 us.length k7, .int .i64 nx] 27 HE.out.held.res rfl rfl rfl rfl infoAgG rfl (by simp [Value.oneCell']) ?_
    go_wp2
    refine bodyPost_ret (results_cell_row Tryz.results25 _ _ w.heap.size _ _ (0, 0) _ rfl HE.out.held.res.setRow Tryz.underlying27 rfl infoAgG) rfl ?_
    exact HE.out.e.done HSY.out hq HA.out
  have em3 : (m == 3) = false := by simpa using hm3
  by_cases hm4 : m = 4
  · subst hm4
    go_wp2_with fail
    have hqw : q < w6.heap.size := World.block_lt_of_cell? _ _ H6.out.held.cur.c0
    refine (pickInt_cur q w6.heap.size 3 a len cap zs i6 h6 [-1, 60, 61] _ (H6.out.held.cur.alloc _) hlen (fun j hj => lit_ints w6 [-1, 60, 61] _ j hj) (by omega) 3 rfl (by omega) (by omega)).mono ?_
    rintro e w7 ⟨y, i7, h7, hy, rfl, C7, g7⟩
    have H7 : Hid (LocG w q a len cap zs i7 h7 L id ep lv gr nx xs ts b1 n1 c1 b2 n2 c2 F G w7) := (H6.out.below ((Below.refl _ _).alloc (Nat.le_refl _) _)).next hq C7 g7
    clear C7 g7 H6 hqw hy
    have c1' := H7.out.loc.cell 6
    have fz1 := H7.out.loc.frozen 6
    simp only [aT, aS, aZ] at c1'
    go_wp2_with (first | go_skip | (with_reducible refine stopLoad 27 rfl ?_) | (with_reducible refine stopStore 27 rfl ?_))
    have HE : Hid (LocG w q a len cap zs i7 h7 L id ep lv gr y xs ts b1 n1 c1 b2 n2 c2 F G (w7.setCell ⟨L, 6, none⟩ (.int .i64 y))) := H7.out.set hq HA.out 6 (.int .i64 y) (id' := id) (ep' := ep) (lv' := lv) (gr' := gr) (nx' := y) rfl
    obtain ⟨WE, hWE⟩ : ∃ W, W = w7.setCell ⟨L, 6, none⟩ (.int .i64 y) := ⟨_, rfl⟩
    rw [← hWE] at HE ⊢
    clear hWE H7 c1' fz1
    refine load_known 27 L _ 27 _ HE.out.loc rfl rfl rfl Tryz.underlying27 rfl infoAgG ?_
    go_wp2_with (first | go_skip | (with_reducible refine stopLoad 27 rfl ?_) | (with_reducible refine stopStore 27 rfl ?_))
    refine store_known 27 w.heap.size _ #[.int .i64 id, .int .i64 ep, .bool lv, .int .i64 gr, .slice b1 n1 c1, .slice b2 n2 c2, .int .i64 y] 27 HE.out.held.res rfl rfl rfl rfl infoAgG rfl (by simp [Value.oneCell']) ?_
    go_wp2
    refine bodyPost_ret (results_cell_row Tryz.results25 _ _ w.heap.size _ _ (0, 0) _ rfl HE.out.held.res.setRow Tryz.underlying27 rfl infoAgG) rfl ?_
    exact HE.out.e.done HSM.out.1 hq HA.out
  have em4 : (m == 4) = false := by simpa using hm4
  by_cases hm5 : m = 5
  · subst hm5
    have c1' := H6.out.loc.cell 2
    have fz1 := H6.out.loc.frozen 2
    simp only [aT, aS, aZ] at c1'
    go_wp2_with (first | go_skip | (with_reducible refine stopLoad 27 rfl ?_) | (with_reducible refine stopStore 27 rfl ?_))
    have HE : Hid (LocG w q a len cap zs i6 h6 L id ep false gr nx xs ts b1 n1 c1 b2 n2 c2 F G (w6.setCell ⟨L, 2, none⟩ (.bool false))) := H6.out.set hq HA.out 2 (.bool false) (id' := id) (ep' := ep) (lv' := false) (gr' := gr) (nx' := nx) rfl
    obtain ⟨WE, hWE⟩ : ∃ W, W = w6.setCell ⟨L, 2, none⟩ (.bool false) := ⟨_, rfl⟩
    rw [← hWE] at HE ⊢
    clear hWE H6 c1' fz1
    refine load_known 27 L _ 27 _ HE.out.loc rfl rfl rfl Tryz.underlying27 rfl infoAgG ?_
    go_wp2_with (first | go_skip | (with_reducible refine stopLoad 27 rfl ?_) | (with_reducible refine stopStore 27 rfl ?_))
    refine store_known 27 w.heap.size _ #[.int .i64 id, .int .i64 ep, .bool false, .int .i64 gr, .slice b1 n1 c1, .slice b2 n2 c2, .int .i64 nx] 27 HE.out.held.res rfl rfl rfl rfl infoAgG rfl (by simp [Value.oneCell']) ?_
    go_wp2
    refine bodyPost_ret (results_cell_row Tryz.results25 _ _ w.heap.size _ _ (0, 0) _ rfl HE.out.held.res.setRow Tryz.underlying27 rfl infoAgG) rfl ?_
    exact HE.out.e.done HSM.out.1 hq HA.out
  have em5 : (m == 5) = false := by simpa using hm5
  clear hm0 hm1 hm2 hm3 hm4 hm5
  go_wp2_with (first | go_skip | (with_reducible refine stopLoad 27 rfl ?_) | (with_reducible refine stopStore 27 rfl ?_))
  refine load_known 27 L _ 27 _ H6.out.loc rfl rfl rfl Tryz.underlying27 rfl infoAgG ?_
  go_wp2_with (first | go_skip | (with_reducible refine stopLoad 27 rfl ?_) | (with_reducible refine stopStore 27 rfl ?_))
  refine store_known 27 w.heap.size _ #[.int .i64 id, .int .i64 ep, .bool lv, .int .i64 gr, .slice b1 n1 c1, .slice b2 n2 c2, .int .i64 nx] 27 H6.out.held.res rfl rfl rfl rfl infoAgG rfl (by simp [Value.oneCell']) ?_
  go_wp2
  refine bodyPost_ret (results_cell_row Tryz.results25 _ _ w.heap.size _ _ (0, 0) _ rfl H6.out.held.res.setRow Tryz.underlying27 rfl infoAgG) rfl ?_
  exact H6.out.e.done HSM.out.1 hq HA.out
end Go.Proofs.YtgkbhhlkaifnoaaGreatDoor
/- The walk through the model's DrawAgentHear. No statement of the seat is proved here. -/
namespace Go.Proofs.YtgkbhhlkaifnoaaGreatDoor
open Go.RowKit
theorem results_row_twoH {P : Program} {fn : Func} {p u : Tmp} {ty tz : TypeId} (h : fn.results = #[.cell p ty, .cell u tz]) (tmps : Array Value) (w : World) (g k : Nat) (t t' : TypeId) (cs ds : Array Value) (d d' : TypeDesc)
    (hp : tmps.getD p undef = .pointer (some ⟨g, 0, none⟩)) (hq : tmps.getD u undef = .pointer (some ⟨k, 0, none⟩)) (hg : Blk w g cs t) (hk : Blk w k ds t')
    (hu : P.underlying ty = some d) (hd : (match d with | .struct _ | .array _ _ => true | _ => false) = true) (hi : (P.info? ty).map (·.size) = some cs.size)
    (hu' : P.underlying tz = some d') (hd' : (match d' with | .struct _ | .array _ _ => true | _ => false) = true) (hj : (P.info? tz).map (·.size) = some ds.size) :
    (results fn tmps).run P w = .ok (.tuple #[.agg cs, .agg ds]) w := by
  have e : (results fn tmps).run P w = ((asAddr (tmps.getD p undef)).run P w).andThen fun a w₁ => ((loadVar ty a).run P w₁).andThen fun v w₂ => ((asAddr (tmps.getD u undef)).run P w₂).andThen fun a w₁ => ((loadVar tz a).run P w₁).andThen fun v' w₂ => .ok (.tuple #[v, v']) w₂ := by
    simp only [results, h]
    simp [Sem.run_bind, Result.andThen]
  rw [e, hp, hq]
  simp [asAddr, run_loadVar_row w g t ty cs (0, 0) d hg hu hd hi, run_loadVar_row w k t' tz ds (0, 0) d' hk hu' hd' hj, Result.andThen]
theorem rdB_lt {w : World} {a : Option Addr} {len : Nat} {zs : List Int} (h : RdB w a len zs) (b : Nat) (hb : ∃ off, a = some ⟨b, off, none⟩ ∧ 0 < len) : b < w.heap.size := by
  obtain ⟨off, ha, hp⟩ := hb
  rcases h.cells with h0 | ⟨b', off', ha', hc⟩
  · omega
  · rw [ha] at ha'
    cases ha'
    exact World.block_lt_of_cell? _ _ (hc 0 hp)
def DrewAH (w : World) (e : Ending) (w' : World) : Prop := ∃ v u x f F G F' G', e = .returned (.tuple #[v, u]) ∧ RdAg w' v x F G ∧ RdFr w' u f F' G' ∧ Sm8 x.sealed x.taken ∧ (f.item.sk.wide ∧ f.taken.length ≤ 20) ∧ Below w.heap.size w w'
/-- The drawn agent in a variable, the results' places, the cursor. -/
structure AH0 (w : World) (q : Nat) (a : Option Addr) (len cap : Nat) (zs : List Int) (i h : Int) (gA : Nat) (ca : Array Value) (x : Ag) (F G : List Nat) (W : World) : Prop where
  r1 : Blk W w.heap.size #[.int .i64 0, .int .i64 0, .bool false, .int .i64 0, .slice none 0 0, .slice none 0 0, .int .i64 0] 27
  r2 : Blk W (w.heap.size + 1) #[.int .i64 0, .int .i64 0, .int .i64 0, .int .i64 0, .slice none 0 0, .int .i64 0, .int .i64 0, .int .i64 0, .int .i64 0, .int .i64 0, .int .i64 0, .int .i64 0, .int .i64 0, .slice none 0 0, .slice none 0 0, .slice none 0 0] 35
  cur : Cur W q a len cap zs i h
  bel : Below w.heap.size w W
  va : Blk W gA ca 27
  ra : RdAg W (.agg ca) x F G
  lt1 : w.heap.size + 1 < q
  lt2 : q < gA
  nF : ∀ b ∈ F, q < b ∧ b < gA
  nG : ∀ b ∈ G, q < b ∧ b < gA
/-- .. and the drawn frame. -/
structure AH1 (w : World) (q : Nat) (a : Option Addr) (len cap : Nat) (zs : List Int) (i h : Int) (gA : Nat) (ca : Array Value) (x : Ag) (F G : List Nat) (gF : Nat) (cf : Array Value) (f : Fr) (F' G' : List Nat) (W : World) : Prop where
  b : AH0 w q a len cap zs i h gA ca x F G W
  vf : Blk W gF cf 35
  rf : RdFr W (.agg cf) f F' G'
  lt3 : gA < gF
  nF : ∀ b ∈ F', gA < b ∧ b ≠ gF
  nG : ∀ b ∈ G', gA < b ∧ b ≠ gF
section
variable {w W W' : World} {q : Nat} {a : Option Addr} {len cap : Nat} {zs : List Int} {i h i' h' : Int} {gA gF : Nat} {ca cf : Array Value} {x : Ag} {f : Fr} {F G F' G' : List Nat}
theorem AH0.next (H : AH0 w q a len cap zs i h gA ca x F G W) (C : Cur W' q a len cap zs i' h') (g : W.grownBy W' (some q)) : AH0 w q a len cap zs i' h' gA ca x F G W' := by
  have l1 := H.lt1; have l2 := H.lt2
  exact ⟨H.r1.grown g (by omega), H.r2.grown g (by omega), C, H.bel.grown g H.bel.size (fun k hk => by simp at hk; omega), H.va.grown g (by omega), H.ra.agree (fun b hb => g.block b (H.ra.lt1 b hb) (fun e => by have := H.nF b hb; simp at e; omega)) (fun b hb => g.block b (H.ra.lt2 b hb) (fun e => by have := H.nG b hb; simp at e; omega)), H.lt1, H.lt2, H.nF, H.nG⟩
theorem AH0.below (H : AH0 w q a len cap zs i h gA ca x F G W) (k : Below W.heap.size W W') : AH0 w q a len cap zs i h gA ca x F G W' :=
  ⟨H.r1.below k, H.r2.below k, H.cur.below k, Below.next H.bel k, H.va.below k, H.ra.below k, H.lt1, H.lt2, H.nF, H.nG⟩
theorem AH0.row (H : AH0 w q a len cap zs i h gA ca x F G W) (ha : ∀ b, (∃ off, a = some ⟨b, off, none⟩ ∧ 0 < len) → b < w.heap.size) (hg : gA < gF) (ds : Array Value) : AH0 w q a len cap zs i h gA ca x F G (W.setRow gF ds) := by
  have l1 := H.lt1; have l2 := H.lt2
  exact ⟨H.r1.setRowOther (by omega), H.r2.setRowOther (by omega), cur_row H.cur (by omega) (fun b hb => by have := ha b hb; omega), below_setRow H.bel (by omega) _, H.va.setRowOther (by omega), H.ra.agree (Agree.row (fun hx => by have := H.nF _ hx; omega) _) (Agree.row (fun hx => by have := H.nG _ hx; omega) _), H.lt1, H.lt2, H.nF, H.nG⟩
theorem AH0.cell (H : AH0 w q a len cap zs i h gA ca x F G W) (ha : ∀ b, (∃ off, a = some ⟨b, off, none⟩ ∧ 0 < len) → b < w.heap.size) (hg : gA < gF) (j : Nat) (v : Value) : AH0 w q a len cap zs i h gA ca x F G (W.setCell ⟨gF, j, none⟩ v) := by
  have l1 := H.lt1; have l2 := H.lt2
  exact ⟨H.r1.setOther (by omega) _ _, H.r2.setOther (by omega) _ _, cur_cell H.cur (by omega) (fun b hb => by have := ha b hb; omega), H.bel.setCell (by show w.heap.size ≤ gF; omega) _, H.va.setOther (by omega) _ _, H.ra.agree (.set (fun hx => by have := H.nF _ hx; omega) _ _) (.set (fun hx => by have := H.nG _ hx; omega) _ _), H.lt1, H.lt2, H.nF, H.nG⟩
theorem AH1.next (H : AH1 w q a len cap zs i h gA ca x F G gF cf f F' G' W) (C : Cur W' q a len cap zs i' h') (g : W.grownBy W' (some q)) : AH1 w q a len cap zs i' h' gA ca x F G gF cf f F' G' W' := by
  have l1 := H.b.lt1; have l2 := H.b.lt2; have l3 := H.lt3
  exact ⟨H.b.next C g, H.vf.grown g (by omega), H.rf.agree (fun b hb => g.block b (H.rf.lt1 b hb) (fun e => by have := H.nF b hb; simp at e; omega)) (fun b hb => g.block b (H.rf.lt2 b hb) (fun e => by have := H.nG b hb; simp at e; omega)), H.lt3, H.nF, H.nG⟩
theorem AH1.below (H : AH1 w q a len cap zs i h gA ca x F G gF cf f F' G' W) (k : Below W.heap.size W W') : AH1 w q a len cap zs i h gA ca x F G gF cf f F' G' W' :=
  ⟨H.b.below k, H.vf.below k, H.rf.below k, H.lt3, H.nF, H.nG⟩
theorem AH1.drew (H : AH1 w q a len cap zs i h gA ca x F G gF cf f F' G' W) : AH1 w q a len cap zs i h gA ca x F G gF cf f F' G' W.drew := H.below (Below.refl _ _).drew
theorem rdFr_lit (W : World) (k n e g : Int) {b : Option Addr} {l c : Nat} {ts : Sp} {X : List Nat} (h : RdP W b l ts X) (hc : Capd b l c) : RdFr W (.agg #[.int .i64 k, .int .i64 n, .int .i64 e, .int .i64 g, .slice b l c, .int .i64 0, .int .i64 0, .int .i64 0, .int .i64 0, .int .i64 0, .int .i64 0, .int .i64 0, .int .i64 0, .slice none 0 0, .slice none 0 0, .slice none 0 0]) ⟨k, n, e, g, ts, It.zero⟩ X [] :=
  ⟨b, l, c, none, 0, 0, none, 0, 0, none, 0, 0, rfl, h, rdIt_zeroD _, hc⟩
theorem AH1.frame (H : AH1 w q a len cap zs i h gA ca x F G gF cf f F' G' W) (ha : ∀ b, (∃ off, a = some ⟨b, off, none⟩ ∧ 0 < len) → b < w.heap.size) (k n e g : Int) : AH1 w q a len cap zs i h gA ca x F G gF #[.int .i64 k, .int .i64 n, .int .i64 e, .int .i64 g, .slice none 0 0, .int .i64 0, .int .i64 0, .int .i64 0, .int .i64 0, .int .i64 0, .int .i64 0, .int .i64 0, .int .i64 0, .slice none 0 0, .slice none 0 0, .slice none 0 0] ⟨k, n, e, g, [], It.zero⟩ [] [] (W.setRow gF #[.int .i64 k, .int .i64 n, .int .i64 e, .int .i64 g, .slice none 0 0, .int .i64 0, .int .i64 0, .int .i64 0, .int .i64 0, .int .i64 0, .int .i64 0, .int .i64 0, .int .i64 0, .slice none 0 0, .slice none 0 0, .slice none 0 0]) :=
  ⟨H.b.row ha H.lt3 _, H.vf.setRow, rdFr_lit _ k n e g RdP.nil ⟨fun _ => rfl, Nat.le_refl _⟩, H.lt3, (fun b hb => by cases hb), fun b hb => by cases hb⟩
theorem AH1.taken {k n e g m : Int} {J : Nat} (H : AH1 w q a len cap zs i h gA ca x F G gF #[.int .i64 k, .int .i64 n, .int .i64 e, .int .i64 g, .slice none 0 0, .int .i64 0, .int .i64 0, .int .i64 0, .int .i64 0, .int .i64 0, .int .i64 0, .int .i64 0, .int .i64 0, .slice none 0 0, .slice none 0 0, .slice none 0 0] ⟨k, n, e, g, [], It.zero⟩ [] [] W) (ha : ∀ b, (∃ off, a = some ⟨b, off, none⟩ ∧ 0 < len) → b < w.heap.size) (hJ : gF < J) {t : TypeId} (hb : Blk W J #[.int .i64 m, .int .i64 m] t) :
    AH1 w q a len cap zs i h gA ca x F G gF #[.int .i64 k, .int .i64 n, .int .i64 e, .int .i64 g, .slice (some ⟨J, 0, none⟩) 1 1, .int .i64 0, .int .i64 0, .int .i64 0, .int .i64 0, .int .i64 0, .int .i64 0, .int .i64 0, .int .i64 0, .slice none 0 0, .slice none 0 0, .slice none 0 0] ⟨k, n, e, g, [(m, m)], It.zero⟩ [J] [] (W.setCell ⟨gF, 4, none⟩ (.slice (some ⟨J, 0, none⟩) 1 1)) := by
  have l3 := H.lt3
  exact ⟨H.b.cell ha H.lt3 _ _, H.vf.set 4 _, rdFr_lit _ k n e g (rdP_single (hb.setOther (by omega) _ _)) ⟨(fun e => by cases e), Nat.le_refl _⟩, H.lt3, (fun b hb => by rw [List.mem_singleton.1 hb]; omega), fun b hb => by cases hb⟩
theorem infoAgH8 : (Tryz.prog.info? 27).map (·.size) = some 7 := by kernel_rfl
theorem infoFrH8 : (Tryz.prog.info? 35).map (·.size) = some 16 := by kernel_rfl
end
set_option maxRecDepth 200000 in
set_option maxHeartbeats 8000000 in
theorem drawAgentHear_any (a : Option Addr) (len cap : Nat) (zs : List Int) (w : World) (hR : RdB w a len zs) (hlen : len ≤ 1048576) :
    Calls Tryz.prog 6 #[.slice a len cap] w fun e w' => DrewAH w e w' := by
  have HZ : Hid (Blk ((w.alloc (.cells #[.int .i64 0, .int .i64 0, .bool false, .int .i64 0, .slice none 0 0, .slice none 0 0, .int .i64 0] 27)).alloc (.cells #[.int .i64 0, .int .i64 0, .int .i64 0, .int .i64 0, .slice none 0 0, .int .i64 0, .int .i64 0, .int .i64 0, .int .i64 0, .int .i64 0, .int .i64 0, .int .i64 0, .int .i64 0, .slice none 0 0, .slice none 0 0, .slice none 0 0] 35)) w.heap.size #[.int .i64 0, .int .i64 0, .bool false, .int .i64 0, .slice none 0 0, .slice none 0 0, .int .i64 0] 27 ∧ Blk ((w.alloc (.cells #[.int .i64 0, .int .i64 0, .bool false, .int .i64 0, .slice none 0 0, .slice none 0 0, .int .i64 0] 27)).alloc (.cells #[.int .i64 0, .int .i64 0, .int .i64 0, .int .i64 0, .slice none 0 0, .int .i64 0, .int .i64 0, .int .i64 0, .int .i64 0, .int .i64 0, .int .i64 0, .int .i64 0, .int .i64 0, .slice none 0 0, .slice none 0 0, .slice none 0 0] 35)) (w.heap.size + 1) #[.int .i64 0, .int .i64 0, .int .i64 0, .int .i64 0, .slice none 0 0, .int .i64 0, .int .i64 0, .int .i64 0, .int .i64 0, .int .i64 0, .int .i64 0, .int .i64 0, .int .i64 0, .slice none 0 0, .slice none 0 0, .slice none 0 0] 35 ∧ Below w.heap.size w ((w.alloc (.cells #[.int .i64 0, .int .i64 0, .bool false, .int .i64 0, .slice none 0 0, .slice none 0 0, .int .i64 0] 27)).alloc (.cells #[.int .i64 0, .int .i64 0, .int .i64 0, .int .i64 0, .slice none 0 0, .int .i64 0, .int .i64 0, .int .i64 0, .int .i64 0, .int .i64 0, .int .i64 0, .int .i64 0, .int .i64 0, .slice none 0 0, .slice none 0 0, .slice none 0 0] 35))) := ⟨(Blk.made _ _ _).alloc _, Blk.made_eq (by simp), Below.allocW _ (Below.allocW _ (Below.refl _ _) (Nat.le_refl _)) (Nat.le_refl _)⟩
  have HR : Hid (RdB ((w.alloc (.cells #[.int .i64 0, .int .i64 0, .bool false, .int .i64 0, .slice none 0 0, .slice none 0 0, .int .i64 0] 27)).alloc (.cells #[.int .i64 0, .int .i64 0, .int .i64 0, .int .i64 0, .slice none 0 0, .int .i64 0, .int .i64 0, .int .i64 0, .int .i64 0, .int .i64 0, .int .i64 0, .int .i64 0, .int .i64 0, .slice none 0 0, .slice none 0 0, .slice none 0 0] 35)) a len zs) := hR.below HZ.out.2.2
  have HA : Hid (∀ b, (∃ off, a = some ⟨b, off, none⟩ ∧ 0 < len) → b < w.heap.size) := rdB_lt hR
  clear hR
  go_enter Tryz.func6, Tryz.ntmps6
  go_wp2_with fail
  obtain ⟨W0, hW0⟩ : ∃ W, W = ((w.alloc (.cells #[.int .i64 0, .int .i64 0, .bool false, .int .i64 0, .slice none 0 0, .slice none 0 0, .int .i64 0] 27)).alloc (.cells #[.int .i64 0, .int .i64 0, .int .i64 0, .int .i64 0, .slice none 0 0, .int .i64 0, .int .i64 0, .int .i64 0, .int .i64 0, .int .i64 0, .int .i64 0, .int .i64 0, .int .i64 0, .slice none 0 0, .slice none 0 0, .slice none 0 0] 35)) := ⟨_, rfl⟩
  rw [← hW0] at HZ HR ⊢
  clear hW0
  refine (l1New_any a len cap zs _ HR.out hlen).mono ?_
  rintro e w1 ⟨rfl, ⟨h, C1⟩, b1⟩
  have HZ1 : Hid (Blk w1 w.heap.size #[.int .i64 0, .int .i64 0, .bool false, .int .i64 0, .slice none 0 0, .slice none 0 0, .int .i64 0] 27 ∧ Blk w1 (w.heap.size + 1) #[.int .i64 0, .int .i64 0, .int .i64 0, .int .i64 0, .slice none 0 0, .int .i64 0, .int .i64 0, .int .i64 0, .int .i64 0, .int .i64 0, .int .i64 0, .int .i64 0, .int .i64 0, .slice none 0 0, .slice none 0 0, .slice none 0 0] 35 ∧ Below w.heap.size w w1 ∧ W0.heap.size < w1.heap.size ∧ w.heap.size + 1 < W0.heap.size) := ⟨HZ.out.1.below b1, HZ.out.2.1.below b1, Below.next HZ.out.2.2 b1, World.block_lt_of_cell? _ _ C1.c0, HZ.out.2.1.lt⟩
  obtain ⟨q, hqe⟩ : ∃ q, q = W0.heap.size := ⟨_, rfl⟩
  rw [← hqe] at C1 HZ1 ⊢
  have HC1 : Hid (Cur w1 q a len cap zs 0 h) := C1
  clear C1 b1 HZ HR hqe
  go_wp2_with fail
  refine (l8Draw_any q a len cap zs 0 h _ HC1.out hlen).mono ?_
  rintro e w2 ⟨v, X, F, G, i2, h2, rfl, r2, s2, oF, oG, _, C2, g2⟩
  obtain ⟨id, ep, lv, gr, xs, ts, nx⟩ := X
  obtain ⟨b1, n1, c1, b2, n2, c2, rfl, rL, rP, k1, k2⟩ := r2.opened
  have hn1 : xs.length = n1 := rL.length
  have HSM : Hid (Sm8 xs ts ∧ n1 ≤ 7) := ⟨s2, by have e : xs.length ≤ 7 := s2.2.1; omega⟩
  have H2 : Hid (Blk w2 w.heap.size #[.int .i64 0, .int .i64 0, .bool false, .int .i64 0, .slice none 0 0, .slice none 0 0, .int .i64 0] 27 ∧ Blk w2 (w.heap.size + 1) #[.int .i64 0, .int .i64 0, .int .i64 0, .int .i64 0, .slice none 0 0, .int .i64 0, .int .i64 0, .int .i64 0, .int .i64 0, .int .i64 0, .int .i64 0, .int .i64 0, .int .i64 0, .slice none 0 0, .slice none 0 0, .slice none 0 0] 35 ∧ Cur w2 q a len cap zs i2 h2 ∧ Below w.heap.size w w2 ∧ RdAg w2 (.agg #[.int .i64 id, .int .i64 ep, .bool lv, .int .i64 gr, .slice b1 n1 c1, .slice b2 n2 c2, .int .i64 nx]) ⟨id, ep, lv, gr, xs, ts, nx⟩ F G ∧ w.heap.size + 1 < q ∧ q < w2.heap.size ∧ (∀ b ∈ F, q < b ∧ b < w2.heap.size) ∧ (∀ b ∈ G, q < b ∧ b < w2.heap.size)) := by
    have l1 := HZ1.out.2.2.2.1; have l2 := HZ1.out.2.2.2.2; have l3 := g2.size
    exact ⟨HZ1.out.1.grown g2 (by omega), HZ1.out.2.1.grown g2 (by omega), C2, HZ1.out.2.2.1.grown g2 HZ1.out.2.2.1.size (fun k hk => by simp at hk; omega), r2, l2, by omega, fun b hb => ⟨by have := oF.ge b hb; omega, r2.lt1 b hb⟩, fun b hb => ⟨by have := oG.ge b hb; omega, r2.lt2 b hb⟩⟩
  clear rL rP k1 k2 r2 s2 oF oG C2 g2 HZ1 HC1 hn1
  go_wp2_with (first | go_skip | (with_reducible refine stopLoad 27 rfl ?_) | (with_reducible refine stopStore 27 rfl ?_) | (with_reducible refine stopLoad 35 rfl ?_) | (with_reducible refine stopStore 35 rfl ?_))
  refine store_fresh 27 w2.heap.size rfl #[.int .i64 0, .int .i64 0, .bool false, .int .i64 0, .slice none 0 0, .slice none 0 0, .int .i64 0] #[.int .i64 id, .int .i64 ep, .bool lv, .int .i64 gr, .slice b1 n1 c1, .slice b2 n2 c2, .int .i64 nx] 27 rfl rfl rfl rfl infoAgH8 rfl (by simp [Value.oneCell']) ?_
  intro w3 hg3 hb3
  have H3 : Hid (AH0 w q a len cap zs i2 h2 w2.heap.size #[.int .i64 id, .int .i64 ep, .bool lv, .int .i64 gr, .slice b1 n1 c1, .slice b2 n2 c2, .int .i64 nx] ⟨id, ep, lv, gr, xs, ts, nx⟩ F G w3) := ⟨H2.out.1.below hb3, H2.out.2.1.below hb3, H2.out.2.2.1.below hb3, Below.next H2.out.2.2.2.1 hb3, hg3, H2.out.2.2.2.2.1.below hb3, H2.out.2.2.2.2.2.1, H2.out.2.2.2.2.2.2.1, H2.out.2.2.2.2.2.2.2.1, H2.out.2.2.2.2.2.2.2.2⟩
  obtain ⟨gA, hL⟩ : ∃ L, L = w2.heap.size := ⟨_, rfl⟩
  rw [← hL] at H3 ⊢
  clear hg3 hb3 H2 hL
  go_wp2_with fail
  refine (l7Draw_any q a len cap zs i2 h2 _ H3.out.cur hlen).mono ?_
  rintro e w4 ⟨u, f, F', G', i4, h4, rfl, rf, wf, mf, oF, oG, _, C4, g4⟩
  obtain ⟨bt, lt, ct, p1, m1, e1, p2, m2, e2, p3, m3, e3, rfl, kP, kI, kc⟩ := rf
  have rf : RdFr w4 _ f F' G' := ⟨bt, lt, ct, p1, m1, e1, p2, m2, e2, p3, m3, e3, rfl, kP, kI, kc⟩
  have HSF : Hid (f.item.sk.wide ∧ f.taken.length ≤ 20) := ⟨wf, mf⟩
  obtain ⟨cf, hcf, hcs, hone⟩ : ∃ cf : Array Value, Value.agg #[.int .i64 f.kind, .int .i64 f.agent, .int .i64 f.epoch, .int .i64 f.granted, .slice bt lt ct, .int .i64 f.item.seq, .int .i64 f.item.cls, .int .i64 f.item.key, .int .i64 f.item.window, .int .i64 f.item.sk.count, .int .i64 f.item.sk.sum, .int .i64 f.item.sk.min, .int .i64 f.item.sk.max, .slice p1 m1 e1, .slice p2 m2 e2, .slice p3 m3 e3] = .agg cf ∧ cf.size = 16 ∧ cf.all (·.oneCell') = true := ⟨_, rfl, rfl, by simp [Value.oneCell']⟩
  rw [hcf] at rf ⊢
  have H4 : Hid (AH0 w q a len cap zs i4 h4 gA #[.int .i64 id, .int .i64 ep, .bool lv, .int .i64 gr, .slice b1 n1 c1, .slice b2 n2 c2, .int .i64 nx] ⟨id, ep, lv, gr, xs, ts, nx⟩ F G w4 ∧ RdFr w4 (.agg cf) f F' G' ∧ (∀ b ∈ F', gA < b) ∧ (∀ b ∈ G', gA < b)) := ⟨H3.out.next C4 g4, rf, fun b hb => by have := oF.ge b hb; have := H3.out.va.lt; omega, fun b hb => by have := oG.ge b hb; have := H3.out.va.lt; omega⟩
  have hfi : (Tryz.prog.info? 35).map (·.size) = some cf.size := by rw [hcs]; exact infoFrH8
  clear rf wf mf oF oG C4 g4 H3 kP kI kc hcf
  go_wp2_with (first | go_skip | (with_reducible refine stopLoad 27 rfl ?_) | (with_reducible refine stopStore 27 rfl ?_) | (with_reducible refine stopLoad 35 rfl ?_) | (with_reducible refine stopStore 35 rfl ?_))
  refine store_fresh 35 w4.heap.size rfl #[.int .i64 0, .int .i64 0, .int .i64 0, .int .i64 0, .slice none 0 0, .int .i64 0, .int .i64 0, .int .i64 0, .int .i64 0, .int .i64 0, .int .i64 0, .int .i64 0, .int .i64 0, .slice none 0 0, .slice none 0 0, .slice none 0 0] cf 35 rfl rfl rfl rfl hfi (by rw [hcs]; rfl) hone ?_
  intro w5 hg5 hb5
  have H5 : Hid (AH1 w q a len cap zs i4 h4 gA #[.int .i64 id, .int .i64 ep, .bool lv, .int .i64 gr, .slice b1 n1 c1, .slice b2 n2 c2, .int .i64 nx] ⟨id, ep, lv, gr, xs, ts, nx⟩ F G w4.heap.size cf f F' G' w5) := ⟨H4.out.1.below hb5, hg5, H4.out.2.1.below hb5, H4.out.1.va.lt, fun b hb => ⟨H4.out.2.2.1 b hb, by have := H4.out.2.1.lt1 b hb; omega⟩, fun b hb => ⟨H4.out.2.2.2 b hb, by have := H4.out.2.1.lt2 b hb; omega⟩⟩
  obtain ⟨gF, hL⟩ : ∃ L, L = w4.heap.size := ⟨_, rfl⟩
  rw [← hL] at H5 ⊢
  clear hg5 hb5 H4 hL
  go_wp2_with fail
  refine (l1Once_any q a len cap zs i4 h4 4 _ H5.out.b.cur hlen (by omega) (by omega)).mono ?_
  rintro e w6 ⟨d6, i6, h6, rfl, C6, g6⟩
  have H6 : Hid (AH1 w q a len cap zs i6 h6 gA #[.int .i64 id, .int .i64 ep, .bool lv, .int .i64 gr, .slice b1 n1 c1, .slice b2 n2 c2, .int .i64 nx] ⟨id, ep, lv, gr, xs, ts, nx⟩ F G gF cf f F' G' w6) := H5.out.next C6 g6
  clear C6 g6 H5
  cases d6
  · go_wp2_with fail
    obtain ⟨WD, hWD⟩ : ∃ W, W = w6.drew := ⟨_, rfl⟩
    have HD0 := H6.out.drew
    rw [← hWD] at HD0
    have HD5 : Hid (AH1 w q a len cap zs i6 h6 gA #[.int .i64 id, .int .i64 ep, .bool lv, .int .i64 gr, .slice b1 n1 c1, .slice b2 n2 c2, .int .i64 nx] ⟨id, ep, lv, gr, xs, ts, nx⟩ F G gF cf f F' G' WD) := HD0
    clear HD0 H6
    refine wp_region_held (S := fun W => Blk W gA #[.int .i64 id, .int .i64 ep, .bool lv, .int .i64 gr, .slice b1 n1 c1, .slice b2 n2 c2, .int .i64 nx] 27) (by kernel_rfl) ?_
    change wpAnyH _ _ _ _ _ _ _ _ (World.drew _)
    rw [← hWD]
    clear hWD
    refine takeH (o := ?o62) 0 (.pointer (some ⟨q, 0, none⟩)) ?h62 ?r62
    case h62 => simp only [aT, aZ]; rfl
    refine ⟨_, by simp [Act.put]; rfl, by kernel_rfl, by kernel_rfl, by kernel_rfl, fun _ _ _ h => h, (.inl ⟨rfl, fun W _ => by kernel_rfl⟩), HD5.out.b.va, ?_⟩
    refine takeH (o := ?o63) 3 (.pointer (some ⟨gA, 0, none⟩)) ?h63 ?r63
    case h63 => simp only [aT, aS, aZ]; rfl
    refine ⟨_, by simp [Act.put]; rfl, by kernel_rfl, by kernel_rfl, by kernel_rfl, fun _ _ _ h => h, (.inl ⟨rfl, fun W _ => by kernel_rfl⟩), HD5.out.b.va, ?_⟩
    refine takeH (o := ?o64) 4 (.int .i64 id) ?h64 ?r64
    case h64 => simp only [aT, aS, aZ]; rfl
    refine ⟨_, by simp [Act.put]; rfl, by kernel_rfl, by kernel_rfl, by kernel_rfl, fun _ _ _ h => h, (.inl ⟨rfl, fun W hW => by have c := hW.cell 0; simp only [aT, aZ] at c; go_simp⟩), HD5.out.b.va, ?_⟩
    refine takeH (o := ?o65) 5 (.pointer (some ⟨q, 0, none⟩)) ?h65 ?r65
    case h65 => simp only [aT, aS, aZ]; rfl
    refine ⟨_, by simp [Act.put]; rfl, by kernel_rfl, by kernel_rfl, by kernel_rfl, fun _ _ _ h => h, (.inl ⟨rfl, fun W _ => by kernel_rfl⟩), HD5.out.b.va, ?_⟩
    refine takeH (o := ?o66) 7 (.pointer (some ⟨q, 0, none⟩)) ?h66 ?r66
    case h66 => simp only [aT, aS, aZ]; rfl
    refine ⟨_, by simp [Act.put]; rfl, by kernel_rfl, by kernel_rfl, by kernel_rfl, fun _ _ _ h => h, (.inl ⟨rfl, fun W _ => by kernel_rfl⟩), HD5.out.b.va, ?_⟩
    refine onlyH (o := ?o67) 1 (by kernel_rfl) ?h67 ?r67
    case h67 => simp only [aT, aS, aZ]; rfl
    intro K hK
    refine op_call2v 28 _ _ _ Tryz.f28 (fun v w' => ∃ x i' h', v = .int .i64 x ∧ 0 ≤ x ∧ x < 2 ∧ Cur w' q a len cap zs i' h' ∧ WD.grownBy w' (some q)) rfl rfl Tryz.func28 (by kernel_rfl) (by kernel_rfl) ((l1Below_any q a len cap zs i6 h6 2 WD HD5.out.b.cur hlen (by omega) (by omega)).mono (by rintro e w' ⟨x, i', h', rfl, r⟩; exact ⟨_, rfl, x, i', h', rfl, r⟩)) ?_
    rintro v x1 ⟨y1, j1, t1, rfl, _, y1lt, C9, g9⟩
    have HX1 : Hid (AH1 w q a len cap zs j1 t1 gA #[.int .i64 id, .int .i64 ep, .bool lv, .int .i64 gr, .slice b1 n1 c1, .slice b2 n2 c2, .int .i64 nx] ⟨id, ep, lv, gr, xs, ts, nx⟩ F G gF cf f F' G' x1) := HD5.out.next C9 g9
    clear C9 g9 HD5
    refine ⟨_, by simp [Act.put]; rfl, hK _ _ ⟨HX1.out.b.va, ?_⟩⟩
    clear hK
    obtain ⟨kd, hkd⟩ : ∃ n, n = 2 + y1 := ⟨_, rfl⟩
    have hwk : IntKind.i64.wrap (2 + y1) = kd := by rw [hkd]; exact wrapD (by omega) (by omega)
    refine takeH (o := ?o68) 2 (.int .i64 kd) ?h68 ?r68
    case h68 => simp only [aT, aS, aZ]; rfl
    refine ⟨_, by simp [Act.put]; rfl, by kernel_rfl, by kernel_rfl, by kernel_rfl, fun _ _ _ h => h, (.inl ⟨rfl, fun W _ => by first | (go_simp; done) | (go_simp; exact hwk)⟩), HX1.out.b.va, ?_⟩
    refine onlyH (o := ?o69) 6 (by kernel_rfl) ?h69 ?r69
    case h69 => simp only [aT, aS, aZ]; rfl
    intro K hK
    refine op_call2v 28 _ _ _ Tryz.f28 (fun v w' => ∃ x i' h', v = .int .i64 x ∧ 0 ≤ x ∧ x < 4 ∧ Cur w' q a len cap zs i' h' ∧ x1.grownBy w' (some q)) rfl rfl Tryz.func28 (by kernel_rfl) (by kernel_rfl) ((l1Below_any q a len cap zs j1 t1 4 x1 HX1.out.b.cur hlen (by omega) (by omega)).mono (by rintro e w' ⟨x, i', h', rfl, r⟩; exact ⟨_, rfl, x, i', h', rfl, r⟩)) ?_
    rintro v x2 ⟨y2, j2, t2, rfl, _, y2lt, C9, g9⟩
    have HX2 : Hid (AH1 w q a len cap zs j2 t2 gA #[.int .i64 id, .int .i64 ep, .bool lv, .int .i64 gr, .slice b1 n1 c1, .slice b2 n2 c2, .int .i64 nx] ⟨id, ep, lv, gr, xs, ts, nx⟩ F G gF cf f F' G' x2) := HX1.out.next C9 g9
    clear C9 g9 HX1
    refine ⟨_, by simp [Act.put]; rfl, hK _ _ ⟨HX2.out.b.va, ?_⟩⟩
    clear hK
    refine onlyH (o := ?o70) 8 (by kernel_rfl) ?h70 ?r70
    case h70 => simp only [aT, aS, aZ]; rfl
    intro K hK
    refine op_call2v 28 _ _ _ Tryz.f28 (fun v w' => ∃ x i' h', v = .int .i64 x ∧ 0 ≤ x ∧ x < 9 ∧ Cur w' q a len cap zs i' h' ∧ x2.grownBy w' (some q)) rfl rfl Tryz.func28 (by kernel_rfl) (by kernel_rfl) ((l1Below_any q a len cap zs j2 t2 9 x2 HX2.out.b.cur hlen (by omega) (by omega)).mono (by rintro e w' ⟨x, i', h', rfl, r⟩; exact ⟨_, rfl, x, i', h', rfl, r⟩)) ?_
    rintro v x3 ⟨y3, j3, t3, rfl, _, y3lt, C9, g9⟩
    have HX3 : Hid (AH1 w q a len cap zs j3 t3 gA #[.int .i64 id, .int .i64 ep, .bool lv, .int .i64 gr, .slice b1 n1 c1, .slice b2 n2 c2, .int .i64 nx] ⟨id, ep, lv, gr, xs, ts, nx⟩ F G gF cf f F' G' x3) := HX2.out.next C9 g9
    clear C9 g9 HX2
    refine ⟨_, by simp [Act.put]; rfl, hK _ _ ⟨HX3.out.b.va, ?_⟩⟩
    clear hK
    refine takeH (o := ?o71) 9 (.agg #[.int .i64 kd, .int .i64 id, .int .i64 y2, .int .i64 y3, .slice none 0 0, .int .i64 0, .int .i64 0, .int .i64 0, .int .i64 0, .int .i64 0, .int .i64 0, .int .i64 0, .int .i64 0, .slice none 0 0, .slice none 0 0, .slice none 0 0]) ?h71 ?r71
    case h71 => simp only [aT, aS, aZ]; rfl
    refine ⟨_, by simp [Act.put]; rfl, by kernel_rfl, by kernel_rfl, by kernel_rfl, fun _ _ _ h => h, (.inl ⟨rfl, fun W _ => by kernel_rfl⟩), HX3.out.b.va, ?_⟩
    refine onlyH (o := ?o72) 10 (by kernel_rfl) ?h72 ?r72
    case h72 => simp only [aT, aS, aZ]; rfl
    intro K hK
    have HY0 := HX3.out.frame HA.out kd id y2 y3
    have l3 := HX3.out.lt3
    refine op_store 35 gF cf #[.int .i64 kd, .int .i64 id, .int .i64 y2, .int .i64 y3, .slice none 0 0, .int .i64 0, .int .i64 0, .int .i64 0, .int .i64 0, .int .i64 0, .int .i64 0, .int .i64 0, .int .i64 0, .slice none 0 0, .slice none 0 0, .slice none 0 0] 35 rfl rfl rfl rfl HX3.out.vf infoFrH8 (by rw [hcs]; rfl) (by simp [Value.oneCell']) ⟨_, by simp [Act.put]; rfl, hK _ _ ⟨HY0.b.va, ?_⟩⟩
    clear hK
    refine wpAnyH_done (by kernel_rfl) ?_ _
    obtain ⟨w7, hw7⟩ : ∃ W, W = x3.setRow gF #[.int .i64 kd, .int .i64 id, .int .i64 y2, .int .i64 y3, .slice none 0 0, .int .i64 0, .int .i64 0, .int .i64 0, .int .i64 0, .int .i64 0, .int .i64 0, .int .i64 0, .int .i64 0, .slice none 0 0, .slice none 0 0, .slice none 0 0] := ⟨_, rfl⟩
    rw [← hw7] at HY0 ⊢
    have H7 : Hid (AH1 w q a len cap zs j3 t3 gA #[.int .i64 id, .int .i64 ep, .bool lv, .int .i64 gr, .slice b1 n1 c1, .slice b2 n2 c2, .int .i64 nx] ⟨id, ep, lv, gr, xs, ts, nx⟩ F G gF #[.int .i64 kd, .int .i64 id, .int .i64 y2, .int .i64 y3, .slice none 0 0, .int .i64 0, .int .i64 0, .int .i64 0, .int .i64 0, .int .i64 0, .int .i64 0, .int .i64 0, .int .i64 0, .slice none 0 0, .slice none 0 0, .slice none 0 0] ⟨kd, id, y2, y3, [], It.zero⟩ [] [] w7) := HY0
    have HSZ : Hid (It.zero.sk.wide ∧ ([] : Sp).length ≤ 20) := ⟨zero_wideD, by simp⟩
    clear HY0 hw7 HX3 l3 hwk hkd y1lt y2lt y3lt hone hfi hcs
    have c4' := H7.out.b.va.cell 4
    simp only [aT, aS, aZ] at c4'
    by_cases hn : 0 < n1
    · have hcd : decide ((n1 : Int) > 0) = true := decT (by omega)
      have hcd' : decide ((0 : Int) < (n1 : Int)) = true := decT (by omega)
      go_wp2_with fail
      refine (l1Once_any q a len cap zs j3 t3 2 _ H7.out.b.cur hlen (by omega) (by omega)).mono ?_
      rintro e w8 ⟨d8, i8, h8, rfl, C8, g8⟩
      have H8 : Hid (AH1 w q a len cap zs i8 h8 gA #[.int .i64 id, .int .i64 ep, .bool lv, .int .i64 gr, .slice b1 n1 c1, .slice b2 n2 c2, .int .i64 nx] ⟨id, ep, lv, gr, xs, ts, nx⟩ F G gF #[.int .i64 kd, .int .i64 id, .int .i64 y2, .int .i64 y3, .slice none 0 0, .int .i64 0, .int .i64 0, .int .i64 0, .int .i64 0, .int .i64 0, .int .i64 0, .int .i64 0, .int .i64 0, .slice none 0 0, .slice none 0 0, .slice none 0 0] ⟨kd, id, y2, y3, [], It.zero⟩ [] [] w8) := H7.out.next C8 g8
      clear C8 g8 H7 c4' hcd hcd'
      cases d8
      · go_wp2_with fail
        obtain ⟨WD, hWD⟩ : ∃ W, W = w8.drew := ⟨_, rfl⟩
        have HD0 := H8.out.drew
        rw [← hWD] at HD0
        have HD : Hid (AH1 w q a len cap zs i8 h8 gA #[.int .i64 id, .int .i64 ep, .bool lv, .int .i64 gr, .slice b1 n1 c1, .slice b2 n2 c2, .int .i64 nx] ⟨id, ep, lv, gr, xs, ts, nx⟩ F G gF #[.int .i64 kd, .int .i64 id, .int .i64 y2, .int .i64 y3, .slice none 0 0, .int .i64 0, .int .i64 0, .int .i64 0, .int .i64 0, .int .i64 0, .int .i64 0, .int .i64 0, .int .i64 0, .slice none 0 0, .slice none 0 0, .slice none 0 0] ⟨kd, id, y2, y3, [], It.zero⟩ [] [] WD) := HD0
        clear HD0 H8
        refine wp_region_held (S := fun W => Blk W gA #[.int .i64 id, .int .i64 ep, .bool lv, .int .i64 gr, .slice b1 n1 c1, .slice b2 n2 c2, .int .i64 nx] 27 ∧ Blk W gF #[.int .i64 kd, .int .i64 id, .int .i64 y2, .int .i64 y3, .slice none 0 0, .int .i64 0, .int .i64 0, .int .i64 0, .int .i64 0, .int .i64 0, .int .i64 0, .int .i64 0, .int .i64 0, .slice none 0 0, .slice none 0 0, .slice none 0 0] 35) (by kernel_rfl) ?_
        change wpAnyH _ _ _ _ _ _ _ _ (World.drew _)
        rw [← hWD]
        clear hWD
        have l1 := HD.out.b.lt1
        have l2 := HD.out.b.lt2
        have l3 := HD.out.lt3
        refine takeH (o := ?o77) 0 (.agg #[.int .i64 id, .int .i64 ep, .bool lv, .int .i64 gr, .slice b1 n1 c1, .slice b2 n2 c2, .int .i64 nx]) ?h77 ?r77
        case h77 => simp only [aT, aZ]; rfl
        refine ⟨_, by simp [Act.put]; rfl, by kernel_rfl, by kernel_rfl, by kernel_rfl, fun _ _ _ h => h, (yields_whole 27 gA #[.int .i64 id, .int .i64 ep, .bool lv, .int .i64 gr, .slice b1 n1 c1, .slice b2 n2 c2, .int .i64 nx] 27 _ rfl rfl rfl Tryz.underlying27 rfl infoAgH8 (fun W hW => hW.1)), ⟨HD.out.b.va, HD.out.vf⟩, ?_⟩
        refine takeH (o := ?o78) 1 (.agg #[.int .i64 kd, .int .i64 id, .int .i64 y2, .int .i64 y3, .slice none 0 0, .int .i64 0, .int .i64 0, .int .i64 0, .int .i64 0, .int .i64 0, .int .i64 0, .int .i64 0, .int .i64 0, .slice none 0 0, .slice none 0 0, .slice none 0 0]) ?h78 ?r78
        case h78 => simp only [aT, aS, aZ]; rfl
        refine ⟨_, by simp [Act.put]; rfl, by kernel_rfl, by kernel_rfl, by kernel_rfl, fun _ _ _ h => h, (yields_whole 35 gF #[.int .i64 kd, .int .i64 id, .int .i64 y2, .int .i64 y3, .slice none 0 0, .int .i64 0, .int .i64 0, .int .i64 0, .int .i64 0, .int .i64 0, .int .i64 0, .int .i64 0, .int .i64 0, .slice none 0 0, .slice none 0 0, .slice none 0 0] 35 _ rfl rfl rfl Tryz.underlying35 rfl infoFrH8 (fun W hW => hW.2)), ⟨HD.out.b.va, HD.out.vf⟩, ?_⟩
        refine onlyH (o := ?o79) 2 (by kernel_rfl) ?h79 ?r79
        case h79 => simp only [aT, aS, aZ]; rfl
        intro K hK
        refine op_store 27 w.heap.size #[.int .i64 0, .int .i64 0, .bool false, .int .i64 0, .slice none 0 0, .slice none 0 0, .int .i64 0] #[.int .i64 id, .int .i64 ep, .bool lv, .int .i64 gr, .slice b1 n1 c1, .slice b2 n2 c2, .int .i64 nx] 27 rfl rfl rfl rfl HD.out.b.r1 infoAgH8 rfl (by simp [Value.oneCell']) ⟨_, by simp [Act.put]; rfl, hK _ _ ⟨⟨HD.out.b.va.setRowOther (by omega), HD.out.vf.setRowOther (by omega)⟩, ?_⟩⟩
        clear hK
        refine onlyH (o := ?o80) 3 (by kernel_rfl) ?h80 ?r80
        case h80 => simp only [aT, aS, aZ]; rfl
        intro K hK
        refine op_store 35 (w.heap.size + 1) #[.int .i64 0, .int .i64 0, .int .i64 0, .int .i64 0, .slice none 0 0, .int .i64 0, .int .i64 0, .int .i64 0, .int .i64 0, .int .i64 0, .int .i64 0, .int .i64 0, .int .i64 0, .slice none 0 0, .slice none 0 0, .slice none 0 0] #[.int .i64 kd, .int .i64 id, .int .i64 y2, .int .i64 y3, .slice none 0 0, .int .i64 0, .int .i64 0, .int .i64 0, .int .i64 0, .int .i64 0, .int .i64 0, .int .i64 0, .int .i64 0, .slice none 0 0, .slice none 0 0, .slice none 0 0] 35 rfl rfl rfl rfl (HD.out.b.r2.setRowOther (by omega)) infoFrH8 rfl (by simp [Value.oneCell']) ⟨_, by simp [Act.put]; rfl, hK _ _ ⟨⟨(HD.out.b.va.setRowOther (by omega)).setRowOther (by omega), (HD.out.vf.setRowOther (by omega)).setRowOther (by omega)⟩, ?_⟩⟩
        clear hK
        refine wpAnyH_done (by kernel_rfl) ?_ _
        obtain ⟨WE, hWE⟩ : ∃ W, W = ((WD.setRow w.heap.size #[.int .i64 id, .int .i64 ep, .bool lv, .int .i64 gr, .slice b1 n1 c1, .slice b2 n2 c2, .int .i64 nx]).setRow (w.heap.size + 1) #[.int .i64 kd, .int .i64 id, .int .i64 y2, .int .i64 y3, .slice none 0 0, .int .i64 0, .int .i64 0, .int .i64 0, .int .i64 0, .int .i64 0, .int .i64 0, .int .i64 0, .int .i64 0, .slice none 0 0, .slice none 0 0, .slice none 0 0]) := ⟨_, rfl⟩
        have e1 : Blk WE w.heap.size #[.int .i64 id, .int .i64 ep, .bool lv, .int .i64 gr, .slice b1 n1 c1, .slice b2 n2 c2, .int .i64 nx] 27 := by rw [hWE]; exact (HD.out.b.r1.setRow).setRowOther (by omega)
        have e2 : Blk WE (w.heap.size + 1) #[.int .i64 kd, .int .i64 id, .int .i64 y2, .int .i64 y3, .slice none 0 0, .int .i64 0, .int .i64 0, .int .i64 0, .int .i64 0, .int .i64 0, .int .i64 0, .int .i64 0, .int .i64 0, .slice none 0 0, .slice none 0 0, .slice none 0 0] 35 := by rw [hWE]; exact (HD.out.b.r2.setRowOther (by omega)).setRow
        have e3 : RdAg WE (.agg #[.int .i64 id, .int .i64 ep, .bool lv, .int .i64 gr, .slice b1 n1 c1, .slice b2 n2 c2, .int .i64 nx]) ⟨id, ep, lv, gr, xs, ts, nx⟩ F G := by
          rw [hWE]
          exact (HD.out.b.ra.agree (Agree.row (fun hx => by have := HD.out.b.nF _ hx; omega) _) (Agree.row (fun hx => by have := HD.out.b.nG _ hx; omega) _)).agree (Agree.row (fun hx => by have := HD.out.b.nF _ hx; omega) _) (Agree.row (fun hx => by have := HD.out.b.nG _ hx; omega) _)
        have e4 : RdFr WE (.agg #[.int .i64 kd, .int .i64 id, .int .i64 y2, .int .i64 y3, .slice none 0 0, .int .i64 0, .int .i64 0, .int .i64 0, .int .i64 0, .int .i64 0, .int .i64 0, .int .i64 0, .int .i64 0, .slice none 0 0, .slice none 0 0, .slice none 0 0]) ⟨kd, id, y2, y3, [], It.zero⟩ [] [] := by
          rw [hWE]
          exact (HD.out.rf.agree (Agree.row (fun hx => by have := HD.out.nF _ hx; omega) _) (Agree.row (fun hx => by have := HD.out.nG _ hx; omega) _)).agree (Agree.row (fun hx => by have := HD.out.nF _ hx; omega) _) (Agree.row (fun hx => by have := HD.out.nG _ hx; omega) _)
        have e5 : Below w.heap.size w WE := by rw [hWE]; exact below_setRow (below_setRow HD.out.b.bel (by omega) _) (by omega) _
        rw [← hWE]
        clear hWE HD
        go_wp2
        refine bodyPost_ret (results_row_twoH Tryz.results6 _ _ w.heap.size (w.heap.size + 1) _ _ _ _ _ _ rfl rfl e1 e2 Tryz.underlying27 rfl infoAgH8 Tryz.underlying35 rfl infoFrH8) rfl ?_
        exact ⟨_, _, ⟨id, ep, lv, gr, xs, ts, nx⟩, ⟨kd, id, y2, y3, [], It.zero⟩, F, G, [], [], rfl, e3, e4, HSM.out.1, HSZ.out, e5⟩
      · have c4' := H8.out.b.va.cell 4
        simp only [aT, aS, aZ] at c4'
        go_wp2_with fail
        have hn7 := HSM.out.2
        refine (l1Below_any q a len cap zs i8 h8 n1 _ H8.out.b.cur hlen (by omega) (by omega)).mono ?_
        rintro e w9 ⟨y9, i9, h9, rfl, z0, z1, C9, g9⟩
        have H9 : Hid (AH1 w q a len cap zs i9 h9 gA #[.int .i64 id, .int .i64 ep, .bool lv, .int .i64 gr, .slice b1 n1 c1, .slice b2 n2 c2, .int .i64 nx] ⟨id, ep, lv, gr, xs, ts, nx⟩ F G gF #[.int .i64 kd, .int .i64 id, .int .i64 y2, .int .i64 y3, .slice none 0 0, .int .i64 0, .int .i64 0, .int .i64 0, .int .i64 0, .int .i64 0, .int .i64 0, .int .i64 0, .int .i64 0, .slice none 0 0, .slice none 0 0, .slice none 0 0] ⟨kd, id, y2, y3, [], It.zero⟩ [] [] w9) := H8.out.next C9 g9
        obtain ⟨mm, hmm⟩ : ∃ n, n = 1 + y9 := ⟨_, rfl⟩
        have hwm : IntKind.i64.wrap (1 + y9) = mm := by rw [hmm]; exact wrapD (by omega) (by omega)
        clear C9 g9 H8 c4' hmm z0 z1
        go_wp2_with fail
        try rw [hwm]
        refine (l8One_any mm _).mono ?_
        rintro e w10 ⟨rfl, bz⟩
        have H10 : Hid (AH1 w q a len cap zs i9 h9 gA #[.int .i64 id, .int .i64 ep, .bool lv, .int .i64 gr, .slice b1 n1 c1, .slice b2 n2 c2, .int .i64 nx] ⟨id, ep, lv, gr, xs, ts, nx⟩ F G gF #[.int .i64 kd, .int .i64 id, .int .i64 y2, .int .i64 y3, .slice none 0 0, .int .i64 0, .int .i64 0, .int .i64 0, .int .i64 0, .int .i64 0, .int .i64 0, .int .i64 0, .int .i64 0, .slice none 0 0, .slice none 0 0, .slice none 0 0] ⟨kd, id, y2, y3, [], It.zero⟩ [] [] w10) := H9.out.below bz
        clear bz H9
        have c4' := H10.out.vf.cell 4
        have f4' := H10.out.vf.frozen 4
        simp only [aT, aS, aZ] at c4'
        have bl0 : Below w10.heap.size w10 (w10.alloc (.cells #[.int .i64 mm, .int .i64 mm] 62)) := (Below.refl _ _).alloc (Nat.le_refl _) _
        have c4a := (H10.out.below bl0).vf.cell 4
        have f4a := (H10.out.below bl0).vf.frozen 4
        simp only [aT, aS, aZ] at c4a
        go_wp2_with fail
        clear c4a f4a bl0
        obtain ⟨J, hJ⟩ : ∃ z, z = w10.heap.size := ⟨_, rfl⟩
        obtain ⟨w11, hw11⟩ : ∃ W, W = w10.alloc (.cells #[.int .i64 mm, .int .i64 mm] 62) := ⟨_, rfl⟩
        have bl : Below w10.heap.size w10 w11 := by rw [hw11]; exact (Below.refl _ _).alloc (Nat.le_refl _) _
        have bJ : Blk w11 J #[.int .i64 mm, .int .i64 mm] 62 := by rw [hw11, hJ]; exact Blk.made _ _ _
        have hgJ : gF < J := by rw [hJ]; exact H10.out.vf.lt
        have HT0 := (H10.out.below bl).taken HA.out hgJ bJ
        try rw [← hw11]
        try rw [← hJ]
        obtain ⟨w12, hw12⟩ : ∃ W, W = w11.setCell ⟨gF, 4, none⟩ (.slice (some ⟨J, 0, none⟩) 1 1) := ⟨_, rfl⟩
        rw [← hw12] at HT0 ⊢
        have HT : Hid (AH1 w q a len cap zs i9 h9 gA #[.int .i64 id, .int .i64 ep, .bool lv, .int .i64 gr, .slice b1 n1 c1, .slice b2 n2 c2, .int .i64 nx] ⟨id, ep, lv, gr, xs, ts, nx⟩ F G gF #[.int .i64 kd, .int .i64 id, .int .i64 y2, .int .i64 y3, .slice (some ⟨J, 0, none⟩) 1 1, .int .i64 0, .int .i64 0, .int .i64 0, .int .i64 0, .int .i64 0, .int .i64 0, .int .i64 0, .int .i64 0, .slice none 0 0, .slice none 0 0, .slice none 0 0] ⟨kd, id, y2, y3, [(mm, mm)], It.zero⟩ [J] [] w12) := HT0
        have HSZ2 : Hid (It.zero.sk.wide ∧ ([(mm, mm)] : Sp).length ≤ 20) := ⟨zero_wideD, by simp⟩
        clear HT0 hw12 bl bJ hgJ H10 hw11 hJ c4' f4' hwm HSZ
        go_wp2_with fail
        obtain ⟨WD, hWD⟩ : ∃ W, W = w12.drew := ⟨_, rfl⟩
        have HD0 := HT.out.drew
        rw [← hWD] at HD0
        have HD : Hid (AH1 w q a len cap zs i9 h9 gA #[.int .i64 id, .int .i64 ep, .bool lv, .int .i64 gr, .slice b1 n1 c1, .slice b2 n2 c2, .int .i64 nx] ⟨id, ep, lv, gr, xs, ts, nx⟩ F G gF #[.int .i64 kd, .int .i64 id, .int .i64 y2, .int .i64 y3, .slice (some ⟨J, 0, none⟩) 1 1, .int .i64 0, .int .i64 0, .int .i64 0, .int .i64 0, .int .i64 0, .int .i64 0, .int .i64 0, .int .i64 0, .slice none 0 0, .slice none 0 0, .slice none 0 0] ⟨kd, id, y2, y3, [(mm, mm)], It.zero⟩ [J] [] WD) := HD0
        clear HD0 HT
        refine wp_region_held (S := fun W => Blk W gA #[.int .i64 id, .int .i64 ep, .bool lv, .int .i64 gr, .slice b1 n1 c1, .slice b2 n2 c2, .int .i64 nx] 27 ∧ Blk W gF #[.int .i64 kd, .int .i64 id, .int .i64 y2, .int .i64 y3, .slice (some ⟨J, 0, none⟩) 1 1, .int .i64 0, .int .i64 0, .int .i64 0, .int .i64 0, .int .i64 0, .int .i64 0, .int .i64 0, .int .i64 0, .slice none 0 0, .slice none 0 0, .slice none 0 0] 35) (by kernel_rfl) ?_
        change wpAnyH _ _ _ _ _ _ _ _ (World.drew _)
        rw [← hWD]
        clear hWD
        have l1 := HD.out.b.lt1
        have l2 := HD.out.b.lt2
        have l3 := HD.out.lt3
        refine takeH (o := ?o73) 0 (.agg #[.int .i64 id, .int .i64 ep, .bool lv, .int .i64 gr, .slice b1 n1 c1, .slice b2 n2 c2, .int .i64 nx]) ?h73 ?r73
        case h73 => simp only [aT, aZ]; rfl
        refine ⟨_, by simp [Act.put]; rfl, by kernel_rfl, by kernel_rfl, by kernel_rfl, fun _ _ _ h => h, (yields_whole 27 gA #[.int .i64 id, .int .i64 ep, .bool lv, .int .i64 gr, .slice b1 n1 c1, .slice b2 n2 c2, .int .i64 nx] 27 _ rfl rfl rfl Tryz.underlying27 rfl infoAgH8 (fun W hW => hW.1)), ⟨HD.out.b.va, HD.out.vf⟩, ?_⟩
        refine takeH (o := ?o74) 1 (.agg #[.int .i64 kd, .int .i64 id, .int .i64 y2, .int .i64 y3, .slice (some ⟨J, 0, none⟩) 1 1, .int .i64 0, .int .i64 0, .int .i64 0, .int .i64 0, .int .i64 0, .int .i64 0, .int .i64 0, .int .i64 0, .slice none 0 0, .slice none 0 0, .slice none 0 0]) ?h74 ?r74
        case h74 => simp only [aT, aS, aZ]; rfl
        refine ⟨_, by simp [Act.put]; rfl, by kernel_rfl, by kernel_rfl, by kernel_rfl, fun _ _ _ h => h, (yields_whole 35 gF #[.int .i64 kd, .int .i64 id, .int .i64 y2, .int .i64 y3, .slice (some ⟨J, 0, none⟩) 1 1, .int .i64 0, .int .i64 0, .int .i64 0, .int .i64 0, .int .i64 0, .int .i64 0, .int .i64 0, .int .i64 0, .slice none 0 0, .slice none 0 0, .slice none 0 0] 35 _ rfl rfl rfl Tryz.underlying35 rfl infoFrH8 (fun W hW => hW.2)), ⟨HD.out.b.va, HD.out.vf⟩, ?_⟩
        refine onlyH (o := ?o75) 2 (by kernel_rfl) ?h75 ?r75
        case h75 => simp only [aT, aS, aZ]; rfl
        intro K hK
        refine op_store 27 w.heap.size #[.int .i64 0, .int .i64 0, .bool false, .int .i64 0, .slice none 0 0, .slice none 0 0, .int .i64 0] #[.int .i64 id, .int .i64 ep, .bool lv, .int .i64 gr, .slice b1 n1 c1, .slice b2 n2 c2, .int .i64 nx] 27 rfl rfl rfl rfl HD.out.b.r1 infoAgH8 rfl (by simp [Value.oneCell']) ⟨_, by simp [Act.put]; rfl, hK _ _ ⟨⟨HD.out.b.va.setRowOther (by omega), HD.out.vf.setRowOther (by omega)⟩, ?_⟩⟩
        clear hK
        refine onlyH (o := ?o76) 3 (by kernel_rfl) ?h76 ?r76
        case h76 => simp only [aT, aS, aZ]; rfl
        intro K hK
        refine op_store 35 (w.heap.size + 1) #[.int .i64 0, .int .i64 0, .int .i64 0, .int .i64 0, .slice none 0 0, .int .i64 0, .int .i64 0, .int .i64 0, .int .i64 0, .int .i64 0, .int .i64 0, .int .i64 0, .int .i64 0, .slice none 0 0, .slice none 0 0, .slice none 0 0] #[.int .i64 kd, .int .i64 id, .int .i64 y2, .int .i64 y3, .slice (some ⟨J, 0, none⟩) 1 1, .int .i64 0, .int .i64 0, .int .i64 0, .int .i64 0, .int .i64 0, .int .i64 0, .int .i64 0, .int .i64 0, .slice none 0 0, .slice none 0 0, .slice none 0 0] 35 rfl rfl rfl rfl (HD.out.b.r2.setRowOther (by omega)) infoFrH8 rfl (by simp [Value.oneCell']) ⟨_, by simp [Act.put]; rfl, hK _ _ ⟨⟨(HD.out.b.va.setRowOther (by omega)).setRowOther (by omega), (HD.out.vf.setRowOther (by omega)).setRowOther (by omega)⟩, ?_⟩⟩
        clear hK
        refine wpAnyH_done (by kernel_rfl) ?_ _
        obtain ⟨WE, hWE⟩ : ∃ W, W = ((WD.setRow w.heap.size #[.int .i64 id, .int .i64 ep, .bool lv, .int .i64 gr, .slice b1 n1 c1, .slice b2 n2 c2, .int .i64 nx]).setRow (w.heap.size + 1) #[.int .i64 kd, .int .i64 id, .int .i64 y2, .int .i64 y3, .slice (some ⟨J, 0, none⟩) 1 1, .int .i64 0, .int .i64 0, .int .i64 0, .int .i64 0, .int .i64 0, .int .i64 0, .int .i64 0, .int .i64 0, .slice none 0 0, .slice none 0 0, .slice none 0 0]) := ⟨_, rfl⟩
        have e1 : Blk WE w.heap.size #[.int .i64 id, .int .i64 ep, .bool lv, .int .i64 gr, .slice b1 n1 c1, .slice b2 n2 c2, .int .i64 nx] 27 := by rw [hWE]; exact (HD.out.b.r1.setRow).setRowOther (by omega)
        have e2 : Blk WE (w.heap.size + 1) #[.int .i64 kd, .int .i64 id, .int .i64 y2, .int .i64 y3, .slice (some ⟨J, 0, none⟩) 1 1, .int .i64 0, .int .i64 0, .int .i64 0, .int .i64 0, .int .i64 0, .int .i64 0, .int .i64 0, .int .i64 0, .slice none 0 0, .slice none 0 0, .slice none 0 0] 35 := by rw [hWE]; exact (HD.out.b.r2.setRowOther (by omega)).setRow
        have e3 : RdAg WE (.agg #[.int .i64 id, .int .i64 ep, .bool lv, .int .i64 gr, .slice b1 n1 c1, .slice b2 n2 c2, .int .i64 nx]) ⟨id, ep, lv, gr, xs, ts, nx⟩ F G := by
          rw [hWE]
          exact (HD.out.b.ra.agree (Agree.row (fun hx => by have := HD.out.b.nF _ hx; omega) _) (Agree.row (fun hx => by have := HD.out.b.nG _ hx; omega) _)).agree (Agree.row (fun hx => by have := HD.out.b.nF _ hx; omega) _) (Agree.row (fun hx => by have := HD.out.b.nG _ hx; omega) _)
        have e4 : RdFr WE (.agg #[.int .i64 kd, .int .i64 id, .int .i64 y2, .int .i64 y3, .slice (some ⟨J, 0, none⟩) 1 1, .int .i64 0, .int .i64 0, .int .i64 0, .int .i64 0, .int .i64 0, .int .i64 0, .int .i64 0, .int .i64 0, .slice none 0 0, .slice none 0 0, .slice none 0 0]) ⟨kd, id, y2, y3, [(mm, mm)], It.zero⟩ [J] [] := by
          rw [hWE]
          exact (HD.out.rf.agree (Agree.row (fun hx => by have := HD.out.nF _ hx; omega) _) (Agree.row (fun hx => by have := HD.out.nG _ hx; omega) _)).agree (Agree.row (fun hx => by have := HD.out.nF _ hx; omega) _) (Agree.row (fun hx => by have := HD.out.nG _ hx; omega) _)
        have e5 : Below w.heap.size w WE := by rw [hWE]; exact below_setRow (below_setRow HD.out.b.bel (by omega) _) (by omega) _
        rw [← hWE]
        clear hWE HD
        go_wp2
        refine bodyPost_ret (results_row_twoH Tryz.results6 _ _ w.heap.size (w.heap.size + 1) _ _ _ _ _ _ rfl rfl e1 e2 Tryz.underlying27 rfl infoAgH8 Tryz.underlying35 rfl infoFrH8) rfl ?_
        exact ⟨_, _, ⟨id, ep, lv, gr, xs, ts, nx⟩, ⟨kd, id, y2, y3, [(mm, mm)], It.zero⟩, F, G, [J], [], rfl, e3, e4, HSM.out.1, HSZ2.out, e5⟩
    · have hcd : decide ((n1 : Int) > 0) = false := dec_false (by omega)
      have hcd' : decide ((0 : Int) < (n1 : Int)) = false := dec_false (by omega)
      go_wp2_with fail
      obtain ⟨WD, hWD⟩ : ∃ W, W = w7.drew := ⟨_, rfl⟩
      have HD0 := H7.out.drew
      rw [← hWD] at HD0
      have HD : Hid (AH1 w q a len cap zs j3 t3 gA #[.int .i64 id, .int .i64 ep, .bool lv, .int .i64 gr, .slice b1 n1 c1, .slice b2 n2 c2, .int .i64 nx] ⟨id, ep, lv, gr, xs, ts, nx⟩ F G gF #[.int .i64 kd, .int .i64 id, .int .i64 y2, .int .i64 y3, .slice none 0 0, .int .i64 0, .int .i64 0, .int .i64 0, .int .i64 0, .int .i64 0, .int .i64 0, .int .i64 0, .int .i64 0, .slice none 0 0, .slice none 0 0, .slice none 0 0] ⟨kd, id, y2, y3, [], It.zero⟩ [] [] WD) := HD0
      clear HD0 H7
      refine wp_region_held (S := fun W => Blk W gA #[.int .i64 id, .int .i64 ep, .bool lv, .int .i64 gr, .slice b1 n1 c1, .slice b2 n2 c2, .int .i64 nx] 27 ∧ Blk W gF #[.int .i64 kd, .int .i64 id, .int .i64 y2, .int .i64 y3, .slice none 0 0, .int .i64 0, .int .i64 0, .int .i64 0, .int .i64 0, .int .i64 0, .int .i64 0, .int .i64 0, .int .i64 0, .slice none 0 0, .slice none 0 0, .slice none 0 0] 35) (by kernel_rfl) ?_
      change wpAnyH _ _ _ _ _ _ _ _ (World.drew _)
      rw [← hWD]
      clear hWD
      have l1 := HD.out.b.lt1
      have l2 := HD.out.b.lt2
      have l3 := HD.out.lt3
      refine takeH (o := ?o81) 0 (.agg #[.int .i64 id, .int .i64 ep, .bool lv, .int .i64 gr, .slice b1 n1 c1, .slice b2 n2 c2, .int .i64 nx]) ?h81 ?r81
      case h81 => simp only [aT, aZ]; rfl
      refine ⟨_, by simp [Act.put]; rfl, by kernel_rfl, by kernel_rfl, by kernel_rfl, fun _ _ _ h => h, (yields_whole 27 gA #[.int .i64 id, .int .i64 ep, .bool lv, .int .i64 gr, .slice b1 n1 c1, .slice b2 n2 c2, .int .i64 nx] 27 _ rfl rfl rfl Tryz.underlying27 rfl infoAgH8 (fun W hW => hW.1)), ⟨HD.out.b.va, HD.out.vf⟩, ?_⟩
      refine takeH (o := ?o82) 1 (.agg #[.int .i64 kd, .int .i64 id, .int .i64 y2, .int .i64 y3, .slice none 0 0, .int .i64 0, .int .i64 0, .int .i64 0, .int .i64 0, .int .i64 0, .int .i64 0, .int .i64 0, .int .i64 0, .slice none 0 0, .slice none 0 0, .slice none 0 0]) ?h82 ?r82
      case h82 => simp only [aT, aS, aZ]; rfl
      refine ⟨_, by simp [Act.put]; rfl, by kernel_rfl, by kernel_rfl, by kernel_rfl, fun _ _ _ h => h, (yields_whole 35 gF #[.int .i64 kd, .int .i64 id, .int .i64 y2, .int .i64 y3, .slice none 0 0, .int .i64 0, .int .i64 0, .int .i64 0, .int .i64 0, .int .i64 0, .int .i64 0, .int .i64 0, .int .i64 0, .slice none 0 0, .slice none 0 0, .slice none 0 0] 35 _ rfl rfl rfl Tryz.underlying35 rfl infoFrH8 (fun W hW => hW.2)), ⟨HD.out.b.va, HD.out.vf⟩, ?_⟩
      refine onlyH (o := ?o83) 2 (by kernel_rfl) ?h83 ?r83
      case h83 => simp only [aT, aS, aZ]; rfl
      intro K hK
      refine op_store 27 w.heap.size #[.int .i64 0, .int .i64 0, .bool false, .int .i64 0, .slice none 0 0, .slice none 0 0, .int .i64 0] #[.int .i64 id, .int .i64 ep, .bool lv, .int .i64 gr, .slice b1 n1 c1, .slice b2 n2 c2, .int .i64 nx] 27 rfl rfl rfl rfl HD.out.b.r1 infoAgH8 rfl (by simp [Value.oneCell']) ⟨_, by simp [Act.put]; rfl, hK _ _ ⟨⟨HD.out.b.va.setRowOther (by omega), HD.out.vf.setRowOther (by omega)⟩, ?_⟩⟩
      clear hK
      refine onlyH (o := ?o84) 3 (by kernel_rfl) ?h84 ?r84
      case h84 => simp only [aT, aS, aZ]; rfl
      intro K hK
      refine op_store 35 (w.heap.size + 1) #[.int .i64 0, .int .i64 0, .int .i64 0, .int .i64 0, .slice none 0 0, .int .i64 0, .int .i64 0, .int .i64 0, .int .i64 0, .int .i64 0, .int .i64 0, .int .i64 0, .int .i64 0, .slice none 0 0, .slice none 0 0, .slice none 0 0] #[.int .i64 kd, .int .i64 id, .int .i64 y2, .int .i64 y3, .slice none 0 0, .int .i64 0, .int .i64 0, .int .i64 0, .int .i64 0, .int .i64 0, .int .i64 0, .int .i64 0, .int .i64 0, .slice none 0 0, .slice none 0 0, .slice none 0 0] 35 rfl rfl rfl rfl (HD.out.b.r2.setRowOther (by omega)) infoFrH8 rfl (by simp [Value.oneCell']) ⟨_, by simp [Act.put]; rfl, hK _ _ ⟨⟨(HD.out.b.va.setRowOther (by omega)).setRowOther (by omega), (HD.out.vf.setRowOther (by omega)).setRowOther (by omega)⟩, ?_⟩⟩
      clear hK
      refine wpAnyH_done (by kernel_rfl) ?_ _
      obtain ⟨WE, hWE⟩ : ∃ W, W = ((WD.setRow w.heap.size #[.int .i64 id, .int .i64 ep, .bool lv, .int .i64 gr, .slice b1 n1 c1, .slice b2 n2 c2, .int .i64 nx]).setRow (w.heap.size + 1) #[.int .i64 kd, .int .i64 id, .int .i64 y2, .int .i64 y3, .slice none 0 0, .int .i64 0, .int .i64 0, .int .i64 0, .int .i64 0, .int .i64 0, .int .i64 0, .int .i64 0, .int .i64 0, .slice none 0 0, .slice none 0 0, .slice none 0 0]) := ⟨_, rfl⟩
      have e1 : Blk WE w.heap.size #[.int .i64 id, .int .i64 ep, .bool lv, .int .i64 gr, .slice b1 n1 c1, .slice b2 n2 c2, .int .i64 nx] 27 := by rw [hWE]; exact (HD.out.b.r1.setRow).setRowOther (by omega)
      have e2 : Blk WE (w.heap.size + 1) #[.int .i64 kd, .int .i64 id, .int .i64 y2, .int .i64 y3, .slice none 0 0, .int .i64 0, .int .i64 0, .int .i64 0, .int .i64 0, .int .i64 0, .int .i64 0, .int .i64 0, .int .i64 0, .slice none 0 0, .slice none 0 0, .slice none 0 0] 35 := by rw [hWE]; exact (HD.out.b.r2.setRowOther (by omega)).setRow
      have e3 : RdAg WE (.agg #[.int .i64 id, .int .i64 ep, .bool lv, .int .i64 gr, .slice b1 n1 c1, .slice b2 n2 c2, .int .i64 nx]) ⟨id, ep, lv, gr, xs, ts, nx⟩ F G := by
        rw [hWE]
        exact (HD.out.b.ra.agree (Agree.row (fun hx => by have := HD.out.b.nF _ hx; omega) _) (Agree.row (fun hx => by have := HD.out.b.nG _ hx; omega) _)).agree (Agree.row (fun hx => by have := HD.out.b.nF _ hx; omega) _) (Agree.row (fun hx => by have := HD.out.b.nG _ hx; omega) _)
      have e4 : RdFr WE (.agg #[.int .i64 kd, .int .i64 id, .int .i64 y2, .int .i64 y3, .slice none 0 0, .int .i64 0, .int .i64 0, .int .i64 0, .int .i64 0, .int .i64 0, .int .i64 0, .int .i64 0, .int .i64 0, .slice none 0 0, .slice none 0 0, .slice none 0 0]) ⟨kd, id, y2, y3, [], It.zero⟩ [] [] := by
        rw [hWE]
        exact (HD.out.rf.agree (Agree.row (fun hx => by have := HD.out.nF _ hx; omega) _) (Agree.row (fun hx => by have := HD.out.nG _ hx; omega) _)).agree (Agree.row (fun hx => by have := HD.out.nF _ hx; omega) _) (Agree.row (fun hx => by have := HD.out.nG _ hx; omega) _)
      have e5 : Below w.heap.size w WE := by rw [hWE]; exact below_setRow (below_setRow HD.out.b.bel (by omega) _) (by omega) _
      rw [← hWE]
      clear hWE HD
      go_wp2
      refine bodyPost_ret (results_row_twoH Tryz.results6 _ _ w.heap.size (w.heap.size + 1) _ _ _ _ _ _ rfl rfl e1 e2 Tryz.underlying27 rfl infoAgH8 Tryz.underlying35 rfl infoFrH8) rfl ?_
      exact ⟨_, _, ⟨id, ep, lv, gr, xs, ts, nx⟩, ⟨kd, id, y2, y3, [], It.zero⟩, F, G, [], [], rfl, e3, e4, HSM.out.1, HSZ.out, e5⟩
  · go_wp2_with fail
    obtain ⟨WD, hWD⟩ : ∃ W, W = w6.drew := ⟨_, rfl⟩
    have HD0 := H6.out.drew
    rw [← hWD] at HD0
    have HD : Hid (AH1 w q a len cap zs i6 h6 gA #[.int .i64 id, .int .i64 ep, .bool lv, .int .i64 gr, .slice b1 n1 c1, .slice b2 n2 c2, .int .i64 nx] ⟨id, ep, lv, gr, xs, ts, nx⟩ F G gF cf f F' G' WD) := HD0
    clear HD0 H6
    refine wp_region_held (S := fun W => Blk W gA #[.int .i64 id, .int .i64 ep, .bool lv, .int .i64 gr, .slice b1 n1 c1, .slice b2 n2 c2, .int .i64 nx] 27 ∧ Blk W gF cf 35) (by kernel_rfl) ?_
    change wpAnyH _ _ _ _ _ _ _ _ (World.drew _)
    rw [← hWD]
    clear hWD
    have l1 := HD.out.b.lt1
    have l2 := HD.out.b.lt2
    have l3 := HD.out.lt3
    refine takeH (o := ?o58) 0 (.agg #[.int .i64 id, .int .i64 ep, .bool lv, .int .i64 gr, .slice b1 n1 c1, .slice b2 n2 c2, .int .i64 nx]) ?h58 ?r58
    case h58 => simp only [aT, aZ]; rfl
    refine ⟨_, by simp [Act.put]; rfl, by kernel_rfl, by kernel_rfl, by kernel_rfl, fun _ _ _ h => h, (yields_whole 27 gA #[.int .i64 id, .int .i64 ep, .bool lv, .int .i64 gr, .slice b1 n1 c1, .slice b2 n2 c2, .int .i64 nx] 27 _ rfl rfl rfl Tryz.underlying27 rfl infoAgH8 (fun W hW => hW.1)), ⟨HD.out.b.va, HD.out.vf⟩, ?_⟩
    refine takeH (o := ?o59) 1 (.agg cf) ?h59 ?r59
    case h59 => simp only [aT, aS, aZ]; rfl
    refine ⟨_, by simp [Act.put]; rfl, by kernel_rfl, by kernel_rfl, by kernel_rfl, fun _ _ _ h => h, (yields_whole 35 gF cf 35 _ rfl rfl rfl Tryz.underlying35 rfl hfi (fun W hW => hW.2)), ⟨HD.out.b.va, HD.out.vf⟩, ?_⟩
    refine onlyH (o := ?o60) 2 (by kernel_rfl) ?h60 ?r60
    case h60 => simp only [aT, aS, aZ]; rfl
    intro K hK
    refine op_store 27 w.heap.size #[.int .i64 0, .int .i64 0, .bool false, .int .i64 0, .slice none 0 0, .slice none 0 0, .int .i64 0] #[.int .i64 id, .int .i64 ep, .bool lv, .int .i64 gr, .slice b1 n1 c1, .slice b2 n2 c2, .int .i64 nx] 27 rfl rfl rfl rfl HD.out.b.r1 infoAgH8 rfl (by simp [Value.oneCell']) ⟨_, by simp [Act.put]; rfl, hK _ _ ⟨⟨HD.out.b.va.setRowOther (by omega), HD.out.vf.setRowOther (by omega)⟩, ?_⟩⟩
    clear hK
    refine onlyH (o := ?o61) 3 (by kernel_rfl) ?h61 ?r61
    case h61 => simp only [aT, aS, aZ]; rfl
    intro K hK
    refine op_store 35 (w.heap.size + 1) #[.int .i64 0, .int .i64 0, .int .i64 0, .int .i64 0, .slice none 0 0, .int .i64 0, .int .i64 0, .int .i64 0, .int .i64 0, .int .i64 0, .int .i64 0, .int .i64 0, .int .i64 0, .slice none 0 0, .slice none 0 0, .slice none 0 0] cf 35 rfl rfl rfl rfl (HD.out.b.r2.setRowOther (by omega)) hfi (by rw [hcs]; rfl) hone ⟨_, by simp [Act.put]; rfl, hK _ _ ⟨⟨(HD.out.b.va.setRowOther (by omega)).setRowOther (by omega), (HD.out.vf.setRowOther (by omega)).setRowOther (by omega)⟩, ?_⟩⟩
    clear hK
    refine wpAnyH_done (by kernel_rfl) ?_ _
    obtain ⟨WE, hWE⟩ : ∃ W, W = ((WD.setRow w.heap.size #[.int .i64 id, .int .i64 ep, .bool lv, .int .i64 gr, .slice b1 n1 c1, .slice b2 n2 c2, .int .i64 nx]).setRow (w.heap.size + 1) cf) := ⟨_, rfl⟩
    have e1 : Blk WE w.heap.size #[.int .i64 id, .int .i64 ep, .bool lv, .int .i64 gr, .slice b1 n1 c1, .slice b2 n2 c2, .int .i64 nx] 27 := by rw [hWE]; exact (HD.out.b.r1.setRow).setRowOther (by omega)
    have e2 : Blk WE (w.heap.size + 1) cf 35 := by rw [hWE]; exact (HD.out.b.r2.setRowOther (by omega)).setRow
    have e3 : RdAg WE (.agg #[.int .i64 id, .int .i64 ep, .bool lv, .int .i64 gr, .slice b1 n1 c1, .slice b2 n2 c2, .int .i64 nx]) ⟨id, ep, lv, gr, xs, ts, nx⟩ F G := by
      rw [hWE]
      exact (HD.out.b.ra.agree (Agree.row (fun hx => by have := HD.out.b.nF _ hx; omega) _) (Agree.row (fun hx => by have := HD.out.b.nG _ hx; omega) _)).agree (Agree.row (fun hx => by have := HD.out.b.nF _ hx; omega) _) (Agree.row (fun hx => by have := HD.out.b.nG _ hx; omega) _)
    have e4 : RdFr WE (.agg cf) f F' G' := by
      rw [hWE]
      exact (HD.out.rf.agree (Agree.row (fun hx => by have := HD.out.nF _ hx; omega) _) (Agree.row (fun hx => by have := HD.out.nG _ hx; omega) _)).agree (Agree.row (fun hx => by have := HD.out.nF _ hx; omega) _) (Agree.row (fun hx => by have := HD.out.nG _ hx; omega) _)
    have e5 : Below w.heap.size w WE := by rw [hWE]; exact below_setRow (below_setRow HD.out.b.bel (by omega) _) (by omega) _
    rw [← hWE]
    clear hWE HD
    go_wp2
    refine bodyPost_ret (results_row_twoH Tryz.results6 _ _ w.heap.size (w.heap.size + 1) _ _ _ _ _ _ rfl rfl e1 e2 Tryz.underlying27 rfl infoAgH8 Tryz.underlying35 rfl hfi) rfl ?_
    exact ⟨_, _, ⟨id, ep, lv, gr, xs, ts, nx⟩, f, F, G, F', G', rfl, e3, e4, HSM.out.1, HSF.out, e5⟩
end Go.Proofs.YtgkbhhlkaifnoaaGreatDoor
/- The walks through the program's SetAdd and SetJoin. No statement of the seat is proved here. -/
namespace Go.Proofs.YtgkbhhlkaifnoaaGreatDoor
open Go.RowKit
set_option maxRecDepth 200000 in
theorem single_any (n : Int) (w : World) : Calls Tryz.prog 73 #[.int .i64 n] w fun e w' => e = .returned (.agg #[.int .i64 n, .int .i64 n]) ∧ Below w.heap.size w w' := by
  have HB : Hid (Below w.heap.size w (w.alloc (.cells #[.int .i64 n, .int .i64 n] 62))) := Below.allocW _ (Below.refl _ _) (Nat.le_refl _)
  have HK : Hid (Blk (w.alloc (.cells #[.int .i64 n, .int .i64 n] 62)) w.heap.size #[.int .i64 n, .int .i64 n] 62) := Blk.made _ _ _
  go_enter Tryz.func73, Tryz.ntmps73
  go_wp2
  refine bodyPost_ret (results_cell_row Tryz.results73 _ _ w.heap.size _ _ (0, 0) _ rfl HK.out Tryz.underlying62 rfl (by kernel_rfl)) rfl ?_
  exact ⟨rfl, HB.out⟩
theorem inb_ok {ps : Sp} (h : ps.ok = true) : ∀ p ∈ ps, InB p := inb_iff.1 (ok_inb h)
set_option maxRecDepth 200000 in
set_option maxHeartbeats 4000000 in
theorem joinImpl_any (a b : Option Addr) (la lb ca cb : Nat) (ps qs : Sp) (F G : List Nat) (w : World) (h : RdP w a la ps F) (k : RdP w b lb qs G) (hlen : la + lb ≤ 2097152) (hca : la ≤ ca) :
    Calls Tryz.prog 10 #[.slice a la ca, .slice b lb cb] w fun e w' => NewP2 w (ps.join qs) (ps.ok && qs.ok) e w' := by
  have HR : Hid (RdP w a la ps F ∧ RdP w b lb qs G) := ⟨h, k⟩
  clear h k
  go_enter Tryz.func10, Tryz.ntmps10
  go_wp2_with fail
  refine (setOkImpl_any a la ca ps F _ HR.out.1 (by omega)).mono ?_
  rintro e w1 ⟨rfl, hb⟩
  have HB0 : Hid (Below w.heap.size w w1) := hb
  clear hb
  obtain ⟨d, hd⟩ : ∃ d, d = ps.ok := ⟨_, rfl⟩
  rw [← hd]
  have HD : Hid (d = ps.ok) := hd
  clear hd
  cases d
  · have HV : Hid (ps.join qs = [] ∧ (ps.ok && qs.ok) = false) := ⟨Sp.join_not (by rw [← HD.out]; rfl), by rw [← HD.out]; rfl⟩
    go_wp2
    go_ret2
    rw [HV.out.1, HV.out.2]
    exact ⟨_, 0, 0, [], rfl, RdP.nil, Own.nil, HB0.out, fun _ => rfl, Nat.le_refl _⟩
  go_wp2_with fail
  refine (setOkImpl_any b lb cb qs G _ (HR.out.2.below HB0.out) (by omega)).mono ?_
  rintro e w2 ⟨rfl, hb⟩
  have HB1 : Hid (Below w.heap.size w w2) := Below.next HB0.out hb
  clear hb HB0
  obtain ⟨d, hd⟩ : ∃ d, d = qs.ok := ⟨_, rfl⟩
  rw [← hd]
  have HE : Hid (d = qs.ok) := hd
  clear hd
  cases d
  · have HV : Hid (ps.join qs = [] ∧ (ps.ok && qs.ok) = false) := ⟨Sp.join_not (by rw [← HD.out, ← HE.out]; rfl), by rw [← HD.out, ← HE.out]; rfl⟩
    go_wp2
    go_ret2
    rw [HV.out.1, HV.out.2]
    exact ⟨_, 0, 0, [], rfl, RdP.nil, Own.nil, HB1.out, fun _ => rfl, Nat.le_refl _⟩
  have HV : Hid (both ps qs [] = ps.join qs ∧ (ps.ok && qs.ok) = true) := ⟨both_join HD.out.symm HE.out.symm, by rw [← HD.out, ← HE.out]; rfl⟩
  go_wp2_with fail
  refine (spansOfBoth_any a b la lb ca cb ps qs F G _ (HR.out.1.below HB1.out) (HR.out.2.below HB1.out) (by omega) hca (inb_ok HD.out.symm) (inb_ok HE.out.symm)).mono ?_
  rintro e w3 ⟨a', l', c', F', rfl, g1, g2, g3, g4⟩
  have HN : Hid (RdP w3 a' l' (ps.join qs) F' ∧ Own w.heap.size w3 F' ∧ Below w.heap.size w w3 ∧ Capd a' l' c') := ⟨by rw [← HV.out.1]; exact g1, g2.mono HB1.out.size, Below.next HB1.out g3, g4⟩
  clear g1 g2 g3 g4
  go_wp2
  go_ret2
  rw [HV.out.2]
  exact ⟨a', l', c', F', rfl, HN.out⟩
end Go.Proofs.YtgkbhhlkaifnoaaGreatDoor
/- The walks through the program's newsFor, turnedBy and AgentHear. No statement of the seat is proved here. -/
namespace Go.Proofs.YtgkbhhlkaifnoaaGreatDoor
open Go.RowKit
section
variable {P : Program} {ops : Array Oper} {Q : Exit → Act → World → Prop} {a : Act} {w : World} {o : Oper} {K : Act → World → Prop}
/-- A method called on an interface value whose type is known. -/
theorem op_invoke0 (x : Operand) (name : String) (T : TypeId) (rv : Value) (f : FuncId) (fn : Func) (R : Value → World → Prop) (hw : Region.wanted o (yielded ops a.tmps) = true) (ho : o.op = Op.call { callee := Callee.invoke x name, args := #[], argTypes := #[] })
    (hx : a.eval x = .iface T rv) (hm : ∀ w k, (method (k + 1) T rv name).run P w = .ok (f, rv) w)
    (hfn : P.funcs[f]? = some fn) (hnm : (fn.name == "runtime.NumGoroutine") = false) (hbd : fn.body.isNone = false) (hc : Calls P f #[rv] w fun e w' => ∃ v, e = .returned v ∧ R v w') (h : ∀ v w', R v w' → ∃ a', a.put o.dst v = a' ∧ K a' w') : if Region.wanted o (yielded ops a.tmps) = true then Oper.wp P o a w K Q else K (a.put o.dst undef) w := by
  rw [if_pos hw]
  have hnm' : ¬ fn.name = "runtime.NumGoroutine" := by simpa using hnm
  have hbd' : ¬ fn.body = none := by intro e; rw [e] at hbd; cases hbd
  unfold Oper.wp
  simp [Act.eval, go_sem] at hx
  simp only [execOp, ho, resolve, invoke, Oper.upon, go_sem]
  simp [hx, hm, callFunc, hfn, hnm', hbd', go_sem]
  refine Calls.mono hc ?_
  rintro e w1 ⟨v, rfl, hR⟩
  obtain ⟨_, rfl, hk⟩ := h v w1 hR
  exact hk
end
set_option maxRecDepth 200000 in
theorem ackOf_any (e g : Int) (w : World) : Calls Tryz.prog 165 #[.agg #[.int .i64 e, .int .i64 g]] w fun r w' => r = .returned (.int .i64 e) ∧ Below w.heap.size w w' := by
  have HB : Hid (Below w.heap.size w (w.alloc (.cells #[.int .i64 e, .int .i64 g] 102))) := Below.allocW _ (Below.refl _ _) (Nat.le_refl _)
  go_enter Tryz.func165, Tryz.ntmps165
  go_wp2
  go_ret
  exact ⟨rfl, HB.out⟩
set_option maxRecDepth 200000 in
theorem resetOf_any (e : Int) (w : World) : Calls Tryz.prog 166 #[.agg #[.int .i64 e]] w fun r w' => r = .returned (.int .i64 e) ∧ Below w.heap.size w w' := by
  have HB : Hid (Below w.heap.size w (w.alloc (.cells #[.int .i64 e] 104))) := Below.allocW _ (Below.refl _ _) (Nat.le_refl _)
  go_enter Tryz.func166, Tryz.ntmps166
  go_wp2
  go_ret
  exact ⟨rfl, HB.out⟩
theorem assertAA (e g : Int) (w : World) : (Instr.typeAssert (.iface 102 (.agg #[.int .i64 e, .int .i64 g])) 66 102 true).run Tryz.prog w = .ok (.tuple #[.agg #[.int .i64 e, .int .i64 g], .bool true]) w := by kernel_rfl
theorem assertRA (e : Int) (w : World) : (Instr.typeAssert (.iface 104 (.agg #[.int .i64 e])) 66 102 true).run Tryz.prog w = .ok (.tuple #[.agg #[.int .i64 0, .int .i64 0], .bool false]) w := by kernel_rfl
theorem assertRR (e : Int) (w : World) : (Instr.typeAssert (.iface 104 (.agg #[.int .i64 e])) 66 104 true).run Tryz.prog w = .ok (.tuple #[.agg #[.int .i64 e], .bool true]) w := by kernel_rfl
theorem methodA (e g : Int) (w : World) (k : Nat) : (method (k + 1) 102 (.agg #[.int .i64 e, .int .i64 g]) "loop.example/g00491/impl.of").run Tryz.prog w = .ok (165, .agg #[.int .i64 e, .int .i64 g]) w := by kernel_rfl
theorem methodR (e : Int) (w : World) (k : Nat) : (method (k + 1) 104 (.agg #[.int .i64 e]) "loop.example/g00491/impl.of").run Tryz.prog w = .ok (166, .agg #[.int .i64 e]) w := by kernel_rfl
theorem infoAgT : (Tryz.prog.info? 27).map (·.size) = some 7 := by kernel_rfl
theorem infoFrT : (Tryz.prog.info? 35).map (·.size) = some 16 := by kernel_rfl
set_option maxRecDepth 200000 in
set_option maxHeartbeats 2000000 in
theorem turnedAck1 (i ep gr nx e g : Int) (lv : Bool) (a1 a2 : Option Addr) (n1 c1 n2 c2 : Nat) (w : World) (h : ep < e) :
    Calls Tryz.prog 32 #[.agg #[.int .i64 i, .int .i64 ep, .bool lv, .int .i64 gr, .slice a1 n1 c1, .slice a2 n2 c2, .int .i64 nx], .iface 102 (.agg #[.int .i64 e, .int .i64 g])] w fun r w' => r = .returned (.agg #[.int .i64 i, .int .i64 e, .bool true, .int .i64 (max 0 g), .slice a1 n1 c1, .slice a2 n2 c2, .int .i64 nx]) ∧ Below w.heap.size w w' := by
  have z : decide (ep < e) = true := dec_true h
  have HB : Hid (Blk (((w.alloc (.cells #[.int .i64 i, .int .i64 ep, .bool lv, .int .i64 0, .slice a1 n1 c1, .slice a2 n2 c2, .int .i64 nx] 27)).alloc (.cells #[.int .i64 0, .int .i64 0, .bool false, .int .i64 0, .slice none 0 0, .slice none 0 0, .int .i64 0] 27)).alloc (.cells #[.int .i64 e, .int .i64 g] 102)) w.heap.size #[.int .i64 i, .int .i64 ep, .bool lv, .int .i64 0, .slice a1 n1 c1, .slice a2 n2 c2, .int .i64 nx] 27 ∧ Blk (((w.alloc (.cells #[.int .i64 i, .int .i64 ep, .bool lv, .int .i64 0, .slice a1 n1 c1, .slice a2 n2 c2, .int .i64 nx] 27)).alloc (.cells #[.int .i64 0, .int .i64 0, .bool false, .int .i64 0, .slice none 0 0, .slice none 0 0, .int .i64 0] 27)).alloc (.cells #[.int .i64 e, .int .i64 g] 102)) (w.heap.size + 1) #[.int .i64 0, .int .i64 0, .bool false, .int .i64 0, .slice none 0 0, .slice none 0 0, .int .i64 0] 27 ∧ Blk (((w.alloc (.cells #[.int .i64 i, .int .i64 ep, .bool lv, .int .i64 0, .slice a1 n1 c1, .slice a2 n2 c2, .int .i64 nx] 27)).alloc (.cells #[.int .i64 0, .int .i64 0, .bool false, .int .i64 0, .slice none 0 0, .slice none 0 0, .int .i64 0] 27)).alloc (.cells #[.int .i64 e, .int .i64 g] 102)) (w.heap.size + 1 + 1) #[.int .i64 e, .int .i64 g] 102 ∧ Below w.heap.size w (((w.alloc (.cells #[.int .i64 i, .int .i64 ep, .bool lv, .int .i64 0, .slice a1 n1 c1, .slice a2 n2 c2, .int .i64 nx] 27)).alloc (.cells #[.int .i64 0, .int .i64 0, .bool false, .int .i64 0, .slice none 0 0, .slice none 0 0, .int .i64 0] 27)).alloc (.cells #[.int .i64 e, .int .i64 g] 102))) :=
    ⟨((Blk.made _ _ _).alloc _).alloc _, (Blk.made_eq (by simp)).alloc _, Blk.made_eq (by simp), Below.allocW _ (Below.allocW _ (Below.allocW _ (Below.refl _ _) (Nat.le_refl _)) (Nat.le_refl _)) (Nat.le_refl _)⟩
  have hA := assertAA e g
  have hM := methodA e g
  clear h
  go_enter Tryz.func32, Tryz.ntmps32
  go_wp2_with fail
  obtain ⟨W0, hW0⟩ : ∃ W, W = ((w.alloc (.cells #[.int .i64 i, .int .i64 ep, .bool lv, .int .i64 0, .slice a1 n1 c1, .slice a2 n2 c2, .int .i64 nx] 27)).alloc (.cells #[.int .i64 0, .int .i64 0, .bool false, .int .i64 0, .slice none 0 0, .slice none 0 0, .int .i64 0] 27)).alloc (.cells #[.int .i64 e, .int .i64 g] 102) := ⟨_, rfl⟩
  rw [← hW0] at HB ⊢
  clear hW0 z
  have HD : Hid (Blk W0.drew w.heap.size #[.int .i64 i, .int .i64 ep, .bool lv, .int .i64 0, .slice a1 n1 c1, .slice a2 n2 c2, .int .i64 nx] 27 ∧ Blk W0.drew (w.heap.size + 1) #[.int .i64 0, .int .i64 0, .bool false, .int .i64 0, .slice none 0 0, .slice none 0 0, .int .i64 0] 27 ∧ Blk W0.drew (w.heap.size + 1 + 1) #[.int .i64 e, .int .i64 g] 102 ∧ Below w.heap.size w W0.drew) := by
    have bd := (Below.refl W0.heap.size W0).drew
    exact ⟨HB.out.1.below bd, HB.out.2.1.below bd, HB.out.2.2.1.below bd, Below.next HB.out.2.2.2 bd⟩
  obtain ⟨Y0, hY0⟩ : ∃ Y, Y = W0.drew := ⟨_, rfl⟩
  rw [← hY0] at HD
  clear HB
  refine wp_region_held (S := fun W => Blk W (w.heap.size + 1 + 1) #[.int .i64 e, .int .i64 g] 102) (by kernel_rfl) ?_
  change wpAnyH _ _ _ _ _ _ _ _ (World.drew _)
  rw [← hY0]
  clear hY0
  refine takeH (o := ?o1) 0 (.pointer (some ⟨w.heap.size, 3, none⟩)) ?h1 ?r1
  case h1 => simp only [aT, aZ]; rfl
  refine ⟨_, by simp [Act.put]; rfl, by kernel_rfl, by kernel_rfl, by kernel_rfl, fun _ _ _ h => h, (.inl ⟨rfl, fun W _ => by kernel_rfl⟩), HD.out.2.2.1, ?_⟩
  refine takeH (o := ?o2) 2 (.pointer (some ⟨w.heap.size + 1 + 1, 1, none⟩)) ?h2 ?r2
  case h2 => simp only [aT, aS, aZ]; rfl
  refine ⟨_, by simp [Act.put]; rfl, by kernel_rfl, by kernel_rfl, by kernel_rfl, fun _ _ _ h => h, (.inl ⟨rfl, fun W _ => by kernel_rfl⟩), HD.out.2.2.1, ?_⟩
  refine takeH (o := ?o3) 3 (.int .i64 g) ?h3 ?r3
  case h3 => simp only [aT, aS, aZ]; rfl
  refine ⟨_, by simp [Act.put]; rfl, by kernel_rfl, by kernel_rfl, by kernel_rfl, fun _ _ _ h => h, (.inl ⟨rfl, fun W hW => by have c := hW.cell 1; simp only [aT, aS, aZ] at c; go_simp⟩), HD.out.2.2.1, ?_⟩
  refine onlyH (o := ?o4) 1 (by kernel_rfl) ?h4 ?r4
  case h4 => simp only [aT, aS, aZ]; rfl
  intro K hK
  have co := HD.out.1.cell 3
  simp only [aT, aS, aZ] at co
  refine op_value (.int .i64 0) rfl (by go_simp) ⟨_, by simp [Act.put]; rfl, hK _ _ ⟨HD.out.2.2.1, ?_⟩⟩
  clear hK co
  refine takeH (o := ?o5) 4 (.int .i64 (max 0 g)) ?h5 ?r5
  case h5 => simp only [aT, aS, aZ]; rfl
  refine ⟨_, by simp [Act.put]; rfl, by kernel_rfl, by kernel_rfl, by kernel_rfl, fun _ _ _ h => h, (.inl ⟨rfl, fun W _ => by go_simp; first | done | (rw [Int.max_def]; split <;> split <;> first | rfl | omega) | (simp [Int.max_def]; omega)⟩), HD.out.2.2.1, ?_⟩
  refine takeH (o := ?o6) 5 (.pointer (some ⟨w.heap.size, 2, none⟩)) ?h6 ?r6
  case h6 => simp only [aT, aS, aZ]; rfl
  refine ⟨_, by simp [Act.put]; rfl, by kernel_rfl, by kernel_rfl, by kernel_rfl, fun _ _ _ h => h, (.inl ⟨rfl, fun W _ => by kernel_rfl⟩), HD.out.2.2.1, ?_⟩
  refine onlyH (o := ?o7) 6 (by kernel_rfl) ?h7 ?r7
  case h7 => simp only [aT, aS, aZ]; rfl
  intro K hK
  have co := HD.out.1.cell 2
  have fo := HD.out.1.frozen 2
  simp only [aT, aS, aZ] at co
  have H2 : Hid (Blk (Y0.setCell ⟨w.heap.size, 2, none⟩ (.bool true)) w.heap.size #[.int .i64 i, .int .i64 ep, .bool true, .int .i64 0, .slice a1 n1 c1, .slice a2 n2 c2, .int .i64 nx] 27 ∧ Blk (Y0.setCell ⟨w.heap.size, 2, none⟩ (.bool true)) (w.heap.size + 1) #[.int .i64 0, .int .i64 0, .bool false, .int .i64 0, .slice none 0 0, .slice none 0 0, .int .i64 0] 27 ∧ Blk (Y0.setCell ⟨w.heap.size, 2, none⟩ (.bool true)) (w.heap.size + 1 + 1) #[.int .i64 e, .int .i64 g] 102 ∧ Below w.heap.size w (Y0.setCell ⟨w.heap.size, 2, none⟩ (.bool true))) :=
    ⟨HD.out.1.set 2 _, HD.out.2.1.setOther (by omega) 2 _, HD.out.2.2.1.setOther (by omega) 2 _, HD.out.2.2.2.setCell (by show w.heap.size ≤ w.heap.size; omega) _⟩
  refine op_skip (Y0.setCell ⟨w.heap.size, 2, none⟩ (.bool true)) rfl (by go_simp) ⟨_, by simp [Act.put]; rfl, hK _ _ ⟨H2.out.2.2.1, ?_⟩⟩
  clear hK co fo HD
  obtain ⟨Y1, hY1⟩ : ∃ Y, Y = Y0.setCell ⟨w.heap.size, 2, none⟩ (.bool true) := ⟨_, rfl⟩
  rw [← hY1] at H2 ⊢
  clear hY1
  refine takeH (o := ?o8) 7 (.pointer (some ⟨w.heap.size, 3, none⟩)) ?h8 ?r8
  case h8 => simp only [aT, aS, aZ]; rfl
  refine ⟨_, by simp [Act.put]; rfl, by kernel_rfl, by kernel_rfl, by kernel_rfl, fun _ _ _ h => h, (.inl ⟨rfl, fun W _ => by kernel_rfl⟩), H2.out.2.2.1, ?_⟩
  refine onlyH (o := ?o9) 8 (by kernel_rfl) ?h9 ?r9
  case h9 => simp only [aT, aS, aZ]; rfl
  intro K hK
  have co := H2.out.1.cell 3
  have fo := H2.out.1.frozen 3
  simp only [aT, aS, aZ] at co
  have H3 : Hid (Blk (Y1.setCell ⟨w.heap.size, 3, none⟩ (.int .i64 (max 0 g))) w.heap.size #[.int .i64 i, .int .i64 ep, .bool true, .int .i64 (max 0 g), .slice a1 n1 c1, .slice a2 n2 c2, .int .i64 nx] 27 ∧ Blk (Y1.setCell ⟨w.heap.size, 3, none⟩ (.int .i64 (max 0 g))) (w.heap.size + 1) #[.int .i64 0, .int .i64 0, .bool false, .int .i64 0, .slice none 0 0, .slice none 0 0, .int .i64 0] 27 ∧ Blk (Y1.setCell ⟨w.heap.size, 3, none⟩ (.int .i64 (max 0 g))) (w.heap.size + 1 + 1) #[.int .i64 e, .int .i64 g] 102 ∧ Below w.heap.size w (Y1.setCell ⟨w.heap.size, 3, none⟩ (.int .i64 (max 0 g)))) :=
    ⟨H2.out.1.set 3 _, H2.out.2.1.setOther (by omega) 3 _, H2.out.2.2.1.setOther (by omega) 3 _, H2.out.2.2.2.setCell (by show w.heap.size ≤ w.heap.size; omega) _⟩
  refine op_skip (Y1.setCell ⟨w.heap.size, 3, none⟩ (.int .i64 (max 0 g))) rfl (by go_simp) ⟨_, by simp [Act.put]; rfl, hK _ _ ⟨H3.out.2.2.1, ?_⟩⟩
  clear hK co fo H2
  refine wpAnyH_done (by kernel_rfl) ?_ _
  obtain ⟨Y2, hY2⟩ : ∃ Y, Y = Y1.setCell ⟨w.heap.size, 3, none⟩ (.int .i64 (max 0 g)) := ⟨_, rfl⟩
  rw [← hY2] at H3 ⊢
  clear hY2
  have H4 : Hid (Blk Y2 w.heap.size #[.int .i64 i, .int .i64 ep, .bool true, .int .i64 (max 0 g), .slice a1 n1 c1, .slice a2 n2 c2, .int .i64 nx] 27 ∧ Blk Y2 (w.heap.size + 1) #[.int .i64 0, .int .i64 0, .bool false, .int .i64 0, .slice none 0 0, .slice none 0 0, .int .i64 0] 27 ∧ Below w.heap.size w Y2) := ⟨H3.out.1, H3.out.2.1, H3.out.2.2.2⟩
  clear H3
  go_wp2_with fail
  refine (ackOf_any e g _).mono ?_
  rintro r w5 ⟨rfl, hb5⟩
  have H5 : Hid (Blk w5 w.heap.size #[.int .i64 i, .int .i64 ep, .bool true, .int .i64 (max 0 g), .slice a1 n1 c1, .slice a2 n2 c2, .int .i64 nx] 27 ∧ Blk w5 (w.heap.size + 1) #[.int .i64 0, .int .i64 0, .bool false, .int .i64 0, .slice none 0 0, .slice none 0 0, .int .i64 0] 27 ∧ Below w.heap.size w w5) := ⟨H4.out.1.below hb5, H4.out.2.1.below hb5, Below.next H4.out.2.2 hb5⟩
  have c1' := H5.out.1.cell 1
  have f1' := H5.out.1.frozen 1
  simp only [aT, aS, aZ] at c1'
  clear hb5
  go_wp2_with (first | go_skip | (with_reducible refine stopLoad 27 rfl ?_))
  obtain ⟨w6, hw6⟩ : ∃ W, W = w5.setCell ⟨w.heap.size, 1, none⟩ (.int .i64 e) := ⟨_, rfl⟩
  have H6 : Hid (Blk w6 w.heap.size #[.int .i64 i, .int .i64 e, .bool true, .int .i64 (max 0 g), .slice a1 n1 c1, .slice a2 n2 c2, .int .i64 nx] 27 ∧ Blk w6 (w.heap.size + 1) #[.int .i64 0, .int .i64 0, .bool false, .int .i64 0, .slice none 0 0, .slice none 0 0, .int .i64 0] 27 ∧ Below w.heap.size w w6) := by
    rw [hw6]
    exact ⟨H5.out.1.set 1 _, H5.out.2.1.setOther (by omega) 1 _, H5.out.2.2.setCell (by show w.heap.size ≤ w.heap.size; omega) _⟩
  rw [← hw6]
  clear hw6 H5 c1' f1'
  refine load_known 27 w.heap.size _ 27 _ H6.out.1 rfl rfl rfl Tryz.underlying27 rfl infoAgT ?_
  go_wp2_with (first | go_skip | (with_reducible refine stopStore 27 rfl ?_))
  refine store_known 27 (w.heap.size + 1) _ #[.int .i64 i, .int .i64 e, .bool true, .int .i64 (max 0 g), .slice a1 n1 c1, .slice a2 n2 c2, .int .i64 nx] 27 H6.out.2.1 rfl rfl rfl rfl infoAgT rfl (by simp [Value.oneCell']) ?_
  go_wp2
  refine bodyPost_ret (results_cell_row Tryz.results32 _ _ (w.heap.size + 1) _ _ (0, 0) _ rfl H6.out.2.1.setRow Tryz.underlying27 rfl infoAgT) rfl ?_
  exact ⟨rfl, below_setRow H6.out.2.2 (by omega) _⟩
set_option maxRecDepth 200000 in
set_option maxHeartbeats 2000000 in
theorem turnedAck2 (i ep gr nx e g : Int) (lv : Bool) (a1 a2 : Option Addr) (n1 c1 n2 c2 : Nat) (w : World) (h : ¬ ep < e) :
    Calls Tryz.prog 32 #[.agg #[.int .i64 i, .int .i64 ep, .bool lv, .int .i64 gr, .slice a1 n1 c1, .slice a2 n2 c2, .int .i64 nx], .iface 102 (.agg #[.int .i64 e, .int .i64 g])] w fun r w' => r = .returned (.agg #[.int .i64 i, .int .i64 e, .bool true, .int .i64 (max gr g), .slice a1 n1 c1, .slice a2 n2 c2, .int .i64 nx]) ∧ Below w.heap.size w w' := by
  have z : decide (ep < e) = false := dec_false h
  have HB : Hid (Blk (((w.alloc (.cells #[.int .i64 i, .int .i64 ep, .bool lv, .int .i64 gr, .slice a1 n1 c1, .slice a2 n2 c2, .int .i64 nx] 27)).alloc (.cells #[.int .i64 0, .int .i64 0, .bool false, .int .i64 0, .slice none 0 0, .slice none 0 0, .int .i64 0] 27)).alloc (.cells #[.int .i64 e, .int .i64 g] 102)) w.heap.size #[.int .i64 i, .int .i64 ep, .bool lv, .int .i64 gr, .slice a1 n1 c1, .slice a2 n2 c2, .int .i64 nx] 27 ∧ Blk (((w.alloc (.cells #[.int .i64 i, .int .i64 ep, .bool lv, .int .i64 gr, .slice a1 n1 c1, .slice a2 n2 c2, .int .i64 nx] 27)).alloc (.cells #[.int .i64 0, .int .i64 0, .bool false, .int .i64 0, .slice none 0 0, .slice none 0 0, .int .i64 0] 27)).alloc (.cells #[.int .i64 e, .int .i64 g] 102)) (w.heap.size + 1) #[.int .i64 0, .int .i64 0, .bool false, .int .i64 0, .slice none 0 0, .slice none 0 0, .int .i64 0] 27 ∧ Blk (((w.alloc (.cells #[.int .i64 i, .int .i64 ep, .bool lv, .int .i64 gr, .slice a1 n1 c1, .slice a2 n2 c2, .int .i64 nx] 27)).alloc (.cells #[.int .i64 0, .int .i64 0, .bool false, .int .i64 0, .slice none 0 0, .slice none 0 0, .int .i64 0] 27)).alloc (.cells #[.int .i64 e, .int .i64 g] 102)) (w.heap.size + 1 + 1) #[.int .i64 e, .int .i64 g] 102 ∧ Below w.heap.size w (((w.alloc (.cells #[.int .i64 i, .int .i64 ep, .bool lv, .int .i64 gr, .slice a1 n1 c1, .slice a2 n2 c2, .int .i64 nx] 27)).alloc (.cells #[.int .i64 0, .int .i64 0, .bool false, .int .i64 0, .slice none 0 0, .slice none 0 0, .int .i64 0] 27)).alloc (.cells #[.int .i64 e, .int .i64 g] 102))) :=
    ⟨((Blk.made _ _ _).alloc _).alloc _, (Blk.made_eq (by simp)).alloc _, Blk.made_eq (by simp), Below.allocW _ (Below.allocW _ (Below.allocW _ (Below.refl _ _) (Nat.le_refl _)) (Nat.le_refl _)) (Nat.le_refl _)⟩
  have hA := assertAA e g
  have hM := methodA e g
  clear h
  go_enter Tryz.func32, Tryz.ntmps32
  go_wp2_with fail
  obtain ⟨W0, hW0⟩ : ∃ W, W = ((w.alloc (.cells #[.int .i64 i, .int .i64 ep, .bool lv, .int .i64 gr, .slice a1 n1 c1, .slice a2 n2 c2, .int .i64 nx] 27)).alloc (.cells #[.int .i64 0, .int .i64 0, .bool false, .int .i64 0, .slice none 0 0, .slice none 0 0, .int .i64 0] 27)).alloc (.cells #[.int .i64 e, .int .i64 g] 102) := ⟨_, rfl⟩
  rw [← hW0] at HB ⊢
  clear hW0 z
  have HD : Hid (Blk W0.drew w.heap.size #[.int .i64 i, .int .i64 ep, .bool lv, .int .i64 gr, .slice a1 n1 c1, .slice a2 n2 c2, .int .i64 nx] 27 ∧ Blk W0.drew (w.heap.size + 1) #[.int .i64 0, .int .i64 0, .bool false, .int .i64 0, .slice none 0 0, .slice none 0 0, .int .i64 0] 27 ∧ Blk W0.drew (w.heap.size + 1 + 1) #[.int .i64 e, .int .i64 g] 102 ∧ Below w.heap.size w W0.drew) := by
    have bd := (Below.refl W0.heap.size W0).drew
    exact ⟨HB.out.1.below bd, HB.out.2.1.below bd, HB.out.2.2.1.below bd, Below.next HB.out.2.2.2 bd⟩
  obtain ⟨Y0, hY0⟩ : ∃ Y, Y = W0.drew := ⟨_, rfl⟩
  rw [← hY0] at HD
  clear HB
  refine wp_region_held (S := fun W => Blk W (w.heap.size + 1 + 1) #[.int .i64 e, .int .i64 g] 102) (by kernel_rfl) ?_
  change wpAnyH _ _ _ _ _ _ _ _ (World.drew _)
  rw [← hY0]
  clear hY0
  refine takeH (o := ?o10) 0 (.pointer (some ⟨w.heap.size, 3, none⟩)) ?h10 ?r10
  case h10 => simp only [aT, aZ]; rfl
  refine ⟨_, by simp [Act.put]; rfl, by kernel_rfl, by kernel_rfl, by kernel_rfl, fun _ _ _ h => h, (.inl ⟨rfl, fun W _ => by kernel_rfl⟩), HD.out.2.2.1, ?_⟩
  refine takeH (o := ?o11) 2 (.pointer (some ⟨w.heap.size + 1 + 1, 1, none⟩)) ?h11 ?r11
  case h11 => simp only [aT, aS, aZ]; rfl
  refine ⟨_, by simp [Act.put]; rfl, by kernel_rfl, by kernel_rfl, by kernel_rfl, fun _ _ _ h => h, (.inl ⟨rfl, fun W _ => by kernel_rfl⟩), HD.out.2.2.1, ?_⟩
  refine takeH (o := ?o12) 3 (.int .i64 g) ?h12 ?r12
  case h12 => simp only [aT, aS, aZ]; rfl
  refine ⟨_, by simp [Act.put]; rfl, by kernel_rfl, by kernel_rfl, by kernel_rfl, fun _ _ _ h => h, (.inl ⟨rfl, fun W hW => by have c := hW.cell 1; simp only [aT, aS, aZ] at c; go_simp⟩), HD.out.2.2.1, ?_⟩
  refine onlyH (o := ?o13) 1 (by kernel_rfl) ?h13 ?r13
  case h13 => simp only [aT, aS, aZ]; rfl
  intro K hK
  have co := HD.out.1.cell 3
  simp only [aT, aS, aZ] at co
  refine op_value (.int .i64 gr) rfl (by go_simp) ⟨_, by simp [Act.put]; rfl, hK _ _ ⟨HD.out.2.2.1, ?_⟩⟩
  clear hK co
  refine takeH (o := ?o14) 4 (.int .i64 (max gr g)) ?h14 ?r14
  case h14 => simp only [aT, aS, aZ]; rfl
  refine ⟨_, by simp [Act.put]; rfl, by kernel_rfl, by kernel_rfl, by kernel_rfl, fun _ _ _ h => h, (.inl ⟨rfl, fun W _ => by go_simp; first | done | (rw [Int.max_def]; split <;> split <;> first | rfl | omega) | (simp [Int.max_def]; omega)⟩), HD.out.2.2.1, ?_⟩
  refine takeH (o := ?o15) 5 (.pointer (some ⟨w.heap.size, 2, none⟩)) ?h15 ?r15
  case h15 => simp only [aT, aS, aZ]; rfl
  refine ⟨_, by simp [Act.put]; rfl, by kernel_rfl, by kernel_rfl, by kernel_rfl, fun _ _ _ h => h, (.inl ⟨rfl, fun W _ => by kernel_rfl⟩), HD.out.2.2.1, ?_⟩
  refine onlyH (o := ?o16) 6 (by kernel_rfl) ?h16 ?r16
  case h16 => simp only [aT, aS, aZ]; rfl
  intro K hK
  have co := HD.out.1.cell 2
  have fo := HD.out.1.frozen 2
  simp only [aT, aS, aZ] at co
  have H2 : Hid (Blk (Y0.setCell ⟨w.heap.size, 2, none⟩ (.bool true)) w.heap.size #[.int .i64 i, .int .i64 ep, .bool true, .int .i64 gr, .slice a1 n1 c1, .slice a2 n2 c2, .int .i64 nx] 27 ∧ Blk (Y0.setCell ⟨w.heap.size, 2, none⟩ (.bool true)) (w.heap.size + 1) #[.int .i64 0, .int .i64 0, .bool false, .int .i64 0, .slice none 0 0, .slice none 0 0, .int .i64 0] 27 ∧ Blk (Y0.setCell ⟨w.heap.size, 2, none⟩ (.bool true)) (w.heap.size + 1 + 1) #[.int .i64 e, .int .i64 g] 102 ∧ Below w.heap.size w (Y0.setCell ⟨w.heap.size, 2, none⟩ (.bool true))) :=
    ⟨HD.out.1.set 2 _, HD.out.2.1.setOther (by omega) 2 _, HD.out.2.2.1.setOther (by omega) 2 _, HD.out.2.2.2.setCell (by show w.heap.size ≤ w.heap.size; omega) _⟩
  refine op_skip (Y0.setCell ⟨w.heap.size, 2, none⟩ (.bool true)) rfl (by go_simp) ⟨_, by simp [Act.put]; rfl, hK _ _ ⟨H2.out.2.2.1, ?_⟩⟩
  clear hK co fo HD
  obtain ⟨Y1, hY1⟩ : ∃ Y, Y = Y0.setCell ⟨w.heap.size, 2, none⟩ (.bool true) := ⟨_, rfl⟩
  rw [← hY1] at H2 ⊢
  clear hY1
  refine takeH (o := ?o17) 7 (.pointer (some ⟨w.heap.size, 3, none⟩)) ?h17 ?r17
  case h17 => simp only [aT, aS, aZ]; rfl
  refine ⟨_, by simp [Act.put]; rfl, by kernel_rfl, by kernel_rfl, by kernel_rfl, fun _ _ _ h => h, (.inl ⟨rfl, fun W _ => by kernel_rfl⟩), H2.out.2.2.1, ?_⟩
  refine onlyH (o := ?o18) 8 (by kernel_rfl) ?h18 ?r18
  case h18 => simp only [aT, aS, aZ]; rfl
  intro K hK
  have co := H2.out.1.cell 3
  have fo := H2.out.1.frozen 3
  simp only [aT, aS, aZ] at co
  have H3 : Hid (Blk (Y1.setCell ⟨w.heap.size, 3, none⟩ (.int .i64 (max gr g))) w.heap.size #[.int .i64 i, .int .i64 ep, .bool true, .int .i64 (max gr g), .slice a1 n1 c1, .slice a2 n2 c2, .int .i64 nx] 27 ∧ Blk (Y1.setCell ⟨w.heap.size, 3, none⟩ (.int .i64 (max gr g))) (w.heap.size + 1) #[.int .i64 0, .int .i64 0, .bool false, .int .i64 0, .slice none 0 0, .slice none 0 0, .int .i64 0] 27 ∧ Blk (Y1.setCell ⟨w.heap.size, 3, none⟩ (.int .i64 (max gr g))) (w.heap.size + 1 + 1) #[.int .i64 e, .int .i64 g] 102 ∧ Below w.heap.size w (Y1.setCell ⟨w.heap.size, 3, none⟩ (.int .i64 (max gr g)))) :=
    ⟨H2.out.1.set 3 _, H2.out.2.1.setOther (by omega) 3 _, H2.out.2.2.1.setOther (by omega) 3 _, H2.out.2.2.2.setCell (by show w.heap.size ≤ w.heap.size; omega) _⟩
  refine op_skip (Y1.setCell ⟨w.heap.size, 3, none⟩ (.int .i64 (max gr g))) rfl (by go_simp) ⟨_, by simp [Act.put]; rfl, hK _ _ ⟨H3.out.2.2.1, ?_⟩⟩
  clear hK co fo H2
  refine wpAnyH_done (by kernel_rfl) ?_ _
  obtain ⟨Y2, hY2⟩ : ∃ Y, Y = Y1.setCell ⟨w.heap.size, 3, none⟩ (.int .i64 (max gr g)) := ⟨_, rfl⟩
  rw [← hY2] at H3 ⊢
  clear hY2
  have H4 : Hid (Blk Y2 w.heap.size #[.int .i64 i, .int .i64 ep, .bool true, .int .i64 (max gr g), .slice a1 n1 c1, .slice a2 n2 c2, .int .i64 nx] 27 ∧ Blk Y2 (w.heap.size + 1) #[.int .i64 0, .int .i64 0, .bool false, .int .i64 0, .slice none 0 0, .slice none 0 0, .int .i64 0] 27 ∧ Below w.heap.size w Y2) := ⟨H3.out.1, H3.out.2.1, H3.out.2.2.2⟩
  clear H3
  go_wp2_with fail
  refine (ackOf_any e g _).mono ?_
  rintro r w5 ⟨rfl, hb5⟩
  have H5 : Hid (Blk w5 w.heap.size #[.int .i64 i, .int .i64 ep, .bool true, .int .i64 (max gr g), .slice a1 n1 c1, .slice a2 n2 c2, .int .i64 nx] 27 ∧ Blk w5 (w.heap.size + 1) #[.int .i64 0, .int .i64 0, .bool false, .int .i64 0, .slice none 0 0, .slice none 0 0, .int .i64 0] 27 ∧ Below w.heap.size w w5) := ⟨H4.out.1.below hb5, H4.out.2.1.below hb5, Below.next H4.out.2.2 hb5⟩
  have c1' := H5.out.1.cell 1
  have f1' := H5.out.1.frozen 1
  simp only [aT, aS, aZ] at c1'
  clear hb5
  go_wp2_with (first | go_skip | (with_reducible refine stopLoad 27 rfl ?_))
  obtain ⟨w6, hw6⟩ : ∃ W, W = w5.setCell ⟨w.heap.size, 1, none⟩ (.int .i64 e) := ⟨_, rfl⟩
  have H6 : Hid (Blk w6 w.heap.size #[.int .i64 i, .int .i64 e, .bool true, .int .i64 (max gr g), .slice a1 n1 c1, .slice a2 n2 c2, .int .i64 nx] 27 ∧ Blk w6 (w.heap.size + 1) #[.int .i64 0, .int .i64 0, .bool false, .int .i64 0, .slice none 0 0, .slice none 0 0, .int .i64 0] 27 ∧ Below w.heap.size w w6) := by
    rw [hw6]
    exact ⟨H5.out.1.set 1 _, H5.out.2.1.setOther (by omega) 1 _, H5.out.2.2.setCell (by show w.heap.size ≤ w.heap.size; omega) _⟩
  rw [← hw6]
  clear hw6 H5 c1' f1'
  refine load_known 27 w.heap.size _ 27 _ H6.out.1 rfl rfl rfl Tryz.underlying27 rfl infoAgT ?_
  go_wp2_with (first | go_skip | (with_reducible refine stopStore 27 rfl ?_))
  refine store_known 27 (w.heap.size + 1) _ #[.int .i64 i, .int .i64 e, .bool true, .int .i64 (max gr g), .slice a1 n1 c1, .slice a2 n2 c2, .int .i64 nx] 27 H6.out.2.1 rfl rfl rfl rfl infoAgT rfl (by simp [Value.oneCell']) ?_
  go_wp2
  refine bodyPost_ret (results_cell_row Tryz.results32 _ _ (w.heap.size + 1) _ _ (0, 0) _ rfl H6.out.2.1.setRow Tryz.underlying27 rfl infoAgT) rfl ?_
  exact ⟨rfl, below_setRow H6.out.2.2 (by omega) _⟩
set_option maxRecDepth 200000 in
set_option maxHeartbeats 2000000 in
theorem turnedReset (i ep gr nx e : Int) (lv : Bool) (a1 a2 : Option Addr) (n1 c1 n2 c2 : Nat) (w : World) :
    Calls Tryz.prog 32 #[.agg #[.int .i64 i, .int .i64 ep, .bool lv, .int .i64 gr, .slice a1 n1 c1, .slice a2 n2 c2, .int .i64 nx], .iface 104 (.agg #[.int .i64 e])] w fun r w' => r = .returned (.agg #[.int .i64 i, .int .i64 e, .bool false, .int .i64 0, .slice a1 n1 c1, .slice a2 n2 c2, .int .i64 nx]) ∧ Below w.heap.size w w' := by
  have HB : Hid (Blk (((w.alloc (.cells #[.int .i64 i, .int .i64 ep, .bool false, .int .i64 0, .slice a1 n1 c1, .slice a2 n2 c2, .int .i64 nx] 27)).alloc (.cells #[.int .i64 0, .int .i64 0, .bool false, .int .i64 0, .slice none 0 0, .slice none 0 0, .int .i64 0] 27)).alloc (.cells #[.int .i64 e] 104)) w.heap.size #[.int .i64 i, .int .i64 ep, .bool false, .int .i64 0, .slice a1 n1 c1, .slice a2 n2 c2, .int .i64 nx] 27 ∧ Blk (((w.alloc (.cells #[.int .i64 i, .int .i64 ep, .bool false, .int .i64 0, .slice a1 n1 c1, .slice a2 n2 c2, .int .i64 nx] 27)).alloc (.cells #[.int .i64 0, .int .i64 0, .bool false, .int .i64 0, .slice none 0 0, .slice none 0 0, .int .i64 0] 27)).alloc (.cells #[.int .i64 e] 104)) (w.heap.size + 1) #[.int .i64 0, .int .i64 0, .bool false, .int .i64 0, .slice none 0 0, .slice none 0 0, .int .i64 0] 27 ∧ Below w.heap.size w (((w.alloc (.cells #[.int .i64 i, .int .i64 ep, .bool false, .int .i64 0, .slice a1 n1 c1, .slice a2 n2 c2, .int .i64 nx] 27)).alloc (.cells #[.int .i64 0, .int .i64 0, .bool false, .int .i64 0, .slice none 0 0, .slice none 0 0, .int .i64 0] 27)).alloc (.cells #[.int .i64 e] 104))) :=
    ⟨((Blk.made _ _ _).alloc _).alloc _, (Blk.made_eq (by simp)).alloc _, Below.allocW _ (Below.allocW _ (Below.allocW _ (Below.refl _ _) (Nat.le_refl _)) (Nat.le_refl _)) (Nat.le_refl _)⟩
  have hA := assertRA e
  have hB := assertRR e
  have hM := methodR e
  go_enter Tryz.func32, Tryz.ntmps32
  go_wp2_with fail
  refine (resetOf_any e _).mono ?_
  rintro r w5 ⟨rfl, hb5⟩
  have H5 : Hid (Blk w5 w.heap.size #[.int .i64 i, .int .i64 ep, .bool false, .int .i64 0, .slice a1 n1 c1, .slice a2 n2 c2, .int .i64 nx] 27 ∧ Blk w5 (w.heap.size + 1) #[.int .i64 0, .int .i64 0, .bool false, .int .i64 0, .slice none 0 0, .slice none 0 0, .int .i64 0] 27 ∧ Below w.heap.size w w5) := ⟨HB.out.1.below hb5, HB.out.2.1.below hb5, Below.next HB.out.2.2 hb5⟩
  have c1' := H5.out.1.cell 1
  have f1' := H5.out.1.frozen 1
  simp only [aT, aS, aZ] at c1'
  clear hb5
  go_wp2_with (first | go_skip | (with_reducible refine stopLoad 27 rfl ?_))
  obtain ⟨w6, hw6⟩ : ∃ W, W = w5.setCell ⟨w.heap.size, 1, none⟩ (.int .i64 e) := ⟨_, rfl⟩
  have H6 : Hid (Blk w6 w.heap.size #[.int .i64 i, .int .i64 e, .bool false, .int .i64 0, .slice a1 n1 c1, .slice a2 n2 c2, .int .i64 nx] 27 ∧ Blk w6 (w.heap.size + 1) #[.int .i64 0, .int .i64 0, .bool false, .int .i64 0, .slice none 0 0, .slice none 0 0, .int .i64 0] 27 ∧ Below w.heap.size w w6) := by
    rw [hw6]
    exact ⟨H5.out.1.set 1 _, H5.out.2.1.setOther (by omega) 1 _, H5.out.2.2.setCell (by show w.heap.size ≤ w.heap.size; omega) _⟩
  rw [← hw6]
  clear hw6 H5 c1' f1'
  refine load_known 27 w.heap.size _ 27 _ H6.out.1 rfl rfl rfl Tryz.underlying27 rfl infoAgT ?_
  go_wp2_with (first | go_skip | (with_reducible refine stopStore 27 rfl ?_))
  refine store_known 27 (w.heap.size + 1) _ #[.int .i64 i, .int .i64 e, .bool false, .int .i64 0, .slice a1 n1 c1, .slice a2 n2 c2, .int .i64 nx] 27 H6.out.2.1 rfl rfl rfl rfl infoAgT rfl (by simp [Value.oneCell']) ?_
  go_wp2
  refine bodyPost_ret (results_cell_row Tryz.results32 _ _ (w.heap.size + 1) _ _ (0, 0) _ rfl H6.out.2.1.setRow Tryz.underlying27 rfl infoAgT) rfl ?_
  exact ⟨rfl, below_setRow H6.out.2.2 (by omega) _⟩
/-- What a frame tells an agent that it is for. -/
def newsVal (f : Fr) : Value := if f.kind = 2 then .iface 102 (.agg #[.int .i64 f.epoch, .int .i64 f.granted]) else .iface 104 (.agg #[.int .i64 f.epoch])
theorem hears_kind {x : Ag} {f : Fr} (h : x.hears f = true) : (f.kind = 2 ∨ f.kind = 3) ∧ f.ok = true ∧ x.ok = true ∧ f.taken.ok = true := by
  unfold Ag.hears at h
  simp only [Bool.and_eq_true, decide_eq_true_eq] at h
  obtain ⟨⟨⟨⟨h1, h2⟩, h3⟩, h4⟩, h5, h6⟩ := h
  have h2' := h2
  unfold Fr.ok at h2
  simp only [Bool.and_eq_true, decide_eq_true_eq] at h2
  obtain ⟨⟨⟨⟨⟨⟨g1, _⟩, _⟩, _⟩, _⟩, _⟩, _⟩ := h2
  exact ⟨by omega, h2', h1, h5⟩
def NewsR (w : World) (b : Bool) (nv : Value) (e : Ending) (w' : World) : Prop := e = .returned (.tuple #[if b = true then nv else .nilIface, .bool b]) ∧ Below w.heap.size w w'
set_option maxRecDepth 200000 in
set_option maxHeartbeats 8000000 in
theorem newsFor_any (v u : Value) (x : Ag) (f : Fr) (F G F' G' : List Nat) (w : World) (h : RdAg w v x F G) (k : RdFr w u f F' G') (hf : ∀ y ∈ x.sealed, y.sk.fits) (hs : x.sealed.length ≤ 1048576) (hl : x.taken.length ≤ 1048576) (kw : f.item.sk.wide) (kl : f.taken.length ≤ 1048576) :
    Calls Tryz.prog 31 #[v, u] w fun e w' => NewsR w (x.hears f) (newsVal f) e w' := by
  obtain ⟨a1, n1, c1, a2, n2, c2, rfl, hL, hP, hc1, hc2⟩ := h
  obtain ⟨bt, lt, ct, b1, m1, e1, b2, m2, e2, b3, m3, e3, rfl, kP, kI, kc⟩ := k
  have HX : Hid (RdAg w (.agg #[.int .i64 x.id, .int .i64 x.epoch, .bool x.live, .int .i64 x.granted, .slice a1 n1 c1, .slice a2 n2 c2, .int .i64 x.next]) x F G ∧ (∀ y ∈ x.sealed, y.sk.wide) ∧ x.sealed.length ≤ 2097152 ∧ x.taken.length ≤ 2097152) := ⟨⟨a1, n1, c1, a2, n2, c2, rfl, hL, hP, hc1, hc2⟩, fun y hy => (hf y hy).wide, by omega, by omega⟩
  have HF : Hid (RdFr w (.agg #[.int .i64 f.kind, .int .i64 f.agent, .int .i64 f.epoch, .int .i64 f.granted, .slice bt lt ct, .int .i64 f.item.seq, .int .i64 f.item.cls, .int .i64 f.item.key, .int .i64 f.item.window, .int .i64 f.item.sk.count, .int .i64 f.item.sk.sum, .int .i64 f.item.sk.min, .int .i64 f.item.sk.max, .slice b1 m1 e1, .slice b2 m2 e2, .slice b3 m3 e3]) f F' G' ∧ f.item.sk.wide ∧ f.taken.length ≤ 2097152 ∧ RdP w bt lt f.taken F' ∧ lt ≤ 2097152) := ⟨⟨bt, lt, ct, b1, m1, e1, b2, m2, e2, b3, m3, e3, rfl, kP, kI, kc⟩, kw, by omega, kP, by rw [← kP.length]; omega⟩
  have HOK : Hid (x.hears f = (x.ok && f.ok && decide (2 ≤ f.kind) && decide (f.agent = x.id) && (f.taken.ok && f.taken.under n1))) := by show _ = _; unfold Ag.hears; rw [hL.length]
  clear hL hP hc1 hc2 kP kI kc hf hs hl kw kl
  have HB : Hid (Blk ((w.alloc (.cells #[.int .i64 x.id, .int .i64 x.epoch, .bool x.live, .int .i64 x.granted, .slice a1 n1 c1, .slice a2 n2 c2, .int .i64 x.next] 27)).alloc (.cells #[.int .i64 f.kind, .int .i64 f.agent, .int .i64 f.epoch, .int .i64 f.granted, .slice bt lt ct, .int .i64 f.item.seq, .int .i64 f.item.cls, .int .i64 f.item.key, .int .i64 f.item.window, .int .i64 f.item.sk.count, .int .i64 f.item.sk.sum, .int .i64 f.item.sk.min, .int .i64 f.item.sk.max, .slice b1 m1 e1, .slice b2 m2 e2, .slice b3 m3 e3] 35)) w.heap.size #[.int .i64 x.id, .int .i64 x.epoch, .bool x.live, .int .i64 x.granted, .slice a1 n1 c1, .slice a2 n2 c2, .int .i64 x.next] 27 ∧ Blk ((w.alloc (.cells #[.int .i64 x.id, .int .i64 x.epoch, .bool x.live, .int .i64 x.granted, .slice a1 n1 c1, .slice a2 n2 c2, .int .i64 x.next] 27)).alloc (.cells #[.int .i64 f.kind, .int .i64 f.agent, .int .i64 f.epoch, .int .i64 f.granted, .slice bt lt ct, .int .i64 f.item.seq, .int .i64 f.item.cls, .int .i64 f.item.key, .int .i64 f.item.window, .int .i64 f.item.sk.count, .int .i64 f.item.sk.sum, .int .i64 f.item.sk.min, .int .i64 f.item.sk.max, .slice b1 m1 e1, .slice b2 m2 e2, .slice b3 m3 e3] 35)) (w.heap.size + 1) #[.int .i64 f.kind, .int .i64 f.agent, .int .i64 f.epoch, .int .i64 f.granted, .slice bt lt ct, .int .i64 f.item.seq, .int .i64 f.item.cls, .int .i64 f.item.key, .int .i64 f.item.window, .int .i64 f.item.sk.count, .int .i64 f.item.sk.sum, .int .i64 f.item.sk.min, .int .i64 f.item.sk.max, .slice b1 m1 e1, .slice b2 m2 e2, .slice b3 m3 e3] 35 ∧ Below w.heap.size w ((w.alloc (.cells #[.int .i64 x.id, .int .i64 x.epoch, .bool x.live, .int .i64 x.granted, .slice a1 n1 c1, .slice a2 n2 c2, .int .i64 x.next] 27)).alloc (.cells #[.int .i64 f.kind, .int .i64 f.agent, .int .i64 f.epoch, .int .i64 f.granted, .slice bt lt ct, .int .i64 f.item.seq, .int .i64 f.item.cls, .int .i64 f.item.key, .int .i64 f.item.window, .int .i64 f.item.sk.count, .int .i64 f.item.sk.sum, .int .i64 f.item.sk.min, .int .i64 f.item.sk.max, .slice b1 m1 e1, .slice b2 m2 e2, .slice b3 m3 e3] 35))) :=
    ⟨(Blk.made _ _ _).alloc _, Blk.made_eq (by simp), Below.allocW _ (Below.allocW _ (Below.refl _ _) (Nat.le_refl _)) (Nat.le_refl _)⟩
  go_enter Tryz.func31, Tryz.ntmps31
  go_wp2_with (first | go_skip | (with_reducible refine stopLoad 27 rfl ?_))
  obtain ⟨W0, hW0⟩ : ∃ W, W = (w.alloc (.cells #[.int .i64 x.id, .int .i64 x.epoch, .bool x.live, .int .i64 x.granted, .slice a1 n1 c1, .slice a2 n2 c2, .int .i64 x.next] 27)).alloc (.cells #[.int .i64 f.kind, .int .i64 f.agent, .int .i64 f.epoch, .int .i64 f.granted, .slice bt lt ct, .int .i64 f.item.seq, .int .i64 f.item.cls, .int .i64 f.item.key, .int .i64 f.item.window, .int .i64 f.item.sk.count, .int .i64 f.item.sk.sum, .int .i64 f.item.sk.min, .int .i64 f.item.sk.max, .slice b1 m1 e1, .slice b2 m2 e2, .slice b3 m3 e3] 35) := ⟨_, rfl⟩
  rw [← hW0] at HB ⊢
  clear hW0
  refine load_known 27 w.heap.size _ 27 _ HB.out.1 rfl rfl rfl Tryz.underlying27 rfl infoAgT ?_
  go_wp2_with fail
  refine (agentOkImpl_any _ x F G _ (HX.out.1.below HB.out.2.2) HX.out.2.1 HX.out.2.2.1 HX.out.2.2.2).mono ?_
  rintro e w1 ⟨rfl, hb1⟩
  have HB1 : Hid (Blk w1 w.heap.size #[.int .i64 x.id, .int .i64 x.epoch, .bool x.live, .int .i64 x.granted, .slice a1 n1 c1, .slice a2 n2 c2, .int .i64 x.next] 27 ∧ Blk w1 (w.heap.size + 1) #[.int .i64 f.kind, .int .i64 f.agent, .int .i64 f.epoch, .int .i64 f.granted, .slice bt lt ct, .int .i64 f.item.seq, .int .i64 f.item.cls, .int .i64 f.item.key, .int .i64 f.item.window, .int .i64 f.item.sk.count, .int .i64 f.item.sk.sum, .int .i64 f.item.sk.min, .int .i64 f.item.sk.max, .slice b1 m1 e1, .slice b2 m2 e2, .slice b3 m3 e3] 35 ∧ Below w.heap.size w w1) := ⟨HB.out.1.below hb1, HB.out.2.1.below hb1, Below.next HB.out.2.2 hb1⟩
  obtain ⟨d1, hd1⟩ : ∃ d, d = x.ok := ⟨_, rfl⟩
  rw [← hd1]
  rw [← hd1] at HOK
  clear hb1 hd1 HB
  cases d1
  · have HV : Hid (x.hears f = false) := by show _ = _; rw [HOK.out]; rfl
    go_wp2
    go_ret2
    rw [HV.out]
    exact ⟨rfl, HB1.out.2.2⟩
  go_wp2_with (first | go_skip | (with_reducible refine stopLoad 35 rfl ?_))
  refine load_knownw8 35 (w.heap.size + 1) _ 35 _ HB1.out.2.1 rfl rfl rfl Tryz.underlying35 rfl infoFrT ?_
  go_wp2_with fail
  refine (frameOkImpl_any _ f F' G' _ (HF.out.1.below HB1.out.2.2) HF.out.2.1 HF.out.2.2.1).mono ?_
  rintro e w2 ⟨rfl, hb2⟩
  have HB2 : Hid (Blk w2 w.heap.size #[.int .i64 x.id, .int .i64 x.epoch, .bool x.live, .int .i64 x.granted, .slice a1 n1 c1, .slice a2 n2 c2, .int .i64 x.next] 27 ∧ Blk w2 (w.heap.size + 1) #[.int .i64 f.kind, .int .i64 f.agent, .int .i64 f.epoch, .int .i64 f.granted, .slice bt lt ct, .int .i64 f.item.seq, .int .i64 f.item.cls, .int .i64 f.item.key, .int .i64 f.item.window, .int .i64 f.item.sk.count, .int .i64 f.item.sk.sum, .int .i64 f.item.sk.min, .int .i64 f.item.sk.max, .slice b1 m1 e1, .slice b2 m2 e2, .slice b3 m3 e3] 35 ∧ Below w.heap.size w w2) := ⟨HB1.out.1.below hb2, HB1.out.2.1.below hb2, Below.next HB1.out.2.2 hb2⟩
  obtain ⟨d2, hd2⟩ : ∃ d, d = f.ok := ⟨_, rfl⟩
  rw [← hd2]
  have HFO : Hid (d2 = f.ok) := hd2
  rw [← hd2] at HOK
  clear hb2 hd2 HB1
  cases d2
  · have HV : Hid (x.hears f = false) := by show _ = _; rw [HOK.out]; rfl
    go_wp2
    go_ret2
    rw [HV.out]
    exact ⟨rfl, HB2.out.2.2⟩
  have c0 := HB2.out.1.cell 0
  have c4 := HB2.out.1.cell 4
  have k0 := HB2.out.2.1.cell 0
  have k1 := HB2.out.2.1.cell 1
  have k2 := HB2.out.2.1.cell 2
  have k3 := HB2.out.2.1.cell 3
  have k4 := HB2.out.2.1.cell 4
  simp only [aT, aS, aZ] at c0 c4 k0 k1 k2 k3 k4
  by_cases ha : f.agent = x.id
  rotate_left
  · have z : (f.agent != x.id) = true := by simpa using ha
    have HV : Hid (x.hears f = false) := by show _ = _; rw [HOK.out, decide_eq_false ha, Bool.and_false, Bool.false_and]
    clear ha
    go_wp2
    go_ret2
    rw [HV.out]
    exact ⟨rfl, HB2.out.2.2⟩
  have z : (f.agent != x.id) = false := by simpa using ha
  have HOK2 : Hid (x.hears f = (decide (2 ≤ f.kind) && (f.taken.ok && f.taken.under n1))) := by show _ = _; rw [HOK.out, decide_eq_true ha, Bool.and_true, Bool.true_and, Bool.true_and]
  clear ha HOK
  go_wp2_with fail
  refine (areSeqs_any bt lt ct n1 f.taken F' _ (HF.out.2.2.2.1.below HB2.out.2.2) HF.out.2.2.2.2).mono ?_
  rintro e w3 ⟨rfl, hb3⟩
  have HB3 : Hid (Blk w3 w.heap.size #[.int .i64 x.id, .int .i64 x.epoch, .bool x.live, .int .i64 x.granted, .slice a1 n1 c1, .slice a2 n2 c2, .int .i64 x.next] 27 ∧ Blk w3 (w.heap.size + 1) #[.int .i64 f.kind, .int .i64 f.agent, .int .i64 f.epoch, .int .i64 f.granted, .slice bt lt ct, .int .i64 f.item.seq, .int .i64 f.item.cls, .int .i64 f.item.key, .int .i64 f.item.window, .int .i64 f.item.sk.count, .int .i64 f.item.sk.sum, .int .i64 f.item.sk.min, .int .i64 f.item.sk.max, .slice b1 m1 e1, .slice b2 m2 e2, .slice b3 m3 e3] 35 ∧ Below w.heap.size w w3) := ⟨HB2.out.1.below hb3, HB2.out.2.1.below hb3, Below.next HB2.out.2.2 hb3⟩
  obtain ⟨d3, hd3⟩ : ∃ d, d = (f.taken.ok && f.taken.under n1) := ⟨_, rfl⟩
  rw [← hd3]
  rw [← hd3] at HOK2
  clear hb3 hd3 HB2 c0 c4 k0 k1 k2 k3 k4 z
  cases d3
  · have HV : Hid (x.hears f = false) := by show _ = _; rw [HOK2.out, Bool.and_false]
    go_wp2
    go_ret2
    rw [HV.out]
    exact ⟨rfl, HB3.out.2.2⟩
  have k0 := HB3.out.2.1.cell 0
  have k2 := HB3.out.2.1.cell 2
  have k3 := HB3.out.2.1.cell 3
  simp only [aT, aS, aZ] at k0 k2 k3
  by_cases h2 : f.kind = 2
  · have z2 : (f.kind == 2) = true := by simpa using h2
    have HV : Hid (x.hears f = true ∧ newsVal f = .iface 102 (.agg #[.int .i64 f.epoch, .int .i64 f.granted])) := ⟨by rw [HOK2.out, decide_eq_true (by omega)]; rfl, by unfold newsVal; rw [if_pos h2]⟩
    clear h2
    go_wp2
    go_ret2
    rw [HV.out.1, HV.out.2]
    exact ⟨rfl, HB3.out.2.2⟩
  have z2 : (f.kind == 2) = false := by simpa using h2
  by_cases h3 : f.kind = 3
  · have z3 : (f.kind == 3) = true := by simpa using h3
    have HV : Hid (x.hears f = true ∧ newsVal f = .iface 104 (.agg #[.int .i64 f.epoch])) := ⟨by rw [HOK2.out, decide_eq_true (by omega)]; rfl, by unfold newsVal; rw [if_neg h2]⟩
    clear h2 h3
    go_wp2
    go_ret2
    rw [HV.out.1, HV.out.2]
    exact ⟨rfl, HB3.out.2.2⟩
  have z3 : (f.kind == 3) = false := by simpa using h3
  have HV : Hid (x.hears f = false) := by
    show _ = _
    rw [HOK2.out]
    have q := HFO.out.symm
    unfold Fr.ok at q
    simp only [Bool.and_eq_true, decide_eq_true_eq] at q
    obtain ⟨⟨⟨⟨⟨⟨g1, _⟩, _⟩, _⟩, _⟩, _⟩, _⟩ := q
    rw [decide_eq_false (by omega)]; rfl
  clear h2 h3
  go_wp2
  go_ret2
  rw [HV.out]
  exact ⟨rfl, HB3.out.2.2⟩
/-- What an AgentHear has: both arguments, the result's place, the copy at L. -/
structure HearI (w : World) (A B : Array Value) (L : Nat) (C : Array Value) (y : Ag) (F G : List Nat) (W : World) : Prop where
  box : Blk W w.heap.size A 27
  fr : Blk W (w.heap.size + 1) B 35
  res : Blk W (w.heap.size + 1 + 1) #[.int .i64 0, .int .i64 0, .bool false, .int .i64 0, .slice none 0 0, .slice none 0 0, .int .i64 0] 27
  bel : Below w.heap.size w W
  loc : Blk W L C 27
  rd : RdAg W (.agg C) y F G
  oF : Own (w.heap.size + 3) W F
  oG : Own (w.heap.size + 3) W G
  ap : ∀ b ∈ F, b ∉ G
  gL : w.heap.size + 3 ≤ L
  lF : ∀ b ∈ F, b < L
theorem HearI.below {w : World} {A B : Array Value} {L : Nat} {C : Array Value} {y : Ag} {F G : List Nat} {W W' : World} (h : HearI w A B L C y F G W) (b : Below W.heap.size W W') : HearI w A B L C y F G W' :=
  ⟨h.box.below b, h.fr.below b, h.res.below b, Below.next h.bel b, h.loc.below b, h.rd.below b, h.oF.below h.rd.lt1 b, h.oG.below h.rd.lt2 b, h.ap, h.gL, h.lF⟩
/-- The result is laid. -/
theorem HearI.put {w : World} {A B : Array Value} {L : Nat} {C D : Array Value} {x y : Ag} {F G : List Nat} {W : World} {c c' : Int} (h : HearI w A B L C x F G W) (hr : RdAg W (.agg D) y F G) (hc : c = c') :
    NewAg2 w (y, c') (.returned (.tuple #[.agg D, .int .i64 c])) (W.setRow (w.heap.size + 1 + 1) D) := by
  have nF : w.heap.size + 1 + 1 ∉ F := fun hx => by have := h.oF.ge _ hx; omega
  have nG : w.heap.size + 1 + 1 ∉ G := fun hx => by have := h.oG.ge _ hx; omega
  exact ⟨_, F, G, c, rfl, hr.agree (Agree.row nF _) (Agree.row nG _), hc, (h.oF.agree (Agree.row nF _)).mono (by omega), (h.oG.agree (Agree.row nG _)).mono (by omega), h.ap, below_setRow h.bel (by omega) _⟩
theorem rdAg_other {W : World} {x y : Ag} {F G : List Nat} {q1 q2 : Option Addr} {r1 k1 r2 k2 : Nat} {i e g nx : Int} {lv : Bool} (h : RdAg W (.agg #[.int .i64 x.id, .int .i64 x.epoch, .bool x.live, .int .i64 x.granted, .slice q1 r1 k1, .slice q2 r2 k2, .int .i64 x.next]) x F G) (e1 : y.id = i) (e2 : y.epoch = e) (e3 : y.live = lv) (e4 : y.granted = g) (e5 : y.sealed = x.sealed) (e6 : y.taken = x.taken) (e7 : y.next = nx) : RdAg W (.agg #[.int .i64 i, .int .i64 e, .bool lv, .int .i64 g, .slice q1 r1 k1, .slice q2 r2 k2, .int .i64 nx]) y F G := by
  obtain ⟨a1, m1, c1, a2, m2, c2, e, g1, g2, g3, g4⟩ := h
  injection e with e
  injection e with e
  simp at e
  obtain ⟨h1, h2⟩ := e
  obtain ⟨rfl, rfl, rfl⟩ := h1
  obtain ⟨rfl, rfl, rfl⟩ := h2
  exact ⟨_, _, _, _, _, _, by rw [e1, e2, e3, e4, e7], by rw [e5]; exact g1, by rw [e6]; exact g2, g3, g4⟩
set_option maxRecDepth 200000 in
set_option maxHeartbeats 8000000 in
theorem hearImpl_any (v u : Value) (x : Ag) (f : Fr) (F0 G0 F' G' : List Nat) (w : World) (h : RdAg w v x F0 G0) (k : RdFr w u f F' G') (hf : ∀ y ∈ x.sealed, y.sk.fits) (hs : x.sealed.length ≤ 1048576) (hl : x.taken.length ≤ 1048576) (kw : f.item.sk.wide) (kl : f.taken.length ≤ 1048576) :
    Calls Tryz.prog 7 #[v, u] w fun e w' => NewAg2 w (x.hear f) e w' := by
  obtain ⟨a1, n1, c1, a2, n2, c2, rfl, hL, hP, hc1, hc2⟩ := h
  obtain ⟨bt, lt, ct, b1, m1, e1, b2, m2, e2, b3, m3, e3, rfl, kP, kI, kc⟩ := k
  have HX : Hid (RdAg w (.agg #[.int .i64 x.id, .int .i64 x.epoch, .bool x.live, .int .i64 x.granted, .slice a1 n1 c1, .slice a2 n2 c2, .int .i64 x.next]) x F0 G0 ∧ RdP w a2 n2 x.taken G0 ∧ n2 ≤ c2) := ⟨⟨a1, n1, c1, a2, n2, c2, rfl, hL, hP, hc1, hc2⟩, hP, hc2.2⟩
  have HF : Hid (RdFr w (.agg #[.int .i64 f.kind, .int .i64 f.agent, .int .i64 f.epoch, .int .i64 f.granted, .slice bt lt ct, .int .i64 f.item.seq, .int .i64 f.item.cls, .int .i64 f.item.key, .int .i64 f.item.window, .int .i64 f.item.sk.count, .int .i64 f.item.sk.sum, .int .i64 f.item.sk.min, .int .i64 f.item.sk.max, .slice b1 m1 e1, .slice b2 m2 e2, .slice b3 m3 e3]) f F' G' ∧ RdP w bt lt f.taken F' ∧ n2 + lt ≤ 2097152) := ⟨⟨bt, lt, ct, b1, m1, e1, b2, m2, e2, b3, m3, e3, rfl, kP, kI, kc⟩, kP, by rw [← kP.length, ← hP.length]; omega⟩
  have HS : Hid ((∀ y ∈ x.sealed, y.sk.fits) ∧ x.sealed.length ≤ 1048576 ∧ x.taken.length ≤ 1048576 ∧ f.item.sk.wide ∧ f.taken.length ≤ 1048576) := ⟨hf, hs, hl, kw, kl⟩
  clear hL hP hc1 hc2 kP kI kc hf hs hl kw kl
  have HB : Hid (Blk (((w.alloc (.cells #[.int .i64 x.id, .int .i64 x.epoch, .bool x.live, .int .i64 x.granted, .slice a1 n1 c1, .slice a2 n2 c2, .int .i64 x.next] 27)).alloc (.cells #[.int .i64 f.kind, .int .i64 f.agent, .int .i64 f.epoch, .int .i64 f.granted, .slice bt lt ct, .int .i64 f.item.seq, .int .i64 f.item.cls, .int .i64 f.item.key, .int .i64 f.item.window, .int .i64 f.item.sk.count, .int .i64 f.item.sk.sum, .int .i64 f.item.sk.min, .int .i64 f.item.sk.max, .slice b1 m1 e1, .slice b2 m2 e2, .slice b3 m3 e3] 35)).alloc (.cells #[.int .i64 0, .int .i64 0, .bool false, .int .i64 0, .slice none 0 0, .slice none 0 0, .int .i64 0] 27)) w.heap.size #[.int .i64 x.id, .int .i64 x.epoch, .bool x.live, .int .i64 x.granted, .slice a1 n1 c1, .slice a2 n2 c2, .int .i64 x.next] 27 ∧ Blk (((w.alloc (.cells #[.int .i64 x.id, .int .i64 x.epoch, .bool x.live, .int .i64 x.granted, .slice a1 n1 c1, .slice a2 n2 c2, .int .i64 x.next] 27)).alloc (.cells #[.int .i64 f.kind, .int .i64 f.agent, .int .i64 f.epoch, .int .i64 f.granted, .slice bt lt ct, .int .i64 f.item.seq, .int .i64 f.item.cls, .int .i64 f.item.key, .int .i64 f.item.window, .int .i64 f.item.sk.count, .int .i64 f.item.sk.sum, .int .i64 f.item.sk.min, .int .i64 f.item.sk.max, .slice b1 m1 e1, .slice b2 m2 e2, .slice b3 m3 e3] 35)).alloc (.cells #[.int .i64 0, .int .i64 0, .bool false, .int .i64 0, .slice none 0 0, .slice none 0 0, .int .i64 0] 27)) (w.heap.size + 1) #[.int .i64 f.kind, .int .i64 f.agent, .int .i64 f.epoch, .int .i64 f.granted, .slice bt lt ct, .int .i64 f.item.seq, .int .i64 f.item.cls, .int .i64 f.item.key, .int .i64 f.item.window, .int .i64 f.item.sk.count, .int .i64 f.item.sk.sum, .int .i64 f.item.sk.min, .int .i64 f.item.sk.max, .slice b1 m1 e1, .slice b2 m2 e2, .slice b3 m3 e3] 35 ∧ Blk (((w.alloc (.cells #[.int .i64 x.id, .int .i64 x.epoch, .bool x.live, .int .i64 x.granted, .slice a1 n1 c1, .slice a2 n2 c2, .int .i64 x.next] 27)).alloc (.cells #[.int .i64 f.kind, .int .i64 f.agent, .int .i64 f.epoch, .int .i64 f.granted, .slice bt lt ct, .int .i64 f.item.seq, .int .i64 f.item.cls, .int .i64 f.item.key, .int .i64 f.item.window, .int .i64 f.item.sk.count, .int .i64 f.item.sk.sum, .int .i64 f.item.sk.min, .int .i64 f.item.sk.max, .slice b1 m1 e1, .slice b2 m2 e2, .slice b3 m3 e3] 35)).alloc (.cells #[.int .i64 0, .int .i64 0, .bool false, .int .i64 0, .slice none 0 0, .slice none 0 0, .int .i64 0] 27)) (w.heap.size + 1 + 1) #[.int .i64 0, .int .i64 0, .bool false, .int .i64 0, .slice none 0 0, .slice none 0 0, .int .i64 0] 27 ∧ Below w.heap.size w (((w.alloc (.cells #[.int .i64 x.id, .int .i64 x.epoch, .bool x.live, .int .i64 x.granted, .slice a1 n1 c1, .slice a2 n2 c2, .int .i64 x.next] 27)).alloc (.cells #[.int .i64 f.kind, .int .i64 f.agent, .int .i64 f.epoch, .int .i64 f.granted, .slice bt lt ct, .int .i64 f.item.seq, .int .i64 f.item.cls, .int .i64 f.item.key, .int .i64 f.item.window, .int .i64 f.item.sk.count, .int .i64 f.item.sk.sum, .int .i64 f.item.sk.min, .int .i64 f.item.sk.max, .slice b1 m1 e1, .slice b2 m2 e2, .slice b3 m3 e3] 35)).alloc (.cells #[.int .i64 0, .int .i64 0, .bool false, .int .i64 0, .slice none 0 0, .slice none 0 0, .int .i64 0] 27))) :=
    ⟨((Blk.made _ _ _).alloc _).alloc _, (Blk.made_eq (by simp)).alloc _, Blk.made_eq (by simp), Below.allocW _ (Below.allocW _ (Below.allocW _ (Below.refl _ _) (Nat.le_refl _)) (Nat.le_refl _)) (Nat.le_refl _)⟩
  go_enter Tryz.func7, Tryz.ntmps7
  go_wp2_with (first | go_skip | (with_reducible refine stopLoad 27 rfl ?_))
  obtain ⟨W0, hW0⟩ : ∃ W, W = ((w.alloc (.cells #[.int .i64 x.id, .int .i64 x.epoch, .bool x.live, .int .i64 x.granted, .slice a1 n1 c1, .slice a2 n2 c2, .int .i64 x.next] 27)).alloc (.cells #[.int .i64 f.kind, .int .i64 f.agent, .int .i64 f.epoch, .int .i64 f.granted, .slice bt lt ct, .int .i64 f.item.seq, .int .i64 f.item.cls, .int .i64 f.item.key, .int .i64 f.item.window, .int .i64 f.item.sk.count, .int .i64 f.item.sk.sum, .int .i64 f.item.sk.min, .int .i64 f.item.sk.max, .slice b1 m1 e1, .slice b2 m2 e2, .slice b3 m3 e3] 35)).alloc (.cells #[.int .i64 0, .int .i64 0, .bool false, .int .i64 0, .slice none 0 0, .slice none 0 0, .int .i64 0] 27) := ⟨_, rfl⟩
  rw [← hW0] at HB ⊢
  clear hW0
  refine load_known 27 w.heap.size _ 27 _ HB.out.1 rfl rfl rfl Tryz.underlying27 rfl infoAgT ?_
  go_wp2_with fail
  refine (copiedAgent_any _ x F0 G0 _ (HX.out.1.below HB.out.2.2.2) HS.out.1 HS.out.2.1 HS.out.2.2.1).mono ?_
  rintro e w2 ⟨v2, F, G, rfl, g2, o2, p2, ap2, hb2⟩
  obtain ⟨q1, r1, k1, q2, r2, k2, rfl, _⟩ := id g2
  have H2 : Hid (Blk w2 w.heap.size #[.int .i64 x.id, .int .i64 x.epoch, .bool x.live, .int .i64 x.granted, .slice a1 n1 c1, .slice a2 n2 c2, .int .i64 x.next] 27 ∧ Blk w2 (w.heap.size + 1) #[.int .i64 f.kind, .int .i64 f.agent, .int .i64 f.epoch, .int .i64 f.granted, .slice bt lt ct, .int .i64 f.item.seq, .int .i64 f.item.cls, .int .i64 f.item.key, .int .i64 f.item.window, .int .i64 f.item.sk.count, .int .i64 f.item.sk.sum, .int .i64 f.item.sk.min, .int .i64 f.item.sk.max, .slice b1 m1 e1, .slice b2 m2 e2, .slice b3 m3 e3] 35 ∧ Blk w2 (w.heap.size + 1 + 1) #[.int .i64 0, .int .i64 0, .bool false, .int .i64 0, .slice none 0 0, .slice none 0 0, .int .i64 0] 27 ∧ Below w.heap.size w w2 ∧ RdAg w2 (.agg #[.int .i64 x.id, .int .i64 x.epoch, .bool x.live, .int .i64 x.granted, .slice q1 r1 k1, .slice q2 r2 k2, .int .i64 x.next]) x F G ∧ Own (w.heap.size + 3) w2 F ∧ Own (w.heap.size + 3) w2 G ∧ (∀ b ∈ F, b ∉ G) ∧ w.heap.size + 3 ≤ w2.heap.size) := ⟨HB.out.1.below hb2, HB.out.2.1.below hb2, HB.out.2.2.1.below hb2, Below.next HB.out.2.2.2 hb2, g2, o2.mono HB.out.2.2.1.lt, p2.mono HB.out.2.2.1.lt, ap2, by have := HB.out.2.2.1.lt; have := hb2.size; omega⟩
  clear g2 o2 p2 ap2 hb2 HB
  go_wp2_with (first | go_skip | (with_reducible refine stopStore 27 rfl ?_))
  refine store_fresh 27 w2.heap.size rfl #[.int .i64 0, .int .i64 0, .bool false, .int .i64 0, .slice none 0 0, .slice none 0 0, .int .i64 0] #[.int .i64 x.id, .int .i64 x.epoch, .bool x.live, .int .i64 x.granted, .slice q1 r1 k1, .slice q2 r2 k2, .int .i64 x.next] 27 rfl rfl rfl rfl infoAgT rfl (by simp [Value.oneCell']) ?_
  intro w3 hg3 hb3
  have H3 : Hid (HearI w #[.int .i64 x.id, .int .i64 x.epoch, .bool x.live, .int .i64 x.granted, .slice a1 n1 c1, .slice a2 n2 c2, .int .i64 x.next] #[.int .i64 f.kind, .int .i64 f.agent, .int .i64 f.epoch, .int .i64 f.granted, .slice bt lt ct, .int .i64 f.item.seq, .int .i64 f.item.cls, .int .i64 f.item.key, .int .i64 f.item.window, .int .i64 f.item.sk.count, .int .i64 f.item.sk.sum, .int .i64 f.item.sk.min, .int .i64 f.item.sk.max, .slice b1 m1 e1, .slice b2 m2 e2, .slice b3 m3 e3] w2.heap.size #[.int .i64 x.id, .int .i64 x.epoch, .bool x.live, .int .i64 x.granted, .slice q1 r1 k1, .slice q2 r2 k2, .int .i64 x.next] x F G w3) := ⟨H2.out.1.below hb3, H2.out.2.1.below hb3, H2.out.2.2.1.below hb3, Below.next H2.out.2.2.2.1 hb3, hg3, H2.out.2.2.2.2.1.below hb3, H2.out.2.2.2.2.2.1.below H2.out.2.2.2.2.1.lt1 hb3, H2.out.2.2.2.2.2.2.1.below H2.out.2.2.2.2.1.lt2 hb3, H2.out.2.2.2.2.2.2.2.1, H2.out.2.2.2.2.2.2.2.2, H2.out.2.2.2.2.1.lt1⟩
  obtain ⟨L, hL⟩ : ∃ L, L = w2.heap.size := ⟨_, rfl⟩
  rw [← hL] at H3 ⊢
  clear hg3 hb3 H2 hL
  go_wp2_with (first | go_skip | (with_reducible refine stopLoad 27 rfl ?_) | (with_reducible refine stopLoad 35 rfl ?_))
  refine load_known 27 w.heap.size _ 27 _ H3.out.box rfl rfl rfl Tryz.underlying27 rfl infoAgT ?_
  go_wp2_with (first | go_skip | (with_reducible refine stopLoad 35 rfl ?_))
  refine load_known 35 (w.heap.size + 1) _ 35 _ H3.out.fr rfl rfl rfl Tryz.underlying35 rfl infoFrT ?_
  go_wp2_with fail
  refine (newsFor_any _ _ x f F0 G0 F' G' _ (HX.out.1.below H3.out.bel) (HF.out.1.below H3.out.bel) HS.out.1 HS.out.2.1 HS.out.2.2.1 HS.out.2.2.2.1 HS.out.2.2.2.2).mono ?_
  rintro e w4 ⟨rfl, hb4⟩
  have H4 : Hid (HearI w #[.int .i64 x.id, .int .i64 x.epoch, .bool x.live, .int .i64 x.granted, .slice a1 n1 c1, .slice a2 n2 c2, .int .i64 x.next] #[.int .i64 f.kind, .int .i64 f.agent, .int .i64 f.epoch, .int .i64 f.granted, .slice bt lt ct, .int .i64 f.item.seq, .int .i64 f.item.cls, .int .i64 f.item.key, .int .i64 f.item.window, .int .i64 f.item.sk.count, .int .i64 f.item.sk.sum, .int .i64 f.item.sk.min, .int .i64 f.item.sk.max, .slice b1 m1 e1, .slice b2 m2 e2, .slice b3 m3 e3] L #[.int .i64 x.id, .int .i64 x.epoch, .bool x.live, .int .i64 x.granted, .slice q1 r1 k1, .slice q2 r2 k2, .int .i64 x.next] x F G w4) := H3.out.below hb4
  obtain ⟨d, hd⟩ : ∃ d, d = x.hears f := ⟨_, rfl⟩
  rw [← hd]
  have HD : Hid (d = x.hears f) := hd
  clear hb4 hd H3
  cases d
  · have HV : Hid (x.hear f = (x, 1)) := by show _ = _; unfold Ag.hear; rw [if_pos HD.out.symm]
    simp only [Bool.false_eq_true, if_false]
    go_wp2_with (first | go_skip | (with_reducible refine stopLoad 27 rfl ?_))
    refine load_known 27 L _ 27 _ H4.out.loc rfl rfl rfl Tryz.underlying27 rfl infoAgT ?_
    go_wp2_with (first | go_skip | (with_reducible refine stopStore 27 rfl ?_))
    refine store_known 27 (w.heap.size + 1 + 1) _ #[.int .i64 x.id, .int .i64 x.epoch, .bool x.live, .int .i64 x.granted, .slice q1 r1 k1, .slice q2 r2 k2, .int .i64 x.next] 27 H4.out.res rfl rfl rfl rfl infoAgT rfl (by simp [Value.oneCell']) ?_
    have HE := H4.out.put (c := 1) H4.out.rd rfl
    go_wp2
    refine bodyPost_ret (results_row_tmp Tryz.results7 _ _ (w.heap.size + 1 + 1) _ _ _ _ rfl H4.out.res.setRow Tryz.underlying27 rfl infoAgT) rfl ?_
    rw [HV.out]
    exact HE
  have HH := hears_kind HD.out.symm
  have HK : Hid (f.ok = true ∧ x.ok = true ∧ f.taken.ok = true ∧ x.hears f = true) := ⟨HH.2.1, HH.2.2.1, HH.2.2.2, HD.out.symm⟩
  have HKI := HH.1
  clear HH HD
  simp only [if_true]
  by_cases h2 : f.kind = 2
  · have hnv : newsVal f = .iface 102 (.agg #[.int .i64 f.epoch, .int .i64 f.granted]) := by unfold newsVal; rw [if_pos h2]
    rw [hnv]
    have HK2 : Hid (f.kind = 2) := h2
    have hM := methodA f.epoch f.granted
    clear hnv h2 HKI
    go_wp2_with fail
    have H5 : Hid (HearI w #[.int .i64 x.id, .int .i64 x.epoch, .bool x.live, .int .i64 x.granted, .slice a1 n1 c1, .slice a2 n2 c2, .int .i64 x.next] #[.int .i64 f.kind, .int .i64 f.agent, .int .i64 f.epoch, .int .i64 f.granted, .slice bt lt ct, .int .i64 f.item.seq, .int .i64 f.item.cls, .int .i64 f.item.key, .int .i64 f.item.window, .int .i64 f.item.sk.count, .int .i64 f.item.sk.sum, .int .i64 f.item.sk.min, .int .i64 f.item.sk.max, .slice b1 m1 e1, .slice b2 m2 e2, .slice b3 m3 e3] L #[.int .i64 x.id, .int .i64 x.epoch, .bool x.live, .int .i64 x.granted, .slice q1 r1 k1, .slice q2 r2 k2, .int .i64 x.next] x F G w4.drew) := H4.out.below (Below.refl _ _).drew
    obtain ⟨Y0, hY0⟩ : ∃ Y, Y = w4.drew := ⟨_, rfl⟩
    rw [← hY0] at H5
    clear H4
    refine wp_region_held (S := fun W => Blk W w.heap.size #[.int .i64 x.id, .int .i64 x.epoch, .bool x.live, .int .i64 x.granted, .slice a1 n1 c1, .slice a2 n2 c2, .int .i64 x.next] 27) (by kernel_rfl) ?_
    change wpAnyH _ _ _ _ _ _ _ _ (World.drew _)
    rw [← hY0]
    clear hY0
    refine takeH (o := ?o19) 0 (.iface 102 (.agg #[.int .i64 f.epoch, .int .i64 f.granted])) ?h19 ?r19
    case h19 => simp only [aT, aZ]; rfl
    refine ⟨_, by simp [Act.put]; rfl, by kernel_rfl, by kernel_rfl, by kernel_rfl, fun _ _ _ h => h, (.inl ⟨rfl, fun W _ => by kernel_rfl⟩), H5.out.box, ?_⟩
    refine takeH (o := ?o20) 2 (.pointer (some ⟨w.heap.size, 1, none⟩)) ?h20 ?r20
    case h20 => simp only [aT, aS, aZ]; rfl
    refine ⟨_, by simp [Act.put]; rfl, by kernel_rfl, by kernel_rfl, by kernel_rfl, fun _ _ _ h => h, (.inl ⟨rfl, fun W _ => by kernel_rfl⟩), H5.out.box, ?_⟩
    refine takeH (o := ?o21) 3 (.int .i64 x.epoch) ?h21 ?r21
    case h21 => simp only [aT, aS, aZ]; rfl
    refine ⟨_, by simp [Act.put]; rfl, by kernel_rfl, by kernel_rfl, by kernel_rfl, fun _ _ _ h => h, (.inl ⟨rfl, fun W hW => by have c := hW.cell 1; simp only [aT, aS, aZ] at c; go_simp⟩), H5.out.box, ?_⟩
    refine onlyH (o := ?o22) 1 (by kernel_rfl) ?h22 ?r22
    case h22 => simp only [aT, aS, aZ]; rfl
    intro K hK
    refine op_invoke0 _ _ 102 (.agg #[.int .i64 f.epoch, .int .i64 f.granted]) 165 Tryz.f165 (fun v w' => v = .int .i64 f.epoch ∧ Below Y0.heap.size Y0 w') rfl rfl rfl (methodA f.epoch f.granted) Tryz.func165 (by kernel_rfl) (by kernel_rfl) ((ackOf_any f.epoch f.granted Y0).mono (by rintro e w' ⟨rfl, k1⟩; exact ⟨_, rfl, rfl, k1⟩)) ?_
    rintro vr w5 ⟨rfl, rb⟩
    have H6 : Hid (HearI w #[.int .i64 x.id, .int .i64 x.epoch, .bool x.live, .int .i64 x.granted, .slice a1 n1 c1, .slice a2 n2 c2, .int .i64 x.next] #[.int .i64 f.kind, .int .i64 f.agent, .int .i64 f.epoch, .int .i64 f.granted, .slice bt lt ct, .int .i64 f.item.seq, .int .i64 f.item.cls, .int .i64 f.item.key, .int .i64 f.item.window, .int .i64 f.item.sk.count, .int .i64 f.item.sk.sum, .int .i64 f.item.sk.min, .int .i64 f.item.sk.max, .slice b1 m1 e1, .slice b2 m2 e2, .slice b3 m3 e3] L #[.int .i64 x.id, .int .i64 x.epoch, .bool x.live, .int .i64 x.granted, .slice q1 r1 k1, .slice q2 r2 k2, .int .i64 x.next] x F G w5) := H5.out.below rb
    refine ⟨_, by simp [Act.put]; rfl, hK _ _ ⟨H6.out.box, ?_⟩⟩
    clear hK rb H5
    refine takeH (o := ?o23) 4 (.bool (decide (f.epoch < x.epoch))) ?h23 ?r23
    case h23 => simp only [aT, aS, aZ]; rfl
    refine ⟨_, by simp [Act.put]; rfl, by kernel_rfl, by kernel_rfl, by kernel_rfl, fun _ _ _ h => h, (.inl ⟨rfl, fun W _ => by go_simp⟩), H6.out.box, ?_⟩
    refine wpAnyH_done (by kernel_rfl) ?_ _
    by_cases h3 : f.epoch < x.epoch
    · have hz : decide (f.epoch < x.epoch) = true := dec_true h3
      have HV : Hid (x.hear f = (x, 2)) := by show _ = _; unfold Ag.hear; rw [if_neg (by rw [HK.out.2.2.2]; simp), if_pos h3]
      rw [hz]
      clear h3 hz
      go_wp2_with (first | go_skip | (with_reducible refine stopLoad 27 rfl ?_))
      refine load_known 27 L _ 27 _ H6.out.loc rfl rfl rfl Tryz.underlying27 rfl infoAgT ?_
      go_wp2_with (first | go_skip | (with_reducible refine stopStore 27 rfl ?_))
      refine store_known 27 (w.heap.size + 1 + 1) _ #[.int .i64 x.id, .int .i64 x.epoch, .bool x.live, .int .i64 x.granted, .slice q1 r1 k1, .slice q2 r2 k2, .int .i64 x.next] 27 H6.out.res rfl rfl rfl rfl infoAgT rfl (by simp [Value.oneCell']) ?_
      have HE := H6.out.put (c := 2) H6.out.rd rfl
      go_wp2
      refine bodyPost_ret (results_row_tmp Tryz.results7 _ _ (w.heap.size + 1 + 1) _ _ _ _ rfl H6.out.res.setRow Tryz.underlying27 rfl infoAgT) rfl ?_
      rw [HV.out]
      exact HE
    have hz : decide (f.epoch < x.epoch) = false := dec_false h3
    rw [hz]
    have HLE : Hid (x.epoch ≤ f.epoch) := by show _ ≤ _; omega
    have c5 := H6.out.box.cell 5
    have k4 := H6.out.fr.cell 4
    simp only [aT, aS, aZ] at c5 k4
    clear hz h3
    go_wp2_with fail
    refine (joinImpl_any a2 bt n2 lt c2 ct x.taken f.taken G0 F' _ (HX.out.2.1.below H6.out.bel) (HF.out.2.1.below H6.out.bel) HF.out.2.2 HX.out.2.2).mono ?_
    rintro e w7 ⟨p, l, g, Gj, rfl, gj, oj, hb7, cj⟩
    have HJ : Hid (x.taken.join f.taken = joinTo x.taken f.taken f.taken.length) := Sp.join_yes (by have q := HK.out.2.1; unfold Ag.ok at q; simp only [Bool.and_eq_true] at q; exact q.1.1.2.1) HK.out.2.2.1
    have H7 : Hid (HearI w #[.int .i64 x.id, .int .i64 x.epoch, .bool x.live, .int .i64 x.granted, .slice a1 n1 c1, .slice a2 n2 c2, .int .i64 x.next] #[.int .i64 f.kind, .int .i64 f.agent, .int .i64 f.epoch, .int .i64 f.granted, .slice bt lt ct, .int .i64 f.item.seq, .int .i64 f.item.cls, .int .i64 f.item.key, .int .i64 f.item.window, .int .i64 f.item.sk.count, .int .i64 f.item.sk.sum, .int .i64 f.item.sk.min, .int .i64 f.item.sk.max, .slice b1 m1 e1, .slice b2 m2 e2, .slice b3 m3 e3] L #[.int .i64 x.id, .int .i64 x.epoch, .bool x.live, .int .i64 x.granted, .slice q1 r1 k1, .slice q2 r2 k2, .int .i64 x.next] x F G w7 ∧ RdP w7 p l (joinTo x.taken f.taken f.taken.length) Gj ∧ Own (L + 1) w7 Gj ∧ Capd p l g) := ⟨H6.out.below hb7, by rw [← HJ.out]; exact gj, oj.mono H6.out.loc.lt, cj⟩
    have l5 := H7.out.1.loc.cell 5
    have f5 := H7.out.1.loc.frozen 5
    simp only [aT, aS, aZ] at l5
    clear gj oj hb7 cj HJ H6 c5 k4
    go_wp2_with (first | go_skip | (with_reducible refine stopLoad 27 rfl ?_))
    have H8 : Hid (HearI w #[.int .i64 x.id, .int .i64 x.epoch, .bool x.live, .int .i64 x.granted, .slice a1 n1 c1, .slice a2 n2 c2, .int .i64 x.next] #[.int .i64 f.kind, .int .i64 f.agent, .int .i64 f.epoch, .int .i64 f.granted, .slice bt lt ct, .int .i64 f.item.seq, .int .i64 f.item.cls, .int .i64 f.item.key, .int .i64 f.item.window, .int .i64 f.item.sk.count, .int .i64 f.item.sk.sum, .int .i64 f.item.sk.min, .int .i64 f.item.sk.max, .slice b1 m1 e1, .slice b2 m2 e2, .slice b3 m3 e3] L #[.int .i64 x.id, .int .i64 x.epoch, .bool x.live, .int .i64 x.granted, .slice q1 r1 k1, .slice p l g, .int .i64 x.next] ⟨x.id, x.epoch, x.live, x.granted, x.sealed, joinTo x.taken f.taken f.taken.length, x.next⟩ F Gj (w7.setCell ⟨L, 5, none⟩ (.slice p l g))) := by
      have gL := H7.out.1.gL
      have nF : L ∉ F := fun hx => by have := H7.out.1.lF L hx; omega
      have nG : L ∉ Gj := fun hx => by have := H7.out.2.2.1.ge L hx; omega
      obtain ⟨s1, s2, s3, s4, s5, s6, es, g1, g2, g3, g4⟩ := H7.out.1.rd
      injection es with es
      injection es with es
      simp at es
      obtain ⟨es1, es2⟩ := es
      obtain ⟨rfl, rfl, rfl⟩ := es1
      exact ⟨H7.out.1.box.setOther (by omega) 5 _, H7.out.1.fr.setOther (by omega) 5 _, H7.out.1.res.setOther (by omega) 5 _, H7.out.1.bel.setCell (by show w.heap.size ≤ L; omega) _, H7.out.1.loc.set 5 _, ⟨_, _, _, _, _, _, rfl, g1.agree (.set nF 5 _), H7.out.2.1.agree (.set nG 5 _), g3, H7.out.2.2.2⟩, H7.out.1.oF.agree (.set nF 5 _), (H7.out.2.2.1.agree (.set nG 5 _)).mono (by omega), fun b hb hx => by have := H7.out.1.lF b hb; have := H7.out.2.2.1.ge b hx; omega, gL, H7.out.1.lF⟩
    obtain ⟨w8, hw8⟩ : ∃ W, W = w7.setCell ⟨L, 5, none⟩ (.slice p l g) := ⟨_, rfl⟩
    rw [← hw8] at H8 ⊢
    clear hw8 H7 l5 f5
    refine load_known 27 L _ 27 _ H8.out.loc rfl rfl rfl Tryz.underlying27 rfl infoAgT ?_
    have HG : Hid (0 ≤ f.granted) := by
      have q := HK.out.1
      unfold Fr.ok at q
      simp only [Bool.and_eq_true, decide_eq_true_eq] at q
      obtain ⟨⟨⟨⟨⟨⟨_, _⟩, _⟩, g4⟩, _⟩, _⟩, _⟩ := q
      exact g4.1
    by_cases h4 : x.epoch < f.epoch
    · have HV : Hid (x.hear f = (⟨x.id, f.epoch, true, max 0 f.granted, x.sealed, joinTo x.taken f.taken f.taken.length, x.next⟩, 0)) := by
        show _ = _
        unfold Ag.hear
        rw [if_neg (by rw [HK.out.2.2.2]; simp), if_neg (by omega), if_neg (by omega), decide_eq_true HK2.out, if_pos HK2.out, show max 0 f.granted = f.granted from Int.max_eq_right HG.out]
      go_wp2_with fail
      refine (turnedAck1 x.id x.epoch x.granted x.next f.epoch f.granted x.live q1 p r1 k1 l g _ (by omega)).mono ?_
      rintro r w9 ⟨rfl, hb9⟩
      have H9 : Hid (HearI w #[.int .i64 x.id, .int .i64 x.epoch, .bool x.live, .int .i64 x.granted, .slice a1 n1 c1, .slice a2 n2 c2, .int .i64 x.next] #[.int .i64 f.kind, .int .i64 f.agent, .int .i64 f.epoch, .int .i64 f.granted, .slice bt lt ct, .int .i64 f.item.seq, .int .i64 f.item.cls, .int .i64 f.item.key, .int .i64 f.item.window, .int .i64 f.item.sk.count, .int .i64 f.item.sk.sum, .int .i64 f.item.sk.min, .int .i64 f.item.sk.max, .slice b1 m1 e1, .slice b2 m2 e2, .slice b3 m3 e3] L #[.int .i64 x.id, .int .i64 x.epoch, .bool x.live, .int .i64 x.granted, .slice q1 r1 k1, .slice p l g, .int .i64 x.next] ⟨x.id, x.epoch, x.live, x.granted, x.sealed, joinTo x.taken f.taken f.taken.length, x.next⟩ F Gj w9) := H8.out.below hb9
      clear hb9 H8
      go_wp2_with (first | go_skip | (with_reducible refine stopStore 27 rfl ?_))
      refine store_known 27 (w.heap.size + 1 + 1) _ #[.int .i64 x.id, .int .i64 f.epoch, .bool true, .int .i64 (max 0 f.granted), .slice q1 r1 k1, .slice p l g, .int .i64 x.next] 27 H9.out.res rfl rfl rfl rfl infoAgT rfl (by simp [Value.oneCell']) ?_
      have HE := H9.out.put (c := 0) (rdAg_other (y := ⟨x.id, f.epoch, true, (max 0 f.granted), x.sealed, joinTo x.taken f.taken f.taken.length, x.next⟩) (x := ⟨x.id, x.epoch, x.live, x.granted, x.sealed, joinTo x.taken f.taken f.taken.length, x.next⟩) H9.out.rd rfl rfl rfl rfl rfl rfl rfl) rfl
      go_wp2
      refine bodyPost_ret (results_row_tmp Tryz.results7 _ _ (w.heap.size + 1 + 1) _ _ _ _ rfl H9.out.res.setRow Tryz.underlying27 rfl infoAgT) rfl ?_
      rw [HV.out]
      exact HE
    · have HV : Hid (x.hear f = (⟨x.id, f.epoch, true, max x.granted f.granted, x.sealed, joinTo x.taken f.taken f.taken.length, x.next⟩, 0)) := by
        have e : f.epoch = x.epoch := by have := HLE.out; omega
        show _ = _
        unfold Ag.hear
        rw [if_neg (by rw [HK.out.2.2.2]; simp), if_neg (by omega), if_pos ⟨HK2.out, e⟩, e]
      go_wp2_with fail
      refine (turnedAck2 x.id x.epoch x.granted x.next f.epoch f.granted x.live q1 p r1 k1 l g _ (by omega)).mono ?_
      rintro r w9 ⟨rfl, hb9⟩
      have H9 : Hid (HearI w #[.int .i64 x.id, .int .i64 x.epoch, .bool x.live, .int .i64 x.granted, .slice a1 n1 c1, .slice a2 n2 c2, .int .i64 x.next] #[.int .i64 f.kind, .int .i64 f.agent, .int .i64 f.epoch, .int .i64 f.granted, .slice bt lt ct, .int .i64 f.item.seq, .int .i64 f.item.cls, .int .i64 f.item.key, .int .i64 f.item.window, .int .i64 f.item.sk.count, .int .i64 f.item.sk.sum, .int .i64 f.item.sk.min, .int .i64 f.item.sk.max, .slice b1 m1 e1, .slice b2 m2 e2, .slice b3 m3 e3] L #[.int .i64 x.id, .int .i64 x.epoch, .bool x.live, .int .i64 x.granted, .slice q1 r1 k1, .slice p l g, .int .i64 x.next] ⟨x.id, x.epoch, x.live, x.granted, x.sealed, joinTo x.taken f.taken f.taken.length, x.next⟩ F Gj w9) := H8.out.below hb9
      clear hb9 H8
      go_wp2_with (first | go_skip | (with_reducible refine stopStore 27 rfl ?_))
      refine store_known 27 (w.heap.size + 1 + 1) _ #[.int .i64 x.id, .int .i64 f.epoch, .bool true, .int .i64 (max x.granted f.granted), .slice q1 r1 k1, .slice p l g, .int .i64 x.next] 27 H9.out.res rfl rfl rfl rfl infoAgT rfl (by simp [Value.oneCell']) ?_
      have HE := H9.out.put (c := 0) (rdAg_other (y := ⟨x.id, f.epoch, true, (max x.granted f.granted), x.sealed, joinTo x.taken f.taken f.taken.length, x.next⟩) (x := ⟨x.id, x.epoch, x.live, x.granted, x.sealed, joinTo x.taken f.taken f.taken.length, x.next⟩) H9.out.rd rfl rfl rfl rfl rfl rfl rfl) rfl
      go_wp2
      refine bodyPost_ret (results_row_tmp Tryz.results7 _ _ (w.heap.size + 1 + 1) _ _ _ _ rfl H9.out.res.setRow Tryz.underlying27 rfl infoAgT) rfl ?_
      rw [HV.out]
      exact HE
  · have hnv : newsVal f = .iface 104 (.agg #[.int .i64 f.epoch]) := by unfold newsVal; rw [if_neg h2]
    rw [hnv]
    have HK2 : Hid (f.kind = 3) := (by show _ = _; omega)
    have hM := methodR f.epoch
    clear hnv h2 HKI
    go_wp2_with fail
    have H5 : Hid (HearI w #[.int .i64 x.id, .int .i64 x.epoch, .bool x.live, .int .i64 x.granted, .slice a1 n1 c1, .slice a2 n2 c2, .int .i64 x.next] #[.int .i64 f.kind, .int .i64 f.agent, .int .i64 f.epoch, .int .i64 f.granted, .slice bt lt ct, .int .i64 f.item.seq, .int .i64 f.item.cls, .int .i64 f.item.key, .int .i64 f.item.window, .int .i64 f.item.sk.count, .int .i64 f.item.sk.sum, .int .i64 f.item.sk.min, .int .i64 f.item.sk.max, .slice b1 m1 e1, .slice b2 m2 e2, .slice b3 m3 e3] L #[.int .i64 x.id, .int .i64 x.epoch, .bool x.live, .int .i64 x.granted, .slice q1 r1 k1, .slice q2 r2 k2, .int .i64 x.next] x F G w4.drew) := H4.out.below (Below.refl _ _).drew
    obtain ⟨Y0, hY0⟩ : ∃ Y, Y = w4.drew := ⟨_, rfl⟩
    rw [← hY0] at H5
    clear H4
    refine wp_region_held (S := fun W => Blk W w.heap.size #[.int .i64 x.id, .int .i64 x.epoch, .bool x.live, .int .i64 x.granted, .slice a1 n1 c1, .slice a2 n2 c2, .int .i64 x.next] 27) (by kernel_rfl) ?_
    change wpAnyH _ _ _ _ _ _ _ _ (World.drew _)
    rw [← hY0]
    clear hY0
    refine takeH (o := ?o24y) 0 (.iface 104 (.agg #[.int .i64 f.epoch])) ?h24y ?r24y
    case h24y => simp only [aT, aZ]; rfl
    refine ⟨_, by simp [Act.put]; rfl, by kernel_rfl, by kernel_rfl, by kernel_rfl, fun _ _ _ h => h, (.inl ⟨rfl, fun W _ => by kernel_rfl⟩), H5.out.box, ?_⟩
    refine takeH (o := ?o25y) 2 (.pointer (some ⟨w.heap.size, 1, none⟩)) ?h25y ?r25y
    case h25y => simp only [aT, aS, aZ]; rfl
    refine ⟨_, by simp [Act.put]; rfl, by kernel_rfl, by kernel_rfl, by kernel_rfl, fun _ _ _ h => h, (.inl ⟨rfl, fun W _ => by kernel_rfl⟩), H5.out.box, ?_⟩
    refine takeH (o := ?o26y) 3 (.int .i64 x.epoch) ?h26y ?r26y
    case h26y => simp only [aT, aS, aZ]; rfl
    refine ⟨_, by simp [Act.put]; rfl, by kernel_rfl, by kernel_rfl, by kernel_rfl, fun _ _ _ h => h, (.inl ⟨rfl, fun W hW => by have c := hW.cell 1; simp only [aT, aS, aZ] at c; go_simp⟩), H5.out.box, ?_⟩
    refine onlyH (o := ?o27y) 1 (by kernel_rfl) ?h27y ?r27y
    case h27y => simp only [aT, aS, aZ]; rfl
    intro K hK
    refine op_invoke0 _ _ 104 (.agg #[.int .i64 f.epoch]) 166 Tryz.f166 (fun v w' => v = .int .i64 f.epoch ∧ Below Y0.heap.size Y0 w') rfl rfl rfl (methodR f.epoch) Tryz.func166 (by kernel_rfl) (by kernel_rfl) ((resetOf_any f.epoch Y0).mono (by rintro e w' ⟨rfl, k1⟩; exact ⟨_, rfl, rfl, k1⟩)) ?_
    rintro vr w5 ⟨rfl, rb⟩
    have H6 : Hid (HearI w #[.int .i64 x.id, .int .i64 x.epoch, .bool x.live, .int .i64 x.granted, .slice a1 n1 c1, .slice a2 n2 c2, .int .i64 x.next] #[.int .i64 f.kind, .int .i64 f.agent, .int .i64 f.epoch, .int .i64 f.granted, .slice bt lt ct, .int .i64 f.item.seq, .int .i64 f.item.cls, .int .i64 f.item.key, .int .i64 f.item.window, .int .i64 f.item.sk.count, .int .i64 f.item.sk.sum, .int .i64 f.item.sk.min, .int .i64 f.item.sk.max, .slice b1 m1 e1, .slice b2 m2 e2, .slice b3 m3 e3] L #[.int .i64 x.id, .int .i64 x.epoch, .bool x.live, .int .i64 x.granted, .slice q1 r1 k1, .slice q2 r2 k2, .int .i64 x.next] x F G w5) := H5.out.below rb
    refine ⟨_, by simp [Act.put]; rfl, hK _ _ ⟨H6.out.box, ?_⟩⟩
    clear hK rb H5
    refine takeH (o := ?o28y) 4 (.bool (decide (f.epoch < x.epoch))) ?h28y ?r28y
    case h28y => simp only [aT, aS, aZ]; rfl
    refine ⟨_, by simp [Act.put]; rfl, by kernel_rfl, by kernel_rfl, by kernel_rfl, fun _ _ _ h => h, (.inl ⟨rfl, fun W _ => by go_simp⟩), H6.out.box, ?_⟩
    refine wpAnyH_done (by kernel_rfl) ?_ _
    by_cases h3 : f.epoch < x.epoch
    · have hz : decide (f.epoch < x.epoch) = true := dec_true h3
      have HV : Hid (x.hear f = (x, 2)) := by show _ = _; unfold Ag.hear; rw [if_neg (by rw [HK.out.2.2.2]; simp), if_pos h3]
      rw [hz]
      clear h3 hz
      go_wp2_with (first | go_skip | (with_reducible refine stopLoad 27 rfl ?_))
      refine load_known 27 L _ 27 _ H6.out.loc rfl rfl rfl Tryz.underlying27 rfl infoAgT ?_
      go_wp2_with (first | go_skip | (with_reducible refine stopStore 27 rfl ?_))
      refine store_known 27 (w.heap.size + 1 + 1) _ #[.int .i64 x.id, .int .i64 x.epoch, .bool x.live, .int .i64 x.granted, .slice q1 r1 k1, .slice q2 r2 k2, .int .i64 x.next] 27 H6.out.res rfl rfl rfl rfl infoAgT rfl (by simp [Value.oneCell']) ?_
      have HE := H6.out.put (c := 2) H6.out.rd rfl
      go_wp2
      refine bodyPost_ret (results_row_tmp Tryz.results7 _ _ (w.heap.size + 1 + 1) _ _ _ _ rfl H6.out.res.setRow Tryz.underlying27 rfl infoAgT) rfl ?_
      rw [HV.out]
      exact HE
    have hz : decide (f.epoch < x.epoch) = false := dec_false h3
    rw [hz]
    have HLE : Hid (x.epoch ≤ f.epoch) := by show _ ≤ _; omega
    have c5 := H6.out.box.cell 5
    have k4 := H6.out.fr.cell 4
    simp only [aT, aS, aZ] at c5 k4
    clear hz h3
    go_wp2_with fail
    refine (joinImpl_any a2 bt n2 lt c2 ct x.taken f.taken G0 F' _ (HX.out.2.1.below H6.out.bel) (HF.out.2.1.below H6.out.bel) HF.out.2.2 HX.out.2.2).mono ?_
    rintro e w7 ⟨p, l, g, Gj, rfl, gj, oj, hb7, cj⟩
    have HJ : Hid (x.taken.join f.taken = joinTo x.taken f.taken f.taken.length) := Sp.join_yes (by have q := HK.out.2.1; unfold Ag.ok at q; simp only [Bool.and_eq_true] at q; exact q.1.1.2.1) HK.out.2.2.1
    have H7 : Hid (HearI w #[.int .i64 x.id, .int .i64 x.epoch, .bool x.live, .int .i64 x.granted, .slice a1 n1 c1, .slice a2 n2 c2, .int .i64 x.next] #[.int .i64 f.kind, .int .i64 f.agent, .int .i64 f.epoch, .int .i64 f.granted, .slice bt lt ct, .int .i64 f.item.seq, .int .i64 f.item.cls, .int .i64 f.item.key, .int .i64 f.item.window, .int .i64 f.item.sk.count, .int .i64 f.item.sk.sum, .int .i64 f.item.sk.min, .int .i64 f.item.sk.max, .slice b1 m1 e1, .slice b2 m2 e2, .slice b3 m3 e3] L #[.int .i64 x.id, .int .i64 x.epoch, .bool x.live, .int .i64 x.granted, .slice q1 r1 k1, .slice q2 r2 k2, .int .i64 x.next] x F G w7 ∧ RdP w7 p l (joinTo x.taken f.taken f.taken.length) Gj ∧ Own (L + 1) w7 Gj ∧ Capd p l g) := ⟨H6.out.below hb7, by rw [← HJ.out]; exact gj, oj.mono H6.out.loc.lt, cj⟩
    have l5 := H7.out.1.loc.cell 5
    have f5 := H7.out.1.loc.frozen 5
    simp only [aT, aS, aZ] at l5
    clear gj oj hb7 cj HJ H6 c5 k4
    go_wp2_with (first | go_skip | (with_reducible refine stopLoad 27 rfl ?_))
    have H8 : Hid (HearI w #[.int .i64 x.id, .int .i64 x.epoch, .bool x.live, .int .i64 x.granted, .slice a1 n1 c1, .slice a2 n2 c2, .int .i64 x.next] #[.int .i64 f.kind, .int .i64 f.agent, .int .i64 f.epoch, .int .i64 f.granted, .slice bt lt ct, .int .i64 f.item.seq, .int .i64 f.item.cls, .int .i64 f.item.key, .int .i64 f.item.window, .int .i64 f.item.sk.count, .int .i64 f.item.sk.sum, .int .i64 f.item.sk.min, .int .i64 f.item.sk.max, .slice b1 m1 e1, .slice b2 m2 e2, .slice b3 m3 e3] L #[.int .i64 x.id, .int .i64 x.epoch, .bool x.live, .int .i64 x.granted, .slice q1 r1 k1, .slice p l g, .int .i64 x.next] ⟨x.id, x.epoch, x.live, x.granted, x.sealed, joinTo x.taken f.taken f.taken.length, x.next⟩ F Gj (w7.setCell ⟨L, 5, none⟩ (.slice p l g))) := by
      have gL := H7.out.1.gL
      have nF : L ∉ F := fun hx => by have := H7.out.1.lF L hx; omega
      have nG : L ∉ Gj := fun hx => by have := H7.out.2.2.1.ge L hx; omega
      obtain ⟨s1, s2, s3, s4, s5, s6, es, g1, g2, g3, g4⟩ := H7.out.1.rd
      injection es with es
      injection es with es
      simp at es
      obtain ⟨es1, es2⟩ := es
      obtain ⟨rfl, rfl, rfl⟩ := es1
      exact ⟨H7.out.1.box.setOther (by omega) 5 _, H7.out.1.fr.setOther (by omega) 5 _, H7.out.1.res.setOther (by omega) 5 _, H7.out.1.bel.setCell (by show w.heap.size ≤ L; omega) _, H7.out.1.loc.set 5 _, ⟨_, _, _, _, _, _, rfl, g1.agree (.set nF 5 _), H7.out.2.1.agree (.set nG 5 _), g3, H7.out.2.2.2⟩, H7.out.1.oF.agree (.set nF 5 _), (H7.out.2.2.1.agree (.set nG 5 _)).mono (by omega), fun b hb hx => by have := H7.out.1.lF b hb; have := H7.out.2.2.1.ge b hx; omega, gL, H7.out.1.lF⟩
    obtain ⟨w8, hw8⟩ : ∃ W, W = w7.setCell ⟨L, 5, none⟩ (.slice p l g) := ⟨_, rfl⟩
    rw [← hw8] at H8 ⊢
    clear hw8 H7 l5 f5
    refine load_known 27 L _ 27 _ H8.out.loc rfl rfl rfl Tryz.underlying27 rfl infoAgT ?_
    have HV : Hid (x.hear f = (⟨x.id, f.epoch, false, 0, x.sealed, joinTo x.taken f.taken f.taken.length, x.next⟩, 0)) := by
      have hn : ¬ f.kind = 2 := by have := HK2.out; omega
      have := HLE.out
      show _ = _
      unfold Ag.hear
      rw [if_neg (by rw [HK.out.2.2.2]; simp), if_neg (by omega), if_neg (fun e => hn e.1), decide_eq_false hn, if_neg hn]
    go_wp2_with fail
    refine (turnedReset x.id x.epoch x.granted x.next f.epoch x.live q1 p r1 k1 l g _).mono ?_
    rintro r w9 ⟨rfl, hb9⟩
    have H9 : Hid (HearI w #[.int .i64 x.id, .int .i64 x.epoch, .bool x.live, .int .i64 x.granted, .slice a1 n1 c1, .slice a2 n2 c2, .int .i64 x.next] #[.int .i64 f.kind, .int .i64 f.agent, .int .i64 f.epoch, .int .i64 f.granted, .slice bt lt ct, .int .i64 f.item.seq, .int .i64 f.item.cls, .int .i64 f.item.key, .int .i64 f.item.window, .int .i64 f.item.sk.count, .int .i64 f.item.sk.sum, .int .i64 f.item.sk.min, .int .i64 f.item.sk.max, .slice b1 m1 e1, .slice b2 m2 e2, .slice b3 m3 e3] L #[.int .i64 x.id, .int .i64 x.epoch, .bool x.live, .int .i64 x.granted, .slice q1 r1 k1, .slice p l g, .int .i64 x.next] ⟨x.id, x.epoch, x.live, x.granted, x.sealed, joinTo x.taken f.taken f.taken.length, x.next⟩ F Gj w9) := H8.out.below hb9
    clear hb9 H8
    go_wp2_with (first | go_skip | (with_reducible refine stopStore 27 rfl ?_))
    refine store_known 27 (w.heap.size + 1 + 1) _ #[.int .i64 x.id, .int .i64 f.epoch, .bool false, .int .i64 0, .slice q1 r1 k1, .slice p l g, .int .i64 x.next] 27 H9.out.res rfl rfl rfl rfl infoAgT rfl (by simp [Value.oneCell']) ?_
    have HE := H9.out.put (c := 0) (rdAg_other (y := ⟨x.id, f.epoch, false, 0, x.sealed, joinTo x.taken f.taken f.taken.length, x.next⟩) (x := ⟨x.id, x.epoch, x.live, x.granted, x.sealed, joinTo x.taken f.taken f.taken.length, x.next⟩) H9.out.rd rfl rfl rfl rfl rfl rfl rfl) rfl
    go_wp2
    refine bodyPost_ret (results_row_tmp Tryz.results7 _ _ (w.heap.size + 1 + 1) _ _ _ _ rfl H9.out.res.setRow Tryz.underlying27 rfl infoAgT) rfl ?_
    rw [HV.out]
    exact HE
end Go.Proofs.YtgkbhhlkaifnoaaGreatDoor
/- The library's proved contracts, laid at this program by the kit's own command; no statement of the seat is proved here. -/
namespace Go.Proofs
open Go.Shelf
def Tryz.lays156_ren : Go.Shelf.Ren := ⟨fun | 156 => 40 | 165 => 75 | 166 => 76 | 169 => 77 | 240 => 100 | 241 => 101 | 276 => 115 | 277 => 116 | n => n, fun | 31 => 75 | 9 => 9 | 3 => 3 | 4 => 4 | 0 => 0 | 20 => 20 | 72 => 110 | 76 => 112 | 70 => 108 | 37 => 22 | 75 => 88 | 127 => 140 | 164 => 119 | 5 => 5 | 80 => 114 | n => n, fun | n => n⟩
theorem Tryz.lays156 : Go.Proofs.Lays.n156 Tryz.prog Tryz.lays156_ren := {
  mixed := by kernel_rfl
  f156 := Tryz.func40.trans (congrArg some (by kernel_rfl))
  f165 := Tryz.func75.trans (congrArg some (by kernel_rfl))
  f166 := Tryz.func76.trans (congrArg some (by kernel_rfl))
  f169 := Tryz.func77.trans (congrArg some (by kernel_rfl))
  f240 := Tryz.func100.trans (congrArg some (by kernel_rfl))
  f241 := Tryz.func101.trans (congrArg some (by kernel_rfl))
  f276 := Tryz.func115.trans (congrArg some (by kernel_rfl))
  f277 := Tryz.func116.trans (congrArg some (by kernel_rfl))
  t0 := Tryz.underlying0
  a0 := Tryz.isAgg0
  z0 := Tryz.sizeOf0
  v0 := Tryz.zeroValue0
  t3 := Tryz.underlying3
  a3 := Tryz.isAgg3
  z3 := Tryz.sizeOf3
  v3 := Tryz.zeroValue3
  t4 := Tryz.underlying4
  a4 := Tryz.isAgg4
  z4 := Tryz.sizeOf4
  v4 := Tryz.zeroValue4
  t9 := Tryz.underlying9
  a9 := Tryz.isAgg9
  z9 := Tryz.sizeOf9
  v9 := Tryz.zeroValue9
  t20 := Tryz.underlying20
  a20 := Tryz.isAgg20
  z20 := Tryz.sizeOf20
  v20 := Tryz.zeroValue20
  t31 := Tryz.underlying75
  a31 := Tryz.isAgg75
  z31 := Tryz.sizeOf75
  v31 := Tryz.zeroValue75
  t37 := Tryz.underlying22
  a37 := Tryz.isAgg22
  z37 := Tryz.sizeOf22
  v37 := Tryz.zeroValue22
  t70 := Tryz.underlying108
  a70 := Tryz.isAgg108
  z70 := Tryz.sizeOf108
  v70 := Tryz.zeroValue108
  t72 := Tryz.underlying110
  a72 := Tryz.isAgg110
  z72 := Tryz.sizeOf110
  v72 := Tryz.zeroValue110
  t75 := Tryz.underlying88
  a75 := Tryz.isAgg88
  z75 := Tryz.sizeOf88
  v75 := Tryz.zeroValue88
  t76 := Tryz.underlying112
  a76 := Tryz.isAgg112
  z76 := Tryz.sizeOf112
  v76 := Tryz.zeroValue112
  t127 := Tryz.underlying140
  a127 := Tryz.isAgg140
  z127 := Tryz.sizeOf140
  v127 := Tryz.zeroValue140
  t164 := Tryz.underlying119
  a164 := Tryz.isAgg119
  z164 := Tryz.sizeOf119
  v164 := Tryz.zeroValue119 }
theorem Tryz.Builder_Extra_156 : Builder.Extra Tryz.prog Tryz.lays156_ren := {
  sizeBuilder := by kernel_rfl
  liesBuilder := by kernel_rfl
  t5 := Tryz.underlying5
  a5 := Tryz.isAgg5
  z5 := Tryz.sizeOf5
  v5 := Tryz.zeroValue5
  infoByte := by kernel_rfl
  cellsByte := by kernel_rfl
  sizeByte := by kernel_rfl
  neB5 := by decide }
open Go.RowKit in
theorem Tryz.strings_Join_none (a : Option Addr) (c : Nat) (sep : ByteArray) (w : World) :
    Calls Tryz.prog 40 #[.slice a 0 c, .string sep] w fun e w' => e = .returned (.string ⟨#[]⟩) ∧ w' = w := Any.strings_Join_none Tryz.lays156 Tryz.Builder_Extra_156 a c sep w
open Go.RowKit in
theorem Tryz.strings_Join (bk o c : Nat) (xs : List ByteArray) (sep : ByteArray) (w : World) (hcells : ∀ (j : Nat) x, xs[j]? = some x → w.cell? ⟨bk, o + j, none⟩ = some (.string x)) (hbk : bk < w.heap.size) (hN : xs.length ≤ 140737488355328) (hcap : xs.length ≤ c) (hlen : (Lib.join (xs.map (·.data.toList)) sep.data.toList).length ≤ 140737488355328) :
    Calls Tryz.prog 40 #[.slice (some ⟨bk, o, none⟩) xs.length c, .string sep] w fun e w' => e = .returned (.string ⟨(Lib.join (xs.map (·.data.toList)) sep.data.toList).toArray⟩) ∧ Below w.heap.size w w' := Any.strings_Join Tryz.lays156 Tryz.Builder_Extra_156 bk o c xs sep w hcells hbk hN hcap hlen
def Tryz.laysM171_ren : Go.Shelf.Ren := ⟨fun | 171 => 99 | 243 => 114 | 246 => 121 | 283 => 131 | 284 => 132 | 285 => 133 | 286 => 134 | 129 => 141 | 317 => 140 | 318 => 142 | 319 => 143 | 320 => 144 | 337 => 145 | 338 => 146 | n => n, fun | 3 => 3 | 9 => 9 | 2 => 2 | 4 => 4 | 171 => 181 | 0 => 0 | 53 => 182 | 37 => 22 | 5 => 5 | 173 => 185 | 212 => 191 | 51 => 192 | 20 => 20 | 213 => 193 | 46 => 137 | 232 => 196 | 233 => 197 | n => n, fun | 17 => 2 | 18 => 3 | 19 => 4 | n => n⟩
theorem Tryz.laysM171 : Go.Proofs.LaysM.n171 Tryz.prog Tryz.laysM171_ren := {
  mixed := by kernel_rfl
  f129 := Tryz.func141.trans (congrArg some (by kernel_rfl))
  f171 := Tryz.func99.trans (congrArg some (by kernel_rfl))
  f243 := Tryz.func114.trans (congrArg some (by kernel_rfl))
  f246 := Tryz.func121.trans (congrArg some (by kernel_rfl))
  f283 := Tryz.func131.trans (congrArg some (by kernel_rfl))
  f284 := Tryz.func132.trans (congrArg some (by kernel_rfl))
  f285 := Tryz.func133.trans (congrArg some (by kernel_rfl))
  f286 := Tryz.func134.trans (congrArg some (by kernel_rfl))
  f317 := Tryz.func140.trans (congrArg some (by kernel_rfl))
  f318 := Tryz.func142.trans (congrArg some (by kernel_rfl))
  f319 := Tryz.func143.trans (congrArg some (by kernel_rfl))
  f320 := Tryz.func144.trans (congrArg some (by kernel_rfl))
  f337 := Tryz.func145.trans (congrArg some (by kernel_rfl))
  f338 := Tryz.func146.trans (congrArg some (by kernel_rfl))
  t0 := Tryz.underlying0
  a0 := Tryz.isAgg0
  z0 := Tryz.sizeOf0
  v0 := Tryz.zeroValue0
  t2 := Tryz.underlying2
  a2 := Tryz.isAgg2
  z2 := Tryz.sizeOf2
  v2 := Tryz.zeroValue2
  t3 := Tryz.underlying3
  a3 := Tryz.isAgg3
  z3 := Tryz.sizeOf3
  v3 := Tryz.zeroValue3
  t4 := Tryz.underlying4
  a4 := Tryz.isAgg4
  z4 := Tryz.sizeOf4
  v4 := Tryz.zeroValue4
  t5 := Tryz.underlying5
  a5 := Tryz.isAgg5
  z5 := Tryz.sizeOf5
  v5 := Tryz.zeroValue5
  t9 := Tryz.underlying9
  a9 := Tryz.isAgg9
  z9 := Tryz.sizeOf9
  v9 := Tryz.zeroValue9
  t20 := Tryz.underlying20
  a20 := Tryz.isAgg20
  z20 := Tryz.sizeOf20
  v20 := Tryz.zeroValue20
  t37 := Tryz.underlying22
  a37 := Tryz.isAgg22
  z37 := Tryz.sizeOf22
  v37 := Tryz.zeroValue22
  t46 := Tryz.underlying137
  a46 := Tryz.isAgg137
  z46 := Tryz.sizeOf137
  v46 := Tryz.zeroValue137
  t51 := Tryz.underlying192
  a51 := Tryz.isAgg192
  z51 := Tryz.sizeOf192
  v51 := Tryz.zeroValue192
  t53 := Tryz.underlying182
  a53 := Tryz.isAgg182
  z53 := Tryz.sizeOf182
  v53 := Tryz.zeroValue182
  t171 := Tryz.underlying181
  a171 := Tryz.isAgg181
  z171 := Tryz.sizeOf181
  v171 := Tryz.zeroValue181
  t173 := Tryz.underlying185
  a173 := Tryz.isAgg185
  z173 := Tryz.sizeOf185
  v173 := Tryz.zeroValue185
  t212 := Tryz.underlying191
  a212 := Tryz.isAgg191
  z212 := Tryz.sizeOf191
  v212 := Tryz.zeroValue191
  t213 := Tryz.underlying193
  a213 := Tryz.isAgg193
  z213 := Tryz.sizeOf193
  t232 := Tryz.underlying196
  a232 := Tryz.isAgg196
  z232 := Tryz.sizeOf196
  v232 := Tryz.zeroValue196
  t233 := Tryz.underlying197
  a233 := Tryz.isAgg197
  z233 := Tryz.sizeOf197
  v233 := Tryz.zeroValue197
  g17 := by kernel_rfl
  g18 := by kernel_rfl
  g19 := by kernel_rfl
  i0 := by kernel_rfl
  i2 := by kernel_rfl
  i3 := by kernel_rfl
  i4 := by kernel_rfl
  i5 := by kernel_rfl
  i9 := by kernel_rfl
  i20 := by kernel_rfl
  i37 := by kernel_rfl
  i46 := by kernel_rfl
  i51 := by kernel_rfl
  i53 := by kernel_rfl
  i171 := by kernel_rfl
  i173 := by kernel_rfl
  i212 := by kernel_rfl
  i232 := by kernel_rfl
  i233 := by kernel_rfl
  m17 := by kernel_rfl
  m18 := by kernel_rfl
  m19 := by kernel_rfl }
open Go.RowKit Go.Sort Go.Lib in
theorem Tryz.strconv_Itoa (n : Int) (h0 : -9223372036854775808 ≤ n) (h1 : n ≤ 9223372036854775807) (w : World) (htab : Lib.TabIs Tryz.prog w "internal/strconv.uint64pow10" .u64 Lib.pow10Tab) :
    Calls Tryz.prog 99 #[.int .i64 n] w fun e w' => e = .returned (.string ⟨(Lib.itoa n).toArray⟩) ∧ ∃ k os, w' = grow (w.drewN k) os := Any.strconv_Itoa Tryz.laysM171 n h0 h1 w htab
end Go.Proofs
/- The walks through Digits, the program's and the model's. No statement of the seat is proved here. -/
namespace Go.Proofs.YtgkbhhlkaifnoaaGreatDoor
open Go.RowKit Go.Sort

/-- The decimal digits of m ahead of acc. -/
def dig (m : Nat) (acc : List UInt8) : List UInt8 := if m = 0 then acc else dig (m / 10) (UInt8.ofNat (48 + m % 10) :: acc)
  termination_by m
  decreasing_by omega
theorem dig_zero (acc : List UInt8) : dig 0 acc = acc := by rw [dig, if_pos rfl]
theorem dig_dec (m : Nat) : ∀ acc, 0 < m → dig m acc = Lib.decDigits m ++ acc := by
  induction m using Nat.strongRecOn with
  | _ m ih =>
    intro acc hm
    rw [dig, if_neg (by omega), Lib.decDigits]
    by_cases h : m < 10
    · rw [dif_pos h, show m / 10 = 0 by omega, dig_zero, show m % 10 = m by omega]; rfl
    · rw [dif_neg h, ih (m / 10) (by omega) _ (by omega)]; simp
theorem size_list (acc : List UInt8) : (⟨acc.toArray⟩ : ByteArray).size = acc.length := by simp [ByteArray.size]
theorem dig_small (k : Nat) : ∀ m acc, m < 10 ^ k → (dig m acc).length ≤ acc.length + k := by
  induction k with
  | zero => intro m acc h; rw [show m = 0 by simpa using h, dig_zero]; exact Nat.le_refl _
  | succ k ih =>
    intro m acc h
    rw [dig]
    split
    · omega
    · have := ih (m / 10) (UInt8.ofNat (48 + m % 10) :: acc) (by rw [Nat.pow_succ] at h; omega)
      simp only [List.length_cons] at this
      omega
theorem itoa_pos (n : Int) (h : 0 < n) : dig n.toNat [] = Lib.itoa n := by
  rw [dig_dec _ _ (by omega), Lib.itoa, if_neg (by omega)]; simp
theorem itoa_neg (n : Int) (h : n < 0) : (45 : UInt8) :: dig (-n).toNat [] = Lib.itoa n := by
  rw [dig_dec _ _ (by omega), Lib.itoa, if_pos h, show n.natAbs = (-n).toNat by omega]; simp

theorem below_grow (w : World) (k : Nat) (os : Array Obj) : Below w.heap.size w (grow (w.drewN k) os) := by
  refine ⟨rfl, rfl, rfl, ?_, fun j hj => ?_⟩
  · show w.heap.size ≤ (w.heap ++ os).size
    simp
  · show (w.heap ++ os)[j]? = w.heap[j]?
    exact Array.getElem?_append_left hj
set_option maxRecDepth 200000 in
/-- The program's Digits, where the library's table holds what its initialiser lays. -/
theorem digImpl_any (n : Int) (w : World) (h0 : -9223372036854775808 ≤ n) (h1 : n ≤ 9223372036854775807) (htab : Lib.TabIs Tryz.prog w "internal/strconv.uint64pow10" .u64 Lib.pow10Tab) :
    Calls Tryz.prog 74 #[.int .i64 n] w fun e w' => e = .returned (.string ⟨(Lib.itoa n).toArray⟩) ∧ Below w.heap.size w w' := by
  have Ht : Hid (Lib.TabIs Tryz.prog w "internal/strconv.uint64pow10" .u64 Lib.pow10Tab) := htab
  clear htab
  go_enter Tryz.func74, Tryz.ntmps74
  go_wp2_with fail
  refine (Tryz.strconv_Itoa n h0 h1 _ Ht.out).mono ?_
  rintro e w1 ⟨rfl, k, os, rfl⟩
  go_wp2
  go_ret
  exact ⟨rfl, below_grow _ _ _⟩
/-- The table stays as it was. -/
theorem tab_below {w w' : World} {name : String} {k : IntKind} {zs : List Int} {g : Nat} (hg : Tryz.prog.globalNamed name = some g) (h : Lib.TabIs Tryz.prog w name k zs) (hb : Below w.heap.size w w') : Lib.TabIs Tryz.prog w' name k zs := by
  have hl : g < w.heap.size := by
    have h' := h
    unfold Lib.TabIs World.var? at h'
    rw [hg] at h'
    rcases Nat.lt_or_ge g w.heap.size with hlt | hge
    · exact hlt
    · rw [Option.bind_some, Array.getElem?_eq_none hge] at h'
      cases h'
  exact var?_below hb hg hl h
end Go.Proofs.YtgkbhhlkaifnoaaGreatDoor
