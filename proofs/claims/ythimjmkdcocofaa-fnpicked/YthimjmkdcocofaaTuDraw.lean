/- The walk through the model's drawing of turns. No statement of the seat is proved here. -/
import Derived.Test.YthimjmkdcocofaaTuVar
import Derived.Test.YthimjmkdcocofaaTuMath
import Derived.Test.YthimjmkdcocofaaSkNew
import Derived.Test.YthimjmkdcocofaaSkLaw
import Derived.Test.YthimjmkdcocofaaSpDraw
import Derived.Test.YthimjmkdcocofaaDrawSk
import Derived.OrdersHeld
namespace Go.Proofs.Ythimjmkdcocofaa
open Go.RowKit
/-- A turn that is drawn: its variable X, its list's block M, what is seen of it. -/
structure DrT (w : World) (q : Nat) (a : Option Addr) (len cap : Nat) (zs : List Int) (X M : Nat) (k : Int) (f : Bool) (l0 l1 l2 : Int) (n : Nat) (W : World) : Prop where
  res : Blk W w.heap.size #[.int .i64 0, .bool false, .slice none 0 0] 26
  blk : Blk W X #[.int .i64 k, .bool f, .slice (some ⟨M, 0, none⟩) n 3] 26
  lst : Blk W M #[.int .i64 l0, .int .i64 l1, .int .i64 l2] 3
  cur : ∃ i h, Cur W q a len cap zs i h
  grown : w.grownBy W (some q)
  ne : X ≠ M
  gx : w.heap.size < X
  gm : w.heap.size < M
  lt : q < w.heap.size
theorem DrT.next {w : World} {q : Nat} {a : Option Addr} {len cap : Nat} {zs : List Int} {X M : Nat} {k : Int} {f : Bool} {l0 l1 l2 : Int} {n : Nat} {W W' : World} {i h : Int} (D : DrT w q a len cap zs X M k f l0 l1 l2 n W) (C : Cur W' q a len cap zs i h) (g : W.grownBy W' (some q)) : DrT w q a len cap zs X M k f l0 l1 l2 n W' :=
  ⟨D.res.agree (g.block _ D.res.lt (fun e => by have := D.lt; simp at e; omega)), D.blk.agree (g.block _ D.blk.lt (fun e => by have := D.lt; have := D.gx; simp at e; omega)), D.lst.agree (g.block _ D.lst.lt (fun e => by have := D.lt; have := D.gm; simp at e; omega)), ⟨i, h, C⟩, grown_tr D.grown g, D.ne, D.gx, D.gm, D.lt⟩
theorem DrT.below {w : World} {q : Nat} {a : Option Addr} {len cap : Nat} {zs : List Int} {X M : Nat} {k : Int} {f : Bool} {l0 l1 l2 : Int} {n : Nat} {W W' : World} (D : DrT w q a len cap zs X M k f l0 l1 l2 n W) (b : Below W.heap.size W W') : DrT w q a len cap zs X M k f l0 l1 l2 n W' := by
  obtain ⟨i, h, C⟩ := D.cur
  exact ⟨D.res.below b, D.blk.below b, D.lst.below b, ⟨i, h, C.keep b⟩, grown_tr D.grown (grow_below q b), D.ne, D.gx, D.gm, D.lt⟩
theorem cur_set {W : World} {q : Nat} {a : Option Addr} {len cap : Nat} {zs : List Int} {i h : Int} (C : Cur W q a len cap zs i h) {w : World} (hq : q < w.heap.size) (ha : ∀ b off, a = some ⟨b, off, none⟩ → 0 < len → b < w.heap.size) {X : Nat} (hX : w.heap.size ≤ X) (W' : World) (hs : ∀ b, b ≠ X → W'.heap[b]? = W.heap[b]?) : Cur W' q a len cap zs i h :=
  cur_agree C (World.block_lt_of_cell? _ _ C.c0) (hs q (by omega)) (fun b _ ⟨off, e, hp⟩ => hs b (by have := ha b off e hp; omega))
theorem grown_in {w W : World} {q X j : Nat} {v : Value} (g : w.grownBy W (some q)) (hX : w.heap.size ≤ X) : w.grownBy (W.setCell ⟨X, j, none⟩ v) (some q) := by
  have b := (Below.refl w.heap.size W).setCell (p := ⟨X, j, none⟩) hX v
  exact ⟨b.os.trans g.os, b.tape.trans g.tape, b.output.trans g.output, Nat.le_trans g.size b.size, fun c hc hn => (b.block c hc).trans (g.block c hc hn)⟩
/-- What drawing a turn tells. -/
def DrewT (w : World) (q : Nat) (a : Option Addr) (len cap : Nat) (zs : List Int) (e : Ending) (w' : World) : Prop := ∃ v x F i h, e = .returned v ∧ RdTu w' v x F ∧ x.left.length ≤ 3 ∧ Own w.heap.size w' F ∧ Cur w' q a len cap zs i h ∧ w.grownBy w' (some q)
theorem DrT.value {w : World} {q : Nat} {a : Option Addr} {len cap : Nat} {zs : List Int} {X M : Nat} {k : Int} {f : Bool} {l0 l1 l2 : Int} {n : Nat} {W : World} (D : DrT w q a len cap zs X M k f l0 l1 l2 n W) (hn : n = 2 ∨ n = 3) : RdTu W (.agg #[.int .i64 k, .bool f, .slice (some ⟨M, 0, none⟩) n 3]) ⟨k, f, [l0, l1, l2].take n⟩ [M] ∧ Own w.heap.size W [M] := by
  refine ⟨⟨_, _, _, rfl, ?_⟩, ⟨by simp, fun b hb o => by simp at hb; subst hb; exact D.lst.frozen o, fun b hb => by have := D.gm; simp at hb; omega⟩⟩
  rcases hn with rfl | rfl
  · refine ⟨rfl, .inr ⟨M, 0, by omega, rfl, rfl, fun i hi => ?_⟩⟩
    rw [Nat.zero_add, D.lst.cell i]
    match i, hi with
    | 0, _ => rfl
    | 1, _ => rfl
  · refine ⟨rfl, .inr ⟨M, 0, by omega, rfl, rfl, fun i hi => ?_⟩⟩
    rw [Nat.zero_add, D.lst.cell i]
    match i, hi with
    | 0, _ => rfl
    | 1, _ => rfl
    | 2, _ => rfl
set_option maxRecDepth 200000 in
set_option maxHeartbeats 8000000 in
theorem l11Turn_any (q : Nat) (a : Option Addr) (len cap : Nat) (zs : List Int) (i h : Int) (w : World) (C : Cur w q a len cap zs i h) (hlen : len ≤ 1048576) :
    Calls Try.prog 25 #[.pointer (some ⟨q, 0, none⟩)] w fun e w' => DrewT w q a len cap zs e w' := by
  have hq : q < w.heap.size := World.block_lt_of_cell? _ _ C.c0
  have HA : Hid (∀ b off, a = some ⟨b, off, none⟩ → 0 < len → b < w.heap.size) := fun b off e hp => by
    rcases C.rd.cells with h0 | ⟨b', off', ha, hc⟩
    · omega
    · rw [e] at ha; cases ha; exact World.block_lt_of_cell? _ _ (hc 0 hp)
  have HQ : Hid (q < w.heap.size) := hq
  have HC0 : Hid (Cur (w.alloc (.cells #[.int .i64 0, .bool false, .slice none 0 0] 26)) q a len cap zs i h ∧ Blk (w.alloc (.cells #[.int .i64 0, .bool false, .slice none 0 0] 26)) w.heap.size #[.int .i64 0, .bool false, .slice none 0 0] 26 ∧ w.grownBy (w.alloc (.cells #[.int .i64 0, .bool false, .slice none 0 0] 26)) (some q)) := ⟨C.keep (Below.allocW _ (Below.refl _ _) (Nat.le_refl _)), Blk.made _ _ _, grow_below q (Below.allocW _ (Below.refl _ _) (Nat.le_refl _))⟩
  clear C hq
  go_enter Try.func25, Try.ntmps25
  go_wp2_with fail
  refine (l1Below_any q a len cap zs i h 3 _ HC0.out.1 hlen (by omega) (by omega)).mono ?_
  rintro e w0 ⟨k, i0, h0, rfl, _, _, C0, g0⟩
  have HC1 : Hid (Cur w0 q a len cap zs i0 h0 ∧ Blk w0 w.heap.size #[.int .i64 0, .bool false, .slice none 0 0] 26 ∧ w.grownBy w0 (some q)) := ⟨C0, HC0.out.2.1.agree (g0.block _ HC0.out.2.1.lt (fun e => by have := HQ.out; simp at e; omega)), grown_tr HC0.out.2.2 g0⟩
  clear HC0 C0 g0
  go_wp2_with fail
  refine (once_any q a len cap zs i0 h0 2 _ HC1.out.1 hlen (by omega) (by omega)).mono ?_
  rintro e w1 ⟨f, i1, h1, rfl, C1, g1⟩
  have HC2 : Hid (Cur w1 q a len cap zs i1 h1 ∧ Blk w1 w.heap.size #[.int .i64 0, .bool false, .slice none 0 0] 26 ∧ w.grownBy w1 (some q)) := ⟨C1, HC1.out.2.1.agree (g1.block _ HC1.out.2.1.lt (fun e => by have := HQ.out; simp at e; omega)), grown_tr HC1.out.2.2 g1⟩
  clear HC1 C1 g1
  go_wp2_with fail
  refine (l1Below_any q a len cap zs i1 h1 30 _ HC2.out.1 hlen (by omega) (by omega)).mono ?_
  rintro e w2 ⟨l0, i2, h2, rfl, _, _, C2, g2⟩
  have HC3 : Hid (Cur w2 q a len cap zs i2 h2 ∧ Blk w2 w.heap.size #[.int .i64 0, .bool false, .slice none 0 0] 26 ∧ w.grownBy w2 (some q)) := ⟨C2, HC2.out.2.1.agree (g2.block _ HC2.out.2.1.lt (fun e => by have := HQ.out; simp at e; omega)), grown_tr HC2.out.2.2 g2⟩
  clear HC2 C2 g2
  go_wp2_with fail
  refine (l1Below_any q a len cap zs i2 h2 30 _ HC3.out.1 hlen (by omega) (by omega)).mono ?_
  rintro e w3 ⟨l1, i3, h3, rfl, _, _, C3, g3⟩
  have HC4 : Hid (Cur w3 q a len cap zs i3 h3 ∧ Blk w3 w.heap.size #[.int .i64 0, .bool false, .slice none 0 0] 26 ∧ w.grownBy w3 (some q)) := ⟨C3, HC3.out.2.1.agree (g3.block _ HC3.out.2.1.lt (fun e => by have := HQ.out; simp at e; omega)), grown_tr HC3.out.2.2 g3⟩
  clear HC3 C3 g3
  go_wp2_with fail
  refine (l1Below_any q a len cap zs i3 h3 30 _ HC4.out.1 hlen (by omega) (by omega)).mono ?_
  rintro e w4 ⟨l2, i4, h4, rfl, _, _, C4, g4⟩
  have HC5 : Hid (Cur w4 q a len cap zs i4 h4 ∧ Blk w4 w.heap.size #[.int .i64 0, .bool false, .slice none 0 0] 26 ∧ w.grownBy w4 (some q)) := ⟨C4, HC4.out.2.1.agree (g4.block _ HC4.out.2.1.lt (fun e => by have := HQ.out; simp at e; omega)), grown_tr HC4.out.2.2 g4⟩
  clear HC4 C4 g4
  go_wp2_with (first | go_skip | (with_reducible refine stopLoad 26 rfl ?_) | (with_reducible refine stopStore 26 rfl ?_))
  have hsz : (w4.alloc (.cells #[.int .i64 l0, .int .i64 l1, .int .i64 l2] 3)).heap.size = w4.heap.size + 1 := by simp
  have hg4 := HC5.out.2.2.size
  have hr4 := HC5.out.2.1.lt
  obtain ⟨Wm, hWm⟩ : ∃ W, W = w4.alloc (.cells #[.int .i64 l0, .int .i64 l1, .int .i64 l2] 3) := ⟨_, rfl⟩
  have bM : Below w4.heap.size w4 Wm := by rw [hWm]; exact Below.allocW _ (Below.refl _ _) (Nat.le_refl _)
  have lM : Blk Wm w4.heap.size #[.int .i64 l0, .int .i64 l1, .int .i64 l2] 3 := by rw [hWm]; exact Blk.made _ _ _
  rw [← hWm] at hsz
  try rw [← hWm]
  refine store_fresh 26 (w4.heap.size + 1) hsz #[.int .i64 0, .bool false, .slice none 0 0] #[.int .i64 k, .bool f, .slice (some ⟨w4.heap.size, 0, none⟩) 3 3] 26 rfl rfl rfl rfl infoTuI rfl (by simp [Value.oneCell']) ?_
  intro w5 hgX hbX
  have HD : Hid (DrT w q a len cap zs (w4.heap.size + 1) w4.heap.size k f l0 l1 l2 3 w5) := ⟨(HC5.out.2.1.below bM).below hbX, hgX, lM.below hbX, ⟨i4, h4, (HC5.out.1.keep bM).keep hbX⟩, grown_tr (grown_tr HC5.out.2.2 (grow_below q bM)) (grow_below q hbX), by omega, by omega, by omega, HQ.out⟩
  obtain ⟨M, hM⟩ : ∃ M, M = w4.heap.size := ⟨_, rfl⟩
  rw [← hM] at HD ⊢
  obtain ⟨X, hX⟩ : ∃ X, X = M + 1 := ⟨_, rfl⟩
  rw [← hX] at HD ⊢
  clear hgX hbX lM bM hWm hsz HC5 hM hX hg4 hr4
  obtain ⟨i6, h6, C6⟩ := HD.out.cur
  go_wp2_with fail
  refine (l1Below_any q a len cap zs i6 h6 14 _ C6 hlen (by omega) (by omega)).mono ?_
  rintro e w6 ⟨n, i7, h7, rfl, n0, n1, C7, g7⟩
  have HE : Hid (DrT w q a len cap zs X M k f l0 l1 l2 3 w6 ∧ Cur w6 q a len cap zs i7 h7) := ⟨HD.out.next C7 g7, C7⟩
  clear C6 C7 g7 HD
  by_cases z0 : n = 0
  · subst z0
    go_wp2_with fail
    refine (pickInt_cur q w6.heap.size _ a len cap zs i7 h7 [-1, 3] _ (HE.out.2.keep ((Below.refl _ _).alloc (Nat.le_refl _) _)) hlen (fun j hj => lit_ints w6 [-1, 3] 3 j hj) (by have := HE.out.1.lt; have := HE.out.1.grown.size; omega) _ rfl (by simp) (by simp)).mono ?_
    rintro e w8 ⟨y, i8, h8, _, rfl, C8, g8⟩
    have H8 : Hid (DrT w q a len cap zs X M k f l0 l1 l2 3 w8) := (HE.out.1.below ((Below.refl _ _).alloc (Nat.le_refl _) _)).next C8 g8
    clear C8 g8
    have c0 := H8.out.blk.cell 0
    have f0 := H8.out.blk.frozen 0
    simp only [aT, aZ] at c0
    have H9 : Hid (DrT w q a len cap zs X M y f l0 l1 l2 3 (w8.setCell ⟨X, 0, none⟩ (.int .i64 y))) := by
      obtain ⟨i9, h9, C9⟩ := H8.out.cur
      exact ⟨H8.out.res.setOther (by have := H8.out.gx; omega) _ _, H8.out.blk.set 0 _, H8.out.lst.setOther (fun e => H8.out.ne e.symm) _ _, ⟨i9, h9, cur_set (X := X) C9 HQ.out HA.out (by have := H8.out.gx; omega) _ (fun b hb => Below.heap_setCell _ _ _ b hb)⟩, grown_in H8.out.grown (by have := H8.out.gx; omega), H8.out.ne, H8.out.gx, H8.out.gm, H8.out.lt⟩
    clear HE
    go_wp2_with (first | go_skip | (with_reducible refine stopLoad 26 rfl ?_) | (with_reducible refine stopStore 26 rfl ?_))
    obtain ⟨w9, hw9⟩ : ∃ W, W = w8.setCell ⟨X, 0, none⟩ (.int .i64 y) := ⟨_, rfl⟩
    rw [← hw9] at H9 ⊢
    clear hw9 H8 c0 f0
    refine load_known 26 X #[.int .i64 y, .bool f, .slice (some ⟨M, 0, none⟩) 3 3] 26 _ H9.out.blk rfl rfl rfl Try.underlying26 rfl infoTuI ?_
    go_wp2_with (first | go_skip | (with_reducible refine stopLoad 26 rfl ?_) | (with_reducible refine stopStore 26 rfl ?_))
    refine store_known 26 w.heap.size _ #[.int .i64 y, .bool f, .slice (some ⟨M, 0, none⟩) 3 3] 26 H9.out.res rfl rfl rfl rfl infoTuI rfl (by simp [Value.oneCell']) ?_
    go_wp2
    refine bodyPost_ret (results_cell_row Try.results25 _ _ w.heap.size _ _ (0, 0) _ rfl H9.out.res.setRow Try.underlying26 rfl infoTuI) rfl ?_
    obtain ⟨r1, r2⟩ := H9.out.value (by omega)
    obtain ⟨i9, h9, C9⟩ := H9.out.cur
    have ag : Agree w9 (w9.setRow w.heap.size #[.int .i64 y, .bool f, .slice (some ⟨M, 0, none⟩) 3 3]) [M] := Agree.row (fun hx => by have := H9.out.gm; simp at hx; omega) _
    have gw : w.grownBy (w9.setRow w.heap.size #[.int .i64 y, .bool f, .slice (some ⟨M, 0, none⟩) 3 3]) (some q) := by
      have b := below_setRow (Below.refl w.heap.size w9) (Nat.le_refl w.heap.size) #[.int .i64 y, .bool f, .slice (some ⟨M, 0, none⟩) 3 3]
      exact ⟨b.os.trans H9.out.grown.os, b.tape.trans H9.out.grown.tape, b.output.trans H9.out.grown.output, Nat.le_trans H9.out.grown.size b.size, fun b' hb' hn => (b.block b' hb').trans (H9.out.grown.block b' hb' hn)⟩
    exact ⟨_, _, [M], i9, h9, rfl, r1.agree ag, by simp, r2.agree ag, cur_set C9 HQ.out HA.out (Nat.le_refl _) _ (fun b hb => setRow_other _ _ b _ hb), gw⟩
  have z0b : (n == 0) = false := by simpa using z0
  by_cases z1 : n = 1
  · subst z1
    clear z0
    go_wp2_with fail
    refine wp_region_held (S := fun W => W.cell? ⟨X, 2, none⟩ = some (.slice (some ⟨M, 0, none⟩) 3 3)) (by kernel_rfl) ?_
    change wpAnyH _ _ _ _ _ _ _ _ (World.drew _)
    have BD := (Below.refl w6.heap.size w6).drew
    obtain ⟨Y0, hY0⟩ : ∃ Y, Y = w6.drew := ⟨_, rfl⟩
    rw [← hY0] at BD ⊢
    have HE0 : Hid (DrT w q a len cap zs X M k f l0 l1 l2 3 Y0 ∧ Cur Y0 q a len cap zs i7 h7) := ⟨HE.out.1.below BD, HE.out.2.keep BD⟩
    have HS : Hid (Y0.cell? ⟨X, 2, none⟩ = some (.slice (some ⟨M, 0, none⟩) 3 3)) := HE0.out.1.blk.cell 2
    clear hY0 BD HE
    refine takeH (o := ?o1) 0 (.pointer (some ⟨X, 2, none⟩)) ?h1 ?r1
    case h1 => simp only [aT, aZ]; rfl
    refine ⟨_, by simp [Act.put]; rfl, by kernel_rfl, by kernel_rfl, by kernel_rfl, fun _ _ _ h => h, (.inl ⟨rfl, fun W _ => by go_simp⟩), HS.out, ?_⟩
    refine takeH (o := ?o2) 1 (.slice (some ⟨M, 0, none⟩) 3 3) ?h2 ?r2
    case h2 => simp only [aT, aS, aZ]; rfl
    refine ⟨_, by simp [Act.put]; rfl, by kernel_rfl, by kernel_rfl, by kernel_rfl, fun _ _ _ h => h, (.inl ⟨rfl, fun W hW => by have c := hW; go_simp⟩), HS.out, ?_⟩
    refine takeH (o := ?o3) 2 (.pointer (some ⟨q, 0, none⟩)) ?h3 ?r3
    case h3 => simp only [aT, aS, aZ]; rfl
    refine ⟨_, by simp [Act.put]; rfl, by kernel_rfl, by kernel_rfl, by kernel_rfl, fun _ _ _ h => h, (.inl ⟨rfl, fun W _ => by kernel_rfl⟩), HS.out, ?_⟩
    refine onlyH (o := ?o4) 3 (by kernel_rfl) ?h4 ?r4
    case h4 => simp only [aT, aS, aZ]; rfl
    intro K hK
    have HSA : Hid ((Y0.alloc (.cells #[.int .i64 (-1), .int .i64 1000, .int .i64 1001] 3)).cell? ⟨X, 2, none⟩ = some (.slice (some ⟨M, 0, none⟩) 3 3)) := (HE0.out.1.blk.alloc _).cell 2
    refine op_turn (.slice (some ⟨Y0.heap.size, 0, none⟩) 3 3) (Y0.alloc (.cells #[.int .i64 (-1), .int .i64 1000, .int .i64 1001] 3)) rfl (by go_simp) ⟨_, by simp [Act.put]; rfl, hK _ _ ⟨HSA.out, ?_⟩⟩
    clear hK
    refine onlyH (o := ?o5) 4 (by kernel_rfl) ?h5 ?r5
    case h5 => simp only [aT, aS, aZ]; rfl
    intro K hK
    refine op_call2' 26 _ _ _ Try.f26 (fun v w' => ∃ y i' h', v = .int .i64 y ∧ Cur w' q a len cap zs i' h' ∧ (Y0.alloc (.cells #[.int .i64 (-1), .int .i64 1000, .int .i64 1001] 3)).grownBy w' (some q)) rfl rfl Try.func26 (by kernel_rfl) (by kernel_rfl) ((pickInt_cur q Y0.heap.size _ a len cap zs i7 h7 [-1, 1000, 1001] _ (HE0.out.2.keep ((Below.refl _ _).alloc (Nat.le_refl _) _)) hlen (fun j hj => lit_ints Y0 [-1, 1000, 1001] 3 j hj) (by have := HE0.out.1.lt; have := HE0.out.1.grown.size; omega) 3 rfl (by simp) (by simp)).mono (by rintro e w' ⟨y, i', h', _, rfl, c, g⟩; exact ⟨_, rfl, y, i', h', rfl, c, g⟩)) ?_
    rintro _ w8 ⟨y, i8, h8, rfl, C8, g8⟩
    have H8 : Hid (DrT w q a len cap zs X M k f l0 l1 l2 3 w8) := (HE0.out.1.below ((Below.refl _ _).alloc (Nat.le_refl _) _)).next C8 g8
    have HS8 : Hid (w8.cell? ⟨X, 2, none⟩ = some (.slice (some ⟨M, 0, none⟩) 3 3)) := H8.out.blk.cell 2
    refine ⟨_, by simp [Act.put]; rfl, hK _ _ ⟨HS8.out, ?_⟩⟩
    clear hK C8 g8 HE0 HS HSA
    refine takeH (o := ?o6) 5 (.pointer (some ⟨M, 1, none⟩)) ?h6 ?r6
    case h6 => simp only [aT, aS, aZ]; rfl
    refine ⟨_, by simp [Act.put]; rfl, by kernel_rfl, by kernel_rfl, by kernel_rfl, fun _ _ _ h => h, (.inl ⟨rfl, fun W _ => by go_simp⟩), HS8.out, ?_⟩
    refine onlyH (o := ?o7) 6 (by kernel_rfl) ?h7 ?r7
    case h7 => simp only [aT, aS, aZ]; rfl
    intro K hK
    have c1 := H8.out.lst.cell 1
    have f1 := H8.out.lst.frozen 1
    simp only [aT, aS, aZ] at c1
    have H9 : Hid (DrT w q a len cap zs X M k f l0 y l2 3 (w8.setCell ⟨M, 1, none⟩ (.int .i64 y))) := by
      obtain ⟨i9, h9, C9⟩ := H8.out.cur
      exact ⟨H8.out.res.setOther (by have := H8.out.gm; omega) _ _, H8.out.blk.setOther H8.out.ne _ _, H8.out.lst.set 1 _, ⟨i9, h9, cur_set (X := M) C9 HQ.out HA.out (by have := H8.out.gm; omega) _ (fun b hb => Below.heap_setCell _ _ _ b hb)⟩, grown_in H8.out.grown (by have := H8.out.gm; omega), H8.out.ne, H8.out.gx, H8.out.gm, H8.out.lt⟩
    have HS9 : Hid ((w8.setCell ⟨M, 1, none⟩ (.int .i64 y)).cell? ⟨X, 2, none⟩ = some (.slice (some ⟨M, 0, none⟩) 3 3)) := H9.out.blk.cell 2
    refine op_skip (w8.setCell ⟨M, 1, none⟩ (.int .i64 y)) rfl (by go_simp) ⟨_, by simp [Act.put]; rfl, hK _ _ ⟨HS9.out, ?_⟩⟩
    clear hK c1 f1
    obtain ⟨w9, hw9⟩ : ∃ W, W = w8.setCell ⟨M, 1, none⟩ (.int .i64 y) := ⟨_, rfl⟩
    rw [← hw9] at H9 ⊢
    clear hw9 H8 HS8 HS9
    refine wpAnyH_done (by kernel_rfl) ?_ _
    go_wp2_with (first | go_skip | (with_reducible refine stopLoad 26 rfl ?_) | (with_reducible refine stopStore 26 rfl ?_))
    refine load_known 26 X #[.int .i64 k, .bool f, .slice (some ⟨M, 0, none⟩) 3 3] 26 _ H9.out.blk rfl rfl rfl Try.underlying26 rfl infoTuI ?_
    go_wp2_with (first | go_skip | (with_reducible refine stopLoad 26 rfl ?_) | (with_reducible refine stopStore 26 rfl ?_))
    refine store_known 26 w.heap.size _ #[.int .i64 k, .bool f, .slice (some ⟨M, 0, none⟩) 3 3] 26 H9.out.res rfl rfl rfl rfl infoTuI rfl (by simp [Value.oneCell']) ?_
    go_wp2
    refine bodyPost_ret (results_cell_row Try.results25 _ _ w.heap.size _ _ (0, 0) _ rfl H9.out.res.setRow Try.underlying26 rfl infoTuI) rfl ?_
    obtain ⟨r1, r2⟩ := H9.out.value (by omega)
    obtain ⟨i9, h9, C9⟩ := H9.out.cur
    have ag : Agree w9 (w9.setRow w.heap.size #[.int .i64 k, .bool f, .slice (some ⟨M, 0, none⟩) 3 3]) [M] := Agree.row (fun hx => by have := H9.out.gm; simp at hx; omega) _
    have gw : w.grownBy (w9.setRow w.heap.size #[.int .i64 k, .bool f, .slice (some ⟨M, 0, none⟩) 3 3]) (some q) := by
      have b := below_setRow (Below.refl w.heap.size w9) (Nat.le_refl w.heap.size) #[.int .i64 k, .bool f, .slice (some ⟨M, 0, none⟩) 3 3]
      exact ⟨b.os.trans H9.out.grown.os, b.tape.trans H9.out.grown.tape, b.output.trans H9.out.grown.output, Nat.le_trans H9.out.grown.size b.size, fun b' hb' hn => (b.block b' hb').trans (H9.out.grown.block b' hb' hn)⟩
    exact ⟨_, _, [M], i9, h9, rfl, r1.agree ag, by simp, r2.agree ag, cur_set C9 HQ.out HA.out (Nat.le_refl _) _ (fun b hb => setRow_other _ _ b _ hb), gw⟩
  have z1b : (n == 1) = false := by simpa using z1
  by_cases z2 : n = 2
  · subst z2
    clear z0 z1
    have c2 := HE.out.1.blk.cell 2
    have f2 := HE.out.1.blk.frozen 2
    simp only [aT, aS, aZ] at c2
    have H9 : Hid (DrT w q a len cap zs X M k f l0 l1 l2 2 (w6.setCell ⟨X, 2, none⟩ (.slice (some ⟨M, 0, none⟩) 2 3))) := by
      exact ⟨HE.out.1.res.setOther (by have := HE.out.1.gx; omega) _ _, HE.out.1.blk.set 2 _, HE.out.1.lst.setOther (fun e => HE.out.1.ne e.symm) _ _, ⟨i7, h7, cur_set (X := X) HE.out.2 HQ.out HA.out (by have := HE.out.1.gx; omega) _ (fun b hb => Below.heap_setCell _ _ _ b hb)⟩, grown_in HE.out.1.grown (by have := HE.out.1.gx; omega), HE.out.1.ne, HE.out.1.gx, HE.out.1.gm, HE.out.1.lt⟩
    go_wp2_with (first | go_skip | (with_reducible refine stopLoad 26 rfl ?_) | (with_reducible refine stopStore 26 rfl ?_))
    obtain ⟨w9, hw9⟩ : ∃ W, W = w6.setCell ⟨X, 2, none⟩ (.slice (some ⟨M, 0, none⟩) 2 3) := ⟨_, rfl⟩
    rw [← hw9] at H9 ⊢
    clear hw9 HE c2 f2
    refine load_known 26 X #[.int .i64 k, .bool f, .slice (some ⟨M, 0, none⟩) 2 3] 26 _ H9.out.blk rfl rfl rfl Try.underlying26 rfl infoTuI ?_
    go_wp2_with (first | go_skip | (with_reducible refine stopLoad 26 rfl ?_) | (with_reducible refine stopStore 26 rfl ?_))
    refine store_known 26 w.heap.size _ #[.int .i64 k, .bool f, .slice (some ⟨M, 0, none⟩) 2 3] 26 H9.out.res rfl rfl rfl rfl infoTuI rfl (by simp [Value.oneCell']) ?_
    go_wp2
    refine bodyPost_ret (results_cell_row Try.results25 _ _ w.heap.size _ _ (0, 0) _ rfl H9.out.res.setRow Try.underlying26 rfl infoTuI) rfl ?_
    obtain ⟨r1, r2⟩ := H9.out.value (by omega)
    obtain ⟨i9, h9, C9⟩ := H9.out.cur
    have ag : Agree w9 (w9.setRow w.heap.size #[.int .i64 k, .bool f, .slice (some ⟨M, 0, none⟩) 2 3]) [M] := Agree.row (fun hx => by have := H9.out.gm; simp at hx; omega) _
    have gw : w.grownBy (w9.setRow w.heap.size #[.int .i64 k, .bool f, .slice (some ⟨M, 0, none⟩) 2 3]) (some q) := by
      have b := below_setRow (Below.refl w.heap.size w9) (Nat.le_refl w.heap.size) #[.int .i64 k, .bool f, .slice (some ⟨M, 0, none⟩) 2 3]
      exact ⟨b.os.trans H9.out.grown.os, b.tape.trans H9.out.grown.tape, b.output.trans H9.out.grown.output, Nat.le_trans H9.out.grown.size b.size, fun b' hb' hn => (b.block b' hb').trans (H9.out.grown.block b' hb' hn)⟩
    exact ⟨_, _, [M], i9, h9, rfl, r1.agree ag, by simp, r2.agree ag, cur_set C9 HQ.out HA.out (Nat.le_refl _) _ (fun b hb => setRow_other _ _ b _ hb), gw⟩
  have z2b : (n == 2) = false := by simpa using z2
  clear z0 z1 z2
  have H9 : Hid (DrT w q a len cap zs X M k f l0 l1 l2 3 w6) := HE.out.1
  clear HE
  go_wp2_with (first | go_skip | (with_reducible refine stopLoad 26 rfl ?_) | (with_reducible refine stopStore 26 rfl ?_))
  refine load_known 26 X #[.int .i64 k, .bool f, .slice (some ⟨M, 0, none⟩) 3 3] 26 _ H9.out.blk rfl rfl rfl Try.underlying26 rfl infoTuI ?_
  go_wp2_with (first | go_skip | (with_reducible refine stopLoad 26 rfl ?_) | (with_reducible refine stopStore 26 rfl ?_))
  refine store_known 26 w.heap.size _ #[.int .i64 k, .bool f, .slice (some ⟨M, 0, none⟩) 3 3] 26 H9.out.res rfl rfl rfl rfl infoTuI rfl (by simp [Value.oneCell']) ?_
  go_wp2
  refine bodyPost_ret (results_cell_row Try.results25 _ _ w.heap.size _ _ (0, 0) _ rfl H9.out.res.setRow Try.underlying26 rfl infoTuI) rfl ?_
  obtain ⟨r1, r2⟩ := H9.out.value (by omega)
  obtain ⟨i9, h9, C9⟩ := H9.out.cur
  have ag : Agree w6 (w6.setRow w.heap.size #[.int .i64 k, .bool f, .slice (some ⟨M, 0, none⟩) 3 3]) [M] := Agree.row (fun hx => by have := H9.out.gm; simp at hx; omega) _
  have gw : w.grownBy (w6.setRow w.heap.size #[.int .i64 k, .bool f, .slice (some ⟨M, 0, none⟩) 3 3]) (some q) := by
    have b := below_setRow (Below.refl w.heap.size w6) (Nat.le_refl w.heap.size) #[.int .i64 k, .bool f, .slice (some ⟨M, 0, none⟩) 3 3]
    exact ⟨b.os.trans H9.out.grown.os, b.tape.trans H9.out.grown.tape, b.output.trans H9.out.grown.output, Nat.le_trans H9.out.grown.size b.size, fun b' hb' hn => (b.block b' hb').trans (H9.out.grown.block b' hb' hn)⟩
  exact ⟨_, _, [M], i9, h9, rfl, r1.agree ag, by simp, r2.agree ag, cur_set C9 HQ.out HA.out (Nat.le_refl _) _ (fun b hb => setRow_other _ _ b _ hb), gw⟩
end Go.Proofs.Ythimjmkdcocofaa
