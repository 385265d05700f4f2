/- Several texts of mine, laid together. No statement of the seat is proved here. -/
import Derived.Test.YtjndcfamfminkabB1
import Derived.Test.YtjndcfamfminkabDrawPick
import Derived.Test.YtjndcfamfminkabFrModel
import Derived.WalkKit
import Derived.Test.YtjndcfamfminkabBase
import Derived.Test.YtjndcfamfminkabInOf
import Derived.Test.YtjndcfamfminkabSkCopy
import Derived.Laws.BitsAllLaws
import Derived.Defers
import Derived.Recover
import Derived.Laws.Pointers
import Derived.Test.YtjndcfamfminkabCrcMath
import Derived.Lib.SlBytesConst
import Derived.ArgAppend
import Derived.Test.YtjndcfamfminkabTallyS
import Derived.Test.YtjndcfamfminkabTallyB
/- The walks through the model's SetJoin. No statement of the seat is proved here. -/
namespace Go.Proofs.Ytjndcfamfminkab
open Go.RowKit
theorem Sp.at_mem {ps : Sp} {k : Nat} (hk : k < ps.length) : ps.at k ∈ ps := by
  unfold Sp.at
  rw [List.getElem?_eq_getElem hk]
  exact List.getElem_mem hk
theorem inb_iff {ps : Sp} : (∀ k, k < ps.length → InB (ps.at k)) ↔ ∀ p ∈ ps, InB p := by
  constructor
  · intro h p hp
    obtain ⟨k, hk, rfl⟩ := List.getElem_of_mem hp
    have := h k hk
    unfold Sp.at at this
    rw [List.getElem?_eq_getElem hk] at this
    exact this
  · exact fun h k hk => h _ (Sp.at_mem hk)
theorem put_inb : ∀ {ps : Sp} {x : Int × Int} {d : Bool}, (∀ p ∈ ps, InB p) → InB x → ∀ p ∈ put ps x d, InB p
  | [], x, d, _, hx, p, hp => by
    cases d <;> simp [put] at hp
    subst hp; exact hx
  | q :: ps, x, d, h, hx, p, hp => by
    have hq := h q (by simp)
    have hr : ∀ p ∈ ps, InB p := fun p hp => h p (by simp [hp])
    rw [put] at hp
    split at hp
    · rcases List.mem_cons.1 hp with rfl | hp
      · exact hq
      · exact put_inb hr hx p hp
    · split at hp
      · rcases List.mem_append.1 hp with hp | hp
        · cases d <;> simp at hp
          subst hp; exact hx
        · rcases List.mem_cons.1 hp with rfl | hp
          · exact hq
          · exact put_inb hr hx p hp
      · exact put_inb hr (by unfold InB at hq hx ⊢; simp only; omega) p hp
def joinTo (ps qs : Sp) (k : Nat) : Sp := (qs.take k).foldl (fun o q => put o q false) ps
theorem joinTo_zero (ps qs : Sp) : joinTo ps qs 0 = ps := by simp [joinTo]
theorem joinTo_succ {ps qs : Sp} {k : Nat} (hk : k < qs.length) : joinTo ps qs (k + 1) = put (joinTo ps qs k) (qs.at k) false := by
  unfold joinTo
  rw [takeP_succ qs k hk, List.foldl_append]
  rfl
theorem joinTo_inb {ps qs : Sp} (h1 : ∀ p ∈ ps, InB p) (h2 : ∀ p ∈ qs, InB p) : ∀ k, k ≤ qs.length → ∀ p ∈ joinTo ps qs k, InB p
  | 0, _ => by rw [joinTo_zero]; exact h1
  | k + 1, hk => by
    rw [joinTo_succ (by omega)]
    exact put_inb (joinTo_inb h1 h2 k (by omega)) (h2 _ (Sp.at_mem (by omega)))
theorem joinTo_length {ps qs : Sp} : ∀ k, k ≤ qs.length → (joinTo ps qs k).length ≤ ps.length + k
  | 0, _ => by rw [joinTo_zero]; omega
  | k + 1, hk => by
    rw [joinTo_succ (by omega)]
    have := put_length (joinTo ps qs k) (qs.at k) false
    have := joinTo_length (ps := ps) (qs := qs) k (by omega)
    omega
def Sp.join (ps qs : Sp) : Sp := if (ps.ok && qs.ok) = true then joinTo ps qs qs.length else []
theorem Sp.join_not {ps qs : Sp} (h : (ps.ok && qs.ok) = false) : ps.join qs = [] := by unfold Sp.join; rw [h]; rfl
theorem Sp.join_yes {ps qs : Sp} (h1 : ps.ok = true) (h2 : qs.ok = true) : ps.join qs = joinTo ps qs qs.length := by unfold Sp.join; rw [h1, h2]; rfl
set_option maxRecDepth 200000 in
set_option maxHeartbeats 2000000 in
theorem l5Join_any (a b : Option Addr) (la lb ca cb : Nat) (ps qs : Sp) (F G : List Nat) (w : World) (h : RdP w a la ps F) (k : RdP w b lb qs G) (hlen : la + lb ≤ 2097152) (hn : a = none → ca = 0) (h1 : ∀ p ∈ ps, InB p) (h2 : ∀ p ∈ qs, InB p) :
    Calls Try.prog 105 #[.slice a la ca, .slice b lb cb] w fun e w' => NewP w (joinTo ps qs qs.length) e w' := by
  have HL : Hid (ps.length = la ∧ qs.length = lb) := ⟨h.length, k.length⟩
  have HR : Hid (RdP w a la ps F ∧ RdP w b lb qs G) := ⟨h, k⟩
  have HI : Hid ((∀ p ∈ ps, InB p) ∧ (∀ p ∈ qs, InB p) ∧ (a = none → ca = 0)) := ⟨h1, h2, hn⟩
  clear h k h1 h2 hn
  go_enter Try.func105, Try.ntmps105
  go_wp2_with fail
  refine (l5Copy_any a la ca ps F _ HR.out.1 (by omega) HI.out.2.2).mono ?_
  rintro e w1 ⟨a', l', c', F', rfl, g1, g2, g3, g4⟩
  have HE : Hid (RdP w1 a' l' (joinTo ps qs 0) F' ∧ Own w.heap.size w1 F' ∧ Below w.heap.size w w1 ∧ Capd a' l' c') := ⟨by rw [joinTo_zero]; exact g1, g2, g3, g4⟩
  have HCB : Hid (lb = 0 ∨ ∃ b1 o1, b = some ⟨b1, o1, none⟩ ∧ b1 < w.heap.size ∧ SpCells w b1 o1 lb qs) := by
    rcases HR.out.2.cells with ⟨h0, _⟩ | ⟨b1, o1, hp, e, _, hc⟩
    · exact .inl h0
    · exact .inr ⟨b1, o1, e, World.block_lt_of_cell? _ _ (hc 0 hp).1, hc⟩
  clear g1 g2 g3 g4 HR
  go_wp2
  go_loopw [5, 6] (fun v i wr => ∃ (k : Nat) (a' : Option Addr) (l' c' : Nat) (F' : List Nat), k ≤ lb ∧ i = .int .i64 k ∧ v = .slice a' l' c' ∧ Hid (RdP wr a' l' (joinTo ps qs k) F' ∧ Own w.heap.size wr F' ∧ Below w.heap.size w wr ∧ Capd a' l' c')) (fun _ i _ => lb - (intOf i).toNat)
  case atStart => exact ⟨0, a', l', c', F', by omega, rfl, rfl, HE⟩
  case round =>
    clear HE
    obtain ⟨k, a', l', c', F', hk, rfl, rfl, HE⟩ := hrel
    by_cases hlt : k < lb
    · have hcb := HCB.out
      rcases hcb with h0 | ⟨b1, o1, rfl, hbw, hc⟩
      · omega
      obtain ⟨x, hx⟩ : ∃ x, x = (qs.at k).1 := ⟨_, rfl⟩
      obtain ⟨y, hy⟩ : ∃ x, x = (qs.at k).2 := ⟨_, rfl⟩
      have e := hc k hlt
      have HXY : Hid (qs.at k = (x, y)) := by rw [hx, hy]; rfl
      rw [HXY.out] at e
      have d1 : wr.cell? ⟨b1, o1 + k * 2, none⟩ = some (.int .i64 x) := (HE.out.2.2.1.cell (by exact hbw)).trans e.1
      have d2 : wr.cell? ⟨b1, o1 + k * 2 + 1, none⟩ = some (.int .i64 y) := (HE.out.2.2.1.cell (by exact hbw)).trans e.2
      have hql : k < qs.length := by rw [HL.out.2]; exact hlt
      clear e hx hy hc
      go_wp2_with fail
      refine (l5Put_any a' l' c' (joinTo ps qs k) (x, y) F' _ HE.out.1 (by have := joinTo_length (ps := ps) (qs := qs) k (by omega); rw [HE.out.1.length, HL.out.1] at this; omega) (fun j hj => inb_iff.2 (joinTo_inb HI.out.1 HI.out.2.1 k (by omega)) j (by rw [HE.out.1.length]; exact hj)) (by rw [← HXY.out]; exact HI.out.2.1 _ (Sp.at_mem hql))).mono ?_
      rintro e w2 ⟨a2, l2, c2, F2, rfl, g1, g2, g3, g4⟩
      have HE2 : Hid (RdP w2 a2 l2 (joinTo ps qs (k + 1)) F2 ∧ Own w.heap.size w2 F2 ∧ Below w.heap.size w w2 ∧ Capd a2 l2 c2) := ⟨by rw [joinTo_succ hql, HXY.out]; exact g1, g2.mono HE.out.2.2.1.size, Below.next HE.out.2.2.1 g3, g4⟩
      clear g1 g2 g3 g4 HE
      go_wp2
      go_roundw
      case rel => exact ⟨k + 1, a2, l2, c2, F2, by omega, by go_num, rfl, HE2⟩
      case measure => simp [intOf]; omega
    · obtain rfl : k = lb := by omega
      go_wp2
      go_ret
      refine ⟨a', l', c', F', rfl, ?_, HE.out.2⟩
      rw [HL.out.2]
      exact HE.out.1
end Go.Proofs.Ytjndcfamfminkab
/- The walks through the model's drawing of sets. No statement of the seat is proved here. -/
namespace Go.Proofs.Ytjndcfamfminkab
open Go.RowKit
theorem grow_below {w w' : World} (g : Nat) (b : Below w.heap.size w w') : w.grownBy w' (some g) := ⟨b.os, b.tape, b.output, b.size, fun k hk _ => b.block k hk⟩
theorem ownsKeep {w w' : World} {B e size g : Nat} {v : Value} {n : Nat} {xs : List Value} (h : w.ownsRow B e size v n xs) (k : w.grownBy w' (some g)) (hg : g < B) : w'.ownsRow B e size v n xs := by
  refine ⟨h.1, ?_⟩
  rcases h.2 with e | ⟨b, cap, cur, h1, h2, h3, h4⟩
  · exact .inl e
  · refine .inr ⟨b, cap, cur, h1, h2, ?_, h4⟩
    have hb : b < w.heap.size := by
      by_cases hb : b < w.heap.size
      · exact hb
      · rw [Array.getElem?_eq_none (by omega)] at h3; cases h3
    rw [k.block b hb (fun e => by simp at e; omega)]
    exact h3
theorem ownsBelow {w w' : World} {B e size : Nat} {v : Value} {n : Nat} {xs : List Value} (h : w.ownsRow B e size v n xs) (k : Below w.heap.size w w') : w'.ownsRow B e size v n xs := by
  refine ⟨h.1, ?_⟩
  rcases h.2 with e | ⟨b, cap, cur, h1, h2, h3, h4⟩
  · exact .inl e
  · refine .inr ⟨b, cap, cur, h1, h2, ?_, h4⟩
    have hb : b < w.heap.size := by
      by_cases hb : b < w.heap.size
      · exact hb
      · rw [Array.getElem?_eq_none (by omega)] at h3; cases h3
    rw [k.block b hb]
    exact h3
set_option maxRecDepth 200000 in
theorem RdP.grown {w W : World} {B q : Nat} {a : Option Addr} {len : Nat} {ps : Sp} {F : List Nat} (h : RdP w a len ps F) (hF : ∀ b ∈ F, B ≤ b) (k : w.grownBy W (some q)) (hq : q < B) : RdP W a len ps F := h.agree (fun b hb => k.block b (h.lt b hb) (fun e => by have := hF b hb; simp at e; omega))
set_option maxRecDepth 200000 in
theorem once_any (g : Nat) (a : Option Addr) (len cap : Nat) (zs : List Int) (i h : Int) (n : Int) (w : World) (C : Cur w g a len cap zs i h) (hlen : len ≤ 1048576) (hn : 0 < n) (hn' : n ≤ 2147483647) :
    Calls Try.prog 94 #[.pointer (some ⟨g, 0, none⟩), .int .i64 n] w fun e w' => ∃ b i' h', e = .returned (.bool b) ∧ Cur w' g a len cap zs i' h' ∧ w.grownBy w' (some g) := by
  have HC : Hid (Cur w g a len cap zs i h) := C
  clear C
  go_enter Try.func94, Try.ntmps94
  go_wp2_with fail
  refine (l1Below_any g a len cap zs i h n _ HC.out hlen hn hn').mono ?_
  rintro e w1 ⟨x, i1, h1, rfl, _, _, C1, g1⟩
  have HC1 : Hid (Cur w1 g a len cap zs i1 h1 ∧ w.grownBy w1 (some g)) := ⟨C1, g1⟩
  clear C1 g1
  go_wp2
  go_ret
  exact ⟨_, i1, h1, rfl, HC1.out.1, HC1.out.2⟩
/-- Midway in a drawing: the set so far, the cursor. -/
structure DrP (w : World) (q : Nat) (a : Option Addr) (len cap : Nat) (zs : List Int) (v : Value) (ps : Sp) (W : World) : Prop where
  own : W.ownsRow w.heap.size 87 2 v ps.length ((flat ps).map (Value.int .i64))
  cur : ∃ i h, Cur W q a len cap zs i h
  grown : w.grownBy W (some q)
  lt : q < w.heap.size
theorem DrP.next {w : World} {q : Nat} {a : Option Addr} {len cap : Nat} {zs : List Int} {v : Value} {ps : Sp} {W W' : World} {i h : Int} (D : DrP w q a len cap zs v ps W) (C : Cur W' q a len cap zs i h) (g : W.grownBy W' (some q)) : DrP w q a len cap zs v ps W' :=
  ⟨ownsKeep D.own g D.lt, ⟨i, h, C⟩, grown_tr D.grown g, D.lt⟩
theorem DrP.below {w : World} {q : Nat} {a : Option Addr} {len cap : Nat} {zs : List Int} {v : Value} {ps : Sp} {W W' : World} (D : DrP w q a len cap zs v ps W) (b : Below W.heap.size W W') : DrP w q a len cap zs v ps W' := by
  obtain ⟨i, h, C⟩ := D.cur
  exact ⟨ownsBelow D.own b, ⟨i, h, C.keep b⟩, grown_tr D.grown (grow_below q b), D.lt⟩
theorem DrP.alloc {w : World} {q : Nat} {a : Option Addr} {len cap : Nat} {zs : List Int} {v : Value} {ps : Sp} {W : World} (D : DrP w q a len cap zs v ps W) (o : Obj) : DrP w q a len cap zs v ps (W.alloc o) := D.below (Below.allocW _ (Below.refl _ _) (Nat.le_refl _))
/-- What a drawing of a set tells. -/
def DrewP (w : World) (q : Nat) (a : Option Addr) (len cap : Nat) (zs : List Int) (n : Nat) (e : Ending) (w' : World) : Prop := ∃ v ps, e = .returned v ∧ DrP w q a len cap zs v ps w' ∧ ps.length ≤ n ∧ v ≠ .slice none 0 0
theorem list3 {x y z u : Int} (h : u ∈ [x, y, z]) : u = x ∨ u = y ∨ u = z := by simpa using h
theorem put_ne (W : World) (B e n : Nat) (v : Value) (xs : List Value) (h : W.ownsRow B e 2 v n xs) (hn : 0 < n) : v ≠ .slice none 0 0 := by
  rcases h.2 with ⟨_, h0⟩ | ⟨b, cap, cur, h1, _⟩
  · omega
  · rw [h1]; intro e; cases e
theorem put_pos : ∀ (ps : Sp) (x : Int × Int), 0 < (put ps x false).length
  | [], x => by simp [put]
  | p :: ps, x => by
    rw [put]
    split
    · simp
    · split
      · simp
      · exact put_pos ps _
set_option maxRecDepth 100000 in
set_option maxHeartbeats 4000000 in
theorem l5Right_any (q : Nat) (a : Option Addr) (len cap : Nat) (zs : List Int) (i h : Int) (w : World) (C : Cur w q a len cap zs i h) (hlen : len ≤ 1048576) :
    Calls Try.prog 142 #[.pointer (some ⟨q, 0, none⟩)] w fun e w' => DrewP w q a len cap zs 7 e w' := by
  have hq : q < w.heap.size := World.block_lt_of_cell? _ _ C.c0
  have HD0 : Hid (DrP w q a len cap zs (.slice (some ⟨w.heap.size, 0, none⟩) 0 0) [] (w.alloc (.cells #[] 87))) := ⟨own_empty2 w _, ⟨i, h, C.alloc _⟩, grow_below q ((Below.refl _ _).alloc (Nat.le_refl _) _), hq⟩
  have HC0 : Hid (Cur (w.alloc (.cells #[] 87)) q a len cap zs i h) := C.alloc _
  clear C
  go_enter Try.func142, Try.ntmps142
  go_wp2_with fail
  refine (l1Below_any q a len cap zs i h 7 _ HC0.out hlen (by omega) (by omega)).mono ?_
  rintro e w1 ⟨m, i1, h1, rfl, m0, m1, C1, g1⟩
  have HD1 : Hid (DrP w q a len cap zs (.slice (some ⟨w.heap.size, 0, none⟩) 0 0) [] w1) := HD0.out.next C1 g1
  clear C1 g1 HD0 HC0
  go_wp2
  go_loopw [3, 5] (fun v i wr => ∃ (k : Nat) (ps : Sp), (k : Int) ≤ m ∧ i = .int .i64 k ∧ ps.length ≤ k ∧ Hid (DrP w q a len cap zs v ps wr ∧ v ≠ .slice none 0 0) ∧ Hid (∀ p ∈ ps, InB p)) (fun _ i _ => (m - intOf i).toNat)
  case atStart => exact ⟨0, [], by omega, rfl, by simp, ⟨HD1.out, fun e => by cases e⟩, by intro p hp; simp at hp⟩
  case round =>
    clear HD1
    obtain ⟨k, ps, hk, rfl, hpl, HD, HIN⟩ := hrel
    by_cases hlt : (k : Int) < m
    · have hcd : decide ((k : Int) < m) = true := decT hlt
      obtain ⟨i2, h2, C2⟩ := HD.out.1.cur
      go_wp2_with fail
      refine (l1Below_any q a len cap zs i2 h2 20 _ C2 hlen (by omega) (by omega)).mono ?_
      rintro e w2 ⟨x1, i3, h3, rfl, x10, x11, C3, g3⟩
      have HD2 : Hid (DrP w q a len cap zs u3 ps w2) := HD.out.1.next C3 g3
      clear g3 C2
      go_wp2_with fail
      refine (l1Below_any q a len cap zs i3 h3 20 _ C3 hlen (by omega) (by omega)).mono ?_
      rintro e w3 ⟨x2, i4, h4, rfl, x20, x21, C4, g4⟩
      have HD3 : Hid (DrP w q a len cap zs u3 ps w3) := HD2.out.next C4 g4
      clear g4 C3 HD2
      go_wp2_with fail
      refine (l1Below_any q a len cap zs i4 h4 10 _ C4 hlen (by omega) (by omega)).mono ?_
      rintro e w4 ⟨x3, i5, h5, rfl, x30, x31, C5, g5⟩
      have HD4 : Hid (DrP w q a len cap zs u3 ps w4) := HD3.out.next C5 g5
      have HC5 : Hid (Cur w4 q a len cap zs i5 h5) := C5
      clear g5 C4 C5 HD3
      go_wp2_with fail
      have hqw4 : q < w4.heap.size := World.block_lt_of_cell? _ _ HC5.out.c0
      refine (pickInt_cur q w4.heap.size 3 a len cap zs i5 h5 [x1, x2, 9990 + x3] _ (HC5.out.alloc _) hlen (fun j hj => lit_ints w4 [x1, x2, 9990 + x3] _ j hj) (by omega) 3 rfl (by omega) (by omega)).mono ?_
      rintro e w5 ⟨y, i6, h6, hy, rfl, C6, g6⟩
      have HD5 : Hid (DrP w q a len cap zs u3 ps w5) := (HD4.out.alloc _).next C6 g6
      have HC6 : Hid (Cur w5 q a len cap zs i6 h6) := C6
      have hy3 := list3 hy
      have y0 : 0 ≤ y := by omega
      have y1 : y ≤ 9999 := by omega
      clear g6 C6 HD4 HC5 hy hy3 x10 x11 x20 x21 x30 x31 hqw4
      go_wp2_with fail
      refine (l1Below_any q a len cap zs i6 h6 3 _ HC6.out hlen (by omega) (by omega)).mono ?_
      rintro e w6 ⟨z, i7, h7, rfl, z0, z1, C7, g7⟩
      have HD6 : Hid (DrP w q a len cap zs u3 ps w6) := HD5.out.next C7 g7
      clear g7 C7 HD5 HC6
      go_wp2_with fail
      refine (l1Min_any _ _ _).mono ?_
      rintro e w7 ⟨rfl, hw7⟩
      have hw7' := hw7.symm
      subst hw7'
      clear hw7
      obtain ⟨t, ht⟩ : ∃ t, t = min (y + z) 9999 := ⟨_, rfl⟩
      rw [← ht]
      have HT : Hid (InB (y, t)) := by rw [ht]; exact ⟨⟨y0, y1⟩, by simp only; omega, by simp only; omega⟩
      clear ht
      obtain ⟨a', c', F', hv, hr, ho, hnn⟩ := rdP_of_own HD6.out.own
      have HV : Hid (u3 = .slice a' ps.length c' ∧ RdP w6 a' ps.length ps F') := ⟨hv, hr⟩
      clear hr ho hnn
      subst hv
      go_wp2_with fail
      refine (l5Put_own a' ps.length c' ps (y, t) F' _ HV.out.2 (by omega) (fun k hk => HIN.out _ (Sp.at_mem hk)) HT.out).mono ?_
      rintro e w8 ⟨v8, rfl, own8, bel8⟩
      have HD8 : Hid (DrP w q a len cap zs v8 (put ps (y, t) false) w8 ∧ v8 ≠ .slice none 0 0) := by
        have := HD6.out.below bel8
        exact ⟨⟨own_mono own8 HD6.out.grown.size, this.cur, this.grown, this.lt⟩, put_ne _ _ _ _ _ _ own8 (put_pos _ _)⟩
      have HIN8 : Hid (∀ p ∈ put ps (y, t) false, InB p) := put_inb HIN.out HT.out
      have hpl8 := put_length ps (y, t) false
      clear own8 bel8 HD6 HV
      go_wp2
      go_roundw
      case rel => exact ⟨k + 1, put ps (y, t) false, by omega, by go_num, by omega, HD8, HIN8⟩
      case measure => simp [intOf]; omega
    · have hcd : decide ((k : Int) < m) = false := decF hlt
      go_wp2
      go_ret
      exact ⟨_, ps, rfl, HD.out.1, by omega, HD.out.2⟩
end Go.Proofs.Ytjndcfamfminkab
/- The walk through the model's l7Right. No statement of the seat is proved here. -/
namespace Go.Proofs.Ytjndcfamfminkab
open Go.RowKit
section
variable {P : Program} {ops : Array Oper} {Q : Exit → Act → World → Prop} {a : Act} {w : World} {o : Oper} {K : Act → World → Prop}
theorem op_call2v (f : FuncId) (x y : Operand) (ts : Array TypeId) (fn : Func) (R : Value → World → Prop) (hw : Region.wanted o (yielded ops a.tmps) = true) (ho : o.op = Op.call { callee := Callee.value (Operand.func f), args := #[x, y], argTypes := ts })
    (hfn : P.funcs[f]? = some fn) (hnm : (fn.name == "runtime.NumGoroutine") = false) (hbd : fn.body.isNone = false) (hc : Calls P f #[a.eval x, a.eval y] w fun e w' => ∃ v, e = .returned v ∧ R v w') (h : ∀ v w', R v w' → ∃ a', a.put o.dst v = a' ∧ K a' w') : if Region.wanted o (yielded ops a.tmps) = true then Oper.wp P o a w K Q else K (a.put o.dst undef) w := by
  rw [if_pos hw]
  have hnm' : ¬ fn.name = "runtime.NumGoroutine" := by simpa using hnm
  have hbd' : ¬ fn.body = none := by intro e; rw [e] at hbd; cases hbd
  unfold Oper.wp
  simp only [execOp, ho, resolve, invoke, Oper.upon, go_sem]
  simp [callFunc, hfn, hnm', hbd', go_sem]
  simp [Act.eval, go_sem] at hc
  refine Calls.mono hc ?_
  rintro e w1 ⟨v, rfl, hR⟩
  obtain ⟨_, rfl, hk⟩ := h v w1 hR
  exact hk
end
theorem wrapD {n : Int} (h0 : -9223372036854775808 ≤ n) (h1 : n ≤ 9223372036854775807) : IntKind.i64.wrap n = n := by
  simp [IntKind.wrap, IntKind.bits, IntKind.signed]
  omega
theorem full_wideF {s : Sk} (h : s.full) : s.wide := ⟨by have := h.hist; omega, by have := h.regs; omega, by have := h.rows; omega, fun z hz => by have := h.row z hz; omega⟩
theorem zero_wideD : It.zero.sk.wide := ⟨by simp [It.zero, Sk.zero], by simp [It.zero, Sk.zero], by simp [It.zero, Sk.zero], by simp [It.zero, Sk.zero]⟩
theorem infoFrD7 : (Try.prog.info? 51).map (·.size) = some 16 := by kernel_rfl
theorem rdIt_zeroD (w : World) : RdIt w (.agg #[.int .i64 0, .int .i64 0, .int .i64 0, .int .i64 0, .int .i64 0, .int .i64 0, .int .i64 0, .int .i64 0, .slice none 0 0, .slice none 0 0, .slice none 0 0]) It.zero [] := by
  refine ⟨none, 0, 0, none, 0, 0, none, 0, 0, rfl, ?_⟩
  exact ⟨none, 0, 0, none, 0, 0, none, 0, 0, [], [], [], rfl, ⟨rfl, .inl ⟨rfl, rfl⟩⟩, ⟨rfl, .inl ⟨rfl, rfl⟩⟩, ⟨rfl, .inl ⟨rfl, rfl⟩⟩, rfl⟩
/-- A frame that is being drawn: the result's place, the cursor, the frame and its set. -/
structure LocF (w : World) (q : Nat) (a : Option Addr) (len cap : Nat) (zs : List Int) (i h : Int) (L : Nat) (fc : Array Value) (b : Option Addr) (l c : Nat) (ps : Sp) (F : List Nat) (W : World) : Prop where
  held : HeldR w q a len cap zs i h #[.int .i64 0, .int .i64 0, .int .i64 0, .int .i64 0, .slice none 0 0, .int .i64 0, .int .i64 0, .int .i64 0, .int .i64 0, .int .i64 0, .int .i64 0, .int .i64 0, .int .i64 0, .slice none 0 0, .slice none 0 0, .slice none 0 0] 51 W
  loc : Blk W L fc 51
  rd : RdP W b l ps F
  own : Own (w.heap.size + 1) W F
  apart : L ∉ F
  gt : w.heap.size < L
  cpd : Capd b l c
section
variable {w W W' : World} {q : Nat} {a : Option Addr} {len cap : Nat} {zs : List Int} {i h i' h' : Int} {L : Nat} {fc : Array Value} {b : Option Addr} {l c : Nat} {ps : Sp} {F : List Nat}
theorem LocF.next (H : LocF w q a len cap zs i h L fc b l c ps F W) (hq : q < w.heap.size) (C : Cur W' q a len cap zs i' h') (g : W.grownBy W' (some q)) : LocF w q a len cap zs i' h' L fc b l c ps F W' := by
  have ag : Agree W W' F := fun x hx => g.block x (H.rd.lt x hx) (fun e => by have := H.own.ge x hx; simp at e; omega)
  have gt := H.gt
  exact ⟨H.held.next hq C g, H.loc.grown g (by omega), H.rd.agree ag, H.own.agree ag, H.apart, H.gt, H.cpd⟩
theorem LocF.below (H : LocF w q a len cap zs i h L fc b l c ps F W) (k : Below W.heap.size W W') : LocF w q a len cap zs i h L fc b l c ps F W' := ⟨H.held.below k, H.loc.below k, H.rd.below k, H.own.below H.rd.lt k, H.apart, H.gt, H.cpd⟩
theorem LocF.drew (H : LocF w q a len cap zs i h L fc b l c ps F W) : LocF w q a len cap zs i h L fc b l c ps F W.drew := H.below (Below.refl _ _).drew
end
def DrewFrame (w : World) (q : Nat) (a : Option Addr) (len cap : Nat) (zs : List Int) (e : Ending) (w' : World) : Prop :=
  ∃ v f F G i' h', e = .returned v ∧ RdFr w' v f F G ∧ f.item.sk.wide ∧ f.taken.length ≤ 20 ∧ Own w.heap.size w' F ∧ Own w.heap.size w' G ∧ (∀ b ∈ F, b ∉ G) ∧ Cur w' q a len cap zs i' h' ∧ w.grownBy w' (some q)
theorem inb_at {ps : Sp} (h : ∀ p ∈ ps, InB p) {len : Nat} (hl : ps.length = len) : ∀ k, k < len → InB (ps.at k) := fun k hk => h _ (Sp.at_mem (by omega))
set_option maxRecDepth 200000 in
set_option maxHeartbeats 8000000 in
theorem l7Right_any (q : Nat) (a : Option Addr) (len cap : Nat) (zs : List Int) (i h : Int) (w : World) (C : Cur w q a len cap zs i h) (hlen : len ≤ 1048576) :
    Calls Try.prog 115 #[.pointer (some ⟨q, 0, none⟩)] w fun e w' => DrewFrame w q a len cap zs e w' := by
  have hq : q < w.heap.size := World.block_lt_of_cell? _ _ C.c0
  have HA : Hid (∀ b, (∃ off, a = some ⟨b, off, none⟩ ∧ 0 < len) → b < w.heap.size) := cur_lt C
  have H0 : Hid (HeldR w q a len cap zs i h #[.int .i64 0, .int .i64 0, .int .i64 0, .int .i64 0, .slice none 0 0, .int .i64 0, .int .i64 0, .int .i64 0, .int .i64 0, .int .i64 0, .int .i64 0, .int .i64 0, .int .i64 0, .slice none 0 0, .slice none 0 0, .slice none 0 0] 51 (w.alloc (.cells #[.int .i64 0, .int .i64 0, .int .i64 0, .int .i64 0, .slice none 0 0, .int .i64 0, .int .i64 0, .int .i64 0, .int .i64 0, .int .i64 0, .int .i64 0, .int .i64 0, .int .i64 0, .slice none 0 0, .slice none 0 0, .slice none 0 0] 51))) := HeldR.made C _ _
  clear C
  go_enter Try.func115, Try.ntmps115
  go_wp2_with fail
  refine (l1Below_any q a len cap zs i h 4 _ H0.out.cur hlen (by omega) (by omega)).mono ?_
  rintro e w1 ⟨x1, i1, h1, rfl, p1, r1, C1, g1⟩
  have H1 : Hid (HeldR w q a len cap zs i1 h1 #[.int .i64 0, .int .i64 0, .int .i64 0, .int .i64 0, .slice none 0 0, .int .i64 0, .int .i64 0, .int .i64 0, .int .i64 0, .int .i64 0, .int .i64 0, .int .i64 0, .int .i64 0, .slice none 0 0, .slice none 0 0, .slice none 0 0] 51 w1) := H0.out.next hq C1 g1
  clear C1 g1 H0
  go_wp2_with fail
  refine (l1Below_any q a len cap zs i1 h1 3 _ H1.out.cur hlen (by omega) (by omega)).mono ?_
  rintro e w2 ⟨x2, i2, h2, rfl, p2, r2, C2, g2⟩
  have H2 : Hid (HeldR w q a len cap zs i2 h2 #[.int .i64 0, .int .i64 0, .int .i64 0, .int .i64 0, .slice none 0 0, .int .i64 0, .int .i64 0, .int .i64 0, .int .i64 0, .int .i64 0, .int .i64 0, .int .i64 0, .int .i64 0, .slice none 0 0, .slice none 0 0, .slice none 0 0] 51 w2) := H1.out.next hq C2 g2
  clear C2 g2 H1
  go_wp2_with fail
  refine (l1Below_any q a len cap zs i2 h2 3 _ H2.out.cur hlen (by omega) (by omega)).mono ?_
  rintro e w3 ⟨x3, i3, h3, rfl, p3, r3, C3, g3⟩
  have H3 : Hid (HeldR w q a len cap zs i3 h3 #[.int .i64 0, .int .i64 0, .int .i64 0, .int .i64 0, .slice none 0 0, .int .i64 0, .int .i64 0, .int .i64 0, .int .i64 0, .int .i64 0, .int .i64 0, .int .i64 0, .int .i64 0, .slice none 0 0, .slice none 0 0, .slice none 0 0] 51 w3) := H2.out.next hq C3 g3
  clear C3 g3 H2
  go_wp2_with fail
  refine (l1Below_any q a len cap zs i3 h3 9 _ H3.out.cur hlen (by omega) (by omega)).mono ?_
  rintro e w4 ⟨x4, i4, h4, rfl, p4, r4, C4, g4⟩
  have H4 : Hid (HeldR w q a len cap zs i4 h4 #[.int .i64 0, .int .i64 0, .int .i64 0, .int .i64 0, .slice none 0 0, .int .i64 0, .int .i64 0, .int .i64 0, .int .i64 0, .int .i64 0, .int .i64 0, .int .i64 0, .int .i64 0, .slice none 0 0, .slice none 0 0, .slice none 0 0] 51 w4) := H3.out.next hq C4 g4
  clear C4 g4 H3
  go_wp2_with (first | go_skip | (with_reducible refine stopStore 51 rfl ?_))
  refine store_fresh 51 w4.heap.size rfl #[.int .i64 0, .int .i64 0, .int .i64 0, .int .i64 0, .slice none 0 0, .int .i64 0, .int .i64 0, .int .i64 0, .int .i64 0, .int .i64 0, .int .i64 0, .int .i64 0, .int .i64 0, .slice none 0 0, .slice none 0 0, .slice none 0 0] #[.int .i64 x1, .int .i64 x2, .int .i64 x3, .int .i64 x4, .slice none 0 0, .int .i64 0, .int .i64 0, .int .i64 0, .int .i64 0, .int .i64 0, .int .i64 0, .int .i64 0, .int .i64 0, .slice none 0 0, .slice none 0 0, .slice none 0 0] 51 rfl rfl rfl rfl infoFrD7 rfl (by simp [Value.oneCell']) ?_
  intro w5 hg5 hb5
  have H5 : Hid (LocF w q a len cap zs i4 h4 w4.heap.size #[.int .i64 x1, .int .i64 x2, .int .i64 x3, .int .i64 x4, .slice none 0 0, .int .i64 0, .int .i64 0, .int .i64 0, .int .i64 0, .int .i64 0, .int .i64 0, .int .i64 0, .int .i64 0, .slice none 0 0, .slice none 0 0, .slice none 0 0] none 0 0 [] [] w5) := ⟨H4.out.below hb5, hg5, RdP.nil, Own.nil, by simp, H4.out.res.lt, fun _ => rfl, Nat.le_refl _⟩
  clear hg5 hb5 H4
  go_wp2_with fail
  refine (l1Below_any q a len cap zs i4 h4 3 _ H5.out.held.cur hlen (by omega) (by omega)).mono ?_
  rintro e w6 ⟨m, i6, h6, rfl, m0, m1, C6, g6⟩
  have H6 : Hid (LocF w q a len cap zs i6 h6 w4.heap.size #[.int .i64 x1, .int .i64 x2, .int .i64 x3, .int .i64 x4, .slice none 0 0, .int .i64 0, .int .i64 0, .int .i64 0, .int .i64 0, .int .i64 0, .int .i64 0, .int .i64 0, .int .i64 0, .slice none 0 0, .slice none 0 0, .slice none 0 0] none 0 0 [] [] w6) := H5.out.next hq C6 g6
  obtain ⟨L, hL⟩ : ∃ L, L = w4.heap.size := ⟨_, rfl⟩
  rw [← hL] at H6 ⊢
  clear C6 g6 H5 hL
  go_wp2
  go_loopw [5] (fun i wr => ∃ (k : Nat) (ps : Sp) (b : Option Addr) (c : Nat) (F : List Nat) (i' h' : Int), (k : Int) ≤ m ∧ i = .int .i64 k ∧ ps.length ≤ k ∧ Hid (LocF w q a len cap zs i' h' L #[.int .i64 x1, .int .i64 x2, .int .i64 x3, .int .i64 x4, .slice b ps.length c, .int .i64 0, .int .i64 0, .int .i64 0, .int .i64 0, .int .i64 0, .int .i64 0, .int .i64 0, .int .i64 0, .slice none 0 0, .slice none 0 0, .slice none 0 0] b ps.length c ps F wr) ∧ Hid (∀ p ∈ ps, InB p)) (fun i _ => (m - intOf i).toNat)
  case atStart => exact ⟨0, [], none, 0, [], i6, h6, by omega, rfl, by simp, H6, by intro p hp; simp at hp⟩
  case round =>
    clear H6
    obtain ⟨k, ps, b, c, F, i7, h7, hk, rfl, hpl, HD, HIN⟩ := hrel
    by_cases hlt : (k : Int) < m
    · have hcd : decide ((k : Int) < m) = true := decT hlt
      obtain ⟨lp, hlp⟩ : ∃ n, n = ps.length := ⟨_, rfl⟩
      rw [← hlp] at HD hpl
      have HLP : Hid (ps.length = lp) := hlp.symm
      clear hlp
      go_wp2_with fail
      refine (l1Below_any q a len cap zs i7 h7 12 _ HD.out.held.cur hlen (by omega) (by omega)).mono ?_
      rintro e w7 ⟨y, i8, h8, rfl, y0, y1, C8, g8⟩
      have HD7 : Hid (LocF w q a len cap zs i8 h8 L #[.int .i64 x1, .int .i64 x2, .int .i64 x3, .int .i64 x4, .slice b lp c, .int .i64 0, .int .i64 0, .int .i64 0, .int .i64 0, .int .i64 0, .int .i64 0, .int .i64 0, .int .i64 0, .slice none 0 0, .slice none 0 0, .slice none 0 0] b lp c ps F w7) := HD.out.next hq C8 g8
      clear C8 g8 HD
      obtain ⟨lo, hlo⟩ : ∃ n, n = 1 + y := ⟨_, rfl⟩
      have l0 : 1 ≤ lo := by omega
      have l1 : lo ≤ 12 := by omega
      go_wp2
      rw [← hlo]
      clear hlo y0 y1
      have HDd : Hid (LocF w q a len cap zs i8 h8 L #[.int .i64 x1, .int .i64 x2, .int .i64 x3, .int .i64 x4, .slice b lp c, .int .i64 0, .int .i64 0, .int .i64 0, .int .i64 0, .int .i64 0, .int .i64 0, .int .i64 0, .int .i64 0, .slice none 0 0, .slice none 0 0, .slice none 0 0] b lp c ps F w7.drew) := HD7.out.drew
      clear HD7
      refine wp_region_held (S := fun _ => True) (by kernel_rfl) ?_
      change wpAnyH _ _ _ _ _ _ _ _ (World.drew _)
      refine takeH (o := ?o1) 0 (.pointer (some ⟨L, 4, none⟩)) ?h1 ?r1
      case h1 => simp only [aT, aZ]; rfl
      refine ⟨_, by simp [Act.put]; rfl, by kernel_rfl, by kernel_rfl, by kernel_rfl, fun _ _ _ h => h, (.inl ⟨rfl, fun W _ => by go_simp⟩), trivial, ?_⟩
      refine takeH (o := ?o2) 2 (.int .i64 lo) ?h2 ?r2
      case h2 => simp only [aT, aS, aZ]; rfl
      refine ⟨_, by simp [Act.put]; rfl, by kernel_rfl, by kernel_rfl, by kernel_rfl, fun _ _ _ h => h, (.inl ⟨rfl, fun W _ => by go_simp⟩), trivial, ?_⟩
      refine takeH (o := ?o3) 3 (.int .i64 lo) ?h3 ?r3
      case h3 => simp only [aT, aS, aZ]; rfl
      refine ⟨_, by simp [Act.put]; rfl, by kernel_rfl, by kernel_rfl, by kernel_rfl, fun _ _ _ h => h, (.inl ⟨rfl, fun W _ => by go_simp⟩), trivial, ?_⟩
      refine takeH (o := ?o4) 4 (.pointer (some ⟨q, 0, none⟩)) ?h4 ?r4
      case h4 => simp only [aT, aS, aZ]; rfl
      refine ⟨_, by simp [Act.put]; rfl, by kernel_rfl, by kernel_rfl, by kernel_rfl, fun _ _ _ h => h, (.inl ⟨rfl, fun W _ => by go_simp⟩), trivial, ?_⟩
      refine twoH (o := ?o5) (o' := ?p5) 1 5 (by kernel_rfl) ?h5 ?g5 ?r5 ?s5
      case h5 => simp only [aT, aS, aZ]; rfl
      case g5 => simp only [aT, aS, aZ]; rfl
      case r5 =>
        intro K hK
        have c4 := HDd.out.loc.cell 4
        simp only [aT, aS, aZ] at c4
        refine op_value (.slice b lp c) rfl (by go_simp) ⟨_, by simp [Act.put]; rfl, hK _ _ ⟨trivial, ?_⟩⟩
        clear hK c4
        refine onlyH (o := ?o6) 5 (by kernel_rfl) ?h6 ?r6
        case h6 => simp only [aT, aS, aZ]; rfl
        intro K hK
        refine op_call2v 53 _ _ _ Try.f53 (fun v w' => ∃ x i' h', v = .int .i64 x ∧ 0 ≤ x ∧ x < 3 ∧ Cur w' q a len cap zs i' h' ∧ w7.drew.grownBy w' (some q)) rfl rfl Try.func53 (by kernel_rfl) (by kernel_rfl) ((l1Below_any q a len cap zs i8 h8 3 w7.drew HDd.out.held.cur hlen (by omega) (by omega)).mono (by rintro e w' ⟨x, i', h', rfl, r⟩; exact ⟨_, rfl, x, i', h', rfl, r⟩)) ?_
        rintro v w8 ⟨z, i9, h9, rfl, z0, z1, C9, g9⟩
        have HD8 : Hid (LocF w q a len cap zs i9 h9 L #[.int .i64 x1, .int .i64 x2, .int .i64 x3, .int .i64 x4, .slice b lp c, .int .i64 0, .int .i64 0, .int .i64 0, .int .i64 0, .int .i64 0, .int .i64 0, .int .i64 0, .int .i64 0, .slice none 0 0, .slice none 0 0, .slice none 0 0] b lp c ps F w8) := HDd.out.next hq C9 g9
        clear C9 g9 HDd
        refine ⟨_, by simp [Act.put]; rfl, hK _ _ ⟨trivial, ?_⟩⟩
        clear hK
        have hwz : IntKind.i64.wrap (lo + z) = lo + z := wrapD (by omega) (by omega)
        refine takeH (o := ?o7) 6 (.int .i64 (lo + z)) ?h7 ?r7
        case h7 => simp only [aT, aS, aZ]; rfl
        refine ⟨_, by simp [Act.put]; rfl, by kernel_rfl, by kernel_rfl, by kernel_rfl, fun _ _ _ h => h, (.inl ⟨rfl, fun W _ => by first | (go_simp; done) | (go_simp; exact hwz)⟩), trivial, ?_⟩
        refine takeH (o := ?o8) 7 (.agg #[.int .i64 lo, .int .i64 (lo + z)]) ?h8 ?r8
        case h8 => simp only [aT, aS, aZ]; rfl
        refine ⟨_, by simp [Act.put]; rfl, by kernel_rfl, by kernel_rfl, by kernel_rfl, fun _ _ _ h => h, (.inl ⟨rfl, fun W _ => by go_simp⟩), trivial, ?_⟩
        refine onlyH (o := ?o9) 8 (by kernel_rfl) ?h9 ?r9
        case h9 => simp only [aT, aS, aZ]; rfl
        intro K hK
        refine op_call2v 134 _ _ _ Try.f134 (fun v w' => ∃ b' l' c' F', v = .slice b' l' c' ∧ RdP w' b' l' (put ps (lo, lo + z) false) F' ∧ Own w8.heap.size w' F' ∧ Below w8.heap.size w8 w' ∧ Capd b' l' c') rfl rfl Try.func134 (by kernel_rfl) (by kernel_rfl) ((l5Put_any b lp c ps (lo, lo + z) F w8 HD8.out.rd (by omega) (inb_at HIN.out HLP.out) ⟨⟨by show 0 ≤ lo; omega, by show lo ≤ 9999; omega⟩, by show 0 ≤ lo + z; omega, by show lo + z ≤ 9999; omega⟩).mono (by rintro e w' ⟨b', l', c', F', rfl, r1, r2, r3, r4⟩; exact ⟨_, rfl, b', l', c', F', rfl, r1, r2, r3, r4⟩)) ?_
        rintro v w9 ⟨b', l', c', F', rfl, r1, r2, r3, r4⟩
        have HD9 : Hid (LocF w q a len cap zs i9 h9 L #[.int .i64 x1, .int .i64 x2, .int .i64 x3, .int .i64 x4, .slice b lp c, .int .i64 0, .int .i64 0, .int .i64 0, .int .i64 0, .int .i64 0, .int .i64 0, .int .i64 0, .int .i64 0, .slice none 0 0, .slice none 0 0, .slice none 0 0] b lp c ps F w9) := HD8.out.below r3
        have HP9 : Hid (RdP w9 b' l' (put ps (lo, lo + z) false) F' ∧ Own w8.heap.size w9 F' ∧ Capd b' l' c') := ⟨r1, r2, r4⟩
        have lL : L < w8.heap.size := HD8.out.loc.lt
        clear r1 r2 r3 r4 HD8
        refine ⟨_, by simp [Act.put]; rfl, hK _ _ ⟨trivial, ?_⟩⟩
        clear hK
        refine takeH (o := ?o10) 9 (.pointer (some ⟨L, 4, none⟩)) ?h10 ?r10
        case h10 => simp only [aT, aS, aZ]; rfl
        refine ⟨_, by simp [Act.put]; rfl, by kernel_rfl, by kernel_rfl, by kernel_rfl, fun _ _ _ h => h, (.inl ⟨rfl, fun W _ => by go_simp⟩), trivial, ?_⟩
        refine onlyH (o := ?o11) 10 (by kernel_rfl) ?h11 ?r11
        case h11 => simp only [aT, aS, aZ]; rfl
        intro K hK
        have c4 := HD9.out.loc.cell 4
        have f4 := HD9.out.loc.frozen 4
        simp only [aT, aS, aZ] at c4
        have nL : L ∉ F' := fun hx => by have := HP9.out.2.1.ge _ hx; omega
        have gL := HD9.out.gt
        have HDA : Hid (LocF w q a len cap zs i9 h9 L #[.int .i64 x1, .int .i64 x2, .int .i64 x3, .int .i64 x4, .slice b' l' c', .int .i64 0, .int .i64 0, .int .i64 0, .int .i64 0, .int .i64 0, .int .i64 0, .int .i64 0, .int .i64 0, .slice none 0 0, .slice none 0 0, .slice none 0 0] b' l' c' (put ps (lo, lo + z) false) F' (w9.setCell ⟨L, 4, none⟩ (.slice b' l' c'))) := by
          have hr := HD9.out.held
          refine ⟨⟨hr.res.setOther (by omega) _ _, cur_cell hr.cur (by omega) (fun x hx => by have := HA.out x hx; omega), grown_cell hr.grown (by omega)⟩, HD9.out.loc.set 4 _, HP9.out.1.agree (.set nL 4 _), (HP9.out.2.1.agree (.set nL 4 _)).mono (by omega), nL, gL, HP9.out.2.2⟩
        refine op_skip (w9.setCell ⟨L, 4, none⟩ (.slice b' l' c')) rfl (by go_simp) ⟨_, by simp [Act.put]; rfl, hK _ _ ⟨trivial, ?_⟩⟩
        clear hK c4 f4 HD9 nL
        refine wpAnyH_done (by kernel_rfl) ?_ _
        have HI2 : Hid ((∀ p ∈ put ps (lo, lo + z) false, InB p) ∧ (put ps (lo, lo + z) false).length ≤ lp + 1 ∧ l' = (put ps (lo, lo + z) false).length) := ⟨put_inb HIN.out ⟨⟨by show 0 ≤ lo; omega, by show lo ≤ 9999; omega⟩, by show 0 ≤ lo + z; omega, by show lo + z ≤ 9999; omega⟩, by have := put_length ps (lo, lo + z) false; have := HLP.out; omega, HP9.out.1.length.symm⟩
        obtain ⟨WA, hWA⟩ : ∃ W, W = w9.setCell ⟨L, 4, none⟩ (.slice b' l' c') := ⟨_, rfl⟩
        rw [← hWA] at HDA ⊢
        clear hWA HP9
        go_wp2
        go_roundw
        case rel =>
          have e := HI2.out.2.2
          subst e
          exact ⟨k + 1, _, b', c', F', i9, h9, by omega, by go_num, by have := HI2.out.2.1; omega, HDA, HI2.out.1⟩
        case measure => simp [intOf]; omega
      case s5 =>
        intro K hK
        refine op_call2v 53 _ _ _ Try.f53 (fun v w' => ∃ x i' h', v = .int .i64 x ∧ 0 ≤ x ∧ x < 3 ∧ Cur w' q a len cap zs i' h' ∧ w7.drew.grownBy w' (some q)) rfl rfl Try.func53 (by kernel_rfl) (by kernel_rfl) ((l1Below_any q a len cap zs i8 h8 3 w7.drew HDd.out.held.cur hlen (by omega) (by omega)).mono (by rintro e w' ⟨x, i', h', rfl, r⟩; exact ⟨_, rfl, x, i', h', rfl, r⟩)) ?_
        rintro v w8 ⟨z, i9, h9, rfl, z0, z1, C9, g9⟩
        have HD8 : Hid (LocF w q a len cap zs i9 h9 L #[.int .i64 x1, .int .i64 x2, .int .i64 x3, .int .i64 x4, .slice b lp c, .int .i64 0, .int .i64 0, .int .i64 0, .int .i64 0, .int .i64 0, .int .i64 0, .int .i64 0, .int .i64 0, .slice none 0 0, .slice none 0 0, .slice none 0 0] b lp c ps F w8) := HDd.out.next hq C9 g9
        clear C9 g9 HDd
        refine ⟨_, by simp [Act.put]; rfl, hK _ _ ⟨trivial, ?_⟩⟩
        clear hK
        have hwz : IntKind.i64.wrap (lo + z) = lo + z := wrapD (by omega) (by omega)
        refine takeH (o := ?o12) 6 (.int .i64 (lo + z)) ?h12 ?r12
        case h12 => simp only [aT, aS, aZ]; rfl
        refine ⟨_, by simp [Act.put]; rfl, by kernel_rfl, by kernel_rfl, by kernel_rfl, fun _ _ _ h => h, (.inl ⟨rfl, fun W _ => by first | (go_simp; done) | (go_simp; exact hwz)⟩), trivial, ?_⟩
        refine takeH (o := ?o13) 7 (.agg #[.int .i64 lo, .int .i64 (lo + z)]) ?h13 ?r13
        case h13 => simp only [aT, aS, aZ]; rfl
        refine ⟨_, by simp [Act.put]; rfl, by kernel_rfl, by kernel_rfl, by kernel_rfl, fun _ _ _ h => h, (.inl ⟨rfl, fun W _ => by go_simp⟩), trivial, ?_⟩
        refine onlyH (o := ?o14) 1 (by kernel_rfl) ?h14 ?r14
        case h14 => simp only [aT, aS, aZ]; rfl
        intro K hK
        have c4 := HD8.out.loc.cell 4
        simp only [aT, aS, aZ] at c4
        refine op_value (.slice b lp c) rfl (by go_simp) ⟨_, by simp [Act.put]; rfl, hK _ _ ⟨trivial, ?_⟩⟩
        clear hK c4
        refine onlyH (o := ?o15) 8 (by kernel_rfl) ?h15 ?r15
        case h15 => simp only [aT, aS, aZ]; rfl
        intro K hK
        refine op_call2v 134 _ _ _ Try.f134 (fun v w' => ∃ b' l' c' F', v = .slice b' l' c' ∧ RdP w' b' l' (put ps (lo, lo + z) false) F' ∧ Own w8.heap.size w' F' ∧ Below w8.heap.size w8 w' ∧ Capd b' l' c') rfl rfl Try.func134 (by kernel_rfl) (by kernel_rfl) ((l5Put_any b lp c ps (lo, lo + z) F w8 HD8.out.rd (by omega) (inb_at HIN.out HLP.out) ⟨⟨by show 0 ≤ lo; omega, by show lo ≤ 9999; omega⟩, by show 0 ≤ lo + z; omega, by show lo + z ≤ 9999; omega⟩).mono (by rintro e w' ⟨b', l', c', F', rfl, r1, r2, r3, r4⟩; exact ⟨_, rfl, b', l', c', F', rfl, r1, r2, r3, r4⟩)) ?_
        rintro v w9 ⟨b', l', c', F', rfl, r1, r2, r3, r4⟩
        have HD9 : Hid (LocF w q a len cap zs i9 h9 L #[.int .i64 x1, .int .i64 x2, .int .i64 x3, .int .i64 x4, .slice b lp c, .int .i64 0, .int .i64 0, .int .i64 0, .int .i64 0, .int .i64 0, .int .i64 0, .int .i64 0, .int .i64 0, .slice none 0 0, .slice none 0 0, .slice none 0 0] b lp c ps F w9) := HD8.out.below r3
        have HP9 : Hid (RdP w9 b' l' (put ps (lo, lo + z) false) F' ∧ Own w8.heap.size w9 F' ∧ Capd b' l' c') := ⟨r1, r2, r4⟩
        have lL : L < w8.heap.size := HD8.out.loc.lt
        clear r1 r2 r3 r4 HD8
        refine ⟨_, by simp [Act.put]; rfl, hK _ _ ⟨trivial, ?_⟩⟩
        clear hK
        refine takeH (o := ?o16) 9 (.pointer (some ⟨L, 4, none⟩)) ?h16 ?r16
        case h16 => simp only [aT, aS, aZ]; rfl
        refine ⟨_, by simp [Act.put]; rfl, by kernel_rfl, by kernel_rfl, by kernel_rfl, fun _ _ _ h => h, (.inl ⟨rfl, fun W _ => by go_simp⟩), trivial, ?_⟩
        refine onlyH (o := ?o17) 10 (by kernel_rfl) ?h17 ?r17
        case h17 => simp only [aT, aS, aZ]; rfl
        intro K hK
        have c4 := HD9.out.loc.cell 4
        have f4 := HD9.out.loc.frozen 4
        simp only [aT, aS, aZ] at c4
        have nL : L ∉ F' := fun hx => by have := HP9.out.2.1.ge _ hx; omega
        have gL := HD9.out.gt
        have HDA : Hid (LocF w q a len cap zs i9 h9 L #[.int .i64 x1, .int .i64 x2, .int .i64 x3, .int .i64 x4, .slice b' l' c', .int .i64 0, .int .i64 0, .int .i64 0, .int .i64 0, .int .i64 0, .int .i64 0, .int .i64 0, .int .i64 0, .slice none 0 0, .slice none 0 0, .slice none 0 0] b' l' c' (put ps (lo, lo + z) false) F' (w9.setCell ⟨L, 4, none⟩ (.slice b' l' c'))) := by
          have hr := HD9.out.held
          refine ⟨⟨hr.res.setOther (by omega) _ _, cur_cell hr.cur (by omega) (fun x hx => by have := HA.out x hx; omega), grown_cell hr.grown (by omega)⟩, HD9.out.loc.set 4 _, HP9.out.1.agree (.set nL 4 _), (HP9.out.2.1.agree (.set nL 4 _)).mono (by omega), nL, gL, HP9.out.2.2⟩
        refine op_skip (w9.setCell ⟨L, 4, none⟩ (.slice b' l' c')) rfl (by go_simp) ⟨_, by simp [Act.put]; rfl, hK _ _ ⟨trivial, ?_⟩⟩
        clear hK c4 f4 HD9 nL
        refine wpAnyH_done (by kernel_rfl) ?_ _
        have HI2 : Hid ((∀ p ∈ put ps (lo, lo + z) false, InB p) ∧ (put ps (lo, lo + z) false).length ≤ lp + 1 ∧ l' = (put ps (lo, lo + z) false).length) := ⟨put_inb HIN.out ⟨⟨by show 0 ≤ lo; omega, by show lo ≤ 9999; omega⟩, by show 0 ≤ lo + z; omega, by show lo + z ≤ 9999; omega⟩, by have := put_length ps (lo, lo + z) false; have := HLP.out; omega, HP9.out.1.length.symm⟩
        obtain ⟨WA, hWA⟩ : ∃ W, W = w9.setCell ⟨L, 4, none⟩ (.slice b' l' c') := ⟨_, rfl⟩
        rw [← hWA] at HDA ⊢
        clear hWA HP9
        go_wp2
        go_roundw
        case rel =>
          have e := HI2.out.2.2
          subst e
          exact ⟨k + 1, _, b', c', F', i9, h9, by omega, by go_num, by have := HI2.out.2.1; omega, HDA, HI2.out.1⟩
        case measure => simp [intOf]; omega
    · have hcd : decide ((k : Int) < m) = false := dec_false hlt
      obtain ⟨lp, hlp⟩ : ∃ n, n = ps.length := ⟨_, rfl⟩
      rw [← hlp] at HD hpl
      have HLP : Hid (ps.length = lp ∧ lp ≤ 2) := ⟨hlp.symm, by omega⟩
      have c0 := HD.out.loc.cell 0
      simp only [aT, aZ] at c0
      clear hlp hpl HIN
      by_cases h1 : x1 = 1
      rotate_left
      · have e1 : (x1 == 1) = false := by simpa using h1
        clear h1
        go_wp2_with (first | go_skip | (with_reducible refine stopLoad 51 rfl ?_))
        refine load_known 51 L #[.int .i64 x1, .int .i64 x2, .int .i64 x3, .int .i64 x4, .slice b lp c, .int .i64 0, .int .i64 0, .int .i64 0, .int .i64 0, .int .i64 0, .int .i64 0, .int .i64 0, .int .i64 0, .slice none 0 0, .slice none 0 0, .slice none 0 0] 51 _ HD.out.loc rfl rfl rfl Try.underlying51 rfl infoFrD7 ?_
        go_wp2_with (first | go_skip | (with_reducible refine stopStore 51 rfl ?_))
        refine store_known 51 w.heap.size _ #[.int .i64 x1, .int .i64 x2, .int .i64 x3, .int .i64 x4, .slice b lp c, .int .i64 0, .int .i64 0, .int .i64 0, .int .i64 0, .int .i64 0, .int .i64 0, .int .i64 0, .int .i64 0, .slice none 0 0, .slice none 0 0, .slice none 0 0] 51 HD.out.held.res rfl rfl rfl rfl infoFrD7 rfl (by simp [Value.oneCell']) ?_
        go_wp2
        refine bodyPost_ret (results_cell_row Try.results115 _ _ w.heap.size _ _ (0, 0) _ rfl HD.out.held.res.setRow Try.underlying51 rfl infoFrD7) rfl ?_
        have nF : w.heap.size ∉ F := fun hx => by have := HD.out.own.ge _ hx; omega
        exact ⟨_, ⟨x1, x2, x3, x4, ps, It.zero⟩, F, [], i7, h7, rfl, ⟨b, lp, c, none, 0, 0, none, 0, 0, none, 0, 0, rfl, HD.out.rd.agree (Agree.row nF _), rdIt_zeroD _, HD.out.cpd⟩, zero_wideD, by show ps.length ≤ 20; have := HLP.out; omega, (HD.out.own.agree (Agree.row nF _)).mono (by omega), Own.nil, by simp, cur_row HD.out.held.cur (by omega) (fun b hb => by have := HA.out b hb; omega), grown_row HD.out.held.grown (Nat.le_refl _)⟩
      have e1 : (x1 == 1) = true := by simpa using h1
      clear h1
      go_wp2_with fail
      refine (l6Right_any q a len cap zs i7 h7 _ HD.out.held.cur hlen).mono ?_
      rintro e w9 ⟨v9, x, G, i9, h9, rfl, rx, fx, ox, C9, g9⟩
      obtain ⟨a1, n1, c1, a2, n2, c2, a3, n3, c3, rfl⟩ := rx.cells11
      have HDB : Hid (LocF w q a len cap zs i9 h9 L #[.int .i64 x1, .int .i64 x2, .int .i64 x3, .int .i64 x4, .slice b lp c, .int .i64 0, .int .i64 0, .int .i64 0, .int .i64 0, .int .i64 0, .int .i64 0, .int .i64 0, .int .i64 0, .slice none 0 0, .slice none 0 0, .slice none 0 0] b lp c ps F w9) := HD.out.next hq C9 g9
      have lw : L < wr.heap.size := HD.out.loc.lt
      have hap : ∀ y ∈ F, y ∉ G := fun y hy hg => by have := HD.out.rd.lt y hy; have := ox.ge y hg; omega
      have HXB : Hid (RdIt w9 (.agg #[.int .i64 x.seq, .int .i64 x.cls, .int .i64 x.key, .int .i64 x.window, .int .i64 x.sk.count, .int .i64 x.sk.sum, .int .i64 x.sk.min, .int .i64 x.sk.max, .slice a1 n1 c1, .slice a2 n2 c2, .slice a3 n3 c3]) x G ∧ x.sk.full ∧ Own wr.heap.size w9 G ∧ ∀ y ∈ F, y ∉ G) := ⟨rx, fx, ox, hap⟩
      clear rx fx ox C9 g9 HD hap c0
      go_wp2_with (first | go_skip | (with_reducible refine stopStore 40 rfl ?_))
      refine store_cut 40 L 5 _ #[.int .i64 x.seq, .int .i64 x.cls, .int .i64 x.key, .int .i64 x.window, .int .i64 x.sk.count, .int .i64 x.sk.sum, .int .i64 x.sk.min, .int .i64 x.sk.max, .slice a1 n1 c1, .slice a2 n2 c2, .slice a3 n3 c3] #[.int .i64 x1, .int .i64 x2, .int .i64 x3, .int .i64 x4, .slice b lp c, .int .i64 x.seq, .int .i64 x.cls, .int .i64 x.key, .int .i64 x.window, .int .i64 x.sk.count, .int .i64 x.sk.sum, .int .i64 x.sk.min, .int .i64 x.sk.max, .slice a1 n1 c1, .slice a2 n2 c2, .slice a3 n3 c3] 51 HDB.out.loc rfl rfl rfl rfl infoItA7 (by simp) (one11 ..) (by simp [cutIn]) ?_
      have nF : L ∉ F := HDB.out.apart
      have gL := HDB.out.gt
      have nG : L ∉ G := fun hx => by have := HXB.out.2.2.1.ge _ hx; omega
      have mF : w.heap.size ∉ F := fun hx => by have := HDB.out.own.ge _ hx; omega
      have mG : w.heap.size ∉ G := fun hx => by have := HXB.out.2.2.1.ge _ hx; omega
      obtain ⟨E, hE⟩ : ∃ E : Array Value, E = #[.int .i64 x1, .int .i64 x2, .int .i64 x3, .int .i64 x4, .slice b lp c, .int .i64 x.seq, .int .i64 x.cls, .int .i64 x.key, .int .i64 x.window, .int .i64 x.sk.count, .int .i64 x.sk.sum, .int .i64 x.sk.min, .int .i64 x.sk.max, .slice a1 n1 c1, .slice a2 n2 c2, .slice a3 n3 c3] := ⟨_, rfl⟩
      have HE : Hid (E = #[.int .i64 x1, .int .i64 x2, .int .i64 x3, .int .i64 x4, .slice b lp c, .int .i64 x.seq, .int .i64 x.cls, .int .i64 x.key, .int .i64 x.window, .int .i64 x.sk.count, .int .i64 x.sk.sum, .int .i64 x.sk.min, .int .i64 x.sk.max, .slice a1 n1 c1, .slice a2 n2 c2, .slice a3 n3 c3] ∧ E.size = 16 ∧ E.all (·.oneCell') = true) := ⟨hE, by rw [hE]; rfl, by rw [hE]; simp [Value.oneCell']⟩
      rw [← hE]
      have HB1 : Hid (Blk (w9.setRow L E) L E 51 ∧ Blk (w9.setRow L E) w.heap.size #[.int .i64 0, .int .i64 0, .int .i64 0, .int .i64 0, .slice none 0 0, .int .i64 0, .int .i64 0, .int .i64 0, .int .i64 0, .int .i64 0, .int .i64 0, .int .i64 0, .int .i64 0, .slice none 0 0, .slice none 0 0, .slice none 0 0] 51) := ⟨HDB.out.loc.setRow, HDB.out.held.res.setRowOther (by omega)⟩
      have hes : (Try.prog.info? 51).map (·.size) = some E.size := by rw [HE.out.2.1]; exact infoFrD7
      clear hE
      go_wp2_with (first | go_skip | (with_reducible refine stopLoad 51 rfl ?_))
      refine load_known 51 L E 51 _ HB1.out.1 rfl rfl rfl Try.underlying51 rfl hes ?_
      go_wp2_with (first | go_skip | (with_reducible refine stopStore 51 rfl ?_))
      refine store_known 51 w.heap.size _ E 51 HB1.out.2 rfl rfl rfl rfl hes (by rw [HE.out.2.1]; rfl) HE.out.2.2 ?_
      have HB2 : Hid (Blk ((w9.setRow L E).setRow w.heap.size E) w.heap.size E 51) := HB1.out.2.setRow
      go_wp2
      refine bodyPost_ret (results_cell_row Try.results115 _ _ w.heap.size _ _ (0, 0) _ rfl HB2.out Try.underlying51 rfl hes) rfl ?_
      exact ⟨_, ⟨x1, x2, x3, x4, ps, x⟩, F, G, i9, h9, rfl, ⟨b, lp, c, a1, n1, c1, a2, n2, c2, a3, n3, c3, by rw [HE.out.1], (HDB.out.rd.agree (Agree.row nF E)).agree (Agree.row mF E), (HXB.out.1.agree (Agree.row nG E)).agree (Agree.row mG E), HDB.out.cpd⟩, full_wideF HXB.out.2.1, by show ps.length ≤ 20; have := HLP.out; omega, ((HDB.out.own.agree (Agree.row nF E)).agree (Agree.row mF E)).mono (by omega), ((HXB.out.2.2.1.agree (Agree.row nG E)).agree (Agree.row mG E)).mono (by omega), HXB.out.2.2.2, cur_row (cur_row HDB.out.held.cur (by omega) (fun b hb => by have := HA.out b hb; omega)) (by omega) (fun b hb => by have := HA.out b hb; omega), grown_row (grown_row HDB.out.held.grown (by omega)) (Nat.le_refl _)⟩
end Go.Proofs.Ytjndcfamfminkab
/- The walks through the model's drawing of two sets, and of a set and a number. No statement of the seat is proved here. -/
namespace Go.Proofs.Ytjndcfamfminkab
open Go.RowKit
theorem cur_agree5 {w w' : World} {g : Nat} {a : Option Addr} {len cap : Nat} {zs : List Int} {i h : Int} (C : Cur w g a len cap zs i h) (_hg : g < w.heap.size) (e : w'.heap[g]? = w.heap[g]?) (hb : ∀ b, b < w.heap.size → (∃ off, a = some ⟨b, off, none⟩ ∧ 0 < len) → w'.heap[b]? = w.heap[b]?) : Cur w' g a len cap zs i h := by
  refine ⟨(World.cell?_of_block (w := w) (a := ⟨g, 0, none⟩) e).trans C.c0, (World.cell?_of_block (w := w) (a := ⟨g, 1, none⟩) e).trans C.c1, (World.cell?_of_block (w := w) (a := ⟨g, 2, none⟩) e).trans C.c2, (World.frozen?_of_block (w := w) (a := ⟨g, 1, none⟩) e).trans C.f1, (World.frozen?_of_block (w := w) (a := ⟨g, 2, none⟩) e).trans C.f2, C.i0, C.i1, ?_, C.ap⟩
  refine ⟨C.rd.length, C.rd.range, ?_⟩
  rcases C.rd.cells with h0 | ⟨b, off, ha, hc⟩
  · exact .inl h0
  · by_cases hl : len = 0
    · exact .inl hl
    · have hlt : b < w.heap.size := World.block_lt_of_cell? _ _ (hc 0 (by omega))
      exact .inr ⟨b, off, ha, fun j hj => (World.cell?_of_block (w := w) (a := ⟨b, off + j, none⟩) (hb b hlt ⟨off, ha, by omega⟩)).trans (hc j hj)⟩
theorem cur_lt5 {w : World} {q : Nat} {a : Option Addr} {len cap : Nat} {zs : List Int} {i h : Int} (C : Cur w q a len cap zs i h) (b : Nat) (hb : ∃ off, a = some ⟨b, off, none⟩ ∧ 0 < len) : b < w.heap.size := by
  obtain ⟨off, ha, hp⟩ := hb
  rcases C.rd.cells with h0 | ⟨b', off', ha', hc⟩
  · omega
  · rw [ha] at ha'
    cases ha'
    exact World.block_lt_of_cell? _ _ (hc 0 hp)
theorem DrP.app {w : World} {q : Nat} {a : Option Addr} {len cap : Nat} {zs : List Int} {v v' : Value} {ps : Sp} {W W' : World} {y z : Int} {ob : Obj} (D : DrP w q a len cap zs v ps W) (ha : ∀ b, (∃ off, a = some ⟨b, off, none⟩ ∧ 0 < len) → b < w.heap.size) (hown : W'.ownsRow w.heap.size 87 2 v' (ps.length + 1) ((flat ps).map (Value.int .i64) ++ [.int .i64 y, .int .i64 z])) (hgrow : (W.alloc ob).grownBy W' v.ownBlock) : DrP w q a len cap zs v' (ps ++ [(y, z)]) W' := by
  have D' := D.alloc ob
  obtain ⟨i, h, C⟩ := D'.cur
  have hne : ∀ k, k < w.heap.size → some k ≠ v.ownBlock := fun k hk e => by have := (D'.own.lt k e.symm).1; omega
  have hs := D'.grown.size
  have hq := D'.lt
  refine ⟨?_, ⟨i, h, ?_⟩, ⟨hgrow.os.trans D'.grown.os, hgrow.tape.trans D'.grown.tape, hgrow.output.trans D'.grown.output, Nat.le_trans D'.grown.size hgrow.size, fun k hk hn => (hgrow.block k (by omega) (hne k hk)).trans (D'.grown.block k hk hn)⟩, D.lt⟩
  · rw [flat_append, List.map_append, List.length_append]
    exact hown
  · exact cur_agree5 C (by omega) (hgrow.block q (by omega) (hne q hq)) (fun b hb hx => hgrow.block b hb (hne b (ha b hx)))
set_option maxRecDepth 100000 in
set_option maxHeartbeats 4000000 in
theorem l5Draw_any (q : Nat) (a : Option Addr) (len cap : Nat) (zs : List Int) (i h : Int) (w : World) (C : Cur w q a len cap zs i h) (hlen : len ≤ 1048576) :
    Calls Try.prog 116 #[.pointer (some ⟨q, 0, none⟩)] w fun e w' => DrewP w q a len cap zs 8 e w' := by
  obtain ⟨t0, hi, hz0, hz1, hz2⟩ := info_parts infoSpan
  have HC : Hid (Cur w q a len cap zs i h) := C
  have HA : Hid (∀ b, (∃ off, a = some ⟨b, off, none⟩ ∧ 0 < len) → b < w.heap.size) := cur_lt5 C
  clear C
  go_enter Try.func116, Try.ntmps116
  go_wp2_with fail
  refine (l5Right_any q a len cap zs i h _ HC.out hlen).mono ?_
  rintro e w1 ⟨v, ps, rfl, D1, hl1, hne1⟩
  have HD1 : Hid (DrP w q a len cap zs v ps w1 ∧ v ≠ .slice none 0 0) := ⟨D1, hne1⟩
  clear D1 hne1 HC
  obtain ⟨i1, h1, C1⟩ := HD1.out.1.cur
  go_wp2_with fail
  refine (once_any q a len cap zs i1 h1 8 _ C1 hlen (by omega) (by omega)).mono ?_
  rintro e w2 ⟨b, i2, h2, rfl, C2, g2⟩
  have HD2 : Hid (DrP w q a len cap zs v ps w2) := HD1.out.1.next C2 g2
  have HC2 : Hid (Cur w2 q a len cap zs i2 h2) := C2
  clear C1 C2 g2
  cases b
  · go_wp2
    go_ret
    exact ⟨_, ps, rfl, HD2.out, by omega, HD1.out.2⟩
  go_wp2_with fail
  have hqw2 : q < w2.heap.size := World.block_lt_of_cell? _ _ HC2.out.c0
  refine (pickInt_cur q w2.heap.size 3 a len cap zs i2 h2 [-1, 3, 10000] _ (HC2.out.alloc _) hlen (fun j hj => lit_ints w2 [-1, 3, 10000] _ j hj) (by omega) 3 rfl (by omega) (by omega)).mono ?_
  rintro e w3 ⟨y, i3, h3, _, rfl, C3, g3⟩
  have HD3 : Hid (DrP w q a len cap zs v ps w3) := (HD2.out.alloc _).next C3 g3
  have HC3 : Hid (Cur w3 q a len cap zs i3 h3) := C3
  clear C3 g3 HD2 HC2 hqw2
  go_wp2_with fail
  have hqw3 : q < w3.heap.size := World.block_lt_of_cell? _ _ HC3.out.c0
  refine (pickInt_cur q w3.heap.size 3 a len cap zs i3 h3 [5, 10000, 9223372036854775807] _ (HC3.out.alloc _) hlen (fun j hj => lit_ints w3 [5, 10000, 9223372036854775807] _ j hj) (by omega) 3 rfl (by omega) (by omega)).mono ?_
  rintro e w4 ⟨z, i4, h4, _, rfl, C4, g4⟩
  have HD4 : Hid (DrP w q a len cap zs v ps w4) := (HD3.out.alloc _).next C4 g4
  clear C4 g4 HD3 HC3 hqw3
  have hsz : w.heap.size ≤ w4.heap.size := HD4.out.grown.size
  go_wp2_with (first | go_skip | (with_reducible refine stopAppend2 rfl ?_))
  refine Stop.intro (wpList_append_own _ rfl _ _ 24 rfl w.heap.size 87 t0 (.agg #[.int .i64 0, .int .i64 0]) 2 16 Try.underlying24 hi hz0 hz1 hz2 rfl (by decide) _ ps.length ((flat ps).map (Value.int .i64)) rfl (HD4.out.own.alloc _) ⟨w4.heap.size, 0, none⟩ 1 1 [.int .i64 y, .int .i64 z] rfl rfl (cell_new2 _ _ _ _) (by intro u hu; simp at hu; rcases hu with rfl | rfl <;> rfl) (by unfold maxLen; omega) (by omega) (by simp; omega) ?_)
  intro v5 w5 hown hgrow _
  have HD5 : Hid (DrP w q a len cap zs v5 (ps ++ [(y, z)]) w5 ∧ v5 ≠ .slice none 0 0) := ⟨HD4.out.app HA.out hown hgrow, put_ne _ _ _ _ _ _ hown (by omega)⟩
  clear hown hgrow HD4
  go_wp2
  go_ret
  exact ⟨_, ps ++ [(y, z)], rfl, HD5.out.1, by simp; omega, HD5.out.2⟩
/-- A drawn set, as the law has it. -/
structure SetAt (W : World) (a : Option Addr) (l c : Nat) (ps : Sp) : Prop where
  rd : ∃ F, RdP W a l ps F
  len : l ≤ 8
  cap : l ≤ c
  some : a = none → c = 0
theorem SetAt.below {W W' : World} {a : Option Addr} {l c : Nat} {ps : Sp} (h : SetAt W a l c ps) (b : Below W.heap.size W W') : SetAt W' a l c ps := by
  obtain ⟨F, hF⟩ := h.rd
  exact ⟨⟨F, hF.below b⟩, h.len, h.cap, h.some⟩
theorem DrP.at {w : World} {q : Nat} {a : Option Addr} {len cap : Nat} {zs : List Int} {v : Value} {ps : Sp} {W : World} (D : DrP w q a len cap zs v ps W) (hn : ps.length ≤ 8) (hne : v ≠ .slice none 0 0) : ∃ g c, v = .slice (some ⟨g, 0, none⟩) ps.length c ∧ SetAt W (some ⟨g, 0, none⟩) ps.length c ps ∧ ∃ F, RdP W (some ⟨g, 0, none⟩) ps.length ps F ∧ ∀ b ∈ F, w.heap.size ≤ b := by
  obtain ⟨a', c', F, e, hr, ho, _⟩ := rdP_of_own D.own
  rcases D.own.2 with ⟨e2, _⟩ | ⟨g, cp, cur, e2, h2, h3, h4, _⟩
  · exact absurd e2 hne
  · rw [e2] at e
    cases e
    exact ⟨g, c', e2, ⟨⟨F, hr⟩, hn, h4, fun e => by cases e⟩, F, hr, ho.ge⟩
end Go.Proofs.Ytjndcfamfminkab
/- The walk through the model's l7Draw. No statement of the seat is proved here. -/
namespace Go.Proofs.Ytjndcfamfminkab
open Go.RowKit
/-- A frame that is being worked on. -/
structure LocD (w : World) (q : Nat) (a : Option Addr) (len cap : Nat) (zs : List Int) (i h : Int) (L : Nat) (fc : Array Value) (f : Fr) (F G : List Nat) (W : World) : Prop where
  held : HeldR w q a len cap zs i h #[.int .i64 0, .int .i64 0, .int .i64 0, .int .i64 0, .slice none 0 0, .int .i64 0, .int .i64 0, .int .i64 0, .int .i64 0, .int .i64 0, .int .i64 0, .int .i64 0, .int .i64 0, .slice none 0 0, .slice none 0 0, .slice none 0 0] 51 W
  loc : Blk W L fc 51
  rd : RdFr W (.agg fc) f F G
  ownF : Own (w.heap.size + 1) W F
  ownG : Own (w.heap.size + 1) W G
  ap : ∀ b ∈ F, b ∉ G
  nF : L ∉ F
  nG : L ∉ G
  gt : w.heap.size < L
  wide : f.item.sk.wide
  many : f.taken.length ≤ 20
section
variable {w W W' : World} {q : Nat} {a : Option Addr} {len cap : Nat} {zs : List Int} {i h i' h' : Int} {L : Nat} {fc : Array Value} {f : Fr} {F G : List Nat}
theorem LocD.next (H : LocD w q a len cap zs i h L fc f F G W) (hq : q < w.heap.size) (C : Cur W' q a len cap zs i' h') (g : W.grownBy W' (some q)) : LocD w q a len cap zs i' h' L fc f F G W' := by
  have agF : Agree W W' F := fun x hx => g.block x (H.rd.lt1 x hx) (fun e => by have := H.ownF.ge x hx; simp at e; omega)
  have agG : Agree W W' G := fun x hx => g.block x (H.rd.lt2 x hx) (fun e => by have := H.ownG.ge x hx; simp at e; omega)
  have gt := H.gt
  exact ⟨H.held.next hq C g, H.loc.grown g (by omega), H.rd.agree agF agG, H.ownF.agree agF, H.ownG.agree agG, H.ap, H.nF, H.nG, H.gt, H.wide, H.many⟩
theorem LocD.below (H : LocD w q a len cap zs i h L fc f F G W) (k : Below W.heap.size W W') : LocD w q a len cap zs i h L fc f F G W' := ⟨H.held.below k, H.loc.below k, H.rd.below k, H.ownF.below H.rd.lt1 k, H.ownG.below H.rd.lt2 k, H.ap, H.nF, H.nG, H.gt, H.wide, H.many⟩
theorem LocD.done (H : LocD w q a len cap zs i h L fc f F G W) (hq : q < w.heap.size) (ha : ∀ b, (∃ off, a = some ⟨b, off, none⟩ ∧ 0 < len) → b < w.heap.size) : DrewFrame w q a len cap zs (.returned (.agg fc)) (W.setRow w.heap.size fc) := by
  have nF : w.heap.size ∉ F := fun hx => by have := H.ownF.ge _ hx; omega
  have nG : w.heap.size ∉ G := fun hx => by have := H.ownG.ge _ hx; omega
  exact ⟨_, f, F, G, i, h, rfl, H.rd.agree (Agree.row nF _) (Agree.row nG _), H.wide, H.many, (H.ownF.agree (Agree.row nF _)).mono (by omega), (H.ownG.agree (Agree.row nG _)).mono (by omega), H.ap, cur_row H.held.cur (by omega) (fun b hb => by have := ha b hb; omega), grown_row H.held.grown (Nat.le_refl _)⟩
theorem HeldR.cell {cs : Array Value} {t : TypeId} (H : HeldR w q a len cap zs i h cs t W) (hq : q < w.heap.size) (ha : ∀ b, (∃ off, a = some ⟨b, off, none⟩ ∧ 0 < len) → b < w.heap.size) (hL : w.heap.size < L) (j : Nat) (v : Value) : HeldR w q a len cap zs i h cs t (W.setCell ⟨L, j, none⟩ v) :=
  ⟨H.res.setOther (by omega) _ _, cur_cell H.cur (by omega) (fun x hx => by have := ha x hx; omega), grown_cell H.grown (by omega)⟩
theorem HeldR.row {cs : Array Value} {t : TypeId} (H : HeldR w q a len cap zs i h cs t W) (hq : q < w.heap.size) (ha : ∀ b, (∃ off, a = some ⟨b, off, none⟩ ∧ 0 < len) → b < w.heap.size) (hL : w.heap.size < L) (E : Array Value) : HeldR w q a len cap zs i h cs t (W.setRow L E) :=
  ⟨H.res.setRowOther (by omega), cur_row H.cur (by omega) (fun x hx => by have := ha x hx; omega), grown_row H.grown (by omega)⟩
end
set_option maxRecDepth 200000 in
set_option maxHeartbeats 8000000 in
theorem l7Draw_any (q : Nat) (a : Option Addr) (len cap : Nat) (zs : List Int) (i h : Int) (w : World) (C : Cur w q a len cap zs i h) (hlen : len ≤ 1048576) :
    Calls Try.prog 70 #[.pointer (some ⟨q, 0, none⟩)] w fun e w' => DrewFrame w q a len cap zs e w' := by
  have hq : q < w.heap.size := World.block_lt_of_cell? _ _ C.c0
  have HA : Hid (∀ b, (∃ off, a = some ⟨b, off, none⟩ ∧ 0 < len) → b < w.heap.size) := cur_lt C
  have H0 : Hid (HeldR w q a len cap zs i h #[.int .i64 0, .int .i64 0, .int .i64 0, .int .i64 0, .slice none 0 0, .int .i64 0, .int .i64 0, .int .i64 0, .int .i64 0, .int .i64 0, .int .i64 0, .int .i64 0, .int .i64 0, .slice none 0 0, .slice none 0 0, .slice none 0 0] 51 (w.alloc (.cells #[.int .i64 0, .int .i64 0, .int .i64 0, .int .i64 0, .slice none 0 0, .int .i64 0, .int .i64 0, .int .i64 0, .int .i64 0, .int .i64 0, .int .i64 0, .int .i64 0, .int .i64 0, .slice none 0 0, .slice none 0 0, .slice none 0 0] 51))) := HeldR.made C _ _
  clear C
  go_enter Try.func70, Try.ntmps70
  go_wp2_with fail
  refine (l7Right_any q a len cap zs i h _ H0.out.cur hlen).mono ?_
  rintro e w1 ⟨v1, f, F, G, i1, h1, rfl, rf, wf, mf, oF, oG, ap, C1, g1⟩
  obtain ⟨b, l, c, a1, n1, c1, a2, n2, c2, a3, n3, c3, rfl, rp, ri, cpd⟩ := rf
  have HS1 : Hid (RdFr w1 (.agg #[.int .i64 f.kind, .int .i64 f.agent, .int .i64 f.epoch, .int .i64 f.granted, .slice b l c, .int .i64 f.item.seq, .int .i64 f.item.cls, .int .i64 f.item.key, .int .i64 f.item.window, .int .i64 f.item.sk.count, .int .i64 f.item.sk.sum, .int .i64 f.item.sk.min, .int .i64 f.item.sk.max, .slice a1 n1 c1, .slice a2 n2 c2, .slice a3 n3 c3]) f F G ∧ f.item.sk.wide ∧ f.taken.length ≤ 20 ∧ Own (w.heap.size + 1) w1 F ∧ Own (w.heap.size + 1) w1 G ∧ ∀ b ∈ F, b ∉ G) := ⟨⟨b, l, c, a1, n1, c1, a2, n2, c2, a3, n3, c3, rfl, rp, ri, cpd⟩, wf, mf, by simpa using oF, by simpa using oG, ap⟩
  have H1 : Hid (HeldR w q a len cap zs i1 h1 #[.int .i64 0, .int .i64 0, .int .i64 0, .int .i64 0, .slice none 0 0, .int .i64 0, .int .i64 0, .int .i64 0, .int .i64 0, .int .i64 0, .int .i64 0, .int .i64 0, .int .i64 0, .slice none 0 0, .slice none 0 0, .slice none 0 0] 51 w1) := H0.out.next hq C1 g1
  clear rp ri cpd wf mf oF oG ap C1 g1 H0
  go_wp2_with (first | go_skip | (with_reducible refine stopLoad 51 rfl ?_) | (with_reducible refine stopStore 51 rfl ?_) | (with_reducible refine stopStore 40 rfl ?_))
  refine store_fresh 51 w1.heap.size rfl #[.int .i64 0, .int .i64 0, .int .i64 0, .int .i64 0, .slice none 0 0, .int .i64 0, .int .i64 0, .int .i64 0, .int .i64 0, .int .i64 0, .int .i64 0, .int .i64 0, .int .i64 0, .slice none 0 0, .slice none 0 0, .slice none 0 0] #[.int .i64 f.kind, .int .i64 f.agent, .int .i64 f.epoch, .int .i64 f.granted, .slice b l c, .int .i64 f.item.seq, .int .i64 f.item.cls, .int .i64 f.item.key, .int .i64 f.item.window, .int .i64 f.item.sk.count, .int .i64 f.item.sk.sum, .int .i64 f.item.sk.min, .int .i64 f.item.sk.max, .slice a1 n1 c1, .slice a2 n2 c2, .slice a3 n3 c3] 51 rfl rfl rfl rfl infoFrD7 rfl (by simp [Value.oneCell']) ?_
  intro w2 hg2 hb2
  have H2 : Hid (LocD w q a len cap zs i1 h1 w1.heap.size #[.int .i64 f.kind, .int .i64 f.agent, .int .i64 f.epoch, .int .i64 f.granted, .slice b l c, .int .i64 f.item.seq, .int .i64 f.item.cls, .int .i64 f.item.key, .int .i64 f.item.window, .int .i64 f.item.sk.count, .int .i64 f.item.sk.sum, .int .i64 f.item.sk.min, .int .i64 f.item.sk.max, .slice a1 n1 c1, .slice a2 n2 c2, .slice a3 n3 c3] f F G w2) := ⟨H1.out.below hb2, hg2, HS1.out.1.below hb2, HS1.out.2.2.2.1.below HS1.out.1.lt1 hb2, HS1.out.2.2.2.2.1.below HS1.out.1.lt2 hb2, HS1.out.2.2.2.2.2, fun hx => by have := HS1.out.1.lt1 _ hx; omega, fun hx => by have := HS1.out.1.lt2 _ hx; omega, H1.out.res.lt, HS1.out.2.1, HS1.out.2.2.1⟩
  obtain ⟨L, hL⟩ : ∃ L, L = w1.heap.size := ⟨_, rfl⟩
  rw [← hL] at H2 ⊢
  clear hg2 hb2 H1 HS1 hL
  go_wp2_with fail
  refine (l1Below_any q a len cap zs i1 h1 14 _ H2.out.held.cur hlen (by omega) (by omega)).mono ?_
  rintro e w3 ⟨n, i3, h3, rfl, n0, n14, C3, g3⟩
  have H3 : Hid (LocD w q a len cap zs i3 h3 L #[.int .i64 f.kind, .int .i64 f.agent, .int .i64 f.epoch, .int .i64 f.granted, .slice b l c, .int .i64 f.item.seq, .int .i64 f.item.cls, .int .i64 f.item.key, .int .i64 f.item.window, .int .i64 f.item.sk.count, .int .i64 f.item.sk.sum, .int .i64 f.item.sk.min, .int .i64 f.item.sk.max, .slice a1 n1 c1, .slice a2 n2 c2, .slice a3 n3 c3] f F G w3) := H2.out.next hq C3 g3
  clear C3 g3 H2
  by_cases q0 : n = 0
  · subst q0
    go_wp2_with fail
    refine (pickInt_cur q w3.heap.size 4 a len cap zs i3 h3 [-1, 4, 1, 0] _ (H3.out.held.cur.alloc _) hlen (fun j hj => lit_ints w3 [-1, 4, 1, 0] _ j hj) (by have := H3.out.held.grown.size; omega) 4 rfl (by omega) (by omega)).mono ?_
    rintro e w4 ⟨y, i4, h4, _, rfl, C4, g4⟩
    have H4 : Hid (LocD w q a len cap zs i4 h4 L #[.int .i64 f.kind, .int .i64 f.agent, .int .i64 f.epoch, .int .i64 f.granted, .slice b l c, .int .i64 f.item.seq, .int .i64 f.item.cls, .int .i64 f.item.key, .int .i64 f.item.window, .int .i64 f.item.sk.count, .int .i64 f.item.sk.sum, .int .i64 f.item.sk.min, .int .i64 f.item.sk.max, .slice a1 n1 c1, .slice a2 n2 c2, .slice a3 n3 c3] f F G w4) := (H3.out.below ((Below.refl _ _).alloc (Nat.le_refl _) _)).next hq C4 g4
    have H5 : Hid (LocD w q a len cap zs i4 h4 L #[.int .i64 y, .int .i64 f.agent, .int .i64 f.epoch, .int .i64 f.granted, .slice b l c, .int .i64 f.item.seq, .int .i64 f.item.cls, .int .i64 f.item.key, .int .i64 f.item.window, .int .i64 f.item.sk.count, .int .i64 f.item.sk.sum, .int .i64 f.item.sk.min, .int .i64 f.item.sk.max, .slice a1 n1 c1, .slice a2 n2 c2, .slice a3 n3 c3] { f with kind := y } F G (w4.setCell ⟨L, 0, none⟩ (.int .i64 y))) := by
      obtain ⟨b', l', c', a1', n1', c1', a2', n2', c2', a3', n3', c3', ev, rp, ri, cpd⟩ := H4.out.rd
      simp only [Value.agg.injEq] at ev
      cases ev
      exact ⟨H4.out.held.cell hq HA.out H4.out.gt _ _, H4.out.loc.set 0 _, ⟨b, l, c, a1, n1, c1, a2, n2, c2, a3, n3, c3, rfl, rp.agree (.set H4.out.nF _ _), ri.agree (.set H4.out.nG _ _), cpd⟩, H4.out.ownF.agree (.set H4.out.nF _ _), H4.out.ownG.agree (.set H4.out.nG _ _), H4.out.ap, H4.out.nF, H4.out.nG, H4.out.gt, H4.out.wide, H4.out.many⟩
    have cc := H4.out.loc.cell 0
    have ff := H4.out.loc.frozen 0
    simp only [aT, aZ] at cc
    clear C4 g4 H3 H4
    obtain ⟨W, hW⟩ : ∃ W, W = w4.setCell ⟨L, 0, none⟩ (.int .i64 y) := ⟨_, rfl⟩
    go_wp2_with (first | go_skip | (with_reducible refine stopLoad 51 rfl ?_) | (with_reducible refine stopStore 51 rfl ?_) | (with_reducible refine stopStore 40 rfl ?_))
    rw [← hW] at H5 ⊢
    clear hW cc ff
    refine load_known 51 L #[.int .i64 y, .int .i64 f.agent, .int .i64 f.epoch, .int .i64 f.granted, .slice b l c, .int .i64 f.item.seq, .int .i64 f.item.cls, .int .i64 f.item.key, .int .i64 f.item.window, .int .i64 f.item.sk.count, .int .i64 f.item.sk.sum, .int .i64 f.item.sk.min, .int .i64 f.item.sk.max, .slice a1 n1 c1, .slice a2 n2 c2, .slice a3 n3 c3] 51 _ H5.out.loc rfl rfl rfl Try.underlying51 rfl infoFrD7 ?_
    go_wp2_with (first | go_skip | (with_reducible refine stopLoad 51 rfl ?_) | (with_reducible refine stopStore 51 rfl ?_) | (with_reducible refine stopStore 40 rfl ?_))
    refine store_known 51 w.heap.size _ #[.int .i64 y, .int .i64 f.agent, .int .i64 f.epoch, .int .i64 f.granted, .slice b l c, .int .i64 f.item.seq, .int .i64 f.item.cls, .int .i64 f.item.key, .int .i64 f.item.window, .int .i64 f.item.sk.count, .int .i64 f.item.sk.sum, .int .i64 f.item.sk.min, .int .i64 f.item.sk.max, .slice a1 n1 c1, .slice a2 n2 c2, .slice a3 n3 c3] 51 H5.out.held.res rfl rfl rfl rfl infoFrD7 rfl (by simp [Value.oneCell']) ?_
    go_wp2
    refine bodyPost_ret (results_cell_row Try.results70 _ _ w.heap.size _ _ (0, 0) _ rfl H5.out.held.res.setRow Try.underlying51 rfl infoFrD7) rfl ?_
    exact H5.out.done hq HA.out
  have z0 : (n == 0) = false := by simpa using q0
  by_cases q1 : n = 1
  · subst q1
    go_wp2_with fail
    refine (pickInt_cur q w3.heap.size 2 a len cap zs i3 h3 [-1, 3] _ (H3.out.held.cur.alloc _) hlen (fun j hj => lit_ints w3 [-1, 3] _ j hj) (by have := H3.out.held.grown.size; omega) 2 rfl (by omega) (by omega)).mono ?_
    rintro e w4 ⟨y, i4, h4, _, rfl, C4, g4⟩
    have H4 : Hid (LocD w q a len cap zs i4 h4 L #[.int .i64 f.kind, .int .i64 f.agent, .int .i64 f.epoch, .int .i64 f.granted, .slice b l c, .int .i64 f.item.seq, .int .i64 f.item.cls, .int .i64 f.item.key, .int .i64 f.item.window, .int .i64 f.item.sk.count, .int .i64 f.item.sk.sum, .int .i64 f.item.sk.min, .int .i64 f.item.sk.max, .slice a1 n1 c1, .slice a2 n2 c2, .slice a3 n3 c3] f F G w4) := (H3.out.below ((Below.refl _ _).alloc (Nat.le_refl _) _)).next hq C4 g4
    have H5 : Hid (LocD w q a len cap zs i4 h4 L #[.int .i64 f.kind, .int .i64 y, .int .i64 f.epoch, .int .i64 f.granted, .slice b l c, .int .i64 f.item.seq, .int .i64 f.item.cls, .int .i64 f.item.key, .int .i64 f.item.window, .int .i64 f.item.sk.count, .int .i64 f.item.sk.sum, .int .i64 f.item.sk.min, .int .i64 f.item.sk.max, .slice a1 n1 c1, .slice a2 n2 c2, .slice a3 n3 c3] { f with agent := y } F G (w4.setCell ⟨L, 1, none⟩ (.int .i64 y))) := by
      obtain ⟨b', l', c', a1', n1', c1', a2', n2', c2', a3', n3', c3', ev, rp, ri, cpd⟩ := H4.out.rd
      simp only [Value.agg.injEq] at ev
      cases ev
      exact ⟨H4.out.held.cell hq HA.out H4.out.gt _ _, H4.out.loc.set 1 _, ⟨b, l, c, a1, n1, c1, a2, n2, c2, a3, n3, c3, rfl, rp.agree (.set H4.out.nF _ _), ri.agree (.set H4.out.nG _ _), cpd⟩, H4.out.ownF.agree (.set H4.out.nF _ _), H4.out.ownG.agree (.set H4.out.nG _ _), H4.out.ap, H4.out.nF, H4.out.nG, H4.out.gt, H4.out.wide, H4.out.many⟩
    have cc := H4.out.loc.cell 1
    have ff := H4.out.loc.frozen 1
    simp only [aT, aS, aZ] at cc
    clear C4 g4 H3 H4
    obtain ⟨W, hW⟩ : ∃ W, W = w4.setCell ⟨L, 1, none⟩ (.int .i64 y) := ⟨_, rfl⟩
    go_wp2_with (first | go_skip | (with_reducible refine stopLoad 51 rfl ?_) | (with_reducible refine stopStore 51 rfl ?_) | (with_reducible refine stopStore 40 rfl ?_))
    rw [← hW] at H5 ⊢
    clear hW cc ff
    refine load_known 51 L #[.int .i64 f.kind, .int .i64 y, .int .i64 f.epoch, .int .i64 f.granted, .slice b l c, .int .i64 f.item.seq, .int .i64 f.item.cls, .int .i64 f.item.key, .int .i64 f.item.window, .int .i64 f.item.sk.count, .int .i64 f.item.sk.sum, .int .i64 f.item.sk.min, .int .i64 f.item.sk.max, .slice a1 n1 c1, .slice a2 n2 c2, .slice a3 n3 c3] 51 _ H5.out.loc rfl rfl rfl Try.underlying51 rfl infoFrD7 ?_
    go_wp2_with (first | go_skip | (with_reducible refine stopLoad 51 rfl ?_) | (with_reducible refine stopStore 51 rfl ?_) | (with_reducible refine stopStore 40 rfl ?_))
    refine store_known 51 w.heap.size _ #[.int .i64 f.kind, .int .i64 y, .int .i64 f.epoch, .int .i64 f.granted, .slice b l c, .int .i64 f.item.seq, .int .i64 f.item.cls, .int .i64 f.item.key, .int .i64 f.item.window, .int .i64 f.item.sk.count, .int .i64 f.item.sk.sum, .int .i64 f.item.sk.min, .int .i64 f.item.sk.max, .slice a1 n1 c1, .slice a2 n2 c2, .slice a3 n3 c3] 51 H5.out.held.res rfl rfl rfl rfl infoFrD7 rfl (by simp [Value.oneCell']) ?_
    go_wp2
    refine bodyPost_ret (results_cell_row Try.results70 _ _ w.heap.size _ _ (0, 0) _ rfl H5.out.held.res.setRow Try.underlying51 rfl infoFrD7) rfl ?_
    exact H5.out.done hq HA.out
  have z1 : (n == 1) = false := by simpa using q1
  by_cases q2 : n = 2
  · subst q2
    go_wp2_with fail
    refine (pickInt_cur q w3.heap.size 3 a len cap zs i3 h3 [-1, 1000, 1001] _ (H3.out.held.cur.alloc _) hlen (fun j hj => lit_ints w3 [-1, 1000, 1001] _ j hj) (by have := H3.out.held.grown.size; omega) 3 rfl (by omega) (by omega)).mono ?_
    rintro e w4 ⟨y, i4, h4, _, rfl, C4, g4⟩
    have H4 : Hid (LocD w q a len cap zs i4 h4 L #[.int .i64 f.kind, .int .i64 f.agent, .int .i64 f.epoch, .int .i64 f.granted, .slice b l c, .int .i64 f.item.seq, .int .i64 f.item.cls, .int .i64 f.item.key, .int .i64 f.item.window, .int .i64 f.item.sk.count, .int .i64 f.item.sk.sum, .int .i64 f.item.sk.min, .int .i64 f.item.sk.max, .slice a1 n1 c1, .slice a2 n2 c2, .slice a3 n3 c3] f F G w4) := (H3.out.below ((Below.refl _ _).alloc (Nat.le_refl _) _)).next hq C4 g4
    have H5 : Hid (LocD w q a len cap zs i4 h4 L #[.int .i64 f.kind, .int .i64 f.agent, .int .i64 y, .int .i64 f.granted, .slice b l c, .int .i64 f.item.seq, .int .i64 f.item.cls, .int .i64 f.item.key, .int .i64 f.item.window, .int .i64 f.item.sk.count, .int .i64 f.item.sk.sum, .int .i64 f.item.sk.min, .int .i64 f.item.sk.max, .slice a1 n1 c1, .slice a2 n2 c2, .slice a3 n3 c3] { f with epoch := y } F G (w4.setCell ⟨L, 2, none⟩ (.int .i64 y))) := by
      obtain ⟨b', l', c', a1', n1', c1', a2', n2', c2', a3', n3', c3', ev, rp, ri, cpd⟩ := H4.out.rd
      simp only [Value.agg.injEq] at ev
      cases ev
      exact ⟨H4.out.held.cell hq HA.out H4.out.gt _ _, H4.out.loc.set 2 _, ⟨b, l, c, a1, n1, c1, a2, n2, c2, a3, n3, c3, rfl, rp.agree (.set H4.out.nF _ _), ri.agree (.set H4.out.nG _ _), cpd⟩, H4.out.ownF.agree (.set H4.out.nF _ _), H4.out.ownG.agree (.set H4.out.nG _ _), H4.out.ap, H4.out.nF, H4.out.nG, H4.out.gt, H4.out.wide, H4.out.many⟩
    have cc := H4.out.loc.cell 2
    have ff := H4.out.loc.frozen 2
    simp only [aT, aS, aZ] at cc
    clear C4 g4 H3 H4
    obtain ⟨W, hW⟩ : ∃ W, W = w4.setCell ⟨L, 2, none⟩ (.int .i64 y) := ⟨_, rfl⟩
    go_wp2_with (first | go_skip | (with_reducible refine stopLoad 51 rfl ?_) | (with_reducible refine stopStore 51 rfl ?_) | (with_reducible refine stopStore 40 rfl ?_))
    rw [← hW] at H5 ⊢
    clear hW cc ff
    refine load_known 51 L #[.int .i64 f.kind, .int .i64 f.agent, .int .i64 y, .int .i64 f.granted, .slice b l c, .int .i64 f.item.seq, .int .i64 f.item.cls, .int .i64 f.item.key, .int .i64 f.item.window, .int .i64 f.item.sk.count, .int .i64 f.item.sk.sum, .int .i64 f.item.sk.min, .int .i64 f.item.sk.max, .slice a1 n1 c1, .slice a2 n2 c2, .slice a3 n3 c3] 51 _ H5.out.loc rfl rfl rfl Try.underlying51 rfl infoFrD7 ?_
    go_wp2_with (first | go_skip | (with_reducible refine stopLoad 51 rfl ?_) | (with_reducible refine stopStore 51 rfl ?_) | (with_reducible refine stopStore 40 rfl ?_))
    refine store_known 51 w.heap.size _ #[.int .i64 f.kind, .int .i64 f.agent, .int .i64 y, .int .i64 f.granted, .slice b l c, .int .i64 f.item.seq, .int .i64 f.item.cls, .int .i64 f.item.key, .int .i64 f.item.window, .int .i64 f.item.sk.count, .int .i64 f.item.sk.sum, .int .i64 f.item.sk.min, .int .i64 f.item.sk.max, .slice a1 n1 c1, .slice a2 n2 c2, .slice a3 n3 c3] 51 H5.out.held.res rfl rfl rfl rfl infoFrD7 rfl (by simp [Value.oneCell']) ?_
    go_wp2
    refine bodyPost_ret (results_cell_row Try.results70 _ _ w.heap.size _ _ (0, 0) _ rfl H5.out.held.res.setRow Try.underlying51 rfl infoFrD7) rfl ?_
    exact H5.out.done hq HA.out
  have z2 : (n == 2) = false := by simpa using q2
  by_cases q3 : n = 3
  · subst q3
    go_wp2_with fail
    refine (pickInt_cur q w3.heap.size 3 a len cap zs i3 h3 [-1, 60, 61] _ (H3.out.held.cur.alloc _) hlen (fun j hj => lit_ints w3 [-1, 60, 61] _ j hj) (by have := H3.out.held.grown.size; omega) 3 rfl (by omega) (by omega)).mono ?_
    rintro e w4 ⟨y, i4, h4, _, rfl, C4, g4⟩
    have H4 : Hid (LocD w q a len cap zs i4 h4 L #[.int .i64 f.kind, .int .i64 f.agent, .int .i64 f.epoch, .int .i64 f.granted, .slice b l c, .int .i64 f.item.seq, .int .i64 f.item.cls, .int .i64 f.item.key, .int .i64 f.item.window, .int .i64 f.item.sk.count, .int .i64 f.item.sk.sum, .int .i64 f.item.sk.min, .int .i64 f.item.sk.max, .slice a1 n1 c1, .slice a2 n2 c2, .slice a3 n3 c3] f F G w4) := (H3.out.below ((Below.refl _ _).alloc (Nat.le_refl _) _)).next hq C4 g4
    have H5 : Hid (LocD w q a len cap zs i4 h4 L #[.int .i64 f.kind, .int .i64 f.agent, .int .i64 f.epoch, .int .i64 y, .slice b l c, .int .i64 f.item.seq, .int .i64 f.item.cls, .int .i64 f.item.key, .int .i64 f.item.window, .int .i64 f.item.sk.count, .int .i64 f.item.sk.sum, .int .i64 f.item.sk.min, .int .i64 f.item.sk.max, .slice a1 n1 c1, .slice a2 n2 c2, .slice a3 n3 c3] { f with granted := y } F G (w4.setCell ⟨L, 3, none⟩ (.int .i64 y))) := by
      obtain ⟨b', l', c', a1', n1', c1', a2', n2', c2', a3', n3', c3', ev, rp, ri, cpd⟩ := H4.out.rd
      simp only [Value.agg.injEq] at ev
      cases ev
      exact ⟨H4.out.held.cell hq HA.out H4.out.gt _ _, H4.out.loc.set 3 _, ⟨b, l, c, a1, n1, c1, a2, n2, c2, a3, n3, c3, rfl, rp.agree (.set H4.out.nF _ _), ri.agree (.set H4.out.nG _ _), cpd⟩, H4.out.ownF.agree (.set H4.out.nF _ _), H4.out.ownG.agree (.set H4.out.nG _ _), H4.out.ap, H4.out.nF, H4.out.nG, H4.out.gt, H4.out.wide, H4.out.many⟩
    have cc := H4.out.loc.cell 3
    have ff := H4.out.loc.frozen 3
    simp only [aT, aS, aZ] at cc
    clear C4 g4 H3 H4
    obtain ⟨W, hW⟩ : ∃ W, W = w4.setCell ⟨L, 3, none⟩ (.int .i64 y) := ⟨_, rfl⟩
    go_wp2_with (first | go_skip | (with_reducible refine stopLoad 51 rfl ?_) | (with_reducible refine stopStore 51 rfl ?_) | (with_reducible refine stopStore 40 rfl ?_))
    rw [← hW] at H5 ⊢
    clear hW cc ff
    refine load_known 51 L #[.int .i64 f.kind, .int .i64 f.agent, .int .i64 f.epoch, .int .i64 y, .slice b l c, .int .i64 f.item.seq, .int .i64 f.item.cls, .int .i64 f.item.key, .int .i64 f.item.window, .int .i64 f.item.sk.count, .int .i64 f.item.sk.sum, .int .i64 f.item.sk.min, .int .i64 f.item.sk.max, .slice a1 n1 c1, .slice a2 n2 c2, .slice a3 n3 c3] 51 _ H5.out.loc rfl rfl rfl Try.underlying51 rfl infoFrD7 ?_
    go_wp2_with (first | go_skip | (with_reducible refine stopLoad 51 rfl ?_) | (with_reducible refine stopStore 51 rfl ?_) | (with_reducible refine stopStore 40 rfl ?_))
    refine store_known 51 w.heap.size _ #[.int .i64 f.kind, .int .i64 f.agent, .int .i64 f.epoch, .int .i64 y, .slice b l c, .int .i64 f.item.seq, .int .i64 f.item.cls, .int .i64 f.item.key, .int .i64 f.item.window, .int .i64 f.item.sk.count, .int .i64 f.item.sk.sum, .int .i64 f.item.sk.min, .int .i64 f.item.sk.max, .slice a1 n1 c1, .slice a2 n2 c2, .slice a3 n3 c3] 51 H5.out.held.res rfl rfl rfl rfl infoFrD7 rfl (by simp [Value.oneCell']) ?_
    go_wp2
    refine bodyPost_ret (results_cell_row Try.results70 _ _ w.heap.size _ _ (0, 0) _ rfl H5.out.held.res.setRow Try.underlying51 rfl infoFrD7) rfl ?_
    exact H5.out.done hq HA.out
  have z3 : (n == 3) = false := by simpa using q3
  by_cases q4 : n = 4
  · subst q4
    go_wp2_with fail
    refine (l5Draw_any q a len cap zs i3 h3 _ H3.out.held.cur hlen).mono ?_
    rintro e w4 ⟨v4, ps, rfl, D4, hp4, hne⟩
    obtain ⟨i4, h4, C4⟩ := D4.cur
    have H4 : Hid (LocD w q a len cap zs i4 h4 L #[.int .i64 f.kind, .int .i64 f.agent, .int .i64 f.epoch, .int .i64 f.granted, .slice b l c, .int .i64 f.item.seq, .int .i64 f.item.cls, .int .i64 f.item.key, .int .i64 f.item.window, .int .i64 f.item.sk.count, .int .i64 f.item.sk.sum, .int .i64 f.item.sk.min, .int .i64 f.item.sk.max, .slice a1 n1 c1, .slice a2 n2 c2, .slice a3 n3 c3] f F G w4) := H3.out.next hq C4 D4.grown
    obtain ⟨e4, k4, X4, rfl, r4, o4, cp4⟩ := rdP_of_own D4.own
    have lX : ∀ y ∈ X4, w3.heap.size ≤ y := o4.ge
    have l3 : L < w3.heap.size := H3.out.loc.lt
    have s3 : w.heap.size < w3.heap.size := by have := H3.out.gt; omega
    have nX : L ∉ X4 := fun hx => by have := lX _ hx; omega
    have H5 : Hid (LocD w q a len cap zs i4 h4 L #[.int .i64 f.kind, .int .i64 f.agent, .int .i64 f.epoch, .int .i64 f.granted, .slice e4 ps.length k4, .int .i64 f.item.seq, .int .i64 f.item.cls, .int .i64 f.item.key, .int .i64 f.item.window, .int .i64 f.item.sk.count, .int .i64 f.item.sk.sum, .int .i64 f.item.sk.min, .int .i64 f.item.sk.max, .slice a1 n1 c1, .slice a2 n2 c2, .slice a3 n3 c3] { f with taken := ps } X4 G (w4.setCell ⟨L, 4, none⟩ (.slice e4 ps.length k4))) := by
      obtain ⟨b', l', c', a1', n1', c1', a2', n2', c2', a3', n3', c3', ev, rp, ri, cpd⟩ := H4.out.rd
      simp only [Value.agg.injEq] at ev
      cases ev
      have hap : ∀ y ∈ X4, y ∉ G := fun y hy hg => by have := H3.out.rd.lt2 y hg; have := lX y hy; omega
      exact ⟨H4.out.held.cell hq HA.out H4.out.gt _ _, H4.out.loc.set 4 _, ⟨e4, ps.length, k4, a1, n1, c1, a2, n2, c2, a3, n3, c3, rfl, r4.agree (.set nX _ _), ri.agree (.set H4.out.nG _ _), cp4⟩, (o4.agree (.set nX _ _)).mono (by omega), H4.out.ownG.agree (.set H4.out.nG _ _), hap, nX, H4.out.nG, H4.out.gt, H4.out.wide, by show ps.length ≤ 20; omega⟩
    have cc := H4.out.loc.cell 4
    have ff := H4.out.loc.frozen 4
    simp only [aT, aS, aZ] at cc
    clear C4 D4 H3 H4 r4 o4 cp4 lX nX hne
    obtain ⟨W, hW⟩ : ∃ W, W = w4.setCell ⟨L, 4, none⟩ (.slice e4 ps.length k4) := ⟨_, rfl⟩
    go_wp2_with (first | go_skip | (with_reducible refine stopLoad 51 rfl ?_) | (with_reducible refine stopStore 51 rfl ?_) | (with_reducible refine stopStore 40 rfl ?_))
    rw [← hW] at H5 ⊢
    clear hW cc ff
    refine load_known 51 L #[.int .i64 f.kind, .int .i64 f.agent, .int .i64 f.epoch, .int .i64 f.granted, .slice e4 ps.length k4, .int .i64 f.item.seq, .int .i64 f.item.cls, .int .i64 f.item.key, .int .i64 f.item.window, .int .i64 f.item.sk.count, .int .i64 f.item.sk.sum, .int .i64 f.item.sk.min, .int .i64 f.item.sk.max, .slice a1 n1 c1, .slice a2 n2 c2, .slice a3 n3 c3] 51 _ H5.out.loc rfl rfl rfl Try.underlying51 rfl infoFrD7 ?_
    go_wp2_with (first | go_skip | (with_reducible refine stopLoad 51 rfl ?_) | (with_reducible refine stopStore 51 rfl ?_) | (with_reducible refine stopStore 40 rfl ?_))
    refine store_known 51 w.heap.size _ #[.int .i64 f.kind, .int .i64 f.agent, .int .i64 f.epoch, .int .i64 f.granted, .slice e4 ps.length k4, .int .i64 f.item.seq, .int .i64 f.item.cls, .int .i64 f.item.key, .int .i64 f.item.window, .int .i64 f.item.sk.count, .int .i64 f.item.sk.sum, .int .i64 f.item.sk.min, .int .i64 f.item.sk.max, .slice a1 n1 c1, .slice a2 n2 c2, .slice a3 n3 c3] 51 H5.out.held.res rfl rfl rfl rfl infoFrD7 rfl (by simp [Value.oneCell']) ?_
    go_wp2
    refine bodyPost_ret (results_cell_row Try.results70 _ _ w.heap.size _ _ (0, 0) _ rfl H5.out.held.res.setRow Try.underlying51 rfl infoFrD7) rfl ?_
    exact H5.out.done hq HA.out
  have z4 : (n == 4) = false := by simpa using q4
  by_cases q5 : n = 5
  rotate_left
  · have z5 : (n == 5) = false := by simpa using q5
    clear q0 q1 q2 q3 q4 q5
    go_wp2_with (first | go_skip | (with_reducible refine stopLoad 51 rfl ?_) | (with_reducible refine stopStore 51 rfl ?_) | (with_reducible refine stopStore 40 rfl ?_))
    refine load_known 51 L #[.int .i64 f.kind, .int .i64 f.agent, .int .i64 f.epoch, .int .i64 f.granted, .slice b l c, .int .i64 f.item.seq, .int .i64 f.item.cls, .int .i64 f.item.key, .int .i64 f.item.window, .int .i64 f.item.sk.count, .int .i64 f.item.sk.sum, .int .i64 f.item.sk.min, .int .i64 f.item.sk.max, .slice a1 n1 c1, .slice a2 n2 c2, .slice a3 n3 c3] 51 _ H3.out.loc rfl rfl rfl Try.underlying51 rfl infoFrD7 ?_
    go_wp2_with (first | go_skip | (with_reducible refine stopLoad 51 rfl ?_) | (with_reducible refine stopStore 51 rfl ?_) | (with_reducible refine stopStore 40 rfl ?_))
    refine store_known 51 w.heap.size _ #[.int .i64 f.kind, .int .i64 f.agent, .int .i64 f.epoch, .int .i64 f.granted, .slice b l c, .int .i64 f.item.seq, .int .i64 f.item.cls, .int .i64 f.item.key, .int .i64 f.item.window, .int .i64 f.item.sk.count, .int .i64 f.item.sk.sum, .int .i64 f.item.sk.min, .int .i64 f.item.sk.max, .slice a1 n1 c1, .slice a2 n2 c2, .slice a3 n3 c3] 51 H3.out.held.res rfl rfl rfl rfl infoFrD7 rfl (by simp [Value.oneCell']) ?_
    go_wp2
    refine bodyPost_ret (results_cell_row Try.results70 _ _ w.heap.size _ _ (0, 0) _ rfl H3.out.held.res.setRow Try.underlying51 rfl infoFrD7) rfl ?_
    exact H3.out.done hq HA.out
  subst q5
  go_wp2_with fail
  refine (l6Draw_any q a len cap zs i3 h3 _ H3.out.held.cur hlen).mono ?_
  rintro e w4 ⟨v4, x, X, i4, h4, rfl, rx, fx, ox, C4, g4⟩
  obtain ⟨e1, m1, d1, e2, m2, d2, e3, m3, d3, rfl⟩ := rx.cells11
  have H4 : Hid (LocD w q a len cap zs i4 h4 L #[.int .i64 f.kind, .int .i64 f.agent, .int .i64 f.epoch, .int .i64 f.granted, .slice b l c, .int .i64 f.item.seq, .int .i64 f.item.cls, .int .i64 f.item.key, .int .i64 f.item.window, .int .i64 f.item.sk.count, .int .i64 f.item.sk.sum, .int .i64 f.item.sk.min, .int .i64 f.item.sk.max, .slice a1 n1 c1, .slice a2 n2 c2, .slice a3 n3 c3] f F G w4) := H3.out.next hq C4 g4
  have l3 : L < w3.heap.size := H3.out.loc.lt
  have nX : L ∉ X := fun hx => by have := ox.ge _ hx; omega
  have s3 : w.heap.size < w3.heap.size := by have := H3.out.gt; omega
  have hap : ∀ y ∈ F, y ∉ X := fun y hy hg => by have := H3.out.rd.lt1 y hy; have := ox.ge y hg; omega
  have HX : Hid (RdIt w4 (.agg #[.int .i64 x.seq, .int .i64 x.cls, .int .i64 x.key, .int .i64 x.window, .int .i64 x.sk.count, .int .i64 x.sk.sum, .int .i64 x.sk.min, .int .i64 x.sk.max, .slice e1 m1 d1, .slice e2 m2 d2, .slice e3 m3 d3]) x X ∧ x.sk.full ∧ Own w3.heap.size w4 X) := ⟨rx, fx, ox⟩
  clear rx fx ox C4 g4 H3
  go_wp2_with (first | go_skip | (with_reducible refine stopLoad 51 rfl ?_) | (with_reducible refine stopStore 51 rfl ?_) | (with_reducible refine stopStore 40 rfl ?_))
  refine store_cut 40 L 5 _ #[.int .i64 x.seq, .int .i64 x.cls, .int .i64 x.key, .int .i64 x.window, .int .i64 x.sk.count, .int .i64 x.sk.sum, .int .i64 x.sk.min, .int .i64 x.sk.max, .slice e1 m1 d1, .slice e2 m2 d2, .slice e3 m3 d3] #[.int .i64 f.kind, .int .i64 f.agent, .int .i64 f.epoch, .int .i64 f.granted, .slice b l c, .int .i64 x.seq, .int .i64 x.cls, .int .i64 x.key, .int .i64 x.window, .int .i64 x.sk.count, .int .i64 x.sk.sum, .int .i64 x.sk.min, .int .i64 x.sk.max, .slice e1 m1 d1, .slice e2 m2 d2, .slice e3 m3 d3] 51 H4.out.loc rfl rfl rfl rfl infoItA7 (by simp) (one11 ..) (by simp [cutIn]) ?_
  have H5 : Hid (LocD w q a len cap zs i4 h4 L #[.int .i64 f.kind, .int .i64 f.agent, .int .i64 f.epoch, .int .i64 f.granted, .slice b l c, .int .i64 x.seq, .int .i64 x.cls, .int .i64 x.key, .int .i64 x.window, .int .i64 x.sk.count, .int .i64 x.sk.sum, .int .i64 x.sk.min, .int .i64 x.sk.max, .slice e1 m1 d1, .slice e2 m2 d2, .slice e3 m3 d3] { f with item := x } F X (w4.setRow L #[.int .i64 f.kind, .int .i64 f.agent, .int .i64 f.epoch, .int .i64 f.granted, .slice b l c, .int .i64 x.seq, .int .i64 x.cls, .int .i64 x.key, .int .i64 x.window, .int .i64 x.sk.count, .int .i64 x.sk.sum, .int .i64 x.sk.min, .int .i64 x.sk.max, .slice e1 m1 d1, .slice e2 m2 d2, .slice e3 m3 d3])) := by
    obtain ⟨b', l', c', a1', n1', c1', a2', n2', c2', a3', n3', c3', ev, rp, ri, cpd⟩ := H4.out.rd
    simp only [Value.agg.injEq] at ev
    cases ev
    exact ⟨H4.out.held.row hq HA.out H4.out.gt _, H4.out.loc.setRow, ⟨b, l, c, e1, m1, d1, e2, m2, d2, e3, m3, d3, rfl, rp.agree (Agree.row H4.out.nF _), HX.out.1.agree (Agree.row nX _), cpd⟩, H4.out.ownF.agree (Agree.row H4.out.nF _), (HX.out.2.2.agree (Agree.row nX _)).mono (by omega), hap, H4.out.nF, nX, H4.out.gt, full_wideF HX.out.2.1, H4.out.many⟩
  obtain ⟨W, hW⟩ : ∃ W, W = w4.setRow L #[.int .i64 f.kind, .int .i64 f.agent, .int .i64 f.epoch, .int .i64 f.granted, .slice b l c, .int .i64 x.seq, .int .i64 x.cls, .int .i64 x.key, .int .i64 x.window, .int .i64 x.sk.count, .int .i64 x.sk.sum, .int .i64 x.sk.min, .int .i64 x.sk.max, .slice e1 m1 d1, .slice e2 m2 d2, .slice e3 m3 d3] := ⟨_, rfl⟩
  rw [← hW] at H5 ⊢
  clear hW H4 HX nX hap
  go_wp2_with (first | go_skip | (with_reducible refine stopLoad 51 rfl ?_) | (with_reducible refine stopStore 51 rfl ?_) | (with_reducible refine stopStore 40 rfl ?_))
  refine load_known 51 L #[.int .i64 f.kind, .int .i64 f.agent, .int .i64 f.epoch, .int .i64 f.granted, .slice b l c, .int .i64 x.seq, .int .i64 x.cls, .int .i64 x.key, .int .i64 x.window, .int .i64 x.sk.count, .int .i64 x.sk.sum, .int .i64 x.sk.min, .int .i64 x.sk.max, .slice e1 m1 d1, .slice e2 m2 d2, .slice e3 m3 d3] 51 _ H5.out.loc rfl rfl rfl Try.underlying51 rfl infoFrD7 ?_
  go_wp2_with (first | go_skip | (with_reducible refine stopLoad 51 rfl ?_) | (with_reducible refine stopStore 51 rfl ?_) | (with_reducible refine stopStore 40 rfl ?_))
  refine store_known 51 w.heap.size _ #[.int .i64 f.kind, .int .i64 f.agent, .int .i64 f.epoch, .int .i64 f.granted, .slice b l c, .int .i64 x.seq, .int .i64 x.cls, .int .i64 x.key, .int .i64 x.window, .int .i64 x.sk.count, .int .i64 x.sk.sum, .int .i64 x.sk.min, .int .i64 x.sk.max, .slice e1 m1 d1, .slice e2 m2 d2, .slice e3 m3 d3] 51 H5.out.held.res rfl rfl rfl rfl infoFrD7 rfl (by simp [Value.oneCell']) ?_
  go_wp2
  refine bodyPost_ret (results_cell_row Try.results70 _ _ w.heap.size _ _ (0, 0) _ rfl H5.out.held.res.setRow Try.underlying51 rfl infoFrD7) rfl ?_
  exact H5.out.done hq HA.out
def DrewFrameB (w : World) (e : Ending) (w' : World) : Prop := ∃ v f F G, e = .returned v ∧ RdFr w' v f F G ∧ f.item.sk.wide ∧ f.taken.length ≤ 20 ∧ Below w.heap.size w w'
set_option maxRecDepth 200000 in
set_option maxHeartbeats 1000000 in
theorem drawFrameBytes_any (a : Option Addr) (len cap : Nat) (zs : List Int) (w : World) (hR : RdB w a len zs) (hlen : len ≤ 1048576) :
    Calls Try.prog 24 #[.slice a len cap] w fun e w' => DrewFrameB w e w' := by
  have HR : Hid (RdB w a len zs) := hR
  clear hR
  go_enter Try.func24, Try.ntmps24
  have HZ : Hid (Blk (w.alloc (.cells #[.int .i64 0, .int .i64 0, .int .i64 0, .int .i64 0, .slice none 0 0, .int .i64 0, .int .i64 0, .int .i64 0, .int .i64 0, .int .i64 0, .int .i64 0, .int .i64 0, .int .i64 0, .slice none 0 0, .slice none 0 0, .slice none 0 0] 51)) w.heap.size #[.int .i64 0, .int .i64 0, .int .i64 0, .int .i64 0, .slice none 0 0, .int .i64 0, .int .i64 0, .int .i64 0, .int .i64 0, .int .i64 0, .int .i64 0, .int .i64 0, .int .i64 0, .slice none 0 0, .slice none 0 0, .slice none 0 0] 51 ∧ Below w.heap.size w (w.alloc (.cells #[.int .i64 0, .int .i64 0, .int .i64 0, .int .i64 0, .slice none 0 0, .int .i64 0, .int .i64 0, .int .i64 0, .int .i64 0, .int .i64 0, .int .i64 0, .int .i64 0, .int .i64 0, .slice none 0 0, .slice none 0 0, .slice none 0 0] 51))) := ⟨Blk.made _ _ _, (Below.refl _ _).alloc (Nat.le_refl _) _⟩
  go_wp2_with fail
  obtain ⟨W0, hW0⟩ : ∃ W, W = w.alloc (.cells #[.int .i64 0, .int .i64 0, .int .i64 0, .int .i64 0, .slice none 0 0, .int .i64 0, .int .i64 0, .int .i64 0, .int .i64 0, .int .i64 0, .int .i64 0, .int .i64 0, .int .i64 0, .slice none 0 0, .slice none 0 0, .slice none 0 0] 51) := ⟨_, rfl⟩
  rw [← hW0] at HZ ⊢
  clear hW0
  refine (l1New_any a len cap zs _ (HR.out.below HZ.out.2) hlen).mono ?_
  rintro e w1 ⟨rfl, ⟨h, C1⟩, b1⟩
  have lw : w.heap.size < W0.heap.size := HZ.out.1.lt
  have HZ1 : Hid (Blk w1 w.heap.size #[.int .i64 0, .int .i64 0, .int .i64 0, .int .i64 0, .slice none 0 0, .int .i64 0, .int .i64 0, .int .i64 0, .int .i64 0, .int .i64 0, .int .i64 0, .int .i64 0, .int .i64 0, .slice none 0 0, .slice none 0 0, .slice none 0 0] 51 ∧ Below w.heap.size w w1 ∧ Cur w1 W0.heap.size a len cap zs 0 h) := ⟨HZ.out.1.below b1, Below.next HZ.out.2 b1, C1⟩
  clear C1 b1 HZ
  go_wp2_with fail
  refine (l7Draw_any W0.heap.size a len cap zs 0 h _ HZ1.out.2.2 hlen).mono ?_
  rintro e w2 ⟨v, f, F, G, i2, h2, rfl, rf, wf, mf, oF, oG, ap, C2, g2⟩
  obtain ⟨ds, rfl, hd16, hdone⟩ : ∃ cs : Array Value, v = .agg cs ∧ cs.size = 16 ∧ cs.all (·.oneCell') = true := by
    obtain ⟨b, l, c, a1, n1, c1, a2, n2, c2, a3, n3, c3, rfl, _⟩ := rf
    exact ⟨_, rfl, rfl, by simp [Value.oneCell']⟩
  have lw1 : w.heap.size < w1.heap.size := HZ1.out.1.lt
  have HZ2 : Hid (Blk w2 w.heap.size #[.int .i64 0, .int .i64 0, .int .i64 0, .int .i64 0, .slice none 0 0, .int .i64 0, .int .i64 0, .int .i64 0, .int .i64 0, .int .i64 0, .int .i64 0, .int .i64 0, .int .i64 0, .slice none 0 0, .slice none 0 0, .slice none 0 0] 51 ∧ Below w.heap.size w w2 ∧ RdFr w2 (.agg ds) f F G ∧ f.item.sk.wide ∧ f.taken.length ≤ 20 ∧ Own w1.heap.size w2 F ∧ Own w1.heap.size w2 G) := ⟨HZ1.out.1.grown g2 (by omega), HZ1.out.2.1.grown g2 HZ1.out.2.1.size (fun k hk => by simp at hk; omega), rf, wf, mf, oF, oG⟩
  have hds : (Try.prog.info? 51).map (·.size) = some ds.size := by rw [hd16]; exact infoFrD7
  clear rf wf mf oF oG ap C2 g2 HZ1
  go_wp2_with (first | go_skip | (with_reducible refine stopStore 51 rfl ?_))
  refine store_known 51 w.heap.size _ ds 51 HZ2.out.1 rfl rfl rfl rfl hds (by rw [hd16]; rfl) hdone ?_
  go_wp2
  refine bodyPost_ret (results_cell_row Try.results24 _ _ w.heap.size _ _ (0, 0) _ rfl HZ2.out.1.setRow Try.underlying51 rfl hds) rfl ?_
  have nF : w.heap.size ∉ F := fun hx => by have := HZ2.out.2.2.2.2.2.1.ge _ hx; omega
  have nG : w.heap.size ∉ G := fun hx => by have := HZ2.out.2.2.2.2.2.2.ge _ hx; omega
  exact ⟨_, f, F, G, rfl, HZ2.out.2.2.1.agree (Agree.row nF _) (Agree.row nG _), HZ2.out.2.2.2.1, HZ2.out.2.2.2.2.1, below_setRow HZ2.out.2.1 (Nat.le_refl _) _⟩
end Go.Proofs.Ytjndcfamfminkab
/- How chapter 1 writes a number as bytes, over natural numbers. No statement of the seat is proved here. -/
namespace Go.Proofs.Ytjndcfamfminkab
open Go.RowKit

/-- Seven bits a byte, the low ones first, 128 more in each byte but the last. -/
def encN (n : Nat) : List Int := if n < 128 then [(n : Int)] else ((n : Int) % 128 + 128) :: encN (n / 128)
  termination_by n
  decreasing_by omega

/-- The bytes of a number: none of one that is not in 0 .. 2147483647. -/
def encOf (n : Int) : List Int := if 0 ≤ n ∧ n ≤ 2147483647 then encN n.toNat else []

theorem encN_small (n : Nat) (h : n < 128) : encN n = [(n : Int)] := by rw [encN, if_pos h]
theorem encN_big (n : Nat) (h : ¬ n < 128) : encN n = ((n : Int) % 128 + 128) :: encN (n / 128) := by rw [encN, if_neg h]
theorem encN_range (n : Nat) : ∀ x ∈ encN n, 0 ≤ x ∧ x ≤ 255 := by
  induction n using encN.induct with
  | case1 n h => rw [encN_small n h]; intro x hx; simp at hx; omega
  | case2 n h ih =>
    rw [encN_big n h]
    intro x hx
    rcases List.mem_cons.1 hx with rfl | hx
    · omega
    · exact ih x hx
theorem encOf_range (n : Int) : ∀ x ∈ encOf n, 0 ≤ x ∧ x ≤ 255 := by
  unfold encOf; split
  · exact encN_range _
  · intro x hx; cases hx
theorem len_small (k n : Nat) (h : n < 128 ^ k * 128) : (encN n).length ≤ k + 1 := by
  induction k generalizing n with
  | zero => rw [encN_small n (by omega)]; simp
  | succ k ih =>
    by_cases h1 : n < 128
    · rw [encN_small n h1]; simp
    · rw [encN_big n h1]
      have := ih (n / 128) (by rw [Nat.pow_succ] at h; omega)
      simp; omega
theorem encN_len (n : Nat) (h : n ≤ 2147483647) : (encN n).length ≤ 5 := len_small 4 n (by omega)
theorem encOf_len (n : Int) : (encOf n).length ≤ 5 := by
  unfold encOf; split
  · exact encN_len _ (by omega)
  · simp
theorem enc_next {n : Nat} {m : Int} {acc : List Int} (h0 : 0 ≤ m) (h : acc ++ encN m.toNat = encN n) (hm : 128 ≤ m) : (acc ++ [m % 128 + 128]) ++ encN (m / 128).toNat = encN n := by
  obtain ⟨m, rfl⟩ := Int.eq_ofNat_of_zero_le h0
  rw [← h, show ((m : Int)).toNat = m by omega, show ((m : Int) / 128).toNat = m / 128 by omega, encN_big m (by omega)]; simp
theorem enc_last {n : Nat} {m : Int} {acc : List Int} (h0 : 0 ≤ m) (h : acc ++ encN m.toNat = encN n) (hm : m < 128) : acc ++ [m] = encN n := by
  obtain ⟨m, rfl⟩ := Int.eq_ofNat_of_zero_le h0
  rw [← h, show ((m : Int)).toNat = m by omega, encN_small m (by omega)]
theorem enc_acc {m n : Nat} {acc : List Int} (h : acc ++ encN m = encN n) (hn : n ≤ 2147483647) : acc.length ≤ 5 := by
  have h1 := encN_len n hn
  rw [← h, List.length_append] at h1; omega

/-- What a marked slice of n bytes holds: k, k + 1, .. each by 256. -/
def marks (k : Int) (n : Nat) : List Int := (List.range n).map fun i : Nat => (k + (i : Int)) % 256
theorem marks_len (k : Int) (n : Nat) : (marks k n).length = n := by simp [marks]
theorem marks_at (k : Int) (n i : Nat) (h : i < n) : (marks k n)[i]?.getD 0 = (k + (i : Int)) % 256 := by simp [marks, h]
theorem marks_range (k : Int) (n : Nat) : ∀ x ∈ marks k n, 0 ≤ x ∧ x ≤ 255 := by
  intro x hx
  simp only [marks, List.mem_map, List.mem_range] at hx
  obtain ⟨i, _, rfl⟩ := hx
  omega
/-- Marked up to i, the rest as it was. -/
def marked (k : Int) (i : Nat) (xs : List Value) : List Value := (marks k i).map (Value.int .u8) ++ xs.drop i
theorem marked_zero (k : Int) (xs : List Value) : marked k 0 xs = xs := by simp [marked, marks]
theorem marked_end (k : Int) (n : Nat) (xs : List Value) (h : xs.length = n) : marked k n xs = (marks k n).map (Value.int .u8) := by
  simp [marked, List.drop_of_length_le (Nat.le_of_eq h)]
theorem marks_succ (k : Int) (i : Nat) : marks k (i + 1) = marks k i ++ [(k + (i : Int)) % 256] := by simp [marks, List.range_succ]
theorem marked_step (k : Int) (i n : Nat) (xs : List Value) (h : xs.length = n) (hi : i < n) : (marked k i xs).set i (.int .u8 ((k + (i : Int)) % 256)) = marked k (i + 1) xs := by
  unfold marked
  have hl : ((marks k i).map (Value.int .u8)).length = i := by simp [marks_len]
  rw [List.set_append_right i _ (by omega), hl, Nat.sub_self, marks_succ, List.map_append, List.append_assoc, List.drop_eq_getElem_cons (show i < xs.length by omega)]
  rfl
end Go.Proofs.Ytjndcfamfminkab
/- The walks through PutNum, the program's and the model's. No statement of the seat is proved here. -/
namespace Go.Proofs.Ytjndcfamfminkab
open Go.RowKit

theorem grow_step {B : Nat} {w wr w1 : World} {o : Obj} {v v' : Value} {acc : List Int} {x : Int} (hB : B ≤ wr.heap.size)
    (hown : wr.ownsRow B 5 1 v acc.length (acc.map (Value.int .u8))) (hbel : Below B w wr)
    (hown' : w1.ownsRow B 5 1 v' (acc.length + 1) (acc.map (Value.int .u8) ++ [.int .u8 x])) (hgrow : (wr.alloc o).grownBy w1 v.ownBlock) :
    w1.ownsRow B 5 1 v' (acc ++ [x]).length ((acc ++ [x]).map (Value.int .u8)) ∧ Below B w w1 := by
  refine ⟨by simpa using hown', (hbel.alloc hB o).grown hgrow (by simp; omega) (fun j hj => (hown.lt j hj).1)⟩

set_option maxRecDepth 200000 in
set_option maxHeartbeats 400000 in
theorem putImpl_any (n : Int) (w : World) (h0 : -9223372036854775808 ≤ n) (h1 : n ≤ 9223372036854775807) : Calls Try.prog 117 #[.int .i64 n] w fun e w' =>
    ∃ v, e = .returned v ∧ w'.ownsRow w.heap.size 5 1 v (encOf n).length ((encOf n).map (Value.int .u8)) ∧ Below w.heap.size w w' := by
  obtain ⟨i0, hi, hz0, hz1, hz2⟩ := info_parts Try.info5
  by_cases hr : 0 ≤ n ∧ n ≤ 2147483647
  · obtain ⟨hn0, hn1⟩ := hr
    obtain ⟨N, rfl⟩ := Int.eq_ofNat_of_zero_le hn0
    have HE : Hid (encOf (N : Int) = encN N) := by show encOf (N : Int) = encN N; rw [encOf, if_pos ⟨hn0, hn1⟩]; rfl
    have hN : N ≤ 2147483647 := by omega
    have hd1 : decide ((N : Int) < 0) = false := by simp
    have hd2 : decide (2147483647 < (N : Int)) = false := by simp; omega
    clear h0 h1 hn0 hn1
    go_enter Try.func117, Try.ntmps117
    go_wp2
    clear hd1 hd2
    go_loopw [0, 3] (fun s v wr => ∃ (m : Int) (acc : List Int), 0 ≤ m ∧ m ≤ 2147483647 ∧ s = .int .i64 m ∧ wr.ownsRow w.heap.size 5 1 v acc.length (acc.map (Value.int .u8)) ∧ Hid (acc ++ encN m.toNat = encN N) ∧ Below w.heap.size w wr) (fun s _ _ => (intOf s).toNat)
    case atStart => exact ⟨(N : Int), [], by omega, by omega, rfl, World.ownsRow_nil _ _ _ _, rfl, Below.refl _ _⟩
    case round =>
      obtain ⟨m, acc, hm0, hm, rfl, hown, HA, hbel⟩ := hrel
      have hacc := enc_acc HA.out hN
      have hsz := hbel.size
      by_cases hbig : 128 ≤ m
      · go_wp2_with (first
          | (at_builtin; (refine wpList_append_own _ rfl _ _ 22 rfl w.heap.size 5 i0 (.int .u8 0) 1 1 Try.underlying22 hi hz0 hz1 hz2 rfl (by decide) _ _ _ rfl (hown.alloc _) ⟨wr.heap.size, 0, none⟩ 1 1 [.int .u8 (m % 128 + 128)] rfl rfl ?c1 ?c2 ?c3 ?c4 ?c5 ?_)))
        case c1 => exact cell_one_new _ _ _
        case c2 => intro u hu; simp at hu; subst hu; rfl
        case c3 => unfold maxLen; omega
        case c4 => omega
        case c5 => simp; omega
        intro v' w1 hown' hgrow _
        have R := grow_step (by omega) hown hbel hown' hgrow
        clear hown' hgrow hown hbel
        go_wp2
        go_roundw
        case rel => exact ⟨m / 128, acc ++ [m % 128 + 128], by omega, by omega, by go_num, R.1, enc_next hm0 HA.out hbig, R.2⟩
        case measure => simp [intOf]; omega
      · have hbi : m < 128 := by omega
        clear hbig
        go_wp2_with (first
          | (at_builtin; (refine wpList_append_own _ rfl _ _ 22 rfl w.heap.size 5 i0 (.int .u8 0) 1 1 Try.underlying22 hi hz0 hz1 hz2 rfl (by decide) _ _ _ rfl (hown.alloc _) ⟨wr.heap.size, 0, none⟩ 1 1 [.int .u8 m] rfl rfl ?d1 ?d2 ?d3 ?d4 ?d5 ?_)))
        case d1 => exact cell_one_new _ _ _
        case d2 => intro u hu; simp at hu; subst hu; rfl
        case d3 => unfold maxLen; omega
        case d4 => omega
        case d5 => simp; omega
        intro v' w1 hown' hgrow _
        have R := grow_step (by omega) hown hbel hown' hgrow
        rw [enc_last hm0 HA.out hbi, ← HE.out] at R
        clear hown' hgrow hown hbel
        go_wp2
        go_ret
        exact ⟨_, rfl, R.1, R.2⟩
  · have HE : Hid (encOf n = []) := by show encOf n = []; rw [encOf, if_neg hr]
    by_cases hn : n < 0
    · go_enter Try.func117, Try.ntmps117
      go_wp2
      go_ret
      exact ⟨_, rfl, by rw [HE.out]; exact World.ownsRow_nil _ _ _ _, Below.refl _ _⟩
    · have hn' : decide (n < 0) = false := by simpa using hn
      have hn2 : 2147483647 < n := by omega
      go_enter Try.func117, Try.ntmps117
      go_wp2
      go_ret
      exact ⟨_, rfl, by rw [HE.out]; exact World.ownsRow_nil _ _ _ _, Below.refl _ _⟩


set_option maxRecDepth 200000 in
/-- Of a number that is not to be written: nothing. -/
theorem putImpl_nil (n : Int) (w : World) (hr : ¬ (0 ≤ n ∧ n ≤ 2147483647)) : Calls Try.prog 117 #[.int .i64 n] w fun e w' => e = .returned (.slice none 0 0) ∧ w' = w := by
  by_cases hn : n < 0
  · go_enter Try.func117, Try.ntmps117
    go_wp2
    go_ret
    exact ⟨rfl, rfl⟩
  · have hn' : decide (n < 0) = false := by simpa using hn
    have hn2 : 2147483647 < n := by omega
    go_enter Try.func117, Try.ntmps117
    go_wp2
    go_ret
    exact ⟨rfl, rfl⟩
end Go.Proofs.Ytjndcfamfminkab
/- The walks through the model's l7Put, l7Nums and SketchBytes. No statement of the seat is proved here. -/
namespace Go.Proofs.Ytjndcfamfminkab
open Go.RowKit
def putAll (zs : List Int) : List Int := (zs.map encOf).flatten
def InN (n : Int) : Prop := 0 ≤ n ∧ n ≤ 2147483647
theorem putAll_take (zs : List Int) (k : Nat) (hk : k < zs.length) : putAll (zs.take (k + 1)) = putAll (zs.take k) ++ encOf (zs.getD k 0) := by
  unfold putAll
  rw [take_snoc zs 0 k hk, List.map_append, List.flatten_append]
  simp
theorem putAll_app (xs ys : List Int) : putAll (xs ++ ys) = putAll xs ++ putAll ys := by simp [putAll]
theorem putAll_len (zs : List Int) : (putAll zs).length ≤ 5 * zs.length := by
  induction zs with
  | nil => simp [putAll]
  | cons a l ih =>
    have h := encOf_len a
    have e : putAll (a :: l) = encOf a ++ putAll l := by simp [putAll]
    rw [e, List.length_append, List.length_cons]
    omega
theorem putAll_range (zs : List Int) : ∀ x ∈ putAll zs, 0 ≤ x ∧ x ≤ 255 := by
  intro x hx
  unfold putAll at hx
  rw [List.mem_flatten] at hx
  obtain ⟨l, hl, hx⟩ := hx
  rw [List.mem_map] at hl
  obtain ⟨n, _, rfl⟩ := hl
  exact encOf_range n x hx
theorem encOf_pos {n : Int} (h : InN n) : 0 < (encOf n).length := by
  unfold encOf
  rw [if_pos (show 0 ≤ n ∧ n ≤ 2147483647 from h)]
  by_cases q : n.toNat < 128
  · rw [encN_small _ q]; simp
  · rw [encN_big _ q]; simp
theorem own_shape7 {w : World} {base e n : Nat} {v : Value} {xs : List Value} (h : w.ownsRow base e 1 v n xs) (hn : 0 < n) : ∃ g cap, v = .slice (some ⟨g, 0, none⟩) n cap ∧ n ≤ cap := by
  rcases h.2 with ⟨_, h0⟩ | ⟨g, cap, cur, h1, _, _, h2, _⟩
  · omega
  · exact ⟨g, cap, h1, h2⟩
theorem own_news {w : World} {B e g n cap : Nat} {xs : List Value} (h : w.ownsRow B e 1 (.slice (some ⟨g, 0, none⟩) n cap) n xs) : ∀ j u, xs[j]? = some u → w.cell? ((⟨g, 0, none⟩ : Addr).add j) = some u := h.cells rfl
theorem u8_one (zs : List Int) : ∀ u ∈ zs.map (Value.int .u8), u.oneCell' = true := by
  intro u hu
  rw [List.mem_map] at hu
  obtain ⟨n, _, rfl⟩ := hu
  rfl
end Go.Proofs.Ytjndcfamfminkab
/- The walks through the model's l7Nums and SketchBytes. No statement of the seat is proved here. -/
namespace Go.Proofs.Ytjndcfamfminkab
open Go.RowKit
def Sk.numsTo (s : Sk) (k : Nat) : List Int := [s.count, s.sum, s.min, s.max] ++ s.hist ++ s.regs ++ (s.rows.take k).flatten
def Sk.nums (s : Sk) : List Int := [s.count, s.sum, s.min, s.max] ++ s.hist ++ s.regs ++ s.rows.flatten
structure Sk.lens7 (s : Sk) : Prop where
  hist : s.hist.length = 8
  regs : s.regs.length = 8
  rows : s.rows.length = 2
  row : ∀ z ∈ s.rows, z.length = 4
theorem numsTo_succ {s : Sk} {k : Nat} (hk : k < s.rows.length) : s.numsTo (k + 1) = s.numsTo k ++ s.rows.getD k [] := by
  unfold Sk.numsTo
  rw [take_snoc s.rows [] k hk, List.flatten_append]
  simp
theorem numsTo_len {s : Sk} (h : s.lens7) {k : Nat} (hk : k ≤ 2) : (s.numsTo k).length = 20 + 4 * k := by
  induction k with
  | zero => simp [Sk.numsTo, h.hist, h.regs]
  | succ k ih =>
    rw [numsTo_succ (by rw [h.rows]; omega), List.length_append, ih (by omega), h.row _ (mem_getD (d := []) (by rw [h.rows]; omega))]
    omega
theorem okL_iff {l : List Int} {m : Nat} {most : Int} {z : Bool} (h : okL l m most z = true) : l.length = m ∧ ∀ x ∈ l, 0 ≤ x ∧ x ≤ most := by
  unfold okL at h
  simp only [Bool.and_eq_true, decide_eq_true_eq, List.all_eq_true] at h
  refine ⟨h.1, fun x hx => ?_⟩
  have e := h.2 x hx
  unfold okN at e
  simp only [Bool.and_eq_true, decide_eq_true_eq] at e
  exact e.1
theorem two_rows7 {l : List (List Int)} (h : l.length = 2) : l = [l.getD 0 [], l.getD 1 []] := by
  match l, h with
  | [a, b], _ => rfl
theorem Sk.ok_lens {s : Sk} (h : s.ok = true) : s.lens7 ∧ ∀ x ∈ s.nums, InN x := by
  unfold Sk.ok okHead okLists at h
  simp only [Bool.and_eq_true, decide_eq_true_eq] at h
  obtain ⟨⟨⟨⟨⟨⟨⟨c0, s0⟩, m0⟩, x0⟩, _⟩, r0⟩, _⟩, ⟨⟨⟨h1, h2⟩, h3⟩, h4⟩⟩ := h
  have e1 := okL_iff h1
  have e2 := okL_iff h2
  have e3 := okL_iff h3
  have e4 := okL_iff h4
  refine ⟨⟨e1.1, e2.1, r0, fun z hz => ?_⟩, fun x hx => ?_⟩
  · rw [two_rows7 r0] at hz
    simp only [List.mem_cons, List.not_mem_nil, or_false] at hz
    rcases hz with rfl | rfl
    · exact e3.1
    · exact e4.1
  · unfold Sk.nums at hx
    rw [two_rows7 r0] at hx
    simp only [List.mem_append, List.mem_cons, List.not_mem_nil, or_false, List.flatten_cons, List.flatten_nil, List.append_nil] at hx
    unfold InN
    rcases hx with ((hx | hx) | hx) | hx | hx
    · rcases hx with rfl | rfl | rfl | rfl <;> omega
    · have := e1.2 x hx; omega
    · have := e2.2 x hx; omega
    · have := e3.2 x hx; omega
    · have := e4.2 x hx; omega
theorem own_mono7 {w : World} {b b' e s n : Nat} {v : Value} {xs : List Value} (h : w.ownsRow b e s v n xs) (hb : b' ≤ b) : w.ownsRow b' e s v n xs := ⟨h.1, h.2.imp id (fun ⟨g, cap, cur, h1, h2, h3⟩ => ⟨g, cap, cur, h1, Nat.le_trans hb h2, h3⟩)⟩
/-- A list that grows beside a box. -/
structure NumSt (w : World) (cs : Array Value) (t : TypeId) (v : Value) (xs : List Int) (W : World) : Prop where
  box : Blk W w.heap.size cs t
  own : W.ownsRow (w.heap.size + 1) 3 1 v xs.length (xs.map (Value.int .i64))
  bel : Below w.heap.size w W
theorem NumSt.size {w W : World} {cs : Array Value} {t : TypeId} {v : Value} {xs : List Int} (h : NumSt w cs t v xs W) : w.heap.size + 1 ≤ W.heap.size := h.box.lt
theorem NumSt.app {w W W' : World} {cs : Array Value} {t : TypeId} {v v' : Value} {xs ys : List Int} {m : Nat} (h : NumSt w cs t v xs W) (hm : ys.length = m) (hown : W'.ownsRow (w.heap.size + 1) 3 1 v' (xs.length + m) (xs.map (Value.int .i64) ++ ys.map (Value.int .i64))) (hg : W.grownBy W' v.ownBlock) : NumSt w cs t v' (xs ++ ys) W' := by
  have b : Below (w.heap.size + 1) W W' := (Below.refl _ _).grown hg h.size (fun g e => (h.own.lt g e).1)
  refine ⟨h.box.agree (b.block _ (Nat.lt_succ_self _)), ?_, h.bel.trans (b.mono (by omega))⟩
  rw [List.length_append, List.map_append, hm]
  exact hown
end Go.Proofs.Ytjndcfamfminkab
/- How chapter 1 reads a number off bytes, over whole numbers. No statement of the seat is proved here. -/
namespace Go.Proofs.Ytjndcfamfminkab
open Go.RowKit

/-- The number that the bytes begin with, k of its bytes being read already (together acc): it and how many bytes it takes. -/
def dg : List Int → Nat → Int → Option (Int × Nat)
  | [], _, _ => none
  | c :: r, k, acc => if k = 5 then none else if c < 128 then (if (0 < k ∧ c = 0) ∨ 2147483647 < acc + c % 128 * 128 ^ k then none else some (acc + c % 128 * 128 ^ k, k + 1)) else dg r (k + 1) (acc + c % 128 * 128 ^ k)

/-- The number that begins at that place. -/
def res (zs : List Int) (p : Int) : Option (Int × Nat) := if 0 ≤ p ∧ p ≤ zs.length then dg (zs.drop p.toNat) 0 0 else none
def out3 (r : Option (Int × Nat)) (p : Int) : Value := match r with
  | none => .tuple #[.int .i64 0, .int .i64 0, .bool false]
  | some (n, u) => .tuple #[.int .i64 n, .int .i64 (p + u), .bool true]

theorem or_nat (a b j : Nat) (ha : a < 2 ^ j) (h : a + b * 2 ^ j < 4611686018427387904) : bits .or .i64 (a : Int) ((b * 2 ^ j : Nat) : Int) = ((a + b * 2 ^ j : Nat) : Int) := by
  have h1 : a < 4611686018427387904 := by omega
  have h2 : b * 2 ^ j < 4611686018427387904 := by omega
  have ea : (BitVec.ofInt 64 (a : Int)).toNat = a := by rw [BitVec.toNat_ofInt]; omega
  have eb : (BitVec.ofInt 64 ((b * 2 ^ j : Nat) : Int)).toNat = b * 2 ^ j := by rw [BitVec.toNat_ofInt]; omega
  have e : ((BitVec.ofInt 64 (a : Int)) ||| (BitVec.ofInt 64 ((b * 2 ^ j : Nat) : Int))).toNat = a + b * 2 ^ j := by
    rw [BitVec.toNat_or, ea, eb, Nat.or_comm, nat_join j _ _ (by simp) ha, Nat.add_comm]
  show IntKind.i64.wrap (((BitVec.ofInt 64 (a : Int)) ||| (BitVec.ofInt 64 ((b * 2 ^ j : Nat) : Int))).toNat : Int) = _
  rw [e]
  generalize a + b * 2 ^ j = c at *
  simp [IntKind.wrap, IntKind.bits, IntKind.signed]
  omega
/-- At each of the five places the exclusive-free 'or' is a sum. -/
theorem or_add (k : Nat) (hk : k < 5) (X d : Int) (hX : 0 ≤ X) (hX' : X < 128 ^ k) (hd : 0 ≤ d) (hd' : d < 128) : bits .or .i64 X (d * 128 ^ k) = X + d * 128 ^ k := by
  obtain ⟨x, rfl⟩ := Int.eq_ofNat_of_zero_le hX
  obtain ⟨e, rfl⟩ := Int.eq_ofNat_of_zero_le hd
  have hp : (128 : Nat) ^ k = 2 ^ (7 * k) := by rw [show (128 : Nat) = 2 ^ 7 from rfl, ← Nat.pow_mul]
  have h1 : x < 2 ^ (7 * k) := by rw [← hp]; have : ((x : Int)) < ((128 ^ k : Nat) : Int) := by simpa using hX'
                                  omega
  have he : e < 128 := by omega
  have h2 : x + e * 2 ^ (7 * k) < 4611686018427387904 := by
    have h3 : (2 : Nat) ^ (7 * k) ≤ 2 ^ 28 := Nat.pow_le_pow_right (by decide) (by omega)
    have h4 : e * 2 ^ (7 * k) ≤ 127 * 2 ^ 28 := Nat.mul_le_mul (by omega) h3
    have h5 : (127 : Nat) * 2 ^ 28 = 34091302912 := by decide
    have h6 : (2 : Nat) ^ 28 = 268435456 := by decide
    omega
  have h := or_nat x e (7 * k) h1 h2
  rw [← hp] at h
  simpa using h

/-- What is read with one byte more. -/
def nxt (k : Nat) (X c : Int) : Int := X + c % 128 * 128 ^ k
theorem pow_eq (k : Nat) : (2 : Int) ^ (7 * k) = 128 ^ k := by rw [Int.pow_mul]; rfl
theorem pow_bd (k : Nat) (hk : k < 5) : (1 : Int) ≤ 128 ^ k ∧ (128 : Int) ^ k ≤ 268435456 := by
  have : k = 0 ∨ k = 1 ∨ k = 2 ∨ k = 3 ∨ k = 4 := by omega
  rcases this with rfl | rfl | rfl | rfl | rfl <;> exact ⟨by decide, by decide⟩
theorem part_bd (k : Nat) (hk : k < 5) (c : Int) : 0 ≤ c % 128 * 128 ^ k ∧ c % 128 * 128 ^ k ≤ 127 * 128 ^ k := by
  have h := pow_bd k hk
  exact ⟨Int.mul_nonneg (by omega) (by omega), Int.mul_le_mul_of_nonneg_right (by omega) (by omega)⟩
theorem nxt_bd (k : Nat) (hk : k < 5) (X c : Int) (hX : 0 ≤ X) (hX' : X < 128 ^ k) : 0 ≤ nxt k X c ∧ nxt k X c < 128 ^ (k + 1) ∧ nxt k X c ≤ 34359738368 := by
  have h := pow_bd k hk
  have h2 := part_bd k hk c
  unfold nxt
  refine ⟨by omega, ?_, by omega⟩
  rw [Int.pow_succ]; omega
theorem wrap_part (k : Nat) (hk : k < 5) (c : Int) : wrap64 (c % 128 * 2 ^ (7 * k)) = c % 128 * 128 ^ k := by
  rw [pow_eq]
  have h := pow_bd k hk
  have h2 := part_bd k hk c
  unfold wrap64; omega
theorem or_nxt (k : Nat) (hk : k < 5) (X c : Int) (hX : 0 ≤ X) (hX' : X < 128 ^ k) : bits .or .i64 X (wrap64 (c % 128 * 2 ^ (7 * k))) = nxt k X c := by
  rw [wrap_part k hk c]
  exact or_add k hk X (c % 128) hX hX' (by omega) (by omega)
theorem add_nxt (k : Nat) (hk : k < 5) (X c : Int) (hX : 0 ≤ X) (hX' : X < 128 ^ k) : wrap64 (X + wrap64 (c % 128 * 2 ^ (7 * k))) = nxt k X c := by
  rw [wrap_part k hk c]
  have h := nxt_bd k hk X c hX hX'
  show wrap64 (nxt k X c) = _
  unfold wrap64; omega
theorem dropZ_at {zs : List Int} {j : Nat} (h : j < zs.length) : zs.drop j = zs[j]?.getD 0 :: zs.drop (j + 1) := by
  rw [List.drop_eq_getElem_cons h, List.getElem?_eq_getElem h]; rfl
section
variable {zs : List Int} {q k : Nat} {X c Y : Int} {r : Option (Int × Nat)}
theorem dg_more (hc : c = zs[q + k]?.getD 0) (hl : q + k < zs.length) (hk : k < 5) (h : r = dg (zs.drop (q + k)) k X) (hY : Y = nxt k X c) (h1 : 128 ≤ c) : r = dg (zs.drop (q + (k + 1))) (k + 1) Y := by
  rw [h, dropZ_at hl, ← hc, hY]; show (if k = 5 then _ else _) = _
  rw [if_neg (by omega), if_neg (by omega)]; rfl
theorem dg_bad (hc : c = zs[q + k]?.getD 0) (hl : q + k < zs.length) (h : r = dg (zs.drop (q + k)) k X) (hY : Y = nxt k X c) (h1 : c < 128) (h2 : (0 < k ∧ c = 0) ∨ 2147483647 < Y) : r = none := by
  rw [h, dropZ_at hl, ← hc]; show (if k = 5 then _ else _) = _
  split
  · rfl
  · rw [if_pos]; rw [hY] at h2; exact h2
theorem dg_good (hc : c = zs[q + k]?.getD 0) (hl : q + k < zs.length) (hk : k < 5) (h : r = dg (zs.drop (q + k)) k X) (hY : Y = nxt k X c) (h1 : c < 128) (h2 : ¬ ((0 < k ∧ c = 0) ∨ 2147483647 < Y)) : r = some (Y, k + 1) := by
  rw [h, dropZ_at hl, ← hc]; show (if k = 5 then _ else _) = _
  rw [if_neg (by omega), if_pos h1, if_neg]
  · rw [hY]; rfl
  · rw [hY] at h2; exact h2
theorem dg_end (hl : zs.length ≤ q + k) (h : r = dg (zs.drop (q + k)) k X) : r = none := by
  rw [h, List.drop_eq_nil_of_le hl]; rfl
theorem dg_five (h : r = dg (zs.drop (q + 5)) 5 X) : r = none := by
  rw [h]
  cases zs.drop (q + 5) with
  | nil => rfl
  | cons a l => rfl
end
theorem res_in (zs : List Int) (q : Nat) (h : q ≤ zs.length) : res zs (q : Int) = dg (zs.drop (q + 0)) 0 0 := by
  unfold res; rw [if_pos ⟨by omega, by omega⟩]; rfl
theorem res_out (zs : List Int) (p : Int) (h : ¬ (0 ≤ p ∧ p < zs.length)) : res zs p = none := by
  unfold res; split
  · rename_i h'
    have : p.toNat = zs.length := by omega
    rw [this, List.drop_length]; rfl
  · rfl
end Go.Proofs.Ytjndcfamfminkab
/- The walks through GetNum, the program's and the model's. No statement of the seat is proved here. -/
namespace Go.Proofs.Ytjndcfamfminkab
open Go.RowKit

theorem out_none {r : Option (Int × Nat)} (h : r = none) (p : Int) : Ending.returned (.tuple #[.int .i64 0, .int .i64 0, .bool false]) = .returned (out3 r p) := by rw [h]; rfl
theorem out_some {r : Option (Int × Nat)} {n m : Int} {u : Nat} {p : Int} (h : r = some (n, u)) (hm : m = p + u) : Ending.returned (.tuple #[.int .i64 n, .int .i64 m, .bool true]) = .returned (out3 r p) := by rw [h, hm]; rfl

end Go.Proofs.Ytjndcfamfminkab
/- The walks through readNum and GetNum of the program: what is no number panics inside and is recovered at the face. No statement of the seat is proved here. -/
namespace Go.Proofs.Ytjndcfamfminkab
open Go.RowKit

/-- The panic that says 'no number'. -/
def noNum : List PanicEntry := [{ v := .iface 9 (.string ⟨#[110, 111, 32, 110, 117, 109, 98, 101, 114]⟩), recovered := false }]
/-- How readNum ends: it returns the number and the place behind it, or it panics. -/
def outRead (r : Option (Int × Nat)) (p : Int) : Ending := match r with
  | none => .panicked noNum
  | some (n, u) => .returned (.tuple #[.int .i64 n, .int .i64 (p + u)])
theorem read_none {r : Option (Int × Nat)} (h : r = none) (p : Int) : Ending.panicked noNum = outRead r p := by rw [h]; rfl
theorem read_some {r : Option (Int × Nat)} {n m : Int} {u : Nat} {p : Int} (h : r = some (n, u)) (hm : m = p + u) : Ending.returned (.tuple #[.int .i64 n, .int .i64 m]) = outRead r p := by rw [h, hm]; rfl

set_option maxRecDepth 200000 in
theorem read_out (a : Option Addr) (len cap : Nat) (p : Int) (zs : List Int) (w : World) (hl : zs.length = len) (hp : ¬ (0 ≤ p ∧ p ≤ len)) :
    Calls Try.prog 146 #[.slice a len cap, .int .i64 p] w fun e w' => e = outRead (res zs p) p ∧ w' = w := by
  have HR : Hid (res zs p = none) := res_out zs p (by rw [hl]; omega)
  clear hl
  by_cases h0 : p < 0
  · clear hp
    go_enter Try.func146, Try.ntmps146
    go_wp2
    exact ⟨rfl, read_none HR.out p, rfl⟩
  · have h0' : decide (p < 0) = false := by simpa using h0
    have h1 : (len : Int) < p := by omega
    clear hp
    go_enter Try.func146, Try.ntmps146
    go_wp2
    exact ⟨rfl, read_none HR.out p, rfl⟩

set_option maxRecDepth 200000 in
set_option maxHeartbeats 800000 in
theorem read_in (b off len cap q : Nat) (zs : List Int) (w : World) (hl : zs.length = len) (hlen : len ≤ 1048576) (hcap : len ≤ cap) (hr : ∀ n ∈ zs, 0 ≤ n ∧ n ≤ 255)
    (hc : ∀ i, i < len → w.cell? ⟨b, off + i, none⟩ = some (.int .u8 (zs.getD i 0))) (hq : q < len) :
    Calls Try.prog 146 #[.slice (some ⟨b, off, none⟩) len cap, .int .i64 q] w fun e w' => e = outRead (res zs q) q ∧ w' = w := by
  have Hr : Hid (∀ n ∈ zs, 0 ≤ n ∧ n ≤ 255) := hr
  have HL : Hid (zs.length = len) := hl
  obtain ⟨r, hres⟩ : ∃ r, r = res zs q := ⟨_, rfl⟩
  rw [← hres]
  have H0 : Hid (r = dg (zs.drop (q + 0)) 0 0) := by rw [hres]; exact res_in zs q (by omega)
  have hd0 : decide ((q : Int) < 0) = false := by simp
  have hd1 : decide (len < q) = false := by simp; omega
  clear hr hl hres
  go_enter Try.func146, Try.ntmps146
  go_wp2
  clear hd0 hd1
  go_loop [6, 22] (fun s i => ∃ (k : Nat) (X : Int), k ≤ 5 ∧ k ≤ len - q ∧ i = .int .i64 k ∧ s = .int .i64 X ∧ 0 ≤ X ∧ Hid (k < 5 → X < 128 ^ k) ∧ Hid (r = dg (zs.drop (q + k)) k X)) (fun _ i => 5 - (intOf i).toNat)
  case atStart => exact ⟨0, 0, by omega, by omega, rfl, rfl, by omega, by show 0 < 5 → (0 : Int) < 128 ^ 0; decide, H0⟩
  case round =>
    obtain ⟨k, X, hk, hkl, rfl, rfl, hX, HX, HR⟩ := hrel
    clear H0
    by_cases hin : k < len - q
    · have hin' : q + k < len := by omega
      have hck := hc (q + k) hin'
      rw [← Nat.add_assoc] at hck
      have hb := getD_range Hr.out (q + k)
      obtain ⟨c, hce⟩ : ∃ c, c = zs[q + k]?.getD 0 := ⟨_, rfl⟩
      rw [List.getD_eq_getElem?_getD, ← hce] at hck
      rw [← hce] at hb
      have HC : Hid (c = zs[q + k]?.getD 0) := hce
      obtain ⟨hb0, hb1⟩ := hb
      have HinZ : Hid (q + k < zs.length) := by rw [HL.out]; exact hin'
      clear hce hc
      by_cases hk5 : k < 5
      · have hk5b : ((k : Int) == 5) = false := by simp; omega
        obtain ⟨Y, hYe⟩ : ∃ Y, Y = nxt k X c := ⟨_, rfl⟩
        have hor := add_nxt k hk5 X c hX (HX.out hk5)
        rw [← hYe] at hor
        have hYb := nxt_bd k hk5 X c hX (HX.out hk5)
        rw [← hYe] at hYb
        obtain ⟨hY0, hY1, hY2⟩ := hYb
        have HY1 : Hid (k + 1 < 5 → Y < 128 ^ (k + 1)) := fun _ => hY1
        have HY : Hid (Y = nxt k X c) := hYe
        clear hYe hY1
        by_cases h128 : c < 128
        · by_cases hk0 : 0 < k
          · by_cases hc0 : c = 0
            · have e2 : (c == 0) = true := by simp [hc0]
              have HN : Hid (r = none) := dg_bad HC.out HinZ.out HR.out HY.out h128 (.inl ⟨hk0, hc0⟩)
              clear hc0
              go_wp2
              exact ⟨rfl, read_none HN.out _, rfl⟩
            · have e2 : (c == 0) = false := by simp [hc0]
              by_cases hbig : 2147483647 < Y
              · have HN : Hid (r = none) := dg_bad HC.out HinZ.out HR.out HY.out h128 (.inr hbig)
                clear hc0
                go_wp2
                exact ⟨rfl, read_none HN.out _, rfl⟩
              · have HN : Hid (r = some (Y, k + 1)) := dg_good HC.out HinZ.out hk5 HR.out HY.out h128 (by omega)
                clear hc0
                go_wp2
                go_ret2
                exact ⟨read_some HN.out (by omega), rfl⟩
          · by_cases hbig : 2147483647 < Y
            · have HN : Hid (r = none) := dg_bad HC.out HinZ.out HR.out HY.out h128 (.inr hbig)
              go_wp2
              exact ⟨rfl, read_none HN.out _, rfl⟩
            · have HN : Hid (r = some (Y, k + 1)) := dg_good HC.out HinZ.out hk5 HR.out HY.out h128 (by omega)
              go_wp2
              go_ret2
              exact ⟨read_some HN.out (by omega), rfl⟩
        · have HN : Hid (r = dg (zs.drop (q + (k + 1))) (k + 1) Y) := dg_more HC.out HinZ.out hk5 HR.out HY.out (by omega)
          go_wp2
          go_round
          case rel => exact ⟨k + 1, Y, by omega, by omega, by go_num, by rw [hor], hY0, HY1, HN⟩
          case measure => simp [intOf]; omega
      · obtain rfl : k = 5 := by omega
        have HN : Hid (r = none) := dg_five HR.out
        go_wp2
        exact ⟨rfl, read_none HN.out _, rfl⟩
    · have HN : Hid (r = none) := dg_end (by rw [HL.out]; omega) HR.out
      go_wp2
      exact ⟨rfl, read_none HN.out _, rfl⟩

set_option maxRecDepth 200000 in
/-- Just behind the last byte, or at the one place of a slice without bytes. -/
theorem read_last (a : Option Addr) (len cap : Nat) (zs : List Int) (w : World) (hl : zs.length = len) (hlen : len ≤ 1048576) (hcap : len ≤ cap) (ha : a = none → cap = 0) :
    Calls Try.prog 146 #[.slice a len cap, .int .i64 len] w fun e w' => e = outRead (res zs len) len ∧ w' = w := by
  have HR : Hid (res zs (len : Int) = none) := res_out zs len (by rw [hl]; omega)
  have hd0 : decide ((len : Int) < 0) = false := by simp
  have hd1 : decide (len < len) = false := by simp
  clear hl
  cases a with
  | none =>
    obtain rfl : cap = 0 := ha rfl
    obtain rfl : len = 0 := by omega
    go_enter Try.func146, Try.ntmps146
    go_wp2
    refine wp_loop_rounds 1 ?_
    rw [rounds_succ]
    go_wp2
    exact ⟨rfl, read_none HR.out _, rfl⟩
  | some x =>
    go_enter Try.func146, Try.ntmps146
    go_wp2
    all_goals
      refine wp_loop_rounds 1 ?_
      rw [rounds_succ]
      go_wp2
      exact ⟨rfl, read_none HR.out _, rfl⟩

set_option maxRecDepth 200000 in
theorem read_any (a : Option Addr) (len cap : Nat) (p : Int) (zs : List Int) (w : World) (h : RdB w a len zs) (hlen : len ≤ 1048576) (hcap : len ≤ cap) (ha : a = none → cap = 0) :
    Calls Try.prog 146 #[.slice a len cap, .int .i64 p] w fun e w' => e = outRead (res zs p) p ∧ w' = w := by
  by_cases hp : 0 ≤ p ∧ p ≤ len
  · obtain ⟨q, rfl⟩ := Int.eq_ofNat_of_zero_le hp.1
    by_cases hq : q = len
    · subst hq
      exact read_last a q cap zs w h.length hlen hcap ha
    · rcases h.cells with h0 | ⟨b, off, rfl, hc⟩
      · omega
      · exact read_in b off len cap q zs w h.length hlen hcap h.range hc (by omega)
  · exact read_out a len cap p zs w h.length hp
/-- The deferred function, where the frame panics: the three results are laid anew. -/
theorem catch_panicking (p0 p1 p2 : Addr) (v0 v1 v2 : Value) (u : TypeId) (pv : Value) (older : List PanicEntry) (w : World)
    (h01 : ¬ p0 = p1) (h02 : ¬ p0 = p2) (h12 : ¬ p1 = p2)
    (hc0 : w.cell? p0 = some v0) (hz0 : w.frozen? p0 = false) (hc1 : w.cell? p1 = some v1) (hz1 : w.frozen? p1 = false) (hc2 : w.cell? p2 = some v2) (hz2 : w.frozen? p2 = false) :
    CallsD Try.prog 145 #[.pointer (some p0), .pointer (some p1), .pointer (some p2)] (.panicking ({ v := .iface u pv, recovered := false } :: older)) w fun e u' w' =>
      e = .returned (.tuple #[]) ∧ u' = .panicking ({ v := .iface u pv, recovered := true } :: older) ∧ w' = ((w.setCell p0 (.int .i64 0)).setCell p1 (.int .i64 0)).setCell p2 (.bool false) := by
  refine callsD_of_wpS Try.func145 rfl fun c₀ cs hu => ?_
  apply wpS_seq
  apply wpS_region
  simp [wpOpsS, go_sem, recoverD, hu, Try.ntmps145, Exit.thenS]
  refine wpS_cond (t := true) (by simp [Act.eval, Array.replicate]) ?_
  simp only [if_true]
  apply wpS_region
  simp [wpOpsS, go_sem, hc0, hz0, hc1, hz1, hc2, hz2, h01, h02, h12, bodyPostS, results, Try.results145]
theorem catch_idle (p0 p1 p2 : Addr) (w : World) :
    CallsD Try.prog 145 #[.pointer (some p0), .pointer (some p1), .pointer (some p2)] .returning w fun e u' w' => e = .returned (.tuple #[]) ∧ u' = .returning ∧ w' = w := by
  refine callsD_of_wpS Try.func145 rfl fun c₀ cs hu => ?_
  apply wpS_seq
  apply wpS_region
  simp [wpOpsS, go_sem, recoverD, hu, Try.ntmps145, Exit.thenS]
  refine wpS_cond (t := false) (by simp [Act.eval, Array.replicate]) ?_
  simp only [Bool.false_eq_true, if_false]
  refine wpS_of_wp (wp_skip ?_)
  cases c₀
  simp_all [bodyPostS, results, Try.results145]
end Go.Proofs.Ytjndcfamfminkab
/- The walk through the model's l7Get. No statement of the seat is proved here. -/
namespace Go.Proofs.Ytjndcfamfminkab
open Go.RowKit
/-- So many numbers, one behind the other, from that place on; and the place behind them. -/
def getTo (zs : List Int) (p : Int) : Nat → Option (List Int × Int)
  | 0 => some ([], p)
  | k + 1 => match getTo zs p k with
    | none => none
    | some (l, q) => match res zs q with
      | none => none
      | some (n, u) => some (l ++ [n], q + u)
theorem getTo_none {zs : List Int} {p : Int} {k : Nat} (h : getTo zs p k = none) : ∀ {m : Nat}, k ≤ m → getTo zs p m = none
  | 0, hm => by obtain rfl : k = 0 := by omega
                exact h
  | m + 1, hm => by
    by_cases e : k = m + 1
    · subst e; exact h
    · rw [getTo, getTo_none h (m := m) (by omega)]
theorem getTo_len {zs : List Int} {p : Int} : ∀ {k : Nat} {l : List Int} {q : Int}, getTo zs p k = some (l, q) → l.length = k
  | 0, l, q, h => by
    rw [getTo] at h
    cases h
    rfl
  | k + 1, l, q, h => by
    rw [getTo] at h
    split at h
    · cases h
    · rename_i l' q' e
      split at h
      · cases h
      · cases h
        rw [List.length_append, getTo_len e]
        rfl
theorem cell_one7 (w : World) (x : Value) (t : TypeId) : ∀ j u, [x][j]? = some u → (w.alloc (.cells #[x] t)).cell? ((⟨w.heap.size, 0, none⟩ : Addr).add j) = some u
  | 0, u, hx => by
    obtain rfl : x = u := by simpa using hx
    simp [Addr.add]
  | j + 1, u, hx => by simp at hx
end Go.Proofs.Ytjndcfamfminkab
/- The walk through the model's SketchBytes. No statement of the seat is proved here. -/
namespace Go.Proofs.Ytjndcfamfminkab
open Go.RowKit
def Sk.bytes (s : Sk) : List Int := if s.ok = true then putAll s.nums else []
end Go.Proofs.Ytjndcfamfminkab
/- The walks through the two check sums (the model's and the program's), through the copying and the comparing of byte slices. No statement of the seat is proved here. -/
namespace Go.Proofs.Ytjndcfamfminkab
open Go.RowKit

set_option maxRecDepth 100000 in
set_option maxHeartbeats 400000 in
theorem halved_any (x : Int) (w : World) (hx : W32 x) : Calls Try.prog 144 #[.int .u32 x] w fun e w' => e = .returned (.int .u32 (it32 8 x)) ∧ w' = w := by
  go_enter Try.func144, Try.ntmps144
  go_wp2
  go_loop [0, 4] (fun s i => ∃ (k : Nat) (y : Int), k ≤ 8 ∧ 0 ≤ y ∧ y < 4294967296 ∧ i = .int .i64 k ∧ s = .int .u32 y ∧ Hid (y = it32 k x)) (fun _ i => 8 - (intOf i).toNat)
  case atStart => exact ⟨0, x, by omega, hx.1, hx.2, rfl, rfl, rfl⟩
  case round =>
    obtain ⟨k, y, hk, hy0, hy1, rfl, rfl, HY⟩ := hrel
    by_cases hlt : k < 8
    · by_cases ho : y % 2 = 1
      · go_wp2
        go_round
        case rel => exact ⟨k + 1, _, by omega, (odd32 HY.out hy0 hy1 ho).1, (odd32 HY.out hy0 hy1 ho).2.1, by go_num, rfl, (odd32 HY.out hy0 hy1 ho).2.2⟩
        case measure => simp [intOf]; omega
      · have hob : (y % 2 == 1) = false := by simpa using ho
        go_wp2
        go_round
        case rel => exact ⟨k + 1, _, by omega, (even32 HY.out hy0 hy1 ho).1, (even32 HY.out hy0 hy1 ho).2.1, by go_num, rfl, (even32 HY.out hy0 hy1 ho).2.2⟩
        case measure => simp [intOf]; omega
    · obtain rfl : k = 8 := by omega
      go_wp2
      go_ret
      exact ⟨ret_int HY.out, rfl⟩

set_option maxRecDepth 100000 in
set_option maxHeartbeats 400000 in
theorem crcImpl_any (a : Option Addr) (len cap : Nat) (zs : List Int) (w : World) (h : RdB w a len zs) (hlen : len ≤ 1048576) :
    Calls Try.prog 119 #[.slice a len cap] w fun e w' => e = .returned (.int .i64 (bits .xor .i64 (crc64 zs) 4294967295)) ∧ w' = w := by
  rcases h.cells with h0 | ⟨b, off, rfl, hc⟩
  · subst h0
    have hz : zs = [] := List.eq_nil_of_length_eq_zero h.length
    subst hz
    clear h
    go_enter Try.func119, Try.ntmps119
    go_wp2
    refine wp_loop_rounds 1 ?_
    rw [rounds_succ]
    go_wp2
    go_ret
    exact ⟨ret_int (by decide +kernel), rfl⟩
  · have HL : Hid (zs.length = len) := h.length
    have Hr : Hid (∀ n ∈ zs, 0 ≤ n ∧ n ≤ 255) := h.range
    clear h
    go_enter Try.func119, Try.ntmps119
    go_wp2
    go_loop [3, 8] (fun s i => ∃ (k : Nat) (y : Int), k ≤ len ∧ i = .int .i64 k ∧ s = .int .u32 y ∧ Hid (y = crc32 (zs.take k))) (fun _ i => len - (intOf i).toNat)
    case atStart => exact ⟨0, _, by omega, rfl, rfl, rfl⟩
    case round =>
      obtain ⟨k, y, hk, rfl, rfl, HY⟩ := hrel
      by_cases hlt : k < len
      · have hck := hc k hlt
        have hb := getD_range Hr.out k
        have hy := crc_same _ (take_range Hr.out k)
        rw [← hy.1, ← HY.out] at hy
        obtain ⟨_, hy0, hy1⟩ := hy
        go_wp2_with (go_at_call 144; refine (halved_any _ _ (xor_w y _ ⟨hy0, hy1⟩ ⟨hb.1, by omega⟩)).mono ?_; rintro e w' ⟨rfl, rfl⟩)
        go_round
        case rel => exact ⟨k + 1, _, by omega, by go_num, rfl, step32 (by rw [HL.out]; exact hlt) HY.out⟩
        case measure => simp [intOf]; omega
      · obtain rfl : k = len := by omega
        have hy := crc_same _ (take_range Hr.out k)
        rw [← hy.1, ← HY.out] at hy
        obtain ⟨_, hy0, hy1⟩ := hy
        have hx := xor_w y 4294967295 ⟨hy0, hy1⟩ ⟨by decide, by decide⟩
        obtain ⟨hx0, hx1⟩ := hx
        go_wp2
        go_ret
        exact ⟨ret_int (by rw [HY.out, List.take_of_length_le (by rw [HL.out]; exact Nat.le_refl _)]; exact (end_same zs Hr.out).1), rfl⟩

end Go.Proofs.Ytjndcfamfminkab
/- The walk through the model's l7Sum. No statement of the seat is proved here. -/
namespace Go.Proofs.Ytjndcfamfminkab
open Go.RowKit
def crcOf (zs : List Int) : Int := bits .xor .i64 (crc64 zs) 4294967295
def sumOf (zs : List Int) : List Int := [crcOf zs / 16777216, crcOf zs / 65536 % 256, crcOf zs / 256 % 256, crcOf zs % 256]
theorem crcOf_range (zs : List Int) (h : ∀ x ∈ zs, 0 ≤ x ∧ x ≤ 255) : 0 ≤ crcOf zs ∧ crcOf zs < 4294967296 := (end_same zs h).2
end Go.Proofs.Ytjndcfamfminkab
/- What a right frame's numbers are, and its bytes. No statement of the seat is proved here. -/
namespace Go.Proofs.Ytjndcfamfminkab
open Go.RowKit
structure Fr.Right (x : Fr) : Prop where
  kind : 0 ≤ x.kind ∧ x.kind ≤ 3
  agent : 0 ≤ x.agent ∧ x.agent ≤ 2
  epoch : 0 ≤ x.epoch ∧ x.epoch ≤ 1000
  granted : 0 ≤ x.granted ∧ x.granted ≤ 60
  ok : x.taken.ok = true
  span : ∀ k, k < x.taken.length → 1 ≤ (x.taken.at k).1 ∧ (x.taken.at k).1 ≤ (x.taken.at k).2 ∧ (x.taken.at k).2 ≤ 60
  many : x.taken.length ≤ 30
  item : if x.kind = 1 then x.item.ok = true else x.item = It.zero
theorem Sp.taken_at {ps : Sp} (h : ps.taken = true) (k : Nat) (hk : k < ps.length) : 1 ≤ (ps.at k).1 ∧ (ps.at k).2 ≤ 60 := by
  unfold Sp.taken at h
  rw [List.all_eq_true] at h
  exact of_decide_eq_true (h k (List.mem_range.mpr hk))
theorem Sp.taken_lo {ps : Sp} (h : ps.ok = true) (ht : ps.taken = true) : ∀ k, k < ps.length → (2 * k + 1 : Int) ≤ (ps.at k).1
  | 0, hk => by have := Sp.taken_at ht 0 hk; omega
  | k + 1, hk => by
    have i := Sp.taken_lo h ht k (by omega)
    have a := (Sp.okAt_parts (Sp.ok_at h k (by omega))).1
    have b := (Sp.okAt_parts (Sp.ok_at h (k + 1) hk)).2 (by omega)
    rw [Nat.add_sub_cancel] at b
    omega
theorem Sp.taken_many {ps : Sp} (h : ps.ok = true) (ht : ps.taken = true) : ps.length ≤ 30 := by
  by_cases q : ps.length ≤ 30
  · exact q
  · have a := Sp.taken_lo h ht 30 (by omega)
    have b := Sp.taken_at ht 30 (by omega)
    have c := (Sp.okAt_parts (Sp.ok_at h 30 (by omega))).1
    omega
theorem Fr.ok_right {x : Fr} (h : x.ok = true) : x.Right := by
  unfold Fr.ok at h
  simp only [Bool.and_eq_true, decide_eq_true_eq] at h
  obtain ⟨⟨⟨⟨⟨⟨h1, h2⟩, h3⟩, h4⟩, h5⟩, h6⟩, h7⟩ := h
  refine ⟨h1, h2, h3, h4, h5, fun k hk => ?_, Sp.taken_many h5 h6, ?_⟩
  · have a := Sp.taken_at h6 k hk
    have b := (Sp.okAt_parts (Sp.ok_at h5 k hk)).1
    exact ⟨a.1, b.2.1, a.2⟩
  · by_cases q : x.kind = 1
    · rw [if_pos q] at h7 ⊢
      exact h7
    · rw [if_neg q] at h7 ⊢
      exact of_decide_eq_true h7
def Fr.bodyTo (x : Fr) (k : Nat) : List Int := [87, 82] ++ putAll [x.kind, x.agent, x.epoch, x.granted, (x.taken.length : Int)] ++ putAll (flat (x.taken.take k))
def Fr.body (x : Fr) : List Int := [87, 82] ++ putAll [x.kind, x.agent, x.epoch, x.granted, (x.taken.length : Int)] ++ putAll (flat x.taken) ++ (if x.kind = 1 then putAll [x.item.seq, x.item.cls, x.item.key, x.item.window] ++ x.item.sk.bytes else [])
def Fr.bytes (x : Fr) : List Int := if x.ok = true then x.body ++ sumOf x.body else []
theorem bodyTo_succ {x : Fr} {k : Nat} (hk : k < x.taken.length) : x.bodyTo (k + 1) = x.bodyTo k ++ putAll [(x.taken.at k).1, (x.taken.at k).2] := by
  unfold Fr.bodyTo
  rw [show x.taken.take (k + 1) = x.taken.take k ++ [x.taken.at k] from by rw [List.take_add_one, List.getElem?_eq_getElem hk]; simp [Sp.at, List.getElem?_eq_getElem hk], flat_append, putAll_app]
  simp [flat]
theorem bodyTo_len (x : Fr) (k : Nat) : (x.bodyTo k).length ≤ 27 + 10 * k := by
  unfold Fr.bodyTo
  have a := putAll_len [x.kind, x.agent, x.epoch, x.granted, (x.taken.length : Int)]
  have b := putAll_len (flat (x.taken.take k))
  rw [flat_length, List.length_take] at b
  simp only [List.length_append, List.length_cons, List.length_nil] at a ⊢
  omega
theorem Sk.bytes_len (s : Sk) : s.bytes.length ≤ 140 := by
  unfold Sk.bytes
  split
  · rename_i h
    have l := (Sk.ok_lens h).1
    have a := putAll_len s.nums
    have e : s.numsTo 2 = s.nums := by
      unfold Sk.numsTo Sk.nums
      rw [List.take_of_length_le (by rw [l.rows]; omega)]
    rw [← e, numsTo_len l (by omega)] at a
    rw [← e]
    omega
  · simp
theorem Sk.bytes_range (s : Sk) : ∀ x ∈ s.bytes, 0 ≤ x ∧ x ≤ 255 := by
  unfold Sk.bytes
  split
  · exact putAll_range _
  · intro x hx; cases hx
theorem Fr.body_range (x : Fr) : ∀ y ∈ x.body, 0 ≤ y ∧ y ≤ 255 := by
  intro y hy
  unfold Fr.body at hy
  simp only [List.mem_append, List.mem_cons, List.not_mem_nil, or_false] at hy
  rcases hy with ((hy | hy) | hy) | hy
  · rcases hy with rfl | rfl <;> omega
  · exact putAll_range _ y hy
  · exact putAll_range _ y hy
  · split at hy
    · rcases List.mem_append.1 hy with hy | hy
      · exact putAll_range _ y hy
      · exact Sk.bytes_range _ y hy
    · cases hy
theorem Fr.body_len {x : Fr} (h : x.Right) : x.body.length ≤ 487 := by
  have a := bodyTo_len x x.taken.length
  have b := putAll_len [x.item.seq, x.item.cls, x.item.key, x.item.window]
  have c := x.item.sk.bytes_len
  have d := h.many
  have e : x.body = x.bodyTo x.taken.length ++ (if x.kind = 1 then putAll [x.item.seq, x.item.cls, x.item.key, x.item.window] ++ x.item.sk.bytes else []) := by
    unfold Fr.body Fr.bodyTo
    rw [List.take_length]
  rw [e, List.length_append]
  simp only [List.length_cons, List.length_nil] at b
  split
  · rw [List.length_append]; omega
  · simp only [List.length_nil]; omega
end Go.Proofs.Ytjndcfamfminkab
/- The walk through the model's l7Body. No statement of the seat is proved here. -/
namespace Go.Proofs.Ytjndcfamfminkab
open Go.RowKit
theorem rd_lit7 (w : World) (zs : List Int) (t : TypeId) (hz : 0 < zs.length) : RdI (w.alloc (.cells (zs.map (Value.int .i64)).toArray t)) (some ⟨w.heap.size, 0, none⟩) zs.length zs [w.heap.size] :=
  ⟨rfl, .inr ⟨w.heap.size, 0, hz, rfl, rfl, fun i hi => by rw [Nat.zero_add, (Blk.made w _ t).cell i]; simp [hi]⟩⟩
theorem putAll_pos {a : Int} {l : List Int} (h : InN a) : 0 < (putAll (a :: l)).length := by
  have e : putAll (a :: l) = encOf a ++ putAll l := by simp [putAll]
  have p := encOf_pos h
  rw [e, List.length_append]
  omega
/-- Bytes that grow beside a box. -/
structure ByteSt (w : World) (cs : Array Value) (t : TypeId) (v : Value) (xs : List Int) (W : World) : Prop where
  box : Blk W w.heap.size cs t
  own : W.ownsRow (w.heap.size + 1) 5 1 v xs.length (xs.map (Value.int .u8))
  bel : Below w.heap.size w W
theorem ByteSt.size {w W : World} {cs : Array Value} {t : TypeId} {v : Value} {xs : List Int} (h : ByteSt w cs t v xs W) : w.heap.size + 1 ≤ W.heap.size := h.box.lt
theorem ByteSt.below {w W W' : World} {cs : Array Value} {t : TypeId} {v : Value} {xs : List Int} (h : ByteSt w cs t v xs W) (b : Below W.heap.size W W') : ByteSt w cs t v xs W' := ⟨h.box.below b, ownsRow_below h.own b, Below.next h.bel b⟩
theorem ByteSt.app {w W W' : World} {cs : Array Value} {t : TypeId} {v v' : Value} {xs ys : List Int} {m : Nat} (h : ByteSt w cs t v xs W) (hm : ys.length = m) (hown : W'.ownsRow (w.heap.size + 1) 5 1 v' (xs.length + m) (xs.map (Value.int .u8) ++ ys.map (Value.int .u8))) (hg : W.grownBy W' v.ownBlock) : ByteSt w cs t v' (xs ++ ys) W' := by
  have b : Below (w.heap.size + 1) W W' := (Below.refl _ _).grown hg h.size (fun g e => (h.own.lt g e).1)
  refine ⟨h.box.agree (b.block _ (Nat.lt_succ_self _)), ?_, h.bel.trans (b.mono (by omega))⟩
  rw [List.length_append, List.map_append, hm]
  exact hown
def BoxS (w : World) (A : Array Value) (t : TypeId) (W : World) : Prop := Blk W w.heap.size A t ∧ Below w.heap.size w W
theorem boxS_below {w : World} {A : Array Value} {t : TypeId} {W W' : World} (h : BoxS w A t W) (b : Below W.heap.size W W') : BoxS w A t W' := ⟨h.1.below b, Below.next h.2 b⟩
theorem lead7 (w : World) (A C : Array Value) (t e : TypeId) (m : Nat × Nat) (o : Obj) : BoxS w A t (((w.alloc (.cells A t)).alloc (.cells C e m)).alloc o) ∧ ∀ j, (((w.alloc (.cells A t)).alloc (.cells C e m)).alloc o).cell? ⟨w.heap.size + 1, j, none⟩ = C[j]? := by
  have b1 : Below (w.alloc (.cells A t)).heap.size (w.alloc (.cells A t)) ((w.alloc (.cells A t)).alloc (.cells C e m)) := (Below.refl _ _).alloc (Nat.le_refl _) _
  have b2 : Below ((w.alloc (.cells A t)).alloc (.cells C e m)).heap.size ((w.alloc (.cells A t)).alloc (.cells C e m)) (((w.alloc (.cells A t)).alloc (.cells C e m)).alloc o) := (Below.refl _ _).alloc (Nat.le_refl _) _
  have s1 : BoxS w A t (w.alloc (.cells A t)) := ⟨Blk.made _ _ _, (Below.refl _ _).alloc (Nat.le_refl _) _⟩
  refine ⟨boxS_below (boxS_below s1 b1) b2, fun j => ?_⟩
  have hs : (w.alloc (.cells A t)).heap.size = w.heap.size + 1 := by simp
  have hg : ((w.alloc (.cells A t)).alloc (.cells C e m)).heap[w.heap.size + 1]? = some (.cells C e m) := by rw [← hs]; exact heap_alloc_new _ _
  have hk := b2.block (w.heap.size + 1) (by simp)
  rw [hg] at hk
  simp only [World.cell?, hk]
  rfl
end Go.Proofs.Ytjndcfamfminkab
/- The walk through the helper of the laws that compares two byte slices. No statement of the seat is proved here. -/
namespace Go.Proofs.Ytjndcfamfminkab
open Go.RowKit

theorem eq_step {xs ys : List Int} {k : Nat} (hl : xs.length = ys.length) (hk : k < xs.length) (h : xs.take k = ys.take k) (he : xs[k]?.getD 0 = ys[k]?.getD 0) : xs.take (k + 1) = ys.take (k + 1) := by
  rw [take_succ' xs k hk, take_succ' ys k (by omega), h, he]
theorem ne_of_at {xs ys : List Int} {k : Nat} (he : ¬ xs[k]?.getD 0 = ys[k]?.getD 0) : decide (xs = ys) = false := by
  rw [decide_eq_false_iff_not]; intro e; subst e; exact he rfl
theorem eq_end {xs ys : List Int} {k : Nat} (hx : xs.length = k) (hy : ys.length = k) (h : xs.take k = ys.take k) : decide (xs = ys) = true := by
  rw [decide_eq_true_iff]
  rw [List.take_of_length_le (Nat.le_of_eq hx), List.take_of_length_le (Nat.le_of_eq hy)] at h
  exact h


theorem rd_own {w : World} {base n : Nat} {v : Value} {xs : List Int} (h : w.ownsRow base 5 1 v n (xs.map (Value.int .u8))) (hr : ∀ x ∈ xs, 0 ≤ x ∧ x ≤ 255) : ∃ a cap, v = .slice a n cap ∧ RdB w a n xs := by
  rcases h.2 with ⟨h1, h2⟩ | ⟨g, cap, cur, h1, _⟩
  · subst h2
    have : xs = [] := List.eq_nil_of_length_eq_zero (by simpa using h.1)
    subst this
    exact ⟨none, 0, h1, RdB.nil⟩
  · subst h1
    exact ⟨_, cap, rfl, RdB.of_own h hr⟩
end Go.Proofs.Ytjndcfamfminkab
/- The walk through the model's FrameBytes. No statement of the seat is proved here. -/
namespace Go.Proofs.Ytjndcfamfminkab
open Go.RowKit
theorem sumOf_len (zs : List Int) : (sumOf zs).length = 4 := rfl
theorem sumOf_range (zs : List Int) (h : ∀ x ∈ zs, 0 ≤ x ∧ x ≤ 255) : ∀ x ∈ sumOf zs, 0 ≤ x ∧ x ≤ 255 := by
  intro x hx
  have r := crcOf_range zs h
  unfold sumOf at hx
  simp only [List.mem_cons, List.not_mem_nil, or_false] at hx
  rcases hx with rfl | rfl | rfl | rfl <;> omega
theorem Fr.bytes_range (x : Fr) : ∀ y ∈ x.bytes, 0 ≤ y ∧ y ≤ 255 := by
  unfold Fr.bytes
  split
  · intro y hy
    rcases List.mem_append.1 hy with hy | hy
    · exact x.body_range y hy
    · exact sumOf_range _ x.body_range y hy
  · intro y hy; cases hy
theorem Fr.bytes_len (x : Fr) : x.bytes.length ≤ 491 := by
  unfold Fr.bytes
  split
  · rename_i h
    have := Fr.body_len (Fr.ok_right h)
    rw [List.length_append, sumOf_len]
    omega
  · simp
end Go.Proofs.Ytjndcfamfminkab
/- What is written is read as it was: the numbers of a frame. No statement of the seat is proved here. -/
namespace Go.Proofs.Ytjndcfamfminkab
open Go.RowKit
theorem dg_enc7 (m : Nat) : ∀ (k : Nat) (X : Int) (rest : List Int), k + (encN m).length ≤ 5 → (k = 0 ∨ 0 < m) → X + (m : Int) * 128 ^ k ≤ 2147483647 → dg (encN m ++ rest) k X = some (X + (m : Int) * 128 ^ k, k + (encN m).length) := by
  induction m using encN.induct with
  | case1 m h =>
    intro k X rest hk h0 hm
    rw [encN_small m h] at hk ⊢
    have e : (m : Int) % 128 = m := by omega
    simp only [List.cons_append, List.nil_append, dg, e]
    rw [if_neg (by simp at hk; omega), if_pos (by omega), if_neg (by omega)]
    rfl
  | case2 m h ih =>
    intro k X rest hk h0 hm
    rw [encN_big m h] at hk ⊢
    simp only [List.length_cons] at hk
    have e1 : ((m : Int) % 128 + 128) % 128 = (m : Int) % 128 := by omega
    have e2 : X + (m : Int) % 128 * 128 ^ k + ((m / 128 : Nat) : Int) * 128 ^ (k + 1) = X + (m : Int) * 128 ^ k := by
      have : (m : Int) = (m : Int) % 128 + 128 * ((m / 128 : Nat) : Int) := by omega
      rw [Int.pow_succ]
      generalize (128 : Int) ^ k = p
      generalize ((m / 128 : Nat) : Int) = d at *
      generalize (m : Int) % 128 = c at *
      rw [this, Int.add_mul, Int.mul_comm p 128, ← Int.mul_assoc, Int.mul_comm d 128]
      omega
    simp only [List.cons_append, dg, e1]
    rw [if_neg (by omega), if_neg (by omega)]
    rw [ih (k + 1) _ rest (by omega) (.inr (by omega)) (by rw [e2]; exact hm), e2]
    simp only [List.length_cons]
    congr 2; omega
theorem res_enc7 (pre rest : List Int) (n : Int) (h0 : 0 ≤ n) (h1 : n ≤ 2147483647) : res (pre ++ encOf n ++ rest) (pre.length : Int) = some (n, (encOf n).length) := by
  obtain ⟨m, rfl⟩ := Int.eq_ofNat_of_zero_le h0
  have e : encOf (m : Int) = encN m := by rw [encOf, if_pos ⟨h0, h1⟩]; rfl
  rw [e]
  unfold res
  rw [if_pos ⟨by omega, by simp; omega⟩]
  rw [show ((pre.length : Int)).toNat = pre.length by omega, List.append_assoc, List.drop_left]
  have hl := encN_len m (by omega)
  have := dg_enc7 m 0 0 rest (by omega) (.inl rfl) (by omega)
  rw [this]
  simp

theorem getTo_putAll (pre : List Int) : ∀ (zs rest : List Int), (∀ z ∈ zs, InN z) → ∀ k, k ≤ zs.length → getTo (pre ++ putAll zs ++ rest) (pre.length : Int) k = some (zs.take k, (pre.length : Int) + ((putAll (zs.take k)).length : Int))
  | zs, rest, hz, 0, _ => by simp [getTo, putAll]
  | zs, rest, hz, k + 1, hk => by
    have hkl : k < zs.length := by omega
    rw [getTo, getTo_putAll pre zs rest hz k (by omega)]
    have e0 : zs = zs.take k ++ zs.getD k 0 :: zs.drop (k + 1) := by
      rw [List.getD_eq_getElem?_getD, List.getElem?_eq_getElem hkl]
      simp
    have e : pre ++ putAll zs ++ rest = (pre ++ putAll (zs.take k)) ++ encOf (zs.getD k 0) ++ (putAll (zs.drop (k + 1)) ++ rest) := by
      conv => lhs; rw [e0]
      rw [putAll_app]
      simp [putAll]
    have hi := hz _ (mem_getD (d := 0) hkl)
    have r := res_enc7 (pre ++ putAll (zs.take k)) (putAll (zs.drop (k + 1)) ++ rest) (zs.getD k 0) hi.1 hi.2
    rw [← e, List.length_append, Int.natCast_add] at r
    simp only
    rw [r]
    simp only
    rw [putAll_take zs k hkl, List.length_append, take_snoc zs 0 k hkl, Int.natCast_add, Int.add_assoc]
/-- All of them. -/
theorem getTo_all (pre zs rest : List Int) (hz : ∀ z ∈ zs, InN z) {m : Nat} (hm : zs.length = m) : getTo (pre ++ putAll zs ++ rest) (pre.length : Int) m = some (zs, (pre.length : Int) + ((putAll zs).length : Int)) := by
  have e := getTo_putAll pre zs rest hz m (by omega)
  rw [List.take_of_length_le (by omega)] at e
  exact e
end Go.Proofs.Ytjndcfamfminkab
/- What is read is what was written: numbers out of their bytes. No statement of the seat is proved here. -/
namespace Go.Proofs.Ytjndcfamfminkab
open Go.RowKit
theorem dg_inv : ∀ (zs : List Int) (k : Nat) (X n : Int) (u : Nat), (∀ x ∈ zs, 0 ≤ x ∧ x ≤ 255) → dg zs k X = some (n, u) → ∃ m : Nat, n = X + (m : Int) * 128 ^ k ∧ u = k + (encN m).length ∧ zs.take (encN m).length = encN m ∧ (k = 0 ∨ 0 < m) ∧ n ≤ 2147483647
  | [], k, X, n, u, _, h => by simp [dg] at h
  | c :: r, k, X, n, u, hz, h => by
    have hc := hz c (List.mem_cons_self ..)
    obtain ⟨d, rfl⟩ := Int.eq_ofNat_of_zero_le hc.1
    rw [dg] at h
    by_cases h5 : k = 5
    · rw [if_pos h5] at h; cases h
    rw [if_neg h5] at h
    by_cases h1 : (d : Int) < 128
    · rw [if_pos h1] at h
      by_cases h2 : (0 < k ∧ (d : Int) = 0) ∨ 2147483647 < X + (d : Int) % 128 * 128 ^ k
      · rw [if_pos h2] at h; cases h
      · rw [if_neg h2] at h
        have e : (d : Int) % 128 = d := by omega
        rw [e] at h h2
        cases h
        refine ⟨d, rfl, ?_, ?_, ?_, ?_⟩
        · rw [encN_small d (by omega)]; rfl
        · rw [encN_small d (by omega)]; rfl
        · by_cases q : k = 0
          · exact .inl q
          · refine .inr ?_
            by_cases z : d = 0
            · exact absurd (.inl ⟨by omega, by omega⟩) h2
            · omega
        · exact Int.not_lt.1 (fun q => h2 (.inr q))
    · rw [if_neg h1] at h
      obtain ⟨m, e1, e2, e3, e4, e5⟩ := dg_inv r (k + 1) _ n u (fun x hx => hz x (List.mem_cons_of_mem _ hx)) h
      have hm : 0 < m := by rcases e4 with q | q; omega; exact q
      have hd : (d : Int) % 128 = (d : Int) - 128 := by omega
      have hM : encN ((d - 128) + 128 * m) = (d : Int) :: encN m := by
        rw [encN_big _ (by omega)]
        congr 1
        · omega
        · congr 1; omega
      refine ⟨(d - 128) + 128 * m, ?_, ?_, ?_, .inr (by omega), e5⟩
      · rw [e1, hd, Int.pow_succ]
        have e : (((d - 128) + 128 * m : Nat) : Int) = ((d : Int) - 128) + 128 * (m : Int) := by omega
        rw [e]
        generalize (128 : Int) ^ k = p
        rw [Int.add_mul, Int.mul_comm p 128, ← Int.mul_assoc, Int.mul_comm (m : Int) 128, Int.add_assoc]
      · rw [hM, List.length_cons, e2]; omega
      · rw [hM, List.length_cons, List.take_succ_cons, e3]
theorem res_inv {zs : List Int} {p n : Int} {u : Nat} (hz : ∀ x ∈ zs, 0 ≤ x ∧ x ≤ 255) (h : res zs p = some (n, u)) : 0 ≤ p ∧ InN n ∧ u = (encOf n).length ∧ p.toNat + u ≤ zs.length ∧ (zs.drop p.toNat).take u = encOf n := by
  unfold res at h
  by_cases hp : 0 ≤ p ∧ p ≤ zs.length
  · rw [if_pos hp] at h
    obtain ⟨m, e1, e2, e3, _, e5⟩ := dg_inv _ 0 0 n u (fun x hx => hz x (List.mem_of_mem_drop hx)) h
    have en : n = m := by rw [e1, Int.pow_zero]; omega
    have hN : InN n := ⟨by omega, e5⟩
    have ee : encOf n = encN m := by
      unfold encOf
      rw [if_pos (show 0 ≤ n ∧ n ≤ 2147483647 from hN), en, Int.toNat_natCast]
    refine ⟨hp.1, hN, by rw [ee]; omega, ?_, by rw [ee, e2, Nat.zero_add]; exact e3⟩
    have l := congrArg List.length e3
    rw [List.length_take, List.length_drop] at l
    omega
  · rw [if_neg hp] at h; cases h
theorem getTo_inv {zs : List Int} (hz : ∀ x ∈ zs, 0 ≤ x ∧ x ≤ 255) {p : Nat} (hp : p ≤ zs.length) : ∀ {k : Nat} {l : List Int} {q : Int}, getTo zs p k = some (l, q) → (∀ x ∈ l, InN x) ∧ q = ((p + (putAll l).length : Nat) : Int) ∧ p + (putAll l).length ≤ zs.length ∧ (zs.drop p).take (putAll l).length = putAll l
  | 0, l, q, h => by
    rw [getTo] at h
    cases h
    refine ⟨(fun x hx => by cases hx), (by simp [putAll]), (by simpa [putAll] using hp), (by simp [putAll])⟩
  | k + 1, l, q, h => by
    rw [getTo] at h
    split at h
    · cases h
    · rename_i l' q' e
      obtain ⟨i1, i2, i3, i4⟩ := getTo_inv hz hp e
      split at h
      · cases h
      · rename_i n u e'
        cases h
        obtain ⟨_, r2, r3, r4, r5⟩ := res_inv hz e'
        have ep : putAll (l' ++ [n]) = putAll l' ++ encOf n := by rw [putAll_app]; simp [putAll]
        have eq : q'.toNat = p + (putAll l').length := by omega
        rw [eq] at r4 r5
        rw [ep, List.length_append, ← r3]
        refine ⟨?_, by omega, by omega, ?_⟩
        · intro x hx
          rcases List.mem_append.1 hx with hx | hx
          · exact i1 x hx
          · obtain rfl : x = n := by simpa using hx
            exact r2
        · rw [List.take_add, i4, List.drop_drop, r5]
theorem putAll_nil_of {l : List Int} (h : ∀ x ∈ l, InN x) (e : (putAll l).length = 0) : l = [] := by
  cases l with
  | nil => rfl
  | cons a l =>
    have q := encOf_pos (h a (List.mem_cons_self ..))
    have : putAll (a :: l) = encOf a ++ putAll l := by simp [putAll]
    rw [this, List.length_append] at e
    omega
/-- Reading from the front: all of them. -/
theorem getTo_front (l rest : List Int) (h : ∀ x ∈ l, InN x) {m : Nat} (hm : l.length = m) : getTo (putAll l ++ rest) 0 m = some (l, ((putAll l).length : Int)) := by
  have e := getTo_all [] l rest h hm
  simpa using e
theorem putAll_inj {l m : List Int} (hl : ∀ x ∈ l, InN x) (hm : ∀ x ∈ m, InN x) (e : putAll l = putAll m) : l = m := by
  rcases Nat.le_total l.length m.length with q | q
  · have a := getTo_putAll [] m [] hm l.length q
    have b := getTo_front l [] hl rfl
    simp only [List.nil_append, List.append_nil, List.length_nil] at a b
    rw [← e] at a
    have c := a.symm.trans b
    simp only [Option.some.injEq, Prod.mk.injEq] at c
    obtain ⟨c1, c2⟩ := c
    have d : putAll m = putAll (m.take l.length) ++ putAll (m.drop l.length) := by rw [← putAll_app, List.take_append_drop]
    have f : (putAll (m.drop l.length)).length = 0 := by
      have := congrArg List.length d
      rw [List.length_append, ← e, c1] at this
      omega
    have g := putAll_nil_of (fun x hx => hm x (List.mem_of_mem_drop hx)) f
    rw [← List.take_append_drop l.length m, g, c1, List.append_nil]
  · have a := getTo_putAll [] l [] hl m.length q
    have b := getTo_front m [] hm rfl
    simp only [List.nil_append, List.append_nil, List.length_nil] at a b
    rw [e] at a
    have c := a.symm.trans b
    simp only [Option.some.injEq, Prod.mk.injEq] at c
    obtain ⟨c1, c2⟩ := c
    have d : putAll l = putAll (l.take m.length) ++ putAll (l.drop m.length) := by rw [← putAll_app, List.take_append_drop]
    have f : (putAll (l.drop m.length)).length = 0 := by
      have := congrArg List.length d
      rw [List.length_append, e, c1] at this
      omega
    have g := putAll_nil_of (fun x hx => hl x (List.mem_of_mem_drop hx)) f
    rw [← List.take_append_drop m.length l, g, c1, List.append_nil]
/-- These bytes are those numbers, and nothing else; or they are no numbers. -/
def AllIs (zs l : List Int) (d : Bool) : Prop := if d = true then zs = putAll l ∧ ∀ x ∈ l, InN x else l = [] ∧ ∀ m, (∀ x ∈ m, InN x) → zs ≠ putAll m
theorem all_here {zs l : List Int} (hz : ∀ x ∈ zs, 0 ≤ x ∧ x ≤ 255) {k : Nat} (h : getTo zs 0 k = some (l, (zs.length : Int))) : AllIs zs l true := by
  obtain ⟨h1, h2, _, h4⟩ := getTo_inv (p := 0) hz (Nat.zero_le _) (by simpa using h)
  rw [List.drop_zero] at h4
  refine (if_pos rfl).mpr ⟨?_, h1⟩
  rw [List.take_of_length_le (by omega)] at h4
  exact h4
theorem res_end (zs : List Int) : res zs (zs.length : Int) = none := by
  unfold res
  rw [if_pos ⟨by omega, by omega⟩, Int.toNat_natCast, List.drop_length]
  rfl
theorem all_none {zs l : List Int} {k : Nat} {q : Int} (h : getTo zs 0 k = some (l, q)) (hr : res zs q = none) (hq : ¬ q = zs.length) : AllIs zs [] false := by
  refine (if_neg (by simp)).mpr ⟨rfl, fun m hm e => ?_⟩
  have a := getTo_front m [] hm rfl
  rw [List.append_nil, ← e] at a
  rcases Nat.lt_trichotomy m.length k with q1 | q1 | q1
  · have b : getTo zs 0 (m.length + 1) = none := by rw [getTo, a]; simp only; rw [res_end]
    rw [getTo_none b (by omega)] at h
    cases h
  · rw [q1, h] at a
    cases a
    exact hq rfl
  · have b : getTo zs 0 (k + 1) = none := by rw [getTo, h]; simp only; rw [hr]
    rw [getTo_none b (by omega)] at a
    cases a
/-! ### summaries -/
def SkIs (zs : List Int) (s : Sk) (d : Bool) : Prop := if d = true then s.ok = true ∧ zs = s.bytes else s = Sk.zero ∧ ∀ t : Sk, t.ok = true → zs ≠ t.bytes
theorem Sk.nums_len {s : Sk} (h : s.lens7) : s.nums.length = 28 := by
  have e : s.numsTo 2 = s.nums := by
    unfold Sk.numsTo Sk.nums
    rw [List.take_of_length_le (by rw [h.rows]; omega)]
  rw [← e, numsTo_len h (by omega)]
theorem Sk.bytes_ok {s : Sk} (h : s.ok = true) : s.bytes = putAll s.nums := by unfold Sk.bytes; rw [if_pos h]
end Go.Proofs.Ytjndcfamfminkab
/- What is read is what was written: summaries and frames out of their numbers. No statement of the seat is proved here. -/
namespace Go.Proofs.Ytjndcfamfminkab
open Go.RowKit
theorem skOf_lens {l : List Int} (h : l.length = 28) : (skOf l).lens7 := by
  refine ⟨by simp [skOf]; omega, by simp [skOf]; omega, rfl, fun z hz => ?_⟩
  simp only [skOf, List.mem_cons, List.not_mem_nil, or_false] at hz
  rcases hz with rfl | rfl <;> (simp; omega)
theorem skOf_nums {l : List Int} (h : l.length = 28) : (skOf l).nums = l := by
  unfold Sk.nums skOf
  conv => rhs; rw [split28 h]
  have e : (l.drop 20).take 8 = (l.drop 20).take 4 ++ (l.drop 24).take 4 := by
    rw [show (8 : Nat) = 4 + 4 from rfl, List.take_add, List.drop_drop]
  rw [e]
  simp
theorem nums_skOf {s : Sk} (h : s.lens7) : skOf s.nums = s := by
  obtain ⟨c, u, mi, ma, hi, re, ro⟩ := s
  obtain ⟨h1, h2, h3, h4⟩ := h
  simp only at h1 h2 h3 h4
  match hi, re, ro, h1, h2, h3, h4 with
  | [_, _, _, _, _, _, _, _], [_, _, _, _, _, _, _, _], [r1, r2], _, _, _, h4 =>
    have q1 := h4 r1 (by simp)
    have q2 := h4 r2 (by simp)
    match r1, r2, q1, q2 with
    | [_, _, _, _], [_, _, _, _], _, _ => rfl
theorem Sk.nums_inj {s t : Sk} (hs : s.lens7) (ht : t.lens7) (e : s.nums = t.nums) : s = t := by rw [← nums_skOf hs, ← nums_skOf ht, e]
theorem Sk.bytes_inj {s t : Sk} (hs : s.ok = true) (ht : t.ok = true) (e : s.bytes = t.bytes) : s = t := by
  rw [Sk.bytes_ok hs, Sk.bytes_ok ht] at e
  exact Sk.nums_inj (Sk.ok_lens hs).1 (Sk.ok_lens ht).1 (putAll_inj (Sk.ok_lens hs).2 (Sk.ok_lens ht).2 e)
theorem SkIs.unique {zs : List Int} {s t : Sk} {c d : Bool} (h : SkIs zs s c) (k : SkIs zs t d) : s = t ∧ c = d := by
  unfold SkIs at h k
  cases c <;> cases d <;> simp only [if_true, Bool.false_eq_true, if_false] at h k
  · exact ⟨h.1.trans k.1.symm, rfl⟩
  · exact absurd k.2 (h.2 t k.1)
  · exact absurd h.2 (k.2 s h.1)
  · exact ⟨Sk.bytes_inj h.1 k.1 (h.2.symm.trans k.2), rfl⟩
theorem skIs_yes {zs l : List Int} (hl : l.length = 28) (he : zs = putAll l) (hok : (skOf l).ok = true) : SkIs zs (skOf l) true :=
  (if_pos rfl).mpr ⟨hok, by rw [Sk.bytes_ok hok, skOf_nums hl]; exact he⟩
theorem skIs_bad {zs l : List Int} (hn : ∀ x ∈ l, InN x) (he : zs = putAll l) (hok : (skOf l).ok = false) : SkIs zs Sk.zero false := by
  refine (if_neg (by simp)).mpr ⟨rfl, fun t ht e => ?_⟩
  rw [he, Sk.bytes_ok ht] at e
  have := putAll_inj hn (Sk.ok_lens ht).2 e
  rw [this, nums_skOf (Sk.ok_lens ht).1, ht] at hok
  cases hok
theorem skIs_long {zs l : List Int} (hl : ¬ l.length = 28) (hn : ∀ x ∈ l, InN x) (he : zs = putAll l) : SkIs zs Sk.zero false := by
  refine (if_neg (by simp)).mpr ⟨rfl, fun t ht e => ?_⟩
  rw [he, Sk.bytes_ok ht] at e
  have := putAll_inj hn (Sk.ok_lens ht).2 e
  rw [this] at hl
  exact hl (Sk.nums_len (Sk.ok_lens ht).1)
theorem skIs_no {zs : List Int} (h : ∀ m, (∀ x ∈ m, InN x) → zs ≠ putAll m) : SkIs zs Sk.zero false :=
  (if_neg (by simp)).mpr ⟨rfl, fun t ht e => h t.nums (Sk.ok_lens ht).2 (by rw [e, Sk.bytes_ok ht])⟩
/-- The model's way: 28 numbers are read. -/
theorem skIs_get {zs : List Int} {t : Sk} (ht : t.ok = true) (e : zs = t.bytes) : getTo zs 0 28 = some (t.nums, (zs.length : Int)) := by
  have a := getTo_front t.nums [] (Sk.ok_lens ht).2 (Sk.nums_len (Sk.ok_lens ht).1)
  rw [List.append_nil, ← Sk.bytes_ok ht, ← e] at a
  exact a
theorem skIs_getNone {zs : List Int} (h : getTo zs 0 28 = none) : SkIs zs Sk.zero false :=
  (if_neg (by simp)).mpr ⟨rfl, fun t ht e => by rw [skIs_get ht e] at h; cases h⟩
theorem skIs_getOff {zs l : List Int} {q : Int} (h : getTo zs 0 28 = some (l, q)) (hq : ¬ q = zs.length) : SkIs zs Sk.zero false :=
  (if_neg (by simp)).mpr ⟨rfl, fun t ht e => by rw [skIs_get ht e] at h; cases h; exact hq rfl⟩
theorem skIs_getAll {zs l : List Int} (hz : ∀ x ∈ zs, 0 ≤ x ∧ x ≤ 255) (h : getTo zs 0 28 = some (l, (zs.length : Int))) : zs = putAll l ∧ (∀ x ∈ l, InN x) ∧ l.length = 28 := by
  have a := all_here hz h
  unfold AllIs at a
  rw [if_pos rfl] at a
  exact ⟨a.1, a.2, getTo_len h⟩
/-! ### frames -/
def Fr.numbers (x : Fr) : List Int := [x.kind, x.agent, x.epoch, x.granted, (x.taken.length : Int)] ++ flat x.taken ++ (if x.kind = 1 then [x.item.seq, x.item.cls, x.item.key, x.item.window] ++ x.item.sk.nums else [])
theorem It.ok_nums {x : It} (h : x.ok = true) : (1 ≤ x.seq ∧ x.seq ≤ 60) ∧ (0 ≤ x.cls ∧ x.cls ≤ 1) ∧ InN x.key ∧ InN x.window ∧ x.sk.ok = true := by
  unfold It.ok placeOk at h
  simp only [Bool.and_eq_true, decide_eq_true_eq] at h
  unfold InN
  obtain ⟨⟨⟨h1, h2⟩, h3, h4⟩, h5⟩ := h
  refine ⟨h1, h2, ⟨by omega, by omega⟩, ⟨by omega, by omega⟩, h5⟩
theorem flat_mem {P : Int → Prop} : ∀ {ps : Sp}, (∀ p ∈ ps, P p.1 ∧ P p.2) → ∀ x ∈ flat ps, P x
  | [], _, x, hx => by cases hx
  | p :: ps, h, x, hx => by
    rcases List.mem_cons.1 hx with rfl | hx
    · exact (h p (List.mem_cons_self ..)).1
    rcases List.mem_cons.1 hx with rfl | hx
    · exact (h p (List.mem_cons_self ..)).2
    · exact flat_mem (fun q hq => h q (List.mem_cons_of_mem _ hq)) x hx
theorem Fr.right_spans {x : Fr} (h : x.Right) : ∀ y ∈ flat x.taken, InN y := by
  refine flat_mem (fun p hp => ?_)
  obtain ⟨k, hk, rfl⟩ := List.getElem_of_mem hp
  have a := h.span k hk
  have e : x.taken.at k = x.taken[k] := by unfold Sp.at; rw [List.getElem?_eq_getElem hk]; rfl
  rw [e] at a
  unfold InN
  omega
theorem Fr.right_numbers {x : Fr} (h : x.Right) : ∀ y ∈ x.numbers, InN y := by
  intro y hy
  unfold Fr.numbers at hy
  rcases List.mem_append.1 hy with hy | hy
  · rcases List.mem_append.1 hy with hy | hy
    · have a := h.kind; have b := h.agent; have c := h.epoch; have d := h.granted; have e := h.many
      simp only [List.mem_cons, List.not_mem_nil, or_false] at hy
      unfold InN
      rcases hy with rfl | rfl | rfl | rfl | rfl <;> omega
    · exact Fr.right_spans h y hy
  · have i := h.item
    by_cases q : x.kind = 1
    · rw [if_pos q] at hy i
      obtain ⟨a, b, c, d, e⟩ := It.ok_nums i
      rcases List.mem_append.1 hy with hy | hy
      · simp only [List.mem_cons, List.not_mem_nil, or_false] at hy
        unfold InN at *
        rcases hy with rfl | rfl | rfl | rfl <;> omega
      · exact (Sk.ok_lens e).2 y hy
    · rw [if_neg q] at hy; cases hy
theorem Fr.body_numbers {x : Fr} (h : x.Right) : x.body = [87, 82] ++ putAll x.numbers := by
  unfold Fr.body Fr.numbers
  have i := h.item
  by_cases q : x.kind = 1
  · rw [if_pos q] at i
    simp only [if_pos q]
    rw [putAll_app, putAll_app, putAll_app, Sk.bytes_ok (It.ok_nums i).2.2.2.2]
    simp only [List.append_assoc]
  · simp only [if_neg q, List.append_nil]
    rw [putAll_app]
    simp only [List.append_assoc]
theorem Fr.numbers_inj {x y : Fr} (hx : x.Right) (hy : y.Right) (e : x.numbers = y.numbers) : x = y := by
  unfold Fr.numbers at e
  simp only [List.cons_append, List.nil_append, List.cons.injEq] at e
  obtain ⟨e1, e2, e3, e4, e5, e6⟩ := e
  have el : (flat x.taken).length = (flat y.taken).length := by rw [flat_length, flat_length]; omega
  obtain ⟨e7, e8⟩ := List.append_inj e6 el
  have et : x.taken = y.taken := flat_inj e7
  have ix := hx.item
  have iy := hy.item
  rw [← e1] at iy e8
  by_cases q : x.kind = 1
  · rw [if_pos q] at ix iy
    rw [if_pos q, if_pos q] at e8
    simp only [List.cons.injEq] at e8
    obtain ⟨f1, f2, f3, f4, f5⟩ := e8
    exact Fr.eq_of e1 e2 e3 e4 et (It.eq_of f1 f2 f3 f4 (Sk.nums_inj (Sk.ok_lens (It.ok_nums ix).2.2.2.2).1 (Sk.ok_lens (It.ok_nums iy).2.2.2.2).1 f5))
  · rw [if_neg q] at ix iy
    exact Fr.eq_of e1 e2 e3 e4 et (ix.trans iy.symm)
def Fr.zero : Fr := ⟨0, 0, 0, 0, [], It.zero⟩
/-- These bytes are that frame's; or they are no frame's. -/
def FrIs (zs : List Int) (f : Fr) (d : Bool) : Prop := if d = true then f.ok = true ∧ zs = f.bytes else f = Fr.zero ∧ ∀ g : Fr, g.ok = true → zs ≠ g.bytes
theorem Fr.bytes_ok {x : Fr} (h : x.ok = true) : x.bytes = x.body ++ sumOf x.body := by unfold Fr.bytes; rw [if_pos h]
theorem app4_inj {a b c d : List Int} (hc : c.length = 4) (hd : d.length = 4) (e : a ++ c = b ++ d) : a = b ∧ c = d := by
  refine List.append_inj e ?_
  have := congrArg List.length e
  rw [List.length_append, List.length_append] at this
  omega
theorem Fr.bytes_inj {x y : Fr} (hx : x.ok = true) (hy : y.ok = true) (e : x.bytes = y.bytes) : x = y := by
  rw [Fr.bytes_ok hx, Fr.bytes_ok hy] at e
  have b := (app4_inj (sumOf_len _) (sumOf_len _) e).1
  rw [Fr.body_numbers (Fr.ok_right hx), Fr.body_numbers (Fr.ok_right hy)] at b
  exact Fr.numbers_inj (Fr.ok_right hx) (Fr.ok_right hy) (putAll_inj (Fr.right_numbers (Fr.ok_right hx)) (Fr.right_numbers (Fr.ok_right hy)) (List.append_cancel_left b))
theorem FrIs.unique {zs : List Int} {s t : Fr} {c d : Bool} (h : FrIs zs s c) (k : FrIs zs t d) : s = t ∧ c = d := by
  unfold FrIs at h k
  cases c <;> cases d <;> simp only [if_true, Bool.false_eq_true, if_false] at h k
  · exact ⟨h.1.trans k.1.symm, rfl⟩
  · exact absurd k.2 (h.2 t k.1)
  · exact absurd h.2 (k.2 s h.1)
  · exact ⟨Fr.bytes_inj h.1 k.1 (h.2.symm.trans k.2), rfl⟩
/-- These numbers are that frame's; or they are no frame's. -/
def FrN (l : List Int) (f : Fr) (d : Bool) : Prop := if d = true then f.ok = true ∧ l = f.numbers else f = Fr.zero ∧ ∀ g : Fr, g.ok = true → l ≠ g.numbers
theorem frIs_ne {zs : List Int} (h : ∀ g : Fr, g.ok = true → zs ≠ g.bytes) : FrIs zs Fr.zero false := (if_neg (by simp)).mpr ⟨rfl, h⟩
theorem frIs_yes {zs : List Int} {f : Fr} (h : f.ok = true) (e : zs = f.bytes) : FrIs zs f true := (if_pos rfl).mpr ⟨h, e⟩
/-- What the program reads: a body with its sum, the sign ahead, and numbers. -/
theorem frIs_of {body l : List Int} {f : Fr} {d : Bool} (hl : ∀ x ∈ l, InN x) (h : FrN l f d) (hb : body = [87, 82] ++ putAll l) : FrIs (body ++ sumOf body) f d := by
  unfold FrN at h
  cases d <;> simp only [if_true, Bool.false_eq_true, if_false] at h
  · rw [h.1]
    refine frIs_ne (fun g hg e => ?_)
    rw [Fr.bytes_ok hg] at e
    have b := (app4_inj (sumOf_len _) (sumOf_len _) e).1
    rw [hb, Fr.body_numbers (Fr.ok_right hg)] at b
    exact h.2 g hg (putAll_inj hl (Fr.right_numbers (Fr.ok_right hg)) (List.append_cancel_left b))
  · refine frIs_yes h.1 ?_
    have b : body = f.body := by rw [hb, Fr.body_numbers (Fr.ok_right h.1), h.2]
    rw [Fr.bytes_ok h.1, b]
theorem frIs_noNums {body r : List Int} (hb : body = [87, 82] ++ r) (h : ∀ m, (∀ x ∈ m, InN x) → r ≠ putAll m) : FrIs (body ++ sumOf body) Fr.zero false := by
  refine frIs_ne (fun g hg e => ?_)
  rw [Fr.bytes_ok hg] at e
  have b := (app4_inj (sumOf_len _) (sumOf_len _) e).1
  rw [hb, Fr.body_numbers (Fr.ok_right hg)] at b
  exact h g.numbers (Fr.right_numbers (Fr.ok_right hg)) (List.append_cancel_left b)
theorem frIs_noSign {body : List Int} (h : ∀ r, body ≠ [87, 82] ++ r) : FrIs (body ++ sumOf body) Fr.zero false := by
  refine frIs_ne (fun g hg e => ?_)
  rw [Fr.bytes_ok hg] at e
  have b := (app4_inj (sumOf_len _) (sumOf_len _) e).1
  exact h _ (b.trans (Fr.body_numbers (Fr.ok_right hg)))
theorem frIs_noSum {body s : List Int} (hs : s.length = 4) (h : ¬ s = sumOf body) : FrIs (body ++ s) Fr.zero false := by
  refine frIs_ne (fun g hg e => ?_)
  rw [Fr.bytes_ok hg] at e
  have b := app4_inj hs (sumOf_len _) e
  exact h (by rw [b.2, b.1])
theorem Fr.bytes_min {x : Fr} (h : x.ok = true) : 7 ≤ x.bytes.length := by
  rw [Fr.bytes_ok h, Fr.body_numbers (Fr.ok_right h), List.length_append, List.length_append, sumOf_len]
  have e : x.numbers = x.kind :: x.numbers.tail := by unfold Fr.numbers; rfl
  have k := (Fr.ok_right h).kind
  have p := putAll_pos (a := x.kind) (l := x.numbers.tail) ⟨by omega, by omega⟩
  rw [← e] at p
  simp only [List.length_cons, List.length_nil]
  omega
end Go.Proofs.Ytjndcfamfminkab
/- The walks through the program's SketchOk. No statement of the seat is proved here. -/
namespace Go.Proofs.Ytjndcfamfminkab
open Go.RowKit
set_option maxRecDepth 200000 in
set_option maxHeartbeats 1000000 in
theorem okImpl_any (v : Value) (s : Sk) (F : List Nat) (w : World) (h : RdSk w v s F) (hw : s.wide) :
    Calls Try.prog 65 #[v] w fun e w' => e = .returned (.bool s.ok) ∧ Below w.heap.size w w' := by
  have HH : Hid (RdSk w v s F ∧ s.wide) := ⟨h, hw⟩
  obtain ⟨a1, n1, c1, a2, n2, c2, a3, n3, c3, F1, F2, F3, rfl, h1, h2, h3, _⟩ := h
  clear h1 h2 h3 hw
  have HT : Hid (Below w.heap.size w (w.alloc (.cells #[.int .i64 s.count, .int .i64 s.sum, .int .i64 s.min, .int .i64 s.max, .slice a1 n1 c1, .slice a2 n2 c2, .slice a3 n3 c3] 28))) := (Below.refl _ _).alloc (Nat.le_refl _) _
  go_enter Try.func65, Try.ntmps65
  go_wp2_with fail
  refine (okTally_any _ s F _ (HH.out.1.below HT.out) HH.out.2).mono ?_
  rintro e w1 ⟨xs, ys, rfl, _, hy, hx, _, hb1⟩
  have HB : Hid (ys.length = 28 ∧ okT s xs = s.ok ∧ Below w.heap.size w w1) := ⟨hy, okT_ok hx, Below.next HT.out hb1⟩
  clear hb1 hy hx
  go_wp2_with (with_reducible refine stopStore 75 rfl ?_)
  refine store_fresh 75 w1.heap.size rfl (tc (List.replicate 28 0)) (tc ys) 75 rfl rfl rfl rfl (tallySize HB.out.1) (by rw [tc_size, tc_size, HB.out.1]; rfl) (tc_one _) ?_
  intro W2 _ hb2
  have HB2 : Hid (Below w.heap.size w W2) := Below.next HB.out.2.2 hb2
  clear hb2
  go_wp2
  go_ret
  exact ⟨ret_bool HB.out.2.1, HB2.out⟩
end Go.Proofs.Ytjndcfamfminkab
/- The walks through the program's numbers, bytesOfNumbers and SketchBytes. No statement of the seat is proved here. -/
namespace Go.Proofs.Ytjndcfamfminkab
open Go.RowKit
section
variable {P : Program} {ops : Array Oper} {Q : Exit → Act → World → Prop} {a : Act} {w : World} {o : Oper} {K : Act → World → Prop}
/-- An append that is a region's only one that may come up. -/
theorem op_append7 (s x : Operand) (t : TypeId) (hw : Region.wanted o (yielded ops a.tmps) = true) (ho : o.op = .call { callee := .builtin .append, args := #[s, x], argTypes := #[t, t] })
    (base : Nat) (e : TypeId) (i : TypeInfo) (z : Value) (size bytes : Nat) (ht : P.underlying t = some (.slice e)) (hi : P.info? e = some i) (hz : i.zero = some z)
    (hsize : i.size = size) (hby : i.bytes = bytes) (hzs : z.cells.size = size) (hsz : 0 < size)
    (v : Value) (n : Nat) (xs : List Value) (hs : a.eval s = v) (hown : w.ownsRow base e size v n xs)
    (ad : Addr) (m c : Nat) (news : List Value) (hx : a.eval x = .slice (some ad) m c) (hl : news.length = m * size) (hnews : ∀ j u, news[j]? = some u → w.cell? (ad.add j) = some u) (h1 : ∀ u ∈ news, u.oneCell' = true)
    (h63 : n + m ≤ maxLen) (hbytes : (n + m) * bytes ≤ 140737488355328) (hbase : base ≤ w.heap.size)
    (h : ∀ v' w', w'.ownsRow base e size v' (n + m) (xs ++ news) → w.grownBy w' v.ownBlock → ∃ a', a.put o.dst v' = a' ∧ K a' w') : if Region.wanted o (yielded ops a.tmps) = true then Oper.wp P o a w K Q else K (a.put o.dst undef) w := by
  rw [if_pos hw]
  refine wp_append_own w s x t ho base e i z size bytes ht hi hz hsize hby hzs hsz v n xs hs hown ad m c news hx hl hnews h1 h63 hbytes hbase ?_
  intro v' w' h2 h3 _
  obtain ⟨_, rfl, h4⟩ := h v' w' h2 h3
  exact h4
end
theorem nums_rows {ys : List Int} (h : ys.length = 28) : [ys.getD 0 0, ys.getD 1 0, ys.getD 2 0, ys.getD 3 0] ++ (ys.drop 4).take 8 ++ (ys.drop 12).take 8 ++ (ys.drop 20).take 4 ++ (ys.drop 24).take 4 = ys := by
  have e := skOf_nums h
  unfold Sk.nums skOf at e
  simpa using e
theorem ownsRow_below' {w w' : World} {B base e size : Nat} {v : Value} {n : Nat} {xs : List Value} (h : w.ownsRow base e size v n xs) (hb : Below B w w') (hB : ∀ g, v.ownBlock = some g → g < B) : w'.ownsRow base e size v n xs := by
  refine ⟨h.1, ?_⟩
  rcases h.2 with h' | ⟨g, cap, cur, h1, h2, h3, h4⟩
  · exact .inl h'
  · exact .inr ⟨g, cap, cur, h1, h2, by rw [hb.block g (hB g (by rw [h1]; rfl))]; exact h3, h4⟩
theorem NumSt.below {w W W' : World} {cs : Array Value} {t : TypeId} {v : Value} {xs : List Int} (h : NumSt w cs t v xs W) (hb : Below W.heap.size W W') : NumSt w cs t v xs W' := ⟨h.box.below hb, ownsRow_below h.own hb, Below.next h.bel hb⟩
set_option maxRecDepth 200000 in
set_option maxHeartbeats 4000000 in
theorem numbers_any (ys : List Int) (w : World) (hy : ys.length = 28) :
    Calls Try.prog 143 #[.agg (tc ys)] w fun e w' => ∃ u, e = .returned u ∧ w'.ownsRow w.heap.size 3 1 u ys.length (ys.map (Value.int .i64)) ∧ Below w.heap.size w w' := by
  obtain ⟨i0, hi, hz0, hz1, hz2⟩ := info_parts infoInt
  have HL : Hid (ys.length = 28) := hy
  obtain ⟨x0, hx0⟩ : ∃ x, x = ys.getD 0 0 := ⟨_, rfl⟩
  obtain ⟨x1, hx1⟩ : ∃ x, x = ys.getD 1 0 := ⟨_, rfl⟩
  obtain ⟨x2, hx2⟩ : ∃ x, x = ys.getD 2 0 := ⟨_, rfl⟩
  obtain ⟨x3, hx3⟩ : ∃ x, x = ys.getD 3 0 := ⟨_, rfl⟩
  have HX : Hid (x0 = ys.getD 0 0 ∧ x1 = ys.getD 1 0 ∧ x2 = ys.getD 2 0 ∧ x3 = ys.getD 3 0) := ⟨hx0, hx1, hx2, hx3⟩
  have b0 : Blk (w.alloc (.cells (tc ys) 75)) w.heap.size (tc ys) 75 := Blk.made _ _ _
  have c0 : (w.alloc (.cells (tc ys) 75)).cell? ⟨w.heap.size, 0, none⟩ = some (.int .i64 x0) := by rw [b0.cell, hx0]; exact tc_get (by omega)
  have c1 : (w.alloc (.cells (tc ys) 75)).cell? ⟨w.heap.size, 1, none⟩ = some (.int .i64 x1) := by rw [b0.cell, hx1]; exact tc_get (by omega)
  have c2 : (w.alloc (.cells (tc ys) 75)).cell? ⟨w.heap.size, 2, none⟩ = some (.int .i64 x2) := by rw [b0.cell, hx2]; exact tc_get (by omega)
  have c3 : (w.alloc (.cells (tc ys) 75)).cell? ⟨w.heap.size, 3, none⟩ = some (.int .i64 x3) := by rw [b0.cell, hx3]; exact tc_get (by omega)
  have HS0 : Hid (NumSt w (tc ys) 75 (.slice (some ⟨w.heap.size + 1, 0, none⟩) 4 4) [x0, x1, x2, x3] ((w.alloc (.cells (tc ys) 75)).alloc (.cells #[.int .i64 x0, .int .i64 x1, .int .i64 x2, .int .i64 x3] 3))) := by
    have m := two_made w (tc ys) #[.int .i64 x0, .int .i64 x1, .int .i64 x2, .int .i64 x3] 75 3
    have o := World.ownsRow_lit (base := w.heap.size + 1) (e := 3) (size := 1) (w.alloc (.cells (tc ys) 75)) #[.int .i64 x0, .int .i64 x1, .int .i64 x2, .int .i64 x3] 4 (by simp) (by unfold maxLen; omega) rfl
    have e : (w.alloc (.cells (tc ys) 75)).heap.size = w.heap.size + 1 := by simp
    rw [e] at o
    exact ⟨m.1, o, m.2.2⟩
  clear hx0 hx1 hx2 hx3 hy b0
  go_enter Try.func143, Try.ntmps143
  go_wp2
  clear c0 c1 c2 c3
  obtain ⟨W0, hW0⟩ : ∃ W0, W0 = (w.alloc (.cells (tc ys) 75)).alloc (.cells #[.int .i64 x0, .int .i64 x1, .int .i64 x2, .int .i64 x3] 3) := ⟨_, rfl⟩
  rw [← hW0] at HS0 ⊢
  clear hW0
  have HS : Hid (NumSt w (tc ys) 75 (.slice (some ⟨w.heap.size + 1, 0, none⟩) 4 4) [x0, x1, x2, x3] W0.drew) := ⟨HS0.out.box.drew, HS0.out.own, HS0.out.bel.drew⟩
  clear HS0
  refine wp_region_held (S := fun _ => True) (by kernel_rfl) ?_
  change wpAnyH _ _ _ _ _ _ _ _ (World.drew _)
  refine takeH (o := ?o1) 0 (.slice (some ⟨w.heap.size + 1, 0, none⟩) 4 4) ?h1 ?r1
  case h1 => simp only [aT, aZ]; rfl
  refine ⟨_, by simp [Act.put]; rfl, by kernel_rfl, by kernel_rfl, by kernel_rfl, fun _ _ _ h => h, (.inl ⟨rfl, fun W _ => by go_simp⟩), trivial, ?_⟩
  refine takeH (o := ?o2) 1 (.pointer (some ⟨w.heap.size, 4, none⟩)) ?h2 ?r2
  case h2 => simp only [aT, aS, aZ]; rfl
  refine ⟨_, by simp [Act.put]; rfl, by kernel_rfl, by kernel_rfl, by kernel_rfl, fun _ _ _ h => h, (.inl ⟨rfl, fun W _ => by go_simp⟩), trivial, ?_⟩
  refine takeH (o := ?o3) 2 (.slice (some ⟨w.heap.size, 4, none⟩) 8 8) ?h3 ?r3
  case h3 => simp only [aT, aS, aZ]; rfl
  refine ⟨_, by simp [Act.put]; rfl, by kernel_rfl, by kernel_rfl, by kernel_rfl, fun _ _ _ h => h, (.inl ⟨rfl, fun W _ => by go_simp⟩), trivial, ?_⟩
  refine takeH (o := ?o4) 4 (.pointer (some ⟨w.heap.size, 12, none⟩)) ?h4 ?r4
  case h4 => simp only [aT, aS, aZ]; rfl
  refine ⟨_, by simp [Act.put]; rfl, by kernel_rfl, by kernel_rfl, by kernel_rfl, fun _ _ _ h => h, (.inl ⟨rfl, fun W _ => by go_simp⟩), trivial, ?_⟩
  refine takeH (o := ?o5) 5 (.slice (some ⟨w.heap.size, 12, none⟩) 8 8) ?h5 ?r5
  case h5 => simp only [aT, aS, aZ]; rfl
  refine ⟨_, by simp [Act.put]; rfl, by kernel_rfl, by kernel_rfl, by kernel_rfl, fun _ _ _ h => h, (.inl ⟨rfl, fun W _ => by go_simp⟩), trivial, ?_⟩
  refine onlyH (o := ?o6) 3 (by kernel_rfl) ?h6 ?r6
  case h6 => simp only [aT, aS, aZ]; rfl
  intro K hK
  refine op_append7 _ _ 25 rfl rfl (w.heap.size + 1) 3 i0 (.int .i64 0) 1 8 Try.underlying25 hi hz0 hz1 hz2 rfl (by decide) _ _ _ rfl HS.out.own ⟨w.heap.size, 4, none⟩ 8 8 (((ys.drop 4).take 8).map (Value.int .i64)) rfl (by have := HL.out; simp; omega) ((rdI_tc HS.out.box (by have := HL.out; omega) (by omega)).from (Below.refl _ _) (by omega)) (ints_one _) (by unfold maxLen; simp) (by simp) HS.out.size ?_
  intro v1 w1 hown hgrow
  have HS1 : Hid (NumSt w _ _ v1 _ w1) := HS.out.app (by have := HL.out; simp; omega) hown hgrow
  clear hown hgrow HS
  refine ⟨_, by simp [Act.put]; rfl, hK _ _ ⟨trivial, ?_⟩⟩
  clear hK
  refine onlyH (o := ?o7) 6 (by kernel_rfl) ?h7 ?r7
  case h7 => simp only [aT, aS, aZ]; rfl
  intro K hK
  refine op_append7 _ _ 25 rfl rfl (w.heap.size + 1) 3 i0 (.int .i64 0) 1 8 Try.underlying25 hi hz0 hz1 hz2 rfl (by decide) _ _ _ rfl HS1.out.own ⟨w.heap.size, 12, none⟩ 8 8 (((ys.drop 12).take 8).map (Value.int .i64)) rfl (by have := HL.out; simp; omega) ((rdI_tc HS1.out.box (by have := HL.out; omega) (by omega)).from (Below.refl _ _) (by omega)) (ints_one _) (by have := HL.out; unfold maxLen; simp; omega) (by have := HL.out; simp; omega) HS1.out.size ?_
  intro v2 w2 hown hgrow
  have HS2 : Hid (NumSt w _ _ v2 _ w2) := HS1.out.app (by have := HL.out; simp; omega) hown hgrow
  clear hown hgrow HS1
  refine ⟨_, by simp [Act.put]; rfl, hK _ _ ⟨trivial, ?_⟩⟩
  clear hK
  refine onlyH (o := ?o8) 7 (by kernel_rfl) ?h8 ?r8
  case h8 => simp only [aT, aS, aZ]; rfl
  intro K hK
  refine op_value v2 rfl (by go_simp) ⟨_, by simp [Act.put]; rfl, hK _ _ ⟨trivial, ?_⟩⟩
  clear hK
  refine wpAnyH_done (by kernel_rfl) ?_ _
  go_wp2_with (first | go_skip | (with_reducible refine stopLoad 73 rfl ?_))
  refine load_part 73 w.heap.size 20 8 ys 75 _ HS2.out.box rfl rfl rfl Try.underlying73 rfl (by kernel_rfl) (by rw [HL.out]; omega) ?_
  obtain ⟨A, hA⟩ : ∃ A, A = (ys.drop 20).take 8 := ⟨_, rfl⟩
  rw [← hA]
  obtain ⟨R0, hR0⟩ : ∃ A, A = (ys.drop 20).take 4 := ⟨_, rfl⟩
  obtain ⟨R1, hR1⟩ : ∃ A, A = (ys.drop 24).take 4 := ⟨_, rfl⟩
  have HRE : Hid (R0 = (ys.drop 20).take 4 ∧ R1 = (ys.drop 24).take 4) := ⟨hR0, hR1⟩
  have HRL : Hid (R0.length = 4 ∧ R1.length = 4) := ⟨by rw [hR0]; simp; have := HL.out; omega, by rw [hR1]; simp; have := HL.out; omega⟩
  have j0 : ∀ w, (Instr.index 73 (.agg (tc A)) (.int .i64 0)).run Try.prog w = .ok (.agg (tc R0)) w := fun w => by
    rw [run_index_row w 73 72 3 A 0 0 rfl (by omega) Try.underlying73 Try.underlying72 (fun _ => by simp), hA, hR0]
    simp [List.take_take]
  have j1 : ∀ w, (Instr.index 73 (.agg (tc A)) (.int .i64 1)).run Try.prog w = .ok (.agg (tc R1)) w := fun w => by
    rw [run_index_row w 73 72 3 A 1 1 rfl (by omega) Try.underlying73 Try.underlying72 (fun _ => by simp), hA, hR1]
    rw [List.drop_take, List.drop_drop, List.take_take]
    rfl
  clear hA hR0 hR1
  go_wp2
  refine wp_loop_rounds 3 ?_
  rw [rounds_succ]
  go_wp2_with (first | (with_reducible refine stopStore 72 rfl ?_))
  refine store_fresh 72 w2.heap.size rfl (tc (List.replicate 4 0)) (tc R0) 72 rfl rfl rfl rfl (by rw [tc_size, HRL.out.1]; kernel_rfl) (by rw [tc_size, tc_size, HRL.out.1]; rfl) (tc_one _) ?_
  intro W3 hg0 hb0
  have HS3 : Hid (NumSt w _ _ v2 _ W3) := HS2.out.below hb0
  have HG0 : Hid (Blk W3 _ (tc R0) 72) := hg0
  clear hg0 hb0 HS2
  go_wp2_with (with_reducible refine stopAppend rfl ?_)
  refine Stop.intro (wpList_append_own _ rfl _ _ 25 rfl (w.heap.size + 1) 3 i0 (.int .i64 0) 1 8 Try.underlying25 hi hz0 hz1 hz2 rfl (by decide) _ _ _ rfl HS3.out.own ⟨w2.heap.size, 0, none⟩ 4 4 (R0.map (Value.int .i64)) rfl (by simp [HRL.out.1]) ((rdI_tc0 HG0.out HRL.out.1 (by omega)).from (Below.refl _ _) (by omega)) (ints_one _) (by have := HL.out; unfold maxLen; simp; omega) (by have := HL.out; simp; omega) HS3.out.size ?_)
  intro v4 w4 hown hgrow _
  have HS4 : Hid (NumSt w _ _ v4 _ w4) := HS3.out.app HRL.out.1 hown hgrow
  clear hown hgrow HS3 HG0
  go_wp2_with fail
  rw [rounds_succ]
  go_wp2_with (first | (with_reducible refine stopStore 72 rfl ?_))
  refine store_fresh 72 w4.heap.size rfl (tc (List.replicate 4 0)) (tc R1) 72 rfl rfl rfl rfl (by rw [tc_size, HRL.out.2]; kernel_rfl) (by rw [tc_size, tc_size, HRL.out.2]; rfl) (tc_one _) ?_
  intro W5 hg1 hb1
  have HS5 : Hid (NumSt w _ _ v4 _ W5) := HS4.out.below hb1
  have HG1 : Hid (Blk W5 _ (tc R1) 72) := hg1
  clear hg1 hb1 HS4
  go_wp2_with (with_reducible refine stopAppend rfl ?_)
  refine Stop.intro (wpList_append_own _ rfl _ _ 25 rfl (w.heap.size + 1) 3 i0 (.int .i64 0) 1 8 Try.underlying25 hi hz0 hz1 hz2 rfl (by decide) _ _ _ rfl HS5.out.own ⟨w4.heap.size, 0, none⟩ 4 4 (R1.map (Value.int .i64)) rfl (by simp [HRL.out.2]) ((rdI_tc0 HG1.out HRL.out.2 (by omega)).from (Below.refl _ _) (by omega)) (ints_one _) (by have := HL.out; have := HRL.out; unfold maxLen; simp; omega) (by have := HL.out; have := HRL.out; simp; omega) HS5.out.size ?_)
  intro v6 w6 hown hgrow _
  have HS6 : Hid (NumSt w _ _ v6 _ w6) := HS5.out.app HRL.out.2 hown hgrow
  clear hown hgrow HS5 HG1
  go_wp2_with fail
  rw [rounds_succ]
  have HE : Hid ([x0, x1, x2, x3] ++ (ys.drop 4).take 8 ++ (ys.drop 12).take 8 ++ R0 ++ R1 = ys) := by
    show _ = _
    rw [HX.out.1, HX.out.2.1, HX.out.2.2.1, HX.out.2.2.2, HRE.out.1, HRE.out.2]
    exact nums_rows HL.out
  rw [HE.out] at HS6
  go_wp2
  go_ret
  exact ⟨_, rfl, own_mono7 HS6.out.own (by omega), HS6.out.bel⟩
set_option maxRecDepth 100000 in
set_option maxHeartbeats 4000000 in
theorem bytesOfNumbers_any (a : Option Addr) (len cap : Nat) (zs : List Int) (F : List Nat) (w : World) (h : RdI w a len zs F) (hr : ∀ z ∈ zs, InN z) (hlen : len ≤ 1048576) :
    Calls Try.prog 71 #[.slice a len cap] w fun e w' => ∃ v, e = .returned v ∧ w'.ownsRow w.heap.size 5 1 v (putAll zs).length ((putAll zs).map (Value.int .u8)) ∧ Below w.heap.size w w' := by
  obtain ⟨i0, hi, hz0, hz1, hz2⟩ := info_parts Try.info5
  have HL : Hid (zs.length = len ∧ RdI w a len zs F ∧ ∀ z ∈ zs, InN z) := ⟨h.length, h, hr⟩
  clear h hr
  go_enter Try.func71, Try.ntmps71
  go_wp2
  go_loopw [3, 8] (fun v i wr => ∃ (k : Nat), k ≤ len ∧ i = .int .i64 k ∧ Hid (wr.ownsRow w.heap.size 5 1 v (putAll (zs.take k)).length ((putAll (zs.take k)).map (Value.int .u8))) ∧ Hid (Below w.heap.size w wr)) (fun _ i _ => len - (intOf i).toNat)
  case atStart => exact ⟨0, by omega, rfl, World.ownsRow_nil _ _ _ _, Below.refl _ _⟩
  case round =>
    obtain ⟨k, hk, rfl, HO, HB⟩ := hrel
    by_cases hlt : k < len
    · rcases (HL.out.2.1.below HB.out).cells with ⟨h0, _⟩ | ⟨b, off, _, rfl, _, hc⟩
      · omega
      have hkl : k < zs.length := by rw [HL.out.1]; exact hlt
      obtain ⟨y, hy⟩ : ∃ y, y = zs.getD k 0 := ⟨_, rfl⟩
      have d := hc k hlt
      rw [← hy] at d
      have HY : Hid (y = zs.getD k 0 ∧ k < zs.length) := ⟨hy, hkl⟩
      have HN : Hid (InN y) := HL.out.2.2 y (by rw [hy, List.getD_eq_getElem?_getD, List.getElem?_eq_getElem hkl]; exact List.getElem_mem hkl)
      have hI : (k : Int) < (len : Int) := by omega
      clear hc hy
      go_wp2_with fail
      refine (putImpl_any y _ (by have := HN.out.1; omega) (by have := HN.out.2; omega)).mono ?_
      rintro e w1 ⟨v1, rfl, hown1, hb1⟩
      obtain ⟨g1, cap1, hv1, _⟩ := own_shape7 hown1 (encOf_pos HN.out)
      have hv1' := hv1.symm
      subst hv1'
      have H1 : Hid (w1.ownsRow w.heap.size 5 1 u3 (putAll (zs.take k)).length ((putAll (zs.take k)).map (Value.int .u8)) ∧ Below w.heap.size w w1) := ⟨ownsRow_below HO.out hb1, Below.next HB.out hb1⟩
      have HE : Hid (∀ j u, ((encOf y).map (Value.int .u8))[j]? = some u → w1.cell? ((⟨g1, 0, none⟩ : Addr).add j) = some u) := own_news hown1
      have hl1 := putAll_len (zs.take k)
      have hl2 := encOf_len y
      have hl3 : (zs.take k).length ≤ k := by rw [List.length_take]; omega
      clear hown1 hb1 hv1 d HB HO
      go_wp2_with (first | go_skip | (with_reducible refine stopAppend rfl ?_))
      refine Stop.intro (wpList_append_own _ rfl _ _ 22 rfl w.heap.size 5 i0 (.int .u8 0) 1 1 Try.underlying22 hi hz0 hz1 hz2 rfl (by decide) _ _ _ rfl H1.out.1 ⟨g1, 0, none⟩ (encOf y).length cap1 ((encOf y).map (Value.int .u8)) rfl (by simp) HE.out (u8_one _) (by unfold maxLen; omega) (by omega) H1.out.2.size ?_)
      intro v2 w2 hown hgrow _
      have HO3 : Hid (w2.ownsRow w.heap.size 5 1 v2 (putAll (zs.take (k + 1))).length ((putAll (zs.take (k + 1))).map (Value.int .u8))) := by
        rw [putAll_take zs k HY.out.2, ← HY.out.1, List.length_append, List.map_append]
        exact hown
      have HB3 : Hid (Below w.heap.size w w2) := H1.out.2.grown hgrow H1.out.2.size (fun g hg => (H1.out.1.lt g hg).1)
      clear hown hgrow H1 HE hl1 hl2 hl3
      go_wp2
      go_roundw
      case rel => exact ⟨k + 1, by omega, by go_num, HO3, HB3⟩
      case measure => simp [intOf]; omega
    · obtain rfl : k = len := by omega
      have HV : Hid (zs.take k = zs) := List.take_of_length_le (by rw [HL.out.1]; omega)
      rw [HV.out] at HO
      go_wp2
      go_ret
      exact ⟨_, rfl, HO.out, HB.out⟩
end Go.Proofs.Ytjndcfamfminkab
/- Two lists, two summaries held against each other, by the model and by the library. No statement of the seat is proved here. -/
namespace Go.Proofs.Ytjndcfamfminkab
open Go.RowKit
set_option maxRecDepth 200000 in
set_option maxHeartbeats 1000000 in
theorem l1Same_any (a b : Option Addr) (la lb ca cb : Nat) (xs ys : List Int) (F G : List Nat) (w : World) (ha : RdI w a la xs F) (hb : RdI w b lb ys G) (hla : la ≤ 140737488355328) (hlb : lb ≤ 140737488355328) :
    Calls Try.prog 151 #[.slice a la ca, .slice b lb cb] w fun e w' => e = .returned (.bool (decide (xs = ys))) ∧ Below w.heap.size w w' := by
  have Hx : Hid (xs.length = la) := ha.length
  have Hy : Hid (ys.length = lb) := hb.length
  by_cases hl : la = lb
  · subst hl
    have hbne : ((la : Int) != (la : Int)) = false := by simp
    by_cases h0 : la = 0
    · subst h0
      have ex : xs = [] := List.eq_nil_of_length_eq_zero ha.length
      have ey : ys = [] := List.eq_nil_of_length_eq_zero hb.length
      clear ha hb
      go_enter Try.func151, Try.ntmps151
      go_wp2
      refine wp_loop_rounds 1 ?_
      rw [rounds_succ]
      go_wp2
      go_ret
      exact ⟨ret_bool (by rw [ex, ey]; rfl), Below.refl _ _⟩
    · obtain ⟨b1, o1, rfl, hc1⟩ : ∃ b off, a = some ⟨b, off, none⟩ ∧ ∀ i, i < la → w.cell? ⟨b, off + i, none⟩ = some (.int .i64 (xs.getD i 0)) := by
        rcases ha.cells with h | ⟨b, off, _, h1, _, h2⟩
        · exact absurd h.1 h0
        · exact ⟨b, off, h1, h2⟩
      obtain ⟨b2, o2, rfl, hc2⟩ : ∃ b' off, b = some ⟨b', off, none⟩ ∧ ∀ i, i < la → w.cell? ⟨b', off + i, none⟩ = some (.int .i64 (ys.getD i 0)) := by
        rcases hb.cells with h | ⟨b, off, _, h1, _, h2⟩
        · exact absurd h.1 h0
        · exact ⟨b, off, h1, h2⟩
      have hb1 : b1 < w.heap.size := World.block_lt_of_cell? _ _ (hc1 0 (by omega))
      have hb2 : b2 < w.heap.size := World.block_lt_of_cell? _ _ (hc2 0 (by omega))
      clear ha hb
      go_enter Try.func151, Try.ntmps151
      go_wp2
      go_loopw [5] (fun i wr => ∃ k : Nat, k ≤ la ∧ i = .int .i64 k ∧ Hid (xs.take k = ys.take k) ∧ Below w.heap.size w wr) (fun i _ => la - (intOf i).toNat)
      case atStart => exact ⟨0, by omega, rfl, rfl, Below.refl _ _⟩
      case round =>
        obtain ⟨k, hk, rfl, HT, hbel⟩ := hrel
        by_cases hlt : k < la
        · have d1 : wr.cell? ⟨b1, o1 + k, none⟩ = some (.int .i64 (xs.getD k 0)) := (hbel.cell (by exact hb1)).trans (hc1 k hlt)
          have d2 : wr.cell? ⟨b2, o2 + k, none⟩ = some (.int .i64 (ys.getD k 0)) := (hbel.cell (by exact hb2)).trans (hc2 k hlt)
          by_cases he : xs[k]?.getD 0 = ys[k]?.getD 0
          · have hne : (xs[k]?.getD 0 != ys[k]?.getD 0) = false := by simp [he]
            have HE : Hid (xs[k]?.getD 0 = ys[k]?.getD 0) := he
            clear he hc1 hc2
            go_wp2
            go_region
            all_goals (try go_wp2)
            all_goals
              go_roundw
              case rel => exact ⟨k + 1, by omega, by go_num, eqI_step (by rw [Hx.out, Hy.out]) (by rw [Hx.out]; exact hlt) HT.out HE.out, by repeat (first | exact hbel | apply Below.drew)⟩
              case measure => simp [intOf]; omega
          · have hne : (xs[k]?.getD 0 != ys[k]?.getD 0) = true := by simp [he]
            have HE : Hid (¬ xs[k]?.getD 0 = ys[k]?.getD 0) := he
            clear he hc1 hc2
            go_wp2
            go_region
            all_goals (try go_wp2)
            all_goals
              go_ret
              exact ⟨ret_bool (neI_of_at HE.out).symm, by repeat (first | exact hbel | apply Below.drew)⟩
        · obtain rfl : k = la := by omega
          go_wp2
          go_ret
          exact ⟨ret_bool (eqI_end Hx.out Hy.out HT.out).symm, hbel⟩
  · have hbne : ((la : Int) != (lb : Int)) = true := by simp; omega
    have e : decide (xs = ys) = false := by
      rw [decide_eq_false_iff_not]; intro e; subst e; exact hl (Hx.out.symm.trans Hy.out)
    clear ha hb
    go_enter Try.func151, Try.ntmps151
    go_wp2
    go_ret
    exact ⟨ret_bool e.symm, Below.refl _ _⟩
set_option maxRecDepth 200000 in
set_option maxHeartbeats 1000000 in
theorem slEqual_any (a b : Option Addr) (la lb ca cb : Nat) (xs ys : List Int) (F G : List Nat) (w : World) (ha : RdI w a la xs F) (hb : RdI w b lb ys G) (hla : la ≤ 140737488355328) (hlb : lb ≤ 140737488355328) :
    Calls Try.prog 113 #[.slice a la ca, .slice b lb cb] w fun e w' => e = .returned (.bool (decide (xs = ys))) ∧ Below w.heap.size w w' := by
  have Hx : Hid (xs.length = la) := ha.length
  have Hy : Hid (ys.length = lb) := hb.length
  by_cases hl : la = lb
  · subst hl
    have hbne : ((la : Int) != (la : Int)) = false := by simp
    by_cases h0 : la = 0
    · subst h0
      have ex : xs = [] := List.eq_nil_of_length_eq_zero ha.length
      have ey : ys = [] := List.eq_nil_of_length_eq_zero hb.length
      clear ha hb
      go_enter Try.func113, Try.ntmps113
      go_wp2
      refine wp_loop_rounds 1 ?_
      rw [rounds_succ]
      go_wp2
      go_ret
      exact ⟨ret_bool (by rw [ex, ey]; rfl), Below.refl _ _⟩
    · obtain ⟨b1, o1, rfl, hc1⟩ : ∃ b off, a = some ⟨b, off, none⟩ ∧ ∀ i, i < la → w.cell? ⟨b, off + i, none⟩ = some (.int .i64 (xs.getD i 0)) := by
        rcases ha.cells with h | ⟨b, off, _, h1, _, h2⟩
        · exact absurd h.1 h0
        · exact ⟨b, off, h1, h2⟩
      obtain ⟨b2, o2, rfl, hc2⟩ : ∃ b' off, b = some ⟨b', off, none⟩ ∧ ∀ i, i < la → w.cell? ⟨b', off + i, none⟩ = some (.int .i64 (ys.getD i 0)) := by
        rcases hb.cells with h | ⟨b, off, _, h1, _, h2⟩
        · exact absurd h.1 h0
        · exact ⟨b, off, h1, h2⟩
      have hb1 : b1 < w.heap.size := World.block_lt_of_cell? _ _ (hc1 0 (by omega))
      have hb2 : b2 < w.heap.size := World.block_lt_of_cell? _ _ (hc2 0 (by omega))
      clear ha hb
      go_enter Try.func113, Try.ntmps113
      go_wp2
      go_loopw [13] (fun i wr => ∃ k : Nat, k ≤ la ∧ i = .int .i64 k ∧ Hid (xs.take k = ys.take k) ∧ Below w.heap.size w wr) (fun i _ => la - (intOf i).toNat)
      case atStart => exact ⟨0, by omega, rfl, rfl, Below.refl _ _⟩
      case round =>
        obtain ⟨k, hk, rfl, HT, hbel⟩ := hrel
        by_cases hlt : k < la
        · have d1 : wr.cell? ⟨b1, o1 + k, none⟩ = some (.int .i64 (xs.getD k 0)) := (hbel.cell (by exact hb1)).trans (hc1 k hlt)
          have d2 : wr.cell? ⟨b2, o2 + k, none⟩ = some (.int .i64 (ys.getD k 0)) := (hbel.cell (by exact hb2)).trans (hc2 k hlt)
          by_cases he : xs[k]?.getD 0 = ys[k]?.getD 0
          · have hne : (xs[k]?.getD 0 != ys[k]?.getD 0) = false := by simp [he]
            have HE : Hid (xs[k]?.getD 0 = ys[k]?.getD 0) := he
            clear he hc1 hc2
            go_wp2
            go_region
            all_goals (try go_wp2)
            all_goals
              go_roundw
              case rel => exact ⟨k + 1, by omega, by go_num, eqI_step (by rw [Hx.out, Hy.out]) (by rw [Hx.out]; exact hlt) HT.out HE.out, by repeat (first | exact hbel | apply Below.drew)⟩
              case measure => simp [intOf]; omega
          · have hne : (xs[k]?.getD 0 != ys[k]?.getD 0) = true := by simp [he]
            have HE : Hid (¬ xs[k]?.getD 0 = ys[k]?.getD 0) := he
            clear he hc1 hc2
            go_wp2
            go_region
            all_goals (try go_wp2)
            all_goals
              go_ret
              exact ⟨ret_bool (neI_of_at HE.out).symm, by repeat (first | exact hbel | apply Below.drew)⟩
        · obtain rfl : k = la := by omega
          go_wp2
          go_ret
          exact ⟨ret_bool (eqI_end Hx.out Hy.out HT.out).symm, hbel⟩
  · have hbne : ((la : Int) != (lb : Int)) = true := by simp; omega
    have e : decide (xs = ys) = false := by
      rw [decide_eq_false_iff_not]; intro e; subst e; exact hl (Hx.out.symm.trans Hy.out)
    clear ha hb
    go_enter Try.func113, Try.ntmps113
    go_wp2
    go_ret
    exact ⟨ret_bool e.symm, Below.refl _ _⟩
/-- The two boxes lie there, and nothing elder has changed. -/
structure Boxes (w : World) (A B : Array Value) (t : TypeId) (W : World) : Prop where
  fst : Blk W w.heap.size A t
  snd : Blk W (w.heap.size + 1) B t
  bel : Below w.heap.size w W
theorem Boxes.below {w W W' : World} {A B : Array Value} {t : TypeId} (h : Boxes w A B t W) (b : Below W.heap.size W W') : Boxes w A B t W' := ⟨h.fst.below b, h.snd.below b, Below.next h.bel b⟩
theorem Boxes.drew {w W : World} {A B : Array Value} {t : TypeId} (h : Boxes w A B t W) : Boxes w A B t W.drew := ⟨h.fst, h.snd, h.bel.drew⟩
set_option maxRecDepth 200000 in
set_option maxHeartbeats 4000000 in
theorem sameSpec_any (v u : Value) (s t : Sk) (F G : List Nat) (w : World) (h : RdSk w v s F) (k : RdSk w u t G) (hw : s.wide) (kw : t.wide) :
    Calls Try.prog 127 #[v, u] w fun e w' => e = .returned (.bool (decide (s = t))) ∧ Below w.heap.size w w' := by
  obtain ⟨a1, n1, c1, a2, n2, c2, a3, n3, c3, F1, F2, F3, rfl, h1, h2, h3, _⟩ := h
  obtain ⟨b1, m1, d1, b2, m2, d2, b3, m3, d3, G1, G2, G3, rfl, k1, k2, k3, _⟩ := k
  have H1 : Hid (RdI w a1 n1 s.hist F1 ∧ RdI w b1 m1 t.hist G1 ∧ n1 ≤ 140737488355328 ∧ m1 ≤ 140737488355328) := ⟨h1, k1, by rw [← h1.length]; exact hw.hist, by rw [← k1.length]; exact kw.hist⟩
  have H2 : Hid (RdI w a2 n2 s.regs F2 ∧ RdI w b2 m2 t.regs G2 ∧ n2 ≤ 140737488355328 ∧ m2 ≤ 140737488355328) := ⟨h2, k2, by rw [← h2.length]; exact hw.regs, by rw [← k2.length]; exact kw.regs⟩
  have H3 : Hid (RdII w a3 n3 s.rows F3 ∧ RdII w b3 m3 t.rows G3 ∧ n3 ≤ 140737488355328 ∧ m3 ≤ 140737488355328) := ⟨h3, k3, by rw [← h3.length]; exact hw.rows, by rw [← k3.length]; exact kw.rows⟩
  have hn3 : n3 ≤ 140737488355328 := H3.out.2.2.1
  have hm3 : m3 ≤ 140737488355328 := H3.out.2.2.2
  have HW : Hid (s.wide ∧ t.wide) := ⟨hw, kw⟩
  clear h1 h2 h3 k1 k2 k3 hw kw
  have HT : Hid (_ ∧ _ ∧ _) := two_made w #[.int .i64 s.count, .int .i64 s.sum, .int .i64 s.min, .int .i64 s.max, .slice a1 n1 c1, .slice a2 n2 c2, .slice a3 n3 c3] #[.int .i64 t.count, .int .i64 t.sum, .int .i64 t.min, .int .i64 t.max, .slice b1 m1 d1, .slice b2 m2 d2, .slice b3 m3 d3] 28 28
  obtain ⟨d, hd⟩ : ∃ d, d = decide (s = t) := ⟨_, rfl⟩
  rw [← hd]
  have HD : Hid (d = decide (s = t)) := hd
  clear hd
  go_enter Try.func127, Try.ntmps127
  by_cases q1 : s.count = t.count
  rotate_left
  · have q' : (s.count != t.count) = true := by simpa using q1
    have HN : Hid (d = false) := by show d = _; rw [HD.out]; exact dec_false (fun e => q1 (by rw [e]))
    clear q1
    go_wp2
    go_ret
    exact ⟨ret_bool HN.out.symm, HT.out.2.2⟩
  have Q1 : Hid (s.count = t.count) := q1
  have q1' : (s.count != t.count) = false := by simpa using q1
  clear q1
  by_cases q2 : s.sum = t.sum
  rotate_left
  · have q' : (s.sum != t.sum) = true := by simpa using q2
    have HN : Hid (d = false) := by show d = _; rw [HD.out]; exact dec_false (fun e => q2 (by rw [e]))
    clear q2
    go_wp2
    go_ret
    exact ⟨ret_bool HN.out.symm, HT.out.2.2⟩
  have Q2 : Hid (s.sum = t.sum) := q2
  have q2' : (s.sum != t.sum) = false := by simpa using q2
  clear q2
  by_cases q3 : s.min = t.min
  rotate_left
  · have q' : (s.min != t.min) = true := by simpa using q3
    have HN : Hid (d = false) := by show d = _; rw [HD.out]; exact dec_false (fun e => q3 (by rw [e]))
    clear q3
    go_wp2
    go_ret
    exact ⟨ret_bool HN.out.symm, HT.out.2.2⟩
  have Q3 : Hid (s.min = t.min) := q3
  have q3' : (s.min != t.min) = false := by simpa using q3
  clear q3
  by_cases q4 : s.max = t.max
  rotate_left
  · have q' : (s.max != t.max) = true := by simpa using q4
    have HN : Hid (d = false) := by show d = _; rw [HD.out]; exact dec_false (fun e => q4 (by rw [e]))
    clear q4
    go_wp2
    go_ret
    exact ⟨ret_bool HN.out.symm, HT.out.2.2⟩
  have Q4 : Hid (s.max = t.max) := q4
  have q4' : (s.max != t.max) = false := by simpa using q4
  clear q4
  go_wp2_with fail
  refine (l1Same_any a1 b1 n1 m1 c1 d1 s.hist t.hist F1 G1 _ (H1.out.1.below HT.out.2.2) (H1.out.2.1.below HT.out.2.2) H1.out.2.2.1 H1.out.2.2.2).mono ?_
  rintro e w1 ⟨rfl, hb1⟩
  have HB1 : Hid (Boxes w #[.int .i64 s.count, .int .i64 s.sum, .int .i64 s.min, .int .i64 s.max, .slice a1 n1 c1, .slice a2 n2 c2, .slice a3 n3 c3] #[.int .i64 t.count, .int .i64 t.sum, .int .i64 t.min, .int .i64 t.max, .slice b1 m1 d1, .slice b2 m2 d2, .slice b3 m3 d3] 28 w1) := ⟨HT.out.1.below hb1, HT.out.2.1.below hb1, Below.next HT.out.2.2 hb1⟩
  clear hb1 HT
  cases e5 : decide (s.hist = t.hist)
  · have HN : Hid (d = false) := by show d = _; rw [HD.out]; exact dec_false (fun e => by rw [e] at e5; simp at e5)
    clear e5
    go_wp2
    go_ret
    exact ⟨ret_bool HN.out.symm, HB1.out.bel⟩
  have Q5 : Hid (s.hist = t.hist) := (show s.hist = t.hist from of_decide_eq_true e5)
  clear e5
  have x5 := HB1.out.fst.cell 5
  have y5 := HB1.out.snd.cell 5
  simp only [aT, aS, aZ] at x5 y5
  go_wp2_with fail
  refine (l1Same_any a2 b2 n2 m2 c2 d2 s.regs t.regs F2 G2 _ (H2.out.1.below HB1.out.bel) (H2.out.2.1.below HB1.out.bel) H2.out.2.2.1 H2.out.2.2.2).mono ?_
  rintro e w2 ⟨rfl, hb2⟩
  have HB2 : Hid (Boxes w #[.int .i64 s.count, .int .i64 s.sum, .int .i64 s.min, .int .i64 s.max, .slice a1 n1 c1, .slice a2 n2 c2, .slice a3 n3 c3] #[.int .i64 t.count, .int .i64 t.sum, .int .i64 t.min, .int .i64 t.max, .slice b1 m1 d1, .slice b2 m2 d2, .slice b3 m3 d3] 28 w2) := HB1.out.below hb2
  clear hb2 x5 y5 HB1
  cases e6 : decide (s.regs = t.regs)
  · have HN : Hid (d = false) := by show d = _; rw [HD.out]; exact dec_false (fun e => by rw [e] at e6; simp at e6)
    clear e6
    go_wp2
    go_ret
    exact ⟨ret_bool HN.out.symm, HB2.out.bel⟩
  have Q6 : Hid (s.regs = t.regs) := (show s.regs = t.regs from of_decide_eq_true e6)
  clear e6
  have x6 := HB2.out.fst.cell 6
  have y6 := HB2.out.snd.cell 6
  simp only [aT, aS, aZ] at x6 y6
  by_cases q7 : n3 = m3
  rotate_left
  · have q7' : ((n3 : Int) != (m3 : Int)) = true := by simp; omega
    have HN : Hid (d = false) := by show d = _; rw [HD.out]; exact dec_false (fun e => q7 (by rw [← H3.out.1.length, ← H3.out.2.1.length, e]))
    clear q7
    go_wp2
    go_ret
    exact ⟨ret_bool HN.out.symm, HB2.out.bel⟩
  subst q7
  have q7' : ((n3 : Int) != (n3 : Int)) = false := by simp
  go_wp2
  clear x6 y6 q7'
  go_loopw [5] (fun i wr => ∃ k : Nat, k ≤ n3 ∧ i = .int .i64 k ∧ Hid (s.rows.take k = t.rows.take k) ∧ Hid (Boxes w #[.int .i64 s.count, .int .i64 s.sum, .int .i64 s.min, .int .i64 s.max, .slice a1 n1 c1, .slice a2 n2 c2, .slice a3 n3 c3] #[.int .i64 t.count, .int .i64 t.sum, .int .i64 t.min, .int .i64 t.max, .slice b1 m1 d1, .slice b2 m2 d2, .slice b3 n3 d3] 28 wr)) (fun i _ => n3 - (intOf i).toNat)
  case atStart => exact ⟨0, by omega, rfl, rfl, HB2.out⟩
  case round =>
    clear HB2
    obtain ⟨k, hk, rfl, HK, HB⟩ := hrel
    have x6 := HB.out.fst.cell 6
    simp only [aT, aS, aZ] at x6
    by_cases hlt : k < n3
    · obtain ⟨p1, f1, X1, rfl, hm1⟩ : ∃ b off F', a3 = some ⟨b, off, none⟩ ∧ RdM w (s.rows.map ints) b off F' := by
        rcases H3.out.1.cells with ⟨h0, _⟩ | ⟨b, off, F', _, e, _, hm⟩
        · omega
        · exact ⟨b, off, F', e, hm⟩
      obtain ⟨p2, f2, X2, rfl, hm2⟩ : ∃ b off F', b3 = some ⟨b, off, none⟩ ∧ RdM w (t.rows.map ints) b off F' := by
        rcases H3.out.2.1.cells with ⟨h0, _⟩ | ⟨b, off, F', _, e, _, hm⟩
        · omega
        · exact ⟨b, off, F', e, hm⟩
      obtain ⟨e1, l1, g1, Y1, hc1, hr1, _⟩ := RdII.row hm1 H3.out.1.length k hlt
      obtain ⟨e2, l2, g2, Y2, hc2, hr2, _⟩ := RdII.row hm2 H3.out.2.1.length k hlt
      have hp1 : p1 < w.heap.size := World.block_lt_of_cell? _ _ hc1
      have hp2 : p2 < w.heap.size := World.block_lt_of_cell? _ _ hc2
      have HC : Hid (∀ W, Boxes w #[.int .i64 s.count, .int .i64 s.sum, .int .i64 s.min, .int .i64 s.max, .slice a1 n1 c1, .slice a2 n2 c2, .slice (some ⟨p1, f1, none⟩) n3 c3] #[.int .i64 t.count, .int .i64 t.sum, .int .i64 t.min, .int .i64 t.max, .slice b1 m1 d1, .slice b2 m2 d2, .slice (some ⟨p2, f2, none⟩) n3 d3] 28 W → W.cell? ⟨w.heap.size, 6, none⟩ = some (.slice (some ⟨p1, f1, none⟩) n3 c3) ∧ W.cell? ⟨w.heap.size + 1, 6, none⟩ = some (.slice (some ⟨p2, f2, none⟩) n3 d3) ∧ W.cell? ⟨p1, f1 + k, none⟩ = some (.slice e1 l1 g1) ∧ W.cell? ⟨p2, f2 + k, none⟩ = some (.slice e2 l2 g2)) := fun W b =>
        ⟨by rw [b.fst.cell]; rfl, by rw [b.snd.cell]; rfl, (b.bel.cell (by exact hp1)).trans hc1, (b.bel.cell (by exact hp2)).trans hc2⟩
      have HQ : Hid (RdI w e1 l1 (s.rows.getD k []) Y1 ∧ RdI w e2 l2 (t.rows.getD k []) Y2 ∧ l1 ≤ 140737488355328 ∧ l2 ≤ 140737488355328) := ⟨hr1, hr2, by rw [← hr1.length]; exact HW.out.1.row _ (mem_getD (by rw [H3.out.1.length]; exact hlt)), by rw [← hr2.length]; exact HW.out.2.row _ (mem_getD (by rw [H3.out.2.1.length]; exact hlt))⟩
      have HS : Hid (Boxes w #[.int .i64 s.count, .int .i64 s.sum, .int .i64 s.min, .int .i64 s.max, .slice a1 n1 c1, .slice a2 n2 c2, .slice (some ⟨p1, f1, none⟩) n3 c3] #[.int .i64 t.count, .int .i64 t.sum, .int .i64 t.min, .int .i64 t.max, .slice b1 m1 d1, .slice b2 m2 d2, .slice (some ⟨p2, f2, none⟩) n3 d3] 28 wr.drew) := HB.out.drew
      clear hc1 hc2 hr1 hr2 hm1 hm2
      go_wp2
      clear x6
      refine wp_region_held (S := Boxes w #[.int .i64 s.count, .int .i64 s.sum, .int .i64 s.min, .int .i64 s.max, .slice a1 n1 c1, .slice a2 n2 c2, .slice (some ⟨p1, f1, none⟩) n3 c3] #[.int .i64 t.count, .int .i64 t.sum, .int .i64 t.min, .int .i64 t.max, .slice b1 m1 d1, .slice b2 m2 d2, .slice (some ⟨p2, f2, none⟩) n3 d3] 28) (by kernel_rfl) ?_
      change wpAnyH _ _ _ _ _ _ _ _ (World.drew _)
      refine takeH (o := ?o1) 0 (.pointer (some ⟨w.heap.size, 6, none⟩)) ?h1 ?r1
      case h1 => simp only [aT, aZ]; rfl
      refine ⟨_, by simp [Act.put]; rfl, by kernel_rfl, by kernel_rfl, by kernel_rfl, fun _ _ _ h => h, (.inl ⟨rfl, fun W _ => by go_simp⟩), HS.out, ?_⟩
      refine takeH (o := ?o2) 1 (.slice (some ⟨p1, f1, none⟩) n3 c3) ?h2 ?r2
      case h2 => simp only [aT, aS, aZ]; rfl
      refine ⟨_, by simp [Act.put]; rfl, by kernel_rfl, by kernel_rfl, by kernel_rfl, fun _ _ _ h => h, (.inl ⟨rfl, fun W hW => by have c := (HC.out W hW).1; go_simp⟩), HS.out, ?_⟩
      refine takeH (o := ?o3) 2 (.int .i64 k) ?h3 ?r3
      case h3 => simp only [aT, aS, aZ]; rfl
      refine ⟨_, by simp [Act.put]; rfl, by kernel_rfl, by kernel_rfl, by kernel_rfl, fun _ _ _ h => h, (.inl ⟨rfl, fun W _ => by go_simp⟩), HS.out, ?_⟩
      refine takeH (o := ?o4) 3 (.pointer (some ⟨p1, f1 + k, none⟩)) ?h4 ?r4
      case h4 => simp only [aT, aS, aZ]; rfl
      refine ⟨_, by simp [Act.put]; rfl, by kernel_rfl, by kernel_rfl, by kernel_rfl, fun _ _ _ h => h, (.inl ⟨rfl, fun W _ => by go_simp⟩), HS.out, ?_⟩
      refine takeH (o := ?o5) 4 (.slice e1 l1 g1) ?h5 ?r5
      case h5 => simp only [aT, aS, aZ]; rfl
      refine ⟨_, by simp [Act.put]; rfl, by kernel_rfl, by kernel_rfl, by kernel_rfl, fun _ _ _ h => h, (.inl ⟨rfl, fun W hW => by have c := (HC.out W hW).2.2.1; go_simp⟩), HS.out, ?_⟩
      refine takeH (o := ?o6) 5 (.pointer (some ⟨w.heap.size + 1, 6, none⟩)) ?h6 ?r6
      case h6 => simp only [aT, aS, aZ]; rfl
      refine ⟨_, by simp [Act.put]; rfl, by kernel_rfl, by kernel_rfl, by kernel_rfl, fun _ _ _ h => h, (.inl ⟨rfl, fun W _ => by go_simp⟩), HS.out, ?_⟩
      refine takeH (o := ?o7) 6 (.slice (some ⟨p2, f2, none⟩) n3 d3) ?h7 ?r7
      case h7 => simp only [aT, aS, aZ]; rfl
      refine ⟨_, by simp [Act.put]; rfl, by kernel_rfl, by kernel_rfl, by kernel_rfl, fun _ _ _ h => h, (.inl ⟨rfl, fun W hW => by have c := (HC.out W hW).2.1; go_simp⟩), HS.out, ?_⟩
      refine takeH (o := ?o8) 7 (.int .i64 k) ?h8 ?r8
      case h8 => simp only [aT, aS, aZ]; rfl
      refine ⟨_, by simp [Act.put]; rfl, by kernel_rfl, by kernel_rfl, by kernel_rfl, fun _ _ _ h => h, (.inl ⟨rfl, fun W _ => by go_simp⟩), HS.out, ?_⟩
      refine takeH (o := ?o9) 8 (.pointer (some ⟨p2, f2 + k, none⟩)) ?h9 ?r9
      case h9 => simp only [aT, aS, aZ]; rfl
      refine ⟨_, by simp [Act.put]; rfl, by kernel_rfl, by kernel_rfl, by kernel_rfl, fun _ _ _ h => h, (.inl ⟨rfl, fun W _ => by go_simp⟩), HS.out, ?_⟩
      refine takeH (o := ?o10) 9 (.slice e2 l2 g2) ?h10 ?r10
      case h10 => simp only [aT, aS, aZ]; rfl
      refine ⟨_, by simp [Act.put]; rfl, by kernel_rfl, by kernel_rfl, by kernel_rfl, fun _ _ _ h => h, (.inl ⟨rfl, fun W hW => by have c := (HC.out W hW).2.2.2; go_simp⟩), HS.out, ?_⟩
      refine onlyH (o := ?o11) 10 (by kernel_rfl) ?h11 ?r11
      case h11 => simp only [aT, aS, aZ]; rfl
      intro K hK
      cases ee : decide (s.rows.getD k [] = t.rows.getD k [])
      · have HN : Hid (d = false) := by show d = _; rw [HD.out]; exact dec_false (fun e => by rw [e] at ee; simp at ee)
        refine op_call2 151 _ _ _ Try.f151 (fun w' => Below wr.drew.heap.size wr.drew w') (.bool false) rfl rfl Try.func151 (by kernel_rfl) (by kernel_rfl) (by rw [← ee]; exact l1Same_any e1 e2 l1 l2 g1 g2 _ _ Y1 Y2 wr.drew (HQ.out.1.below HB.out.bel.drew) (HQ.out.2.1.below HB.out.bel.drew) HQ.out.2.2.1 HQ.out.2.2.2) ⟨_, by simp [Act.put]; rfl, ?_⟩
        intro W5 b5
        have HB5 : Hid (Boxes w #[.int .i64 s.count, .int .i64 s.sum, .int .i64 s.min, .int .i64 s.max, .slice a1 n1 c1, .slice a2 n2 c2, .slice (some ⟨p1, f1, none⟩) n3 c3] #[.int .i64 t.count, .int .i64 t.sum, .int .i64 t.min, .int .i64 t.max, .slice b1 m1 d1, .slice b2 m2 d2, .slice (some ⟨p2, f2, none⟩) n3 d3] 28 W5) := HS.out.below b5
        refine hK _ _ ⟨HB5.out, ?_⟩
        clear hK b5 ee
        refine takeH (o := ?o12) 11 (.bool true) ?h12 ?r12
        case h12 => simp only [aT, aS, aZ]; rfl
        refine ⟨_, by simp [Act.put]; rfl, by kernel_rfl, by kernel_rfl, by kernel_rfl, fun _ _ _ h => h, (.inl ⟨rfl, fun W _ => by go_simp⟩), HB5.out, ?_⟩
        refine wpAnyH_done (by kernel_rfl) ?_ _
        go_wp2
        go_ret
        exact ⟨ret_bool HN.out.symm, HB5.out.bel⟩
      · have HK2 : Hid (s.rows.take (k + 1) = t.rows.take (k + 1)) := eqII_step (by rw [H3.out.1.length, H3.out.2.1.length]) (by rw [H3.out.1.length]; exact hlt) HK.out (of_decide_eq_true ee)
        refine op_call2 151 _ _ _ Try.f151 (fun w' => Below wr.drew.heap.size wr.drew w') (.bool true) rfl rfl Try.func151 (by kernel_rfl) (by kernel_rfl) (by rw [← ee]; exact l1Same_any e1 e2 l1 l2 g1 g2 _ _ Y1 Y2 wr.drew (HQ.out.1.below HB.out.bel.drew) (HQ.out.2.1.below HB.out.bel.drew) HQ.out.2.2.1 HQ.out.2.2.2) ⟨_, by simp [Act.put]; rfl, ?_⟩
        intro W5 b5
        have HB5 : Hid (Boxes w #[.int .i64 s.count, .int .i64 s.sum, .int .i64 s.min, .int .i64 s.max, .slice a1 n1 c1, .slice a2 n2 c2, .slice (some ⟨p1, f1, none⟩) n3 c3] #[.int .i64 t.count, .int .i64 t.sum, .int .i64 t.min, .int .i64 t.max, .slice b1 m1 d1, .slice b2 m2 d2, .slice (some ⟨p2, f2, none⟩) n3 d3] 28 W5) := HS.out.below b5
        refine hK _ _ ⟨HB5.out, ?_⟩
        clear hK b5 ee
        refine takeH (o := ?o13) 11 (.bool false) ?h13 ?r13
        case h13 => simp only [aT, aS, aZ]; rfl
        refine ⟨_, by simp [Act.put]; rfl, by kernel_rfl, by kernel_rfl, by kernel_rfl, fun _ _ _ h => h, (.inl ⟨rfl, fun W _ => by go_simp⟩), HB5.out, ?_⟩
        refine wpAnyH_done (by kernel_rfl) ?_ _
        go_wp2
        go_roundw
        case rel => exact ⟨k + 1, by omega, by go_num, HK2, HB5⟩
        case measure => simp [intOf]; omega
    · obtain rfl : k = n3 := by omega
      have HE : Hid (s.rows = t.rows) := by
        have := HK.out
        rw [List.take_of_length_le (Nat.le_of_eq H3.out.1.length), List.take_of_length_le (Nat.le_of_eq H3.out.2.1.length)] at this
        exact this
      have HN : Hid (d = true) := by show d = _; rw [HD.out]; exact dec_true (Sk.eq_of Q1.out Q2.out Q3.out Q4.out Q5.out Q6.out HE.out)
      go_wp2
      go_ret
      exact ⟨ret_bool HN.out.symm, HB.out.bel⟩
end Go.Proofs.Ytjndcfamfminkab
