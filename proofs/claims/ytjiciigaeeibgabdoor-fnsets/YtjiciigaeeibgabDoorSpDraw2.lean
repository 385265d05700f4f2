/- The walks through the model's drawing of two sets, and of a set and a number. No statement of the seat is proved here. -/
import Derived.Test.YtjiciigaeeibgabDoorSpDraw
namespace Go.Proofs.YtjiciigaeeibgabDoor
open Go.RowKit
theorem cur_agree5 {w w' : World} {g : Nat} {a : Option Addr} {len cap : Nat} {zs : List Int} {i h : Int} (C : Cur w g a len cap zs i h) (_hg : g < w.heap.size) (e : w'.heap[g]? = w.heap[g]?) (hb : ∀ b, b < w.heap.size → (∃ off, a = some ⟨b, off, none⟩ ∧ 0 < len) → w'.heap[b]? = w.heap[b]?) : Cur w' g a len cap zs i h := by
  refine ⟨(World.cell?_of_block (w := w) (a := ⟨g, 0, none⟩) e).trans C.c0, (World.cell?_of_block (w := w) (a := ⟨g, 1, none⟩) e).trans C.c1, (World.cell?_of_block (w := w) (a := ⟨g, 2, none⟩) e).trans C.c2, (World.frozen?_of_block (w := w) (a := ⟨g, 1, none⟩) e).trans C.f1, (World.frozen?_of_block (w := w) (a := ⟨g, 2, none⟩) e).trans C.f2, C.i0, C.i1, ?_, C.ap⟩
  refine ⟨C.rd.length, C.rd.range, ?_⟩
  rcases C.rd.cells with h0 | ⟨b, off, ha, hc⟩
  · exact .inl h0
  · by_cases hl : len = 0
    · exact .inl hl
    · have hlt : b < w.heap.size := World.block_lt_of_cell? _ _ (hc 0 (by omega))
      exact .inr ⟨b, off, ha, fun j hj => (World.cell?_of_block (w := w) (a := ⟨b, off + j, none⟩) (hb b hlt ⟨off, ha, by omega⟩)).trans (hc j hj)⟩
theorem cur_lt5 {w : World} {q : Nat} {a : Option Addr} {len cap : Nat} {zs : List Int} {i h : Int} (C : Cur w q a len cap zs i h) (b : Nat) (hb : ∃ off, a = some ⟨b, off, none⟩ ∧ 0 < len) : b < w.heap.size := by
  obtain ⟨off, ha, hp⟩ := hb
  rcases C.rd.cells with h0 | ⟨b', off', ha', hc⟩
  · omega
  · rw [ha] at ha'
    cases ha'
    exact World.block_lt_of_cell? _ _ (hc 0 hp)
theorem DrP.app {w : World} {q : Nat} {a : Option Addr} {len cap : Nat} {zs : List Int} {v v' : Value} {ps : Sp} {W W' : World} {y z : Int} {ob : Obj} (D : DrP w q a len cap zs v ps W) (ha : ∀ b, (∃ off, a = some ⟨b, off, none⟩ ∧ 0 < len) → b < w.heap.size) (hown : W'.ownsRow w.heap.size 39 2 v' (ps.length + 1) ((flat ps).map (Value.int .i64) ++ [.int .i64 y, .int .i64 z])) (hgrow : (W.alloc ob).grownBy W' v.ownBlock) : DrP w q a len cap zs v' (ps ++ [(y, z)]) W' := by
  have D' := D.alloc ob
  obtain ⟨i, h, C⟩ := D'.cur
  have hne : ∀ k, k < w.heap.size → some k ≠ v.ownBlock := fun k hk e => by have := (D'.own.lt k e.symm).1; omega
  have hs := D'.grown.size
  have hq := D'.lt
  refine ⟨?_, ⟨i, h, ?_⟩, ⟨hgrow.os.trans D'.grown.os, hgrow.tape.trans D'.grown.tape, hgrow.output.trans D'.grown.output, Nat.le_trans D'.grown.size hgrow.size, fun k hk hn => (hgrow.block k (by omega) (hne k hk)).trans (D'.grown.block k hk hn)⟩, D.lt⟩
  · rw [flat_append, List.map_append, List.length_append]
    exact hown
  · exact cur_agree5 C (by omega) (hgrow.block q (by omega) (hne q hq)) (fun b hb hx => hgrow.block b hb (hne b (ha b hx)))
set_option maxRecDepth 100000 in
set_option maxHeartbeats 4000000 in
theorem l5Draw_any (q : Nat) (a : Option Addr) (len cap : Nat) (zs : List Int) (i h : Int) (w : World) (C : Cur w q a len cap zs i h) (hlen : len ≤ 1048576) :
    Calls Tryd.prog 34 #[.pointer (some ⟨q, 0, none⟩)] w fun e w' => DrewP w q a len cap zs 8 e w' := by
  obtain ⟨t0, hi, hz0, hz1, hz2⟩ := info_parts infoSpan
  have HC : Hid (Cur w q a len cap zs i h) := C
  have HA : Hid (∀ b, (∃ off, a = some ⟨b, off, none⟩ ∧ 0 < len) → b < w.heap.size) := cur_lt5 C
  clear C
  go_enter Tryd.func34, Tryd.ntmps34
  go_wp2_with fail
  refine (l5Right_any q a len cap zs i h _ HC.out hlen).mono ?_
  rintro e w1 ⟨v, ps, rfl, D1, hl1, hne1⟩
  have HD1 : Hid (DrP w q a len cap zs v ps w1 ∧ v ≠ .slice none 0 0) := ⟨D1, hne1⟩
  clear D1 hne1 HC
  obtain ⟨i1, h1, C1⟩ := HD1.out.1.cur
  go_wp2_with fail
  refine (once_any q a len cap zs i1 h1 8 _ C1 hlen (by omega) (by omega)).mono ?_
  rintro e w2 ⟨b, i2, h2, rfl, C2, g2⟩
  have HD2 : Hid (DrP w q a len cap zs v ps w2) := HD1.out.1.next C2 g2
  have HC2 : Hid (Cur w2 q a len cap zs i2 h2) := C2
  clear C1 C2 g2
  cases b
  · go_wp2
    go_ret
    exact ⟨_, ps, rfl, HD2.out, by omega, HD1.out.2⟩
  go_wp2_with fail
  have hqw2 : q < w2.heap.size := World.block_lt_of_cell? _ _ HC2.out.c0
  refine (pickInt_cur q w2.heap.size 3 a len cap zs i2 h2 [-1, 3, 10000] _ (HC2.out.alloc _) hlen (fun j hj => lit_ints w2 [-1, 3, 10000] _ j hj) (by omega) 3 rfl (by omega) (by omega)).mono ?_
  rintro e w3 ⟨y, i3, h3, _, rfl, C3, g3⟩
  have HD3 : Hid (DrP w q a len cap zs v ps w3) := (HD2.out.alloc _).next C3 g3
  have HC3 : Hid (Cur w3 q a len cap zs i3 h3) := C3
  clear C3 g3 HD2 HC2 hqw2
  go_wp2_with fail
  have hqw3 : q < w3.heap.size := World.block_lt_of_cell? _ _ HC3.out.c0
  refine (pickInt_cur q w3.heap.size 3 a len cap zs i3 h3 [5, 10000, 9223372036854775807] _ (HC3.out.alloc _) hlen (fun j hj => lit_ints w3 [5, 10000, 9223372036854775807] _ j hj) (by omega) 3 rfl (by omega) (by omega)).mono ?_
  rintro e w4 ⟨z, i4, h4, _, rfl, C4, g4⟩
  have HD4 : Hid (DrP w q a len cap zs v ps w4) := (HD3.out.alloc _).next C4 g4
  clear C4 g4 HD3 HC3 hqw3
  have hsz : w.heap.size ≤ w4.heap.size := HD4.out.grown.size
  go_wp2_with (first | go_skip | (with_reducible refine stopAppend2 rfl ?_))
  refine Stop.intro (wpList_append_own _ rfl _ _ 24 rfl w.heap.size 39 t0 (.agg #[.int .i64 0, .int .i64 0]) 2 16 Tryd.underlying24 hi hz0 hz1 hz2 rfl (by decide) _ ps.length ((flat ps).map (Value.int .i64)) rfl (HD4.out.own.alloc _) ⟨w4.heap.size, 0, none⟩ 1 1 [.int .i64 y, .int .i64 z] rfl rfl (cell_new2 _ _ _ _) (by intro u hu; simp at hu; rcases hu with rfl | rfl <;> rfl) (by unfold maxLen; omega) (by omega) (by simp; omega) ?_)
  intro v5 w5 hown hgrow _
  have HD5 : Hid (DrP w q a len cap zs v5 (ps ++ [(y, z)]) w5 ∧ v5 ≠ .slice none 0 0) := ⟨HD4.out.app HA.out hown hgrow, put_ne _ _ _ _ _ _ hown (by omega)⟩
  clear hown hgrow HD4
  go_wp2
  go_ret
  exact ⟨_, ps ++ [(y, z)], rfl, HD5.out.1, by simp; omega, HD5.out.2⟩
/-- A drawn set, as the law has it. -/
structure SetAt (W : World) (a : Option Addr) (l c : Nat) (ps : Sp) : Prop where
  rd : ∃ F, RdP W a l ps F
  len : l ≤ 8
  cap : l ≤ c
  some : a = none → c = 0
theorem SetAt.below {W W' : World} {a : Option Addr} {l c : Nat} {ps : Sp} (h : SetAt W a l c ps) (b : Below W.heap.size W W') : SetAt W' a l c ps := by
  obtain ⟨F, hF⟩ := h.rd
  exact ⟨⟨F, hF.below b⟩, h.len, h.cap, h.some⟩
theorem DrP.at {w : World} {q : Nat} {a : Option Addr} {len cap : Nat} {zs : List Int} {v : Value} {ps : Sp} {W : World} (D : DrP w q a len cap zs v ps W) (hn : ps.length ≤ 8) (hne : v ≠ .slice none 0 0) : ∃ g c, v = .slice (some ⟨g, 0, none⟩) ps.length c ∧ SetAt W (some ⟨g, 0, none⟩) ps.length c ps ∧ ∃ F, RdP W (some ⟨g, 0, none⟩) ps.length ps F ∧ ∀ b ∈ F, w.heap.size ≤ b := by
  obtain ⟨a', c', F, e, hr, ho, _⟩ := rdP_of_own D.own
  rcases D.own.2 with ⟨e2, _⟩ | ⟨g, cp, cur, e2, h2, h3, h4, _⟩
  · exact absurd e2 hne
  · rw [e2] at e
    cases e
    exact ⟨g, c', e2, ⟨⟨F, hr⟩, hn, h4, fun e => by cases e⟩, F, hr, ho.ge⟩
set_option maxHeartbeats 2000000 in
theorem l5Two_any (a : Option Addr) (len cap : Nat) (zs : List Int) (w : World) (hR : RdB w a len zs) (hlen : len ≤ 1048576) :
    Calls Tryd.prog 17 #[.slice a len cap] w fun e w' => ∃ a1 l1 c1 ps a2 l2 c2 qs, e = .returned (.tuple #[.slice a1 l1 c1, .slice a2 l2 c2]) ∧ SetAt w' a1 l1 c1 ps ∧ SetAt w' a2 l2 c2 qs ∧ Below w.heap.size w w' := by
  have HR : Hid (RdB w a len zs) := hR
  clear hR
  go_enter Tryd.func17, Tryd.ntmps17
  go_wp2_with fail
  refine (l1New_any a len cap zs _ HR.out hlen).mono ?_
  rintro e w1 ⟨rfl, ⟨h, C1⟩, b1⟩
  have HB1 : Hid (Below w.heap.size w w1) := b1
  go_wp2_with fail
  refine (l5Draw_any w.heap.size a len cap zs 0 h _ C1 hlen).mono ?_
  rintro e w2 ⟨v, ps, rfl, D2, hl2, hne2⟩
  obtain ⟨g, c, rfl, S2, F, r2, f2⟩ := D2.at hl2 hne2
  obtain ⟨i2, h2, C2⟩ := D2.cur
  have HB2 : Hid (Below w.heap.size w w2) := HB1.out.grown D2.grown HB1.out.size (fun k hk => by simp at hk; omega)
  have HS2 : Hid (SetAt w2 (some ⟨g, 0, none⟩) ps.length c ps ∧ RdP w2 (some ⟨g, 0, none⟩) ps.length ps F ∧ (∀ b ∈ F, w1.heap.size ≤ b) ∧ w.heap.size < w1.heap.size) := ⟨S2, r2, f2, D2.lt⟩
  clear S2 r2 f2 C1 b1 D2 hne2
  go_wp2_with fail
  refine (l5Draw_any w.heap.size a len cap zs i2 h2 _ C2 hlen).mono ?_
  rintro e w3 ⟨v3, qs, rfl, D3, hl3, hne3⟩
  obtain ⟨g3, c3, rfl, S3, G, r3, f3⟩ := D3.at hl3 hne3
  have HE : Hid (SetAt w3 (some ⟨g, 0, none⟩) ps.length c ps ∧ SetAt w3 (some ⟨g3, 0, none⟩) qs.length c3 qs ∧ Below w.heap.size w w3) := ⟨⟨⟨F, HS2.out.2.1.grown HS2.out.2.2.1 D3.grown HS2.out.2.2.2⟩, HS2.out.1.len, HS2.out.1.cap, HS2.out.1.some⟩, S3, HB2.out.grown D3.grown HB2.out.size (fun k hk => by simp at hk; omega)⟩
  clear S3 r3 f3 D3 HS2 HB1 HB2 C2 hne3
  go_wp2
  go_ret2
  exact ⟨_, _, _, ps, _, _, _, qs, rfl, HE.out⟩
theorem drawSetJoin_any (a : Option Addr) (len cap : Nat) (zs : List Int) (w : World) (hR : RdB w a len zs) (hlen : len ≤ 1048576) :
    Calls Tryd.prog 5 #[.slice a len cap] w fun e w' => ∃ a1 l1 c1 ps a2 l2 c2 qs, e = .returned (.tuple #[.slice a1 l1 c1, .slice a2 l2 c2]) ∧ SetAt w' a1 l1 c1 ps ∧ SetAt w' a2 l2 c2 qs ∧ Below w.heap.size w w' := by
  have HR : Hid (RdB w a len zs) := hR
  clear hR
  go_enter Tryd.func5, Tryd.ntmps5
  go_wp2_with fail
  refine (l5Two_any a len cap zs _ HR.out hlen).mono ?_
  rintro e w1 ⟨a1, l1, c1, ps, a2, l2, c2, qs, rfl, h1, h2, h3⟩
  have HE : Hid (SetAt w1 a1 l1 c1 ps ∧ SetAt w1 a2 l2 c2 qs ∧ Below w.heap.size w w1) := ⟨h1, h2, h3⟩
  clear h1 h2 h3
  go_wp2
  go_ret2
  exact ⟨_, _, _, ps, _, _, _, qs, rfl, HE.out⟩
set_option maxHeartbeats 2000000 in
theorem l5Num_any (a : Option Addr) (len cap : Nat) (zs : List Int) (w : World) (hR : RdB w a len zs) (hlen : len ≤ 1048576) :
    Calls Tryd.prog 22 #[.slice a len cap] w fun e w' => ∃ a1 l1 c1 ps n, e = .returned (.tuple #[.slice a1 l1 c1, .int .i64 n]) ∧ SetAt w' a1 l1 c1 ps ∧ Below w.heap.size w w' := by
  have HR : Hid (RdB w a len zs) := hR
  clear hR
  go_enter Tryd.func22, Tryd.ntmps22
  go_wp2_with fail
  refine (l1New_any a len cap zs _ HR.out hlen).mono ?_
  rintro e w1 ⟨rfl, ⟨h, C1⟩, b1⟩
  have HB1 : Hid (Below w.heap.size w w1) := b1
  go_wp2_with fail
  refine (l5Draw_any w.heap.size a len cap zs 0 h _ C1 hlen).mono ?_
  rintro e w2 ⟨v, ps, rfl, D2, hl2, hne2⟩
  obtain ⟨g, c, rfl, S2, _⟩ := D2.at hl2 hne2
  obtain ⟨i2, h2, C2⟩ := D2.cur
  have HD2 : Hid (DrP w1 w.heap.size a len cap zs (.slice (some ⟨g, 0, none⟩) ps.length c) ps w2) := D2
  clear S2 C1 b1 D2
  go_wp2_with fail
  refine (l1Below_any w.heap.size a len cap zs i2 h2 22 _ C2 hlen (by omega) (by omega)).mono ?_
  rintro e w3 ⟨x1, i3, h3, rfl, _, _, C3, g3⟩
  have HD3 : Hid (DrP w1 w.heap.size a len cap zs (.slice (some ⟨g, 0, none⟩) ps.length c) ps w3) := HD2.out.next C3 g3
  clear C2 g3 HD2
  go_wp2_with fail
  refine (l1Below_any w.heap.size a len cap zs i3 h3 22 _ C3 hlen (by omega) (by omega)).mono ?_
  rintro e w4 ⟨x2, i4, h4, rfl, _, _, C4, g4⟩
  have HD4 : Hid (DrP w1 w.heap.size a len cap zs (.slice (some ⟨g, 0, none⟩) ps.length c) ps w4) := HD3.out.next C4 g4
  have HC4 : Hid (Cur w4 w.heap.size a len cap zs i4 h4) := C4
  clear C3 C4 g4 HD3
  go_wp2_with fail
  have hqw : w.heap.size < w4.heap.size := World.block_lt_of_cell? _ _ HC4.out.c0
  refine (pickInt_cur w.heap.size w4.heap.size 5 a len cap zs i4 h4 [x1, x2, 9999, 10000, -1] _ (HC4.out.alloc _) hlen (fun j hj => lit_ints w4 [x1, x2, 9999, 10000, -1] _ j hj) (by omega) 5 rfl (by omega) (by omega)).mono ?_
  rintro e w5 ⟨n, i5, h5, _, rfl, C5, g5⟩
  have HD5 : Hid (DrP w1 w.heap.size a len cap zs (.slice (some ⟨g, 0, none⟩) ps.length c) ps w5) := (HD4.out.alloc _).next C5 g5
  have HE : Hid (SetAt w5 (some ⟨g, 0, none⟩) ps.length c ps ∧ Below w.heap.size w w5) := by
    obtain ⟨g', c', e, S5, _⟩ := HD5.out.at hl2 hne2
    cases e
    exact ⟨S5, HB1.out.grown HD5.out.grown HB1.out.size (fun k hk => by simp at hk; omega)⟩
  clear C5 g5 HD5 HD4 HC4 hne2
  go_wp2
  go_ret2
  exact ⟨_, _, _, ps, n, rfl, HE.out⟩
theorem drawSetAdd_any (a : Option Addr) (len cap : Nat) (zs : List Int) (w : World) (hR : RdB w a len zs) (hlen : len ≤ 1048576) :
    Calls Tryd.prog 10 #[.slice a len cap] w fun e w' => ∃ a1 l1 c1 ps n, e = .returned (.tuple #[.slice a1 l1 c1, .int .i64 n]) ∧ SetAt w' a1 l1 c1 ps ∧ Below w.heap.size w w' := by
  have HR : Hid (RdB w a len zs) := hR
  clear hR
  go_enter Tryd.func10, Tryd.ntmps10
  go_wp2_with fail
  refine (l5Num_any a len cap zs _ HR.out hlen).mono ?_
  rintro e w1 ⟨a1, l1, c1, ps, n, rfl, h1, h2⟩
  have HE : Hid (SetAt w1 a1 l1 c1 ps ∧ Below w.heap.size w w1) := ⟨h1, h2⟩
  clear h1 h2
  go_wp2
  go_ret2
  exact ⟨_, _, _, ps, n, rfl, HE.out⟩
end Go.Proofs.YtjiciigaeeibgabDoor
