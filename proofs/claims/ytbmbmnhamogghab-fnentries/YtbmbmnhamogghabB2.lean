/- Several texts of mine, laid together. No statement of the seat is proved here. -/
import Derived.Test.YtbmbmnhamogghabB1
import Derived.Deep.DeepCutAuto
import Derived.Test.YtbmbmnhamogghabBase
import Derived.Deep.RegionLaw
/- The walk through the model's drawing of an entry. No statement of the seat is proved here. -/
namespace Go.Proofs.Ytbmbmnhamogghab
open Go.RowKit
/-- What a drawing of an entry tells. -/
def DrewEntry (w : World) (q : Nat) (a : Option Addr) (len cap : Nat) (zs : List Int) (e : Ending) (w' : World) : Prop :=
  ∃ ec x F G i' h', e = .returned (.agg ec) ∧ RdEn w' (.agg ec) x F G ∧ skCopy x ec ∧ x.ids.length ≤ 8 ∧ (∀ b ∈ F, w.heap.size ≤ b) ∧ (∀ b ∈ G, w.heap.size ≤ b) ∧ Cur w' q a len cap zs i' h' ∧ w.grownBy w' (some q)
/-- In the midst of a drawing: the entry lies in block L. -/
structure LocE (w : World) (q : Nat) (a : Option Addr) (len cap : Nat) (zs : List Int) (i h : Int) (L : Nat) (ec : Array Value) (x : En) (F G : List Nat) (W : World) : Prop where
  held : HeldR w q a len cap zs i h #[.int .i64 0, .int .i64 0, .slice none 0 0, .int .i64 0, .int .i64 0, .int .i64 0, .int .i64 0, .slice none 0 0, .slice none 0 0, .slice none 0 0] 30 W
  loc : Blk W L ec 30
  rd : RdEn W (.agg ec) x F G
  ge1 : ∀ b ∈ F, w.heap.size + 1 ≤ b
  ge2 : ∀ b ∈ G, w.heap.size + 1 ≤ b
  ap1 : L ∉ F
  ap2 : L ∉ G
  gt : w.heap.size < L
  copy : skCopy x ec
  len8 : x.ids.length ≤ 8
def MidE (w : World) (q : Nat) (a : Option Addr) (len cap : Nat) (zs : List Int) (L : Nat) (W : World) : Prop := ∃ i h ec x F G, LocE w q a len cap zs i h L ec x F G W
section
variable {w W W' : World} {q : Nat} {a : Option Addr} {len cap : Nat} {zs : List Int} {i h i' h' : Int} {L : Nat} {ec : Array Value} {x : En} {F G : List Nat}
theorem LocE.next (H : LocE w q a len cap zs i h L ec x F G W) (hq : q < w.heap.size) (C : Cur W' q a len cap zs i' h') (g : W.grownBy W' (some q)) : LocE w q a len cap zs i' h' L ec x F G W' := by
  have n1 : q ∉ F := fun hx => by have := H.ge1 _ hx; omega
  have n2 : q ∉ G := fun hx => by have := H.ge2 _ hx; omega
  have := H.gt
  exact ⟨H.held.next hq C g, H.loc.grown g (by omega), H.rd.agree (agree_grown g H.rd.lt1 n1) (agree_grown g H.rd.lt2 n2), H.ge1, H.ge2, H.ap1, H.ap2, H.gt, H.copy, H.len8⟩
theorem LocE.below (H : LocE w q a len cap zs i h L ec x F G W) (b : Below W.heap.size W W') : LocE w q a len cap zs i h L ec x F G W' := ⟨H.held.below b, H.loc.below b, H.rd.below b, H.ge1, H.ge2, H.ap1, H.ap2, H.gt, H.copy, H.len8⟩
theorem LocE.done (H : LocE w q a len cap zs i h L ec x F G W) (hq : q < w.heap.size) (ha : ∀ b, (∃ off, a = some ⟨b, off, none⟩ ∧ 0 < len) → b < w.heap.size) : DrewEntry w q a len cap zs (.returned (.agg ec)) (W.setRow w.heap.size ec) := by
  have n1 : w.heap.size ∉ F := fun hx => by have := H.ge1 _ hx; omega
  have n2 : w.heap.size ∉ G := fun hx => by have := H.ge2 _ hx; omega
  exact ⟨ec, x, F, G, i, h, rfl, H.rd.agree (Agree.row n1 ec) (Agree.row n2 ec), H.copy, H.len8, fun b hb => by (have := H.ge1 b hb; omega), fun b hb => by (have := H.ge2 b hb; omega), cur_row H.held.cur (by omega) (fun b hb => by have := ha b hb; omega), grown_row H.held.grown (Nat.le_refl _)⟩
/-- One cell of the entry is written. -/
theorem LocE.set (H : LocE w q a len cap zs i h L ec x F G W) (hq : q < w.heap.size) (ha : ∀ b, (∃ off, a = some ⟨b, off, none⟩ ∧ 0 < len) → b < w.heap.size) (j : Nat) (v : Value) {ec' : Array Value} {y : En} {F' : List Nat} (hic : ec.setIfInBounds j v = ec') (hr : RdEn (W.setCell ⟨L, j, none⟩ v) (.agg ec') y F' G) (hF : ∀ b ∈ F', w.heap.size + 1 ≤ b) (hA : L ∉ F') (hk : skCopy y ec') (h8 : y.ids.length ≤ 8) : LocE w q a len cap zs i h L ec' y F' G (W.setCell ⟨L, j, none⟩ v) := by
  subst hic
  have hgt := H.gt
  exact ⟨⟨H.held.res.setOther (by omega) j v, cur_cell H.held.cur (by omega) (fun b hb => by have := ha b hb; omega), grown_cell H.held.grown (by omega)⟩, H.loc.set j v, hr, hF, H.ge2, hA, H.ap2, H.gt, hk, h8⟩
theorem LocE.row (H : LocE w q a len cap zs i h L ec x F G W) (hq : q < w.heap.size) (ha : ∀ b, (∃ off, a = some ⟨b, off, none⟩ ∧ 0 < len) → b < w.heap.size) {ec' : Array Value} {y : En} {G' : List Nat} (hr : RdEn (W.setRow L ec') (.agg ec') y F G') (hG : ∀ b ∈ G', w.heap.size + 1 ≤ b) (hA : L ∉ G') (hk : skCopy y ec') (h8 : y.ids.length ≤ 8) : LocE w q a len cap zs i h L ec' y F G' (W.setRow L ec') := by
  have hgt := H.gt
  exact ⟨⟨H.held.res.setRowOther (by omega), cur_row H.held.cur (by omega) (fun b hb => by have := ha b hb; omega), grown_row H.held.grown (by omega)⟩, H.loc.setRow, hr, H.ge1, hG, H.ap1, hA, H.gt, hk, h8⟩
/-- What is copied stays so where the first three cells are others. -/
theorem skCopy_head {y : En} {u0 u1 u2 v0 v1 v2 a3 a4 a5 a6 a7 a8 a9 : Value} (h : skCopy x #[u0, u1, u2, a3, a4, a5, a6, a7, a8, a9]) (hs : y.sk = x.sk) : skCopy y #[v0, v1, v2, a3, a4, a5, a6, a7, a8, a9] := by
  rcases h with h | ⟨h, t0, t1, t2, e⟩
  · exact .inl (by rw [hs]; exact h)
  · simp only [Array.mk.injEq, List.cons.injEq, and_true] at e
    obtain ⟨_, _, _, rfl, rfl, rfl, rfl, rfl, rfl, rfl⟩ := e
    exact .inr ⟨by rw [hs]; exact h, v0, v1, v2, rfl⟩
end
theorem full_wideE {s : Sk} (h : s.full) : s.wide := ⟨by have := h.hist; omega, by have := h.regs; omega, by have := h.rows; omega, fun z hz => by have := h.row z hz; omega⟩
theorem enSizeD {cs : Array Value} (h : cs.size = 10) : (Try.prog.info? 30).map (·.size) = some cs.size := by rw [h]; exact infoEnA
theorem LocE.cells {w : World} {q : Nat} {a : Option Addr} {len cap : Nat} {zs : List Int} {i h : Int} {L : Nat} {ec : Array Value} {x : En} {F G : List Nat} {W : World} (H : LocE w q a len cap zs i h L ec x F G W) : ∃ e : Nat, e = 0 ∧ ec.size = 10 ∧ ec.all (·.oneCell') = true := by
  obtain ⟨b, l, c, a1, n1, c1, a2, n2, c2, a3, n3, c3, ev, _⟩ := H.rd
  injection ev with ev
  subst ev
  exact ⟨0, rfl, rfl, by simp [Value.oneCell']⟩
set_option maxRecDepth 200000 in
set_option maxHeartbeats 8000000 in
theorem l6Entry_any (q : Nat) (a : Option Addr) (len cap : Nat) (zs : List Int) (i h : Int) (w : World) (C : Cur w q a len cap zs i h) (hlen : len ≤ 1048576) :
    Calls Try.prog 52 #[.pointer (some ⟨q, 0, none⟩)] w fun e w' => DrewEntry w q a len cap zs e w' := by
  have hq : q < w.heap.size := World.block_lt_of_cell? _ _ C.c0
  have HA : Hid (∀ b, (∃ off, a = some ⟨b, off, none⟩ ∧ 0 < len) → b < w.heap.size) := cur_lt C
  have H0 : Hid (HeldR w q a len cap zs i h #[.int .i64 0, .int .i64 0, .slice none 0 0, .int .i64 0, .int .i64 0, .int .i64 0, .int .i64 0, .slice none 0 0, .slice none 0 0, .slice none 0 0] 30 (w.alloc (.cells #[.int .i64 0, .int .i64 0, .slice none 0 0, .int .i64 0, .int .i64 0, .int .i64 0, .int .i64 0, .slice none 0 0, .slice none 0 0, .slice none 0 0] 30))) := HeldR.made C _ _
  clear C
  go_enter Try.func52, Try.ntmps52
  go_wp2_with fail
  refine (l1Below_any q a len cap zs i h 3 _ H0.out.cur hlen (by omega) (by omega)).mono ?_
  rintro e w1 ⟨ag, i1, h1, rfl, _, _, C1, g1⟩
  have H1 : Hid (HeldR w q a len cap zs i1 h1 #[.int .i64 0, .int .i64 0, .slice none 0 0, .int .i64 0, .int .i64 0, .int .i64 0, .int .i64 0, .slice none 0 0, .slice none 0 0, .slice none 0 0] 30 w1) := H0.out.next hq C1 g1
  clear C1 g1 H0
  go_wp2_with fail
  refine (l6Right_any q a len cap zs i1 h1 _ H1.out.cur hlen).mono ?_
  rintro e w2 ⟨v, it, FI, i2, h2, rfl, rx, fx, ox, C2, g2⟩
  have H2 : Hid (HeldR w q a len cap zs i2 h2 #[.int .i64 0, .int .i64 0, .slice none 0 0, .int .i64 0, .int .i64 0, .int .i64 0, .int .i64 0, .slice none 0 0, .slice none 0 0, .slice none 0 0] 30 w2) := H1.out.next hq C2 g2
  have HX : Hid (RdIt w2 v it FI ∧ it.sk.full) := ⟨rx, fx⟩
  clear C2 g2 H1 rx fx ox
  go_wp2_with fail
  refine (entryOfSpec_z ag v it FI _ HX.out.1 (full_wideE HX.out.2)).mono ?_
  rintro e w3 ⟨⟨zv, F, G, rfl, ry, oF, oG, _, b3⟩, hz⟩
  obtain ⟨b, l, c, a1, n1, c1, a2, n2, c2, a3, n3, c3, rfl, hp, hr, hcp⟩ := ry
  obtain ⟨x, hx⟩ : ∃ x, x = it.entry ag := ⟨_, rfl⟩
  have HC : skCopy (it.entry ag) #[.int .i64 (it.entry ag).key, .int .i64 (it.entry ag).window, .slice b l c, .int .i64 (it.entry ag).sk.count, .int .i64 (it.entry ag).sk.sum, .int .i64 (it.entry ag).sk.min, .int .i64 (it.entry ag).sk.max, .slice a1 n1 c1, .slice a2 n2 c2, .slice a3 n3 c3] := by
    cases hok : it.entryOk ag
    · right
      have := hz hok
      simp only [Ending.returned.injEq, Value.tuple.injEq, Array.mk.injEq, List.cons.injEq, Value.agg.injEq] at this
      refine ⟨by rw [It.entry_not hok]; rfl, .int .i64 0, .int .i64 0, .slice none 0 0, ?_⟩
      simp only [Array.mk.injEq, List.cons.injEq]
      exact this.1
    · left
      rw [It.entry_yes hok]
      exact HX.out.2
  have H8 : (it.entry ag).ids.length ≤ 8 := by
    cases hok : it.entryOk ag
    · rw [It.entry_not hok]; simp [En.zero]
    · rw [It.entry_yes hok]; simp
  rw [← hx] at hp hr HC H8 ⊢
  have H3 : Hid (HeldR w q a len cap zs i2 h2 #[.int .i64 0, .int .i64 0, .slice none 0 0, .int .i64 0, .int .i64 0, .int .i64 0, .int .i64 0, .slice none 0 0, .slice none 0 0, .slice none 0 0] 30 w3) := H2.out.below b3
  have HY : Hid (RdEn w3 (.agg #[.int .i64 x.key, .int .i64 x.window, .slice b l c, .int .i64 x.sk.count, .int .i64 x.sk.sum, .int .i64 x.sk.min, .int .i64 x.sk.max, .slice a1 n1 c1, .slice a2 n2 c2, .slice a3 n3 c3]) x F G ∧ skCopy x #[.int .i64 x.key, .int .i64 x.window, .slice b l c, .int .i64 x.sk.count, .int .i64 x.sk.sum, .int .i64 x.sk.min, .int .i64 x.sk.max, .slice a1 n1 c1, .slice a2 n2 c2, .slice a3 n3 c3] ∧ x.ids.length ≤ 8 ∧ (∀ b ∈ F, w.heap.size + 1 ≤ b) ∧ (∀ b ∈ G, w.heap.size + 1 ≤ b)) := ⟨⟨b, l, c, a1, n1, c1, a2, n2, c2, a3, n3, c3, rfl, hp, hr, hcp⟩, HC, H8, fun b hb => by (have := oF.ge b hb; have := H2.out.res.lt; omega), fun b hb => by (have := oG.ge b hb; have := H2.out.res.lt; omega)⟩
  obtain ⟨dz, hdz⟩ : ∃ d, d = it.entryOk ag := ⟨_, rfl⟩
  rw [← hdz]
  clear oF oG b3 hz hp hr hcp HC H8 hx H2 HX hdz
  go_wp2_with (first | go_skip | (with_reducible refine stopStore 30 rfl ?_))
  refine store_fresh 30 w3.heap.size rfl #[.int .i64 0, .int .i64 0, .slice none 0 0, .int .i64 0, .int .i64 0, .int .i64 0, .int .i64 0, .slice none 0 0, .slice none 0 0, .slice none 0 0] #[.int .i64 x.key, .int .i64 x.window, .slice b l c, .int .i64 x.sk.count, .int .i64 x.sk.sum, .int .i64 x.sk.min, .int .i64 x.sk.max, .slice a1 n1 c1, .slice a2 n2 c2, .slice a3 n3 c3] 30 rfl rfl rfl rfl (by kernel_rfl) rfl (by simp [Value.oneCell']) ?_
  intro W4 hg4 hb4
  have HL : Hid (MidE w q a len cap zs w3.heap.size W4) := ⟨i2, h2, #[.int .i64 x.key, .int .i64 x.window, .slice b l c, .int .i64 x.sk.count, .int .i64 x.sk.sum, .int .i64 x.sk.min, .int .i64 x.sk.max, .slice a1 n1 c1, .slice a2 n2 c2, .slice a3 n3 c3], x, F, G, H3.out.below hb4, hg4, HY.out.1.below hb4, HY.out.2.2.2.1, HY.out.2.2.2.2, fun hx => by (have := HY.out.1.lt1 _ hx; omega), fun hx => by (have := HY.out.1.lt2 _ hx; omega), H3.out.res.lt, HY.out.2.1, HY.out.2.2.1⟩
  obtain ⟨L, hLe⟩ : ∃ L, L = w3.heap.size := ⟨_, rfl⟩
  rw [← hLe] at HL ⊢
  clear hg4 hb4 H3 HY hLe
  obtain ⟨i4, h4, ec, x4, F4, G4, hl4⟩ := HL.out
  have HL4 : Hid (LocE w q a len cap zs i4 h4 L ec x4 F4 G4 W4) := hl4
  clear hl4 HL
  go_wp2_with fail
  refine (l1Once_any q a len cap zs i4 h4 4 _ HL4.out.held.cur hlen (by omega) (by omega)).mono ?_
  rintro e w5 ⟨bb, i4', h4', rfl, C', g'⟩
  have HN : Hid (LocE w q a len cap zs i4' h4' L ec x4 F4 G4 w5) := HL4.out.next hq C' g'
  clear C' g' HL4
  go_upto_if 14 with fail
  go_cut [] (fun wx => MidE w q a len cap zs L wx)
  case first =>
    cases bb
    · go_wp2
      go_meet
      case rel => exact ⟨_, _, _, _, _, _, HN.out⟩
    · go_wp2_with fail
      refine (l5Draw_any q a len cap zs i4' h4' _ HN.out.held.cur hlen).mono ?_
      rintro e w6 ⟨v6, ps, rfl, D6, hl6, hne6⟩
      obtain ⟨g, cc, rfl, S6, F6, r6, f6⟩ := D6.at hl6 hne6
      obtain ⟨i6, h6, C6⟩ := D6.cur
      have HN6 : Hid (LocE w q a len cap zs i6 h6 L ec x4 F4 G4 w6) := HN.out.next hq C6 D6.grown
      have HP6 : Hid (RdP w6 (some ⟨g, 0, none⟩) ps.length ps F6 ∧ (∀ b ∈ F6, w5.heap.size ≤ b) ∧ ps.length ≤ cc ∧ ps.length ≤ 8 ∧ L < w5.heap.size) := ⟨r6, f6, S6.cap, hl6, HN.out.loc.lt⟩
      clear D6 S6 r6 f6 C6 hne6 HN
      obtain ⟨b, l, c, a1, n1, c1, a2, n2, c2, a3, n3, c3, ev, hp, hr, hcp⟩ := HN6.out.rd
      injection ev with ev
      subst ev
      have HS6 : Hid (RdSk w6 (.agg #[.int .i64 x4.sk.count, .int .i64 x4.sk.sum, .int .i64 x4.sk.min, .int .i64 x4.sk.max, .slice a1 n1 c1, .slice a2 n2 c2, .slice a3 n3 c3]) x4.sk G4) := hr
      have cc2 := HN6.out.loc.cell 2
      have ff2 := HN6.out.loc.frozen 2
      simp only [List.getElem?_toArray, List.getElem?_cons_succ, List.getElem?_cons_zero] at cc2
      clear hp hr hcp
      go_wp2
      go_meet
      case rel =>
        have ag1 : Agree w6 (w6.setCell ⟨L, 2, none⟩ (.slice (some ⟨g, 0, none⟩) ps.length cc)) F6 := .set (fun hx => by have := HP6.out.2.1 _ hx; have := HP6.out.2.2.2.2; omega) 2 _
        have ag2 : Agree w6 (w6.setCell ⟨L, 2, none⟩ (.slice (some ⟨g, 0, none⟩) ps.length cc)) G4 := .set HN6.out.ap2 2 _
        exact ⟨_, _, #[.int .i64 x4.key, .int .i64 x4.window, .slice (some ⟨g, 0, none⟩) ps.length cc, .int .i64 x4.sk.count, .int .i64 x4.sk.sum, .int .i64 x4.sk.min, .int .i64 x4.sk.max, .slice a1 n1 c1, .slice a2 n2 c2, .slice a3 n3 c3], ⟨x4.key, x4.window, ps, x4.sk⟩, F6, G4, HN6.out.set hq HA.out 2 _ (by simp) ⟨_, _, _, _, _, _, _, _, _, _, _, _, rfl, HP6.out.1.agree ag1, HS6.out.agree ag2, fun e => (by cases e), HP6.out.2.2.1⟩ (fun b hb => by have := HP6.out.2.1 b hb; have := HP6.out.2.2.2.2; have := HN6.out.gt; omega) (fun hx => by have := HP6.out.2.1 _ hx; have := HP6.out.2.2.2.2; omega) (skCopy_head HN6.out.copy rfl) HP6.out.2.2.2.1⟩
  case rest =>
    obtain ⟨i7, h7, ec, x4, F4, G4, hl⟩ := hcut
    obtain ⟨w7, hWn⟩ : ∃ W, W = wc := ⟨_, rfl⟩
    rw [← hWn] at hl ⊢
    clear hWn
    have HL7 : Hid (LocE w q a len cap zs i7 h7 L ec x4 F4 G4 w7) := hl
    clear hl
    go_wp2_with fail
    refine (l1Once_any q a len cap zs i7 h7 14 _ HL7.out.held.cur hlen (by omega) (by omega)).mono ?_
    rintro e w8 ⟨bb, i7', h7', rfl, C', g'⟩
    have HN : Hid (LocE w q a len cap zs i7' h7' L ec x4 F4 G4 w8) := HL7.out.next hq C' g'
    clear C' g' HL7
    go_upto_if 19 with fail
    go_cut [] (fun wx => MidE w q a len cap zs L wx)
    case first =>
      cases bb
      · go_wp2
        go_meet
        case rel => exact ⟨_, _, _, _, _, _, HN.out⟩
      · go_wp2_with fail
        refine (l3Draw_any q a len cap zs i7' h7' _ HN.out.held.cur hlen).mono ?_
        rintro e w9 ⟨v9, s, F9, i9, h9, rfl, r9, f9, o9, C9, g9⟩
        obtain ⟨e1, r1, f1, e2, r2, f2, e3, r3, f3, rfl⟩ := r9.cells7
        have HN9 : Hid (LocE w q a len cap zs i9 h9 L ec x4 F4 G4 w9) := HN.out.next hq C9 g9
        have HS9 : Hid (RdSk w9 (.agg #[.int .i64 s.count, .int .i64 s.sum, .int .i64 s.min, .int .i64 s.max, .slice e1 r1 f1, .slice e2 r2 f2, .slice e3 r3 f3]) s F9 ∧ s.full ∧ (∀ b ∈ F9, w8.heap.size ≤ b) ∧ L < w8.heap.size) := ⟨r9, f9, o9.ge, HN.out.loc.lt⟩
        clear C9 g9 r9 f9 o9 HN
        obtain ⟨b, l, c, a1, n1, c1, a2, n2, c2, a3, n3, c3, ev, hp, hr, hcp⟩ := HN9.out.rd
        injection ev with ev
        subst ev
        have HP9 : Hid (RdP w9 b l x4.ids F4 ∧ Capd b l c) := ⟨hp, hcp⟩
        clear hp hr hcp
        go_wp2_with (first | go_skip | (with_reducible refine stopStore 28 rfl ?_))
        refine store_cut 28 L 3 _ #[.int .i64 s.count, .int .i64 s.sum, .int .i64 s.min, .int .i64 s.max, .slice e1 r1 f1, .slice e2 r2 f2, .slice e3 r3 f3] #[.int .i64 x4.key, .int .i64 x4.window, .slice b l c, .int .i64 s.count, .int .i64 s.sum, .int .i64 s.min, .int .i64 s.max, .slice e1 r1 f1, .slice e2 r2 f2, .slice e3 r3 f3] 30 HN9.out.loc rfl rfl rfl rfl infoSkI (by simp) (one7 ..) (by simp [cutIn]) ?_
        go_wp2
        go_meet
        case rel =>
          have nF : L ∉ F9 := fun hx => by have := HS9.out.2.2.1 _ hx; have := HS9.out.2.2.2; omega
          exact ⟨_, _, _, ⟨x4.key, x4.window, x4.ids, s⟩, F4, F9, HN9.out.row hq HA.out ⟨_, _, _, _, _, _, _, _, _, _, _, _, rfl, HP9.out.1.agree (Agree.row HN9.out.ap1 _), HS9.out.1.agree (Agree.row nF _), HP9.out.2⟩ (fun b hb => by have := HS9.out.2.2.1 b hb; have := HS9.out.2.2.2; have := HN9.out.gt; omega) nF (.inl HS9.out.2.1) HN9.out.len8⟩
    case rest =>
      obtain ⟨i10, h10, ec, x4, F4, G4, hl⟩ := hcut
      obtain ⟨w10, hWn⟩ : ∃ W, W = wc := ⟨_, rfl⟩
      rw [← hWn] at hl ⊢
      clear hWn
      have HL10 : Hid (LocE w q a len cap zs i10 h10 L ec x4 F4 G4 w10) := hl
      clear hl
      go_wp2_with fail
      refine (l1Once_any q a len cap zs i10 h10 20 _ HL10.out.held.cur hlen (by omega) (by omega)).mono ?_
      rintro e w11 ⟨bb, i10', h10', rfl, C', g'⟩
      have HN : Hid (LocE w q a len cap zs i10' h10' L ec x4 F4 G4 w11) := HL10.out.next hq C' g'
      clear C' g' HL10
      go_upto_if 24 with fail
      go_cut [] (fun wx => MidE w q a len cap zs L wx)
      case first =>
        cases bb
        · go_wp2
          go_meet
          case rel => exact ⟨_, _, _, _, _, _, HN.out⟩
        · go_wp2_with fail
          refine (pickInt_cur q w11.heap.size 2 a len cap zs i10' h10' [-1, 5] _ (HN.out.held.cur.alloc _) hlen (fun j hj => lit_ints w11 [-1, 5] _ j hj) (by have := HN.out.held.grown.size; omega) 2 rfl (by omega) (by omega)).mono ?_
          rintro e w12 ⟨y, i12, h12, _, rfl, C12, g12⟩
          have HN2 : Hid (LocE w q a len cap zs i12 h12 L ec x4 F4 G4 w12) := (HN.out.below ((Below.refl _ _).alloc (Nat.le_refl _) _)).next hq C12 g12
          clear C12 g12 HN
          obtain ⟨b, l, c, a1, n1, c1, a2, n2, c2, a3, n3, c3, ev, hp, hr, hcp⟩ := HN2.out.rd
          injection ev with ev
          subst ev
          have HP2 : Hid (RdP w12 b l x4.ids F4 ∧ Capd b l c ∧ RdSk w12 (.agg #[.int .i64 x4.sk.count, .int .i64 x4.sk.sum, .int .i64 x4.sk.min, .int .i64 x4.sk.max, .slice a1 n1 c1, .slice a2 n2 c2, .slice a3 n3 c3]) x4.sk G4) := ⟨hp, hcp, hr⟩
          have cc0 := HN2.out.loc.cell 0
          have ff0 := HN2.out.loc.frozen 0
          simp only [List.getElem?_toArray, List.getElem?_cons_zero] at cc0
          clear hp hr hcp
          go_wp2
          go_meet
          case rel =>
            exact ⟨_, _, #[.int .i64 y, .int .i64 x4.window, .slice b l c, .int .i64 x4.sk.count, .int .i64 x4.sk.sum, .int .i64 x4.sk.min, .int .i64 x4.sk.max, .slice a1 n1 c1, .slice a2 n2 c2, .slice a3 n3 c3], ⟨y, x4.window, x4.ids, x4.sk⟩, F4, G4, HN2.out.set hq HA.out 0 _ (by simp) ⟨_, _, _, _, _, _, _, _, _, _, _, _, rfl, HP2.out.1.agree (.set HN2.out.ap1 0 _), HP2.out.2.2.agree (.set HN2.out.ap2 0 _), HP2.out.2.1⟩ HN2.out.ge1 HN2.out.ap1 (skCopy_head HN2.out.copy rfl) HN2.out.len8⟩
      case rest =>
        obtain ⟨i13, h13, ec, x4, F4, G4, hl⟩ := hcut
        obtain ⟨w13, hWn⟩ : ∃ W, W = wc := ⟨_, rfl⟩
        rw [← hWn] at hl ⊢
        clear hWn
        have HL13 : Hid (LocE w q a len cap zs i13 h13 L ec x4 F4 G4 w13) := hl
        clear hl
        obtain ⟨ec0, hec, hsz, hone⟩ := HL13.out.cells
        go_wp2_with (first | go_skip | (with_reducible refine stopLoad 30 rfl ?_))
        refine load_any 30 L ec 30 _ HL13.out.loc rfl rfl rfl Try.underlying30 rfl (enSizeD hsz) ?_
        go_wp2_with (first | go_skip | (with_reducible refine stopStore 30 rfl ?_))
        refine store_known 30 w.heap.size _ ec 30 HL13.out.held.res rfl rfl rfl rfl (enSizeD hsz) (by rw [hsz]; rfl) hone ?_
        have HE : Hid (DrewEntry w q a len cap zs (.returned (.agg ec)) (w13.setRow w.heap.size ec) ∧ Blk (w13.setRow w.heap.size ec) w.heap.size ec 30 ∧ ec.size = 10) := ⟨HL13.out.done hq HA.out, HL13.out.held.res.setRow, hsz⟩
        clear hsz hone hec
        go_wp2
        refine bodyPost_ret (results_cell_row Try.results52 _ _ w.heap.size _ _ (0, 0) _ rfl HE.out.2.1 Try.underlying30 rfl (enSizeD HE.out.2.2)) rfl ?_
        exact HE.out.1
end Go.Proofs.Ytbmbmnhamogghab
/- The walks through the model's drawing of two entries. No statement of the seat is proved here. -/
namespace Go.Proofs.Ytbmbmnhamogghab
open Go.RowKit
theorem results_row_rowE {P : Program} {fn : Func} {p u : Tmp} {ty : TypeId} (h : fn.results = #[.cell p ty, .cell u ty]) (tmps : Array Value) (w : World) (g k : Nat) (t : TypeId) (cs ds : Array Value) (d : TypeDesc)
    (hp : tmps.getD p undef = .pointer (some ⟨g, 0, none⟩)) (hq : tmps.getD u undef = .pointer (some ⟨k, 0, none⟩)) (hg : Blk w g cs t) (hk : Blk w k ds t)
    (hu : P.underlying ty = some d) (hd : (match d with | .struct _ | .array _ _ => true | _ => false) = true) (hi : (P.info? ty).map (·.size) = some cs.size) (hj : (P.info? ty).map (·.size) = some ds.size) :
    (results fn tmps).run P w = .ok (.tuple #[.agg cs, .agg ds]) w := by
  have e : (results fn tmps).run P w = ((asAddr (tmps.getD p undef)).run P w).andThen fun a w₁ => ((loadVar ty a).run P w₁).andThen fun v w₂ => ((asAddr (tmps.getD u undef)).run P w₂).andThen fun a w₁ => ((loadVar ty a).run P w₁).andThen fun v' w₂ => .ok (.tuple #[v, v']) w₂ := by
    simp only [results, h]
    simp [Sem.run_bind, Result.andThen]
  rw [e, hp, hq]
  simp [asAddr, run_loadVar_row w g t ty cs (0, 0) d hg hu hd hi, run_loadVar_row w k t ty ds (0, 0) d hk hu hd hj, Result.andThen]
/-- Two entries that were drawn. -/
def DrewTwoE (w : World) (e : Ending) (w' : World) : Prop := ∃ ea x F G eb y F' G', e = .returned (.tuple #[.agg ea, .agg eb]) ∧ (RdEn w' (.agg ea) x F G ∧ x.sk.wide ∧ x.ids.length ≤ 8 ∧ ∀ b ∈ F ++ G, w.heap.size ≤ b) ∧ (RdEn w' (.agg eb) y F' G' ∧ y.sk.wide ∧ y.ids.length ≤ 8 ∧ ∀ b ∈ F' ++ G', w.heap.size ≤ b) ∧ Below w.heap.size w w'
theorem skCopy_wide {x : En} {ec : Array Value} (h : skCopy x ec) : x.sk.wide := by
  rcases h with h | ⟨h, _⟩
  · exact full_wideE h
  · rw [h]; exact ⟨by simp [Sk.zero], by simp [Sk.zero], by simp [Sk.zero], by simp [Sk.zero]⟩
theorem rdEn_cells {W : World} {ec : Array Value} {x : En} {F G : List Nat} (h : RdEn W (.agg ec) x F G) : ec.size = 10 ∧ ec.all (·.oneCell') = true := by
  obtain ⟨b, l, c, a1, n1, c1, a2, n2, c2, a3, n3, c3, ev, _⟩ := h
  injection ev with ev
  subst ev
  exact ⟨rfl, by simp [Value.oneCell']⟩
structure LocT (w : World) (q : Nat) (a : Option Addr) (len cap : Nat) (zs : List Int) (i h : Int) (La : Nat) (ea : Array Value) (x : En) (F G : List Nat) (Lb : Nat) (eb : Array Value) (y : En) (F' G' : List Nat) (W : World) : Prop where
  r0 : Blk W w.heap.size #[.int .i64 0, .int .i64 0, .slice none 0 0, .int .i64 0, .int .i64 0, .int .i64 0, .int .i64 0, .slice none 0 0, .slice none 0 0, .slice none 0 0] 30
  r1 : Blk W (w.heap.size + 1) #[.int .i64 0, .int .i64 0, .slice none 0 0, .int .i64 0, .int .i64 0, .int .i64 0, .int .i64 0, .slice none 0 0, .slice none 0 0, .slice none 0 0] 30
  cur : Cur W q a len cap zs i h
  bel : Below w.heap.size w W
  la : Blk W La ea 30
  lb : Blk W Lb eb 30
  ra : RdEn W (.agg ea) x F G
  rb : RdEn W (.agg eb) y F' G'
  ga : ∀ b ∈ F ++ G, q < b ∧ b ≠ Lb
  gb : ∀ b ∈ F' ++ G', q < b ∧ b ≠ Lb
  gt : w.heap.size + 1 < q ∧ q < La ∧ La < Lb
  copy : skCopy x ea
  wide : y.sk.wide
  len8 : x.ids.length ≤ 8 ∧ y.ids.length ≤ 8
def MidT (w : World) (q : Nat) (a : Option Addr) (len cap : Nat) (zs : List Int) (La Lb : Nat) (W : World) : Prop := ∃ i h ea x F G eb y F' G', LocT w q a len cap zs i h La ea x F G Lb eb y F' G' W
section
variable {w W W' : World} {q : Nat} {a : Option Addr} {len cap : Nat} {zs : List Int} {i h i' h' : Int} {La Lb : Nat} {ea eb : Array Value} {x y : En} {F G F' G' : List Nat}
theorem LocT.next (H : LocT w q a len cap zs i h La ea x F G Lb eb y F' G' W) (C : Cur W' q a len cap zs i' h') (g : W.grownBy W' (some q)) : LocT w q a len cap zs i' h' La ea x F G Lb eb y F' G' W' := by
  have hg := H.gt
  have n1 : q ∉ F := fun hx => by have := (H.ga _ (List.mem_append_left _ hx)).1; omega
  have n2 : q ∉ G := fun hx => by have := (H.ga _ (List.mem_append_right _ hx)).1; omega
  have n3 : q ∉ F' := fun hx => by have := (H.gb _ (List.mem_append_left _ hx)).1; omega
  have n4 : q ∉ G' := fun hx => by have := (H.gb _ (List.mem_append_right _ hx)).1; omega
  exact ⟨H.r0.grown g (by omega), H.r1.grown g (by omega), C, H.bel.grown g H.bel.size (fun k hk => by simp at hk; omega), H.la.grown g (by omega), H.lb.grown g (by omega), H.ra.agree (agree_grown g H.ra.lt1 n1) (agree_grown g H.ra.lt2 n2), H.rb.agree (agree_grown g H.rb.lt1 n3) (agree_grown g H.rb.lt2 n4), H.ga, H.gb, H.gt, H.copy, H.wide, H.len8⟩
/-- The second entry's block is written anew. -/
theorem LocT.row (H : LocT w q a len cap zs i h La ea x F G Lb eb y F' G' W) (ha : ∀ b, (∃ off, a = some ⟨b, off, none⟩ ∧ 0 < len) → b < w.heap.size) {ec : Array Value} {z : En} {X Y : List Nat} (hr : RdEn W (.agg ec) z X Y) (hX : ∀ b ∈ X ++ Y, q < b ∧ b ≠ Lb) (hw : z.sk.wide) (h8 : z.ids.length ≤ 8) : LocT w q a len cap zs i h La ea x F G Lb ec z X Y (W.setRow Lb ec) := by
  have hg := H.gt
  have ag : ∀ (X : List Nat), (∀ b ∈ X, b ≠ Lb) → Agree W (W.setRow Lb ec) X := fun X hX b hb => setRow_other W _ b _ (hX b hb)
  exact ⟨H.r0.setRowOther (by omega), H.r1.setRowOther (by omega), cur_row H.cur (by omega) (fun b hb => by have := ha b hb; omega), below_setRow H.bel (by omega) _, H.la.setRowOther (by omega), H.lb.setRow, H.ra.agree (ag F (fun b hb => (H.ga b (List.mem_append_left _ hb)).2)) (ag G (fun b hb => (H.ga b (List.mem_append_right _ hb)).2)), hr.agree (ag X (fun b hb => (hX b (List.mem_append_left _ hb)).2)) (ag Y (fun b hb => (hX b (List.mem_append_right _ hb)).2)), H.ga, hX, H.gt, H.copy, hw, H.len8.1, h8⟩
theorem LocT.set (H : LocT w q a len cap zs i h La ea x F G Lb eb y F' G' W) (ha : ∀ b, (∃ off, a = some ⟨b, off, none⟩ ∧ 0 < len) → b < w.heap.size) (j : Nat) (v : Value) {ec : Array Value} {z : En} (hic : eb.setIfInBounds j v = ec) (hr : RdEn (W.setCell ⟨Lb, j, none⟩ v) (.agg ec) z F' G') (hw : z.sk.wide) (h8 : z.ids.length ≤ 8) : LocT w q a len cap zs i h La ea x F G Lb ec z F' G' (W.setCell ⟨Lb, j, none⟩ v) := by
  subst hic
  have hg := H.gt
  have n1 : Lb ∉ F := fun hx => (H.ga _ (List.mem_append_left _ hx)).2 rfl
  have n2 : Lb ∉ G := fun hx => (H.ga _ (List.mem_append_right _ hx)).2 rfl
  exact ⟨H.r0.setOther (by omega) j v, H.r1.setOther (by omega) j v, cur_cell H.cur (by omega) (fun b hb => by have := ha b hb; omega), H.bel.setCell (by show w.heap.size ≤ Lb; omega) v, H.la.setOther (by omega) j v, H.lb.set j v, H.ra.agree (.set n1 j v) (.set n2 j v), hr, H.ga, H.gb, H.gt, H.copy, hw, H.len8.1, h8⟩
theorem LocT.below (H : LocT w q a len cap zs i h La ea x F G Lb eb y F' G' W) (b : Below W.heap.size W W') : LocT w q a len cap zs i h La ea x F G Lb eb y F' G' W' := ⟨H.r0.below b, H.r1.below b, H.cur.below b, Below.next H.bel b, H.la.below b, H.lb.below b, H.ra.below b, H.rb.below b, H.ga, H.gb, H.gt, H.copy, H.wide, H.len8⟩
theorem LocT.done (H : LocT w q a len cap zs i h La ea x F G Lb eb y F' G' W) : DrewTwoE w (.returned (.tuple #[.agg ea, .agg eb])) ((W.setRow w.heap.size ea).setRow (w.heap.size + 1) eb) := by
  have hg := H.gt
  have ag : ∀ (X : List Nat), (∀ b ∈ X, q < b) → Agree W ((W.setRow w.heap.size ea).setRow (w.heap.size + 1) eb) X := fun X hX b hb => (setRow_other _ _ b _ (fun e => by have := hX b hb; omega)).trans (setRow_other W _ b _ (fun e => by have := hX b hb; omega))
  exact ⟨ea, x, F, G, eb, y, F', G', rfl, ⟨H.ra.agree (ag F (fun b hb => (H.ga b (List.mem_append_left _ hb)).1)) (ag G (fun b hb => (H.ga b (List.mem_append_right _ hb)).1)), skCopy_wide H.copy, H.len8.1, fun b hb => by (have := (H.ga b hb).1; omega)⟩, ⟨H.rb.agree (ag F' (fun b hb => (H.gb b (List.mem_append_left _ hb)).1)) (ag G' (fun b hb => (H.gb b (List.mem_append_right _ hb)).1)), H.wide, H.len8.2, fun b hb => by (have := (H.gb b hb).1; omega)⟩, below_setRow (below_setRow H.bel (Nat.le_refl _) _) (by omega) _⟩
end
theorem two_set_rowsE {w W : World} {cs ds : Array Value} (h0 : Blk W w.heap.size #[.int .i64 0, .int .i64 0, .slice none 0 0, .int .i64 0, .int .i64 0, .int .i64 0, .int .i64 0, .slice none 0 0, .slice none 0 0, .slice none 0 0] 30) (h1 : Blk W (w.heap.size + 1) #[.int .i64 0, .int .i64 0, .slice none 0 0, .int .i64 0, .int .i64 0, .int .i64 0, .int .i64 0, .slice none 0 0, .slice none 0 0, .slice none 0 0] 30) : Blk ((W.setRow w.heap.size cs).setRow (w.heap.size + 1) ds) w.heap.size cs 30 ∧ Blk ((W.setRow w.heap.size cs).setRow (w.heap.size + 1) ds) (w.heap.size + 1) ds 30 :=
  ⟨h0.setRow.setRowOther (by omega), (h1.setRowOther (by omega)).setRow⟩
set_option maxRecDepth 200000 in
set_option maxHeartbeats 8000000 in
theorem l6Two_any (a : Option Addr) (len cap : Nat) (zs : List Int) (w : World) (hR : RdB w a len zs) (hlen : len ≤ 1048576) :
    Calls Try.prog 22 #[.slice a len cap] w fun e w' => DrewTwoE w e w' := by
  have HT : Hid (_ ∧ _ ∧ _) := two_made w #[.int .i64 0, .int .i64 0, .slice none 0 0, .int .i64 0, .int .i64 0, .int .i64 0, .int .i64 0, .slice none 0 0, .slice none 0 0, .slice none 0 0] #[.int .i64 0, .int .i64 0, .slice none 0 0, .int .i64 0, .int .i64 0, .int .i64 0, .int .i64 0, .slice none 0 0, .slice none 0 0, .slice none 0 0] 30 30
  have HR : Hid (RdB w a len zs) := hR
  have HA : Hid (∀ b, (∃ off, a = some ⟨b, off, none⟩ ∧ 0 < len) → b < w.heap.size) := fun b hb => by
    obtain ⟨off, ha, hp⟩ := hb
    rcases hR.cells with h0 | ⟨b', off', ha', hc⟩
    · omega
    · rw [ha] at ha'
      cases ha'
      exact World.block_lt_of_cell? _ _ (hc 0 hp)
  clear hR
  go_enter Try.func22, Try.ntmps22
  go_wp2_with fail
  obtain ⟨W0, hW0⟩ : ∃ W, W = (w.alloc (.cells #[.int .i64 0, .int .i64 0, .slice none 0 0, .int .i64 0, .int .i64 0, .int .i64 0, .int .i64 0, .slice none 0 0, .slice none 0 0, .slice none 0 0] 30)).alloc (.cells #[.int .i64 0, .int .i64 0, .slice none 0 0, .int .i64 0, .int .i64 0, .int .i64 0, .int .i64 0, .slice none 0 0, .slice none 0 0, .slice none 0 0] 30) := ⟨_, rfl⟩
  rw [← hW0] at HT ⊢
  clear hW0
  refine (l1New_any a len cap zs _ (HR.out.below HT.out.2.2) hlen).mono ?_
  rintro e w1 ⟨rfl, ⟨h, C1⟩, b1⟩
  obtain ⟨q, hqe⟩ : ∃ q, q = W0.heap.size := ⟨_, rfl⟩
  rw [← hqe] at C1 ⊢
  have H1 : Hid (Blk w1 w.heap.size #[.int .i64 0, .int .i64 0, .slice none 0 0, .int .i64 0, .int .i64 0, .int .i64 0, .int .i64 0, .slice none 0 0, .slice none 0 0, .slice none 0 0] 30 ∧ Blk w1 (w.heap.size + 1) #[.int .i64 0, .int .i64 0, .slice none 0 0, .int .i64 0, .int .i64 0, .int .i64 0, .int .i64 0, .slice none 0 0, .slice none 0 0, .slice none 0 0] 30 ∧ Cur w1 q a len cap zs 0 h ∧ Below w.heap.size w w1 ∧ w.heap.size + 1 < q ∧ q < w1.heap.size) := ⟨HT.out.1.below b1, HT.out.2.1.below b1, C1, Below.next HT.out.2.2 b1, by rw [hqe]; exact HT.out.2.1.lt, World.block_lt_of_cell? _ _ C1.c0⟩
  clear C1 b1 hqe HT HR
  go_wp2_with fail
  refine (l6Entry_any q a len cap zs 0 h _ H1.out.2.2.1 hlen).mono ?_
  rintro e w2 ⟨ea, x, F, G, i2, h2, rfl, rx, kx, lx, gF, gG, C2, g2⟩
  obtain ⟨hsa, hoa⟩ := rdEn_cells rx
  have H2 : Hid (Blk w2 w.heap.size #[.int .i64 0, .int .i64 0, .slice none 0 0, .int .i64 0, .int .i64 0, .int .i64 0, .int .i64 0, .slice none 0 0, .slice none 0 0, .slice none 0 0] 30 ∧ Blk w2 (w.heap.size + 1) #[.int .i64 0, .int .i64 0, .slice none 0 0, .int .i64 0, .int .i64 0, .int .i64 0, .int .i64 0, .slice none 0 0, .slice none 0 0, .slice none 0 0] 30 ∧ Cur w2 q a len cap zs i2 h2 ∧ Below w.heap.size w w2 ∧ q < w2.heap.size) := ⟨H1.out.1.grown g2 (by have := H1.out.2.2.2.2; omega), H1.out.2.1.grown g2 (by have := H1.out.2.2.2.2; omega), C2, H1.out.2.2.2.1.grown g2 H1.out.2.2.2.1.size (fun k hk => by simp at hk; have := H1.out.2.2.2.2; omega), by have := g2.size; have := H1.out.2.2.2.2; omega⟩
  have HX : Hid (RdEn w2 (.agg ea) x F G ∧ skCopy x ea ∧ x.ids.length ≤ 8 ∧ (∀ b ∈ F ++ G, q < b) ∧ ea.size = 10 ∧ ea.all (·.oneCell') = true ∧ w.heap.size + 1 < q) := ⟨rx, kx, lx, fun b hb => by (have := H1.out.2.2.2.2; rcases List.mem_append.1 hb with hb | hb; (have := gF b hb; omega); (have := gG b hb; omega)), hsa, hoa, H1.out.2.2.2.2.1⟩
  clear rx kx lx gF gG C2 g2 hsa hoa H1
  go_wp2_with (first | go_skip | (with_reducible refine stopLoad 30 rfl ?_) | (with_reducible refine stopStore 30 rfl ?_))
  refine store_fresh 30 w2.heap.size rfl #[.int .i64 0, .int .i64 0, .slice none 0 0, .int .i64 0, .int .i64 0, .int .i64 0, .int .i64 0, .slice none 0 0, .slice none 0 0, .slice none 0 0] ea 30 rfl rfl rfl rfl (enSizeD HX.out.2.2.2.2.1) HX.out.2.2.2.2.1.symm HX.out.2.2.2.2.2.1 ?_
  intro W3 hg3 hb3
  have H3 : Hid (Blk W3 w.heap.size #[.int .i64 0, .int .i64 0, .slice none 0 0, .int .i64 0, .int .i64 0, .int .i64 0, .int .i64 0, .slice none 0 0, .slice none 0 0, .slice none 0 0] 30 ∧ Blk W3 (w.heap.size + 1) #[.int .i64 0, .int .i64 0, .slice none 0 0, .int .i64 0, .int .i64 0, .int .i64 0, .int .i64 0, .slice none 0 0, .slice none 0 0, .slice none 0 0] 30 ∧ Cur W3 q a len cap zs i2 h2 ∧ Below w.heap.size w W3 ∧ Blk W3 w2.heap.size ea 30 ∧ RdEn W3 (.agg ea) x F G) := ⟨H2.out.1.below hb3, H2.out.2.1.below hb3, H2.out.2.2.1.below hb3, Below.next H2.out.2.2.2.1 hb3, hg3, HX.out.1.below hb3⟩
  have HF : Hid (∀ b ∈ F ++ G, b < w2.heap.size) := fun b hb => (List.mem_append.1 hb).elim (HX.out.1.lt1 b) (HX.out.1.lt2 b)
  have HQ : Hid (q < w2.heap.size) := H2.out.2.2.2.2
  obtain ⟨La, hLa⟩ : ∃ L, L = w2.heap.size := ⟨_, rfl⟩
  rw [← hLa] at H3 HF HQ ⊢
  clear hg3 hb3 H2 hLa
  go_wp2_with fail
  refine (l6Entry_any q a len cap zs i2 h2 _ H3.out.2.2.1 hlen).mono ?_
  rintro e w4 ⟨eb, y, F', G', i4, h4, rfl, ry, ky, ly, gF, gG, C4, g4⟩
  obtain ⟨hsb, hob⟩ := rdEn_cells ry
  have hL3 : La < W3.heap.size := H3.out.2.2.2.2.1.lt
  have n1 : q ∉ F := fun hx => by have := HX.out.2.2.2.1 _ (List.mem_append_left _ hx); omega
  have n2 : q ∉ G := fun hx => by have := HX.out.2.2.2.1 _ (List.mem_append_right _ hx); omega
  have H4 : Hid (Blk w4 w.heap.size #[.int .i64 0, .int .i64 0, .slice none 0 0, .int .i64 0, .int .i64 0, .int .i64 0, .int .i64 0, .slice none 0 0, .slice none 0 0, .slice none 0 0] 30 ∧ Blk w4 (w.heap.size + 1) #[.int .i64 0, .int .i64 0, .slice none 0 0, .int .i64 0, .int .i64 0, .int .i64 0, .int .i64 0, .slice none 0 0, .slice none 0 0, .slice none 0 0] 30 ∧ Cur w4 q a len cap zs i4 h4 ∧ Below w.heap.size w w4 ∧ Blk w4 La ea 30 ∧ RdEn w4 (.agg ea) x F G ∧ La < w4.heap.size) := ⟨H3.out.1.grown g4 (by have := HX.out.2.2.2.2.2.2; omega), H3.out.2.1.grown g4 (by have := HX.out.2.2.2.2.2.2; omega), C4, H3.out.2.2.2.1.grown g4 H3.out.2.2.2.1.size (fun k hk => by simp at hk; have := HX.out.2.2.2.2.2.2; omega), H3.out.2.2.2.2.1.grown g4 (by have := HQ.out; omega), H3.out.2.2.2.2.2.agree (agree_grown g4 H3.out.2.2.2.2.2.lt1 n1) (agree_grown g4 H3.out.2.2.2.2.2.lt2 n2), by have := g4.size; omega⟩
  have HY : Hid (RdEn w4 (.agg eb) y F' G' ∧ y.sk.wide ∧ y.ids.length ≤ 8 ∧ (∀ b ∈ F' ++ G', q < b) ∧ eb.size = 10 ∧ eb.all (·.oneCell') = true) := ⟨ry, skCopy_wide ky, ly, fun b hb => by (have := HQ.out; rcases List.mem_append.1 hb with hb | hb; (have := gF b hb; omega); (have := gG b hb; omega)), hsb, hob⟩
  clear ry ky ly gF gG C4 g4 hsb hob n1 n2 hL3 H3
  go_wp2_with (first | go_skip | (with_reducible refine stopLoad 30 rfl ?_) | (with_reducible refine stopStore 30 rfl ?_))
  refine store_fresh 30 w4.heap.size rfl #[.int .i64 0, .int .i64 0, .slice none 0 0, .int .i64 0, .int .i64 0, .int .i64 0, .int .i64 0, .slice none 0 0, .slice none 0 0, .slice none 0 0] eb 30 rfl rfl rfl rfl (enSizeD HY.out.2.2.2.2.1) HY.out.2.2.2.2.1.symm HY.out.2.2.2.2.2 ?_
  intro W5 hg5 hb5
  have HL5 : Hid (LocT w q a len cap zs i4 h4 La ea x F G w4.heap.size eb y F' G' W5) := ⟨H4.out.1.below hb5, H4.out.2.1.below hb5, H4.out.2.2.1.below hb5, Below.next H4.out.2.2.2.1 hb5, H4.out.2.2.2.2.1.below hb5, hg5, H4.out.2.2.2.2.2.1.below hb5, HY.out.1.below hb5, fun b hb => ⟨HX.out.2.2.2.1 b hb, by have := HF.out b hb; have := H4.out.2.2.2.2.2.2; omega⟩, fun b hb => ⟨HY.out.2.2.2.1 b hb, by have := (List.mem_append.1 hb).elim (HY.out.1.lt1 b) (HY.out.1.lt2 b); omega⟩, ⟨HX.out.2.2.2.2.2.2, HQ.out, H4.out.2.2.2.2.2.2⟩, HX.out.2.1, HY.out.2.1, HX.out.2.2.1, HY.out.2.2.1⟩
  obtain ⟨Lb, hLb⟩ : ∃ L, L = w4.heap.size := ⟨_, rfl⟩
  rw [← hLb] at HL5 ⊢
  clear hg5 hb5 H4 HX HY HF HQ hLb
  go_wp2_with fail
  refine (l1Once_any q a len cap zs i4 h4 4 _ HL5.out.cur hlen (by omega) (by omega)).mono ?_
  rintro e w6 ⟨bb, i4', h4', rfl, C', g'⟩
  have HN : Hid (LocT w q a len cap zs i4' h4' La ea x F G Lb eb y F' G' w6) := HL5.out.next C' g'
  clear C' g' HL5
  go_upto_if 15 with fail
  go_cut [] (fun wx => MidT w q a len cap zs La Lb wx)
  case first =>
    cases bb
    · obtain ⟨b0, l0, k0, a01, n01, c01, a02, n02, c02, a03, n03, c03, ev0, _⟩ := HN.out.ra
      injection ev0 with ev0
      obtain ⟨b, l, c, a1, n1, c1, a2, n2, c2, a3, n3, c3, ev, hp, hr, hcp⟩ := HN.out.rb
      injection ev with ev
      subst ev0 ev
      have HP : Hid (RdP w6 b l y.ids F' ∧ RdSk w6 (.agg #[.int .i64 y.sk.count, .int .i64 y.sk.sum, .int .i64 y.sk.min, .int .i64 y.sk.max, .slice a1 n1 c1, .slice a2 n2 c2, .slice a3 n3 c3]) y.sk G' ∧ Capd b l c) := ⟨hp, hr, hcp⟩
      have ca0 := HN.out.la.cell 0
      have ca1 := HN.out.la.cell 1
      have cb0 := HN.out.lb.cell 0
      have cb1 := HN.out.lb.cell 1
      have fb0 := HN.out.lb.frozen 0
      have fb1 := HN.out.lb.frozen 1
      simp only [List.getElem?_toArray, List.getElem?_cons_succ, List.getElem?_cons_zero] at ca0 ca1 cb0 cb1
      have ne1 : ¬ La = Lb := by have := HN.out.gt; omega
      have ne2 : ¬ Lb = La := by have := HN.out.gt; omega
      clear hp hr hcp
      go_wp2
      go_meet
      case rel =>
        have m1 : Lb ∉ F' := fun hx => (HN.out.gb _ (List.mem_append_left _ hx)).2 rfl
        have m2 : Lb ∉ G' := fun hx => (HN.out.gb _ (List.mem_append_right _ hx)).2 rfl
        have H1 := HN.out.set HA.out 0 (.int .i64 x.key) (ec := #[.int .i64 x.key, .int .i64 y.window, .slice b l c, .int .i64 y.sk.count, .int .i64 y.sk.sum, .int .i64 y.sk.min, .int .i64 y.sk.max, .slice a1 n1 c1, .slice a2 n2 c2, .slice a3 n3 c3]) (z := ⟨x.key, y.window, y.ids, y.sk⟩) (by simp) ⟨_, _, _, _, _, _, _, _, _, _, _, _, rfl, HP.out.1.agree (.set m1 0 _), HP.out.2.1.agree (.set m2 0 _), HP.out.2.2⟩ HN.out.wide HN.out.len8.2
        have HM := H1.set HA.out 1 (.int .i64 x.window) (ec := #[.int .i64 x.key, .int .i64 x.window, .slice b l c, .int .i64 y.sk.count, .int .i64 y.sk.sum, .int .i64 y.sk.min, .int .i64 y.sk.max, .slice a1 n1 c1, .slice a2 n2 c2, .slice a3 n3 c3]) (z := ⟨x.key, x.window, y.ids, y.sk⟩) (by simp) ⟨_, _, _, _, _, _, _, _, _, _, _, _, rfl, (HP.out.1.agree (.set m1 0 _)).agree (.set m1 1 _), (HP.out.2.1.agree (.set m2 0 _)).agree (.set m2 1 _), HP.out.2.2⟩ HN.out.wide HN.out.len8.2
        exact ⟨_, _, _, _, _, _, _, _, _, _, HM⟩
    · go_wp2
      go_meet
      case rel => exact ⟨_, _, _, _, _, _, _, _, _, _, HN.out⟩
  case rest =>
    obtain ⟨i7, h7, ea, x, F, G, eb, y, F', G', hl⟩ := hcut
    obtain ⟨w7, hWn⟩ : ∃ W, W = wc := ⟨_, rfl⟩
    rw [← hWn] at hl ⊢
    clear hWn
    have HL7 : Hid (LocT w q a len cap zs i7 h7 La ea x F G Lb eb y F' G' w7) := hl
    clear hl
    go_wp2_with fail
    refine (l1Once_any q a len cap zs i7 h7 6 _ HL7.out.cur hlen (by omega) (by omega)).mono ?_
    rintro e w8 ⟨bb, i7', h7', rfl, C', g'⟩
    have HN : Hid (LocT w q a len cap zs i7' h7' La ea x F G Lb eb y F' G' w8) := HL7.out.next C' g'
    clear C' g' HL7
    go_upto_if 23 with fail
    go_cut [] (fun wx => MidT w q a len cap zs La Lb wx)
    case first =>
      cases bb
      · go_wp2
        go_meet
        case rel => exact ⟨_, _, _, _, _, _, _, _, _, _, HN.out⟩
      · obtain ⟨hsa, hoa⟩ := rdEn_cells HN.out.ra
        obtain ⟨hsb, hob⟩ := rdEn_cells HN.out.rb
        have HSZ : Hid (ea.size = 10 ∧ eb.size = 10) := ⟨hsa, hsb⟩
        clear hsa hoa hsb hob
        go_wp2_with (first | go_skip | (with_reducible refine stopLoad 30 rfl ?_) | (with_reducible refine stopStore 30 rfl ?_))
        refine load_any 30 La ea 30 _ HN.out.la rfl rfl rfl Try.underlying30 rfl (enSizeD HSZ.out.1) ?_
        go_wp2_with fail
        refine (l6Copy_any ea x F G _ HN.out.ra HN.out.copy (by have := HN.out.len8; omega)).mono ?_
        rintro e w9 ⟨zv, X, Y, rfl, rz, oX, oY, _, b9⟩
        obtain ⟨ez, rfl⟩ : ∃ ez, zv = .agg ez := by
          obtain ⟨b, l, c, a1, n1, c1, a2, n2, c2, a3, n3, c3, ev, _⟩ := rz
          exact ⟨_, ev⟩
        obtain ⟨hsz, hoz⟩ := rdEn_cells rz
        have HN9 : Hid (LocT w q a len cap zs i7' h7' La ea x F G Lb eb y F' G' w9) := HN.out.below b9
        have HZ9 : Hid (RdEn w9 (.agg ez) x X Y ∧ (∀ b ∈ X ++ Y, q < b ∧ b ≠ Lb) ∧ ez.size = 10 ∧ ez.all (·.oneCell') = true) := ⟨rz, fun b hb => by (have hl := HN.out.lb.lt; have hg := HN.out.gt; rcases List.mem_append.1 hb with hb | hb; (have := oX.ge b hb; omega); (have := oY.ge b hb; omega)), hsz, hoz⟩
        clear rz oX oY b9 hsz hoz HN
        go_wp2_with (first | go_skip | (with_reducible refine stopLoad 30 rfl ?_) | (with_reducible refine stopStore 30 rfl ?_))
        refine store_known 30 Lb _ ez 30 HN9.out.lb rfl rfl rfl rfl (enSizeD HZ9.out.2.2.1) (by rw [HZ9.out.2.2.1, HSZ.out.2]) HZ9.out.2.2.2 ?_
        go_wp2
        go_meet
        case rel => exact ⟨_, _, _, _, _, _, _, _, _, _, HN9.out.row HA.out HZ9.out.1 HZ9.out.2.1 (skCopy_wide HN9.out.copy) HN9.out.len8.1⟩
    case rest =>
      obtain ⟨i10, h10, ea, x, F, G, eb, y, F', G', hl⟩ := hcut
      obtain ⟨w10, hWn⟩ : ∃ W, W = wc := ⟨_, rfl⟩
      rw [← hWn] at hl ⊢
      clear hWn
      have HL10 : Hid (LocT w q a len cap zs i10 h10 La ea x F G Lb eb y F' G' w10) := hl
      clear hl
      obtain ⟨hsa, hoa⟩ := rdEn_cells HL10.out.ra
      obtain ⟨hsb, hob⟩ := rdEn_cells HL10.out.rb
      have HSZ : Hid (ea.size = 10 ∧ eb.size = 10 ∧ ea.all (·.oneCell') = true ∧ eb.all (·.oneCell') = true) := ⟨hsa, hsb, hoa, hob⟩
      have hgt := HL10.out.gt
      clear hsa hoa hsb hob
      go_wp2
      have HLD : Hid (LocT w q a len cap zs i10 h10 La ea x F G Lb eb y F' G' w10.drew) := HL10.out.below (Below.refl _ _).drew
      have HS : Hid (Blk w10.drew La ea 30 ∧ Blk w10.drew Lb eb 30) := ⟨HLD.out.la, HLD.out.lb⟩
      refine wp_region_held (S := fun W => Blk W La ea 30 ∧ Blk W Lb eb 30) (by kernel_rfl) ?_
      change wpAnyH _ _ _ _ _ _ _ _ (World.drew _)
      refine takeH (o := ?o1) 0 (.agg ea) ?h1 ?r1
      case h1 => simp only [List.getElem?_toArray, List.getElem?_cons_zero]; rfl
      refine ⟨_, by simp [Act.put]; rfl, by kernel_rfl, by kernel_rfl, by kernel_rfl, fun _ _ _ h => h, (yields_whole 30 La ea 30 _ rfl rfl rfl Try.underlying30 rfl (enSizeD HSZ.out.1) (fun W hW => hW.1)), HS.out, ?_⟩
      refine takeH (o := ?o2) 1 (.agg eb) ?h2 ?r2
      case h2 => simp only [List.getElem?_toArray, List.getElem?_cons_succ, List.getElem?_cons_zero]; rfl
      refine ⟨_, by simp [Act.put]; rfl, by kernel_rfl, by kernel_rfl, by kernel_rfl, fun _ _ _ h => h, (yields_whole 30 Lb eb 30 _ rfl rfl rfl Try.underlying30 rfl (enSizeD HSZ.out.2.1) (fun W hW => hW.2)), HS.out, ?_⟩
      refine onlyH (o := ?o3) 2 (by kernel_rfl) ?h3 ?r3
      case h3 => simp only [List.getElem?_toArray, List.getElem?_cons_succ, List.getElem?_cons_zero]; rfl
      intro K hK
      refine op_store 30 w.heap.size #[.int .i64 0, .int .i64 0, .slice none 0 0, .int .i64 0, .int .i64 0, .int .i64 0, .int .i64 0, .slice none 0 0, .slice none 0 0, .slice none 0 0] ea 30 rfl rfl rfl rfl HLD.out.r0 (enSizeD HSZ.out.1) HSZ.out.1.symm HSZ.out.2.2.1 ⟨_, by simp [Act.put]; rfl, hK _ _ ⟨⟨HS.out.1.setRowOther (by omega), HS.out.2.setRowOther (by omega)⟩, ?_⟩⟩
      clear hK
      refine onlyH (o := ?o4) 3 (by kernel_rfl) ?h4 ?r4
      case h4 => simp only [List.getElem?_toArray, List.getElem?_cons_succ, List.getElem?_cons_zero]; rfl
      intro K hK
      refine op_store 30 (w.heap.size + 1) #[.int .i64 0, .int .i64 0, .slice none 0 0, .int .i64 0, .int .i64 0, .int .i64 0, .int .i64 0, .slice none 0 0, .slice none 0 0, .slice none 0 0] eb 30 rfl rfl rfl rfl (HLD.out.r1.setRowOther (by omega)) (enSizeD HSZ.out.2.1) HSZ.out.2.1.symm HSZ.out.2.2.2 ⟨_, by simp [Act.put]; rfl, hK _ _ ⟨⟨(HS.out.1.setRowOther (by omega)).setRowOther (by omega), (HS.out.2.setRowOther (by omega)).setRowOther (by omega)⟩, ?_⟩⟩
      clear hK
      refine wpAnyH_done (by kernel_rfl) ?_ _
      go_wp2
      have tr := two_set_rowsE (cs := ea) (ds := eb) HLD.out.r0 HLD.out.r1
      refine bodyPost_ret (results_row_rowE Try.results22 _ _ w.heap.size (w.heap.size + 1) 30 ea eb _ rfl rfl tr.1 tr.2 Try.underlying30 rfl (enSizeD HSZ.out.1) (enSizeD HSZ.out.2.1)) rfl ?_
      exact HLD.out.done
set_option maxRecDepth 200000 in
set_option maxHeartbeats 2000000 in
theorem drawEntryAdd_any (a : Option Addr) (len cap : Nat) (zs : List Int) (w : World) (hR : RdB w a len zs) (hlen : len ≤ 1048576) :
    Calls Try.prog 6 #[.slice a len cap] w fun e w' => DrewTwoE w e w' := by
  have HT : Hid (_ ∧ _ ∧ _) := two_made w #[.int .i64 0, .int .i64 0, .slice none 0 0, .int .i64 0, .int .i64 0, .int .i64 0, .int .i64 0, .slice none 0 0, .slice none 0 0, .slice none 0 0] #[.int .i64 0, .int .i64 0, .slice none 0 0, .int .i64 0, .int .i64 0, .int .i64 0, .int .i64 0, .slice none 0 0, .slice none 0 0, .slice none 0 0] 30 30
  have HR : Hid (RdB w a len zs) := hR
  clear hR
  go_enter Try.func6, Try.ntmps6
  go_wp2_with fail
  refine (l6Two_any a len cap zs _ (HR.out.below HT.out.2.2) hlen).mono ?_
  rintro e w1 ⟨ea, x, F, G, eb, y, F', G', rfl, ⟨rx, wx, lx, ox⟩, ⟨ry, wy, ly, oy⟩, b1⟩
  obtain ⟨hsa, hoa⟩ := rdEn_cells rx
  obtain ⟨hsb, hob⟩ := rdEn_cells ry
  have H1 : Hid (Blk w1 w.heap.size #[.int .i64 0, .int .i64 0, .slice none 0 0, .int .i64 0, .int .i64 0, .int .i64 0, .int .i64 0, .slice none 0 0, .slice none 0 0, .slice none 0 0] 30 ∧ Blk w1 (w.heap.size + 1) #[.int .i64 0, .int .i64 0, .slice none 0 0, .int .i64 0, .int .i64 0, .int .i64 0, .int .i64 0, .slice none 0 0, .slice none 0 0, .slice none 0 0] 30 ∧ Below w.heap.size w w1) := ⟨HT.out.1.below b1, HT.out.2.1.below b1, Below.next HT.out.2.2 b1⟩
  have HX : Hid ((RdEn w1 (.agg ea) x F G ∧ x.sk.wide ∧ x.ids.length ≤ 8 ∧ ∀ b ∈ F ++ G, w.heap.size + 1 < b) ∧ (RdEn w1 (.agg eb) y F' G' ∧ y.sk.wide ∧ y.ids.length ≤ 8 ∧ ∀ b ∈ F' ++ G', w.heap.size + 1 < b)) := ⟨⟨rx, wx, lx, fun b hb => by (have := ox b hb; have := HT.out.2.1.lt; omega)⟩, ⟨ry, wy, ly, fun b hb => by (have := oy b hb; have := HT.out.2.1.lt; omega)⟩⟩
  have HSZ : Hid (ea.size = 10 ∧ eb.size = 10 ∧ ea.all (·.oneCell') = true ∧ eb.all (·.oneCell') = true) := ⟨hsa, hsb, hoa, hob⟩
  clear rx wx lx ox ry wy ly oy b1 hsa hoa hsb hob HT HR
  go_wp2_with (first | go_skip | (with_reducible refine stopLoad 30 rfl ?_) | (with_reducible refine stopStore 30 rfl ?_))
  refine store_known 30 w.heap.size _ ea 30 H1.out.1 rfl rfl rfl rfl (enSizeD HSZ.out.1) HSZ.out.1.symm HSZ.out.2.2.1 ?_
  go_wp2_with (first | go_skip | (with_reducible refine stopLoad 30 rfl ?_) | (with_reducible refine stopStore 30 rfl ?_))
  refine store_known 30 (w.heap.size + 1) _ eb 30 (H1.out.2.1.setRowOther (by omega)) rfl rfl rfl rfl (enSizeD HSZ.out.2.1) HSZ.out.2.1.symm HSZ.out.2.2.2 ?_
  go_wp2
  have tr := two_set_rowsE (cs := ea) (ds := eb) H1.out.1 H1.out.2.1
  refine bodyPost_ret (results_row_rowE Try.results6 _ _ w.heap.size (w.heap.size + 1) 30 ea eb _ rfl rfl tr.1 tr.2 Try.underlying30 rfl (enSizeD HSZ.out.1) (enSizeD HSZ.out.2.1)) rfl ?_
  have ag : ∀ (X : List Nat), (∀ b ∈ X, w.heap.size + 1 < b) → Agree w1 ((w1.setRow w.heap.size ea).setRow (w.heap.size + 1) eb) X := fun X hX b hb => (setRow_other _ _ b _ (fun e => by have := hX b hb; omega)).trans (setRow_other w1 _ b _ (fun e => by have := hX b hb; omega))
  obtain ⟨⟨rx, wx, lx, ox⟩, ⟨ry, wy, ly, oy⟩⟩ := HX.out
  exact ⟨ea, x, F, G, eb, y, F', G', rfl, ⟨rx.agree (ag F (fun b hb => ox b (List.mem_append_left _ hb))) (ag G (fun b hb => ox b (List.mem_append_right _ hb))), wx, lx, fun b hb => by (have := ox b hb; omega)⟩, ⟨ry.agree (ag F' (fun b hb => oy b (List.mem_append_left _ hb))) (ag G' (fun b hb => oy b (List.mem_append_right _ hb))), wy, ly, fun b hb => by (have := oy b hb; omega)⟩, below_setRow (below_setRow H1.out.2.2 (Nat.le_refl _) _) (by omega) _⟩
end Go.Proofs.Ytbmbmnhamogghab
/- A call of a Go function that leaves the world as it was, as one step of a region that draws its order. No statement of the seat is proved here. -/
namespace Go.Proofs.Ytbmbmnhamogghab
open Go.RowKit
theorem step_call_quiet {P : Program} {ops : Array Oper} {o : Oper} {a : Act} {w : World} {K : Act → World → Prop} {Q : Exit → Act → World → Prop} {E : Prop} (hg : o.guard = none) (f : FuncId) (x y : Operand) (ts : Array TypeId)
    (fn : Func) (hfn : P.funcs[f]? = some fn) (hnm : (fn.name == "runtime.NumGoroutine") = false) (hbd : fn.body.isNone = false) (hop : o.op = Op.call { callee := Callee.value (Operand.func f), args := #[x, y], argTypes := ts }) (v : Value) (hc : Calls P f #[a.eval x, a.eval y] w fun e w' => e = .returned v ∧ w' = w) (hK : K (a.put o.dst v) w) :
    if Region.wanted o (yielded ops a.tmps) = true then Oper.wp P o a w K Q else E := by
  have hw : Region.wanted o (yielded ops a.tmps) = true := by simp [Region.wanted, hg]
  rw [if_pos hw]
  have hnm' : ¬ fn.name = "runtime.NumGoroutine" := by simpa using hnm
  have hbd' : ¬ fn.body = none := by intro e; rw [e] at hbd; cases hbd
  unfold Oper.wp
  simp only [execOp, hop, resolve, invoke, Oper.upon, go_sem]
  simp [callFunc, hfn, hnm', hbd', go_sem]
  simp [Act.eval, go_sem] at hc
  simp [Act.put] at hK
  exact Calls.mono hc (by rintro e w1 ⟨rfl, rfl⟩; exact hK)
end Go.Proofs.Ytbmbmnhamogghab
