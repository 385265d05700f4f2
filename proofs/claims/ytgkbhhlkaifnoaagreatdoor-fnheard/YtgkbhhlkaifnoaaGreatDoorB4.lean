/- Several texts of mine, laid together. No statement of the seat is proved here. -/
import Derived.Test.YtgkbhhlkaifnoaaGreatDoorB3
import Derived.Test.YtgkbhhlkaifnoaaGreatDoorB2
import Derived.Test.YtgkbhhlkaifnoaaGreatDoorB1
/- The walks through the program's copying of an item and of an agent. No statement of the seat is proved here. -/
namespace Go.Proofs.YtgkbhhlkaifnoaaGreatDoor
open Go.RowKit
theorem infoItP8 : (Tryz.prog.info? 33).map (·.size) = some 11 := by kernel_rfl
set_option maxRecDepth 200000 in
set_option maxHeartbeats 2000000 in
theorem copiedItem_any (v : Value) (x : It) (F : List Nat) (w : World) (h : RdIt w v x F) (hf : x.sk.fits) :
    Calls Tryz.prog 64 #[v] w fun e w' => NewIt w x e w' := by
  obtain ⟨a1, n1, c1, a2, n2, c2, a3, n3, c3, rfl, hr⟩ := h
  have HR : Hid (RdSk w (.agg #[.int .i64 x.sk.count, .int .i64 x.sk.sum, .int .i64 x.sk.min, .int .i64 x.sk.max, .slice a1 n1 c1, .slice a2 n2 c2, .slice a3 n3 c3]) x.sk F ∧ x.sk.fits) := ⟨hr, hf⟩
  clear hr hf
  have HT0 : Hid (_ ∧ _ ∧ _) := two_made w #[.int .i64 x.seq, .int .i64 x.cls, .int .i64 x.key, .int .i64 x.window, .int .i64 x.sk.count, .int .i64 x.sk.sum, .int .i64 x.sk.min, .int .i64 x.sk.max, .slice a1 n1 c1, .slice a2 n2 c2, .slice a3 n3 c3] #[.int .i64 0, .int .i64 0, .int .i64 0, .int .i64 0, .int .i64 0, .int .i64 0, .int .i64 0, .int .i64 0, .slice none 0 0, .slice none 0 0, .slice none 0 0] 33 33
  go_enter Tryz.func64, Tryz.ntmps64
  go_wp2_with (first | go_skip | (with_reducible refine stopLoad 31 rfl ?_))
  refine load_cut 31 w.heap.size 4 7 _ #[.int .i64 x.sk.count, .int .i64 x.sk.sum, .int .i64 x.sk.min, .int .i64 x.sk.max, .slice a1 n1 c1, .slice a2 n2 c2, .slice a3 n3 c3] 33 _ HT0.out.1 rfl rfl rfl Tryz.underlying31 rfl infoSkI (by simp) rfl ?_
  go_wp2_with fail
  refine (copiedSketch_all _ x.sk F _ (HR.out.1.below HT0.out.2.2) HR.out.2).mono ?_
  rintro e w1 ⟨v1, G, rfl, r1, o1, hb1⟩
  obtain ⟨b1, m1, d1, b2, m2, d2, b3, m3, d3, rfl⟩ := r1.cells7
  have HT1 : Hid (Blk w1 w.heap.size #[.int .i64 x.seq, .int .i64 x.cls, .int .i64 x.key, .int .i64 x.window, .int .i64 x.sk.count, .int .i64 x.sk.sum, .int .i64 x.sk.min, .int .i64 x.sk.max, .slice a1 n1 c1, .slice a2 n2 c2, .slice a3 n3 c3] 33 ∧ Blk w1 (w.heap.size + 1) #[.int .i64 0, .int .i64 0, .int .i64 0, .int .i64 0, .int .i64 0, .int .i64 0, .int .i64 0, .int .i64 0, .slice none 0 0, .slice none 0 0, .slice none 0 0] 33 ∧ Below w.heap.size w w1) := ⟨HT0.out.1.below hb1, HT0.out.2.1.below hb1, Below.next HT0.out.2.2 hb1⟩
  have HG : Hid (RdSk w1 (.agg #[.int .i64 x.sk.count, .int .i64 x.sk.sum, .int .i64 x.sk.min, .int .i64 x.sk.max, .slice b1 m1 d1, .slice b2 m2 d2, .slice b3 m3 d3]) x.sk G ∧ Own (w.heap.size + 2) w1 G) := ⟨r1, o1.mono HT0.out.2.1.lt⟩
  clear HT0 hb1 r1 o1 HR
  go_wp2_with (first | go_skip | (with_reducible refine stopStore 31 rfl ?_))
  refine store_cut 31 w.heap.size 4 _ #[.int .i64 x.sk.count, .int .i64 x.sk.sum, .int .i64 x.sk.min, .int .i64 x.sk.max, .slice b1 m1 d1, .slice b2 m2 d2, .slice b3 m3 d3] #[.int .i64 x.seq, .int .i64 x.cls, .int .i64 x.key, .int .i64 x.window, .int .i64 x.sk.count, .int .i64 x.sk.sum, .int .i64 x.sk.min, .int .i64 x.sk.max, .slice b1 m1 d1, .slice b2 m2 d2, .slice b3 m3 d3] 33 HT1.out.1 rfl rfl rfl rfl infoSkI (by exact Nat.le_refl 11) (by simp [Value.oneCell']) rfl ?_
  obtain ⟨E, hE⟩ : ∃ E : Array Value, E = #[.int .i64 x.seq, .int .i64 x.cls, .int .i64 x.key, .int .i64 x.window, .int .i64 x.sk.count, .int .i64 x.sk.sum, .int .i64 x.sk.min, .int .i64 x.sk.max, .slice b1 m1 d1, .slice b2 m2 d2, .slice b3 m3 d3] := ⟨_, rfl⟩
  rw [← hE]
  have HE : Hid (E = #[.int .i64 x.seq, .int .i64 x.cls, .int .i64 x.key, .int .i64 x.window, .int .i64 x.sk.count, .int .i64 x.sk.sum, .int .i64 x.sk.min, .int .i64 x.sk.max, .slice b1 m1 d1, .slice b2 m2 d2, .slice b3 m3 d3]) := hE
  have hE11 : E.size = 11 := by rw [hE]; rfl
  have hEone : E.all (·.oneCell') = true := by rw [hE]; simp [Value.oneCell']
  have nl : w.heap.size ∉ G := fun hx => by have := HG.out.2.ge _ hx; omega
  have HT2 : Hid (Blk (w1.setRow w.heap.size E) w.heap.size E 33 ∧ Blk (w1.setRow w.heap.size E) (w.heap.size + 1) #[.int .i64 0, .int .i64 0, .int .i64 0, .int .i64 0, .int .i64 0, .int .i64 0, .int .i64 0, .int .i64 0, .slice none 0 0, .slice none 0 0, .slice none 0 0] 33 ∧ Below w.heap.size w (w1.setRow w.heap.size E)) := ⟨HT1.out.1.setRow, HT1.out.2.1.setRowOther (by omega), below_setRow HT1.out.2.2 (by omega) _⟩
  have HG2 : Hid (RdSk (w1.setRow w.heap.size E) (.agg #[.int .i64 x.sk.count, .int .i64 x.sk.sum, .int .i64 x.sk.min, .int .i64 x.sk.max, .slice b1 m1 d1, .slice b2 m2 d2, .slice b3 m3 d3]) x.sk G ∧ Own (w.heap.size + 2) (w1.setRow w.heap.size E) G) := ⟨HG.out.1.agree (Agree.row nl E), HG.out.2.agree (Agree.row nl E)⟩
  obtain ⟨w2, hw2⟩ : ∃ W, W = w1.setRow w.heap.size E := ⟨_, rfl⟩
  rw [← hw2] at HT2 HG2 ⊢
  clear hw2 HT1 HG nl hE
  go_wp2_with (first | go_skip | (with_reducible refine stopLoad 33 rfl ?_))
  refine load_known 33 w.heap.size E 33 _ HT2.out.1 rfl rfl rfl Tryz.underlying33 rfl (by rw [hE11]; exact infoItP8) ?_
  go_wp2_with (first | go_skip | (with_reducible refine stopStore 33 rfl ?_))
  refine store_known 33 (w.heap.size + 1) _ E 33 HT2.out.2.1 rfl rfl rfl rfl (by rw [hE11]; exact infoItP8) (by rw [hE11]; rfl) hEone ?_
  have nr : w.heap.size + 1 ∉ G := fun hx => by have := HG2.out.2.ge _ hx; omega
  have HF : Hid (RdSk (w2.setRow (w.heap.size + 1) E) (.agg #[.int .i64 x.sk.count, .int .i64 x.sk.sum, .int .i64 x.sk.min, .int .i64 x.sk.max, .slice b1 m1 d1, .slice b2 m2 d2, .slice b3 m3 d3]) x.sk G ∧ Own w.heap.size (w2.setRow (w.heap.size + 1) E) G ∧ Below w.heap.size w (w2.setRow (w.heap.size + 1) E) ∧ Blk (w2.setRow (w.heap.size + 1) E) (w.heap.size + 1) E 33) := ⟨HG2.out.1.agree (Agree.row nr E), (HG2.out.2.agree (Agree.row nr E)).mono (by omega), below_setRow HT2.out.2.2 (by omega) _, HT2.out.2.1.setRow⟩
  clear HT2 HG2 nr
  go_wp2
  refine bodyPost_ret (results_cell_row Tryz.results64 _ _ (w.heap.size + 1) _ _ (0, 0) _ rfl HF.out.2.2.2 Tryz.underlying33 rfl (by rw [hE11]; exact infoItP8)) rfl ?_
  exact ⟨_, G, rfl, ⟨b1, m1, d1, b2, m2, d2, b3, m3, d3, by rw [HE.out], HF.out.1⟩, HF.out.2.1, HF.out.2.2.1⟩
/-- A new agent whose list can grow; the set lies apart from it. -/
def NewAgH (w : World) (x : Ag) (e : Ending) (w' : World) : Prop := ∃ (q1 : Option Addr) (k1 : Nat) (q2 : Option Addr) (l2 k2 : Nat) (F G : List Nat) (lo : Nat) (vs : List Value) (GG : List Nat),
  e = .returned (.agg #[.int .i64 x.id, .int .i64 x.epoch, .bool x.live, .int .i64 x.granted, .slice q1 x.sealed.length k1, .slice q2 l2 k2, .int .i64 x.next]) ∧ RdL itK w' q1 x.sealed.length x.sealed F ∧ RdP w' q2 l2 x.taken G ∧ Capd q1 x.sealed.length k1 ∧ Capd q2 l2 k2 ∧ Own w.heap.size w' F ∧ Own w.heap.size w' G ∧ (∀ b ∈ F, b ∉ G) ∧ Below w.heap.size w w' ∧
  GrowL itK 33 x.sealed lo x.sealed.length (.slice q1 x.sealed.length k1) vs GG w' ∧ w.heap.size ≤ lo ∧ (∀ b ∈ G, ¬ (Value.slice q1 x.sealed.length k1).ownBlock = some b) ∧ ∀ b ∈ GG, b ∉ G
theorem NewAgH.plain {w : World} {x : Ag} {e : Ending} {w' : World} (h : NewAgH w x e w') : NewAg w x e w' := by
  obtain ⟨q1, k1, q2, l2, k2, F, G, lo, vs, GG, rfl, r1, r2, c1, c2, o1, o2, ap, b, _⟩ := h
  exact ⟨_, F, G, rfl, ⟨q1, _, k1, q2, l2, k2, rfl, r1, r2, c1, c2⟩, o1, o2, ap, b⟩
theorem infoAgP8 : (Tryz.prog.info? 27).map (·.size) = some 7 := by kernel_rfl
theorem infoItsP8 : (Tryz.prog.info? 33).map (fun i => (i.zero, i.size, i.bytes)) = some (some (.agg #[.int .i64 0, .int .i64 0, .int .i64 0, .int .i64 0, .int .i64 0, .int .i64 0, .int .i64 0, .int .i64 0, .slice none 0 0, .slice none 0 0, .slice none 0 0]), 11, 136) := by kernel_rfl
/-- An agent's copy in the making, behind k items. -/
structure CpAg (w : World) (A : Array Value) (x : Ag) (lo k : Nat) (v : Value) (vs : List Value) (G : List Nat) (W : World) : Prop where
  box : Blk W w.heap.size A 27
  res : Blk W (w.heap.size + 1) #[.int .i64 0, .int .i64 0, .bool false, .int .i64 0, .slice none 0 0, .slice none 0 0, .int .i64 0] 27
  bel : Below w.heap.size w W
  grow : GrowL itK 33 x.sealed lo k v vs G W
  big : w.heap.size + 2 ≤ lo
theorem CpAg.below {w W W' : World} {A : Array Value} {x : Ag} {lo k : Nat} {v : Value} {vs : List Value} {G : List Nat} (h : CpAg w A x lo k v vs G W) (b : Below W.heap.size W W') : CpAg w A x lo k v vs G W' :=
  ⟨h.box.below b, h.res.below b, Below.next h.bel b, h.grow.below b, h.big⟩
theorem CpAg.step {w W W' : World} {A : Array Value} {x : Ag} {lo k : Nat} {v v' : Value} {vs vs' : List Value} {G G' : List Nat} (h : CpAg w A x lo k v vs G W) (hgrow : W.grownBy W' v.ownBlock) (hg : GrowL itK 33 x.sealed lo (k + 1) v' vs' G' W') : CpAg w A x lo (k + 1) v' vs' G' W' := by
  have big := h.big
  have ot : ∀ b, b < lo → W'.heap[b]? = W.heap[b]? := fun b hb => h.grow.other hgrow hb
  exact ⟨h.box.agree (ot _ (by omega)), h.res.agree (ot _ (by omega)), h.bel.grown hgrow h.bel.size (fun b hb => by have := (h.grow.row.lt b hb).1; omega), hg, big⟩
set_option maxRecDepth 200000 in
set_option maxHeartbeats 8000000 in
theorem copiedAgent_grow (v : Value) (x : Ag) (F0 G0 : List Nat) (w : World) (h : RdAg w v x F0 G0) (hf : ∀ y ∈ x.sealed, y.sk.fits) (hs : x.sealed.length ≤ 1048576) (hp : x.taken.length ≤ 1048576) :
    Calls Tryz.prog 30 #[v] w fun e w' => NewAgH w x e w' := by
  obtain ⟨j0, hj, hy0, hy1, hy2⟩ := info_parts infoItsP8
  obtain ⟨a1, n1, c1, a2, n2, c2, rfl, hL, hP, hc1, hc2⟩ := h
  have hn1 : n1 ≤ 1048576 := by rw [← hL.length]; exact hs
  have HL : Hid (RdL itK w a1 n1 x.sealed F0 ∧ (∀ y ∈ x.sealed, y.sk.fits) ∧ x.sealed.length = n1) := ⟨hL, hf, hL.length⟩
  have HP : Hid (RdP w a2 n2 x.taken G0 ∧ n2 ≤ 2097152) := ⟨hP, by rw [← hP.length]; omega⟩
  clear hL hP hf hs hp hc1 hc2
  have HT0 : Hid (_ ∧ _ ∧ _) := two_made w #[.int .i64 x.id, .int .i64 x.epoch, .bool x.live, .int .i64 x.granted, .slice a1 n1 c1, .slice a2 n2 c2, .int .i64 x.next] #[.int .i64 0, .int .i64 0, .bool false, .int .i64 0, .slice none 0 0, .slice none 0 0, .int .i64 0] 27 27
  obtain ⟨W0, hW0⟩ : ∃ W, W = (w.alloc (.cells #[.int .i64 x.id, .int .i64 x.epoch, .bool x.live, .int .i64 x.granted, .slice a1 n1 c1, .slice a2 n2 c2, .int .i64 x.next] 27)).alloc (.cells #[.int .i64 0, .int .i64 0, .bool false, .int .i64 0, .slice none 0 0, .slice none 0 0, .int .i64 0] 27) := ⟨_, rfl⟩
  have hs0 : W0.heap.size = w.heap.size + 2 := by rw [hW0]; simp
  go_enter Tryz.func30, Tryz.ntmps30
  go_wp2_with (at_make; refine wpList_make_own _ rfl _ _ 24 rfl (w.heap.size + 2) 33 j0 (.agg #[.int .i64 0, .int .i64 0, .int .i64 0, .int .i64 0, .int .i64 0, .int .i64 0, .int .i64 0, .int .i64 0, .slice none 0 0, .slice none 0 0, .slice none 0 0]) 11 Tryz.underlying24 hj hy0 hy1 .i64 .i64 _ n1 rfl rfl rfl (by rw [hy2]; omega) (by unfold maxLen; omega) (by simp) ?_)
  intro w1 hown hgrow
  have HG0 : Hid (CpAg w #[.int .i64 x.id, .int .i64 x.epoch, .bool x.live, .int .i64 x.granted, .slice a1 n1 c1, .slice a2 n2 c2, .int .i64 x.next] x (w.heap.size + 2) 0 (.slice (some ⟨w.heap.size + 1 + 1, 0, none⟩) 0 n1) [] [] w1) := by
    have hb1 : Below W0.heap.size W0 w1 := (Below.refl W0.heap.size W0).grown (by rw [hW0]; exact hgrow) (Nat.le_refl _) (fun k hk => by cases hk)
    rw [← hW0] at HT0
    have e : W0.heap.size = w.heap.size + 2 := hs0
    refine ⟨HT0.out.1.below hb1, HT0.out.2.1.below hb1, Below.next HT0.out.2.2 hb1, ⟨?_, by rw [List.take_zero]; exact RdC.nil, Own.nil, (fun b hb hx => by cases hx), by have := hb1.size; omega⟩, Nat.le_refl _⟩
    have q : w1.ownsRow (w.heap.size + 2) 33 11 (.slice (some ⟨w.heap.size + 1 + 1, 0, none⟩) 0 n1) 0 [] := by simpa using hown
    exact q
  have e4 := HG0.out.box.cell 4
  simp only [aT, aS, aZ] at e4
  clear hown hgrow HT0 hW0 hs0
  go_wp2_with fail
  clear e4
  go_loopw [3, 13] (fun q i wr => ∃ (k : Nat) (v : Value) (vs : List Value) (GG : List Nat), k ≤ n1 ∧ i = .int .i64 k ∧ v = q ∧ Hid (CpAg w #[.int .i64 x.id, .int .i64 x.epoch, .bool x.live, .int .i64 x.granted, .slice a1 n1 c1, .slice a2 n2 c2, .int .i64 x.next] x (w.heap.size + 2) k v vs GG wr)) (fun _ i _ => n1 - (intOf i).toNat)
  case atStart => exact ⟨0, _, [], [], by omega, rfl, rfl, HG0⟩
  case round =>
    clear HG0
    obtain ⟨k, v, vs, GG, hk, rfl, rfl, CSS⟩ := hrel
    by_cases hlt : k < n1
    · have hI : (k : Int) < (n1 : Int) := by omega
      obtain ⟨b, off, ha, hbF, cs, Fi, hcs, hcc, hr, _⟩ := HL.out.1.get k hlt
      have ha' := ha.symm
      subst ha'
      have hbw : b < w.heap.size := HL.out.1.lt b hbF
      obtain ⟨y, hy⟩ : ∃ y, x.sealed[k]? = some y := ⟨_, List.getElem?_eq_getElem (by rw [HL.out.2.2]; exact hlt)⟩
      have HY : Hid (x.sealed[k]? = some y ∧ y.sk.fits ∧ cs.size = 11 ∧ RdIt w (.agg cs) y Fi ∧ cs.all (·.oneCell') = true) := ⟨hy, HL.out.2.1 y (List.mem_of_getElem? hy), hcs, hr y hy, by
        obtain ⟨a1, n1, c1, a2, n2, c2, a3, n3, c3, e⟩ := (hr y hy).cells11
        injection e with e
        rw [e]
        simp [Value.oneCell']⟩
      have HC : Hid (∀ j, j < 11 → wr.cell? ⟨b, off + k * 11 + j, none⟩ = cs[j]?) := fun j hj => by
        have q : wr.cell? ⟨b, off + k * 11 + j, none⟩ = w.cell? ⟨b, off + k * 11 + j, none⟩ := CSS.out.bel.cell (p := ⟨b, off + k * 11 + j, none⟩) hbw
        exact q.trans (hcc j hj)
      clear ha hbF hcs hcc hr hy
      go_wp2_with (first | go_skip | (with_reducible refine stopLoad 33 rfl ?_))
      refine load_at 33 b (off + k * 11) 11 cs _ HC.out HY.out.2.2.1 rfl rfl rfl Tryz.underlying33 rfl infoItP8 ?_
      go_wp2_with (first | go_skip | (with_reducible refine stopStore 33 rfl ?_))
      refine store_fresh 33 wr.heap.size rfl #[.int .i64 0, .int .i64 0, .int .i64 0, .int .i64 0, .int .i64 0, .int .i64 0, .int .i64 0, .int .i64 0, .slice none 0 0, .slice none 0 0, .slice none 0 0] cs 33 rfl rfl rfl rfl (by rw [HY.out.2.2.1]; exact infoItP8) (by rw [HY.out.2.2.1]; rfl) HY.out.2.2.2.2 ?_
      intro w2 hg2 hb2
      have CS2 : Hid (CpAg w #[.int .i64 x.id, .int .i64 x.epoch, .bool x.live, .int .i64 x.granted, .slice (some ⟨b, off, none⟩) n1 c1, .slice a2 n2 c2, .int .i64 x.next] x (w.heap.size + 2) k v vs GG w2 ∧ Blk w2 wr.heap.size cs 33) := ⟨CSS.out.below hb2, hg2⟩
      obtain ⟨X, hX⟩ : ∃ X, X = wr.heap.size := ⟨_, rfl⟩
      rw [← hX] at CS2 ⊢
      clear hg2 hb2 CSS HC hX
      go_wp2_with (first | go_skip | (with_reducible refine stopLoad 33 rfl ?_))
      refine load_known 33 X cs 33 _ CS2.out.2 rfl rfl rfl Tryz.underlying33 rfl (by rw [HY.out.2.2.1]; exact infoItP8) ?_
      go_wp2_with fail
      refine (copiedItem_any _ y Fi _ (HY.out.2.2.2.1.below CS2.out.1.bel) HY.out.2.1).mono ?_
      rintro e w3 ⟨v3, F3, rfl, r3, o3, hb3⟩
      obtain ⟨b1, m1, d1, b2, m2, d2, b3, m3, d3, rfl⟩ := r3.cells11
      have CS3 : Hid (CpAg w #[.int .i64 x.id, .int .i64 x.epoch, .bool x.live, .int .i64 x.granted, .slice (some ⟨b, off, none⟩) n1 c1, .slice a2 n2 c2, .int .i64 x.next] x (w.heap.size + 2) k v vs GG w3) := CS2.out.1.below hb3
      have HK : Hid (RdIt w3 (.agg #[.int .i64 y.seq, .int .i64 y.cls, .int .i64 y.key, .int .i64 y.window, .int .i64 y.sk.count, .int .i64 y.sk.sum, .int .i64 y.sk.min, .int .i64 y.sk.max, .slice b1 m1 d1, .slice b2 m2 d2, .slice b3 m3 d3]) y F3 ∧ Own w2.heap.size w3 F3 ∧ (∀ b ∈ GG, b < w2.heap.size) ∧ (∀ b, v.ownBlock = some b → b < w2.heap.size) ∧ w.heap.size + 2 ≤ w2.heap.size) := ⟨r3, o3, CS2.out.1.grow.lts⟩
      clear r3 o3 hb3 CS2
      go_wp2_with (with_reducible refine stopAppend rfl ?_)
      obtain ⟨W6, hW6⟩ : ∃ W, W = w3.alloc (.cells #[.int .i64 y.seq, .int .i64 y.cls, .int .i64 y.key, .int .i64 y.window, .int .i64 y.sk.count, .int .i64 y.sk.sum, .int .i64 y.sk.min, .int .i64 y.sk.max, .slice b1 m1 d1, .slice b2 m2 d2, .slice b3 m3 d3] 33) := ⟨_, rfl⟩
      have hbn : Below w3.heap.size w3 W6 := by rw [hW6]; exact (Below.refl _ _).alloc (Nat.le_refl _) _
      have HCN : Hid (∀ (j : Nat) (u : Value), [.int .i64 y.seq, .int .i64 y.cls, .int .i64 y.key, .int .i64 y.window, .int .i64 y.sk.count, .int .i64 y.sk.sum, .int .i64 y.sk.min, .int .i64 y.sk.max, .slice b1 m1 d1, .slice b2 m2 d2, .slice b3 m3 d3][j]? = some u → W6.cell? ((⟨w3.heap.size, 0, none⟩ : Addr).add j) = some u) := by rw [hW6]; exact news_lit w3 #[.int .i64 y.seq, .int .i64 y.cls, .int .i64 y.key, .int .i64 y.window, .int .i64 y.sk.count, .int .i64 y.sk.sum, .int .i64 y.sk.min, .int .i64 y.sk.max, .slice b1 m1 d1, .slice b2 m2 d2, .slice b3 m3 d3] 33
      have CS6 : Hid (CpAg w #[.int .i64 x.id, .int .i64 x.epoch, .bool x.live, .int .i64 x.granted, .slice (some ⟨b, off, none⟩) n1 c1, .slice a2 n2 c2, .int .i64 x.next] x (w.heap.size + 2) k v vs GG W6) := CS3.out.below hbn
      have HK6 : Hid (RdIt W6 (.agg #[.int .i64 y.seq, .int .i64 y.cls, .int .i64 y.key, .int .i64 y.window, .int .i64 y.sk.count, .int .i64 y.sk.sum, .int .i64 y.sk.min, .int .i64 y.sk.max, .slice b1 m1 d1, .slice b2 m2 d2, .slice b3 m3 d3]) y F3 ∧ Own w2.heap.size W6 F3) := ⟨HK.out.1.below hbn, HK.out.2.1.below (RdIt.lt HK.out.1) hbn⟩
      rw [← hW6]
      clear hW6 hbn CS3
      refine Stop.intro (wpList_append_lies _ rfl _ _ 24 rfl (w.heap.size + 2) 33 j0 (.agg #[.int .i64 0, .int .i64 0, .int .i64 0, .int .i64 0, .int .i64 0, .int .i64 0, .int .i64 0, .int .i64 0, .slice none 0 0, .slice none 0 0, .slice none 0 0]) 11 136 Tryz.underlying24 hj hy0 hy1 hy2 rfl (by decide) v k vs rfl CS6.out.grow.row ⟨w3.heap.size, 0, none⟩ 1 1 [.int .i64 y.seq, .int .i64 y.cls, .int .i64 y.key, .int .i64 y.window, .int .i64 y.sk.count, .int .i64 y.sk.sum, .int .i64 y.sk.min, .int .i64 y.sk.max, .slice b1 m1 d1, .slice b2 m2 d2, .slice b3 m3 d3] rfl rfl HCN.out (by simp [Value.oneCell']) (by omega) (by unfold maxLen; omega) (by omega) CS6.out.grow.lw _ rfl ?_)
      intro g4 cp4 W7 hown hgrow hat hlt7
      have CS7 : Hid (CpAg w #[.int .i64 x.id, .int .i64 x.epoch, .bool x.live, .int .i64 x.granted, .slice (some ⟨b, off, none⟩) n1 c1, .slice a2 n2 c2, .int .i64 x.next] x (w.heap.size + 2) (k + 1) (.slice (some ⟨g4, 0, none⟩) (k + 1) cp4) (vs ++ [.int .i64 y.seq, .int .i64 y.cls, .int .i64 y.key, .int .i64 y.window, .int .i64 y.sk.count, .int .i64 y.sk.sum, .int .i64 y.sk.min, .int .i64 y.sk.max, .slice b1 m1 d1, .slice b2 m2 d2, .slice b3 m3 d3]) (GG ++ F3) W7) := CS6.out.step hgrow (CS6.out.grow.step HY.out.1 HK6.out.1 rfl HK6.out.2 HK.out.2.2.1 HK.out.2.2.2.1 HK.out.2.2.2.2 hown hgrow hat)
      clear hown hgrow hat hlt7 CS6 HK6 HK HCN
      go_wp2
      go_roundw
      case rel => exact ⟨k + 1, _, _, _, by omega, by go_num, rfl, CS7⟩
      case measure => simp [intOf]; omega
    · obtain rfl : k = n1 := by omega
      have HGW : Hid (CpAg w #[.int .i64 x.id, .int .i64 x.epoch, .bool x.live, .int .i64 x.granted, .slice a1 k c1, .slice a2 n2 c2, .int .i64 x.next] x (w.heap.size + 2) k v vs GG wr) := CSS
      have e5 := CSS.out.box.cell 5
      simp only [aT, aS, aZ] at e5
      clear CSS
      go_wp2_with fail
      refine (copiedSpans_any a2 n2 c2 x.taken G0 _ (HP.out.1.below HGW.out.bel) HP.out.2).mono ?_
      rintro e w2 ⟨p2, l2, k2, G2, rfl, r2, o2, hb2, hcp2⟩
      have HG2 : Hid (RdP w2 p2 l2 x.taken G2 ∧ Own wr.heap.size w2 G2 ∧ Capd p2 l2 k2 ∧ (∀ b ∈ GG, b < wr.heap.size) ∧ (∀ b, v.ownBlock = some b → b < wr.heap.size) ∧ w.heap.size + 2 ≤ wr.heap.size) := ⟨r2, o2, hcp2, HGW.out.grow.lts⟩
      have HW2 : Hid (CpAg w #[.int .i64 x.id, .int .i64 x.epoch, .bool x.live, .int .i64 x.granted, .slice a1 k c1, .slice a2 n2 c2, .int .i64 x.next] x (w.heap.size + 2) k v vs GG w2) := HGW.out.below hb2
      have c4 := HW2.out.box.cell 4
      have c5 := HW2.out.box.cell 5
      have f4 := HW2.out.box.frozen 4
      have f5 := HW2.out.box.frozen 5
      simp only [aT, aS, aZ] at c4 c5
      clear r2 o2 hb2 hcp2 HGW e5
      obtain ⟨q1, d1, F1, rfl, rL, oL, hcp, hpt⟩ := HW2.out.grow.done2 HL.out.2.2
      have HE : Hid (RdL itK w2 q1 k x.sealed F1 ∧ Own (w.heap.size + 2) w2 F1 ∧ Capd q1 k d1 ∧ ∀ b ∈ F1, (Value.slice q1 k d1).ownBlock = some b ∨ b ∈ GG) := ⟨rL, oL, hcp, hpt⟩
      clear rL oL hcp hpt
      go_wp2_with (first | go_skip | (with_reducible refine stopLoad 27 rfl ?_))
      obtain ⟨w4, hw4⟩ : ∃ W, W = (w2.setCell ⟨w.heap.size, 4, none⟩ (.slice q1 k d1)).setCell ⟨w.heap.size, 5, none⟩ (.slice p2 l2 k2) := ⟨_, rfl⟩
      have nF : w.heap.size ∉ F1 := fun hx => by have := HE.out.2.1.ge _ hx; omega
      have nG : w.heap.size ∉ G2 := fun hx => by have := HG2.out.2.1.ge _ hx; have := HG2.out.2.2.2.2.2; omega
      have H4 : Hid (Blk w4 w.heap.size #[.int .i64 x.id, .int .i64 x.epoch, .bool x.live, .int .i64 x.granted, .slice q1 k d1, .slice p2 l2 k2, .int .i64 x.next] 27 ∧ Blk w4 (w.heap.size + 1) #[.int .i64 0, .int .i64 0, .bool false, .int .i64 0, .slice none 0 0, .slice none 0 0, .int .i64 0] 27 ∧ Below w.heap.size w w4 ∧ RdL itK w4 q1 k x.sealed F1 ∧ Own (w.heap.size + 2) w4 F1 ∧ RdP w4 p2 l2 x.taken G2 ∧ Own wr.heap.size w4 G2 ∧ GrowL itK 33 x.sealed (w.heap.size + 2) k (.slice q1 k d1) vs GG w4) := by
        rw [hw4]
        have agF := ((Agree.refl w2 F1).thenSet nF 4 (.slice q1 k d1)).thenSet nF 5 (.slice p2 l2 k2)
        have agG := ((Agree.refl w2 G2).thenSet nG 4 (.slice q1 k d1)).thenSet nG 5 (.slice p2 l2 k2)
        exact ⟨(HW2.out.box.set 4 _).set 5 _, (HW2.out.res.setOther (by omega) 4 _).setOther (by omega) 5 _, (HW2.out.bel.setCell (by show w.heap.size ≤ w.heap.size; omega) _).setCell (by show w.heap.size ≤ w.heap.size; omega) _, HE.out.1.agree agF, HE.out.2.1.agree agF, HG2.out.1.agree agG, HG2.out.2.1.agree agG, (HW2.out.grow.set (by omega)).set (by omega)⟩
      have HJ : Hid (Capd q1 k d1 ∧ Capd p2 l2 k2 ∧ (∀ b ∈ F1, b ∉ G2) ∧ (∀ b ∈ G2, ¬ (Value.slice q1 k d1).ownBlock = some b) ∧ (∀ b ∈ GG, b ∉ G2) ∧ w.heap.size + 2 ≤ wr.heap.size) := by
        refine ⟨HE.out.2.2.1, HG2.out.2.2.1, fun b hb hx => ?_, fun b hb e => ?_, fun b hb hx => ?_, HG2.out.2.2.2.2.2⟩
        · have h1 := HG2.out.2.1.ge b hx
          rcases HE.out.2.2.2 b hb with q | q
          · have := HG2.out.2.2.2.2.1 b q; omega
          · have := HG2.out.2.2.2.1 b q; omega
        · have h1 := HG2.out.2.1.ge b hb; have h2 := HG2.out.2.2.2.2.1 b e; omega
        · have h1 := HG2.out.2.1.ge b hx; have h2 := HG2.out.2.2.2.1 b hb; omega
      rw [← hw4]
      clear hw4 nF nG c4 c5 f4 f5 HW2 HG2 HE
      refine load_known 27 w.heap.size _ 27 _ H4.out.1 rfl rfl rfl Tryz.underlying27 rfl infoAgP8 ?_
      go_wp2_with (first | go_skip | (with_reducible refine stopStore 27 rfl ?_))
      refine store_known 27 (w.heap.size + 1) _ #[.int .i64 x.id, .int .i64 x.epoch, .bool x.live, .int .i64 x.granted, .slice q1 k d1, .slice p2 l2 k2, .int .i64 x.next] 27 H4.out.2.1 rfl rfl rfl rfl infoAgP8 rfl (by simp [Value.oneCell']) ?_
      go_wp2
      refine bodyPost_ret (results_cell_row Tryz.results30 _ _ (w.heap.size + 1) _ _ (0, 0) _ rfl H4.out.2.1.setRow Tryz.underlying27 rfl infoAgP8) rfl ?_
      have nr : w.heap.size + 1 ∉ F1 := fun hx => by have := H4.out.2.2.2.2.1.ge _ hx; omega
      have mr : w.heap.size + 1 ∉ G2 := fun hx => by have := H4.out.2.2.2.2.2.2.1.ge _ hx; have := HJ.out.2.2.2.2.2; omega
      have hk' := HL.out.2.2
      subst hk'
      exact ⟨q1, d1, p2, l2, k2, F1, G2, w.heap.size + 2, vs, GG, rfl, H4.out.2.2.2.1.agree (Agree.row nr _), H4.out.2.2.2.2.2.1.agree (Agree.row mr _), HJ.out.1, HJ.out.2.1, (H4.out.2.2.2.2.1.agree (Agree.row nr _)).mono (by omega), (H4.out.2.2.2.2.2.2.1.agree (Agree.row mr _)).mono (by have := HJ.out.2.2.2.2.2; omega), HJ.out.2.2.1, below_setRow H4.out.2.2.1 (by omega) _, H4.out.2.2.2.2.2.2.2.setRow (by omega), by omega, HJ.out.2.2.2.1, HJ.out.2.2.2.2.1⟩
set_option maxRecDepth 200000 in
theorem copiedAgent_any (v : Value) (x : Ag) (F0 G0 : List Nat) (w : World) (h : RdAg w v x F0 G0) (hf : ∀ y ∈ x.sealed, y.sk.fits) (hs : x.sealed.length ≤ 1048576) (hp : x.taken.length ≤ 1048576) :
    Calls Tryz.prog 30 #[v] w fun e w' => NewAg w x e w' := (copiedAgent_grow v x F0 G0 w h hf hs hp).mono fun _ _ h => h.plain
end Go.Proofs.YtgkbhhlkaifnoaaGreatDoor
/- An entry as the program holds it, in memory. No statement of the seat is proved here. -/
namespace Go.Proofs.YtgkbhhlkaifnoaaGreatDoor
open Go.RowKit
theorem wrapI {n : Int} (h : -9223372036854775808 ≤ n ∧ n ≤ 9223372036854775807) : IntKind.i64.wrap n = n := by
  simp [IntKind.wrap, IntKind.bits, IntKind.signed]
  omega
end Go.Proofs.YtgkbhhlkaifnoaaGreatDoor
/- What the walks through the model's Seal and the program's share. No statement of the seat is proved here. -/
namespace Go.Proofs.YtgkbhhlkaifnoaaGreatDoor
open Go.RowKit
def Ag.item (x : Ag) (c k n : Int) (s : Sk) : It := ⟨(x.sealed.length : Int) + 1, c, k, n, s⟩
def Ag.plus (x : Ag) (y : It) : Ag := ⟨x.id, x.epoch, x.live, x.granted, x.sealed ++ [y], x.taken, x.next⟩
/-- An agent behind a Seal, and what it tells. -/
def Ag.seal (x : Ag) (c k n : Int) (s : Sk) : Ag × Int := if x.ok = true ∧ (x.item c k n s).ok = true then (x.plus (x.item c k n s), (x.sealed.length : Int) + 1) else (x, 0)
theorem itsOk_snoc (xs : List It) (y : It) (h : itsOk xs = true) (hs : y.seq = (xs.length : Int) + 1) : itsOk (xs ++ [y]) = y.ok := by
  cases e : y.ok
  · exact itsOk_not (k := xs.length) (y := y) (by simp) (.inl e)
  · refine itsOk_all (fun k z hz => ?_)
    by_cases hk : k < xs.length
    · rw [List.getElem?_append_left hk] at hz
      exact itsOk_at h hz
    · have h1 : k < (xs ++ [y]).length := (List.getElem?_eq_some_iff.1 hz).1
      have h2 : k = xs.length := by rw [List.length_append] at h1; simp at h1; omega
      subst h2
      rw [List.getElem?_append_right (Nat.le_refl _)] at hz
      simp at hz
      subst hz
      exact ⟨e, hs⟩
theorem Sp.under_mono {ps : Sp} {m m' : Int} (h : ps.under m = true) (hm : m ≤ m') : ps.under m' = true := by
  refine Sp.under_all (fun k hk => ?_)
  unfold Sp.under at h
  rw [List.all_eq_true] at h
  have := of_decide_eq_true (h k (List.mem_range.2 hk))
  omega
theorem Ag.plus_ok (x : Ag) (c k n : Int) (s : Sk) (h : x.ok = true) : (x.plus (x.item c k n s)).ok = (x.item c k n s).ok := by
  rw [Ag.ok_prog] at h
  rw [Ag.ok_prog]
  simp only [Bool.and_eq_true] at h
  obtain ⟨⟨⟨⟨⟨h1, h2⟩, h3⟩, h4⟩, h5⟩, h6, h7, h8⟩ := h
  show (decide (0 ≤ x.id ∧ x.id ≤ 2) && decide (0 ≤ x.epoch ∧ x.epoch ≤ 1000) && decide (0 ≤ x.granted ∧ x.granted ≤ 60) && decide (0 ≤ x.next ∧ x.next ≤ 60) && (x.live || decide (x.granted ≤ 0)) && (itsOk (x.sealed ++ [x.item c k n s]) && (x.taken.ok && x.taken.under (x.sealed ++ [x.item c k n s]).length))) = _
  rw [h1, h2, h3, h4, h5, h7, itsOk_snoc _ _ h6 rfl, Sp.under_mono h8 (by rw [List.length_append]; simp; try omega)]
  simp
section
variable {α : Type} {K : ElK α} {e : TypeId} {xs : List α} {lo k : Nat} {v : Value} {vs : List Value} {G : List Nat} {W W' : World}
/-- A list that has all of its elements may get one more. -/
theorem GrowL.extend (h : GrowL K e xs lo k v vs G W) (hk : xs.length = k) (z : α) : GrowL K e (xs ++ [z]) lo k v vs G W :=
  ⟨h.row, by rw [List.take_append_of_le_length (by omega)]; exact h.rd, h.og, h.ap, h.lw⟩
end
section
variable {α : Type} {K : ElK α} {e : TypeId} {xs : List α} {lo k : Nat} {v : Value} {vs : List Value} {G : List Nat} {W W' : World}
theorem GrowL.keep (h : GrowL K e xs lo k v vs G W) (hv : ∀ b, v.ownBlock = some b → W'.heap[b]? = W.heap[b]?) (hG : Agree W W' G) (hs : W.heap.size ≤ W'.heap.size) : GrowL K e xs lo k v vs G W' := by
  refine ⟨⟨h.row.1, ?_⟩, h.rd.agree hG, h.og.agree hG, h.ap, Nat.le_trans h.lw hs⟩
  rcases h.row.2 with q | ⟨g', cap, cur, h1, h2, h3, h4⟩
  · exact .inl q
  · exact .inr ⟨g', cap, cur, h1, h2, by rw [hv g' (by rw [h1]; rfl)]; exact h3, h4⟩
end
/-- A list of items that may get one more; B: its blocks are newer, L: none of them is this, nor of G. -/
def GrA (B L : Nat) (v : Value) (n : Nat) (xs : List It) (G : List Nat) (W : World) : Prop := ∃ lo vs GG, B ≤ lo ∧ GrowL itK 33 xs lo n v vs GG W ∧ xs.length = n ∧ (∀ b, v.ownBlock = some b → b ≠ L ∧ b ∉ G) ∧ (∀ b ∈ GG, b ≠ L ∧ b ∉ G)
section
variable {B L L' B' : Nat} {v : Value} {n : Nat} {xs : List It} {G G' : List Nat} {W W' : World}
theorem GrA.low (h : GrA B L v n xs G W) (hk : ∀ b, B ≤ b → b ≠ L → b < W.heap.size → W'.heap[b]? = W.heap[b]?) (hs : W.heap.size ≤ W'.heap.size) : GrA B L v n xs G W' := by
  obtain ⟨lo, vs, GG, h1, h2, h3, h4, h5⟩ := h
  exact ⟨lo, vs, GG, h1, h2.keep (fun b e => hk b (Nat.le_trans h1 (h2.row.lt b e).1) (h4 b e).1 (h2.row.lt b e).2) (fun b hb => hk b (Nat.le_trans h1 (h2.og.ge b hb)) (h5 b hb).1 (h2.rd.lt b hb)) hs, h3, h4, h5⟩
theorem GrA.below (h : GrA B L v n xs G W) (b : Below W.heap.size W W') : GrA B L v n xs G W' := h.low (fun x _ _ hx => b.block x hx) b.size
theorem GrA.cell (h : GrA B L v n xs G W) {g j : Nat} {u : Value} (hg : g < B ∨ g = L) : GrA B L v n xs G (W.setCell ⟨g, j, none⟩ u) := h.low (fun b h1 h2 _ => Below.heap_setCell W ⟨g, j, none⟩ u b (by show b ≠ g; omega)) (by simp)
theorem GrA.row (h : GrA B L v n xs G W) {g : Nat} {ds : Array Value} (hg : g < B ∨ g = L) : GrA B L v n xs G (W.setRow g ds) := h.low (fun b h1 h2 _ => setRow_other W g b ds (by omega)) (below_setRow (Below.refl 0 W) (Nat.zero_le g) ds).size
theorem GrA.next (h : GrA B L v n xs G W) {q : Nat} (g : W.grownBy W' (some q)) (hq : q < B) : GrA B L v n xs G W' := h.low (fun b h1 _ h3 => g.block b h3 (fun e => by simp at e; omega)) g.size
theorem GrA.at (h : GrA B L v n xs G W) (hL : L' < B ∨ W.heap.size ≤ L') : GrA B L' v n xs G W := by
  obtain ⟨lo, vs, GG, h1, h2, h3, h4, h5⟩ := h
  exact ⟨lo, vs, GG, h1, h2, h3, fun b e => ⟨by have := h2.row.lt b e; omega, (h4 b e).2⟩, fun b hb => ⟨by have := h2.og.ge b hb; have := h2.rd.lt b hb; omega, (h5 b hb).2⟩⟩
theorem GrA.mono (h : GrA B L v n xs G W) (hB : B' ≤ B) : GrA B' L v n xs G W := by
  obtain ⟨lo, vs, GG, h1, h2⟩ := h
  exact ⟨lo, vs, GG, Nat.le_trans hB h1, h2⟩
theorem GrA.fresh (h : GrA B L v n xs G W) (hG : ∀ b ∈ G', W.heap.size ≤ b) : GrA B L v n xs G' W := by
  obtain ⟨lo, vs, GG, h1, h2, h3, h4, h5⟩ := h
  exact ⟨lo, vs, GG, h1, h2, h3, fun b e => ⟨(h4 b e).1, fun hx => by have := h2.row.lt b e; have := hG b hx; omega⟩, fun b hb => ⟨(h5 b hb).1, fun hx => by have := h2.rd.lt b hb; have := hG b hx; omega⟩⟩
theorem GrA.start (hB : B ≤ W.heap.size) : GrA B L (.slice none 0 0) 0 [] G W := ⟨W.heap.size, [], [], hB, GrowL.start (Nat.le_refl _), rfl, (fun b hb => by cases hb), fun b hb => by cases hb⟩
/-- One more item behind it. -/
theorem GrA.add (h : GrA B L v n xs G W) {y : It} {cs : Array Value} {Fk : List Nat} {g4 cp4 M lo : Nat} {vs : List Value} {GG : List Nat} (h1 : B ≤ lo) (h2 : GrowL itK 33 xs lo n v vs GG W) (h4 : ∀ b, v.ownBlock = some b → b ≠ L ∧ b ∉ G) (h5 : ∀ b ∈ GG, b ≠ L ∧ b ∉ G)
    (rk : RdIt W (.agg cs) y Fk) (hn : cs.size = 11) (ok : Own M W Fk) (hM : lo ≤ M ∧ (∀ b, v.ownBlock = some b → b < M) ∧ (∀ b ∈ GG, b < M) ∧ (∀ b ∈ G, b < M) ∧ L < M) (hW : M ≤ W.heap.size)
    (hown : W'.ownsRow lo 33 11 (.slice (some ⟨g4, 0, none⟩) (n + 1) cp4) (n + 1) (vs ++ cs.toList)) (hgrow : W.grownBy W' v.ownBlock) (hat : v.ownBlock = some g4 ∨ g4 = W.heap.size) :
    ∃ F', RdL itK W' (some ⟨g4, 0, none⟩) (n + 1) (xs ++ [y]) F' ∧ Own B W' F' ∧ Capd (some ⟨g4, 0, none⟩) (n + 1) cp4 ∧ (∀ b ∈ F', b ≠ L ∧ b ∉ G) ∧ ∀ b, b < W.heap.size → (b < B ∨ b = L ∨ b ∈ G) → W'.heap[b]? = W.heap[b]? := by
  obtain ⟨_, _, _, _, _, h3, _, _⟩ := h
  have hx : (xs ++ [y])[n]? = some y := by rw [← h3]; simp
  have g1 := (h2.extend h3 y).step hx rk hn ok hM.2.2.1 hM.2.1 hM.1 hown hgrow hat
  obtain ⟨q, cp, F', e, r, o, cpd, pt⟩ := g1.done2 (by rw [List.length_append, h3]; rfl)
  injection e with e1 e2 e3
  subst e1; subst e3
  refine ⟨F', r, o.mono h1, cpd, fun b hb => ?_, fun b hb hc => hgrow.block b hb (fun e => ?_)⟩
  · rcases pt b hb with q | q
    · have hb' : b = g4 := by simpa [Value.ownBlock] using q.symm
      subst hb'
      rcases hat with q | q
      · exact h4 b q
      · exact ⟨by have := hM.2.2.2.2; omega, fun hg => by have := hM.2.2.2.1 b hg; omega⟩
    · rcases List.mem_append.1 q with q | q
      · exact h5 b q
      · exact ⟨fun e => by have := ok.ge b q; have := hM.2.2.2.2; omega, fun hg => by have := ok.ge b q; have := hM.2.2.2.1 b hg; omega⟩
  · have := (h2.row.lt b e.symm).1
    rcases hc with hc | hc | hc
    · omega
    · exact (h4 b e.symm).1 hc
    · exact (h4 b e.symm).2 hc
end
/-- What a Seal tells, with room behind its list. -/
def NewAg2R (w : World) (z : Ag × Int) (e : Ending) (w' : World) : Prop := ∃ cs F G c, e = .returned (.tuple #[.agg cs, .int .i64 c]) ∧ RdAg w' (.agg cs) z.1 F G ∧ c = z.2 ∧ Own w.heap.size w' F ∧ Own w.heap.size w' G ∧ (∀ b ∈ F, b ∉ G) ∧ Below w.heap.size w w' ∧ ∃ v, cs[4]? = some v ∧ GrA w.heap.size w'.heap.size v z.1.sealed.length z.1.sealed G w'
theorem NewAg2R.plain {w : World} {z : Ag × Int} {e : Ending} {w' : World} (h : NewAg2R w z e w') : NewAg2 w z e w' := by
  obtain ⟨cs, F, G, c, e1, r1, r2, r3, r4, r5, r6, _⟩ := h
  exact ⟨_, F, G, c, e1, r1, r2, r3, r4, r5, r6⟩
theorem NewAgH.room {w : World} {x : Ag} {e : Ending} {w' : World} (h : NewAgH w x e w') : ∃ cs F G, e = .returned (.agg cs) ∧ RdAg w' (.agg cs) x F G ∧ Own w.heap.size w' F ∧ Own w.heap.size w' G ∧ (∀ b ∈ F, b ∉ G) ∧ Below w.heap.size w w' ∧ ∃ v, cs[4]? = some v ∧ GrA w.heap.size w'.heap.size v x.sealed.length x.sealed G w' := by
  obtain ⟨q1, k1, q2, l2, k2, F, G, lo, vs, GG, rfl, r1, r2, c1, c2, o1, o2, ap, b, g, hlo, h1, h2⟩ := h
  exact ⟨_, F, G, rfl, ⟨q1, _, k1, q2, l2, k2, rfl, r1, r2, c1, c2⟩, o1, o2, ap, b, _, rfl, lo, vs, GG, hlo, g, rfl, fun y e => ⟨by have := g.lts.2.1 y e; omega, fun hy => h1 y hy e⟩, fun y hy => ⟨by have := g.lts.1 y hy; omega, h2 y hy⟩⟩
theorem NewAgG.apart {w : World} {x : Ag} {e : Ending} {w' : World} (h : NewAgG w x e w') : NewAgH w x e w' := by
  obtain ⟨q1, k1, q2, l2, k2, F, G, lo, vs, GG, he, r1, r2, c1, c2, o1, o2, ap, b, g, hlo, hG⟩ := h
  exact ⟨q1, k1, q2, l2, k2, F, G, lo, vs, GG, he, r1, r2, c1, c2, o1, o2, ap, b, g, hlo, fun y hy e => by have := (g.row.lt y e).1; have := hG y hy; omega, fun y hy hx => by have := g.og.ge y hy; have := hG y hx; omega⟩
/-- A copy of an agent whose list may get one more; L: behind it all is newer. -/
structure SealC (B L lo n1 : Nat) (x : Ag) (q1 : Option Addr) (k1 : Nat) (q2 : Option Addr) (l2 k2 : Nat) (F G GG : List Nat) (vs : List Value) (W : World) : Prop where
  len : x.sealed.length = n1
  rl : RdL itK W q1 n1 x.sealed F
  rp : RdP W q2 l2 x.taken G
  cp1 : Capd q1 n1 k1
  cp2 : Capd q2 l2 k2
  oF : Own B W F
  oG : Own B W G
  ap : ∀ b ∈ F, b ∉ G
  gr : GrowL itK 33 x.sealed lo n1 (.slice q1 n1 k1) vs GG W
  hlo : B ≤ lo
  g1 : ∀ b ∈ G, ¬ (Value.slice q1 n1 k1).ownBlock = some b
  g2 : ∀ b ∈ GG, b ∉ G
  l1 : ∀ b ∈ F, b < L
  l2' : ∀ b ∈ G, b < L
  l3 : ∀ b ∈ GG, b < L
  l4 : ∀ b, (Value.slice q1 n1 k1).ownBlock = some b → b < L
  l5 : lo ≤ L
theorem SealC.below {B L lo n1 : Nat} {x : Ag} {q1 : Option Addr} {k1 : Nat} {q2 : Option Addr} {l2 k2 : Nat} {F G GG : List Nat} {vs : List Value} {W W' : World} (h : SealC B L lo n1 x q1 k1 q2 l2 k2 F G GG vs W) (b : Below W.heap.size W W') : SealC B L lo n1 x q1 k1 q2 l2 k2 F G GG vs W' :=
  ⟨h.len, h.rl.below b, h.rp.below b, h.cp1, h.cp2, h.oF.below h.rl.lt b, h.oG.below h.rp.lt b, h.ap, h.gr.below b, h.hlo, h.g1, h.g2, h.l1, h.l2', h.l3, h.l4, h.l5⟩
theorem NewAgH.at {w : World} {x : Ag} {e : Ending} {w' : World} {n1 : Nat} (h : NewAgH w x e w') (hn : x.sealed.length = n1) : ∃ (q1 : Option Addr) (k1 : Nat) (q2 : Option Addr) (l2 k2 : Nat) (F G GG : List Nat) (lo : Nat) (vs : List Value),
    e = .returned (.agg #[.int .i64 x.id, .int .i64 x.epoch, .bool x.live, .int .i64 x.granted, .slice q1 n1 k1, .slice q2 l2 k2, .int .i64 x.next]) ∧ SealC w.heap.size w'.heap.size lo n1 x q1 k1 q2 l2 k2 F G GG vs w' ∧ Below w.heap.size w w' := by
  subst hn
  obtain ⟨q1, k1, q2, l2, k2, F, G, lo, vs, GG, he, r1, r2, c1, c2, o1, o2, ap, b, g, hlo, h1, h2⟩ := h
  exact ⟨q1, k1, q2, l2, k2, F, G, GG, lo, vs, he, ⟨rfl, r1, r2, c1, c2, o1, o2, ap, g, hlo, h1, h2, r1.lt, r2.lt, g.lts.1, g.lts.2.1, g.lts.2.2⟩, b⟩
/-- What a Seal has before it: the agent, the summary, the result's place. -/
structure SealW (w : World) (A S : Array Value) (W : World) : Prop where
  box : Blk W w.heap.size A 27
  sk : Blk W (w.heap.size + 1) S 31
  res : Blk W (w.heap.size + 1 + 1) #[.int .i64 0, .int .i64 0, .bool false, .int .i64 0, .slice none 0 0, .slice none 0 0, .int .i64 0] 27
  bel : Below w.heap.size w W
theorem SealW.below {w W W' : World} {A S : Array Value} (h : SealW w A S W) (b : Below W.heap.size W W') : SealW w A S W' := ⟨h.box.below b, h.sk.below b, h.res.below b, Below.next h.bel b⟩
theorem SealW.made (w : World) (A S : Array Value) : SealW w A S (((w.alloc (.cells A 27)).alloc (.cells S 31)).alloc (.cells #[.int .i64 0, .int .i64 0, .bool false, .int .i64 0, .slice none 0 0, .slice none 0 0, .int .i64 0] 27)) :=
  ⟨((Blk.made _ _ _).alloc _).alloc _, (Blk.made_eq (by simp)).alloc _, Blk.made_eq (by simp), Below.allocW _ (Below.allocW _ (Below.allocW _ (Below.refl _ _) (Nat.le_refl _)) (Nat.le_refl _)) (Nat.le_refl _)⟩
theorem SealW.kept {w W W' : World} {A S : Array Value} (h : SealW w A S W) (hk : ∀ b, b < w.heap.size + 3 → W'.heap[b]? = W.heap[b]?) (hs : W.heap.size ≤ W'.heap.size) (hb : Below w.heap.size w W') : SealW w A S W' := by
  have _ := hs
  exact ⟨h.box.agree (hk _ (by omega)), h.sk.agree (hk _ (by omega)), h.res.agree (hk _ (by omega)), hb⟩
/-- .. and the copy in a variable at L. -/
structure SealL (w : World) (A S : Array Value) (B L lo n1 : Nat) (x : Ag) (q1 : Option Addr) (k1 : Nat) (q2 : Option Addr) (l2 k2 : Nat) (F G GG : List Nat) (vs : List Value) (W : World) : Prop where
  base : SealW w A S W
  loc : Blk W L #[.int .i64 x.id, .int .i64 x.epoch, .bool x.live, .int .i64 x.granted, .slice q1 n1 k1, .slice q2 l2 k2, .int .i64 x.next] 27
  c : SealC B L lo n1 x q1 k1 q2 l2 k2 F G GG vs W
  gB : w.heap.size + 3 ≤ B
  gL : B ≤ L
theorem SealL.below {w : World} {A S : Array Value} {B L lo n1 : Nat} {x : Ag} {q1 : Option Addr} {k1 : Nat} {q2 : Option Addr} {l2 k2 : Nat} {F G GG : List Nat} {vs : List Value} {W W' : World} (h : SealL w A S B L lo n1 x q1 k1 q2 l2 k2 F G GG vs W) (b : Below W.heap.size W W') : SealL w A S B L lo n1 x q1 k1 q2 l2 k2 F G GG vs W' := ⟨h.base.below b, h.loc.below b, h.c.below b, h.gB, h.gL⟩
/-- .. and behind the append. -/
structure SealD (w : World) (A S : Array Value) (L : Nat) (C : Array Value) (y : Ag) (F G : List Nat) (W : World) : Prop where
  base : SealW w A S W
  loc : Blk W L C 27
  rd : RdAg W (.agg C) y F G
  oF : Own (w.heap.size + 3) W F
  oG : Own (w.heap.size + 3) W G
  ap : ∀ b ∈ F, b ∉ G
  gL : w.heap.size + 3 ≤ L
  rm : ∃ v, C[4]? = some v ∧ GrA (w.heap.size + 3) L v y.sealed.length y.sealed G W
theorem SealD.below {w : World} {A S : Array Value} {L : Nat} {C : Array Value} {y : Ag} {F G : List Nat} {W W' : World} (h : SealD w A S L C y F G W) (b : Below W.heap.size W W') : SealD w A S L C y F G W' :=
  ⟨h.base.below b, h.loc.below b, h.rd.below b, h.oF.below h.rd.lt1 b, h.oG.below h.rd.lt2 b, h.ap, h.gL, let ⟨v, e, g⟩ := h.rm; ⟨v, e, g.below b⟩⟩
theorem SealL.done {w : World} {A S : Array Value} {B L lo n1 : Nat} {x : Ag} {q1 : Option Addr} {k1 : Nat} {q2 : Option Addr} {l2 k2 : Nat} {F G GG : List Nat} {vs : List Value} {W W' : World} (h : SealL w A S B L lo n1 x q1 k1 q2 l2 k2 F G GG vs W) {y : It} {cs : Array Value} {Fk : List Nat} {g4 cp4 : Nat}
    (rk : RdIt W (.agg cs) y Fk) (hn : cs.size = 11) (ok : Own (L + 1) W Fk)
    (hown : W'.ownsRow lo 33 11 (.slice (some ⟨g4, 0, none⟩) (n1 + 1) cp4) (n1 + 1) (vs ++ cs.toList)) (hgrow : W.grownBy W' (Value.slice q1 n1 k1).ownBlock) (hat : (Value.slice q1 n1 k1).ownBlock = some g4 ∨ g4 = W.heap.size) :
    SealW w A S W' ∧ Blk W' L #[.int .i64 x.id, .int .i64 x.epoch, .bool x.live, .int .i64 x.granted, .slice q1 n1 k1, .slice q2 l2 k2, .int .i64 x.next] 27 ∧ ∃ F', SealD w A S L #[.int .i64 x.id, .int .i64 x.epoch, .bool x.live, .int .i64 x.granted, .slice (some ⟨g4, 0, none⟩) (n1 + 1) cp4, .slice q2 l2 k2, .int .i64 x.next] (x.plus y) F' G (W'.setCell ⟨L, 4, none⟩ (.slice (some ⟨g4, 0, none⟩) (n1 + 1) cp4)) := by
  have gB := h.gB; have gL := h.gL; have hlo := h.c.hlo; have l5 := h.c.l5
  have hLW := h.loc.lt
  have hx : (x.sealed ++ [y])[n1]? = some y := by rw [← h.c.len]; simp
  have g0 := h.c.gr.extend h.c.len y
  have g1 := g0.step hx rk hn ok (fun b hb => by have := h.c.l3 b hb; omega) (fun b hb => by have := h.c.l4 b hb; omega) (by omega) hown hgrow hat
  obtain ⟨q, cp, F', e, r, o, cpd, pt⟩ := g1.done2 (by rw [List.length_append, h.c.len]; rfl)
  injection e with e1 e2 e3
  subst e1; subst e3
  have kp : ∀ b, b < W.heap.size → ¬ (Value.slice q1 n1 k1).ownBlock = some b → W'.heap[b]? = W.heap[b]? := fun b hb hq => hgrow.block b hb (fun e => hq e.symm)
  have lw : ∀ b, b < lo → W'.heap[b]? = W.heap[b]? := fun b hb => h.c.gr.other hgrow hb
  have bel : Below w.heap.size w W' := h.base.bel.grown hgrow h.base.bel.size (fun b hb => by have := (h.c.gr.row.lt b hb).1; omega)
  have base : SealW w A S W' := h.base.kept (fun b hb => lw b (by omega)) hgrow.size bel
  have loc : Blk W' L #[.int .i64 x.id, .int .i64 x.epoch, .bool x.live, .int .i64 x.granted, .slice q1 n1 k1, .slice q2 l2 k2, .int .i64 x.next] 27 := h.loc.agree (kp L hLW (fun e => by have := h.c.l4 L e; omega))
  have agG : Agree W W' G := fun b hb => kp b (h.c.rp.lt b hb) (h.c.g1 b hb)
  have hF : ∀ b ∈ F', b ∉ G ∧ b ≠ L := fun b hb => by
    rcases pt b hb with q | q
    · have hb' : b = g4 := by simpa [Value.ownBlock] using q.symm
      subst hb'
      rcases hat with q | q
      · exact ⟨fun hg => h.c.g1 b hg q, fun e => by have := h.c.l4 b q; omega⟩
      · exact ⟨fun hg => by have := h.c.rp.lt b hg; omega, by omega⟩
    · rcases List.mem_append.1 q with q | q
      · exact ⟨h.c.g2 b q, fun e => by have := h.c.l3 b q; omega⟩
      · exact ⟨fun hg => by have := ok.ge b q; have := h.c.l2' b hg; omega, fun e => by have := ok.ge b q; omega⟩
  have nF : L ∉ F' := fun hx => (hF L hx).2 rfl
  have nG : L ∉ G := fun hx => by have := h.c.l2' L hx; omega
  have aF := (Agree.refl W' F').thenSet nF 4 (.slice (some ⟨g4, 0, none⟩) (n1 + 1) cp4)
  have aG := agG.thenSet nG 4 (.slice (some ⟨g4, 0, none⟩) (n1 + 1) cp4)
  refine ⟨base, loc, F', ⟨⟨base.box.setOther (by omega) 4 _, base.sk.setOther (by omega) 4 _, base.res.setOther (by omega) 4 _, bel.setCell (by show w.heap.size ≤ L; omega) _⟩, loc.set 4 _, ?_, (o.agree aF).mono (by omega), (h.c.oG.agree aG).mono (by omega), fun b hb => (hF b hb).1, by omega, ?_⟩⟩
  case refine_2 =>
    have hGG : ∀ b ∈ GG ++ Fk, b ≠ L ∧ b ∉ G := fun b q => by
      rcases List.mem_append.1 q with q | q
      · exact ⟨fun e => by have := h.c.l3 b q; omega, h.c.g2 b q⟩
      · exact ⟨fun e => by have := ok.ge b q; omega, fun hg => by have := ok.ge b q; have := h.c.l2' b hg; omega⟩
    have hOW : ∀ b, (Value.slice (some ⟨g4, 0, none⟩) (n1 + 1) cp4).ownBlock = some b → b ≠ L ∧ b ∉ G := fun b q => by
      have hb' : b = g4 := by simpa [Value.ownBlock] using q.symm
      subst hb'
      rcases hat with q | q
      · exact ⟨fun e => by have := h.c.l4 b q; omega, fun hg => h.c.g1 b hg q⟩
      · exact ⟨by omega, fun hg => by have := h.c.rp.lt b hg; omega⟩
    have gr : GrA (w.heap.size + 3) L (.slice (some ⟨g4, 0, none⟩) (n1 + 1) cp4) (x.sealed ++ [y]).length (x.sealed ++ [y]) G W' := ⟨lo, _, _, by omega, by rw [List.length_append, h.c.len]; exact g1, rfl, hOW, hGG⟩
    exact ⟨_, rfl, gr.cell (.inr rfl)⟩
  exact ⟨_, _, _, _, _, _, rfl, r.agree aF, h.c.rp.agree aG, cpd, h.c.cp2⟩
end Go.Proofs.YtgkbhhlkaifnoaaGreatDoor
/- The walk through the model's Seal. No statement of the seat is proved here. -/
namespace Go.Proofs.YtgkbhhlkaifnoaaGreatDoor
open Go.RowKit
theorem infoAgQSpec : (Tryz.prog.info? 27).map (·.size) = some 7 := by kernel_rfl
theorem infoSkQSpec : (Tryz.prog.info? 31).map (·.size) = some 7 := by kernel_rfl
theorem infoItsQSpec : (Tryz.prog.info? 33).map (fun i => (i.zero, i.size, i.bytes)) = some (some (.agg #[.int .i64 0, .int .i64 0, .int .i64 0, .int .i64 0, .int .i64 0, .int .i64 0, .int .i64 0, .int .i64 0, .slice none 0 0, .slice none 0 0, .slice none 0 0]), 11, 136) := by kernel_rfl
set_option maxRecDepth 200000 in
set_option maxHeartbeats 8000000 in
theorem sealSpec_room (v u : Value) (x : Ag) (c k n : Int) (s : Sk) (F0 G0 H0 : List Nat) (w : World) (h : RdAg w v x F0 G0) (hu : RdSk w u s H0) (hf : ∀ y ∈ x.sealed, y.sk.fits) (hs : x.sealed.length ≤ 1048576) (hl : x.taken.length ≤ 1048576) (hsf : s.fits) :
    Calls Tryz.prog 91 #[v, .int .i64 c, .int .i64 k, .int .i64 n, u] w fun e w' => NewAg2R w (x.seal c k n s) e w' := by
  obtain ⟨j0, hj, hy0, hy1, hy2⟩ := info_parts infoItsQSpec
  obtain ⟨a1, n1, c1, a2, n2, c2, rfl, hL, hP, hc1, hc2⟩ := h
  obtain ⟨b1, m1, d1, b2, m2, d2, b3, m3, d3, rfl⟩ := hu.cells7
  have HX : Hid (RdAg w (.agg #[.int .i64 x.id, .int .i64 x.epoch, .bool x.live, .int .i64 x.granted, .slice a1 n1 c1, .slice a2 n2 c2, .int .i64 x.next]) x F0 G0 ∧ x.sealed.length = n1) := ⟨⟨a1, n1, c1, a2, n2, c2, rfl, hL, hP, hc1, hc2⟩, hL.length⟩
  have HU : Hid (RdSk w (.agg #[.int .i64 s.count, .int .i64 s.sum, .int .i64 s.min, .int .i64 s.max, .slice b1 m1 d1, .slice b2 m2 d2, .slice b3 m3 d3]) s H0 ∧ s.fits) := ⟨hu, hsf⟩
  have HF : Hid ((∀ y ∈ x.sealed, y.sk.fits) ∧ x.sealed.length ≤ 1048576 ∧ x.taken.length ≤ 1048576) := ⟨hf, hs, hl⟩
  have hn1 : n1 ≤ 1048576 := by rw [← hL.length]; exact hs
  have HI : Hid (x.item c k n s = ⟨(n1 : Int) + 1, c, k, n, s⟩ ∧ (x.sealed.length : Int) + 1 = (n1 : Int) + 1) := ⟨by unfold Ag.item; rw [hL.length], by rw [hL.length]⟩
  clear hL hP hc1 hc2 hu hsf hf hs hl
  have HB0 : Hid (SealW w #[.int .i64 x.id, .int .i64 x.epoch, .bool x.live, .int .i64 x.granted, .slice a1 n1 c1, .slice a2 n2 c2, .int .i64 x.next] #[.int .i64 s.count, .int .i64 s.sum, .int .i64 s.min, .int .i64 s.max, .slice b1 m1 d1, .slice b2 m2 d2, .slice b3 m3 d3] (((w.alloc (.cells #[.int .i64 x.id, .int .i64 x.epoch, .bool x.live, .int .i64 x.granted, .slice a1 n1 c1, .slice a2 n2 c2, .int .i64 x.next] 27)).alloc (.cells #[.int .i64 s.count, .int .i64 s.sum, .int .i64 s.min, .int .i64 s.max, .slice b1 m1 d1, .slice b2 m2 d2, .slice b3 m3 d3] 31)).alloc (.cells #[.int .i64 0, .int .i64 0, .bool false, .int .i64 0, .slice none 0 0, .slice none 0 0, .int .i64 0] 27))) := SealW.made _ _ _
  go_enter Tryz.func91, Tryz.ntmps91
  go_wp2_with (first | go_skip | (with_reducible refine stopLoad 27 rfl ?_))
  obtain ⟨W0, hW0⟩ : ∃ W, W = ((w.alloc (.cells #[.int .i64 x.id, .int .i64 x.epoch, .bool x.live, .int .i64 x.granted, .slice a1 n1 c1, .slice a2 n2 c2, .int .i64 x.next] 27)).alloc (.cells #[.int .i64 s.count, .int .i64 s.sum, .int .i64 s.min, .int .i64 s.max, .slice b1 m1 d1, .slice b2 m2 d2, .slice b3 m3 d3] 31)).alloc (.cells #[.int .i64 0, .int .i64 0, .bool false, .int .i64 0, .slice none 0 0, .slice none 0 0, .int .i64 0] 27) := ⟨_, rfl⟩
  rw [← hW0] at HB0 ⊢
  clear hW0
  refine load_known 27 w.heap.size _ 27 _ HB0.out.box rfl rfl rfl Tryz.underlying27 rfl infoAgQSpec ?_
  go_wp2_with fail
  refine (agentOkSpec_any _ x F0 G0 _ (HX.out.1.below HB0.out.bel) (fun y hy => (HF.out.1 y hy).wide) (by have := HF.out.2.1; omega) (by have := HF.out.2.2; omega)).mono ?_
  rintro e w1 ⟨rfl, hb1⟩
  have HB1 : Hid (SealW w #[.int .i64 x.id, .int .i64 x.epoch, .bool x.live, .int .i64 x.granted, .slice a1 n1 c1, .slice a2 n2 c2, .int .i64 x.next] #[.int .i64 s.count, .int .i64 s.sum, .int .i64 s.min, .int .i64 s.max, .slice b1 m1 d1, .slice b2 m2 d2, .slice b3 m3 d3] w1) := HB0.out.below hb1
  obtain ⟨d, hd⟩ : ∃ d, d = x.ok := ⟨_, rfl⟩
  rw [← hd]
  have HD : Hid (d = x.ok) := hd
  clear hb1 hd HB0
  cases d
  · have HV : Hid (x.seal c k n s = (x, 0)) := by show _ = _; unfold Ag.seal; rw [← HD.out]; rfl
    go_wp2_with (first | go_skip | (with_reducible refine stopLoad 27 rfl ?_))
    refine load_known 27 w.heap.size _ 27 _ HB1.out.box rfl rfl rfl Tryz.underlying27 rfl infoAgQSpec ?_
    go_wp2_with fail
    refine (l8Copy_grow _ x F0 G0 _ (HX.out.1.below HB1.out.bel) HF.out.1 HF.out.2.1 HF.out.2.2).mono ?_
    intro e w8 hnew
    obtain ⟨cs8, F8, G8, rfl, r8, o8, p8, ap8, hb8, v8, hv8, gr8⟩ := hnew.apart.room
    have hzz := r8.cells
    obtain ⟨cs9, e9, hz8, ho8⟩ := hzz
    injection e9 with e9
    subst e9
    have H8 : Hid (SealW w #[.int .i64 x.id, .int .i64 x.epoch, .bool x.live, .int .i64 x.granted, .slice a1 n1 c1, .slice a2 n2 c2, .int .i64 x.next] #[.int .i64 s.count, .int .i64 s.sum, .int .i64 s.min, .int .i64 s.max, .slice b1 m1 d1, .slice b2 m2 d2, .slice b3 m3 d3] w8 ∧ RdAg w8 (.agg cs8) x F8 G8 ∧ Own (w.heap.size + 3) w8 F8 ∧ Own (w.heap.size + 3) w8 G8 ∧ (∀ b ∈ F8, b ∉ G8) ∧ GrA (w.heap.size + 3) (w.heap.size + 2) v8 x.sealed.length x.sealed G8 w8) := ⟨HB1.out.below hb8, r8, o8.mono (by have := HB1.out.res.lt; omega), p8.mono (by have := HB1.out.res.lt; omega), ap8, (gr8.mono (by have := HB1.out.res.lt; omega)).at (.inl (by omega))⟩
    clear r8 o8 p8 ap8 hb8 gr8 hnew
    go_wp2_with (first | go_skip | (with_reducible refine stopStore 27 rfl ?_))
    refine store_known 27 (w.heap.size + 1 + 1) _ cs8 27 H8.out.1.res rfl rfl rfl rfl (by rw [hz8]; exact infoAgQSpec) (by rw [hz8]; rfl) ho8 ?_
    go_wp2
    refine bodyPost_ret (results_row_tmp Tryz.results91 _ _ (w.heap.size + 1 + 1) _ _ _ _ rfl H8.out.1.res.setRow Tryz.underlying27 rfl (by rw [hz8]; exact infoAgQSpec)) rfl ?_
    have nr : w.heap.size + 1 + 1 ∉ F8 := fun hx => by have := H8.out.2.2.1.ge _ hx; omega
    have mr : w.heap.size + 1 + 1 ∉ G8 := fun hx => by have := H8.out.2.2.2.1.ge _ hx; omega
    rw [HV.out]
    exact ⟨_, F8, G8, _, rfl, H8.out.2.1.agree (Agree.row nr _) (Agree.row mr _), rfl, (H8.out.2.2.1.agree (Agree.row nr _)).mono (by omega), (H8.out.2.2.2.1.agree (Agree.row mr _)).mono (by omega), H8.out.2.2.2.2.1, below_setRow H8.out.1.bel (by omega) _, v8, hv8, ((H8.out.2.2.2.2.2.row (.inl (by omega))).at (.inr (Nat.le_refl _))).mono (by omega)⟩
  have HD1 : Hid (x.ok = true) := HD.out.symm
  clear HD
  go_wp2_with (first | go_skip | (with_reducible refine stopLoad 27 rfl ?_))
  refine load_known 27 w.heap.size _ 27 _ HB1.out.box rfl rfl rfl Tryz.underlying27 rfl infoAgQSpec ?_
  go_wp2_with fail
  refine (l8Copy_grow _ x F0 G0 _ (HX.out.1.below HB1.out.bel) HF.out.1 HF.out.2.1 HF.out.2.2).mono ?_
  intro e w2 hnew
  obtain ⟨q1, k1, q2, l2, k2, F, G, GG, lo, vs, rfl, hsc, hb2⟩ := hnew.apart.at HX.out.2
  have HC2 : Hid (SealW w #[.int .i64 x.id, .int .i64 x.epoch, .bool x.live, .int .i64 x.granted, .slice a1 n1 c1, .slice a2 n2 c2, .int .i64 x.next] #[.int .i64 s.count, .int .i64 s.sum, .int .i64 s.min, .int .i64 s.max, .slice b1 m1 d1, .slice b2 m2 d2, .slice b3 m3 d3] w2 ∧ SealC w1.heap.size w2.heap.size lo n1 x q1 k1 q2 l2 k2 F G GG vs w2 ∧ w.heap.size + 3 ≤ w1.heap.size ∧ w1.heap.size ≤ w2.heap.size) := ⟨HB1.out.below hb2, hsc, HB1.out.res.lt, hb2.size⟩
  obtain ⟨B, hB⟩ : ∃ B, B = w1.heap.size := ⟨_, rfl⟩
  rw [← hB] at HC2
  clear hnew hsc hb2 HB1 hB
  go_wp2_with (first | go_skip | (with_reducible refine stopStore 27 rfl ?_))
  refine store_fresh 27 w2.heap.size rfl #[.int .i64 0, .int .i64 0, .bool false, .int .i64 0, .slice none 0 0, .slice none 0 0, .int .i64 0] #[.int .i64 x.id, .int .i64 x.epoch, .bool x.live, .int .i64 x.granted, .slice q1 n1 k1, .slice q2 l2 k2, .int .i64 x.next] 27 rfl rfl rfl rfl infoAgQSpec rfl (by simp [Value.oneCell']) ?_
  intro w3 hg3 hb3
  have HL3 : Hid (SealL w #[.int .i64 x.id, .int .i64 x.epoch, .bool x.live, .int .i64 x.granted, .slice a1 n1 c1, .slice a2 n2 c2, .int .i64 x.next] #[.int .i64 s.count, .int .i64 s.sum, .int .i64 s.min, .int .i64 s.max, .slice b1 m1 d1, .slice b2 m2 d2, .slice b3 m3 d3] B w2.heap.size lo n1 x q1 k1 q2 l2 k2 F G GG vs w3) := ⟨HC2.out.1.below hb3, hg3, HC2.out.2.1.below hb3, HC2.out.2.2.1, HC2.out.2.2.2⟩
  obtain ⟨L, hL⟩ : ∃ L, L = w2.heap.size := ⟨_, rfl⟩
  rw [← hL] at HL3 ⊢
  clear hg3 hb3 HC2 hL
  go_wp2_with fail
  have HLd : Hid (SealL w #[.int .i64 x.id, .int .i64 x.epoch, .bool x.live, .int .i64 x.granted, .slice a1 n1 c1, .slice a2 n2 c2, .int .i64 x.next] #[.int .i64 s.count, .int .i64 s.sum, .int .i64 s.min, .int .i64 s.max, .slice b1 m1 d1, .slice b2 m2 d2, .slice b3 m3 d3] B L lo n1 x q1 k1 q2 l2 k2 F G GG vs w3.drew) := HL3.out.below (Below.refl _ _).drew
  obtain ⟨Y0, hY0⟩ : ∃ Y, Y = w3.drew := ⟨_, rfl⟩
  rw [← hY0] at HLd
  clear HL3
  refine wp_region_held (S := SealW w #[.int .i64 x.id, .int .i64 x.epoch, .bool x.live, .int .i64 x.granted, .slice a1 n1 c1, .slice a2 n2 c2, .int .i64 x.next] #[.int .i64 s.count, .int .i64 s.sum, .int .i64 s.min, .int .i64 s.max, .slice b1 m1 d1, .slice b2 m2 d2, .slice b3 m3 d3]) (by kernel_rfl) ?_
  change wpAnyH _ _ _ _ _ _ _ _ (World.drew _)
  rw [← hY0]
  clear hY0
  refine takeH (o := ?o1) 0 (.pointer (some ⟨L, 4, none⟩)) ?h1 ?r1
  case h1 => simp only [aT, aZ]; rfl
  refine ⟨_, by simp [Act.put]; rfl, by kernel_rfl, by kernel_rfl, by kernel_rfl, fun _ _ _ h => h, (.inl ⟨rfl, fun W _ => by kernel_rfl⟩), HLd.out.base, ?_⟩
  refine takeH (o := ?o2) 2 (.pointer (some ⟨w.heap.size, 4, none⟩)) ?h2 ?r2
  case h2 => simp only [aT, aS, aZ]; rfl
  refine ⟨_, by simp [Act.put]; rfl, by kernel_rfl, by kernel_rfl, by kernel_rfl, fun _ _ _ h => h, (.inl ⟨rfl, fun W _ => by kernel_rfl⟩), HLd.out.base, ?_⟩
  refine takeH (o := ?o3) 3 (.slice a1 n1 c1) ?h3 ?r3
  case h3 => simp only [aT, aS, aZ]; rfl
  refine ⟨_, by simp [Act.put]; rfl, by kernel_rfl, by kernel_rfl, by kernel_rfl, fun _ _ _ h => h, (.inl ⟨rfl, fun W hW => by have c := hW.box.cell 4; simp only [aT, aS, aZ] at c; go_simp⟩), HLd.out.base, ?_⟩
  refine takeH (o := ?o4) 4 (.int .i64 n1) ?h4 ?r4
  case h4 => simp only [aT, aS, aZ]; rfl
  refine ⟨_, by simp [Act.put]; rfl, by kernel_rfl, by kernel_rfl, by kernel_rfl, fun _ _ _ h => h, (.inl ⟨rfl, fun W _ => by go_simp⟩), HLd.out.base, ?_⟩
  refine takeH (o := ?o5) 5 (.int .i64 ((n1 : Int) + 1)) ?h5 ?r5
  case h5 => simp only [aT, aS, aZ]; rfl
  refine ⟨_, by simp [Act.put]; rfl, by kernel_rfl, by kernel_rfl, by kernel_rfl, fun _ _ _ h => h, (.inl ⟨rfl, fun W _ => by go_simp; exact wrapI (by omega)⟩), HLd.out.base, ?_⟩
  refine takeH (o := ?o6) 6 (.int .i64 c) ?h6 ?r6
  case h6 => simp only [aT, aS, aZ]; rfl
  refine ⟨_, by simp [Act.put]; rfl, by kernel_rfl, by kernel_rfl, by kernel_rfl, fun _ _ _ h => h, (.inl ⟨rfl, fun W _ => by kernel_rfl⟩), HLd.out.base, ?_⟩
  refine takeH (o := ?o7) 7 (.int .i64 k) ?h7 ?r7
  case h7 => simp only [aT, aS, aZ]; rfl
  refine ⟨_, by simp [Act.put]; rfl, by kernel_rfl, by kernel_rfl, by kernel_rfl, fun _ _ _ h => h, (.inl ⟨rfl, fun W _ => by kernel_rfl⟩), HLd.out.base, ?_⟩
  refine takeH (o := ?o8) 8 (.int .i64 n) ?h8 ?r8
  case h8 => simp only [aT, aS, aZ]; rfl
  refine ⟨_, by simp [Act.put]; rfl, by kernel_rfl, by kernel_rfl, by kernel_rfl, fun _ _ _ h => h, (.inl ⟨rfl, fun W _ => by kernel_rfl⟩), HLd.out.base, ?_⟩
  refine takeH (o := ?o9) 9 (.agg #[.int .i64 s.count, .int .i64 s.sum, .int .i64 s.min, .int .i64 s.max, .slice b1 m1 d1, .slice b2 m2 d2, .slice b3 m3 d3]) ?h9 ?r9
  case h9 => simp only [aT, aS, aZ]; rfl
  refine ⟨_, by simp [Act.put]; rfl, by kernel_rfl, by kernel_rfl, by kernel_rfl, fun _ _ _ h => h, (yields_whole 31 (w.heap.size + 1) #[.int .i64 s.count, .int .i64 s.sum, .int .i64 s.min, .int .i64 s.max, .slice b1 m1 d1, .slice b2 m2 d2, .slice b3 m3 d3] 31 _ rfl rfl rfl Tryz.underlying31 rfl infoSkQSpec (fun W hW => hW.sk)), HLd.out.base, ?_⟩
  refine twoH (o := ?o10) (o' := ?p10) 1 10 (by kernel_rfl) ?h10 ?g10 ?r10 ?s10
  case h10 => simp only [aT, aS, aZ]; rfl
  case g10 => simp only [aT, aS, aZ]; rfl
  case r10 =>
    intro K hK
    have co := HLd.out.loc.cell 4
    simp only [aT, aS, aZ] at co
    refine op_value (.slice q1 n1 k1) rfl (by go_simp) ⟨_, by simp [Act.put]; rfl, hK _ _ ⟨HLd.out.base, ?_⟩⟩
    clear hK co
    refine onlyH (o := ?o11) 10 (by kernel_rfl) ?h11 ?r11
    case h11 => simp only [aT, aS, aZ]; rfl
    intro K hK
    refine op_call1 96 _ _ Tryz.f96 (fun v w' => ∃ F, RdSk w' v s F ∧ Own Y0.heap.size w' F ∧ Below Y0.heap.size Y0 w') rfl rfl Tryz.func96 (by kernel_rfl) (by kernel_rfl) ((l3Copy_all (.agg #[.int .i64 s.count, .int .i64 s.sum, .int .i64 s.min, .int .i64 s.max, .slice b1 m1 d1, .slice b2 m2 d2, .slice b3 m3 d3]) s H0 Y0 (HU.out.1.below HLd.out.base.bel) HU.out.2).mono (by rintro e w' ⟨v, F, rfl, k1, k2, k3⟩; exact ⟨_, rfl, F, k1, k2, k3⟩)) ?_
    rintro vr Y1 ⟨Fr, rr, ro, rb⟩
    obtain ⟨u1, v1, y1, u2, v2, y2, u3, v3, y3, rfl⟩ := rr.cells7
    have RR1 : Hid (RdIt Y1 (.agg #[.int .i64 ((n1 : Int) + 1), .int .i64 c, .int .i64 k, .int .i64 n, .int .i64 s.count, .int .i64 s.sum, .int .i64 s.min, .int .i64 s.max, .slice u1 v1 y1, .slice u2 v2 y2, .slice u3 v3 y3]) ⟨(n1 : Int) + 1, c, k, n, s⟩ Fr ∧ Own (L + 1) Y1 Fr) := ⟨⟨u1, v1, y1, u2, v2, y2, u3, v3, y3, rfl, rr⟩, ro.mono HLd.out.loc.lt⟩
    have HL1 : Hid (SealL w #[.int .i64 x.id, .int .i64 x.epoch, .bool x.live, .int .i64 x.granted, .slice a1 n1 c1, .slice a2 n2 c2, .int .i64 x.next] #[.int .i64 s.count, .int .i64 s.sum, .int .i64 s.min, .int .i64 s.max, .slice b1 m1 d1, .slice b2 m2 d2, .slice b3 m3 d3] B L lo n1 x q1 k1 q2 l2 k2 F G GG vs Y1) := HLd.out.below rb
    refine ⟨_, by simp [Act.put]; rfl, hK _ _ ⟨HL1.out.base, ?_⟩⟩
    clear hK rr ro rb
    refine takeH (o := ?o12) 11 (.agg #[.int .i64 ((n1 : Int) + 1), .int .i64 c, .int .i64 k, .int .i64 n, .int .i64 s.count, .int .i64 s.sum, .int .i64 s.min, .int .i64 s.max, .slice u1 v1 y1, .slice u2 v2 y2, .slice u3 v3 y3]) ?h12 ?r12
    case h12 => simp only [aT, aS, aZ]; rfl
    refine ⟨_, by simp [Act.put]; rfl, by kernel_rfl, by kernel_rfl, by kernel_rfl, fun _ _ _ h => h, (.inl ⟨rfl, fun W _ => by kernel_rfl⟩), HL1.out.base, ?_⟩
    refine onlyH (o := ?o13) 12 (by kernel_rfl) ?h13 ?r13
    case h13 => simp only [aT, aS, aZ]; rfl
    intro K hK
    have bl : Below Y1.heap.size Y1 (Y1.alloc (.cells #[.int .i64 ((n1 : Int) + 1), .int .i64 c, .int .i64 k, .int .i64 n, .int .i64 s.count, .int .i64 s.sum, .int .i64 s.min, .int .i64 s.max, .slice u1 v1 y1, .slice u2 v2 y2, .slice u3 v3 y3] 33)) := (Below.refl _ _).alloc (Nat.le_refl _) _
    have HL2 : Hid (SealL w #[.int .i64 x.id, .int .i64 x.epoch, .bool x.live, .int .i64 x.granted, .slice a1 n1 c1, .slice a2 n2 c2, .int .i64 x.next] #[.int .i64 s.count, .int .i64 s.sum, .int .i64 s.min, .int .i64 s.max, .slice b1 m1 d1, .slice b2 m2 d2, .slice b3 m3 d3] B L lo n1 x q1 k1 q2 l2 k2 F G GG vs (Y1.alloc (.cells #[.int .i64 ((n1 : Int) + 1), .int .i64 c, .int .i64 k, .int .i64 n, .int .i64 s.count, .int .i64 s.sum, .int .i64 s.min, .int .i64 s.max, .slice u1 v1 y1, .slice u2 v2 y2, .slice u3 v3 y3] 33))) := HL1.out.below bl
    have RR2 : Hid (RdIt (Y1.alloc (.cells #[.int .i64 ((n1 : Int) + 1), .int .i64 c, .int .i64 k, .int .i64 n, .int .i64 s.count, .int .i64 s.sum, .int .i64 s.min, .int .i64 s.max, .slice u1 v1 y1, .slice u2 v2 y2, .slice u3 v3 y3] 33)) (.agg #[.int .i64 ((n1 : Int) + 1), .int .i64 c, .int .i64 k, .int .i64 n, .int .i64 s.count, .int .i64 s.sum, .int .i64 s.min, .int .i64 s.max, .slice u1 v1 y1, .slice u2 v2 y2, .slice u3 v3 y3]) ⟨(n1 : Int) + 1, c, k, n, s⟩ Fr ∧ Own (L + 1) (Y1.alloc (.cells #[.int .i64 ((n1 : Int) + 1), .int .i64 c, .int .i64 k, .int .i64 n, .int .i64 s.count, .int .i64 s.sum, .int .i64 s.min, .int .i64 s.max, .slice u1 v1 y1, .slice u2 v2 y2, .slice u3 v3 y3] 33)) Fr) := ⟨RR1.out.1.below bl, RR1.out.2.below (RdIt.lt RR1.out.1) bl⟩
    have NW2 : Hid (∀ j u, #[.int .i64 ((n1 : Int) + 1), .int .i64 c, .int .i64 k, .int .i64 n, .int .i64 s.count, .int .i64 s.sum, .int .i64 s.min, .int .i64 s.max, .slice u1 v1 y1, .slice u2 v2 y2, .slice u3 v3 y3].toList[j]? = some u → ((Y1.alloc (.cells #[.int .i64 ((n1 : Int) + 1), .int .i64 c, .int .i64 k, .int .i64 n, .int .i64 s.count, .int .i64 s.sum, .int .i64 s.min, .int .i64 s.max, .slice u1 v1 y1, .slice u2 v2 y2, .slice u3 v3 y3] 33))).cell? ((⟨Y1.heap.size, 0, none⟩ : Addr).add j) = some u) := news_lit _ _ _
    refine op_turn (.slice (some ⟨Y1.heap.size, 0, none⟩) 1 1) (Y1.alloc (.cells #[.int .i64 ((n1 : Int) + 1), .int .i64 c, .int .i64 k, .int .i64 n, .int .i64 s.count, .int .i64 s.sum, .int .i64 s.min, .int .i64 s.max, .slice u1 v1 y1, .slice u2 v2 y2, .slice u3 v3 y3] 33)) rfl (by kernel_rfl) ⟨_, by simp [Act.put]; rfl, hK _ _ ⟨HL2.out.base, ?_⟩⟩
    clear hK bl
    obtain ⟨L2, hL2⟩ : ∃ z, z = Y1.heap.size := ⟨_, rfl⟩
    obtain ⟨Y2, hY2⟩ : ∃ Z, Z = (Y1.alloc (.cells #[.int .i64 ((n1 : Int) + 1), .int .i64 c, .int .i64 k, .int .i64 n, .int .i64 s.count, .int .i64 s.sum, .int .i64 s.min, .int .i64 s.max, .slice u1 v1 y1, .slice u2 v2 y2, .slice u3 v3 y3] 33)) := ⟨_, rfl⟩
    rw [← hY2, ← hL2] at NW2
    rw [← hY2] at HL2 RR2 ⊢
    rw [← hL2]
    clear hY2 hL2
    refine onlyH (o := ?o14) 13 (by kernel_rfl) ?h14 ?r14
    case h14 => simp only [aT, aS, aZ]; rfl
    intro K hK
    refine op_append Y2 rfl _ _ 24 rfl lo 33 j0 (.agg #[.int .i64 0, .int .i64 0, .int .i64 0, .int .i64 0, .int .i64 0, .int .i64 0, .int .i64 0, .int .i64 0, .slice none 0 0, .slice none 0 0, .slice none 0 0]) 11 136 Tryz.underlying24 hj hy0 hy1 hy2 rfl (by decide) (.slice q1 n1 k1) n1 vs rfl HL2.out.c.gr.row ⟨L2, 0, none⟩ 1 1 #[.int .i64 ((n1 : Int) + 1), .int .i64 c, .int .i64 k, .int .i64 n, .int .i64 s.count, .int .i64 s.sum, .int .i64 s.min, .int .i64 s.max, .slice u1 v1 y1, .slice u2 v2 y2, .slice u3 v3 y3].toList rfl rfl NW2.out (by simp [Value.oneCell']) (by decide) (by unfold maxLen; omega) (by omega) HL2.out.c.gr.lw _ rfl ?_
    intro g4 cp4 Y3 hown hgrow hat _
    obtain ⟨ST1, ST2, F', ST3⟩ := HL2.out.done RR2.out.1 rfl RR2.out.2 hown hgrow hat
    have HL3 : Hid (SealW w #[.int .i64 x.id, .int .i64 x.epoch, .bool x.live, .int .i64 x.granted, .slice a1 n1 c1, .slice a2 n2 c2, .int .i64 x.next] #[.int .i64 s.count, .int .i64 s.sum, .int .i64 s.min, .int .i64 s.max, .slice b1 m1 d1, .slice b2 m2 d2, .slice b3 m3 d3] Y3 ∧ SealD w #[.int .i64 x.id, .int .i64 x.epoch, .bool x.live, .int .i64 x.granted, .slice a1 n1 c1, .slice a2 n2 c2, .int .i64 x.next] #[.int .i64 s.count, .int .i64 s.sum, .int .i64 s.min, .int .i64 s.max, .slice b1 m1 d1, .slice b2 m2 d2, .slice b3 m3 d3] L #[.int .i64 x.id, .int .i64 x.epoch, .bool x.live, .int .i64 x.granted, .slice (some ⟨g4, 0, none⟩) (n1 + 1) cp4, .slice q2 l2 k2, .int .i64 x.next] (x.plus ⟨(n1 : Int) + 1, c, k, n, s⟩) F' G (Y3.setCell ⟨L, 4, none⟩ (.slice (some ⟨g4, 0, none⟩) (n1 + 1) cp4))) := ⟨ST1, ST3⟩
    have co := ST2.cell 4
    have fo := ST2.frozen 4
    simp only [aT, aS, aZ] at co
    refine ⟨_, by simp [Act.put]; rfl, hK _ _ ⟨HL3.out.1, ?_⟩⟩
    clear hK hown hgrow hat ST1 ST2 ST3
    refine takeH (o := ?o15) 14 (.pointer (some ⟨L, 4, none⟩)) ?h15 ?r15
    case h15 => simp only [aT, aS, aZ]; rfl
    refine ⟨_, by simp [Act.put]; rfl, by kernel_rfl, by kernel_rfl, by kernel_rfl, fun _ _ _ h => h, (.inl ⟨rfl, fun W _ => by kernel_rfl⟩), HL3.out.1, ?_⟩
    refine onlyH (o := ?o16) 15 (by kernel_rfl) ?h16 ?r16
    case h16 => simp only [aT, aS, aZ]; rfl
    intro K hK
    refine op_skip (Y3.setCell ⟨L, 4, none⟩ (.slice (some ⟨g4, 0, none⟩) (n1 + 1) cp4)) rfl (by go_simp) ⟨_, by simp [Act.put]; rfl, hK _ _ ⟨HL3.out.2.base, ?_⟩⟩
    clear hK co fo
    refine wpAnyH_done (by kernel_rfl) ?_ _
    obtain ⟨w5, hw5⟩ : ∃ W, W = Y3.setCell ⟨L, 4, none⟩ (.slice (some ⟨g4, 0, none⟩) (n1 + 1) cp4) := ⟨_, rfl⟩
    have H5 : Hid (SealD w #[.int .i64 x.id, .int .i64 x.epoch, .bool x.live, .int .i64 x.granted, .slice a1 n1 c1, .slice a2 n2 c2, .int .i64 x.next] #[.int .i64 s.count, .int .i64 s.sum, .int .i64 s.min, .int .i64 s.max, .slice b1 m1 d1, .slice b2 m2 d2, .slice b3 m3 d3] L #[.int .i64 x.id, .int .i64 x.epoch, .bool x.live, .int .i64 x.granted, .slice (some ⟨g4, 0, none⟩) (n1 + 1) cp4, .slice q2 l2 k2, .int .i64 x.next] (x.plus (x.item c k n s)) F' G w5) := by rw [HI.out.1, hw5]; exact HL3.out.2
    rw [← hw5]
    clear hw5 HL3
    go_wp2_with (first | go_skip | (with_reducible refine stopLoad 27 rfl ?_))
    refine load_known 27 L _ 27 _ H5.out.loc rfl rfl rfl Tryz.underlying27 rfl infoAgQSpec ?_
    go_wp2_with fail
    refine (agentOkSpec_any _ (x.plus (x.item c k n s)) F' G _ H5.out.rd (fun y hy => (List.mem_append.1 hy).elim (fun h => (HF.out.1 y h).wide) (fun h => by (obtain rfl : y = x.item c k n s := by simpa using h); exact HU.out.2.wide)) (by show (x.sealed ++ [x.item c k n s]).length ≤ _; rw [List.length_append]; have := HF.out.2.1; simp; omega) (by show x.taken.length ≤ _; have := HF.out.2.2; omega)).mono ?_
    rintro e w6 ⟨rfl, hb6⟩
    have H6 : Hid (SealD w #[.int .i64 x.id, .int .i64 x.epoch, .bool x.live, .int .i64 x.granted, .slice a1 n1 c1, .slice a2 n2 c2, .int .i64 x.next] #[.int .i64 s.count, .int .i64 s.sum, .int .i64 s.min, .int .i64 s.max, .slice b1 m1 d1, .slice b2 m2 d2, .slice b3 m3 d3] L #[.int .i64 x.id, .int .i64 x.epoch, .bool x.live, .int .i64 x.granted, .slice (some ⟨g4, 0, none⟩) (n1 + 1) cp4, .slice q2 l2 k2, .int .i64 x.next] (x.plus (x.item c k n s)) F' G w6) := H5.out.below hb6
    obtain ⟨d, hd⟩ : ∃ d, d = (x.plus (x.item c k n s)).ok := ⟨_, rfl⟩
    rw [← hd]
    have HD : Hid (d = (x.item c k n s).ok) := hd.trans (Ag.plus_ok x c k n s HD1.out)
    clear hb6 hd H5
    cases d
    · have HV : Hid (x.seal c k n s = (x, 0)) := by show _ = _; unfold Ag.seal; rw [← HD.out]; simp
      go_wp2_with (first | go_skip | (with_reducible refine stopLoad 27 rfl ?_))
      refine load_known 27 w.heap.size _ 27 _ H6.out.base.box rfl rfl rfl Tryz.underlying27 rfl infoAgQSpec ?_
      go_wp2_with fail
      refine (l8Copy_grow _ x F0 G0 _ (HX.out.1.below H6.out.base.bel) HF.out.1 HF.out.2.1 HF.out.2.2).mono ?_
      intro e w8 hnew
      obtain ⟨cs8, F8, G8, rfl, r8, o8, p8, ap8, hb8, v8, hv8, gr8⟩ := hnew.apart.room
      have hzz := r8.cells
      obtain ⟨cs9, e9, hz8, ho8⟩ := hzz
      injection e9 with e9
      subst e9
      have H8 : Hid (SealW w #[.int .i64 x.id, .int .i64 x.epoch, .bool x.live, .int .i64 x.granted, .slice a1 n1 c1, .slice a2 n2 c2, .int .i64 x.next] #[.int .i64 s.count, .int .i64 s.sum, .int .i64 s.min, .int .i64 s.max, .slice b1 m1 d1, .slice b2 m2 d2, .slice b3 m3 d3] w8 ∧ RdAg w8 (.agg cs8) x F8 G8 ∧ Own (w.heap.size + 3) w8 F8 ∧ Own (w.heap.size + 3) w8 G8 ∧ (∀ b ∈ F8, b ∉ G8) ∧ GrA (w.heap.size + 3) (w.heap.size + 2) v8 x.sealed.length x.sealed G8 w8) := ⟨H6.out.base.below hb8, r8, o8.mono (by have := H6.out.base.res.lt; omega), p8.mono (by have := H6.out.base.res.lt; omega), ap8, (gr8.mono (by have := H6.out.base.res.lt; omega)).at (.inl (by omega))⟩
      clear r8 o8 p8 ap8 hb8 gr8 hnew
      go_wp2_with (first | go_skip | (with_reducible refine stopStore 27 rfl ?_))
      refine store_known 27 (w.heap.size + 1 + 1) _ cs8 27 H8.out.1.res rfl rfl rfl rfl (by rw [hz8]; exact infoAgQSpec) (by rw [hz8]; rfl) ho8 ?_
      go_wp2
      refine bodyPost_ret (results_row_tmp Tryz.results91 _ _ (w.heap.size + 1 + 1) _ _ _ _ rfl H8.out.1.res.setRow Tryz.underlying27 rfl (by rw [hz8]; exact infoAgQSpec)) rfl ?_
      have nr : w.heap.size + 1 + 1 ∉ F8 := fun hx => by have := H8.out.2.2.1.ge _ hx; omega
      have mr : w.heap.size + 1 + 1 ∉ G8 := fun hx => by have := H8.out.2.2.2.1.ge _ hx; omega
      rw [HV.out]
      exact ⟨_, F8, G8, _, rfl, H8.out.2.1.agree (Agree.row nr _) (Agree.row mr _), rfl, (H8.out.2.2.1.agree (Agree.row nr _)).mono (by omega), (H8.out.2.2.2.1.agree (Agree.row mr _)).mono (by omega), H8.out.2.2.2.2.1, below_setRow H8.out.1.bel (by omega) _, v8, hv8, ((H8.out.2.2.2.2.2.row (.inl (by omega))).at (.inr (Nat.le_refl _))).mono (by omega)⟩
    have HV : Hid (x.seal c k n s = (x.plus (x.item c k n s), (n1 : Int) + 1)) := by show _ = _; unfold Ag.seal; rw [if_pos ⟨HD1.out, HD.out.symm⟩, HI.out.2]
    go_wp2_with fail
    have H7 : Hid (SealD w #[.int .i64 x.id, .int .i64 x.epoch, .bool x.live, .int .i64 x.granted, .slice a1 n1 c1, .slice a2 n2 c2, .int .i64 x.next] #[.int .i64 s.count, .int .i64 s.sum, .int .i64 s.min, .int .i64 s.max, .slice b1 m1 d1, .slice b2 m2 d2, .slice b3 m3 d3] L #[.int .i64 x.id, .int .i64 x.epoch, .bool x.live, .int .i64 x.granted, .slice (some ⟨g4, 0, none⟩) (n1 + 1) cp4, .slice q2 l2 k2, .int .i64 x.next] (x.plus (x.item c k n s)) F' G w6.drew) := H6.out.below (Below.refl _ _).drew
    obtain ⟨Z0, hZ0⟩ : ∃ Y, Y = w6.drew := ⟨_, rfl⟩
    rw [← hZ0] at H7
    clear H6 HD
    refine wp_region_held (S := fun W => Blk W L #[.int .i64 x.id, .int .i64 x.epoch, .bool x.live, .int .i64 x.granted, .slice (some ⟨g4, 0, none⟩) (n1 + 1) cp4, .slice q2 l2 k2, .int .i64 x.next] 27) (by kernel_rfl) ?_
    change wpAnyH _ _ _ _ _ _ _ _ (World.drew _)
    rw [← hZ0]
    clear hZ0
    refine takeH (o := ?o27x) 0 (.agg #[.int .i64 x.id, .int .i64 x.epoch, .bool x.live, .int .i64 x.granted, .slice (some ⟨g4, 0, none⟩) (n1 + 1) cp4, .slice q2 l2 k2, .int .i64 x.next]) ?h27x ?r27x
    case h27x => simp only [aT, aZ]; rfl
    refine ⟨_, by simp [Act.put]; rfl, by kernel_rfl, by kernel_rfl, by kernel_rfl, fun _ _ _ h => h, (yields_whole 27 L #[.int .i64 x.id, .int .i64 x.epoch, .bool x.live, .int .i64 x.granted, .slice (some ⟨g4, 0, none⟩) (n1 + 1) cp4, .slice q2 l2 k2, .int .i64 x.next] 27 _ rfl rfl rfl Tryz.underlying27 rfl infoAgQSpec (fun W hW => hW)), H7.out.loc, ?_⟩
    refine takeH (o := ?o28x) 1 (.pointer (some ⟨L, 4, none⟩)) ?h28x ?r28x
    case h28x => simp only [aT, aS, aZ]; rfl
    refine ⟨_, by simp [Act.put]; rfl, by kernel_rfl, by kernel_rfl, by kernel_rfl, fun _ _ _ h => h, (.inl ⟨rfl, fun W _ => by kernel_rfl⟩), H7.out.loc, ?_⟩
    refine takeH (o := ?o29x) 2 (.slice (some ⟨g4, 0, none⟩) (n1 + 1) cp4) ?h29x ?r29x
    case h29x => simp only [aT, aS, aZ]; rfl
    refine ⟨_, by simp [Act.put]; rfl, by kernel_rfl, by kernel_rfl, by kernel_rfl, fun _ _ _ h => h, (.inl ⟨rfl, fun W hW => by have c := hW.cell 4; simp only [aT, aS, aZ] at c; go_simp⟩), H7.out.loc, ?_⟩
    refine takeH (o := ?o30x) 3 (.int .i64 ((n1 + 1 : Nat) : Int)) ?h30x ?r30x
    case h30x => simp only [aT, aS, aZ]; rfl
    refine ⟨_, by simp [Act.put]; rfl, by kernel_rfl, by kernel_rfl, by kernel_rfl, fun _ _ _ h => h, (.inl ⟨rfl, fun W _ => by go_simp⟩), H7.out.loc, ?_⟩
    refine onlyH (o := ?o31x) 4 (by kernel_rfl) ?h31x ?r31x
    case h31x => simp only [aT, aS, aZ]; rfl
    intro K hK
    have gL := H7.out.gL
    refine op_store 27 (w.heap.size + 1 + 1) #[.int .i64 0, .int .i64 0, .bool false, .int .i64 0, .slice none 0 0, .slice none 0 0, .int .i64 0] #[.int .i64 x.id, .int .i64 x.epoch, .bool x.live, .int .i64 x.granted, .slice (some ⟨g4, 0, none⟩) (n1 + 1) cp4, .slice q2 l2 k2, .int .i64 x.next] 27 rfl rfl rfl rfl H7.out.base.res infoAgQSpec rfl (by simp [Value.oneCell']) ⟨_, by simp [Act.put]; rfl, hK _ _ ⟨H7.out.loc.setRowOther (by omega), ?_⟩⟩
    clear hK
    refine takeH (o := ?o32x) 5 (.int .i64 ((n1 + 1 : Nat) : Int)) ?h32x ?r32x
    case h32x => simp only [aT, aS, aZ]; rfl
    refine ⟨_, by simp [Act.put]; rfl, by kernel_rfl, by kernel_rfl, by kernel_rfl, fun _ _ _ h => h, (.inl ⟨rfl, fun W _ => by kernel_rfl⟩), (H7.out.loc.setRowOther (by omega)), ?_⟩
    refine wpAnyH_done (by kernel_rfl) ?_ _
    go_wp2
    refine bodyPost_ret (results_row_tmp Tryz.results91 _ _ (w.heap.size + 1 + 1) _ _ _ _ rfl H7.out.base.res.setRow Tryz.underlying27 rfl infoAgQSpec) rfl ?_
    have nr : w.heap.size + 1 + 1 ∉ F' := fun hx => by have := H7.out.oF.ge _ hx; omega
    have mr : w.heap.size + 1 + 1 ∉ G := fun hx => by have := H7.out.oG.ge _ hx; omega
    rw [HV.out]
    exact ⟨_, F', G, _, rfl, H7.out.rd.agree (Agree.row nr _) (Agree.row mr _), (by show (((n1 + 1 : Nat) : Int)) = (n1 : Int) + 1; omega), (H7.out.oF.agree (Agree.row nr _)).mono (by omega), (H7.out.oG.agree (Agree.row mr _)).mono (by omega), H7.out.ap, below_setRow H7.out.base.bel (by omega) _, (let ⟨v, e, g⟩ := H7.out.rm; ⟨v, e, ((((g.at (.inl (by omega : w.heap.size < w.heap.size + 3))).row (.inl (by omega))).at (.inr (Nat.le_refl _))).mono (by omega))⟩)⟩
  case s10 =>
    intro K hK
    refine op_call1 96 _ _ Tryz.f96 (fun v w' => ∃ F, RdSk w' v s F ∧ Own Y0.heap.size w' F ∧ Below Y0.heap.size Y0 w') rfl rfl Tryz.func96 (by kernel_rfl) (by kernel_rfl) ((l3Copy_all (.agg #[.int .i64 s.count, .int .i64 s.sum, .int .i64 s.min, .int .i64 s.max, .slice b1 m1 d1, .slice b2 m2 d2, .slice b3 m3 d3]) s H0 Y0 (HU.out.1.below HLd.out.base.bel) HU.out.2).mono (by rintro e w' ⟨v, F, rfl, k1, k2, k3⟩; exact ⟨_, rfl, F, k1, k2, k3⟩)) ?_
    rintro vr Y4 ⟨Fr, rr, ro, rb⟩
    obtain ⟨u1, v1, y1, u2, v2, y2, u3, v3, y3, rfl⟩ := rr.cells7
    have RR4 : Hid (RdIt Y4 (.agg #[.int .i64 ((n1 : Int) + 1), .int .i64 c, .int .i64 k, .int .i64 n, .int .i64 s.count, .int .i64 s.sum, .int .i64 s.min, .int .i64 s.max, .slice u1 v1 y1, .slice u2 v2 y2, .slice u3 v3 y3]) ⟨(n1 : Int) + 1, c, k, n, s⟩ Fr ∧ Own (L + 1) Y4 Fr) := ⟨⟨u1, v1, y1, u2, v2, y2, u3, v3, y3, rfl, rr⟩, ro.mono HLd.out.loc.lt⟩
    have HL4 : Hid (SealL w #[.int .i64 x.id, .int .i64 x.epoch, .bool x.live, .int .i64 x.granted, .slice a1 n1 c1, .slice a2 n2 c2, .int .i64 x.next] #[.int .i64 s.count, .int .i64 s.sum, .int .i64 s.min, .int .i64 s.max, .slice b1 m1 d1, .slice b2 m2 d2, .slice b3 m3 d3] B L lo n1 x q1 k1 q2 l2 k2 F G GG vs Y4) := HLd.out.below rb
    refine ⟨_, by simp [Act.put]; rfl, hK _ _ ⟨HL4.out.base, ?_⟩⟩
    clear hK rr ro rb
    refine takeH (o := ?o17) 11 (.agg #[.int .i64 ((n1 : Int) + 1), .int .i64 c, .int .i64 k, .int .i64 n, .int .i64 s.count, .int .i64 s.sum, .int .i64 s.min, .int .i64 s.max, .slice u1 v1 y1, .slice u2 v2 y2, .slice u3 v3 y3]) ?h17 ?r17
    case h17 => simp only [aT, aS, aZ]; rfl
    refine ⟨_, by simp [Act.put]; rfl, by kernel_rfl, by kernel_rfl, by kernel_rfl, fun _ _ _ h => h, (.inl ⟨rfl, fun W _ => by kernel_rfl⟩), HL4.out.base, ?_⟩
    refine twoH (o := ?o18) (o' := ?p18) 1 12 (by kernel_rfl) ?h18 ?g18 ?r18 ?s18
    case h18 => simp only [aT, aS, aZ]; rfl
    case g18 => simp only [aT, aS, aZ]; rfl
    case r18 =>
      intro K hK
      have co := HL4.out.loc.cell 4
      simp only [aT, aS, aZ] at co
      refine op_value (.slice q1 n1 k1) rfl (by go_simp) ⟨_, by simp [Act.put]; rfl, hK _ _ ⟨HL4.out.base, ?_⟩⟩
      clear hK co
      refine onlyH (o := ?o19) 12 (by kernel_rfl) ?h19 ?r19
      case h19 => simp only [aT, aS, aZ]; rfl
      intro K hK
      have bl : Below Y4.heap.size Y4 (Y4.alloc (.cells #[.int .i64 ((n1 : Int) + 1), .int .i64 c, .int .i64 k, .int .i64 n, .int .i64 s.count, .int .i64 s.sum, .int .i64 s.min, .int .i64 s.max, .slice u1 v1 y1, .slice u2 v2 y2, .slice u3 v3 y3] 33)) := (Below.refl _ _).alloc (Nat.le_refl _) _
      have HL5 : Hid (SealL w #[.int .i64 x.id, .int .i64 x.epoch, .bool x.live, .int .i64 x.granted, .slice a1 n1 c1, .slice a2 n2 c2, .int .i64 x.next] #[.int .i64 s.count, .int .i64 s.sum, .int .i64 s.min, .int .i64 s.max, .slice b1 m1 d1, .slice b2 m2 d2, .slice b3 m3 d3] B L lo n1 x q1 k1 q2 l2 k2 F G GG vs (Y4.alloc (.cells #[.int .i64 ((n1 : Int) + 1), .int .i64 c, .int .i64 k, .int .i64 n, .int .i64 s.count, .int .i64 s.sum, .int .i64 s.min, .int .i64 s.max, .slice u1 v1 y1, .slice u2 v2 y2, .slice u3 v3 y3] 33))) := HL4.out.below bl
      have RR5 : Hid (RdIt (Y4.alloc (.cells #[.int .i64 ((n1 : Int) + 1), .int .i64 c, .int .i64 k, .int .i64 n, .int .i64 s.count, .int .i64 s.sum, .int .i64 s.min, .int .i64 s.max, .slice u1 v1 y1, .slice u2 v2 y2, .slice u3 v3 y3] 33)) (.agg #[.int .i64 ((n1 : Int) + 1), .int .i64 c, .int .i64 k, .int .i64 n, .int .i64 s.count, .int .i64 s.sum, .int .i64 s.min, .int .i64 s.max, .slice u1 v1 y1, .slice u2 v2 y2, .slice u3 v3 y3]) ⟨(n1 : Int) + 1, c, k, n, s⟩ Fr ∧ Own (L + 1) (Y4.alloc (.cells #[.int .i64 ((n1 : Int) + 1), .int .i64 c, .int .i64 k, .int .i64 n, .int .i64 s.count, .int .i64 s.sum, .int .i64 s.min, .int .i64 s.max, .slice u1 v1 y1, .slice u2 v2 y2, .slice u3 v3 y3] 33)) Fr) := ⟨RR4.out.1.below bl, RR4.out.2.below (RdIt.lt RR4.out.1) bl⟩
      have NW5 : Hid (∀ j u, #[.int .i64 ((n1 : Int) + 1), .int .i64 c, .int .i64 k, .int .i64 n, .int .i64 s.count, .int .i64 s.sum, .int .i64 s.min, .int .i64 s.max, .slice u1 v1 y1, .slice u2 v2 y2, .slice u3 v3 y3].toList[j]? = some u → ((Y4.alloc (.cells #[.int .i64 ((n1 : Int) + 1), .int .i64 c, .int .i64 k, .int .i64 n, .int .i64 s.count, .int .i64 s.sum, .int .i64 s.min, .int .i64 s.max, .slice u1 v1 y1, .slice u2 v2 y2, .slice u3 v3 y3] 33))).cell? ((⟨Y4.heap.size, 0, none⟩ : Addr).add j) = some u) := news_lit _ _ _
      refine op_turn (.slice (some ⟨Y4.heap.size, 0, none⟩) 1 1) (Y4.alloc (.cells #[.int .i64 ((n1 : Int) + 1), .int .i64 c, .int .i64 k, .int .i64 n, .int .i64 s.count, .int .i64 s.sum, .int .i64 s.min, .int .i64 s.max, .slice u1 v1 y1, .slice u2 v2 y2, .slice u3 v3 y3] 33)) rfl (by kernel_rfl) ⟨_, by simp [Act.put]; rfl, hK _ _ ⟨HL5.out.base, ?_⟩⟩
      clear hK bl
      obtain ⟨L5, hL5⟩ : ∃ z, z = Y4.heap.size := ⟨_, rfl⟩
      obtain ⟨Y5, hY5⟩ : ∃ Z, Z = (Y4.alloc (.cells #[.int .i64 ((n1 : Int) + 1), .int .i64 c, .int .i64 k, .int .i64 n, .int .i64 s.count, .int .i64 s.sum, .int .i64 s.min, .int .i64 s.max, .slice u1 v1 y1, .slice u2 v2 y2, .slice u3 v3 y3] 33)) := ⟨_, rfl⟩
      rw [← hY5, ← hL5] at NW5
      rw [← hY5] at HL5 RR5 ⊢
      rw [← hL5]
      clear hY5 hL5
      refine onlyH (o := ?o20) 13 (by kernel_rfl) ?h20 ?r20
      case h20 => simp only [aT, aS, aZ]; rfl
      intro K hK
      refine op_append Y5 rfl _ _ 24 rfl lo 33 j0 (.agg #[.int .i64 0, .int .i64 0, .int .i64 0, .int .i64 0, .int .i64 0, .int .i64 0, .int .i64 0, .int .i64 0, .slice none 0 0, .slice none 0 0, .slice none 0 0]) 11 136 Tryz.underlying24 hj hy0 hy1 hy2 rfl (by decide) (.slice q1 n1 k1) n1 vs rfl HL5.out.c.gr.row ⟨L5, 0, none⟩ 1 1 #[.int .i64 ((n1 : Int) + 1), .int .i64 c, .int .i64 k, .int .i64 n, .int .i64 s.count, .int .i64 s.sum, .int .i64 s.min, .int .i64 s.max, .slice u1 v1 y1, .slice u2 v2 y2, .slice u3 v3 y3].toList rfl rfl NW5.out (by simp [Value.oneCell']) (by decide) (by unfold maxLen; omega) (by omega) HL5.out.c.gr.lw _ rfl ?_
      intro g4 cp4 Y6 hown hgrow hat _
      obtain ⟨ST1, ST2, F', ST3⟩ := HL5.out.done RR5.out.1 rfl RR5.out.2 hown hgrow hat
      have HL6 : Hid (SealW w #[.int .i64 x.id, .int .i64 x.epoch, .bool x.live, .int .i64 x.granted, .slice a1 n1 c1, .slice a2 n2 c2, .int .i64 x.next] #[.int .i64 s.count, .int .i64 s.sum, .int .i64 s.min, .int .i64 s.max, .slice b1 m1 d1, .slice b2 m2 d2, .slice b3 m3 d3] Y6 ∧ SealD w #[.int .i64 x.id, .int .i64 x.epoch, .bool x.live, .int .i64 x.granted, .slice a1 n1 c1, .slice a2 n2 c2, .int .i64 x.next] #[.int .i64 s.count, .int .i64 s.sum, .int .i64 s.min, .int .i64 s.max, .slice b1 m1 d1, .slice b2 m2 d2, .slice b3 m3 d3] L #[.int .i64 x.id, .int .i64 x.epoch, .bool x.live, .int .i64 x.granted, .slice (some ⟨g4, 0, none⟩) (n1 + 1) cp4, .slice q2 l2 k2, .int .i64 x.next] (x.plus ⟨(n1 : Int) + 1, c, k, n, s⟩) F' G (Y6.setCell ⟨L, 4, none⟩ (.slice (some ⟨g4, 0, none⟩) (n1 + 1) cp4))) := ⟨ST1, ST3⟩
      have co := ST2.cell 4
      have fo := ST2.frozen 4
      simp only [aT, aS, aZ] at co
      refine ⟨_, by simp [Act.put]; rfl, hK _ _ ⟨HL6.out.1, ?_⟩⟩
      clear hK hown hgrow hat ST1 ST2 ST3
      refine takeH (o := ?o21) 14 (.pointer (some ⟨L, 4, none⟩)) ?h21 ?r21
      case h21 => simp only [aT, aS, aZ]; rfl
      refine ⟨_, by simp [Act.put]; rfl, by kernel_rfl, by kernel_rfl, by kernel_rfl, fun _ _ _ h => h, (.inl ⟨rfl, fun W _ => by kernel_rfl⟩), HL6.out.1, ?_⟩
      refine onlyH (o := ?o22) 15 (by kernel_rfl) ?h22 ?r22
      case h22 => simp only [aT, aS, aZ]; rfl
      intro K hK
      refine op_skip (Y6.setCell ⟨L, 4, none⟩ (.slice (some ⟨g4, 0, none⟩) (n1 + 1) cp4)) rfl (by go_simp) ⟨_, by simp [Act.put]; rfl, hK _ _ ⟨HL6.out.2.base, ?_⟩⟩
      clear hK co fo
      refine wpAnyH_done (by kernel_rfl) ?_ _
      obtain ⟨w5, hw5⟩ : ∃ W, W = Y6.setCell ⟨L, 4, none⟩ (.slice (some ⟨g4, 0, none⟩) (n1 + 1) cp4) := ⟨_, rfl⟩
      have H5 : Hid (SealD w #[.int .i64 x.id, .int .i64 x.epoch, .bool x.live, .int .i64 x.granted, .slice a1 n1 c1, .slice a2 n2 c2, .int .i64 x.next] #[.int .i64 s.count, .int .i64 s.sum, .int .i64 s.min, .int .i64 s.max, .slice b1 m1 d1, .slice b2 m2 d2, .slice b3 m3 d3] L #[.int .i64 x.id, .int .i64 x.epoch, .bool x.live, .int .i64 x.granted, .slice (some ⟨g4, 0, none⟩) (n1 + 1) cp4, .slice q2 l2 k2, .int .i64 x.next] (x.plus (x.item c k n s)) F' G w5) := by rw [HI.out.1, hw5]; exact HL6.out.2
      rw [← hw5]
      clear hw5 HL6
      go_wp2_with (first | go_skip | (with_reducible refine stopLoad 27 rfl ?_))
      refine load_known 27 L _ 27 _ H5.out.loc rfl rfl rfl Tryz.underlying27 rfl infoAgQSpec ?_
      go_wp2_with fail
      refine (agentOkSpec_any _ (x.plus (x.item c k n s)) F' G _ H5.out.rd (fun y hy => (List.mem_append.1 hy).elim (fun h => (HF.out.1 y h).wide) (fun h => by (obtain rfl : y = x.item c k n s := by simpa using h); exact HU.out.2.wide)) (by show (x.sealed ++ [x.item c k n s]).length ≤ _; rw [List.length_append]; have := HF.out.2.1; simp; omega) (by show x.taken.length ≤ _; have := HF.out.2.2; omega)).mono ?_
      rintro e w6 ⟨rfl, hb6⟩
      have H6 : Hid (SealD w #[.int .i64 x.id, .int .i64 x.epoch, .bool x.live, .int .i64 x.granted, .slice a1 n1 c1, .slice a2 n2 c2, .int .i64 x.next] #[.int .i64 s.count, .int .i64 s.sum, .int .i64 s.min, .int .i64 s.max, .slice b1 m1 d1, .slice b2 m2 d2, .slice b3 m3 d3] L #[.int .i64 x.id, .int .i64 x.epoch, .bool x.live, .int .i64 x.granted, .slice (some ⟨g4, 0, none⟩) (n1 + 1) cp4, .slice q2 l2 k2, .int .i64 x.next] (x.plus (x.item c k n s)) F' G w6) := H5.out.below hb6
      obtain ⟨d, hd⟩ : ∃ d, d = (x.plus (x.item c k n s)).ok := ⟨_, rfl⟩
      rw [← hd]
      have HD : Hid (d = (x.item c k n s).ok) := hd.trans (Ag.plus_ok x c k n s HD1.out)
      clear hb6 hd H5
      cases d
      · have HV : Hid (x.seal c k n s = (x, 0)) := by show _ = _; unfold Ag.seal; rw [← HD.out]; simp
        go_wp2_with (first | go_skip | (with_reducible refine stopLoad 27 rfl ?_))
        refine load_known 27 w.heap.size _ 27 _ H6.out.base.box rfl rfl rfl Tryz.underlying27 rfl infoAgQSpec ?_
        go_wp2_with fail
        refine (l8Copy_grow _ x F0 G0 _ (HX.out.1.below H6.out.base.bel) HF.out.1 HF.out.2.1 HF.out.2.2).mono ?_
        intro e w8 hnew
        obtain ⟨cs8, F8, G8, rfl, r8, o8, p8, ap8, hb8, v8, hv8, gr8⟩ := hnew.apart.room
        have hzz := r8.cells
        obtain ⟨cs9, e9, hz8, ho8⟩ := hzz
        injection e9 with e9
        subst e9
        have H8 : Hid (SealW w #[.int .i64 x.id, .int .i64 x.epoch, .bool x.live, .int .i64 x.granted, .slice a1 n1 c1, .slice a2 n2 c2, .int .i64 x.next] #[.int .i64 s.count, .int .i64 s.sum, .int .i64 s.min, .int .i64 s.max, .slice b1 m1 d1, .slice b2 m2 d2, .slice b3 m3 d3] w8 ∧ RdAg w8 (.agg cs8) x F8 G8 ∧ Own (w.heap.size + 3) w8 F8 ∧ Own (w.heap.size + 3) w8 G8 ∧ (∀ b ∈ F8, b ∉ G8) ∧ GrA (w.heap.size + 3) (w.heap.size + 2) v8 x.sealed.length x.sealed G8 w8) := ⟨H6.out.base.below hb8, r8, o8.mono (by have := H6.out.base.res.lt; omega), p8.mono (by have := H6.out.base.res.lt; omega), ap8, (gr8.mono (by have := H6.out.base.res.lt; omega)).at (.inl (by omega))⟩
        clear r8 o8 p8 ap8 hb8 gr8 hnew
        go_wp2_with (first | go_skip | (with_reducible refine stopStore 27 rfl ?_))
        refine store_known 27 (w.heap.size + 1 + 1) _ cs8 27 H8.out.1.res rfl rfl rfl rfl (by rw [hz8]; exact infoAgQSpec) (by rw [hz8]; rfl) ho8 ?_
        go_wp2
        refine bodyPost_ret (results_row_tmp Tryz.results91 _ _ (w.heap.size + 1 + 1) _ _ _ _ rfl H8.out.1.res.setRow Tryz.underlying27 rfl (by rw [hz8]; exact infoAgQSpec)) rfl ?_
        have nr : w.heap.size + 1 + 1 ∉ F8 := fun hx => by have := H8.out.2.2.1.ge _ hx; omega
        have mr : w.heap.size + 1 + 1 ∉ G8 := fun hx => by have := H8.out.2.2.2.1.ge _ hx; omega
        rw [HV.out]
        exact ⟨_, F8, G8, _, rfl, H8.out.2.1.agree (Agree.row nr _) (Agree.row mr _), rfl, (H8.out.2.2.1.agree (Agree.row nr _)).mono (by omega), (H8.out.2.2.2.1.agree (Agree.row mr _)).mono (by omega), H8.out.2.2.2.2.1, below_setRow H8.out.1.bel (by omega) _, v8, hv8, ((H8.out.2.2.2.2.2.row (.inl (by omega))).at (.inr (Nat.le_refl _))).mono (by omega)⟩
      have HV : Hid (x.seal c k n s = (x.plus (x.item c k n s), (n1 : Int) + 1)) := by show _ = _; unfold Ag.seal; rw [if_pos ⟨HD1.out, HD.out.symm⟩, HI.out.2]
      go_wp2_with fail
      have H7 : Hid (SealD w #[.int .i64 x.id, .int .i64 x.epoch, .bool x.live, .int .i64 x.granted, .slice a1 n1 c1, .slice a2 n2 c2, .int .i64 x.next] #[.int .i64 s.count, .int .i64 s.sum, .int .i64 s.min, .int .i64 s.max, .slice b1 m1 d1, .slice b2 m2 d2, .slice b3 m3 d3] L #[.int .i64 x.id, .int .i64 x.epoch, .bool x.live, .int .i64 x.granted, .slice (some ⟨g4, 0, none⟩) (n1 + 1) cp4, .slice q2 l2 k2, .int .i64 x.next] (x.plus (x.item c k n s)) F' G w6.drew) := H6.out.below (Below.refl _ _).drew
      obtain ⟨Z0, hZ0⟩ : ∃ Y, Y = w6.drew := ⟨_, rfl⟩
      rw [← hZ0] at H7
      clear H6 HD
      refine wp_region_held (S := fun W => Blk W L #[.int .i64 x.id, .int .i64 x.epoch, .bool x.live, .int .i64 x.granted, .slice (some ⟨g4, 0, none⟩) (n1 + 1) cp4, .slice q2 l2 k2, .int .i64 x.next] 27) (by kernel_rfl) ?_
      change wpAnyH _ _ _ _ _ _ _ _ (World.drew _)
      rw [← hZ0]
      clear hZ0
      refine takeH (o := ?o27xx) 0 (.agg #[.int .i64 x.id, .int .i64 x.epoch, .bool x.live, .int .i64 x.granted, .slice (some ⟨g4, 0, none⟩) (n1 + 1) cp4, .slice q2 l2 k2, .int .i64 x.next]) ?h27xx ?r27xx
      case h27xx => simp only [aT, aZ]; rfl
      refine ⟨_, by simp [Act.put]; rfl, by kernel_rfl, by kernel_rfl, by kernel_rfl, fun _ _ _ h => h, (yields_whole 27 L #[.int .i64 x.id, .int .i64 x.epoch, .bool x.live, .int .i64 x.granted, .slice (some ⟨g4, 0, none⟩) (n1 + 1) cp4, .slice q2 l2 k2, .int .i64 x.next] 27 _ rfl rfl rfl Tryz.underlying27 rfl infoAgQSpec (fun W hW => hW)), H7.out.loc, ?_⟩
      refine takeH (o := ?o28xx) 1 (.pointer (some ⟨L, 4, none⟩)) ?h28xx ?r28xx
      case h28xx => simp only [aT, aS, aZ]; rfl
      refine ⟨_, by simp [Act.put]; rfl, by kernel_rfl, by kernel_rfl, by kernel_rfl, fun _ _ _ h => h, (.inl ⟨rfl, fun W _ => by kernel_rfl⟩), H7.out.loc, ?_⟩
      refine takeH (o := ?o29xx) 2 (.slice (some ⟨g4, 0, none⟩) (n1 + 1) cp4) ?h29xx ?r29xx
      case h29xx => simp only [aT, aS, aZ]; rfl
      refine ⟨_, by simp [Act.put]; rfl, by kernel_rfl, by kernel_rfl, by kernel_rfl, fun _ _ _ h => h, (.inl ⟨rfl, fun W hW => by have c := hW.cell 4; simp only [aT, aS, aZ] at c; go_simp⟩), H7.out.loc, ?_⟩
      refine takeH (o := ?o30xx) 3 (.int .i64 ((n1 + 1 : Nat) : Int)) ?h30xx ?r30xx
      case h30xx => simp only [aT, aS, aZ]; rfl
      refine ⟨_, by simp [Act.put]; rfl, by kernel_rfl, by kernel_rfl, by kernel_rfl, fun _ _ _ h => h, (.inl ⟨rfl, fun W _ => by go_simp⟩), H7.out.loc, ?_⟩
      refine onlyH (o := ?o31xx) 4 (by kernel_rfl) ?h31xx ?r31xx
      case h31xx => simp only [aT, aS, aZ]; rfl
      intro K hK
      have gL := H7.out.gL
      refine op_store 27 (w.heap.size + 1 + 1) #[.int .i64 0, .int .i64 0, .bool false, .int .i64 0, .slice none 0 0, .slice none 0 0, .int .i64 0] #[.int .i64 x.id, .int .i64 x.epoch, .bool x.live, .int .i64 x.granted, .slice (some ⟨g4, 0, none⟩) (n1 + 1) cp4, .slice q2 l2 k2, .int .i64 x.next] 27 rfl rfl rfl rfl H7.out.base.res infoAgQSpec rfl (by simp [Value.oneCell']) ⟨_, by simp [Act.put]; rfl, hK _ _ ⟨H7.out.loc.setRowOther (by omega), ?_⟩⟩
      clear hK
      refine takeH (o := ?o32xx) 5 (.int .i64 ((n1 + 1 : Nat) : Int)) ?h32xx ?r32xx
      case h32xx => simp only [aT, aS, aZ]; rfl
      refine ⟨_, by simp [Act.put]; rfl, by kernel_rfl, by kernel_rfl, by kernel_rfl, fun _ _ _ h => h, (.inl ⟨rfl, fun W _ => by kernel_rfl⟩), (H7.out.loc.setRowOther (by omega)), ?_⟩
      refine wpAnyH_done (by kernel_rfl) ?_ _
      go_wp2
      refine bodyPost_ret (results_row_tmp Tryz.results91 _ _ (w.heap.size + 1 + 1) _ _ _ _ rfl H7.out.base.res.setRow Tryz.underlying27 rfl infoAgQSpec) rfl ?_
      have nr : w.heap.size + 1 + 1 ∉ F' := fun hx => by have := H7.out.oF.ge _ hx; omega
      have mr : w.heap.size + 1 + 1 ∉ G := fun hx => by have := H7.out.oG.ge _ hx; omega
      rw [HV.out]
      exact ⟨_, F', G, _, rfl, H7.out.rd.agree (Agree.row nr _) (Agree.row mr _), (by show (((n1 + 1 : Nat) : Int)) = (n1 : Int) + 1; omega), (H7.out.oF.agree (Agree.row nr _)).mono (by omega), (H7.out.oG.agree (Agree.row mr _)).mono (by omega), H7.out.ap, below_setRow H7.out.base.bel (by omega) _, (let ⟨v, e, g⟩ := H7.out.rm; ⟨v, e, ((((g.at (.inl (by omega : w.heap.size < w.heap.size + 3))).row (.inl (by omega))).at (.inr (Nat.le_refl _))).mono (by omega))⟩)⟩
    case s18 =>
      intro K hK
      have bl : Below Y4.heap.size Y4 (Y4.alloc (.cells #[.int .i64 ((n1 : Int) + 1), .int .i64 c, .int .i64 k, .int .i64 n, .int .i64 s.count, .int .i64 s.sum, .int .i64 s.min, .int .i64 s.max, .slice u1 v1 y1, .slice u2 v2 y2, .slice u3 v3 y3] 33)) := (Below.refl _ _).alloc (Nat.le_refl _) _
      have HL7 : Hid (SealL w #[.int .i64 x.id, .int .i64 x.epoch, .bool x.live, .int .i64 x.granted, .slice a1 n1 c1, .slice a2 n2 c2, .int .i64 x.next] #[.int .i64 s.count, .int .i64 s.sum, .int .i64 s.min, .int .i64 s.max, .slice b1 m1 d1, .slice b2 m2 d2, .slice b3 m3 d3] B L lo n1 x q1 k1 q2 l2 k2 F G GG vs (Y4.alloc (.cells #[.int .i64 ((n1 : Int) + 1), .int .i64 c, .int .i64 k, .int .i64 n, .int .i64 s.count, .int .i64 s.sum, .int .i64 s.min, .int .i64 s.max, .slice u1 v1 y1, .slice u2 v2 y2, .slice u3 v3 y3] 33))) := HL4.out.below bl
      have RR7 : Hid (RdIt (Y4.alloc (.cells #[.int .i64 ((n1 : Int) + 1), .int .i64 c, .int .i64 k, .int .i64 n, .int .i64 s.count, .int .i64 s.sum, .int .i64 s.min, .int .i64 s.max, .slice u1 v1 y1, .slice u2 v2 y2, .slice u3 v3 y3] 33)) (.agg #[.int .i64 ((n1 : Int) + 1), .int .i64 c, .int .i64 k, .int .i64 n, .int .i64 s.count, .int .i64 s.sum, .int .i64 s.min, .int .i64 s.max, .slice u1 v1 y1, .slice u2 v2 y2, .slice u3 v3 y3]) ⟨(n1 : Int) + 1, c, k, n, s⟩ Fr ∧ Own (L + 1) (Y4.alloc (.cells #[.int .i64 ((n1 : Int) + 1), .int .i64 c, .int .i64 k, .int .i64 n, .int .i64 s.count, .int .i64 s.sum, .int .i64 s.min, .int .i64 s.max, .slice u1 v1 y1, .slice u2 v2 y2, .slice u3 v3 y3] 33)) Fr) := ⟨RR4.out.1.below bl, RR4.out.2.below (RdIt.lt RR4.out.1) bl⟩
      have NW7 : Hid (∀ j u, #[.int .i64 ((n1 : Int) + 1), .int .i64 c, .int .i64 k, .int .i64 n, .int .i64 s.count, .int .i64 s.sum, .int .i64 s.min, .int .i64 s.max, .slice u1 v1 y1, .slice u2 v2 y2, .slice u3 v3 y3].toList[j]? = some u → ((Y4.alloc (.cells #[.int .i64 ((n1 : Int) + 1), .int .i64 c, .int .i64 k, .int .i64 n, .int .i64 s.count, .int .i64 s.sum, .int .i64 s.min, .int .i64 s.max, .slice u1 v1 y1, .slice u2 v2 y2, .slice u3 v3 y3] 33))).cell? ((⟨Y4.heap.size, 0, none⟩ : Addr).add j) = some u) := news_lit _ _ _
      refine op_turn (.slice (some ⟨Y4.heap.size, 0, none⟩) 1 1) (Y4.alloc (.cells #[.int .i64 ((n1 : Int) + 1), .int .i64 c, .int .i64 k, .int .i64 n, .int .i64 s.count, .int .i64 s.sum, .int .i64 s.min, .int .i64 s.max, .slice u1 v1 y1, .slice u2 v2 y2, .slice u3 v3 y3] 33)) rfl (by kernel_rfl) ⟨_, by simp [Act.put]; rfl, hK _ _ ⟨HL7.out.base, ?_⟩⟩
      clear hK bl
      obtain ⟨L7, hL7⟩ : ∃ z, z = Y4.heap.size := ⟨_, rfl⟩
      obtain ⟨Y7, hY7⟩ : ∃ Z, Z = (Y4.alloc (.cells #[.int .i64 ((n1 : Int) + 1), .int .i64 c, .int .i64 k, .int .i64 n, .int .i64 s.count, .int .i64 s.sum, .int .i64 s.min, .int .i64 s.max, .slice u1 v1 y1, .slice u2 v2 y2, .slice u3 v3 y3] 33)) := ⟨_, rfl⟩
      rw [← hY7, ← hL7] at NW7
      rw [← hY7] at HL7 RR7 ⊢
      rw [← hL7]
      clear hY7 hL7
      refine onlyH (o := ?o23) 1 (by kernel_rfl) ?h23 ?r23
      case h23 => simp only [aT, aS, aZ]; rfl
      intro K hK
      have co := HL7.out.loc.cell 4
      simp only [aT, aS, aZ] at co
      refine op_value (.slice q1 n1 k1) rfl (by go_simp) ⟨_, by simp [Act.put]; rfl, hK _ _ ⟨HL7.out.base, ?_⟩⟩
      clear hK co
      refine onlyH (o := ?o24) 13 (by kernel_rfl) ?h24 ?r24
      case h24 => simp only [aT, aS, aZ]; rfl
      intro K hK
      refine op_append Y7 rfl _ _ 24 rfl lo 33 j0 (.agg #[.int .i64 0, .int .i64 0, .int .i64 0, .int .i64 0, .int .i64 0, .int .i64 0, .int .i64 0, .int .i64 0, .slice none 0 0, .slice none 0 0, .slice none 0 0]) 11 136 Tryz.underlying24 hj hy0 hy1 hy2 rfl (by decide) (.slice q1 n1 k1) n1 vs rfl HL7.out.c.gr.row ⟨L7, 0, none⟩ 1 1 #[.int .i64 ((n1 : Int) + 1), .int .i64 c, .int .i64 k, .int .i64 n, .int .i64 s.count, .int .i64 s.sum, .int .i64 s.min, .int .i64 s.max, .slice u1 v1 y1, .slice u2 v2 y2, .slice u3 v3 y3].toList rfl rfl NW7.out (by simp [Value.oneCell']) (by decide) (by unfold maxLen; omega) (by omega) HL7.out.c.gr.lw _ rfl ?_
      intro g4 cp4 Y8 hown hgrow hat _
      obtain ⟨ST1, ST2, F', ST3⟩ := HL7.out.done RR7.out.1 rfl RR7.out.2 hown hgrow hat
      have HL8 : Hid (SealW w #[.int .i64 x.id, .int .i64 x.epoch, .bool x.live, .int .i64 x.granted, .slice a1 n1 c1, .slice a2 n2 c2, .int .i64 x.next] #[.int .i64 s.count, .int .i64 s.sum, .int .i64 s.min, .int .i64 s.max, .slice b1 m1 d1, .slice b2 m2 d2, .slice b3 m3 d3] Y8 ∧ SealD w #[.int .i64 x.id, .int .i64 x.epoch, .bool x.live, .int .i64 x.granted, .slice a1 n1 c1, .slice a2 n2 c2, .int .i64 x.next] #[.int .i64 s.count, .int .i64 s.sum, .int .i64 s.min, .int .i64 s.max, .slice b1 m1 d1, .slice b2 m2 d2, .slice b3 m3 d3] L #[.int .i64 x.id, .int .i64 x.epoch, .bool x.live, .int .i64 x.granted, .slice (some ⟨g4, 0, none⟩) (n1 + 1) cp4, .slice q2 l2 k2, .int .i64 x.next] (x.plus ⟨(n1 : Int) + 1, c, k, n, s⟩) F' G (Y8.setCell ⟨L, 4, none⟩ (.slice (some ⟨g4, 0, none⟩) (n1 + 1) cp4))) := ⟨ST1, ST3⟩
      have co := ST2.cell 4
      have fo := ST2.frozen 4
      simp only [aT, aS, aZ] at co
      refine ⟨_, by simp [Act.put]; rfl, hK _ _ ⟨HL8.out.1, ?_⟩⟩
      clear hK hown hgrow hat ST1 ST2 ST3
      refine takeH (o := ?o25) 14 (.pointer (some ⟨L, 4, none⟩)) ?h25 ?r25
      case h25 => simp only [aT, aS, aZ]; rfl
      refine ⟨_, by simp [Act.put]; rfl, by kernel_rfl, by kernel_rfl, by kernel_rfl, fun _ _ _ h => h, (.inl ⟨rfl, fun W _ => by kernel_rfl⟩), HL8.out.1, ?_⟩
      refine onlyH (o := ?o26) 15 (by kernel_rfl) ?h26 ?r26
      case h26 => simp only [aT, aS, aZ]; rfl
      intro K hK
      refine op_skip (Y8.setCell ⟨L, 4, none⟩ (.slice (some ⟨g4, 0, none⟩) (n1 + 1) cp4)) rfl (by go_simp) ⟨_, by simp [Act.put]; rfl, hK _ _ ⟨HL8.out.2.base, ?_⟩⟩
      clear hK co fo
      refine wpAnyH_done (by kernel_rfl) ?_ _
      obtain ⟨w5, hw5⟩ : ∃ W, W = Y8.setCell ⟨L, 4, none⟩ (.slice (some ⟨g4, 0, none⟩) (n1 + 1) cp4) := ⟨_, rfl⟩
      have H5 : Hid (SealD w #[.int .i64 x.id, .int .i64 x.epoch, .bool x.live, .int .i64 x.granted, .slice a1 n1 c1, .slice a2 n2 c2, .int .i64 x.next] #[.int .i64 s.count, .int .i64 s.sum, .int .i64 s.min, .int .i64 s.max, .slice b1 m1 d1, .slice b2 m2 d2, .slice b3 m3 d3] L #[.int .i64 x.id, .int .i64 x.epoch, .bool x.live, .int .i64 x.granted, .slice (some ⟨g4, 0, none⟩) (n1 + 1) cp4, .slice q2 l2 k2, .int .i64 x.next] (x.plus (x.item c k n s)) F' G w5) := by rw [HI.out.1, hw5]; exact HL8.out.2
      rw [← hw5]
      clear hw5 HL8
      go_wp2_with (first | go_skip | (with_reducible refine stopLoad 27 rfl ?_))
      refine load_known 27 L _ 27 _ H5.out.loc rfl rfl rfl Tryz.underlying27 rfl infoAgQSpec ?_
      go_wp2_with fail
      refine (agentOkSpec_any _ (x.plus (x.item c k n s)) F' G _ H5.out.rd (fun y hy => (List.mem_append.1 hy).elim (fun h => (HF.out.1 y h).wide) (fun h => by (obtain rfl : y = x.item c k n s := by simpa using h); exact HU.out.2.wide)) (by show (x.sealed ++ [x.item c k n s]).length ≤ _; rw [List.length_append]; have := HF.out.2.1; simp; omega) (by show x.taken.length ≤ _; have := HF.out.2.2; omega)).mono ?_
      rintro e w6 ⟨rfl, hb6⟩
      have H6 : Hid (SealD w #[.int .i64 x.id, .int .i64 x.epoch, .bool x.live, .int .i64 x.granted, .slice a1 n1 c1, .slice a2 n2 c2, .int .i64 x.next] #[.int .i64 s.count, .int .i64 s.sum, .int .i64 s.min, .int .i64 s.max, .slice b1 m1 d1, .slice b2 m2 d2, .slice b3 m3 d3] L #[.int .i64 x.id, .int .i64 x.epoch, .bool x.live, .int .i64 x.granted, .slice (some ⟨g4, 0, none⟩) (n1 + 1) cp4, .slice q2 l2 k2, .int .i64 x.next] (x.plus (x.item c k n s)) F' G w6) := H5.out.below hb6
      obtain ⟨d, hd⟩ : ∃ d, d = (x.plus (x.item c k n s)).ok := ⟨_, rfl⟩
      rw [← hd]
      have HD : Hid (d = (x.item c k n s).ok) := hd.trans (Ag.plus_ok x c k n s HD1.out)
      clear hb6 hd H5
      cases d
      · have HV : Hid (x.seal c k n s = (x, 0)) := by show _ = _; unfold Ag.seal; rw [← HD.out]; simp
        go_wp2_with (first | go_skip | (with_reducible refine stopLoad 27 rfl ?_))
        refine load_known 27 w.heap.size _ 27 _ H6.out.base.box rfl rfl rfl Tryz.underlying27 rfl infoAgQSpec ?_
        go_wp2_with fail
        refine (l8Copy_grow _ x F0 G0 _ (HX.out.1.below H6.out.base.bel) HF.out.1 HF.out.2.1 HF.out.2.2).mono ?_
        intro e w8 hnew
        obtain ⟨cs8, F8, G8, rfl, r8, o8, p8, ap8, hb8, v8, hv8, gr8⟩ := hnew.apart.room
        have hzz := r8.cells
        obtain ⟨cs9, e9, hz8, ho8⟩ := hzz
        injection e9 with e9
        subst e9
        have H8 : Hid (SealW w #[.int .i64 x.id, .int .i64 x.epoch, .bool x.live, .int .i64 x.granted, .slice a1 n1 c1, .slice a2 n2 c2, .int .i64 x.next] #[.int .i64 s.count, .int .i64 s.sum, .int .i64 s.min, .int .i64 s.max, .slice b1 m1 d1, .slice b2 m2 d2, .slice b3 m3 d3] w8 ∧ RdAg w8 (.agg cs8) x F8 G8 ∧ Own (w.heap.size + 3) w8 F8 ∧ Own (w.heap.size + 3) w8 G8 ∧ (∀ b ∈ F8, b ∉ G8) ∧ GrA (w.heap.size + 3) (w.heap.size + 2) v8 x.sealed.length x.sealed G8 w8) := ⟨H6.out.base.below hb8, r8, o8.mono (by have := H6.out.base.res.lt; omega), p8.mono (by have := H6.out.base.res.lt; omega), ap8, (gr8.mono (by have := H6.out.base.res.lt; omega)).at (.inl (by omega))⟩
        clear r8 o8 p8 ap8 hb8 gr8 hnew
        go_wp2_with (first | go_skip | (with_reducible refine stopStore 27 rfl ?_))
        refine store_known 27 (w.heap.size + 1 + 1) _ cs8 27 H8.out.1.res rfl rfl rfl rfl (by rw [hz8]; exact infoAgQSpec) (by rw [hz8]; rfl) ho8 ?_
        go_wp2
        refine bodyPost_ret (results_row_tmp Tryz.results91 _ _ (w.heap.size + 1 + 1) _ _ _ _ rfl H8.out.1.res.setRow Tryz.underlying27 rfl (by rw [hz8]; exact infoAgQSpec)) rfl ?_
        have nr : w.heap.size + 1 + 1 ∉ F8 := fun hx => by have := H8.out.2.2.1.ge _ hx; omega
        have mr : w.heap.size + 1 + 1 ∉ G8 := fun hx => by have := H8.out.2.2.2.1.ge _ hx; omega
        rw [HV.out]
        exact ⟨_, F8, G8, _, rfl, H8.out.2.1.agree (Agree.row nr _) (Agree.row mr _), rfl, (H8.out.2.2.1.agree (Agree.row nr _)).mono (by omega), (H8.out.2.2.2.1.agree (Agree.row mr _)).mono (by omega), H8.out.2.2.2.2.1, below_setRow H8.out.1.bel (by omega) _, v8, hv8, ((H8.out.2.2.2.2.2.row (.inl (by omega))).at (.inr (Nat.le_refl _))).mono (by omega)⟩
      have HV : Hid (x.seal c k n s = (x.plus (x.item c k n s), (n1 : Int) + 1)) := by show _ = _; unfold Ag.seal; rw [if_pos ⟨HD1.out, HD.out.symm⟩, HI.out.2]
      go_wp2_with fail
      have H7 : Hid (SealD w #[.int .i64 x.id, .int .i64 x.epoch, .bool x.live, .int .i64 x.granted, .slice a1 n1 c1, .slice a2 n2 c2, .int .i64 x.next] #[.int .i64 s.count, .int .i64 s.sum, .int .i64 s.min, .int .i64 s.max, .slice b1 m1 d1, .slice b2 m2 d2, .slice b3 m3 d3] L #[.int .i64 x.id, .int .i64 x.epoch, .bool x.live, .int .i64 x.granted, .slice (some ⟨g4, 0, none⟩) (n1 + 1) cp4, .slice q2 l2 k2, .int .i64 x.next] (x.plus (x.item c k n s)) F' G w6.drew) := H6.out.below (Below.refl _ _).drew
      obtain ⟨Z0, hZ0⟩ : ∃ Y, Y = w6.drew := ⟨_, rfl⟩
      rw [← hZ0] at H7
      clear H6 HD
      refine wp_region_held (S := fun W => Blk W L #[.int .i64 x.id, .int .i64 x.epoch, .bool x.live, .int .i64 x.granted, .slice (some ⟨g4, 0, none⟩) (n1 + 1) cp4, .slice q2 l2 k2, .int .i64 x.next] 27) (by kernel_rfl) ?_
      change wpAnyH _ _ _ _ _ _ _ _ (World.drew _)
      rw [← hZ0]
      clear hZ0
      refine takeH (o := ?o27xxx) 0 (.agg #[.int .i64 x.id, .int .i64 x.epoch, .bool x.live, .int .i64 x.granted, .slice (some ⟨g4, 0, none⟩) (n1 + 1) cp4, .slice q2 l2 k2, .int .i64 x.next]) ?h27xxx ?r27xxx
      case h27xxx => simp only [aT, aZ]; rfl
      refine ⟨_, by simp [Act.put]; rfl, by kernel_rfl, by kernel_rfl, by kernel_rfl, fun _ _ _ h => h, (yields_whole 27 L #[.int .i64 x.id, .int .i64 x.epoch, .bool x.live, .int .i64 x.granted, .slice (some ⟨g4, 0, none⟩) (n1 + 1) cp4, .slice q2 l2 k2, .int .i64 x.next] 27 _ rfl rfl rfl Tryz.underlying27 rfl infoAgQSpec (fun W hW => hW)), H7.out.loc, ?_⟩
      refine takeH (o := ?o28xxx) 1 (.pointer (some ⟨L, 4, none⟩)) ?h28xxx ?r28xxx
      case h28xxx => simp only [aT, aS, aZ]; rfl
      refine ⟨_, by simp [Act.put]; rfl, by kernel_rfl, by kernel_rfl, by kernel_rfl, fun _ _ _ h => h, (.inl ⟨rfl, fun W _ => by kernel_rfl⟩), H7.out.loc, ?_⟩
      refine takeH (o := ?o29xxx) 2 (.slice (some ⟨g4, 0, none⟩) (n1 + 1) cp4) ?h29xxx ?r29xxx
      case h29xxx => simp only [aT, aS, aZ]; rfl
      refine ⟨_, by simp [Act.put]; rfl, by kernel_rfl, by kernel_rfl, by kernel_rfl, fun _ _ _ h => h, (.inl ⟨rfl, fun W hW => by have c := hW.cell 4; simp only [aT, aS, aZ] at c; go_simp⟩), H7.out.loc, ?_⟩
      refine takeH (o := ?o30xxx) 3 (.int .i64 ((n1 + 1 : Nat) : Int)) ?h30xxx ?r30xxx
      case h30xxx => simp only [aT, aS, aZ]; rfl
      refine ⟨_, by simp [Act.put]; rfl, by kernel_rfl, by kernel_rfl, by kernel_rfl, fun _ _ _ h => h, (.inl ⟨rfl, fun W _ => by go_simp⟩), H7.out.loc, ?_⟩
      refine onlyH (o := ?o31xxx) 4 (by kernel_rfl) ?h31xxx ?r31xxx
      case h31xxx => simp only [aT, aS, aZ]; rfl
      intro K hK
      have gL := H7.out.gL
      refine op_store 27 (w.heap.size + 1 + 1) #[.int .i64 0, .int .i64 0, .bool false, .int .i64 0, .slice none 0 0, .slice none 0 0, .int .i64 0] #[.int .i64 x.id, .int .i64 x.epoch, .bool x.live, .int .i64 x.granted, .slice (some ⟨g4, 0, none⟩) (n1 + 1) cp4, .slice q2 l2 k2, .int .i64 x.next] 27 rfl rfl rfl rfl H7.out.base.res infoAgQSpec rfl (by simp [Value.oneCell']) ⟨_, by simp [Act.put]; rfl, hK _ _ ⟨H7.out.loc.setRowOther (by omega), ?_⟩⟩
      clear hK
      refine takeH (o := ?o32xxx) 5 (.int .i64 ((n1 + 1 : Nat) : Int)) ?h32xxx ?r32xxx
      case h32xxx => simp only [aT, aS, aZ]; rfl
      refine ⟨_, by simp [Act.put]; rfl, by kernel_rfl, by kernel_rfl, by kernel_rfl, fun _ _ _ h => h, (.inl ⟨rfl, fun W _ => by kernel_rfl⟩), (H7.out.loc.setRowOther (by omega)), ?_⟩
      refine wpAnyH_done (by kernel_rfl) ?_ _
      go_wp2
      refine bodyPost_ret (results_row_tmp Tryz.results91 _ _ (w.heap.size + 1 + 1) _ _ _ _ rfl H7.out.base.res.setRow Tryz.underlying27 rfl infoAgQSpec) rfl ?_
      have nr : w.heap.size + 1 + 1 ∉ F' := fun hx => by have := H7.out.oF.ge _ hx; omega
      have mr : w.heap.size + 1 + 1 ∉ G := fun hx => by have := H7.out.oG.ge _ hx; omega
      rw [HV.out]
      exact ⟨_, F', G, _, rfl, H7.out.rd.agree (Agree.row nr _) (Agree.row mr _), (by show (((n1 + 1 : Nat) : Int)) = (n1 : Int) + 1; omega), (H7.out.oF.agree (Agree.row nr _)).mono (by omega), (H7.out.oG.agree (Agree.row mr _)).mono (by omega), H7.out.ap, below_setRow H7.out.base.bel (by omega) _, (let ⟨v, e, g⟩ := H7.out.rm; ⟨v, e, ((((g.at (.inl (by omega : w.heap.size < w.heap.size + 3))).row (.inl (by omega))).at (.inr (Nat.le_refl _))).mono (by omega))⟩)⟩
end Go.Proofs.YtgkbhhlkaifnoaaGreatDoor
/- The walk through the model's l7Right. No statement of the seat is proved here. -/
namespace Go.Proofs.YtgkbhhlkaifnoaaGreatDoor
open Go.RowKit
section
variable {P : Program} {ops : Array Oper} {Q : Exit → Act → World → Prop} {a : Act} {w : World} {o : Oper} {K : Act → World → Prop}
theorem op_call2v (f : FuncId) (x y : Operand) (ts : Array TypeId) (fn : Func) (R : Value → World → Prop) (hw : Region.wanted o (yielded ops a.tmps) = true) (ho : o.op = Op.call { callee := Callee.value (Operand.func f), args := #[x, y], argTypes := ts })
    (hfn : P.funcs[f]? = some fn) (hnm : (fn.name == "runtime.NumGoroutine") = false) (hbd : fn.body.isNone = false) (hc : Calls P f #[a.eval x, a.eval y] w fun e w' => ∃ v, e = .returned v ∧ R v w') (h : ∀ v w', R v w' → ∃ a', a.put o.dst v = a' ∧ K a' w') : if Region.wanted o (yielded ops a.tmps) = true then Oper.wp P o a w K Q else K (a.put o.dst undef) w := by
  rw [if_pos hw]
  have hnm' : ¬ fn.name = "runtime.NumGoroutine" := by simpa using hnm
  have hbd' : ¬ fn.body = none := by intro e; rw [e] at hbd; cases hbd
  unfold Oper.wp
  simp only [execOp, ho, resolve, invoke, Oper.upon, go_sem]
  simp [callFunc, hfn, hnm', hbd', go_sem]
  simp [Act.eval, go_sem] at hc
  refine Calls.mono hc ?_
  rintro e w1 ⟨v, rfl, hR⟩
  obtain ⟨_, rfl, hk⟩ := h v w1 hR
  exact hk
end
theorem wrapD {n : Int} (h0 : -9223372036854775808 ≤ n) (h1 : n ≤ 9223372036854775807) : IntKind.i64.wrap n = n := by
  simp [IntKind.wrap, IntKind.bits, IntKind.signed]
  omega
theorem full_wideF {s : Sk} (h : s.full) : s.wide := ⟨by have := h.hist; omega, by have := h.regs; omega, by have := h.rows; omega, fun z hz => by have := h.row z hz; omega⟩
theorem zero_wideD : It.zero.sk.wide := ⟨by simp [It.zero, Sk.zero], by simp [It.zero, Sk.zero], by simp [It.zero, Sk.zero], by simp [It.zero, Sk.zero]⟩
theorem infoFrD7 : (Tryz.prog.info? 35).map (·.size) = some 16 := by kernel_rfl
theorem rdIt_zeroD (w : World) : RdIt w (.agg #[.int .i64 0, .int .i64 0, .int .i64 0, .int .i64 0, .int .i64 0, .int .i64 0, .int .i64 0, .int .i64 0, .slice none 0 0, .slice none 0 0, .slice none 0 0]) It.zero [] := by
  refine ⟨none, 0, 0, none, 0, 0, none, 0, 0, rfl, ?_⟩
  exact ⟨none, 0, 0, none, 0, 0, none, 0, 0, [], [], [], rfl, ⟨rfl, .inl ⟨rfl, rfl⟩⟩, ⟨rfl, .inl ⟨rfl, rfl⟩⟩, ⟨rfl, .inl ⟨rfl, rfl⟩⟩, rfl⟩
/-- A frame that is being drawn: the result's place, the cursor, the frame and its set. -/
structure LocF (w : World) (q : Nat) (a : Option Addr) (len cap : Nat) (zs : List Int) (i h : Int) (L : Nat) (fc : Array Value) (b : Option Addr) (l c : Nat) (ps : Sp) (F : List Nat) (W : World) : Prop where
  held : HeldR w q a len cap zs i h #[.int .i64 0, .int .i64 0, .int .i64 0, .int .i64 0, .slice none 0 0, .int .i64 0, .int .i64 0, .int .i64 0, .int .i64 0, .int .i64 0, .int .i64 0, .int .i64 0, .int .i64 0, .slice none 0 0, .slice none 0 0, .slice none 0 0] 35 W
  loc : Blk W L fc 35
  rd : RdP W b l ps F
  own : Own (w.heap.size + 1) W F
  apart : L ∉ F
  gt : w.heap.size < L
  cpd : Capd b l c
section
variable {w W W' : World} {q : Nat} {a : Option Addr} {len cap : Nat} {zs : List Int} {i h i' h' : Int} {L : Nat} {fc : Array Value} {b : Option Addr} {l c : Nat} {ps : Sp} {F : List Nat}
theorem LocF.next (H : LocF w q a len cap zs i h L fc b l c ps F W) (hq : q < w.heap.size) (C : Cur W' q a len cap zs i' h') (g : W.grownBy W' (some q)) : LocF w q a len cap zs i' h' L fc b l c ps F W' := by
  have ag : Agree W W' F := fun x hx => g.block x (H.rd.lt x hx) (fun e => by have := H.own.ge x hx; simp at e; omega)
  have gt := H.gt
  exact ⟨H.held.next hq C g, H.loc.grown g (by omega), H.rd.agree ag, H.own.agree ag, H.apart, H.gt, H.cpd⟩
theorem LocF.below (H : LocF w q a len cap zs i h L fc b l c ps F W) (k : Below W.heap.size W W') : LocF w q a len cap zs i h L fc b l c ps F W' := ⟨H.held.below k, H.loc.below k, H.rd.below k, H.own.below H.rd.lt k, H.apart, H.gt, H.cpd⟩
theorem LocF.drew (H : LocF w q a len cap zs i h L fc b l c ps F W) : LocF w q a len cap zs i h L fc b l c ps F W.drew := H.below (Below.refl _ _).drew
end
def DrewFrame (w : World) (q : Nat) (a : Option Addr) (len cap : Nat) (zs : List Int) (e : Ending) (w' : World) : Prop :=
  ∃ v f F G i' h', e = .returned v ∧ RdFr w' v f F G ∧ f.item.sk.wide ∧ f.taken.length ≤ 20 ∧ Own w.heap.size w' F ∧ Own w.heap.size w' G ∧ (∀ b ∈ F, b ∉ G) ∧ Cur w' q a len cap zs i' h' ∧ w.grownBy w' (some q)
theorem inb_at {ps : Sp} (h : ∀ p ∈ ps, InB p) {len : Nat} (hl : ps.length = len) : ∀ k, k < len → InB (ps.at k) := fun k hk => h _ (Sp.at_mem (by omega))
set_option maxRecDepth 200000 in
set_option maxHeartbeats 8000000 in
theorem l7Right_any (q : Nat) (a : Option Addr) (len cap : Nat) (zs : List Int) (i h : Int) (w : World) (C : Cur w q a len cap zs i h) (hlen : len ≤ 1048576) :
    Calls Tryz.prog 62 #[.pointer (some ⟨q, 0, none⟩)] w fun e w' => DrewFrame w q a len cap zs e w' := by
  have hq : q < w.heap.size := World.block_lt_of_cell? _ _ C.c0
  have HA : Hid (∀ b, (∃ off, a = some ⟨b, off, none⟩ ∧ 0 < len) → b < w.heap.size) := cur_lt C
  have H0 : Hid (HeldR w q a len cap zs i h #[.int .i64 0, .int .i64 0, .int .i64 0, .int .i64 0, .slice none 0 0, .int .i64 0, .int .i64 0, .int .i64 0, .int .i64 0, .int .i64 0, .int .i64 0, .int .i64 0, .int .i64 0, .slice none 0 0, .slice none 0 0, .slice none 0 0] 35 (w.alloc (.cells #[.int .i64 0, .int .i64 0, .int .i64 0, .int .i64 0, .slice none 0 0, .int .i64 0, .int .i64 0, .int .i64 0, .int .i64 0, .int .i64 0, .int .i64 0, .int .i64 0, .int .i64 0, .slice none 0 0, .slice none 0 0, .slice none 0 0] 35))) := HeldR.made C _ _
  clear C
  go_enter Tryz.func62, Tryz.ntmps62
  go_wp2_with fail
  refine (l1Below_any q a len cap zs i h 4 _ H0.out.cur hlen (by omega) (by omega)).mono ?_
  rintro e w1 ⟨x1, i1, h1, rfl, p1, r1, C1, g1⟩
  have H1 : Hid (HeldR w q a len cap zs i1 h1 #[.int .i64 0, .int .i64 0, .int .i64 0, .int .i64 0, .slice none 0 0, .int .i64 0, .int .i64 0, .int .i64 0, .int .i64 0, .int .i64 0, .int .i64 0, .int .i64 0, .int .i64 0, .slice none 0 0, .slice none 0 0, .slice none 0 0] 35 w1) := H0.out.next hq C1 g1
  clear C1 g1 H0
  go_wp2_with fail
  refine (l1Below_any q a len cap zs i1 h1 3 _ H1.out.cur hlen (by omega) (by omega)).mono ?_
  rintro e w2 ⟨x2, i2, h2, rfl, p2, r2, C2, g2⟩
  have H2 : Hid (HeldR w q a len cap zs i2 h2 #[.int .i64 0, .int .i64 0, .int .i64 0, .int .i64 0, .slice none 0 0, .int .i64 0, .int .i64 0, .int .i64 0, .int .i64 0, .int .i64 0, .int .i64 0, .int .i64 0, .int .i64 0, .slice none 0 0, .slice none 0 0, .slice none 0 0] 35 w2) := H1.out.next hq C2 g2
  clear C2 g2 H1
  go_wp2_with fail
  refine (l1Below_any q a len cap zs i2 h2 3 _ H2.out.cur hlen (by omega) (by omega)).mono ?_
  rintro e w3 ⟨x3, i3, h3, rfl, p3, r3, C3, g3⟩
  have H3 : Hid (HeldR w q a len cap zs i3 h3 #[.int .i64 0, .int .i64 0, .int .i64 0, .int .i64 0, .slice none 0 0, .int .i64 0, .int .i64 0, .int .i64 0, .int .i64 0, .int .i64 0, .int .i64 0, .int .i64 0, .int .i64 0, .slice none 0 0, .slice none 0 0, .slice none 0 0] 35 w3) := H2.out.next hq C3 g3
  clear C3 g3 H2
  go_wp2_with fail
  refine (l1Below_any q a len cap zs i3 h3 9 _ H3.out.cur hlen (by omega) (by omega)).mono ?_
  rintro e w4 ⟨x4, i4, h4, rfl, p4, r4, C4, g4⟩
  have H4 : Hid (HeldR w q a len cap zs i4 h4 #[.int .i64 0, .int .i64 0, .int .i64 0, .int .i64 0, .slice none 0 0, .int .i64 0, .int .i64 0, .int .i64 0, .int .i64 0, .int .i64 0, .int .i64 0, .int .i64 0, .int .i64 0, .slice none 0 0, .slice none 0 0, .slice none 0 0] 35 w4) := H3.out.next hq C4 g4
  clear C4 g4 H3
  go_wp2_with (first | go_skip | (with_reducible refine stopStore 35 rfl ?_))
  refine store_fresh 35 w4.heap.size rfl #[.int .i64 0, .int .i64 0, .int .i64 0, .int .i64 0, .slice none 0 0, .int .i64 0, .int .i64 0, .int .i64 0, .int .i64 0, .int .i64 0, .int .i64 0, .int .i64 0, .int .i64 0, .slice none 0 0, .slice none 0 0, .slice none 0 0] #[.int .i64 x1, .int .i64 x2, .int .i64 x3, .int .i64 x4, .slice none 0 0, .int .i64 0, .int .i64 0, .int .i64 0, .int .i64 0, .int .i64 0, .int .i64 0, .int .i64 0, .int .i64 0, .slice none 0 0, .slice none 0 0, .slice none 0 0] 35 rfl rfl rfl rfl infoFrD7 rfl (by simp [Value.oneCell']) ?_
  intro w5 hg5 hb5
  have H5 : Hid (LocF w q a len cap zs i4 h4 w4.heap.size #[.int .i64 x1, .int .i64 x2, .int .i64 x3, .int .i64 x4, .slice none 0 0, .int .i64 0, .int .i64 0, .int .i64 0, .int .i64 0, .int .i64 0, .int .i64 0, .int .i64 0, .int .i64 0, .slice none 0 0, .slice none 0 0, .slice none 0 0] none 0 0 [] [] w5) := ⟨H4.out.below hb5, hg5, RdP.nil, Own.nil, by simp, H4.out.res.lt, fun _ => rfl, Nat.le_refl _⟩
  clear hg5 hb5 H4
  go_wp2_with fail
  refine (l1Below_any q a len cap zs i4 h4 3 _ H5.out.held.cur hlen (by omega) (by omega)).mono ?_
  rintro e w6 ⟨m, i6, h6, rfl, m0, m1, C6, g6⟩
  have H6 : Hid (LocF w q a len cap zs i6 h6 w4.heap.size #[.int .i64 x1, .int .i64 x2, .int .i64 x3, .int .i64 x4, .slice none 0 0, .int .i64 0, .int .i64 0, .int .i64 0, .int .i64 0, .int .i64 0, .int .i64 0, .int .i64 0, .int .i64 0, .slice none 0 0, .slice none 0 0, .slice none 0 0] none 0 0 [] [] w6) := H5.out.next hq C6 g6
  obtain ⟨L, hL⟩ : ∃ L, L = w4.heap.size := ⟨_, rfl⟩
  rw [← hL] at H6 ⊢
  clear C6 g6 H5 hL
  go_wp2
  go_loopw [5] (fun i wr => ∃ (k : Nat) (ps : Sp) (b : Option Addr) (c : Nat) (F : List Nat) (i' h' : Int), (k : Int) ≤ m ∧ i = .int .i64 k ∧ ps.length ≤ k ∧ Hid (LocF w q a len cap zs i' h' L #[.int .i64 x1, .int .i64 x2, .int .i64 x3, .int .i64 x4, .slice b ps.length c, .int .i64 0, .int .i64 0, .int .i64 0, .int .i64 0, .int .i64 0, .int .i64 0, .int .i64 0, .int .i64 0, .slice none 0 0, .slice none 0 0, .slice none 0 0] b ps.length c ps F wr) ∧ Hid (∀ p ∈ ps, InB p)) (fun i _ => (m - intOf i).toNat)
  case atStart => exact ⟨0, [], none, 0, [], i6, h6, by omega, rfl, by simp, H6, by intro p hp; simp at hp⟩
  case round =>
    clear H6
    obtain ⟨k, ps, b, c, F, i7, h7, hk, rfl, hpl, HD, HIN⟩ := hrel
    by_cases hlt : (k : Int) < m
    · have hcd : decide ((k : Int) < m) = true := decT hlt
      obtain ⟨lp, hlp⟩ : ∃ n, n = ps.length := ⟨_, rfl⟩
      rw [← hlp] at HD hpl
      have HLP : Hid (ps.length = lp) := hlp.symm
      clear hlp
      go_wp2_with fail
      refine (l1Below_any q a len cap zs i7 h7 12 _ HD.out.held.cur hlen (by omega) (by omega)).mono ?_
      rintro e w7 ⟨y, i8, h8, rfl, y0, y1, C8, g8⟩
      have HD7 : Hid (LocF w q a len cap zs i8 h8 L #[.int .i64 x1, .int .i64 x2, .int .i64 x3, .int .i64 x4, .slice b lp c, .int .i64 0, .int .i64 0, .int .i64 0, .int .i64 0, .int .i64 0, .int .i64 0, .int .i64 0, .int .i64 0, .slice none 0 0, .slice none 0 0, .slice none 0 0] b lp c ps F w7) := HD.out.next hq C8 g8
      clear C8 g8 HD
      obtain ⟨lo, hlo⟩ : ∃ n, n = 1 + y := ⟨_, rfl⟩
      have l0 : 1 ≤ lo := by omega
      have l1 : lo ≤ 12 := by omega
      go_wp2
      rw [← hlo]
      clear hlo y0 y1
      have HDd : Hid (LocF w q a len cap zs i8 h8 L #[.int .i64 x1, .int .i64 x2, .int .i64 x3, .int .i64 x4, .slice b lp c, .int .i64 0, .int .i64 0, .int .i64 0, .int .i64 0, .int .i64 0, .int .i64 0, .int .i64 0, .int .i64 0, .slice none 0 0, .slice none 0 0, .slice none 0 0] b lp c ps F w7.drew) := HD7.out.drew
      clear HD7
      refine wp_region_held (S := fun _ => True) (by kernel_rfl) ?_
      change wpAnyH _ _ _ _ _ _ _ _ (World.drew _)
      refine takeH (o := ?o1) 0 (.pointer (some ⟨L, 4, none⟩)) ?h1 ?r1
      case h1 => simp only [aT, aZ]; rfl
      refine ⟨_, by simp [Act.put]; rfl, by kernel_rfl, by kernel_rfl, by kernel_rfl, fun _ _ _ h => h, (.inl ⟨rfl, fun W _ => by go_simp⟩), trivial, ?_⟩
      refine takeH (o := ?o2) 2 (.int .i64 lo) ?h2 ?r2
      case h2 => simp only [aT, aS, aZ]; rfl
      refine ⟨_, by simp [Act.put]; rfl, by kernel_rfl, by kernel_rfl, by kernel_rfl, fun _ _ _ h => h, (.inl ⟨rfl, fun W _ => by go_simp⟩), trivial, ?_⟩
      refine takeH (o := ?o3) 3 (.int .i64 lo) ?h3 ?r3
      case h3 => simp only [aT, aS, aZ]; rfl
      refine ⟨_, by simp [Act.put]; rfl, by kernel_rfl, by kernel_rfl, by kernel_rfl, fun _ _ _ h => h, (.inl ⟨rfl, fun W _ => by go_simp⟩), trivial, ?_⟩
      refine takeH (o := ?o4) 4 (.pointer (some ⟨q, 0, none⟩)) ?h4 ?r4
      case h4 => simp only [aT, aS, aZ]; rfl
      refine ⟨_, by simp [Act.put]; rfl, by kernel_rfl, by kernel_rfl, by kernel_rfl, fun _ _ _ h => h, (.inl ⟨rfl, fun W _ => by go_simp⟩), trivial, ?_⟩
      refine twoH (o := ?o5) (o' := ?p5) 1 5 (by kernel_rfl) ?h5 ?g5 ?r5 ?s5
      case h5 => simp only [aT, aS, aZ]; rfl
      case g5 => simp only [aT, aS, aZ]; rfl
      case r5 =>
        intro K hK
        have c4 := HDd.out.loc.cell 4
        simp only [aT, aS, aZ] at c4
        refine op_value (.slice b lp c) rfl (by go_simp) ⟨_, by simp [Act.put]; rfl, hK _ _ ⟨trivial, ?_⟩⟩
        clear hK c4
        refine onlyH (o := ?o6) 5 (by kernel_rfl) ?h6 ?r6
        case h6 => simp only [aT, aS, aZ]; rfl
        intro K hK
        refine op_call2v 28 _ _ _ Tryz.f28 (fun v w' => ∃ x i' h', v = .int .i64 x ∧ 0 ≤ x ∧ x < 3 ∧ Cur w' q a len cap zs i' h' ∧ w7.drew.grownBy w' (some q)) rfl rfl Tryz.func28 (by kernel_rfl) (by kernel_rfl) ((l1Below_any q a len cap zs i8 h8 3 w7.drew HDd.out.held.cur hlen (by omega) (by omega)).mono (by rintro e w' ⟨x, i', h', rfl, r⟩; exact ⟨_, rfl, x, i', h', rfl, r⟩)) ?_
        rintro v w8 ⟨z, i9, h9, rfl, z0, z1, C9, g9⟩
        have HD8 : Hid (LocF w q a len cap zs i9 h9 L #[.int .i64 x1, .int .i64 x2, .int .i64 x3, .int .i64 x4, .slice b lp c, .int .i64 0, .int .i64 0, .int .i64 0, .int .i64 0, .int .i64 0, .int .i64 0, .int .i64 0, .int .i64 0, .slice none 0 0, .slice none 0 0, .slice none 0 0] b lp c ps F w8) := HDd.out.next hq C9 g9
        clear C9 g9 HDd
        refine ⟨_, by simp [Act.put]; rfl, hK _ _ ⟨trivial, ?_⟩⟩
        clear hK
        have hwz : IntKind.i64.wrap (lo + z) = lo + z := wrapD (by omega) (by omega)
        refine takeH (o := ?o7) 6 (.int .i64 (lo + z)) ?h7 ?r7
        case h7 => simp only [aT, aS, aZ]; rfl
        refine ⟨_, by simp [Act.put]; rfl, by kernel_rfl, by kernel_rfl, by kernel_rfl, fun _ _ _ h => h, (.inl ⟨rfl, fun W _ => by first | (go_simp; done) | (go_simp; exact hwz)⟩), trivial, ?_⟩
        refine takeH (o := ?o8) 7 (.agg #[.int .i64 lo, .int .i64 (lo + z)]) ?h8 ?r8
        case h8 => simp only [aT, aS, aZ]; rfl
        refine ⟨_, by simp [Act.put]; rfl, by kernel_rfl, by kernel_rfl, by kernel_rfl, fun _ _ _ h => h, (.inl ⟨rfl, fun W _ => by go_simp⟩), trivial, ?_⟩
        refine onlyH (o := ?o9) 8 (by kernel_rfl) ?h9 ?r9
        case h9 => simp only [aT, aS, aZ]; rfl
        intro K hK
        refine op_call2v 55 _ _ _ Tryz.f55 (fun v w' => ∃ b' l' c' F', v = .slice b' l' c' ∧ RdP w' b' l' (put ps (lo, lo + z) false) F' ∧ Own w8.heap.size w' F' ∧ Below w8.heap.size w8 w' ∧ Capd b' l' c') rfl rfl Tryz.func55 (by kernel_rfl) (by kernel_rfl) ((l5Put_any b lp c ps (lo, lo + z) F w8 HD8.out.rd (by omega) (inb_at HIN.out HLP.out) ⟨⟨by show 0 ≤ lo; omega, by show lo ≤ 9999; omega⟩, by show 0 ≤ lo + z; omega, by show lo + z ≤ 9999; omega⟩).mono (by rintro e w' ⟨b', l', c', F', rfl, r1, r2, r3, r4⟩; exact ⟨_, rfl, b', l', c', F', rfl, r1, r2, r3, r4⟩)) ?_
        rintro v w9 ⟨b', l', c', F', rfl, r1, r2, r3, r4⟩
        have HD9 : Hid (LocF w q a len cap zs i9 h9 L #[.int .i64 x1, .int .i64 x2, .int .i64 x3, .int .i64 x4, .slice b lp c, .int .i64 0, .int .i64 0, .int .i64 0, .int .i64 0, .int .i64 0, .int .i64 0, .int .i64 0, .int .i64 0, .slice none 0 0, .slice none 0 0, .slice none 0 0] b lp c ps F w9) := HD8.out.below r3
        have HP9 : Hid (RdP w9 b' l' (put ps (lo, lo + z) false) F' ∧ Own w8.heap.size w9 F' ∧ Capd b' l' c') := ⟨r1, r2, r4⟩
        have lL : L < w8.heap.size := HD8.out.loc.lt
        clear r1 r2 r3 r4 HD8
        refine ⟨_, by simp [Act.put]; rfl, hK _ _ ⟨trivial, ?_⟩⟩
        clear hK
        refine takeH (o := ?o10) 9 (.pointer (some ⟨L, 4, none⟩)) ?h10 ?r10
        case h10 => simp only [aT, aS, aZ]; rfl
        refine ⟨_, by simp [Act.put]; rfl, by kernel_rfl, by kernel_rfl, by kernel_rfl, fun _ _ _ h => h, (.inl ⟨rfl, fun W _ => by go_simp⟩), trivial, ?_⟩
        refine onlyH (o := ?o11) 10 (by kernel_rfl) ?h11 ?r11
        case h11 => simp only [aT, aS, aZ]; rfl
        intro K hK
        have c4 := HD9.out.loc.cell 4
        have f4 := HD9.out.loc.frozen 4
        simp only [aT, aS, aZ] at c4
        have nL : L ∉ F' := fun hx => by have := HP9.out.2.1.ge _ hx; omega
        have gL := HD9.out.gt
        have HDA : Hid (LocF w q a len cap zs i9 h9 L #[.int .i64 x1, .int .i64 x2, .int .i64 x3, .int .i64 x4, .slice b' l' c', .int .i64 0, .int .i64 0, .int .i64 0, .int .i64 0, .int .i64 0, .int .i64 0, .int .i64 0, .int .i64 0, .slice none 0 0, .slice none 0 0, .slice none 0 0] b' l' c' (put ps (lo, lo + z) false) F' (w9.setCell ⟨L, 4, none⟩ (.slice b' l' c'))) := by
          have hr := HD9.out.held
          refine ⟨⟨hr.res.setOther (by omega) _ _, cur_cell hr.cur (by omega) (fun x hx => by have := HA.out x hx; omega), grown_cell hr.grown (by omega)⟩, HD9.out.loc.set 4 _, HP9.out.1.agree (.set nL 4 _), (HP9.out.2.1.agree (.set nL 4 _)).mono (by omega), nL, gL, HP9.out.2.2⟩
        refine op_skip (w9.setCell ⟨L, 4, none⟩ (.slice b' l' c')) rfl (by go_simp) ⟨_, by simp [Act.put]; rfl, hK _ _ ⟨trivial, ?_⟩⟩
        clear hK c4 f4 HD9 nL
        refine wpAnyH_done (by kernel_rfl) ?_ _
        have HI2 : Hid ((∀ p ∈ put ps (lo, lo + z) false, InB p) ∧ (put ps (lo, lo + z) false).length ≤ lp + 1 ∧ l' = (put ps (lo, lo + z) false).length) := ⟨put_inb HIN.out ⟨⟨by show 0 ≤ lo; omega, by show lo ≤ 9999; omega⟩, by show 0 ≤ lo + z; omega, by show lo + z ≤ 9999; omega⟩, by have := put_length ps (lo, lo + z) false; have := HLP.out; omega, HP9.out.1.length.symm⟩
        obtain ⟨WA, hWA⟩ : ∃ W, W = w9.setCell ⟨L, 4, none⟩ (.slice b' l' c') := ⟨_, rfl⟩
        rw [← hWA] at HDA ⊢
        clear hWA HP9
        go_wp2
        go_roundw
        case rel =>
          have e := HI2.out.2.2
          subst e
          exact ⟨k + 1, _, b', c', F', i9, h9, by omega, by go_num, by have := HI2.out.2.1; omega, HDA, HI2.out.1⟩
        case measure => simp [intOf]; omega
      case s5 =>
        intro K hK
        refine op_call2v 28 _ _ _ Tryz.f28 (fun v w' => ∃ x i' h', v = .int .i64 x ∧ 0 ≤ x ∧ x < 3 ∧ Cur w' q a len cap zs i' h' ∧ w7.drew.grownBy w' (some q)) rfl rfl Tryz.func28 (by kernel_rfl) (by kernel_rfl) ((l1Below_any q a len cap zs i8 h8 3 w7.drew HDd.out.held.cur hlen (by omega) (by omega)).mono (by rintro e w' ⟨x, i', h', rfl, r⟩; exact ⟨_, rfl, x, i', h', rfl, r⟩)) ?_
        rintro v w8 ⟨z, i9, h9, rfl, z0, z1, C9, g9⟩
        have HD8 : Hid (LocF w q a len cap zs i9 h9 L #[.int .i64 x1, .int .i64 x2, .int .i64 x3, .int .i64 x4, .slice b lp c, .int .i64 0, .int .i64 0, .int .i64 0, .int .i64 0, .int .i64 0, .int .i64 0, .int .i64 0, .int .i64 0, .slice none 0 0, .slice none 0 0, .slice none 0 0] b lp c ps F w8) := HDd.out.next hq C9 g9
        clear C9 g9 HDd
        refine ⟨_, by simp [Act.put]; rfl, hK _ _ ⟨trivial, ?_⟩⟩
        clear hK
        have hwz : IntKind.i64.wrap (lo + z) = lo + z := wrapD (by omega) (by omega)
        refine takeH (o := ?o12) 6 (.int .i64 (lo + z)) ?h12 ?r12
        case h12 => simp only [aT, aS, aZ]; rfl
        refine ⟨_, by simp [Act.put]; rfl, by kernel_rfl, by kernel_rfl, by kernel_rfl, fun _ _ _ h => h, (.inl ⟨rfl, fun W _ => by first | (go_simp; done) | (go_simp; exact hwz)⟩), trivial, ?_⟩
        refine takeH (o := ?o13) 7 (.agg #[.int .i64 lo, .int .i64 (lo + z)]) ?h13 ?r13
        case h13 => simp only [aT, aS, aZ]; rfl
        refine ⟨_, by simp [Act.put]; rfl, by kernel_rfl, by kernel_rfl, by kernel_rfl, fun _ _ _ h => h, (.inl ⟨rfl, fun W _ => by go_simp⟩), trivial, ?_⟩
        refine onlyH (o := ?o14) 1 (by kernel_rfl) ?h14 ?r14
        case h14 => simp only [aT, aS, aZ]; rfl
        intro K hK
        have c4 := HD8.out.loc.cell 4
        simp only [aT, aS, aZ] at c4
        refine op_value (.slice b lp c) rfl (by go_simp) ⟨_, by simp [Act.put]; rfl, hK _ _ ⟨trivial, ?_⟩⟩
        clear hK c4
        refine onlyH (o := ?o15) 8 (by kernel_rfl) ?h15 ?r15
        case h15 => simp only [aT, aS, aZ]; rfl
        intro K hK
        refine op_call2v 55 _ _ _ Tryz.f55 (fun v w' => ∃ b' l' c' F', v = .slice b' l' c' ∧ RdP w' b' l' (put ps (lo, lo + z) false) F' ∧ Own w8.heap.size w' F' ∧ Below w8.heap.size w8 w' ∧ Capd b' l' c') rfl rfl Tryz.func55 (by kernel_rfl) (by kernel_rfl) ((l5Put_any b lp c ps (lo, lo + z) F w8 HD8.out.rd (by omega) (inb_at HIN.out HLP.out) ⟨⟨by show 0 ≤ lo; omega, by show lo ≤ 9999; omega⟩, by show 0 ≤ lo + z; omega, by show lo + z ≤ 9999; omega⟩).mono (by rintro e w' ⟨b', l', c', F', rfl, r1, r2, r3, r4⟩; exact ⟨_, rfl, b', l', c', F', rfl, r1, r2, r3, r4⟩)) ?_
        rintro v w9 ⟨b', l', c', F', rfl, r1, r2, r3, r4⟩
        have HD9 : Hid (LocF w q a len cap zs i9 h9 L #[.int .i64 x1, .int .i64 x2, .int .i64 x3, .int .i64 x4, .slice b lp c, .int .i64 0, .int .i64 0, .int .i64 0, .int .i64 0, .int .i64 0, .int .i64 0, .int .i64 0, .int .i64 0, .slice none 0 0, .slice none 0 0, .slice none 0 0] b lp c ps F w9) := HD8.out.below r3
        have HP9 : Hid (RdP w9 b' l' (put ps (lo, lo + z) false) F' ∧ Own w8.heap.size w9 F' ∧ Capd b' l' c') := ⟨r1, r2, r4⟩
        have lL : L < w8.heap.size := HD8.out.loc.lt
        clear r1 r2 r3 r4 HD8
        refine ⟨_, by simp [Act.put]; rfl, hK _ _ ⟨trivial, ?_⟩⟩
        clear hK
        refine takeH (o := ?o16) 9 (.pointer (some ⟨L, 4, none⟩)) ?h16 ?r16
        case h16 => simp only [aT, aS, aZ]; rfl
        refine ⟨_, by simp [Act.put]; rfl, by kernel_rfl, by kernel_rfl, by kernel_rfl, fun _ _ _ h => h, (.inl ⟨rfl, fun W _ => by go_simp⟩), trivial, ?_⟩
        refine onlyH (o := ?o17) 10 (by kernel_rfl) ?h17 ?r17
        case h17 => simp only [aT, aS, aZ]; rfl
        intro K hK
        have c4 := HD9.out.loc.cell 4
        have f4 := HD9.out.loc.frozen 4
        simp only [aT, aS, aZ] at c4
        have nL : L ∉ F' := fun hx => by have := HP9.out.2.1.ge _ hx; omega
        have gL := HD9.out.gt
        have HDA : Hid (LocF w q a len cap zs i9 h9 L #[.int .i64 x1, .int .i64 x2, .int .i64 x3, .int .i64 x4, .slice b' l' c', .int .i64 0, .int .i64 0, .int .i64 0, .int .i64 0, .int .i64 0, .int .i64 0, .int .i64 0, .int .i64 0, .slice none 0 0, .slice none 0 0, .slice none 0 0] b' l' c' (put ps (lo, lo + z) false) F' (w9.setCell ⟨L, 4, none⟩ (.slice b' l' c'))) := by
          have hr := HD9.out.held
          refine ⟨⟨hr.res.setOther (by omega) _ _, cur_cell hr.cur (by omega) (fun x hx => by have := HA.out x hx; omega), grown_cell hr.grown (by omega)⟩, HD9.out.loc.set 4 _, HP9.out.1.agree (.set nL 4 _), (HP9.out.2.1.agree (.set nL 4 _)).mono (by omega), nL, gL, HP9.out.2.2⟩
        refine op_skip (w9.setCell ⟨L, 4, none⟩ (.slice b' l' c')) rfl (by go_simp) ⟨_, by simp [Act.put]; rfl, hK _ _ ⟨trivial, ?_⟩⟩
        clear hK c4 f4 HD9 nL
        refine wpAnyH_done (by kernel_rfl) ?_ _
        have HI2 : Hid ((∀ p ∈ put ps (lo, lo + z) false, InB p) ∧ (put ps (lo, lo + z) false).length ≤ lp + 1 ∧ l' = (put ps (lo, lo + z) false).length) := ⟨put_inb HIN.out ⟨⟨by show 0 ≤ lo; omega, by show lo ≤ 9999; omega⟩, by show 0 ≤ lo + z; omega, by show lo + z ≤ 9999; omega⟩, by have := put_length ps (lo, lo + z) false; have := HLP.out; omega, HP9.out.1.length.symm⟩
        obtain ⟨WA, hWA⟩ : ∃ W, W = w9.setCell ⟨L, 4, none⟩ (.slice b' l' c') := ⟨_, rfl⟩
        rw [← hWA] at HDA ⊢
        clear hWA HP9
        go_wp2
        go_roundw
        case rel =>
          have e := HI2.out.2.2
          subst e
          exact ⟨k + 1, _, b', c', F', i9, h9, by omega, by go_num, by have := HI2.out.2.1; omega, HDA, HI2.out.1⟩
        case measure => simp [intOf]; omega
    · have hcd : decide ((k : Int) < m) = false := dec_false hlt
      obtain ⟨lp, hlp⟩ : ∃ n, n = ps.length := ⟨_, rfl⟩
      rw [← hlp] at HD hpl
      have HLP : Hid (ps.length = lp ∧ lp ≤ 2) := ⟨hlp.symm, by omega⟩
      have c0 := HD.out.loc.cell 0
      simp only [aT, aZ] at c0
      clear hlp hpl HIN
      by_cases h1 : x1 = 1
      rotate_left
      · have e1 : (x1 == 1) = false := by simpa using h1
        clear h1
        go_wp2_with (first | go_skip | (with_reducible refine stopLoad 35 rfl ?_))
        refine load_known 35 L #[.int .i64 x1, .int .i64 x2, .int .i64 x3, .int .i64 x4, .slice b lp c, .int .i64 0, .int .i64 0, .int .i64 0, .int .i64 0, .int .i64 0, .int .i64 0, .int .i64 0, .int .i64 0, .slice none 0 0, .slice none 0 0, .slice none 0 0] 35 _ HD.out.loc rfl rfl rfl Tryz.underlying35 rfl infoFrD7 ?_
        go_wp2_with (first | go_skip | (with_reducible refine stopStore 35 rfl ?_))
        refine store_known 35 w.heap.size _ #[.int .i64 x1, .int .i64 x2, .int .i64 x3, .int .i64 x4, .slice b lp c, .int .i64 0, .int .i64 0, .int .i64 0, .int .i64 0, .int .i64 0, .int .i64 0, .int .i64 0, .int .i64 0, .slice none 0 0, .slice none 0 0, .slice none 0 0] 35 HD.out.held.res rfl rfl rfl rfl infoFrD7 rfl (by simp [Value.oneCell']) ?_
        go_wp2
        refine bodyPost_ret (results_cell_row Tryz.results62 _ _ w.heap.size _ _ (0, 0) _ rfl HD.out.held.res.setRow Tryz.underlying35 rfl infoFrD7) rfl ?_
        have nF : w.heap.size ∉ F := fun hx => by have := HD.out.own.ge _ hx; omega
        exact ⟨_, ⟨x1, x2, x3, x4, ps, It.zero⟩, F, [], i7, h7, rfl, ⟨b, lp, c, none, 0, 0, none, 0, 0, none, 0, 0, rfl, HD.out.rd.agree (Agree.row nF _), rdIt_zeroD _, HD.out.cpd⟩, zero_wideD, by show ps.length ≤ 20; have := HLP.out; omega, (HD.out.own.agree (Agree.row nF _)).mono (by omega), Own.nil, by simp, cur_row HD.out.held.cur (by omega) (fun b hb => by have := HA.out b hb; omega), grown_row HD.out.held.grown (Nat.le_refl _)⟩
      have e1 : (x1 == 1) = true := by simpa using h1
      clear h1
      go_wp2_with fail
      refine (l6Right_any q a len cap zs i7 h7 _ HD.out.held.cur hlen).mono ?_
      rintro e w9 ⟨v9, x, G, i9, h9, rfl, rx, fx, ox, C9, g9⟩
      obtain ⟨a1, n1, c1, a2, n2, c2, a3, n3, c3, rfl⟩ := rx.cells11
      have HDB : Hid (LocF w q a len cap zs i9 h9 L #[.int .i64 x1, .int .i64 x2, .int .i64 x3, .int .i64 x4, .slice b lp c, .int .i64 0, .int .i64 0, .int .i64 0, .int .i64 0, .int .i64 0, .int .i64 0, .int .i64 0, .int .i64 0, .slice none 0 0, .slice none 0 0, .slice none 0 0] b lp c ps F w9) := HD.out.next hq C9 g9
      have lw : L < wr.heap.size := HD.out.loc.lt
      have hap : ∀ y ∈ F, y ∉ G := fun y hy hg => by have := HD.out.rd.lt y hy; have := ox.ge y hg; omega
      have HXB : Hid (RdIt w9 (.agg #[.int .i64 x.seq, .int .i64 x.cls, .int .i64 x.key, .int .i64 x.window, .int .i64 x.sk.count, .int .i64 x.sk.sum, .int .i64 x.sk.min, .int .i64 x.sk.max, .slice a1 n1 c1, .slice a2 n2 c2, .slice a3 n3 c3]) x G ∧ x.sk.full ∧ Own wr.heap.size w9 G ∧ ∀ y ∈ F, y ∉ G) := ⟨rx, fx, ox, hap⟩
      clear rx fx ox C9 g9 HD hap c0
      go_wp2_with (first | go_skip | (with_reducible refine stopStore 33 rfl ?_))
      refine store_cut 33 L 5 _ #[.int .i64 x.seq, .int .i64 x.cls, .int .i64 x.key, .int .i64 x.window, .int .i64 x.sk.count, .int .i64 x.sk.sum, .int .i64 x.sk.min, .int .i64 x.sk.max, .slice a1 n1 c1, .slice a2 n2 c2, .slice a3 n3 c3] #[.int .i64 x1, .int .i64 x2, .int .i64 x3, .int .i64 x4, .slice b lp c, .int .i64 x.seq, .int .i64 x.cls, .int .i64 x.key, .int .i64 x.window, .int .i64 x.sk.count, .int .i64 x.sk.sum, .int .i64 x.sk.min, .int .i64 x.sk.max, .slice a1 n1 c1, .slice a2 n2 c2, .slice a3 n3 c3] 35 HDB.out.loc rfl rfl rfl rfl infoItA7 (by simp) (one11 ..) (by simp [cutIn]) ?_
      have nF : L ∉ F := HDB.out.apart
      have gL := HDB.out.gt
      have nG : L ∉ G := fun hx => by have := HXB.out.2.2.1.ge _ hx; omega
      have mF : w.heap.size ∉ F := fun hx => by have := HDB.out.own.ge _ hx; omega
      have mG : w.heap.size ∉ G := fun hx => by have := HXB.out.2.2.1.ge _ hx; omega
      obtain ⟨E, hE⟩ : ∃ E : Array Value, E = #[.int .i64 x1, .int .i64 x2, .int .i64 x3, .int .i64 x4, .slice b lp c, .int .i64 x.seq, .int .i64 x.cls, .int .i64 x.key, .int .i64 x.window, .int .i64 x.sk.count, .int .i64 x.sk.sum, .int .i64 x.sk.min, .int .i64 x.sk.max, .slice a1 n1 c1, .slice a2 n2 c2, .slice a3 n3 c3] := ⟨_, rfl⟩
      have HE : Hid (E = #[.int .i64 x1, .int .i64 x2, .int .i64 x3, .int .i64 x4, .slice b lp c, .int .i64 x.seq, .int .i64 x.cls, .int .i64 x.key, .int .i64 x.window, .int .i64 x.sk.count, .int .i64 x.sk.sum, .int .i64 x.sk.min, .int .i64 x.sk.max, .slice a1 n1 c1, .slice a2 n2 c2, .slice a3 n3 c3] ∧ E.size = 16 ∧ E.all (·.oneCell') = true) := ⟨hE, by rw [hE]; rfl, by rw [hE]; simp [Value.oneCell']⟩
      rw [← hE]
      have HB1 : Hid (Blk (w9.setRow L E) L E 35 ∧ Blk (w9.setRow L E) w.heap.size #[.int .i64 0, .int .i64 0, .int .i64 0, .int .i64 0, .slice none 0 0, .int .i64 0, .int .i64 0, .int .i64 0, .int .i64 0, .int .i64 0, .int .i64 0, .int .i64 0, .int .i64 0, .slice none 0 0, .slice none 0 0, .slice none 0 0] 35) := ⟨HDB.out.loc.setRow, HDB.out.held.res.setRowOther (by omega)⟩
      have hes : (Tryz.prog.info? 35).map (·.size) = some E.size := by rw [HE.out.2.1]; exact infoFrD7
      clear hE
      go_wp2_with (first | go_skip | (with_reducible refine stopLoad 35 rfl ?_))
      refine load_known 35 L E 35 _ HB1.out.1 rfl rfl rfl Tryz.underlying35 rfl hes ?_
      go_wp2_with (first | go_skip | (with_reducible refine stopStore 35 rfl ?_))
      refine store_known 35 w.heap.size _ E 35 HB1.out.2 rfl rfl rfl rfl hes (by rw [HE.out.2.1]; rfl) HE.out.2.2 ?_
      have HB2 : Hid (Blk ((w9.setRow L E).setRow w.heap.size E) w.heap.size E 35) := HB1.out.2.setRow
      go_wp2
      refine bodyPost_ret (results_cell_row Tryz.results62 _ _ w.heap.size _ _ (0, 0) _ rfl HB2.out Tryz.underlying35 rfl hes) rfl ?_
      exact ⟨_, ⟨x1, x2, x3, x4, ps, x⟩, F, G, i9, h9, rfl, ⟨b, lp, c, a1, n1, c1, a2, n2, c2, a3, n3, c3, by rw [HE.out.1], (HDB.out.rd.agree (Agree.row nF E)).agree (Agree.row mF E), (HXB.out.1.agree (Agree.row nG E)).agree (Agree.row mG E), HDB.out.cpd⟩, full_wideF HXB.out.2.1, by show ps.length ≤ 20; have := HLP.out; omega, ((HDB.out.own.agree (Agree.row nF E)).agree (Agree.row mF E)).mono (by omega), ((HXB.out.2.2.1.agree (Agree.row nG E)).agree (Agree.row mG E)).mono (by omega), HXB.out.2.2.2, cur_row (cur_row HDB.out.held.cur (by omega) (fun b hb => by have := HA.out b hb; omega)) (by omega) (fun b hb => by have := HA.out b hb; omega), grown_row (grown_row HDB.out.held.grown (by omega)) (Nat.le_refl _)⟩
end Go.Proofs.YtgkbhhlkaifnoaaGreatDoor
/- The walks through the model's drawing of agents. No statement of the seat is proved here. -/
namespace Go.Proofs.YtgkbhhlkaifnoaaGreatDoor
open Go.RowKit
theorem full_fitsG {s : Sk} (h : s.full) : s.fits := ⟨h.hist.2, h.regs.2, h.rows, fun z hz => (h.row z hz).2⟩
/-- A drawn agent is small. -/
structure Ag.small (x : Ag) (m k : Nat) : Prop where
  full : ∀ y ∈ x.sealed, y.sk.full
  inb : ∀ p ∈ x.taken, InB p
  len : x.sealed.length ≤ m
  tlen : x.taken.length ≤ k
theorem made_small (n : Int) : (Ag.made n).small 0 0 := by
  have q : ∀ k, (Ag.fresh k).small 0 0 := fun k => ⟨(fun y hy => nomatch (show y ∈ ([] : List It) from hy)), (fun y hy => nomatch (show y ∈ ([] : Sp) from hy)), Nat.le_refl _, Nat.le_refl _⟩
  unfold Ag.made
  by_cases h : (Ag.fresh n).ok = true
  · rw [if_pos h]; exact q n
  · rw [if_neg h]; exact q 0
theorem Ag.small.seal {x : Ag} {m k : Nat} (h : x.small m k) (c e n : Int) {s : Sk} (hs : s.full) : (x.seal c e n s).1.small (m + 1) k := by
  unfold Ag.seal
  by_cases hc : x.ok = true ∧ (x.item c e n s).ok = true
  · rw [if_pos hc]
    exact ⟨fun y hy => (List.mem_append.1 (show y ∈ x.sealed ++ [x.item c e n s] from hy)).elim (h.full y) (fun hy => by rw [List.mem_singleton.1 hy]; exact hs), h.inb, by have := h.len; show (x.sealed ++ [x.item c e n s]).length ≤ _; simp; omega, h.tlen⟩
  · rw [if_neg hc]
    exact ⟨h.full, h.inb, by have := h.len; show x.sealed.length ≤ _; omega, h.tlen⟩
theorem RdAg.opened {w : World} {v : Value} {id ep gr nx : Int} {lv : Bool} {xs : List It} {ts : Sp} {F G : List Nat} (h : RdAg w v ⟨id, ep, lv, gr, xs, ts, nx⟩ F G) :
    ∃ b1 n1 c1 b2 n2 c2, v = .agg #[.int .i64 id, .int .i64 ep, .bool lv, .int .i64 gr, .slice b1 n1 c1, .slice b2 n2 c2, .int .i64 nx] ∧ RdL itK w b1 n1 xs F ∧ RdP w b2 n2 ts G ∧ Capd b1 n1 c1 ∧ Capd b2 n2 c2 := h
/-- An agent that is being drawn: the result's place, the cursor, the agent's cells in block L and what they hold. -/
structure LocG (w : World) (q : Nat) (a : Option Addr) (len cap : Nat) (zs : List Int) (i h : Int) (L : Nat) (id ep : Int) (lv : Bool) (gr nx : Int) (xs : List It) (ts : Sp) (b1 : Option Addr) (n1 c1 : Nat) (b2 : Option Addr) (n2 c2 : Nat) (F G : List Nat) (W : World) : Prop where
  held : HeldR w q a len cap zs i h #[.int .i64 0, .int .i64 0, .bool false, .int .i64 0, .slice none 0 0, .slice none 0 0, .int .i64 0] 27 W
  loc : Blk W L #[.int .i64 id, .int .i64 ep, .bool lv, .int .i64 gr, .slice b1 n1 c1, .slice b2 n2 c2, .int .i64 nx] 27
  rl : RdL itK W b1 n1 xs F
  rp : RdP W b2 n2 ts G
  k1 : Capd b1 n1 c1
  k2 : Capd b2 n2 c2
  o1 : Own (w.heap.size + 1) W F
  o2 : Own (w.heap.size + 1) W G
  dj : ∀ b ∈ F, b ∉ G
  a1 : L ∉ F
  a2 : L ∉ G
  gt : w.heap.size < L
  gr : GrA (w.heap.size + 1) L (.slice b1 n1 c1) n1 xs G W
def DrewAg (w : World) (q : Nat) (a : Option Addr) (len cap : Nat) (zs : List Int) (m k : Nat) (e : Ending) (w' : World) : Prop :=
  ∃ v x F G i' h', e = .returned v ∧ RdAg w' v x F G ∧ x.small m k ∧ Own w.heap.size w' F ∧ Own w.heap.size w' G ∧ (∀ b ∈ F, b ∉ G) ∧ Cur w' q a len cap zs i' h' ∧ w.grownBy w' (some q) ∧ ∃ cs z, v = .agg cs ∧ cs[4]? = some z ∧ GrA w.heap.size w'.heap.size z x.sealed.length x.sealed G w'
section
variable {w W W' : World} {q : Nat} {a : Option Addr} {len cap : Nat} {zs : List Int} {i h i' h' : Int} {L : Nat} {id ep : Int} {lv : Bool} {gr nx : Int} {xs : List It} {ts : Sp} {b1 : Option Addr} {n1 c1 : Nat} {b2 : Option Addr} {n2 c2 : Nat} {F G : List Nat}
theorem LocG.rd (H : LocG w q a len cap zs i h L id ep lv gr nx xs ts b1 n1 c1 b2 n2 c2 F G W) : RdAg W (.agg #[.int .i64 id, .int .i64 ep, .bool lv, .int .i64 gr, .slice b1 n1 c1, .slice b2 n2 c2, .int .i64 nx]) ⟨id, ep, lv, gr, xs, ts, nx⟩ F G := ⟨b1, n1, c1, b2, n2, c2, rfl, H.rl, H.rp, H.k1, H.k2⟩
theorem LocG.next (H : LocG w q a len cap zs i h L id ep lv gr nx xs ts b1 n1 c1 b2 n2 c2 F G W) (hq : q < w.heap.size) (C : Cur W' q a len cap zs i' h') (g : W.grownBy W' (some q)) : LocG w q a len cap zs i' h' L id ep lv gr nx xs ts b1 n1 c1 b2 n2 c2 F G W' := by
  have agF : Agree W W' F := fun x hx => g.block x (H.rl.lt x hx) (fun e => by have := H.o1.ge x hx; simp at e; omega)
  have agG : Agree W W' G := fun x hx => g.block x (H.rp.lt x hx) (fun e => by have := H.o2.ge x hx; simp at e; omega)
  have gt := H.gt
  exact ⟨H.held.next hq C g, H.loc.grown g (by omega), H.rl.agree agF, H.rp.agree agG, H.k1, H.k2, H.o1.agree agF, H.o2.agree agG, H.dj, H.a1, H.a2, H.gt, H.gr.next g (by omega)⟩
theorem LocG.below (H : LocG w q a len cap zs i h L id ep lv gr nx xs ts b1 n1 c1 b2 n2 c2 F G W) (k : Below W.heap.size W W') : LocG w q a len cap zs i h L id ep lv gr nx xs ts b1 n1 c1 b2 n2 c2 F G W' :=
  ⟨H.held.below k, H.loc.below k, H.rl.agree (.below k H.rl.lt), H.rp.below k, H.k1, H.k2, H.o1.below H.rl.lt k, H.o2.below H.rp.lt k, H.dj, H.a1, H.a2, H.gt, H.gr.below k⟩
theorem LocG.drew (H : LocG w q a len cap zs i h L id ep lv gr nx xs ts b1 n1 c1 b2 n2 c2 F G W) : LocG w q a len cap zs i h L id ep lv gr nx xs ts b1 n1 c1 b2 n2 c2 F G W.drew := H.below (Below.refl _ _).drew
theorem LocG.set (H : LocG w q a len cap zs i h L id ep lv gr nx xs ts b1 n1 c1 b2 n2 c2 F G W) (hq : q < w.heap.size) (ha : ∀ b, (∃ off, a = some ⟨b, off, none⟩ ∧ 0 < len) → b < w.heap.size) (j : Nat) (v : Value) {id' ep' : Int} {lv' : Bool} {gr' nx' : Int} (hc : (#[.int .i64 id, .int .i64 ep, .bool lv, .int .i64 gr, .slice b1 n1 c1, .slice b2 n2 c2, .int .i64 nx] : Array Value).setIfInBounds j v = #[.int .i64 id', .int .i64 ep', .bool lv', .int .i64 gr', .slice b1 n1 c1, .slice b2 n2 c2, .int .i64 nx']) : LocG w q a len cap zs i h L id' ep' lv' gr' nx' xs ts b1 n1 c1 b2 n2 c2 F G (W.setCell ⟨L, j, none⟩ v) := by
  have hgt := H.gt
  have hl := H.loc.set j v
  rw [hc] at hl
  have agF : Agree W (W.setCell ⟨L, j, none⟩ v) F := .set H.a1 j v
  have agG : Agree W (W.setCell ⟨L, j, none⟩ v) G := .set H.a2 j v
  exact ⟨⟨H.held.res.setOther (by omega) j v, cur_cell H.held.cur (by omega) (fun b hb => by have := ha b hb; omega), grown_cell H.held.grown (by omega)⟩, hl, H.rl.agree agF, H.rp.agree agG, H.k1, H.k2, H.o1.agree agF, H.o2.agree agG, H.dj, H.a1, H.a2, H.gt, H.gr.cell (.inr rfl)⟩
theorem LocG.put (H : LocG w q a len cap zs i h L id ep lv gr nx xs ts b1 n1 c1 b2 n2 c2 F G W) (hq : q < w.heap.size) (ha : ∀ b, (∃ off, a = some ⟨b, off, none⟩ ∧ 0 < len) → b < w.heap.size) {b : Option Addr} {n c : Nat} {us : Sp} {G' : List Nat} (r : RdP W b n us G') (hk : Capd b n c) (ho : Own (w.heap.size + 1) W G') (hd : ∀ b ∈ F, b ∉ G') (hL : L ∉ G') (hr : GrA (w.heap.size + 1) L (.slice b1 n1 c1) n1 xs G' W) : LocG w q a len cap zs i h L id ep lv gr nx xs us b1 n1 c1 b n c F G' (W.setCell ⟨L, 5, none⟩ (.slice b n c)) := by
  have hgt := H.gt
  have agF : Agree W (W.setCell ⟨L, 5, none⟩ (.slice b n c)) F := .set H.a1 5 _
  have agG : Agree W (W.setCell ⟨L, 5, none⟩ (.slice b n c)) G' := .set hL 5 _
  exact ⟨⟨H.held.res.setOther (by omega) _ _, cur_cell H.held.cur (by omega) (fun b hb => by have := ha b hb; omega), grown_cell H.held.grown (by omega)⟩, H.loc.set 5 _, H.rl.agree agF, r.agree agG, H.k1, hk, H.o1.agree agF, ho.agree agG, hd, H.a1, hL, H.gt, hr.cell (.inr rfl)⟩
theorem LocG.whole (H : LocG w q a len cap zs i h L id ep lv gr nx xs ts b1 n1 c1 b2 n2 c2 F G W) (hq : q < w.heap.size) (ha : ∀ b, (∃ off, a = some ⟨b, off, none⟩ ∧ 0 < len) → b < w.heap.size) {id' ep' : Int} {lv' : Bool} {gr' nx' : Int} {ys : List It} {us : Sp} {d1 : Option Addr} {m1 e1 : Nat} {d2 : Option Addr} {m2 e2 : Nat} {F' G' : List Nat}
    (r1 : RdL itK W d1 m1 ys F') (r2 : RdP W d2 m2 us G') (k1 : Capd d1 m1 e1) (k2 : Capd d2 m2 e2) (o1 : Own (w.heap.size + 1) W F') (o2 : Own (w.heap.size + 1) W G') (dj : ∀ b ∈ F', b ∉ G') (a1 : L ∉ F') (a2 : L ∉ G') (hr : GrA (w.heap.size + 1) L (.slice d1 m1 e1) m1 ys G' W) : LocG w q a len cap zs i h L id' ep' lv' gr' nx' ys us d1 m1 e1 d2 m2 e2 F' G' (W.setRow L #[.int .i64 id', .int .i64 ep', .bool lv', .int .i64 gr', .slice d1 m1 e1, .slice d2 m2 e2, .int .i64 nx']) := by
  have hgt := H.gt
  exact ⟨⟨H.held.res.setRowOther (by omega), cur_row H.held.cur (by omega) (fun b hb => by have := ha b hb; omega), grown_row H.held.grown (by omega)⟩, H.loc.setRow, r1.agree (Agree.row a1 _), r2.agree (Agree.row a2 _), k1, k2, o1.agree (Agree.row a1 _), o2.agree (Agree.row a2 _), dj, a1, a2, H.gt, hr.row (.inr rfl)⟩
theorem LocG.done {m k : Nat} (H : LocG w q a len cap zs i h L id ep lv gr nx xs ts b1 n1 c1 b2 n2 c2 F G W) (hs : (Ag.mk id ep lv gr xs ts nx).small m k) (hq : q < w.heap.size) (ha : ∀ b, (∃ off, a = some ⟨b, off, none⟩ ∧ 0 < len) → b < w.heap.size) : DrewAg w q a len cap zs m k (.returned (.agg #[.int .i64 id, .int .i64 ep, .bool lv, .int .i64 gr, .slice b1 n1 c1, .slice b2 n2 c2, .int .i64 nx])) (W.setRow w.heap.size #[.int .i64 id, .int .i64 ep, .bool lv, .int .i64 gr, .slice b1 n1 c1, .slice b2 n2 c2, .int .i64 nx]) := by
  have nF : w.heap.size ∉ F := fun hx => by have := H.o1.ge _ hx; omega
  have nG : w.heap.size ∉ G := fun hx => by have := H.o2.ge _ hx; omega
  exact ⟨_, _, F, G, i, h, rfl, H.rd.agree (Agree.row nF _) (Agree.row nG _), hs, (H.o1.agree (Agree.row nF _)).mono (by omega), (H.o2.agree (Agree.row nG _)).mono (by omega), H.dj, cur_row H.held.cur (by omega) (fun b hb => by have := ha b hb; omega), grown_row H.held.grown (Nat.le_refl _), _, _, rfl, rfl, by have g := H.gr.at (.inl (by omega : w.heap.size < w.heap.size + 1)); have e : n1 = xs.length := H.rl.length.symm; rw [e] at g ⊢; exact ((g.row (.inl (by omega))).at (.inr (Nat.le_refl _))).mono (by omega)⟩
end
theorem infoSkGd : (Tryz.prog.info? 31).map (·.size) = some 7 := by kernel_rfl
theorem infoItGd : (Tryz.prog.info? 33).map (·.size) = some 11 := by kernel_rfl
theorem infoAgG : (Tryz.prog.info? 27).map (·.size) = some 7 := by kernel_rfl
theorem infoAgNL : (Tryz.prog.info? 27).map (·.size) = some 7 := by kernel_rfl
set_option maxRecDepth 200000 in
set_option maxHeartbeats 2000000 in
theorem agentNewLit_any (n : Int) (w : World) :
    Calls Tryz.prog 89 #[.int .i64 n] w fun e w' => (∃ u, e = .returned (.tuple #[.agg #[.int .i64 u, .int .i64 0, .bool false, .int .i64 0, .slice none 0 0, .slice none 0 0, .int .i64 0], .bool (Ag.fresh n).ok]) ∧ Ag.made n = Ag.fresh u) ∧ Below w.heap.size w w' := by
  have HT : Hid (Blk (w.alloc (.cells #[.int .i64 0, .int .i64 0, .bool false, .int .i64 0, .slice none 0 0, .slice none 0 0, .int .i64 0] 27)) w.heap.size #[.int .i64 0, .int .i64 0, .bool false, .int .i64 0, .slice none 0 0, .slice none 0 0, .int .i64 0] 27 ∧ Below w.heap.size w (w.alloc (.cells #[.int .i64 0, .int .i64 0, .bool false, .int .i64 0, .slice none 0 0, .slice none 0 0, .int .i64 0] 27))) := ⟨Blk.made _ _ _, (Below.refl _ _).alloc (Nat.le_refl _) _⟩
  go_enter Tryz.func89, Tryz.ntmps89
  go_wp2_with (first | go_skip | (with_reducible refine stopStore 27 rfl ?_))
  obtain ⟨W0, hW0⟩ : ∃ W, W = w.alloc (.cells #[.int .i64 0, .int .i64 0, .bool false, .int .i64 0, .slice none 0 0, .slice none 0 0, .int .i64 0] 27) := ⟨_, rfl⟩
  have hs0 : W0.heap.size = w.heap.size + 1 := by rw [hW0]; simp
  rw [← hW0] at HT ⊢
  try rw [← hs0]
  clear hW0
  refine store_fresh 27 W0.heap.size rfl #[.int .i64 0, .int .i64 0, .bool false, .int .i64 0, .slice none 0 0, .slice none 0 0, .int .i64 0] #[.int .i64 n, .int .i64 0, .bool false, .int .i64 0, .slice none 0 0, .slice none 0 0, .int .i64 0] 27 rfl rfl rfl rfl infoAgNL rfl (by simp [Value.oneCell']) ?_
  intro w1 hg hb
  have H1 : Hid (Blk w1 w.heap.size #[.int .i64 0, .int .i64 0, .bool false, .int .i64 0, .slice none 0 0, .slice none 0 0, .int .i64 0] 27 ∧ Blk w1 W0.heap.size #[.int .i64 n, .int .i64 0, .bool false, .int .i64 0, .slice none 0 0, .slice none 0 0, .int .i64 0] 27 ∧ Below w.heap.size w w1) := ⟨HT.out.1.below hb, hg, Below.next HT.out.2 hb⟩
  obtain ⟨L, hL⟩ : ∃ L, L = W0.heap.size := ⟨_, rfl⟩
  rw [← hL] at H1 ⊢
  clear hg hb HT hL hs0
  go_wp2_with (first | go_skip | (with_reducible refine stopLoad 27 rfl ?_))
  refine load_known 27 L _ 27 _ H1.out.2.1 rfl rfl rfl Tryz.underlying27 rfl infoAgNL ?_
  go_wp2_with fail
  refine (agentOkSpec_any _ (Ag.fresh n) [] [] _ (rdAg_fresh _ n) (by intro y hy; cases hy) (by simp [Ag.fresh]) (by simp [Ag.fresh])).mono ?_
  rintro e w2 ⟨rfl, hb2⟩
  have H2 : Hid (Blk w2 w.heap.size #[.int .i64 0, .int .i64 0, .bool false, .int .i64 0, .slice none 0 0, .slice none 0 0, .int .i64 0] 27 ∧ Blk w2 L #[.int .i64 n, .int .i64 0, .bool false, .int .i64 0, .slice none 0 0, .slice none 0 0, .int .i64 0] 27 ∧ Below w.heap.size w w2) := ⟨H1.out.1.below hb2, H1.out.2.1.below hb2, Below.next H1.out.2.2 hb2⟩
  obtain ⟨d, hd⟩ : ∃ d, d = (Ag.fresh n).ok := ⟨_, rfl⟩
  rw [← hd]
  have HD : Hid (d = (Ag.fresh n).ok) := hd
  clear hb2 hd H1
  cases d
  · have HV : Hid (Ag.made n = Ag.zero) := by show _ = _; unfold Ag.made; rw [← HD.out]; rfl
    go_wp2_with (first | go_skip | (with_reducible refine stopStore 27 rfl ?_))
    refine store_known 27 w.heap.size _ #[.int .i64 0, .int .i64 0, .bool false, .int .i64 0, .slice none 0 0, .slice none 0 0, .int .i64 0] 27 H2.out.1 rfl rfl rfl rfl infoAgNL rfl (by simp [Value.oneCell']) ?_
    go_wp2
    refine bodyPost_ret (results_row_tmp Tryz.results89 _ _ w.heap.size _ _ _ _ rfl H2.out.1.setRow Tryz.underlying27 rfl infoAgNL) rfl ?_
    exact ⟨⟨0, by rw [← HD.out]; rfl, HV.out⟩, below_setRow H2.out.2.2 (Nat.le_refl _) _⟩
  · have HV : Hid (Ag.made n = Ag.fresh n) := by show _ = _; unfold Ag.made; rw [← HD.out]; rfl
    go_wp2_with (first | go_skip | (with_reducible refine stopLoad 27 rfl ?_))
    refine load_known 27 L _ 27 _ H2.out.2.1 rfl rfl rfl Tryz.underlying27 rfl infoAgNL ?_
    go_wp2_with (first | go_skip | (with_reducible refine stopStore 27 rfl ?_))
    refine store_known 27 w.heap.size _ #[.int .i64 n, .int .i64 0, .bool false, .int .i64 0, .slice none 0 0, .slice none 0 0, .int .i64 0] 27 H2.out.1 rfl rfl rfl rfl infoAgNL rfl (by simp [Value.oneCell']) ?_
    go_wp2
    refine bodyPost_ret (results_row_tmp Tryz.results89 _ _ w.heap.size _ _ _ _ rfl H2.out.1.setRow Tryz.underlying27 rfl infoAgNL) rfl ?_
    exact ⟨⟨n, by rw [← HD.out]; rfl, HV.out⟩, below_setRow H2.out.2.2 (Nat.le_refl _) _⟩
set_option maxRecDepth 200000 in
theorem infoSpG : (Tryz.prog.info? 62).map (·.size) = some 2 := by kernel_rfl
set_option maxRecDepth 200000 in
theorem l8One_any (n : Int) (w : World) : Calls Tryz.prog 29 #[.int .i64 n] w fun e w' => e = .returned (.agg #[.int .i64 n, .int .i64 n]) ∧ Below w.heap.size w w' := by
  have H0 : Hid (Blk (w.alloc (.cells #[.int .i64 0, .int .i64 0] 62)) w.heap.size #[.int .i64 0, .int .i64 0] 62 ∧ Below w.heap.size w (w.alloc (.cells #[.int .i64 0, .int .i64 0] 62))) := ⟨Blk.made _ _ _, (Below.refl _ _).alloc (Nat.le_refl _) _⟩
  go_enter Tryz.func29, Tryz.ntmps29
  go_wp2_with (first | go_skip | (with_reducible refine stopStore 62 rfl ?_))
  refine store_known 62 w.heap.size _ #[.int .i64 n, .int .i64 n] 62 H0.out.1 rfl rfl rfl rfl infoSpG rfl (by simp [Value.oneCell']) ?_
  go_wp2
  refine bodyPost_ret (results_cell_row Tryz.results29 _ _ w.heap.size _ _ (0, 0) _ rfl H0.out.1.setRow Tryz.underlying62 rfl infoSpG) rfl ?_
  exact ⟨rfl, below_setRow H0.out.2 (Nat.le_refl _) _⟩
set_option maxRecDepth 200000 in
set_option maxHeartbeats 8000000 in
theorem l8Right_any (q : Nat) (a : Option Addr) (len cap : Nat) (zs : List Int) (i h : Int) (w : World) (C : Cur w q a len cap zs i h) (hlen : len ≤ 1048576) :
    Calls Tryz.prog 59 #[.pointer (some ⟨q, 0, none⟩)] w fun e w' => DrewAg w q a len cap zs 6 2 e w' := by
  have hq : q < w.heap.size := World.block_lt_of_cell? _ _ C.c0
  have HA : Hid (∀ b, (∃ off, a = some ⟨b, off, none⟩ ∧ 0 < len) → b < w.heap.size) := cur_lt C
  have H0 : Hid (HeldR w q a len cap zs i h #[.int .i64 0, .int .i64 0, .bool false, .int .i64 0, .slice none 0 0, .slice none 0 0, .int .i64 0] 27 (w.alloc (.cells #[.int .i64 0, .int .i64 0, .bool false, .int .i64 0, .slice none 0 0, .slice none 0 0, .int .i64 0] 27))) := HeldR.made C _ _
  clear C
  go_enter Tryz.func59, Tryz.ntmps59
  go_wp2_with fail
  refine (l1Below_any q a len cap zs i h 3 _ H0.out.cur hlen (by omega) (by omega)).mono ?_
  rintro e w1 ⟨x1, i1, h1, rfl, p1, r1, C1, g1⟩
  have H1 : Hid (HeldR w q a len cap zs i1 h1 #[.int .i64 0, .int .i64 0, .bool false, .int .i64 0, .slice none 0 0, .slice none 0 0, .int .i64 0] 27 w1) := H0.out.next hq C1 g1
  clear C1 g1 H0
  go_wp2_with fail
  refine (agentNewLit_any x1 _).mono ?_
  rintro e w2 ⟨⟨id, rfl, hmade⟩, hb2⟩
  have HS0 : Hid ((Ag.mk id 0 false 0 [] [] 0).small 0 0) := by have := made_small x1; rw [hmade] at this; exact this
  obtain ⟨d, hd⟩ : ∃ d, d = (Ag.fresh x1).ok := ⟨_, rfl⟩
  rw [← hd]
  clear hd hmade
  have H2 : Hid (HeldR w q a len cap zs i1 h1 #[.int .i64 0, .int .i64 0, .bool false, .int .i64 0, .slice none 0 0, .slice none 0 0, .int .i64 0] 27 w2) := H1.out.below hb2
  clear hb2 H1
  go_wp2_with (first | go_skip | (with_reducible refine stopStore 27 rfl ?_))
  refine store_fresh 27 w2.heap.size rfl #[.int .i64 0, .int .i64 0, .bool false, .int .i64 0, .slice none 0 0, .slice none 0 0, .int .i64 0] #[.int .i64 id, .int .i64 0, .bool false, .int .i64 0, .slice none 0 0, .slice none 0 0, .int .i64 0] 27 rfl rfl rfl rfl infoAgG rfl (by simp [Value.oneCell']) ?_
  intro w3 hg3 hb3
  have H3 : Hid (LocG w q a len cap zs i1 h1 w2.heap.size id 0 false 0 0 [] [] none 0 0 none 0 0 [] [] w3) := ⟨H2.out.below hb3, hg3, RdL.nil, RdP.nil, ⟨fun _ => rfl, Nat.le_refl _⟩, ⟨fun _ => rfl, Nat.le_refl _⟩, Own.nil, Own.nil, by simp, by simp, by simp, H2.out.res.lt, GrA.start (by have := H2.out.res.lt; have := hb3.size; omega)⟩
  clear hg3 hb3 H2
  go_wp2_with fail
  refine (l1Below_any q a len cap zs i1 h1 7 _ H3.out.held.cur hlen (by omega) (by omega)).mono ?_
  rintro e w6 ⟨m, i6, h6, rfl, m0, m1, C6, g6⟩
  have H6 : Hid (LocG w q a len cap zs i6 h6 w2.heap.size id 0 false 0 0 [] [] none 0 0 none 0 0 [] [] w6) := H3.out.next hq C6 g6
  obtain ⟨L, hL⟩ : ∃ L, L = w2.heap.size := ⟨_, rfl⟩
  rw [← hL] at H6 ⊢
  clear C6 g6 H3 hL
  go_wp2
  go_loopw [6] (fun i wr => ∃ (k : Nat) (id ep : Int) (lv : Bool) (gr nx : Int) (xs : List It) (ts : Sp) (b1 : Option Addr) (n1 c1 : Nat) (b2 : Option Addr) (n2 c2 : Nat) (F G : List Nat) (i' h' : Int), (k : Int) ≤ m ∧ i = .int .i64 k ∧ Hid (LocG w q a len cap zs i' h' L id ep lv gr nx xs ts b1 n1 c1 b2 n2 c2 F G wr) ∧ Hid ((Ag.mk id ep lv gr xs ts nx).small k 0)) (fun i _ => (m - intOf i).toNat)
  case atStart => exact ⟨0, id, 0, false, 0, 0, [], [], none, 0, 0, none, 0, 0, [], [], i6, h6, by omega, rfl, H6, HS0⟩
  case round =>
    clear H6 HS0
    obtain ⟨k, id, ep, lv, gr, nx, xs, ts, b1, n1, c1, b2, n2, c2, F, G, i7, h7, hk, rfl, HD, HS⟩ := hrel
    by_cases hlt : (k : Int) < m
    · have hcd : decide ((k : Int) < m) = true := decT hlt
      go_wp2_with fail
      refine (l6Right_any q a len cap zs i7 h7 _ HD.out.held.cur hlen).mono ?_
      rintro e w7 ⟨v, x, F5, i8, h8, rfl, r5, s5, o5, C5, g5⟩
      obtain ⟨e1, m1', f1, e2, m2, f2, e3, m3, f3, rfl, rs⟩ := r5
      have H7 : Hid (LocG w q a len cap zs i8 h8 L id ep lv gr nx xs ts b1 n1 c1 b2 n2 c2 F G w7 ∧ RdSk w7 (.agg #[.int .i64 x.sk.count, .int .i64 x.sk.sum, .int .i64 x.sk.min, .int .i64 x.sk.max, .slice e1 m1' f1, .slice e2 m2 f2, .slice e3 m3 f3]) x.sk F5 ∧ x.sk.full) := ⟨HD.out.next hq C5 g5, rs, s5⟩
      clear HD C5 g5 rs s5 o5
      go_wp2_with (first | go_skip | (with_reducible refine stopStore 33 rfl ?_))
      refine store_fresh 33 w7.heap.size rfl #[.int .i64 0, .int .i64 0, .int .i64 0, .int .i64 0, .int .i64 0, .int .i64 0, .int .i64 0, .int .i64 0, .slice none 0 0, .slice none 0 0, .slice none 0 0] #[.int .i64 x.seq, .int .i64 x.cls, .int .i64 x.key, .int .i64 x.window, .int .i64 x.sk.count, .int .i64 x.sk.sum, .int .i64 x.sk.min, .int .i64 x.sk.max, .slice e1 m1' f1, .slice e2 m2 f2, .slice e3 m3 f3] 33 rfl rfl rfl rfl infoItGd rfl (by simp [Value.oneCell']) ?_
      intro w8 hg8 hb8
      have H8 : Hid (LocG w q a len cap zs i8 h8 L id ep lv gr nx xs ts b1 n1 c1 b2 n2 c2 F G w8 ∧ RdSk w8 (.agg #[.int .i64 x.sk.count, .int .i64 x.sk.sum, .int .i64 x.sk.min, .int .i64 x.sk.max, .slice e1 m1' f1, .slice e2 m2 f2, .slice e3 m3 f3]) x.sk F5 ∧ x.sk.full ∧ Blk w8 w7.heap.size #[.int .i64 x.seq, .int .i64 x.cls, .int .i64 x.key, .int .i64 x.window, .int .i64 x.sk.count, .int .i64 x.sk.sum, .int .i64 x.sk.min, .int .i64 x.sk.max, .slice e1 m1' f1, .slice e2 m2 f2, .slice e3 m3 f3] 33) := ⟨H7.out.1.below hb8, H7.out.2.1.below hb8, H7.out.2.2, hg8⟩
      obtain ⟨J, hJ⟩ : ∃ J, J = w7.heap.size := ⟨_, rfl⟩
      rw [← hJ] at H8 ⊢
      clear hg8 hb8 hJ H7
      have d1 := H8.out.2.2.2.cell 1
      have d2 := H8.out.2.2.2.cell 2
      have d3 := H8.out.2.2.2.cell 3
      simp only [aT, aS, aZ] at d1 d2 d3
      go_wp2_with (first | go_skip | (with_reducible refine stopStore 27 rfl ?_) | (with_reducible refine stopLoad 27 rfl ?_) | (with_reducible refine stopLoad 31 rfl ?_))
      refine load_known 27 L _ 27 _ H8.out.1.loc rfl rfl rfl Tryz.underlying27 rfl infoAgG ?_
      go_wp2_with (first | go_skip | (with_reducible refine stopStore 27 rfl ?_) | (with_reducible refine stopLoad 27 rfl ?_) | (with_reducible refine stopLoad 31 rfl ?_))
      refine load_cut 31 J 4 7 _ #[.int .i64 x.sk.count, .int .i64 x.sk.sum, .int .i64 x.sk.min, .int .i64 x.sk.max, .slice e1 m1' f1, .slice e2 m2 f2, .slice e3 m3 f3] 33 _ H8.out.2.2.2 rfl rfl rfl Tryz.underlying31 rfl infoSkGd (by simp) rfl ?_
      go_wp2_with fail
      have hlx := HS.out.len
      have hlt' := HS.out.tlen
      refine (sealSpec_room _ _ ⟨id, ep, lv, gr, xs, ts, nx⟩ x.cls x.key x.window x.sk F G F5 _ H8.out.1.rd H8.out.2.1 (fun y hy => full_fitsG (HS.out.full y hy)) (by omega) (by omega) (full_fitsG H8.out.2.2.1)).mono ?_
      rintro e w9 ⟨cs9, F', G', c9, rfl, r9, _, oF, oG, dj9, b9, u9, hu9, gr9⟩
      have HS9 : Hid ((Ag.seal ⟨id, ep, lv, gr, xs, ts, nx⟩ x.cls x.key x.window x.sk).1.small (k + 1) 0) := HS.out.seal _ _ _ H8.out.2.2.1
      generalize (Ag.seal ⟨id, ep, lv, gr, xs, ts, nx⟩ x.cls x.key x.window x.sk).1 = X at r9 HS9 gr9
      obtain ⟨id', ep', lv', gr', ys, us, nx'⟩ := X
      obtain ⟨b1', n1', c1', b2', n2', c2', e9, rL, rP, k1, k2⟩ := r9.opened
      injection e9 with e9
      subst e9
      obtain rfl : Value.slice b1' n1' c1' = u9 := Option.some.inj hu9
      have en9 : ys.length = n1' := rL.length
      have lL : L < w8.heap.size := H8.out.1.loc.lt
      have lw : w.heap.size < w8.heap.size := H8.out.1.held.res.lt
      have H9 : Hid (LocG w q a len cap zs i8 h8 L id ep lv gr nx xs ts b1 n1 c1 b2 n2 c2 F G w9) := H8.out.1.below b9
      have HN : Hid (RdL itK w9 b1' n1' ys F' ∧ RdP w9 b2' n2' us G' ∧ Capd b1' n1' c1' ∧ Capd b2' n2' c2' ∧ Own (w.heap.size + 1) w9 F' ∧ Own (w.heap.size + 1) w9 G' ∧ (∀ b ∈ F', b ∉ G') ∧ L ∉ F' ∧ L ∉ G' ∧ GrA (w.heap.size + 1) L (.slice b1' n1' c1') n1' ys G' w9) := ⟨rL, rP, k1, k2, oF.mono (by omega), oG.mono (by omega), dj9, fun hx => by have := oF.ge _ hx; omega, fun hx => by have := oG.ge _ hx; omega, by have g : GrA (w.heap.size + 1) L (.slice b1' n1' c1') ys.length ys G' w9 := (gr9.at (L' := L) (.inl lL)).mono (by omega); rwa [en9] at g⟩
      clear gr9 hu9 en9 rL rP k1 k2 oF oG dj9 b9 r9 H8 HS d1 d2 d3 hlx hlt' lL lw
      go_wp2_with (first | go_skip | (with_reducible refine stopStore 27 rfl ?_) | (with_reducible refine stopLoad 27 rfl ?_) | (with_reducible refine stopLoad 31 rfl ?_))
      refine store_known 27 L _ #[.int .i64 id', .int .i64 ep', .bool lv', .int .i64 gr', .slice b1' n1' c1', .slice b2' n2' c2', .int .i64 nx'] 27 H9.out.loc rfl rfl rfl rfl infoAgG rfl (by simp [Value.oneCell']) ?_
      have HW : Hid (LocG w q a len cap zs i8 h8 L id' ep' lv' gr' nx' ys us b1' n1' c1' b2' n2' c2' F' G' (w9.setRow L #[.int .i64 id', .int .i64 ep', .bool lv', .int .i64 gr', .slice b1' n1' c1', .slice b2' n2' c2', .int .i64 nx'])) := H9.out.whole hq HA.out HN.out.1 HN.out.2.1 HN.out.2.2.1 HN.out.2.2.2.1 HN.out.2.2.2.2.1 HN.out.2.2.2.2.2.1 HN.out.2.2.2.2.2.2.1 HN.out.2.2.2.2.2.2.2.1 HN.out.2.2.2.2.2.2.2.2.1 HN.out.2.2.2.2.2.2.2.2.2
      obtain ⟨WA, hWA⟩ : ∃ W, W = (w9.setRow L #[.int .i64 id', .int .i64 ep', .bool lv', .int .i64 gr', .slice b1' n1' c1', .slice b2' n2' c2', .int .i64 nx']) := ⟨_, rfl⟩
      rw [← hWA] at HW ⊢
      clear hWA HN H9
      go_wp2
      go_roundw
      case rel => exact ⟨k + 1, id', ep', lv', gr', nx', ys, us, b1', n1', c1', b2', n2', c2', F', G', i8, h8, by omega, by go_num, HW, HS9⟩
      case measure => simp [intOf]; omega
    · have hkm : (k : Int) = m := by omega
      have hcd : decide ((k : Int) < m) = false := dec_false hlt
      have HS6 : Hid ((Ag.mk id ep lv gr xs ts nx).small 6 0) := ⟨HS.out.full, HS.out.inb, by have := HS.out.len; omega, HS.out.tlen⟩
      clear HS
      go_wp2_with fail
      refine (l1Below_any q a len cap zs i7 h7 3 _ HD.out.held.cur hlen (by omega) (by omega)).mono ?_
      rintro e w10 ⟨x10, i10, h10, rfl, _, _, C10, g10⟩
      have HD10 : Hid (LocG w q a len cap zs i10 h10 L id ep lv gr nx xs ts b1 n1 c1 b2 n2 c2 F G w10) := HD.out.next hq C10 g10
      clear C10 g10 HD
      have c1' := HD10.out.loc.cell 1
      have fz1 := HD10.out.loc.frozen 1
      simp only [aT, aS, aZ] at c1'
      go_wp2_with fail
      have HE0 := HD10.out.set hq HA.out 1 (.int .i64 x10) (id' := id) (ep' := x10) (lv' := lv) (gr' := gr) (nx' := nx) rfl
      obtain ⟨WE, hWE⟩ : ∃ W, W = w10.setCell ⟨L, 1, none⟩ (.int .i64 x10) := ⟨_, rfl⟩
      rw [← hWE] at HE0 ⊢
      have HE : Hid (LocG w q a len cap zs i10 h10 L id x10 lv gr nx xs ts b1 n1 c1 b2 n2 c2 F G WE) := HE0
      have HSE : Hid ((Ag.mk id x10 lv gr xs ts nx).small 6 0) := ⟨HS6.out.full, HS6.out.inb, HS6.out.len, HS6.out.tlen⟩
      clear HE0 hWE HD10 HS6 c1' fz1
      refine (l1Once_any q a len cap zs i10 h10 4 _ HE.out.held.cur hlen (by omega) (by omega)).mono ?_
      rintro e w11 ⟨d11, i11, h11, rfl, C11, g11⟩
      have HF : Hid (LocG w q a len cap zs i11 h11 L id x10 lv gr nx xs ts b1 n1 c1 b2 n2 c2 F G w11) := HE.out.next hq C11 g11
      clear C11 g11 HE
      cases d11
      · have c2' := HF.out.loc.cell 2
        have fz2 := HF.out.loc.frozen 2
        simp only [aT, aS, aZ] at c2'
        go_wp2_with fail
        have HE0 := HF.out.set hq HA.out 2 (.bool true) (id' := id) (ep' := x10) (lv' := true) (gr' := gr) (nx' := nx) rfl
        obtain ⟨WE, hWE⟩ : ∃ W, W = w11.setCell ⟨L, 2, none⟩ (.bool true) := ⟨_, rfl⟩
        rw [← hWE] at HE0 ⊢
        have HE : Hid (LocG w q a len cap zs i11 h11 L id x10 true gr nx xs ts b1 n1 c1 b2 n2 c2 F G WE) := HE0
        clear HE0 hWE HF c2' fz2
        refine (l1Below_any q a len cap zs i11 h11 9 _ HE.out.held.cur hlen (by omega) (by omega)).mono ?_
        rintro e w12 ⟨x12, i12, h12, rfl, _, _, C12, g12⟩
        have HF : Hid (LocG w q a len cap zs i12 h12 L id x10 true gr nx xs ts b1 n1 c1 b2 n2 c2 F G w12) := HE.out.next hq C12 g12
        clear C12 g12 HE
        have c3' := HF.out.loc.cell 3
        have fz3 := HF.out.loc.frozen 3
        simp only [aT, aS, aZ] at c3'
        go_wp2_with fail
        have HE0 := HF.out.set hq HA.out 3 (.int .i64 x12) (id' := id) (ep' := x10) (lv' := true) (gr' := x12) (nx' := nx) rfl
        obtain ⟨WE, hWE⟩ : ∃ W, W = w12.setCell ⟨L, 3, none⟩ (.int .i64 x12) := ⟨_, rfl⟩
        rw [← hWE] at HE0 ⊢
        have HE : Hid (LocG w q a len cap zs i12 h12 L id x10 true x12 nx xs ts b1 n1 c1 b2 n2 c2 F G WE) := HE0
        have HSF : Hid ((Ag.mk id x10 true x12 xs ts nx).small 6 0) := ⟨HSE.out.full, HSE.out.inb, HSE.out.len, HSE.out.tlen⟩
        clear HE0 hWE HF c3' fz3 HSE
        refine (l1Below_any q a len cap zs i12 h12 3 _ HE.out.held.cur hlen (by omega) (by omega)).mono ?_
        rintro e w13 ⟨mm, i13, h13, rfl, mm0, mm1, C13, g13⟩
        have HF : Hid (LocG w q a len cap zs i13 h13 L id x10 true x12 nx xs ts b1 n1 c1 b2 n2 c2 F G w13) := HE.out.next hq C13 g13
        clear C13 g13 HE
        go_wp2
        go_loopw [9] (fun i wr => ∃ (k : Nat) (ts : Sp) (b2 : Option Addr) (n2 c2 : Nat) (G : List Nat) (i' h' : Int), (k : Int) ≤ mm ∧ i = .int .i64 k ∧ Hid (LocG w q a len cap zs i' h' L id x10 true x12 nx xs ts b1 n1 c1 b2 n2 c2 F G wr) ∧ Hid ((Ag.mk id x10 true x12 xs ts nx).small 6 k)) (fun i _ => (mm - intOf i).toNat)
        case atStart => exact ⟨0, ts, b2, n2, c2, G, i13, h13, by omega, rfl, HF, HSF⟩
        case round =>
          clear HF HSF
          obtain ⟨kk, ts, b2, n2, c2, G, i14, h14, hkk, rfl, HD, HS⟩ := hrel
          by_cases hgo : (kk : Int) < mm ∧ 0 < m
          · obtain ⟨hlt2, hm0⟩ := hgo
            have hcd2 : decide ((kk : Int) < mm) = true := decT hlt2
            have hcm : decide (m > 0) = true := decT hm0
            go_wp2
            obtain ⟨WD, hWD⟩ : ∃ W, W = wr.drew := ⟨_, rfl⟩
            have HDd0 := HD.out.drew
            rw [← hWD] at HDd0
            have HDd : Hid (LocG w q a len cap zs i14 h14 L id x10 true x12 nx xs ts b1 n1 c1 b2 n2 c2 F G WD) := HDd0
            clear HDd0 HD
            refine wp_region_held (S := fun _ => True) (by kernel_rfl) ?_
            change wpAnyH _ _ _ _ _ _ _ _ (World.drew _)
            rw [← hWD]
            clear hWD
            refine takeH (o := ?o1) 0 (.pointer (some ⟨L, 5, none⟩)) ?h1 ?r1
            case h1 => simp only [aT, aZ]; rfl
            refine ⟨_, by simp [Act.put]; rfl, by kernel_rfl, by kernel_rfl, by kernel_rfl, fun _ _ _ h => h, (.inl ⟨rfl, fun W _ => by kernel_rfl⟩), trivial, ?_⟩
            refine takeH (o := ?o2) 2 (.pointer (some ⟨q, 0, none⟩)) ?h2 ?r2
            case h2 => simp only [aT, aS, aZ]; rfl
            refine ⟨_, by simp [Act.put]; rfl, by kernel_rfl, by kernel_rfl, by kernel_rfl, fun _ _ _ h => h, (.inl ⟨rfl, fun W _ => by kernel_rfl⟩), trivial, ?_⟩
            refine takeH (o := ?o3) 3 (.int .i64 m) ?h3 ?r3
            case h3 => simp only [aT, aS, aZ]; rfl
            refine ⟨_, by simp [Act.put]; rfl, by kernel_rfl, by kernel_rfl, by kernel_rfl, fun _ _ _ h => h, (.inl ⟨rfl, fun W _ => by kernel_rfl⟩), trivial, ?_⟩
            refine twoH (o := ?o4) (o' := ?p4) 1 4 (by kernel_rfl) ?h4 ?g4 ?r4 ?s4
            case h4 => simp only [aT, aS, aZ]; rfl
            case g4 => simp only [aT, aS, aZ]; rfl
            case r4 =>
              intro K hK
              have c5 := HDd.out.loc.cell 5
              simp only [aT, aS, aZ] at c5
              refine op_value (.slice b2 n2 c2) rfl (by go_simp) ⟨_, by simp [Act.put]; rfl, hK _ _ ⟨trivial, ?_⟩⟩
              clear hK c5
              refine onlyH (o := ?o5) 4 (by kernel_rfl) ?h5 ?r5
              case h5 => simp only [aT, aS, aZ]; rfl
              intro K hK
              refine op_call2v 28 _ _ _ Tryz.f28 (fun v w' => ∃ x i' h', v = .int .i64 x ∧ 0 ≤ x ∧ x < m ∧ Cur w' q a len cap zs i' h' ∧ WD.grownBy w' (some q)) rfl rfl Tryz.func28 (by kernel_rfl) (by kernel_rfl) ((l1Below_any q a len cap zs i14 h14 m WD HDd.out.held.cur hlen (by omega) (by omega)).mono (by rintro e w' ⟨x, i', h', rfl, r⟩; exact ⟨_, rfl, x, i', h', rfl, r⟩)) ?_
              rintro v wb2 ⟨z, ib2, hb2, rfl, z0, z1, C9, g9⟩
              have HB2 : Hid (LocG w q a len cap zs ib2 hb2 L id x10 true x12 nx xs ts b1 n1 c1 b2 n2 c2 F G wb2) := HDd.out.next hq C9 g9
              obtain ⟨zo, hzo⟩ : ∃ n, n = 1 + z := ⟨_, rfl⟩
              have hwz : IntKind.i64.wrap (1 + z) = zo := by rw [hzo]; exact wrapD (by omega) (by omega)
              have HZ : Hid (InB (zo, zo)) := ⟨⟨by show 0 ≤ zo; omega, by show zo ≤ 9999; omega⟩, by show 0 ≤ zo; omega, by show zo ≤ 9999; omega⟩
              clear C9 g9 HDd
              refine ⟨_, by simp [Act.put]; rfl, hK _ _ ⟨trivial, ?_⟩⟩
              clear hK
              refine takeH (o := ?o6) 5 (.int .i64 zo) ?h6 ?r6
              case h6 => simp only [aT, aS, aZ]; rfl
              refine ⟨_, by simp [Act.put]; rfl, by kernel_rfl, by kernel_rfl, by kernel_rfl, fun _ _ _ h => h, (.inl ⟨rfl, fun W _ => by first | (go_simp; done) | (go_simp; exact hwz)⟩), trivial, ?_⟩
              refine onlyH (o := ?o7) 6 (by kernel_rfl) ?h7 ?r7
              case h7 => simp only [aT, aS, aZ]; rfl
              intro K hK
              refine op_call1 29 _ _ Tryz.f29 (fun v w' => v = .agg #[.int .i64 zo, .int .i64 zo] ∧ Below wb2.heap.size wb2 w') rfl rfl Tryz.func29 (by kernel_rfl) (by kernel_rfl) ((l8One_any zo wb2).mono (by rintro e w' ⟨rfl, r⟩; exact ⟨_, rfl, rfl, r⟩)) ?_
              rintro v wb3 ⟨rfl, bz⟩
              have HB3 : Hid (LocG w q a len cap zs ib2 hb2 L id x10 true x12 nx xs ts b1 n1 c1 b2 n2 c2 F G wb3) := HB2.out.below bz
              clear bz HB2
              refine ⟨_, by simp [Act.put]; rfl, hK _ _ ⟨trivial, ?_⟩⟩
              clear hK
              refine onlyH (o := ?o8) 7 (by kernel_rfl) ?h8 ?r8
              case h8 => simp only [aT, aS, aZ]; rfl
              intro K hK
              have htl := HS.out.tlen
              have HTN : Hid (ts.length = n2) := HB3.out.rp.length
              refine op_call2v 55 _ _ _ Tryz.f55 (fun v w' => ∃ b' l' c' F', v = .slice b' l' c' ∧ RdP w' b' l' (put ts (zo, zo) false) F' ∧ Own wb3.heap.size w' F' ∧ Below wb3.heap.size wb3 w' ∧ Capd b' l' c') rfl rfl Tryz.func55 (by kernel_rfl) (by kernel_rfl) ((l5Put_any b2 n2 c2 ts (zo, zo) G wb3 HB3.out.rp (by have := HTN.out; have e : ts.length ≤ kk := htl; omega) (inb_at HS.out.inb HTN.out) HZ.out).mono (by intro e w' hh; obtain ⟨b', l', c', F', rfl, r1, r2, r3, r4⟩ := hh; exact ⟨_, rfl, b', l', c', F', rfl, r1, r2, r3, r4⟩)) ?_
              rintro v wb4 ⟨bq, nq, cq, Gq, rfl, r1, r2, r3, r4⟩
              have lL : L < wb3.heap.size := HB3.out.loc.lt
              have lw : w.heap.size < wb3.heap.size := HB3.out.held.res.lt
              have HP : Hid (RdP wb4 bq nq (put ts (zo, zo) false) Gq ∧ Capd bq nq cq ∧ Own (w.heap.size + 1) wb4 Gq ∧ (∀ b ∈ F, b ∉ Gq) ∧ L ∉ Gq ∧ GrA (w.heap.size + 1) L (.slice b1 n1 c1) n1 xs Gq wb4) := ⟨r1, r4, r2.mono (by omega), (fun b hb hx => by have h1 := r2.ge _ hx; have h2 := HB3.out.rl.lt b hb; omega), fun hx => by have h1 := r2.ge _ hx; omega, (HB3.out.gr.fresh (fun b hb => r2.ge b hb)).below r3⟩
              have HB4 : Hid (LocG w q a len cap zs ib2 hb2 L id x10 true x12 nx xs ts b1 n1 c1 b2 n2 c2 F G wb4) := HB3.out.below r3
              clear r1 r2 r3 r4 HB3 lL lw htl HTN
              refine ⟨_, by simp [Act.put]; rfl, hK _ _ ⟨trivial, ?_⟩⟩
              clear hK
              refine takeH (o := ?o9) 8 (.pointer (some ⟨L, 5, none⟩)) ?h9 ?r9
              case h9 => simp only [aT, aS, aZ]; rfl
              refine ⟨_, by simp [Act.put]; rfl, by kernel_rfl, by kernel_rfl, by kernel_rfl, fun _ _ _ h => h, (.inl ⟨rfl, fun W _ => by kernel_rfl⟩), trivial, ?_⟩
              refine onlyH (o := ?o10) 9 (by kernel_rfl) ?h10 ?r10
              case h10 => simp only [aT, aS, aZ]; rfl
              intro K hK
              have c5 := HB4.out.loc.cell 5
              have f5 := HB4.out.loc.frozen 5
              simp only [aT, aS, aZ] at c5
              have HDA : Hid (LocG w q a len cap zs ib2 hb2 L id x10 true x12 nx xs (put ts (zo, zo) false) b1 n1 c1 bq nq cq F Gq (wb4.setCell ⟨L, 5, none⟩ (.slice bq nq cq))) := HB4.out.put hq HA.out HP.out.1 HP.out.2.1 HP.out.2.2.1 HP.out.2.2.2.1 HP.out.2.2.2.2.1 HP.out.2.2.2.2.2
              refine op_skip (wb4.setCell ⟨L, 5, none⟩ (.slice bq nq cq)) rfl (by go_simp) ⟨_, by simp [Act.put]; rfl, hK _ _ ⟨trivial, ?_⟩⟩
              clear hK c5 f5 HB4 HP
              refine wpAnyH_done (by kernel_rfl) ?_ _
              have HI2 : Hid ((Ag.mk id x10 true x12 xs (put ts (zo, zo) false) nx).small 6 (kk + 1)) := ⟨HS.out.full, put_inb HS.out.inb HZ.out, HS.out.len, by have := put_length ts (zo, zo) false; have e9 : ts.length ≤ kk := HS.out.tlen; show (put ts (zo, zo) false).length ≤ _; omega⟩
              obtain ⟨WA, hWA⟩ : ∃ W, W = (wb4.setCell ⟨L, 5, none⟩ (.slice bq nq cq)) := ⟨_, rfl⟩
              rw [← hWA] at HDA ⊢
              clear hWA
              go_wp2
              go_roundw
              case rel => exact ⟨kk + 1, put ts (zo, zo) false, bq, nq, cq, Gq, ib2, hb2, by omega, by go_num, HDA, HI2⟩
              case measure => simp [intOf]; omega
            case s4 =>
              intro K hK
              refine op_call2v 28 _ _ _ Tryz.f28 (fun v w' => ∃ x i' h', v = .int .i64 x ∧ 0 ≤ x ∧ x < m ∧ Cur w' q a len cap zs i' h' ∧ WD.grownBy w' (some q)) rfl rfl Tryz.func28 (by kernel_rfl) (by kernel_rfl) ((l1Below_any q a len cap zs i14 h14 m WD HDd.out.held.cur hlen (by omega) (by omega)).mono (by rintro e w' ⟨x, i', h', rfl, r⟩; exact ⟨_, rfl, x, i', h', rfl, r⟩)) ?_
              rintro v wb6 ⟨z, ib6, hb6, rfl, z0, z1, C9, g9⟩
              have HB6 : Hid (LocG w q a len cap zs ib6 hb6 L id x10 true x12 nx xs ts b1 n1 c1 b2 n2 c2 F G wb6) := HDd.out.next hq C9 g9
              obtain ⟨zo, hzo⟩ : ∃ n, n = 1 + z := ⟨_, rfl⟩
              have hwz : IntKind.i64.wrap (1 + z) = zo := by rw [hzo]; exact wrapD (by omega) (by omega)
              have HZ : Hid (InB (zo, zo)) := ⟨⟨by show 0 ≤ zo; omega, by show zo ≤ 9999; omega⟩, by show 0 ≤ zo; omega, by show zo ≤ 9999; omega⟩
              clear C9 g9 HDd
              refine ⟨_, by simp [Act.put]; rfl, hK _ _ ⟨trivial, ?_⟩⟩
              clear hK
              refine takeH (o := ?o11) 5 (.int .i64 zo) ?h11 ?r11
              case h11 => simp only [aT, aS, aZ]; rfl
              refine ⟨_, by simp [Act.put]; rfl, by kernel_rfl, by kernel_rfl, by kernel_rfl, fun _ _ _ h => h, (.inl ⟨rfl, fun W _ => by first | (go_simp; done) | (go_simp; exact hwz)⟩), trivial, ?_⟩
              refine twoH (o := ?o12) (o' := ?p12) 1 6 (by kernel_rfl) ?h12 ?g12 ?r12 ?s12
              case h12 => simp only [aT, aS, aZ]; rfl
              case g12 => simp only [aT, aS, aZ]; rfl
              case r12 =>
                intro K hK
                have c5 := HB6.out.loc.cell 5
                simp only [aT, aS, aZ] at c5
                refine op_value (.slice b2 n2 c2) rfl (by go_simp) ⟨_, by simp [Act.put]; rfl, hK _ _ ⟨trivial, ?_⟩⟩
                clear hK c5
                refine onlyH (o := ?o13) 6 (by kernel_rfl) ?h13 ?r13
                case h13 => simp only [aT, aS, aZ]; rfl
                intro K hK
                refine op_call1 29 _ _ Tryz.f29 (fun v w' => v = .agg #[.int .i64 zo, .int .i64 zo] ∧ Below wb6.heap.size wb6 w') rfl rfl Tryz.func29 (by kernel_rfl) (by kernel_rfl) ((l8One_any zo wb6).mono (by rintro e w' ⟨rfl, r⟩; exact ⟨_, rfl, rfl, r⟩)) ?_
                rintro v wb8 ⟨rfl, bz⟩
                have HB8 : Hid (LocG w q a len cap zs ib6 hb6 L id x10 true x12 nx xs ts b1 n1 c1 b2 n2 c2 F G wb8) := HB6.out.below bz
                clear bz HB6
                refine ⟨_, by simp [Act.put]; rfl, hK _ _ ⟨trivial, ?_⟩⟩
                clear hK
                refine onlyH (o := ?o14) 7 (by kernel_rfl) ?h14 ?r14
                case h14 => simp only [aT, aS, aZ]; rfl
                intro K hK
                have htl := HS.out.tlen
                have HTN : Hid (ts.length = n2) := HB8.out.rp.length
                refine op_call2v 55 _ _ _ Tryz.f55 (fun v w' => ∃ b' l' c' F', v = .slice b' l' c' ∧ RdP w' b' l' (put ts (zo, zo) false) F' ∧ Own wb8.heap.size w' F' ∧ Below wb8.heap.size wb8 w' ∧ Capd b' l' c') rfl rfl Tryz.func55 (by kernel_rfl) (by kernel_rfl) ((l5Put_any b2 n2 c2 ts (zo, zo) G wb8 HB8.out.rp (by have := HTN.out; have e : ts.length ≤ kk := htl; omega) (inb_at HS.out.inb HTN.out) HZ.out).mono (by intro e w' hh; obtain ⟨b', l', c', F', rfl, r1, r2, r3, r4⟩ := hh; exact ⟨_, rfl, b', l', c', F', rfl, r1, r2, r3, r4⟩)) ?_
                rintro v wb9 ⟨bq, nq, cq, Gq, rfl, r1, r2, r3, r4⟩
                have lL : L < wb8.heap.size := HB8.out.loc.lt
                have lw : w.heap.size < wb8.heap.size := HB8.out.held.res.lt
                have HP : Hid (RdP wb9 bq nq (put ts (zo, zo) false) Gq ∧ Capd bq nq cq ∧ Own (w.heap.size + 1) wb9 Gq ∧ (∀ b ∈ F, b ∉ Gq) ∧ L ∉ Gq ∧ GrA (w.heap.size + 1) L (.slice b1 n1 c1) n1 xs Gq wb9) := ⟨r1, r4, r2.mono (by omega), (fun b hb hx => by have h1 := r2.ge _ hx; have h2 := HB8.out.rl.lt b hb; omega), fun hx => by have h1 := r2.ge _ hx; omega, (HB8.out.gr.fresh (fun b hb => r2.ge b hb)).below r3⟩
                have HB9 : Hid (LocG w q a len cap zs ib6 hb6 L id x10 true x12 nx xs ts b1 n1 c1 b2 n2 c2 F G wb9) := HB8.out.below r3
                clear r1 r2 r3 r4 HB8 lL lw htl HTN
                refine ⟨_, by simp [Act.put]; rfl, hK _ _ ⟨trivial, ?_⟩⟩
                clear hK
                refine takeH (o := ?o15) 8 (.pointer (some ⟨L, 5, none⟩)) ?h15 ?r15
                case h15 => simp only [aT, aS, aZ]; rfl
                refine ⟨_, by simp [Act.put]; rfl, by kernel_rfl, by kernel_rfl, by kernel_rfl, fun _ _ _ h => h, (.inl ⟨rfl, fun W _ => by kernel_rfl⟩), trivial, ?_⟩
                refine onlyH (o := ?o16) 9 (by kernel_rfl) ?h16 ?r16
                case h16 => simp only [aT, aS, aZ]; rfl
                intro K hK
                have c5 := HB9.out.loc.cell 5
                have f5 := HB9.out.loc.frozen 5
                simp only [aT, aS, aZ] at c5
                have HDA : Hid (LocG w q a len cap zs ib6 hb6 L id x10 true x12 nx xs (put ts (zo, zo) false) b1 n1 c1 bq nq cq F Gq (wb9.setCell ⟨L, 5, none⟩ (.slice bq nq cq))) := HB9.out.put hq HA.out HP.out.1 HP.out.2.1 HP.out.2.2.1 HP.out.2.2.2.1 HP.out.2.2.2.2.1 HP.out.2.2.2.2.2
                refine op_skip (wb9.setCell ⟨L, 5, none⟩ (.slice bq nq cq)) rfl (by go_simp) ⟨_, by simp [Act.put]; rfl, hK _ _ ⟨trivial, ?_⟩⟩
                clear hK c5 f5 HB9 HP
                refine wpAnyH_done (by kernel_rfl) ?_ _
                have HI2 : Hid ((Ag.mk id x10 true x12 xs (put ts (zo, zo) false) nx).small 6 (kk + 1)) := ⟨HS.out.full, put_inb HS.out.inb HZ.out, HS.out.len, by have := put_length ts (zo, zo) false; have e9 : ts.length ≤ kk := HS.out.tlen; show (put ts (zo, zo) false).length ≤ _; omega⟩
                obtain ⟨WA, hWA⟩ : ∃ W, W = (wb9.setCell ⟨L, 5, none⟩ (.slice bq nq cq)) := ⟨_, rfl⟩
                rw [← hWA] at HDA ⊢
                clear hWA
                go_wp2
                go_roundw
                case rel => exact ⟨kk + 1, put ts (zo, zo) false, bq, nq, cq, Gq, ib6, hb6, by omega, by go_num, HDA, HI2⟩
                case measure => simp [intOf]; omega
              case s12 =>
                intro K hK
                refine op_call1 29 _ _ Tryz.f29 (fun v w' => v = .agg #[.int .i64 zo, .int .i64 zo] ∧ Below wb6.heap.size wb6 w') rfl rfl Tryz.func29 (by kernel_rfl) (by kernel_rfl) ((l8One_any zo wb6).mono (by rintro e w' ⟨rfl, r⟩; exact ⟨_, rfl, rfl, r⟩)) ?_
                rintro v wb11 ⟨rfl, bz⟩
                have HB11 : Hid (LocG w q a len cap zs ib6 hb6 L id x10 true x12 nx xs ts b1 n1 c1 b2 n2 c2 F G wb11) := HB6.out.below bz
                clear bz HB6
                refine ⟨_, by simp [Act.put]; rfl, hK _ _ ⟨trivial, ?_⟩⟩
                clear hK
                refine onlyH (o := ?o17) 1 (by kernel_rfl) ?h17 ?r17
                case h17 => simp only [aT, aS, aZ]; rfl
                intro K hK
                have c5 := HB11.out.loc.cell 5
                simp only [aT, aS, aZ] at c5
                refine op_value (.slice b2 n2 c2) rfl (by go_simp) ⟨_, by simp [Act.put]; rfl, hK _ _ ⟨trivial, ?_⟩⟩
                clear hK c5
                refine onlyH (o := ?o18) 7 (by kernel_rfl) ?h18 ?r18
                case h18 => simp only [aT, aS, aZ]; rfl
                intro K hK
                have htl := HS.out.tlen
                have HTN : Hid (ts.length = n2) := HB11.out.rp.length
                refine op_call2v 55 _ _ _ Tryz.f55 (fun v w' => ∃ b' l' c' F', v = .slice b' l' c' ∧ RdP w' b' l' (put ts (zo, zo) false) F' ∧ Own wb11.heap.size w' F' ∧ Below wb11.heap.size wb11 w' ∧ Capd b' l' c') rfl rfl Tryz.func55 (by kernel_rfl) (by kernel_rfl) ((l5Put_any b2 n2 c2 ts (zo, zo) G wb11 HB11.out.rp (by have := HTN.out; have e : ts.length ≤ kk := htl; omega) (inb_at HS.out.inb HTN.out) HZ.out).mono (by intro e w' hh; obtain ⟨b', l', c', F', rfl, r1, r2, r3, r4⟩ := hh; exact ⟨_, rfl, b', l', c', F', rfl, r1, r2, r3, r4⟩)) ?_
                rintro v wb13 ⟨bq, nq, cq, Gq, rfl, r1, r2, r3, r4⟩
                have lL : L < wb11.heap.size := HB11.out.loc.lt
                have lw : w.heap.size < wb11.heap.size := HB11.out.held.res.lt
                have HP : Hid (RdP wb13 bq nq (put ts (zo, zo) false) Gq ∧ Capd bq nq cq ∧ Own (w.heap.size + 1) wb13 Gq ∧ (∀ b ∈ F, b ∉ Gq) ∧ L ∉ Gq ∧ GrA (w.heap.size + 1) L (.slice b1 n1 c1) n1 xs Gq wb13) := ⟨r1, r4, r2.mono (by omega), (fun b hb hx => by have h1 := r2.ge _ hx; have h2 := HB11.out.rl.lt b hb; omega), fun hx => by have h1 := r2.ge _ hx; omega, (HB11.out.gr.fresh (fun b hb => r2.ge b hb)).below r3⟩
                have HB13 : Hid (LocG w q a len cap zs ib6 hb6 L id x10 true x12 nx xs ts b1 n1 c1 b2 n2 c2 F G wb13) := HB11.out.below r3
                clear r1 r2 r3 r4 HB11 lL lw htl HTN
                refine ⟨_, by simp [Act.put]; rfl, hK _ _ ⟨trivial, ?_⟩⟩
                clear hK
                refine takeH (o := ?o19) 8 (.pointer (some ⟨L, 5, none⟩)) ?h19 ?r19
                case h19 => simp only [aT, aS, aZ]; rfl
                refine ⟨_, by simp [Act.put]; rfl, by kernel_rfl, by kernel_rfl, by kernel_rfl, fun _ _ _ h => h, (.inl ⟨rfl, fun W _ => by kernel_rfl⟩), trivial, ?_⟩
                refine onlyH (o := ?o20) 9 (by kernel_rfl) ?h20 ?r20
                case h20 => simp only [aT, aS, aZ]; rfl
                intro K hK
                have c5 := HB13.out.loc.cell 5
                have f5 := HB13.out.loc.frozen 5
                simp only [aT, aS, aZ] at c5
                have HDA : Hid (LocG w q a len cap zs ib6 hb6 L id x10 true x12 nx xs (put ts (zo, zo) false) b1 n1 c1 bq nq cq F Gq (wb13.setCell ⟨L, 5, none⟩ (.slice bq nq cq))) := HB13.out.put hq HA.out HP.out.1 HP.out.2.1 HP.out.2.2.1 HP.out.2.2.2.1 HP.out.2.2.2.2.1 HP.out.2.2.2.2.2
                refine op_skip (wb13.setCell ⟨L, 5, none⟩ (.slice bq nq cq)) rfl (by go_simp) ⟨_, by simp [Act.put]; rfl, hK _ _ ⟨trivial, ?_⟩⟩
                clear hK c5 f5 HB13 HP
                refine wpAnyH_done (by kernel_rfl) ?_ _
                have HI2 : Hid ((Ag.mk id x10 true x12 xs (put ts (zo, zo) false) nx).small 6 (kk + 1)) := ⟨HS.out.full, put_inb HS.out.inb HZ.out, HS.out.len, by have := put_length ts (zo, zo) false; have e9 : ts.length ≤ kk := HS.out.tlen; show (put ts (zo, zo) false).length ≤ _; omega⟩
                obtain ⟨WA, hWA⟩ : ∃ W, W = (wb13.setCell ⟨L, 5, none⟩ (.slice bq nq cq)) := ⟨_, rfl⟩
                rw [← hWA] at HDA ⊢
                clear hWA
                go_wp2
                go_roundw
                case rel => exact ⟨kk + 1, put ts (zo, zo) false, bq, nq, cq, Gq, ib6, hb6, by omega, by go_num, HDA, HI2⟩
                case measure => simp [intOf]; omega
          · have HS2 : Hid ((Ag.mk id x10 true x12 xs ts nx).small 6 2) := ⟨HS.out.full, HS.out.inb, HS.out.len, by have := HS.out.tlen; omega⟩
            have hcc : (decide ((kk : Int) < mm) && decide (m > 0)) = false := by
              by_cases e1 : (kk : Int) < mm
              · have : ¬ m > 0 := fun e2 => hgo ⟨e1, e2⟩
                simp [this]
              · simp [e1]
            by_cases e1 : (kk : Int) < mm
            · have hcd2 : decide ((kk : Int) < mm) = true := decT e1
              have hcm : decide (m > 0) = false := dec_false (fun e2 => hgo ⟨e1, e2⟩)
              clear hcc HS
              go_wp2_with fail
              refine (l1Below_any q a len cap zs i14 h14 8 _ HD.out.held.cur hlen (by omega) (by omega)).mono ?_
              rintro e w15 ⟨x15, i15, h15, rfl, _, _, C15, g15⟩
              have HF : Hid (LocG w q a len cap zs i15 h15 L id x10 true x12 nx xs ts b1 n1 c1 b2 n2 c2 F G w15) := HD.out.next hq C15 g15
              clear C15 g15 HD
              have c6' := HF.out.loc.cell 6
              have fz6 := HF.out.loc.frozen 6
              simp only [aT, aS, aZ] at c6'
              go_wp2_with (first | go_skip | (with_reducible refine stopLoad 27 rfl ?_))
              have HE0 := HF.out.set hq HA.out 6 (.int .i64 x15) (id' := id) (ep' := x10) (lv' := true) (gr' := x12) (nx' := x15) rfl
              obtain ⟨WE, hWE⟩ : ∃ W, W = w15.setCell ⟨L, 6, none⟩ (.int .i64 x15) := ⟨_, rfl⟩
              rw [← hWE] at HE0 ⊢
              have HE : Hid (LocG w q a len cap zs i15 h15 L id x10 true x12 x15 xs ts b1 n1 c1 b2 n2 c2 F G WE) := HE0
              have HS3 : Hid ((Ag.mk id x10 true x12 xs ts x15).small 6 2) := ⟨HS2.out.full, HS2.out.inb, HS2.out.len, HS2.out.tlen⟩
              clear HE0 hWE HF c6' fz6 HS2
              refine load_known 27 L _ 27 _ HE.out.loc rfl rfl rfl Tryz.underlying27 rfl infoAgG ?_
              go_wp2_with (first | go_skip | (with_reducible refine stopStore 27 rfl ?_))
              refine store_known 27 w.heap.size _ #[.int .i64 id, .int .i64 x10, .bool true, .int .i64 x12, .slice b1 n1 c1, .slice b2 n2 c2, .int .i64 x15] 27 HE.out.held.res rfl rfl rfl rfl infoAgG rfl (by simp [Value.oneCell']) ?_
              go_wp2
              refine bodyPost_ret (results_cell_row Tryz.results59 _ _ w.heap.size _ _ (0, 0) _ rfl HE.out.held.res.setRow Tryz.underlying27 rfl infoAgG) rfl ?_
              exact HE.out.done HS3.out hq HA.out
            · have hcd2 : decide ((kk : Int) < mm) = false := dec_false e1
              clear hcc HS
              go_wp2_with fail
              refine (l1Below_any q a len cap zs i14 h14 8 _ HD.out.held.cur hlen (by omega) (by omega)).mono ?_
              rintro e w15 ⟨x15, i15, h15, rfl, _, _, C15, g15⟩
              have HF : Hid (LocG w q a len cap zs i15 h15 L id x10 true x12 nx xs ts b1 n1 c1 b2 n2 c2 F G w15) := HD.out.next hq C15 g15
              clear C15 g15 HD
              have c6' := HF.out.loc.cell 6
              have fz6 := HF.out.loc.frozen 6
              simp only [aT, aS, aZ] at c6'
              go_wp2_with (first | go_skip | (with_reducible refine stopLoad 27 rfl ?_))
              have HE0 := HF.out.set hq HA.out 6 (.int .i64 x15) (id' := id) (ep' := x10) (lv' := true) (gr' := x12) (nx' := x15) rfl
              obtain ⟨WE, hWE⟩ : ∃ W, W = w15.setCell ⟨L, 6, none⟩ (.int .i64 x15) := ⟨_, rfl⟩
              rw [← hWE] at HE0 ⊢
              have HE : Hid (LocG w q a len cap zs i15 h15 L id x10 true x12 x15 xs ts b1 n1 c1 b2 n2 c2 F G WE) := HE0
              have HS3 : Hid ((Ag.mk id x10 true x12 xs ts x15).small 6 2) := ⟨HS2.out.full, HS2.out.inb, HS2.out.len, HS2.out.tlen⟩
              clear HE0 hWE HF c6' fz6 HS2
              refine load_known 27 L _ 27 _ HE.out.loc rfl rfl rfl Tryz.underlying27 rfl infoAgG ?_
              go_wp2_with (first | go_skip | (with_reducible refine stopStore 27 rfl ?_))
              refine store_known 27 w.heap.size _ #[.int .i64 id, .int .i64 x10, .bool true, .int .i64 x12, .slice b1 n1 c1, .slice b2 n2 c2, .int .i64 x15] 27 HE.out.held.res rfl rfl rfl rfl infoAgG rfl (by simp [Value.oneCell']) ?_
              go_wp2
              refine bodyPost_ret (results_cell_row Tryz.results59 _ _ w.heap.size _ _ (0, 0) _ rfl HE.out.held.res.setRow Tryz.underlying27 rfl infoAgG) rfl ?_
              exact HE.out.done HS3.out hq HA.out
      · have HE : Hid (LocG w q a len cap zs i11 h11 L id x10 lv gr nx xs ts b1 n1 c1 b2 n2 c2 F G w11) := HF.out
        have HSF : Hid ((Ag.mk id x10 lv gr xs ts nx).small 6 0) := HSE.out
        clear HF HSE
        go_wp2_with fail
        refine (l1Below_any q a len cap zs i11 h11 3 _ HE.out.held.cur hlen (by omega) (by omega)).mono ?_
        rintro e w13 ⟨mm, i13, h13, rfl, mm0, mm1, C13, g13⟩
        have HF : Hid (LocG w q a len cap zs i13 h13 L id x10 lv gr nx xs ts b1 n1 c1 b2 n2 c2 F G w13) := HE.out.next hq C13 g13
        clear C13 g13 HE
        go_wp2
        go_loopw [9] (fun i wr => ∃ (k : Nat) (ts : Sp) (b2 : Option Addr) (n2 c2 : Nat) (G : List Nat) (i' h' : Int), (k : Int) ≤ mm ∧ i = .int .i64 k ∧ Hid (LocG w q a len cap zs i' h' L id x10 lv gr nx xs ts b1 n1 c1 b2 n2 c2 F G wr) ∧ Hid ((Ag.mk id x10 lv gr xs ts nx).small 6 k)) (fun i _ => (mm - intOf i).toNat)
        case atStart => exact ⟨0, ts, b2, n2, c2, G, i13, h13, by omega, rfl, HF, HSF⟩
        case round =>
          clear HF HSF
          obtain ⟨kk, ts, b2, n2, c2, G, i14, h14, hkk, rfl, HD, HS⟩ := hrel
          by_cases hgo : (kk : Int) < mm ∧ 0 < m
          · obtain ⟨hlt2, hm0⟩ := hgo
            have hcd2 : decide ((kk : Int) < mm) = true := decT hlt2
            have hcm : decide (m > 0) = true := decT hm0
            go_wp2
            obtain ⟨WD, hWD⟩ : ∃ W, W = wr.drew := ⟨_, rfl⟩
            have HDd0 := HD.out.drew
            rw [← hWD] at HDd0
            have HDd : Hid (LocG w q a len cap zs i14 h14 L id x10 lv gr nx xs ts b1 n1 c1 b2 n2 c2 F G WD) := HDd0
            clear HDd0 HD
            refine wp_region_held (S := fun _ => True) (by kernel_rfl) ?_
            change wpAnyH _ _ _ _ _ _ _ _ (World.drew _)
            rw [← hWD]
            clear hWD
            refine takeH (o := ?o21) 0 (.pointer (some ⟨L, 5, none⟩)) ?h21 ?r21
            case h21 => simp only [aT, aZ]; rfl
            refine ⟨_, by simp [Act.put]; rfl, by kernel_rfl, by kernel_rfl, by kernel_rfl, fun _ _ _ h => h, (.inl ⟨rfl, fun W _ => by kernel_rfl⟩), trivial, ?_⟩
            refine takeH (o := ?o22) 2 (.pointer (some ⟨q, 0, none⟩)) ?h22 ?r22
            case h22 => simp only [aT, aS, aZ]; rfl
            refine ⟨_, by simp [Act.put]; rfl, by kernel_rfl, by kernel_rfl, by kernel_rfl, fun _ _ _ h => h, (.inl ⟨rfl, fun W _ => by kernel_rfl⟩), trivial, ?_⟩
            refine takeH (o := ?o23) 3 (.int .i64 m) ?h23 ?r23
            case h23 => simp only [aT, aS, aZ]; rfl
            refine ⟨_, by simp [Act.put]; rfl, by kernel_rfl, by kernel_rfl, by kernel_rfl, fun _ _ _ h => h, (.inl ⟨rfl, fun W _ => by kernel_rfl⟩), trivial, ?_⟩
            refine twoH (o := ?o24) (o' := ?p24) 1 4 (by kernel_rfl) ?h24 ?g24 ?r24 ?s24
            case h24 => simp only [aT, aS, aZ]; rfl
            case g24 => simp only [aT, aS, aZ]; rfl
            case r24 =>
              intro K hK
              have c5 := HDd.out.loc.cell 5
              simp only [aT, aS, aZ] at c5
              refine op_value (.slice b2 n2 c2) rfl (by go_simp) ⟨_, by simp [Act.put]; rfl, hK _ _ ⟨trivial, ?_⟩⟩
              clear hK c5
              refine onlyH (o := ?o25) 4 (by kernel_rfl) ?h25 ?r25
              case h25 => simp only [aT, aS, aZ]; rfl
              intro K hK
              refine op_call2v 28 _ _ _ Tryz.f28 (fun v w' => ∃ x i' h', v = .int .i64 x ∧ 0 ≤ x ∧ x < m ∧ Cur w' q a len cap zs i' h' ∧ WD.grownBy w' (some q)) rfl rfl Tryz.func28 (by kernel_rfl) (by kernel_rfl) ((l1Below_any q a len cap zs i14 h14 m WD HDd.out.held.cur hlen (by omega) (by omega)).mono (by rintro e w' ⟨x, i', h', rfl, r⟩; exact ⟨_, rfl, x, i', h', rfl, r⟩)) ?_
              rintro v wb2 ⟨z, ib2, hb2, rfl, z0, z1, C9, g9⟩
              have HB2 : Hid (LocG w q a len cap zs ib2 hb2 L id x10 lv gr nx xs ts b1 n1 c1 b2 n2 c2 F G wb2) := HDd.out.next hq C9 g9
              obtain ⟨zo, hzo⟩ : ∃ n, n = 1 + z := ⟨_, rfl⟩
              have hwz : IntKind.i64.wrap (1 + z) = zo := by rw [hzo]; exact wrapD (by omega) (by omega)
              have HZ : Hid (InB (zo, zo)) := ⟨⟨by show 0 ≤ zo; omega, by show zo ≤ 9999; omega⟩, by show 0 ≤ zo; omega, by show zo ≤ 9999; omega⟩
              clear C9 g9 HDd
              refine ⟨_, by simp [Act.put]; rfl, hK _ _ ⟨trivial, ?_⟩⟩
              clear hK
              refine takeH (o := ?o26) 5 (.int .i64 zo) ?h26 ?r26
              case h26 => simp only [aT, aS, aZ]; rfl
              refine ⟨_, by simp [Act.put]; rfl, by kernel_rfl, by kernel_rfl, by kernel_rfl, fun _ _ _ h => h, (.inl ⟨rfl, fun W _ => by first | (go_simp; done) | (go_simp; exact hwz)⟩), trivial, ?_⟩
              refine onlyH (o := ?o27) 6 (by kernel_rfl) ?h27 ?r27
              case h27 => simp only [aT, aS, aZ]; rfl
              intro K hK
              refine op_call1 29 _ _ Tryz.f29 (fun v w' => v = .agg #[.int .i64 zo, .int .i64 zo] ∧ Below wb2.heap.size wb2 w') rfl rfl Tryz.func29 (by kernel_rfl) (by kernel_rfl) ((l8One_any zo wb2).mono (by rintro e w' ⟨rfl, r⟩; exact ⟨_, rfl, rfl, r⟩)) ?_
              rintro v wb3 ⟨rfl, bz⟩
              have HB3 : Hid (LocG w q a len cap zs ib2 hb2 L id x10 lv gr nx xs ts b1 n1 c1 b2 n2 c2 F G wb3) := HB2.out.below bz
              clear bz HB2
              refine ⟨_, by simp [Act.put]; rfl, hK _ _ ⟨trivial, ?_⟩⟩
              clear hK
              refine onlyH (o := ?o28) 7 (by kernel_rfl) ?h28 ?r28
              case h28 => simp only [aT, aS, aZ]; rfl
              intro K hK
              have htl := HS.out.tlen
              have HTN : Hid (ts.length = n2) := HB3.out.rp.length
              refine op_call2v 55 _ _ _ Tryz.f55 (fun v w' => ∃ b' l' c' F', v = .slice b' l' c' ∧ RdP w' b' l' (put ts (zo, zo) false) F' ∧ Own wb3.heap.size w' F' ∧ Below wb3.heap.size wb3 w' ∧ Capd b' l' c') rfl rfl Tryz.func55 (by kernel_rfl) (by kernel_rfl) ((l5Put_any b2 n2 c2 ts (zo, zo) G wb3 HB3.out.rp (by have := HTN.out; have e : ts.length ≤ kk := htl; omega) (inb_at HS.out.inb HTN.out) HZ.out).mono (by intro e w' hh; obtain ⟨b', l', c', F', rfl, r1, r2, r3, r4⟩ := hh; exact ⟨_, rfl, b', l', c', F', rfl, r1, r2, r3, r4⟩)) ?_
              rintro v wb4 ⟨bq, nq, cq, Gq, rfl, r1, r2, r3, r4⟩
              have lL : L < wb3.heap.size := HB3.out.loc.lt
              have lw : w.heap.size < wb3.heap.size := HB3.out.held.res.lt
              have HP : Hid (RdP wb4 bq nq (put ts (zo, zo) false) Gq ∧ Capd bq nq cq ∧ Own (w.heap.size + 1) wb4 Gq ∧ (∀ b ∈ F, b ∉ Gq) ∧ L ∉ Gq ∧ GrA (w.heap.size + 1) L (.slice b1 n1 c1) n1 xs Gq wb4) := ⟨r1, r4, r2.mono (by omega), (fun b hb hx => by have h1 := r2.ge _ hx; have h2 := HB3.out.rl.lt b hb; omega), fun hx => by have h1 := r2.ge _ hx; omega, (HB3.out.gr.fresh (fun b hb => r2.ge b hb)).below r3⟩
              have HB4 : Hid (LocG w q a len cap zs ib2 hb2 L id x10 lv gr nx xs ts b1 n1 c1 b2 n2 c2 F G wb4) := HB3.out.below r3
              clear r1 r2 r3 r4 HB3 lL lw htl HTN
              refine ⟨_, by simp [Act.put]; rfl, hK _ _ ⟨trivial, ?_⟩⟩
              clear hK
              refine takeH (o := ?o29) 8 (.pointer (some ⟨L, 5, none⟩)) ?h29 ?r29
              case h29 => simp only [aT, aS, aZ]; rfl
              refine ⟨_, by simp [Act.put]; rfl, by kernel_rfl, by kernel_rfl, by kernel_rfl, fun _ _ _ h => h, (.inl ⟨rfl, fun W _ => by kernel_rfl⟩), trivial, ?_⟩
              refine onlyH (o := ?o30) 9 (by kernel_rfl) ?h30 ?r30
              case h30 => simp only [aT, aS, aZ]; rfl
              intro K hK
              have c5 := HB4.out.loc.cell 5
              have f5 := HB4.out.loc.frozen 5
              simp only [aT, aS, aZ] at c5
              have HDA : Hid (LocG w q a len cap zs ib2 hb2 L id x10 lv gr nx xs (put ts (zo, zo) false) b1 n1 c1 bq nq cq F Gq (wb4.setCell ⟨L, 5, none⟩ (.slice bq nq cq))) := HB4.out.put hq HA.out HP.out.1 HP.out.2.1 HP.out.2.2.1 HP.out.2.2.2.1 HP.out.2.2.2.2.1 HP.out.2.2.2.2.2
              refine op_skip (wb4.setCell ⟨L, 5, none⟩ (.slice bq nq cq)) rfl (by go_simp) ⟨_, by simp [Act.put]; rfl, hK _ _ ⟨trivial, ?_⟩⟩
              clear hK c5 f5 HB4 HP
              refine wpAnyH_done (by kernel_rfl) ?_ _
              have HI2 : Hid ((Ag.mk id x10 lv gr xs (put ts (zo, zo) false) nx).small 6 (kk + 1)) := ⟨HS.out.full, put_inb HS.out.inb HZ.out, HS.out.len, by have := put_length ts (zo, zo) false; have e9 : ts.length ≤ kk := HS.out.tlen; show (put ts (zo, zo) false).length ≤ _; omega⟩
              obtain ⟨WA, hWA⟩ : ∃ W, W = (wb4.setCell ⟨L, 5, none⟩ (.slice bq nq cq)) := ⟨_, rfl⟩
              rw [← hWA] at HDA ⊢
              clear hWA
              go_wp2
              go_roundw
              case rel => exact ⟨kk + 1, put ts (zo, zo) false, bq, nq, cq, Gq, ib2, hb2, by omega, by go_num, HDA, HI2⟩
              case measure => simp [intOf]; omega
            case s24 =>
              intro K hK
              refine op_call2v 28 _ _ _ Tryz.f28 (fun v w' => ∃ x i' h', v = .int .i64 x ∧ 0 ≤ x ∧ x < m ∧ Cur w' q a len cap zs i' h' ∧ WD.grownBy w' (some q)) rfl rfl Tryz.func28 (by kernel_rfl) (by kernel_rfl) ((l1Below_any q a len cap zs i14 h14 m WD HDd.out.held.cur hlen (by omega) (by omega)).mono (by rintro e w' ⟨x, i', h', rfl, r⟩; exact ⟨_, rfl, x, i', h', rfl, r⟩)) ?_
              rintro v wb6 ⟨z, ib6, hb6, rfl, z0, z1, C9, g9⟩
              have HB6 : Hid (LocG w q a len cap zs ib6 hb6 L id x10 lv gr nx xs ts b1 n1 c1 b2 n2 c2 F G wb6) := HDd.out.next hq C9 g9
              obtain ⟨zo, hzo⟩ : ∃ n, n = 1 + z := ⟨_, rfl⟩
              have hwz : IntKind.i64.wrap (1 + z) = zo := by rw [hzo]; exact wrapD (by omega) (by omega)
              have HZ : Hid (InB (zo, zo)) := ⟨⟨by show 0 ≤ zo; omega, by show zo ≤ 9999; omega⟩, by show 0 ≤ zo; omega, by show zo ≤ 9999; omega⟩
              clear C9 g9 HDd
              refine ⟨_, by simp [Act.put]; rfl, hK _ _ ⟨trivial, ?_⟩⟩
              clear hK
              refine takeH (o := ?o31) 5 (.int .i64 zo) ?h31 ?r31
              case h31 => simp only [aT, aS, aZ]; rfl
              refine ⟨_, by simp [Act.put]; rfl, by kernel_rfl, by kernel_rfl, by kernel_rfl, fun _ _ _ h => h, (.inl ⟨rfl, fun W _ => by first | (go_simp; done) | (go_simp; exact hwz)⟩), trivial, ?_⟩
              refine twoH (o := ?o32) (o' := ?p32) 1 6 (by kernel_rfl) ?h32 ?g32 ?r32 ?s32
              case h32 => simp only [aT, aS, aZ]; rfl
              case g32 => simp only [aT, aS, aZ]; rfl
              case r32 =>
                intro K hK
                have c5 := HB6.out.loc.cell 5
                simp only [aT, aS, aZ] at c5
                refine op_value (.slice b2 n2 c2) rfl (by go_simp) ⟨_, by simp [Act.put]; rfl, hK _ _ ⟨trivial, ?_⟩⟩
                clear hK c5
                refine onlyH (o := ?o33) 6 (by kernel_rfl) ?h33 ?r33
                case h33 => simp only [aT, aS, aZ]; rfl
                intro K hK
                refine op_call1 29 _ _ Tryz.f29 (fun v w' => v = .agg #[.int .i64 zo, .int .i64 zo] ∧ Below wb6.heap.size wb6 w') rfl rfl Tryz.func29 (by kernel_rfl) (by kernel_rfl) ((l8One_any zo wb6).mono (by rintro e w' ⟨rfl, r⟩; exact ⟨_, rfl, rfl, r⟩)) ?_
                rintro v wb8 ⟨rfl, bz⟩
                have HB8 : Hid (LocG w q a len cap zs ib6 hb6 L id x10 lv gr nx xs ts b1 n1 c1 b2 n2 c2 F G wb8) := HB6.out.below bz
                clear bz HB6
                refine ⟨_, by simp [Act.put]; rfl, hK _ _ ⟨trivial, ?_⟩⟩
                clear hK
                refine onlyH (o := ?o34) 7 (by kernel_rfl) ?h34 ?r34
                case h34 => simp only [aT, aS, aZ]; rfl
                intro K hK
                have htl := HS.out.tlen
                have HTN : Hid (ts.length = n2) := HB8.out.rp.length
                refine op_call2v 55 _ _ _ Tryz.f55 (fun v w' => ∃ b' l' c' F', v = .slice b' l' c' ∧ RdP w' b' l' (put ts (zo, zo) false) F' ∧ Own wb8.heap.size w' F' ∧ Below wb8.heap.size wb8 w' ∧ Capd b' l' c') rfl rfl Tryz.func55 (by kernel_rfl) (by kernel_rfl) ((l5Put_any b2 n2 c2 ts (zo, zo) G wb8 HB8.out.rp (by have := HTN.out; have e : ts.length ≤ kk := htl; omega) (inb_at HS.out.inb HTN.out) HZ.out).mono (by intro e w' hh; obtain ⟨b', l', c', F', rfl, r1, r2, r3, r4⟩ := hh; exact ⟨_, rfl, b', l', c', F', rfl, r1, r2, r3, r4⟩)) ?_
                rintro v wb9 ⟨bq, nq, cq, Gq, rfl, r1, r2, r3, r4⟩
                have lL : L < wb8.heap.size := HB8.out.loc.lt
                have lw : w.heap.size < wb8.heap.size := HB8.out.held.res.lt
                have HP : Hid (RdP wb9 bq nq (put ts (zo, zo) false) Gq ∧ Capd bq nq cq ∧ Own (w.heap.size + 1) wb9 Gq ∧ (∀ b ∈ F, b ∉ Gq) ∧ L ∉ Gq ∧ GrA (w.heap.size + 1) L (.slice b1 n1 c1) n1 xs Gq wb9) := ⟨r1, r4, r2.mono (by omega), (fun b hb hx => by have h1 := r2.ge _ hx; have h2 := HB8.out.rl.lt b hb; omega), fun hx => by have h1 := r2.ge _ hx; omega, (HB8.out.gr.fresh (fun b hb => r2.ge b hb)).below r3⟩
                have HB9 : Hid (LocG w q a len cap zs ib6 hb6 L id x10 lv gr nx xs ts b1 n1 c1 b2 n2 c2 F G wb9) := HB8.out.below r3
                clear r1 r2 r3 r4 HB8 lL lw htl HTN
                refine ⟨_, by simp [Act.put]; rfl, hK _ _ ⟨trivial, ?_⟩⟩
                clear hK
                refine takeH (o := ?o35) 8 (.pointer (some ⟨L, 5, none⟩)) ?h35 ?r35
                case h35 => simp only [aT, aS, aZ]; rfl
                refine ⟨_, by simp [Act.put]; rfl, by kernel_rfl, by kernel_rfl, by kernel_rfl, fun _ _ _ h => h, (.inl ⟨rfl, fun W _ => by kernel_rfl⟩), trivial, ?_⟩
                refine onlyH (o := ?o36) 9 (by kernel_rfl) ?h36 ?r36
                case h36 => simp only [aT, aS, aZ]; rfl
                intro K hK
                have c5 := HB9.out.loc.cell 5
                have f5 := HB9.out.loc.frozen 5
                simp only [aT, aS, aZ] at c5
                have HDA : Hid (LocG w q a len cap zs ib6 hb6 L id x10 lv gr nx xs (put ts (zo, zo) false) b1 n1 c1 bq nq cq F Gq (wb9.setCell ⟨L, 5, none⟩ (.slice bq nq cq))) := HB9.out.put hq HA.out HP.out.1 HP.out.2.1 HP.out.2.2.1 HP.out.2.2.2.1 HP.out.2.2.2.2.1 HP.out.2.2.2.2.2
                refine op_skip (wb9.setCell ⟨L, 5, none⟩ (.slice bq nq cq)) rfl (by go_simp) ⟨_, by simp [Act.put]; rfl, hK _ _ ⟨trivial, ?_⟩⟩
                clear hK c5 f5 HB9 HP
                refine wpAnyH_done (by kernel_rfl) ?_ _
                have HI2 : Hid ((Ag.mk id x10 lv gr xs (put ts (zo, zo) false) nx).small 6 (kk + 1)) := ⟨HS.out.full, put_inb HS.out.inb HZ.out, HS.out.len, by have := put_length ts (zo, zo) false; have e9 : ts.length ≤ kk := HS.out.tlen; show (put ts (zo, zo) false).length ≤ _; omega⟩
                obtain ⟨WA, hWA⟩ : ∃ W, W = (wb9.setCell ⟨L, 5, none⟩ (.slice bq nq cq)) := ⟨_, rfl⟩
                rw [← hWA] at HDA ⊢
                clear hWA
                go_wp2
                go_roundw
                case rel => exact ⟨kk + 1, put ts (zo, zo) false, bq, nq, cq, Gq, ib6, hb6, by omega, by go_num, HDA, HI2⟩
                case measure => simp [intOf]; omega
              case s32 =>
                intro K hK
                refine op_call1 29 _ _ Tryz.f29 (fun v w' => v = .agg #[.int .i64 zo, .int .i64 zo] ∧ Below wb6.heap.size wb6 w') rfl rfl Tryz.func29 (by kernel_rfl) (by kernel_rfl) ((l8One_any zo wb6).mono (by rintro e w' ⟨rfl, r⟩; exact ⟨_, rfl, rfl, r⟩)) ?_
                rintro v wb11 ⟨rfl, bz⟩
                have HB11 : Hid (LocG w q a len cap zs ib6 hb6 L id x10 lv gr nx xs ts b1 n1 c1 b2 n2 c2 F G wb11) := HB6.out.below bz
                clear bz HB6
                refine ⟨_, by simp [Act.put]; rfl, hK _ _ ⟨trivial, ?_⟩⟩
                clear hK
                refine onlyH (o := ?o37) 1 (by kernel_rfl) ?h37 ?r37
                case h37 => simp only [aT, aS, aZ]; rfl
                intro K hK
                have c5 := HB11.out.loc.cell 5
                simp only [aT, aS, aZ] at c5
                refine op_value (.slice b2 n2 c2) rfl (by go_simp) ⟨_, by simp [Act.put]; rfl, hK _ _ ⟨trivial, ?_⟩⟩
                clear hK c5
                refine onlyH (o := ?o38) 7 (by kernel_rfl) ?h38 ?r38
                case h38 => simp only [aT, aS, aZ]; rfl
                intro K hK
                have htl := HS.out.tlen
                have HTN : Hid (ts.length = n2) := HB11.out.rp.length
                refine op_call2v 55 _ _ _ Tryz.f55 (fun v w' => ∃ b' l' c' F', v = .slice b' l' c' ∧ RdP w' b' l' (put ts (zo, zo) false) F' ∧ Own wb11.heap.size w' F' ∧ Below wb11.heap.size wb11 w' ∧ Capd b' l' c') rfl rfl Tryz.func55 (by kernel_rfl) (by kernel_rfl) ((l5Put_any b2 n2 c2 ts (zo, zo) G wb11 HB11.out.rp (by have := HTN.out; have e : ts.length ≤ kk := htl; omega) (inb_at HS.out.inb HTN.out) HZ.out).mono (by intro e w' hh; obtain ⟨b', l', c', F', rfl, r1, r2, r3, r4⟩ := hh; exact ⟨_, rfl, b', l', c', F', rfl, r1, r2, r3, r4⟩)) ?_
                rintro v wb13 ⟨bq, nq, cq, Gq, rfl, r1, r2, r3, r4⟩
                have lL : L < wb11.heap.size := HB11.out.loc.lt
                have lw : w.heap.size < wb11.heap.size := HB11.out.held.res.lt
                have HP : Hid (RdP wb13 bq nq (put ts (zo, zo) false) Gq ∧ Capd bq nq cq ∧ Own (w.heap.size + 1) wb13 Gq ∧ (∀ b ∈ F, b ∉ Gq) ∧ L ∉ Gq ∧ GrA (w.heap.size + 1) L (.slice b1 n1 c1) n1 xs Gq wb13) := ⟨r1, r4, r2.mono (by omega), (fun b hb hx => by have h1 := r2.ge _ hx; have h2 := HB11.out.rl.lt b hb; omega), fun hx => by have h1 := r2.ge _ hx; omega, (HB11.out.gr.fresh (fun b hb => r2.ge b hb)).below r3⟩
                have HB13 : Hid (LocG w q a len cap zs ib6 hb6 L id x10 lv gr nx xs ts b1 n1 c1 b2 n2 c2 F G wb13) := HB11.out.below r3
                clear r1 r2 r3 r4 HB11 lL lw htl HTN
                refine ⟨_, by simp [Act.put]; rfl, hK _ _ ⟨trivial, ?_⟩⟩
                clear hK
                refine takeH (o := ?o39) 8 (.pointer (some ⟨L, 5, none⟩)) ?h39 ?r39
                case h39 => simp only [aT, aS, aZ]; rfl
                refine ⟨_, by simp [Act.put]; rfl, by kernel_rfl, by kernel_rfl, by kernel_rfl, fun _ _ _ h => h, (.inl ⟨rfl, fun W _ => by kernel_rfl⟩), trivial, ?_⟩
                refine onlyH (o := ?o40) 9 (by kernel_rfl) ?h40 ?r40
                case h40 => simp only [aT, aS, aZ]; rfl
                intro K hK
                have c5 := HB13.out.loc.cell 5
                have f5 := HB13.out.loc.frozen 5
                simp only [aT, aS, aZ] at c5
                have HDA : Hid (LocG w q a len cap zs ib6 hb6 L id x10 lv gr nx xs (put ts (zo, zo) false) b1 n1 c1 bq nq cq F Gq (wb13.setCell ⟨L, 5, none⟩ (.slice bq nq cq))) := HB13.out.put hq HA.out HP.out.1 HP.out.2.1 HP.out.2.2.1 HP.out.2.2.2.1 HP.out.2.2.2.2.1 HP.out.2.2.2.2.2
                refine op_skip (wb13.setCell ⟨L, 5, none⟩ (.slice bq nq cq)) rfl (by go_simp) ⟨_, by simp [Act.put]; rfl, hK _ _ ⟨trivial, ?_⟩⟩
                clear hK c5 f5 HB13 HP
                refine wpAnyH_done (by kernel_rfl) ?_ _
                have HI2 : Hid ((Ag.mk id x10 lv gr xs (put ts (zo, zo) false) nx).small 6 (kk + 1)) := ⟨HS.out.full, put_inb HS.out.inb HZ.out, HS.out.len, by have := put_length ts (zo, zo) false; have e9 : ts.length ≤ kk := HS.out.tlen; show (put ts (zo, zo) false).length ≤ _; omega⟩
                obtain ⟨WA, hWA⟩ : ∃ W, W = (wb13.setCell ⟨L, 5, none⟩ (.slice bq nq cq)) := ⟨_, rfl⟩
                rw [← hWA] at HDA ⊢
                clear hWA
                go_wp2
                go_roundw
                case rel => exact ⟨kk + 1, put ts (zo, zo) false, bq, nq, cq, Gq, ib6, hb6, by omega, by go_num, HDA, HI2⟩
                case measure => simp [intOf]; omega
          · have HS2 : Hid ((Ag.mk id x10 lv gr xs ts nx).small 6 2) := ⟨HS.out.full, HS.out.inb, HS.out.len, by have := HS.out.tlen; omega⟩
            have hcc : (decide ((kk : Int) < mm) && decide (m > 0)) = false := by
              by_cases e1 : (kk : Int) < mm
              · have : ¬ m > 0 := fun e2 => hgo ⟨e1, e2⟩
                simp [this]
              · simp [e1]
            by_cases e1 : (kk : Int) < mm
            · have hcd2 : decide ((kk : Int) < mm) = true := decT e1
              have hcm : decide (m > 0) = false := dec_false (fun e2 => hgo ⟨e1, e2⟩)
              clear hcc HS
              go_wp2_with fail
              refine (l1Below_any q a len cap zs i14 h14 8 _ HD.out.held.cur hlen (by omega) (by omega)).mono ?_
              rintro e w15 ⟨x15, i15, h15, rfl, _, _, C15, g15⟩
              have HF : Hid (LocG w q a len cap zs i15 h15 L id x10 lv gr nx xs ts b1 n1 c1 b2 n2 c2 F G w15) := HD.out.next hq C15 g15
              clear C15 g15 HD
              have c6' := HF.out.loc.cell 6
              have fz6 := HF.out.loc.frozen 6
              simp only [aT, aS, aZ] at c6'
              go_wp2_with (first | go_skip | (with_reducible refine stopLoad 27 rfl ?_))
              have HE0 := HF.out.set hq HA.out 6 (.int .i64 x15) (id' := id) (ep' := x10) (lv' := lv) (gr' := gr) (nx' := x15) rfl
              obtain ⟨WE, hWE⟩ : ∃ W, W = w15.setCell ⟨L, 6, none⟩ (.int .i64 x15) := ⟨_, rfl⟩
              rw [← hWE] at HE0 ⊢
              have HE : Hid (LocG w q a len cap zs i15 h15 L id x10 lv gr x15 xs ts b1 n1 c1 b2 n2 c2 F G WE) := HE0
              have HS3 : Hid ((Ag.mk id x10 lv gr xs ts x15).small 6 2) := ⟨HS2.out.full, HS2.out.inb, HS2.out.len, HS2.out.tlen⟩
              clear HE0 hWE HF c6' fz6 HS2
              refine load_known 27 L _ 27 _ HE.out.loc rfl rfl rfl Tryz.underlying27 rfl infoAgG ?_
              go_wp2_with (first | go_skip | (with_reducible refine stopStore 27 rfl ?_))
              refine store_known 27 w.heap.size _ #[.int .i64 id, .int .i64 x10, .bool lv, .int .i64 gr, .slice b1 n1 c1, .slice b2 n2 c2, .int .i64 x15] 27 HE.out.held.res rfl rfl rfl rfl infoAgG rfl (by simp [Value.oneCell']) ?_
              go_wp2
              refine bodyPost_ret (results_cell_row Tryz.results59 _ _ w.heap.size _ _ (0, 0) _ rfl HE.out.held.res.setRow Tryz.underlying27 rfl infoAgG) rfl ?_
              exact HE.out.done HS3.out hq HA.out
            · have hcd2 : decide ((kk : Int) < mm) = false := dec_false e1
              clear hcc HS
              go_wp2_with fail
              refine (l1Below_any q a len cap zs i14 h14 8 _ HD.out.held.cur hlen (by omega) (by omega)).mono ?_
              rintro e w15 ⟨x15, i15, h15, rfl, _, _, C15, g15⟩
              have HF : Hid (LocG w q a len cap zs i15 h15 L id x10 lv gr nx xs ts b1 n1 c1 b2 n2 c2 F G w15) := HD.out.next hq C15 g15
              clear C15 g15 HD
              have c6' := HF.out.loc.cell 6
              have fz6 := HF.out.loc.frozen 6
              simp only [aT, aS, aZ] at c6'
              go_wp2_with (first | go_skip | (with_reducible refine stopLoad 27 rfl ?_))
              have HE0 := HF.out.set hq HA.out 6 (.int .i64 x15) (id' := id) (ep' := x10) (lv' := lv) (gr' := gr) (nx' := x15) rfl
              obtain ⟨WE, hWE⟩ : ∃ W, W = w15.setCell ⟨L, 6, none⟩ (.int .i64 x15) := ⟨_, rfl⟩
              rw [← hWE] at HE0 ⊢
              have HE : Hid (LocG w q a len cap zs i15 h15 L id x10 lv gr x15 xs ts b1 n1 c1 b2 n2 c2 F G WE) := HE0
              have HS3 : Hid ((Ag.mk id x10 lv gr xs ts x15).small 6 2) := ⟨HS2.out.full, HS2.out.inb, HS2.out.len, HS2.out.tlen⟩
              clear HE0 hWE HF c6' fz6 HS2
              refine load_known 27 L _ 27 _ HE.out.loc rfl rfl rfl Tryz.underlying27 rfl infoAgG ?_
              go_wp2_with (first | go_skip | (with_reducible refine stopStore 27 rfl ?_))
              refine store_known 27 w.heap.size _ #[.int .i64 id, .int .i64 x10, .bool lv, .int .i64 gr, .slice b1 n1 c1, .slice b2 n2 c2, .int .i64 x15] 27 HE.out.held.res rfl rfl rfl rfl infoAgG rfl (by simp [Value.oneCell']) ?_
              go_wp2
              refine bodyPost_ret (results_cell_row Tryz.results59 _ _ w.heap.size _ _ (0, 0) _ rfl HE.out.held.res.setRow Tryz.underlying27 rfl infoAgG) rfl ?_
              exact HE.out.done HS3.out hq HA.out
end Go.Proofs.YtgkbhhlkaifnoaaGreatDoor
