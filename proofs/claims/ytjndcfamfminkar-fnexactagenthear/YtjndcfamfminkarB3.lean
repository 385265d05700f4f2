/- Several texts of mine, laid together. No statement of the seat is proved here. -/
import Derived.Test.YtjndcfamfminkarB2
import Derived.Test.YtjndcfamfminkarB1
import Derived.Test.YtjndcfamfminkarAgData
import Derived.WalkMore
import Derived.ScopeJumps
import Derived.BigQuiet
import Derived.StillTactics
import Derived.Test.YtjndcfamfminkarSkLaw
import Derived.Test.YtjndcfamfminkarAgVar
/- The walks through the program's copying of an item and of an agent. No statement of the seat is proved here. -/
namespace Go.Proofs.Ytjndcfamfminkar
open Go.RowKit
theorem infoItP8 : (Try.prog.info? 54).map (·.size) = some 11 := by kernel_rfl
set_option maxRecDepth 200000 in
set_option maxHeartbeats 2000000 in
theorem copiedItem_any (v : Value) (x : It) (F : List Nat) (w : World) (h : RdIt w v x F) (hf : x.sk.fits) :
    Calls Try.prog 62 #[v] w fun e w' => NewIt w x e w' := by
  obtain ⟨a1, n1, c1, a2, n2, c2, a3, n3, c3, rfl, hr⟩ := h
  have HR : Hid (RdSk w (.agg #[.int .i64 x.sk.count, .int .i64 x.sk.sum, .int .i64 x.sk.min, .int .i64 x.sk.max, .slice a1 n1 c1, .slice a2 n2 c2, .slice a3 n3 c3]) x.sk F ∧ x.sk.fits) := ⟨hr, hf⟩
  clear hr hf
  have HT0 : Hid (_ ∧ _ ∧ _) := two_made w #[.int .i64 x.seq, .int .i64 x.cls, .int .i64 x.key, .int .i64 x.window, .int .i64 x.sk.count, .int .i64 x.sk.sum, .int .i64 x.sk.min, .int .i64 x.sk.max, .slice a1 n1 c1, .slice a2 n2 c2, .slice a3 n3 c3] #[.int .i64 0, .int .i64 0, .int .i64 0, .int .i64 0, .int .i64 0, .int .i64 0, .int .i64 0, .int .i64 0, .slice none 0 0, .slice none 0 0, .slice none 0 0] 54 54
  go_enter Try.func62, Try.ntmps62
  go_wp2_with (first | go_skip | (with_reducible refine stopLoad 44 rfl ?_))
  refine load_cut 44 w.heap.size 4 7 _ #[.int .i64 x.sk.count, .int .i64 x.sk.sum, .int .i64 x.sk.min, .int .i64 x.sk.max, .slice a1 n1 c1, .slice a2 n2 c2, .slice a3 n3 c3] 54 _ HT0.out.1 rfl rfl rfl Try.underlying44 rfl infoSkI (by simp) rfl ?_
  go_wp2_with fail
  refine (copiedSketch_all _ x.sk F _ (HR.out.1.below HT0.out.2.2) HR.out.2).mono ?_
  rintro e w1 ⟨v1, G, rfl, r1, o1, hb1⟩
  obtain ⟨b1, m1, d1, b2, m2, d2, b3, m3, d3, rfl⟩ := r1.cells7
  have HT1 : Hid (Blk w1 w.heap.size #[.int .i64 x.seq, .int .i64 x.cls, .int .i64 x.key, .int .i64 x.window, .int .i64 x.sk.count, .int .i64 x.sk.sum, .int .i64 x.sk.min, .int .i64 x.sk.max, .slice a1 n1 c1, .slice a2 n2 c2, .slice a3 n3 c3] 54 ∧ Blk w1 (w.heap.size + 1) #[.int .i64 0, .int .i64 0, .int .i64 0, .int .i64 0, .int .i64 0, .int .i64 0, .int .i64 0, .int .i64 0, .slice none 0 0, .slice none 0 0, .slice none 0 0] 54 ∧ Below w.heap.size w w1) := ⟨HT0.out.1.below hb1, HT0.out.2.1.below hb1, Below.next HT0.out.2.2 hb1⟩
  have HG : Hid (RdSk w1 (.agg #[.int .i64 x.sk.count, .int .i64 x.sk.sum, .int .i64 x.sk.min, .int .i64 x.sk.max, .slice b1 m1 d1, .slice b2 m2 d2, .slice b3 m3 d3]) x.sk G ∧ Own (w.heap.size + 2) w1 G) := ⟨r1, o1.mono HT0.out.2.1.lt⟩
  clear HT0 hb1 r1 o1 HR
  go_wp2_with (first | go_skip | (with_reducible refine stopStore 44 rfl ?_))
  refine store_cut 44 w.heap.size 4 _ #[.int .i64 x.sk.count, .int .i64 x.sk.sum, .int .i64 x.sk.min, .int .i64 x.sk.max, .slice b1 m1 d1, .slice b2 m2 d2, .slice b3 m3 d3] #[.int .i64 x.seq, .int .i64 x.cls, .int .i64 x.key, .int .i64 x.window, .int .i64 x.sk.count, .int .i64 x.sk.sum, .int .i64 x.sk.min, .int .i64 x.sk.max, .slice b1 m1 d1, .slice b2 m2 d2, .slice b3 m3 d3] 54 HT1.out.1 rfl rfl rfl rfl infoSkI (by exact Nat.le_refl 11) (by simp [Value.oneCell']) rfl ?_
  obtain ⟨E, hE⟩ : ∃ E : Array Value, E = #[.int .i64 x.seq, .int .i64 x.cls, .int .i64 x.key, .int .i64 x.window, .int .i64 x.sk.count, .int .i64 x.sk.sum, .int .i64 x.sk.min, .int .i64 x.sk.max, .slice b1 m1 d1, .slice b2 m2 d2, .slice b3 m3 d3] := ⟨_, rfl⟩
  rw [← hE]
  have HE : Hid (E = #[.int .i64 x.seq, .int .i64 x.cls, .int .i64 x.key, .int .i64 x.window, .int .i64 x.sk.count, .int .i64 x.sk.sum, .int .i64 x.sk.min, .int .i64 x.sk.max, .slice b1 m1 d1, .slice b2 m2 d2, .slice b3 m3 d3]) := hE
  have hE11 : E.size = 11 := by rw [hE]; rfl
  have hEone : E.all (·.oneCell') = true := by rw [hE]; simp [Value.oneCell']
  have nl : w.heap.size ∉ G := fun hx => by have := HG.out.2.ge _ hx; omega
  have HT2 : Hid (Blk (w1.setRow w.heap.size E) w.heap.size E 54 ∧ Blk (w1.setRow w.heap.size E) (w.heap.size + 1) #[.int .i64 0, .int .i64 0, .int .i64 0, .int .i64 0, .int .i64 0, .int .i64 0, .int .i64 0, .int .i64 0, .slice none 0 0, .slice none 0 0, .slice none 0 0] 54 ∧ Below w.heap.size w (w1.setRow w.heap.size E)) := ⟨HT1.out.1.setRow, HT1.out.2.1.setRowOther (by omega), below_setRow HT1.out.2.2 (by omega) _⟩
  have HG2 : Hid (RdSk (w1.setRow w.heap.size E) (.agg #[.int .i64 x.sk.count, .int .i64 x.sk.sum, .int .i64 x.sk.min, .int .i64 x.sk.max, .slice b1 m1 d1, .slice b2 m2 d2, .slice b3 m3 d3]) x.sk G ∧ Own (w.heap.size + 2) (w1.setRow w.heap.size E) G) := ⟨HG.out.1.agree (Agree.row nl E), HG.out.2.agree (Agree.row nl E)⟩
  obtain ⟨w2, hw2⟩ : ∃ W, W = w1.setRow w.heap.size E := ⟨_, rfl⟩
  rw [← hw2] at HT2 HG2 ⊢
  clear hw2 HT1 HG nl hE
  go_wp2_with (first | go_skip | (with_reducible refine stopLoad 54 rfl ?_))
  refine load_known 54 w.heap.size E 54 _ HT2.out.1 rfl rfl rfl Try.underlying54 rfl (by rw [hE11]; exact infoItP8) ?_
  go_wp2_with (first | go_skip | (with_reducible refine stopStore 54 rfl ?_))
  refine store_known 54 (w.heap.size + 1) _ E 54 HT2.out.2.1 rfl rfl rfl rfl (by rw [hE11]; exact infoItP8) (by rw [hE11]; rfl) hEone ?_
  have nr : w.heap.size + 1 ∉ G := fun hx => by have := HG2.out.2.ge _ hx; omega
  have HF : Hid (RdSk (w2.setRow (w.heap.size + 1) E) (.agg #[.int .i64 x.sk.count, .int .i64 x.sk.sum, .int .i64 x.sk.min, .int .i64 x.sk.max, .slice b1 m1 d1, .slice b2 m2 d2, .slice b3 m3 d3]) x.sk G ∧ Own w.heap.size (w2.setRow (w.heap.size + 1) E) G ∧ Below w.heap.size w (w2.setRow (w.heap.size + 1) E) ∧ Blk (w2.setRow (w.heap.size + 1) E) (w.heap.size + 1) E 54) := ⟨HG2.out.1.agree (Agree.row nr E), (HG2.out.2.agree (Agree.row nr E)).mono (by omega), below_setRow HT2.out.2.2 (by omega) _, HT2.out.2.1.setRow⟩
  clear HT2 HG2 nr
  go_wp2
  refine bodyPost_ret (results_cell_row Try.results62 _ _ (w.heap.size + 1) _ _ (0, 0) _ rfl HF.out.2.2.2 Try.underlying54 rfl (by rw [hE11]; exact infoItP8)) rfl ?_
  exact ⟨_, G, rfl, ⟨b1, m1, d1, b2, m2, d2, b3, m3, d3, by rw [HE.out], HF.out.1⟩, HF.out.2.1, HF.out.2.2.1⟩
/-- A new agent whose list can grow; the set lies apart from it. -/
def NewAgH (w : World) (x : Ag) (e : Ending) (w' : World) : Prop := ∃ (q1 : Option Addr) (k1 : Nat) (q2 : Option Addr) (l2 k2 : Nat) (F G : List Nat) (lo : Nat) (vs : List Value) (GG : List Nat),
  e = .returned (.agg #[.int .i64 x.id, .int .i64 x.epoch, .bool x.live, .int .i64 x.granted, .slice q1 x.sealed.length k1, .slice q2 l2 k2, .int .i64 x.next]) ∧ RdL itK w' q1 x.sealed.length x.sealed F ∧ RdP w' q2 l2 x.taken G ∧ Capd q1 x.sealed.length k1 ∧ Capd q2 l2 k2 ∧ Own w.heap.size w' F ∧ Own w.heap.size w' G ∧ (∀ b ∈ F, b ∉ G) ∧ Below w.heap.size w w' ∧
  GrowL itK 54 x.sealed lo x.sealed.length (.slice q1 x.sealed.length k1) vs GG w' ∧ w.heap.size ≤ lo ∧ (∀ b ∈ G, ¬ (Value.slice q1 x.sealed.length k1).ownBlock = some b) ∧ ∀ b ∈ GG, b ∉ G
theorem NewAgH.plain {w : World} {x : Ag} {e : Ending} {w' : World} (h : NewAgH w x e w') : NewAg w x e w' := by
  obtain ⟨q1, k1, q2, l2, k2, F, G, lo, vs, GG, rfl, r1, r2, c1, c2, o1, o2, ap, b, _⟩ := h
  exact ⟨_, F, G, rfl, ⟨q1, _, k1, q2, l2, k2, rfl, r1, r2, c1, c2⟩, o1, o2, ap, b⟩
theorem infoAgP8 : (Try.prog.info? 25).map (·.size) = some 7 := by kernel_rfl
theorem infoItsP8 : (Try.prog.info? 54).map (fun i => (i.zero, i.size, i.bytes)) = some (some (.agg #[.int .i64 0, .int .i64 0, .int .i64 0, .int .i64 0, .int .i64 0, .int .i64 0, .int .i64 0, .int .i64 0, .slice none 0 0, .slice none 0 0, .slice none 0 0]), 11, 136) := by kernel_rfl
/-- An agent's copy in the making, behind k items. -/
structure CpAg (w : World) (A : Array Value) (x : Ag) (lo k : Nat) (v : Value) (vs : List Value) (G : List Nat) (W : World) : Prop where
  box : Blk W w.heap.size A 25
  res : Blk W (w.heap.size + 1) #[.int .i64 0, .int .i64 0, .bool false, .int .i64 0, .slice none 0 0, .slice none 0 0, .int .i64 0] 25
  bel : Below w.heap.size w W
  grow : GrowL itK 54 x.sealed lo k v vs G W
  big : w.heap.size + 2 ≤ lo
theorem CpAg.below {w W W' : World} {A : Array Value} {x : Ag} {lo k : Nat} {v : Value} {vs : List Value} {G : List Nat} (h : CpAg w A x lo k v vs G W) (b : Below W.heap.size W W') : CpAg w A x lo k v vs G W' :=
  ⟨h.box.below b, h.res.below b, Below.next h.bel b, h.grow.below b, h.big⟩
theorem CpAg.step {w W W' : World} {A : Array Value} {x : Ag} {lo k : Nat} {v v' : Value} {vs vs' : List Value} {G G' : List Nat} (h : CpAg w A x lo k v vs G W) (hgrow : W.grownBy W' v.ownBlock) (hg : GrowL itK 54 x.sealed lo (k + 1) v' vs' G' W') : CpAg w A x lo (k + 1) v' vs' G' W' := by
  have big := h.big
  have ot : ∀ b, b < lo → W'.heap[b]? = W.heap[b]? := fun b hb => h.grow.other hgrow hb
  exact ⟨h.box.agree (ot _ (by omega)), h.res.agree (ot _ (by omega)), h.bel.grown hgrow h.bel.size (fun b hb => by have := (h.grow.row.lt b hb).1; omega), hg, big⟩
set_option maxRecDepth 200000 in
set_option maxHeartbeats 8000000 in
theorem copiedAgent_grow (v : Value) (x : Ag) (F0 G0 : List Nat) (w : World) (h : RdAg w v x F0 G0) (hf : ∀ y ∈ x.sealed, y.sk.fits) (hs : x.sealed.length ≤ 1048576) (hp : x.taken.length ≤ 1048576) :
    Calls Try.prog 53 #[v] w fun e w' => NewAgH w x e w' := by
  obtain ⟨j0, hj, hy0, hy1, hy2⟩ := info_parts infoItsP8
  obtain ⟨a1, n1, c1, a2, n2, c2, rfl, hL, hP, hc1, hc2⟩ := h
  have hn1 : n1 ≤ 1048576 := by rw [← hL.length]; exact hs
  have HL : Hid (RdL itK w a1 n1 x.sealed F0 ∧ (∀ y ∈ x.sealed, y.sk.fits) ∧ x.sealed.length = n1) := ⟨hL, hf, hL.length⟩
  have HP : Hid (RdP w a2 n2 x.taken G0 ∧ n2 ≤ 2097152) := ⟨hP, by rw [← hP.length]; omega⟩
  clear hL hP hf hs hp hc1 hc2
  have HT0 : Hid (_ ∧ _ ∧ _) := two_made w #[.int .i64 x.id, .int .i64 x.epoch, .bool x.live, .int .i64 x.granted, .slice a1 n1 c1, .slice a2 n2 c2, .int .i64 x.next] #[.int .i64 0, .int .i64 0, .bool false, .int .i64 0, .slice none 0 0, .slice none 0 0, .int .i64 0] 25 25
  obtain ⟨W0, hW0⟩ : ∃ W, W = (w.alloc (.cells #[.int .i64 x.id, .int .i64 x.epoch, .bool x.live, .int .i64 x.granted, .slice a1 n1 c1, .slice a2 n2 c2, .int .i64 x.next] 25)).alloc (.cells #[.int .i64 0, .int .i64 0, .bool false, .int .i64 0, .slice none 0 0, .slice none 0 0, .int .i64 0] 25) := ⟨_, rfl⟩
  have hs0 : W0.heap.size = w.heap.size + 2 := by rw [hW0]; simp
  go_enter Try.func53, Try.ntmps53
  go_wp2_with (at_make; refine wpList_make_own _ rfl _ _ 22 rfl (w.heap.size + 2) 54 j0 (.agg #[.int .i64 0, .int .i64 0, .int .i64 0, .int .i64 0, .int .i64 0, .int .i64 0, .int .i64 0, .int .i64 0, .slice none 0 0, .slice none 0 0, .slice none 0 0]) 11 Try.underlying22 hj hy0 hy1 .i64 .i64 _ n1 rfl rfl rfl (by rw [hy2]; omega) (by unfold maxLen; omega) (by simp) ?_)
  intro w1 hown hgrow
  have HG0 : Hid (CpAg w #[.int .i64 x.id, .int .i64 x.epoch, .bool x.live, .int .i64 x.granted, .slice a1 n1 c1, .slice a2 n2 c2, .int .i64 x.next] x (w.heap.size + 2) 0 (.slice (some ⟨w.heap.size + 1 + 1, 0, none⟩) 0 n1) [] [] w1) := by
    have hb1 : Below W0.heap.size W0 w1 := (Below.refl W0.heap.size W0).grown (by rw [hW0]; exact hgrow) (Nat.le_refl _) (fun k hk => by cases hk)
    rw [← hW0] at HT0
    have e : W0.heap.size = w.heap.size + 2 := hs0
    refine ⟨HT0.out.1.below hb1, HT0.out.2.1.below hb1, Below.next HT0.out.2.2 hb1, ⟨?_, by rw [List.take_zero]; exact RdC.nil, Own.nil, (fun b hb hx => by cases hx), by have := hb1.size; omega⟩, Nat.le_refl _⟩
    have q : w1.ownsRow (w.heap.size + 2) 54 11 (.slice (some ⟨w.heap.size + 1 + 1, 0, none⟩) 0 n1) 0 [] := by simpa using hown
    exact q
  have e4 := HG0.out.box.cell 4
  simp only [aT, aS, aZ] at e4
  clear hown hgrow HT0 hW0 hs0
  go_wp2_with fail
  clear e4
  go_loopw [3, 13] (fun q i wr => ∃ (k : Nat) (v : Value) (vs : List Value) (GG : List Nat), k ≤ n1 ∧ i = .int .i64 k ∧ v = q ∧ Hid (CpAg w #[.int .i64 x.id, .int .i64 x.epoch, .bool x.live, .int .i64 x.granted, .slice a1 n1 c1, .slice a2 n2 c2, .int .i64 x.next] x (w.heap.size + 2) k v vs GG wr)) (fun _ i _ => n1 - (intOf i).toNat)
  case atStart => exact ⟨0, _, [], [], by omega, rfl, rfl, HG0⟩
  case round =>
    clear HG0
    obtain ⟨k, v, vs, GG, hk, rfl, rfl, CSS⟩ := hrel
    by_cases hlt : k < n1
    · have hI : (k : Int) < (n1 : Int) := by omega
      obtain ⟨b, off, ha, hbF, cs, Fi, hcs, hcc, hr, _⟩ := HL.out.1.get k hlt
      have ha' := ha.symm
      subst ha'
      have hbw : b < w.heap.size := HL.out.1.lt b hbF
      obtain ⟨y, hy⟩ : ∃ y, x.sealed[k]? = some y := ⟨_, List.getElem?_eq_getElem (by rw [HL.out.2.2]; exact hlt)⟩
      have HY : Hid (x.sealed[k]? = some y ∧ y.sk.fits ∧ cs.size = 11 ∧ RdIt w (.agg cs) y Fi ∧ cs.all (·.oneCell') = true) := ⟨hy, HL.out.2.1 y (List.mem_of_getElem? hy), hcs, hr y hy, by
        obtain ⟨a1, n1, c1, a2, n2, c2, a3, n3, c3, e⟩ := (hr y hy).cells11
        injection e with e
        rw [e]
        simp [Value.oneCell']⟩
      have HC : Hid (∀ j, j < 11 → wr.cell? ⟨b, off + k * 11 + j, none⟩ = cs[j]?) := fun j hj => by
        have q : wr.cell? ⟨b, off + k * 11 + j, none⟩ = w.cell? ⟨b, off + k * 11 + j, none⟩ := CSS.out.bel.cell (p := ⟨b, off + k * 11 + j, none⟩) hbw
        exact q.trans (hcc j hj)
      clear ha hbF hcs hcc hr hy
      go_wp2_with (first | go_skip | (with_reducible refine stopLoad 54 rfl ?_))
      refine load_at 54 b (off + k * 11) 11 cs _ HC.out HY.out.2.2.1 rfl rfl rfl Try.underlying54 rfl infoItP8 ?_
      go_wp2_with (first | go_skip | (with_reducible refine stopStore 54 rfl ?_))
      refine store_fresh 54 wr.heap.size rfl #[.int .i64 0, .int .i64 0, .int .i64 0, .int .i64 0, .int .i64 0, .int .i64 0, .int .i64 0, .int .i64 0, .slice none 0 0, .slice none 0 0, .slice none 0 0] cs 54 rfl rfl rfl rfl (by rw [HY.out.2.2.1]; exact infoItP8) (by rw [HY.out.2.2.1]; rfl) HY.out.2.2.2.2 ?_
      intro w2 hg2 hb2
      have CS2 : Hid (CpAg w #[.int .i64 x.id, .int .i64 x.epoch, .bool x.live, .int .i64 x.granted, .slice (some ⟨b, off, none⟩) n1 c1, .slice a2 n2 c2, .int .i64 x.next] x (w.heap.size + 2) k v vs GG w2 ∧ Blk w2 wr.heap.size cs 54) := ⟨CSS.out.below hb2, hg2⟩
      obtain ⟨X, hX⟩ : ∃ X, X = wr.heap.size := ⟨_, rfl⟩
      rw [← hX] at CS2 ⊢
      clear hg2 hb2 CSS HC hX
      go_wp2_with (first | go_skip | (with_reducible refine stopLoad 54 rfl ?_))
      refine load_known 54 X cs 54 _ CS2.out.2 rfl rfl rfl Try.underlying54 rfl (by rw [HY.out.2.2.1]; exact infoItP8) ?_
      go_wp2_with fail
      refine (copiedItem_any _ y Fi _ (HY.out.2.2.2.1.below CS2.out.1.bel) HY.out.2.1).mono ?_
      rintro e w3 ⟨v3, F3, rfl, r3, o3, hb3⟩
      obtain ⟨b1, m1, d1, b2, m2, d2, b3, m3, d3, rfl⟩ := r3.cells11
      have CS3 : Hid (CpAg w #[.int .i64 x.id, .int .i64 x.epoch, .bool x.live, .int .i64 x.granted, .slice (some ⟨b, off, none⟩) n1 c1, .slice a2 n2 c2, .int .i64 x.next] x (w.heap.size + 2) k v vs GG w3) := CS2.out.1.below hb3
      have HK : Hid (RdIt w3 (.agg #[.int .i64 y.seq, .int .i64 y.cls, .int .i64 y.key, .int .i64 y.window, .int .i64 y.sk.count, .int .i64 y.sk.sum, .int .i64 y.sk.min, .int .i64 y.sk.max, .slice b1 m1 d1, .slice b2 m2 d2, .slice b3 m3 d3]) y F3 ∧ Own w2.heap.size w3 F3 ∧ (∀ b ∈ GG, b < w2.heap.size) ∧ (∀ b, v.ownBlock = some b → b < w2.heap.size) ∧ w.heap.size + 2 ≤ w2.heap.size) := ⟨r3, o3, CS2.out.1.grow.lts⟩
      clear r3 o3 hb3 CS2
      go_wp2_with (with_reducible refine stopAppend rfl ?_)
      obtain ⟨W6, hW6⟩ : ∃ W, W = w3.alloc (.cells #[.int .i64 y.seq, .int .i64 y.cls, .int .i64 y.key, .int .i64 y.window, .int .i64 y.sk.count, .int .i64 y.sk.sum, .int .i64 y.sk.min, .int .i64 y.sk.max, .slice b1 m1 d1, .slice b2 m2 d2, .slice b3 m3 d3] 54) := ⟨_, rfl⟩
      have hbn : Below w3.heap.size w3 W6 := by rw [hW6]; exact (Below.refl _ _).alloc (Nat.le_refl _) _
      have HCN : Hid (∀ (j : Nat) (u : Value), [.int .i64 y.seq, .int .i64 y.cls, .int .i64 y.key, .int .i64 y.window, .int .i64 y.sk.count, .int .i64 y.sk.sum, .int .i64 y.sk.min, .int .i64 y.sk.max, .slice b1 m1 d1, .slice b2 m2 d2, .slice b3 m3 d3][j]? = some u → W6.cell? ((⟨w3.heap.size, 0, none⟩ : Addr).add j) = some u) := by rw [hW6]; exact news_lit w3 #[.int .i64 y.seq, .int .i64 y.cls, .int .i64 y.key, .int .i64 y.window, .int .i64 y.sk.count, .int .i64 y.sk.sum, .int .i64 y.sk.min, .int .i64 y.sk.max, .slice b1 m1 d1, .slice b2 m2 d2, .slice b3 m3 d3] 54
      have CS6 : Hid (CpAg w #[.int .i64 x.id, .int .i64 x.epoch, .bool x.live, .int .i64 x.granted, .slice (some ⟨b, off, none⟩) n1 c1, .slice a2 n2 c2, .int .i64 x.next] x (w.heap.size + 2) k v vs GG W6) := CS3.out.below hbn
      have HK6 : Hid (RdIt W6 (.agg #[.int .i64 y.seq, .int .i64 y.cls, .int .i64 y.key, .int .i64 y.window, .int .i64 y.sk.count, .int .i64 y.sk.sum, .int .i64 y.sk.min, .int .i64 y.sk.max, .slice b1 m1 d1, .slice b2 m2 d2, .slice b3 m3 d3]) y F3 ∧ Own w2.heap.size W6 F3) := ⟨HK.out.1.below hbn, HK.out.2.1.below (RdIt.lt HK.out.1) hbn⟩
      rw [← hW6]
      clear hW6 hbn CS3
      refine Stop.intro (wpList_append_lies _ rfl _ _ 22 rfl (w.heap.size + 2) 54 j0 (.agg #[.int .i64 0, .int .i64 0, .int .i64 0, .int .i64 0, .int .i64 0, .int .i64 0, .int .i64 0, .int .i64 0, .slice none 0 0, .slice none 0 0, .slice none 0 0]) 11 136 Try.underlying22 hj hy0 hy1 hy2 rfl (by decide) v k vs rfl CS6.out.grow.row ⟨w3.heap.size, 0, none⟩ 1 1 [.int .i64 y.seq, .int .i64 y.cls, .int .i64 y.key, .int .i64 y.window, .int .i64 y.sk.count, .int .i64 y.sk.sum, .int .i64 y.sk.min, .int .i64 y.sk.max, .slice b1 m1 d1, .slice b2 m2 d2, .slice b3 m3 d3] rfl rfl HCN.out (by simp [Value.oneCell']) (by omega) (by unfold maxLen; omega) (by omega) CS6.out.grow.lw _ rfl ?_)
      intro g4 cp4 W7 hown hgrow hat hlt7
      have CS7 : Hid (CpAg w #[.int .i64 x.id, .int .i64 x.epoch, .bool x.live, .int .i64 x.granted, .slice (some ⟨b, off, none⟩) n1 c1, .slice a2 n2 c2, .int .i64 x.next] x (w.heap.size + 2) (k + 1) (.slice (some ⟨g4, 0, none⟩) (k + 1) cp4) (vs ++ [.int .i64 y.seq, .int .i64 y.cls, .int .i64 y.key, .int .i64 y.window, .int .i64 y.sk.count, .int .i64 y.sk.sum, .int .i64 y.sk.min, .int .i64 y.sk.max, .slice b1 m1 d1, .slice b2 m2 d2, .slice b3 m3 d3]) (GG ++ F3) W7) := CS6.out.step hgrow (CS6.out.grow.step HY.out.1 HK6.out.1 rfl HK6.out.2 HK.out.2.2.1 HK.out.2.2.2.1 HK.out.2.2.2.2 hown hgrow hat)
      clear hown hgrow hat hlt7 CS6 HK6 HK HCN
      go_wp2
      go_roundw
      case rel => exact ⟨k + 1, _, _, _, by omega, by go_num, rfl, CS7⟩
      case measure => simp [intOf]; omega
    · obtain rfl : k = n1 := by omega
      have HGW : Hid (CpAg w #[.int .i64 x.id, .int .i64 x.epoch, .bool x.live, .int .i64 x.granted, .slice a1 k c1, .slice a2 n2 c2, .int .i64 x.next] x (w.heap.size + 2) k v vs GG wr) := CSS
      have e5 := CSS.out.box.cell 5
      simp only [aT, aS, aZ] at e5
      clear CSS
      go_wp2_with fail
      refine (copiedSpans_any a2 n2 c2 x.taken G0 _ (HP.out.1.below HGW.out.bel) HP.out.2).mono ?_
      rintro e w2 ⟨p2, l2, k2, G2, rfl, r2, o2, hb2, hcp2⟩
      have HG2 : Hid (RdP w2 p2 l2 x.taken G2 ∧ Own wr.heap.size w2 G2 ∧ Capd p2 l2 k2 ∧ (∀ b ∈ GG, b < wr.heap.size) ∧ (∀ b, v.ownBlock = some b → b < wr.heap.size) ∧ w.heap.size + 2 ≤ wr.heap.size) := ⟨r2, o2, hcp2, HGW.out.grow.lts⟩
      have HW2 : Hid (CpAg w #[.int .i64 x.id, .int .i64 x.epoch, .bool x.live, .int .i64 x.granted, .slice a1 k c1, .slice a2 n2 c2, .int .i64 x.next] x (w.heap.size + 2) k v vs GG w2) := HGW.out.below hb2
      have c4 := HW2.out.box.cell 4
      have c5 := HW2.out.box.cell 5
      have f4 := HW2.out.box.frozen 4
      have f5 := HW2.out.box.frozen 5
      simp only [aT, aS, aZ] at c4 c5
      clear r2 o2 hb2 hcp2 HGW e5
      obtain ⟨q1, d1, F1, rfl, rL, oL, hcp, hpt⟩ := HW2.out.grow.done2 HL.out.2.2
      have HE : Hid (RdL itK w2 q1 k x.sealed F1 ∧ Own (w.heap.size + 2) w2 F1 ∧ Capd q1 k d1 ∧ ∀ b ∈ F1, (Value.slice q1 k d1).ownBlock = some b ∨ b ∈ GG) := ⟨rL, oL, hcp, hpt⟩
      clear rL oL hcp hpt
      go_wp2_with (first | go_skip | (with_reducible refine stopLoad 25 rfl ?_))
      obtain ⟨w4, hw4⟩ : ∃ W, W = (w2.setCell ⟨w.heap.size, 4, none⟩ (.slice q1 k d1)).setCell ⟨w.heap.size, 5, none⟩ (.slice p2 l2 k2) := ⟨_, rfl⟩
      have nF : w.heap.size ∉ F1 := fun hx => by have := HE.out.2.1.ge _ hx; omega
      have nG : w.heap.size ∉ G2 := fun hx => by have := HG2.out.2.1.ge _ hx; have := HG2.out.2.2.2.2.2; omega
      have H4 : Hid (Blk w4 w.heap.size #[.int .i64 x.id, .int .i64 x.epoch, .bool x.live, .int .i64 x.granted, .slice q1 k d1, .slice p2 l2 k2, .int .i64 x.next] 25 ∧ Blk w4 (w.heap.size + 1) #[.int .i64 0, .int .i64 0, .bool false, .int .i64 0, .slice none 0 0, .slice none 0 0, .int .i64 0] 25 ∧ Below w.heap.size w w4 ∧ RdL itK w4 q1 k x.sealed F1 ∧ Own (w.heap.size + 2) w4 F1 ∧ RdP w4 p2 l2 x.taken G2 ∧ Own wr.heap.size w4 G2 ∧ GrowL itK 54 x.sealed (w.heap.size + 2) k (.slice q1 k d1) vs GG w4) := by
        rw [hw4]
        have agF := ((Agree.refl w2 F1).thenSet nF 4 (.slice q1 k d1)).thenSet nF 5 (.slice p2 l2 k2)
        have agG := ((Agree.refl w2 G2).thenSet nG 4 (.slice q1 k d1)).thenSet nG 5 (.slice p2 l2 k2)
        exact ⟨(HW2.out.box.set 4 _).set 5 _, (HW2.out.res.setOther (by omega) 4 _).setOther (by omega) 5 _, (HW2.out.bel.setCell (by show w.heap.size ≤ w.heap.size; omega) _).setCell (by show w.heap.size ≤ w.heap.size; omega) _, HE.out.1.agree agF, HE.out.2.1.agree agF, HG2.out.1.agree agG, HG2.out.2.1.agree agG, (HW2.out.grow.set (by omega)).set (by omega)⟩
      have HJ : Hid (Capd q1 k d1 ∧ Capd p2 l2 k2 ∧ (∀ b ∈ F1, b ∉ G2) ∧ (∀ b ∈ G2, ¬ (Value.slice q1 k d1).ownBlock = some b) ∧ (∀ b ∈ GG, b ∉ G2) ∧ w.heap.size + 2 ≤ wr.heap.size) := by
        refine ⟨HE.out.2.2.1, HG2.out.2.2.1, fun b hb hx => ?_, fun b hb e => ?_, fun b hb hx => ?_, HG2.out.2.2.2.2.2⟩
        · have h1 := HG2.out.2.1.ge b hx
          rcases HE.out.2.2.2 b hb with q | q
          · have := HG2.out.2.2.2.2.1 b q; omega
          · have := HG2.out.2.2.2.1 b q; omega
        · have h1 := HG2.out.2.1.ge b hb; have h2 := HG2.out.2.2.2.2.1 b e; omega
        · have h1 := HG2.out.2.1.ge b hx; have h2 := HG2.out.2.2.2.1 b hb; omega
      rw [← hw4]
      clear hw4 nF nG c4 c5 f4 f5 HW2 HG2 HE
      refine load_known 25 w.heap.size _ 25 _ H4.out.1 rfl rfl rfl Try.underlying25 rfl infoAgP8 ?_
      go_wp2_with (first | go_skip | (with_reducible refine stopStore 25 rfl ?_))
      refine store_known 25 (w.heap.size + 1) _ #[.int .i64 x.id, .int .i64 x.epoch, .bool x.live, .int .i64 x.granted, .slice q1 k d1, .slice p2 l2 k2, .int .i64 x.next] 25 H4.out.2.1 rfl rfl rfl rfl infoAgP8 rfl (by simp [Value.oneCell']) ?_
      go_wp2
      refine bodyPost_ret (results_cell_row Try.results53 _ _ (w.heap.size + 1) _ _ (0, 0) _ rfl H4.out.2.1.setRow Try.underlying25 rfl infoAgP8) rfl ?_
      have nr : w.heap.size + 1 ∉ F1 := fun hx => by have := H4.out.2.2.2.2.1.ge _ hx; omega
      have mr : w.heap.size + 1 ∉ G2 := fun hx => by have := H4.out.2.2.2.2.2.2.1.ge _ hx; have := HJ.out.2.2.2.2.2; omega
      have hk' := HL.out.2.2
      subst hk'
      exact ⟨q1, d1, p2, l2, k2, F1, G2, w.heap.size + 2, vs, GG, rfl, H4.out.2.2.2.1.agree (Agree.row nr _), H4.out.2.2.2.2.2.1.agree (Agree.row mr _), HJ.out.1, HJ.out.2.1, (H4.out.2.2.2.2.1.agree (Agree.row nr _)).mono (by omega), (H4.out.2.2.2.2.2.2.1.agree (Agree.row mr _)).mono (by have := HJ.out.2.2.2.2.2; omega), HJ.out.2.2.1, below_setRow H4.out.2.2.1 (by omega) _, H4.out.2.2.2.2.2.2.2.setRow (by omega), by omega, HJ.out.2.2.2.1, HJ.out.2.2.2.2.1⟩
set_option maxRecDepth 200000 in
theorem copiedAgent_any (v : Value) (x : Ag) (F0 G0 : List Nat) (w : World) (h : RdAg w v x F0 G0) (hf : ∀ y ∈ x.sealed, y.sk.fits) (hs : x.sealed.length ≤ 1048576) (hp : x.taken.length ≤ 1048576) :
    Calls Try.prog 53 #[v] w fun e w' => NewAg w x e w' := (copiedAgent_grow v x F0 G0 w h hf hs hp).mono fun _ _ h => h.plain
end Go.Proofs.Ytjndcfamfminkar
/- An entry as the program holds it, in memory. No statement of the seat is proved here. -/
namespace Go.Proofs.Ytjndcfamfminkar
open Go.RowKit
end Go.Proofs.Ytjndcfamfminkar
/- What the walks through the model's Seal and the program's share. No statement of the seat is proved here. -/
namespace Go.Proofs.Ytjndcfamfminkar
open Go.RowKit
def Ag.item (x : Ag) (c k n : Int) (s : Sk) : It := ⟨(x.sealed.length : Int) + 1, c, k, n, s⟩
def Ag.plus (x : Ag) (y : It) : Ag := ⟨x.id, x.epoch, x.live, x.granted, x.sealed ++ [y], x.taken, x.next⟩
section
variable {α : Type} {K : ElK α} {e : TypeId} {xs : List α} {lo k : Nat} {v : Value} {vs : List Value} {G : List Nat} {W W' : World}
/-- A list that has all of its elements may get one more. -/
theorem GrowL.extend (h : GrowL K e xs lo k v vs G W) (hk : xs.length = k) (z : α) : GrowL K e (xs ++ [z]) lo k v vs G W :=
  ⟨h.row, by rw [List.take_append_of_le_length (by omega)]; exact h.rd, h.og, h.ap, h.lw⟩
end
theorem NewAgG.apart {w : World} {x : Ag} {e : Ending} {w' : World} (h : NewAgG w x e w') : NewAgH w x e w' := by
  obtain ⟨q1, k1, q2, l2, k2, F, G, lo, vs, GG, he, r1, r2, c1, c2, o1, o2, ap, b, g, hlo, hG⟩ := h
  exact ⟨q1, k1, q2, l2, k2, F, G, lo, vs, GG, he, r1, r2, c1, c2, o1, o2, ap, b, g, hlo, fun y hy e => by have := (g.row.lt y e).1; have := hG y hy; omega, fun y hy hx => by have := g.og.ge y hy; have := hG y hx; omega⟩
/-- A copy of an agent whose list may get one more; L: behind it all is newer. -/
structure SealC (B L lo n1 : Nat) (x : Ag) (q1 : Option Addr) (k1 : Nat) (q2 : Option Addr) (l2 k2 : Nat) (F G GG : List Nat) (vs : List Value) (W : World) : Prop where
  len : x.sealed.length = n1
  rl : RdL itK W q1 n1 x.sealed F
  rp : RdP W q2 l2 x.taken G
  cp1 : Capd q1 n1 k1
  cp2 : Capd q2 l2 k2
  oF : Own B W F
  oG : Own B W G
  ap : ∀ b ∈ F, b ∉ G
  gr : GrowL itK 54 x.sealed lo n1 (.slice q1 n1 k1) vs GG W
  hlo : B ≤ lo
  g1 : ∀ b ∈ G, ¬ (Value.slice q1 n1 k1).ownBlock = some b
  g2 : ∀ b ∈ GG, b ∉ G
  l1 : ∀ b ∈ F, b < L
  l2' : ∀ b ∈ G, b < L
  l3 : ∀ b ∈ GG, b < L
  l4 : ∀ b, (Value.slice q1 n1 k1).ownBlock = some b → b < L
  l5 : lo ≤ L
theorem SealC.below {B L lo n1 : Nat} {x : Ag} {q1 : Option Addr} {k1 : Nat} {q2 : Option Addr} {l2 k2 : Nat} {F G GG : List Nat} {vs : List Value} {W W' : World} (h : SealC B L lo n1 x q1 k1 q2 l2 k2 F G GG vs W) (b : Below W.heap.size W W') : SealC B L lo n1 x q1 k1 q2 l2 k2 F G GG vs W' :=
  ⟨h.len, h.rl.below b, h.rp.below b, h.cp1, h.cp2, h.oF.below h.rl.lt b, h.oG.below h.rp.lt b, h.ap, h.gr.below b, h.hlo, h.g1, h.g2, h.l1, h.l2', h.l3, h.l4, h.l5⟩
theorem NewAgH.at {w : World} {x : Ag} {e : Ending} {w' : World} {n1 : Nat} (h : NewAgH w x e w') (hn : x.sealed.length = n1) : ∃ (q1 : Option Addr) (k1 : Nat) (q2 : Option Addr) (l2 k2 : Nat) (F G GG : List Nat) (lo : Nat) (vs : List Value),
    e = .returned (.agg #[.int .i64 x.id, .int .i64 x.epoch, .bool x.live, .int .i64 x.granted, .slice q1 n1 k1, .slice q2 l2 k2, .int .i64 x.next]) ∧ SealC w.heap.size w'.heap.size lo n1 x q1 k1 q2 l2 k2 F G GG vs w' ∧ Below w.heap.size w w' := by
  subst hn
  obtain ⟨q1, k1, q2, l2, k2, F, G, lo, vs, GG, he, r1, r2, c1, c2, o1, o2, ap, b, g, hlo, h1, h2⟩ := h
  exact ⟨q1, k1, q2, l2, k2, F, G, GG, lo, vs, he, ⟨rfl, r1, r2, c1, c2, o1, o2, ap, g, hlo, h1, h2, r1.lt, r2.lt, g.lts.1, g.lts.2.1, g.lts.2.2⟩, b⟩
/-- What a Seal has before it: the agent, the summary, the result's place. -/
structure SealW (w : World) (A S : Array Value) (W : World) : Prop where
  box : Blk W w.heap.size A 25
  sk : Blk W (w.heap.size + 1) S 44
  res : Blk W (w.heap.size + 1 + 1) #[.int .i64 0, .int .i64 0, .bool false, .int .i64 0, .slice none 0 0, .slice none 0 0, .int .i64 0] 25
  bel : Below w.heap.size w W
theorem SealW.below {w W W' : World} {A S : Array Value} (h : SealW w A S W) (b : Below W.heap.size W W') : SealW w A S W' := ⟨h.box.below b, h.sk.below b, h.res.below b, Below.next h.bel b⟩
theorem SealW.made (w : World) (A S : Array Value) : SealW w A S (((w.alloc (.cells A 25)).alloc (.cells S 44)).alloc (.cells #[.int .i64 0, .int .i64 0, .bool false, .int .i64 0, .slice none 0 0, .slice none 0 0, .int .i64 0] 25)) :=
  ⟨((Blk.made _ _ _).alloc _).alloc _, (Blk.made_eq (by simp)).alloc _, Blk.made_eq (by simp), Below.allocW _ (Below.allocW _ (Below.allocW _ (Below.refl _ _) (Nat.le_refl _)) (Nat.le_refl _)) (Nat.le_refl _)⟩
theorem SealW.kept {w W W' : World} {A S : Array Value} (h : SealW w A S W) (hk : ∀ b, b < w.heap.size + 3 → W'.heap[b]? = W.heap[b]?) (hs : W.heap.size ≤ W'.heap.size) (hb : Below w.heap.size w W') : SealW w A S W' := by
  have _ := hs
  exact ⟨h.box.agree (hk _ (by omega)), h.sk.agree (hk _ (by omega)), h.res.agree (hk _ (by omega)), hb⟩
/-- .. and the copy in a variable at L. -/
structure SealL (w : World) (A S : Array Value) (B L lo n1 : Nat) (x : Ag) (q1 : Option Addr) (k1 : Nat) (q2 : Option Addr) (l2 k2 : Nat) (F G GG : List Nat) (vs : List Value) (W : World) : Prop where
  base : SealW w A S W
  loc : Blk W L #[.int .i64 x.id, .int .i64 x.epoch, .bool x.live, .int .i64 x.granted, .slice q1 n1 k1, .slice q2 l2 k2, .int .i64 x.next] 25
  c : SealC B L lo n1 x q1 k1 q2 l2 k2 F G GG vs W
  gB : w.heap.size + 3 ≤ B
  gL : B ≤ L
theorem SealL.below {w : World} {A S : Array Value} {B L lo n1 : Nat} {x : Ag} {q1 : Option Addr} {k1 : Nat} {q2 : Option Addr} {l2 k2 : Nat} {F G GG : List Nat} {vs : List Value} {W W' : World} (h : SealL w A S B L lo n1 x q1 k1 q2 l2 k2 F G GG vs W) (b : Below W.heap.size W W') : SealL w A S B L lo n1 x q1 k1 q2 l2 k2 F G GG vs W' := ⟨h.base.below b, h.loc.below b, h.c.below b, h.gB, h.gL⟩
/-- .. and behind the append. -/
structure SealD (w : World) (A S : Array Value) (L : Nat) (C : Array Value) (y : Ag) (F G : List Nat) (W : World) : Prop where
  base : SealW w A S W
  loc : Blk W L C 25
  rd : RdAg W (.agg C) y F G
  oF : Own (w.heap.size + 3) W F
  oG : Own (w.heap.size + 3) W G
  ap : ∀ b ∈ F, b ∉ G
  gL : w.heap.size + 3 ≤ L
theorem SealD.below {w : World} {A S : Array Value} {L : Nat} {C : Array Value} {y : Ag} {F G : List Nat} {W W' : World} (h : SealD w A S L C y F G W) (b : Below W.heap.size W W') : SealD w A S L C y F G W' :=
  ⟨h.base.below b, h.loc.below b, h.rd.below b, h.oF.below h.rd.lt1 b, h.oG.below h.rd.lt2 b, h.ap, h.gL⟩
theorem SealL.done {w : World} {A S : Array Value} {B L lo n1 : Nat} {x : Ag} {q1 : Option Addr} {k1 : Nat} {q2 : Option Addr} {l2 k2 : Nat} {F G GG : List Nat} {vs : List Value} {W W' : World} (h : SealL w A S B L lo n1 x q1 k1 q2 l2 k2 F G GG vs W) {y : It} {cs : Array Value} {Fk : List Nat} {g4 cp4 : Nat}
    (rk : RdIt W (.agg cs) y Fk) (hn : cs.size = 11) (ok : Own (L + 1) W Fk)
    (hown : W'.ownsRow lo 54 11 (.slice (some ⟨g4, 0, none⟩) (n1 + 1) cp4) (n1 + 1) (vs ++ cs.toList)) (hgrow : W.grownBy W' (Value.slice q1 n1 k1).ownBlock) (hat : (Value.slice q1 n1 k1).ownBlock = some g4 ∨ g4 = W.heap.size) :
    SealW w A S W' ∧ Blk W' L #[.int .i64 x.id, .int .i64 x.epoch, .bool x.live, .int .i64 x.granted, .slice q1 n1 k1, .slice q2 l2 k2, .int .i64 x.next] 25 ∧ ∃ F', SealD w A S L #[.int .i64 x.id, .int .i64 x.epoch, .bool x.live, .int .i64 x.granted, .slice (some ⟨g4, 0, none⟩) (n1 + 1) cp4, .slice q2 l2 k2, .int .i64 x.next] (x.plus y) F' G (W'.setCell ⟨L, 4, none⟩ (.slice (some ⟨g4, 0, none⟩) (n1 + 1) cp4)) := by
  have gB := h.gB; have gL := h.gL; have hlo := h.c.hlo; have l5 := h.c.l5
  have hLW := h.loc.lt
  have hx : (x.sealed ++ [y])[n1]? = some y := by rw [← h.c.len]; simp
  have g0 := h.c.gr.extend h.c.len y
  have g1 := g0.step hx rk hn ok (fun b hb => by have := h.c.l3 b hb; omega) (fun b hb => by have := h.c.l4 b hb; omega) (by omega) hown hgrow hat
  obtain ⟨q, cp, F', e, r, o, cpd, pt⟩ := g1.done2 (by rw [List.length_append, h.c.len]; rfl)
  injection e with e1 e2 e3
  subst e1; subst e3
  have kp : ∀ b, b < W.heap.size → ¬ (Value.slice q1 n1 k1).ownBlock = some b → W'.heap[b]? = W.heap[b]? := fun b hb hq => hgrow.block b hb (fun e => hq e.symm)
  have lw : ∀ b, b < lo → W'.heap[b]? = W.heap[b]? := fun b hb => h.c.gr.other hgrow hb
  have bel : Below w.heap.size w W' := h.base.bel.grown hgrow h.base.bel.size (fun b hb => by have := (h.c.gr.row.lt b hb).1; omega)
  have base : SealW w A S W' := h.base.kept (fun b hb => lw b (by omega)) hgrow.size bel
  have loc : Blk W' L #[.int .i64 x.id, .int .i64 x.epoch, .bool x.live, .int .i64 x.granted, .slice q1 n1 k1, .slice q2 l2 k2, .int .i64 x.next] 25 := h.loc.agree (kp L hLW (fun e => by have := h.c.l4 L e; omega))
  have agG : Agree W W' G := fun b hb => kp b (h.c.rp.lt b hb) (h.c.g1 b hb)
  have hF : ∀ b ∈ F', b ∉ G ∧ b ≠ L := fun b hb => by
    rcases pt b hb with q | q
    · have hb' : b = g4 := by simpa [Value.ownBlock] using q.symm
      subst hb'
      rcases hat with q | q
      · exact ⟨fun hg => h.c.g1 b hg q, fun e => by have := h.c.l4 b q; omega⟩
      · exact ⟨fun hg => by have := h.c.rp.lt b hg; omega, by omega⟩
    · rcases List.mem_append.1 q with q | q
      · exact ⟨h.c.g2 b q, fun e => by have := h.c.l3 b q; omega⟩
      · exact ⟨fun hg => by have := ok.ge b q; have := h.c.l2' b hg; omega, fun e => by have := ok.ge b q; omega⟩
  have nF : L ∉ F' := fun hx => (hF L hx).2 rfl
  have nG : L ∉ G := fun hx => by have := h.c.l2' L hx; omega
  have aF := (Agree.refl W' F').thenSet nF 4 (.slice (some ⟨g4, 0, none⟩) (n1 + 1) cp4)
  have aG := agG.thenSet nG 4 (.slice (some ⟨g4, 0, none⟩) (n1 + 1) cp4)
  refine ⟨base, loc, F', ⟨⟨base.box.setOther (by omega) 4 _, base.sk.setOther (by omega) 4 _, base.res.setOther (by omega) 4 _, bel.setCell (by show w.heap.size ≤ L; omega) _⟩, loc.set 4 _, ?_, (o.agree aF).mono (by omega), (h.c.oG.agree aG).mono (by omega), fun b hb => (hF b hb).1, by omega⟩⟩
  exact ⟨_, _, _, _, _, _, rfl, r.agree aF, h.c.rp.agree aG, cpd, h.c.cp2⟩
end Go.Proofs.Ytjndcfamfminkar
/- The walk through the model's Seal. No statement of the seat is proved here. -/
namespace Go.Proofs.Ytjndcfamfminkar
open Go.RowKit
end Go.Proofs.Ytjndcfamfminkar
/- The walk through the program's Seal. No statement of the seat is proved here. -/
namespace Go.Proofs.Ytjndcfamfminkar
open Go.RowKit
theorem SealL.row {w : World} {A S : Array Value} {B L lo n1 : Nat} {x : Ag} {q1 : Option Addr} {k1 : Nat} {q2 : Option Addr} {l2 k2 : Nat} {F G GG : List Nat} {vs : List Value} {W : World} {X : Nat} (h : SealL w A S B L lo n1 x q1 k1 q2 l2 k2 F G GG vs W) (hX : L < X) (ds : Array Value) : SealL w A S B L lo n1 x q1 k1 q2 l2 k2 F G GG vs (W.setRow X ds) := by
  have gB := h.gB; have gL := h.gL
  refine ⟨⟨h.base.box.setRowOther (by omega), h.base.sk.setRowOther (by omega), h.base.res.setRowOther (by omega), below_setRow h.base.bel (by omega) _⟩, h.loc.setRowOther (by omega), ?_, gB, gL⟩
  have nF : X ∉ F := fun hx => by have := h.c.l1 _ hx; omega
  have nG : X ∉ G := fun hx => by have := h.c.l2' _ hx; omega
  have nK : X ∉ GG := fun hx => by have := h.c.l3 _ hx; omega
  have nV : ¬ (Value.slice q1 n1 k1).ownBlock = some X := fun e => by have := h.c.l4 _ e; omega
  refine ⟨h.c.len, h.c.rl.agree (Agree.row nF _), h.c.rp.agree (Agree.row nG _), h.c.cp1, h.c.cp2, h.c.oF.agree (Agree.row nF _), h.c.oG.agree (Agree.row nG _), h.c.ap, ⟨?_, h.c.gr.rd.agree (Agree.row nK _), h.c.gr.og.agree (Agree.row nK _), h.c.gr.ap, ?_⟩, h.c.hlo, h.c.g1, h.c.g2, h.c.l1, h.c.l2', h.c.l3, h.c.l4, h.c.l5⟩
  · refine ⟨h.c.gr.row.1, ?_⟩
    rcases h.c.gr.row.2 with q | ⟨g', cap, cur, h1, h2, h3, h4⟩
    · exact .inl q
    · exact .inr ⟨g', cap, cur, h1, h2, by rw [setRow_other W X g' ds (fun e => nV (by rw [h1, ← e]; rfl))]; exact h3, h4⟩
  · have := (below_setRow (Below.refl 0 W) (Nat.zero_le X) ds).size
    exact Nat.le_trans h.c.gr.lw this
end Go.Proofs.Ytjndcfamfminkar
/- What the walks through the model's AgentSend and the program's share. No statement of the seat is proved here. -/
namespace Go.Proofs.Ytjndcfamfminkar
open Go.RowKit
/-- A new agent and a new frame. -/
def NewAgFr (w : World) (z : Ag × Fr) (e : Ending) (w' : World) : Prop := ∃ v u F G F' G', e = .returned (.tuple #[v, u]) ∧ RdAg w' v z.1 F G ∧ RdFr w' u z.2 F' G' ∧ Own w.heap.size w' F ∧ Own w.heap.size w' G ∧ Own w.heap.size w' F' ∧ Own w.heap.size w' G' ∧ (∀ b ∈ F, b ∉ G) ∧ (∀ b ∈ F', b ∉ G') ∧ (∀ b ∈ F ++ G, b ∉ F' ++ G') ∧ Below w.heap.size w w'
/-- What an AgentSend has before it: the agent, the places of its two results. -/
structure SendW (w : World) (A : Array Value) (W : World) : Prop where
  box : Blk W w.heap.size A 25
  ra : Blk W (w.heap.size + 1) #[.int .i64 0, .int .i64 0, .bool false, .int .i64 0, .slice none 0 0, .slice none 0 0, .int .i64 0] 25
  rf : Blk W (w.heap.size + 1 + 1) #[.int .i64 0, .int .i64 0, .int .i64 0, .int .i64 0, .slice none 0 0, .int .i64 0, .int .i64 0, .int .i64 0, .int .i64 0, .int .i64 0, .int .i64 0, .int .i64 0, .int .i64 0, .slice none 0 0, .slice none 0 0, .slice none 0 0] 56
  bel : Below w.heap.size w W
theorem SendW.below {w W W' : World} {A : Array Value} (h : SendW w A W) (b : Below W.heap.size W W') : SendW w A W' := ⟨h.box.below b, h.ra.below b, h.rf.below b, Below.next h.bel b⟩
theorem SendW.made (w : World) (A : Array Value) : SendW w A (((w.alloc (.cells A 25)).alloc (.cells #[.int .i64 0, .int .i64 0, .bool false, .int .i64 0, .slice none 0 0, .slice none 0 0, .int .i64 0] 25)).alloc (.cells #[.int .i64 0, .int .i64 0, .int .i64 0, .int .i64 0, .slice none 0 0, .int .i64 0, .int .i64 0, .int .i64 0, .int .i64 0, .int .i64 0, .int .i64 0, .int .i64 0, .int .i64 0, .slice none 0 0, .slice none 0 0, .slice none 0 0] 56)) :=
  ⟨((Blk.made _ _ _).alloc _).alloc _, (Blk.made_eq (by simp)).alloc _, Blk.made_eq (by simp), Below.allocW _ (Below.allocW _ (Below.allocW _ (Below.refl _ _) (Nat.le_refl _)) (Nat.le_refl _)) (Nat.le_refl _)⟩
/-- .. and the copy in a variable at L. -/
structure SendL (w : World) (A : Array Value) (L : Nat) (C : Array Value) (y : Ag) (F G : List Nat) (W : World) : Prop where
  base : SendW w A W
  loc : Blk W L C 25
  rd : RdAg W (.agg C) y F G
  oF : Own (w.heap.size + 3) W F
  oG : Own (w.heap.size + 3) W G
  ap : ∀ b ∈ F, b ∉ G
  gL : w.heap.size + 3 ≤ L
  lF : ∀ b ∈ F, b < L
  lG : ∀ b ∈ G, b < L
theorem SendL.below {w : World} {A : Array Value} {L : Nat} {C : Array Value} {y : Ag} {F G : List Nat} {W W' : World} (h : SendL w A L C y F G W) (b : Below W.heap.size W W') : SendL w A L C y F G W' :=
  ⟨h.base.below b, h.loc.below b, h.rd.below b, h.oF.below h.rd.lt1 b, h.oG.below h.rd.lt2 b, h.ap, h.gL, h.lF, h.lG⟩
/-- Its last field is turned. -/
theorem SendL.turn {w : World} {A : Array Value} {L : Nat} {x : Ag} {q1 q2 : Option Addr} {r1 k1 r2 k2 : Nat} {F G : List Nat} {W : World} (h : SendL w A L #[.int .i64 x.id, .int .i64 x.epoch, .bool x.live, .int .i64 x.granted, .slice q1 r1 k1, .slice q2 r2 k2, .int .i64 x.next] x F G W) (sq : Int) :
    SendL w A L #[.int .i64 x.id, .int .i64 x.epoch, .bool x.live, .int .i64 x.granted, .slice q1 r1 k1, .slice q2 r2 k2, .int .i64 sq] ⟨x.id, x.epoch, x.live, x.granted, x.sealed, x.taken, sq⟩ F G (W.setCell ⟨L, 6, none⟩ (.int .i64 sq)) := by
  have gL := h.gL
  have nF : L ∉ F := fun hx => by have := h.lF L hx; omega
  have nG : L ∉ G := fun hx => by have := h.lG L hx; omega
  obtain ⟨a1, m1, c1, a2, m2, c2, e, g1, g2, g3, g4⟩ := h.rd
  injection e with e
  injection e with e
  simp at e
  obtain ⟨e1, e2⟩ := e
  obtain ⟨rfl, rfl, rfl⟩ := e1
  obtain ⟨rfl, rfl, rfl⟩ := e2
  exact ⟨⟨h.base.box.setOther (by omega) 6 _, h.base.ra.setOther (by omega) 6 _, h.base.rf.setOther (by omega) 6 _, h.base.bel.setCell (by show w.heap.size ≤ L; omega) _⟩, h.loc.set 6 _,
    ⟨_, _, _, _, _, _, rfl, g1.agree (.set nF 6 _), g2.agree (.set nG 6 _), g3, g4⟩, h.oF.agree (.set nF 6 _), h.oG.agree (.set nG 6 _), h.ap, gL, h.lF, h.lG⟩
/-- Both results are laid. -/
theorem SendL.put {w : World} {A : Array Value} {L : Nat} {C D : Array Value} {y : Ag} {f : Fr} {F G G' : List Nat} {W : World} (h : SendL w A L C y F G W) (hr : RdFr W (.agg D) f [] G') (ho : Own (w.heap.size + 3) W G') (hg : ∀ b ∈ G', L < b) :
    NewAgFr w (y, f) (.returned (.tuple #[.agg C, .agg D])) ((W.setRow (w.heap.size + 1) C).setRow (w.heap.size + 1 + 1) D) ∧ Blk ((W.setRow (w.heap.size + 1) C).setRow (w.heap.size + 1 + 1) D) (w.heap.size + 1) C 25 ∧ Blk ((W.setRow (w.heap.size + 1) C).setRow (w.heap.size + 1 + 1) D) (w.heap.size + 1 + 1) D 56 := by
  have ag : ∀ {X : List Nat}, (∀ b ∈ X, w.heap.size + 3 ≤ b) → Agree W ((W.setRow (w.heap.size + 1) C).setRow (w.heap.size + 1 + 1) D) X := fun hX b hb => (setRow_other _ _ b _ (fun e => by have := hX b hb; omega)).trans (setRow_other W _ b _ (fun e => by have := hX b hb; omega))
  have aF := ag h.oF.ge
  have aG := ag h.oG.ge
  have aI := ag ho.ge
  refine ⟨⟨_, _, F, G, [], G', rfl, h.rd.agree aF aG, hr.agree (fun b hb => by cases hb) aI, (h.oF.agree aF).mono (by omega), (h.oG.agree aG).mono (by omega), Own.nil, (ho.agree aI).mono (by omega), h.ap, (fun b hb => by cases hb), fun b hb hx => ?_, below_setRow (below_setRow h.base.bel (by omega) _) (by omega) _⟩, h.base.ra.setRow.setRowOther (by omega), (h.base.rf.setRowOther (by omega)).setRow⟩
  have h1 := hg b (by simpa using hx)
  rcases List.mem_append.1 hb with hb | hb
  · have := h.lF b hb; omega
  · have := h.lG b hb; omega
end Go.Proofs.Ytjndcfamfminkar
/- The walks through the program's numbers, bytesOfNumbers and SketchBytes. No statement of the seat is proved here. -/
namespace Go.Proofs.Ytjndcfamfminkar
open Go.RowKit
section
variable {P : Program} {ops : Array Oper} {Q : Exit → Act → World → Prop} {a : Act} {w : World} {o : Oper} {K : Act → World → Prop}
end
theorem NumSt.below {w W W' : World} {cs : Array Value} {t : TypeId} {v : Value} {xs : List Int} (h : NumSt w cs t v xs W) (hb : Below W.heap.size W W') : NumSt w cs t v xs W' := ⟨h.box.below hb, ownsRow_below h.own hb, Below.next h.bel hb⟩
end Go.Proofs.Ytjndcfamfminkar
/- The walk through the program's GetNum: it defers, it calls readNum, it recovers. No statement of the seat is proved here. -/
namespace Go.Proofs.Ytjndcfamfminkar
open Go.RowKit





end Go.Proofs.Ytjndcfamfminkar
/- The walk through the program's numbersOfBytes. No statement of the seat is proved here. -/
namespace Go.Proofs.Ytjndcfamfminkar
open Go.RowKit
end Go.Proofs.Ytjndcfamfminkar
/- The walks through the program's SketchBytes, numbersOfItem, crcBytes. No statement of the seat is proved here. -/
namespace Go.Proofs.Ytjndcfamfminkar
open Go.RowKit
theorem ok_shaped {s : Sk} (h : s.ok = true) : s.shaped = true := by
  have l := (Sk.ok_lens h).1
  cases q : s.shaped
  · have e : okT s s.tl = false := by unfold okT; rw [q]; rfl
    rw [okT_ok (fun _ => rfl), h] at e
    cases e
  · rfl
end Go.Proofs.Ytjndcfamfminkar
/- The walks through the program's sketchOfNumbers and SketchOf. No statement of the seat is proved here. -/
namespace Go.Proofs.Ytjndcfamfminkar
open Go.RowKit
end Go.Proofs.Ytjndcfamfminkar
/- The walk through the model's AgentSend. No statement of the seat is proved here. -/
namespace Go.Proofs.Ytjndcfamfminkar
open Go.RowKit
end Go.Proofs.Ytjndcfamfminkar
/- The walk through the program's AgentSend. No statement of the seat is proved here. -/
namespace Go.Proofs.Ytjndcfamfminkar
open Go.RowKit
end Go.Proofs.Ytjndcfamfminkar
/- The walks through the program's SetAdd and SetJoin. No statement of the seat is proved here. -/
namespace Go.Proofs.Ytjndcfamfminkar
open Go.RowKit
theorem inb_ok {ps : Sp} (h : ps.ok = true) : ∀ p ∈ ps, InB p := inb_iff.1 (ok_inb h)
set_option maxRecDepth 200000 in
set_option maxHeartbeats 4000000 in
theorem joinImpl_any (a b : Option Addr) (la lb ca cb : Nat) (ps qs : Sp) (F G : List Nat) (w : World) (h : RdP w a la ps F) (k : RdP w b lb qs G) (hlen : la + lb ≤ 2097152) (hca : la ≤ ca) :
    Calls Try.prog 73 #[.slice a la ca, .slice b lb cb] w fun e w' => NewP2 w (ps.join qs) (ps.ok && qs.ok) e w' := by
  have HR : Hid (RdP w a la ps F ∧ RdP w b lb qs G) := ⟨h, k⟩
  clear h k
  go_enter Try.func73, Try.ntmps73
  go_wp2_with fail
  refine (setOkImpl_any a la ca ps F _ HR.out.1 (by omega)).mono ?_
  rintro e w1 ⟨rfl, hb⟩
  have HB0 : Hid (Below w.heap.size w w1) := hb
  clear hb
  obtain ⟨d, hd⟩ : ∃ d, d = ps.ok := ⟨_, rfl⟩
  rw [← hd]
  have HD : Hid (d = ps.ok) := hd
  clear hd
  cases d
  · have HV : Hid (ps.join qs = [] ∧ (ps.ok && qs.ok) = false) := ⟨Sp.join_not (by rw [← HD.out]; rfl), by rw [← HD.out]; rfl⟩
    go_wp2
    go_ret2
    rw [HV.out.1, HV.out.2]
    exact ⟨_, 0, 0, [], rfl, RdP.nil, Own.nil, HB0.out, fun _ => rfl, Nat.le_refl _⟩
  go_wp2_with fail
  refine (setOkImpl_any b lb cb qs G _ (HR.out.2.below HB0.out) (by omega)).mono ?_
  rintro e w2 ⟨rfl, hb⟩
  have HB1 : Hid (Below w.heap.size w w2) := Below.next HB0.out hb
  clear hb HB0
  obtain ⟨d, hd⟩ : ∃ d, d = qs.ok := ⟨_, rfl⟩
  rw [← hd]
  have HE : Hid (d = qs.ok) := hd
  clear hd
  cases d
  · have HV : Hid (ps.join qs = [] ∧ (ps.ok && qs.ok) = false) := ⟨Sp.join_not (by rw [← HD.out, ← HE.out]; rfl), by rw [← HD.out, ← HE.out]; rfl⟩
    go_wp2
    go_ret2
    rw [HV.out.1, HV.out.2]
    exact ⟨_, 0, 0, [], rfl, RdP.nil, Own.nil, HB1.out, fun _ => rfl, Nat.le_refl _⟩
  have HV : Hid (both ps qs [] = ps.join qs ∧ (ps.ok && qs.ok) = true) := ⟨both_join HD.out.symm HE.out.symm, by rw [← HD.out, ← HE.out]; rfl⟩
  go_wp2_with fail
  refine (spansOfBoth_any a b la lb ca cb ps qs F G _ (HR.out.1.below HB1.out) (HR.out.2.below HB1.out) (by omega) hca (inb_ok HD.out.symm) (inb_ok HE.out.symm)).mono ?_
  rintro e w3 ⟨a', l', c', F', rfl, g1, g2, g3, g4⟩
  have HN : Hid (RdP w3 a' l' (ps.join qs) F' ∧ Own w.heap.size w3 F' ∧ Below w.heap.size w w3 ∧ Capd a' l' c') := ⟨by rw [← HV.out.1]; exact g1, g2.mono HB1.out.size, Below.next HB1.out g3, g4⟩
  clear g1 g2 g3 g4
  go_wp2
  go_ret2
  rw [HV.out.2]
  exact ⟨a', l', c', F', rfl, HN.out⟩
end Go.Proofs.Ytjndcfamfminkar
/- The walks through the program's newsFor, turnedBy and AgentHear. No statement of the seat is proved here. -/
namespace Go.Proofs.Ytjndcfamfminkar
open Go.RowKit
section
variable {P : Program} {ops : Array Oper} {Q : Exit → Act → World → Prop} {a : Act} {w : World} {o : Oper} {K : Act → World → Prop}
/-- A method called on an interface value whose type is known. -/
theorem op_invoke0 (x : Operand) (name : String) (T : TypeId) (rv : Value) (f : FuncId) (fn : Func) (R : Value → World → Prop) (hw : Region.wanted o (yielded ops a.tmps) = true) (ho : o.op = Op.call { callee := Callee.invoke x name, args := #[], argTypes := #[] })
    (hx : a.eval x = .iface T rv) (hm : ∀ w k, (method (k + 1) T rv name).run P w = .ok (f, rv) w)
    (hfn : P.funcs[f]? = some fn) (hnm : (fn.name == "runtime.NumGoroutine") = false) (hbd : fn.body.isNone = false) (hc : Calls P f #[rv] w fun e w' => ∃ v, e = .returned v ∧ R v w') (h : ∀ v w', R v w' → ∃ a', a.put o.dst v = a' ∧ K a' w') : if Region.wanted o (yielded ops a.tmps) = true then Oper.wp P o a w K Q else K (a.put o.dst undef) w := by
  rw [if_pos hw]
  have hnm' : ¬ fn.name = "runtime.NumGoroutine" := by simpa using hnm
  have hbd' : ¬ fn.body = none := by intro e; rw [e] at hbd; cases hbd
  unfold Oper.wp
  simp [Act.eval, go_sem] at hx
  simp only [execOp, ho, resolve, invoke, Oper.upon, go_sem]
  simp [hx, hm, callFunc, hfn, hnm', hbd', go_sem]
  refine Calls.mono hc ?_
  rintro e w1 ⟨v, rfl, hR⟩
  obtain ⟨_, rfl, hk⟩ := h v w1 hR
  exact hk
end
set_option maxRecDepth 200000 in
theorem ackOf_any (e g : Int) (w : World) : Calls Try.prog 131 #[.agg #[.int .i64 e, .int .i64 g]] w fun r w' => r = .returned (.int .i64 e) ∧ Below w.heap.size w w' := by
  have HB : Hid (Below w.heap.size w (w.alloc (.cells #[.int .i64 e, .int .i64 g] 118))) := Below.allocW _ (Below.refl _ _) (Nat.le_refl _)
  go_enter Try.func131, Try.ntmps131
  go_wp2
  go_ret
  exact ⟨rfl, HB.out⟩
set_option maxRecDepth 200000 in
theorem resetOf_any (e : Int) (w : World) : Calls Try.prog 132 #[.agg #[.int .i64 e]] w fun r w' => r = .returned (.int .i64 e) ∧ Below w.heap.size w w' := by
  have HB : Hid (Below w.heap.size w (w.alloc (.cells #[.int .i64 e] 120))) := Below.allocW _ (Below.refl _ _) (Nat.le_refl _)
  go_enter Try.func132, Try.ntmps132
  go_wp2
  go_ret
  exact ⟨rfl, HB.out⟩
theorem assertAA (e g : Int) (w : World) : (Instr.typeAssert (.iface 118 (.agg #[.int .i64 e, .int .i64 g])) 95 118 true).run Try.prog w = .ok (.tuple #[.agg #[.int .i64 e, .int .i64 g], .bool true]) w := by kernel_rfl
theorem assertRA (e : Int) (w : World) : (Instr.typeAssert (.iface 120 (.agg #[.int .i64 e])) 95 118 true).run Try.prog w = .ok (.tuple #[.agg #[.int .i64 0, .int .i64 0], .bool false]) w := by kernel_rfl
theorem assertRR (e : Int) (w : World) : (Instr.typeAssert (.iface 120 (.agg #[.int .i64 e])) 95 120 true).run Try.prog w = .ok (.tuple #[.agg #[.int .i64 e], .bool true]) w := by kernel_rfl
theorem methodA (e g : Int) (w : World) (k : Nat) : (method (k + 1) 118 (.agg #[.int .i64 e, .int .i64 g]) "loop.example/g00491/impl.of").run Try.prog w = .ok (131, .agg #[.int .i64 e, .int .i64 g]) w := by kernel_rfl
theorem methodR (e : Int) (w : World) (k : Nat) : (method (k + 1) 120 (.agg #[.int .i64 e]) "loop.example/g00491/impl.of").run Try.prog w = .ok (132, .agg #[.int .i64 e]) w := by kernel_rfl
theorem infoAgT : (Try.prog.info? 25).map (·.size) = some 7 := by kernel_rfl
theorem infoFrT : (Try.prog.info? 56).map (·.size) = some 16 := by kernel_rfl
set_option maxRecDepth 200000 in
set_option maxHeartbeats 2000000 in
theorem turnedAck1 (i ep gr nx e g : Int) (lv : Bool) (a1 a2 : Option Addr) (n1 c1 n2 c2 : Nat) (w : World) (h : ep < e) :
    Calls Try.prog 74 #[.agg #[.int .i64 i, .int .i64 ep, .bool lv, .int .i64 gr, .slice a1 n1 c1, .slice a2 n2 c2, .int .i64 nx], .iface 118 (.agg #[.int .i64 e, .int .i64 g])] w fun r w' => r = .returned (.agg #[.int .i64 i, .int .i64 e, .bool true, .int .i64 (max 0 g), .slice a1 n1 c1, .slice a2 n2 c2, .int .i64 nx]) ∧ Below w.heap.size w w' := by
  have z : decide (ep < e) = true := dec_true h
  have HB : Hid (Blk (((w.alloc (.cells #[.int .i64 i, .int .i64 ep, .bool lv, .int .i64 0, .slice a1 n1 c1, .slice a2 n2 c2, .int .i64 nx] 25)).alloc (.cells #[.int .i64 0, .int .i64 0, .bool false, .int .i64 0, .slice none 0 0, .slice none 0 0, .int .i64 0] 25)).alloc (.cells #[.int .i64 e, .int .i64 g] 118)) w.heap.size #[.int .i64 i, .int .i64 ep, .bool lv, .int .i64 0, .slice a1 n1 c1, .slice a2 n2 c2, .int .i64 nx] 25 ∧ Blk (((w.alloc (.cells #[.int .i64 i, .int .i64 ep, .bool lv, .int .i64 0, .slice a1 n1 c1, .slice a2 n2 c2, .int .i64 nx] 25)).alloc (.cells #[.int .i64 0, .int .i64 0, .bool false, .int .i64 0, .slice none 0 0, .slice none 0 0, .int .i64 0] 25)).alloc (.cells #[.int .i64 e, .int .i64 g] 118)) (w.heap.size + 1) #[.int .i64 0, .int .i64 0, .bool false, .int .i64 0, .slice none 0 0, .slice none 0 0, .int .i64 0] 25 ∧ Blk (((w.alloc (.cells #[.int .i64 i, .int .i64 ep, .bool lv, .int .i64 0, .slice a1 n1 c1, .slice a2 n2 c2, .int .i64 nx] 25)).alloc (.cells #[.int .i64 0, .int .i64 0, .bool false, .int .i64 0, .slice none 0 0, .slice none 0 0, .int .i64 0] 25)).alloc (.cells #[.int .i64 e, .int .i64 g] 118)) (w.heap.size + 1 + 1) #[.int .i64 e, .int .i64 g] 118 ∧ Below w.heap.size w (((w.alloc (.cells #[.int .i64 i, .int .i64 ep, .bool lv, .int .i64 0, .slice a1 n1 c1, .slice a2 n2 c2, .int .i64 nx] 25)).alloc (.cells #[.int .i64 0, .int .i64 0, .bool false, .int .i64 0, .slice none 0 0, .slice none 0 0, .int .i64 0] 25)).alloc (.cells #[.int .i64 e, .int .i64 g] 118))) :=
    ⟨((Blk.made _ _ _).alloc _).alloc _, (Blk.made_eq (by simp)).alloc _, Blk.made_eq (by simp), Below.allocW _ (Below.allocW _ (Below.allocW _ (Below.refl _ _) (Nat.le_refl _)) (Nat.le_refl _)) (Nat.le_refl _)⟩
  have hA := assertAA e g
  have hM := methodA e g
  clear h
  go_enter Try.func74, Try.ntmps74
  go_wp2_with fail
  obtain ⟨W0, hW0⟩ : ∃ W, W = ((w.alloc (.cells #[.int .i64 i, .int .i64 ep, .bool lv, .int .i64 0, .slice a1 n1 c1, .slice a2 n2 c2, .int .i64 nx] 25)).alloc (.cells #[.int .i64 0, .int .i64 0, .bool false, .int .i64 0, .slice none 0 0, .slice none 0 0, .int .i64 0] 25)).alloc (.cells #[.int .i64 e, .int .i64 g] 118) := ⟨_, rfl⟩
  rw [← hW0] at HB ⊢
  clear hW0 z
  have HD : Hid (Blk W0.drew w.heap.size #[.int .i64 i, .int .i64 ep, .bool lv, .int .i64 0, .slice a1 n1 c1, .slice a2 n2 c2, .int .i64 nx] 25 ∧ Blk W0.drew (w.heap.size + 1) #[.int .i64 0, .int .i64 0, .bool false, .int .i64 0, .slice none 0 0, .slice none 0 0, .int .i64 0] 25 ∧ Blk W0.drew (w.heap.size + 1 + 1) #[.int .i64 e, .int .i64 g] 118 ∧ Below w.heap.size w W0.drew) := by
    have bd := (Below.refl W0.heap.size W0).drew
    exact ⟨HB.out.1.below bd, HB.out.2.1.below bd, HB.out.2.2.1.below bd, Below.next HB.out.2.2.2 bd⟩
  obtain ⟨Y0, hY0⟩ : ∃ Y, Y = W0.drew := ⟨_, rfl⟩
  rw [← hY0] at HD
  clear HB
  refine wp_region_held (S := fun W => Blk W (w.heap.size + 1 + 1) #[.int .i64 e, .int .i64 g] 118) (by kernel_rfl) ?_
  change wpAnyH _ _ _ _ _ _ _ _ (World.drew _)
  rw [← hY0]
  clear hY0
  refine takeH (o := ?o1) 0 (.pointer (some ⟨w.heap.size, 3, none⟩)) ?h1 ?r1
  case h1 => simp only [aT, aZ]; rfl
  refine ⟨_, by simp [Act.put]; rfl, by kernel_rfl, by kernel_rfl, by kernel_rfl, fun _ _ _ h => h, (.inl ⟨rfl, fun W _ => by kernel_rfl⟩), HD.out.2.2.1, ?_⟩
  refine takeH (o := ?o2) 2 (.pointer (some ⟨w.heap.size + 1 + 1, 1, none⟩)) ?h2 ?r2
  case h2 => simp only [aT, aS, aZ]; rfl
  refine ⟨_, by simp [Act.put]; rfl, by kernel_rfl, by kernel_rfl, by kernel_rfl, fun _ _ _ h => h, (.inl ⟨rfl, fun W _ => by kernel_rfl⟩), HD.out.2.2.1, ?_⟩
  refine takeH (o := ?o3) 3 (.int .i64 g) ?h3 ?r3
  case h3 => simp only [aT, aS, aZ]; rfl
  refine ⟨_, by simp [Act.put]; rfl, by kernel_rfl, by kernel_rfl, by kernel_rfl, fun _ _ _ h => h, (.inl ⟨rfl, fun W hW => by have c := hW.cell 1; simp only [aT, aS, aZ] at c; go_simp⟩), HD.out.2.2.1, ?_⟩
  refine onlyH (o := ?o4) 1 (by kernel_rfl) ?h4 ?r4
  case h4 => simp only [aT, aS, aZ]; rfl
  intro K hK
  have co := HD.out.1.cell 3
  simp only [aT, aS, aZ] at co
  refine op_value (.int .i64 0) rfl (by go_simp) ⟨_, by simp [Act.put]; rfl, hK _ _ ⟨HD.out.2.2.1, ?_⟩⟩
  clear hK co
  refine takeH (o := ?o5) 4 (.int .i64 (max 0 g)) ?h5 ?r5
  case h5 => simp only [aT, aS, aZ]; rfl
  refine ⟨_, by simp [Act.put]; rfl, by kernel_rfl, by kernel_rfl, by kernel_rfl, fun _ _ _ h => h, (.inl ⟨rfl, fun W _ => by go_simp; first | done | (rw [Int.max_def]; split <;> split <;> first | rfl | omega) | (simp [Int.max_def]; omega)⟩), HD.out.2.2.1, ?_⟩
  refine takeH (o := ?o6) 5 (.pointer (some ⟨w.heap.size, 2, none⟩)) ?h6 ?r6
  case h6 => simp only [aT, aS, aZ]; rfl
  refine ⟨_, by simp [Act.put]; rfl, by kernel_rfl, by kernel_rfl, by kernel_rfl, fun _ _ _ h => h, (.inl ⟨rfl, fun W _ => by kernel_rfl⟩), HD.out.2.2.1, ?_⟩
  refine onlyH (o := ?o7) 6 (by kernel_rfl) ?h7 ?r7
  case h7 => simp only [aT, aS, aZ]; rfl
  intro K hK
  have co := HD.out.1.cell 2
  have fo := HD.out.1.frozen 2
  simp only [aT, aS, aZ] at co
  have H2 : Hid (Blk (Y0.setCell ⟨w.heap.size, 2, none⟩ (.bool true)) w.heap.size #[.int .i64 i, .int .i64 ep, .bool true, .int .i64 0, .slice a1 n1 c1, .slice a2 n2 c2, .int .i64 nx] 25 ∧ Blk (Y0.setCell ⟨w.heap.size, 2, none⟩ (.bool true)) (w.heap.size + 1) #[.int .i64 0, .int .i64 0, .bool false, .int .i64 0, .slice none 0 0, .slice none 0 0, .int .i64 0] 25 ∧ Blk (Y0.setCell ⟨w.heap.size, 2, none⟩ (.bool true)) (w.heap.size + 1 + 1) #[.int .i64 e, .int .i64 g] 118 ∧ Below w.heap.size w (Y0.setCell ⟨w.heap.size, 2, none⟩ (.bool true))) :=
    ⟨HD.out.1.set 2 _, HD.out.2.1.setOther (by omega) 2 _, HD.out.2.2.1.setOther (by omega) 2 _, HD.out.2.2.2.setCell (by show w.heap.size ≤ w.heap.size; omega) _⟩
  refine op_skip (Y0.setCell ⟨w.heap.size, 2, none⟩ (.bool true)) rfl (by go_simp) ⟨_, by simp [Act.put]; rfl, hK _ _ ⟨H2.out.2.2.1, ?_⟩⟩
  clear hK co fo HD
  obtain ⟨Y1, hY1⟩ : ∃ Y, Y = Y0.setCell ⟨w.heap.size, 2, none⟩ (.bool true) := ⟨_, rfl⟩
  rw [← hY1] at H2 ⊢
  clear hY1
  refine takeH (o := ?o8) 7 (.pointer (some ⟨w.heap.size, 3, none⟩)) ?h8 ?r8
  case h8 => simp only [aT, aS, aZ]; rfl
  refine ⟨_, by simp [Act.put]; rfl, by kernel_rfl, by kernel_rfl, by kernel_rfl, fun _ _ _ h => h, (.inl ⟨rfl, fun W _ => by kernel_rfl⟩), H2.out.2.2.1, ?_⟩
  refine onlyH (o := ?o9) 8 (by kernel_rfl) ?h9 ?r9
  case h9 => simp only [aT, aS, aZ]; rfl
  intro K hK
  have co := H2.out.1.cell 3
  have fo := H2.out.1.frozen 3
  simp only [aT, aS, aZ] at co
  have H3 : Hid (Blk (Y1.setCell ⟨w.heap.size, 3, none⟩ (.int .i64 (max 0 g))) w.heap.size #[.int .i64 i, .int .i64 ep, .bool true, .int .i64 (max 0 g), .slice a1 n1 c1, .slice a2 n2 c2, .int .i64 nx] 25 ∧ Blk (Y1.setCell ⟨w.heap.size, 3, none⟩ (.int .i64 (max 0 g))) (w.heap.size + 1) #[.int .i64 0, .int .i64 0, .bool false, .int .i64 0, .slice none 0 0, .slice none 0 0, .int .i64 0] 25 ∧ Blk (Y1.setCell ⟨w.heap.size, 3, none⟩ (.int .i64 (max 0 g))) (w.heap.size + 1 + 1) #[.int .i64 e, .int .i64 g] 118 ∧ Below w.heap.size w (Y1.setCell ⟨w.heap.size, 3, none⟩ (.int .i64 (max 0 g)))) :=
    ⟨H2.out.1.set 3 _, H2.out.2.1.setOther (by omega) 3 _, H2.out.2.2.1.setOther (by omega) 3 _, H2.out.2.2.2.setCell (by show w.heap.size ≤ w.heap.size; omega) _⟩
  refine op_skip (Y1.setCell ⟨w.heap.size, 3, none⟩ (.int .i64 (max 0 g))) rfl (by go_simp) ⟨_, by simp [Act.put]; rfl, hK _ _ ⟨H3.out.2.2.1, ?_⟩⟩
  clear hK co fo H2
  refine wpAnyH_done (by kernel_rfl) ?_ _
  obtain ⟨Y2, hY2⟩ : ∃ Y, Y = Y1.setCell ⟨w.heap.size, 3, none⟩ (.int .i64 (max 0 g)) := ⟨_, rfl⟩
  rw [← hY2] at H3 ⊢
  clear hY2
  have H4 : Hid (Blk Y2 w.heap.size #[.int .i64 i, .int .i64 ep, .bool true, .int .i64 (max 0 g), .slice a1 n1 c1, .slice a2 n2 c2, .int .i64 nx] 25 ∧ Blk Y2 (w.heap.size + 1) #[.int .i64 0, .int .i64 0, .bool false, .int .i64 0, .slice none 0 0, .slice none 0 0, .int .i64 0] 25 ∧ Below w.heap.size w Y2) := ⟨H3.out.1, H3.out.2.1, H3.out.2.2.2⟩
  clear H3
  go_wp2_with fail
  refine (ackOf_any e g _).mono ?_
  rintro r w5 ⟨rfl, hb5⟩
  have H5 : Hid (Blk w5 w.heap.size #[.int .i64 i, .int .i64 ep, .bool true, .int .i64 (max 0 g), .slice a1 n1 c1, .slice a2 n2 c2, .int .i64 nx] 25 ∧ Blk w5 (w.heap.size + 1) #[.int .i64 0, .int .i64 0, .bool false, .int .i64 0, .slice none 0 0, .slice none 0 0, .int .i64 0] 25 ∧ Below w.heap.size w w5) := ⟨H4.out.1.below hb5, H4.out.2.1.below hb5, Below.next H4.out.2.2 hb5⟩
  have c1' := H5.out.1.cell 1
  have f1' := H5.out.1.frozen 1
  simp only [aT, aS, aZ] at c1'
  clear hb5
  go_wp2_with (first | go_skip | (with_reducible refine stopLoad 25 rfl ?_))
  obtain ⟨w6, hw6⟩ : ∃ W, W = w5.setCell ⟨w.heap.size, 1, none⟩ (.int .i64 e) := ⟨_, rfl⟩
  have H6 : Hid (Blk w6 w.heap.size #[.int .i64 i, .int .i64 e, .bool true, .int .i64 (max 0 g), .slice a1 n1 c1, .slice a2 n2 c2, .int .i64 nx] 25 ∧ Blk w6 (w.heap.size + 1) #[.int .i64 0, .int .i64 0, .bool false, .int .i64 0, .slice none 0 0, .slice none 0 0, .int .i64 0] 25 ∧ Below w.heap.size w w6) := by
    rw [hw6]
    exact ⟨H5.out.1.set 1 _, H5.out.2.1.setOther (by omega) 1 _, H5.out.2.2.setCell (by show w.heap.size ≤ w.heap.size; omega) _⟩
  rw [← hw6]
  clear hw6 H5 c1' f1'
  refine load_known 25 w.heap.size _ 25 _ H6.out.1 rfl rfl rfl Try.underlying25 rfl infoAgT ?_
  go_wp2_with (first | go_skip | (with_reducible refine stopStore 25 rfl ?_))
  refine store_known 25 (w.heap.size + 1) _ #[.int .i64 i, .int .i64 e, .bool true, .int .i64 (max 0 g), .slice a1 n1 c1, .slice a2 n2 c2, .int .i64 nx] 25 H6.out.2.1 rfl rfl rfl rfl infoAgT rfl (by simp [Value.oneCell']) ?_
  go_wp2
  refine bodyPost_ret (results_cell_row Try.results74 _ _ (w.heap.size + 1) _ _ (0, 0) _ rfl H6.out.2.1.setRow Try.underlying25 rfl infoAgT) rfl ?_
  exact ⟨rfl, below_setRow H6.out.2.2 (by omega) _⟩
set_option maxRecDepth 200000 in
set_option maxHeartbeats 2000000 in
theorem turnedAck2 (i ep gr nx e g : Int) (lv : Bool) (a1 a2 : Option Addr) (n1 c1 n2 c2 : Nat) (w : World) (h : ¬ ep < e) :
    Calls Try.prog 74 #[.agg #[.int .i64 i, .int .i64 ep, .bool lv, .int .i64 gr, .slice a1 n1 c1, .slice a2 n2 c2, .int .i64 nx], .iface 118 (.agg #[.int .i64 e, .int .i64 g])] w fun r w' => r = .returned (.agg #[.int .i64 i, .int .i64 e, .bool true, .int .i64 (max gr g), .slice a1 n1 c1, .slice a2 n2 c2, .int .i64 nx]) ∧ Below w.heap.size w w' := by
  have z : decide (ep < e) = false := dec_false h
  have HB : Hid (Blk (((w.alloc (.cells #[.int .i64 i, .int .i64 ep, .bool lv, .int .i64 gr, .slice a1 n1 c1, .slice a2 n2 c2, .int .i64 nx] 25)).alloc (.cells #[.int .i64 0, .int .i64 0, .bool false, .int .i64 0, .slice none 0 0, .slice none 0 0, .int .i64 0] 25)).alloc (.cells #[.int .i64 e, .int .i64 g] 118)) w.heap.size #[.int .i64 i, .int .i64 ep, .bool lv, .int .i64 gr, .slice a1 n1 c1, .slice a2 n2 c2, .int .i64 nx] 25 ∧ Blk (((w.alloc (.cells #[.int .i64 i, .int .i64 ep, .bool lv, .int .i64 gr, .slice a1 n1 c1, .slice a2 n2 c2, .int .i64 nx] 25)).alloc (.cells #[.int .i64 0, .int .i64 0, .bool false, .int .i64 0, .slice none 0 0, .slice none 0 0, .int .i64 0] 25)).alloc (.cells #[.int .i64 e, .int .i64 g] 118)) (w.heap.size + 1) #[.int .i64 0, .int .i64 0, .bool false, .int .i64 0, .slice none 0 0, .slice none 0 0, .int .i64 0] 25 ∧ Blk (((w.alloc (.cells #[.int .i64 i, .int .i64 ep, .bool lv, .int .i64 gr, .slice a1 n1 c1, .slice a2 n2 c2, .int .i64 nx] 25)).alloc (.cells #[.int .i64 0, .int .i64 0, .bool false, .int .i64 0, .slice none 0 0, .slice none 0 0, .int .i64 0] 25)).alloc (.cells #[.int .i64 e, .int .i64 g] 118)) (w.heap.size + 1 + 1) #[.int .i64 e, .int .i64 g] 118 ∧ Below w.heap.size w (((w.alloc (.cells #[.int .i64 i, .int .i64 ep, .bool lv, .int .i64 gr, .slice a1 n1 c1, .slice a2 n2 c2, .int .i64 nx] 25)).alloc (.cells #[.int .i64 0, .int .i64 0, .bool false, .int .i64 0, .slice none 0 0, .slice none 0 0, .int .i64 0] 25)).alloc (.cells #[.int .i64 e, .int .i64 g] 118))) :=
    ⟨((Blk.made _ _ _).alloc _).alloc _, (Blk.made_eq (by simp)).alloc _, Blk.made_eq (by simp), Below.allocW _ (Below.allocW _ (Below.allocW _ (Below.refl _ _) (Nat.le_refl _)) (Nat.le_refl _)) (Nat.le_refl _)⟩
  have hA := assertAA e g
  have hM := methodA e g
  clear h
  go_enter Try.func74, Try.ntmps74
  go_wp2_with fail
  obtain ⟨W0, hW0⟩ : ∃ W, W = ((w.alloc (.cells #[.int .i64 i, .int .i64 ep, .bool lv, .int .i64 gr, .slice a1 n1 c1, .slice a2 n2 c2, .int .i64 nx] 25)).alloc (.cells #[.int .i64 0, .int .i64 0, .bool false, .int .i64 0, .slice none 0 0, .slice none 0 0, .int .i64 0] 25)).alloc (.cells #[.int .i64 e, .int .i64 g] 118) := ⟨_, rfl⟩
  rw [← hW0] at HB ⊢
  clear hW0 z
  have HD : Hid (Blk W0.drew w.heap.size #[.int .i64 i, .int .i64 ep, .bool lv, .int .i64 gr, .slice a1 n1 c1, .slice a2 n2 c2, .int .i64 nx] 25 ∧ Blk W0.drew (w.heap.size + 1) #[.int .i64 0, .int .i64 0, .bool false, .int .i64 0, .slice none 0 0, .slice none 0 0, .int .i64 0] 25 ∧ Blk W0.drew (w.heap.size + 1 + 1) #[.int .i64 e, .int .i64 g] 118 ∧ Below w.heap.size w W0.drew) := by
    have bd := (Below.refl W0.heap.size W0).drew
    exact ⟨HB.out.1.below bd, HB.out.2.1.below bd, HB.out.2.2.1.below bd, Below.next HB.out.2.2.2 bd⟩
  obtain ⟨Y0, hY0⟩ : ∃ Y, Y = W0.drew := ⟨_, rfl⟩
  rw [← hY0] at HD
  clear HB
  refine wp_region_held (S := fun W => Blk W (w.heap.size + 1 + 1) #[.int .i64 e, .int .i64 g] 118) (by kernel_rfl) ?_
  change wpAnyH _ _ _ _ _ _ _ _ (World.drew _)
  rw [← hY0]
  clear hY0
  refine takeH (o := ?o10) 0 (.pointer (some ⟨w.heap.size, 3, none⟩)) ?h10 ?r10
  case h10 => simp only [aT, aZ]; rfl
  refine ⟨_, by simp [Act.put]; rfl, by kernel_rfl, by kernel_rfl, by kernel_rfl, fun _ _ _ h => h, (.inl ⟨rfl, fun W _ => by kernel_rfl⟩), HD.out.2.2.1, ?_⟩
  refine takeH (o := ?o11) 2 (.pointer (some ⟨w.heap.size + 1 + 1, 1, none⟩)) ?h11 ?r11
  case h11 => simp only [aT, aS, aZ]; rfl
  refine ⟨_, by simp [Act.put]; rfl, by kernel_rfl, by kernel_rfl, by kernel_rfl, fun _ _ _ h => h, (.inl ⟨rfl, fun W _ => by kernel_rfl⟩), HD.out.2.2.1, ?_⟩
  refine takeH (o := ?o12) 3 (.int .i64 g) ?h12 ?r12
  case h12 => simp only [aT, aS, aZ]; rfl
  refine ⟨_, by simp [Act.put]; rfl, by kernel_rfl, by kernel_rfl, by kernel_rfl, fun _ _ _ h => h, (.inl ⟨rfl, fun W hW => by have c := hW.cell 1; simp only [aT, aS, aZ] at c; go_simp⟩), HD.out.2.2.1, ?_⟩
  refine onlyH (o := ?o13) 1 (by kernel_rfl) ?h13 ?r13
  case h13 => simp only [aT, aS, aZ]; rfl
  intro K hK
  have co := HD.out.1.cell 3
  simp only [aT, aS, aZ] at co
  refine op_value (.int .i64 gr) rfl (by go_simp) ⟨_, by simp [Act.put]; rfl, hK _ _ ⟨HD.out.2.2.1, ?_⟩⟩
  clear hK co
  refine takeH (o := ?o14) 4 (.int .i64 (max gr g)) ?h14 ?r14
  case h14 => simp only [aT, aS, aZ]; rfl
  refine ⟨_, by simp [Act.put]; rfl, by kernel_rfl, by kernel_rfl, by kernel_rfl, fun _ _ _ h => h, (.inl ⟨rfl, fun W _ => by go_simp; first | done | (rw [Int.max_def]; split <;> split <;> first | rfl | omega) | (simp [Int.max_def]; omega)⟩), HD.out.2.2.1, ?_⟩
  refine takeH (o := ?o15) 5 (.pointer (some ⟨w.heap.size, 2, none⟩)) ?h15 ?r15
  case h15 => simp only [aT, aS, aZ]; rfl
  refine ⟨_, by simp [Act.put]; rfl, by kernel_rfl, by kernel_rfl, by kernel_rfl, fun _ _ _ h => h, (.inl ⟨rfl, fun W _ => by kernel_rfl⟩), HD.out.2.2.1, ?_⟩
  refine onlyH (o := ?o16) 6 (by kernel_rfl) ?h16 ?r16
  case h16 => simp only [aT, aS, aZ]; rfl
  intro K hK
  have co := HD.out.1.cell 2
  have fo := HD.out.1.frozen 2
  simp only [aT, aS, aZ] at co
  have H2 : Hid (Blk (Y0.setCell ⟨w.heap.size, 2, none⟩ (.bool true)) w.heap.size #[.int .i64 i, .int .i64 ep, .bool true, .int .i64 gr, .slice a1 n1 c1, .slice a2 n2 c2, .int .i64 nx] 25 ∧ Blk (Y0.setCell ⟨w.heap.size, 2, none⟩ (.bool true)) (w.heap.size + 1) #[.int .i64 0, .int .i64 0, .bool false, .int .i64 0, .slice none 0 0, .slice none 0 0, .int .i64 0] 25 ∧ Blk (Y0.setCell ⟨w.heap.size, 2, none⟩ (.bool true)) (w.heap.size + 1 + 1) #[.int .i64 e, .int .i64 g] 118 ∧ Below w.heap.size w (Y0.setCell ⟨w.heap.size, 2, none⟩ (.bool true))) :=
    ⟨HD.out.1.set 2 _, HD.out.2.1.setOther (by omega) 2 _, HD.out.2.2.1.setOther (by omega) 2 _, HD.out.2.2.2.setCell (by show w.heap.size ≤ w.heap.size; omega) _⟩
  refine op_skip (Y0.setCell ⟨w.heap.size, 2, none⟩ (.bool true)) rfl (by go_simp) ⟨_, by simp [Act.put]; rfl, hK _ _ ⟨H2.out.2.2.1, ?_⟩⟩
  clear hK co fo HD
  obtain ⟨Y1, hY1⟩ : ∃ Y, Y = Y0.setCell ⟨w.heap.size, 2, none⟩ (.bool true) := ⟨_, rfl⟩
  rw [← hY1] at H2 ⊢
  clear hY1
  refine takeH (o := ?o17) 7 (.pointer (some ⟨w.heap.size, 3, none⟩)) ?h17 ?r17
  case h17 => simp only [aT, aS, aZ]; rfl
  refine ⟨_, by simp [Act.put]; rfl, by kernel_rfl, by kernel_rfl, by kernel_rfl, fun _ _ _ h => h, (.inl ⟨rfl, fun W _ => by kernel_rfl⟩), H2.out.2.2.1, ?_⟩
  refine onlyH (o := ?o18) 8 (by kernel_rfl) ?h18 ?r18
  case h18 => simp only [aT, aS, aZ]; rfl
  intro K hK
  have co := H2.out.1.cell 3
  have fo := H2.out.1.frozen 3
  simp only [aT, aS, aZ] at co
  have H3 : Hid (Blk (Y1.setCell ⟨w.heap.size, 3, none⟩ (.int .i64 (max gr g))) w.heap.size #[.int .i64 i, .int .i64 ep, .bool true, .int .i64 (max gr g), .slice a1 n1 c1, .slice a2 n2 c2, .int .i64 nx] 25 ∧ Blk (Y1.setCell ⟨w.heap.size, 3, none⟩ (.int .i64 (max gr g))) (w.heap.size + 1) #[.int .i64 0, .int .i64 0, .bool false, .int .i64 0, .slice none 0 0, .slice none 0 0, .int .i64 0] 25 ∧ Blk (Y1.setCell ⟨w.heap.size, 3, none⟩ (.int .i64 (max gr g))) (w.heap.size + 1 + 1) #[.int .i64 e, .int .i64 g] 118 ∧ Below w.heap.size w (Y1.setCell ⟨w.heap.size, 3, none⟩ (.int .i64 (max gr g)))) :=
    ⟨H2.out.1.set 3 _, H2.out.2.1.setOther (by omega) 3 _, H2.out.2.2.1.setOther (by omega) 3 _, H2.out.2.2.2.setCell (by show w.heap.size ≤ w.heap.size; omega) _⟩
  refine op_skip (Y1.setCell ⟨w.heap.size, 3, none⟩ (.int .i64 (max gr g))) rfl (by go_simp) ⟨_, by simp [Act.put]; rfl, hK _ _ ⟨H3.out.2.2.1, ?_⟩⟩
  clear hK co fo H2
  refine wpAnyH_done (by kernel_rfl) ?_ _
  obtain ⟨Y2, hY2⟩ : ∃ Y, Y = Y1.setCell ⟨w.heap.size, 3, none⟩ (.int .i64 (max gr g)) := ⟨_, rfl⟩
  rw [← hY2] at H3 ⊢
  clear hY2
  have H4 : Hid (Blk Y2 w.heap.size #[.int .i64 i, .int .i64 ep, .bool true, .int .i64 (max gr g), .slice a1 n1 c1, .slice a2 n2 c2, .int .i64 nx] 25 ∧ Blk Y2 (w.heap.size + 1) #[.int .i64 0, .int .i64 0, .bool false, .int .i64 0, .slice none 0 0, .slice none 0 0, .int .i64 0] 25 ∧ Below w.heap.size w Y2) := ⟨H3.out.1, H3.out.2.1, H3.out.2.2.2⟩
  clear H3
  go_wp2_with fail
  refine (ackOf_any e g _).mono ?_
  rintro r w5 ⟨rfl, hb5⟩
  have H5 : Hid (Blk w5 w.heap.size #[.int .i64 i, .int .i64 ep, .bool true, .int .i64 (max gr g), .slice a1 n1 c1, .slice a2 n2 c2, .int .i64 nx] 25 ∧ Blk w5 (w.heap.size + 1) #[.int .i64 0, .int .i64 0, .bool false, .int .i64 0, .slice none 0 0, .slice none 0 0, .int .i64 0] 25 ∧ Below w.heap.size w w5) := ⟨H4.out.1.below hb5, H4.out.2.1.below hb5, Below.next H4.out.2.2 hb5⟩
  have c1' := H5.out.1.cell 1
  have f1' := H5.out.1.frozen 1
  simp only [aT, aS, aZ] at c1'
  clear hb5
  go_wp2_with (first | go_skip | (with_reducible refine stopLoad 25 rfl ?_))
  obtain ⟨w6, hw6⟩ : ∃ W, W = w5.setCell ⟨w.heap.size, 1, none⟩ (.int .i64 e) := ⟨_, rfl⟩
  have H6 : Hid (Blk w6 w.heap.size #[.int .i64 i, .int .i64 e, .bool true, .int .i64 (max gr g), .slice a1 n1 c1, .slice a2 n2 c2, .int .i64 nx] 25 ∧ Blk w6 (w.heap.size + 1) #[.int .i64 0, .int .i64 0, .bool false, .int .i64 0, .slice none 0 0, .slice none 0 0, .int .i64 0] 25 ∧ Below w.heap.size w w6) := by
    rw [hw6]
    exact ⟨H5.out.1.set 1 _, H5.out.2.1.setOther (by omega) 1 _, H5.out.2.2.setCell (by show w.heap.size ≤ w.heap.size; omega) _⟩
  rw [← hw6]
  clear hw6 H5 c1' f1'
  refine load_known 25 w.heap.size _ 25 _ H6.out.1 rfl rfl rfl Try.underlying25 rfl infoAgT ?_
  go_wp2_with (first | go_skip | (with_reducible refine stopStore 25 rfl ?_))
  refine store_known 25 (w.heap.size + 1) _ #[.int .i64 i, .int .i64 e, .bool true, .int .i64 (max gr g), .slice a1 n1 c1, .slice a2 n2 c2, .int .i64 nx] 25 H6.out.2.1 rfl rfl rfl rfl infoAgT rfl (by simp [Value.oneCell']) ?_
  go_wp2
  refine bodyPost_ret (results_cell_row Try.results74 _ _ (w.heap.size + 1) _ _ (0, 0) _ rfl H6.out.2.1.setRow Try.underlying25 rfl infoAgT) rfl ?_
  exact ⟨rfl, below_setRow H6.out.2.2 (by omega) _⟩
set_option maxRecDepth 200000 in
set_option maxHeartbeats 2000000 in
theorem turnedReset (i ep gr nx e : Int) (lv : Bool) (a1 a2 : Option Addr) (n1 c1 n2 c2 : Nat) (w : World) :
    Calls Try.prog 74 #[.agg #[.int .i64 i, .int .i64 ep, .bool lv, .int .i64 gr, .slice a1 n1 c1, .slice a2 n2 c2, .int .i64 nx], .iface 120 (.agg #[.int .i64 e])] w fun r w' => r = .returned (.agg #[.int .i64 i, .int .i64 e, .bool false, .int .i64 0, .slice a1 n1 c1, .slice a2 n2 c2, .int .i64 nx]) ∧ Below w.heap.size w w' := by
  have HB : Hid (Blk (((w.alloc (.cells #[.int .i64 i, .int .i64 ep, .bool false, .int .i64 0, .slice a1 n1 c1, .slice a2 n2 c2, .int .i64 nx] 25)).alloc (.cells #[.int .i64 0, .int .i64 0, .bool false, .int .i64 0, .slice none 0 0, .slice none 0 0, .int .i64 0] 25)).alloc (.cells #[.int .i64 e] 120)) w.heap.size #[.int .i64 i, .int .i64 ep, .bool false, .int .i64 0, .slice a1 n1 c1, .slice a2 n2 c2, .int .i64 nx] 25 ∧ Blk (((w.alloc (.cells #[.int .i64 i, .int .i64 ep, .bool false, .int .i64 0, .slice a1 n1 c1, .slice a2 n2 c2, .int .i64 nx] 25)).alloc (.cells #[.int .i64 0, .int .i64 0, .bool false, .int .i64 0, .slice none 0 0, .slice none 0 0, .int .i64 0] 25)).alloc (.cells #[.int .i64 e] 120)) (w.heap.size + 1) #[.int .i64 0, .int .i64 0, .bool false, .int .i64 0, .slice none 0 0, .slice none 0 0, .int .i64 0] 25 ∧ Below w.heap.size w (((w.alloc (.cells #[.int .i64 i, .int .i64 ep, .bool false, .int .i64 0, .slice a1 n1 c1, .slice a2 n2 c2, .int .i64 nx] 25)).alloc (.cells #[.int .i64 0, .int .i64 0, .bool false, .int .i64 0, .slice none 0 0, .slice none 0 0, .int .i64 0] 25)).alloc (.cells #[.int .i64 e] 120))) :=
    ⟨((Blk.made _ _ _).alloc _).alloc _, (Blk.made_eq (by simp)).alloc _, Below.allocW _ (Below.allocW _ (Below.allocW _ (Below.refl _ _) (Nat.le_refl _)) (Nat.le_refl _)) (Nat.le_refl _)⟩
  have hA := assertRA e
  have hB := assertRR e
  have hM := methodR e
  go_enter Try.func74, Try.ntmps74
  go_wp2_with fail
  refine (resetOf_any e _).mono ?_
  rintro r w5 ⟨rfl, hb5⟩
  have H5 : Hid (Blk w5 w.heap.size #[.int .i64 i, .int .i64 ep, .bool false, .int .i64 0, .slice a1 n1 c1, .slice a2 n2 c2, .int .i64 nx] 25 ∧ Blk w5 (w.heap.size + 1) #[.int .i64 0, .int .i64 0, .bool false, .int .i64 0, .slice none 0 0, .slice none 0 0, .int .i64 0] 25 ∧ Below w.heap.size w w5) := ⟨HB.out.1.below hb5, HB.out.2.1.below hb5, Below.next HB.out.2.2 hb5⟩
  have c1' := H5.out.1.cell 1
  have f1' := H5.out.1.frozen 1
  simp only [aT, aS, aZ] at c1'
  clear hb5
  go_wp2_with (first | go_skip | (with_reducible refine stopLoad 25 rfl ?_))
  obtain ⟨w6, hw6⟩ : ∃ W, W = w5.setCell ⟨w.heap.size, 1, none⟩ (.int .i64 e) := ⟨_, rfl⟩
  have H6 : Hid (Blk w6 w.heap.size #[.int .i64 i, .int .i64 e, .bool false, .int .i64 0, .slice a1 n1 c1, .slice a2 n2 c2, .int .i64 nx] 25 ∧ Blk w6 (w.heap.size + 1) #[.int .i64 0, .int .i64 0, .bool false, .int .i64 0, .slice none 0 0, .slice none 0 0, .int .i64 0] 25 ∧ Below w.heap.size w w6) := by
    rw [hw6]
    exact ⟨H5.out.1.set 1 _, H5.out.2.1.setOther (by omega) 1 _, H5.out.2.2.setCell (by show w.heap.size ≤ w.heap.size; omega) _⟩
  rw [← hw6]
  clear hw6 H5 c1' f1'
  refine load_known 25 w.heap.size _ 25 _ H6.out.1 rfl rfl rfl Try.underlying25 rfl infoAgT ?_
  go_wp2_with (first | go_skip | (with_reducible refine stopStore 25 rfl ?_))
  refine store_known 25 (w.heap.size + 1) _ #[.int .i64 i, .int .i64 e, .bool false, .int .i64 0, .slice a1 n1 c1, .slice a2 n2 c2, .int .i64 nx] 25 H6.out.2.1 rfl rfl rfl rfl infoAgT rfl (by simp [Value.oneCell']) ?_
  go_wp2
  refine bodyPost_ret (results_cell_row Try.results74 _ _ (w.heap.size + 1) _ _ (0, 0) _ rfl H6.out.2.1.setRow Try.underlying25 rfl infoAgT) rfl ?_
  exact ⟨rfl, below_setRow H6.out.2.2 (by omega) _⟩
/-- What a frame tells an agent that it is for. -/
def newsVal (f : Fr) : Value := if f.kind = 2 then .iface 118 (.agg #[.int .i64 f.epoch, .int .i64 f.granted]) else .iface 120 (.agg #[.int .i64 f.epoch])
theorem hears_kind {x : Ag} {f : Fr} (h : x.hears f = true) : (f.kind = 2 ∨ f.kind = 3) ∧ f.ok = true ∧ x.ok = true ∧ f.taken.ok = true := by
  unfold Ag.hears at h
  simp only [Bool.and_eq_true, decide_eq_true_eq] at h
  obtain ⟨⟨⟨⟨h1, h2⟩, h3⟩, h4⟩, h5, h6⟩ := h
  have h2' := h2
  unfold Fr.ok at h2
  simp only [Bool.and_eq_true, decide_eq_true_eq] at h2
  obtain ⟨⟨⟨⟨⟨⟨g1, _⟩, _⟩, _⟩, _⟩, _⟩, _⟩ := h2
  exact ⟨by omega, h2', h1, h5⟩
def NewsR (w : World) (b : Bool) (nv : Value) (e : Ending) (w' : World) : Prop := e = .returned (.tuple #[if b = true then nv else .nilIface, .bool b]) ∧ Below w.heap.size w w'
set_option maxRecDepth 200000 in
set_option maxHeartbeats 8000000 in
theorem newsFor_any (v u : Value) (x : Ag) (f : Fr) (F G F' G' : List Nat) (w : World) (h : RdAg w v x F G) (k : RdFr w u f F' G') (hf : ∀ y ∈ x.sealed, y.sk.fits) (hs : x.sealed.length ≤ 1048576) (hl : x.taken.length ≤ 1048576) (kw : f.item.sk.wide) (kl : f.taken.length ≤ 1048576) :
    Calls Try.prog 72 #[v, u] w fun e w' => NewsR w (x.hears f) (newsVal f) e w' := by
  obtain ⟨a1, n1, c1, a2, n2, c2, rfl, hL, hP, hc1, hc2⟩ := h
  obtain ⟨bt, lt, ct, b1, m1, e1, b2, m2, e2, b3, m3, e3, rfl, kP, kI, kc⟩ := k
  have HX : Hid (RdAg w (.agg #[.int .i64 x.id, .int .i64 x.epoch, .bool x.live, .int .i64 x.granted, .slice a1 n1 c1, .slice a2 n2 c2, .int .i64 x.next]) x F G ∧ (∀ y ∈ x.sealed, y.sk.wide) ∧ x.sealed.length ≤ 2097152 ∧ x.taken.length ≤ 2097152) := ⟨⟨a1, n1, c1, a2, n2, c2, rfl, hL, hP, hc1, hc2⟩, fun y hy => (hf y hy).wide, by omega, by omega⟩
  have HF : Hid (RdFr w (.agg #[.int .i64 f.kind, .int .i64 f.agent, .int .i64 f.epoch, .int .i64 f.granted, .slice bt lt ct, .int .i64 f.item.seq, .int .i64 f.item.cls, .int .i64 f.item.key, .int .i64 f.item.window, .int .i64 f.item.sk.count, .int .i64 f.item.sk.sum, .int .i64 f.item.sk.min, .int .i64 f.item.sk.max, .slice b1 m1 e1, .slice b2 m2 e2, .slice b3 m3 e3]) f F' G' ∧ f.item.sk.wide ∧ f.taken.length ≤ 2097152 ∧ RdP w bt lt f.taken F' ∧ lt ≤ 2097152) := ⟨⟨bt, lt, ct, b1, m1, e1, b2, m2, e2, b3, m3, e3, rfl, kP, kI, kc⟩, kw, by omega, kP, by rw [← kP.length]; omega⟩
  have HOK : Hid (x.hears f = (x.ok && f.ok && decide (2 ≤ f.kind) && decide (f.agent = x.id) && (f.taken.ok && f.taken.under n1))) := by show _ = _; unfold Ag.hears; rw [hL.length]
  clear hL hP hc1 hc2 kP kI kc hf hs hl kw kl
  have HB : Hid (Blk ((w.alloc (.cells #[.int .i64 x.id, .int .i64 x.epoch, .bool x.live, .int .i64 x.granted, .slice a1 n1 c1, .slice a2 n2 c2, .int .i64 x.next] 25)).alloc (.cells #[.int .i64 f.kind, .int .i64 f.agent, .int .i64 f.epoch, .int .i64 f.granted, .slice bt lt ct, .int .i64 f.item.seq, .int .i64 f.item.cls, .int .i64 f.item.key, .int .i64 f.item.window, .int .i64 f.item.sk.count, .int .i64 f.item.sk.sum, .int .i64 f.item.sk.min, .int .i64 f.item.sk.max, .slice b1 m1 e1, .slice b2 m2 e2, .slice b3 m3 e3] 56)) w.heap.size #[.int .i64 x.id, .int .i64 x.epoch, .bool x.live, .int .i64 x.granted, .slice a1 n1 c1, .slice a2 n2 c2, .int .i64 x.next] 25 ∧ Blk ((w.alloc (.cells #[.int .i64 x.id, .int .i64 x.epoch, .bool x.live, .int .i64 x.granted, .slice a1 n1 c1, .slice a2 n2 c2, .int .i64 x.next] 25)).alloc (.cells #[.int .i64 f.kind, .int .i64 f.agent, .int .i64 f.epoch, .int .i64 f.granted, .slice bt lt ct, .int .i64 f.item.seq, .int .i64 f.item.cls, .int .i64 f.item.key, .int .i64 f.item.window, .int .i64 f.item.sk.count, .int .i64 f.item.sk.sum, .int .i64 f.item.sk.min, .int .i64 f.item.sk.max, .slice b1 m1 e1, .slice b2 m2 e2, .slice b3 m3 e3] 56)) (w.heap.size + 1) #[.int .i64 f.kind, .int .i64 f.agent, .int .i64 f.epoch, .int .i64 f.granted, .slice bt lt ct, .int .i64 f.item.seq, .int .i64 f.item.cls, .int .i64 f.item.key, .int .i64 f.item.window, .int .i64 f.item.sk.count, .int .i64 f.item.sk.sum, .int .i64 f.item.sk.min, .int .i64 f.item.sk.max, .slice b1 m1 e1, .slice b2 m2 e2, .slice b3 m3 e3] 56 ∧ Below w.heap.size w ((w.alloc (.cells #[.int .i64 x.id, .int .i64 x.epoch, .bool x.live, .int .i64 x.granted, .slice a1 n1 c1, .slice a2 n2 c2, .int .i64 x.next] 25)).alloc (.cells #[.int .i64 f.kind, .int .i64 f.agent, .int .i64 f.epoch, .int .i64 f.granted, .slice bt lt ct, .int .i64 f.item.seq, .int .i64 f.item.cls, .int .i64 f.item.key, .int .i64 f.item.window, .int .i64 f.item.sk.count, .int .i64 f.item.sk.sum, .int .i64 f.item.sk.min, .int .i64 f.item.sk.max, .slice b1 m1 e1, .slice b2 m2 e2, .slice b3 m3 e3] 56))) :=
    ⟨(Blk.made _ _ _).alloc _, Blk.made_eq (by simp), Below.allocW _ (Below.allocW _ (Below.refl _ _) (Nat.le_refl _)) (Nat.le_refl _)⟩
  go_enter Try.func72, Try.ntmps72
  go_wp2_with (first | go_skip | (with_reducible refine stopLoad 25 rfl ?_))
  obtain ⟨W0, hW0⟩ : ∃ W, W = (w.alloc (.cells #[.int .i64 x.id, .int .i64 x.epoch, .bool x.live, .int .i64 x.granted, .slice a1 n1 c1, .slice a2 n2 c2, .int .i64 x.next] 25)).alloc (.cells #[.int .i64 f.kind, .int .i64 f.agent, .int .i64 f.epoch, .int .i64 f.granted, .slice bt lt ct, .int .i64 f.item.seq, .int .i64 f.item.cls, .int .i64 f.item.key, .int .i64 f.item.window, .int .i64 f.item.sk.count, .int .i64 f.item.sk.sum, .int .i64 f.item.sk.min, .int .i64 f.item.sk.max, .slice b1 m1 e1, .slice b2 m2 e2, .slice b3 m3 e3] 56) := ⟨_, rfl⟩
  rw [← hW0] at HB ⊢
  clear hW0
  refine load_known 25 w.heap.size _ 25 _ HB.out.1 rfl rfl rfl Try.underlying25 rfl infoAgT ?_
  go_wp2_with fail
  refine (agentOkImpl_any _ x F G _ (HX.out.1.below HB.out.2.2) HX.out.2.1 HX.out.2.2.1 HX.out.2.2.2).mono ?_
  rintro e w1 ⟨rfl, hb1⟩
  have HB1 : Hid (Blk w1 w.heap.size #[.int .i64 x.id, .int .i64 x.epoch, .bool x.live, .int .i64 x.granted, .slice a1 n1 c1, .slice a2 n2 c2, .int .i64 x.next] 25 ∧ Blk w1 (w.heap.size + 1) #[.int .i64 f.kind, .int .i64 f.agent, .int .i64 f.epoch, .int .i64 f.granted, .slice bt lt ct, .int .i64 f.item.seq, .int .i64 f.item.cls, .int .i64 f.item.key, .int .i64 f.item.window, .int .i64 f.item.sk.count, .int .i64 f.item.sk.sum, .int .i64 f.item.sk.min, .int .i64 f.item.sk.max, .slice b1 m1 e1, .slice b2 m2 e2, .slice b3 m3 e3] 56 ∧ Below w.heap.size w w1) := ⟨HB.out.1.below hb1, HB.out.2.1.below hb1, Below.next HB.out.2.2 hb1⟩
  obtain ⟨d1, hd1⟩ : ∃ d, d = x.ok := ⟨_, rfl⟩
  rw [← hd1]
  rw [← hd1] at HOK
  clear hb1 hd1 HB
  cases d1
  · have HV : Hid (x.hears f = false) := by show _ = _; rw [HOK.out]; rfl
    go_wp2
    go_ret2
    rw [HV.out]
    exact ⟨rfl, HB1.out.2.2⟩
  go_wp2_with (first | go_skip | (with_reducible refine stopLoad 56 rfl ?_))
  refine load_knownw8 56 (w.heap.size + 1) _ 56 _ HB1.out.2.1 rfl rfl rfl Try.underlying56 rfl infoFrT ?_
  go_wp2_with fail
  refine (frameOkImpl_any _ f F' G' _ (HF.out.1.below HB1.out.2.2) HF.out.2.1 HF.out.2.2.1).mono ?_
  rintro e w2 ⟨rfl, hb2⟩
  have HB2 : Hid (Blk w2 w.heap.size #[.int .i64 x.id, .int .i64 x.epoch, .bool x.live, .int .i64 x.granted, .slice a1 n1 c1, .slice a2 n2 c2, .int .i64 x.next] 25 ∧ Blk w2 (w.heap.size + 1) #[.int .i64 f.kind, .int .i64 f.agent, .int .i64 f.epoch, .int .i64 f.granted, .slice bt lt ct, .int .i64 f.item.seq, .int .i64 f.item.cls, .int .i64 f.item.key, .int .i64 f.item.window, .int .i64 f.item.sk.count, .int .i64 f.item.sk.sum, .int .i64 f.item.sk.min, .int .i64 f.item.sk.max, .slice b1 m1 e1, .slice b2 m2 e2, .slice b3 m3 e3] 56 ∧ Below w.heap.size w w2) := ⟨HB1.out.1.below hb2, HB1.out.2.1.below hb2, Below.next HB1.out.2.2 hb2⟩
  obtain ⟨d2, hd2⟩ : ∃ d, d = f.ok := ⟨_, rfl⟩
  rw [← hd2]
  have HFO : Hid (d2 = f.ok) := hd2
  rw [← hd2] at HOK
  clear hb2 hd2 HB1
  cases d2
  · have HV : Hid (x.hears f = false) := by show _ = _; rw [HOK.out]; rfl
    go_wp2
    go_ret2
    rw [HV.out]
    exact ⟨rfl, HB2.out.2.2⟩
  have c0 := HB2.out.1.cell 0
  have c4 := HB2.out.1.cell 4
  have k0 := HB2.out.2.1.cell 0
  have k1 := HB2.out.2.1.cell 1
  have k2 := HB2.out.2.1.cell 2
  have k3 := HB2.out.2.1.cell 3
  have k4 := HB2.out.2.1.cell 4
  simp only [aT, aS, aZ] at c0 c4 k0 k1 k2 k3 k4
  by_cases ha : f.agent = x.id
  rotate_left
  · have z : (f.agent != x.id) = true := by simpa using ha
    have HV : Hid (x.hears f = false) := by show _ = _; rw [HOK.out, decide_eq_false ha, Bool.and_false, Bool.false_and]
    clear ha
    go_wp2
    go_ret2
    rw [HV.out]
    exact ⟨rfl, HB2.out.2.2⟩
  have z : (f.agent != x.id) = false := by simpa using ha
  have HOK2 : Hid (x.hears f = (decide (2 ≤ f.kind) && (f.taken.ok && f.taken.under n1))) := by show _ = _; rw [HOK.out, decide_eq_true ha, Bool.and_true, Bool.true_and, Bool.true_and]
  clear ha HOK
  go_wp2_with fail
  refine (areSeqs_any bt lt ct n1 f.taken F' _ (HF.out.2.2.2.1.below HB2.out.2.2) HF.out.2.2.2.2).mono ?_
  rintro e w3 ⟨rfl, hb3⟩
  have HB3 : Hid (Blk w3 w.heap.size #[.int .i64 x.id, .int .i64 x.epoch, .bool x.live, .int .i64 x.granted, .slice a1 n1 c1, .slice a2 n2 c2, .int .i64 x.next] 25 ∧ Blk w3 (w.heap.size + 1) #[.int .i64 f.kind, .int .i64 f.agent, .int .i64 f.epoch, .int .i64 f.granted, .slice bt lt ct, .int .i64 f.item.seq, .int .i64 f.item.cls, .int .i64 f.item.key, .int .i64 f.item.window, .int .i64 f.item.sk.count, .int .i64 f.item.sk.sum, .int .i64 f.item.sk.min, .int .i64 f.item.sk.max, .slice b1 m1 e1, .slice b2 m2 e2, .slice b3 m3 e3] 56 ∧ Below w.heap.size w w3) := ⟨HB2.out.1.below hb3, HB2.out.2.1.below hb3, Below.next HB2.out.2.2 hb3⟩
  obtain ⟨d3, hd3⟩ : ∃ d, d = (f.taken.ok && f.taken.under n1) := ⟨_, rfl⟩
  rw [← hd3]
  rw [← hd3] at HOK2
  clear hb3 hd3 HB2 c0 c4 k0 k1 k2 k3 k4 z
  cases d3
  · have HV : Hid (x.hears f = false) := by show _ = _; rw [HOK2.out, Bool.and_false]
    go_wp2
    go_ret2
    rw [HV.out]
    exact ⟨rfl, HB3.out.2.2⟩
  have k0 := HB3.out.2.1.cell 0
  have k2 := HB3.out.2.1.cell 2
  have k3 := HB3.out.2.1.cell 3
  simp only [aT, aS, aZ] at k0 k2 k3
  by_cases h2 : f.kind = 2
  · have z2 : (f.kind == 2) = true := by simpa using h2
    have HV : Hid (x.hears f = true ∧ newsVal f = .iface 118 (.agg #[.int .i64 f.epoch, .int .i64 f.granted])) := ⟨by rw [HOK2.out, decide_eq_true (by omega)]; rfl, by unfold newsVal; rw [if_pos h2]⟩
    clear h2
    go_wp2
    go_ret2
    rw [HV.out.1, HV.out.2]
    exact ⟨rfl, HB3.out.2.2⟩
  have z2 : (f.kind == 2) = false := by simpa using h2
  by_cases h3 : f.kind = 3
  · have z3 : (f.kind == 3) = true := by simpa using h3
    have HV : Hid (x.hears f = true ∧ newsVal f = .iface 120 (.agg #[.int .i64 f.epoch])) := ⟨by rw [HOK2.out, decide_eq_true (by omega)]; rfl, by unfold newsVal; rw [if_neg h2]⟩
    clear h2 h3
    go_wp2
    go_ret2
    rw [HV.out.1, HV.out.2]
    exact ⟨rfl, HB3.out.2.2⟩
  have z3 : (f.kind == 3) = false := by simpa using h3
  have HV : Hid (x.hears f = false) := by
    show _ = _
    rw [HOK2.out]
    have q := HFO.out.symm
    unfold Fr.ok at q
    simp only [Bool.and_eq_true, decide_eq_true_eq] at q
    obtain ⟨⟨⟨⟨⟨⟨g1, _⟩, _⟩, _⟩, _⟩, _⟩, _⟩ := q
    rw [decide_eq_false (by omega)]; rfl
  clear h2 h3
  go_wp2
  go_ret2
  rw [HV.out]
  exact ⟨rfl, HB3.out.2.2⟩
/-- What an AgentHear has: both arguments, the result's place, the copy at L. -/
structure HearI (w : World) (A B : Array Value) (L : Nat) (C : Array Value) (y : Ag) (F G : List Nat) (W : World) : Prop where
  box : Blk W w.heap.size A 25
  fr : Blk W (w.heap.size + 1) B 56
  res : Blk W (w.heap.size + 1 + 1) #[.int .i64 0, .int .i64 0, .bool false, .int .i64 0, .slice none 0 0, .slice none 0 0, .int .i64 0] 25
  bel : Below w.heap.size w W
  loc : Blk W L C 25
  rd : RdAg W (.agg C) y F G
  oF : Own (w.heap.size + 3) W F
  oG : Own (w.heap.size + 3) W G
  ap : ∀ b ∈ F, b ∉ G
  gL : w.heap.size + 3 ≤ L
  lF : ∀ b ∈ F, b < L
theorem HearI.below {w : World} {A B : Array Value} {L : Nat} {C : Array Value} {y : Ag} {F G : List Nat} {W W' : World} (h : HearI w A B L C y F G W) (b : Below W.heap.size W W') : HearI w A B L C y F G W' :=
  ⟨h.box.below b, h.fr.below b, h.res.below b, Below.next h.bel b, h.loc.below b, h.rd.below b, h.oF.below h.rd.lt1 b, h.oG.below h.rd.lt2 b, h.ap, h.gL, h.lF⟩
/-- The result is laid. -/
theorem HearI.put {w : World} {A B : Array Value} {L : Nat} {C D : Array Value} {x y : Ag} {F G : List Nat} {W : World} {c c' : Int} (h : HearI w A B L C x F G W) (hr : RdAg W (.agg D) y F G) (hc : c = c') :
    NewAg2 w (y, c') (.returned (.tuple #[.agg D, .int .i64 c])) (W.setRow (w.heap.size + 1 + 1) D) := by
  have nF : w.heap.size + 1 + 1 ∉ F := fun hx => by have := h.oF.ge _ hx; omega
  have nG : w.heap.size + 1 + 1 ∉ G := fun hx => by have := h.oG.ge _ hx; omega
  exact ⟨_, F, G, c, rfl, hr.agree (Agree.row nF _) (Agree.row nG _), hc, (h.oF.agree (Agree.row nF _)).mono (by omega), (h.oG.agree (Agree.row nG _)).mono (by omega), h.ap, below_setRow h.bel (by omega) _⟩
theorem rdAg_other {W : World} {x y : Ag} {F G : List Nat} {q1 q2 : Option Addr} {r1 k1 r2 k2 : Nat} {i e g nx : Int} {lv : Bool} (h : RdAg W (.agg #[.int .i64 x.id, .int .i64 x.epoch, .bool x.live, .int .i64 x.granted, .slice q1 r1 k1, .slice q2 r2 k2, .int .i64 x.next]) x F G) (e1 : y.id = i) (e2 : y.epoch = e) (e3 : y.live = lv) (e4 : y.granted = g) (e5 : y.sealed = x.sealed) (e6 : y.taken = x.taken) (e7 : y.next = nx) : RdAg W (.agg #[.int .i64 i, .int .i64 e, .bool lv, .int .i64 g, .slice q1 r1 k1, .slice q2 r2 k2, .int .i64 nx]) y F G := by
  obtain ⟨a1, m1, c1, a2, m2, c2, e, g1, g2, g3, g4⟩ := h
  injection e with e
  injection e with e
  simp at e
  obtain ⟨h1, h2⟩ := e
  obtain ⟨rfl, rfl, rfl⟩ := h1
  obtain ⟨rfl, rfl, rfl⟩ := h2
  exact ⟨_, _, _, _, _, _, by rw [e1, e2, e3, e4, e7], by rw [e5]; exact g1, by rw [e6]; exact g2, g3, g4⟩
set_option maxRecDepth 200000 in
set_option maxHeartbeats 8000000 in
theorem hearImpl_any (v u : Value) (x : Ag) (f : Fr) (F0 G0 F' G' : List Nat) (w : World) (h : RdAg w v x F0 G0) (k : RdFr w u f F' G') (hf : ∀ y ∈ x.sealed, y.sk.fits) (hs : x.sealed.length ≤ 1048576) (hl : x.taken.length ≤ 1048576) (kw : f.item.sk.wide) (kl : f.taken.length ≤ 1048576) :
    Calls Try.prog 34 #[v, u] w fun e w' => NewAg2 w (x.hear f) e w' := by
  obtain ⟨a1, n1, c1, a2, n2, c2, rfl, hL, hP, hc1, hc2⟩ := h
  obtain ⟨bt, lt, ct, b1, m1, e1, b2, m2, e2, b3, m3, e3, rfl, kP, kI, kc⟩ := k
  have HX : Hid (RdAg w (.agg #[.int .i64 x.id, .int .i64 x.epoch, .bool x.live, .int .i64 x.granted, .slice a1 n1 c1, .slice a2 n2 c2, .int .i64 x.next]) x F0 G0 ∧ RdP w a2 n2 x.taken G0 ∧ n2 ≤ c2) := ⟨⟨a1, n1, c1, a2, n2, c2, rfl, hL, hP, hc1, hc2⟩, hP, hc2.2⟩
  have HF : Hid (RdFr w (.agg #[.int .i64 f.kind, .int .i64 f.agent, .int .i64 f.epoch, .int .i64 f.granted, .slice bt lt ct, .int .i64 f.item.seq, .int .i64 f.item.cls, .int .i64 f.item.key, .int .i64 f.item.window, .int .i64 f.item.sk.count, .int .i64 f.item.sk.sum, .int .i64 f.item.sk.min, .int .i64 f.item.sk.max, .slice b1 m1 e1, .slice b2 m2 e2, .slice b3 m3 e3]) f F' G' ∧ RdP w bt lt f.taken F' ∧ n2 + lt ≤ 2097152) := ⟨⟨bt, lt, ct, b1, m1, e1, b2, m2, e2, b3, m3, e3, rfl, kP, kI, kc⟩, kP, by rw [← kP.length, ← hP.length]; omega⟩
  have HS : Hid ((∀ y ∈ x.sealed, y.sk.fits) ∧ x.sealed.length ≤ 1048576 ∧ x.taken.length ≤ 1048576 ∧ f.item.sk.wide ∧ f.taken.length ≤ 1048576) := ⟨hf, hs, hl, kw, kl⟩
  clear hL hP hc1 hc2 kP kI kc hf hs hl kw kl
  have HB : Hid (Blk (((w.alloc (.cells #[.int .i64 x.id, .int .i64 x.epoch, .bool x.live, .int .i64 x.granted, .slice a1 n1 c1, .slice a2 n2 c2, .int .i64 x.next] 25)).alloc (.cells #[.int .i64 f.kind, .int .i64 f.agent, .int .i64 f.epoch, .int .i64 f.granted, .slice bt lt ct, .int .i64 f.item.seq, .int .i64 f.item.cls, .int .i64 f.item.key, .int .i64 f.item.window, .int .i64 f.item.sk.count, .int .i64 f.item.sk.sum, .int .i64 f.item.sk.min, .int .i64 f.item.sk.max, .slice b1 m1 e1, .slice b2 m2 e2, .slice b3 m3 e3] 56)).alloc (.cells #[.int .i64 0, .int .i64 0, .bool false, .int .i64 0, .slice none 0 0, .slice none 0 0, .int .i64 0] 25)) w.heap.size #[.int .i64 x.id, .int .i64 x.epoch, .bool x.live, .int .i64 x.granted, .slice a1 n1 c1, .slice a2 n2 c2, .int .i64 x.next] 25 ∧ Blk (((w.alloc (.cells #[.int .i64 x.id, .int .i64 x.epoch, .bool x.live, .int .i64 x.granted, .slice a1 n1 c1, .slice a2 n2 c2, .int .i64 x.next] 25)).alloc (.cells #[.int .i64 f.kind, .int .i64 f.agent, .int .i64 f.epoch, .int .i64 f.granted, .slice bt lt ct, .int .i64 f.item.seq, .int .i64 f.item.cls, .int .i64 f.item.key, .int .i64 f.item.window, .int .i64 f.item.sk.count, .int .i64 f.item.sk.sum, .int .i64 f.item.sk.min, .int .i64 f.item.sk.max, .slice b1 m1 e1, .slice b2 m2 e2, .slice b3 m3 e3] 56)).alloc (.cells #[.int .i64 0, .int .i64 0, .bool false, .int .i64 0, .slice none 0 0, .slice none 0 0, .int .i64 0] 25)) (w.heap.size + 1) #[.int .i64 f.kind, .int .i64 f.agent, .int .i64 f.epoch, .int .i64 f.granted, .slice bt lt ct, .int .i64 f.item.seq, .int .i64 f.item.cls, .int .i64 f.item.key, .int .i64 f.item.window, .int .i64 f.item.sk.count, .int .i64 f.item.sk.sum, .int .i64 f.item.sk.min, .int .i64 f.item.sk.max, .slice b1 m1 e1, .slice b2 m2 e2, .slice b3 m3 e3] 56 ∧ Blk (((w.alloc (.cells #[.int .i64 x.id, .int .i64 x.epoch, .bool x.live, .int .i64 x.granted, .slice a1 n1 c1, .slice a2 n2 c2, .int .i64 x.next] 25)).alloc (.cells #[.int .i64 f.kind, .int .i64 f.agent, .int .i64 f.epoch, .int .i64 f.granted, .slice bt lt ct, .int .i64 f.item.seq, .int .i64 f.item.cls, .int .i64 f.item.key, .int .i64 f.item.window, .int .i64 f.item.sk.count, .int .i64 f.item.sk.sum, .int .i64 f.item.sk.min, .int .i64 f.item.sk.max, .slice b1 m1 e1, .slice b2 m2 e2, .slice b3 m3 e3] 56)).alloc (.cells #[.int .i64 0, .int .i64 0, .bool false, .int .i64 0, .slice none 0 0, .slice none 0 0, .int .i64 0] 25)) (w.heap.size + 1 + 1) #[.int .i64 0, .int .i64 0, .bool false, .int .i64 0, .slice none 0 0, .slice none 0 0, .int .i64 0] 25 ∧ Below w.heap.size w (((w.alloc (.cells #[.int .i64 x.id, .int .i64 x.epoch, .bool x.live, .int .i64 x.granted, .slice a1 n1 c1, .slice a2 n2 c2, .int .i64 x.next] 25)).alloc (.cells #[.int .i64 f.kind, .int .i64 f.agent, .int .i64 f.epoch, .int .i64 f.granted, .slice bt lt ct, .int .i64 f.item.seq, .int .i64 f.item.cls, .int .i64 f.item.key, .int .i64 f.item.window, .int .i64 f.item.sk.count, .int .i64 f.item.sk.sum, .int .i64 f.item.sk.min, .int .i64 f.item.sk.max, .slice b1 m1 e1, .slice b2 m2 e2, .slice b3 m3 e3] 56)).alloc (.cells #[.int .i64 0, .int .i64 0, .bool false, .int .i64 0, .slice none 0 0, .slice none 0 0, .int .i64 0] 25))) :=
    ⟨((Blk.made _ _ _).alloc _).alloc _, (Blk.made_eq (by simp)).alloc _, Blk.made_eq (by simp), Below.allocW _ (Below.allocW _ (Below.allocW _ (Below.refl _ _) (Nat.le_refl _)) (Nat.le_refl _)) (Nat.le_refl _)⟩
  go_enter Try.func34, Try.ntmps34
  go_wp2_with (first | go_skip | (with_reducible refine stopLoad 25 rfl ?_))
  obtain ⟨W0, hW0⟩ : ∃ W, W = ((w.alloc (.cells #[.int .i64 x.id, .int .i64 x.epoch, .bool x.live, .int .i64 x.granted, .slice a1 n1 c1, .slice a2 n2 c2, .int .i64 x.next] 25)).alloc (.cells #[.int .i64 f.kind, .int .i64 f.agent, .int .i64 f.epoch, .int .i64 f.granted, .slice bt lt ct, .int .i64 f.item.seq, .int .i64 f.item.cls, .int .i64 f.item.key, .int .i64 f.item.window, .int .i64 f.item.sk.count, .int .i64 f.item.sk.sum, .int .i64 f.item.sk.min, .int .i64 f.item.sk.max, .slice b1 m1 e1, .slice b2 m2 e2, .slice b3 m3 e3] 56)).alloc (.cells #[.int .i64 0, .int .i64 0, .bool false, .int .i64 0, .slice none 0 0, .slice none 0 0, .int .i64 0] 25) := ⟨_, rfl⟩
  rw [← hW0] at HB ⊢
  clear hW0
  refine load_known 25 w.heap.size _ 25 _ HB.out.1 rfl rfl rfl Try.underlying25 rfl infoAgT ?_
  go_wp2_with fail
  refine (copiedAgent_any _ x F0 G0 _ (HX.out.1.below HB.out.2.2.2) HS.out.1 HS.out.2.1 HS.out.2.2.1).mono ?_
  rintro e w2 ⟨v2, F, G, rfl, g2, o2, p2, ap2, hb2⟩
  obtain ⟨q1, r1, k1, q2, r2, k2, rfl, _⟩ := id g2
  have H2 : Hid (Blk w2 w.heap.size #[.int .i64 x.id, .int .i64 x.epoch, .bool x.live, .int .i64 x.granted, .slice a1 n1 c1, .slice a2 n2 c2, .int .i64 x.next] 25 ∧ Blk w2 (w.heap.size + 1) #[.int .i64 f.kind, .int .i64 f.agent, .int .i64 f.epoch, .int .i64 f.granted, .slice bt lt ct, .int .i64 f.item.seq, .int .i64 f.item.cls, .int .i64 f.item.key, .int .i64 f.item.window, .int .i64 f.item.sk.count, .int .i64 f.item.sk.sum, .int .i64 f.item.sk.min, .int .i64 f.item.sk.max, .slice b1 m1 e1, .slice b2 m2 e2, .slice b3 m3 e3] 56 ∧ Blk w2 (w.heap.size + 1 + 1) #[.int .i64 0, .int .i64 0, .bool false, .int .i64 0, .slice none 0 0, .slice none 0 0, .int .i64 0] 25 ∧ Below w.heap.size w w2 ∧ RdAg w2 (.agg #[.int .i64 x.id, .int .i64 x.epoch, .bool x.live, .int .i64 x.granted, .slice q1 r1 k1, .slice q2 r2 k2, .int .i64 x.next]) x F G ∧ Own (w.heap.size + 3) w2 F ∧ Own (w.heap.size + 3) w2 G ∧ (∀ b ∈ F, b ∉ G) ∧ w.heap.size + 3 ≤ w2.heap.size) := ⟨HB.out.1.below hb2, HB.out.2.1.below hb2, HB.out.2.2.1.below hb2, Below.next HB.out.2.2.2 hb2, g2, o2.mono HB.out.2.2.1.lt, p2.mono HB.out.2.2.1.lt, ap2, by have := HB.out.2.2.1.lt; have := hb2.size; omega⟩
  clear g2 o2 p2 ap2 hb2 HB
  go_wp2_with (first | go_skip | (with_reducible refine stopStore 25 rfl ?_))
  refine store_fresh 25 w2.heap.size rfl #[.int .i64 0, .int .i64 0, .bool false, .int .i64 0, .slice none 0 0, .slice none 0 0, .int .i64 0] #[.int .i64 x.id, .int .i64 x.epoch, .bool x.live, .int .i64 x.granted, .slice q1 r1 k1, .slice q2 r2 k2, .int .i64 x.next] 25 rfl rfl rfl rfl infoAgT rfl (by simp [Value.oneCell']) ?_
  intro w3 hg3 hb3
  have H3 : Hid (HearI w #[.int .i64 x.id, .int .i64 x.epoch, .bool x.live, .int .i64 x.granted, .slice a1 n1 c1, .slice a2 n2 c2, .int .i64 x.next] #[.int .i64 f.kind, .int .i64 f.agent, .int .i64 f.epoch, .int .i64 f.granted, .slice bt lt ct, .int .i64 f.item.seq, .int .i64 f.item.cls, .int .i64 f.item.key, .int .i64 f.item.window, .int .i64 f.item.sk.count, .int .i64 f.item.sk.sum, .int .i64 f.item.sk.min, .int .i64 f.item.sk.max, .slice b1 m1 e1, .slice b2 m2 e2, .slice b3 m3 e3] w2.heap.size #[.int .i64 x.id, .int .i64 x.epoch, .bool x.live, .int .i64 x.granted, .slice q1 r1 k1, .slice q2 r2 k2, .int .i64 x.next] x F G w3) := ⟨H2.out.1.below hb3, H2.out.2.1.below hb3, H2.out.2.2.1.below hb3, Below.next H2.out.2.2.2.1 hb3, hg3, H2.out.2.2.2.2.1.below hb3, H2.out.2.2.2.2.2.1.below H2.out.2.2.2.2.1.lt1 hb3, H2.out.2.2.2.2.2.2.1.below H2.out.2.2.2.2.1.lt2 hb3, H2.out.2.2.2.2.2.2.2.1, H2.out.2.2.2.2.2.2.2.2, H2.out.2.2.2.2.1.lt1⟩
  obtain ⟨L, hL⟩ : ∃ L, L = w2.heap.size := ⟨_, rfl⟩
  rw [← hL] at H3 ⊢
  clear hg3 hb3 H2 hL
  go_wp2_with (first | go_skip | (with_reducible refine stopLoad 25 rfl ?_) | (with_reducible refine stopLoad 56 rfl ?_))
  refine load_known 25 w.heap.size _ 25 _ H3.out.box rfl rfl rfl Try.underlying25 rfl infoAgT ?_
  go_wp2_with (first | go_skip | (with_reducible refine stopLoad 56 rfl ?_))
  refine load_known 56 (w.heap.size + 1) _ 56 _ H3.out.fr rfl rfl rfl Try.underlying56 rfl infoFrT ?_
  go_wp2_with fail
  refine (newsFor_any _ _ x f F0 G0 F' G' _ (HX.out.1.below H3.out.bel) (HF.out.1.below H3.out.bel) HS.out.1 HS.out.2.1 HS.out.2.2.1 HS.out.2.2.2.1 HS.out.2.2.2.2).mono ?_
  rintro e w4 ⟨rfl, hb4⟩
  have H4 : Hid (HearI w #[.int .i64 x.id, .int .i64 x.epoch, .bool x.live, .int .i64 x.granted, .slice a1 n1 c1, .slice a2 n2 c2, .int .i64 x.next] #[.int .i64 f.kind, .int .i64 f.agent, .int .i64 f.epoch, .int .i64 f.granted, .slice bt lt ct, .int .i64 f.item.seq, .int .i64 f.item.cls, .int .i64 f.item.key, .int .i64 f.item.window, .int .i64 f.item.sk.count, .int .i64 f.item.sk.sum, .int .i64 f.item.sk.min, .int .i64 f.item.sk.max, .slice b1 m1 e1, .slice b2 m2 e2, .slice b3 m3 e3] L #[.int .i64 x.id, .int .i64 x.epoch, .bool x.live, .int .i64 x.granted, .slice q1 r1 k1, .slice q2 r2 k2, .int .i64 x.next] x F G w4) := H3.out.below hb4
  obtain ⟨d, hd⟩ : ∃ d, d = x.hears f := ⟨_, rfl⟩
  rw [← hd]
  have HD : Hid (d = x.hears f) := hd
  clear hb4 hd H3
  cases d
  · have HV : Hid (x.hear f = (x, 1)) := by show _ = _; unfold Ag.hear; rw [if_pos HD.out.symm]
    simp only [Bool.false_eq_true, if_false]
    go_wp2_with (first | go_skip | (with_reducible refine stopLoad 25 rfl ?_))
    refine load_known 25 L _ 25 _ H4.out.loc rfl rfl rfl Try.underlying25 rfl infoAgT ?_
    go_wp2_with (first | go_skip | (with_reducible refine stopStore 25 rfl ?_))
    refine store_known 25 (w.heap.size + 1 + 1) _ #[.int .i64 x.id, .int .i64 x.epoch, .bool x.live, .int .i64 x.granted, .slice q1 r1 k1, .slice q2 r2 k2, .int .i64 x.next] 25 H4.out.res rfl rfl rfl rfl infoAgT rfl (by simp [Value.oneCell']) ?_
    have HE := H4.out.put (c := 1) H4.out.rd rfl
    go_wp2
    refine bodyPost_ret (results_row_tmp Try.results34 _ _ (w.heap.size + 1 + 1) _ _ _ _ rfl H4.out.res.setRow Try.underlying25 rfl infoAgT) rfl ?_
    rw [HV.out]
    exact HE
  have HH := hears_kind HD.out.symm
  have HK : Hid (f.ok = true ∧ x.ok = true ∧ f.taken.ok = true ∧ x.hears f = true) := ⟨HH.2.1, HH.2.2.1, HH.2.2.2, HD.out.symm⟩
  have HKI := HH.1
  clear HH HD
  simp only [if_true]
  by_cases h2 : f.kind = 2
  · have hnv : newsVal f = .iface 118 (.agg #[.int .i64 f.epoch, .int .i64 f.granted]) := by unfold newsVal; rw [if_pos h2]
    rw [hnv]
    have HK2 : Hid (f.kind = 2) := h2
    have hM := methodA f.epoch f.granted
    clear hnv h2 HKI
    go_wp2_with fail
    have H5 : Hid (HearI w #[.int .i64 x.id, .int .i64 x.epoch, .bool x.live, .int .i64 x.granted, .slice a1 n1 c1, .slice a2 n2 c2, .int .i64 x.next] #[.int .i64 f.kind, .int .i64 f.agent, .int .i64 f.epoch, .int .i64 f.granted, .slice bt lt ct, .int .i64 f.item.seq, .int .i64 f.item.cls, .int .i64 f.item.key, .int .i64 f.item.window, .int .i64 f.item.sk.count, .int .i64 f.item.sk.sum, .int .i64 f.item.sk.min, .int .i64 f.item.sk.max, .slice b1 m1 e1, .slice b2 m2 e2, .slice b3 m3 e3] L #[.int .i64 x.id, .int .i64 x.epoch, .bool x.live, .int .i64 x.granted, .slice q1 r1 k1, .slice q2 r2 k2, .int .i64 x.next] x F G w4.drew) := H4.out.below (Below.refl _ _).drew
    obtain ⟨Y0, hY0⟩ : ∃ Y, Y = w4.drew := ⟨_, rfl⟩
    rw [← hY0] at H5
    clear H4
    refine wp_region_held (S := fun W => Blk W w.heap.size #[.int .i64 x.id, .int .i64 x.epoch, .bool x.live, .int .i64 x.granted, .slice a1 n1 c1, .slice a2 n2 c2, .int .i64 x.next] 25) (by kernel_rfl) ?_
    change wpAnyH _ _ _ _ _ _ _ _ (World.drew _)
    rw [← hY0]
    clear hY0
    refine takeH (o := ?o19) 0 (.iface 118 (.agg #[.int .i64 f.epoch, .int .i64 f.granted])) ?h19 ?r19
    case h19 => simp only [aT, aZ]; rfl
    refine ⟨_, by simp [Act.put]; rfl, by kernel_rfl, by kernel_rfl, by kernel_rfl, fun _ _ _ h => h, (.inl ⟨rfl, fun W _ => by kernel_rfl⟩), H5.out.box, ?_⟩
    refine takeH (o := ?o20) 2 (.pointer (some ⟨w.heap.size, 1, none⟩)) ?h20 ?r20
    case h20 => simp only [aT, aS, aZ]; rfl
    refine ⟨_, by simp [Act.put]; rfl, by kernel_rfl, by kernel_rfl, by kernel_rfl, fun _ _ _ h => h, (.inl ⟨rfl, fun W _ => by kernel_rfl⟩), H5.out.box, ?_⟩
    refine takeH (o := ?o21) 3 (.int .i64 x.epoch) ?h21 ?r21
    case h21 => simp only [aT, aS, aZ]; rfl
    refine ⟨_, by simp [Act.put]; rfl, by kernel_rfl, by kernel_rfl, by kernel_rfl, fun _ _ _ h => h, (.inl ⟨rfl, fun W hW => by have c := hW.cell 1; simp only [aT, aS, aZ] at c; go_simp⟩), H5.out.box, ?_⟩
    refine onlyH (o := ?o22) 1 (by kernel_rfl) ?h22 ?r22
    case h22 => simp only [aT, aS, aZ]; rfl
    intro K hK
    refine op_invoke0 _ _ 118 (.agg #[.int .i64 f.epoch, .int .i64 f.granted]) 131 Try.f131 (fun v w' => v = .int .i64 f.epoch ∧ Below Y0.heap.size Y0 w') rfl rfl rfl (methodA f.epoch f.granted) Try.func131 (by kernel_rfl) (by kernel_rfl) ((ackOf_any f.epoch f.granted Y0).mono (by rintro e w' ⟨rfl, k1⟩; exact ⟨_, rfl, rfl, k1⟩)) ?_
    rintro vr w5 ⟨rfl, rb⟩
    have H6 : Hid (HearI w #[.int .i64 x.id, .int .i64 x.epoch, .bool x.live, .int .i64 x.granted, .slice a1 n1 c1, .slice a2 n2 c2, .int .i64 x.next] #[.int .i64 f.kind, .int .i64 f.agent, .int .i64 f.epoch, .int .i64 f.granted, .slice bt lt ct, .int .i64 f.item.seq, .int .i64 f.item.cls, .int .i64 f.item.key, .int .i64 f.item.window, .int .i64 f.item.sk.count, .int .i64 f.item.sk.sum, .int .i64 f.item.sk.min, .int .i64 f.item.sk.max, .slice b1 m1 e1, .slice b2 m2 e2, .slice b3 m3 e3] L #[.int .i64 x.id, .int .i64 x.epoch, .bool x.live, .int .i64 x.granted, .slice q1 r1 k1, .slice q2 r2 k2, .int .i64 x.next] x F G w5) := H5.out.below rb
    refine ⟨_, by simp [Act.put]; rfl, hK _ _ ⟨H6.out.box, ?_⟩⟩
    clear hK rb H5
    refine takeH (o := ?o23) 4 (.bool (decide (f.epoch < x.epoch))) ?h23 ?r23
    case h23 => simp only [aT, aS, aZ]; rfl
    refine ⟨_, by simp [Act.put]; rfl, by kernel_rfl, by kernel_rfl, by kernel_rfl, fun _ _ _ h => h, (.inl ⟨rfl, fun W _ => by go_simp⟩), H6.out.box, ?_⟩
    refine wpAnyH_done (by kernel_rfl) ?_ _
    by_cases h3 : f.epoch < x.epoch
    · have hz : decide (f.epoch < x.epoch) = true := dec_true h3
      have HV : Hid (x.hear f = (x, 2)) := by show _ = _; unfold Ag.hear; rw [if_neg (by rw [HK.out.2.2.2]; simp), if_pos h3]
      rw [hz]
      clear h3 hz
      go_wp2_with (first | go_skip | (with_reducible refine stopLoad 25 rfl ?_))
      refine load_known 25 L _ 25 _ H6.out.loc rfl rfl rfl Try.underlying25 rfl infoAgT ?_
      go_wp2_with (first | go_skip | (with_reducible refine stopStore 25 rfl ?_))
      refine store_known 25 (w.heap.size + 1 + 1) _ #[.int .i64 x.id, .int .i64 x.epoch, .bool x.live, .int .i64 x.granted, .slice q1 r1 k1, .slice q2 r2 k2, .int .i64 x.next] 25 H6.out.res rfl rfl rfl rfl infoAgT rfl (by simp [Value.oneCell']) ?_
      have HE := H6.out.put (c := 2) H6.out.rd rfl
      go_wp2
      refine bodyPost_ret (results_row_tmp Try.results34 _ _ (w.heap.size + 1 + 1) _ _ _ _ rfl H6.out.res.setRow Try.underlying25 rfl infoAgT) rfl ?_
      rw [HV.out]
      exact HE
    have hz : decide (f.epoch < x.epoch) = false := dec_false h3
    rw [hz]
    have HLE : Hid (x.epoch ≤ f.epoch) := by show _ ≤ _; omega
    have c5 := H6.out.box.cell 5
    have k4 := H6.out.fr.cell 4
    simp only [aT, aS, aZ] at c5 k4
    clear hz h3
    go_wp2_with fail
    refine (joinImpl_any a2 bt n2 lt c2 ct x.taken f.taken G0 F' _ (HX.out.2.1.below H6.out.bel) (HF.out.2.1.below H6.out.bel) HF.out.2.2 HX.out.2.2).mono ?_
    rintro e w7 ⟨p, l, g, Gj, rfl, gj, oj, hb7, cj⟩
    have HJ : Hid (x.taken.join f.taken = joinTo x.taken f.taken f.taken.length) := Sp.join_yes (by have q := HK.out.2.1; unfold Ag.ok at q; simp only [Bool.and_eq_true] at q; exact q.1.1.2.1) HK.out.2.2.1
    have H7 : Hid (HearI w #[.int .i64 x.id, .int .i64 x.epoch, .bool x.live, .int .i64 x.granted, .slice a1 n1 c1, .slice a2 n2 c2, .int .i64 x.next] #[.int .i64 f.kind, .int .i64 f.agent, .int .i64 f.epoch, .int .i64 f.granted, .slice bt lt ct, .int .i64 f.item.seq, .int .i64 f.item.cls, .int .i64 f.item.key, .int .i64 f.item.window, .int .i64 f.item.sk.count, .int .i64 f.item.sk.sum, .int .i64 f.item.sk.min, .int .i64 f.item.sk.max, .slice b1 m1 e1, .slice b2 m2 e2, .slice b3 m3 e3] L #[.int .i64 x.id, .int .i64 x.epoch, .bool x.live, .int .i64 x.granted, .slice q1 r1 k1, .slice q2 r2 k2, .int .i64 x.next] x F G w7 ∧ RdP w7 p l (joinTo x.taken f.taken f.taken.length) Gj ∧ Own (L + 1) w7 Gj ∧ Capd p l g) := ⟨H6.out.below hb7, by rw [← HJ.out]; exact gj, oj.mono H6.out.loc.lt, cj⟩
    have l5 := H7.out.1.loc.cell 5
    have f5 := H7.out.1.loc.frozen 5
    simp only [aT, aS, aZ] at l5
    clear gj oj hb7 cj HJ H6 c5 k4
    go_wp2_with (first | go_skip | (with_reducible refine stopLoad 25 rfl ?_))
    have H8 : Hid (HearI w #[.int .i64 x.id, .int .i64 x.epoch, .bool x.live, .int .i64 x.granted, .slice a1 n1 c1, .slice a2 n2 c2, .int .i64 x.next] #[.int .i64 f.kind, .int .i64 f.agent, .int .i64 f.epoch, .int .i64 f.granted, .slice bt lt ct, .int .i64 f.item.seq, .int .i64 f.item.cls, .int .i64 f.item.key, .int .i64 f.item.window, .int .i64 f.item.sk.count, .int .i64 f.item.sk.sum, .int .i64 f.item.sk.min, .int .i64 f.item.sk.max, .slice b1 m1 e1, .slice b2 m2 e2, .slice b3 m3 e3] L #[.int .i64 x.id, .int .i64 x.epoch, .bool x.live, .int .i64 x.granted, .slice q1 r1 k1, .slice p l g, .int .i64 x.next] ⟨x.id, x.epoch, x.live, x.granted, x.sealed, joinTo x.taken f.taken f.taken.length, x.next⟩ F Gj (w7.setCell ⟨L, 5, none⟩ (.slice p l g))) := by
      have gL := H7.out.1.gL
      have nF : L ∉ F := fun hx => by have := H7.out.1.lF L hx; omega
      have nG : L ∉ Gj := fun hx => by have := H7.out.2.2.1.ge L hx; omega
      obtain ⟨s1, s2, s3, s4, s5, s6, es, g1, g2, g3, g4⟩ := H7.out.1.rd
      injection es with es
      injection es with es
      simp at es
      obtain ⟨es1, es2⟩ := es
      obtain ⟨rfl, rfl, rfl⟩ := es1
      exact ⟨H7.out.1.box.setOther (by omega) 5 _, H7.out.1.fr.setOther (by omega) 5 _, H7.out.1.res.setOther (by omega) 5 _, H7.out.1.bel.setCell (by show w.heap.size ≤ L; omega) _, H7.out.1.loc.set 5 _, ⟨_, _, _, _, _, _, rfl, g1.agree (.set nF 5 _), H7.out.2.1.agree (.set nG 5 _), g3, H7.out.2.2.2⟩, H7.out.1.oF.agree (.set nF 5 _), (H7.out.2.2.1.agree (.set nG 5 _)).mono (by omega), fun b hb hx => by have := H7.out.1.lF b hb; have := H7.out.2.2.1.ge b hx; omega, gL, H7.out.1.lF⟩
    obtain ⟨w8, hw8⟩ : ∃ W, W = w7.setCell ⟨L, 5, none⟩ (.slice p l g) := ⟨_, rfl⟩
    rw [← hw8] at H8 ⊢
    clear hw8 H7 l5 f5
    refine load_known 25 L _ 25 _ H8.out.loc rfl rfl rfl Try.underlying25 rfl infoAgT ?_
    have HG : Hid (0 ≤ f.granted) := by
      have q := HK.out.1
      unfold Fr.ok at q
      simp only [Bool.and_eq_true, decide_eq_true_eq] at q
      obtain ⟨⟨⟨⟨⟨⟨_, _⟩, _⟩, g4⟩, _⟩, _⟩, _⟩ := q
      exact g4.1
    by_cases h4 : x.epoch < f.epoch
    · have HV : Hid (x.hear f = (⟨x.id, f.epoch, true, max 0 f.granted, x.sealed, joinTo x.taken f.taken f.taken.length, x.next⟩, 0)) := by
        show _ = _
        unfold Ag.hear
        rw [if_neg (by rw [HK.out.2.2.2]; simp), if_neg (by omega), if_neg (by omega), decide_eq_true HK2.out, if_pos HK2.out, show max 0 f.granted = f.granted from Int.max_eq_right HG.out]
      go_wp2_with fail
      refine (turnedAck1 x.id x.epoch x.granted x.next f.epoch f.granted x.live q1 p r1 k1 l g _ (by omega)).mono ?_
      rintro r w9 ⟨rfl, hb9⟩
      have H9 : Hid (HearI w #[.int .i64 x.id, .int .i64 x.epoch, .bool x.live, .int .i64 x.granted, .slice a1 n1 c1, .slice a2 n2 c2, .int .i64 x.next] #[.int .i64 f.kind, .int .i64 f.agent, .int .i64 f.epoch, .int .i64 f.granted, .slice bt lt ct, .int .i64 f.item.seq, .int .i64 f.item.cls, .int .i64 f.item.key, .int .i64 f.item.window, .int .i64 f.item.sk.count, .int .i64 f.item.sk.sum, .int .i64 f.item.sk.min, .int .i64 f.item.sk.max, .slice b1 m1 e1, .slice b2 m2 e2, .slice b3 m3 e3] L #[.int .i64 x.id, .int .i64 x.epoch, .bool x.live, .int .i64 x.granted, .slice q1 r1 k1, .slice p l g, .int .i64 x.next] ⟨x.id, x.epoch, x.live, x.granted, x.sealed, joinTo x.taken f.taken f.taken.length, x.next⟩ F Gj w9) := H8.out.below hb9
      clear hb9 H8
      go_wp2_with (first | go_skip | (with_reducible refine stopStore 25 rfl ?_))
      refine store_known 25 (w.heap.size + 1 + 1) _ #[.int .i64 x.id, .int .i64 f.epoch, .bool true, .int .i64 (max 0 f.granted), .slice q1 r1 k1, .slice p l g, .int .i64 x.next] 25 H9.out.res rfl rfl rfl rfl infoAgT rfl (by simp [Value.oneCell']) ?_
      have HE := H9.out.put (c := 0) (rdAg_other (y := ⟨x.id, f.epoch, true, (max 0 f.granted), x.sealed, joinTo x.taken f.taken f.taken.length, x.next⟩) (x := ⟨x.id, x.epoch, x.live, x.granted, x.sealed, joinTo x.taken f.taken f.taken.length, x.next⟩) H9.out.rd rfl rfl rfl rfl rfl rfl rfl) rfl
      go_wp2
      refine bodyPost_ret (results_row_tmp Try.results34 _ _ (w.heap.size + 1 + 1) _ _ _ _ rfl H9.out.res.setRow Try.underlying25 rfl infoAgT) rfl ?_
      rw [HV.out]
      exact HE
    · have HV : Hid (x.hear f = (⟨x.id, f.epoch, true, max x.granted f.granted, x.sealed, joinTo x.taken f.taken f.taken.length, x.next⟩, 0)) := by
        have e : f.epoch = x.epoch := by have := HLE.out; omega
        show _ = _
        unfold Ag.hear
        rw [if_neg (by rw [HK.out.2.2.2]; simp), if_neg (by omega), if_pos ⟨HK2.out, e⟩, e]
      go_wp2_with fail
      refine (turnedAck2 x.id x.epoch x.granted x.next f.epoch f.granted x.live q1 p r1 k1 l g _ (by omega)).mono ?_
      rintro r w9 ⟨rfl, hb9⟩
      have H9 : Hid (HearI w #[.int .i64 x.id, .int .i64 x.epoch, .bool x.live, .int .i64 x.granted, .slice a1 n1 c1, .slice a2 n2 c2, .int .i64 x.next] #[.int .i64 f.kind, .int .i64 f.agent, .int .i64 f.epoch, .int .i64 f.granted, .slice bt lt ct, .int .i64 f.item.seq, .int .i64 f.item.cls, .int .i64 f.item.key, .int .i64 f.item.window, .int .i64 f.item.sk.count, .int .i64 f.item.sk.sum, .int .i64 f.item.sk.min, .int .i64 f.item.sk.max, .slice b1 m1 e1, .slice b2 m2 e2, .slice b3 m3 e3] L #[.int .i64 x.id, .int .i64 x.epoch, .bool x.live, .int .i64 x.granted, .slice q1 r1 k1, .slice p l g, .int .i64 x.next] ⟨x.id, x.epoch, x.live, x.granted, x.sealed, joinTo x.taken f.taken f.taken.length, x.next⟩ F Gj w9) := H8.out.below hb9
      clear hb9 H8
      go_wp2_with (first | go_skip | (with_reducible refine stopStore 25 rfl ?_))
      refine store_known 25 (w.heap.size + 1 + 1) _ #[.int .i64 x.id, .int .i64 f.epoch, .bool true, .int .i64 (max x.granted f.granted), .slice q1 r1 k1, .slice p l g, .int .i64 x.next] 25 H9.out.res rfl rfl rfl rfl infoAgT rfl (by simp [Value.oneCell']) ?_
      have HE := H9.out.put (c := 0) (rdAg_other (y := ⟨x.id, f.epoch, true, (max x.granted f.granted), x.sealed, joinTo x.taken f.taken f.taken.length, x.next⟩) (x := ⟨x.id, x.epoch, x.live, x.granted, x.sealed, joinTo x.taken f.taken f.taken.length, x.next⟩) H9.out.rd rfl rfl rfl rfl rfl rfl rfl) rfl
      go_wp2
      refine bodyPost_ret (results_row_tmp Try.results34 _ _ (w.heap.size + 1 + 1) _ _ _ _ rfl H9.out.res.setRow Try.underlying25 rfl infoAgT) rfl ?_
      rw [HV.out]
      exact HE
  · have hnv : newsVal f = .iface 120 (.agg #[.int .i64 f.epoch]) := by unfold newsVal; rw [if_neg h2]
    rw [hnv]
    have HK2 : Hid (f.kind = 3) := (by show _ = _; omega)
    have hM := methodR f.epoch
    clear hnv h2 HKI
    go_wp2_with fail
    have H5 : Hid (HearI w #[.int .i64 x.id, .int .i64 x.epoch, .bool x.live, .int .i64 x.granted, .slice a1 n1 c1, .slice a2 n2 c2, .int .i64 x.next] #[.int .i64 f.kind, .int .i64 f.agent, .int .i64 f.epoch, .int .i64 f.granted, .slice bt lt ct, .int .i64 f.item.seq, .int .i64 f.item.cls, .int .i64 f.item.key, .int .i64 f.item.window, .int .i64 f.item.sk.count, .int .i64 f.item.sk.sum, .int .i64 f.item.sk.min, .int .i64 f.item.sk.max, .slice b1 m1 e1, .slice b2 m2 e2, .slice b3 m3 e3] L #[.int .i64 x.id, .int .i64 x.epoch, .bool x.live, .int .i64 x.granted, .slice q1 r1 k1, .slice q2 r2 k2, .int .i64 x.next] x F G w4.drew) := H4.out.below (Below.refl _ _).drew
    obtain ⟨Y0, hY0⟩ : ∃ Y, Y = w4.drew := ⟨_, rfl⟩
    rw [← hY0] at H5
    clear H4
    refine wp_region_held (S := fun W => Blk W w.heap.size #[.int .i64 x.id, .int .i64 x.epoch, .bool x.live, .int .i64 x.granted, .slice a1 n1 c1, .slice a2 n2 c2, .int .i64 x.next] 25) (by kernel_rfl) ?_
    change wpAnyH _ _ _ _ _ _ _ _ (World.drew _)
    rw [← hY0]
    clear hY0
    refine takeH (o := ?o24y) 0 (.iface 120 (.agg #[.int .i64 f.epoch])) ?h24y ?r24y
    case h24y => simp only [aT, aZ]; rfl
    refine ⟨_, by simp [Act.put]; rfl, by kernel_rfl, by kernel_rfl, by kernel_rfl, fun _ _ _ h => h, (.inl ⟨rfl, fun W _ => by kernel_rfl⟩), H5.out.box, ?_⟩
    refine takeH (o := ?o25y) 2 (.pointer (some ⟨w.heap.size, 1, none⟩)) ?h25y ?r25y
    case h25y => simp only [aT, aS, aZ]; rfl
    refine ⟨_, by simp [Act.put]; rfl, by kernel_rfl, by kernel_rfl, by kernel_rfl, fun _ _ _ h => h, (.inl ⟨rfl, fun W _ => by kernel_rfl⟩), H5.out.box, ?_⟩
    refine takeH (o := ?o26y) 3 (.int .i64 x.epoch) ?h26y ?r26y
    case h26y => simp only [aT, aS, aZ]; rfl
    refine ⟨_, by simp [Act.put]; rfl, by kernel_rfl, by kernel_rfl, by kernel_rfl, fun _ _ _ h => h, (.inl ⟨rfl, fun W hW => by have c := hW.cell 1; simp only [aT, aS, aZ] at c; go_simp⟩), H5.out.box, ?_⟩
    refine onlyH (o := ?o27y) 1 (by kernel_rfl) ?h27y ?r27y
    case h27y => simp only [aT, aS, aZ]; rfl
    intro K hK
    refine op_invoke0 _ _ 120 (.agg #[.int .i64 f.epoch]) 132 Try.f132 (fun v w' => v = .int .i64 f.epoch ∧ Below Y0.heap.size Y0 w') rfl rfl rfl (methodR f.epoch) Try.func132 (by kernel_rfl) (by kernel_rfl) ((resetOf_any f.epoch Y0).mono (by rintro e w' ⟨rfl, k1⟩; exact ⟨_, rfl, rfl, k1⟩)) ?_
    rintro vr w5 ⟨rfl, rb⟩
    have H6 : Hid (HearI w #[.int .i64 x.id, .int .i64 x.epoch, .bool x.live, .int .i64 x.granted, .slice a1 n1 c1, .slice a2 n2 c2, .int .i64 x.next] #[.int .i64 f.kind, .int .i64 f.agent, .int .i64 f.epoch, .int .i64 f.granted, .slice bt lt ct, .int .i64 f.item.seq, .int .i64 f.item.cls, .int .i64 f.item.key, .int .i64 f.item.window, .int .i64 f.item.sk.count, .int .i64 f.item.sk.sum, .int .i64 f.item.sk.min, .int .i64 f.item.sk.max, .slice b1 m1 e1, .slice b2 m2 e2, .slice b3 m3 e3] L #[.int .i64 x.id, .int .i64 x.epoch, .bool x.live, .int .i64 x.granted, .slice q1 r1 k1, .slice q2 r2 k2, .int .i64 x.next] x F G w5) := H5.out.below rb
    refine ⟨_, by simp [Act.put]; rfl, hK _ _ ⟨H6.out.box, ?_⟩⟩
    clear hK rb H5
    refine takeH (o := ?o28y) 4 (.bool (decide (f.epoch < x.epoch))) ?h28y ?r28y
    case h28y => simp only [aT, aS, aZ]; rfl
    refine ⟨_, by simp [Act.put]; rfl, by kernel_rfl, by kernel_rfl, by kernel_rfl, fun _ _ _ h => h, (.inl ⟨rfl, fun W _ => by go_simp⟩), H6.out.box, ?_⟩
    refine wpAnyH_done (by kernel_rfl) ?_ _
    by_cases h3 : f.epoch < x.epoch
    · have hz : decide (f.epoch < x.epoch) = true := dec_true h3
      have HV : Hid (x.hear f = (x, 2)) := by show _ = _; unfold Ag.hear; rw [if_neg (by rw [HK.out.2.2.2]; simp), if_pos h3]
      rw [hz]
      clear h3 hz
      go_wp2_with (first | go_skip | (with_reducible refine stopLoad 25 rfl ?_))
      refine load_known 25 L _ 25 _ H6.out.loc rfl rfl rfl Try.underlying25 rfl infoAgT ?_
      go_wp2_with (first | go_skip | (with_reducible refine stopStore 25 rfl ?_))
      refine store_known 25 (w.heap.size + 1 + 1) _ #[.int .i64 x.id, .int .i64 x.epoch, .bool x.live, .int .i64 x.granted, .slice q1 r1 k1, .slice q2 r2 k2, .int .i64 x.next] 25 H6.out.res rfl rfl rfl rfl infoAgT rfl (by simp [Value.oneCell']) ?_
      have HE := H6.out.put (c := 2) H6.out.rd rfl
      go_wp2
      refine bodyPost_ret (results_row_tmp Try.results34 _ _ (w.heap.size + 1 + 1) _ _ _ _ rfl H6.out.res.setRow Try.underlying25 rfl infoAgT) rfl ?_
      rw [HV.out]
      exact HE
    have hz : decide (f.epoch < x.epoch) = false := dec_false h3
    rw [hz]
    have HLE : Hid (x.epoch ≤ f.epoch) := by show _ ≤ _; omega
    have c5 := H6.out.box.cell 5
    have k4 := H6.out.fr.cell 4
    simp only [aT, aS, aZ] at c5 k4
    clear hz h3
    go_wp2_with fail
    refine (joinImpl_any a2 bt n2 lt c2 ct x.taken f.taken G0 F' _ (HX.out.2.1.below H6.out.bel) (HF.out.2.1.below H6.out.bel) HF.out.2.2 HX.out.2.2).mono ?_
    rintro e w7 ⟨p, l, g, Gj, rfl, gj, oj, hb7, cj⟩
    have HJ : Hid (x.taken.join f.taken = joinTo x.taken f.taken f.taken.length) := Sp.join_yes (by have q := HK.out.2.1; unfold Ag.ok at q; simp only [Bool.and_eq_true] at q; exact q.1.1.2.1) HK.out.2.2.1
    have H7 : Hid (HearI w #[.int .i64 x.id, .int .i64 x.epoch, .bool x.live, .int .i64 x.granted, .slice a1 n1 c1, .slice a2 n2 c2, .int .i64 x.next] #[.int .i64 f.kind, .int .i64 f.agent, .int .i64 f.epoch, .int .i64 f.granted, .slice bt lt ct, .int .i64 f.item.seq, .int .i64 f.item.cls, .int .i64 f.item.key, .int .i64 f.item.window, .int .i64 f.item.sk.count, .int .i64 f.item.sk.sum, .int .i64 f.item.sk.min, .int .i64 f.item.sk.max, .slice b1 m1 e1, .slice b2 m2 e2, .slice b3 m3 e3] L #[.int .i64 x.id, .int .i64 x.epoch, .bool x.live, .int .i64 x.granted, .slice q1 r1 k1, .slice q2 r2 k2, .int .i64 x.next] x F G w7 ∧ RdP w7 p l (joinTo x.taken f.taken f.taken.length) Gj ∧ Own (L + 1) w7 Gj ∧ Capd p l g) := ⟨H6.out.below hb7, by rw [← HJ.out]; exact gj, oj.mono H6.out.loc.lt, cj⟩
    have l5 := H7.out.1.loc.cell 5
    have f5 := H7.out.1.loc.frozen 5
    simp only [aT, aS, aZ] at l5
    clear gj oj hb7 cj HJ H6 c5 k4
    go_wp2_with (first | go_skip | (with_reducible refine stopLoad 25 rfl ?_))
    have H8 : Hid (HearI w #[.int .i64 x.id, .int .i64 x.epoch, .bool x.live, .int .i64 x.granted, .slice a1 n1 c1, .slice a2 n2 c2, .int .i64 x.next] #[.int .i64 f.kind, .int .i64 f.agent, .int .i64 f.epoch, .int .i64 f.granted, .slice bt lt ct, .int .i64 f.item.seq, .int .i64 f.item.cls, .int .i64 f.item.key, .int .i64 f.item.window, .int .i64 f.item.sk.count, .int .i64 f.item.sk.sum, .int .i64 f.item.sk.min, .int .i64 f.item.sk.max, .slice b1 m1 e1, .slice b2 m2 e2, .slice b3 m3 e3] L #[.int .i64 x.id, .int .i64 x.epoch, .bool x.live, .int .i64 x.granted, .slice q1 r1 k1, .slice p l g, .int .i64 x.next] ⟨x.id, x.epoch, x.live, x.granted, x.sealed, joinTo x.taken f.taken f.taken.length, x.next⟩ F Gj (w7.setCell ⟨L, 5, none⟩ (.slice p l g))) := by
      have gL := H7.out.1.gL
      have nF : L ∉ F := fun hx => by have := H7.out.1.lF L hx; omega
      have nG : L ∉ Gj := fun hx => by have := H7.out.2.2.1.ge L hx; omega
      obtain ⟨s1, s2, s3, s4, s5, s6, es, g1, g2, g3, g4⟩ := H7.out.1.rd
      injection es with es
      injection es with es
      simp at es
      obtain ⟨es1, es2⟩ := es
      obtain ⟨rfl, rfl, rfl⟩ := es1
      exact ⟨H7.out.1.box.setOther (by omega) 5 _, H7.out.1.fr.setOther (by omega) 5 _, H7.out.1.res.setOther (by omega) 5 _, H7.out.1.bel.setCell (by show w.heap.size ≤ L; omega) _, H7.out.1.loc.set 5 _, ⟨_, _, _, _, _, _, rfl, g1.agree (.set nF 5 _), H7.out.2.1.agree (.set nG 5 _), g3, H7.out.2.2.2⟩, H7.out.1.oF.agree (.set nF 5 _), (H7.out.2.2.1.agree (.set nG 5 _)).mono (by omega), fun b hb hx => by have := H7.out.1.lF b hb; have := H7.out.2.2.1.ge b hx; omega, gL, H7.out.1.lF⟩
    obtain ⟨w8, hw8⟩ : ∃ W, W = w7.setCell ⟨L, 5, none⟩ (.slice p l g) := ⟨_, rfl⟩
    rw [← hw8] at H8 ⊢
    clear hw8 H7 l5 f5
    refine load_known 25 L _ 25 _ H8.out.loc rfl rfl rfl Try.underlying25 rfl infoAgT ?_
    have HV : Hid (x.hear f = (⟨x.id, f.epoch, false, 0, x.sealed, joinTo x.taken f.taken f.taken.length, x.next⟩, 0)) := by
      have hn : ¬ f.kind = 2 := by have := HK2.out; omega
      have := HLE.out
      show _ = _
      unfold Ag.hear
      rw [if_neg (by rw [HK.out.2.2.2]; simp), if_neg (by omega), if_neg (fun e => hn e.1), decide_eq_false hn, if_neg hn]
    go_wp2_with fail
    refine (turnedReset x.id x.epoch x.granted x.next f.epoch x.live q1 p r1 k1 l g _).mono ?_
    rintro r w9 ⟨rfl, hb9⟩
    have H9 : Hid (HearI w #[.int .i64 x.id, .int .i64 x.epoch, .bool x.live, .int .i64 x.granted, .slice a1 n1 c1, .slice a2 n2 c2, .int .i64 x.next] #[.int .i64 f.kind, .int .i64 f.agent, .int .i64 f.epoch, .int .i64 f.granted, .slice bt lt ct, .int .i64 f.item.seq, .int .i64 f.item.cls, .int .i64 f.item.key, .int .i64 f.item.window, .int .i64 f.item.sk.count, .int .i64 f.item.sk.sum, .int .i64 f.item.sk.min, .int .i64 f.item.sk.max, .slice b1 m1 e1, .slice b2 m2 e2, .slice b3 m3 e3] L #[.int .i64 x.id, .int .i64 x.epoch, .bool x.live, .int .i64 x.granted, .slice q1 r1 k1, .slice p l g, .int .i64 x.next] ⟨x.id, x.epoch, x.live, x.granted, x.sealed, joinTo x.taken f.taken f.taken.length, x.next⟩ F Gj w9) := H8.out.below hb9
    clear hb9 H8
    go_wp2_with (first | go_skip | (with_reducible refine stopStore 25 rfl ?_))
    refine store_known 25 (w.heap.size + 1 + 1) _ #[.int .i64 x.id, .int .i64 f.epoch, .bool false, .int .i64 0, .slice q1 r1 k1, .slice p l g, .int .i64 x.next] 25 H9.out.res rfl rfl rfl rfl infoAgT rfl (by simp [Value.oneCell']) ?_
    have HE := H9.out.put (c := 0) (rdAg_other (y := ⟨x.id, f.epoch, false, 0, x.sealed, joinTo x.taken f.taken f.taken.length, x.next⟩) (x := ⟨x.id, x.epoch, x.live, x.granted, x.sealed, joinTo x.taken f.taken f.taken.length, x.next⟩) H9.out.rd rfl rfl rfl rfl rfl rfl rfl) rfl
    go_wp2
    refine bodyPost_ret (results_row_tmp Try.results34 _ _ (w.heap.size + 1 + 1) _ _ _ _ rfl H9.out.res.setRow Try.underlying25 rfl infoAgT) rfl ?_
    rw [HV.out]
    exact HE
end Go.Proofs.Ytjndcfamfminkar
/- What is read is no longer than it may be. No statement of the seat is proved here. -/
namespace Go.Proofs.Ytjndcfamfminkar
open Go.RowKit
theorem Var.only' {W W' : World} {lo hi g lo' hi' : Nat} {cs : Array Value} {s : Sk} {F G : List Nat} (h : Var W lo hi g cs s F) (o : Only G W W') (kl : ∀ b ∈ G, b < hi') (kg : ∀ b ∈ G, lo' ≤ b) (hd : hi ≤ lo' ∨ hi' ≤ lo) : Var W' lo hi g cs s F := by
  have ap : ∀ b ∈ F, b ∉ G := fun b hb hg => by have := h.lt b hb; have := h.own.ge b hb; have := kl b hg; have := kg b hg; omega
  exact ⟨h.blk.agree (o.block g h.blk.lt (fun hg => by have := h.ge; have := h.glt; have := kl g hg; have := kg g hg; omega)), h.rd.agree (o.agree h.rd.lt ap), h.sz, h.own.agree (o.agree h.rd.lt ap), h.lt, h.ge, h.glt, h.apart⟩
end Go.Proofs.Ytjndcfamfminkar
/- What the laws over agents take of Seal, Waiting, AgentSend and AgentHear. No statement of the seat is proved here. -/
namespace Go.Proofs.Ytjndcfamfminkar
open Go.RowKit
def NewA2 (w : World) (z : Ag × Int) (e : Ending) (w' : World) : Prop := ∃ v F, e = .returned (.tuple #[v, .int .i64 z.2]) ∧ RdA w' v z.1 F ∧ Own w.heap.size w' F ∧ Below w.heap.size w w'
theorem NewAg2.toA {w : World} {z : Ag × Int} {e : Ending} {w' : World} (h : NewAg2 w z e w') : NewA2 w z e w' := by
  obtain ⟨v, F, G, c, rfl, r, rfl, o, p, d, b⟩ := h
  exact ⟨v, F ++ G, rfl, ⟨F, G, rfl, r⟩, o.app p d, b⟩
theorem hear_wide {x : Ag} {f : Fr} (hx : x.fits) (hf : f.taken.length ≤ 1048576) : (x.hear f).1.wide ∧ 0 ≤ (x.hear f).1.many ∧ (x.hear f).1.many ≤ 16777216 := by
  have h1 := hx.many
  have h0 := x.many_nonneg
  have hj : (joinTo x.taken f.taken f.taken.length).length ≤ 2097152 := by have := joinTo_length (ps := x.taken) (qs := f.taken) f.taken.length (Nat.le_refl _); have := hx.len.2; omega
  have hi := itsMany_nonneg x.sealed
  have hm : itsMany x.sealed ≤ 8388608 := by unfold Ag.many at h1; omega
  unfold Ag.hear
  split
  · exact ⟨hx.wide, h0, by show x.many ≤ _; omega⟩
  · split
    · exact ⟨hx.wide, h0, by show x.many ≤ _; omega⟩
    · split
      · exact ⟨⟨hx.wide.1, hx.wide.2.1, hj⟩, by show 0 ≤ itsMany x.sealed + 2 * ((joinTo x.taken f.taken f.taken.length).length : Int); omega, by show itsMany x.sealed + 2 * ((joinTo x.taken f.taken f.taken.length).length : Int) ≤ _; omega⟩
      · exact ⟨⟨hx.wide.1, hx.wide.2.1, hj⟩, by show 0 ≤ itsMany x.sealed + 2 * ((joinTo x.taken f.taken f.taken.length).length : Int); omega, by show itsMany x.sealed + 2 * ((joinTo x.taken f.taken f.taken.length).length : Int) ≤ _; omega⟩
def NewAF (w : World) (z : Ag × Fr) (e : Ending) (w' : World) : Prop := ∃ v u F G, e = .returned (.tuple #[v, u]) ∧ RdA w' v z.1 F ∧ RdF w' u z.2 G ∧ Own w.heap.size w' F ∧ Own w.heap.size w' G ∧ (∀ b ∈ F, b ∉ G) ∧ Below w.heap.size w w'
theorem NewAgFr.toA {w : World} {z : Ag × Fr} {e : Ending} {w' : World} (h : NewAgFr w z e w') : NewAF w z e w' := by
  obtain ⟨v, u, F, G, F', G', rfl, r, r', o, p, o', p', d, d', dd, b⟩ := h
  exact ⟨v, u, F ++ G, F' ++ G', rfl, ⟨F, G, rfl, r⟩, ⟨F', G', rfl, r'⟩, o.app p d, o'.app p' d', dd, b⟩
set_option maxRecDepth 200000 in
theorem hearSpecA_any (v u : Value) (x : Ag) (f : Fr) (F G : List Nat) (w : World) (h : RdA w v x F) (k : RdF w u f G) (hf : x.fits) (kf : f.fits) :
    Calls Try.prog 32 #[v, u] w fun e w' => NewA2 w (x.hear f) e w' := by
  obtain ⟨F1, F2, rfl, h⟩ := h
  obtain ⟨G1, G2, rfl, k⟩ := k
  exact (agentHear_any v u x f F1 F2 G1 G2 w h k hf.each hf.len.1 hf.len.2 kf.wide.1 kf.2).mono fun _ _ h => h.toA
set_option maxRecDepth 200000 in
theorem hearImplA_any (v u : Value) (x : Ag) (f : Fr) (F G : List Nat) (w : World) (h : RdA w v x F) (k : RdF w u f G) (hf : x.fits) (kf : f.fits) :
    Calls Try.prog 34 #[v, u] w fun e w' => NewA2 w (x.hear f) e w' := by
  obtain ⟨F1, F2, rfl, h⟩ := h
  obtain ⟨G1, G2, rfl, k⟩ := k
  exact (hearImpl_any v u x f F1 F2 G1 G2 w h k hf.each hf.len.1 hf.len.2 kf.wide.1 kf.2).mono fun _ _ h => h.toA
section
variable {P : Program} {ops : Array Oper} {Q : Exit → Act → World → Prop} {a : Act} {w : World} {o : Oper} {K : Act → World → Prop}
end
end Go.Proofs.Ytjndcfamfminkar
