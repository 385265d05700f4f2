/- Several texts of mine, laid together. No statement of the seat is proved here. -/
import Derived.Test.YtjnamoppcklomaaGreatAppAny
import Derived.Test.YtjnamoppcklomaaGreatItHelp
import Derived.Test.YtjnamoppcklomaaGreatItModel
import Derived.Test.YtjnamoppcklomaaGreatSkShape
import Derived.Test.YtjnamoppcklomaaGreatSkCopy
import Derived.Test.YtjnamoppcklomaaGreatTallyD
import Derived.Test.YtjnamoppcklomaaGreatSkOk
import Derived.Test.YtjnamoppcklomaaGreatSkLaw
import Derived.Deep.DeepCutAuto
import Derived.Test.YtjnamoppcklomaaGreatSk
import Derived.Deep.RegionHeld3
import Derived.Deep.OwnRows
import Derived.Test.YtjnamoppcklomaaGreatDrawSk
import Derived.Test.YtjnamoppcklomaaGreatPart
import Derived.Test.YtjnamoppcklomaaGreatSpModel
namespace Go.Proofs.YtjnamoppcklomaaGreat
section
set_option maxRecDepth 200000
set_option maxHeartbeats 16000000
open Go.RowKit
structure CopyA (w : World) (A : Array Value) (s : Sk) (a1 a2 : Option Addr) (n1 n2 d1 d2 : Nat) (F1 F2 : List Nat) (lo k : Nat) (v : Value) (vs : List Value) (G : List Nat) (W : World) : Prop where
 three : Three w A 31 #[.int .i64 0, .int .i64 0, .int .i64 0, .int .i64 0, .slice none 0 0, .slice none 0 0, .slice none 0 0] #[.int .i64 s.count, .int .i64 s.sum, .int .i64 s.min, .int .i64 s.max, .slice a1 n1 d1, .slice a2 n2 d2, v] 31 W
 r1 : RdI W a1 n1 s.hist F1
 r2 : RdI W a2 n2 s.regs F2
 own : Own (w.heap.size + 3) W (F1 ++ F2)
 lt : ∀ b ∈ F1 ++ F2, b < lo
 row : W.ownsRow lo 28 1 v k vs
 rd : RdS W ((s.rows.take k).map ints) vs G
 og : Own lo W G
 rm : 0 < n1 → RoomS W a1 n1 d1 F1
 ap : ∀ b, v.ownBlock = some b → b ∉ G
 big : w.heap.size + 3 ≤ lo
 lw : lo ≤ W.heap.size
section
variable {w W W' : World} {A : Array Value} {s : Sk} {a1 a2 : Option Addr} {n1 n2 d1 d2 : Nat} {F1 F2 : List Nat} {lo k : Nat} {v : Value} {vs : List Value} {G : List Nat}
theorem CopyA.below (h : CopyA w A s a1 a2 n1 n2 d1 d2 F1 F2 lo k v vs G W) (b : Below W.heap.size W W') : CopyA w A s a1 a2 n1 n2 d1 d2 F1 F2 lo k v vs G W' :=
 ⟨h.three.below b, h.r1.below b, h.r2.below b, h.own.below (fun x hx => (List.mem_append.1 hx).elim (h.r1.lt x) (h.r2.lt x)) b, h.lt, ownsRow_below h.row b, h.rd.below b, h.og.below h.rd.lt b, fun q => (h.rm q).below b, h.ap, h.big, Nat.le_trans h.lw b.size⟩
theorem CopyA.step (h : CopyA w A s a1 a2 n1 n2 d1 d2 F1 F2 lo k v vs G W) {ak : Option Addr} {nk cp3 g4 cp4 L : Nat} {Fk : List Nat} (rk : RdI W ak nk (s.rows.getD k []) Fk) (ok : Own L W Fk) (ltG : ∀ b ∈ G, b < L) (ltv : ∀ b, v.ownBlock = some b → b < L) (hL : lo ≤ L)
 (hown : W'.ownsRow lo 28 1 (.slice (some ⟨g4, 0, none⟩) (k + 1) cp4) (k + 1) (vs ++ [.slice ak nk cp3])) (hgrow : W.grownBy W' v.ownBlock) (hat : v.ownBlock = some g4 ∨ g4 = W.heap.size) (hk : k < s.rows.length) :
 CopyA w A s a1 a2 n1 n2 d1 d2 F1 F2 lo (k + 1) (.slice (some ⟨g4, 0, none⟩) (k + 1) cp4) (vs ++ [.slice ak nk cp3]) (G ++ Fk) (W'.setCell ⟨w.heap.size + 1 + 1, 6, none⟩ (.slice (some ⟨g4, 0, none⟩) (k + 1) cp4)) ∧ CopyS w A W' ∧
  W'.cell? ⟨w.heap.size + 1 + 1, 6, none⟩ = some v ∧ W'.frozen? ⟨w.heap.size + 1 + 1, 6, none⟩ = false := by
 have big := h.big
 have blk : ∀ b, b < W.heap.size → ¬ v.ownBlock = some b → W'.heap[b]? = W.heap[b]? := fun b hb hn => hgrow.block b hb (fun e => hn e.symm)
 have vge : ∀ b, v.ownBlock = some b → lo ≤ b := fun b hb => (h.row.lt b hb).1
 have bx := h.three.box.agree (blk _ h.three.box.lt (fun e => by have := vge _ e; omega))
 have rs := h.three.res.agree (blk _ h.three.res.lt (fun e => by have := vge _ e; omega))
 have lc := h.three.loc.agree (blk _ h.three.loc.lt (fun e => by have := vge _ e; omega))
 have bel : Below w.heap.size w W' := h.three.bel.grown hgrow h.three.bel.size (fun b hb => by have := vge b hb; omega)
 have T : Three w A 31 #[.int .i64 0, .int .i64 0, .int .i64 0, .int .i64 0, .slice none 0 0, .slice none 0 0, .slice none 0 0] #[.int .i64 s.count, .int .i64 s.sum, .int .i64 s.min, .int .i64 s.max, .slice a1 n1 d1, .slice a2 n2 d2, v] 31 W' := ⟨bx, rs, lc, bel⟩
 have no : ∀ b ∈ F1 ++ F2 ++ (G ++ Fk), b ≠ w.heap.size + 1 + 1 := fun b hb e => by
  rcases List.mem_append.1 hb with hb | hb
  ·
   have := h.own.ge b hb; omega
  ·
   rcases List.mem_append.1 hb with hb | hb
   ·
    have := h.og.ge b hb; omega
   ·
    have := ok.ge b hb; omega
 have agF : Agree W (W'.setCell ⟨w.heap.size + 1 + 1, 6, none⟩ (.slice (some ⟨g4, 0, none⟩) (k + 1) cp4)) (F1 ++ F2) := Agree.thenSet (fun b hb => blk b ((List.mem_append.1 hb).elim (h.r1.lt b) (h.r2.lt b)) (fun e => by have := vge _ e; have := h.lt b hb; omega)) (fun hx => no _ (List.mem_append_left _ hx) rfl) _ _
 have agG : Agree W (W'.setCell ⟨w.heap.size + 1 + 1, 6, none⟩ (.slice (some ⟨g4, 0, none⟩) (k + 1) cp4)) (G ++ Fk) := Agree.thenSet (fun b hb => blk b ((List.mem_append.1 hb).elim (h.rd.lt b) (rk.lt b)) (fun e => (List.mem_append.1 hb).elim (h.ap b e) (fun hf => by have := ok.ge b hf; have := ltv b e; omega))) (fun hx => no _ (List.mem_append_right _ hx) rfl) _ _
 have hgw : w.heap.size + 1 + 1 < W'.heap.size := lc.lt
 have rowS : (W'.setCell ⟨w.heap.size + 1 + 1, 6, none⟩ (.slice (some ⟨g4, 0, none⟩) (k + 1) cp4)).ownsRow lo 28 1 (.slice (some ⟨g4, 0, none⟩) (k + 1) cp4) (k + 1) (vs ++ [.slice ak nk cp3]) :=
  own_keep hown (grown_set W' (w.heap.size + 1 + 1) 6 _) (by omega)
 refine ⟨⟨T.set 6 _, h.r1.agree agF.left, h.r2.agree agF.right, h.own.agree agF, h.lt, rowS, ?_, ?_, fun q => (h.rm q).agree agF.left, ?_, h.big, ?_⟩, ⟨bx, bel⟩, by rw [lc.cell]; rfl, lc.frozen 6⟩
 ·
  rw [take_snoc s.rows [] k hk, List.map_append]
  exact (h.rd.agree agG.left).snoc (rd_ints.2 ⟨_, _, _, rfl, rk.agree agG.right⟩)
 ·
  exact (h.og.agree agG.left).join (ok.agree agG.right) ltG hL
 ·
  intro b hb hx
  have hb' : b = g4 := by simpa [Value.ownBlock] using hb.symm
  subst hb'
  rcases hat with e | e
  ·
   rcases List.mem_append.1 hx with hx | hx
   ·
    exact h.ap _ e hx
   ·
    have := ok.ge _ hx; have := ltv _ e; omega
  ·
   rcases List.mem_append.1 hx with hx | hx
   ·
    have := h.rd.lt _ hx; omega
   ·
    have := rk.lt _ hx; omega
 ·
  have := hgrow.size; have := h.lw; simp; omega
theorem CopyA.rows (h : CopyA w A s a1 a2 n1 n2 d1 d2 F1 F2 lo k v vs G W) : ∃ a c F, v = .slice a k c ∧ RdII W a k (s.rows.take k) F ∧ Own (w.heap.size + 3) W (F1 ++ (F2 ++ F)) ∧ k ≤ c := by
 have big := h.big
 rcases h.row.2 with ⟨e, e'⟩ | ⟨g, cap, cur, e, e2, e3, e4⟩
 ·
  subst e'
  exact ⟨none, 0, [], e, ⟨by simp, .inl ⟨rfl, rfl⟩⟩, by simpa using h.own, by omega⟩
 ·
  subst e
  have hl : vs.length = k := by simpa using h.row.1
  have hlen := h.rd.length
  by_cases h0 : k = 0
  ·
   subst h0
   exact ⟨_, cap, [], rfl, ⟨by simp, .inl ⟨rfl, rfl⟩⟩, by simpa using h.own, by omega⟩
  ·
   have hm : RdM W ((s.rows.take k).map ints) g 0 G := rdM_of_own 0 h.rd (fun i hi => by rw [Nat.zero_add]; exact h.row.cellAt i (by omega))
   have hg : lo ≤ g := (h.row.lt g rfl).1
   have hgG : g ∉ G := h.ap g rfl
   have og : Own lo W (g :: G) := ⟨List.nodup_cons.2 ⟨hgG, h.og.nodup⟩, fun b hb o => (List.mem_cons.1 hb).elim (fun e => by subst e; exact h.row.frozenAt o) (fun hb => h.og.free b hb o), fun b hb => (List.mem_cons.1 hb).elim (fun e => by omega) (h.og.ge b)⟩
   refine ⟨_, cap, g :: G, rfl, ⟨by rw [List.length_map] at hlen; omega, .inr ⟨g, 0, G, by omega, rfl, rfl, hm⟩⟩, ?_, e4.1⟩
   rw [← List.append_assoc]
   exact h.own.join og h.lt h.big
end
theorem l3Copy_allR (v : Value) (s : Sk) (F : List Nat) (w : World) (h : RdSk w v s F) (hf : s.fits) :
 Calls Tryz.prog 76 #[v] w fun e w' => ∃ v F, e = .returned v ∧ RdSk w' v s F ∧ Own w.heap.size w' F ∧ Below w.heap.size w w' ∧ (0 < s.hist.length → Roomy w' v) := by
 obtain ⟨i0, hi, hz0, hz1, hz2⟩ := info_parts infoInt
 obtain ⟨j0, hj, hy0, hy1, hy2⟩ := info_parts infoInts
 obtain ⟨a1, n1, c1, a2, n2, c2, a3, n3, c3, F1, F2, F3, rfl, h1, h2, h3, _⟩ := h
 have l1 := h1.length
 have l2 := h2.length
 have l3 := h3.length
 have hn1 : n1 ≤ 1048576 := by rw [← l1]; exact hf.hist
 have hn2 : n2 ≤ 1048576 := by rw [← l2]; exact hf.regs
 have hn3 : n3 ≤ 1048576 := by rw [← l3]; exact hf.rows
 have HR : Hid (RdI w a1 n1 s.hist F1 ∧ RdI w a2 n2 s.regs F2 ∧ RdII w a3 n3 s.rows F3 ∧ s.fits) := ⟨h1, h2, h3, hf⟩
 have HL : Hid (s.hist.length = n1 ∧ s.regs.length = n2 ∧ s.rows.length = n3) := ⟨l1, l2, l3⟩
 clear h1 h2 h3 hf l1 l2 l3
 have HT0 : Hid (Three w _ _ _ _ _ _) := Three.made w #[.int .i64 s.count, .int .i64 s.sum, .int .i64 s.min, .int .i64 s.max, .slice a1 n1 c1, .slice a2 n2 c2, .slice a3 n3 c3] 31 #[.int .i64 0, .int .i64 0, .int .i64 0, .int .i64 0, .slice none 0 0, .slice none 0 0, .slice none 0 0] #[.int .i64 s.count, .int .i64 s.sum, .int .i64 s.min, .int .i64 s.max, .slice a1 n1 c1, .slice a2 n2 c2, .slice a3 n3 c3] 31
 go_enter Tryz.func76, Tryz.ntmps76
 go_wp2_with (with_reducible refine stopAppend rfl ?_)
 obtain ⟨W2, hW2⟩ : ∃ W2, W2 = ((w.alloc (.cells #[.int .i64 s.count, .int .i64 s.sum, .int .i64 s.min, .int .i64 s.max, .slice a1 n1 c1, .slice a2 n2 c2, .slice a3 n3 c3] 31)).alloc (.cells #[.int .i64 0, .int .i64 0, .int .i64 0, .int .i64 0, .slice none 0 0, .slice none 0 0, .slice none 0 0] 31)).alloc (.cells #[.int .i64 s.count, .int .i64 s.sum, .int .i64 s.min, .int .i64 s.max, .slice a1 n1 c1, .slice a2 n2 c2, .slice a3 n3 c3] 31) := ⟨_, rfl⟩
 have hs2 : W2.heap.size = w.heap.size + 3 := by rw [hW2]; simp
 rw [← hW2] at HT0 ⊢
 clear hW2
 have bE2 : Below W2.heap.size W2 (W2.alloc (.cells #[] 3)) := (Below.refl _ _).alloc (Nat.le_refl _) _
 have HT1 : Hid (Three w #[.int .i64 s.count, .int .i64 s.sum, .int .i64 s.min, .int .i64 s.max, .slice a1 n1 c1, .slice a2 n2 c2, .slice a3 n3 c3] 31 #[.int .i64 0, .int .i64 0, .int .i64 0, .int .i64 0, .slice none 0 0, .slice none 0 0, .slice none 0 0] #[.int .i64 s.count, .int .i64 s.sum, .int .i64 s.min, .int .i64 s.max, .slice a1 n1 c1, .slice a2 n2 c2, .slice a3 n3 c3] 31 (W2.alloc (.cells #[] 3))) := HT0.out.below bE2
 refine Stop.intro (wpList_step fun K hK => op_growsI _ _ 28 rfl rfl 3 i0 Tryz.underlying28 hi hz0 hz1 hz2 (some _) rfl a1 n1 c1 s.hist F1 rfl (HR.out.1.below HT1.out.bel) hn1 ?_)
 intro b1 d1 G1 w3 r1 o1 hb1 _ rm1
 have HT3 : Hid (Three w #[.int .i64 s.count, .int .i64 s.sum, .int .i64 s.min, .int .i64 s.max, .slice a1 n1 c1, .slice a2 n2 c2, .slice a3 n3 c3] 31 #[.int .i64 0, .int .i64 0, .int .i64 0, .int .i64 0, .slice none 0 0, .slice none 0 0, .slice none 0 0] #[.int .i64 s.count, .int .i64 s.sum, .int .i64 s.min, .int .i64 s.max, .slice a1 n1 c1, .slice a2 n2 c2, .slice a3 n3 c3] 31 w3) := HT1.out.below hb1
 have HQ3 : Hid (RdI w3 b1 n1 s.hist G1 ∧ Own (w.heap.size + 3) w3 G1) := ⟨r1, o1.mono (by have := bE2.size; omega)⟩
 have HM3 : Hid (0 < n1 → RoomS w3 b1 n1 d1 G1) := rm1 rfl
 refine ⟨_, by simp [Act.put]; rfl, hK _ _ ?_⟩
 clear hK r1 o1 hb1 rm1 bE2 HT1 HT0 hs2
 have c4 := HT3.out.loc.cell 4
 have f4 := HT3.out.loc.frozen 4
 have e5 := HT3.out.box.cell 5
 simp only [aT, aS, aZ] at c4 e5
 have sz3 := HT3.out.size
 have ne3 : ¬ w.heap.size = w3.heap.size := by omega
 have ne3' : ¬ w3.heap.size = w.heap.size := by omega
 have lt3 : w.heap.size < w3.heap.size := by omega
 go_wp2_with (with_reducible refine stopAppend rfl ?_)
 clear ne3 ne3' lt3 sz3
 have ng1 : w.heap.size + 1 + 1 ∉ G1 := fun hx => by have := HQ3.out.2.ge _ hx; omega
 have HT4 : Hid (Three w #[.int .i64 s.count, .int .i64 s.sum, .int .i64 s.min, .int .i64 s.max, .slice a1 n1 c1, .slice a2 n2 c2, .slice a3 n3 c3] 31 #[.int .i64 0, .int .i64 0, .int .i64 0, .int .i64 0, .slice none 0 0, .slice none 0 0, .slice none 0 0] #[.int .i64 s.count, .int .i64 s.sum, .int .i64 s.min, .int .i64 s.max, .slice b1 n1 d1, .slice a2 n2 c2, .slice a3 n3 c3] 31 (w3.setCell ⟨w.heap.size + 1 + 1, 4, none⟩ (.slice b1 n1 d1))) := HT3.out.set 4 _
 have HQ4 : Hid (RdI (w3.setCell ⟨w.heap.size + 1 + 1, 4, none⟩ (.slice b1 n1 d1)) b1 n1 s.hist G1 ∧ Own (w.heap.size + 3) (w3.setCell ⟨w.heap.size + 1 + 1, 4, none⟩ (.slice b1 n1 d1)) G1) := ⟨HQ3.out.1.agree (.set ng1 4 _), HQ3.out.2.agree (.set ng1 4 _)⟩
 have HM4 : Hid (0 < n1 → RoomS (w3.setCell ⟨w.heap.size + 1 + 1, 4, none⟩ (.slice b1 n1 d1)) b1 n1 d1 G1) := fun q => (HM3.out q).agree (.set ng1 4 _)
 obtain ⟨W4, hW4⟩ : ∃ W, W = w3.setCell ⟨w.heap.size + 1 + 1, 4, none⟩ (.slice b1 n1 d1) := ⟨_, rfl⟩
 try rw [show w3.heap.size = W4.heap.size from by rw [hW4]; simp]
 rw [← hW4] at HT4 HQ4 HM4 ⊢
 clear hW4 ng1 c4 f4 e5 HT3 HQ3 HM3
 have bE4 : Below W4.heap.size W4 (W4.alloc (.cells #[] 3)) := (Below.refl _ _).alloc (Nat.le_refl _) _
 have HT5 : Hid (Three w #[.int .i64 s.count, .int .i64 s.sum, .int .i64 s.min, .int .i64 s.max, .slice a1 n1 c1, .slice a2 n2 c2, .slice a3 n3 c3] 31 #[.int .i64 0, .int .i64 0, .int .i64 0, .int .i64 0, .slice none 0 0, .slice none 0 0, .slice none 0 0] #[.int .i64 s.count, .int .i64 s.sum, .int .i64 s.min, .int .i64 s.max, .slice b1 n1 d1, .slice a2 n2 c2, .slice a3 n3 c3] 31 (W4.alloc (.cells #[] 3))) := HT4.out.below bE4
 have HQ5 : Hid (RdI (W4.alloc (.cells #[] 3)) b1 n1 s.hist G1 ∧ Own (w.heap.size + 3) (W4.alloc (.cells #[] 3)) G1 ∧ (∀ b ∈ G1, b < W4.heap.size) ∧ w.heap.size + 3 ≤ W4.heap.size) := ⟨HQ4.out.1.below bE4, HQ4.out.2.below HQ4.out.1.lt bE4, HQ4.out.1.lt, HT4.out.size⟩
 refine Stop.intro (wpList_step fun K hK => op_growsI _ _ 28 rfl rfl 3 i0 Tryz.underlying28 hi hz0 hz1 hz2 (some _) rfl a2 n2 c2 s.regs F2 rfl (HR.out.2.1.below HT5.out.bel) hn2 ?_)
 intro b2 d2 G2 w5 r2 o2 hb2 _ _
 have HT6 : Hid (Three w #[.int .i64 s.count, .int .i64 s.sum, .int .i64 s.min, .int .i64 s.max, .slice a1 n1 c1, .slice a2 n2 c2, .slice a3 n3 c3] 31 #[.int .i64 0, .int .i64 0, .int .i64 0, .int .i64 0, .slice none 0 0, .slice none 0 0, .slice none 0 0] #[.int .i64 s.count, .int .i64 s.sum, .int .i64 s.min, .int .i64 s.max, .slice b1 n1 d1, .slice a2 n2 c2, .slice a3 n3 c3] 31 w5) := HT5.out.below hb2
 have HM6 : Hid (0 < n1 → RoomS w5 b1 n1 d1 G1) := fun q => ((HM4.out q).below bE4).below hb2
 have HQ6 : Hid (RdI w5 b1 n1 s.hist G1 ∧ RdI w5 b2 n2 s.regs G2 ∧ Own (w.heap.size + 3) w5 (G1 ++ G2)) := ⟨HQ5.out.1.below hb2, r2, (HQ5.out.2.1.below HQ5.out.1.lt hb2).join o2 (fun b hb => by have := HQ5.out.2.2.1 b hb; have := bE4.size; omega) (by have := HQ5.out.2.2.2; have := bE4.size; omega)⟩
 refine ⟨_, by simp [Act.put]; rfl, hK _ _ ?_⟩
 clear hK r2 o2 hb2 bE4 HT5 HT4 HQ4 HQ5 HM4
 have c5 := HT6.out.loc.cell 5
 have f5 := HT6.out.loc.frozen 5
 have c6 := HT6.out.loc.cell 6
 have f6 := HT6.out.loc.frozen 6
 simp only [aT, aS, aZ] at c5 c6
 have hz5 : w.heap.size + 3 ≤ w5.heap.size := HT6.out.size
 go_wp2
 clear c5 f5 c6 f6
 go_loopw [4] (fun i wr => ∃ (k : Nat) (v : Value) (vs : List Value) (GG : List Nat), k ≤ n3 ∧ i = .int .i64 k ∧ Hid (CopyA w #[.int .i64 s.count, .int .i64 s.sum, .int .i64 s.min, .int .i64 s.max, .slice a1 n1 c1, .slice a2 n2 c2, .slice a3 n3 c3] s b1 b2 n1 n2 d1 d2 G1 G2 w5.heap.size k v vs GG wr)) (fun i _ => n3 - (intOf i).toNat)
 case atStart =>
  have nG : w.heap.size + 1 + 1 ∉ G1 ++ G2 := fun hx => by have := HQ6.out.2.2.ge _ hx; omega
  have ag := ((Agree.refl w5 (G1 ++ G2)).thenSet nG 5 (.slice b2 n2 d2)).thenSet nG 6 (.slice none 0 0)
  have T := (HT6.out.set 5 (.slice b2 n2 d2)).set 6 (.slice none 0 0)
  exact ⟨0, .slice none 0 0, [], [], by omega, rfl, ⟨T, HQ6.out.1.agree ag.left, HQ6.out.2.1.agree ag.right, HQ6.out.2.2.agree ag, fun b hb => (List.mem_append.1 hb).elim (HQ6.out.1.lt b) (HQ6.out.2.1.lt b), ⟨rfl, .inl ⟨rfl, rfl⟩⟩, by simp [RdS], Own.nil, fun q => (HM6.out q).agree ag.left, fun b hb => (by cases hb), hz5, by simp⟩⟩
 case round =>
  clear HQ6 HT6 HM6
  obtain ⟨k, v, vs, GG, hk, rfl, CSS⟩ := hrel
  have e6 := CSS.out.three.box.cell 6
  simp only [aT, aS, aZ] at e6
  by_cases hlt : k < n3
  ·
   have hI : (k : Int) < (n3 : Int) := by omega
   obtain ⟨p3, o3, F3', rfl, hm3⟩ : ∃ b off F', a3 = some ⟨b, off, none⟩ ∧ RdM w (s.rows.map ints) b off F' := by
    rcases HR.out.2.2.1.cells with ⟨h0, _⟩ | ⟨b, off, F', _, e, _, hm⟩
    ·
     omega
    ·
     exact ⟨b, off, F', e, hm⟩
   obtain ⟨ak, nk, ck, Yk, hck, hrk, _⟩ := RdII.row hm3 HL.out.2.2 k hlt
   have hnk : nk ≤ 1048576 := by rw [← hrk.length]; exact HR.out.2.2.2.row _ (mem_getD (d := []) (by rw [HL.out.2.2]; exact hlt))
   have hp3 : p3 < w.heap.size := World.block_lt_of_cell? _ _ hck
   have HQ : Hid (RdI w ak nk (s.rows.getD k []) Yk ∧ k < s.rows.length) := ⟨hrk, by rw [HL.out.2.2]; exact hlt⟩
   have HC : Hid (∀ W, CopyS w #[.int .i64 s.count, .int .i64 s.sum, .int .i64 s.min, .int .i64 s.max, .slice a1 n1 c1, .slice a2 n2 c2, .slice (some ⟨p3, o3, none⟩) n3 c3] W → W.cell? ⟨w.heap.size, 6, none⟩ = some (.slice (some ⟨p3, o3, none⟩) n3 c3) ∧ W.cell? ⟨p3, o3 + k, none⟩ = some (.slice ak nk ck)) := fun W hW => ⟨by rw [hW.1.cell]; rfl, by
     have q : W.cell? ⟨p3, o3 + k, none⟩ = w.cell? ⟨p3, o3 + k, none⟩ := hW.2.cell (p := ⟨p3, o3 + k, none⟩) hp3
     exact q.trans hck⟩
   have HB0 : Hid (∀ b, b < w.heap.size → b < wr.heap.size) := fun b hb => by have := CSS.out.three.bel.size; omega
   clear hck hrk hm3
   go_wp2_with fail
   clear e6
   have CSd : Hid (CopyA w #[.int .i64 s.count, .int .i64 s.sum, .int .i64 s.min, .int .i64 s.max, .slice a1 n1 c1, .slice a2 n2 c2, .slice (some ⟨p3, o3, none⟩) n3 c3] s b1 b2 n1 n2 d1 d2 G1 G2 w5.heap.size k v vs GG wr.drew) := CSS.out.below (Below.refl _ _).drew
   obtain ⟨Y0, hY0⟩ : ∃ Y, Y = wr.drew := ⟨_, rfl⟩
   rw [← hY0] at CSd
   have HLim : Hid ((∀ b ∈ GG, b < Y0.heap.size) ∧ (∀ b, v.ownBlock = some b → b < Y0.heap.size) ∧ w5.heap.size ≤ Y0.heap.size) := ⟨CSd.out.rd.lt, fun b hb => (CSd.out.row.lt b hb).2, CSd.out.lw⟩
   clear CSS HB0
   refine wp_region_held (S := CopyS w #[.int .i64 s.count, .int .i64 s.sum, .int .i64 s.min, .int .i64 s.max, .slice a1 n1 c1, .slice a2 n2 c2, .slice (some ⟨p3, o3, none⟩) n3 c3]) (by kernel_rfl) ?_
   change wpAnyH _ _ _ _ _ _ _ _ (World.drew _)
   rw [← hY0]
   clear hY0
   refine tm 0 (.pointer (some ⟨w.heap.size + 1 + 1, 6, none⟩)) (H := ⟨⟨CSd.out.three.box, CSd.out.three.bel⟩, ?_⟩)
   refine tm 3 (.pointer (some ⟨w.heap.size, 6, none⟩)) (H := ⟨⟨CSd.out.three.box, CSd.out.three.bel⟩, ?_⟩)
   refine tk 4 (.slice (some ⟨p3, o3, none⟩) n3 c3) (H := ⟨(.inl ⟨rfl, fun W hW => by have c := (HC.out W hW).1; go_simp⟩), ⟨CSd.out.three.box, CSd.out.three.bel⟩, ?_⟩)
   refine tm 5 (.int .i64 k) (H := ⟨⟨CSd.out.three.box, CSd.out.three.bel⟩, ?_⟩)
   refine tg 6 (.pointer (some ⟨p3, o3 + k, none⟩)) (H := ⟨⟨CSd.out.three.box, CSd.out.three.bel⟩, ?_⟩)
   refine tk 7 (.slice ak nk ck) (H := ⟨(.inl ⟨rfl, fun W hW => by have c := (HC.out W hW).2; go_simp⟩), ⟨CSd.out.three.box, CSd.out.three.bel⟩, ?_⟩)
   refine twoH (o := ?o7) (o' := ?p7) 1 2 (by kernel_rfl) ?h7 ?g7 ?r7 ?s7
   case h7 => simp only [aT, aS, aZ]; rfl
   case g7 => simp only [aT, aS, aZ]; rfl
   case r7 =>
    intro K hK
    have co := CSd.out.three.loc.cell 6
    simp only [aT, aS, aZ] at co
    refine op_value v rfl (by go_simp) (pk (h := hK _ _ ⟨⟨CSd.out.three.box, CSd.out.three.bel⟩, ?_⟩))
    clear hK co
    refine oq 2 (H := fun K hK => ?_)
    have bl : Below Y0.heap.size Y0 (Y0.alloc (.cells #[] 3)) := (Below.refl _ _).alloc (Nat.le_refl _) _
    have CS1 : Hid (CopyA w #[.int .i64 s.count, .int .i64 s.sum, .int .i64 s.min, .int .i64 s.max, .slice a1 n1 c1, .slice a2 n2 c2, .slice (some ⟨p3, o3, none⟩) n3 c3] s b1 b2 n1 n2 d1 d2 G1 G2 w5.heap.size k v vs GG (Y0.alloc (.cells #[] 3)) ∧ Y0.heap.size ≤ Y0.heap.size) := ⟨CSd.out.below bl, (Nat.le_refl _)⟩
    refine op_turn (.slice (some ⟨Y0.heap.size, 0, none⟩) 0 0) (Y0.alloc (.cells #[] 3)) rfl (by kernel_rfl) (pk (h := hK _ _ ⟨⟨CS1.out.1.three.box, CS1.out.1.three.bel⟩, ?_⟩))
    clear hK bl
    obtain ⟨Y1, hY1⟩ : ∃ Z, Z = Y0.alloc (.cells #[] 3) := ⟨_, rfl⟩
    have g1 : Hid (Y0.heap.size ≤ Y1.heap.size) := by have := CS1.out.2; show _ ≤ _; rw [hY1]; exact Nat.le_trans this (by simp)
    rw [← hY1] at CS1 ⊢
    have CS1 : Hid (CopyA w #[.int .i64 s.count, .int .i64 s.sum, .int .i64 s.min, .int .i64 s.max, .slice a1 n1 c1, .slice a2 n2 c2, .slice (some ⟨p3, o3, none⟩) n3 c3] s b1 b2 n1 n2 d1 d2 G1 G2 w5.heap.size k v vs GG Y1) := CS1.out.1
    clear hY1
    refine oq 8 (H := fun K hK => ?_)
    refine op_growsI _ _ 28 rfl rfl 3 i0 Tryz.underlying28 hi hz0 hz1 hz2 (some _) rfl ak nk ck (s.rows.getD k []) Yk rfl (HQ.out.1.below CS1.out.three.bel) hnk ?_
    intro ar cr Fr Y2 rr ro rb _ _
    have g2 : Hid (Y0.heap.size ≤ Y2.heap.size) := Nat.le_trans g1.out rb.size
    have RR2 : Hid (RdI Y2 ar nk (s.rows.getD k []) Fr ∧ Own Y0.heap.size Y2 Fr) := ⟨rr, ro.mono g1.out⟩
    have CS2 : Hid (CopyA w #[.int .i64 s.count, .int .i64 s.sum, .int .i64 s.min, .int .i64 s.max, .slice a1 n1 c1, .slice a2 n2 c2, .slice (some ⟨p3, o3, none⟩) n3 c3] s b1 b2 n1 n2 d1 d2 G1 G2 w5.heap.size k v vs GG Y2) := CS1.out.below rb
    refine pk (h := hK _ _ ⟨⟨CS2.out.three.box, CS2.out.three.bel⟩, ?_⟩)
    clear hK rr ro rb
    refine oq 9 (H := fun K hK => ?_)
    have bl : Below Y2.heap.size Y2 (Y2.alloc (.cells #[.slice ar nk cr] 28)) := (Below.refl _ _).alloc (Nat.le_refl _) _
    have CS3 : Hid (CopyA w #[.int .i64 s.count, .int .i64 s.sum, .int .i64 s.min, .int .i64 s.max, .slice a1 n1 c1, .slice a2 n2 c2, .slice (some ⟨p3, o3, none⟩) n3 c3] s b1 b2 n1 n2 d1 d2 G1 G2 w5.heap.size k v vs GG (Y2.alloc (.cells #[.slice ar nk cr] 28))) := CS2.out.below bl
    have RR3 : Hid (RdI (Y2.alloc (.cells #[.slice ar nk cr] 28)) ar nk (s.rows.getD k []) Fr ∧ Own Y0.heap.size (Y2.alloc (.cells #[.slice ar nk cr] 28)) Fr) := ⟨RR2.out.1.below bl, RR2.out.2.below RR2.out.1.lt bl⟩
    have NW3 : Hid (∀ j u, [Value.slice ar nk cr][j]? = some u → ((Y2.alloc (.cells #[.slice ar nk cr] 28))).cell? ((⟨Y2.heap.size, 0, none⟩ : Addr).add j) = some u) := cell_one7 _ _ _
    refine op_turn (.slice (some ⟨Y2.heap.size, 0, none⟩) 1 1) (Y2.alloc (.cells #[.slice ar nk cr] 28)) rfl (by kernel_rfl) (pk (h := hK _ _ ⟨⟨CS3.out.three.box, CS3.out.three.bel⟩, ?_⟩))
    clear hK bl
    obtain ⟨L3, hL3⟩ : ∃ z, z = Y2.heap.size := ⟨_, rfl⟩
    obtain ⟨Y3, hY3⟩ : ∃ Z, Z = (Y2.alloc (.cells #[.slice ar nk cr] 28)) := ⟨_, rfl⟩
    rw [← hY3, ← hL3] at NW3
    rw [← hY3] at CS3 RR3 ⊢
    rw [← hL3]
    clear hY3 hL3
    refine oq 10 (H := fun K hK => ?_)
    refine op_append Y3 rfl _ _ 29 rfl w5.heap.size 28 j0 (.slice none 0 0) 1 24 Tryz.underlying29 hj hy0 hy1 hy2 rfl (by decide) v k vs rfl CS3.out.row ⟨L3, 0, none⟩ 1 1 [.slice ar nk cr] rfl rfl NW3.out (by intro u hu; simp at hu; rw [hu]; rfl) (by decide) (by unfold maxLen; omega) (by omega) CS3.out.lw _ rfl ?_
    intro g4 cp4 Y4 hown hgrow hat _
    have ST := CS3.out.step RR3.out.1 RR3.out.2 HLim.out.1 HLim.out.2.1 HLim.out.2.2 hown hgrow hat HQ.out.2
    have CS4 : Hid (CopyA w #[.int .i64 s.count, .int .i64 s.sum, .int .i64 s.min, .int .i64 s.max, .slice a1 n1 c1, .slice a2 n2 c2, .slice (some ⟨p3, o3, none⟩) n3 c3] s b1 b2 n1 n2 d1 d2 G1 G2 w5.heap.size (k + 1) (.slice (some ⟨g4, 0, none⟩) (k + 1) cp4) (vs ++ [.slice ar nk cr]) (GG ++ Fr) (Y4.setCell ⟨w.heap.size + 1 + 1, 6, none⟩ (.slice (some ⟨g4, 0, none⟩) (k + 1) cp4)) ∧ CopyS w #[.int .i64 s.count, .int .i64 s.sum, .int .i64 s.min, .int .i64 s.max, .slice a1 n1 c1, .slice a2 n2 c2, .slice (some ⟨p3, o3, none⟩) n3 c3] Y4) := ⟨ST.1, ST.2.1⟩
    have co := ST.2.2.1
    have fo := ST.2.2.2
    refine pk (h := hK _ _ ⟨CS4.out.2, ?_⟩)
    clear hK hown hgrow hat ST
    refine tm 11 (.pointer (some ⟨w.heap.size + 1 + 1, 6, none⟩)) (H := ⟨CS4.out.2, ?_⟩)
    refine oq 12 (H := fun K hK => ?_)
    refine op_skip (Y4.setCell ⟨w.heap.size + 1 + 1, 6, none⟩ (.slice (some ⟨g4, 0, none⟩) (k + 1) cp4)) rfl (by go_simp) (pk (h := hK _ _ ⟨⟨CS4.out.1.three.box, CS4.out.1.three.bel⟩, ?_⟩))
    clear hK co fo
    refine wpAnyH_done (by kernel_rfl) ?_ _
    have HF : Hid (CopyA w #[.int .i64 s.count, .int .i64 s.sum, .int .i64 s.min, .int .i64 s.max, .slice a1 n1 c1, .slice a2 n2 c2, .slice (some ⟨p3, o3, none⟩) n3 c3] s b1 b2 n1 n2 d1 d2 G1 G2 w5.heap.size (k + 1) (.slice (some ⟨g4, 0, none⟩) (k + 1) cp4) (vs ++ [.slice ar nk cr]) (GG ++ Fr) (Y4.setCell ⟨w.heap.size + 1 + 1, 6, none⟩ (.slice (some ⟨g4, 0, none⟩) (k + 1) cp4))) := CS4.out.1
    obtain ⟨YZ, hYZ⟩ : ∃ Z, Z = Y4.setCell ⟨w.heap.size + 1 + 1, 6, none⟩ (.slice (some ⟨g4, 0, none⟩) (k + 1) cp4) := ⟨_, rfl⟩
    rw [← hYZ] at HF ⊢
    clear hYZ CS4
    go_wp2
    go_roundw
    case rel => exact ⟨k + 1, _, _, _, by omega, by go_num, HF.out⟩
    case measure => simp [intOf]; omega
   case s7 =>
    intro K hK
    have bl : Below Y0.heap.size Y0 (Y0.alloc (.cells #[] 3)) := (Below.refl _ _).alloc (Nat.le_refl _) _
    have CS5 : Hid (CopyA w #[.int .i64 s.count, .int .i64 s.sum, .int .i64 s.min, .int .i64 s.max, .slice a1 n1 c1, .slice a2 n2 c2, .slice (some ⟨p3, o3, none⟩) n3 c3] s b1 b2 n1 n2 d1 d2 G1 G2 w5.heap.size k v vs GG (Y0.alloc (.cells #[] 3)) ∧ Y0.heap.size ≤ Y0.heap.size) := ⟨CSd.out.below bl, (Nat.le_refl _)⟩
    refine op_turn (.slice (some ⟨Y0.heap.size, 0, none⟩) 0 0) (Y0.alloc (.cells #[] 3)) rfl (by kernel_rfl) (pk (h := hK _ _ ⟨⟨CS5.out.1.three.box, CS5.out.1.three.bel⟩, ?_⟩))
    clear hK bl
    obtain ⟨Y5, hY5⟩ : ∃ Z, Z = Y0.alloc (.cells #[] 3) := ⟨_, rfl⟩
    have g5 : Hid (Y0.heap.size ≤ Y5.heap.size) := by have := CS5.out.2; show _ ≤ _; rw [hY5]; exact Nat.le_trans this (by simp)
    rw [← hY5] at CS5 ⊢
    have CS5 : Hid (CopyA w #[.int .i64 s.count, .int .i64 s.sum, .int .i64 s.min, .int .i64 s.max, .slice a1 n1 c1, .slice a2 n2 c2, .slice (some ⟨p3, o3, none⟩) n3 c3] s b1 b2 n1 n2 d1 d2 G1 G2 w5.heap.size k v vs GG Y5) := CS5.out.1
    clear hY5
    refine twoH (o := ?o14) (o' := ?p14) 1 8 (by kernel_rfl) ?h14 ?g14 ?r14 ?s14
    case h14 => simp only [aT, aS, aZ]; rfl
    case g14 => simp only [aT, aS, aZ]; rfl
    case r14 =>
     intro K hK
     have co := CS5.out.three.loc.cell 6
     simp only [aT, aS, aZ] at co
     refine op_value v rfl (by go_simp) (pk (h := hK _ _ ⟨⟨CS5.out.three.box, CS5.out.three.bel⟩, ?_⟩))
     clear hK co
     refine oq 8 (H := fun K hK => ?_)
     refine op_growsI _ _ 28 rfl rfl 3 i0 Tryz.underlying28 hi hz0 hz1 hz2 (some _) rfl ak nk ck (s.rows.getD k []) Yk rfl (HQ.out.1.below CS5.out.three.bel) hnk ?_
     intro ar cr Fr Y6 rr ro rb _ _
     have g6 : Hid (Y0.heap.size ≤ Y6.heap.size) := Nat.le_trans g5.out rb.size
     have RR6 : Hid (RdI Y6 ar nk (s.rows.getD k []) Fr ∧ Own Y0.heap.size Y6 Fr) := ⟨rr, ro.mono g5.out⟩
     have CS6 : Hid (CopyA w #[.int .i64 s.count, .int .i64 s.sum, .int .i64 s.min, .int .i64 s.max, .slice a1 n1 c1, .slice a2 n2 c2, .slice (some ⟨p3, o3, none⟩) n3 c3] s b1 b2 n1 n2 d1 d2 G1 G2 w5.heap.size k v vs GG Y6) := CS5.out.below rb
     refine pk (h := hK _ _ ⟨⟨CS6.out.three.box, CS6.out.three.bel⟩, ?_⟩)
     clear hK rr ro rb
     refine oq 9 (H := fun K hK => ?_)
     have bl : Below Y6.heap.size Y6 (Y6.alloc (.cells #[.slice ar nk cr] 28)) := (Below.refl _ _).alloc (Nat.le_refl _) _
     have CS7 : Hid (CopyA w #[.int .i64 s.count, .int .i64 s.sum, .int .i64 s.min, .int .i64 s.max, .slice a1 n1 c1, .slice a2 n2 c2, .slice (some ⟨p3, o3, none⟩) n3 c3] s b1 b2 n1 n2 d1 d2 G1 G2 w5.heap.size k v vs GG (Y6.alloc (.cells #[.slice ar nk cr] 28))) := CS6.out.below bl
     have RR7 : Hid (RdI (Y6.alloc (.cells #[.slice ar nk cr] 28)) ar nk (s.rows.getD k []) Fr ∧ Own Y0.heap.size (Y6.alloc (.cells #[.slice ar nk cr] 28)) Fr) := ⟨RR6.out.1.below bl, RR6.out.2.below RR6.out.1.lt bl⟩
     have NW7 : Hid (∀ j u, [Value.slice ar nk cr][j]? = some u → ((Y6.alloc (.cells #[.slice ar nk cr] 28))).cell? ((⟨Y6.heap.size, 0, none⟩ : Addr).add j) = some u) := cell_one7 _ _ _
     refine op_turn (.slice (some ⟨Y6.heap.size, 0, none⟩) 1 1) (Y6.alloc (.cells #[.slice ar nk cr] 28)) rfl (by kernel_rfl) (pk (h := hK _ _ ⟨⟨CS7.out.three.box, CS7.out.three.bel⟩, ?_⟩))
     clear hK bl
     obtain ⟨L7, hL7⟩ : ∃ z, z = Y6.heap.size := ⟨_, rfl⟩
     obtain ⟨Y7, hY7⟩ : ∃ Z, Z = (Y6.alloc (.cells #[.slice ar nk cr] 28)) := ⟨_, rfl⟩
     rw [← hY7, ← hL7] at NW7
     rw [← hY7] at CS7 RR7 ⊢
     rw [← hL7]
     clear hY7 hL7
     refine oq 10 (H := fun K hK => ?_)
     refine op_append Y7 rfl _ _ 29 rfl w5.heap.size 28 j0 (.slice none 0 0) 1 24 Tryz.underlying29 hj hy0 hy1 hy2 rfl (by decide) v k vs rfl CS7.out.row ⟨L7, 0, none⟩ 1 1 [.slice ar nk cr] rfl rfl NW7.out (by intro u hu; simp at hu; rw [hu]; rfl) (by decide) (by unfold maxLen; omega) (by omega) CS7.out.lw _ rfl ?_
     intro g4 cp4 Y8 hown hgrow hat _
     have ST := CS7.out.step RR7.out.1 RR7.out.2 HLim.out.1 HLim.out.2.1 HLim.out.2.2 hown hgrow hat HQ.out.2
     have CS8 : Hid (CopyA w #[.int .i64 s.count, .int .i64 s.sum, .int .i64 s.min, .int .i64 s.max, .slice a1 n1 c1, .slice a2 n2 c2, .slice (some ⟨p3, o3, none⟩) n3 c3] s b1 b2 n1 n2 d1 d2 G1 G2 w5.heap.size (k + 1) (.slice (some ⟨g4, 0, none⟩) (k + 1) cp4) (vs ++ [.slice ar nk cr]) (GG ++ Fr) (Y8.setCell ⟨w.heap.size + 1 + 1, 6, none⟩ (.slice (some ⟨g4, 0, none⟩) (k + 1) cp4)) ∧ CopyS w #[.int .i64 s.count, .int .i64 s.sum, .int .i64 s.min, .int .i64 s.max, .slice a1 n1 c1, .slice a2 n2 c2, .slice (some ⟨p3, o3, none⟩) n3 c3] Y8) := ⟨ST.1, ST.2.1⟩
     have co := ST.2.2.1
     have fo := ST.2.2.2
     refine pk (h := hK _ _ ⟨CS8.out.2, ?_⟩)
     clear hK hown hgrow hat ST
     refine tm 11 (.pointer (some ⟨w.heap.size + 1 + 1, 6, none⟩)) (H := ⟨CS8.out.2, ?_⟩)
     refine oq 12 (H := fun K hK => ?_)
     refine op_skip (Y8.setCell ⟨w.heap.size + 1 + 1, 6, none⟩ (.slice (some ⟨g4, 0, none⟩) (k + 1) cp4)) rfl (by go_simp) (pk (h := hK _ _ ⟨⟨CS8.out.1.three.box, CS8.out.1.three.bel⟩, ?_⟩))
     clear hK co fo
     refine wpAnyH_done (by kernel_rfl) ?_ _
     have HF : Hid (CopyA w #[.int .i64 s.count, .int .i64 s.sum, .int .i64 s.min, .int .i64 s.max, .slice a1 n1 c1, .slice a2 n2 c2, .slice (some ⟨p3, o3, none⟩) n3 c3] s b1 b2 n1 n2 d1 d2 G1 G2 w5.heap.size (k + 1) (.slice (some ⟨g4, 0, none⟩) (k + 1) cp4) (vs ++ [.slice ar nk cr]) (GG ++ Fr) (Y8.setCell ⟨w.heap.size + 1 + 1, 6, none⟩ (.slice (some ⟨g4, 0, none⟩) (k + 1) cp4))) := CS8.out.1
     obtain ⟨YZ, hYZ⟩ : ∃ Z, Z = Y8.setCell ⟨w.heap.size + 1 + 1, 6, none⟩ (.slice (some ⟨g4, 0, none⟩) (k + 1) cp4) := ⟨_, rfl⟩
     rw [← hYZ] at HF ⊢
     clear hYZ CS8
     go_wp2
     go_roundw
     case rel => exact ⟨k + 1, _, _, _, by omega, by go_num, HF.out⟩
     case measure => simp [intOf]; omega
    case s14 =>
     intro K hK
     refine op_growsI _ _ 28 rfl rfl 3 i0 Tryz.underlying28 hi hz0 hz1 hz2 (some _) rfl ak nk ck (s.rows.getD k []) Yk rfl (HQ.out.1.below CS5.out.three.bel) hnk ?_
     intro ar cr Fr Y9 rr ro rb _ _
     have g9 : Hid (Y0.heap.size ≤ Y9.heap.size) := Nat.le_trans g5.out rb.size
     have RR9 : Hid (RdI Y9 ar nk (s.rows.getD k []) Fr ∧ Own Y0.heap.size Y9 Fr) := ⟨rr, ro.mono g5.out⟩
     have CS9 : Hid (CopyA w #[.int .i64 s.count, .int .i64 s.sum, .int .i64 s.min, .int .i64 s.max, .slice a1 n1 c1, .slice a2 n2 c2, .slice (some ⟨p3, o3, none⟩) n3 c3] s b1 b2 n1 n2 d1 d2 G1 G2 w5.heap.size k v vs GG Y9) := CS5.out.below rb
     refine pk (h := hK _ _ ⟨⟨CS9.out.three.box, CS9.out.three.bel⟩, ?_⟩)
     clear hK rr ro rb
     refine twoH (o := ?o20) (o' := ?p20) 1 9 (by kernel_rfl) ?h20 ?g20 ?r20 ?s20
     case h20 => simp only [aT, aS, aZ]; rfl
     case g20 => simp only [aT, aS, aZ]; rfl
     case r20 =>
      intro K hK
      have co := CS9.out.three.loc.cell 6
      simp only [aT, aS, aZ] at co
      refine op_value v rfl (by go_simp) (pk (h := hK _ _ ⟨⟨CS9.out.three.box, CS9.out.three.bel⟩, ?_⟩))
      clear hK co
      refine oq 9 (H := fun K hK => ?_)
      have bl : Below Y9.heap.size Y9 (Y9.alloc (.cells #[.slice ar nk cr] 28)) := (Below.refl _ _).alloc (Nat.le_refl _) _
      have CS10 : Hid (CopyA w #[.int .i64 s.count, .int .i64 s.sum, .int .i64 s.min, .int .i64 s.max, .slice a1 n1 c1, .slice a2 n2 c2, .slice (some ⟨p3, o3, none⟩) n3 c3] s b1 b2 n1 n2 d1 d2 G1 G2 w5.heap.size k v vs GG (Y9.alloc (.cells #[.slice ar nk cr] 28))) := CS9.out.below bl
      have RR10 : Hid (RdI (Y9.alloc (.cells #[.slice ar nk cr] 28)) ar nk (s.rows.getD k []) Fr ∧ Own Y0.heap.size (Y9.alloc (.cells #[.slice ar nk cr] 28)) Fr) := ⟨RR9.out.1.below bl, RR9.out.2.below RR9.out.1.lt bl⟩
      have NW10 : Hid (∀ j u, [Value.slice ar nk cr][j]? = some u → ((Y9.alloc (.cells #[.slice ar nk cr] 28))).cell? ((⟨Y9.heap.size, 0, none⟩ : Addr).add j) = some u) := cell_one7 _ _ _
      refine op_turn (.slice (some ⟨Y9.heap.size, 0, none⟩) 1 1) (Y9.alloc (.cells #[.slice ar nk cr] 28)) rfl (by kernel_rfl) (pk (h := hK _ _ ⟨⟨CS10.out.three.box, CS10.out.three.bel⟩, ?_⟩))
      clear hK bl
      obtain ⟨L10, hL10⟩ : ∃ z, z = Y9.heap.size := ⟨_, rfl⟩
      obtain ⟨Y10, hY10⟩ : ∃ Z, Z = (Y9.alloc (.cells #[.slice ar nk cr] 28)) := ⟨_, rfl⟩
      rw [← hY10, ← hL10] at NW10
      rw [← hY10] at CS10 RR10 ⊢
      rw [← hL10]
      clear hY10 hL10
      refine oq 10 (H := fun K hK => ?_)
      refine op_append Y10 rfl _ _ 29 rfl w5.heap.size 28 j0 (.slice none 0 0) 1 24 Tryz.underlying29 hj hy0 hy1 hy2 rfl (by decide) v k vs rfl CS10.out.row ⟨L10, 0, none⟩ 1 1 [.slice ar nk cr] rfl rfl NW10.out (by intro u hu; simp at hu; rw [hu]; rfl) (by decide) (by unfold maxLen; omega) (by omega) CS10.out.lw _ rfl ?_
      intro g4 cp4 Y11 hown hgrow hat _
      have ST := CS10.out.step RR10.out.1 RR10.out.2 HLim.out.1 HLim.out.2.1 HLim.out.2.2 hown hgrow hat HQ.out.2
      have CS11 : Hid (CopyA w #[.int .i64 s.count, .int .i64 s.sum, .int .i64 s.min, .int .i64 s.max, .slice a1 n1 c1, .slice a2 n2 c2, .slice (some ⟨p3, o3, none⟩) n3 c3] s b1 b2 n1 n2 d1 d2 G1 G2 w5.heap.size (k + 1) (.slice (some ⟨g4, 0, none⟩) (k + 1) cp4) (vs ++ [.slice ar nk cr]) (GG ++ Fr) (Y11.setCell ⟨w.heap.size + 1 + 1, 6, none⟩ (.slice (some ⟨g4, 0, none⟩) (k + 1) cp4)) ∧ CopyS w #[.int .i64 s.count, .int .i64 s.sum, .int .i64 s.min, .int .i64 s.max, .slice a1 n1 c1, .slice a2 n2 c2, .slice (some ⟨p3, o3, none⟩) n3 c3] Y11) := ⟨ST.1, ST.2.1⟩
      have co := ST.2.2.1
      have fo := ST.2.2.2
      refine pk (h := hK _ _ ⟨CS11.out.2, ?_⟩)
      clear hK hown hgrow hat ST
      refine tm 11 (.pointer (some ⟨w.heap.size + 1 + 1, 6, none⟩)) (H := ⟨CS11.out.2, ?_⟩)
      refine oq 12 (H := fun K hK => ?_)
      refine op_skip (Y11.setCell ⟨w.heap.size + 1 + 1, 6, none⟩ (.slice (some ⟨g4, 0, none⟩) (k + 1) cp4)) rfl (by go_simp) (pk (h := hK _ _ ⟨⟨CS11.out.1.three.box, CS11.out.1.three.bel⟩, ?_⟩))
      clear hK co fo
      refine wpAnyH_done (by kernel_rfl) ?_ _
      have HF : Hid (CopyA w #[.int .i64 s.count, .int .i64 s.sum, .int .i64 s.min, .int .i64 s.max, .slice a1 n1 c1, .slice a2 n2 c2, .slice (some ⟨p3, o3, none⟩) n3 c3] s b1 b2 n1 n2 d1 d2 G1 G2 w5.heap.size (k + 1) (.slice (some ⟨g4, 0, none⟩) (k + 1) cp4) (vs ++ [.slice ar nk cr]) (GG ++ Fr) (Y11.setCell ⟨w.heap.size + 1 + 1, 6, none⟩ (.slice (some ⟨g4, 0, none⟩) (k + 1) cp4))) := CS11.out.1
      obtain ⟨YZ, hYZ⟩ : ∃ Z, Z = Y11.setCell ⟨w.heap.size + 1 + 1, 6, none⟩ (.slice (some ⟨g4, 0, none⟩) (k + 1) cp4) := ⟨_, rfl⟩
      rw [← hYZ] at HF ⊢
      clear hYZ CS11
      go_wp2
      go_roundw
      case rel => exact ⟨k + 1, _, _, _, by omega, by go_num, HF.out⟩
      case measure => simp [intOf]; omega
     case s20 =>
      intro K hK
      have bl : Below Y9.heap.size Y9 (Y9.alloc (.cells #[.slice ar nk cr] 28)) := (Below.refl _ _).alloc (Nat.le_refl _) _
      have CS12 : Hid (CopyA w #[.int .i64 s.count, .int .i64 s.sum, .int .i64 s.min, .int .i64 s.max, .slice a1 n1 c1, .slice a2 n2 c2, .slice (some ⟨p3, o3, none⟩) n3 c3] s b1 b2 n1 n2 d1 d2 G1 G2 w5.heap.size k v vs GG (Y9.alloc (.cells #[.slice ar nk cr] 28))) := CS9.out.below bl
      have RR12 : Hid (RdI (Y9.alloc (.cells #[.slice ar nk cr] 28)) ar nk (s.rows.getD k []) Fr ∧ Own Y0.heap.size (Y9.alloc (.cells #[.slice ar nk cr] 28)) Fr) := ⟨RR9.out.1.below bl, RR9.out.2.below RR9.out.1.lt bl⟩
      have NW12 : Hid (∀ j u, [Value.slice ar nk cr][j]? = some u → ((Y9.alloc (.cells #[.slice ar nk cr] 28))).cell? ((⟨Y9.heap.size, 0, none⟩ : Addr).add j) = some u) := cell_one7 _ _ _
      refine op_turn (.slice (some ⟨Y9.heap.size, 0, none⟩) 1 1) (Y9.alloc (.cells #[.slice ar nk cr] 28)) rfl (by kernel_rfl) (pk (h := hK _ _ ⟨⟨CS12.out.three.box, CS12.out.three.bel⟩, ?_⟩))
      clear hK bl
      obtain ⟨L12, hL12⟩ : ∃ z, z = Y9.heap.size := ⟨_, rfl⟩
      obtain ⟨Y12, hY12⟩ : ∃ Z, Z = (Y9.alloc (.cells #[.slice ar nk cr] 28)) := ⟨_, rfl⟩
      rw [← hY12, ← hL12] at NW12
      rw [← hY12] at CS12 RR12 ⊢
      rw [← hL12]
      clear hY12 hL12
      refine oq 1 (H := fun K hK => ?_)
      have co := CS12.out.three.loc.cell 6
      simp only [aT, aS, aZ] at co
      refine op_value v rfl (by go_simp) (pk (h := hK _ _ ⟨⟨CS12.out.three.box, CS12.out.three.bel⟩, ?_⟩))
      clear hK co
      refine oq 10 (H := fun K hK => ?_)
      refine op_append Y12 rfl _ _ 29 rfl w5.heap.size 28 j0 (.slice none 0 0) 1 24 Tryz.underlying29 hj hy0 hy1 hy2 rfl (by decide) v k vs rfl CS12.out.row ⟨L12, 0, none⟩ 1 1 [.slice ar nk cr] rfl rfl NW12.out (by intro u hu; simp at hu; rw [hu]; rfl) (by decide) (by unfold maxLen; omega) (by omega) CS12.out.lw _ rfl ?_
      intro g4 cp4 Y13 hown hgrow hat _
      have ST := CS12.out.step RR12.out.1 RR12.out.2 HLim.out.1 HLim.out.2.1 HLim.out.2.2 hown hgrow hat HQ.out.2
      have CS13 : Hid (CopyA w #[.int .i64 s.count, .int .i64 s.sum, .int .i64 s.min, .int .i64 s.max, .slice a1 n1 c1, .slice a2 n2 c2, .slice (some ⟨p3, o3, none⟩) n3 c3] s b1 b2 n1 n2 d1 d2 G1 G2 w5.heap.size (k + 1) (.slice (some ⟨g4, 0, none⟩) (k + 1) cp4) (vs ++ [.slice ar nk cr]) (GG ++ Fr) (Y13.setCell ⟨w.heap.size + 1 + 1, 6, none⟩ (.slice (some ⟨g4, 0, none⟩) (k + 1) cp4)) ∧ CopyS w #[.int .i64 s.count, .int .i64 s.sum, .int .i64 s.min, .int .i64 s.max, .slice a1 n1 c1, .slice a2 n2 c2, .slice (some ⟨p3, o3, none⟩) n3 c3] Y13) := ⟨ST.1, ST.2.1⟩
      have co := ST.2.2.1
      have fo := ST.2.2.2
      refine pk (h := hK _ _ ⟨CS13.out.2, ?_⟩)
      clear hK hown hgrow hat ST
      refine tm 11 (.pointer (some ⟨w.heap.size + 1 + 1, 6, none⟩)) (H := ⟨CS13.out.2, ?_⟩)
      refine oq 12 (H := fun K hK => ?_)
      refine op_skip (Y13.setCell ⟨w.heap.size + 1 + 1, 6, none⟩ (.slice (some ⟨g4, 0, none⟩) (k + 1) cp4)) rfl (by go_simp) (pk (h := hK _ _ ⟨⟨CS13.out.1.three.box, CS13.out.1.three.bel⟩, ?_⟩))
      clear hK co fo
      refine wpAnyH_done (by kernel_rfl) ?_ _
      have HF : Hid (CopyA w #[.int .i64 s.count, .int .i64 s.sum, .int .i64 s.min, .int .i64 s.max, .slice a1 n1 c1, .slice a2 n2 c2, .slice (some ⟨p3, o3, none⟩) n3 c3] s b1 b2 n1 n2 d1 d2 G1 G2 w5.heap.size (k + 1) (.slice (some ⟨g4, 0, none⟩) (k + 1) cp4) (vs ++ [.slice ar nk cr]) (GG ++ Fr) (Y13.setCell ⟨w.heap.size + 1 + 1, 6, none⟩ (.slice (some ⟨g4, 0, none⟩) (k + 1) cp4))) := CS13.out.1
      obtain ⟨YZ, hYZ⟩ : ∃ Z, Z = Y13.setCell ⟨w.heap.size + 1 + 1, 6, none⟩ (.slice (some ⟨g4, 0, none⟩) (k + 1) cp4) := ⟨_, rfl⟩
      rw [← hYZ] at HF ⊢
      clear hYZ CS13
      go_wp2
      go_roundw
      case rel => exact ⟨k + 1, _, _, _, by omega, by go_num, HF.out⟩
      case measure => simp [intOf]; omega
  ·
   obtain rfl : k = n3 := by omega
   obtain ⟨b3, d3, F4, rfl, rII, oA, kc⟩ := CSS.out.rows
   have HRM : Hid (k ≤ d3 ∧ (0 < n1 → RoomS wr b1 n1 d1 G1)) := ⟨kc, CSS.out.rm⟩
   have HE : Hid (Three w #[.int .i64 s.count, .int .i64 s.sum, .int .i64 s.min, .int .i64 s.max, .slice a1 n1 c1, .slice a2 n2 c2, .slice a3 k c3] 31 #[.int .i64 0, .int .i64 0, .int .i64 0, .int .i64 0, .slice none 0 0, .slice none 0 0, .slice none 0 0] #[.int .i64 s.count, .int .i64 s.sum, .int .i64 s.min, .int .i64 s.max, .slice b1 n1 d1, .slice b2 n2 d2, .slice b3 k d3] 31 wr ∧ RdSk wr (.agg #[.int .i64 s.count, .int .i64 s.sum, .int .i64 s.min, .int .i64 s.max, .slice b1 n1 d1, .slice b2 n2 d2, .slice b3 k d3]) s (G1 ++ (G2 ++ F4)) ∧ Own (w.heap.size + 3) wr (G1 ++ (G2 ++ F4))) := by
    rw [List.take_of_length_le (by rw [HL.out.2.2]; exact Nat.le_refl _)] at rII
    exact ⟨CSS.out.three, ⟨b1, n1, d1, b2, n2, d2, b3, k, d3, G1, G2, F4, rfl, CSS.out.r1, CSS.out.r2, rII, rfl⟩, oA⟩
   clear rII oA CSS e6 kc
   have hI : ¬ (k : Int) < (k : Int) := by omega
   have e6 := HE.out.1.box.cell 6
   simp only [aT, aS, aZ] at e6
   go_wp2_with (first | go_skip | (with_reducible refine stopLoad 31 rfl ?_))
   refine load_known 31 (w.heap.size + 1 + 1) _ 31 _ HE.out.1.loc rfl rfl rfl Tryz.underlying31 rfl infoSkI ?_
   go_wp2_with (first | go_skip | (with_reducible refine stopStore 31 rfl ?_))
   refine store_known 31 (w.heap.size + 1) _ #[.int .i64 s.count, .int .i64 s.sum, .int .i64 s.min, .int .i64 s.max, .slice b1 n1 d1, .slice b2 n2 d2, .slice b3 k d3] 31 HE.out.1.res rfl rfl rfl rfl infoSkI rfl (by simp [Value.oneCell']) ?_
   go_wp2
   refine bodyPost_ret (results_cell_row Tryz.results76 _ _ (w.heap.size + 1) _ _ (0, 0) _ rfl HE.out.1.res.setRow Tryz.underlying31 rfl infoSkI) rfl ?_
   have nr : w.heap.size + 1 ∉ G1 ++ (G2 ++ F4) := fun hx => by have := HE.out.2.2.ge _ hx; omega
   exact ⟨_, _, rfl, HE.out.2.1.agree (Agree.row nr _), (HE.out.2.2.agree (Agree.row nr _)).mono (by omega), below_setRow HE.out.1.bel (by omega) _, fun q => ⟨_, _, _, _, _, _, _, G1, _, _, _, _, rfl, (HRM.out.2 (by rw [← HL.out.1]; exact q)).agree (Agree.row (fun hx => nr (List.mem_append_left _ hx)) _), HRM.out.1⟩⟩
theorem l3Copy_all (v : Value) (s : Sk) (F : List Nat) (w : World) (h : RdSk w v s F) (hf : s.fits) :
 Calls Tryz.prog 76 #[v] w fun e w' => NewSk w s e w' := (l3Copy_allR v s F w h hf).mono fun _ _ ⟨v, F, e, h1, h2, h3, _⟩ => ⟨v, F, e, h1, h2, h3⟩
theorem Sk.full.copied {s : Sk} (h : s.full) : s.fits := ⟨by have := h.hist; omega, by have := h.regs; omega, by have := h.rows; omega, fun z hz => by have := h.row z hz; omega⟩
theorem l3Copy_roomA (v : Value) (s : Sk) (F : List Nat) (w : World) (h : RdSk w v s F) (hf : s.full) :
 Calls Tryz.prog 76 #[v] w fun e w' => NewRoom w s e w' := (l3Copy_allR v s F w h hf.copied).mono fun _ _ ⟨v, F, e, h1, h2, h3, h4⟩ => ⟨v, F, e, h1, h2, h3, h4 hf.hist.1⟩
end
section
set_option maxRecDepth 200000
set_option maxHeartbeats 16000000
open Go.RowKit
def It.entryOk (a : Int) (x : It) : Bool := x.ok && decide (0 ≤ idOf a x.seq)
def It.entry (a : Int) (x : It) : En := if x.entryOk a = true then ⟨x.key, x.window, [(idOf a x.seq, idOf a x.seq)], x.sk⟩ else En.zero
theorem It.entry_not {a : Int} {x : It} (h : x.entryOk a = false) : x.entry a = En.zero := by unfold It.entry; rw [h]; rfl
theorem It.entry_yes {a : Int} {x : It} (h : x.entryOk a = true) : x.entry a = ⟨x.key, x.window, [(idOf a x.seq, idOf a x.seq)], x.sk⟩ := by unfold It.entry; rw [if_pos h]
theorem It.ok_sk {x : It} (h : x.ok = true) : x.sk.ok = true := by
 unfold It.ok at h
 simp only [Bool.and_eq_true] at h
 exact h.2
theorem ok_full {s : Sk} (h : s.ok = true) : s.full := by
 unfold Sk.ok at h
 simp only [Bool.and_eq_true] at h
 obtain ⟨⟨h1, _⟩, h3⟩ := h
 unfold okHead at h1
 unfold okLists at h3
 simp only [Bool.and_eq_true, decide_eq_true_eq] at h1 h3
 have e0 := okL_len h3.1.1.1
 have e1 := okL_len h3.1.1.2
 have e2 := okL_len h3.1.2
 have e3 := okL_len h3.2
 have er : s.rows.length = 2 := h1.2
 refine ⟨by omega, by omega, by omega, fun z hz => ?_⟩
 obtain ⟨r0, r1, hs⟩ : ∃ r0 r1, s.rows = [r0, r1] := by
  match hs : s.rows, er with
  | [r0, r1], _ => exact ⟨r0, r1, rfl⟩
 rw [hs] at hz e2 e3
 simp at hz e2 e3
 rcases hz with rfl | rfl <;> omega
theorem rdP_single {W : World} {g : Nat} {n : Int} {t : TypeId} (h : Blk W g #[.int .i64 n, .int .i64 n] t) : RdP W (some ⟨g, 0, none⟩) 1 [(n, n)] [g] :=
 ⟨rfl, rdI_tcv (xs := flat [(n, n)]) (by simpa [tcv, flat] using h) (by simp [flat]) (by omega)⟩
theorem infoItA : (Tryz.prog.info? 91).map (·.size) = some 11 := by kernel_rfl
theorem entryOfSpec_z (ag : Int) (v : Value) (x : It) (F : List Nat) (w : World) (h : RdIt w v x F) (hw : x.sk.wide) :
 Calls Tryz.prog 58 #[.int .i64 ag, v] w fun e w' => NewEn2 w (x.entry ag) (x.entryOk ag) e w' ∧ (x.entryOk ag = false → e = .returned (.tuple #[.agg #[.int .i64 0, .int .i64 0, .slice none 0 0, .int .i64 0, .int .i64 0, .int .i64 0, .int .i64 0, .slice none 0 0, .slice none 0 0, .slice none 0 0], .bool false])) := by
 have HX : Hid (RdIt w v x F ∧ x.sk.wide) := ⟨h, hw⟩
 obtain ⟨a1, n1, c1, a2, n2, c2, a3, n3, c3, rfl, hr⟩ := h
 have HR : Hid (RdSk w (.agg #[.int .i64 x.sk.count, .int .i64 x.sk.sum, .int .i64 x.sk.min, .int .i64 x.sk.max, .slice a1 n1 c1, .slice a2 n2 c2, .slice a3 n3 c3]) x.sk F) := hr
 have HT : Hid (Blk ((w.alloc (.cells #[.int .i64 x.seq, .int .i64 x.cls, .int .i64 x.key, .int .i64 x.window, .int .i64 x.sk.count, .int .i64 x.sk.sum, .int .i64 x.sk.min, .int .i64 x.sk.max, .slice a1 n1 c1, .slice a2 n2 c2, .slice a3 n3 c3] 91)).alloc (.cells #[.int .i64 0, .int .i64 0, .slice none 0 0, .int .i64 0, .int .i64 0, .int .i64 0, .int .i64 0, .slice none 0 0, .slice none 0 0, .slice none 0 0] 33)) w.heap.size #[.int .i64 x.seq, .int .i64 x.cls, .int .i64 x.key, .int .i64 x.window, .int .i64 x.sk.count, .int .i64 x.sk.sum, .int .i64 x.sk.min, .int .i64 x.sk.max, .slice a1 n1 c1, .slice a2 n2 c2, .slice a3 n3 c3] 91) := (Blk.made _ _ _).alloc _
 have HZ : Hid (Blk ((w.alloc (.cells #[.int .i64 x.seq, .int .i64 x.cls, .int .i64 x.key, .int .i64 x.window, .int .i64 x.sk.count, .int .i64 x.sk.sum, .int .i64 x.sk.min, .int .i64 x.sk.max, .slice a1 n1 c1, .slice a2 n2 c2, .slice a3 n3 c3] 91)).alloc (.cells #[.int .i64 0, .int .i64 0, .slice none 0 0, .int .i64 0, .int .i64 0, .int .i64 0, .int .i64 0, .slice none 0 0, .slice none 0 0, .slice none 0 0] 33)) (w.heap.size + 1) #[.int .i64 0, .int .i64 0, .slice none 0 0, .int .i64 0, .int .i64 0, .int .i64 0, .int .i64 0, .slice none 0 0, .slice none 0 0, .slice none 0 0] 33 ∧ Below w.heap.size w ((w.alloc (.cells #[.int .i64 x.seq, .int .i64 x.cls, .int .i64 x.key, .int .i64 x.window, .int .i64 x.sk.count, .int .i64 x.sk.sum, .int .i64 x.sk.min, .int .i64 x.sk.max, .slice a1 n1 c1, .slice a2 n2 c2, .slice a3 n3 c3] 91)).alloc (.cells #[.int .i64 0, .int .i64 0, .slice none 0 0, .int .i64 0, .int .i64 0, .int .i64 0, .int .i64 0, .slice none 0 0, .slice none 0 0, .slice none 0 0] 33))) := ⟨by have := Blk.made (w.alloc (.cells #[.int .i64 x.seq, .int .i64 x.cls, .int .i64 x.key, .int .i64 x.window, .int .i64 x.sk.count, .int .i64 x.sk.sum, .int .i64 x.sk.min, .int .i64 x.sk.max, .slice a1 n1 c1, .slice a2 n2 c2, .slice a3 n3 c3] 91)) #[.int .i64 0, .int .i64 0, .slice none 0 0, .int .i64 0, .int .i64 0, .int .i64 0, .int .i64 0, .slice none 0 0, .slice none 0 0, .slice none 0 0] 33; simpa using this, Below.allocW _ (Below.allocW _ (Below.refl _ _) (Nat.le_refl _)) (Nat.le_refl _)⟩
 clear hr hw
 go_enter Tryz.func58, Tryz.ntmps58
 go_wp2_with fail
 refine (idSpec_any _ _ _).mono ?_
 rintro e w1 ⟨rfl, hw1⟩
 have hw1' := hw1.symm
 subst hw1'
 clear hw1
 obtain ⟨id, hid⟩ : ∃ i, i = idOf ag x.seq := ⟨_, rfl⟩
 rw [← hid]
 have HID : Hid (id = idOf ag x.seq) := hid
 clear hid
 go_wp2_with (first | go_skip | (with_reducible refine stopLoad 91 rfl ?_))
 refine load_known 91 w.heap.size _ 91 _ HT.out rfl rfl rfl Tryz.underlying91 rfl infoItA ?_
 go_wp2_with fail
 refine (itemOkSpec_any _ x F _ (HX.out.1.below HZ.out.2) HX.out.2).mono ?_
 rintro e w2 ⟨rfl, hb⟩
 have HT2 : Hid (Blk w2 w.heap.size #[.int .i64 x.seq, .int .i64 x.cls, .int .i64 x.key, .int .i64 x.window, .int .i64 x.sk.count, .int .i64 x.sk.sum, .int .i64 x.sk.min, .int .i64 x.sk.max, .slice a1 n1 c1, .slice a2 n2 c2, .slice a3 n3 c3] 91) := HT.out.below hb
 have HZ2 : Hid (Blk w2 (w.heap.size + 1) #[.int .i64 0, .int .i64 0, .slice none 0 0, .int .i64 0, .int .i64 0, .int .i64 0, .int .i64 0, .slice none 0 0, .slice none 0 0, .slice none 0 0] 33 ∧ Below w.heap.size w w2) := ⟨HZ.out.1.below hb, Below.next HZ.out.2 hb⟩
 obtain ⟨d, hd⟩ : ∃ d, d = x.ok := ⟨_, rfl⟩
 rw [← hd]
 have HD : Hid (d = x.ok) := hd
 clear hd hb HT HZ
 cases d
 ·
  have HV : Hid (x.entryOk ag = false) := by show _ = _; unfold It.entryOk; rw [← HD.out]; rfl
  go_wp2_with (first | go_skip | (with_reducible refine stopStore 33 rfl ?_))
  refine store_known 33 (w.heap.size + 1) #[.int .i64 0, .int .i64 0, .slice none 0 0, .int .i64 0, .int .i64 0, .int .i64 0, .int .i64 0, .slice none 0 0, .slice none 0 0, .slice none 0 0] #[.int .i64 0, .int .i64 0, .slice none 0 0, .int .i64 0, .int .i64 0, .int .i64 0, .int .i64 0, .slice none 0 0, .slice none 0 0, .slice none 0 0] 33 HZ2.out.1 rfl rfl rfl rfl infoEnA rfl (by simp [Value.oneCell']) ?_
  have HE : Hid (Blk _ (w.heap.size + 1) #[.int .i64 0, .int .i64 0, .slice none 0 0, .int .i64 0, .int .i64 0, .int .i64 0, .int .i64 0, .slice none 0 0, .slice none 0 0, .slice none 0 0] 33 ∧ Below w.heap.size w _) := ⟨HZ2.out.1.setRow (ds := #[.int .i64 0, .int .i64 0, .slice none 0 0, .int .i64 0, .int .i64 0, .int .i64 0, .int .i64 0, .slice none 0 0, .slice none 0 0, .slice none 0 0]), below_setRow (g := w.heap.size + 1) HZ2.out.2 (by omega) #[.int .i64 0, .int .i64 0, .slice none 0 0, .int .i64 0, .int .i64 0, .int .i64 0, .int .i64 0, .slice none 0 0, .slice none 0 0, .slice none 0 0]⟩
  go_wp2
  refine bodyPost_ret (results_row_tmp Tryz.results58 _ _ (w.heap.size + 1) _ _ (0, 0) _ rfl HE.out.1 Tryz.underlying33 rfl infoEnA) rfl ?_
  rw [It.entry_not HV.out, HV.out]
  exact ⟨⟨_, [], [], rfl, rdEn_zero _, Own.nil, Own.nil, by simp, HE.out.2⟩, fun _ => rfl⟩
 by_cases hneg : id < 0
 ·
  have HV : Hid (x.entryOk ag = false) := by show _ = _; unfold It.entryOk; rw [← HID.out, decF (p := 0 ≤ id) (by omega)]; simp
  have gd : decide (id < 0) = true := decT hneg
  go_wp2_with (first | go_skip | (with_reducible refine stopStore 33 rfl ?_))
  refine store_known 33 (w.heap.size + 1) #[.int .i64 0, .int .i64 0, .slice none 0 0, .int .i64 0, .int .i64 0, .int .i64 0, .int .i64 0, .slice none 0 0, .slice none 0 0, .slice none 0 0] #[.int .i64 0, .int .i64 0, .slice none 0 0, .int .i64 0, .int .i64 0, .int .i64 0, .int .i64 0, .slice none 0 0, .slice none 0 0, .slice none 0 0] 33 HZ2.out.1 rfl rfl rfl rfl infoEnA rfl (by simp [Value.oneCell']) ?_
  have HE : Hid (Blk _ (w.heap.size + 1) #[.int .i64 0, .int .i64 0, .slice none 0 0, .int .i64 0, .int .i64 0, .int .i64 0, .int .i64 0, .slice none 0 0, .slice none 0 0, .slice none 0 0] 33 ∧ Below w.heap.size w _) := ⟨HZ2.out.1.setRow (ds := #[.int .i64 0, .int .i64 0, .slice none 0 0, .int .i64 0, .int .i64 0, .int .i64 0, .int .i64 0, .slice none 0 0, .slice none 0 0, .slice none 0 0]), below_setRow (g := w.heap.size + 1) HZ2.out.2 (by omega) #[.int .i64 0, .int .i64 0, .slice none 0 0, .int .i64 0, .int .i64 0, .int .i64 0, .int .i64 0, .slice none 0 0, .slice none 0 0, .slice none 0 0]⟩
  go_wp2
  refine bodyPost_ret (results_row_tmp Tryz.results58 _ _ (w.heap.size + 1) _ _ (0, 0) _ rfl HE.out.1 Tryz.underlying33 rfl infoEnA) rfl ?_
  rw [It.entry_not HV.out, HV.out]
  exact ⟨⟨_, [], [], rfl, rdEn_zero _, Own.nil, Own.nil, by simp, HE.out.2⟩, fun _ => rfl⟩
 have gd : decide (id < 0) = false := decF hneg
 have HV : Hid (x.entryOk ag = true) := by show _ = _; unfold It.entryOk; rw [← HD.out, ← HID.out, decT (p := 0 ≤ id) (by omega)]; rfl
 go_wp2
 have HS : Hid (Blk w2.drew w.heap.size #[.int .i64 x.seq, .int .i64 x.cls, .int .i64 x.key, .int .i64 x.window, .int .i64 x.sk.count, .int .i64 x.sk.sum, .int .i64 x.sk.min, .int .i64 x.sk.max, .slice a1 n1 c1, .slice a2 n2 c2, .slice a3 n3 c3] 91) := HT2.out.drew
 have HZ3 : Hid (Blk w2.drew (w.heap.size + 1) #[.int .i64 0, .int .i64 0, .slice none 0 0, .int .i64 0, .int .i64 0, .int .i64 0, .int .i64 0, .slice none 0 0, .slice none 0 0, .slice none 0 0] 33 ∧ Below w.heap.size w w2.drew) := ⟨HZ2.out.1.drew, HZ2.out.2.drew⟩
 clear HT2 HZ2 gd
 refine wp_region_held (S := fun W => Blk W w.heap.size #[.int .i64 x.seq, .int .i64 x.cls, .int .i64 x.key, .int .i64 x.window, .int .i64 x.sk.count, .int .i64 x.sk.sum, .int .i64 x.sk.min, .int .i64 x.sk.max, .slice a1 n1 c1, .slice a2 n2 c2, .slice a3 n3 c3] 91) (by kernel_rfl) ?_
 change wpAnyH _ _ _ _ _ _ _ _ (World.drew _)
 refine tg 0 (.pointer (some ⟨w.heap.size, 2, none⟩)) (H := ⟨HS.out, ?_⟩)
 refine tk 1 (.int .i64 x.key) (H := ⟨(.inl ⟨rfl, fun W hW => by have c := hW.cell 2; simp only [aT, aS, aZ] at c; go_simp⟩), HS.out, ?_⟩)
 refine tg 2 (.pointer (some ⟨w.heap.size, 3, none⟩)) (H := ⟨HS.out, ?_⟩)
 refine tk 3 (.int .i64 x.window) (H := ⟨(.inl ⟨rfl, fun W hW => by have c := hW.cell 3; simp only [aT, aS, aZ] at c; go_simp⟩), HS.out, ?_⟩)
 refine tg 4 (.int .i64 id) (H := ⟨HS.out, ?_⟩)
 refine tg 5 (.int .i64 id) (H := ⟨HS.out, ?_⟩)
 refine tg 6 (.agg #[.int .i64 id, .int .i64 id]) (H := ⟨HS.out, ?_⟩)
 refine tg 8 (.pointer (some ⟨w.heap.size, 4, none⟩)) (H := ⟨HS.out, ?_⟩)
 refine tk 9 (.agg #[.int .i64 x.sk.count, .int .i64 x.sk.sum, .int .i64 x.sk.min, .int .i64 x.sk.max, .slice a1 n1 c1, .slice a2 n2 c2, .slice a3 n3 c3]) (H := ⟨(yields_cut 31 w.heap.size 4 7 _ #[.int .i64 x.sk.count, .int .i64 x.sk.sum, .int .i64 x.sk.min, .int .i64 x.sk.max, .slice a1 n1 c1, .slice a2 n2 c2, .slice a3 n3 c3] 91 _ rfl rfl rfl Tryz.underlying31 rfl (by kernel_rfl) (by simp) rfl (fun W hW => hW)), HS.out, ?_⟩)
 refine twoH (o := ?o10) (o' := ?p10) 7 10 (by kernel_rfl) ?h10 ?g10 ?r10 ?s10
 case h10 => simp only [aT, aS, aZ]; rfl
 case g10 => simp only [aT, aS, aZ]; rfl
 case r10 =>
  intro K hK
  refine op_turn (.slice (some ⟨w2.heap.size, 0, none⟩) 1 1) (w2.drew.alloc (.cells #[.int .i64 id, .int .i64 id] 74)) rfl (by go_simp) (pk (h := hK _ _ ⟨HS.out.alloc _, ?_⟩))
  have HS4 : Hid (Blk (w2.drew.alloc (.cells #[.int .i64 id, .int .i64 id] 74)) w.heap.size #[.int .i64 x.seq, .int .i64 x.cls, .int .i64 x.key, .int .i64 x.window, .int .i64 x.sk.count, .int .i64 x.sk.sum, .int .i64 x.sk.min, .int .i64 x.sk.max, .slice a1 n1 c1, .slice a2 n2 c2, .slice a3 n3 c3] 91) := HS.out.alloc _
  have HZ4 : Hid (Blk (w2.drew.alloc (.cells #[.int .i64 id, .int .i64 id] 74)) (w.heap.size + 1) #[.int .i64 0, .int .i64 0, .slice none 0 0, .int .i64 0, .int .i64 0, .int .i64 0, .int .i64 0, .slice none 0 0, .slice none 0 0, .slice none 0 0] 33 ∧ Below w.heap.size w (w2.drew.alloc (.cells #[.int .i64 id, .int .i64 id] 74))) := ⟨HZ3.out.1.alloc _, Below.allocW _ HZ3.out.2 (Nat.le_refl _)⟩
  have HL : Hid (Blk (w2.drew.alloc (.cells #[.int .i64 id, .int .i64 id] 74)) w2.heap.size #[.int .i64 id, .int .i64 id] 74 ∧ w.heap.size + 1 < w2.heap.size) := ⟨Blk.made _ _ _, HZ3.out.1.lt⟩
  obtain ⟨gg, hgg⟩ : ∃ n, n = w2.heap.size := ⟨_, rfl⟩
  obtain ⟨w4, hw4⟩ : ∃ W, W = w2.drew.alloc (.cells #[.int .i64 id, .int .i64 id] 74) := ⟨_, rfl⟩
  rw [← hw4] at HS4 HZ4 HL ⊢
  rw [← hgg] at HL ⊢
  clear hK hw4 hgg HS HZ3
  refine oq 10 (H := fun K hK => ?_)
  refine op_call1 76 _ _ Tryz.f76 (fun v w' => ∃ X, RdSk w' v x.sk X ∧ Own w4.heap.size w' X ∧ Below w4.heap.size w4 w') rfl rfl Tryz.func76 (by kernel_rfl) (by kernel_rfl) ((l3Copy_all _ x.sk F w4 (HR.out.below HZ4.out.2) (ok_full (It.ok_sk HD.out.symm)).copied).mono (by rintro e w' ⟨v, X, rfl, h1, h2, h3⟩; exact ⟨_, rfl, X, h1, h2, h3⟩)) ?_
  rintro vm w5 ⟨X, rm, om, bz⟩
  obtain ⟨e1, r1, f1, e2, r2, f2, e3, r3, f3, rfl⟩ := rm.cells7
  refine pk (h := hK _ _ ⟨HS4.out.below bz, ?_⟩)
  have HS5 : Hid (Blk w5 w.heap.size #[.int .i64 x.seq, .int .i64 x.cls, .int .i64 x.key, .int .i64 x.window, .int .i64 x.sk.count, .int .i64 x.sk.sum, .int .i64 x.sk.min, .int .i64 x.sk.max, .slice a1 n1 c1, .slice a2 n2 c2, .slice a3 n3 c3] 91) := HS4.out.below bz
  have HZ5 : Hid (Blk w5 (w.heap.size + 1) #[.int .i64 0, .int .i64 0, .slice none 0 0, .int .i64 0, .int .i64 0, .int .i64 0, .int .i64 0, .slice none 0 0, .slice none 0 0, .slice none 0 0] 33 ∧ Below w.heap.size w w5) := ⟨HZ4.out.1.below bz, Below.next HZ4.out.2 bz⟩
  have hl := HL.out.1.below bz
  have HG : Hid (RdSk w5 (.agg #[.int .i64 x.sk.count, .int .i64 x.sk.sum, .int .i64 x.sk.min, .int .i64 x.sk.max, .slice e1 r1 f1, .slice e2 r2 f2, .slice e3 r3 f3]) x.sk X ∧ Own (w.heap.size + 2) w5 X ∧ RdP w5 (some ⟨gg, 0, none⟩) 1 [(id, id)] [gg] ∧ Own (w.heap.size + 2) w5 [gg] ∧ (∀ b ∈ [gg], b ∉ X) ∧ w.heap.size + 1 < gg) := ⟨rm, om.mono (by have := HZ4.out.1.lt; omega), rdP_single hl, ⟨by simp, fun b hb o => by (obtain rfl : b = gg := by simpa using hb); exact hl.frozen o, fun b hb => by (obtain rfl : b = gg := by simpa using hb); have := HL.out.2; omega⟩, fun b hb hx => by (obtain rfl : b = gg := by simpa using hb); have := om.ge _ hx; have := HL.out.1.lt; omega, HL.out.2⟩
  clear hK bz rm om hl HL HS4 HZ4
  refine tg 11 (.agg #[.int .i64 x.key, .int .i64 x.window, .slice (some ⟨gg, 0, none⟩) 1 1, .int .i64 x.sk.count, .int .i64 x.sk.sum, .int .i64 x.sk.min, .int .i64 x.sk.max, .slice e1 r1 f1, .slice e2 r2 f2, .slice e3 r3 f3]) (H := ⟨HS5.out, ?_⟩)
  refine oq 12 (H := fun K hK => ?_)
  refine op_store 33 (w.heap.size + 1) #[.int .i64 0, .int .i64 0, .slice none 0 0, .int .i64 0, .int .i64 0, .int .i64 0, .int .i64 0, .slice none 0 0, .slice none 0 0, .slice none 0 0] #[.int .i64 x.key, .int .i64 x.window, .slice (some ⟨gg, 0, none⟩) 1 1, .int .i64 x.sk.count, .int .i64 x.sk.sum, .int .i64 x.sk.min, .int .i64 x.sk.max, .slice e1 r1 f1, .slice e2 r2 f2, .slice e3 r3 f3] 33 rfl rfl rfl rfl HZ5.out.1 infoEnA rfl (by simp [Value.oneCell']) (pk (h := hK _ _ ⟨HS5.out.setRowOther (by omega), ?_⟩))
  clear hK
  refine tg 13 (.bool true) (H := ⟨(HS5.out.setRowOther (by omega)), ?_⟩)
  refine wpAnyH_done (by kernel_rfl) ?_ _
  have nf : w.heap.size + 1 ∉ [gg] := by have := HG.out.2.2.2.2.2; simp; omega
  have nx : w.heap.size + 1 ∉ X := fun hx => by have := HG.out.2.1.ge _ hx; omega
  obtain ⟨E, hE⟩ : ∃ E : Array Value, E = #[.int .i64 x.key, .int .i64 x.window, .slice (some ⟨gg, 0, none⟩) 1 1, .int .i64 x.sk.count, .int .i64 x.sk.sum, .int .i64 x.sk.min, .int .i64 x.sk.max, .slice e1 r1 f1, .slice e2 r2 f2, .slice e3 r3 f3] := ⟨_, rfl⟩
  rw [← hE]
  obtain ⟨w9, hw9⟩ : ∃ W, W = w5.setRow (w.heap.size + 1) E := ⟨_, rfl⟩
  have HF : Hid (Blk w9 (w.heap.size + 1) E 33 ∧ RdP w9 (some ⟨gg, 0, none⟩) 1 [(id, id)] [gg] ∧ RdSk w9 (.agg #[.int .i64 x.sk.count, .int .i64 x.sk.sum, .int .i64 x.sk.min, .int .i64 x.sk.max, .slice e1 r1 f1, .slice e2 r2 f2, .slice e3 r3 f3]) x.sk X ∧ Own w.heap.size w9 [gg] ∧ Own w.heap.size w9 X ∧ (∀ b ∈ [gg], b ∉ X) ∧ Below w.heap.size w w9) := by
   rw [hw9]
   exact ⟨HZ5.out.1.setRow, HG.out.2.2.1.agree (Agree.row nf E), HG.out.1.agree (Agree.row nx E), (HG.out.2.2.2.1.agree (Agree.row nf E)).mono (by omega), (HG.out.2.1.agree (Agree.row nx E)).mono (by omega), HG.out.2.2.2.2.1, below_setRow HZ5.out.2 (by omega) _⟩
  have HE : Hid (E = #[.int .i64 x.key, .int .i64 x.window, .slice (some ⟨gg, 0, none⟩) 1 1, .int .i64 x.sk.count, .int .i64 x.sk.sum, .int .i64 x.sk.min, .int .i64 x.sk.max, .slice e1 r1 f1, .slice e2 r2 f2, .slice e3 r3 f3] ∧ E.size = 10) := ⟨hE, by rw [hE]; rfl⟩
  rw [← hw9]
  clear hE hw9 HG nf nx
  go_wp2
  refine bodyPost_ret (results_row_tmp Tryz.results58 _ _ (w.heap.size + 1) _ _ (0, 0) _ rfl HF.out.1 Tryz.underlying33 rfl (by rw [HE.out.2]; exact infoEnA)) rfl ?_
  rw [It.entry_yes HV.out, HV.out, ← HID.out]
  exact ⟨⟨_, [gg], X, rfl, ⟨some ⟨gg, 0, none⟩, 1, 1, e1, r1, f1, e2, r2, f2, e3, r3, f3, by rw [HE.out.1], HF.out.2.1, HF.out.2.2.1, fun e => (by cases e), Nat.le_refl _⟩, HF.out.2.2.2.1, HF.out.2.2.2.2.1, HF.out.2.2.2.2.2.1, HF.out.2.2.2.2.2.2⟩, fun e => by cases e⟩
 case s10 =>
  intro K hK
  refine op_call1 76 _ _ Tryz.f76 (fun v w' => ∃ X, RdSk w' v x.sk X ∧ Own w2.drew.heap.size w' X ∧ Below w2.drew.heap.size w2.drew w') rfl rfl Tryz.func76 (by kernel_rfl) (by kernel_rfl) ((l3Copy_all _ x.sk F w2.drew (HR.out.below HZ3.out.2) (ok_full (It.ok_sk HD.out.symm)).copied).mono (by rintro e w' ⟨v, X, rfl, h1, h2, h3⟩; exact ⟨_, rfl, X, h1, h2, h3⟩)) ?_
  rintro vm w4 ⟨X, rm, om, bz⟩
  obtain ⟨e1, r1, f1, e2, r2, f2, e3, r3, f3, rfl⟩ := rm.cells7
  refine pk (h := hK _ _ ⟨HS.out.below bz, ?_⟩)
  have HS4 : Hid (Blk w4 w.heap.size #[.int .i64 x.seq, .int .i64 x.cls, .int .i64 x.key, .int .i64 x.window, .int .i64 x.sk.count, .int .i64 x.sk.sum, .int .i64 x.sk.min, .int .i64 x.sk.max, .slice a1 n1 c1, .slice a2 n2 c2, .slice a3 n3 c3] 91) := HS.out.below bz
  have HZ4 : Hid (Blk w4 (w.heap.size + 1) #[.int .i64 0, .int .i64 0, .slice none 0 0, .int .i64 0, .int .i64 0, .int .i64 0, .int .i64 0, .slice none 0 0, .slice none 0 0, .slice none 0 0] 33 ∧ Below w.heap.size w w4) := ⟨HZ3.out.1.below bz, Below.next HZ3.out.2 bz⟩
  have HM : Hid (RdSk w4 (.agg #[.int .i64 x.sk.count, .int .i64 x.sk.sum, .int .i64 x.sk.min, .int .i64 x.sk.max, .slice e1 r1 f1, .slice e2 r2 f2, .slice e3 r3 f3]) x.sk X ∧ Own (w.heap.size + 2) w4 X) := ⟨rm, om.mono (by have := HZ3.out.1.lt; omega)⟩
  clear hK bz rm om HS HZ3
  refine oq 7 (H := fun K hK => ?_)
  refine op_turn (.slice (some ⟨w4.heap.size, 0, none⟩) 1 1) (w4.alloc (.cells #[.int .i64 id, .int .i64 id] 74)) rfl (by go_simp) (pk (h := hK _ _ ⟨HS4.out.alloc _, ?_⟩))
  have HS5 : Hid (Blk (w4.alloc (.cells #[.int .i64 id, .int .i64 id] 74)) w.heap.size #[.int .i64 x.seq, .int .i64 x.cls, .int .i64 x.key, .int .i64 x.window, .int .i64 x.sk.count, .int .i64 x.sk.sum, .int .i64 x.sk.min, .int .i64 x.sk.max, .slice a1 n1 c1, .slice a2 n2 c2, .slice a3 n3 c3] 91) := HS4.out.alloc _
  have HZ5 : Hid (Blk (w4.alloc (.cells #[.int .i64 id, .int .i64 id] 74)) (w.heap.size + 1) #[.int .i64 0, .int .i64 0, .slice none 0 0, .int .i64 0, .int .i64 0, .int .i64 0, .int .i64 0, .slice none 0 0, .slice none 0 0, .slice none 0 0] 33 ∧ Below w.heap.size w (w4.alloc (.cells #[.int .i64 id, .int .i64 id] 74))) := ⟨HZ4.out.1.alloc _, Below.allocW _ HZ4.out.2 (Nat.le_refl _)⟩
  have bal : Below w4.heap.size w4 (w4.alloc (.cells #[.int .i64 id, .int .i64 id] 74)) := Below.allocW _ (Below.refl _ _) (Nat.le_refl _)
  have hl : Blk (w4.alloc (.cells #[.int .i64 id, .int .i64 id] 74)) w4.heap.size #[.int .i64 id, .int .i64 id] 74 := Blk.made _ _ _
  have hz4 := HZ4.out.1.lt
  have HG : Hid (RdSk (w4.alloc (.cells #[.int .i64 id, .int .i64 id] 74)) (.agg #[.int .i64 x.sk.count, .int .i64 x.sk.sum, .int .i64 x.sk.min, .int .i64 x.sk.max, .slice e1 r1 f1, .slice e2 r2 f2, .slice e3 r3 f3]) x.sk X ∧ Own (w.heap.size + 2) (w4.alloc (.cells #[.int .i64 id, .int .i64 id] 74)) X ∧ RdP (w4.alloc (.cells #[.int .i64 id, .int .i64 id] 74)) (some ⟨w4.heap.size, 0, none⟩) 1 [(id, id)] [w4.heap.size] ∧ Own (w.heap.size + 2) (w4.alloc (.cells #[.int .i64 id, .int .i64 id] 74)) [w4.heap.size] ∧ (∀ b ∈ [w4.heap.size], b ∉ X) ∧ w.heap.size + 1 < w4.heap.size) := ⟨HM.out.1.below bal, HM.out.2.below HM.out.1.lt bal, rdP_single hl, ⟨by simp, fun b hb o => by (obtain rfl : b = w4.heap.size := by simpa using hb); exact hl.frozen o, fun b hb => by (obtain rfl : b = w4.heap.size := by simpa using hb); omega⟩, fun b hb hx => by (obtain rfl : b = w4.heap.size := by simpa using hb); have := HM.out.1.lt _ hx; omega, hz4⟩
  obtain ⟨gg, hgg⟩ : ∃ n, n = w4.heap.size := ⟨_, rfl⟩
  obtain ⟨w5, hw5⟩ : ∃ W, W = w4.alloc (.cells #[.int .i64 id, .int .i64 id] 74) := ⟨_, rfl⟩
  rw [← hw5] at HS5 HZ5 HG ⊢
  rw [← hgg] at HG ⊢
  clear hK hw5 hgg HS4 HZ4 HM bal hl hz4
  refine tg 11 (.agg #[.int .i64 x.key, .int .i64 x.window, .slice (some ⟨gg, 0, none⟩) 1 1, .int .i64 x.sk.count, .int .i64 x.sk.sum, .int .i64 x.sk.min, .int .i64 x.sk.max, .slice e1 r1 f1, .slice e2 r2 f2, .slice e3 r3 f3]) (H := ⟨HS5.out, ?_⟩)
  refine oq 12 (H := fun K hK => ?_)
  refine op_store 33 (w.heap.size + 1) #[.int .i64 0, .int .i64 0, .slice none 0 0, .int .i64 0, .int .i64 0, .int .i64 0, .int .i64 0, .slice none 0 0, .slice none 0 0, .slice none 0 0] #[.int .i64 x.key, .int .i64 x.window, .slice (some ⟨gg, 0, none⟩) 1 1, .int .i64 x.sk.count, .int .i64 x.sk.sum, .int .i64 x.sk.min, .int .i64 x.sk.max, .slice e1 r1 f1, .slice e2 r2 f2, .slice e3 r3 f3] 33 rfl rfl rfl rfl HZ5.out.1 infoEnA rfl (by simp [Value.oneCell']) (pk (h := hK _ _ ⟨HS5.out.setRowOther (by omega), ?_⟩))
  clear hK
  refine tg 13 (.bool true) (H := ⟨(HS5.out.setRowOther (by omega)), ?_⟩)
  refine wpAnyH_done (by kernel_rfl) ?_ _
  have nf : w.heap.size + 1 ∉ [gg] := by have := HG.out.2.2.2.2.2; simp; omega
  have nx : w.heap.size + 1 ∉ X := fun hx => by have := HG.out.2.1.ge _ hx; omega
  obtain ⟨E, hE⟩ : ∃ E : Array Value, E = #[.int .i64 x.key, .int .i64 x.window, .slice (some ⟨gg, 0, none⟩) 1 1, .int .i64 x.sk.count, .int .i64 x.sk.sum, .int .i64 x.sk.min, .int .i64 x.sk.max, .slice e1 r1 f1, .slice e2 r2 f2, .slice e3 r3 f3] := ⟨_, rfl⟩
  rw [← hE]
  obtain ⟨w9, hw9⟩ : ∃ W, W = w5.setRow (w.heap.size + 1) E := ⟨_, rfl⟩
  have HF : Hid (Blk w9 (w.heap.size + 1) E 33 ∧ RdP w9 (some ⟨gg, 0, none⟩) 1 [(id, id)] [gg] ∧ RdSk w9 (.agg #[.int .i64 x.sk.count, .int .i64 x.sk.sum, .int .i64 x.sk.min, .int .i64 x.sk.max, .slice e1 r1 f1, .slice e2 r2 f2, .slice e3 r3 f3]) x.sk X ∧ Own w.heap.size w9 [gg] ∧ Own w.heap.size w9 X ∧ (∀ b ∈ [gg], b ∉ X) ∧ Below w.heap.size w w9) := by
   rw [hw9]
   exact ⟨HZ5.out.1.setRow, HG.out.2.2.1.agree (Agree.row nf E), HG.out.1.agree (Agree.row nx E), (HG.out.2.2.2.1.agree (Agree.row nf E)).mono (by omega), (HG.out.2.1.agree (Agree.row nx E)).mono (by omega), HG.out.2.2.2.2.1, below_setRow HZ5.out.2 (by omega) _⟩
  have HE : Hid (E = #[.int .i64 x.key, .int .i64 x.window, .slice (some ⟨gg, 0, none⟩) 1 1, .int .i64 x.sk.count, .int .i64 x.sk.sum, .int .i64 x.sk.min, .int .i64 x.sk.max, .slice e1 r1 f1, .slice e2 r2 f2, .slice e3 r3 f3] ∧ E.size = 10) := ⟨hE, by rw [hE]; rfl⟩
  rw [← hw9]
  clear hE hw9 HG nf nx
  go_wp2
  refine bodyPost_ret (results_row_tmp Tryz.results58 _ _ (w.heap.size + 1) _ _ (0, 0) _ rfl HF.out.1 Tryz.underlying33 rfl (by rw [HE.out.2]; exact infoEnA)) rfl ?_
  rw [It.entry_yes HV.out, HV.out, ← HID.out]
  exact ⟨⟨_, [gg], X, rfl, ⟨some ⟨gg, 0, none⟩, 1, 1, e1, r1, f1, e2, r2, f2, e3, r3, f3, by rw [HE.out.1], HF.out.2.1, HF.out.2.2.1, fun e => (by cases e), Nat.le_refl _⟩, HF.out.2.2.2.1, HF.out.2.2.2.2.1, HF.out.2.2.2.2.2.1, HF.out.2.2.2.2.2.2⟩, fun e => by cases e⟩
theorem entryOfSpec_any (ag : Int) (v : Value) (x : It) (F : List Nat) (w : World) (h : RdIt w v x F) (hw : x.sk.wide) :
 Calls Tryz.prog 58 #[.int .i64 ag, v] w fun e w' => NewEn2 w (x.entry ag) (x.entryOk ag) e w' := (entryOfSpec_z ag v x F w h hw).mono fun _ _ h => h.1
end
section
set_option maxRecDepth 200000
set_option maxHeartbeats 16000000
open Go.RowKit
def okT (s : Sk) (xs : List Int) : Bool := s.shaped && inB xs && (if xs.getD 0 0 = 0 then decide (xs = List.replicate 28 0) else decide (xs.getD 2 0 ≤ xs.getD 3 0))
theorem okTally_any (v : Value) (s : Sk) (F : List Nat) (w : World) (h : RdSk w v s F) (hw : s.wide) :
 Calls Tryz.prog 144 #[v] w fun e w' => ∃ xs ys : List Int, e = .returned (.tuple #[.agg (tc ys), .bool (okT s xs)]) ∧ xs.length = 28 ∧ ys.length = 28 ∧ (s.shaped = true → xs = s.tl) ∧ (okT s xs = true → ys = xs) ∧ Below w.heap.size w w' := by
 have HH : Hid (RdSk w v s F ∧ s.wide) := ⟨h, hw⟩
 obtain ⟨a1, n1, c1, a2, n2, c2, a3, n3, c3, F1, F2, F3, rfl, h1, h2, h3, _⟩ := h
 clear h1 h2 h3 hw
 have Z28 := two_made w #[.int .i64 s.count, .int .i64 s.sum, .int .i64 s.min, .int .i64 s.max, .slice a1 n1 c1, .slice a2 n2 c2, .slice a3 n3 c3] (tc (List.replicate 28 0)) 31 118
 have HZ : Hid (_ ∧ _ ∧ _) := Z28
 clear Z28
 go_enter Tryz.func144, Tryz.ntmps144
 go_wp2_with fail
 refine (tallyOf_any _ s F _ (HH.out.1.below HZ.out.2.2) HH.out.2).mono ?_
 rintro e w1 ⟨xs, rfl, hxl, hxe, hb1⟩
 have HX : Hid (xs.length = 28 ∧ (s.shaped = true → xs = s.tl)) := ⟨hxl, hxe⟩
 have HB : Hid (Blk w1 (w.heap.size + 1) (tc (List.replicate 28 0)) 118 ∧ Below w.heap.size w w1) := ⟨HZ.out.2.1.below hb1, Below.next HZ.out.2.2 hb1⟩
 clear hb1 HZ hxl hxe
 go_wp2_with (with_reducible refine stopStore 118 rfl ?_)
 refine store_fresh 118 w1.heap.size rfl (tc (List.replicate 28 0)) (tc xs) 118 rfl rfl rfl rfl (tallySize HX.out.1) (by rw [tc_size, tc_size, HX.out.1]; rfl) (tc_one _) ?_
 intro W2 hg2 hb2
 have HG2 : Hid (Blk W2 w1.heap.size (tc xs) 118 ∧ Blk W2 (w.heap.size + 1) (tc (List.replicate 28 0)) 118 ∧ Below w.heap.size w W2) := ⟨hg2, HB.out.1.below hb2, Below.next HB.out.2 hb2⟩
 have hlt : w.heap.size + 1 < w1.heap.size := HB.out.1.lt
 clear hg2 hb2
 obtain ⟨d, hd⟩ : ∃ d, d = okT s xs := ⟨_, rfl⟩
 have HD : Hid (d = okT s xs) := hd
 clear hd
 cases es : s.shaped
 ·
  have HN : Hid (okT s xs = false) := by show _ = false; unfold okT; rw [es]; rfl
  clear es
  go_wp2_with (first | go_skip | (with_reducible refine stopStore 118 rfl ?_))
  refine store_known 118 (w.heap.size + 1) _ (tc (List.replicate 28 0)) 118 HG2.out.2.1 rfl rfl rfl rfl infoTally rfl (tc_one _) ?_
  go_wp2
  refine bodyPost_ret (results_row_tmp Tryz.results144 _ _ (w.heap.size + 1) _ _ _ _ rfl HG2.out.2.1.setRow Tryz.underlying118 rfl infoTally) rfl ?_
  exact ⟨xs, List.replicate 28 0, by rw [HN.out]; rfl, HX.out.1, rfl, HX.out.2, fun e => by (rw [HN.out] at e; cases e), below_setRow HG2.out.2.2 (by omega) _⟩
 have ES : Hid (s.shaped = true) := es
 clear es
 go_wp2_with (first | go_skip | (with_reducible refine stopLoad 118 rfl ?_))
 refine load_part 118 w1.heap.size 0 28 xs 118 _ HG2.out.1 rfl rfl rfl Tryz.underlying118 rfl infoTally (by rw [HX.out.1]; omega) ?_
 rw [List.drop_zero, List.take_of_length_le (Nat.le_of_eq HX.out.1)]
 go_wp2_with fail
 refine (inBounds_any xs _ HX.out.1).mono ?_
 rintro e W3 ⟨rfl, hb3⟩
 have HG3 : Hid (Blk W3 w1.heap.size (tc xs) 118 ∧ Blk W3 (w.heap.size + 1) (tc (List.replicate 28 0)) 118 ∧ Below w.heap.size w W3) := ⟨HG2.out.1.below hb3, HG2.out.2.1.below hb3, Below.next HG2.out.2.2 hb3⟩
 clear hb3
 cases ei : inB xs
 ·
  have HN : Hid (okT s xs = false) := by show _ = false; unfold okT; rw [ES.out, ei]; rfl
  clear ei
  go_wp2_with (first | go_skip | (with_reducible refine stopStore 118 rfl ?_))
  refine store_known 118 (w.heap.size + 1) _ (tc (List.replicate 28 0)) 118 HG3.out.2.1 rfl rfl rfl rfl infoTally rfl (tc_one _) ?_
  go_wp2
  refine bodyPost_ret (results_row_tmp Tryz.results144 _ _ (w.heap.size + 1) _ _ _ _ rfl HG3.out.2.1.setRow Tryz.underlying118 rfl infoTally) rfl ?_
  exact ⟨xs, List.replicate 28 0, by rw [HN.out]; rfl, HX.out.1, rfl, HX.out.2, fun e => by (rw [HN.out] at e; cases e), below_setRow HG3.out.2.2 (by omega) _⟩
 have EI : Hid (inB xs = true) := ei
 clear ei
 obtain ⟨x0, hx0⟩ : ∃ x, x = xs.getD 0 0 := ⟨_, rfl⟩
 obtain ⟨x2, hx2⟩ : ∃ x, x = xs.getD 2 0 := ⟨_, rfl⟩
 obtain ⟨x3, hx3⟩ : ∃ x, x = xs.getD 3 0 := ⟨_, rfl⟩
 have c0 : W3.cell? ⟨w1.heap.size, 0, none⟩ = some (.int .i64 x0) := by rw [HG3.out.1.cell, hx0]; exact tc_get (by rw [HX.out.1]; omega)
 have HC : Hid (∀ W, Blk W w1.heap.size (tc xs) 118 → W.cell? ⟨w1.heap.size, 2, none⟩ = some (.int .i64 x2) ∧ W.cell? ⟨w1.heap.size, 3, none⟩ = some (.int .i64 x3)) := fun W b => ⟨by rw [b.cell, hx2]; exact tc_get (by rw [HX.out.1]; omega), by rw [b.cell, hx3]; exact tc_get (by rw [HX.out.1]; omega)⟩
 have HXE : Hid (x0 = xs.getD 0 0 ∧ x2 = xs.getD 2 0 ∧ x3 = xs.getD 3 0) := ⟨hx0, hx2, hx3⟩
 clear hx0 hx2 hx3
 by_cases q0 : x0 = 0
 rotate_left
 ·
  have q0' : (x0 == 0) = false := by simpa using q0
  have HV : Hid (okT s xs = decide (x2 ≤ x3)) := by
   show _ = _
   unfold okT
   rw [ES.out, EI.out, if_neg (by rw [← HXE.out.1]; exact q0), ← HXE.out.2.1, ← HXE.out.2.2]; rfl
  clear q0
  go_wp2
  refine wp_region_held (S := fun W => Blk W w1.heap.size (tc xs) 118) (by kernel_rfl) ?_
  change wpAnyH _ _ _ _ _ _ _ _ (World.drew _)
  have HS : Hid (Blk W3.drew w1.heap.size (tc xs) 118) := HG3.out.1.drew
  refine tk 0 (.agg (tc xs)) (H := ⟨(yields_whole 118 w1.heap.size (tc xs) 118 _ rfl rfl rfl Tryz.underlying118 rfl (tallySize HX.out.1) (fun W hW => hW)), HS.out, ?_⟩)
  refine tg 1 (.pointer (some ⟨w1.heap.size, 2, none⟩)) (H := ⟨HS.out, ?_⟩)
  refine tk 2 (.int .i64 x2) (H := ⟨(.inl ⟨rfl, fun W hW => by have c := (HC.out W hW).1; go_simp⟩), HS.out, ?_⟩)
  refine tg 3 (.pointer (some ⟨w1.heap.size, 3, none⟩)) (H := ⟨HS.out, ?_⟩)
  refine tk 4 (.int .i64 x3) (H := ⟨(.inl ⟨rfl, fun W hW => by have c := (HC.out W hW).2; go_simp⟩), HS.out, ?_⟩)
  refine tg 5 (.bool (decide (x2 ≤ x3))) (H := ⟨HS.out, ?_⟩)
  refine oq 6 (H := fun K hK => ?_)
  refine op_store 118 (w.heap.size + 1) (tc (List.replicate 28 0)) (tc xs) 118 rfl rfl rfl rfl HG3.out.2.1.drew (tallySize HX.out.1) (by rw [tc_size, tc_size, HX.out.1]; rfl) (tc_one _) (pk (h := hK _ _ ⟨HS.out.setRowOther (by omega), ?_⟩))
  clear hK
  refine oq 7 (H := fun K hK => ?_)
  refine op_value (.bool (decide (x2 ≤ x3))) rfl (by go_simp) (pk (h := hK _ _ ⟨HS.out.setRowOther (by omega), ?_⟩))
  clear hK
  refine wpAnyH_done (by kernel_rfl) ?_ _
  go_wp2
  refine bodyPost_ret (results_row_tmp Tryz.results144 _ _ (w.heap.size + 1) _ _ _ _ rfl HG3.out.2.1.drew.setRow Tryz.underlying118 rfl (tallySize HX.out.1)) rfl ?_
  exact ⟨xs, xs, by rw [HV.out]; rfl, HX.out.1, HX.out.1, HX.out.2, fun _ => rfl, below_setRow HG3.out.2.2.drew (by omega) _⟩
 subst q0
 have q0' : ((0 : Int) == 0) = true := by simp
 have HV : Hid (okT s xs = decide (xs = List.replicate 28 0)) := by
  show _ = _
  unfold okT
  rw [ES.out, EI.out, if_pos (HXE.out.1.symm)]; rfl
 go_wp2
 refine wp_region_held (S := fun W => Blk W w1.heap.size (tc xs) 118) (by kernel_rfl) ?_
 change wpAnyH _ _ _ _ _ _ _ _ (World.drew _)
 have HS : Hid (Blk W3.drew w1.heap.size (tc xs) 118) := HG3.out.1.drew
 refine tk 0 (.agg (tc xs)) (H := ⟨(yields_whole 118 w1.heap.size (tc xs) 118 _ rfl rfl rfl Tryz.underlying118 rfl (tallySize HX.out.1) (fun W hW => hW)), HS.out, ?_⟩)
 refine tk 1 (.agg (tc xs)) (H := ⟨(yields_whole 118 w1.heap.size (tc xs) 118 _ rfl rfl rfl Tryz.underlying118 rfl (tallySize HX.out.1) (fun W hW => hW)), HS.out, ?_⟩)
 refine tk 2 (.agg (tc (List.replicate 28 0))) (H := ⟨(.inl ⟨rfl, fun W _ => by go_simp; rfl⟩), HS.out, ?_⟩)
 refine oq 3 (H := fun K hK => ?_)
 refine op_call2 85 _ _ _ Tryz.f85 (fun w' => Below W3.drew.heap.size W3.drew w') (.bool (decide (xs = List.replicate 28 0))) rfl rfl Tryz.func85 (by kernel_rfl) (by kernel_rfl) (same_any xs (List.replicate 28 0) _ HX.out.1 rfl) ⟨_, by simp [Act.put]; rfl, fun W4 hb4 => hK _ _ ⟨HS.out.below hb4, ?_⟩⟩
 have HG4 : Hid (Blk W4 w1.heap.size (tc xs) 118 ∧ Blk W4 (w.heap.size + 1) (tc (List.replicate 28 0)) 118 ∧ Below w.heap.size w W4) := ⟨HG3.out.1.drew.below hb4, HG3.out.2.1.drew.below hb4, Below.next HG3.out.2.2.drew hb4⟩
 clear hb4 hK
 refine oq 4 (H := fun K hK => ?_)
 refine op_store 118 (w.heap.size + 1) (tc (List.replicate 28 0)) (tc xs) 118 rfl rfl rfl rfl HG4.out.2.1 (tallySize HX.out.1) (by rw [tc_size, tc_size, HX.out.1]; rfl) (tc_one _) (pk (h := hK _ _ ⟨HG4.out.1.setRowOther (by omega), ?_⟩))
 clear hK
 refine oq 5 (H := fun K hK => ?_)
 refine op_value (.bool (decide (xs = List.replicate 28 0))) rfl (by go_simp) (pk (h := hK _ _ ⟨HG4.out.1.setRowOther (by omega), ?_⟩))
 clear hK
 refine wpAnyH_done (by kernel_rfl) ?_ _
 go_wp2
 refine bodyPost_ret (results_row_tmp Tryz.results144 _ _ (w.heap.size + 1) _ _ _ _ rfl HG4.out.2.1.setRow Tryz.underlying118 rfl (tallySize HX.out.1)) rfl ?_
 exact ⟨xs, xs, by rw [HV.out]; rfl, HX.out.1, HX.out.1, HX.out.2, fun _ => rfl, below_setRow HG4.out.2.2 (by omega) _⟩
end
section
set_option maxRecDepth 200000
set_option maxHeartbeats 16000000
open Go.RowKit
theorem Sk.written {s : Sk} (h : s.shaped = true) : ∃ h0 h1 h2 h3 h4 h5 h6 h7 r0 r1 r2 r3 r4 r5 r6 r7 p0 p1 p2 p3 q0 q1 q2 q3, s = ⟨s.count, s.sum, s.min, s.max, [h0, h1, h2, h3, h4, h5, h6, h7], [r0, r1, r2, r3, r4, r5, r6, r7], [[p0, p1, p2, p3], [q0, q1, q2, q3]]⟩ := by
 obtain ⟨e1, e2, x, y, e3, e4, e5⟩ := Sk.shaped_parts h
 obtain ⟨h0, h1, h2, h3, h4, h5, h6, h7, eh⟩ := len8 e1
 obtain ⟨r0, r1, r2, r3, r4, r5, r6, r7, er⟩ := len8 e2
 obtain ⟨p0, p1, p2, p3, rfl⟩ := len4 e4
 obtain ⟨q0, q1, q2, q3, rfl⟩ := len4 e5
 refine ⟨h0, h1, h2, h3, h4, h5, h6, h7, r0, r1, r2, r3, r4, r5, r6, r7, p0, p1, p2, p3, q0, q1, q2, q3, ?_⟩
 cases s
 simp_all
theorem okL_shape {l : List Int} {n : Nat} {m : Int} {z : Bool} (h : okL l n m z = true) : l.length = n := by
 unfold okL at h; simp at h; exact h.1
theorem Sk.ok_shaped {s : Sk} (h : s.ok = true) : s.shaped = true := by
 unfold Sk.ok okHead okLists at h
 simp only [Bool.and_eq_true, decide_eq_true_eq] at h
 obtain ⟨⟨⟨_, hr⟩, _⟩, ⟨⟨⟨l1, l2⟩, l3⟩, l4⟩⟩ := h
 have e1 := okL_shape l1; have e2 := okL_shape l2; have e3 := okL_shape l3; have e4 := okL_shape l4
 obtain ⟨x, y, e⟩ : ∃ x y, s.rows = [x, y] := by
  match s.rows, hr with
  | [x, y], _ => exact ⟨x, y, rfl⟩
 unfold Sk.shaped
 rw [e] at e3 e4 ⊢
 simp at e3 e4
 simp [e1, e2, e3, e4]
theorem okT_ok {s : Sk} {xs : List Int} (hx : s.shaped = true → xs = s.tl) : okT s xs = s.ok := by
 cases hs : s.shaped
 ·
  have h1 : okT s xs = false := by unfold okT; rw [hs]; rfl
  rw [h1]
  cases ho : s.ok
  ·
   rfl
  ·
   rw [Sk.ok_shaped ho] at hs; cases hs
 ·
  have hx := hx hs
  subst hx
  obtain ⟨h0, h1, h2, h3, h4, h5, h6, h7, r0, r1, r2, r3, r4, r5, r6, r7, p0, p1, p2, p3, q0, q1, q2, q3, e⟩ := Sk.written hs
  generalize s.count = c at e
  generalize s.sum = sm at e
  generalize s.min = mn at e
  generalize s.max = mx at e
  subst e
  rw [Bool.eq_iff_iff]
  unfold okT
  rw [hs]
  by_cases q : c = 0
  ·
   subst q
   simp [inB, Sk.tl, Sk.ok, okHead, okZero, okLists, okL, okN, List.replicate]
   omega
  ·
   simp [inB, Sk.tl, Sk.ok, okHead, okZero, okLists, okL, okN, q]
   omega
end
section
open Go.RowKit
structure Out (w : World) (lo g : Nat) (c sm mn mx : Int) (b1 o1 k1 b2 o2 k2 p po k3 b3 o3 j0 b4 o4 j1 : Nat) (l1 l2 x y : List Int) (W : World) : Prop where
 blk : Blk W g #[.int .i64 c, .int .i64 sm, .int .i64 mn, .int .i64 mx, .slice (some ⟨b1, o1, none⟩) 8 k1, .slice (some ⟨b2, o2, none⟩) 8 k2, .slice (some ⟨p, po, none⟩) 2 k3] 31
 hist : RdI W (some ⟨b1, o1, none⟩) 8 l1 [b1]
 regs : RdI W (some ⟨b2, o2, none⟩) 8 l2 [b2]
 c0 : W.cell? ⟨p, po, none⟩ = some (.slice (some ⟨b3, o3, none⟩) 4 j0)
 c1 : W.cell? ⟨p, po + 1, none⟩ = some (.slice (some ⟨b4, o4, none⟩) 4 j1)
 row0 : RdI W (some ⟨b3, o3, none⟩) 4 x [b3]
 row1 : RdI W (some ⟨b4, o4, none⟩) 4 y [b4]
 own : Own lo W [g, b1, b2, p, b3, b4]
 bel : Below w.heap.size w W
 lw : w.heap.size + 1 < lo
 room : Room W b1 o1 8 k1
 wide : 2 ≤ k3
section
variable {w : World} {lo g : Nat} {c sm mn mx : Int} {b1 o1 k1 b2 o2 k2 p po k3 b3 o3 j0 b4 o4 j1 : Nat} {l1 l2 x y : List Int} {W : World}
theorem Out.nd (h : Out w lo g c sm mn mx b1 o1 k1 b2 o2 k2 p po k3 b3 o3 j0 b4 o4 j1 l1 l2 x y W) : (g ≠ b1 ∧ g ≠ b2 ∧ g ≠ p ∧ g ≠ b3 ∧ g ≠ b4) ∧ (b1 ≠ b2 ∧ b1 ≠ p ∧ b1 ≠ b3 ∧ b1 ≠ b4) ∧ (b2 ≠ p ∧ b2 ≠ b3 ∧ b2 ≠ b4) ∧ (p ≠ b3 ∧ p ≠ b4) ∧ b3 ≠ b4 := by
 have := h.own.nodup
 simp at this
 omega
theorem Out.ges (h : Out w lo g c sm mn mx b1 o1 k1 b2 o2 k2 p po k3 b3 o3 j0 b4 o4 j1 l1 l2 x y W) : lo ≤ g ∧ lo ≤ b1 ∧ lo ≤ b2 ∧ lo ≤ p ∧ lo ≤ b3 ∧ lo ≤ b4 :=
 ⟨h.own.ge g (by simp), h.own.ge b1 (by simp), h.own.ge b2 (by simp), h.own.ge p (by simp), h.own.ge b3 (by simp), h.own.ge b4 (by simp)⟩
theorem cell_keep {u : Value} (h : W.cell? ⟨p, po, none⟩ = some u) {q j : Nat} {n : Value} (hq : p ≠ q) : (W.setCell ⟨q, j, none⟩ n).cell? ⟨p, po, none⟩ = some u :=
 (World.cell?_of_block (w := W) (a := ⟨p, po, none⟩) (Below.heap_setCell W ⟨q, j, none⟩ n p hq)).trans h
theorem Out.setC (h : Out w lo g c sm mn mx b1 o1 k1 b2 o2 k2 p po k3 b3 o3 j0 b4 o4 j1 l1 l2 x y W) (n : Int) : Out w lo g n sm mn mx b1 o1 k1 b2 o2 k2 p po k3 b3 o3 j0 b4 o4 j1 l1 l2 x y (W.setCell ⟨g, 0, none⟩ (.int .i64 n)) := by
 have nd := h.nd
 have ge := h.ges
 have lw := h.lw
 exact ⟨h.blk.set 0 (.int .i64 n), h.hist.agree (.set (by simp; omega) _ _), h.regs.agree (.set (by simp; omega) _ _), cell_keep h.c0 (by omega), cell_keep h.c1 (by omega), h.row0.agree (.set (by simp; omega) _ _), h.row1.agree (.set (by simp; omega) _ _), h.own.set _ _ _, h.bel.setCell (by show w.heap.size ≤ g; omega) _, h.lw, h.room.set _ _ _, h.wide⟩
theorem Out.setS (h : Out w lo g c sm mn mx b1 o1 k1 b2 o2 k2 p po k3 b3 o3 j0 b4 o4 j1 l1 l2 x y W) (n : Int) : Out w lo g c n mn mx b1 o1 k1 b2 o2 k2 p po k3 b3 o3 j0 b4 o4 j1 l1 l2 x y (W.setCell ⟨g, 1, none⟩ (.int .i64 n)) := by
 have nd := h.nd
 have ge := h.ges
 have lw := h.lw
 exact ⟨h.blk.set 1 (.int .i64 n), h.hist.agree (.set (by simp; omega) _ _), h.regs.agree (.set (by simp; omega) _ _), cell_keep h.c0 (by omega), cell_keep h.c1 (by omega), h.row0.agree (.set (by simp; omega) _ _), h.row1.agree (.set (by simp; omega) _ _), h.own.set _ _ _, h.bel.setCell (by show w.heap.size ≤ g; omega) _, h.lw, h.room.set _ _ _, h.wide⟩
theorem Out.setMn (h : Out w lo g c sm mn mx b1 o1 k1 b2 o2 k2 p po k3 b3 o3 j0 b4 o4 j1 l1 l2 x y W) (n : Int) : Out w lo g c sm n mx b1 o1 k1 b2 o2 k2 p po k3 b3 o3 j0 b4 o4 j1 l1 l2 x y (W.setCell ⟨g, 2, none⟩ (.int .i64 n)) := by
 have nd := h.nd
 have ge := h.ges
 have lw := h.lw
 exact ⟨h.blk.set 2 (.int .i64 n), h.hist.agree (.set (by simp; omega) _ _), h.regs.agree (.set (by simp; omega) _ _), cell_keep h.c0 (by omega), cell_keep h.c1 (by omega), h.row0.agree (.set (by simp; omega) _ _), h.row1.agree (.set (by simp; omega) _ _), h.own.set _ _ _, h.bel.setCell (by show w.heap.size ≤ g; omega) _, h.lw, h.room.set _ _ _, h.wide⟩
theorem Out.setMx (h : Out w lo g c sm mn mx b1 o1 k1 b2 o2 k2 p po k3 b3 o3 j0 b4 o4 j1 l1 l2 x y W) (n : Int) : Out w lo g c sm mn n b1 o1 k1 b2 o2 k2 p po k3 b3 o3 j0 b4 o4 j1 l1 l2 x y (W.setCell ⟨g, 3, none⟩ (.int .i64 n)) := by
 have nd := h.nd
 have ge := h.ges
 have lw := h.lw
 exact ⟨h.blk.set 3 (.int .i64 n), h.hist.agree (.set (by simp; omega) _ _), h.regs.agree (.set (by simp; omega) _ _), cell_keep h.c0 (by omega), cell_keep h.c1 (by omega), h.row0.agree (.set (by simp; omega) _ _), h.row1.agree (.set (by simp; omega) _ _), h.own.set _ _ _, h.bel.setCell (by show w.heap.size ≤ g; omega) _, h.lw, h.room.set _ _ _, h.wide⟩
theorem Out.setHist (h : Out w lo g c sm mn mx b1 o1 k1 b2 o2 k2 p po k3 b3 o3 j0 b4 o4 j1 l1 l2 x y W) (j : Nat) (hj : j < 8) (n : Int) : Out w lo g c sm mn mx b1 o1 k1 b2 o2 k2 p po k3 b3 o3 j0 b4 o4 j1 (l1.set j n) l2 x y (W.setCell ⟨b1, o1 + j, none⟩ (.int .i64 n)) := by
 have nd := h.nd
 have ge := h.ges
 have lw := h.lw
 exact ⟨h.blk.setOther (by omega) _ _, h.hist.set (by omega) j hj n, h.regs.agree (.set (by simp; omega) _ _), cell_keep h.c0 (by omega), cell_keep h.c1 (by omega), h.row0.agree (.set (by simp; omega) _ _), h.row1.agree (.set (by simp; omega) _ _), h.own.set _ _ _, h.bel.setCell (by show w.heap.size ≤ b1; omega) _, h.lw, h.room.set _ _ _, h.wide⟩
theorem Out.setRegs (h : Out w lo g c sm mn mx b1 o1 k1 b2 o2 k2 p po k3 b3 o3 j0 b4 o4 j1 l1 l2 x y W) (j : Nat) (hj : j < 8) (n : Int) : Out w lo g c sm mn mx b1 o1 k1 b2 o2 k2 p po k3 b3 o3 j0 b4 o4 j1 l1 (l2.set j n) x y (W.setCell ⟨b2, o2 + j, none⟩ (.int .i64 n)) := by
 have nd := h.nd
 have ge := h.ges
 have lw := h.lw
 exact ⟨h.blk.setOther (by omega) _ _, h.hist.agree (.set (by simp; omega) _ _), h.regs.set (by omega) j hj n, cell_keep h.c0 (by omega), cell_keep h.c1 (by omega), h.row0.agree (.set (by simp; omega) _ _), h.row1.agree (.set (by simp; omega) _ _), h.own.set _ _ _, h.bel.setCell (by show w.heap.size ≤ b2; omega) _, h.lw, h.room.set _ _ _, h.wide⟩
theorem Out.setRow0 (h : Out w lo g c sm mn mx b1 o1 k1 b2 o2 k2 p po k3 b3 o3 j0 b4 o4 j1 l1 l2 x y W) (j : Nat) (hj : j < 4) (n : Int) : Out w lo g c sm mn mx b1 o1 k1 b2 o2 k2 p po k3 b3 o3 j0 b4 o4 j1 l1 l2 (x.set j n) y (W.setCell ⟨b3, o3 + j, none⟩ (.int .i64 n)) := by
 have nd := h.nd
 have ge := h.ges
 have lw := h.lw
 exact ⟨h.blk.setOther (by omega) _ _, h.hist.agree (.set (by simp; omega) _ _), h.regs.agree (.set (by simp; omega) _ _), cell_keep h.c0 (by omega), cell_keep h.c1 (by omega), h.row0.set (by omega) j hj n, h.row1.agree (.set (by simp; omega) _ _), h.own.set _ _ _, h.bel.setCell (by show w.heap.size ≤ b3; omega) _, h.lw, h.room.set _ _ _, h.wide⟩
theorem Out.setRow1 (h : Out w lo g c sm mn mx b1 o1 k1 b2 o2 k2 p po k3 b3 o3 j0 b4 o4 j1 l1 l2 x y W) (j : Nat) (hj : j < 4) (n : Int) : Out w lo g c sm mn mx b1 o1 k1 b2 o2 k2 p po k3 b3 o3 j0 b4 o4 j1 l1 l2 x (y.set j n) (W.setCell ⟨b4, o4 + j, none⟩ (.int .i64 n)) := by
 have nd := h.nd
 have ge := h.ges
 have lw := h.lw
 exact ⟨h.blk.setOther (by omega) _ _, h.hist.agree (.set (by simp; omega) _ _), h.regs.agree (.set (by simp; omega) _ _), cell_keep h.c0 (by omega), cell_keep h.c1 (by omega), h.row0.agree (.set (by simp; omega) _ _), h.row1.set (by omega) j hj n, h.own.set _ _ _, h.bel.setCell (by show w.heap.size ≤ b4; omega) _, h.lw, h.room.set _ _ _, h.wide⟩
theorem Out.drew (h : Out w lo g c sm mn mx b1 o1 k1 b2 o2 k2 p po k3 b3 o3 j0 b4 o4 j1 l1 l2 x y W) : Out w lo g c sm mn mx b1 o1 k1 b2 o2 k2 p po k3 b3 o3 j0 b4 o4 j1 l1 l2 x y W.drew := ⟨h.blk, h.hist.below (Below.refl _ _).drew, h.regs.below (Below.refl _ _).drew, h.c0, h.c1, h.row0.below (Below.refl _ _).drew, h.row1.below (Below.refl _ _).drew, h.own.agree (fun _ _ => rfl), h.bel.drew, h.lw, h.room.agree rfl, h.wide⟩
end
theorem Out.below {w : World} {lo g : Nat} {c sm mn mx : Int} {b1 o1 k1 b2 o2 k2 p po k3 b3 o3 j0 b4 o4 j1 : Nat} {l1 l2 x y : List Int} {W W' : World} (h : Out w lo g c sm mn mx b1 o1 k1 b2 o2 k2 p po k3 b3 o3 j0 b4 o4 j1 l1 l2 x y W) (b : Below W.heap.size W W') : Out w lo g c sm mn mx b1 o1 k1 b2 o2 k2 p po k3 b3 o3 j0 b4 o4 j1 l1 l2 x y W' := by
 have e1 := h.hist.lt b1 (by simp)
 have e2 := h.regs.lt b2 (by simp)
 have e3 := h.row0.lt b3 (by simp)
 have e4 := h.row1.lt b4 (by simp)
 have e5 : p < W.heap.size := World.block_lt_of_cell? _ _ h.c0
 have e6 := h.blk.lt
 exact ⟨h.blk.below b, h.hist.below b, h.regs.below b, (b.cell (by exact e5)).trans h.c0, (b.cell (by exact e5)).trans h.c1, h.row0.below b, h.row1.below b, h.own.below (fun q hq => by simp at hq; omega) b, Below.next h.bel b, h.lw, h.room.below b, h.wide⟩
theorem RdI.single {w : World} {a : Option Addr} {n : Nat} {zs : List Int} {F : List Nat} (h : RdI w a n zs F) (hp : 0 < n) : ∃ b off, a = some ⟨b, off, none⟩ ∧ F = [b] := by
 rcases h.cells with ⟨h0, _⟩ | ⟨b, off, _, e, f, _⟩
 ·
  omega
 ·
  exact ⟨b, off, e, f⟩
theorem out_of {w W : World} {lo g : Nat} {cs : Array Value} {s : Sk} {F : List Nat} (r : RdSk W (.agg cs) s F) (k : Blk W g cs 31) (o : Own lo W F) (hg : lo ≤ g) (ap : g ∉ F) (hs : s.shaped = true) (bel : Below w.heap.size w W) (lw : w.heap.size + 1 < lo) (rm : Roomy W (.agg cs)) :
 ∃ b1 o1 k1 b2 o2 k2 p po k3 b3 o3 j0 b4 o4 j1 l1 l2 x y, Out w lo g s.count s.sum s.min s.max b1 o1 k1 b2 o2 k2 p po k3 b3 o3 j0 b4 o4 j1 l1 l2 x y W := by
 obtain ⟨a1, n1, c1, a2, n2, c2, a3, n3, c3, F1, F2, F3, e, h1, h2, h3, rfl⟩ := r
 obtain ⟨e1, e2, x, y, er, ex, ey⟩ := Sk.shaped_parts hs
 cases e
 obtain ⟨_, _, _, _, a1', n1', k1', F', _, a3', n3', k3', e', ⟨bb, oo, ea, _, rr⟩, kk⟩ := rm
 injection e' with e'
 have e' := congrArg Array.toList e'
 simp at e'
 obtain ⟨_, _, _, _, ⟨rfl, rfl, rfl⟩, _, ⟨rfl, rfl, rfl⟩⟩ := e'
 obtain rfl : n1 = 8 := by rw [← h1.length]; exact e1
 obtain rfl : n2 = 8 := by rw [← h2.length]; exact e2
 obtain rfl : n3 = 2 := by rw [← h3.length, er]; rfl
 obtain ⟨b1, o1, rfl, rfl⟩ := h1.single (by omega)
 obtain ⟨b2, o2, rfl, rfl⟩ := h2.single (by omega)
 rcases h3.cells with ⟨h0, _⟩ | ⟨p, po, F', _, rfl, rfl, hm⟩
 ·
  omega
 rw [er] at hm
 simp only [List.map_cons, List.map_nil] at hm
 rw [RdM] at hm
 obtain ⟨v3, X, F2', hc0, hr0, hm, rfl⟩ := hm
 rw [RdM] at hm
 obtain ⟨v4, Y, F4', hc1, hr1, hm, rfl⟩ := hm
 rw [RdM] at hm
 subst hm
 obtain ⟨a3, n3, j0, rfl, r3⟩ := rd_ints.1 hr0
 obtain ⟨a4, n4, j1, rfl, r4⟩ := rd_ints.1 hr1
 obtain rfl : n3 = 4 := by rw [← r3.length]; exact ex
 obtain rfl : n4 = 4 := by rw [← r4.length]; exact ey
 obtain ⟨b3, o3, rfl, rfl⟩ := r3.single (by omega)
 obtain ⟨b4, o4, rfl, rfl⟩ := r4.single (by omega)
 refine ⟨b1, o1, c1, b2, o2, c2, p, po, c3, b3, o3, j0, b4, o4, j1, s.hist, s.regs, x, y, k, h1, h2, hc0, hc1, r3, r4, ?_, bel, lw, by cases ea; exact rr, kk⟩
 have o' : Own lo W [b1, b2, p, b3, b4] := by simpa using o
 have ap' : g ∉ [b1, b2, p, b3, b4] := by simpa using ap
 exact ⟨List.nodup_cons.2 ⟨ap', o'.nodup⟩, fun q hq i => (List.mem_cons.1 hq).elim (fun e => by subst e; exact k.frozen i) (fun hq => o'.free q hq i), fun q hq => (List.mem_cons.1 hq).elim (fun e => by omega) (o'.ge q)⟩
theorem out_to {w W : World} {lo g : Nat} {c sm mn mx : Int} {b1 o1 k1 b2 o2 k2 p po k3 b3 o3 j0 b4 o4 j1 : Nat} {l1 l2 x y : List Int} (h : Out w lo g c sm mn mx b1 o1 k1 b2 o2 k2 p po k3 b3 o3 j0 b4 o4 j1 l1 l2 x y W) :
 RdSk W (.agg #[.int .i64 c, .int .i64 sm, .int .i64 mn, .int .i64 mx, .slice (some ⟨b1, o1, none⟩) 8 k1, .slice (some ⟨b2, o2, none⟩) 8 k2, .slice (some ⟨p, po, none⟩) 2 k3]) ⟨c, sm, mn, mx, l1, l2, [x, y]⟩ [b1, b2, p, b3, b4] ∧ Own lo W [b1, b2, p, b3, b4] ∧ (⟨c, sm, mn, mx, l1, l2, [x, y]⟩ : Sk).shaped = true := by
 refine ⟨⟨_, 8, k1, _, 8, k2, _, 2, k3, [b1], [b2], [p, b3, b4], rfl, h.hist, h.regs, ⟨rfl, .inr ⟨p, po, [b3, b4], by omega, rfl, rfl, ?_⟩⟩, rfl⟩, ⟨(List.nodup_cons.1 h.own.nodup).2, fun q hq => h.own.free q (List.mem_cons_of_mem _ hq), fun q hq => h.own.ge q (List.mem_cons_of_mem _ hq)⟩, ?_⟩
 ·
  show RdM W [ints x, ints y] p po [b3, b4]
  rw [RdM]
  refine ⟨_, [b3], [b4], h.c0, rd_ints.2 ⟨_, _, _, rfl, h.row0⟩, ?_, rfl⟩
  rw [RdM]
  exact ⟨_, [b4], [], h.c1, rd_ints.2 ⟨_, _, _, rfl, h.row1⟩, by simp [RdM], rfl⟩
 ·
  unfold Sk.shaped
  simp [h.hist.length, h.regs.length, h.row0.length, h.row1.length]
theorem out_rd {w W : World} {lo g : Nat} {c sm mn mx : Int} {b1 o1 k1 b2 o2 k2 p po k3 b3 o3 j0 b4 o4 j1 : Nat} {l1 l2 x y : List Int} (h : Out w lo g c sm mn mx b1 o1 k1 b2 o2 k2 p po k3 b3 o3 j0 b4 o4 j1 l1 l2 x y W) :
 RdR W (.agg #[.int .i64 c, .int .i64 sm, .int .i64 mn, .int .i64 mx, .slice (some ⟨b1, o1, none⟩) 8 k1, .slice (some ⟨b2, o2, none⟩) 8 k2, .slice (some ⟨p, po, none⟩) 2 k3]) ⟨c, sm, mn, mx, l1, l2, [x, y]⟩ [b1, b2, p, b3, b4] ∧ Own lo W [b1, b2, p, b3, b4] ∧ (⟨c, sm, mn, mx, l1, l2, [x, y]⟩ : Sk).shaped = true := by
 obtain ⟨r, o, hs⟩ := out_to h
 exact ⟨⟨r, _, _, _, _, _, _, _, [b1], _, _, _, _, rfl, ⟨b1, o1, rfl, rfl, h.room⟩, by simp, h.wide⟩, o, hs⟩
theorem shaped_full {s : Sk} (h : s.shaped = true) : s.full := by
 obtain ⟨e1, e2, x, y, e3, e4, e5⟩ := Sk.shaped_parts h
 refine ⟨by omega, by omega, by rw [e3]; simp, fun z hz => ?_⟩
 rw [e3] at hz
 simp at hz
 rcases hz with rfl | rfl <;> omega
theorem shaped_wide {s : Sk} (h : s.shaped = true) : s.wide := by
 obtain ⟨e1, e2, x, y, e3, e4, e5⟩ := Sk.shaped_parts h
 refine ⟨by omega, by omega, by rw [e3]; simp, fun z hz => ?_⟩
 rw [e3] at hz
 simp at hz
 rcases hz with rfl | rfl <;> omega
end
section
set_option maxRecDepth 200000
set_option maxHeartbeats 16000000
open Go.RowKit
def NewShaped2 (w : World) (e : Ending) (w' : World) : Prop :=
 ∃ v s d F, e = .returned (.tuple #[v, .bool d]) ∧ RdR w' v s F ∧ s.shaped = true ∧ Own w.heap.size w' F ∧ Below w.heap.size w w'
theorem newShaped_of {w W : World} {lo g : Nat} {c sm mn mx : Int} {b1 o1 k1 b2 o2 k2 p po k3 b3 o3 j0 b4 o4 j1 : Nat} {l1 l2 x y : List Int} {d : Bool} (h : Out w lo g c sm mn mx b1 o1 k1 b2 o2 k2 p po k3 b3 o3 j0 b4 o4 j1 l1 l2 x y W) :
 NewShaped2 w (.returned (.tuple #[.agg #[.int .i64 c, .int .i64 sm, .int .i64 mn, .int .i64 mx, .slice (some ⟨b1, o1, none⟩) 8 k1, .slice (some ⟨b2, o2, none⟩) 8 k2, .slice (some ⟨p, po, none⟩) 2 k3], .bool d])) (W.setRow (w.heap.size + 1) #[.int .i64 c, .int .i64 sm, .int .i64 mn, .int .i64 mx, .slice (some ⟨b1, o1, none⟩) 8 k1, .slice (some ⟨b2, o2, none⟩) 8 k2, .slice (some ⟨p, po, none⟩) 2 k3]) := by
 obtain ⟨r, o, hs⟩ := out_rd h
 have lw := h.lw
 have ag : Agree W (W.setRow (w.heap.size + 1) #[.int .i64 c, .int .i64 sm, .int .i64 mn, .int .i64 mx, .slice (some ⟨b1, o1, none⟩) 8 k1, .slice (some ⟨b2, o2, none⟩) 8 k2, .slice (some ⟨p, po, none⟩) 2 k3]) [b1, b2, p, b3, b4] := fun b hb => setRow_other W _ b _ (fun e => by have := o.ge b hb; omega)
 exact ⟨_, _, d, _, rfl, r.agree ag, hs, (o.agree ag).mono (by omega), below_setRow h.bel (by omega) _⟩
theorem insert_any (v0 : Value) (s : Sk) (v : Int) (F : List Nat) (w : World) (h : RdSk w v0 s F) (hs : s.shaped = true) :
 Calls Tryz.prog 142 #[v0, .int .i64 v] w fun e w' => NewShaped2 w e w' := by
 have HH : Hid (RdSk w v0 s F ∧ s.shaped = true) := ⟨h, hs⟩
 obtain ⟨a1, n1, c1, a2, n2, c2, a3, n3, c3, F1, F2, F3, rfl, _⟩ := h
 have HT : Hid (_ ∧ _ ∧ _) := two_made w #[.int .i64 s.count, .int .i64 s.sum, .int .i64 s.min, .int .i64 s.max, .slice a1 n1 c1, .slice a2 n2 c2, .slice a3 n3 c3] #[.int .i64 0, .int .i64 0, .int .i64 0, .int .i64 0, .slice none 0 0, .slice none 0 0, .slice none 0 0] 31 31
 clear hs
 go_enter Tryz.func142, Tryz.ntmps142
 go_wp2_with (first | go_skip | (with_reducible refine stopLoad 31 rfl ?_) | (with_reducible refine stopStore 31 rfl ?_))
 obtain ⟨W0, hW0⟩ : ∃ W0, W0 = (w.alloc (.cells #[.int .i64 s.count, .int .i64 s.sum, .int .i64 s.min, .int .i64 s.max, .slice a1 n1 c1, .slice a2 n2 c2, .slice a3 n3 c3] 31)).alloc (.cells #[.int .i64 0, .int .i64 0, .int .i64 0, .int .i64 0, .slice none 0 0, .slice none 0 0, .slice none 0 0] 31) := ⟨_, rfl⟩
 have hs0 : W0.heap.size = w.heap.size + 1 + 1 := by rw [hW0]; simp
 rw [← hW0] at HT ⊢
 clear hW0
 refine load_any 31 w.heap.size _ 31 _ HT.out.1 rfl rfl rfl Tryz.underlying31 rfl (by kernel_rfl) ?_
 go_wp2_with fail
 refine (l3Copy_roomA _ s F _ (HH.out.1.below HT.out.2.2) (shaped_full HH.out.2)).mono ?_
 rintro e w1 ⟨vv, FF, rfl, rr, oo, bb, ro⟩
 obtain ⟨es, rfl, e7, e1⟩ := rr.cells
 have HM : Hid (Roomy w1 (.agg es)) := ro
 clear ro
 have HE : Hid (RdSk w1 (.agg es) s FF ∧ Own W0.heap.size w1 FF ∧ Below W0.heap.size W0 w1 ∧ es.size = 7 ∧ es.all (·.oneCell') = true) := ⟨rr, oo, bb, e7, e1⟩
 clear rr oo bb e7 e1
 go_wp2_with (first | go_skip | (with_reducible refine stopLoad 31 rfl ?_) | (with_reducible refine stopStore 31 rfl ?_))
 refine store_fresh 31 w1.heap.size rfl #[.int .i64 0, .int .i64 0, .int .i64 0, .int .i64 0, .slice none 0 0, .slice none 0 0, .slice none 0 0] es 31 rfl rfl rfl rfl (skSize HE.out.2.2.2.1) HE.out.2.2.2.1.symm HE.out.2.2.2.2 ?_
 intro W2 hg2 hb2
 have hbw := Below.next HE.out.2.2.1 hb2
 obtain ⟨b1, o1, k1, b2, o2, k2, p, po, k3, b3, o3, j0, b4, o4, j1, l1, l2, x, y, hO⟩ := out_of (w := w) (lo := W0.heap.size) (HE.out.1.below hb2) hg2 (HE.out.2.1.below HE.out.1.lt hb2) HE.out.2.2.1.size (fun hx => by have := HE.out.1.lt _ hx; omega) HH.out.2 (Below.next HT.out.2.2 hbw) (by omega) (HM.out.below hb2)
 have HO2 : Hid (Out w W0.heap.size w1.heap.size s.count s.sum s.min s.max b1 o1 k1 b2 o2 k2 p po k3 b3 o3 j0 b4 o4 j1 l1 l2 x y W2) := hO
 have HB2 : Hid (Blk W2 w.heap.size #[.int .i64 s.count, .int .i64 s.sum, .int .i64 s.min, .int .i64 s.max, .slice a1 n1 c1, .slice a2 n2 c2, .slice a3 n3 c3] 31 ∧ Blk W2 (w.heap.size + 1) #[.int .i64 0, .int .i64 0, .int .i64 0, .int .i64 0, .slice none 0 0, .slice none 0 0, .slice none 0 0] 31) := ⟨HT.out.1.below hbw, HT.out.2.1.below hbw⟩
 clear hg2 hb2 hbw hO HE HT HM
 go_wp2_with (first | go_skip | (with_reducible refine stopLoad 31 rfl ?_) | (with_reducible refine stopStore 31 rfl ?_))
 refine load_any 31 w.heap.size _ 31 _ HB2.out.1 rfl rfl rfl Tryz.underlying31 rfl (by kernel_rfl) ?_
 go_wp2_with fail
 refine (okSpec_any _ s F _ (HH.out.1.below HO2.out.bel) (shaped_wide HH.out.2)).mono ?_
 rintro e w3 ⟨rfl, hb3⟩
 have HO3 : Hid (Out w W0.heap.size w1.heap.size s.count s.sum s.min s.max b1 o1 k1 b2 o2 k2 p po k3 b3 o3 j0 b4 o4 j1 l1 l2 x y w3) := HO2.out.below hb3
 have HB3 : Hid (Blk w3 w.heap.size #[.int .i64 s.count, .int .i64 s.sum, .int .i64 s.min, .int .i64 s.max, .slice a1 n1 c1, .slice a2 n2 c2, .slice a3 n3 c3] 31 ∧ Blk w3 (w.heap.size + 1) #[.int .i64 0, .int .i64 0, .int .i64 0, .int .i64 0, .slice none 0 0, .slice none 0 0, .slice none 0 0] 31) := ⟨HB2.out.1.below hb3, HB2.out.2.below hb3⟩
 clear hb3 HO2 HB2
 cases es : s.ok
 ·
  clear es
  go_wp2_with (first | go_skip | (with_reducible refine stopLoad 31 rfl ?_) | (with_reducible refine stopStore 31 rfl ?_))
  refine load_any 31 w1.heap.size _ 31 _ HO3.out.blk rfl rfl rfl Tryz.underlying31 rfl (by kernel_rfl) ?_
  go_wp2_with (first | go_skip | (with_reducible refine stopLoad 31 rfl ?_) | (with_reducible refine stopStore 31 rfl ?_))
  refine store_known 31 (w.heap.size + 1) _ _ 31 HB3.out.2 rfl rfl rfl rfl (by kernel_rfl) rfl (by kernel_rfl) ?_
  go_wp2
  refine bodyPost_ret (results_row_tmp Tryz.results142 _ _ (w.heap.size + 1) _ _ _ _ rfl HB3.out.2.setRow Tryz.underlying31 rfl (by kernel_rfl)) rfl ?_
  exact newShaped_of HO3.out
 clear es
 go_wp2_with fail
 refine (l1In_any _ _ _ _).mono ?_
 rintro e w4 ⟨rfl, hw4⟩
 have hw4' := hw4.symm
 subst hw4'
 clear hw4
 by_cases hv : 0 ≤ v ∧ v ≤ 1000000
 rotate_left
 ·
  rw [dec_false hv]
  clear hv
  go_wp2_with (first | go_skip | (with_reducible refine stopLoad 31 rfl ?_) | (with_reducible refine stopStore 31 rfl ?_))
  refine load_any 31 w1.heap.size _ 31 _ HO3.out.blk rfl rfl rfl Tryz.underlying31 rfl (by kernel_rfl) ?_
  go_wp2_with (first | go_skip | (with_reducible refine stopLoad 31 rfl ?_) | (with_reducible refine stopStore 31 rfl ?_))
  refine store_known 31 (w.heap.size + 1) _ _ 31 HB3.out.2 rfl rfl rfl rfl (by kernel_rfl) rfl (by kernel_rfl) ?_
  go_wp2
  refine bodyPost_ret (results_row_tmp Tryz.results142 _ _ (w.heap.size + 1) _ _ _ _ rfl HB3.out.2.setRow Tryz.underlying31 rfl (by kernel_rfl)) rfl ?_
  exact newShaped_of HO3.out
 rw [dec_true hv]
 have HV : Hid (0 ≤ v ∧ v ≤ 1000000) := hv
 clear hv
 have x0 := HB3.out.1.cell 0
 have x1 := HB3.out.1.cell 1
 have x2 := HB3.out.1.cell 2
 have x3 := HB3.out.1.cell 3
 have g0 := HO3.out.blk.cell 0
 have g1 := HO3.out.blk.cell 1
 have g2 := HO3.out.blk.cell 2
 have g3 := HO3.out.blk.cell 3
 have f0 := HO3.out.blk.frozen 0
 have f1 := HO3.out.blk.frozen 1
 have f2 := HO3.out.blk.frozen 2
 have f3 := HO3.out.blk.frozen 3
 simp only [aT, aS, aZ] at x0 x1 x2 x3 g0 g1 g2 g3
 have ne : ¬ w1.heap.size = w.heap.size := by have := HO3.out.lw; have := HO3.out.ges; omega
 have ne' : ¬ w.heap.size = w1.heap.size := fun e => ne e.symm
 go_wp2_with fail
 refine (addSpec_any _ _ _).mono ?_
 rintro e w4 ⟨rfl, rfl⟩
 go_wp2_with fail
 refine (addSpec_any _ _ _).mono ?_
 rintro e w4 ⟨rfl, rfl⟩
 go_wp2_with fail
 refine (l1Min_any _ _ _).mono ?_
 rintro e w4 ⟨rfl, rfl⟩
 go_upto_if 37 with fail
 go_cut [] (fun wx => ∃ mq : Int, (Out w W0.heap.size w1.heap.size (addN s.count 1) (addN s.sum v) mq s.max b1 o1 k1 b2 o2 k2 p po k3 b3 o3 j0 b4 o4 j1 l1 l2 x y wx) ∧ (Blk wx w.heap.size #[.int .i64 s.count, .int .i64 s.sum, .int .i64 s.min, .int .i64 s.max, .slice a1 n1 c1, .slice a2 n2 c2, .slice a3 n3 c3] 31 ∧ Blk wx (w.heap.size + 1) #[.int .i64 0, .int .i64 0, .int .i64 0, .int .i64 0, .slice none 0 0, .slice none 0 0, .slice none 0 0] 31))
 case first =>
  have R := (((HO3.out.setC (addN s.count 1)).setS (addN s.sum v)).setMn (Min.min s.min v))
  have B := fun (n : Nat) (u : Value) (W : World) (h : (Blk W w.heap.size #[.int .i64 s.count, .int .i64 s.sum, .int .i64 s.min, .int .i64 s.max, .slice a1 n1 c1, .slice a2 n2 c2, .slice a3 n3 c3] 31 ∧ Blk W (w.heap.size + 1) #[.int .i64 0, .int .i64 0, .int .i64 0, .int .i64 0, .slice none 0 0, .slice none 0 0, .slice none 0 0] 31)) => (show (Blk (W.setCell ⟨w1.heap.size, n, none⟩ u) w.heap.size #[.int .i64 s.count, .int .i64 s.sum, .int .i64 s.min, .int .i64 s.max, .slice a1 n1 c1, .slice a2 n2 c2, .slice a3 n3 c3] 31 ∧ Blk (W.setCell ⟨w1.heap.size, n, none⟩ u) (w.heap.size + 1) #[.int .i64 0, .int .i64 0, .int .i64 0, .int .i64 0, .slice none 0 0, .slice none 0 0, .slice none 0 0] 31) from ⟨h.1.setOther ne' n u, h.2.setOther (by have := HO3.out.lw; have := HO3.out.ges; omega) n u⟩)
  by_cases za : s.count = 0
  ·
   have zab : (s.count == 0) = true := by simpa using za
   clear za
   go_wp2
   go_meet
   case rel => exact ⟨v, R.setMn v, B _ _ _ (B _ _ _ (B _ _ _ (B _ _ _ HB3.out)))⟩
  ·
   have zab : (s.count == 0) = false := by simpa using za
   clear za
   go_wp2
   go_meet
   case rel => exact ⟨Min.min s.min v, R, B _ _ _ (B _ _ _ (B _ _ _ HB3.out))⟩
 case rest =>
  obtain ⟨mq, hO, hB⟩ := hcut
  have HO5 : Hid (Out w W0.heap.size w1.heap.size (addN s.count 1) (addN s.sum v) mq s.max b1 o1 k1 b2 o2 k2 p po k3 b3 o3 j0 b4 o4 j1 l1 l2 x y wc) := hO
  have HB5 : Hid (Blk wc w.heap.size #[.int .i64 s.count, .int .i64 s.sum, .int .i64 s.min, .int .i64 s.max, .slice a1 n1 c1, .slice a2 n2 c2, .slice a3 n3 c3] 31 ∧ Blk wc (w.heap.size + 1) #[.int .i64 0, .int .i64 0, .int .i64 0, .int .i64 0, .slice none 0 0, .slice none 0 0, .slice none 0 0] 31) := hB
  clear hO hB x0 x1 x2 x3 g0 g1 g2 g3 f0 f1 f2 f3 HO3 HB3
  have x3 := HB5.out.1.cell 3
  have g3 := HO5.out.blk.cell 3
  have f3 := HO5.out.blk.frozen 3
  simp only [aT, aS, aZ] at x3 g3
  go_wp2_with fail
  refine (l1Max_any _ _ _).mono ?_
  rintro e w6 ⟨rfl, hw6⟩
  have hw6' := hw6.symm
  subst hw6'
  clear hw6
  go_wp2
  obtain ⟨W6, hW6⟩ : ∃ W6, W6 = wc.setCell ⟨w1.heap.size, 3, none⟩ (.int .i64 (max s.max v)) := ⟨_, rfl⟩
  have hO6 := HO5.out.setMx (max s.max v)
  rw [← hW6] at hO6 ⊢
  have HO6 : Hid (Out w W0.heap.size w1.heap.size (addN s.count 1) (addN s.sum v) mq (max s.max v) b1 o1 k1 b2 o2 k2 p po k3 b3 o3 j0 b4 o4 j1 l1 l2 x y W6) := hO6
  have HB6 : Hid (Blk W6 w.heap.size #[.int .i64 s.count, .int .i64 s.sum, .int .i64 s.min, .int .i64 s.max, .slice a1 n1 c1, .slice a2 n2 c2, .slice a3 n3 c3] 31 ∧ Blk W6 (w.heap.size + 1) #[.int .i64 0, .int .i64 0, .int .i64 0, .int .i64 0, .slice none 0 0, .slice none 0 0, .slice none 0 0] 31) := by rw [hW6]; exact ⟨HB5.out.1.setOther ne' _ _, HB5.out.2.setOther (by have := HO5.out.lw; have := HO5.out.ges; omega) _ _⟩
  clear hW6 hO6 HO5 HB5 x3 g3 f3
  obtain ⟨jb, hjb⟩ := Int.eq_ofNat_of_zero_le (bucketN_range v).1
  have hj8 : jb < 8 := by have := (bucketN_range v).2; omega
  have hj8i : (jb : Int) < 8 := by omega
  have HJ : Hid (bucketN v = (jb : Int)) := hjb
  clear hjb
  obtain ⟨e1, he1⟩ : ∃ e, e = l1.getD jb 0 := ⟨_, rfl⟩
  have cc1 : W6.drew.cell? ⟨b1, o1 + jb, none⟩ = some (.int .i64 e1) := by rw [he1]; exact HO6.out.drew.hist.at jb hj8
  have ff1 : W6.drew.frozen? ⟨b1, o1 + jb, none⟩ = false := HO6.out.drew.own.free b1 (by simp) _
  have HS : Hid (Blk W6.drew w1.heap.size #[.int .i64 (addN s.count 1), .int .i64 (addN s.sum v), .int .i64 mq, .int .i64 (max s.max v), .slice (some ⟨b1, o1, none⟩) 8 k1, .slice (some ⟨b2, o2, none⟩) 8 k2, .slice (some ⟨p, po, none⟩) 2 k3] 31) := HO6.out.drew.blk
  clear he1
  refine wp_region_held (S := fun W => Blk W w1.heap.size #[.int .i64 (addN s.count 1), .int .i64 (addN s.sum v), .int .i64 mq, .int .i64 (max s.max v), .slice (some ⟨b1, o1, none⟩) 8 k1, .slice (some ⟨b2, o2, none⟩) 8 k2, .slice (some ⟨p, po, none⟩) 2 k3] 31) (by kernel_rfl) ?_
  change wpAnyH _ _ _ _ _ _ _ _ (World.drew _)
  refine tg 0 (.pointer (some ⟨w1.heap.size, 4, none⟩)) (H := ⟨HS.out, ?_⟩)
  refine tk 1 (.slice (some ⟨b1, o1, none⟩) 8 k1) (H := ⟨(.inl ⟨rfl, fun W hW => by have c := Blk.cell hW 4; simp only [aT, aS, aZ] at c; go_simp⟩), HS.out, ?_⟩)
  refine tg 2 (.int .i64 v) (H := ⟨HS.out, ?_⟩)
  refine tg 4 (.pointer (some ⟨w1.heap.size, 4, none⟩)) (H := ⟨HS.out, ?_⟩)
  refine tk 5 (.slice (some ⟨b1, o1, none⟩) 8 k1) (H := ⟨(.inl ⟨rfl, fun W hW => by have c := Blk.cell hW 4; simp only [aT, aS, aZ] at c; go_simp⟩), HS.out, ?_⟩)
  refine tg 6 (.int .i64 v) (H := ⟨HS.out, ?_⟩)
  refine oq 3 (H := fun K hK => ?_)
  refine op_call1 163 _ _ Tryz.f163 (fun u w' => u = .int .i64 jb ∧ w' = W6.drew) rfl rfl Tryz.func163 (by kernel_rfl) (by kernel_rfl) ((bucketSpec_any v W6.drew).mono (by rintro e w' ⟨rfl, rfl⟩; exact ⟨_, rfl, by rw [HJ.out], rfl⟩)) ?_
  rintro _ _ ⟨rfl, rfl⟩
  refine pk (h := hK _ _ ⟨HS.out, ?_⟩)
  clear hK
  refine oq 7 (H := fun K hK => ?_)
  refine op_call1 163 _ _ Tryz.f163 (fun u w' => u = .int .i64 jb ∧ w' = W6.drew) rfl rfl Tryz.func163 (by kernel_rfl) (by kernel_rfl) ((bucketSpec_any v W6.drew).mono (by rintro e w' ⟨rfl, rfl⟩; exact ⟨_, rfl, by rw [HJ.out], rfl⟩)) ?_
  rintro _ _ ⟨rfl, rfl⟩
  refine pk (h := hK _ _ ⟨HS.out, ?_⟩)
  clear hK
  refine tg 8 (.pointer (some ⟨b1, o1 + jb, none⟩)) (H := ⟨HS.out, ?_⟩)
  refine oq 9 (H := fun K hK => ?_)
  refine op_value (.int .i64 e1) rfl (by go_simp) (pk (h := hK _ _ ⟨HS.out, ?_⟩))
  clear hK
  refine oq 10 (H := fun K hK => ?_)
  refine op_call2 110 _ _ _ Tryz.f110 (fun w' => w' = W6.drew) (.int .i64 (addN e1 1)) rfl rfl Tryz.func110 (by kernel_rfl) (by kernel_rfl) (addSpec_any e1 1 _) ⟨_, by simp [Act.put]; rfl, ?_⟩
  rintro _ rfl
  refine hK _ _ ⟨HS.out, ?_⟩
  clear hK
  refine tg 11 (.pointer (some ⟨b1, o1 + jb, none⟩)) (H := ⟨HS.out, ?_⟩)
  refine oq 12 (H := fun K hK => ?_)
  have hO7 := HO6.out.drew.setHist jb hj8 (addN e1 1)
  refine op_skip (W6.drew.setCell ⟨b1, o1 + jb, none⟩ (.int .i64 (addN e1 1))) rfl (by go_simp) (pk (h := hK _ _ ⟨hO7.blk, ?_⟩))
  have HO7 : Hid (Out w W0.heap.size w1.heap.size (addN s.count 1) (addN s.sum v) mq (max s.max v) b1 o1 k1 b2 o2 k2 p po k3 b3 o3 j0 b4 o4 j1 (l1.set jb (addN e1 1)) l2 x y (W6.drew.setCell ⟨b1, o1 + jb, none⟩ (.int .i64 (addN e1 1)))) := hO7
  have HB7 : Hid (Blk (W6.drew.setCell ⟨b1, o1 + jb, none⟩ (.int .i64 (addN e1 1))) w.heap.size #[.int .i64 s.count, .int .i64 s.sum, .int .i64 s.min, .int .i64 s.max, .slice a1 n1 c1, .slice a2 n2 c2, .slice a3 n3 c3] 31 ∧ Blk (W6.drew.setCell ⟨b1, o1 + jb, none⟩ (.int .i64 (addN e1 1))) (w.heap.size + 1) #[.int .i64 0, .int .i64 0, .int .i64 0, .int .i64 0, .slice none 0 0, .slice none 0 0, .slice none 0 0] 31) := ⟨HB6.out.1.drew.setOther (by have := HO6.out.lw; have := HO6.out.ges; omega) _ _, HB6.out.2.drew.setOther (by have := HO6.out.lw; have := HO6.out.ges; omega) _ _⟩
  clear hK hO7 cc1 ff1 HO6 HB6 HS
  refine wpAnyH_done (by kernel_rfl) ?_ _
  obtain ⟨W7, hW7⟩ : ∃ W7, W7 = W6.drew.setCell ⟨b1, o1 + jb, none⟩ (.int .i64 (addN e1 1)) := ⟨_, rfl⟩
  rw [← hW7] at HO7 HB7 ⊢
  clear hW7
  obtain ⟨m, hm⟩ := Int.eq_ofNat_of_zero_le (mixN_range v).1
  have hm1 : m < 65536 := by have := (mixN_range v).2; omega
  have HM : Hid (mixN v = (m : Int)) := hm
  clear hm
  go_wp2_with fail
  refine (mixSpec_any _ _).mono ?_
  rintro e w8 ⟨rfl, hw8⟩
  have hw8' := hw8.symm
  subst hw8'
  clear hw8
  rw [HM.out]
  go_upto_region 12 with fail
  obtain ⟨jr, hjr⟩ : ∃ jr, jr = m % 8 := ⟨_, rfl⟩
  have hr8 : jr < 8 := by omega
  have hr8i : (jr : Int) < 8 := by omega
  have hsl : ((m : Int) % 8) = (jr : Int) := by rw [hjr]; omega
  rw [hsl]
  clear hjr hsl
  go_cut [] (fun wx => ∃ L1 L2 X Y, (Out w W0.heap.size w1.heap.size (addN s.count 1) (addN s.sum v) mq (max s.max v) b1 o1 k1 b2 o2 k2 p po k3 b3 o3 j0 b4 o4 j1 L1 L2 X Y wx) ∧ (Blk wx w.heap.size #[.int .i64 s.count, .int .i64 s.sum, .int .i64 s.min, .int .i64 s.max, .slice a1 n1 c1, .slice a2 n2 c2, .slice a3 n3 c3] 31 ∧ Blk wx (w.heap.size + 1) #[.int .i64 0, .int .i64 0, .int .i64 0, .int .i64 0, .slice none 0 0, .slice none 0 0, .slice none 0 0] 31))
  case first =>
   obtain ⟨e2, he2⟩ : ∃ e, e = l2.getD jr 0 := ⟨_, rfl⟩
   have cc2 : W7.drew.cell? ⟨b2, o2 + jr, none⟩ = some (.int .i64 e2) := by rw [he2]; exact HO7.out.drew.regs.at jr hr8
   have ff2 : W7.drew.frozen? ⟨b2, o2 + jr, none⟩ = false := HO7.out.drew.own.free b2 (by simp) _
   have HS : Hid (Blk W7.drew w1.heap.size #[.int .i64 (addN s.count 1), .int .i64 (addN s.sum v), .int .i64 mq, .int .i64 (max s.max v), .slice (some ⟨b1, o1, none⟩) 8 k1, .slice (some ⟨b2, o2, none⟩) 8 k2, .slice (some ⟨p, po, none⟩) 2 k3] 31 ∧ True) := ⟨HO7.out.drew.blk, trivial⟩
   clear he2
   refine wp_region_held (S := fun W => Blk W w1.heap.size #[.int .i64 (addN s.count 1), .int .i64 (addN s.sum v), .int .i64 mq, .int .i64 (max s.max v), .slice (some ⟨b1, o1, none⟩) 8 k1, .slice (some ⟨b2, o2, none⟩) 8 k2, .slice (some ⟨p, po, none⟩) 2 k3] 31 ∧ True) (by kernel_rfl) ?_
   change wpAnyH _ _ _ _ _ _ _ _ (World.drew _)
   refine tg 0 (.pointer (some ⟨w1.heap.size, 5, none⟩)) (H := ⟨HS.out, ?_⟩)
   refine tk 1 (.slice (some ⟨b2, o2, none⟩) 8 k2) (H := ⟨(.inl ⟨rfl, fun W hW => by have c := Blk.cell hW.1 5; simp only [aT, aS, aZ] at c; go_simp⟩), HS.out, ?_⟩)
   refine tg 2 (.int .i64 jr) (H := ⟨HS.out, ?_⟩)
   refine tg 3 (.pointer (some ⟨w1.heap.size, 5, none⟩)) (H := ⟨HS.out, ?_⟩)
   refine tk 4 (.slice (some ⟨b2, o2, none⟩) 8 k2) (H := ⟨(.inl ⟨rfl, fun W hW => by have c := Blk.cell hW.1 5; simp only [aT, aS, aZ] at c; go_simp⟩), HS.out, ?_⟩)
   refine tg 5 (.int .i64 jr) (H := ⟨HS.out, ?_⟩)
   refine tg 6 (.pointer (some ⟨b2, o2 + jr, none⟩)) (H := ⟨HS.out, ?_⟩)
   refine tg 8 (.int .i64 v) (H := ⟨HS.out, ?_⟩)
   refine twoH (o := ?o409) (o' := ?p409) 7 9 (by kernel_rfl) ?h409 ?g409 ?r409 ?s409
   case h409 => simp only [aT, aS, aZ]; rfl
   case g409 => simp only [aT, aS, aZ]; rfl
   case r409 =>
    intro K hK
    refine op_value (.int .i64 e2) rfl (by go_simp) (pk (h := hK _ _ ⟨HS.out, ?_⟩))
    clear hK
    refine oq 9 (H := fun K hK => ?_)
    refine op_call1 165 _ _ Tryz.f165 (fun u w' => u = .int .i64 (rankN v) ∧ w' = W7.drew) rfl rfl Tryz.func165 (by kernel_rfl) (by kernel_rfl) ((rankSpec_any v W7.drew).mono (by rintro e w' ⟨rfl, rfl⟩; exact ⟨_, rfl, rfl, rfl⟩)) ?_
    rintro _ _ ⟨rfl, rfl⟩
    refine pk (h := hK _ _ ⟨HS.out, ?_⟩)
    clear hK
    refine oq 10 (H := fun K hK => ?_)
    refine op_call2 112 _ _ _ Tryz.f112 (fun w' => w' = W7.drew) (.int .i64 (max e2 (rankN v))) rfl rfl Tryz.func112 (by kernel_rfl) (by kernel_rfl) (l1Max_any e2 (rankN v) _) ⟨_, by simp [Act.put]; rfl, ?_⟩
    rintro _ rfl
    refine hK _ _ ⟨HS.out, ?_⟩
    clear hK
    refine tg 11 (.pointer (some ⟨b2, o2 + jr, none⟩)) (H := ⟨HS.out, ?_⟩)
    refine oq 12 (H := fun K hK => ?_)
    have hO8 := HO7.out.drew.setRegs jr hr8 (max e2 (rankN v))
    refine op_skip (W7.drew.setCell ⟨b2, o2 + jr, none⟩ (.int .i64 (max e2 (rankN v)))) rfl (by go_simp) (pk (h := hK _ _ ⟨⟨hO8.blk, trivial⟩, ?_⟩))
    clear hK
    refine wpAnyH_done (by kernel_rfl) ?_ _
    go_wp2_with fail
    go_meet
    case rel => exact ⟨_, _, _, _, hO8, HB7.out.1.drew.setOther (by have := HO7.out.lw; have := HO7.out.ges; omega) _ _, HB7.out.2.drew.setOther (by have := HO7.out.lw; have := HO7.out.ges; omega) _ _⟩
   case s409 =>
    intro K hK
    refine op_call1 165 _ _ Tryz.f165 (fun u w' => u = .int .i64 (rankN v) ∧ w' = W7.drew) rfl rfl Tryz.func165 (by kernel_rfl) (by kernel_rfl) ((rankSpec_any v W7.drew).mono (by rintro e w' ⟨rfl, rfl⟩; exact ⟨_, rfl, rfl, rfl⟩)) ?_
    rintro _ _ ⟨rfl, rfl⟩
    refine pk (h := hK _ _ ⟨HS.out, ?_⟩)
    clear hK
    refine oq 7 (H := fun K hK => ?_)
    refine op_value (.int .i64 e2) rfl (by go_simp) (pk (h := hK _ _ ⟨HS.out, ?_⟩))
    clear hK
    refine oq 10 (H := fun K hK => ?_)
    refine op_call2 112 _ _ _ Tryz.f112 (fun w' => w' = W7.drew) (.int .i64 (max e2 (rankN v))) rfl rfl Tryz.func112 (by kernel_rfl) (by kernel_rfl) (l1Max_any e2 (rankN v) _) ⟨_, by simp [Act.put]; rfl, ?_⟩
    rintro _ rfl
    refine hK _ _ ⟨HS.out, ?_⟩
    clear hK
    refine tg 11 (.pointer (some ⟨b2, o2 + jr, none⟩)) (H := ⟨HS.out, ?_⟩)
    refine oq 12 (H := fun K hK => ?_)
    have hO8 := HO7.out.drew.setRegs jr hr8 (max e2 (rankN v))
    refine op_skip (W7.drew.setCell ⟨b2, o2 + jr, none⟩ (.int .i64 (max e2 (rankN v)))) rfl (by go_simp) (pk (h := hK _ _ ⟨⟨hO8.blk, trivial⟩, ?_⟩))
    clear hK
    refine wpAnyH_done (by kernel_rfl) ?_ _
    go_wp2_with fail
    go_meet
    case rel => exact ⟨_, _, _, _, hO8, HB7.out.1.drew.setOther (by have := HO7.out.lw; have := HO7.out.ges; omega) _ _, HB7.out.2.drew.setOther (by have := HO7.out.lw; have := HO7.out.ges; omega) _ _⟩
  case rest =>
   obtain ⟨L1, L2, X, Y, hO, hB⟩ := hcut
   have HO8 : Hid (Out w W0.heap.size w1.heap.size (addN s.count 1) (addN s.sum v) mq (max s.max v) b1 o1 k1 b2 o2 k2 p po k3 b3 o3 j0 b4 o4 j1 L1 L2 X Y wc) := hO
   have HB8 : Hid (Blk wc w.heap.size #[.int .i64 s.count, .int .i64 s.sum, .int .i64 s.min, .int .i64 s.max, .slice a1 n1 c1, .slice a2 n2 c2, .slice a3 n3 c3] 31 ∧ Blk wc (w.heap.size + 1) #[.int .i64 0, .int .i64 0, .int .i64 0, .int .i64 0, .slice none 0 0, .slice none 0 0, .slice none 0 0] 31) := hB
   clear hO hB HO7 HB7
   go_wp2
   refine wp_loop_rounds 3 ?_
   rw [rounds_succ]
   go_wp2_with fail
   refine (mixSpec_any _ _).mono ?_
   rintro e w9 ⟨rfl, hw9⟩
   have hw9' := hw9.symm
   subst hw9'
   clear hw9
   rw [HM.out]
   obtain ⟨jc0, hjc⟩ : ∃ jc, jc = (m + 0) % 4 := ⟨_, rfl⟩
   have h40 : jc0 < 4 := by omega
   have h4i0 : (jc0 : Int) < 4 := by omega
   have hsl0 : ((m : Int) % 4) = (jc0 : Int) := by rw [hjc]; omega
   clear hjc
   go_wp2
   rw [hsl0]
   clear hsl0
   obtain ⟨e0r, her⟩ : ∃ e, e = X.getD jc0 0 := ⟨_, rfl⟩
   have ccr : wc.drew.cell? ⟨b3, o3 + jc0, none⟩ = some (.int .i64 e0r) := by rw [her]; exact HO8.out.drew.row0.at jc0 h40
   have ffr : wc.drew.frozen? ⟨b3, o3 + jc0, none⟩ = false := HO8.out.drew.own.free b3 (by simp) _
   have HS : Hid ((fun W => Blk W w1.heap.size #[.int .i64 (addN s.count 1), .int .i64 (addN s.sum v), .int .i64 mq, .int .i64 (max s.max v), .slice (some ⟨b1, o1, none⟩) 8 k1, .slice (some ⟨b2, o2, none⟩) 8 k2, .slice (some ⟨p, po, none⟩) 2 k3] 31 ∧ W.cell? ⟨p, po, none⟩ = some (.slice (some ⟨b3, o3, none⟩) 4 j0) ∧ W.cell? ⟨p, po + 1, none⟩ = some (.slice (some ⟨b4, o4, none⟩) 4 j1)) wc.drew) := ⟨HO8.out.drew.blk, HO8.out.drew.c0, HO8.out.drew.c1⟩
   clear her
   refine wp_region_held (S := fun W => Blk W w1.heap.size #[.int .i64 (addN s.count 1), .int .i64 (addN s.sum v), .int .i64 mq, .int .i64 (max s.max v), .slice (some ⟨b1, o1, none⟩) 8 k1, .slice (some ⟨b2, o2, none⟩) 8 k2, .slice (some ⟨p, po, none⟩) 2 k3] 31 ∧ W.cell? ⟨p, po, none⟩ = some (.slice (some ⟨b3, o3, none⟩) 4 j0) ∧ W.cell? ⟨p, po + 1, none⟩ = some (.slice (some ⟨b4, o4, none⟩) 4 j1)) (by kernel_rfl) ?_
   change wpAnyH _ _ _ _ _ _ _ _ (World.drew _)
   refine tg 0 (.pointer (some ⟨w1.heap.size, 6, none⟩)) (H := ⟨HS.out, ?_⟩)
   refine tk 1 (.slice (some ⟨p, po, none⟩) 2 k3) (H := ⟨(.inl ⟨rfl, fun W hW => by have c := Blk.cell hW.1 6; simp only [aT, aS, aZ] at c; go_simp⟩), HS.out, ?_⟩)
   refine tg 2 (.int .i64 0) (H := ⟨HS.out, ?_⟩)
   refine tg 3 (.pointer (some ⟨p, po, none⟩)) (H := ⟨HS.out, ?_⟩)
   refine tk 4 (.slice (some ⟨b3, o3, none⟩) 4 j0) (H := ⟨(.inl ⟨rfl, fun W hW => by have c := hW.2.1; go_simp⟩), HS.out, ?_⟩)
   refine tg 5 (.int .i64 jc0) (H := ⟨HS.out, ?_⟩)
   refine tg 6 (.pointer (some ⟨w1.heap.size, 6, none⟩)) (H := ⟨HS.out, ?_⟩)
   refine tk 7 (.slice (some ⟨p, po, none⟩) 2 k3) (H := ⟨(.inl ⟨rfl, fun W hW => by have c := Blk.cell hW.1 6; simp only [aT, aS, aZ] at c; go_simp⟩), HS.out, ?_⟩)
   refine tg 8 (.int .i64 0) (H := ⟨HS.out, ?_⟩)
   refine tg 9 (.pointer (some ⟨p, po, none⟩)) (H := ⟨HS.out, ?_⟩)
   refine tk 10 (.slice (some ⟨b3, o3, none⟩) 4 j0) (H := ⟨(.inl ⟨rfl, fun W hW => by have c := hW.2.1; go_simp⟩), HS.out, ?_⟩)
   refine tg 11 (.int .i64 jc0) (H := ⟨HS.out, ?_⟩)
   refine tg 12 (.pointer (some ⟨b3, o3 + jc0, none⟩)) (H := ⟨HS.out, ?_⟩)
   refine oq 13 (H := fun K hK => ?_)
   refine op_value (.int .i64 e0r) rfl (by go_simp) (pk (h := hK _ _ ⟨HS.out, ?_⟩))
   clear hK
   refine oq 14 (H := fun K hK => ?_)
   refine op_call2 110 _ _ _ Tryz.f110 (fun w' => w' = wc.drew) (.int .i64 (addN e0r 1)) rfl rfl Tryz.func110 (by kernel_rfl) (by kernel_rfl) (addSpec_any e0r 1 _) ⟨_, by simp [Act.put]; rfl, ?_⟩
   rintro _ rfl
   refine hK _ _ ⟨HS.out, ?_⟩
   clear hK
   refine tg 15 (.pointer (some ⟨b3, o3 + jc0, none⟩)) (H := ⟨HS.out, ?_⟩)
   refine oq 16 (H := fun K hK => ?_)
   have hOn := HO8.out.drew.setRow0 jc0 h40 (addN e0r 1)
   refine op_skip (wc.drew.setCell ⟨b3, o3 + jc0, none⟩ (.int .i64 (addN e0r 1))) rfl (by go_simp) (pk (h := hK _ _ ⟨⟨hOn.blk, hOn.c0, hOn.c1⟩, ?_⟩))
   obtain ⟨Wa, hWn⟩ : ∃ W, W = wc.drew.setCell ⟨b3, o3 + jc0, none⟩ (.int .i64 (addN e0r 1)) := ⟨_, rfl⟩
   have hBn : (Blk Wa w.heap.size #[.int .i64 s.count, .int .i64 s.sum, .int .i64 s.min, .int .i64 s.max, .slice a1 n1 c1, .slice a2 n2 c2, .slice a3 n3 c3] 31 ∧ Blk Wa (w.heap.size + 1) #[.int .i64 0, .int .i64 0, .int .i64 0, .int .i64 0, .slice none 0 0, .slice none 0 0, .slice none 0 0] 31) := by rw [hWn]; exact ⟨HB8.out.1.drew.setOther (by have := HO8.out.lw; have := HO8.out.ges; omega) _ _, HB8.out.2.drew.setOther (by have := HO8.out.lw; have := HO8.out.ges; omega) _ _⟩
   rw [← hWn] at hOn ⊢
   have HO9 : Hid (_) := hOn
   have HB9 : Hid (_ ∧ _) := hBn
   clear hK hWn hOn hBn ccr ffr HS HO8 HB8
   refine wpAnyH_done (by kernel_rfl) ?_ _
   go_wp2_with fail
   rw [rounds_succ]
   go_wp2_with fail
   refine (mixSpec_any _ _).mono ?_
   rintro e w9 ⟨rfl, hw9⟩
   have hw9' := hw9.symm
   subst hw9'
   clear hw9
   rw [HM.out]
   obtain ⟨jc1, hjc⟩ : ∃ jc, jc = (m + 1) % 4 := ⟨_, rfl⟩
   have h41 : jc1 < 4 := by omega
   have h4i1 : (jc1 : Int) < 4 := by omega
   have hsl1 : (((m : Int) + 1) % 4) = (jc1 : Int) := by rw [hjc]; omega
   clear hjc
   go_wp2
   rw [hsl1]
   clear hsl1
   obtain ⟨e1r, her⟩ : ∃ e, e = Y.getD jc1 0 := ⟨_, rfl⟩
   have ccr : Wa.drew.cell? ⟨b4, o4 + jc1, none⟩ = some (.int .i64 e1r) := by rw [her]; exact HO9.out.drew.row1.at jc1 h41
   have ffr : Wa.drew.frozen? ⟨b4, o4 + jc1, none⟩ = false := HO9.out.drew.own.free b4 (by simp) _
   have HS : Hid ((fun W => Blk W w1.heap.size #[.int .i64 (addN s.count 1), .int .i64 (addN s.sum v), .int .i64 mq, .int .i64 (max s.max v), .slice (some ⟨b1, o1, none⟩) 8 k1, .slice (some ⟨b2, o2, none⟩) 8 k2, .slice (some ⟨p, po, none⟩) 2 k3] 31 ∧ W.cell? ⟨p, po, none⟩ = some (.slice (some ⟨b3, o3, none⟩) 4 j0) ∧ W.cell? ⟨p, po + 1, none⟩ = some (.slice (some ⟨b4, o4, none⟩) 4 j1)) Wa.drew) := ⟨HO9.out.drew.blk, HO9.out.drew.c0, HO9.out.drew.c1⟩
   clear her
   refine wp_region_held (S := fun W => Blk W w1.heap.size #[.int .i64 (addN s.count 1), .int .i64 (addN s.sum v), .int .i64 mq, .int .i64 (max s.max v), .slice (some ⟨b1, o1, none⟩) 8 k1, .slice (some ⟨b2, o2, none⟩) 8 k2, .slice (some ⟨p, po, none⟩) 2 k3] 31 ∧ W.cell? ⟨p, po, none⟩ = some (.slice (some ⟨b3, o3, none⟩) 4 j0) ∧ W.cell? ⟨p, po + 1, none⟩ = some (.slice (some ⟨b4, o4, none⟩) 4 j1)) (by kernel_rfl) ?_
   change wpAnyH _ _ _ _ _ _ _ _ (World.drew _)
   refine tg 0 (.pointer (some ⟨w1.heap.size, 6, none⟩)) (H := ⟨HS.out, ?_⟩)
   refine tk 1 (.slice (some ⟨p, po, none⟩) 2 k3) (H := ⟨(.inl ⟨rfl, fun W hW => by have c := Blk.cell hW.1 6; simp only [aT, aS, aZ] at c; go_simp⟩), HS.out, ?_⟩)
   refine tg 2 (.int .i64 1) (H := ⟨HS.out, ?_⟩)
   refine tg 3 (.pointer (some ⟨p, po + 1, none⟩)) (H := ⟨HS.out, ?_⟩)
   refine tk 4 (.slice (some ⟨b4, o4, none⟩) 4 j1) (H := ⟨(.inl ⟨rfl, fun W hW => by have c := hW.2.2; go_simp⟩), HS.out, ?_⟩)
   refine tg 5 (.int .i64 jc1) (H := ⟨HS.out, ?_⟩)
   refine tg 6 (.pointer (some ⟨w1.heap.size, 6, none⟩)) (H := ⟨HS.out, ?_⟩)
   refine tk 7 (.slice (some ⟨p, po, none⟩) 2 k3) (H := ⟨(.inl ⟨rfl, fun W hW => by have c := Blk.cell hW.1 6; simp only [aT, aS, aZ] at c; go_simp⟩), HS.out, ?_⟩)
   refine tg 8 (.int .i64 1) (H := ⟨HS.out, ?_⟩)
   refine tg 9 (.pointer (some ⟨p, po + 1, none⟩)) (H := ⟨HS.out, ?_⟩)
   refine tk 10 (.slice (some ⟨b4, o4, none⟩) 4 j1) (H := ⟨(.inl ⟨rfl, fun W hW => by have c := hW.2.2; go_simp⟩), HS.out, ?_⟩)
   refine tg 11 (.int .i64 jc1) (H := ⟨HS.out, ?_⟩)
   refine tg 12 (.pointer (some ⟨b4, o4 + jc1, none⟩)) (H := ⟨HS.out, ?_⟩)
   refine oq 13 (H := fun K hK => ?_)
   refine op_value (.int .i64 e1r) rfl (by go_simp) (pk (h := hK _ _ ⟨HS.out, ?_⟩))
   clear hK
   refine oq 14 (H := fun K hK => ?_)
   refine op_call2 110 _ _ _ Tryz.f110 (fun w' => w' = Wa.drew) (.int .i64 (addN e1r 1)) rfl rfl Tryz.func110 (by kernel_rfl) (by kernel_rfl) (addSpec_any e1r 1 _) ⟨_, by simp [Act.put]; rfl, ?_⟩
   rintro _ rfl
   refine hK _ _ ⟨HS.out, ?_⟩
   clear hK
   refine tg 15 (.pointer (some ⟨b4, o4 + jc1, none⟩)) (H := ⟨HS.out, ?_⟩)
   refine oq 16 (H := fun K hK => ?_)
   have hOn := HO9.out.drew.setRow1 jc1 h41 (addN e1r 1)
   refine op_skip (Wa.drew.setCell ⟨b4, o4 + jc1, none⟩ (.int .i64 (addN e1r 1))) rfl (by go_simp) (pk (h := hK _ _ ⟨⟨hOn.blk, hOn.c0, hOn.c1⟩, ?_⟩))
   obtain ⟨Wb, hWn⟩ : ∃ W, W = Wa.drew.setCell ⟨b4, o4 + jc1, none⟩ (.int .i64 (addN e1r 1)) := ⟨_, rfl⟩
   have hBn : (Blk Wb w.heap.size #[.int .i64 s.count, .int .i64 s.sum, .int .i64 s.min, .int .i64 s.max, .slice a1 n1 c1, .slice a2 n2 c2, .slice a3 n3 c3] 31 ∧ Blk Wb (w.heap.size + 1) #[.int .i64 0, .int .i64 0, .int .i64 0, .int .i64 0, .slice none 0 0, .slice none 0 0, .slice none 0 0] 31) := by rw [hWn]; exact ⟨HB9.out.1.drew.setOther (by have := HO9.out.lw; have := HO9.out.ges; omega) _ _, HB9.out.2.drew.setOther (by have := HO9.out.lw; have := HO9.out.ges; omega) _ _⟩
   rw [← hWn] at hOn ⊢
   have HO10 : Hid (_) := hOn
   have HB10 : Hid (_ ∧ _) := hBn
   clear hK hWn hOn hBn ccr ffr HS HO9 HB9
   refine wpAnyH_done (by kernel_rfl) ?_ _
   go_wp2_with fail
   rw [rounds_succ]
   go_wp2_with (first | go_skip | (with_reducible refine stopLoad 31 rfl ?_) | (with_reducible refine stopStore 31 rfl ?_))
   refine load_any 31 w1.heap.size _ 31 _ HO10.out.blk rfl rfl rfl Tryz.underlying31 rfl (by kernel_rfl) ?_
   go_wp2_with (first | go_skip | (with_reducible refine stopLoad 31 rfl ?_) | (with_reducible refine stopStore 31 rfl ?_))
   refine store_known 31 (w.heap.size + 1) _ _ 31 HB10.out.2 rfl rfl rfl rfl (by kernel_rfl) rfl (by kernel_rfl) ?_
   go_wp2
   refine bodyPost_ret (results_row_tmp Tryz.results142 _ _ (w.heap.size + 1) _ _ _ _ rfl HB10.out.2.setRow Tryz.underlying31 rfl (by kernel_rfl)) rfl ?_
   exact newShaped_of HO10.out
end
section
set_option maxRecDepth 200000
set_option maxHeartbeats 16000000
open Go.RowKit
def Sk.new : Sk := ⟨0, 0, 0, 0, [0, 0, 0, 0, 0, 0, 0, 0], [0, 0, 0, 0, 0, 0, 0, 0], [[0, 0, 0, 0], [0, 0, 0, 0]]⟩
theorem rdI_blk {W : World} {g n : Nat} {cs : Array Value} {t : TypeId} {zs : List Int} (h : Blk W g cs t) (hc : cs.toList = zs.map (Value.int .i64)) (hn : zs.length = n) (hp : 0 < n) : RdI W (some ⟨g, 0, none⟩) n zs [g] := by
 refine ⟨hn, .inr ⟨g, 0, hp, rfl, rfl, fun i hi => ?_⟩⟩
 rw [Nat.zero_add, h.cell i, ← Array.getElem?_toList, hc, List.getElem?_map, List.getElem?_eq_getElem (by omega)]
 simp [List.getElem?_eq_getElem (show i < zs.length by omega)]
def NewSkX (w : World) (t : TypeId) (e : Ending) (W : World) : Prop := ∃ v F g1 x5 g5 z8, e = .returned v ∧ v = .agg #[.int .i64 0, .int .i64 0, .int .i64 0, .int .i64 0, .slice (some ⟨g1, 0, none⟩) 8 8, x5, .slice (some ⟨g5, 0, none⟩) 2 2] ∧ RdSk W v Sk.new F ∧ Own w.heap.size W F ∧ Below w.heap.size w W ∧ g1 ∈ F ∧ Blk W g1 z8 t ∧ z8.size = 8
theorem newSk_close {w W : World} {g1 g2 g3 g4 g5 : Nat} {z8 z4 : Array Value} {t t' : TypeId} (b1 : Blk W g1 z8 t) (b2 : Blk W g2 z8 t) (b5 : Blk W g5 #[.slice (some ⟨g3, 0, none⟩) 4 4, .slice (some ⟨g4, 0, none⟩) 4 4] t') (b3 : Blk W g3 z4 t) (b4 : Blk W g4 z4 t)
 (hz8 : z8 = madeCells #[.int .i64 0] 8) (hz4 : z4 = madeCells #[.int .i64 0] 4)
 (hn : g1 ≠ g2 ∧ g1 ≠ g3 ∧ g1 ≠ g4 ∧ g1 ≠ g5 ∧ g2 ≠ g3 ∧ g2 ≠ g4 ∧ g2 ≠ g5 ∧ g3 ≠ g4 ∧ g3 ≠ g5 ∧ g4 ≠ g5) (hge : w.heap.size ≤ g1 ∧ w.heap.size ≤ g2 ∧ w.heap.size ≤ g3 ∧ w.heap.size ≤ g4 ∧ w.heap.size ≤ g5) (hb : Below w.heap.size w W) :
 NewSkX w t (.returned (.agg #[.int .i64 0, .int .i64 0, .int .i64 0, .int .i64 0, .slice (some ⟨g1, 0, none⟩) 8 8, .slice (some ⟨g2, 0, none⟩) 8 8, .slice (some ⟨g5, 0, none⟩) 2 2])) W := by
 have e8 : z8.toList = ([0, 0, 0, 0, 0, 0, 0, 0] : List Int).map (Value.int .i64) := by rw [hz8]; kernel_rfl
 have e4 : z4.toList = ([0, 0, 0, 0] : List Int).map (Value.int .i64) := by rw [hz4]; kernel_rfl
 have es : z8.size = 8 := by have := congrArg List.length e8; simpa using this
 refine ⟨_, [g1] ++ ([g2] ++ [g5, g3, g4]), g1, _, g5, z8, rfl, rfl, ⟨_, 8, 8, _, 8, 8, _, 2, 2, [g1], [g2], [g5, g3, g4], rfl, rdI_blk b1 e8 rfl (by omega), rdI_blk b2 e8 rfl (by omega), ⟨rfl, .inr ⟨g5, 0, [g3, g4], by omega, rfl, rfl, ?_⟩⟩, rfl⟩, ⟨?_, ?_, ?_⟩, hb, by simp, b1, es⟩
 ·
  show RdM W [ints [0, 0, 0, 0], ints [0, 0, 0, 0]] g5 0 [g3, g4]
  rw [RdM]
  refine ⟨_, [g3], [g4], by rw [b5.cell 0]; rfl, rd_ints.2 ⟨_, 4, 4, rfl, rdI_blk b3 e4 rfl (by omega)⟩, ?_, rfl⟩
  rw [RdM]
  exact ⟨_, [g4], [], by rw [b5.cell 1]; rfl, rd_ints.2 ⟨_, 4, 4, rfl, rdI_blk b4 e4 rfl (by omega)⟩, by simp [RdM], rfl⟩
 ·
  simp
  omega
 ·
  intro b hx o
  simp at hx
  rcases hx with rfl | rfl | rfl | rfl | rfl
  ·
   exact b1.frozen o
  ·
   exact b2.frozen o
  ·
   exact b5.frozen o
  ·
   exact b3.frozen o
  ·
   exact b4.frozen o
 ·
  intro b hx
  simp at hx
  omega
theorem newSk_close2 {w W : World} {g1 g2 g5 : Nat} {z8 z4 : Array Value} {t t' : TypeId} (b1 : Blk W g1 z8 t) (b2 : Blk W g2 z8 t)
 (h : ∃ g3 g4, Blk W g5 #[.slice (some ⟨g3, 0, none⟩) 4 4, .slice (some ⟨g4, 0, none⟩) 4 4] t' ∧ Blk W g3 z4 t ∧ Blk W g4 z4 t ∧ (g1 ≠ g2 ∧ g1 ≠ g3 ∧ g1 ≠ g4 ∧ g1 ≠ g5 ∧ g2 ≠ g3 ∧ g2 ≠ g4 ∧ g2 ≠ g5 ∧ g3 ≠ g4 ∧ g3 ≠ g5 ∧ g4 ≠ g5) ∧ (w.heap.size ≤ g1 ∧ w.heap.size ≤ g2 ∧ w.heap.size ≤ g3 ∧ w.heap.size ≤ g4 ∧ w.heap.size ≤ g5))
 (hz8 : z8 = madeCells #[.int .i64 0] 8) (hz4 : z4 = madeCells #[.int .i64 0] 4) (hb : Below w.heap.size w W) :
 NewSkX w t (.returned (.agg #[.int .i64 0, .int .i64 0, .int .i64 0, .int .i64 0, .slice (some ⟨g1, 0, none⟩) 8 8, .slice (some ⟨g2, 0, none⟩) 8 8, .slice (some ⟨g5, 0, none⟩) 2 2])) W := by
 obtain ⟨g3, g4, b5, b3, b4, hn, hge⟩ := h
 exact newSk_close b1 b2 b5 b3 b4 hz8 hz4 hn hge hb
theorem newSpec_x (w : World) : Calls Tryz.prog 141 #[] w fun e w' => NewSkX w 3 e w' := by
 obtain ⟨z8, hz8⟩ : ∃ z : Array Value, z = madeCells #[.int .i64 0] 8 := ⟨_, rfl⟩
 obtain ⟨z4, hz4⟩ : ∃ z : Array Value, z = madeCells #[.int .i64 0] 4 := ⟨_, rfl⟩
 have hmk8 : ∀ w : World, (Instr.makeSlice 28 (.int .i64 8) (.int .i64 8)).run Tryz.prog w = .ok (.slice (some ⟨w.heap.size, 0, none⟩) 8 8) (w.alloc (.cells z8 3)) := fun w => by
  rw [hz8]; exact run_make_row' (P := Tryz.prog) 28 3 (.int .i64 0) 8 Tryz.underlying28 infoInt rfl .i64 .i64 8 (by omega) (by omega) w
 have hmk4 : ∀ w : World, (Instr.makeSlice 28 (.int .i64 4) (.int .i64 4)).run Tryz.prog w = .ok (.slice (some ⟨w.heap.size, 0, none⟩) 4 4) (w.alloc (.cells z4 3)) := fun w => by
  rw [hz4]; exact run_make_row' (P := Tryz.prog) 28 3 (.int .i64 0) 8 Tryz.underlying28 infoInt rfl .i64 .i64 4 (by omega) (by omega) w
 have HZ : Hid (z8 = madeCells #[.int .i64 0] 8 ∧ z4 = madeCells #[.int .i64 0] 4) := ⟨hz8, hz4⟩
 clear hz8 hz4
 go_enter Tryz.func141, Tryz.ntmps141
 go_wp2
 go_region
 all_goals
  go_wp2
  refine bodyPost_ret (results_cell_row Tryz.results141 _ _ w.heap.size _ _ (0, 0) _ rfl (Blk.drew (Blk.alloc (Blk.alloc (Blk.alloc (Blk.alloc (Blk.alloc (Blk.made w _ _) _) _) _) _) _)) Tryz.underlying31 rfl (by kernel_rfl)) rfl ?_
  refine newSk_close2 (t := 3) (t' := 28) ?_ ?_ ?_ HZ.out.1 HZ.out.2 ?_
  ·
   apply Blk.drew; repeat (first | (refine Blk.made_eq ?_; simp; done) | apply Blk.alloc)
  ·
   apply Blk.drew; repeat (first | (refine Blk.made_eq ?_; simp; done) | apply Blk.alloc)
  ·
   apply Exists.intro
   apply Exists.intro
   refine ⟨?_, ?_, ?_, ?_, ?_⟩
   ·
    apply Blk.drew; repeat (first | (refine Blk.made_eq ?_; simp; done) | apply Blk.alloc)
   ·
    apply Blk.drew; repeat (first | (refine Blk.made_eq ?_; simp; done) | apply Blk.alloc)
   ·
    apply Blk.drew; repeat (first | (refine Blk.made_eq ?_; simp; done) | apply Blk.alloc)
   ·
    omega
   ·
    omega
  ·
   apply Below.drew; repeat (first | exact Below.refl _ _ | refine Below.allocW _ ?_ (Nat.le_refl _))
end
section
set_option maxRecDepth 200000
set_option maxHeartbeats 16000000
open Go.RowKit
section
variable {P : Program} {ops : Array Oper} {Q : Exit → Act → World → Prop} {a : Act} {w : World} {x : Operand} {o : Oper} {K : Act → World → Prop}
theorem op_load (ty : TypeId) (g : Nat) (cells : Array Value) (t : TypeId) (d : TypeDesc) (hg : Blk w g cells t) (hw : Region.wanted o (yielded ops a.tmps) = true) (ho : o.op = .load ty x) (hx : a.eval x = .pointer (some ⟨g, 0, none⟩))
 (hu : P.underlying ty = some d) (hd : (match d with | .struct _ | .array _ _ => true | _ => false) = true) (hi : (P.info? ty).map (·.size) = some cells.size)
 (h : ∃ a', a.put o.dst (.agg cells) = a' ∧ K a' w) : if Region.wanted o (yielded ops a.tmps) = true then Oper.wp P o a w K Q else K (a.put o.dst undef) w := by
 obtain ⟨_, rfl, h⟩ := h
 rw [if_pos hw]
 exact wp_load_row ty x ho g hx t cells (0, 0) d hg hu hd hi h
end
def NewShaped (w : World) (e : Ending) (w' : World) : Prop :=
 ∃ v s F, e = .returned v ∧ RdR w' v s F ∧ s.shaped = true ∧ Own w.heap.size w' F ∧ Below w.heap.size w w'
theorem NewSkX.rd {w W : World} {e : Ending} (h : NewSkX w 3 e W) : ∃ v F, e = .returned v ∧ RdR W v Sk.new F ∧ Own w.heap.size W F ∧ Below w.heap.size w W := by
 obtain ⟨v, F, g1, x5, g5, z8, h1, h2, h3, h4, h5, h6, h7, h8⟩ := h
 exact ⟨v, F, h1, ⟨h3, _, _, _, _, _, _, _, [g1], _, _, _, _, h2, ⟨g1, 0, rfl, rfl, rfl, ⟨z8, h7, h8⟩, by omega, by decide⟩, by simpa using h6, by omega⟩, h4, h5⟩
theorem new_shaped : Sk.new.shaped = true := by decide
theorem sketched_any (a : Option Addr) (len cap : Nat) (zs : List Int) (FL : List Nat) (w : World) (h : RdI w a len zs FL) (hlen : len ≤ 1048576) :
 Calls Tryz.prog 98 #[.slice a len cap] w fun e w' => NewShaped w e w' := by
 have HR : Hid (RdI w a len zs FL) := h
 have HT : Hid (Blk (w.alloc (.cells #[.int .i64 0, .int .i64 0, .int .i64 0, .int .i64 0, .slice none 0 0, .slice none 0 0, .slice none 0 0] 31)) w.heap.size #[.int .i64 0, .int .i64 0, .int .i64 0, .int .i64 0, .slice none 0 0, .slice none 0 0, .slice none 0 0] 31 ∧ Below w.heap.size w (w.alloc (.cells #[.int .i64 0, .int .i64 0, .int .i64 0, .int .i64 0, .slice none 0 0, .slice none 0 0, .slice none 0 0] 31))) := ⟨Blk.made _ _ _, (Below.refl _ _).alloc (Nat.le_refl _) _⟩
 clear h
 go_enter Tryz.func98, Tryz.ntmps98
 go_wp2_with fail
 refine (newSpec_x _).mono ?_
 intro e w1 hx
 obtain ⟨vv, X, rfl, rr, oo, bb⟩ := hx.rd
 clear hx
 obtain ⟨cs, rfl, e7, e1⟩ := rr.cells
 have HE : Hid (RdR w1 (.agg cs) Sk.new X ∧ Own (w.heap.size + 1) w1 X ∧ cs.size = 7 ∧ cs.all (·.oneCell') = true ∧ Blk w1 w.heap.size #[.int .i64 0, .int .i64 0, .int .i64 0, .int .i64 0, .slice none 0 0, .slice none 0 0, .slice none 0 0] 31 ∧ Below w.heap.size w w1) := ⟨rr, by simpa using oo, e7, e1, HT.out.1.below bb, Below.next HT.out.2 bb⟩
 clear rr oo bb e7 e1 HT
 go_wp2_with (first | go_skip | (with_reducible refine stopLoad 31 rfl ?_) | (with_reducible refine stopStore 31 rfl ?_))
 refine store_fresh 31 w1.heap.size rfl #[.int .i64 0, .int .i64 0, .int .i64 0, .int .i64 0, .slice none 0 0, .slice none 0 0, .slice none 0 0] cs 31 rfl rfl rfl rfl (skSize HE.out.2.2.1) HE.out.2.2.1.symm HE.out.2.2.2.1 ?_
 intro W2 hg2 hb2
 have HV2 : Hid (Blk W2 w1.heap.size cs 31 ∧ RdR W2 (.agg cs) Sk.new X ∧ cs.size = 7 ∧ Own (w.heap.size + 1) W2 X ∧ Below w.heap.size w W2 ∧ Blk W2 w.heap.size #[.int .i64 0, .int .i64 0, .int .i64 0, .int .i64 0, .slice none 0 0, .slice none 0 0, .slice none 0 0] 31 ∧ w.heap.size < w1.heap.size) := ⟨hg2, HE.out.1.below hb2, HE.out.2.2.1, HE.out.2.1.below HE.out.1.lt hb2, Below.next HE.out.2.2.2.2.2 hb2, HE.out.2.2.2.2.1.below hb2, HE.out.2.2.2.2.1.lt⟩
 clear hg2 hb2 HE
 have HEND : Hid (∀ W cs s X, Blk W w1.heap.size cs 31 → RdR W (.agg cs) s X → s.shaped = true → Own (w.heap.size + 1) W X → Below w.heap.size w W → NewShaped w (.returned (.agg cs)) (W.setRow w.heap.size cs)) := fun W cs s X _ q2 q3 q4 q5 => by
  have ag : Agree W (W.setRow w.heap.size cs) X := fun b hb => setRow_other W _ b _ (fun e => by have := q4.ge b hb; omega)
  exact ⟨_, s, X, rfl, q2.agree ag, q3, (q4.agree ag).mono (by omega), below_setRow q5 (Nat.le_refl _) _⟩
 by_cases h0 : len = 0
 ·
  subst h0
  go_wp2
  refine wp_loop_rounds 1 ?_
  rw [rounds_succ]
  go_wp2_with (first | go_skip | (with_reducible refine stopLoad 31 rfl ?_) | (with_reducible refine stopStore 31 rfl ?_))
  refine load_any 31 w1.heap.size cs 31 _ HV2.out.1 rfl rfl rfl Tryz.underlying31 rfl (skSize HV2.out.2.2.1) ?_
  go_wp2_with (first | go_skip | (with_reducible refine stopLoad 31 rfl ?_) | (with_reducible refine stopStore 31 rfl ?_))
  refine store_known 31 w.heap.size _ cs 31 HV2.out.2.2.2.2.2.1 rfl rfl rfl rfl (skSize HV2.out.2.2.1) HV2.out.2.2.1.symm (by obtain ⟨ds, e, _, h8⟩ := HV2.out.2.1.cells; cases e; exact h8) ?_
  go_wp2
  refine bodyPost_ret (results_cell_row Tryz.results98 _ _ w.heap.size _ _ _ _ rfl HV2.out.2.2.2.2.2.1.setRow Tryz.underlying31 rfl (skSize HV2.out.2.2.1)) rfl ?_
  exact HEND.out _ _ _ _ HV2.out.1 HV2.out.2.1 new_shaped HV2.out.2.2.2.1 HV2.out.2.2.2.2.1
 obtain ⟨lb, lof, rfl⟩ := HR.out.addr (by omega)
 have hlb : lb < w.heap.size := World.block_lt_of_cell? _ _ (HR.out.at 0 (by omega))
 have HFL : Hid (∀ b ∈ FL, b < w.heap.size) := HR.out.lt
 go_wp2
 go_loopw [4] (fun i wr => ∃ (k : Nat) (cs : Array Value) (s : Sk) (X : List Nat), k ≤ len ∧ i = .int .i64 k ∧ Hid (Blk wr w1.heap.size cs 31 ∧ RdR wr (.agg cs) s X ∧ cs.size = 7 ∧ s.shaped = true ∧ Own (w.heap.size + 1) wr X ∧ Below w.heap.size w wr ∧ Blk wr w.heap.size #[.int .i64 0, .int .i64 0, .int .i64 0, .int .i64 0, .slice none 0 0, .slice none 0 0, .slice none 0 0] 31 ∧ w.heap.size < w1.heap.size ∧ RdI wr (some ⟨lb, lof, none⟩) len zs FL ∧ lb < w.heap.size)) (fun i _ => len - (intOf i).toNat)
 case atStart => exact ⟨0, cs, Sk.new, X, by omega, rfl, ⟨HV2.out.1, HV2.out.2.1, HV2.out.2.2.1, new_shaped, HV2.out.2.2.2.1, HV2.out.2.2.2.2.1, HV2.out.2.2.2.2.2.1, HV2.out.2.2.2.2.2.2, HR.out.below HV2.out.2.2.2.2.1, hlb⟩⟩
 case round =>
  clear HV2
  obtain ⟨k, cs, s, X, hk, rfl, HV⟩ := hrel
  by_cases hlt : k < len
  ·
   obtain ⟨n, hn⟩ : ∃ n, n = zs.getD k 0 := ⟨_, rfl⟩
   have HS : Hid (wr.drew.cell? ⟨lb, lof + k, none⟩ = some (.int .i64 n)) := by rw [hn]; exact HV.out.2.2.2.2.2.2.2.2.1.at k hlt
   have HCS : Hid (cs.size = 7) := HV.out.2.2.1
   clear hn
   go_wp2
   refine wp_region_held (S := fun W => W.cell? ⟨lb, lof + k, none⟩ = some (.int .i64 n)) (by kernel_rfl) ?_
   change wpAnyH _ _ _ _ _ _ _ _ (World.drew _)
   refine tg 1 (.slice (some ⟨lb, lof, none⟩) len cap) (H := ⟨HS.out, ?_⟩)
   refine tg 2 (.int .i64 k) (H := ⟨HS.out, ?_⟩)
   refine tg 3 (.pointer (some ⟨lb, lof + k, none⟩)) (H := ⟨HS.out, ?_⟩)
   refine tk 4 (.int .i64 n) (H := ⟨(.inl ⟨rfl, fun W hW => by have c := hW; go_simp⟩), HS.out, ?_⟩)
   refine oq 0 (H := fun K hK => ?_)
   refine op_load 31 w1.heap.size cs 31 _ HV.out.1.drew rfl rfl rfl Tryz.underlying31 rfl (skSize HV.out.2.2.1) (pk (h := hK _ _ ⟨HS.out, ?_⟩))
   clear hK
   refine oq 5 (H := fun K hK => ?_)
   refine op_call2' 142 _ _ _ Tryz.f142 (fun u w' => ∃ es s' d X, u = .tuple #[.agg es, .bool d] ∧ es.size = 7 ∧ es.all (·.oneCell') = true ∧ RdR w' (.agg es) s' X ∧ s'.shaped = true ∧ Own wr.drew.heap.size w' X ∧ Below wr.drew.heap.size wr.drew w') rfl rfl Tryz.func142 (by kernel_rfl) (by kernel_rfl) ((insert_any (.agg cs) s n X wr.drew (HV.out.2.1.sk.below (Below.refl _ _).drew) HV.out.2.2.2.1).mono (by rintro e w' ⟨u, s', d, X', rfl, q1, q2, q3, q4⟩; obtain ⟨es, rfl, q5, q6⟩ := q1.cells; exact ⟨_, rfl, es, s', d, X', rfl, q5, q6, q1, q2, q3, q4⟩)) ?_
   rintro _ W5 ⟨es, s', d, X5, rfl, q5, q6, q1, q2, q3, q4⟩
   have HS5 : Hid (W5.cell? ⟨lb, lof + k, none⟩ = some (.int .i64 n)) := (q4.cell (by exact World.block_lt_of_cell? _ _ HS.out)).trans HS.out
   refine pk (h := hK _ _ ⟨HS5.out, ?_⟩)
   have HV5 : Hid (Blk W5 w1.heap.size cs 31 ∧ RdR W5 (.agg es) s' X5 ∧ es.size = 7 ∧ es.all (·.oneCell') = true ∧ s'.shaped = true ∧ Own wr.heap.size W5 X5 ∧ Below w.heap.size w W5 ∧ Blk W5 w.heap.size #[.int .i64 0, .int .i64 0, .int .i64 0, .int .i64 0, .slice none 0 0, .slice none 0 0, .slice none 0 0] 31 ∧ w1.heap.size < wr.heap.size ∧ w.heap.size < w1.heap.size ∧ RdI W5 (some ⟨lb, lof, none⟩) len zs FL ∧ lb < w.heap.size) := ⟨HV.out.1.drew.below q4, q1, q5, q6, q2, q3, Below.next HV.out.2.2.2.2.2.1.drew q4, HV.out.2.2.2.2.2.2.1.drew.below q4, HV.out.1.lt, HV.out.2.2.2.2.2.2.2.1, (HV.out.2.2.2.2.2.2.2.2.1.below (Below.refl _ _).drew).below q4, HV.out.2.2.2.2.2.2.2.2.2⟩
   clear hK q1 q2 q3 q4 q5 q6 HV HS
   refine tg 6 (.tuple #[.agg es, .bool d]) (H := ⟨HS5.out, ?_⟩)
   refine tg 7 (.agg es) (H := ⟨HS5.out, ?_⟩)
   refine tg 8 (.bool d) (H := ⟨HS5.out, ?_⟩)
   refine oq 9 (H := fun K hK => ?_)
   have hne : lb ≠ w1.heap.size := by have := HV5.out.2.2.2.2.2.2.2.2.2.2.2; have := HV5.out.2.2.2.2.2.2.2.2.2.1; omega
   have hsz : (W5.setRow w1.heap.size es).heap.size = W5.heap.size := by simp
   refine op_store 31 w1.heap.size cs es 31 rfl rfl rfl rfl HV5.out.1 (skSize HV5.out.2.2.1) (by rw [HCS.out, HV5.out.2.2.1]) HV5.out.2.2.2.1 (pk (h := hK _ _ ⟨(World.cell?_of_block (w := W5) (a := ⟨lb, lof + k, none⟩) (setRow_other W5 w1.heap.size lb es hne)).trans HS5.out, ?_⟩))
   have ag : Agree W5 (W5.setRow w1.heap.size es) X5 := fun b hb => setRow_other W5 _ b _ (fun e => by have := HV5.out.2.2.2.2.2.1.ge b hb; have := HV5.out.2.2.2.2.2.2.2.2.1; omega)
   have agL : Agree W5 (W5.setRow w1.heap.size es) FL := fun b hb => setRow_other W5 _ b _ (fun e => by have := HFL.out b hb; have := HV5.out.2.2.2.2.2.2.2.2.2.1; omega)
   have HN : Hid (Blk (W5.setRow w1.heap.size es) w1.heap.size es 31 ∧ RdR (W5.setRow w1.heap.size es) (.agg es) s' X5 ∧ es.size = 7 ∧ s'.shaped = true ∧ Own (w.heap.size + 1) (W5.setRow w1.heap.size es) X5 ∧ Below w.heap.size w (W5.setRow w1.heap.size es) ∧ Blk (W5.setRow w1.heap.size es) w.heap.size #[.int .i64 0, .int .i64 0, .int .i64 0, .int .i64 0, .slice none 0 0, .slice none 0 0, .slice none 0 0] 31 ∧ w.heap.size < w1.heap.size ∧ RdI (W5.setRow w1.heap.size es) (some ⟨lb, lof, none⟩) len zs FL ∧ lb < w.heap.size) := ⟨HV5.out.1.setRow, HV5.out.2.1.agree ag, HV5.out.2.2.1, HV5.out.2.2.2.2.1, (HV5.out.2.2.2.2.2.1.agree ag).mono (by have := HV5.out.2.2.2.2.2.2.2.2.1; have := HV5.out.2.2.2.2.2.2.2.2.2.1; omega), below_setRow HV5.out.2.2.2.2.2.2.1 (by have := HV5.out.2.2.2.2.2.2.2.2.2.1; omega) _, HV5.out.2.2.2.2.2.2.2.1.setRowOther (by have := HV5.out.2.2.2.2.2.2.2.2.2.1; omega), HV5.out.2.2.2.2.2.2.2.2.2.1, HV5.out.2.2.2.2.2.2.2.2.2.2.1.agree agL, HV5.out.2.2.2.2.2.2.2.2.2.2.2⟩
   clear hK ag agL hne hsz HV5 HS5
   refine wpAnyH_done (by kernel_rfl) ?_ _
   go_wp2
   go_roundw
   case rel => exact ⟨k + 1, es, s', X5, by omega, by go_num, HN⟩
   case measure => simp [intOf]; omega
  ·
   obtain rfl : k = len := by omega
   go_wp2_with (first | go_skip | (with_reducible refine stopLoad 31 rfl ?_) | (with_reducible refine stopStore 31 rfl ?_))
   refine load_any 31 w1.heap.size cs 31 _ HV.out.1 rfl rfl rfl Tryz.underlying31 rfl (skSize HV.out.2.2.1) ?_
   go_wp2_with (first | go_skip | (with_reducible refine stopLoad 31 rfl ?_) | (with_reducible refine stopStore 31 rfl ?_))
   refine store_known 31 w.heap.size _ cs 31 HV.out.2.2.2.2.2.2.1 rfl rfl rfl rfl (skSize HV.out.2.2.1) HV.out.2.2.1.symm (by obtain ⟨ds, e, _, h8⟩ := HV.out.2.1.cells; cases e; exact h8) ?_
   go_wp2
   refine bodyPost_ret (results_cell_row Tryz.results98 _ _ w.heap.size _ _ _ _ rfl HV.out.2.2.2.2.2.2.1.setRow Tryz.underlying31 rfl (skSize HV.out.2.2.1)) rfl ?_
   exact HEND.out _ _ _ _ HV.out.1 HV.out.2.1 HV.out.2.2.2.1 HV.out.2.2.2.2.1 HV.out.2.2.2.2.2.1
end
section
set_option maxRecDepth 200000
set_option maxHeartbeats 16000000
open Go.RowKit
theorem l1Once_any (g : Nat) (a : Option Addr) (len cap : Nat) (zs : List Int) (i h : Int) (n : Int) (w : World) (C : Cur w g a len cap zs i h) (hlen : len ≤ 1048576) (hn : 0 < n) (hn' : n ≤ 2147483647) :
 Calls Tryz.prog 27 #[.pointer (some ⟨g, 0, none⟩), .int .i64 n] w fun e w' => ∃ b i' h', e = .returned (.bool b) ∧ Cur w' g a len cap zs i' h' ∧ w.grownBy w' (some g) := by
 have HC : Hid (Cur w g a len cap zs i h) := C
 clear C
 go_enter Tryz.func27, Tryz.ntmps27
 go_wp2_with fail
 refine (l1Below_any g a len cap zs i h n _ HC.out hlen hn hn').mono ?_
 rintro e w1 ⟨x, i1, h1, rfl, _, _, C1, g1⟩
 have HC1 : Hid (Cur w1 g a len cap zs i1 h1 ∧ w.grownBy w1 (some g)) := ⟨C1, g1⟩
 clear C1 g1
 go_wp2
 go_ret
 exact ⟨_, i1, h1, rfl, HC1.out.1, HC1.out.2⟩
theorem grown_below {w w' : World} (g : Nat) (b : Below w.heap.size w w') : w.grownBy w' (some g) := ⟨b.os, b.tape, b.output, b.size, fun k hk _ => b.block k hk⟩
def World.bare (w : World) : World := { w with heap := #[] }
theorem bare_below {w W : World} {q : Nat} (k : w.grownBy W (some q)) : Below (World.bare w).heap.size (World.bare w) W := ⟨k.os, k.tape, k.output, Nat.zero_le _, fun j hj => absurd hj (Nat.not_lt_zero j)⟩
theorem Blk.grown {w W : World} {b q : Nat} {cs : Array Value} {t : TypeId} (h : Blk w b cs t) (k : w.grownBy W (some q)) (hq : b ≠ q) : Blk W b cs t := h.agree (k.block b h.lt (fun e => hq (by simpa using e)))
theorem agree_grown {w W : World} {F : List Nat} {q : Nat} (k : w.grownBy W (some q)) (hlt : ∀ b ∈ F, b < w.heap.size) (hq : q ∉ F) : Agree w W F := fun b hb => k.block b (hlt b hb) (fun e => hq (by simp at e; rw [← e]; exact hb))
section
variable {w : World} {lo g : Nat} {c sm mn mx : Int} {b1 o1 k1 b2 o2 k2 p po k3 b3 o3 j0 b4 o4 j1 : Nat} {l1 l2 x y : List Int} {W W' : World}
theorem Out.grown {q : Nat} (h : Out w lo g c sm mn mx b1 o1 k1 b2 o2 k2 p po k3 b3 o3 j0 b4 o4 j1 l1 l2 x y W) (k : W.grownBy W' (some q)) (hq : q < lo) (hw : w.heap.size ≤ q) : Out w lo g c sm mn mx b1 o1 k1 b2 o2 k2 p po k3 b3 o3 j0 b4 o4 j1 l1 l2 x y W' := by
 have ge := h.ges
 have e1 := h.hist.lt b1 (by simp)
 have e2 := h.regs.lt b2 (by simp)
 have e3 := h.row0.lt b3 (by simp)
 have e4 := h.row1.lt b4 (by simp)
 have e5 : p < W.heap.size := World.block_lt_of_cell? _ _ h.c0
 have e6 := h.blk.lt
 have bp := k.block p e5 (fun e => by simp at e; omega)
 exact ⟨h.blk.grown k (by omega), h.hist.agree (agree_grown k (by simpa using e1) (by simp; omega)), h.regs.agree (agree_grown k (by simpa using e2) (by simp; omega)), (World.cell?_of_block (w := W) (a := ⟨p, po, none⟩) bp).trans h.c0, (World.cell?_of_block (w := W) (a := ⟨p, po + 1, none⟩) bp).trans h.c1, h.row0.agree (agree_grown k (by simpa using e3) (by simp; omega)), h.row1.agree (agree_grown k (by simpa using e4) (by simp; omega)), h.own.agree (agree_grown k (fun b hb => by simp at hb; omega) (by simp; omega)), h.bel.grown k h.bel.size (fun j hj => by simp at hj; omega), h.lw, h.room.grown k (by omega), h.wide⟩
end
def DrewShaped (w : World) (q : Nat) (a : Option Addr) (len cap : Nat) (zs : List Int) (e : Ending) (w' : World) : Prop :=
 ∃ v s F i' h', e = .returned v ∧ RdR w' v s F ∧ s.shaped = true ∧ Own w.heap.size w' F ∧ Cur w' q a len cap zs i' h' ∧ w.grownBy w' (some q)
theorem drew_end {w W ww : World} {q lo g : Nat} {c sm mn mx : Int} {b1 o1 k1 b2 o2 k2 p po k3 b3 o3 j0 b4 o4 j1 : Nat} {l1 l2 x y : List Int} {a : Option Addr} {len cap : Nat} {zs : List Int} {i h : Int} (hO : Out ww lo g c sm mn mx b1 o1 k1 b2 o2 k2 p po k3 b3 o3 j0 b4 o4 j1 l1 l2 x y W) (hr : Blk W w.heap.size #[.int .i64 0, .int .i64 0, .int .i64 0, .int .i64 0, .slice none 0 0, .slice none 0 0, .slice none 0 0] 31) (hC : Cur W q a len cap zs i h) (hG : w.grownBy W (some q)) (hq : q < w.heap.size) (hlo : w.heap.size < lo) :
 DrewShaped w q a len cap zs (.returned (.agg #[.int .i64 c, .int .i64 sm, .int .i64 mn, .int .i64 mx, .slice (some ⟨b1, o1, none⟩) 8 k1, .slice (some ⟨b2, o2, none⟩) 8 k2, .slice (some ⟨p, po, none⟩) 2 k3])) (W.setRow w.heap.size #[.int .i64 c, .int .i64 sm, .int .i64 mn, .int .i64 mx, .slice (some ⟨b1, o1, none⟩) 8 k1, .slice (some ⟨b2, o2, none⟩) 8 k2, .slice (some ⟨p, po, none⟩) 2 k3]) := by
 obtain ⟨r, o, hs⟩ := out_rd hO
 have ag : Agree W (W.setRow w.heap.size #[.int .i64 c, .int .i64 sm, .int .i64 mn, .int .i64 mx, .slice (some ⟨b1, o1, none⟩) 8 k1, .slice (some ⟨b2, o2, none⟩) 8 k2, .slice (some ⟨p, po, none⟩) 2 k3]) [b1, b2, p, b3, b4] := fun b hb => setRow_other W _ b _ (fun e => by have := o.ge b hb; omega)
 have hgr : w.grownBy (W.setRow w.heap.size #[.int .i64 c, .int .i64 sm, .int .i64 mn, .int .i64 mx, .slice (some ⟨b1, o1, none⟩) 8 k1, .slice (some ⟨b2, o2, none⟩) 8 k2, .slice (some ⟨p, po, none⟩) 2 k3]) (some q) := ⟨hG.os, hG.tape, hG.output, by simp; exact hG.size, fun b hb hn => (setRow_other W _ b _ (by omega)).trans (hG.block b hb hn)⟩
 refine ⟨_, _, _, i, h, rfl, r.agree ag, hs, (o.agree ag).mono (by omega), ?_, hgr⟩
 refine cur_agree hC (World.block_lt_of_cell? _ _ hC.c0) (setRow_other W _ q _ (by omega)) (fun b hb ⟨off, ha, hp⟩ => setRow_other W _ b _ (fun e => ?_))
 subst e
 rcases hC.rd.cells with h0 | ⟨b', off', ha', hc⟩
 ·
  omega
 ·
  rw [ha] at ha'
  cases ha'
  have e0 := hc 0 hp
  rw [hr.cell] at e0
  match off, e0 with
  | 0, e0 => simp at e0
  | 1, e0 => simp at e0
  | 2, e0 => simp at e0
  | 3, e0 => simp at e0
  | 4, e0 => simp at e0
  | 5, e0 => simp at e0
  | 6, e0 => simp at e0
  | n + 7, e0 => simp at e0
theorem cur_lt {w : World} {q : Nat} {a : Option Addr} {len cap : Nat} {zs : List Int} {i h : Int} (C : Cur w q a len cap zs i h) (b : Nat) (hb : ∃ off, a = some ⟨b, off, none⟩ ∧ 0 < len) : b < w.heap.size := by
 obtain ⟨off, ha, hp⟩ := hb
 rcases C.rd.cells with h0 | ⟨b', off', ha', hc⟩
 ·
  omega
 ·
  rw [ha] at ha'
  cases ha'
  exact World.block_lt_of_cell? _ _ (hc 0 hp)
theorem held_set {w W : World} {q : Nat} {a : Option Addr} {len cap : Nat} {zs : List Int} {i h : Int} {cs : Array Value} {t : TypeId} (H : Blk W w.heap.size cs t ∧ Cur W q a len cap zs i h ∧ w.grownBy W (some q)) (hq : q < w.heap.size) (ha : ∀ b, (∃ off, a = some ⟨b, off, none⟩ ∧ 0 < len) → b < w.heap.size) (k j : Nat) (v : Value) (hk : w.heap.size < k) : Blk (W.setCell ⟨k, j, none⟩ v) w.heap.size cs t ∧ Cur (W.setCell ⟨k, j, none⟩ v) q a len cap zs i h ∧ w.grownBy (W.setCell ⟨k, j, none⟩ v) (some q) := by
 refine ⟨H.1.setOther (by omega) _ _, ?_, ?_⟩
 ·
  exact cur_agree H.2.1 (World.block_lt_of_cell? _ _ H.2.1.c0) (Below.heap_setCell W ⟨k, j, none⟩ v q (by simp; omega)) (fun b _ hb => Below.heap_setCell W ⟨k, j, none⟩ v b (by have := ha b hb; simp; omega))
 ·
  have G := H.2.2
  exact ⟨G.os, G.tape, G.output, by simpa using G.size, fun b hb hn => (Below.heap_setCell W ⟨k, j, none⟩ v b (by simp; omega)).trans (G.block b hb hn)⟩
theorem l3Right_any (q : Nat) (a : Option Addr) (len cap : Nat) (zs : List Int) (i h : Int) (w : World) (C : Cur w q a len cap zs i h) (hlen : len ≤ 1048576) :
 Calls Tryz.prog 101 #[.pointer (some ⟨q, 0, none⟩)] w fun e w' => DrewShaped w q a len cap zs e w' := by
 have hqw : q < w.heap.size := World.block_lt_of_cell? _ _ C.c0
 have hAw := cur_lt C
 have HT : Hid (Blk (w.alloc (.cells #[.int .i64 0, .int .i64 0, .int .i64 0, .int .i64 0, .slice none 0 0, .slice none 0 0, .slice none 0 0] 31)) w.heap.size #[.int .i64 0, .int .i64 0, .int .i64 0, .int .i64 0, .slice none 0 0, .slice none 0 0, .slice none 0 0] 31 ∧ Below w.heap.size w (w.alloc (.cells #[.int .i64 0, .int .i64 0, .int .i64 0, .int .i64 0, .slice none 0 0, .slice none 0 0, .slice none 0 0] 31))) := ⟨Blk.made _ _ _, (Below.refl _ _).alloc (Nat.le_refl _) _⟩
 have HC : Hid (Cur (w.alloc (.cells #[.int .i64 0, .int .i64 0, .int .i64 0, .int .i64 0, .slice none 0 0, .slice none 0 0, .slice none 0 0] 31)) q a len cap zs i h) := C.keep HT.out.2
 clear C
 go_enter Tryz.func101, Tryz.ntmps101
 go_wp2_with fail
 refine (l3Values_any q a len cap zs i h _ HC.out hlen).mono ?_
 rintro e w1 ⟨a', n, cc, xs, F, i1, h1, rfl, r1, hn, o1, C1, g1⟩
 have hlo : w.heap.size < w1.heap.size := by have := g1.size; simp at this; omega
 have HL1 : Hid (Blk w1 w.heap.size #[.int .i64 0, .int .i64 0, .int .i64 0, .int .i64 0, .slice none 0 0, .slice none 0 0, .slice none 0 0] 31 ∧ Cur w1 q a len cap zs i1 h1 ∧ w.grownBy w1 (some q) ∧ RdI w1 a' n xs F) := ⟨HT.out.1.grown g1 (by omega), C1, grown_tr (grown_below q HT.out.2) g1, r1⟩
 clear r1 o1 C1 g1 HT HC
 go_wp2_with fail
 refine (sketched_any a' n cc xs F _ HL1.out.2.2.2 (by omega)).mono ?_
 rintro e w2 ⟨vv, s, X, rfl, rr, hs, oo, bb⟩
 obtain ⟨es, rfl, e7, e1⟩ := rr.cells
 have HE : Hid (RdR w2 (.agg es) s X ∧ Own w1.heap.size w2 X ∧ Below w1.heap.size w1 w2 ∧ es.size = 7 ∧ es.all (·.oneCell') = true ∧ s.shaped = true) := ⟨rr, oo, bb, e7, e1, hs⟩
 clear rr oo bb e7 e1 hs
 go_wp2_with (first | go_skip | (with_reducible refine stopLoad 31 rfl ?_) | (with_reducible refine stopStore 31 rfl ?_))
 refine store_fresh 31 w2.heap.size rfl #[.int .i64 0, .int .i64 0, .int .i64 0, .int .i64 0, .slice none 0 0, .slice none 0 0, .slice none 0 0] es 31 rfl rfl rfl rfl (skSize HE.out.2.2.2.1) HE.out.2.2.2.1.symm HE.out.2.2.2.2.1 ?_
 intro W3 hg3 hb3
 have hbw := Below.next HE.out.2.2.1 hb3
 have hG3 := grown_tr HL1.out.2.2.1 (grown_below q hbw)
 obtain ⟨b1, o1, k1, b2, o2, k2, p, po, k3, b3, o3, j0, b4, o4, j1, l1, l2, x, y, hO⟩ := out_of (w := World.bare w) (lo := w1.heap.size) (HE.out.1.below hb3).sk hg3 (HE.out.2.1.below HE.out.1.lt hb3) HE.out.2.2.1.size (fun hx => by have := HE.out.1.lt _ hx; omega) HE.out.2.2.2.2.2 (bare_below hG3) (by show 0 + 1 < w1.heap.size; omega) (HE.out.1.below hb3).room
 have HO3 : Hid (Out (World.bare w) w1.heap.size w2.heap.size s.count s.sum s.min s.max b1 o1 k1 b2 o2 k2 p po k3 b3 o3 j0 b4 o4 j1 l1 l2 x y W3) := hO
 have HR3 : Hid (Blk W3 w.heap.size #[.int .i64 0, .int .i64 0, .int .i64 0, .int .i64 0, .slice none 0 0, .slice none 0 0, .slice none 0 0] 31 ∧ Cur W3 q a len cap zs i1 h1 ∧ w.grownBy W3 (some q)) := ⟨HL1.out.1.below hbw, HL1.out.2.1.keep hbw, hG3⟩
 have HL : Hid (q < w.heap.size ∧ w.heap.size < w1.heap.size ∧ ∀ b, (∃ off, a = some ⟨b, off, none⟩ ∧ 0 < len) → b < w.heap.size) := ⟨hqw, hlo, hAw⟩
 clear hg3 hb3 hbw hG3 hO HE HL1
 go_wp2_with fail
 refine (l1Once_any q a len cap zs i1 h1 16 _ HR3.out.2.1 hlen (by omega) (by omega)).mono ?_
 rintro e w4 ⟨b, i4, h4, rfl, C4, g4⟩
 have HOX : Hid (Out (World.bare w) w1.heap.size w2.heap.size s.count s.sum s.min s.max b1 o1 k1 b2 o2 k2 p po k3 b3 o3 j0 b4 o4 j1 l1 l2 x y w4) := HO3.out.grown g4 (by omega) (Nat.zero_le _)
 have HRX : Hid (Blk w4 w.heap.size #[.int .i64 0, .int .i64 0, .int .i64 0, .int .i64 0, .slice none 0 0, .slice none 0 0, .slice none 0 0] 31 ∧ Cur w4 q a len cap zs i4 h4 ∧ w.grownBy w4 (some q)) := ⟨HR3.out.1.grown g4 (by omega), C4, grown_tr HR3.out.2.2 g4⟩
 clear C4 g4 HO3 HR3
 cases b
 ·
  go_wp2_with (first | go_skip | (with_reducible refine stopLoad 31 rfl ?_) | (with_reducible refine stopStore 31 rfl ?_))
  refine load_any 31 w2.heap.size _ 31 _ HOX.out.blk rfl rfl rfl Tryz.underlying31 rfl (by kernel_rfl) ?_
  go_wp2_with (first | go_skip | (with_reducible refine stopLoad 31 rfl ?_) | (with_reducible refine stopStore 31 rfl ?_))
  refine store_known 31 w.heap.size _ _ 31 HRX.out.1 rfl rfl rfl rfl (by kernel_rfl) rfl (by kernel_rfl) ?_
  go_wp2
  refine bodyPost_ret (results_cell_row Tryz.results101 _ _ w.heap.size _ _ _ _ rfl HRX.out.1.setRow Tryz.underlying31 rfl (by kernel_rfl)) rfl ?_
  exact drew_end HOX.out HRX.out.1 HRX.out.2.1 HRX.out.2.2 HL.out.1 HL.out.2.1
 have g0 := HOX.out.blk.cell 0
 simp only [aT, aZ] at g0
 by_cases hc : 0 < s.count
 rotate_left
 ·
  have hcb : decide (0 < s.count) = false := dec_false hc
  clear hc
  go_wp2_with (first | go_skip | (with_reducible refine stopLoad 31 rfl ?_) | (with_reducible refine stopStore 31 rfl ?_))
  refine load_any 31 w2.heap.size _ 31 _ HOX.out.blk rfl rfl rfl Tryz.underlying31 rfl (by kernel_rfl) ?_
  go_wp2_with (first | go_skip | (with_reducible refine stopLoad 31 rfl ?_) | (with_reducible refine stopStore 31 rfl ?_))
  refine store_known 31 w.heap.size _ _ 31 HRX.out.1 rfl rfl rfl rfl (by kernel_rfl) rfl (by kernel_rfl) ?_
  go_wp2
  refine bodyPost_ret (results_cell_row Tryz.results101 _ _ w.heap.size _ _ _ _ rfl HRX.out.1.setRow Tryz.underlying31 rfl (by kernel_rfl)) rfl ?_
  exact drew_end HOX.out HRX.out.1 HRX.out.2.1 HRX.out.2.2 HL.out.1 HL.out.2.1
 have hcb : decide (0 < s.count) = true := dec_true hc
 clear hc
 go_wp2_with fail
 refine (l1Below_any q a len cap zs i4 h4 2 _ HRX.out.2.1 hlen (by omega) (by omega)).mono ?_
 rintro e w5 ⟨z, i5, h5, rfl, z0, z1, C5, g5⟩
 have HO5 : Hid (Out (World.bare w) w1.heap.size w2.heap.size s.count s.sum s.min s.max b1 o1 k1 b2 o2 k2 p po k3 b3 o3 j0 b4 o4 j1 l1 l2 x y w5) := HOX.out.grown g5 (by omega) (Nat.zero_le _)
 have HR5 : Hid (Blk w5 w.heap.size #[.int .i64 0, .int .i64 0, .int .i64 0, .int .i64 0, .slice none 0 0, .slice none 0 0, .slice none 0 0] 31 ∧ Cur w5 q a len cap zs i5 h5 ∧ w.grownBy w5 (some q)) := ⟨HRX.out.1.grown g5 (by omega), C5, grown_tr HRX.out.2.2 g5⟩
 clear C5 g5 HOX HRX g0 hcb
 have g0 := HO5.out.blk.cell 0
 have g1 := HO5.out.blk.cell 1
 have g4 := HO5.out.blk.cell 4
 have f0 := HO5.out.blk.frozen 0
 have f1 := HO5.out.blk.frozen 1
 have cE := HO5.out.hist.at 3 (by omega)
 have fE := HO5.out.own.free b1 (by simp) (o1 + 3)
 simp only [aT, aS, aZ] at g0 g1 g4
 have ne1 : ¬ w2.heap.size = b1 := by have := HO5.out.nd; omega
 have ne2 : ¬ b1 = w2.heap.size := fun e => ne1 e.symm
 go_wp2_with (first | go_skip | (with_reducible refine stopLoad 31 rfl ?_) | (with_reducible refine stopStore 31 rfl ?_))
 have HOX : Hid _ := ((HO5.out.setC (1000000000 - z)).setHist 3 (by omega) 1000000000).setS 999999997
 have HRX : Hid _ := held_set (held_set (held_set HR5.out HL.out.1 HL.out.2.2 w2.heap.size 0 (.int .i64 (1000000000 - z)) (by have := HO5.out.ges; have := HL.out.2.1; omega)) HL.out.1 HL.out.2.2 b1 (o1 + 3) (.int .i64 1000000000) (by have := HO5.out.ges; have := HL.out.2.1; omega)) HL.out.1 HL.out.2.2 w2.heap.size 1 (.int .i64 999999997) (by have := HO5.out.ges; have := HL.out.2.1; omega)
 refine load_any 31 w2.heap.size _ 31 _ HOX.out.blk rfl rfl rfl Tryz.underlying31 rfl (by kernel_rfl) ?_
 go_wp2_with (first | go_skip | (with_reducible refine stopLoad 31 rfl ?_) | (with_reducible refine stopStore 31 rfl ?_))
 refine store_known 31 w.heap.size _ _ 31 HRX.out.1 rfl rfl rfl rfl (by kernel_rfl) rfl (by kernel_rfl) ?_
 go_wp2
 refine bodyPost_ret (results_cell_row Tryz.results101 _ _ w.heap.size _ _ _ _ rfl HRX.out.1.setRow Tryz.underlying31 rfl (by kernel_rfl)) rfl ?_
 exact drew_end HOX.out HRX.out.1 HRX.out.2.1 HRX.out.2.2 HL.out.1 HL.out.2.1
end
section
set_option maxRecDepth 200000
set_option maxHeartbeats 16000000
open Go.RowKit
theorem cell_al {W : World} {b i : Nat} {v : Value} (h : W.cell? ⟨b, i, none⟩ = some v) (o : Obj) : (W.alloc o).cell? ⟨b, i, none⟩ = some v :=
 (((Below.refl _ W).alloc (Nat.le_refl _) o).cell (p := ⟨b, i, none⟩) (World.block_lt_of_cell? _ _ h)).trans h
def DrewFull (w : World) (q : Nat) (a : Option Addr) (len cap : Nat) (zs : List Int) (e : Ending) (w' : World) : Prop :=
 ∃ v s F i' h', e = .returned v ∧ RdSk w' v s F ∧ s.full ∧ Own w.heap.size w' F ∧ Cur w' q a len cap zs i' h' ∧ w.grownBy w' (some q)
theorem drew_full {w w' : World} {q : Nat} {a : Option Addr} {len cap : Nat} {zs : List Int} {e : Ending} (h : DrewShaped w q a len cap zs e w') : DrewFull w q a len cap zs e w' := by
 obtain ⟨v, s, F, i', h', e1, e2, e3, e4⟩ := h
 exact ⟨v, s, F, i', h', e1, e2.sk, shaped_full e3, e4⟩
theorem drew_put {w W : World} {q : Nat} {a : Option Addr} {len cap : Nat} {zs : List Int} {i h : Int} {cs : Array Value} {s : Sk} {F : List Nat} (hr : Blk W w.heap.size #[.int .i64 0, .int .i64 0, .int .i64 0, .int .i64 0, .slice none 0 0, .slice none 0 0, .slice none 0 0] 31) (hC : Cur W q a len cap zs i h) (hG : w.grownBy W (some q)) (hq : q < w.heap.size) (r : RdSk W (.agg cs) s F) (hs : s.full) (o : Own (w.heap.size + 1) W F) : DrewFull w q a len cap zs (.returned (.agg cs)) (W.setRow w.heap.size cs) := by
 have ag : Agree W (W.setRow w.heap.size cs) F := fun b hb => setRow_other W _ b _ (fun e => by have := o.ge b hb; omega)
 have hgr : w.grownBy (W.setRow w.heap.size cs) (some q) := ⟨hG.os, hG.tape, hG.output, by simp; exact hG.size, fun b hb hn => (setRow_other W _ b _ (by omega)).trans (hG.block b hb hn)⟩
 refine ⟨_, s, F, i, h, rfl, r.agree ag, hs, (o.agree ag).mono (by omega), ?_, hgr⟩
 refine cur_agree hC (World.block_lt_of_cell? _ _ hC.c0) (setRow_other W _ q _ (by omega)) (fun b hb ⟨off, ha, hp⟩ => setRow_other W _ b _ (fun e => ?_))
 subst e
 rcases hC.rd.cells with h0 | ⟨b', off', ha', hc⟩
 ·
  omega
 ·
  rw [ha] at ha'
  cases ha'
  have e0 := hc 0 hp
  rw [hr.cell] at e0
  match off, e0 with
  | 0, e0 => simp at e0
  | 1, e0 => simp at e0
  | 2, e0 => simp at e0
  | 3, e0 => simp at e0
  | 4, e0 => simp at e0
  | 5, e0 => simp at e0
  | 6, e0 => simp at e0
  | n + 7, e0 => simp at e0
theorem drew_row {w W ww : World} {q lo g : Nat} {c sm mn mx : Int} {b1 o1 k1 b2 o2 k2 p po k3 b3 o3 j0 b4 o4 j1 : Nat} {l1 l2 x y : List Int} {a : Option Addr} {len cap : Nat} {zs : List Int} {i h : Int} {v6 : Value} (hO : Out ww lo g c sm mn mx b1 o1 k1 b2 o2 k2 p po k3 b3 o3 j0 b4 o4 j1 l1 l2 x y W) (hr : Blk (W.setCell ⟨g, 6, none⟩ v6) w.heap.size #[.int .i64 0, .int .i64 0, .int .i64 0, .int .i64 0, .slice none 0 0, .slice none 0 0, .slice none 0 0] 31) (hC : Cur (W.setCell ⟨g, 6, none⟩ v6) q a len cap zs i h) (hG : w.grownBy (W.setCell ⟨g, 6, none⟩ v6) (some q)) (hq : q < w.heap.size) (hlo : w.heap.size + 1 ≤ lo) :
 DrewFull w q a len cap zs (.returned (.agg #[.int .i64 c, .int .i64 sm, .int .i64 mn, .int .i64 mx, .slice (some ⟨b1, o1, none⟩) 8 k1, .slice (some ⟨b2, o2, none⟩) 8 k2, .slice (some ⟨p, po, none⟩) 1 k3])) ((W.setCell ⟨g, 6, none⟩ v6).setRow w.heap.size #[.int .i64 c, .int .i64 sm, .int .i64 mn, .int .i64 mx, .slice (some ⟨b1, o1, none⟩) 8 k1, .slice (some ⟨b2, o2, none⟩) 8 k2, .slice (some ⟨p, po, none⟩) 1 k3]) := by
 have nd := hO.nd
 refine drew_put hr hC hG hq (s := ⟨c, sm, mn, mx, l1, l2, [x]⟩) (F := [b1, b2, p, b3]) ⟨_, 8, k1, _, 8, k2, _, 1, k3, [b1], [b2], [p, b3], rfl, hO.hist.agree (.set (by simp; omega) _ _), hO.regs.agree (.set (by simp; omega) _ _), ⟨rfl, .inr ⟨p, po, [b3], by omega, rfl, rfl, ?_⟩⟩, rfl⟩ ⟨?_, ?_, ?_, ?_⟩ ?_
 ·
  show RdM _ [ints x] p po [b3]
  rw [RdM]
  exact ⟨_, [b3], [], cell_keep hO.c0 (by omega), rd_ints.2 ⟨_, _, _, rfl, hO.row0.agree (.set (by simp; omega) _ _)⟩, by simp [RdM], rfl⟩
 ·
  have := hO.hist.length; simp; omega
 ·
  have := hO.regs.length; simp; omega
 ·
  simp
 ·
  intro z hz
  have := hO.row0.length
  simp at hz
  subst hz
  omega
 ·
  have o := (hO.own.set g 6 v6).mono hlo
  exact ⟨by have := o.nodup; simp at this ⊢; omega, fun b hb => o.free b (by simp at hb ⊢; omega), fun b hb => o.ge b (by simp at hb ⊢; omega)⟩
structure HistX (w W W6 : World) (b1 : Nat) (l1 : List Int) (gB cp : Nat) : Prop where
 own : W6.ownsRow (w.heap.size + 1) 3 1 (.slice (some ⟨gB, 0, none⟩) (8 + 1) cp) (8 + 1) (l1.map (Value.int .i64) ++ [.int .i64 0])
 grow : (W.alloc (.cells #[.int .i64 0] 3)).grownBy W6 (Value.slice (some ⟨b1, 0, none⟩) 8 0).ownBlock
 at_ : (Value.slice (some ⟨b1, 0, none⟩) 8 0).ownBlock = some gB ∨ gB = W.heap.size + 1
theorem HistX.keep {w W W6 : World} {b1 : Nat} {l1 : List Int} {gB cp : Nat} (h : HistX w W W6 b1 l1 gB cp) : ∀ b, b < W.heap.size → b ≠ b1 → W6.heap[b]? = W.heap[b]? := fun b hb hn =>
 (h.grow.block b (by simp; omega) (fun e => hn (by simp [Value.ownBlock] at e; exact e))).trans (Below.heap_alloc W _ b hb)
theorem HistX.which {w W W6 : World} {b1 : Nat} {l1 : List Int} {gB cp : Nat} (h : HistX w W W6 b1 l1 gB cp) : gB = b1 ∨ W.heap.size < gB := by
 rcases h.at_ with e | e
 ·
  left; simp [Value.ownBlock] at e; exact e.symm
 ·
  right; omega
section
variable {w W W6 ww : World} {q g : Nat} {c sm mn mx : Int} {b1 o1 k1 b2 o2 k2 p po k3 b3 o3 j0 b4 o4 j1 : Nat} {l1 l2 x y : List Int} {a : Option Addr} {len cap : Nat} {zs : List Int} {i h : Int} {gB cp : Nat}
theorem HistX.held (hX : HistX w W W6 b1 l1 gB cp) (hO : Out ww (w.heap.size + 1) g c sm mn mx b1 o1 k1 b2 o2 k2 p po k3 b3 o3 j0 b4 o4 j1 l1 l2 x y W) (H : Blk W w.heap.size #[.int .i64 0, .int .i64 0, .int .i64 0, .int .i64 0, .slice none 0 0, .slice none 0 0, .slice none 0 0] 31 ∧ Cur W q a len cap zs i h ∧ w.grownBy W (some q)) (hq : q < w.heap.size) (ha : ∀ b, (∃ off, a = some ⟨b, off, none⟩ ∧ 0 < len) → b < w.heap.size) : Blk W6 w.heap.size #[.int .i64 0, .int .i64 0, .int .i64 0, .int .i64 0, .slice none 0 0, .slice none 0 0, .slice none 0 0] 31 ∧ Cur W6 q a len cap zs i h ∧ w.grownBy W6 (some q) := by
 have ge := hO.ges
 have hs := H.2.2.size
 have hsz : W.heap.size ≤ W6.heap.size := by have := hX.grow.size; simp at this; omega
 refine ⟨H.1.agree (hX.keep _ H.1.lt (by omega)), cur_agree H.2.1 (World.block_lt_of_cell? _ _ H.2.1.c0) (hX.keep q (by omega) (by omega)) (fun b hb hx => hX.keep b hb (by have := ha b hx; omega)), ?_⟩
 exact ⟨hX.grow.os.trans H.2.2.os, hX.grow.tape.trans H.2.2.tape, hX.grow.output.trans H.2.2.output, by omega, fun b hb hn => (hX.keep b (by omega) (by omega)).trans (H.2.2.block b hb hn)⟩
theorem HistX.blk (hX : HistX w W W6 b1 l1 gB cp) (hO : Out ww (w.heap.size + 1) g c sm mn mx b1 o1 k1 b2 o2 k2 p po k3 b3 o3 j0 b4 o4 j1 l1 l2 x y W) : Blk W6 g #[.int .i64 c, .int .i64 sm, .int .i64 mn, .int .i64 mx, .slice (some ⟨b1, o1, none⟩) 8 k1, .slice (some ⟨b2, o2, none⟩) 8 k2, .slice (some ⟨p, po, none⟩) 2 k3] 31 :=
 hO.blk.agree (hX.keep g hO.blk.lt (by have := hO.nd; omega))
theorem drew_hist (hO : Out ww (w.heap.size + 1) g c sm mn mx b1 o1 k1 b2 o2 k2 p po k3 b3 o3 j0 b4 o4 j1 l1 l2 x y W) (hX : HistX w W W6 b1 l1 gB cp) {v6 : Value} (hr : Blk (W6.setCell ⟨g, 4, none⟩ v6) w.heap.size #[.int .i64 0, .int .i64 0, .int .i64 0, .int .i64 0, .slice none 0 0, .slice none 0 0, .slice none 0 0] 31) (hC : Cur (W6.setCell ⟨g, 4, none⟩ v6) q a len cap zs i h) (hG : w.grownBy (W6.setCell ⟨g, 4, none⟩ v6) (some q)) (hq : q < w.heap.size) :
 DrewFull w q a len cap zs (.returned (.agg #[.int .i64 c, .int .i64 sm, .int .i64 mn, .int .i64 mx, .slice (some ⟨gB, 0, none⟩) 9 cp, .slice (some ⟨b2, o2, none⟩) 8 k2, .slice (some ⟨p, po, none⟩) 2 k3])) ((W6.setCell ⟨g, 4, none⟩ v6).setRow w.heap.size #[.int .i64 c, .int .i64 sm, .int .i64 mn, .int .i64 mx, .slice (some ⟨gB, 0, none⟩) 9 cp, .slice (some ⟨b2, o2, none⟩) 8 k2, .slice (some ⟨p, po, none⟩) 2 k3]) := by
 have nd := hO.nd
 have e1 := hO.hist.lt b1 (by simp)
 have e2 := hO.regs.lt b2 (by simp)
 have e3 := hO.row0.lt b3 (by simp)
 have e4 := hO.row1.lt b4 (by simp)
 have e5 : p < W.heap.size := World.block_lt_of_cell? _ _ hO.c0
 have e6 := hO.blk.lt
 have wh := hX.which
 have ag : Agree W W6 [b2, p, b3, b4] := fun b hb => hX.keep b (by simp at hb; omega) (by simp at hb; omega)
 have hown : W6.ownsRow (w.heap.size + 1) 3 1 (.slice (some ⟨gB, 0, none⟩) 9 cp) 9 ((l1 ++ [0]).map (Value.int .i64)) := by rw [List.map_append]; exact hX.own
 obtain ⟨F, hR, hF, hFg⟩ := RdI.of_own hown
 obtain ⟨b', o', hb', rfl⟩ := hR.single (by omega)
 cases hb'
 have hgd : g ≠ gB := by omega
 refine drew_put hr hC hG hq (s := ⟨c, sm, mn, mx, l1 ++ [0], l2, [x, y]⟩) (F := [gB, b2, p, b3, b4]) ⟨_, 9, cp, _, 8, k2, _, 2, k3, [gB], [b2], [p, b3, b4], rfl, hR.agree (.set (by simp; omega) _ _), (hO.regs.agree (ag.mono (by simp))).agree (.set (by simp; omega) _ _), ⟨rfl, .inr ⟨p, po, [b3, b4], by omega, rfl, rfl, ?_⟩⟩, rfl⟩ ⟨?_, ?_, ?_, ?_⟩ ?_
 ·
  have bp := ag p (by simp)
  show RdM _ [ints x, ints y] p po [b3, b4]
  rw [RdM]
  refine ⟨_, [b3], [b4], cell_keep ((World.cell?_of_block (w := W) (a := ⟨p, po, none⟩) bp).trans hO.c0) (by omega), rd_ints.2 ⟨_, _, _, rfl, (hO.row0.agree (ag.mono (by simp))).agree (.set (by simp; omega) _ _)⟩, ?_, rfl⟩
  rw [RdM]
  exact ⟨_, [b4], [], cell_keep ((World.cell?_of_block (w := W) (a := ⟨p, po + 1, none⟩) bp).trans hO.c1) (by omega), rd_ints.2 ⟨_, _, _, rfl, (hO.row1.agree (ag.mono (by simp))).agree (.set (by simp; omega) _ _)⟩, by simp [RdM], rfl⟩
 ·
  have := hO.hist.length; simp; omega
 ·
  have := hO.regs.length; simp; omega
 ·
  simp
 ·
  intro z hz
  have := hO.row0.length
  have := hO.row1.length
  simp at hz
  rcases hz with rfl | rfl <;> omega
 ·
  have oG := hF.set g 4 v6
  have oR : Own (w.heap.size + 1) W6 [b2, p, b3, b4] := (⟨by have := hO.own.nodup; simp at this ⊢; omega, fun b hb => hO.own.free b (by simp at hb ⊢; omega), fun b hb => hO.own.ge b (by simp at hb ⊢; omega)⟩ : Own (w.heap.size + 1) W [b2, p, b3, b4]).agree ag
  exact oG.app (oR.set g 4 v6) (fun b hb => by simp at hb ⊢; omega)
end
theorem l3Draw_any (q : Nat) (a : Option Addr) (len cap : Nat) (zs : List Int) (i h : Int) (w : World) (C : Cur w q a len cap zs i h) (hlen : len ≤ 1048576) :
 Calls Tryz.prog 61 #[.pointer (some ⟨q, 0, none⟩)] w fun e w' => DrewFull w q a len cap zs e w' := by
 have HL : Hid (q < w.heap.size ∧ ∀ b, (∃ off, a = some ⟨b, off, none⟩ ∧ 0 < len) → b < w.heap.size) := ⟨World.block_lt_of_cell? _ _ C.c0, cur_lt C⟩
 have HT : Hid (Blk (w.alloc (.cells #[.int .i64 0, .int .i64 0, .int .i64 0, .int .i64 0, .slice none 0 0, .slice none 0 0, .slice none 0 0] 31)) w.heap.size #[.int .i64 0, .int .i64 0, .int .i64 0, .int .i64 0, .slice none 0 0, .slice none 0 0, .slice none 0 0] 31 ∧ Below w.heap.size w (w.alloc (.cells #[.int .i64 0, .int .i64 0, .int .i64 0, .int .i64 0, .slice none 0 0, .slice none 0 0, .slice none 0 0] 31))) := ⟨Blk.made _ _ _, (Below.refl _ _).alloc (Nat.le_refl _) _⟩
 have HC : Hid (Cur (w.alloc (.cells #[.int .i64 0, .int .i64 0, .int .i64 0, .int .i64 0, .slice none 0 0, .slice none 0 0, .slice none 0 0] 31)) q a len cap zs i h) := C.keep HT.out.2
 clear C
 go_enter Tryz.func61, Tryz.ntmps61
 go_wp2_with fail
 refine (l3Right_any q a len cap zs i h _ HC.out hlen).mono ?_
 rintro e w1 ⟨vv, s, X, i1, h1, rfl, rr, hs, oo, C1, g1⟩
 have hlo : w.heap.size + 1 ≤ w1.heap.size := by have := g1.size; simpa using this
 obtain ⟨es, rfl, e7, e1⟩ := rr.cells
 have HE : Hid (RdR w1 (.agg es) s X ∧ Own (w.heap.size + 1) w1 X ∧ es.size = 7 ∧ es.all (·.oneCell') = true ∧ s.shaped = true) := ⟨rr, by simpa using oo, e7, e1, hs⟩
 have HL1 : Hid (Blk w1 w.heap.size #[.int .i64 0, .int .i64 0, .int .i64 0, .int .i64 0, .slice none 0 0, .slice none 0 0, .slice none 0 0] 31 ∧ Cur w1 q a len cap zs i1 h1 ∧ w.grownBy w1 (some q)) := ⟨HT.out.1.grown g1 (by have := HL.out.1; omega), C1, grown_tr (grown_below q HT.out.2) g1⟩
 clear rr oo e7 e1 hs C1 g1 HT HC
 go_wp2_with (first | go_skip | (with_reducible refine stopLoad 31 rfl ?_) | (with_reducible refine stopStore 31 rfl ?_))
 refine store_fresh 31 w1.heap.size rfl #[.int .i64 0, .int .i64 0, .int .i64 0, .int .i64 0, .slice none 0 0, .slice none 0 0, .slice none 0 0] es 31 rfl rfl rfl rfl (skSize HE.out.2.2.1) HE.out.2.2.1.symm HE.out.2.2.2.1 ?_
 intro W3 hg3 hb3
 have hG3 := grown_tr HL1.out.2.2 (grown_below q hb3)
 obtain ⟨b1, o1, k1, b2, o2, k2, p, po, k3, b3, o3, j0, b4, o4, j1, l1, l2, x, y, hO⟩ := out_of (w := World.bare w) (lo := w.heap.size + 1) (HE.out.1.below hb3).sk hg3 (HE.out.2.1.below HE.out.1.lt hb3) hlo (fun hx => by have := HE.out.1.lt _ hx; omega) HE.out.2.2.2.2 (bare_below hG3) (by show 0 + 1 < w.heap.size + 1; have := HL.out.1; omega) (HE.out.1.below hb3).room
 have HO3 : Hid (Out (World.bare w) (w.heap.size + 1) w1.heap.size s.count s.sum s.min s.max b1 o1 k1 b2 o2 k2 p po k3 b3 o3 j0 b4 o4 j1 l1 l2 x y W3) := hO
 have HR3 : Hid (Blk W3 w.heap.size #[.int .i64 0, .int .i64 0, .int .i64 0, .int .i64 0, .slice none 0 0, .slice none 0 0, .slice none 0 0] 31 ∧ Cur W3 q a len cap zs i1 h1 ∧ w.grownBy W3 (some q)) := ⟨HL1.out.1.below hb3, HL1.out.2.1.keep hb3, hG3⟩
 clear hg3 hb3 hG3 hO HE HL1
 go_wp2_with fail
 refine (l1Below_any q a len cap zs i1 h1 16 _ HR3.out.2.1 hlen (by omega) (by omega)).mono ?_
 rintro e w4 ⟨d, i4, h4, rfl, d0, d1, C4, g4⟩
 have HO4 : Hid (Out (World.bare w) (w.heap.size + 1) w1.heap.size s.count s.sum s.min s.max b1 o1 k1 b2 o2 k2 p po k3 b3 o3 j0 b4 o4 j1 l1 l2 x y w4) := HO3.out.grown g4 (by have := HL.out.1; omega) (Nat.zero_le _)
 have HR4 : Hid (Blk w4 w.heap.size #[.int .i64 0, .int .i64 0, .int .i64 0, .int .i64 0, .slice none 0 0, .slice none 0 0, .slice none 0 0] 31 ∧ Cur w4 q a len cap zs i4 h4 ∧ w.grownBy w4 (some q)) := ⟨HR3.out.1.grown g4 (by have := HL.out.1; omega), C4, grown_tr HR3.out.2.2 g4⟩
 clear C4 g4 HO3 HR3
 by_cases q0 : d = 0
 ·
  subst q0
  go_wp2_with fail
  refine (pickInt_cur q w4.heap.size _ a len cap zs i4 h4 [-1, 1000001, 500] _ (HR4.out.2.1.keep ((Below.refl _ _).alloc (Nat.le_refl _) _)) hlen (fun j hj => lit_ints w4 [-1, 1000001, 500] 3 j hj) (by have := HR4.out.2.2.size; have := HL.out.1; omega) _ rfl (by simp) (by simp)).mono ?_
  rintro e w5 ⟨z, i5, h5, _, rfl, C5, g5⟩
  have gg := grown_tr (World.grownBy_alloc w4 _ (some q)) g5
  have HO5 : Hid (Out (World.bare w) (w.heap.size + 1) w1.heap.size s.count s.sum s.min s.max b1 o1 k1 b2 o2 k2 p po k3 b3 o3 j0 b4 o4 j1 l1 l2 x y w5) := HO4.out.grown gg (by have := HL.out.1; omega) (Nat.zero_le _)
  have HR5 : Hid (Blk w5 w.heap.size #[.int .i64 0, .int .i64 0, .int .i64 0, .int .i64 0, .slice none 0 0, .slice none 0 0, .slice none 0 0] 31 ∧ Cur w5 q a len cap zs i5 h5 ∧ w.grownBy w5 (some q)) := ⟨HR4.out.1.grown gg (by have := HL.out.1; omega), C5, grown_tr HR4.out.2.2 gg⟩
  have HOX : Hid _ := HO5.out.setMn z
  have HRX : Hid _ := held_set HR5.out HL.out.1 HL.out.2 w1.heap.size 2 (.int .i64 z) (by have := HO5.out.ges; omega)
  have f2 := HO5.out.blk.frozen 2
  have c2 := HO5.out.blk.cell 2
  simp only [aT, aS, aZ] at c2
  clear C5 g5 gg
  go_wp2_with (first | go_skip | (with_reducible refine stopLoad 31 rfl ?_) | (with_reducible refine stopStore 31 rfl ?_))
  refine load_any 31 w1.heap.size _ 31 _ HOX.out.blk rfl rfl rfl Tryz.underlying31 rfl (by kernel_rfl) ?_
  go_wp2_with (first | go_skip | (with_reducible refine stopLoad 31 rfl ?_) | (with_reducible refine stopStore 31 rfl ?_))
  refine store_known 31 w.heap.size _ _ 31 HRX.out.1 rfl rfl rfl rfl (by kernel_rfl) rfl (by kernel_rfl) ?_
  go_wp2
  refine bodyPost_ret (results_cell_row Tryz.results61 _ _ w.heap.size _ _ _ _ rfl HRX.out.1.setRow Tryz.underlying31 rfl (by kernel_rfl)) rfl ?_
  exact drew_full (drew_end HOX.out HRX.out.1 HRX.out.2.1 HRX.out.2.2 HL.out.1 (by omega))
 by_cases q1 : d = 1
 ·
  subst q1
  have HS4 : Hid (w4.drew.cell? ⟨w1.heap.size, 5, none⟩ = some (.slice (some ⟨b2, o2, none⟩) 8 k2)) := HO4.out.drew.blk.cell 5
  have HO4d : Hid (Out (World.bare w) (w.heap.size + 1) w1.heap.size s.count s.sum s.min s.max b1 o1 k1 b2 o2 k2 p po k3 b3 o3 j0 b4 o4 j1 l1 l2 x y w4.drew) := HO4.out.drew
  have HR4d : Hid (Blk w4.drew w.heap.size #[.int .i64 0, .int .i64 0, .int .i64 0, .int .i64 0, .slice none 0 0, .slice none 0 0, .slice none 0 0] 31 ∧ Cur w4.drew q a len cap zs i4 h4 ∧ w.grownBy w4.drew (some q)) := ⟨HR4.out.1.drew, HR4.out.2.1.keep (Below.refl _ _).drew, grown_tr HR4.out.2.2 (grown_below q (Below.refl _ _).drew)⟩
  go_wp2
  refine wp_region_held (S := (fun W => W.cell? ⟨w1.heap.size, 5, none⟩ = some (.slice (some ⟨b2, o2, none⟩) 8 k2))) (by kernel_rfl) ?_
  change wpAnyH _ _ _ _ _ _ _ _ (World.drew _)
  refine tg 0 (.pointer (some ⟨w1.heap.size, 5, none⟩)) (H := ⟨HS4.out, ?_⟩)
  refine tk 1 (.slice (some ⟨b2, o2, none⟩) 8 k2) (H := ⟨(.inl ⟨rfl, fun W hW => by have c := hW; go_simp⟩), HS4.out, ?_⟩)
  refine tg 2 (.pointer (some ⟨q, 0, none⟩)) (H := ⟨HS4.out, ?_⟩)
  refine tg 4 (.pointer (some ⟨q, 0, none⟩)) (H := ⟨HS4.out, ?_⟩)
  refine twoH (o := ?o5) (o' := ?p5) 3 5 (by kernel_rfl) ?h5 ?g5 ?r5 ?s5
  case h5 => simp only [aT, aS, aZ]; rfl
  case g5 => simp only [aT, aS, aZ]; rfl
  case r5 =>
   intro K hK
   refine op_call2' 57 _ _ _ Tryz.f57 (fun v w' => ∃ j i' h', v = .int .i64 j ∧ 0 ≤ j ∧ j < 8 ∧ Cur w' q a len cap zs i' h' ∧ w4.drew.grownBy w' (some q)) rfl rfl Tryz.func57 (by kernel_rfl) (by kernel_rfl) ((l1Below_any q a len cap zs i4 h4 8 w4.drew HR4d.out.2.1 hlen (by omega) (by omega)).mono (by rintro e w' ⟨z, i', h', rfl, z0, z1, C, g⟩; exact ⟨_, rfl, z, i', h', rfl, z0, z1, C, g⟩)) ?_
   rintro _ w5 ⟨z, i5, h5, rfl, z0, z1, C5, g5⟩
   obtain ⟨j, rfl⟩ := Int.eq_ofNat_of_zero_le z0
   have hj : j < 8 := by omega
   have HO5 : Hid (Out (World.bare w) (w.heap.size + 1) w1.heap.size s.count s.sum s.min s.max b1 o1 k1 b2 o2 k2 p po k3 b3 o3 j0 b4 o4 j1 l1 l2 x y w5) := HO4d.out.grown g5 (by have := HL.out.1; omega) (Nat.zero_le _)
   have HR5 : Hid (Blk w5 w.heap.size #[.int .i64 0, .int .i64 0, .int .i64 0, .int .i64 0, .slice none 0 0, .slice none 0 0, .slice none 0 0] 31 ∧ Cur w5 q a len cap zs i5 h5 ∧ w.grownBy w5 (some q)) := ⟨HR4d.out.1.grown g5 (by have := HL.out.1; omega), C5, grown_tr HR4d.out.2.2 g5⟩
   have HS5 : Hid (w5.cell? ⟨w1.heap.size, 5, none⟩ = some (.slice (some ⟨b2, o2, none⟩) 8 k2)) := HO5.out.blk.cell 5
   refine pk (h := hK _ _ ⟨HS5.out, ?_⟩)
   clear hK C5 g5 z0 z1 HS4 HO4d HR4d
   refine oq 5 (H := fun K hK => ?_)
   refine op_turn (.slice (some ⟨w5.heap.size, 0, none⟩) 3 3) (w5.alloc (.cells ([-1, 17, 18].map (Value.int .i64)).toArray 3)) rfl (by go_simp) (pk (h := hK _ _ ⟨(HO5.out.blk.alloc _).cell 5, ?_⟩))
   obtain ⟨w6, hW⟩ : ∃ W, W = (w5.alloc (.cells ([-1, 17, 18].map (Value.int .i64)).toArray 3)) := ⟨_, rfl⟩
   rw [← hW]
   have hbw : Below w5.heap.size w5 w6 := by rw [hW]; exact (Below.refl _ _).alloc (Nat.le_refl _) _
   have HLIT : Hid (∀ j, j < ([-1, 17, 18] : List Int).length → w6.cell? ⟨w5.heap.size, j, none⟩ = some (.int .i64 (([-1, 17, 18] : List Int).getD j 0))) := fun j hj => by rw [hW]; exact lit_ints w5 [-1, 17, 18] 3 j hj
   have HO6 : Hid (Out (World.bare w) (w.heap.size + 1) w1.heap.size s.count s.sum s.min s.max b1 o1 k1 b2 o2 k2 p po k3 b3 o3 j0 b4 o4 j1 l1 l2 x y w6) := HO5.out.below hbw
   have HR6 : Hid (Blk w6 w.heap.size #[.int .i64 0, .int .i64 0, .int .i64 0, .int .i64 0, .slice none 0 0, .slice none 0 0, .slice none 0 0] 31 ∧ Cur w6 q a len cap zs i5 h5 ∧ w.grownBy w6 (some q)) := ⟨HR5.out.1.below hbw, HR5.out.2.1.keep hbw, grown_tr HR5.out.2.2 (grown_below q hbw)⟩
   have HS6 : Hid (w6.cell? ⟨w1.heap.size, 5, none⟩ = some (.slice (some ⟨b2, o2, none⟩) 8 k2)) := HO6.out.blk.cell 5
   clear hK hW hbw
   refine oq 6 (H := fun K hK => ?_)
   have hs5 := HR5.out.2.2.size
   refine op_call2' 62 _ _ _ Tryz.f62 (fun v w' => ∃ y i' h', v = .int .i64 y ∧ Cur w' q a len cap zs i' h' ∧ w6.grownBy w' (some q)) rfl rfl Tryz.func62 (by kernel_rfl) (by kernel_rfl) ((pickInt_cur q w5.heap.size _ a len cap zs i5 h5 [-1, 17, 18] w6 HR6.out.2.1 hlen HLIT.out (by have := HL.out.1; have := HR4.out.2.2.size; have := hs5; omega) _ rfl (by simp) (by simp)).mono (by rintro e w' ⟨y, i', h', _, rfl, C, g⟩; exact ⟨_, rfl, y, i', h', rfl, C, g⟩)) ?_
   rintro _ w7 ⟨vy, i7, h7, rfl, C7, g7⟩
   have HO7 : Hid (Out (World.bare w) (w.heap.size + 1) w1.heap.size s.count s.sum s.min s.max b1 o1 k1 b2 o2 k2 p po k3 b3 o3 j0 b4 o4 j1 l1 l2 x y w7) := HO6.out.grown g7 (by have := HL.out.1; omega) (Nat.zero_le _)
   have HR7 : Hid (Blk w7 w.heap.size #[.int .i64 0, .int .i64 0, .int .i64 0, .int .i64 0, .slice none 0 0, .slice none 0 0, .slice none 0 0] 31 ∧ Cur w7 q a len cap zs i7 h7 ∧ w.grownBy w7 (some q)) := ⟨HR6.out.1.grown g7 (by have := HL.out.1; omega), C7, grown_tr HR6.out.2.2 g7⟩
   have HS7 : Hid (w7.cell? ⟨w1.heap.size, 5, none⟩ = some (.slice (some ⟨b2, o2, none⟩) 8 k2)) := HO7.out.blk.cell 5
   refine pk (h := hK _ _ ⟨HS7.out, ?_⟩)
   clear hK C7 g7 HS6 HO6 HR6 HS5 HO5 HR5 HLIT HO4 HR4
   refine tk 7 (.pointer (some ⟨b2, o2 + j, none⟩)) (H := ⟨(.inl ⟨rfl, fun W _ => by go_simp; intro h; omega⟩), HS7.out, ?_⟩)
   refine oq 8 (H := fun K hK => ?_)
   have fE := HO7.out.own.free b2 (by simp) (o2 + j)
   have cE := HO7.out.regs.at j hj
   have HOX : Hid _ := HO7.out.setRegs j hj vy
   have HRX : Hid _ := held_set HR7.out HL.out.1 HL.out.2 b2 (o2 + j) (.int .i64 vy) (by have := HO7.out.ges; omega)
   refine op_skip (w7.setCell ⟨b2, o2 + j, none⟩ (.int .i64 vy)) rfl (by go_simp) (pk (h := hK _ _ ⟨HOX.out.blk.cell 5, ?_⟩))
   clear hK
   refine wpAnyH_done (by kernel_rfl) ?_ _
   clear HO7 HR7 HS7
   go_wp2_with (first | go_skip | (with_reducible refine stopLoad 31 rfl ?_) | (with_reducible refine stopStore 31 rfl ?_))
   refine load_any 31 w1.heap.size _ 31 _ HOX.out.blk rfl rfl rfl Tryz.underlying31 rfl (by kernel_rfl) ?_
   go_wp2_with (first | go_skip | (with_reducible refine stopLoad 31 rfl ?_) | (with_reducible refine stopStore 31 rfl ?_))
   refine store_known 31 w.heap.size _ _ 31 HRX.out.1 rfl rfl rfl rfl (by kernel_rfl) rfl (by kernel_rfl) ?_
   go_wp2
   refine bodyPost_ret (results_cell_row Tryz.results61 _ _ w.heap.size _ _ _ _ rfl HRX.out.1.setRow Tryz.underlying31 rfl (by kernel_rfl)) rfl ?_
   exact drew_full (drew_end HOX.out HRX.out.1 HRX.out.2.1 HRX.out.2.2 HL.out.1 (by omega))
  case s5 =>
   intro K hK
   refine op_turn (.slice (some ⟨w4.drew.heap.size, 0, none⟩) 3 3) (w4.drew.alloc (.cells ([-1, 17, 18].map (Value.int .i64)).toArray 3)) rfl (by go_simp) (pk (h := hK _ _ ⟨(HO4d.out.blk.alloc _).cell 5, ?_⟩))
   obtain ⟨w6, hW⟩ : ∃ W, W = (w4.drew.alloc (.cells ([-1, 17, 18].map (Value.int .i64)).toArray 3)) := ⟨_, rfl⟩
   rw [← hW]
   have hbw : Below w4.drew.heap.size w4.drew w6 := by rw [hW]; exact (Below.refl _ _).alloc (Nat.le_refl _) _
   have HLIT : Hid (∀ j, j < ([-1, 17, 18] : List Int).length → w6.cell? ⟨w4.drew.heap.size, j, none⟩ = some (.int .i64 (([-1, 17, 18] : List Int).getD j 0))) := fun j hj => by rw [hW]; exact lit_ints w4.drew [-1, 17, 18] 3 j hj
   have HO6 : Hid (Out (World.bare w) (w.heap.size + 1) w1.heap.size s.count s.sum s.min s.max b1 o1 k1 b2 o2 k2 p po k3 b3 o3 j0 b4 o4 j1 l1 l2 x y w6) := HO4d.out.below hbw
   have HR6 : Hid (Blk w6 w.heap.size #[.int .i64 0, .int .i64 0, .int .i64 0, .int .i64 0, .slice none 0 0, .slice none 0 0, .slice none 0 0] 31 ∧ Cur w6 q a len cap zs i4 h4 ∧ w.grownBy w6 (some q)) := ⟨HR4d.out.1.below hbw, HR4d.out.2.1.keep hbw, grown_tr HR4d.out.2.2 (grown_below q hbw)⟩
   have HS6 : Hid (w6.cell? ⟨w1.heap.size, 5, none⟩ = some (.slice (some ⟨b2, o2, none⟩) 8 k2)) := HO6.out.blk.cell 5
   have hd : w4.drew.heap.size = w4.heap.size := rfl
   clear hK hW HS4 HO4d HR4d
   refine oq 3 (H := fun K hK => ?_)
   refine op_call2' 57 _ _ _ Tryz.f57 (fun v w' => ∃ j i' h', v = .int .i64 j ∧ 0 ≤ j ∧ j < 8 ∧ Cur w' q a len cap zs i' h' ∧ w6.grownBy w' (some q)) rfl rfl Tryz.func57 (by kernel_rfl) (by kernel_rfl) ((l1Below_any q a len cap zs i4 h4 8 w6 HR6.out.2.1 hlen (by omega) (by omega)).mono (by rintro e w' ⟨z, i', h', rfl, z0, z1, C, g⟩; exact ⟨_, rfl, z, i', h', rfl, z0, z1, C, g⟩)) ?_
   rintro _ w5 ⟨z, i5, h5, rfl, z0, z1, C5, g5⟩
   obtain ⟨j, rfl⟩ := Int.eq_ofNat_of_zero_le z0
   have hj : j < 8 := by omega
   have HO5 : Hid (Out (World.bare w) (w.heap.size + 1) w1.heap.size s.count s.sum s.min s.max b1 o1 k1 b2 o2 k2 p po k3 b3 o3 j0 b4 o4 j1 l1 l2 x y w5) := HO6.out.grown g5 (by have := HL.out.1; omega) (Nat.zero_le _)
   have HR5 : Hid (Blk w5 w.heap.size #[.int .i64 0, .int .i64 0, .int .i64 0, .int .i64 0, .slice none 0 0, .slice none 0 0, .slice none 0 0] 31 ∧ Cur w5 q a len cap zs i5 h5 ∧ w.grownBy w5 (some q)) := ⟨HR6.out.1.grown g5 (by have := HL.out.1; omega), C5, grown_tr HR6.out.2.2 g5⟩
   have HS5 : Hid (w5.cell? ⟨w1.heap.size, 5, none⟩ = some (.slice (some ⟨b2, o2, none⟩) 8 k2)) := HO5.out.blk.cell 5
   have HLIT5 : Hid (∀ j, j < ([-1, 17, 18] : List Int).length → w5.cell? ⟨w4.drew.heap.size, j, none⟩ = some (.int .i64 (([-1, 17, 18] : List Int).getD j 0))) := fun j hj => (World.cell?_of_block (g5.block w4.drew.heap.size (World.block_lt_of_cell? _ _ (HLIT.out j hj)) (fun e => by have := HR4.out.2.2.size; have := HL.out.1; simp at e; omega))).trans (HLIT.out j hj)
   refine pk (h := hK _ _ ⟨HS5.out, ?_⟩)
   clear hK C5 g5 z0 z1 hbw
   refine oq 6 (H := fun K hK => ?_)
   refine op_call2' 62 _ _ _ Tryz.f62 (fun v w' => ∃ y i' h', v = .int .i64 y ∧ Cur w' q a len cap zs i' h' ∧ w5.grownBy w' (some q)) rfl rfl Tryz.func62 (by kernel_rfl) (by kernel_rfl) ((pickInt_cur q w4.drew.heap.size _ a len cap zs i5 h5 [-1, 17, 18] w5 HR5.out.2.1 hlen HLIT5.out (by have := HL.out.1; have := HR4.out.2.2.size; omega) _ rfl (by simp) (by simp)).mono (by rintro e w' ⟨y, i', h', _, rfl, C, g⟩; exact ⟨_, rfl, y, i', h', rfl, C, g⟩)) ?_
   rintro _ w7 ⟨vy, i7, h7, rfl, C7, g7⟩
   have HO7 : Hid (Out (World.bare w) (w.heap.size + 1) w1.heap.size s.count s.sum s.min s.max b1 o1 k1 b2 o2 k2 p po k3 b3 o3 j0 b4 o4 j1 l1 l2 x y w7) := HO5.out.grown g7 (by have := HL.out.1; omega) (Nat.zero_le _)
   have HR7 : Hid (Blk w7 w.heap.size #[.int .i64 0, .int .i64 0, .int .i64 0, .int .i64 0, .slice none 0 0, .slice none 0 0, .slice none 0 0] 31 ∧ Cur w7 q a len cap zs i7 h7 ∧ w.grownBy w7 (some q)) := ⟨HR5.out.1.grown g7 (by have := HL.out.1; omega), C7, grown_tr HR5.out.2.2 g7⟩
   have HS7 : Hid (w7.cell? ⟨w1.heap.size, 5, none⟩ = some (.slice (some ⟨b2, o2, none⟩) 8 k2)) := HO7.out.blk.cell 5
   refine pk (h := hK _ _ ⟨HS7.out, ?_⟩)
   clear hK C7 g7 HS6 HO6 HR6 HS5 HO5 HR5 HLIT HLIT5 HO4 HR4 hd
   refine tk 7 (.pointer (some ⟨b2, o2 + j, none⟩)) (H := ⟨(.inl ⟨rfl, fun W _ => by go_simp; intro h; omega⟩), HS7.out, ?_⟩)
   refine oq 8 (H := fun K hK => ?_)
   have fE := HO7.out.own.free b2 (by simp) (o2 + j)
   have cE := HO7.out.regs.at j hj
   have HOX : Hid _ := HO7.out.setRegs j hj vy
   have HRX : Hid _ := held_set HR7.out HL.out.1 HL.out.2 b2 (o2 + j) (.int .i64 vy) (by have := HO7.out.ges; omega)
   refine op_skip (w7.setCell ⟨b2, o2 + j, none⟩ (.int .i64 vy)) rfl (by go_simp) (pk (h := hK _ _ ⟨HOX.out.blk.cell 5, ?_⟩))
   clear hK
   refine wpAnyH_done (by kernel_rfl) ?_ _
   clear HO7 HR7 HS7
   go_wp2_with (first | go_skip | (with_reducible refine stopLoad 31 rfl ?_) | (with_reducible refine stopStore 31 rfl ?_))
   refine load_any 31 w1.heap.size _ 31 _ HOX.out.blk rfl rfl rfl Tryz.underlying31 rfl (by kernel_rfl) ?_
   go_wp2_with (first | go_skip | (with_reducible refine stopLoad 31 rfl ?_) | (with_reducible refine stopStore 31 rfl ?_))
   refine store_known 31 w.heap.size _ _ 31 HRX.out.1 rfl rfl rfl rfl (by kernel_rfl) rfl (by kernel_rfl) ?_
   go_wp2
   refine bodyPost_ret (results_cell_row Tryz.results61 _ _ w.heap.size _ _ _ _ rfl HRX.out.1.setRow Tryz.underlying31 rfl (by kernel_rfl)) rfl ?_
   exact drew_full (drew_end HOX.out HRX.out.1 HRX.out.2.1 HRX.out.2.2 HL.out.1 (by omega))
 by_cases q2 : d = 2
 ·
  subst q2
  have c4 := HO4.out.blk.cell 4
  have f4 := HO4.out.blk.frozen 4
  simp only [aT, aS, aZ] at c4
  have hsz := HR4.out.2.2.size
  have hb1 := HO4.out.ges
  have HW : Hid (w4.ownsRow (w.heap.size + 1) 3 1 (.slice (some ⟨b1, o1, none⟩) 8 k1) 8 (l1.map (Value.int .i64))) := HO4.out.room.to_own HO4.out.hist hb1.2.1
  obtain ⟨t0, hi, hz0, hz1, hz2⟩ := info_parts infoInt
  have hs4 : (w4.alloc (.cells #[.int .i64 0] 3)).heap.size = w4.heap.size + 1 := by simp
  go_wp2_with (at_builtin; (refine wpList_append_lies _ rfl _ _ 28 rfl (w.heap.size + 1) 3 t0 (.int .i64 0) 1 8 Tryz.underlying28 hi hz0 hz1 hz2 rfl (by decide) _ 8 (l1.map (Value.int .i64)) rfl (HW.out.alloc _) ⟨w4.heap.size, 0, none⟩ 1 1 [.int .i64 0] rfl rfl (cell_new1 _ _ _) (by intro u hu; simp at hu; subst hu; rfl) (by decide) (by unfold maxLen; omega) (by omega) (by have := HO4.out.blk.lt; simp; omega) (w4.heap.size + 1) hs4 ?_))
  intro gB cp w6 hown hgrow hat hltB
  have HX : Hid (HistX w w4 w6 b1 l1 gB cp) := ⟨hown, hgrow, hat⟩
  clear hown hgrow hat hs4
  have HR6 : Hid (Blk w6 w.heap.size #[.int .i64 0, .int .i64 0, .int .i64 0, .int .i64 0, .slice none 0 0, .slice none 0 0, .slice none 0 0] 31 ∧ Cur w6 q a len cap zs i4 h4 ∧ w.grownBy w6 (some q)) := HX.out.held HO4.out HR4.out HL.out.1 HL.out.2
  have HRX : Hid _ := held_set HR6.out HL.out.1 HL.out.2 w1.heap.size 4 (.slice (some ⟨gB, 0, none⟩) 9 cp) (by have := HO4.out.ges; omega)
  have HB6 : Hid (Blk w6 w1.heap.size #[.int .i64 s.count, .int .i64 s.sum, .int .i64 s.min, .int .i64 s.max, .slice (some ⟨b1, o1, none⟩) 8 k1, .slice (some ⟨b2, o2, none⟩) 8 k2, .slice (some ⟨p, po, none⟩) 2 k3] 31) := HX.out.blk HO4.out
  have HBX : Hid _ := HB6.out.set 4 (.slice (some ⟨gB, 0, none⟩) 9 cp)
  have c4 := HB6.out.cell 4
  have f4 := HB6.out.frozen 4
  simp only [aT, aS, aZ] at c4
  go_wp2_with (first | go_skip | (with_reducible refine stopLoad 31 rfl ?_) | (with_reducible refine stopStore 31 rfl ?_))
  refine load_any 31 w1.heap.size _ 31 _ HBX.out rfl rfl rfl Tryz.underlying31 rfl (by kernel_rfl) ?_
  go_wp2_with (first | go_skip | (with_reducible refine stopLoad 31 rfl ?_) | (with_reducible refine stopStore 31 rfl ?_))
  refine store_known 31 w.heap.size _ _ 31 HRX.out.1 rfl rfl rfl rfl (by kernel_rfl) rfl (by kernel_rfl) ?_
  go_wp2
  refine bodyPost_ret (results_cell_row Tryz.results61 _ _ w.heap.size _ _ _ _ rfl HRX.out.1.setRow Tryz.underlying31 rfl (by kernel_rfl)) rfl ?_
  exact drew_hist HO4.out HX.out HRX.out.1 HRX.out.2.1 HRX.out.2.2 HL.out.1
 by_cases q3 : d = 3
 ·
  subst q3
  have c6 := HO4.out.blk.cell 6
  have f6 := HO4.out.blk.frozen 6
  have hk3 := HO4.out.wide
  simp only [aT, aS, aZ] at c6
  have HRX : Hid _ := held_set HR4.out HL.out.1 HL.out.2 w1.heap.size 6 (.slice (some ⟨p, po, none⟩) 1 k3) (by have := HO4.out.ges; omega)
  have HBX : Hid _ := HO4.out.blk.set 6 (.slice (some ⟨p, po, none⟩) 1 k3)
  go_wp2_with (first | go_skip | (with_reducible refine stopLoad 31 rfl ?_) | (with_reducible refine stopStore 31 rfl ?_))
  refine load_any 31 w1.heap.size _ 31 _ HBX.out rfl rfl rfl Tryz.underlying31 rfl (by kernel_rfl) ?_
  go_wp2_with (first | go_skip | (with_reducible refine stopLoad 31 rfl ?_) | (with_reducible refine stopStore 31 rfl ?_))
  refine store_known 31 w.heap.size _ _ 31 HRX.out.1 rfl rfl rfl rfl (by kernel_rfl) rfl (by kernel_rfl) ?_
  go_wp2
  refine bodyPost_ret (results_cell_row Tryz.results61 _ _ w.heap.size _ _ _ _ rfl HRX.out.1.setRow Tryz.underlying31 rfl (by kernel_rfl)) rfl ?_
  exact drew_row HO4.out HRX.out.1 HRX.out.2.1 HRX.out.2.2 HL.out.1 (by omega)
 by_cases q4 : d = 4
 ·
  subst q4
  go_wp2_with fail
  refine (pickInt_cur q w4.heap.size _ a len cap zs i4 h4 [0, -1, 1000000001] _ (HR4.out.2.1.keep ((Below.refl _ _).alloc (Nat.le_refl _) _)) hlen (fun j hj => lit_ints w4 [0, -1, 1000000001] 3 j hj) (by have := HR4.out.2.2.size; have := HL.out.1; omega) _ rfl (by simp) (by simp)).mono ?_
  rintro e w5 ⟨z, i5, h5, _, rfl, C5, g5⟩
  have gg := grown_tr (World.grownBy_alloc w4 _ (some q)) g5
  have HO5 : Hid (Out (World.bare w) (w.heap.size + 1) w1.heap.size s.count s.sum s.min s.max b1 o1 k1 b2 o2 k2 p po k3 b3 o3 j0 b4 o4 j1 l1 l2 x y w5) := HO4.out.grown gg (by have := HL.out.1; omega) (Nat.zero_le _)
  have HR5 : Hid (Blk w5 w.heap.size #[.int .i64 0, .int .i64 0, .int .i64 0, .int .i64 0, .slice none 0 0, .slice none 0 0, .slice none 0 0] 31 ∧ Cur w5 q a len cap zs i5 h5 ∧ w.grownBy w5 (some q)) := ⟨HR4.out.1.grown gg (by have := HL.out.1; omega), C5, grown_tr HR4.out.2.2 gg⟩
  have HOX : Hid _ := HO5.out.setC z
  have HRX : Hid _ := held_set HR5.out HL.out.1 HL.out.2 w1.heap.size 0 (.int .i64 z) (by have := HO5.out.ges; omega)
  have f2 := HO5.out.blk.frozen 0
  have c2 := HO5.out.blk.cell 0
  simp only [aT, aZ] at c2
  clear C5 g5 gg
  go_wp2_with (first | go_skip | (with_reducible refine stopLoad 31 rfl ?_) | (with_reducible refine stopStore 31 rfl ?_))
  refine load_any 31 w1.heap.size _ 31 _ HOX.out.blk rfl rfl rfl Tryz.underlying31 rfl (by kernel_rfl) ?_
  go_wp2_with (first | go_skip | (with_reducible refine stopLoad 31 rfl ?_) | (with_reducible refine stopStore 31 rfl ?_))
  refine store_known 31 w.heap.size _ _ 31 HRX.out.1 rfl rfl rfl rfl (by kernel_rfl) rfl (by kernel_rfl) ?_
  go_wp2
  refine bodyPost_ret (results_cell_row Tryz.results61 _ _ w.heap.size _ _ _ _ rfl HRX.out.1.setRow Tryz.underlying31 rfl (by kernel_rfl)) rfl ?_
  exact drew_full (drew_end HOX.out HRX.out.1 HRX.out.2.1 HRX.out.2.2 HL.out.1 (by omega))
 by_cases q5 : d = 5
 ·
  subst q5
  have HS4 : Hid (w4.drew.cell? ⟨w1.heap.size, 6, none⟩ = some (.slice (some ⟨p, po, none⟩) 2 k3) ∧ w4.drew.cell? ⟨p, po + 1, none⟩ = some (.slice (some ⟨b4, o4, none⟩) 4 j1)) := ⟨HO4.out.drew.blk.cell 6, HO4.out.drew.c1⟩
  have HO4d : Hid (Out (World.bare w) (w.heap.size + 1) w1.heap.size s.count s.sum s.min s.max b1 o1 k1 b2 o2 k2 p po k3 b3 o3 j0 b4 o4 j1 l1 l2 x y w4.drew) := HO4.out.drew
  have HR4d : Hid (Blk w4.drew w.heap.size #[.int .i64 0, .int .i64 0, .int .i64 0, .int .i64 0, .slice none 0 0, .slice none 0 0, .slice none 0 0] 31 ∧ Cur w4.drew q a len cap zs i4 h4 ∧ w.grownBy w4.drew (some q)) := ⟨HR4.out.1.drew, HR4.out.2.1.keep (Below.refl _ _).drew, grown_tr HR4.out.2.2 (grown_below q (Below.refl _ _).drew)⟩
  go_wp2
  refine wp_region_held (S := (fun W => W.cell? ⟨w1.heap.size, 6, none⟩ = some (.slice (some ⟨p, po, none⟩) 2 k3) ∧ W.cell? ⟨p, po + 1, none⟩ = some (.slice (some ⟨b4, o4, none⟩) 4 j1))) (by kernel_rfl) ?_
  change wpAnyH _ _ _ _ _ _ _ _ (World.drew _)
  refine tg 0 (.pointer (some ⟨w1.heap.size, 6, none⟩)) (H := ⟨HS4.out, ?_⟩)
  refine tk 1 (.slice (some ⟨p, po, none⟩) 2 k3) (H := ⟨(.inl ⟨rfl, fun W hW => by have c := hW.1; go_simp⟩), HS4.out, ?_⟩)
  refine tg 2 (.pointer (some ⟨p, po + 1, none⟩)) (H := ⟨HS4.out, ?_⟩)
  refine tk 3 (.slice (some ⟨b4, o4, none⟩) 4 j1) (H := ⟨(.inl ⟨rfl, fun W hW => by have c := hW.2; go_simp⟩), HS4.out, ?_⟩)
  refine tg 4 (.pointer (some ⟨q, 0, none⟩)) (H := ⟨HS4.out, ?_⟩)
  refine oq 5 (H := fun K hK => ?_)
  refine op_turn (.slice (some ⟨w4.drew.heap.size, 0, none⟩) 3 3) (w4.drew.alloc (.cells ([-1, 3, 1000000001].map (Value.int .i64)).toArray 3)) rfl (by go_simp) (pk (h := hK _ _ ⟨(HO4d.out.blk.alloc _).cell 6 |> fun e => ⟨e, cell_al HO4d.out.c1 _⟩, ?_⟩))
  obtain ⟨w6, hW⟩ : ∃ W, W = (w4.drew.alloc (.cells ([-1, 3, 1000000001].map (Value.int .i64)).toArray 3)) := ⟨_, rfl⟩
  rw [← hW]
  have hbw : Below w4.drew.heap.size w4.drew w6 := by rw [hW]; exact (Below.refl _ _).alloc (Nat.le_refl _) _
  have HLIT : Hid (∀ j, j < ([-1, 3, 1000000001] : List Int).length → w6.cell? ⟨w4.drew.heap.size, j, none⟩ = some (.int .i64 (([-1, 3, 1000000001] : List Int).getD j 0))) := fun j hj => by rw [hW]; exact lit_ints w4.drew [-1, 3, 1000000001] 3 j hj
  have HO6 : Hid (Out (World.bare w) (w.heap.size + 1) w1.heap.size s.count s.sum s.min s.max b1 o1 k1 b2 o2 k2 p po k3 b3 o3 j0 b4 o4 j1 l1 l2 x y w6) := HO4d.out.below hbw
  have HR6 : Hid (Blk w6 w.heap.size #[.int .i64 0, .int .i64 0, .int .i64 0, .int .i64 0, .slice none 0 0, .slice none 0 0, .slice none 0 0] 31 ∧ Cur w6 q a len cap zs i4 h4 ∧ w.grownBy w6 (some q)) := ⟨HR4d.out.1.below hbw, HR4d.out.2.1.keep hbw, grown_tr HR4d.out.2.2 (grown_below q hbw)⟩
  have HS6 : Hid (w6.cell? ⟨w1.heap.size, 6, none⟩ = some (.slice (some ⟨p, po, none⟩) 2 k3) ∧ w6.cell? ⟨p, po + 1, none⟩ = some (.slice (some ⟨b4, o4, none⟩) 4 j1)) := ⟨HO6.out.blk.cell 6, HO6.out.c1⟩
  have hd : w4.drew.heap.size = w4.heap.size := rfl
  clear hK hW hbw HS4 HO4d HR4d
  refine oq 6 (H := fun K hK => ?_)
  refine op_call2' 62 _ _ _ Tryz.f62 (fun v w' => ∃ y i' h', v = .int .i64 y ∧ Cur w' q a len cap zs i' h' ∧ w6.grownBy w' (some q)) rfl rfl Tryz.func62 (by kernel_rfl) (by kernel_rfl) ((pickInt_cur q w4.drew.heap.size _ a len cap zs i4 h4 [-1, 3, 1000000001] w6 HR6.out.2.1 hlen HLIT.out (by have := HL.out.1; have := HR4.out.2.2.size; omega) _ rfl (by simp) (by simp)).mono (by rintro e w' ⟨y, i', h', _, rfl, C, g⟩; exact ⟨_, rfl, y, i', h', rfl, C, g⟩)) ?_
  rintro _ w7 ⟨vy, i7, h7, rfl, C7, g7⟩
  have HO7 : Hid (Out (World.bare w) (w.heap.size + 1) w1.heap.size s.count s.sum s.min s.max b1 o1 k1 b2 o2 k2 p po k3 b3 o3 j0 b4 o4 j1 l1 l2 x y w7) := HO6.out.grown g7 (by have := HL.out.1; omega) (Nat.zero_le _)
  have HR7 : Hid (Blk w7 w.heap.size #[.int .i64 0, .int .i64 0, .int .i64 0, .int .i64 0, .slice none 0 0, .slice none 0 0, .slice none 0 0] 31 ∧ Cur w7 q a len cap zs i7 h7 ∧ w.grownBy w7 (some q)) := ⟨HR6.out.1.grown g7 (by have := HL.out.1; omega), C7, grown_tr HR6.out.2.2 g7⟩
  have HS7 : Hid (w7.cell? ⟨w1.heap.size, 6, none⟩ = some (.slice (some ⟨p, po, none⟩) 2 k3) ∧ w7.cell? ⟨p, po + 1, none⟩ = some (.slice (some ⟨b4, o4, none⟩) 4 j1)) := ⟨HO7.out.blk.cell 6, HO7.out.c1⟩
  refine pk (h := hK _ _ ⟨HS7.out, ?_⟩)
  clear hK C7 g7 HS6 HO6 HR6 HLIT HO4 HR4 hd
  refine tg 7 (.pointer (some ⟨b4, o4 + 2, none⟩)) (H := ⟨HS7.out, ?_⟩)
  refine oq 8 (H := fun K hK => ?_)
  have fE := HO7.out.own.free b4 (by simp) (o4 + 2)
  have cE := HO7.out.row1.at 2 (by omega)
  have HOX : Hid _ := HO7.out.setRow1 2 (by omega) vy
  have HRX : Hid _ := held_set HR7.out HL.out.1 HL.out.2 b4 (o4 + 2) (.int .i64 vy) (by have := HO7.out.ges; omega)
  refine op_skip (w7.setCell ⟨b4, o4 + 2, none⟩ (.int .i64 vy)) rfl (by go_simp) (pk (h := hK _ _ ⟨⟨HOX.out.blk.cell 6, HOX.out.c1⟩, ?_⟩))
  clear hK
  refine wpAnyH_done (by kernel_rfl) ?_ _
  clear HO7 HR7 HS7
  go_wp2_with (first | go_skip | (with_reducible refine stopLoad 31 rfl ?_) | (with_reducible refine stopStore 31 rfl ?_))
  refine load_any 31 w1.heap.size _ 31 _ HOX.out.blk rfl rfl rfl Tryz.underlying31 rfl (by kernel_rfl) ?_
  go_wp2_with (first | go_skip | (with_reducible refine stopLoad 31 rfl ?_) | (with_reducible refine stopStore 31 rfl ?_))
  refine store_known 31 w.heap.size _ _ 31 HRX.out.1 rfl rfl rfl rfl (by kernel_rfl) rfl (by kernel_rfl) ?_
  go_wp2
  refine bodyPost_ret (results_cell_row Tryz.results61 _ _ w.heap.size _ _ _ _ rfl HRX.out.1.setRow Tryz.underlying31 rfl (by kernel_rfl)) rfl ?_
  exact drew_full (drew_end HOX.out HRX.out.1 HRX.out.2.1 HRX.out.2.2 HL.out.1 (by omega))
 have p0 : (d == 0) = false := beq_false_of_ne q0
 have p1 : (d == 1) = false := beq_false_of_ne q1
 have p2 : (d == 2) = false := beq_false_of_ne q2
 have p3 : (d == 3) = false := beq_false_of_ne q3
 have p4 : (d == 4) = false := beq_false_of_ne q4
 have p5 : (d == 5) = false := beq_false_of_ne q5
 have HOX := HO4
 have HRX := HR4
 clear HO4 HR4 q0 q1 q2 q3 q4 q5
 go_wp2_with (first | go_skip | (with_reducible refine stopLoad 31 rfl ?_) | (with_reducible refine stopStore 31 rfl ?_))
 refine load_any 31 w1.heap.size _ 31 _ HOX.out.blk rfl rfl rfl Tryz.underlying31 rfl (by kernel_rfl) ?_
 go_wp2_with (first | go_skip | (with_reducible refine stopLoad 31 rfl ?_) | (with_reducible refine stopStore 31 rfl ?_))
 refine store_known 31 w.heap.size _ _ 31 HRX.out.1 rfl rfl rfl rfl (by kernel_rfl) rfl (by kernel_rfl) ?_
 go_wp2
 refine bodyPost_ret (results_cell_row Tryz.results61 _ _ w.heap.size _ _ _ _ rfl HRX.out.1.setRow Tryz.underlying31 rfl (by kernel_rfl)) rfl ?_
 exact drew_full (drew_end HOX.out HRX.out.1 HRX.out.2.1 HRX.out.2.2 HL.out.1 (by omega))
end
section
set_option maxRecDepth 200000
set_option maxHeartbeats 16000000
open Go.RowKit
theorem cur_row {W : World} {q g : Nat} {a : Option Addr} {len cap : Nat} {zs : List Int} {i h : Int} {cs : Array Value} (C : Cur W q a len cap zs i h) (hq : q ≠ g) (ha : ∀ b, (∃ off, a = some ⟨b, off, none⟩ ∧ 0 < len) → b ≠ g) : Cur (W.setRow g cs) q a len cap zs i h :=
 cur_agree C (World.block_lt_of_cell? _ _ C.c0) (setRow_other W g q cs hq) (fun b _ hx => setRow_other W g b cs (ha b hx))
theorem cur_cell {W : World} {q g j : Nat} {v : Value} {a : Option Addr} {len cap : Nat} {zs : List Int} {i h : Int} (C : Cur W q a len cap zs i h) (hq : q ≠ g) (ha : ∀ b, (∃ off, a = some ⟨b, off, none⟩ ∧ 0 < len) → b ≠ g) : Cur (W.setCell ⟨g, j, none⟩ v) q a len cap zs i h :=
 cur_agree C (World.block_lt_of_cell? _ _ C.c0) (Below.heap_setCell W ⟨g, j, none⟩ v q hq) (fun b _ hx => Below.heap_setCell W ⟨g, j, none⟩ v b (ha b hx))
theorem grown_row {w W : World} {q g : Nat} {cs : Array Value} (k : w.grownBy W (some q)) (hg : w.heap.size ≤ g) : w.grownBy (W.setRow g cs) (some q) :=
 ⟨k.os, k.tape, k.output, by simp; exact k.size, fun b hb hn => (setRow_other W g b cs (by omega)).trans (k.block b hb hn)⟩
theorem grown_cell {w W : World} {q g j : Nat} {v : Value} (k : w.grownBy W (some q)) (hg : w.heap.size ≤ g) : w.grownBy (W.setCell ⟨g, j, none⟩ v) (some q) :=
 ⟨k.os, k.tape, k.output, by simp; exact k.size, fun b hb hn => (Below.heap_setCell W ⟨g, j, none⟩ v b (fun e => by have e2 : b = g := e; omega)).trans (k.block b hb hn)⟩
structure HeldR (w : World) (q : Nat) (a : Option Addr) (len cap : Nat) (zs : List Int) (i h : Int) (cs : Array Value) (t : TypeId) (W : World) : Prop where
 res : Blk W w.heap.size cs t
 cur : Cur W q a len cap zs i h
 grown : w.grownBy W (some q)
section
variable {w W W' : World} {q : Nat} {a : Option Addr} {len cap : Nat} {zs : List Int} {i h i' h' : Int} {cs : Array Value} {t : TypeId}
theorem HeldR.next (H : HeldR w q a len cap zs i h cs t W) (hq : q < w.heap.size) (C : Cur W' q a len cap zs i' h') (g : W.grownBy W' (some q)) : HeldR w q a len cap zs i' h' cs t W' := ⟨H.res.grown g (by omega), C, grown_tr H.grown g⟩
theorem HeldR.below (H : HeldR w q a len cap zs i h cs t W) (b : Below W.heap.size W W') : HeldR w q a len cap zs i h cs t W' := ⟨H.res.below b, H.cur.below b, grown_tr H.grown (grown_below q b)⟩
theorem HeldR.made (C : Cur w q a len cap zs i h) (cs : Array Value) (t : TypeId) : HeldR w q a len cap zs i h cs t (w.alloc (.cells cs t)) := ⟨Blk.made _ _ _, C.alloc _, grown_below q ((Below.refl _ _).alloc (Nat.le_refl _) _)⟩
end
def DrewItem (w : World) (q : Nat) (a : Option Addr) (len cap : Nat) (zs : List Int) (e : Ending) (w' : World) : Prop :=
 ∃ v x F i' h', e = .returned v ∧ RdIt w' v x F ∧ x.sk.full ∧ Own w.heap.size w' F ∧ Cur w' q a len cap zs i' h' ∧ w.grownBy w' (some q)
theorem l6Right_any (q : Nat) (a : Option Addr) (len cap : Nat) (zs : List Int) (i h : Int) (w : World) (C : Cur w q a len cap zs i h) (hlen : len ≤ 1048576) :
 Calls Tryz.prog 59 #[.pointer (some ⟨q, 0, none⟩)] w fun e w' => DrewItem w q a len cap zs e w' := by
 have hq : q < w.heap.size := World.block_lt_of_cell? _ _ C.c0
 have HA : Hid (∀ b, (∃ off, a = some ⟨b, off, none⟩ ∧ 0 < len) → b < w.heap.size) := cur_lt C
 have H0 : Hid (HeldR w q a len cap zs i h #[.int .i64 0, .int .i64 0, .int .i64 0, .int .i64 0, .int .i64 0, .int .i64 0, .int .i64 0, .int .i64 0, .slice none 0 0, .slice none 0 0, .slice none 0 0] 91 (w.alloc (.cells #[.int .i64 0, .int .i64 0, .int .i64 0, .int .i64 0, .int .i64 0, .int .i64 0, .int .i64 0, .int .i64 0, .slice none 0 0, .slice none 0 0, .slice none 0 0] 91))) := HeldR.made C _ _
 clear C
 go_enter Tryz.func59, Tryz.ntmps59
 go_wp2_with fail
 refine (l1Below_any q a len cap zs i h 8 _ H0.out.cur hlen (by omega) (by omega)).mono ?_
 rintro e w1 ⟨x1, i1, h1, rfl, p1, r1, C1, g1⟩
 have H1 : Hid (HeldR w q a len cap zs i1 h1 #[.int .i64 0, .int .i64 0, .int .i64 0, .int .i64 0, .int .i64 0, .int .i64 0, .int .i64 0, .int .i64 0, .slice none 0 0, .slice none 0 0, .slice none 0 0] 91 w1) := H0.out.next hq C1 g1
 clear C1 g1 H0
 go_wp2_with fail
 refine (l1Below_any q a len cap zs i1 h1 2 _ H1.out.cur hlen (by omega) (by omega)).mono ?_
 rintro e w2 ⟨x2, i2, h2, rfl, p2, r2, C2, g2⟩
 have H2 : Hid (HeldR w q a len cap zs i2 h2 #[.int .i64 0, .int .i64 0, .int .i64 0, .int .i64 0, .int .i64 0, .int .i64 0, .int .i64 0, .int .i64 0, .slice none 0 0, .slice none 0 0, .slice none 0 0] 91 w2) := H1.out.next hq C2 g2
 clear C2 g2 H1
 go_wp2_with fail
 refine (l1Below_any q a len cap zs i2 h2 2 _ H2.out.cur hlen (by omega) (by omega)).mono ?_
 rintro e w3 ⟨x3, i3, h3, rfl, p3, r3, C3, g3⟩
 have H3 : Hid (HeldR w q a len cap zs i3 h3 #[.int .i64 0, .int .i64 0, .int .i64 0, .int .i64 0, .int .i64 0, .int .i64 0, .int .i64 0, .int .i64 0, .slice none 0 0, .slice none 0 0, .slice none 0 0] 91 w3) := H2.out.next hq C3 g3
 clear C3 g3 H2
 go_wp2_with fail
 refine (l1Below_any q a len cap zs i3 h3 3 _ H3.out.cur hlen (by omega) (by omega)).mono ?_
 rintro e w4 ⟨x4, i4, h4, rfl, p4, r4, C4, g4⟩
 have H4 : Hid (HeldR w q a len cap zs i4 h4 #[.int .i64 0, .int .i64 0, .int .i64 0, .int .i64 0, .int .i64 0, .int .i64 0, .int .i64 0, .int .i64 0, .slice none 0 0, .slice none 0 0, .slice none 0 0] 91 w4) := H3.out.next hq C4 g4
 clear C4 g4 H3
 go_wp2_with fail
 refine (l3Values_any q a len cap zs i4 h4 _ H4.out.cur hlen).mono ?_
 rintro e w5 ⟨a', n, c, xs, F5, i5, h5, rfl, r5, n5, o5, C5, g5⟩
 have H5 : Hid (HeldR w q a len cap zs i5 h5 #[.int .i64 0, .int .i64 0, .int .i64 0, .int .i64 0, .int .i64 0, .int .i64 0, .int .i64 0, .int .i64 0, .slice none 0 0, .slice none 0 0, .slice none 0 0] 91 w5) := H4.out.next hq C5 g5
 have HR5 : Hid (RdI w5 a' n xs F5) := r5
 clear C5 g5 H4 r5 o5
 go_wp2_with fail
 refine (sketched_any a' n c xs F5 _ HR5.out (by omega)).mono ?_
 rintro e w6 ⟨v, s, F, rfl, rR, hs, oF, b6⟩
 obtain ⟨e1, r1', f1, e2, r2', f2, e3, r3', f3, rfl⟩ := rR.sk.cells7
 have H6 : Hid (HeldR w q a len cap zs i5 h5 #[.int .i64 0, .int .i64 0, .int .i64 0, .int .i64 0, .int .i64 0, .int .i64 0, .int .i64 0, .int .i64 0, .slice none 0 0, .slice none 0 0, .slice none 0 0] 91 w6) := H5.out.below b6
 have HS : Hid (RdSk w6 (.agg #[.int .i64 s.count, .int .i64 s.sum, .int .i64 s.min, .int .i64 s.max, .slice e1 r1' f1, .slice e2 r2' f2, .slice e3 r3' f3]) s F ∧ s.shaped = true ∧ Own (w.heap.size + 1) w6 F) := ⟨rR.sk, hs, oF.mono H5.out.res.lt⟩
 clear rR hs oF b6 H5 HR5
 go_wp2_with (first | go_skip | (with_reducible refine stopStore 91 rfl ?_))
 refine store_known 91 w.heap.size _ #[.int .i64 (1 + x1), .int .i64 x2, .int .i64 x3, .int .i64 x4, .int .i64 s.count, .int .i64 s.sum, .int .i64 s.min, .int .i64 s.max, .slice e1 r1' f1, .slice e2 r2' f2, .slice e3 r3' f3] 91 H6.out.res rfl rfl rfl rfl (by kernel_rfl) rfl (by simp [Value.oneCell']) ?_
 obtain ⟨E, hE⟩ : ∃ E : Array Value, E = #[.int .i64 (1 + x1), .int .i64 x2, .int .i64 x3, .int .i64 x4, .int .i64 s.count, .int .i64 s.sum, .int .i64 s.min, .int .i64 s.max, .slice e1 r1' f1, .slice e2 r2' f2, .slice e3 r3' f3] := ⟨_, rfl⟩
 rw [← hE]
 have HE : Hid (E = #[.int .i64 (1 + x1), .int .i64 x2, .int .i64 x3, .int .i64 x4, .int .i64 s.count, .int .i64 s.sum, .int .i64 s.min, .int .i64 s.max, .slice e1 r1' f1, .slice e2 r2' f2, .slice e3 r3' f3] ∧ E.size = 11) := ⟨hE, by rw [hE]; rfl⟩
 clear hE
 go_wp2
 refine bodyPost_ret (results_cell_row Tryz.results59 _ _ w.heap.size _ _ (0, 0) _ rfl H6.out.res.setRow Tryz.underlying91 rfl (by rw [HE.out.2]; exact infoItA)) rfl ?_
 have nF : w.heap.size ∉ F := fun hx => by have := HS.out.2.2.ge _ hx; omega
 exact ⟨_, ⟨1 + x1, x2, x3, x4, s⟩, F, i5, h5, rfl, ⟨e1, r1', f1, e2, r2', f2, e3, r3', f3, by rw [HE.out.1], HS.out.1.agree (Agree.row nF E)⟩, shaped_full HS.out.2.1, (HS.out.2.2.agree (Agree.row nF E)).mono (by omega), cur_row H6.out.cur (by omega) (fun b hb => by have := HA.out b hb; omega), grown_row H6.out.grown (Nat.le_refl _)⟩
section
variable {w W W' : World} {q : Nat} {a : Option Addr} {len cap : Nat} {zs : List Int} {i h i' h' : Int} {L : Nat} {ic : Array Value} {x : It} {F : List Nat}
end
end
section
open Go.RowKit
def Sp.sum (ps : Sp) : Int := (ps.map fun p => p.2 - p.1 + 1).sum
def Sp.size (ps : Sp) : Int := if ps.ok = true then ps.sum else 0
theorem Sp.sum_snoc (ps : Sp) (p : Int × Int) : Sp.sum (ps ++ [p]) = ps.sum + (p.2 - p.1 + 1) := by simp [Sp.sum]
theorem Sp.sum_step {ps : Sp} {k : Nat} (hk : k < ps.length) : Sp.sum (ps.take (k + 1)) = Sp.sum (ps.take k) + ((ps.at k).2 - (ps.at k).1 + 1) := by
 rw [takeP_succ ps k hk, Sp.sum_snoc]
 rfl
theorem Sp.sum_range {ps : Sp} (h : ps.ok = true) : ∀ k, k ≤ ps.length → 0 ≤ Sp.sum (ps.take k) ∧ Sp.sum (ps.take k) ≤ 10000 * k
 | 0, _ => by simp [Sp.sum]
 | k + 1, hk => by
  have ih := Sp.sum_range h k (by omega)
  have e := Sp.sum_step (ps := ps) (k := k) (by omega)
  have p := (Sp.okAt_parts (Sp.ok_at h k (by omega))).1
  omega
theorem Sp.size_not {ps : Sp} (h : ps.ok = false) : ps.size = 0 := by unfold Sp.size; rw [h]; rfl
theorem Sp.size_ok {ps : Sp} (h : ps.ok = true) : ps.size = ps.sum := by unfold Sp.size; rw [if_pos h]
def meet (p q : Int × Int) : Bool := decide (p.1 ≤ q.2 ∧ q.1 ≤ p.2)
def Sp.apart (ps qs : Sp) : Bool := ps.ok && qs.ok && ps.all fun p => qs.all fun q => !meet p q
theorem Sp.apart_not {ps qs : Sp} (h : (ps.ok && qs.ok) = false) : ps.apart qs = false := by unfold Sp.apart; rw [h]; rfl
theorem Sp.apart_meet {ps qs : Sp} {i k : Nat} (hi : i < ps.length) (hk : k < qs.length) (h : (ps.at i).1 ≤ (qs.at k).2 ∧ (qs.at k).1 ≤ (ps.at i).2) : ps.apart qs = false := by
 unfold Sp.at at h
 rw [List.getElem?_eq_getElem hi, List.getElem?_eq_getElem hk] at h
 unfold Sp.apart
 rw [Bool.and_eq_false_iff]
 right
 rw [List.all_eq_false]
 refine ⟨ps[i], List.getElem_mem hi, ?_⟩
 rw [Bool.not_eq_true, List.all_eq_false]
 refine ⟨qs[k], List.getElem_mem hk, ?_⟩
 unfold meet
 rw [decT (by simpa using h)]
 decide
theorem Sp.apart_yes {ps qs : Sp} (h1 : ps.ok = true) (h2 : qs.ok = true) (h : ∀ i, i < ps.length → ∀ k, k < qs.length → ¬ ((ps.at i).1 ≤ (qs.at k).2 ∧ (qs.at k).1 ≤ (ps.at i).2)) : ps.apart qs = true := by
 unfold Sp.apart
 rw [h1, h2]
 simp only [Bool.and_self, Bool.true_and]
 rw [List.all_eq_true]
 intro p hp
 rw [List.all_eq_true]
 intro q hq
 obtain ⟨i, hi, rfl⟩ := List.getElem_of_mem hp
 obtain ⟨k, hk, rfl⟩ := List.getElem_of_mem hq
 have := h i hi k hk
 unfold Sp.at at this
 rw [List.getElem?_eq_getElem hi, List.getElem?_eq_getElem hk] at this
 unfold meet
 rw [decF (by simpa using this)]
 rfl
end
section
set_option maxRecDepth 200000
set_option maxHeartbeats 16000000
open Go.RowKit
theorem QuietTo.trans {a b c : World} (h : QuietTo a b) (k : QuietTo b c) : QuietTo a c := by
 obtain ⟨m, rfl⟩ := h
 obtain ⟨n, rfl⟩ := k
 exact ⟨m + n, World.drewN_drewN ..⟩
theorem RdP.quiet {w w' : World} {a : Option Addr} {len : Nat} {ps : Sp} {F : List Nat} (h : RdP w a len ps F) (q : QuietTo w w') : RdP w' a len ps F := h.below (quiet_below q)
theorem apartSpec_any (a b : Option Addr) (la lb ca cb : Nat) (ps qs : Sp) (F G : List Nat) (w : World) (h : RdP w a la ps F) (k : RdP w b lb qs G) (hla : la ≤ 140737488355328) (hlb : lb ≤ 140737488355328) :
 Calls Tryz.prog 69 #[.slice a la ca, .slice b lb cb] w fun e w' => e = .returned (.bool (ps.apart qs)) ∧ ∃ m, w' = w.drewN m := by
 have HL : Hid (ps.length = la ∧ qs.length = lb) := ⟨h.length, k.length⟩
 have HR : Hid (RdP w a la ps F ∧ RdP w b lb qs G) := ⟨h, k⟩
 clear h k
 go_enter Tryz.func69, Tryz.ntmps69
 go_wp2_with fail
 refine (setOkSpec_any a la ca ps F _ HR.out.1 hla).mono ?_
 rintro e w1 ⟨rfl, hq⟩
 have HQ0 : Hid (QuietTo w w1) := hq
 clear hq
 obtain ⟨d, hd⟩ : ∃ d, d = ps.ok := ⟨_, rfl⟩
 rw [← hd]
 have HD : Hid (d = ps.ok) := hd
 clear hd
 cases d
 ·
  go_wp2
  go_ret
  rw [Sp.apart_not (by rw [← HD.out]; rfl)]
  exact ⟨rfl, HQ0.out⟩
 go_wp2_with fail
 refine (setOkSpec_any b lb cb qs G _ (HR.out.2.quiet HQ0.out) hlb).mono ?_
 rintro e w2 ⟨rfl, hq⟩
 have HQ1 : Hid (QuietTo w w2) := HQ0.out.trans hq
 clear hq HQ0
 obtain ⟨d, hd⟩ : ∃ d, d = qs.ok := ⟨_, rfl⟩
 rw [← hd]
 have HE : Hid (d = qs.ok) := hd
 clear hd
 cases d
 ·
  go_wp2
  go_ret
  rw [Sp.apart_not (by rw [← HD.out, ← HE.out]; rfl)]
  exact ⟨rfl, HQ1.out⟩
 have HCA : Hid (la = 0 ∨ ∃ b1 o1, a = some ⟨b1, o1, none⟩ ∧ SpCells w b1 o1 la ps) := by
  rcases HR.out.1.cells with ⟨h0, _⟩ | ⟨b1, o1, _, e, _, hc⟩
  ·
   exact .inl h0
  ·
   exact .inr ⟨b1, o1, e, hc⟩
 have HCB : Hid (lb = 0 ∨ ∃ b1 o1, b = some ⟨b1, o1, none⟩ ∧ SpCells w b1 o1 lb qs) := by
  rcases HR.out.2.cells with ⟨h0, _⟩ | ⟨b1, o1, _, e, _, hc⟩
  ·
   exact .inl h0
  ·
   exact .inr ⟨b1, o1, e, hc⟩
 clear HR
 go_wp2
 go_loopw [5] (fun i wr => ∃ (n : Nat), n ≤ la ∧ i = .int .i64 n ∧ Hid (QuietTo w wr) ∧ Hid (∀ i, i < n → ∀ k, k < qs.length → ¬ ((ps.at i).1 ≤ (qs.at k).2 ∧ (qs.at k).1 ≤ (ps.at i).2))) (fun i _ => la - (intOf i).toNat)
 case atStart => exact ⟨0, by omega, rfl, HQ1, fun j hj => by omega⟩
 case round =>
  obtain ⟨n, hn, rfl, HQ, HN⟩ := hrel
  by_cases hlt : n < la
  ·
   have hca := HCA.out
   rcases hca with h0 | ⟨b1, o1, rfl, hc1⟩
   ·
    omega
   obtain ⟨x, hx⟩ : ∃ x, x = (ps.at n).1 := ⟨_, rfl⟩
   obtain ⟨y, hy⟩ : ∃ x, x = (ps.at n).2 := ⟨_, rfl⟩
   have e := hc1 n hlt
   rw [← hx, ← hy] at e
   have HX : Hid ((x = (ps.at n).1 ∧ y = (ps.at n).2) ∧ w.cell? ⟨b1, o1 + n * 2, none⟩ = some (.int .i64 x) ∧ w.cell? ⟨b1, o1 + n * 2 + 1, none⟩ = some (.int .i64 y)) := ⟨⟨hx, hy⟩, e⟩
   have hI : (n : Int) < (la : Int) := by omega
   clear e hx hy hc1
   go_wp2
   go_loopw [6] (fun i ws => ∃ (k : Nat), k ≤ lb ∧ i = .int .i64 k ∧ Hid (QuietTo w ws) ∧ Hid (∀ j, j < k → ¬ (x ≤ (qs.at j).2 ∧ (qs.at j).1 ≤ y))) (fun i _ => lb - (intOf i).toNat)
   case atStart => exact ⟨0, by omega, rfl, HQ, fun j hj => by omega⟩
   case round =>
    clear HQ
    obtain ⟨k, hk, rfl, HQ, HM⟩ := hrel
    by_cases hlt2 : k < lb
    ·
     have hcb := HCB.out
     rcases hcb with h0 | ⟨b2, o2, rfl, hc2⟩
     ·
      omega
     obtain ⟨x', hx⟩ : ∃ x, x = (qs.at k).1 := ⟨_, rfl⟩
     obtain ⟨y', hy⟩ : ∃ x, x = (qs.at k).2 := ⟨_, rfl⟩
     have e := hc2 k hlt2
     rw [← hx, ← hy] at e
     have d1 : wr.cell? ⟨b1, o1 + n * 2, none⟩ = some (.int .i64 x) := (HQ.out.cell _).trans HX.out.2.1
     have d2 : wr.cell? ⟨b1, o1 + n * 2 + 1, none⟩ = some (.int .i64 y) := (HQ.out.cell _).trans HX.out.2.2
     have d3 : wr.cell? ⟨b2, o2 + k * 2, none⟩ = some (.int .i64 x') := (HQ.out.cell _).trans e.1
     have d4 : wr.cell? ⟨b2, o2 + k * 2 + 1, none⟩ = some (.int .i64 y') := (HQ.out.cell _).trans e.2
     have HY : Hid (x' = (qs.at k).1 ∧ y' = (qs.at k).2) := ⟨hx, hy⟩
     have hI2 : (k : Int) < (lb : Int) := by omega
     clear e hx hy hc2
     by_cases h1 : x ≤ y'
     ·
      have h1d : decide (x ≤ y') = true := decT h1
      by_cases h2 : x' ≤ y
      ·
       have h2d : decide (x' ≤ y) = true := decT h2
       have HV : Hid (ps.apart qs = false) := Sp.apart_meet (i := n) (k := k) (by rw [HL.out.1]; exact hlt) (by rw [HL.out.2]; exact hlt2) (by rw [← HX.out.1.1, ← HX.out.1.2, ← HY.out.1, ← HY.out.2]; exact ⟨h1, h2⟩)
       go_wp2
       go_quiet (fail)
       go_wp2
       go_ret
       rw [HV.out]
       exact ⟨rfl, HQ.out.drewN _⟩
      ·
       have h2d : decide (x' ≤ y) = false := decF h2
       have HM2 : Hid (∀ j, j < k + 1 → ¬ (x ≤ (qs.at j).2 ∧ (qs.at j).1 ≤ y)) := all_up HM.out (by rw [← HY.out.1, ← HY.out.2]; exact fun e => h2 e.2)
       go_wp2
       go_quiet (fail)
       go_wp2
       go_roundw
       case rel => exact ⟨k + 1, by omega, by go_num, HQ.out.drewN _, HM2⟩
       case measure => simp [intOf]; omega
     ·
      have h1d : decide (x ≤ y') = false := decF h1
      have HM2 : Hid (∀ j, j < k + 1 → ¬ (x ≤ (qs.at j).2 ∧ (qs.at j).1 ≤ y)) := all_up HM.out (by rw [← HY.out.1, ← HY.out.2]; exact fun e => h1 e.1)
      go_wp2
      go_quiet (fail)
      go_wp2
      go_roundw
      case rel => exact ⟨k + 1, by omega, by go_num, HQ.out.drewN _, HM2⟩
      case measure => simp [intOf]; omega
    ·
     obtain rfl : k = lb := by omega
     have HN2 : Hid (∀ i, i < n + 1 → ∀ k, k < qs.length → ¬ ((ps.at i).1 ≤ (qs.at k).2 ∧ (qs.at k).1 ≤ (ps.at i).2)) := all_up HN.out (fun j hj => by rw [← HX.out.1.1, ← HX.out.1.2]; exact HM.out j (by rw [← HL.out.2]; exact hj))
     go_wp2
     go_roundw
     case rel => exact ⟨n + 1, by omega, by go_num, HQ, HN2⟩
     case measure => simp [intOf]; omega
  ·
   obtain rfl : n = la := by omega
   have HV : Hid (ps.apart qs = true) := Sp.apart_yes HD.out.symm HE.out.symm (fun i hi => HN.out i (by rw [← HL.out.1]; exact hi))
   go_wp2
   go_ret
   rw [HV.out]
   exact ⟨rfl, HQ.out⟩
end
end Go.Proofs.YtjnamoppcklomaaGreat
