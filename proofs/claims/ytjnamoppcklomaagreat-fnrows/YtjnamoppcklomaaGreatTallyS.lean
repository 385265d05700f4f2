/- What the program lays out of its row: a summary in memory of its own. No statement of the seat is proved here. -/
import Derived.Test.YtjnamoppcklomaaGreatTallyD
import Derived.Test.YtjnamoppcklomaaGreatSkSum
set_option maxRecDepth 200000
set_option maxHeartbeats 16000000
namespace Go.Proofs.YtjnamoppcklomaaGreat
open Go.RowKit
theorem copiedList_any (b off len cap : Nat) (zs : List Int) (F : List Nat) (w : World) (h : RdI w (some ⟨b, off, none⟩) len zs F) (hp : 0 < len) (hlen : len ≤ 1048576) :
 Calls Tryz.prog 127 #[.slice (some ⟨b, off, none⟩) len cap] w fun e w' => NewI w zs e w' := by
 obtain ⟨i0, hi, hz0, hz1, hz2⟩ := info_parts infoInt
 have HR : Hid (RdI w (some ⟨b, off, none⟩) len zs F) := h
 have hlz := h.length
 obtain ⟨ad, had, hsrc⟩ := h.src (Below.refl _ _) hp
 obtain rfl := Option.some.inj had
 have HSrc : Hid (∀ j v, (zs.map (Value.int .i64))[j]? = some v → w.cell? ((⟨b, off, none⟩ : Addr).add j) = some v) := hsrc
 have HO : Hid (w.ownsRow w.heap.size 3 1 (.slice none 0 0) 0 []) := ⟨rfl, .inl ⟨rfl, rfl⟩⟩
 clear h hsrc had
 go_enter Tryz.func127, Tryz.ntmps127
 go_wp2_with (at_builtin; (refine wpList_append_own _ rfl _ _ 28 rfl w.heap.size 3 i0 (.int .i64 0) 1 8 Tryz.underlying28 hi hz0 hz1 hz2 rfl (by decide) _ 0 [] rfl HO.out ⟨b, off, none⟩ len cap (zs.map (Value.int .i64)) rfl (by simp [hlz]) HSrc.out (ints_one _) (by unfold maxLen; omega) (by omega) (by omega) ?_))
 intro v w2 hown hgrow _
 have HN : Hid (w2.ownsRow w.heap.size 3 1 v len (zs.map (Value.int .i64)) ∧ Below w.heap.size w w2) := ⟨by simpa using hown, (Below.refl _ _).grown hgrow (by omega) (fun k hk => by cases hk)⟩
 clear hown hgrow
 go_wp2
 go_ret
 obtain ⟨a, c, F', rfl, hr, ho⟩ := rdI_of_own HN.out.1
 exact ⟨a, len, c, F', rfl, hr, ho, HN.out.2⟩
def skOf (xs : List Int) : Sk := ⟨xs.getD 0 0, xs.getD 1 0, xs.getD 2 0, xs.getD 3 0, (xs.drop 4).take 8, (xs.drop 12).take 8, [(xs.drop 20).take 4, (xs.drop 24).take 4]⟩
theorem Own.perm {B : Nat} {w : World} {F G : List Nat} (h : Own B w F) (p : F.Perm G) : Own B w G :=
 ⟨p.nodup h.nodup, fun b hb => h.free b (p.mem_iff.2 hb), fun b hb => h.ge b (p.mem_iff.2 hb)⟩
theorem Own.blk {B : Nat} {w : World} {F : List Nat} {g : Nat} {cs : Array Value} {t : TypeId} (h : Own B w F) (b : Blk w g cs t) (hg : g ∉ F) (hB : B ≤ g) : Own B w (F ++ [g]) :=
 h.app ⟨by simp, fun x hx o => by (obtain rfl : x = g := by simpa using hx); exact b.frozen o, fun x hx => by (obtain rfl : x = g := by simpa using hx); exact hB⟩ (fun x hx hx' => hg (by (obtain rfl : x = g := by simpa using hx'); exact hx))
theorem two_rows4 {wx : World} {x2 x3 : Option Addr} {l2 l3 : List Int} {X2 X3 : List Nat} {g : Nat} {j2 j3 : Nat} {t : TypeId} (br : Blk wx g #[.slice x2 4 j2, .slice x3 4 j3] t) (r2 : RdI wx x2 4 l2 X2) (r3 : RdI wx x3 4 l3 X3) : RdII wx (some ⟨g, 0, none⟩) 2 [l2, l3] (g :: (X2 ++ X3)) := by
 refine ⟨rfl, .inr ⟨g, 0, X2 ++ X3, by omega, rfl, rfl, ?_⟩⟩
 show RdM wx [ints l2, ints l3] g 0 (X2 ++ X3)
 rw [RdM]
 refine ⟨_, X2, X3, by rw [br.cell 0]; rfl, rd_ints.2 ⟨_, 4, j2, rfl, r2⟩, ?_, rfl⟩
 rw [RdM]
 exact ⟨_, X3, [], by rw [br.cell 1]; rfl, rd_ints.2 ⟨_, 4, j3, rfl, r3⟩, by simp [RdM], by simp⟩
theorem four_lists {w0 w1 w2 w3 w4 w5 : World} {a1 a2 a3 a4 : Option Addr} {n1 n2 n3 n4 : Nat} {l1 l2 l3 l4 : List Int} {F1 F2 F3 F4 : List Nat} {cs : Array Value} {t : TypeId}
 (r1 : RdI w1 a1 n1 l1 F1) (o1 : Own w0.heap.size w1 F1) (b1 : Below w0.heap.size w0 w1) (r2 : RdI w2 a2 n2 l2 F2) (o2 : Own w1.heap.size w2 F2) (b2 : Below w1.heap.size w1 w2) (r3 : RdI w3 a3 n3 l3 F3) (o3 : Own w2.heap.size w3 F3) (b3 : Below w2.heap.size w2 w3)
 (r4 : RdI w4 a4 n4 l4 F4) (o4 : Own w3.heap.size w4 F4) (b4 : Below w3.heap.size w3 w4) (k : Blk w5 w4.heap.size cs t) (b5 : Below w4.heap.size w4 w5) :
 RdI w5 a1 n1 l1 F1 ∧ RdI w5 a2 n2 l2 F2 ∧ RdI w5 a3 n3 l3 F3 ∧ RdI w5 a4 n4 l4 F4 ∧ Own w0.heap.size w5 (F1 ++ (F2 ++ (w4.heap.size :: (F3 ++ F4)))) := by
 have s1 := b1.size; have s2 := b2.size; have s3 := b3.size; have s4 := b4.size
 have p2 := (o1.below r1.lt b2).join o2 r1.lt s1
 have q1 := r1.below b2
 have l2 : ∀ b ∈ F1 ++ F2, b < w2.heap.size := fun b h => (List.mem_append.1 h).elim (q1.lt b) (r2.lt b)
 have p3 := (p2.below l2 b3).join o3 l2 (by omega)
 have l3 : ∀ b ∈ F1 ++ F2 ++ F3, b < w3.heap.size := fun b h => (List.mem_append.1 h).elim (fun h => by have := l2 b h; omega) (r3.lt b)
 have p4 := (p3.below l3 b4).join o4 l3 (by omega)
 have l4 : ∀ b ∈ F1 ++ F2 ++ F3 ++ F4, b < w4.heap.size := fun b h => (List.mem_append.1 h).elim (fun h => by have := l3 b h; omega) (r4.lt b)
 have p5 := (p4.below l4 b5).blk k (fun h => by have := l4 _ h; omega) (by omega)
 refine ⟨((q1.below b3).below b4).below b5, ((r2.below b3).below b4).below b5, (r3.below b4).below b5, r4.below b5, p5.perm ?_⟩
 rw [List.perm_iff_count]
 intro x
 simp only [List.count_append, List.count_cons, List.count_nil]
 omega
def SkHeld (g : Nat) (xs : List Int) (x0 x1 x2 x3 : Int) (W : World) : Prop := Blk W g (tc xs) 118 ∧ W.cell? ⟨g, 0, none⟩ = some (.int .i64 x0) ∧ W.cell? ⟨g, 1, none⟩ = some (.int .i64 x1) ∧ W.cell? ⟨g, 2, none⟩ = some (.int .i64 x2) ∧ W.cell? ⟨g, 3, none⟩ = some (.int .i64 x3)
theorem sketch_any (xs : List Int) (w : World) (hx : xs.length = 28) :
 Calls Tryz.prog 148 #[.agg (tc xs)] w fun e w' => NewSk w (skOf xs) e w' := by
 have HL : Hid (xs.length = 28) := hx
 obtain ⟨x0, hx0⟩ : ∃ x, x = xs.getD 0 0 := ⟨_, rfl⟩
 obtain ⟨x1, hx1⟩ : ∃ x, x = xs.getD 1 0 := ⟨_, rfl⟩
 obtain ⟨x2, hx2⟩ : ∃ x, x = xs.getD 2 0 := ⟨_, rfl⟩
 obtain ⟨x3, hx3⟩ : ∃ x, x = xs.getD 3 0 := ⟨_, rfl⟩
 have HX : Hid (x0 = xs.getD 0 0 ∧ x1 = xs.getD 1 0 ∧ x2 = xs.getD 2 0 ∧ x3 = xs.getD 3 0) := ⟨hx0, hx1, hx2, hx3⟩
 have mkS : ∀ W, Blk W w.heap.size (tc xs) 118 → SkHeld w.heap.size xs x0 x1 x2 x3 W := fun W b =>
  ⟨b, by rw [b.cell, hx0]; exact tc_get (by omega), by rw [b.cell, hx1]; exact tc_get (by omega), by rw [b.cell, hx2]; exact tc_get (by omega), by rw [b.cell, hx3]; exact tc_get (by omega)⟩
 have keepS : ∀ {W W' : World}, SkHeld w.heap.size xs x0 x1 x2 x3 W → Below W.heap.size W W' → SkHeld w.heap.size xs x0 x1 x2 x3 W' := fun h b => mkS _ (h.1.below b)
 have HT : Hid (_ ∧ _ ∧ _) := two_made w (tc xs) #[.int .i64 0, .int .i64 0, .int .i64 0, .int .i64 0, .slice none 0 0, .slice none 0 0, .slice none 0 0] 118 31
 clear hx hx0 hx1 hx2 hx3
 go_enter Tryz.func148, Tryz.ntmps148
 go_wp2
 obtain ⟨W0, hW0⟩ : ∃ W0, W0 = (w.alloc (.cells (tc xs) 118)).alloc (.cells #[.int .i64 0, .int .i64 0, .int .i64 0, .int .i64 0, .slice none 0 0, .slice none 0 0, .slice none 0 0] 31) := ⟨_, rfl⟩
 rw [← hW0] at HT ⊢
 clear hW0
 have HS : Hid (SkHeld w.heap.size xs x0 x1 x2 x3 W0.drew) := mkS _ HT.out.1.drew
 refine wp_region_held (S := SkHeld w.heap.size xs x0 x1 x2 x3) (by kernel_rfl) ?_
 change wpAnyH _ _ _ _ _ _ _ _ (World.drew _)
 refine tg 0 (.pointer (some ⟨w.heap.size, 0, none⟩)) (H := ⟨HS.out, ?_⟩)
 refine tk 1 (.int .i64 x0) (H := ⟨(.inl ⟨rfl, fun W hW => by have c := hW.2.1; go_simp⟩), HS.out, ?_⟩)
 refine tg 2 (.pointer (some ⟨w.heap.size, 1, none⟩)) (H := ⟨HS.out, ?_⟩)
 refine tk 3 (.int .i64 x1) (H := ⟨(.inl ⟨rfl, fun W hW => by have c := hW.2.2.1; go_simp⟩), HS.out, ?_⟩)
 refine tg 4 (.pointer (some ⟨w.heap.size, 2, none⟩)) (H := ⟨HS.out, ?_⟩)
 refine tk 5 (.int .i64 x2) (H := ⟨(.inl ⟨rfl, fun W hW => by have c := hW.2.2.2.1; go_simp⟩), HS.out, ?_⟩)
 refine tg 6 (.pointer (some ⟨w.heap.size, 3, none⟩)) (H := ⟨HS.out, ?_⟩)
 refine tk 7 (.int .i64 x3) (H := ⟨(.inl ⟨rfl, fun W hW => by have c := hW.2.2.2.2; go_simp⟩), HS.out, ?_⟩)
 refine tg 8 (.pointer (some ⟨w.heap.size, 4, none⟩)) (H := ⟨HS.out, ?_⟩)
 refine tg 9 (.slice (some ⟨w.heap.size, 4, none⟩) 8 8) (H := ⟨HS.out, ?_⟩)
 refine tg 11 (.pointer (some ⟨w.heap.size, 12, none⟩)) (H := ⟨HS.out, ?_⟩)
 refine tg 12 (.slice (some ⟨w.heap.size, 12, none⟩) 8 8) (H := ⟨HS.out, ?_⟩)
 refine tg 14 (.pointer (some ⟨w.heap.size, 20, none⟩)) (H := ⟨HS.out, ?_⟩)
 refine tg 15 (.pointer (some ⟨w.heap.size, 20, none⟩)) (H := ⟨HS.out, ?_⟩)
 refine tg 16 (.slice (some ⟨w.heap.size, 20, none⟩) 4 4) (H := ⟨HS.out, ?_⟩)
 refine tg 18 (.pointer (some ⟨w.heap.size, 20, none⟩)) (H := ⟨HS.out, ?_⟩)
 refine tg 19 (.pointer (some ⟨w.heap.size, 24, none⟩)) (H := ⟨HS.out, ?_⟩)
 refine tg 20 (.slice (some ⟨w.heap.size, 24, none⟩) 4 4) (H := ⟨HS.out, ?_⟩)
 refine oq 10 (H := fun K hK => ?_)
 refine op_call1 127 _ _ Tryz.f127 (fun v w' => ∃ a len cap F, v = .slice a len cap ∧ RdI w' a len ((xs.drop 4).take 8) F ∧ Own W0.drew.heap.size w' F ∧ Below W0.drew.heap.size W0.drew w') rfl rfl Tryz.func127 (by kernel_rfl) (by kernel_rfl) ((copiedList_any w.heap.size 4 8 8 ((xs.drop 4).take 8) _ W0.drew (rdI_tc HS.out.1 (by rw [HL.out]; omega) (by omega)) (by omega) (by omega)).mono (by rintro e w' ⟨a, len, cap, F, rfl, h1, h2, h3⟩; exact ⟨_, rfl, a, len, cap, F, rfl, h1, h2, h3⟩)) ?_
 rintro v W1 ⟨y1, m1, d1, G1, rfl, r1z, o1z, b1z⟩
 obtain rfl : m1 = 8 := by rw [← r1z.length]; simp; have := HL.out; omega
 refine pk (h := hK _ _ ⟨keepS HS.out b1z, ?_⟩)
 have HS1 : Hid (SkHeld w.heap.size xs x0 x1 x2 x3 W1) := keepS HS.out b1z
 have HR1 : Hid (RdI W1 y1 8 ((xs.drop 4).take 8) G1 ∧ Own W0.drew.heap.size W1 G1 ∧ Below W0.drew.heap.size W0.drew W1) := ⟨r1z, o1z, b1z⟩
 clear hK r1z o1z b1z
 refine oq 13 (H := fun K hK => ?_)
 refine op_call1 127 _ _ Tryz.f127 (fun v w' => ∃ a len cap F, v = .slice a len cap ∧ RdI w' a len ((xs.drop 12).take 8) F ∧ Own W1.heap.size w' F ∧ Below W1.heap.size W1 w') rfl rfl Tryz.func127 (by kernel_rfl) (by kernel_rfl) ((copiedList_any w.heap.size 12 8 8 ((xs.drop 12).take 8) _ W1 (rdI_tc HS1.out.1 (by rw [HL.out]; omega) (by omega)) (by omega) (by omega)).mono (by rintro e w' ⟨a, len, cap, F, rfl, h1, h2, h3⟩; exact ⟨_, rfl, a, len, cap, F, rfl, h1, h2, h3⟩)) ?_
 rintro v W2 ⟨y2, m2, d2, G2, rfl, r2z, o2z, b2z⟩
 obtain rfl : m2 = 8 := by rw [← r2z.length]; simp; have := HL.out; omega
 refine pk (h := hK _ _ ⟨keepS HS1.out b2z, ?_⟩)
 have HS2 : Hid (SkHeld w.heap.size xs x0 x1 x2 x3 W2) := keepS HS1.out b2z
 have HR2 : Hid (RdI W2 y2 8 ((xs.drop 12).take 8) G2 ∧ Own W1.heap.size W2 G2 ∧ Below W1.heap.size W1 W2) := ⟨r2z, o2z, b2z⟩
 clear hK r2z o2z b2z
 refine oq 17 (H := fun K hK => ?_)
 refine op_call1 127 _ _ Tryz.f127 (fun v w' => ∃ a len cap F, v = .slice a len cap ∧ RdI w' a len ((xs.drop 20).take 4) F ∧ Own W2.heap.size w' F ∧ Below W2.heap.size W2 w') rfl rfl Tryz.func127 (by kernel_rfl) (by kernel_rfl) ((copiedList_any w.heap.size 20 4 4 ((xs.drop 20).take 4) _ W2 (rdI_tc HS2.out.1 (by rw [HL.out]; omega) (by omega)) (by omega) (by omega)).mono (by rintro e w' ⟨a, len, cap, F, rfl, h1, h2, h3⟩; exact ⟨_, rfl, a, len, cap, F, rfl, h1, h2, h3⟩)) ?_
 rintro v W3 ⟨y3, m3, d3, G3, rfl, r3z, o3z, b3z⟩
 obtain rfl : m3 = 4 := by rw [← r3z.length]; simp; have := HL.out; omega
 refine pk (h := hK _ _ ⟨keepS HS2.out b3z, ?_⟩)
 have HS3 : Hid (SkHeld w.heap.size xs x0 x1 x2 x3 W3) := keepS HS2.out b3z
 have HR3 : Hid (RdI W3 y3 4 ((xs.drop 20).take 4) G3 ∧ Own W2.heap.size W3 G3 ∧ Below W2.heap.size W2 W3) := ⟨r3z, o3z, b3z⟩
 clear hK r3z o3z b3z
 refine oq 21 (H := fun K hK => ?_)
 refine op_call1 127 _ _ Tryz.f127 (fun v w' => ∃ a len cap F, v = .slice a len cap ∧ RdI w' a len ((xs.drop 24).take 4) F ∧ Own W3.heap.size w' F ∧ Below W3.heap.size W3 w') rfl rfl Tryz.func127 (by kernel_rfl) (by kernel_rfl) ((copiedList_any w.heap.size 24 4 4 ((xs.drop 24).take 4) _ W3 (rdI_tc HS3.out.1 (by rw [HL.out]; omega) (by omega)) (by omega) (by omega)).mono (by rintro e w' ⟨a, len, cap, F, rfl, h1, h2, h3⟩; exact ⟨_, rfl, a, len, cap, F, rfl, h1, h2, h3⟩)) ?_
 rintro v W4 ⟨y4, m4, d4, G4, rfl, r4z, o4z, b4z⟩
 obtain rfl : m4 = 4 := by rw [← r4z.length]; simp; have := HL.out; omega
 refine pk (h := hK _ _ ⟨keepS HS3.out b4z, ?_⟩)
 have HS4 : Hid (SkHeld w.heap.size xs x0 x1 x2 x3 W4) := keepS HS3.out b4z
 have HR4 : Hid (RdI W4 y4 4 ((xs.drop 24).take 4) G4 ∧ Own W3.heap.size W4 G4 ∧ Below W3.heap.size W3 W4) := ⟨r4z, o4z, b4z⟩
 clear hK r4z o4z b4z
 refine oq 22 (H := fun K hK => ?_)
 refine op_turn (.slice (some ⟨W4.heap.size, 0, none⟩) 2 2) (W4.alloc (.cells #[.slice y3 4 d3, .slice y4 4 d4] 28)) rfl (by go_simp) (pk (h := hK _ _ ⟨keepS HS4.out ((Below.refl _ _).alloc (Nat.le_refl _) _), ?_⟩))
 clear hK
 obtain ⟨W5, hW5⟩ : ∃ W5, W5 = W4.alloc (.cells #[.slice y3 4 d3, .slice y4 4 d4] 28) := ⟨_, rfl⟩
 have HB5 : Hid (Blk W5 W4.heap.size #[.slice y3 4 d3, .slice y4 4 d4] 28 ∧ Below W4.heap.size W4 W5) := by rw [hW5]; exact ⟨Blk.made _ _ _, (Below.refl _ _).alloc (Nat.le_refl _) _⟩
 rw [← hW5]
 clear hW5
 have HS5 : Hid (SkHeld w.heap.size xs x0 x1 x2 x3 W5) := keepS HS4.out HB5.out.2
 have HRes : Hid (Blk W5 (w.heap.size + 1) #[.int .i64 0, .int .i64 0, .int .i64 0, .int .i64 0, .slice none 0 0, .slice none 0 0, .slice none 0 0] 31) := ((((HT.out.2.1.drew.below HR1.out.2.2).below HR2.out.2.2).below HR3.out.2.2).below HR4.out.2.2).below HB5.out.2
 refine tg 23 (.agg #[.int .i64 x0, .int .i64 x1, .int .i64 x2, .int .i64 x3, .slice y1 8 d1, .slice y2 8 d2, .slice (some ⟨W4.heap.size, 0, none⟩) 2 2]) (H := ⟨HS5.out, ?_⟩)
 refine oq 24 (H := fun K hK => ?_)
 refine op_store 31 (w.heap.size + 1) _ #[.int .i64 x0, .int .i64 x1, .int .i64 x2, .int .i64 x3, .slice y1 8 d1, .slice y2 8 d2, .slice (some ⟨W4.heap.size, 0, none⟩) 2 2] 31 rfl rfl rfl rfl HRes.out (by kernel_rfl) rfl (by kernel_rfl) (pk (h := hK _ _ ⟨mkS _ (HS5.out.1.setRowOther (by omega)), ?_⟩))
 clear hK
 refine wpAnyH_done (by kernel_rfl) ?_ _
 go_wp2
 refine bodyPost_ret (results_cell_row Tryz.results148 _ _ (w.heap.size + 1) _ _ _ _ rfl HRes.out.setRow Tryz.underlying31 rfl (by kernel_rfl)) rfl ?_
 have R := four_lists HR1.out.1 HR1.out.2.1 HR1.out.2.2 HR2.out.1 HR2.out.2.1 HR2.out.2.2 HR3.out.1 HR3.out.2.1 HR3.out.2.2 HR4.out.1 HR4.out.2.1 HR4.out.2.2 HB5.out.1 HB5.out.2
 have hsz : w.heap.size + 1 < W0.drew.heap.size := HT.out.2.1.drew.lt
 have bel := Below.next (Below.next (Below.next (Below.next (Below.next HT.out.2.2.drew HR1.out.2.2) HR2.out.2.2) HR3.out.2.2) HR4.out.2.2) HB5.out.2
 have nr : w.heap.size + 1 ∉ G1 ++ (G2 ++ (W4.heap.size :: (G3 ++ G4))) := fun hx => by have := R.2.2.2.2.ge _ hx; omega
 have ag : Agree W5 (W5.setRow (w.heap.size + 1) #[.int .i64 x0, .int .i64 x1, .int .i64 x2, .int .i64 x3, .slice y1 8 d1, .slice y2 8 d2, .slice (some ⟨W4.heap.size, 0, none⟩) 2 2]) (G1 ++ (G2 ++ (W4.heap.size :: (G3 ++ G4)))) := fun b hb => setRow_other W5 _ b _ (fun e => nr (e ▸ hb))
 have two := two_rows4 HB5.out.1 R.2.2.1 R.2.2.2.1
 refine ⟨_, G1 ++ (G2 ++ (W4.heap.size :: (G3 ++ G4))), rfl, ⟨y1, 8, d1, y2, 8, d2, _, 2, 2, G1, G2, W4.heap.size :: (G3 ++ G4), ?_, R.1.agree ag.left, R.2.1.agree ag.right.left, two.agree ag.right.right, rfl⟩, (R.2.2.2.2.agree ag).mono (by omega), below_setRow bel (by omega) _⟩
 rw [HX.out.1, HX.out.2.1, HX.out.2.2.1, HX.out.2.2.2]
 rfl
end Go.Proofs.YtjnamoppcklomaaGreat
