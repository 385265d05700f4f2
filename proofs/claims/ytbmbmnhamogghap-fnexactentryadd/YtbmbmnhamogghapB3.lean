/- Several texts of mine, laid together. No statement of the seat is proved here. -/
import Derived.Test.YtbmbmnhamogghapTallyD
import Derived.Test.YtbmbmnhamogghapSkSum
import Derived.Test.YtbmbmnhamogghapTallyMath
import Derived.Test.YtbmbmnhamogghapTallyP
import Derived.Test.YtbmbmnhamogghapSkLaw
import Derived.Test.YtbmbmnhamogghapB2
import Derived.Test.YtbmbmnhamogghapItHold
import Derived.Test.YtbmbmnhamogghapItLaw
import Derived.Test.YtbmbmnhamogghapItVar
/- What the program lays out of its row: a summary in memory of its own. No statement of the seat is proved here. -/
namespace Go.Proofs.Ytbmbmnhamogghap
open Go.RowKit
set_option maxRecDepth 200000 in
set_option maxHeartbeats 400000 in
theorem copiedList_any (b off len cap : Nat) (zs : List Int) (F : List Nat) (w : World) (h : RdI w (some ⟨b, off, none⟩) len zs F) (hp : 0 < len) (hlen : len ≤ 1048576) :
    Calls Try.prog 84 #[.slice (some ⟨b, off, none⟩) len cap] w fun e w' => NewI w zs e w' := by
  obtain ⟨i0, hi, hz0, hz1, hz2⟩ := info_parts infoInt
  have HR : Hid (RdI w (some ⟨b, off, none⟩) len zs F) := h
  have hlz := h.length
  obtain ⟨ad, had, hsrc⟩ := h.src (Below.refl _ _) hp
  obtain rfl := Option.some.inj had
  have HSrc : Hid (∀ j v, (zs.map (Value.int .i64))[j]? = some v → w.cell? ((⟨b, off, none⟩ : Addr).add j) = some v) := hsrc
  have HO : Hid (w.ownsRow w.heap.size 3 1 (.slice none 0 0) 0 []) := ⟨rfl, .inl ⟨rfl, rfl⟩⟩
  clear h hsrc had
  go_enter Try.func84, Try.ntmps84
  go_wp2_with (at_builtin; (refine wpList_append_own _ rfl _ _ 23 rfl w.heap.size 3 i0 (.int .i64 0) 1 8 Try.underlying23 hi hz0 hz1 hz2 rfl (by decide) _ 0 [] rfl HO.out ⟨b, off, none⟩ len cap (zs.map (Value.int .i64)) rfl (by simp [hlz]) HSrc.out (ints_one _) (by unfold maxLen; omega) (by omega) (by omega) ?_))
  intro v w2 hown hgrow _
  have HN : Hid (w2.ownsRow w.heap.size 3 1 v len (zs.map (Value.int .i64)) ∧ Below w.heap.size w w2) := ⟨by simpa using hown, (Below.refl _ _).grown hgrow (by omega) (fun k hk => by cases hk)⟩
  clear hown hgrow
  go_wp2
  go_ret
  obtain ⟨a, c, F', rfl, hr, ho⟩ := rdI_of_own HN.out.1
  exact ⟨a, len, c, F', rfl, hr, ho, HN.out.2⟩
/-- The summary whose numbers these are. -/
def skOf (xs : List Int) : Sk := ⟨xs.getD 0 0, xs.getD 1 0, xs.getD 2 0, xs.getD 3 0, (xs.drop 4).take 8, (xs.drop 12).take 8, [(xs.drop 20).take 4, (xs.drop 24).take 4]⟩
theorem Own.perm {B : Nat} {w : World} {F G : List Nat} (h : Own B w F) (p : F.Perm G) : Own B w G :=
  ⟨p.nodup h.nodup, fun b hb => h.free b (p.mem_iff.2 hb), fun b hb => h.ge b (p.mem_iff.2 hb)⟩
theorem Own.blk {B : Nat} {w : World} {F : List Nat} {g : Nat} {cs : Array Value} {t : TypeId} (h : Own B w F) (b : Blk w g cs t) (hg : g ∉ F) (hB : B ≤ g) : Own B w (F ++ [g]) :=
  h.app ⟨by simp, fun x hx o => by (obtain rfl : x = g := by simpa using hx); exact b.frozen o, fun x hx => by (obtain rfl : x = g := by simpa using hx); exact hB⟩ (fun x hx hx' => hg (by (obtain rfl : x = g := by simpa using hx'); exact hx))
theorem two_rows4 {wx : World} {x2 x3 : Option Addr} {l2 l3 : List Int} {X2 X3 : List Nat} {g : Nat} {j2 j3 : Nat} {t : TypeId} (br : Blk wx g #[.slice x2 4 j2, .slice x3 4 j3] t) (r2 : RdI wx x2 4 l2 X2) (r3 : RdI wx x3 4 l3 X3) : RdII wx (some ⟨g, 0, none⟩) 2 [l2, l3] (g :: (X2 ++ X3)) := by
  refine ⟨rfl, .inr ⟨g, 0, X2 ++ X3, by omega, rfl, rfl, ?_⟩⟩
  show RdM wx [ints l2, ints l3] g 0 (X2 ++ X3)
  rw [RdM]
  refine ⟨_, X2, X3, by rw [br.cell 0]; rfl, rd_ints.2 ⟨_, 4, j2, rfl, r2⟩, ?_, rfl⟩
  rw [RdM]
  exact ⟨_, X3, [], by rw [br.cell 1]; rfl, rd_ints.2 ⟨_, 4, j3, rfl, r3⟩, by simp [RdM], by simp⟩
/-- Four lists that were made one behind the other, and a row of the last two. -/
theorem four_lists {w0 w1 w2 w3 w4 w5 : World} {a1 a2 a3 a4 : Option Addr} {n1 n2 n3 n4 : Nat} {l1 l2 l3 l4 : List Int} {F1 F2 F3 F4 : List Nat} {cs : Array Value} {t : TypeId}
    (r1 : RdI w1 a1 n1 l1 F1) (o1 : Own w0.heap.size w1 F1) (b1 : Below w0.heap.size w0 w1) (r2 : RdI w2 a2 n2 l2 F2) (o2 : Own w1.heap.size w2 F2) (b2 : Below w1.heap.size w1 w2) (r3 : RdI w3 a3 n3 l3 F3) (o3 : Own w2.heap.size w3 F3) (b3 : Below w2.heap.size w2 w3)
    (r4 : RdI w4 a4 n4 l4 F4) (o4 : Own w3.heap.size w4 F4) (b4 : Below w3.heap.size w3 w4) (k : Blk w5 w4.heap.size cs t) (b5 : Below w4.heap.size w4 w5) :
    RdI w5 a1 n1 l1 F1 ∧ RdI w5 a2 n2 l2 F2 ∧ RdI w5 a3 n3 l3 F3 ∧ RdI w5 a4 n4 l4 F4 ∧ Own w0.heap.size w5 (F1 ++ (F2 ++ (w4.heap.size :: (F3 ++ F4)))) := by
  have s1 := b1.size; have s2 := b2.size; have s3 := b3.size; have s4 := b4.size
  have p2 := (o1.below r1.lt b2).join o2 r1.lt s1
  have q1 := r1.below b2
  have l2 : ∀ b ∈ F1 ++ F2, b < w2.heap.size := fun b h => (List.mem_append.1 h).elim (q1.lt b) (r2.lt b)
  have p3 := (p2.below l2 b3).join o3 l2 (by omega)
  have l3 : ∀ b ∈ F1 ++ F2 ++ F3, b < w3.heap.size := fun b h => (List.mem_append.1 h).elim (fun h => by have := l2 b h; omega) (r3.lt b)
  have p4 := (p3.below l3 b4).join o4 l3 (by omega)
  have l4 : ∀ b ∈ F1 ++ F2 ++ F3 ++ F4, b < w4.heap.size := fun b h => (List.mem_append.1 h).elim (fun h => by have := l3 b h; omega) (r4.lt b)
  have p5 := (p4.below l4 b5).blk k (fun h => by have := l4 _ h; omega) (by omega)
  refine ⟨((q1.below b3).below b4).below b5, ((r2.below b3).below b4).below b5, (r3.below b4).below b5, r4.below b5, p5.perm ?_⟩
  rw [List.perm_iff_count]
  intro x
  simp only [List.count_append, List.count_cons, List.count_nil]
  omega
/-- The row lies there, and its four first numbers are these. -/
def SkHeld (g : Nat) (xs : List Int) (x0 x1 x2 x3 : Int) (W : World) : Prop := Blk W g (tc xs) 75 ∧ W.cell? ⟨g, 0, none⟩ = some (.int .i64 x0) ∧ W.cell? ⟨g, 1, none⟩ = some (.int .i64 x1) ∧ W.cell? ⟨g, 2, none⟩ = some (.int .i64 x2) ∧ W.cell? ⟨g, 3, none⟩ = some (.int .i64 x3)
set_option maxRecDepth 200000 in
set_option maxHeartbeats 4000000 in
theorem sketch_any (xs : List Int) (w : World) (hx : xs.length = 28) :
    Calls Try.prog 96 #[.agg (tc xs)] w fun e w' => NewSk w (skOf xs) e w' := by
  have HL : Hid (xs.length = 28) := hx
  obtain ⟨x0, hx0⟩ : ∃ x, x = xs.getD 0 0 := ⟨_, rfl⟩
  obtain ⟨x1, hx1⟩ : ∃ x, x = xs.getD 1 0 := ⟨_, rfl⟩
  obtain ⟨x2, hx2⟩ : ∃ x, x = xs.getD 2 0 := ⟨_, rfl⟩
  obtain ⟨x3, hx3⟩ : ∃ x, x = xs.getD 3 0 := ⟨_, rfl⟩
  have HX : Hid (x0 = xs.getD 0 0 ∧ x1 = xs.getD 1 0 ∧ x2 = xs.getD 2 0 ∧ x3 = xs.getD 3 0) := ⟨hx0, hx1, hx2, hx3⟩
  have mkS : ∀ W, Blk W w.heap.size (tc xs) 75 → SkHeld w.heap.size xs x0 x1 x2 x3 W := fun W b =>
    ⟨b, by rw [b.cell, hx0]; exact tc_get (by omega), by rw [b.cell, hx1]; exact tc_get (by omega), by rw [b.cell, hx2]; exact tc_get (by omega), by rw [b.cell, hx3]; exact tc_get (by omega)⟩
  have keepS : ∀ {W W' : World}, SkHeld w.heap.size xs x0 x1 x2 x3 W → Below W.heap.size W W' → SkHeld w.heap.size xs x0 x1 x2 x3 W' := fun h b => mkS _ (h.1.below b)
  have HT : Hid (_ ∧ _ ∧ _) := two_made w (tc xs) #[.int .i64 0, .int .i64 0, .int .i64 0, .int .i64 0, .slice none 0 0, .slice none 0 0, .slice none 0 0] 75 32
  clear hx hx0 hx1 hx2 hx3
  go_enter Try.func96, Try.ntmps96
  go_wp2
  obtain ⟨W0, hW0⟩ : ∃ W0, W0 = (w.alloc (.cells (tc xs) 75)).alloc (.cells #[.int .i64 0, .int .i64 0, .int .i64 0, .int .i64 0, .slice none 0 0, .slice none 0 0, .slice none 0 0] 32) := ⟨_, rfl⟩
  rw [← hW0] at HT ⊢
  clear hW0
  have HS : Hid (SkHeld w.heap.size xs x0 x1 x2 x3 W0.drew) := mkS _ HT.out.1.drew
  refine wp_region_held (S := SkHeld w.heap.size xs x0 x1 x2 x3) (by kernel_rfl) ?_
  change wpAnyH _ _ _ _ _ _ _ _ (World.drew _)
  refine takeH (o := ?o1) 0 (.pointer (some ⟨w.heap.size, 0, none⟩)) ?h1 ?r1
  case h1 => simp only [List.getElem?_toArray, List.getElem?_cons_zero]; rfl
  refine ⟨_, by simp [Act.put]; rfl, by kernel_rfl, by kernel_rfl, by kernel_rfl, fun _ _ _ h => h, (.inl ⟨rfl, fun W _ => by go_simp⟩), HS.out, ?_⟩
  refine takeH (o := ?o2) 1 (.int .i64 x0) ?h2 ?r2
  case h2 => simp only [List.getElem?_toArray, List.getElem?_cons_succ, List.getElem?_cons_zero]; rfl
  refine ⟨_, by simp [Act.put]; rfl, by kernel_rfl, by kernel_rfl, by kernel_rfl, fun _ _ _ h => h, (.inl ⟨rfl, fun W hW => by have c := hW.2.1; go_simp⟩), HS.out, ?_⟩
  refine takeH (o := ?o3) 2 (.pointer (some ⟨w.heap.size, 1, none⟩)) ?h3 ?r3
  case h3 => simp only [List.getElem?_toArray, List.getElem?_cons_succ, List.getElem?_cons_zero]; rfl
  refine ⟨_, by simp [Act.put]; rfl, by kernel_rfl, by kernel_rfl, by kernel_rfl, fun _ _ _ h => h, (.inl ⟨rfl, fun W _ => by go_simp⟩), HS.out, ?_⟩
  refine takeH (o := ?o4) 3 (.int .i64 x1) ?h4 ?r4
  case h4 => simp only [List.getElem?_toArray, List.getElem?_cons_succ, List.getElem?_cons_zero]; rfl
  refine ⟨_, by simp [Act.put]; rfl, by kernel_rfl, by kernel_rfl, by kernel_rfl, fun _ _ _ h => h, (.inl ⟨rfl, fun W hW => by have c := hW.2.2.1; go_simp⟩), HS.out, ?_⟩
  refine takeH (o := ?o5) 4 (.pointer (some ⟨w.heap.size, 2, none⟩)) ?h5 ?r5
  case h5 => simp only [List.getElem?_toArray, List.getElem?_cons_succ, List.getElem?_cons_zero]; rfl
  refine ⟨_, by simp [Act.put]; rfl, by kernel_rfl, by kernel_rfl, by kernel_rfl, fun _ _ _ h => h, (.inl ⟨rfl, fun W _ => by go_simp⟩), HS.out, ?_⟩
  refine takeH (o := ?o6) 5 (.int .i64 x2) ?h6 ?r6
  case h6 => simp only [List.getElem?_toArray, List.getElem?_cons_succ, List.getElem?_cons_zero]; rfl
  refine ⟨_, by simp [Act.put]; rfl, by kernel_rfl, by kernel_rfl, by kernel_rfl, fun _ _ _ h => h, (.inl ⟨rfl, fun W hW => by have c := hW.2.2.2.1; go_simp⟩), HS.out, ?_⟩
  refine takeH (o := ?o7) 6 (.pointer (some ⟨w.heap.size, 3, none⟩)) ?h7 ?r7
  case h7 => simp only [List.getElem?_toArray, List.getElem?_cons_succ, List.getElem?_cons_zero]; rfl
  refine ⟨_, by simp [Act.put]; rfl, by kernel_rfl, by kernel_rfl, by kernel_rfl, fun _ _ _ h => h, (.inl ⟨rfl, fun W _ => by go_simp⟩), HS.out, ?_⟩
  refine takeH (o := ?o8) 7 (.int .i64 x3) ?h8 ?r8
  case h8 => simp only [List.getElem?_toArray, List.getElem?_cons_succ, List.getElem?_cons_zero]; rfl
  refine ⟨_, by simp [Act.put]; rfl, by kernel_rfl, by kernel_rfl, by kernel_rfl, fun _ _ _ h => h, (.inl ⟨rfl, fun W hW => by have c := hW.2.2.2.2; go_simp⟩), HS.out, ?_⟩
  refine takeH (o := ?o9) 8 (.pointer (some ⟨w.heap.size, 4, none⟩)) ?h9 ?r9
  case h9 => simp only [List.getElem?_toArray, List.getElem?_cons_succ, List.getElem?_cons_zero]; rfl
  refine ⟨_, by simp [Act.put]; rfl, by kernel_rfl, by kernel_rfl, by kernel_rfl, fun _ _ _ h => h, (.inl ⟨rfl, fun W _ => by go_simp⟩), HS.out, ?_⟩
  refine takeH (o := ?o10) 9 (.slice (some ⟨w.heap.size, 4, none⟩) 8 8) ?h10 ?r10
  case h10 => simp only [List.getElem?_toArray, List.getElem?_cons_succ, List.getElem?_cons_zero]; rfl
  refine ⟨_, by simp [Act.put]; rfl, by kernel_rfl, by kernel_rfl, by kernel_rfl, fun _ _ _ h => h, (.inl ⟨rfl, fun W _ => by go_simp⟩), HS.out, ?_⟩
  refine takeH (o := ?o11) 11 (.pointer (some ⟨w.heap.size, 12, none⟩)) ?h11 ?r11
  case h11 => simp only [List.getElem?_toArray, List.getElem?_cons_succ, List.getElem?_cons_zero]; rfl
  refine ⟨_, by simp [Act.put]; rfl, by kernel_rfl, by kernel_rfl, by kernel_rfl, fun _ _ _ h => h, (.inl ⟨rfl, fun W _ => by go_simp⟩), HS.out, ?_⟩
  refine takeH (o := ?o12) 12 (.slice (some ⟨w.heap.size, 12, none⟩) 8 8) ?h12 ?r12
  case h12 => simp only [List.getElem?_toArray, List.getElem?_cons_succ, List.getElem?_cons_zero]; rfl
  refine ⟨_, by simp [Act.put]; rfl, by kernel_rfl, by kernel_rfl, by kernel_rfl, fun _ _ _ h => h, (.inl ⟨rfl, fun W _ => by go_simp⟩), HS.out, ?_⟩
  refine takeH (o := ?o13) 14 (.pointer (some ⟨w.heap.size, 20, none⟩)) ?h13 ?r13
  case h13 => simp only [List.getElem?_toArray, List.getElem?_cons_succ, List.getElem?_cons_zero]; rfl
  refine ⟨_, by simp [Act.put]; rfl, by kernel_rfl, by kernel_rfl, by kernel_rfl, fun _ _ _ h => h, (.inl ⟨rfl, fun W _ => by go_simp⟩), HS.out, ?_⟩
  refine takeH (o := ?o14) 15 (.pointer (some ⟨w.heap.size, 20, none⟩)) ?h14 ?r14
  case h14 => simp only [List.getElem?_toArray, List.getElem?_cons_succ, List.getElem?_cons_zero]; rfl
  refine ⟨_, by simp [Act.put]; rfl, by kernel_rfl, by kernel_rfl, by kernel_rfl, fun _ _ _ h => h, (.inl ⟨rfl, fun W _ => by go_simp⟩), HS.out, ?_⟩
  refine takeH (o := ?o15) 16 (.slice (some ⟨w.heap.size, 20, none⟩) 4 4) ?h15 ?r15
  case h15 => simp only [List.getElem?_toArray, List.getElem?_cons_succ, List.getElem?_cons_zero]; rfl
  refine ⟨_, by simp [Act.put]; rfl, by kernel_rfl, by kernel_rfl, by kernel_rfl, fun _ _ _ h => h, (.inl ⟨rfl, fun W _ => by go_simp⟩), HS.out, ?_⟩
  refine takeH (o := ?o16) 18 (.pointer (some ⟨w.heap.size, 20, none⟩)) ?h16 ?r16
  case h16 => simp only [List.getElem?_toArray, List.getElem?_cons_succ, List.getElem?_cons_zero]; rfl
  refine ⟨_, by simp [Act.put]; rfl, by kernel_rfl, by kernel_rfl, by kernel_rfl, fun _ _ _ h => h, (.inl ⟨rfl, fun W _ => by go_simp⟩), HS.out, ?_⟩
  refine takeH (o := ?o17) 19 (.pointer (some ⟨w.heap.size, 24, none⟩)) ?h17 ?r17
  case h17 => simp only [List.getElem?_toArray, List.getElem?_cons_succ, List.getElem?_cons_zero]; rfl
  refine ⟨_, by simp [Act.put]; rfl, by kernel_rfl, by kernel_rfl, by kernel_rfl, fun _ _ _ h => h, (.inl ⟨rfl, fun W _ => by go_simp⟩), HS.out, ?_⟩
  refine takeH (o := ?o18) 20 (.slice (some ⟨w.heap.size, 24, none⟩) 4 4) ?h18 ?r18
  case h18 => simp only [List.getElem?_toArray, List.getElem?_cons_succ, List.getElem?_cons_zero]; rfl
  refine ⟨_, by simp [Act.put]; rfl, by kernel_rfl, by kernel_rfl, by kernel_rfl, fun _ _ _ h => h, (.inl ⟨rfl, fun W _ => by go_simp⟩), HS.out, ?_⟩
  refine onlyH (o := ?o19) 10 (by kernel_rfl) ?h19 ?r19
  case h19 => simp only [List.getElem?_toArray, List.getElem?_cons_succ, List.getElem?_cons_zero]; rfl
  intro K hK
  refine op_call1 84 _ _ Try.f84 (fun v w' => ∃ a len cap F, v = .slice a len cap ∧ RdI w' a len ((xs.drop 4).take 8) F ∧ Own W0.drew.heap.size w' F ∧ Below W0.drew.heap.size W0.drew w') rfl rfl Try.func84 (by kernel_rfl) (by kernel_rfl) ((copiedList_any w.heap.size 4 8 8 ((xs.drop 4).take 8) _ W0.drew (rdI_tc HS.out.1 (by rw [HL.out]; omega) (by omega)) (by omega) (by omega)).mono (by rintro e w' ⟨a, len, cap, F, rfl, h1, h2, h3⟩; exact ⟨_, rfl, a, len, cap, F, rfl, h1, h2, h3⟩)) ?_
  rintro v W1 ⟨y1, m1, d1, G1, rfl, r1z, o1z, b1z⟩
  obtain rfl : m1 = 8 := by rw [← r1z.length]; simp; have := HL.out; omega
  refine ⟨_, by simp [Act.put]; rfl, hK _ _ ⟨keepS HS.out b1z, ?_⟩⟩
  have HS1 : Hid (SkHeld w.heap.size xs x0 x1 x2 x3 W1) := keepS HS.out b1z
  have HR1 : Hid (RdI W1 y1 8 ((xs.drop 4).take 8) G1 ∧ Own W0.drew.heap.size W1 G1 ∧ Below W0.drew.heap.size W0.drew W1) := ⟨r1z, o1z, b1z⟩
  clear hK r1z o1z b1z
  refine onlyH (o := ?o20) 13 (by kernel_rfl) ?h20 ?r20
  case h20 => simp only [List.getElem?_toArray, List.getElem?_cons_succ, List.getElem?_cons_zero]; rfl
  intro K hK
  refine op_call1 84 _ _ Try.f84 (fun v w' => ∃ a len cap F, v = .slice a len cap ∧ RdI w' a len ((xs.drop 12).take 8) F ∧ Own W1.heap.size w' F ∧ Below W1.heap.size W1 w') rfl rfl Try.func84 (by kernel_rfl) (by kernel_rfl) ((copiedList_any w.heap.size 12 8 8 ((xs.drop 12).take 8) _ W1 (rdI_tc HS1.out.1 (by rw [HL.out]; omega) (by omega)) (by omega) (by omega)).mono (by rintro e w' ⟨a, len, cap, F, rfl, h1, h2, h3⟩; exact ⟨_, rfl, a, len, cap, F, rfl, h1, h2, h3⟩)) ?_
  rintro v W2 ⟨y2, m2, d2, G2, rfl, r2z, o2z, b2z⟩
  obtain rfl : m2 = 8 := by rw [← r2z.length]; simp; have := HL.out; omega
  refine ⟨_, by simp [Act.put]; rfl, hK _ _ ⟨keepS HS1.out b2z, ?_⟩⟩
  have HS2 : Hid (SkHeld w.heap.size xs x0 x1 x2 x3 W2) := keepS HS1.out b2z
  have HR2 : Hid (RdI W2 y2 8 ((xs.drop 12).take 8) G2 ∧ Own W1.heap.size W2 G2 ∧ Below W1.heap.size W1 W2) := ⟨r2z, o2z, b2z⟩
  clear hK r2z o2z b2z
  refine onlyH (o := ?o21) 17 (by kernel_rfl) ?h21 ?r21
  case h21 => simp only [List.getElem?_toArray, List.getElem?_cons_succ, List.getElem?_cons_zero]; rfl
  intro K hK
  refine op_call1 84 _ _ Try.f84 (fun v w' => ∃ a len cap F, v = .slice a len cap ∧ RdI w' a len ((xs.drop 20).take 4) F ∧ Own W2.heap.size w' F ∧ Below W2.heap.size W2 w') rfl rfl Try.func84 (by kernel_rfl) (by kernel_rfl) ((copiedList_any w.heap.size 20 4 4 ((xs.drop 20).take 4) _ W2 (rdI_tc HS2.out.1 (by rw [HL.out]; omega) (by omega)) (by omega) (by omega)).mono (by rintro e w' ⟨a, len, cap, F, rfl, h1, h2, h3⟩; exact ⟨_, rfl, a, len, cap, F, rfl, h1, h2, h3⟩)) ?_
  rintro v W3 ⟨y3, m3, d3, G3, rfl, r3z, o3z, b3z⟩
  obtain rfl : m3 = 4 := by rw [← r3z.length]; simp; have := HL.out; omega
  refine ⟨_, by simp [Act.put]; rfl, hK _ _ ⟨keepS HS2.out b3z, ?_⟩⟩
  have HS3 : Hid (SkHeld w.heap.size xs x0 x1 x2 x3 W3) := keepS HS2.out b3z
  have HR3 : Hid (RdI W3 y3 4 ((xs.drop 20).take 4) G3 ∧ Own W2.heap.size W3 G3 ∧ Below W2.heap.size W2 W3) := ⟨r3z, o3z, b3z⟩
  clear hK r3z o3z b3z
  refine onlyH (o := ?o22) 21 (by kernel_rfl) ?h22 ?r22
  case h22 => simp only [List.getElem?_toArray, List.getElem?_cons_succ, List.getElem?_cons_zero]; rfl
  intro K hK
  refine op_call1 84 _ _ Try.f84 (fun v w' => ∃ a len cap F, v = .slice a len cap ∧ RdI w' a len ((xs.drop 24).take 4) F ∧ Own W3.heap.size w' F ∧ Below W3.heap.size W3 w') rfl rfl Try.func84 (by kernel_rfl) (by kernel_rfl) ((copiedList_any w.heap.size 24 4 4 ((xs.drop 24).take 4) _ W3 (rdI_tc HS3.out.1 (by rw [HL.out]; omega) (by omega)) (by omega) (by omega)).mono (by rintro e w' ⟨a, len, cap, F, rfl, h1, h2, h3⟩; exact ⟨_, rfl, a, len, cap, F, rfl, h1, h2, h3⟩)) ?_
  rintro v W4 ⟨y4, m4, d4, G4, rfl, r4z, o4z, b4z⟩
  obtain rfl : m4 = 4 := by rw [← r4z.length]; simp; have := HL.out; omega
  refine ⟨_, by simp [Act.put]; rfl, hK _ _ ⟨keepS HS3.out b4z, ?_⟩⟩
  have HS4 : Hid (SkHeld w.heap.size xs x0 x1 x2 x3 W4) := keepS HS3.out b4z
  have HR4 : Hid (RdI W4 y4 4 ((xs.drop 24).take 4) G4 ∧ Own W3.heap.size W4 G4 ∧ Below W3.heap.size W3 W4) := ⟨r4z, o4z, b4z⟩
  clear hK r4z o4z b4z
  refine onlyH (o := ?o23) 22 (by kernel_rfl) ?h23 ?r23
  case h23 => simp only [List.getElem?_toArray, List.getElem?_cons_succ, List.getElem?_cons_zero]; rfl
  intro K hK
  refine op_turn (.slice (some ⟨W4.heap.size, 0, none⟩) 2 2) (W4.alloc (.cells #[.slice y3 4 d3, .slice y4 4 d4] 23)) rfl (by go_simp) ⟨_, by simp [Act.put]; rfl, hK _ _ ⟨keepS HS4.out ((Below.refl _ _).alloc (Nat.le_refl _) _), ?_⟩⟩
  clear hK
  obtain ⟨W5, hW5⟩ : ∃ W5, W5 = W4.alloc (.cells #[.slice y3 4 d3, .slice y4 4 d4] 23) := ⟨_, rfl⟩
  have HB5 : Hid (Blk W5 W4.heap.size #[.slice y3 4 d3, .slice y4 4 d4] 23 ∧ Below W4.heap.size W4 W5) := by rw [hW5]; exact ⟨Blk.made _ _ _, (Below.refl _ _).alloc (Nat.le_refl _) _⟩
  rw [← hW5]
  clear hW5
  have HS5 : Hid (SkHeld w.heap.size xs x0 x1 x2 x3 W5) := keepS HS4.out HB5.out.2
  have HRes : Hid (Blk W5 (w.heap.size + 1) #[.int .i64 0, .int .i64 0, .int .i64 0, .int .i64 0, .slice none 0 0, .slice none 0 0, .slice none 0 0] 32) := ((((HT.out.2.1.drew.below HR1.out.2.2).below HR2.out.2.2).below HR3.out.2.2).below HR4.out.2.2).below HB5.out.2
  refine takeH (o := ?o24) 23 (.agg #[.int .i64 x0, .int .i64 x1, .int .i64 x2, .int .i64 x3, .slice y1 8 d1, .slice y2 8 d2, .slice (some ⟨W4.heap.size, 0, none⟩) 2 2]) ?h24 ?r24
  case h24 => simp only [List.getElem?_toArray, List.getElem?_cons_succ, List.getElem?_cons_zero]; rfl
  refine ⟨_, by simp [Act.put]; rfl, by kernel_rfl, by kernel_rfl, by kernel_rfl, fun _ _ _ h => h, (.inl ⟨rfl, fun W _ => by go_simp⟩), HS5.out, ?_⟩
  refine onlyH (o := ?o25) 24 (by kernel_rfl) ?h25 ?r25
  case h25 => simp only [List.getElem?_toArray, List.getElem?_cons_succ, List.getElem?_cons_zero]; rfl
  intro K hK
  refine op_store 32 (w.heap.size + 1) _ #[.int .i64 x0, .int .i64 x1, .int .i64 x2, .int .i64 x3, .slice y1 8 d1, .slice y2 8 d2, .slice (some ⟨W4.heap.size, 0, none⟩) 2 2] 32 rfl rfl rfl rfl HRes.out (by kernel_rfl) rfl (by kernel_rfl) ⟨_, by simp [Act.put]; rfl, hK _ _ ⟨mkS _ (HS5.out.1.setRowOther (by omega)), ?_⟩⟩
  clear hK
  refine wpAnyH_done (by kernel_rfl) ?_ _
  go_wp2
  refine bodyPost_ret (results_cell_row Try.results96 _ _ (w.heap.size + 1) _ _ _ _ rfl HRes.out.setRow Try.underlying32 rfl (by kernel_rfl)) rfl ?_
  have R := four_lists HR1.out.1 HR1.out.2.1 HR1.out.2.2 HR2.out.1 HR2.out.2.1 HR2.out.2.2 HR3.out.1 HR3.out.2.1 HR3.out.2.2 HR4.out.1 HR4.out.2.1 HR4.out.2.2 HB5.out.1 HB5.out.2
  have hsz : w.heap.size + 1 < W0.drew.heap.size := HT.out.2.1.drew.lt
  have bel := Below.next (Below.next (Below.next (Below.next (Below.next HT.out.2.2.drew HR1.out.2.2) HR2.out.2.2) HR3.out.2.2) HR4.out.2.2) HB5.out.2
  have nr : w.heap.size + 1 ∉ G1 ++ (G2 ++ (W4.heap.size :: (G3 ++ G4))) := fun hx => by have := R.2.2.2.2.ge _ hx; omega
  have ag : Agree W5 (W5.setRow (w.heap.size + 1) #[.int .i64 x0, .int .i64 x1, .int .i64 x2, .int .i64 x3, .slice y1 8 d1, .slice y2 8 d2, .slice (some ⟨W4.heap.size, 0, none⟩) 2 2]) (G1 ++ (G2 ++ (W4.heap.size :: (G3 ++ G4)))) := fun b hb => setRow_other W5 _ b _ (fun e => nr (e ▸ hb))
  have two := two_rows4 HB5.out.1 R.2.2.1 R.2.2.2.1
  refine ⟨_, G1 ++ (G2 ++ (W4.heap.size :: (G3 ++ G4))), rfl, ⟨y1, 8, d1, y2, 8, d2, _, 2, 2, G1, G2, W4.heap.size :: (G3 ++ G4), ?_, R.1.agree ag.left, R.2.1.agree ag.right.left, two.agree ag.right.right, rfl⟩, (R.2.2.2.2.agree ag).mono (by omega), below_setRow bel (by omega) _⟩
  rw [HX.out.1, HX.out.2.1, HX.out.2.2.1, HX.out.2.2.2]
  rfl
end Go.Proofs.Ytbmbmnhamogghap
/- The walk through the program's Merge: what it answers is what the model's answers. No statement of the seat is proved here. -/
namespace Go.Proofs.Ytbmbmnhamogghap
open Go.RowKit
theorem Sk.ok_facts {s : Sk} (h : s.ok = true) : 0 ≤ s.min ∧ s.min ≤ s.max ∧ (s.count = 0 → s.max = 0) := by
  unfold Sk.ok okHead okZero at h
  simp only [Bool.and_eq_true, decide_eq_true_eq, Bool.or_eq_true, Bool.not_eq_true', decide_eq_false_iff_not] at h
  obtain ⟨⟨h1, h2⟩, _⟩ := h
  refine ⟨h1.1.1.1.2.1, h1.1.2, fun e => ?_⟩
  rcases h2 with h2 | h2
  · exact absurd e h2
  · exact h2.2
theorem merge_tl {s t : Sk} (hs : s.ok = true) (ht : t.ok = true) : skOf (plusL s.tl t.tl 28) = s.merge t := by
  obtain ⟨f1, f2, f3⟩ := Sk.ok_facts hs
  obtain ⟨g1, g2, g3⟩ := Sk.ok_facts ht
  obtain ⟨h0, h1, h2, h3, h4, h5, h6, h7, r0, r1, r2, r3, r4, r5, r6, r7, p0, p1, p2, p3, q0, q1, q2, q3, e⟩ := Sk.written (Sk.ok_shaped hs)
  obtain ⟨k0, k1, k2, k3, k4, k5, k6, k7, m0, m1, m2, m3, m4, m5, m6, m7, n0, n1, n2, n3, o0, o1, o2, o3, e'⟩ := Sk.written (Sk.ok_shaped ht)
  clear hs ht
  generalize s.count = c at e f1 f2 f3
  generalize s.sum = sm at e
  generalize s.min = mn at e f1 f2 f3
  generalize s.max = mx at e f1 f2 f3
  generalize t.count = c' at e' g1 g2 g3
  generalize t.sum = sm' at e'
  generalize t.min = mn' at e' g1 g2 g3
  generalize t.max = mx' at e' g1 g2 g3
  subst e e'
  refine Sk.eq_of rfl rfl ?_ ?_ rfl rfl rfl
  · show (if c = 0 then (mn', mx') else if c' = 0 then (mn, mx) else (min mn mn', max mx mx')).1 = if c' = 0 then mn else if c = 0 then mn' else Min.min mn mn'
    by_cases a : c = 0
    · rw [if_pos a]
      by_cases b : c' = 0
      · rw [if_pos b]
        have := f3 a; have := g3 b
        show mn' = mn
        omega
      · rw [if_neg b, if_pos a]
    · rw [if_neg a]
      by_cases b : c' = 0
      · rw [if_pos b, if_pos b]
      · rw [if_neg b, if_neg b, if_neg a]
  · show (if c = 0 then (mn', mx') else if c' = 0 then (mn, mx) else (min mn mn', max mx mx')).2 = Max.max mx mx'
    by_cases a : c = 0
    · rw [if_pos a]
      have := f3 a
      show mx' = _
      omega
    · rw [if_neg a]
      by_cases b : c' = 0
      · rw [if_pos b]
        have := g3 b
        show mx = _
        omega
      · rw [if_neg b]
theorem mergeR_cases (s t : Sk) : s.mergeR t = Sk.zero ∨ ((s.mergeR t).hist.length = 8 ∧ (s.mergeR t).regs.length = 8 ∧ ∃ x y, (s.mergeR t).rows = [x, y] ∧ x.length = 4 ∧ y.length = 4) := by
  cases hs : s.ok
  · exact .inl (by unfold Sk.mergeR; rw [hs]; rfl)
  · cases ht : t.ok
    · exact .inl (by unfold Sk.mergeR; rw [hs, ht]; rfl)
    · right
      obtain ⟨a1, a2, x, y, a3, a4, a5⟩ := Sk.shaped_parts (Sk.ok_shaped hs)
      obtain ⟨b1, b2, z, u, b3, b4, b5⟩ := Sk.shaped_parts (Sk.ok_shaped ht)
      have e : s.mergeR t = s.merge t := by unfold Sk.mergeR; rw [hs, ht]; rfl
      rw [e]
      refine ⟨by simp [Sk.merge, sumL, a1, b1], by simp [Sk.merge, maxL, a2, b2], sumL x z, sumL y u, by simp [Sk.merge, a3, b3], by simp [sumL, a4, b4], by simp [sumL, a5, b5]⟩
theorem mergeR_wide {s t : Sk} (_h : s.fits) (_k : t.fits) : (s.mergeR t).wide := by
  rcases mergeR_cases s t with e | ⟨e1, e2, x, y, e3, e4, e5⟩
  · rw [e]; exact ⟨by simp [Sk.zero], by simp [Sk.zero], by simp [Sk.zero], by simp [Sk.zero]⟩
  · refine ⟨by omega, by omega, by rw [e3]; simp, fun z hz => ?_⟩
    rw [e3] at hz
    simp at hz
    rcases hz with rfl | rfl <;> omega
theorem mergeR_many {s t : Sk} (_h : s.fits) (_k : t.fits) : 0 ≤ (s.mergeR t).many ∧ (s.mergeR t).many ≤ 1048576 := by
  rcases mergeR_cases s t with e | ⟨e1, e2, x, y, e3, e4, e5⟩
  · rw [e]; simp [Sk.many, Sk.zero, sumLen]
  · unfold Sk.many sumLen
    rw [e1, e2, e3]
    simp [e4, e5]
end Go.Proofs.Ytbmbmnhamogghap
/- The walks through the program's adding up of two entries. No statement of the seat is proved here. -/
namespace Go.Proofs.Ytbmbmnhamogghap
open Go.RowKit
set_option maxRecDepth 200000 in
set_option maxHeartbeats 4000000 in
theorem holdEntry_any (k p : Int) (a : Option Addr) (l c : Nat) (ps : Sp) (ys : List Int) (F : List Nat) (w : World) (h : RdP w a l ps F) (hl : l ≤ 2097152) (hy : ys.length = 28) :
    Calls Try.prog 59 #[.agg (hc k p a l c ys)] w fun e w' => NewEn w ⟨k, p, ps, skOf ys⟩ e w' := by
  have HP : Hid (RdP w a l ps F ∧ ys.length = 28) := ⟨h, hy⟩
  have HT : Hid (_ ∧ _ ∧ _) := two_made w (hc k p a l c ys) #[.int .i64 0, .int .i64 0, .slice none 0 0, .int .i64 0, .int .i64 0, .int .i64 0, .int .i64 0, .slice none 0 0, .slice none 0 0, .slice none 0 0] 77 34
  clear h hy
  go_enter Try.func59, Try.ntmps59
  go_wp2
  obtain ⟨W0, hW0⟩ : ∃ W0, W0 = (w.alloc (.cells (hc k p a l c ys) 77)).alloc (.cells #[.int .i64 0, .int .i64 0, .slice none 0 0, .int .i64 0, .int .i64 0, .int .i64 0, .int .i64 0, .slice none 0 0, .slice none 0 0, .slice none 0 0] 34) := ⟨_, rfl⟩
  rw [← hW0] at HT ⊢
  clear hW0
  have HS : Hid (HoldS w.heap.size k p a l c ys W0.drew) := holdS HT.out.1.drew
  have sz0 : w.heap.size + 1 < W0.drew.heap.size := HT.out.2.1.drew.lt
  refine wp_region_held (S := HoldS w.heap.size k p a l c ys) (by kernel_rfl) ?_
  change wpAnyH _ _ _ _ _ _ _ _ (World.drew _)
  refine takeH (o := ?o1) 0 (.pointer (some ⟨w.heap.size, 0, none⟩)) ?h1 ?r1
  case h1 => simp only [List.getElem?_toArray, List.getElem?_cons_zero]; rfl
  refine ⟨_, by simp [Act.put]; rfl, by kernel_rfl, by kernel_rfl, by kernel_rfl, fun _ _ _ h => h, (.inl ⟨rfl, fun W _ => by go_simp⟩), HS.out, ?_⟩
  refine takeH (o := ?o2) 1 (.pointer (some ⟨w.heap.size, 0, none⟩)) ?h2 ?r2
  case h2 => simp only [List.getElem?_toArray, List.getElem?_cons_succ, List.getElem?_cons_zero]; rfl
  refine ⟨_, by simp [Act.put]; rfl, by kernel_rfl, by kernel_rfl, by kernel_rfl, fun _ _ _ h => h, (.inl ⟨rfl, fun W _ => by go_simp⟩), HS.out, ?_⟩
  refine takeH (o := ?o3) 2 (.int .i64 k) ?h3 ?r3
  case h3 => simp only [List.getElem?_toArray, List.getElem?_cons_succ, List.getElem?_cons_zero]; rfl
  refine ⟨_, by simp [Act.put]; rfl, by kernel_rfl, by kernel_rfl, by kernel_rfl, fun _ _ _ h => h, (.inl ⟨rfl, fun W hW => by have c := hW.2.1; go_simp⟩), HS.out, ?_⟩
  refine takeH (o := ?o4) 3 (.pointer (some ⟨w.heap.size, 0, none⟩)) ?h4 ?r4
  case h4 => simp only [List.getElem?_toArray, List.getElem?_cons_succ, List.getElem?_cons_zero]; rfl
  refine ⟨_, by simp [Act.put]; rfl, by kernel_rfl, by kernel_rfl, by kernel_rfl, fun _ _ _ h => h, (.inl ⟨rfl, fun W _ => by go_simp⟩), HS.out, ?_⟩
  refine takeH (o := ?o5) 4 (.pointer (some ⟨w.heap.size, 1, none⟩)) ?h5 ?r5
  case h5 => simp only [List.getElem?_toArray, List.getElem?_cons_succ, List.getElem?_cons_zero]; rfl
  refine ⟨_, by simp [Act.put]; rfl, by kernel_rfl, by kernel_rfl, by kernel_rfl, fun _ _ _ h => h, (.inl ⟨rfl, fun W _ => by go_simp⟩), HS.out, ?_⟩
  refine takeH (o := ?o6) 5 (.int .i64 p) ?h6 ?r6
  case h6 => simp only [List.getElem?_toArray, List.getElem?_cons_succ, List.getElem?_cons_zero]; rfl
  refine ⟨_, by simp [Act.put]; rfl, by kernel_rfl, by kernel_rfl, by kernel_rfl, fun _ _ _ h => h, (.inl ⟨rfl, fun W hW => by have c := hW.2.2.1; go_simp⟩), HS.out, ?_⟩
  refine takeH (o := ?o7) 6 (.pointer (some ⟨w.heap.size, 2, none⟩)) ?h7 ?r7
  case h7 => simp only [List.getElem?_toArray, List.getElem?_cons_succ, List.getElem?_cons_zero]; rfl
  refine ⟨_, by simp [Act.put]; rfl, by kernel_rfl, by kernel_rfl, by kernel_rfl, fun _ _ _ h => h, (.inl ⟨rfl, fun W _ => by go_simp⟩), HS.out, ?_⟩
  refine takeH (o := ?o8) 7 (.slice a l c) ?h8 ?r8
  case h8 => simp only [List.getElem?_toArray, List.getElem?_cons_succ, List.getElem?_cons_zero]; rfl
  refine ⟨_, by simp [Act.put]; rfl, by kernel_rfl, by kernel_rfl, by kernel_rfl, fun _ _ _ h => h, (.inl ⟨rfl, fun W hW => by have c := hW.2.2.2; go_simp⟩), HS.out, ?_⟩
  refine takeH (o := ?o9) 9 (.pointer (some ⟨w.heap.size, 3, none⟩)) ?h9 ?r9
  case h9 => simp only [List.getElem?_toArray, List.getElem?_cons_succ, List.getElem?_cons_zero]; rfl
  refine ⟨_, by simp [Act.put]; rfl, by kernel_rfl, by kernel_rfl, by kernel_rfl, fun _ _ _ h => h, (.inl ⟨rfl, fun W _ => by go_simp⟩), HS.out, ?_⟩
  refine takeH (o := ?o10) 10 (.agg (tc ys)) ?h10 ?r10
  case h10 => simp only [List.getElem?_toArray, List.getElem?_cons_succ, List.getElem?_cons_zero]; rfl
  refine ⟨_, by simp [Act.put]; rfl, by kernel_rfl, by kernel_rfl, by kernel_rfl, fun _ _ _ h => h, (yields_cut 75 w.heap.size 3 28 _ (tc ys) 77 _ rfl rfl rfl Try.underlying75 rfl infoTally (by rw [hc_size HP.out.2]; omega) (cutOf_hc HP.out.2) (fun W hW => hW.1)), HS.out, ?_⟩
  refine onlyH (o := ?o11) 8 (by kernel_rfl) ?h11 ?r11
  case h11 => simp only [List.getElem?_toArray, List.getElem?_cons_succ, List.getElem?_cons_zero]; rfl
  intro K hK
  refine op_call1 95 _ _ Try.f95 (fun v w' => ∃ a len cap F, v = .slice a len cap ∧ RdP w' a len ps F ∧ Own W0.drew.heap.size w' F ∧ Below W0.drew.heap.size W0.drew w' ∧ Capd a len cap) rfl rfl Try.func95 (by kernel_rfl) (by kernel_rfl) ((copiedSpans_any a l c ps F W0.drew (HP.out.1.below HT.out.2.2.drew) hl).mono (by rintro e w' ⟨a, len, cap, F, rfl, h1, h2, h3, h4⟩; exact ⟨_, rfl, a, len, cap, F, rfl, h1, h2, h3, h4⟩)) ?_
  rintro _ w1 ⟨aj, lj, cj, Fj, rfl, rj, oj, bz, hcj⟩
  refine ⟨_, by simp [Act.put]; rfl, hK _ _ ⟨HS.out.below bz, ?_⟩⟩
  have HJ : Hid (RdP w1 aj lj ps Fj ∧ Own (w.heap.size + 2) w1 Fj ∧ Capd aj lj cj) := ⟨rj, oj.mono (by omega), hcj⟩
  have HS1 : Hid (HoldS w.heap.size k p a l c ys w1) := HS.out.below bz
  have HZ1 : Hid (Blk w1 (w.heap.size + 1) #[.int .i64 0, .int .i64 0, .slice none 0 0, .int .i64 0, .int .i64 0, .int .i64 0, .int .i64 0, .slice none 0 0, .slice none 0 0, .slice none 0 0] 34 ∧ Below w.heap.size w w1) := ⟨HT.out.2.1.drew.below bz, Below.next HT.out.2.2.drew bz⟩
  clear hK bz rj oj HS hcj
  refine onlyH (o := ?o12) 11 (by kernel_rfl) ?h12 ?r12
  case h12 => simp only [List.getElem?_toArray, List.getElem?_cons_succ, List.getElem?_cons_zero]; rfl
  intro K hK
  refine op_call1 96 _ _ Try.f96 (fun v w' => ∃ X, RdSk w' v (skOf ys) X ∧ Own w1.heap.size w' X ∧ Below w1.heap.size w1 w') rfl rfl Try.func96 (by kernel_rfl) (by kernel_rfl) ((sketch_any ys w1 HP.out.2).mono (by rintro e w' ⟨v, X, rfl, h1, h2, h3⟩; exact ⟨_, rfl, X, h1, h2, h3⟩)) ?_
  rintro vm w2 ⟨X, rm, om, bz⟩
  obtain ⟨e1, r1, f1, e2, r2, f2, e3, r3, f3, rfl⟩ := rm.cells7
  refine ⟨_, by simp [Act.put]; rfl, hK _ _ ⟨HS1.out.below bz, ?_⟩⟩
  obtain ⟨M, hM⟩ : ∃ M, M = skOf ys := ⟨_, rfl⟩
  rw [← hM] at rm ⊢
  have HM : Hid (M = skOf ys) := hM
  have HS2 : Hid (HoldS w.heap.size k p a l c ys w2) := HS1.out.below bz
  have HZ2 : Hid (Blk w2 (w.heap.size + 1) #[.int .i64 0, .int .i64 0, .slice none 0 0, .int .i64 0, .int .i64 0, .int .i64 0, .int .i64 0, .slice none 0 0, .slice none 0 0, .slice none 0 0] 34 ∧ Below w.heap.size w w2) := ⟨HZ1.out.1.below bz, Below.next HZ1.out.2 bz⟩
  have HJ2 : Hid (RdP w2 aj lj ps Fj ∧ Own (w.heap.size + 2) w2 Fj ∧ RdSk w2 (.agg #[.int .i64 M.count, .int .i64 M.sum, .int .i64 M.min, .int .i64 M.max, .slice e1 r1 f1, .slice e2 r2 f2, .slice e3 r3 f3]) M X ∧ Own (w.heap.size + 2) w2 X ∧ ∀ b ∈ Fj, b ∉ X) := ⟨HJ.out.1.below bz, HJ.out.2.1.below HJ.out.1.lt bz, rm, om.mono HZ1.out.1.lt, fun b hb hx => by have := HJ.out.1.lt b hb; have := om.ge b hx; omega⟩
  clear hK bz rm om HS1 HZ1 hM
  refine takeH (o := ?o13) 12 (.agg #[.int .i64 k, .int .i64 p, .slice aj lj cj, .int .i64 M.count, .int .i64 M.sum, .int .i64 M.min, .int .i64 M.max, .slice e1 r1 f1, .slice e2 r2 f2, .slice e3 r3 f3]) ?h13 ?r13
  case h13 => simp only [List.getElem?_toArray, List.getElem?_cons_succ, List.getElem?_cons_zero]; rfl
  refine ⟨_, by simp [Act.put]; rfl, by kernel_rfl, by kernel_rfl, by kernel_rfl, fun _ _ _ h => h, (.inl ⟨rfl, fun W _ => by go_simp⟩), HS2.out, ?_⟩
  refine onlyH (o := ?o14) 13 (by kernel_rfl) ?h14 ?r14
  case h14 => simp only [List.getElem?_toArray, List.getElem?_cons_succ, List.getElem?_cons_zero]; rfl
  intro K hK
  refine op_store 34 (w.heap.size + 1) #[.int .i64 0, .int .i64 0, .slice none 0 0, .int .i64 0, .int .i64 0, .int .i64 0, .int .i64 0, .slice none 0 0, .slice none 0 0, .slice none 0 0] #[.int .i64 k, .int .i64 p, .slice aj lj cj, .int .i64 M.count, .int .i64 M.sum, .int .i64 M.min, .int .i64 M.max, .slice e1 r1 f1, .slice e2 r2 f2, .slice e3 r3 f3] 34 rfl rfl rfl rfl HZ2.out.1 (by kernel_rfl) rfl (by simp [Value.oneCell']) ⟨_, by simp [Act.put]; rfl, hK _ _ ⟨HS2.out.setRow (by omega), ?_⟩⟩
  clear hK
  refine wpAnyH_done (by kernel_rfl) ?_ _
  have nf : w.heap.size + 1 ∉ Fj := fun hx => by have := HJ2.out.2.1.ge _ hx; omega
  have nx : w.heap.size + 1 ∉ X := fun hx => by have := HJ2.out.2.2.2.1.ge _ hx; omega
  obtain ⟨E, hE⟩ : ∃ E : Array Value, E = #[.int .i64 k, .int .i64 p, .slice aj lj cj, .int .i64 M.count, .int .i64 M.sum, .int .i64 M.min, .int .i64 M.max, .slice e1 r1 f1, .slice e2 r2 f2, .slice e3 r3 f3] := ⟨_, rfl⟩
  rw [← hE]
  obtain ⟨w3, hw3⟩ : ∃ W, W = w2.setRow (w.heap.size + 1) E := ⟨_, rfl⟩
  have HF : Hid (Blk w3 (w.heap.size + 1) E 34 ∧ RdP w3 aj lj ps Fj ∧ Own w.heap.size w3 Fj ∧ RdSk w3 (.agg #[.int .i64 M.count, .int .i64 M.sum, .int .i64 M.min, .int .i64 M.max, .slice e1 r1 f1, .slice e2 r2 f2, .slice e3 r3 f3]) M X ∧ Own w.heap.size w3 X ∧ (∀ b ∈ Fj, b ∉ X) ∧ Below w.heap.size w w3) := by
    rw [hw3]
    exact ⟨HZ2.out.1.setRow, HJ2.out.1.agree (Agree.row nf E), (HJ2.out.2.1.agree (Agree.row nf E)).mono (by omega), HJ2.out.2.2.1.agree (Agree.row nx E), (HJ2.out.2.2.2.1.agree (Agree.row nx E)).mono (by omega), HJ2.out.2.2.2.2, below_setRow HZ2.out.2 (by omega) _⟩
  have HE : Hid (E = #[.int .i64 k, .int .i64 p, .slice aj lj cj, .int .i64 M.count, .int .i64 M.sum, .int .i64 M.min, .int .i64 M.max, .slice e1 r1 f1, .slice e2 r2 f2, .slice e3 r3 f3] ∧ E.size = 10) := ⟨hE, by rw [hE]; rfl⟩
  rw [← hw3]
  clear hE hw3 HJ2 HZ2 HS2 nf nx
  go_wp2
  refine bodyPost_ret (results_cell_row Try.results59 _ _ (w.heap.size + 1) _ _ (0, 0) _ rfl HF.out.1 Try.underlying34 rfl (by rw [HE.out.2]; exact infoEnA)) rfl ?_
  have hM := HM.out
  subst hM
  exact ⟨_, Fj, X, rfl, ⟨aj, lj, cj, e1, r1, f1, e2, r2, f2, e3, r3, f3, by rw [HE.out.1], HF.out.2.1, HF.out.2.2.2.1, HJ.out.2.2⟩, HF.out.2.2.1, HF.out.2.2.2.2.1, HF.out.2.2.2.2.2.1, HF.out.2.2.2.2.2.2⟩
set_option maxRecDepth 200000 in
set_option maxHeartbeats 8000000 in
theorem entryAddImpl_any (v u : Value) (x y : En) (F F' G G' : List Nat) (w : World) (h : RdEn w v x F F') (k : RdEn w u y G G') (hx : x.sk.wide) (hy : y.sk.wide) (hlen : x.ids.length + y.ids.length ≤ 2097152) :
    Calls Try.prog 23 #[v, u] w fun e w' => NewEn2 w (x.addR y) (x.addOk y) e w' := by
  have HX : Hid (RdEn w v x F F' ∧ RdEn w u y G G' ∧ x.sk.wide ∧ y.sk.wide ∧ x.ids.length + y.ids.length ≤ 2097152) := ⟨h, k, hx, hy, hlen⟩
  obtain ⟨p, l, g, a1, n1, nc1, a2, n2, nc2, a3, n3, nc3, rfl, px, _, cx⟩ := h
  obtain ⟨q, k, j, b1, m1, mc1, b2, m2, mc2, b3, m3, mc3, rfl, py, _, cy⟩ := k
  have HT := three_madeE w #[.int .i64 x.key, .int .i64 x.window, .slice p l g, .int .i64 x.sk.count, .int .i64 x.sk.sum, .int .i64 x.sk.min, .int .i64 x.sk.max, .slice a1 n1 nc1, .slice a2 n2 nc2, .slice a3 n3 nc3] #[.int .i64 y.key, .int .i64 y.window, .slice q k j, .int .i64 y.sk.count, .int .i64 y.sk.sum, .int .i64 y.sk.min, .int .i64 y.sk.max, .slice b1 m1 mc1, .slice b2 m2 mc2, .slice b3 m3 mc3] #[.int .i64 0, .int .i64 0, .slice none 0 0, .int .i64 0, .int .i64 0, .int .i64 0, .int .i64 0, .slice none 0 0, .slice none 0 0, .slice none 0 0] 34
  have HTT : Hid (_ ∧ _ ∧ _ ∧ _) := HT
  clear px py hx hy hlen HT cx cy
  go_enter Try.func23, Try.ntmps23
  go_wp2_with (first | go_skip | (with_reducible refine stopLoad 34 rfl ?_) | (with_reducible refine stopStore 77 rfl ?_) | (with_reducible refine stopLoad 70 rfl ?_) | (with_reducible refine stopStore 34 rfl ?_))
  refine load_any 34 w.heap.size _ 34 _ HTT.out.1 rfl rfl rfl Try.underlying34 rfl (by kernel_rfl) ?_
  go_wp2_with fail
  refine (okHolding_any _ x F F' _ (HX.out.1.below HTT.out.2.2.2) HX.out.2.2.1 (by have := HX.out.2.2.2.2; omega)).mono ?_
  rintro e w1 ⟨kx, wx, ax, lx, cx, ys, rfl, hy, hok, hb1⟩
  have HY : Hid (ys.length = 28 ∧ (x.ok = true → kx = x.key ∧ wx = x.window ∧ ys = x.sk.tl ∧ RdP w1 ax lx x.ids F ∧ Capd ax lx cx)) := ⟨hy, fun e => by obtain ⟨h1, h2, h3, h4, h5⟩ := hok e; exact ⟨h1, h2, h3, h4.below hb1, h5⟩⟩
  have HB1 : Hid (Blk w1 (w.heap.size + 1) #[.int .i64 y.key, .int .i64 y.window, .slice q k j, .int .i64 y.sk.count, .int .i64 y.sk.sum, .int .i64 y.sk.min, .int .i64 y.sk.max, .slice b1 m1 mc1, .slice b2 m2 mc2, .slice b3 m3 mc3] 34 ∧ Blk w1 (w.heap.size + 1 + 1) #[.int .i64 0, .int .i64 0, .slice none 0 0, .int .i64 0, .int .i64 0, .int .i64 0, .int .i64 0, .slice none 0 0, .slice none 0 0, .slice none 0 0] 34 ∧ Below w.heap.size w w1) := ⟨HTT.out.2.1.below hb1, HTT.out.2.2.1.below hb1, Below.next HTT.out.2.2.2 hb1⟩
  have LZ1 : Hid (w.heap.size + 1 + 1 < w1.heap.size) := HB1.out.2.1.lt
  clear hy hok hb1 HTT
  obtain ⟨d1, hd1⟩ : ∃ d, d = x.ok := ⟨_, rfl⟩
  rw [← hd1]
  have HD1 : Hid (d1 = x.ok) := hd1
  clear hd1
  go_wp2_with (first | go_skip | (with_reducible refine stopLoad 34 rfl ?_) | (with_reducible refine stopStore 77 rfl ?_) | (with_reducible refine stopLoad 70 rfl ?_) | (with_reducible refine stopStore 34 rfl ?_))
  refine store_fresh 77 w1.heap.size rfl (hc 0 0 none 0 0 (List.replicate 28 0)) (hc kx wx ax lx cx ys) 77 rfl rfl rfl rfl (holdSize (hc_size HY.out.1)) (by rw [hc_size HY.out.1]; rfl) (hc_one ..) ?_
  intro W2 hg2 hb2
  have HG2 : Hid (HoldS w1.heap.size kx wx ax lx cx ys W2 ∧ Below w1.heap.size w1 W2) := ⟨holdS hg2, hb2⟩
  have HB2 : Hid (Blk W2 (w.heap.size + 1) #[.int .i64 y.key, .int .i64 y.window, .slice q k j, .int .i64 y.sk.count, .int .i64 y.sk.sum, .int .i64 y.sk.min, .int .i64 y.sk.max, .slice b1 m1 mc1, .slice b2 m2 mc2, .slice b3 m3 mc3] 34 ∧ Blk W2 (w.heap.size + 1 + 1) #[.int .i64 0, .int .i64 0, .slice none 0 0, .int .i64 0, .int .i64 0, .int .i64 0, .int .i64 0, .slice none 0 0, .slice none 0 0, .slice none 0 0] 34 ∧ Below w.heap.size w W2) := ⟨HB1.out.1.below hb2, HB1.out.2.1.below hb2, Below.next HB1.out.2.2 hb2⟩
  clear hg2 hb2 HB1
  go_wp2_with (first | go_skip | (with_reducible refine stopLoad 34 rfl ?_) | (with_reducible refine stopStore 77 rfl ?_) | (with_reducible refine stopLoad 70 rfl ?_) | (with_reducible refine stopStore 34 rfl ?_))
  refine load_any 34 (w.heap.size + 1) _ 34 _ HB2.out.1 rfl rfl rfl Try.underlying34 rfl (by kernel_rfl) ?_
  go_wp2_with fail
  refine (okHolding_any _ y G G' _ (HX.out.2.1.below HB2.out.2.2) HX.out.2.2.2.1 (by have := HX.out.2.2.2.2; omega)).mono ?_
  rintro e w3 ⟨ky, wy, ay, ly, cy, zs, rfl, hy, hok, hb3⟩
  have HY' : Hid (zs.length = 28 ∧ (y.ok = true → ky = y.key ∧ wy = y.window ∧ zs = y.sk.tl ∧ RdP w3 ay ly y.ids G ∧ Capd ay ly cy)) := ⟨hy, fun e => by obtain ⟨h1, h2, h3, h4, h5⟩ := hok e; exact ⟨h1, h2, h3, h4.below hb3, h5⟩⟩
  have HB3 : Hid (Blk w3 (w.heap.size + 1 + 1) #[.int .i64 0, .int .i64 0, .slice none 0 0, .int .i64 0, .int .i64 0, .int .i64 0, .int .i64 0, .slice none 0 0, .slice none 0 0, .slice none 0 0] 34 ∧ Below w.heap.size w w3 ∧ HoldS w1.heap.size kx wx ax lx cx ys w3 ∧ Below w1.heap.size w1 w3) := ⟨HB2.out.2.1.below hb3, Below.next HB2.out.2.2 hb3, HG2.out.1.below hb3, Below.next HG2.out.2 hb3⟩
  clear hy hok hb3 HB2 HG2
  obtain ⟨d2, hd2⟩ : ∃ d, d = y.ok := ⟨_, rfl⟩
  rw [← hd2]
  have HD2 : Hid (d2 = y.ok) := hd2
  clear hd2
  go_wp2_with (first | go_skip | (with_reducible refine stopLoad 34 rfl ?_) | (with_reducible refine stopStore 77 rfl ?_) | (with_reducible refine stopLoad 70 rfl ?_) | (with_reducible refine stopStore 34 rfl ?_))
  refine store_fresh 77 w3.heap.size rfl (hc 0 0 none 0 0 (List.replicate 28 0)) (hc ky wy ay ly cy zs) 77 rfl rfl rfl rfl (holdSize (hc_size HY'.out.1)) (by rw [hc_size HY'.out.1]; rfl) (hc_one ..) ?_
  intro W4 hg4 hb4
  have HS4 : Hid (HoldS w1.heap.size kx wx ax lx cx ys W4 ∧ HoldS w3.heap.size ky wy ay ly cy zs W4) := ⟨HB3.out.2.2.1.below hb4, holdS hg4⟩
  have HZ : Hid (Blk W4 (w.heap.size + 1 + 1) #[.int .i64 0, .int .i64 0, .slice none 0 0, .int .i64 0, .int .i64 0, .int .i64 0, .int .i64 0, .slice none 0 0, .slice none 0 0, .slice none 0 0] 34 ∧ Below w.heap.size w W4) := ⟨HB3.out.1.below hb4, Below.next HB3.out.2.1 hb4⟩
  have HL4 : Hid (Below w1.heap.size w1 W4 ∧ Below w3.heap.size w3 W4) := ⟨Below.next HB3.out.2.2.2 hb4, hb4⟩
  have LZ : Hid (w.heap.size + 1 + 1 < w1.heap.size ∧ w1.heap.size < w3.heap.size) := ⟨LZ1.out, HB3.out.2.2.1.1.lt⟩
  clear hg4 hb4 HB3
  cases d1
  · have HV : Hid (x.addOk y = false) := by show _ = _; unfold En.addOk; rw [← HD1.out]; rfl
    go_wp2_with (first | go_skip | (with_reducible refine stopLoad 34 rfl ?_) | (with_reducible refine stopStore 77 rfl ?_) | (with_reducible refine stopLoad 70 rfl ?_) | (with_reducible refine stopStore 34 rfl ?_))
    refine store_known 34 (w.heap.size + 1 + 1) _ #[.int .i64 0, .int .i64 0, .slice none 0 0, .int .i64 0, .int .i64 0, .int .i64 0, .int .i64 0, .slice none 0 0, .slice none 0 0, .slice none 0 0] 34 HZ.out.1 rfl rfl rfl rfl (by kernel_rfl) rfl (by kernel_rfl) ?_
    go_wp2
    refine bodyPost_ret (results_row_tmp Try.results23 _ _ (w.heap.size + 1 + 1) _ _ _ _ rfl HZ.out.1.setRow Try.underlying34 rfl (by kernel_rfl)) rfl ?_
    rw [HV.out, En.addR_not HV.out]
    exact ⟨_, [], [], rfl, rdEn_zero _, Own.nil, Own.nil, by simp, below_setRow HZ.out.2 (by omega) _⟩
  cases d2
  · have HV : Hid (x.addOk y = false) := by show _ = _; unfold En.addOk; rw [← HD1.out, ← HD2.out]; rfl
    go_wp2_with (first | go_skip | (with_reducible refine stopLoad 34 rfl ?_) | (with_reducible refine stopStore 77 rfl ?_) | (with_reducible refine stopLoad 70 rfl ?_) | (with_reducible refine stopStore 34 rfl ?_))
    refine store_known 34 (w.heap.size + 1 + 1) _ #[.int .i64 0, .int .i64 0, .slice none 0 0, .int .i64 0, .int .i64 0, .int .i64 0, .int .i64 0, .slice none 0 0, .slice none 0 0, .slice none 0 0] 34 HZ.out.1 rfl rfl rfl rfl (by kernel_rfl) rfl (by kernel_rfl) ?_
    go_wp2
    refine bodyPost_ret (results_row_tmp Try.results23 _ _ (w.heap.size + 1 + 1) _ _ _ _ rfl HZ.out.1.setRow Try.underlying34 rfl (by kernel_rfl)) rfl ?_
    rw [HV.out, En.addR_not HV.out]
    exact ⟨_, [], [], rfl, rdEn_zero _, Own.nil, Own.nil, by simp, below_setRow HZ.out.2 (by omega) _⟩
  obtain ⟨ek, ew, ey, hpx, hcx⟩ := HY.out.2 HD1.out.symm
  obtain ⟨fk, fw, fz, hpy, hcy⟩ := HY'.out.2 HD2.out.symm
  subst ek ew fk fw
  have HP : Hid (RdP W4 ax lx x.ids F ∧ RdP W4 ay ly y.ids G ∧ Capd ax lx cx ∧ Capd ay ly cy ∧ lx + ly ≤ 2097152) := ⟨hpx.below HL4.out.1, hpy.below HL4.out.2, hcx, hcy, by rw [← hpx.length, ← hpy.length]; exact HX.out.2.2.2.2⟩
  have HE : Hid (ys = x.sk.tl ∧ zs = y.sk.tl) := ⟨ey, fz⟩
  clear ey fz hpx hpy hcx hcy
  have q1 : ∀ W, HoldS w1.heap.size x.key x.window ax lx cx ys W → W.cell? ⟨w1.heap.size, 2, none⟩ = some (.slice ax lx cx) := fun W h => h.2.2.2
  go_wp2_with (first | go_skip | (with_reducible refine stopLoad 34 rfl ?_) | (with_reducible refine stopStore 77 rfl ?_) | (with_reducible refine stopLoad 70 rfl ?_) | (with_reducible refine stopStore 34 rfl ?_))
  refine load_cutw 70 w1.heap.size 0 2 _ #[.int .i64 x.key, .int .i64 x.window] 77 _ HS4.out.1.1 rfl rfl rfl Try.underlying70 rfl infoPlace (by rw [hc_size HY.out.1]; omega) (cutOf_place ..) ?_
  go_wp2_with (first | go_skip | (with_reducible refine stopLoad 34 rfl ?_) | (with_reducible refine stopStore 77 rfl ?_) | (with_reducible refine stopLoad 70 rfl ?_) | (with_reducible refine stopStore 34 rfl ?_))
  refine load_cutw 70 w3.heap.size 0 2 _ #[.int .i64 y.key, .int .i64 y.window] 77 _ HS4.out.2.1 rfl rfl rfl Try.underlying70 rfl infoPlace (by rw [hc_size HY'.out.1]; omega) (cutOf_place ..) ?_
  clear q1
  by_cases c1 : x.key = y.key
  rotate_left
  · have HV : Hid (x.addOk y = false) := by show _ = _; unfold En.addOk; rw [dec_false c1]; simp
    have z1 : (x.key == y.key) = false := by simpa using c1
    clear c1
    go_wp2_with (first | go_skip | (with_reducible refine stopLoad 34 rfl ?_) | (with_reducible refine stopStore 77 rfl ?_) | (with_reducible refine stopLoad 70 rfl ?_) | (with_reducible refine stopStore 34 rfl ?_))
    refine store_known 34 (w.heap.size + 1 + 1) _ #[.int .i64 0, .int .i64 0, .slice none 0 0, .int .i64 0, .int .i64 0, .int .i64 0, .int .i64 0, .slice none 0 0, .slice none 0 0, .slice none 0 0] 34 HZ.out.1 rfl rfl rfl rfl (by kernel_rfl) rfl (by kernel_rfl) ?_
    go_wp2
    refine bodyPost_ret (results_row_tmp Try.results23 _ _ (w.heap.size + 1 + 1) _ _ _ _ rfl HZ.out.1.setRow Try.underlying34 rfl (by kernel_rfl)) rfl ?_
    rw [HV.out, En.addR_not HV.out]
    exact ⟨_, [], [], rfl, rdEn_zero _, Own.nil, Own.nil, by simp, below_setRow HZ.out.2 (by omega) _⟩
  by_cases c2 : x.window = y.window
  rotate_left
  · have HV : Hid (x.addOk y = false) := by show _ = _; unfold En.addOk; rw [dec_false c2]; simp
    have z1 : (x.key == y.key) = true := by simpa using c1
    have z2 : (x.window == y.window) = false := by simpa using c2
    clear c1 c2
    go_wp2_with (first | go_skip | (with_reducible refine stopLoad 34 rfl ?_) | (with_reducible refine stopStore 77 rfl ?_) | (with_reducible refine stopLoad 70 rfl ?_) | (with_reducible refine stopStore 34 rfl ?_))
    refine store_known 34 (w.heap.size + 1 + 1) _ #[.int .i64 0, .int .i64 0, .slice none 0 0, .int .i64 0, .int .i64 0, .int .i64 0, .int .i64 0, .slice none 0 0, .slice none 0 0, .slice none 0 0] 34 HZ.out.1 rfl rfl rfl rfl (by kernel_rfl) rfl (by kernel_rfl) ?_
    go_wp2
    refine bodyPost_ret (results_row_tmp Try.results23 _ _ (w.heap.size + 1 + 1) _ _ _ _ rfl HZ.out.1.setRow Try.underlying34 rfl (by kernel_rfl)) rfl ?_
    rw [HV.out, En.addR_not HV.out]
    exact ⟨_, [], [], rfl, rdEn_zero _, Own.nil, Own.nil, by simp, below_setRow HZ.out.2 (by omega) _⟩
  have z1 : (x.key == y.key) = true := by simpa using c1
  have z2 : (x.window == y.window) = true := by simpa using c2
  have HC : Hid (x.addOk y = x.ids.apart y.ids) := by show _ = _; unfold En.addOk; rw [← HD1.out, ← HD2.out, dec_true c1, dec_true c2]; rfl
  clear c1 c2
  have k1 := HS4.out.1.2.2.2
  have k2 := HS4.out.2.2.2.2
  go_wp2_with fail
  refine (apartImpl_any ax ay lx ly cx cy x.ids y.ids F G _ HP.out.1 HP.out.2.1 (by have := HP.out.2.2.2.2; omega) (by have := HP.out.2.2.2.2; omega) HP.out.2.2.1.2 HP.out.2.2.2.1.2).mono ?_
  rintro e w5 ⟨rfl, hb5⟩
  have HZ5 : Hid (Blk w5 (w.heap.size + 1 + 1) #[.int .i64 0, .int .i64 0, .slice none 0 0, .int .i64 0, .int .i64 0, .int .i64 0, .int .i64 0, .slice none 0 0, .slice none 0 0, .slice none 0 0] 34 ∧ Below w.heap.size w w5) := ⟨HZ.out.1.below hb5, Below.next HZ.out.2 hb5⟩
  have HS5 : Hid (HoldS w1.heap.size x.key x.window ax lx cx ys w5 ∧ HoldS w3.heap.size y.key y.window ay ly cy zs w5) := ⟨HS4.out.1.below hb5, HS4.out.2.below hb5⟩
  have HP5 : Hid (RdP w5 ax lx x.ids F ∧ RdP w5 ay ly y.ids G) := ⟨HP.out.1.below hb5, HP.out.2.1.below hb5⟩
  clear hb5 HS4 HZ HL4 k1 k2 z1 z2
  obtain ⟨d3, hd3⟩ : ∃ d, d = x.ids.apart y.ids := ⟨_, rfl⟩
  rw [← hd3] at HC ⊢
  clear hd3
  have HZ := HZ5
  cases d3
  · have HV : Hid (x.addOk y = false) := HC
    go_wp2_with (first | go_skip | (with_reducible refine stopLoad 34 rfl ?_) | (with_reducible refine stopStore 77 rfl ?_) | (with_reducible refine stopLoad 70 rfl ?_) | (with_reducible refine stopStore 34 rfl ?_))
    refine store_known 34 (w.heap.size + 1 + 1) _ #[.int .i64 0, .int .i64 0, .slice none 0 0, .int .i64 0, .int .i64 0, .int .i64 0, .int .i64 0, .slice none 0 0, .slice none 0 0, .slice none 0 0] 34 HZ.out.1 rfl rfl rfl rfl (by kernel_rfl) rfl (by kernel_rfl) ?_
    go_wp2
    refine bodyPost_ret (results_row_tmp Try.results23 _ _ (w.heap.size + 1 + 1) _ _ _ _ rfl HZ.out.1.setRow Try.underlying34 rfl (by kernel_rfl)) rfl ?_
    rw [HV.out, En.addR_not HV.out]
    exact ⟨_, [], [], rfl, rdEn_zero _, Own.nil, Own.nil, by simp, below_setRow HZ.out.2 (by omega) _⟩
  have k1 := HS5.out.1.2.2.2
  have k2 := HS5.out.2.2.2.2
  go_wp2_with fail
  refine (joinImpl_any ax ay lx ly cx cy x.ids y.ids F G _ HP5.out.1 HP5.out.2 HP.out.2.2.2.2 HP.out.2.2.1.2).mono ?_
  rintro e w6 ⟨aj, lj, cj, Fj, rfl, rj, oj, bj, hcj⟩
  have HJ : Hid (RdP w6 aj lj (x.ids.join y.ids) Fj ∧ lj ≤ 2097152) := ⟨rj, by rw [← rj.length]; have := join_length x.ids y.ids; have := HX.out.2.2.2.2; omega⟩
  have HZ6 : Hid (Blk w6 (w.heap.size + 1 + 1) #[.int .i64 0, .int .i64 0, .slice none 0 0, .int .i64 0, .int .i64 0, .int .i64 0, .int .i64 0, .slice none 0 0, .slice none 0 0, .slice none 0 0] 34 ∧ Below w.heap.size w w6) := ⟨HZ.out.1.below bj, Below.next HZ.out.2 bj⟩
  have HS6 : Hid (HoldS w1.heap.size x.key x.window ax lx cx ys w6 ∧ HoldS w3.heap.size y.key y.window ay ly cy zs w6) := ⟨HS5.out.1.below bj, HS5.out.2.below bj⟩
  clear rj oj bj hcj HS5 HZ5 HP5 HZ k1 k2
  obtain ⟨dj, hdj⟩ : ∃ d, d = (x.ids.ok && y.ids.ok) := ⟨_, rfl⟩
  rw [← hdj]
  clear hdj
  go_wp2
  have HS : Hid (HoldS w1.heap.size x.key x.window ax lx cx ys w6.drew ∧ HoldS w3.heap.size y.key y.window ay ly cy zs w6.drew) := ⟨holdS HS6.out.1.1.drew, holdS HS6.out.2.1.drew⟩
  have HZ : Hid (Blk w6.drew (w.heap.size + 1 + 1) #[.int .i64 0, .int .i64 0, .slice none 0 0, .int .i64 0, .int .i64 0, .int .i64 0, .int .i64 0, .slice none 0 0, .slice none 0 0, .slice none 0 0] 34 ∧ Below w.heap.size w w6.drew) := ⟨HZ6.out.1.drew, HZ6.out.2.drew⟩
  have HJ : Hid (RdP w6.drew aj lj (x.ids.join y.ids) Fj ∧ lj ≤ 2097152) := ⟨HJ.out.1.below (Below.refl _ _).drew, HJ.out.2⟩
  obtain ⟨W7, hW7⟩ : ∃ W, W = w6.drew := ⟨_, rfl⟩
  have HSS : ∀ W W', (HoldS w1.heap.size x.key x.window ax lx cx ys W ∧ HoldS w3.heap.size y.key y.window ay ly cy zs W) → Below W.heap.size W W' → (HoldS w1.heap.size x.key x.window ax lx cx ys W' ∧ HoldS w3.heap.size y.key y.window ay ly cy zs W') := fun W W' h b => ⟨h.1.below b, h.2.below b⟩
  refine wp_region_held (S := fun W => HoldS w1.heap.size x.key x.window ax lx cx ys W ∧ HoldS w3.heap.size y.key y.window ay ly cy zs W) (by kernel_rfl) ?_
  change wpAnyH _ _ _ _ _ _ _ _ (World.drew _)
  rw [← hW7] at HS HZ HJ ⊢
  clear hW7 HS6 HZ6
  refine takeH (o := ?o1) 0 (.pointer (some ⟨w1.heap.size, 0, none⟩)) ?h1 ?r1
  case h1 => simp only [List.getElem?_toArray, List.getElem?_cons_zero]; rfl
  refine ⟨_, by simp [Act.put]; rfl, by kernel_rfl, by kernel_rfl, by kernel_rfl, fun _ _ _ h => h, (.inl ⟨rfl, fun W _ => by go_simp⟩), HS.out, ?_⟩
  refine takeH (o := ?o2) 1 (.agg #[.int .i64 x.key, .int .i64 x.window]) ?h2 ?r2
  case h2 => simp only [List.getElem?_toArray, List.getElem?_cons_succ, List.getElem?_cons_zero]; rfl
  refine ⟨_, by simp [Act.put]; rfl, by kernel_rfl, by kernel_rfl, by kernel_rfl, fun _ _ _ h => h, (yields_cut 70 w1.heap.size 0 2 _ #[.int .i64 x.key, .int .i64 x.window] 77 _ rfl rfl rfl Try.underlying70 rfl infoPlace (by rw [hc_size HY.out.1]; omega) (cutOf_place ..) (fun W hW => hW.1.1)), HS.out, ?_⟩
  refine takeH (o := ?o3) 2 (.slice aj lj cj) ?h3 ?r3
  case h3 => simp only [List.getElem?_toArray, List.getElem?_cons_succ, List.getElem?_cons_zero]; rfl
  refine ⟨_, by simp [Act.put]; rfl, by kernel_rfl, by kernel_rfl, by kernel_rfl, fun _ _ _ h => h, (.inl ⟨rfl, fun W _ => by go_simp⟩), HS.out, ?_⟩
  refine takeH (o := ?o4) 3 (.pointer (some ⟨w1.heap.size, 3, none⟩)) ?h4 ?r4
  case h4 => simp only [List.getElem?_toArray, List.getElem?_cons_succ, List.getElem?_cons_zero]; rfl
  refine ⟨_, by simp [Act.put]; rfl, by kernel_rfl, by kernel_rfl, by kernel_rfl, fun _ _ _ h => h, (.inl ⟨rfl, fun W _ => by go_simp⟩), HS.out, ?_⟩
  refine takeH (o := ?o5) 4 (.agg (tc ys)) ?h5 ?r5
  case h5 => simp only [List.getElem?_toArray, List.getElem?_cons_succ, List.getElem?_cons_zero]; rfl
  refine ⟨_, by simp [Act.put]; rfl, by kernel_rfl, by kernel_rfl, by kernel_rfl, fun _ _ _ h => h, (yields_cut 75 w1.heap.size 3 28 _ (tc ys) 77 _ rfl rfl rfl Try.underlying75 rfl infoTally (by rw [hc_size HY.out.1]; omega) (cutOf_hc HY.out.1) (fun W hW => hW.1.1)), HS.out, ?_⟩
  refine takeH (o := ?o6) 5 (.pointer (some ⟨w3.heap.size, 3, none⟩)) ?h6 ?r6
  case h6 => simp only [List.getElem?_toArray, List.getElem?_cons_succ, List.getElem?_cons_zero]; rfl
  refine ⟨_, by simp [Act.put]; rfl, by kernel_rfl, by kernel_rfl, by kernel_rfl, fun _ _ _ h => h, (.inl ⟨rfl, fun W _ => by go_simp⟩), HS.out, ?_⟩
  refine takeH (o := ?o7) 6 (.agg (tc zs)) ?h7 ?r7
  case h7 => simp only [List.getElem?_toArray, List.getElem?_cons_succ, List.getElem?_cons_zero]; rfl
  refine ⟨_, by simp [Act.put]; rfl, by kernel_rfl, by kernel_rfl, by kernel_rfl, fun _ _ _ h => h, (yields_cut 75 w3.heap.size 3 28 _ (tc zs) 77 _ rfl rfl rfl Try.underlying75 rfl infoTally (by rw [hc_size HY'.out.1]; omega) (cutOf_hc HY'.out.1) (fun W hW => hW.2.1)), HS.out, ?_⟩
  refine onlyH (o := ?o8) 7 (by kernel_rfl) ?h8 ?r8
  case h8 => simp only [List.getElem?_toArray, List.getElem?_cons_succ, List.getElem?_cons_zero]; rfl
  intro K hK
  refine op_call2' 58 _ _ _ Try.f58 (fun v w' => v = .agg (tc (plusL ys zs 28)) ∧ Below W7.heap.size W7 w') rfl rfl Try.func58 (by kernel_rfl) (by kernel_rfl) ((plus_any ys zs W7 HY.out.1 HY'.out.1).mono (by rintro e w' ⟨rfl, h1⟩; exact ⟨_, rfl, rfl, h1⟩)) ?_
  rintro _ W8 ⟨rfl, bz⟩
  refine ⟨_, by simp [Act.put]; rfl, hK _ _ ⟨HSS _ _ HS.out bz, ?_⟩⟩
  have HS8 : Hid (HoldS w1.heap.size x.key x.window ax lx cx ys W8 ∧ HoldS w3.heap.size y.key y.window ay ly cy zs W8) := HSS _ _ HS.out bz
  have HZ8 : Hid (Blk W8 (w.heap.size + 1 + 1) #[.int .i64 0, .int .i64 0, .slice none 0 0, .int .i64 0, .int .i64 0, .int .i64 0, .int .i64 0, .slice none 0 0, .slice none 0 0, .slice none 0 0] 34 ∧ Below w.heap.size w W8) := ⟨HZ.out.1.below bz, Below.next HZ.out.2 bz⟩
  have HJ8 : Hid (RdP W8 aj lj (x.ids.join y.ids) Fj ∧ lj ≤ 2097152) := ⟨HJ.out.1.below bz, HJ.out.2⟩
  clear hK bz HS HZ HJ
  refine takeH (o := ?o9) 8 (.agg (hc x.key x.window aj lj cj (plusL ys zs 28))) ?h9 ?r9
  case h9 => simp only [List.getElem?_toArray, List.getElem?_cons_succ, List.getElem?_cons_zero]; rfl
  refine ⟨_, by simp [Act.put]; rfl, by kernel_rfl, by kernel_rfl, by kernel_rfl, fun _ _ _ h => h, (.inl ⟨rfl, fun W _ => by unfold execOp; simp only [List.map_toArray, List.map_cons, List.map_nil]; exact value_ok (build_hold _ _ _ _ _ _ _ (plusL_length _ _ _))⟩), HS8.out, ?_⟩
  refine onlyH (o := ?o10) 9 (by kernel_rfl) ?h10 ?r10
  case h10 => simp only [List.getElem?_toArray, List.getElem?_cons_succ, List.getElem?_cons_zero]; rfl
  intro K hK
  refine op_call1 59 _ _ Try.f59 (fun v w' => ∃ X Y, RdEn w' v ⟨x.key, x.window, x.ids.join y.ids, skOf (plusL ys zs 28)⟩ X Y ∧ Own W8.heap.size w' X ∧ Own W8.heap.size w' Y ∧ (∀ b ∈ X, b ∉ Y) ∧ Below W8.heap.size W8 w') rfl rfl Try.func59 (by kernel_rfl) (by kernel_rfl) ((holdEntry_any x.key x.window aj lj cj (x.ids.join y.ids) (plusL ys zs 28) Fj W8 HJ8.out.1 HJ8.out.2 (plusL_length _ _ _)).mono (by rintro e w' ⟨v, X, Y, rfl, h1, h2, h3, h4, h5⟩; exact ⟨_, rfl, X, Y, h1, h2, h3, h4, h5⟩)) ?_
  rintro vm W9 ⟨X, Y, rm, oX, oY, hXY, bz⟩
  have hT : (⟨x.key, x.window, x.ids.join y.ids, skOf (plusL ys zs 28)⟩ : En) = x.addR y := by
    rw [En.addR_yes (HC.out), HE.out.1, HE.out.2]
    unfold En.add
    rw [merge_tl (En.ok_sk HD1.out.symm) (En.ok_sk HD2.out.symm), Sp.join_yes (En.ok_ids HD1.out.symm).1 (En.ok_ids HD2.out.symm).1]
  rw [hT] at rm
  obtain ⟨E, rfl, hE10, hE1⟩ := (show RdE W9 vm (x.addR y) (X ++ Y) from ⟨X, Y, rfl, rm⟩).cells
  refine ⟨_, by simp [Act.put]; rfl, hK _ _ ⟨HSS _ _ HS8.out bz, ?_⟩⟩
  have HS9 : Hid (HoldS w1.heap.size x.key x.window ax lx cx ys W9 ∧ HoldS w3.heap.size y.key y.window ay ly cy zs W9) := HSS _ _ HS8.out bz
  have HZ9 : Hid (Blk W9 (w.heap.size + 1 + 1) #[.int .i64 0, .int .i64 0, .slice none 0 0, .int .i64 0, .int .i64 0, .int .i64 0, .int .i64 0, .slice none 0 0, .slice none 0 0, .slice none 0 0] 34 ∧ Below w.heap.size w W9) := ⟨HZ8.out.1.below bz, Below.next HZ8.out.2 bz⟩
  have HR9 : Hid (RdEn W9 (.agg E) (x.addR y) X Y ∧ Own (w.heap.size + 3) W9 X ∧ Own (w.heap.size + 3) W9 Y ∧ (∀ b ∈ X, b ∉ Y) ∧ E.size = 10 ∧ E.all (·.oneCell') = true) := ⟨rm, oX.mono HZ8.out.1.lt, oY.mono HZ8.out.1.lt, hXY, hE10, hE1⟩
  clear hK bz rm oX oY hXY hT hE10 hE1 HS8 HZ8 HJ8
  refine onlyH (o := ?o11) 10 (by kernel_rfl) ?h11 ?r11
  case h11 => simp only [List.getElem?_toArray, List.getElem?_cons_succ, List.getElem?_cons_zero]; rfl
  intro K hK
  refine op_store 34 (w.heap.size + 1 + 1) #[.int .i64 0, .int .i64 0, .slice none 0 0, .int .i64 0, .int .i64 0, .int .i64 0, .int .i64 0, .slice none 0 0, .slice none 0 0, .slice none 0 0] E 34 rfl rfl rfl rfl HZ9.out.1 (enSizeA HR9.out.2.2.2.2.1) HR9.out.2.2.2.2.1.symm HR9.out.2.2.2.2.2 ⟨_, by simp [Act.put]; rfl, hK _ _ ⟨⟨HS9.out.1.setRow (by have := LZ.out; omega), HS9.out.2.setRow (by have := LZ.out; omega)⟩, ?_⟩⟩
  clear hK
  have HSF : Hid (HoldS w1.heap.size x.key x.window ax lx cx ys (W9.setRow (w.heap.size + 1 + 1) E) ∧ HoldS w3.heap.size y.key y.window ay ly cy zs (W9.setRow (w.heap.size + 1 + 1) E)) := ⟨HS9.out.1.setRow (by have := LZ.out; omega), HS9.out.2.setRow (by have := LZ.out; omega)⟩
  refine takeH (o := ?o12) 11 (.bool true) ?h12 ?r12
  case h12 => simp only [List.getElem?_toArray, List.getElem?_cons_succ, List.getElem?_cons_zero]; rfl
  refine ⟨_, by simp [Act.put]; rfl, by kernel_rfl, by kernel_rfl, by kernel_rfl, fun _ _ _ h => h, (.inl ⟨rfl, fun W _ => by go_simp⟩), HSF.out, ?_⟩
  refine wpAnyH_done (by kernel_rfl) ?_ _
  go_wp2
  refine bodyPost_ret (results_row_tmp Try.results23 _ _ (w.heap.size + 1 + 1) _ _ _ _ rfl HZ9.out.1.setRow Try.underlying34 rfl (enSizeA HR9.out.2.2.2.2.1)) rfl ?_
  have nX : w.heap.size + 1 + 1 ∉ X := fun hx => by have := HR9.out.2.1.ge _ hx; omega
  have nY : w.heap.size + 1 + 1 ∉ Y := fun hx => by have := HR9.out.2.2.1.ge _ hx; omega
  exact ⟨_, X, Y, by rw [HC.out]; rfl, HR9.out.1.agree (Agree.row nX E) (Agree.row nY E), (HR9.out.2.1.agree (Agree.row nX E)).mono (by omega), (HR9.out.2.2.1.agree (Agree.row nY E)).mono (by omega), HR9.out.2.2.2.1, below_setRow HZ9.out.2 (by omega) _⟩
end Go.Proofs.Ytbmbmnhamogghap
/- What the laws over entries take of the program and the model. No statement of the seat is proved here. -/
namespace Go.Proofs.Ytbmbmnhamogghap
open Go.RowKit
set_option maxRecDepth 200000 in
theorem addSpecE_any (v u : Value) (s t : En) (F G : List Nat) (w : World) (h : RdE w v s F) (k : RdE w u t G) (hw : s.wide) (kw : t.wide) :
    Calls Try.prog 22 #[v, u] w fun e w' => ∃ v' X, e = .returned (.tuple #[v', .bool (s.addOk t)]) ∧ RdE w' v' (s.addR t) X ∧ Own w.heap.size w' X ∧ Below w.heap.size w w' := by
  obtain ⟨F1, F2, rfl, h⟩ := h
  obtain ⟨G1, G2, rfl, k⟩ := k
  refine (entryAddSpec_any v u s t F1 F2 G1 G2 w h k hw.1 kw.1 (by have := hw.2; have := kw.2; omega)).mono ?_
  rintro e w' ⟨v', X, Y, he, hr, ho, ho', hd, hb⟩
  exact ⟨v', X ++ Y, he, ⟨X, Y, rfl, hr⟩, ho.app ho' hd, hb⟩
set_option maxRecDepth 200000 in
theorem addImplE_any (v u : Value) (s t : En) (F G : List Nat) (w : World) (h : RdE w v s F) (k : RdE w u t G) (hw : s.wide) (kw : t.wide) :
    Calls Try.prog 23 #[v, u] w fun e w' => ∃ v' X, e = .returned (.tuple #[v', .bool (s.addOk t)]) ∧ RdE w' v' (s.addR t) X ∧ Own w.heap.size w' X ∧ Below w.heap.size w w' := by
  obtain ⟨F1, F2, rfl, h⟩ := h
  obtain ⟨G1, G2, rfl, k⟩ := k
  refine (entryAddImpl_any v u s t F1 F2 G1 G2 w h k hw.1 kw.1 (by have := hw.2; have := kw.2; omega)).mono ?_
  rintro e w' ⟨v', X, Y, he, hr, ho, ho', hd, hb⟩
  exact ⟨v', X ++ Y, he, ⟨X, Y, rfl, hr⟩, ho.app ho' hd, hb⟩
theorem addR_cases (s t : En) : s.addR t = En.zero ∨ ((s.addR t).ids.length ≤ s.ids.length + t.ids.length ∧ (s.addR t).sk = s.sk.mergeR t.sk) := by
  cases h : s.addOk t
  · exact .inl (En.addR_not h)
  · right
    rw [En.addR_yes h]
    have h1 : s.ok = true ∧ t.ok = true := by
      unfold En.addOk at h
      simp only [Bool.and_eq_true] at h
      exact ⟨h.1.1.1.1, h.1.1.1.2⟩
    have j := join_length s.ids t.ids
    rw [Sp.join_yes (En.ok_ids h1.1).1 (En.ok_ids h1.2).1] at j
    refine ⟨j, ?_⟩
    show s.sk.merge t.sk = _
    unfold Sk.mergeR
    rw [En.ok_sk h1.1, En.ok_sk h1.2]
    rfl
theorem addR_wide {s t : En} (h : s.fits) (k : t.fits) (hl : s.ids.length + t.ids.length ≤ 1048576) : (s.addR t).wide := by
  rcases addR_cases s t with e | ⟨e1, e2⟩
  · rw [e]
    exact ⟨⟨by simp [En.zero, Sk.zero], by simp [En.zero, Sk.zero], by simp [En.zero, Sk.zero], by simp [En.zero, Sk.zero]⟩, by simp [En.zero]⟩
  · exact ⟨by rw [e2]; exact mergeR_wide h.1 k.1, by omega⟩
theorem addR_many {s t : En} (h : s.fits) (k : t.fits) (hl : s.ids.length + t.ids.length ≤ 1048576) : 0 ≤ (s.addR t).many ∧ (s.addR t).many ≤ 4194304 := by
  rcases addR_cases s t with e | ⟨e1, e2⟩
  · rw [e]; simp [En.many, Sk.many, En.zero, Sk.zero, sumLen]
  · have := mergeR_many h.1 k.1
    unfold En.many
    rw [e2]
    omega
end Go.Proofs.Ytbmbmnhamogghap
