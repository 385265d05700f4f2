/- What the program lays out of its row: a summary in memory of its own. No statement of the seat is proved here. -/
import Derived.Test.YthimjmkdcocofaaTallyD
import Derived.Test.YthimjmkdcocofaaSkSum
namespace Go.Proofs.Ythimjmkdcocofaa
open Go.RowKit
set_option maxRecDepth 200000 in
set_option maxHeartbeats 400000 in
theorem copiedList_any (b off len cap : Nat) (zs : List Int) (F : List Nat) (w : World) (h : RdI w (some ⟨b, off, none⟩) len zs F) (hp : 0 < len) (hlen : len ≤ 1048576) :
    Calls Try.prog 45 #[.slice (some ⟨b, off, none⟩) len cap] w fun e w' => NewI w zs e w' := by
  obtain ⟨i0, hi, hz0, hz1, hz2⟩ := info_parts infoInt
  have HR : Hid (RdI w (some ⟨b, off, none⟩) len zs F) := h
  have hlz := h.length
  obtain ⟨ad, had, hsrc⟩ := h.src (Below.refl _ _) hp
  obtain rfl := Option.some.inj had
  have HSrc : Hid (∀ j v, (zs.map (Value.int .i64))[j]? = some v → w.cell? ((⟨b, off, none⟩ : Addr).add j) = some v) := hsrc
  have HO : Hid (w.ownsRow w.heap.size 3 1 (.slice none 0 0) 0 []) := ⟨rfl, .inl ⟨rfl, rfl⟩⟩
  clear h hsrc had
  go_enter Try.func45, Try.ntmps45
  go_wp2_with (at_builtin; (refine wpList_append_own _ rfl _ _ 24 rfl w.heap.size 3 i0 (.int .i64 0) 1 8 Try.underlying24 hi hz0 hz1 hz2 rfl (by decide) _ 0 [] rfl HO.out ⟨b, off, none⟩ len cap (zs.map (Value.int .i64)) rfl (by simp [hlz]) HSrc.out (ints_one _) (by unfold maxLen; omega) (by omega) (by omega) ?_))
  intro v w2 hown hgrow _
  have HN : Hid (w2.ownsRow w.heap.size 3 1 v len (zs.map (Value.int .i64)) ∧ Below w.heap.size w w2) := ⟨by simpa using hown, (Below.refl _ _).grown hgrow (by omega) (fun k hk => by cases hk)⟩
  clear hown hgrow
  go_wp2
  go_ret
  obtain ⟨a, c, F', rfl, hr, ho⟩ := rdI_of_own HN.out.1
  exact ⟨a, len, c, F', rfl, hr, ho, HN.out.2⟩
/-- The summary whose numbers these are. -/
def skOf (xs : List Int) : Sk := ⟨xs.getD 0 0, xs.getD 1 0, xs.getD 2 0, xs.getD 3 0, (xs.drop 4).take 8, (xs.drop 12).take 8, [(xs.drop 20).take 4, (xs.drop 24).take 4]⟩
theorem Own.perm {B : Nat} {w : World} {F G : List Nat} (h : Own B w F) (p : F.Perm G) : Own B w G :=
  ⟨p.nodup h.nodup, fun b hb => h.free b (p.mem_iff.2 hb), fun b hb => h.ge b (p.mem_iff.2 hb)⟩
theorem Own.blk {B : Nat} {w : World} {F : List Nat} {g : Nat} {cs : Array Value} {t : TypeId} (h : Own B w F) (b : Blk w g cs t) (hg : g ∉ F) (hB : B ≤ g) : Own B w (F ++ [g]) :=
  h.app ⟨by simp, fun x hx o => by (obtain rfl : x = g := by simpa using hx); exact b.frozen o, fun x hx => by (obtain rfl : x = g := by simpa using hx); exact hB⟩ (fun x hx hx' => hg (by (obtain rfl : x = g := by simpa using hx'); exact hx))
theorem two_rows4 {wx : World} {x2 x3 : Option Addr} {l2 l3 : List Int} {X2 X3 : List Nat} {g : Nat} {j2 j3 : Nat} {t : TypeId} (br : Blk wx g #[.slice x2 4 j2, .slice x3 4 j3] t) (r2 : RdI wx x2 4 l2 X2) (r3 : RdI wx x3 4 l3 X3) : RdII wx (some ⟨g, 0, none⟩) 2 [l2, l3] (g :: (X2 ++ X3)) := by
  refine ⟨rfl, .inr ⟨g, 0, X2 ++ X3, by omega, rfl, rfl, ?_⟩⟩
  show RdM wx [ints l2, ints l3] g 0 (X2 ++ X3)
  rw [RdM]
  refine ⟨_, X2, X3, by rw [br.cell 0]; rfl, rd_ints.2 ⟨_, 4, j2, rfl, r2⟩, ?_, rfl⟩
  rw [RdM]
  exact ⟨_, X3, [], by rw [br.cell 1]; rfl, rd_ints.2 ⟨_, 4, j3, rfl, r3⟩, by simp [RdM], by simp⟩
/-- Four lists that were made one behind the other, and a row of the last two. -/
theorem four_lists {w0 w1 w2 w3 w4 w5 : World} {a1 a2 a3 a4 : Option Addr} {n1 n2 n3 n4 : Nat} {l1 l2 l3 l4 : List Int} {F1 F2 F3 F4 : List Nat} {cs : Array Value} {t : TypeId}
    (r1 : RdI w1 a1 n1 l1 F1) (o1 : Own w0.heap.size w1 F1) (b1 : Below w0.heap.size w0 w1) (r2 : RdI w2 a2 n2 l2 F2) (o2 : Own w1.heap.size w2 F2) (b2 : Below w1.heap.size w1 w2) (r3 : RdI w3 a3 n3 l3 F3) (o3 : Own w2.heap.size w3 F3) (b3 : Below w2.heap.size w2 w3)
    (r4 : RdI w4 a4 n4 l4 F4) (o4 : Own w3.heap.size w4 F4) (b4 : Below w3.heap.size w3 w4) (k : Blk w5 w4.heap.size cs t) (b5 : Below w4.heap.size w4 w5) :
    RdI w5 a1 n1 l1 F1 ∧ RdI w5 a2 n2 l2 F2 ∧ RdI w5 a3 n3 l3 F3 ∧ RdI w5 a4 n4 l4 F4 ∧ Own w0.heap.size w5 (F1 ++ (F2 ++ (w4.heap.size :: (F3 ++ F4)))) := by
  have s1 := b1.size; have s2 := b2.size; have s3 := b3.size; have s4 := b4.size
  have p2 := (o1.below r1.lt b2).join o2 r1.lt s1
  have q1 := r1.below b2
  have l2 : ∀ b ∈ F1 ++ F2, b < w2.heap.size := fun b h => (List.mem_append.1 h).elim (q1.lt b) (r2.lt b)
  have p3 := (p2.below l2 b3).join o3 l2 (by omega)
  have l3 : ∀ b ∈ F1 ++ F2 ++ F3, b < w3.heap.size := fun b h => (List.mem_append.1 h).elim (fun h => by have := l2 b h; omega) (r3.lt b)
  have p4 := (p3.below l3 b4).join o4 l3 (by omega)
  have l4 : ∀ b ∈ F1 ++ F2 ++ F3 ++ F4, b < w4.heap.size := fun b h => (List.mem_append.1 h).elim (fun h => by have := l3 b h; omega) (r4.lt b)
  have p5 := (p4.below l4 b5).blk k (fun h => by have := l4 _ h; omega) (by omega)
  refine ⟨((q1.below b3).below b4).below b5, ((r2.below b3).below b4).below b5, (r3.below b4).below b5, r4.below b5, p5.perm ?_⟩
  rw [List.perm_iff_count]
  intro x
  simp only [List.count_append, List.count_cons, List.count_nil]
  omega
end Go.Proofs.Ythimjmkdcocofaa
