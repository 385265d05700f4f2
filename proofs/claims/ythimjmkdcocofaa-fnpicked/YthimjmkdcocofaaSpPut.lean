/- The walks through the model's putting of a span into a set, and what is made of it. No statement of the seat is proved here. -/
import Derived.Test.YthimjmkdcocofaaSpModel3
import Derived.Laws.CopyOwn
import Derived.OrdersHeld
namespace Go.Proofs.Ythimjmkdcocofaa
open Go.RowKit
section
variable {P : Program} {ops : Array Oper} {Q : Exit → Act → World → Prop} {rest : List Oper} {a : Act} {w : World} {x y : Operand} {o : Oper}
theorem stopAppend2 {ts : Array TypeId} (_ho : o.op = .call { callee := .builtin .append, args := #[x, y], argTypes := ts }) (h : Stop (wpList P ops Q (o :: rest) a w)) : wpList P ops Q (o :: rest) a w := h
end
theorem rdP_of_own {w : World} {B e n : Nat} {v : Value} {ps : Sp} (h : w.ownsRow B e 2 v n ((flat ps).map (Value.int .i64))) : ∃ a cap F, v = .slice a n cap ∧ RdP w a n ps F ∧ Own B w F ∧ Capd a n cap := by
  rcases h.2 with ⟨h1, h2⟩ | ⟨g, cap, cur, h1, _, _, hcap, _⟩
  · subst h2
    have hl : (flat ps).length = 0 := by simpa using h.1
    rw [flat_length] at hl
    obtain rfl : ps = [] := List.eq_nil_of_length_eq_zero (by omega)
    exact ⟨none, 0, [], h1, RdP.nil, Own.nil, fun _ => rfl, Nat.le_refl _⟩
  · subst h1
    obtain ⟨F, hr, ho, _⟩ := RdP.of_own h
    exact ⟨_, cap, F, rfl, hr, ho, (fun e => by cases e), hcap⟩
theorem own_mono {w : World} {B B' e size n : Nat} {v : Value} {xs : List Value} (h : w.ownsRow B e size v n xs) (hB : B' ≤ B) : w.ownsRow B' e size v n xs := by
  refine ⟨h.1, ?_⟩
  rcases h.2 with e | ⟨g, cap, cur, h1, h2, h3⟩
  · exact .inl e
  · exact .inr ⟨g, cap, cur, h1, Nat.le_trans hB h2, h3⟩
theorem own_empty2 (w : World) (e : TypeId) : (w.alloc (.cells #[] e)).ownsRow w.heap.size e 2 (.slice (some ⟨w.heap.size, 0, none⟩) 0 0) 0 [] :=
  ⟨rfl, .inr ⟨w.heap.size, 0, #[], rfl, Nat.le_refl _, Blk.made w #[] e, Nat.le_refl _, by simp, rfl, rfl⟩⟩
theorem cell_new2 (w : World) (u v : Value) (t : TypeId) : ∀ (j : Nat) (x : Value), [u, v][j]? = some x → (w.alloc (.cells #[u, v] t)).cell? ((⟨w.heap.size, 0, none⟩ : Addr).add j) = some x := by
  intro j x hx
  match j, hx with
  | 0, hx =>
    obtain rfl : u = x := by simpa using hx
    simp [Addr.add]
  | 1, hx =>
    obtain rfl : v = x := by simpa using hx
    simp [Addr.add]
  | j + 2, hx => simp at hx
/-- What is put behind what has come: the rest of the set, the span, whether it has been put. -/
def put : Sp → Int × Int → Bool → Sp
  | [], x, d => if d then [] else [x]
  | p :: ps, x, d => if p.2 + 1 < x.1 then p :: put ps x d else if x.2 + 1 < p.1 then (if d then [] else [x]) ++ p :: put ps x true else put ps (min x.1 p.1, max x.2 p.2) d
/-- All numbers are in bounds. -/
def InB (p : Int × Int) : Prop := (0 ≤ p.1 ∧ p.1 ≤ 9999) ∧ 0 ≤ p.2 ∧ p.2 ≤ 9999
theorem drop_at {ps : Sp} {k : Nat} (hk : k < ps.length) : ps.drop k = ps.at k :: ps.drop (k + 1) := by
  unfold Sp.at
  rw [List.drop_eq_getElem_cons hk, List.getElem?_eq_getElem hk]
  rfl
theorem put_a {ps : Sp} {k : Nat} {x : Int × Int} {d : Bool} (hk : k < ps.length) (h : (ps.at k).2 + 1 < x.1) : put (ps.drop k) x d = ps.at k :: put (ps.drop (k + 1)) x d := by rw [drop_at hk, put, if_pos h]
theorem put_b {ps : Sp} {k : Nat} {x : Int × Int} {d : Bool} (hk : k < ps.length) (h : ¬ (ps.at k).2 + 1 < x.1) (h2 : x.2 + 1 < (ps.at k).1) : put (ps.drop k) x d = (if d then [] else [x]) ++ ps.at k :: put (ps.drop (k + 1)) x true := by rw [drop_at hk, put, if_neg h, if_pos h2]
theorem put_c {ps : Sp} {k : Nat} {x : Int × Int} {d : Bool} (hk : k < ps.length) (h : ¬ (ps.at k).2 + 1 < x.1) (h2 : ¬ x.2 + 1 < (ps.at k).1) : put (ps.drop k) x d = put (ps.drop (k + 1)) (min x.1 (ps.at k).1, max x.2 (ps.at k).2) d := by rw [drop_at hk, put, if_neg h, if_neg h2]
theorem put_length : ∀ (ps : Sp) (x : Int × Int) (d : Bool), (put ps x d).length ≤ ps.length + 1
  | [], x, d => by cases d <;> simp [put]
  | p :: ps, x, d => by
    rw [put]
    split
    · have := put_length ps x d; simp; omega
    · split
      · cases d
        · have := put_true ps x; simp; omega
        · have := put_length ps x true; simp; omega
      · have := put_length ps (min x.1 p.1, max x.2 p.2) d; simp; omega
where put_true : ∀ (ps : Sp) (x : Int × Int), (put ps x true).length ≤ ps.length
  | [], x => by simp [put]
  | p :: ps, x => by
    rw [put]
    split
    · have := put_true ps x; simp; omega
    · split
      · have := put_true ps x; simp; omega
      · have := put_true ps (min x.1 p.1, max x.2 p.2); simp; omega
/-- A span lies in memory. -/
def SpanAt (b c : Nat) (p q : Int) (W : World) : Prop := W.cell? ⟨b, c, none⟩ = some (.int .i64 p) ∧ W.cell? ⟨b, c + 1, none⟩ = some (.int .i64 q)
theorem SpanAt.setRow {b c g : Nat} {p q : Int} {W : World} {cs : Array Value} (h : SpanAt b c p q W) (hn : b ≠ g) : SpanAt b c p q (W.setRow g cs) :=
  ⟨(World.cell?_of_block (w := W) (a := ⟨b, c, none⟩) (setRow_other W g b cs hn)).trans h.1, (World.cell?_of_block (w := W) (a := ⟨b, c + 1, none⟩) (setRow_other W g b cs hn)).trans h.2⟩
end Go.Proofs.Ythimjmkdcocofaa
