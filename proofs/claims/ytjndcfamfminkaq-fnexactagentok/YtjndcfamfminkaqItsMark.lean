/- Items of a list, marked in place, and held against their marks. No statement of the seat is proved here. -/
import Derived.Test.YtjndcfamfminkaqAgData
import Derived.Test.YtjndcfamfminkaqSkMarks
import Derived.Test.YtjndcfamfminkaqItVar
import Derived.Laws.IdiomCopy
import Derived.Test.YtjndcfamfminkaqItsHelp
namespace Go.Proofs.Ytjndcfamfminkaq
open Go.RowKit
section
variable {α : Type} {K : ElK α} {w w' : World}
theorem RdEls.agreeC : ∀ {xs : List α} {b off : Nat} {F : List Nat}, RdEls K w b xs off F → (∀ o, off ≤ o → w'.cell? ⟨b, o, none⟩ = w.cell? ⟨b, o, none⟩) → Agree w w' F → RdEls K w' b xs off F
  | [], b, off, F, h, _, _ => h
  | x :: xs, b, off, F, h, hc, ha => by
    obtain ⟨cs, F1, F2, h1, h2, h3, h4, rfl⟩ := h
    exact ⟨cs, F1, F2, h1, fun j hj => (hc _ (by omega)).trans (h2 j hj), K.agree h3 ha.left, RdEls.agreeC h4 (fun o ho => hc o (by omega)) ha.right, rfl⟩
/-- One element of a list, and what is left when it is turned in place. -/
theorem RdEls.part : ∀ {xs : List α} {b off : Nat} {F : List Nat}, RdEls K w b xs off F → ∀ (i : Nat) (hi : i < xs.length), ∃ (F1 : List Nat) (cs : Array Value) (Fi F2 : List Nat), F = F1 ++ (Fi ++ F2) ∧ cs.size = K.n ∧ (∀ j, j < K.n → w.cell? ⟨b, off + i * K.n + j, none⟩ = cs[j]?) ∧ K.R w (.agg cs) xs[i] Fi ∧
    ∀ {w' : World} {ds : Array Value} {y : α}, ds.size = K.n → (∀ j, j < K.n → w'.cell? ⟨b, off + i * K.n + j, none⟩ = ds[j]?) → K.R w' (.agg ds) y Fi → (∀ o, (o < off + i * K.n ∨ off + (i + 1) * K.n ≤ o) → w'.cell? ⟨b, o, none⟩ = w.cell? ⟨b, o, none⟩) → Agree w w' (F1 ++ F2) → RdEls K w' b (xs.set i y) off F
  | [], b, off, F, h, i, hi => by simp at hi
  | x :: xs, b, off, F, h, i, hi => by
    obtain ⟨cs, F1, F2, h1, h2, h3, h4, rfl⟩ := h
    cases i with
    | zero =>
      refine ⟨[], cs, F1, F2, rfl, h1, fun j hj => by rw [Nat.zero_mul, Nat.add_zero]; exact h2 j hj, h3, fun {w' ds y} k1 k2 k3 k4 k5 => ?_⟩
      refine ⟨ds, F1, F2, k1, fun j hj => ?_, k3, h4.agreeC (fun o ho => k4 o (.inr (by rw [Nat.zero_add, Nat.one_mul]; exact ho))) k5, rfl⟩
      have := k2 j hj
      rw [Nat.zero_mul, Nat.add_zero] at this
      exact this
    | succ i =>
      obtain ⟨G1, ds, Gi, G2, e, k1, k2, k3, k4⟩ := RdEls.part h4 i (by simpa using hi)
      have ea : ∀ m, off + (m + 1) * K.n = off + K.n + m * K.n := fun m => by rw [Nat.succ_mul]; omega
      refine ⟨F1 ++ G1, ds, Gi, G2, by rw [e, List.append_assoc], k1, fun j hj => ?_, k3, fun {w' es y} q1 q2 q3 q4 q5 => ?_⟩
      · rw [ea]; exact k2 j hj
      · have q5' : Agree w w' F1 := fun b hb => q5 b (by simp [hb])
        have q6' : Agree w w' (G1 ++ G2) := fun b hb => q5 b (by rcases List.mem_append.1 hb with hb | hb <;> simp [hb])
        refine ⟨cs, F1, F2, h1, fun j hj => (q4 _ (.inl ?_)).trans (h2 j hj), K.agree h3 q5', ?_, rfl⟩
        · rw [ea]; have := Nat.zero_le (i * K.n); omega
        · refine k4 q1 (fun j hj => ?_) q3 (fun o ho => q4 o ?_) q6'
          · have := q2 j hj; rw [ea] at this; exact this
          · rw [ea, ea]
            exact ho
end
/-- An item that is marked whole. -/
def It.markS (k : Int) (y : It) : It := ⟨k, k + 1, k + 2, k + 3, ⟨k + 4, k + 5, k + 6, k + 7, marksI (k + 8) y.sk.hist.length, marksI (k + 8 + y.sk.hist.length) y.sk.regs.length, marksII (k + 8 + y.sk.hist.length + y.sk.regs.length) y.sk.rows⟩⟩
def It.manyS (y : It) : Int := 8 + y.sk.many
def itsMany : List It → Int
  | [] => 0
  | y :: xs => y.manyS + itsMany xs
def itsMark (k : Int) : List It → List It
  | [] => []
  | y :: xs => y.markS k :: itsMark (k + y.manyS) xs
theorem itsMark_length : ∀ (k : Int) (xs : List It), (itsMark k xs).length = xs.length
  | k, [] => rfl
  | k, y :: xs => by simp only [itsMark, List.length_cons, itsMark_length]
theorem It.manyS_nonneg (y : It) : 0 ≤ y.manyS := by have := Sk.many_nonneg y.sk; unfold It.manyS; omega
theorem itsMany_nonneg : ∀ xs : List It, 0 ≤ itsMany xs
  | [] => by simp [itsMany]
  | y :: xs => by have := It.manyS_nonneg y; have := itsMany_nonneg xs; simp only [itsMany]; omega
theorem itsMany_append : ∀ xs ys : List It, itsMany (xs ++ ys) = itsMany xs + itsMany ys
  | [], ys => by simp [itsMany]
  | y :: xs, ys => by simp only [List.cons_append, itsMany, itsMany_append xs ys]; omega
theorem itsMark_append : ∀ (k : Int) (xs ys : List It), itsMark k (xs ++ ys) = itsMark k xs ++ itsMark (k + itsMany xs) ys
  | k, [], ys => by simp [itsMark, itsMany]
  | k, y :: xs, ys => by
    simp only [List.cons_append, itsMark, itsMany, itsMark_append (k + y.manyS) xs ys]
    rw [Int.add_assoc]
theorem itsMany_snoc {xs : List It} {i : Nat} {y : It} (h : xs[i]? = some y) : itsMany (xs.take (i + 1)) = itsMany (xs.take i) + y.manyS := by
  rw [take_snoc_at h, itsMany_append]; simp [itsMany]
theorem itsMark_set {k : Int} {xs : List It} {i : Nat} {y : It} (h : xs[i]? = some y) : (itsMark k (xs.take i) ++ xs.drop i).set i (y.markS (k + itsMany (xs.take i))) = itsMark k (xs.take (i + 1)) ++ xs.drop (i + 1) := by
  have hi : i < xs.length := (List.getElem?_eq_some_iff.1 h).1
  have hl : (itsMark k (xs.take i)).length = i := by rw [itsMark_length, List.length_take]; omega
  have hd : xs.drop i = y :: xs.drop (i + 1) := by
    rw [List.drop_eq_getElem_cons hi]
    have := (List.getElem?_eq_some_iff.1 h).2
    rw [this]
  have e : itsMark k (xs.take i ++ [y]) = itsMark k (xs.take i) ++ [y.markS (k + itsMany (xs.take i))] := by rw [itsMark_append]; simp [itsMark]
  rw [hd, take_snoc_at h, e, List.append_assoc]
  rw [List.set_append]
  simp [hl]
theorem itsMark_at {k : Int} {xs : List It} {i : Nat} {y : It} (h : xs[i]? = some y) : (itsMark k xs)[i]? = some (y.markS (k + itsMany (xs.take i))) := by
  have hi : i < xs.length := (List.getElem?_eq_some_iff.1 h).1
  have hl : (itsMark k (xs.take i)).length = i := by rw [itsMark_length, List.length_take]; omega
  have hd : xs = xs.take i ++ (y :: xs.drop (i + 1)) := by
    have e := List.take_append_drop i xs
    rw [List.drop_eq_getElem_cons hi, (List.getElem?_eq_some_iff.1 h).2] at e
    exact e.symm
  conv => lhs; rw [hd, itsMark_append, itsMark]
  rw [List.getElem?_append_right (by omega), hl]
  simp
theorem itsMany_le {xs : List It} (i : Nat) : itsMany (xs.take i) ≤ itsMany xs := by
  have := itsMany_append (xs.take i) (xs.drop i)
  rw [List.take_append_drop] at this
  have := itsMany_nonneg (xs.drop i)
  omega
structure MarkedL (B : Nat) (w : World) (a : Option Addr) (len : Nat) (k : Int) (xs : List It) (F : List Nat) (w' : World) : Prop where
  rd : RdL itK w' a len (itsMark k xs) F
  own : Own B w' F
  only : Only F w w'
structure MarkingL (B : Nat) (w : World) (b off len : Nat) (k : Int) (xs : List It) (i : Nat) (F : List Nat) (w' : World) : Prop where
  rd : RdEls itK w' b (itsMark k (xs.take i) ++ xs.drop i) off F
  own : Own B w' (b :: F)
  only : Only (b :: F) w w'
def vals8 (z : Int) : List Value := [.int .i64 z, .int .i64 (z + 1), .int .i64 (z + 1 + 1), .int .i64 (z + 1 + 1 + 1), .int .i64 (z + 1 + 1 + 1 + 1), .int .i64 (z + 1 + 1 + 1 + 1 + 1), .int .i64 (z + 1 + 1 + 1 + 1 + 1 + 1), .int .i64 (z + 1 + 1 + 1 + 1 + 1 + 1 + 1)]
theorem setCells_heap (b : Nat) : ∀ (vs : List Value) (o : Nat) (w : World) (x : Nat), x ≠ b → (w.setCells b o vs).heap[x]? = w.heap[x]?
  | [], _, _, _, _ => rfl
  | v :: r, o, w, x, h => by rw [World.setCells, setCells_heap b r (o + 1) _ x h, Below.heap_setCell w ⟨b, o, none⟩ v x h]
theorem setCells_own (b B : Nat) {F : List Nat} : ∀ (vs : List Value) (o : Nat) (w : World), Own B w F → Own B (w.setCells b o vs) F
  | [], _, _, h => h
  | v :: r, o, _, h => setCells_own b B r (o + 1) _ (h.set b o v)
theorem setCells_only (b : Nat) {F : List Nat} (hb : b ∈ F) : ∀ (vs : List Value) (o : Nat) (w w0 : World), Only F w0 w → Only F w0 (w.setCells b o vs)
  | [], _, _, _, h => h
  | v :: r, o, _, w0, h => setCells_only b hb r (o + 1) _ w0 (h.set hb o v)
/-- Eight cells of a row, numbered. -/
structure Set8 (w : World) (b A : Nat) (z : Int) (W : World) : Prop where
  inn : ∀ j, j < 8 → W.cell? ⟨b, A + j, none⟩ = some (.int .i64 (z + j))
  out : ∀ o, (o < A ∨ A + 8 ≤ o) → W.cell? ⟨b, o, none⟩ = w.cell? ⟨b, o, none⟩
  oth : ∀ x, x ≠ b → W.heap[x]? = w.heap[x]?
  own : ∀ (B : Nat) (F : List Nat), Own B w F → Own B W F
  only : ∀ (F : List Nat) (w0 : World), b ∈ F → Only F w0 w → Only F w0 W
  lt : b < W.heap.size
theorem Set8.agr {w W : World} {b A : Nat} {z : Int} (h : Set8 w b A z W) {G : List Nat} (hb : b ∉ G) : Agree w W G := fun x hx => h.oth x (fun e => hb (e ▸ hx))
theorem Set8.made (w : World) (b A : Nat) (z : Int) (hc : ∀ j, j < 8 → (w.cell? ⟨b, A + j, none⟩).isSome = true) : Set8 w b A z (w.setCells b A (vals8 z)) := by
  have i := World.cell?_setCells_in b (vals8 z) A w (fun j hj => hc j hj)
  have inn : ∀ j, j < 8 → (w.setCells b A (vals8 z)).cell? ⟨b, A + j, none⟩ = some (.int .i64 (z + j)) := fun j hj => by
    rw [i j hj]
    match j, hj with
    | 0, _ => show some (Value.int .i64 z) = _; simp
    | 1, _ => rfl
    | 2, _ => show some (Value.int .i64 (z + 1 + 1)) = _; congr 2; omega
    | 3, _ => show some (Value.int .i64 (z + 1 + 1 + 1)) = _; congr 2; omega
    | 4, _ => show some (Value.int .i64 (z + 1 + 1 + 1 + 1)) = _; congr 2; omega
    | 5, _ => show some (Value.int .i64 (z + 1 + 1 + 1 + 1 + 1)) = _; congr 2; omega
    | 6, _ => show some (Value.int .i64 (z + 1 + 1 + 1 + 1 + 1 + 1)) = _; congr 2; omega
    | 7, _ => show some (Value.int .i64 (z + 1 + 1 + 1 + 1 + 1 + 1 + 1)) = _; congr 2; omega
  exact ⟨inn, fun o ho => World.cell?_setCells_out b (vals8 z) A w _ (fun _ _ => ho), fun x hx => setCells_heap b _ _ _ x hx, fun B F h => setCells_own b B _ _ _ h, fun F w0 hb h => setCells_only b hb _ _ _ w0 h, World.block_lt_of_cell? _ _ (inn 0 (by omega))⟩
theorem MarkingL.step {B : Nat} {w wr W8 w9 w10 w11 : World} {b off len : Nat} {k z : Int} {xs : List It} {i : Nat} {F' F1 F2 G1 G2 G3 : List Nat} {y : It} {a1 a2 a3 : Option Addr} {n1 n2 n3 c1 c2 c3 : Nat} (h : MarkingL B w b off len k xs i F' wr) (hy : xs[i]? = some y)
    (hF : F' = F1 ++ ((G1 ++ (G2 ++ G3)) ++ F2))
    (hb : ∀ {w' : World} {ds : Array Value} {y : It}, ds.size = 11 → (∀ j, j < 11 → w'.cell? ⟨b, off + i * 11 + j, none⟩ = ds[j]?) → RdIt w' (.agg ds) y (G1 ++ (G2 ++ G3)) → (∀ o, (o < off + i * 11 ∨ off + (i + 1) * 11 ≤ o) → w'.cell? ⟨b, o, none⟩ = wr.cell? ⟨b, o, none⟩) → Agree wr w' (F1 ++ F2) → RdEls itK w' b ((itsMark k (xs.take i) ++ xs.drop i).set i y) off F')
    (s : Set8 wr b (off + i * 11) z W8) (e8 : wr.cell? ⟨b, off + i * 11 + 8, none⟩ = some (.slice a1 n1 c1)) (e9 : wr.cell? ⟨b, off + i * 11 + 9, none⟩ = some (.slice a2 n2 c2)) (e10 : wr.cell? ⟨b, off + i * 11 + 10, none⟩ = some (.slice a3 n3 c3))
    (p1 : b ∉ G1) (p2 : b ∉ G2) (p3 : b ∉ G3) (d12 : ∀ x ∈ G1, x ∉ G2) (d13 : ∀ x ∈ G1, x ∉ G3) (d23 : ∀ x ∈ G2, x ∉ G3) 
    (m1 : MarkedI B W8 a1 n1 (z + 8) G1 w9) (m2 : MarkedI B w9 a2 n2 (z + 8 + n1) G2 w10) (m3 : MarkedII B w10 a3 n3 (z + 8 + n1 + n2) y.sk.rows G3 w11) (h1 : y.sk.hist.length = n1) (h2 : y.sk.regs.length = n2) (hz : z = k + itsMany (xs.take i)) : MarkingL B w b off len k xs (i + 1) F' w11 := by
  have s9 := m1.only.size
  have s10 := m2.only.size
  have q9 : ∀ x, x < W8.heap.size → x ∉ G1 → x ∉ G2 → x ∉ G3 → w11.heap[x]? = W8.heap[x]? := fun x hx g1 g2 g3 => ((m3.only.block x (by omega) g3).trans (m2.only.block x (by omega) g2)).trans (m1.only.block x hx g1)
  have qb := q9 b s.lt p1 p2 p3
  have cb : ∀ o, w11.cell? ⟨b, o, none⟩ = W8.cell? ⟨b, o, none⟩ := fun o => World.cell?_of_block (w := W8) (a := ⟨b, o, none⟩) qb
  have o := h.own
  have ob : b ∉ F' := (List.nodup_cons.1 o.nodup).1
  have nd := (List.nodup_cons.1 o.nodup).2
  have lF : ∀ x ∈ F', x < wr.heap.size := h.rd.lt
  have sW : wr.heap.size ≤ W8.heap.size := (s.only [b] wr (by simp) (Only.refl _ _)).size
  have r1 : RdI w11 a1 n1 (marksI (z + 8) n1) G1 := (m1.rd.agree (m2.only.agree m1.rd.lt d12)).agree (m3.only.agree (fun x hx => by have := m1.rd.lt x hx; omega) d13)
  have r2 : RdI w11 a2 n2 (marksI (z + 8 + n1) n2) G2 := m2.rd.agree (m3.only.agree m2.rd.lt d23)
  have rit : RdIt w11 (.agg #[.int .i64 z, .int .i64 (z + 1), .int .i64 (z + 2), .int .i64 (z + 3), .int .i64 (z + 4), .int .i64 (z + 5), .int .i64 (z + 6), .int .i64 (z + 7), .slice a1 n1 c1, .slice a2 n2 c2, .slice a3 n3 c3]) (y.markS z) (G1 ++ (G2 ++ G3)) := by
    refine ⟨a1, n1, c1, a2, n2, c2, a3, n3, c3, rfl, a1, n1, c1, a2, n2, c2, a3, n3, c3, G1, G2, G3, rfl, ?_, ?_, ?_, rfl⟩
    · show RdI w11 a1 n1 (marksI (z + 8) y.sk.hist.length) G1
      rw [h1]; exact r1
    · show RdI w11 a2 n2 (marksI (z + 8 + y.sk.hist.length) y.sk.regs.length) G2
      rw [h1, h2]; exact r2
    · show RdII w11 a3 n3 (marksII (z + 8 + y.sk.hist.length + y.sk.regs.length) y.sk.rows) G3
      rw [h1, h2]; exact m3.rd
  have hin : ∀ x ∈ F1 ++ F2, x ∈ F' ∧ x ∉ G1 ∧ x ∉ G2 ∧ x ∉ G3 := fun x hx => by
    rw [hF] at nd ⊢
    rw [List.nodup_append] at nd
    obtain ⟨_, nd2, dj⟩ := nd
    rw [List.nodup_append] at nd2
    obtain ⟨_, _, dj2⟩ := nd2
    rcases List.mem_append.1 hx with hx | hx
    · exact ⟨by simp [hx], fun q => dj x hx x (by simp [q]) rfl, fun q => dj x hx x (by simp [q]) rfl, fun q => dj x hx x (by simp [q]) rfl⟩
    · exact ⟨by simp [hx], fun q => dj2 x (by simp [q]) x hx rfl, fun q => dj2 x (by simp [q]) x hx rfl, fun q => dj2 x (by simp [q]) x hx rfl⟩
  have ag : Agree wr w11 (F1 ++ F2) := fun x hx => by
    obtain ⟨g0, g1, g2, g3⟩ := hin x hx
    have := lF x g0
    exact (q9 x (by omega) g1 g2 g3).trans (s.oth x (fun e => ob (e ▸ g0)))
  refine ⟨?_, ⟨o.nodup, fun x hx q => ?_, o.ge⟩, ?_⟩
  · rw [← itsMark_set hy, ← hz]
    refine hb rfl (fun j hj => ?_) rit (fun o ho => (cb o).trans (s.out o (by omega))) ag
    rw [cb]
    match j, hj with
    | 0, _ => have := s.inn 0 (by omega); simpa using this
    | 1, _ => exact s.inn 1 (by omega)
    | 2, _ => exact s.inn 2 (by omega)
    | 3, _ => exact s.inn 3 (by omega)
    | 4, _ => exact s.inn 4 (by omega)
    | 5, _ => exact s.inn 5 (by omega)
    | 6, _ => exact s.inn 6 (by omega)
    | 7, _ => exact s.inn 7 (by omega)
    | 8, _ => exact (s.out _ (by omega)).trans e8
    | 9, _ => exact (s.out _ (by omega)).trans e9
    | 10, _ => exact (s.out _ (by omega)).trans e10
  · have ow := s.own _ _ o
    rcases List.mem_cons.1 hx with rfl | hx
    · exact (World.frozen?_of_block (w := W8) (a := ⟨x, q, none⟩) qb).trans (ow.free x (by simp) q)
    · by_cases g1 : x ∈ G1
      · have a1' : w11.heap[x]? = w9.heap[x]? := (m3.only.block x (by have := m1.rd.lt x g1; omega) (d13 x g1)).trans (m2.only.block x (m1.rd.lt x g1) (d12 x g1))
        exact (World.frozen?_of_block (w := w9) (a := ⟨x, q, none⟩) a1').trans (m1.own.free x g1 q)
      · by_cases g2 : x ∈ G2
        · exact (World.frozen?_of_block (w := w10) (a := ⟨x, q, none⟩) (m3.only.block x (m2.rd.lt x g2) (d23 x g2))).trans (m2.own.free x g2 q)
        · by_cases g3 : x ∈ G3
          · exact m3.own.free x g3 q
          · exact (World.frozen?_of_block (w := W8) (a := ⟨x, q, none⟩) (q9 x (by have := lF x hx; omega) g1 g2 g3)).trans (ow.free x (by simp [hx]) q)
  · have t0 := s.only (b :: F') w (by simp) h.only
    have t1 := t0.trans (m1.only.mono (fun x hx => by rw [hF]; simp [hx]))
    have t2 := t1.trans (m2.only.mono (fun x hx => by rw [hF]; simp [hx]))
    exact t2.trans (m3.only.mono (fun x hx => by rw [hF]; simp [hx]))
end Go.Proofs.Ytjndcfamfminkaq
