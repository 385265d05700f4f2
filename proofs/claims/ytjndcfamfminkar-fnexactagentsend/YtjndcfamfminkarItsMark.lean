/- Items of a list, marked in place, and held against their marks. No statement of the seat is proved here. -/
import Derived.Test.YtjndcfamfminkarAgData
import Derived.Test.YtjndcfamfminkarSkMarks
import Derived.Test.YtjndcfamfminkarItVar
import Derived.Laws.IdiomCopy
import Derived.Test.YtjndcfamfminkarItsHelp
namespace Go.Proofs.Ytjndcfamfminkar
open Go.RowKit
section
variable {α : Type} {K : ElK α} {w w' : World}
theorem RdEls.agreeC : ∀ {xs : List α} {b off : Nat} {F : List Nat}, RdEls K w b xs off F → (∀ o, off ≤ o → w'.cell? ⟨b, o, none⟩ = w.cell? ⟨b, o, none⟩) → Agree w w' F → RdEls K w' b xs off F
  | [], b, off, F, h, _, _ => h
  | x :: xs, b, off, F, h, hc, ha => by
    obtain ⟨cs, F1, F2, h1, h2, h3, h4, rfl⟩ := h
    exact ⟨cs, F1, F2, h1, fun j hj => (hc _ (by omega)).trans (h2 j hj), K.agree h3 ha.left, RdEls.agreeC h4 (fun o ho => hc o (by omega)) ha.right, rfl⟩
/-- One element of a list, and what is left when it is turned in place. -/
theorem RdEls.part : ∀ {xs : List α} {b off : Nat} {F : List Nat}, RdEls K w b xs off F → ∀ (i : Nat) (hi : i < xs.length), ∃ (F1 : List Nat) (cs : Array Value) (Fi F2 : List Nat), F = F1 ++ (Fi ++ F2) ∧ cs.size = K.n ∧ (∀ j, j < K.n → w.cell? ⟨b, off + i * K.n + j, none⟩ = cs[j]?) ∧ K.R w (.agg cs) xs[i] Fi ∧
    ∀ {w' : World} {ds : Array Value} {y : α}, ds.size = K.n → (∀ j, j < K.n → w'.cell? ⟨b, off + i * K.n + j, none⟩ = ds[j]?) → K.R w' (.agg ds) y Fi → (∀ o, (o < off + i * K.n ∨ off + (i + 1) * K.n ≤ o) → w'.cell? ⟨b, o, none⟩ = w.cell? ⟨b, o, none⟩) → Agree w w' (F1 ++ F2) → RdEls K w' b (xs.set i y) off F
  | [], b, off, F, h, i, hi => by simp at hi
  | x :: xs, b, off, F, h, i, hi => by
    obtain ⟨cs, F1, F2, h1, h2, h3, h4, rfl⟩ := h
    cases i with
    | zero =>
      refine ⟨[], cs, F1, F2, rfl, h1, fun j hj => by rw [Nat.zero_mul, Nat.add_zero]; exact h2 j hj, h3, fun {w' ds y} k1 k2 k3 k4 k5 => ?_⟩
      refine ⟨ds, F1, F2, k1, fun j hj => ?_, k3, h4.agreeC (fun o ho => k4 o (.inr (by rw [Nat.zero_add, Nat.one_mul]; exact ho))) k5, rfl⟩
      have := k2 j hj
      rw [Nat.zero_mul, Nat.add_zero] at this
      exact this
    | succ i =>
      obtain ⟨G1, ds, Gi, G2, e, k1, k2, k3, k4⟩ := RdEls.part h4 i (by simpa using hi)
      have ea : ∀ m, off + (m + 1) * K.n = off + K.n + m * K.n := fun m => by rw [Nat.succ_mul]; omega
      refine ⟨F1 ++ G1, ds, Gi, G2, by rw [e, List.append_assoc], k1, fun j hj => ?_, k3, fun {w' es y} q1 q2 q3 q4 q5 => ?_⟩
      · rw [ea]; exact k2 j hj
      · have q5' : Agree w w' F1 := fun b hb => q5 b (by simp [hb])
        have q6' : Agree w w' (G1 ++ G2) := fun b hb => q5 b (by rcases List.mem_append.1 hb with hb | hb <;> simp [hb])
        refine ⟨cs, F1, F2, h1, fun j hj => (q4 _ (.inl ?_)).trans (h2 j hj), K.agree h3 q5', ?_, rfl⟩
        · rw [ea]; have := Nat.zero_le (i * K.n); omega
        · refine k4 q1 (fun j hj => ?_) q3 (fun o ho => q4 o ?_) q6'
          · have := q2 j hj; rw [ea] at this; exact this
          · rw [ea, ea]
            exact ho
end
/-- An item that is marked whole. -/
def It.markS (k : Int) (y : It) : It := ⟨k, k + 1, k + 2, k + 3, ⟨k + 4, k + 5, k + 6, k + 7, marksI (k + 8) y.sk.hist.length, marksI (k + 8 + y.sk.hist.length) y.sk.regs.length, marksII (k + 8 + y.sk.hist.length + y.sk.regs.length) y.sk.rows⟩⟩
def It.manyS (y : It) : Int := 8 + y.sk.many
def itsMany : List It → Int
  | [] => 0
  | y :: xs => y.manyS + itsMany xs
def itsMark (k : Int) : List It → List It
  | [] => []
  | y :: xs => y.markS k :: itsMark (k + y.manyS) xs
theorem itsMark_length : ∀ (k : Int) (xs : List It), (itsMark k xs).length = xs.length
  | k, [] => rfl
  | k, y :: xs => by simp only [itsMark, List.length_cons, itsMark_length]
theorem It.manyS_nonneg (y : It) : 0 ≤ y.manyS := by have := Sk.many_nonneg y.sk; unfold It.manyS; omega
theorem itsMany_nonneg : ∀ xs : List It, 0 ≤ itsMany xs
  | [] => by simp [itsMany]
  | y :: xs => by have := It.manyS_nonneg y; have := itsMany_nonneg xs; simp only [itsMany]; omega
theorem itsMany_append : ∀ xs ys : List It, itsMany (xs ++ ys) = itsMany xs + itsMany ys
  | [], ys => by simp [itsMany]
  | y :: xs, ys => by simp only [List.cons_append, itsMany, itsMany_append xs ys]; omega
theorem itsMark_append : ∀ (k : Int) (xs ys : List It), itsMark k (xs ++ ys) = itsMark k xs ++ itsMark (k + itsMany xs) ys
  | k, [], ys => by simp [itsMark, itsMany]
  | k, y :: xs, ys => by
    simp only [List.cons_append, itsMark, itsMany, itsMark_append (k + y.manyS) xs ys]
    rw [Int.add_assoc]
theorem itsMany_snoc {xs : List It} {i : Nat} {y : It} (h : xs[i]? = some y) : itsMany (xs.take (i + 1)) = itsMany (xs.take i) + y.manyS := by
  rw [take_snoc_at h, itsMany_append]; simp [itsMany]
theorem itsMark_set {k : Int} {xs : List It} {i : Nat} {y : It} (h : xs[i]? = some y) : (itsMark k (xs.take i) ++ xs.drop i).set i (y.markS (k + itsMany (xs.take i))) = itsMark k (xs.take (i + 1)) ++ xs.drop (i + 1) := by
  have hi : i < xs.length := (List.getElem?_eq_some_iff.1 h).1
  have hl : (itsMark k (xs.take i)).length = i := by rw [itsMark_length, List.length_take]; omega
  have hd : xs.drop i = y :: xs.drop (i + 1) := by
    rw [List.drop_eq_getElem_cons hi]
    have := (List.getElem?_eq_some_iff.1 h).2
    rw [this]
  have e : itsMark k (xs.take i ++ [y]) = itsMark k (xs.take i) ++ [y.markS (k + itsMany (xs.take i))] := by rw [itsMark_append]; simp [itsMark]
  rw [hd, take_snoc_at h, e, List.append_assoc]
  rw [List.set_append]
  simp [hl]
theorem itsMark_at {k : Int} {xs : List It} {i : Nat} {y : It} (h : xs[i]? = some y) : (itsMark k xs)[i]? = some (y.markS (k + itsMany (xs.take i))) := by
  have hi : i < xs.length := (List.getElem?_eq_some_iff.1 h).1
  have hl : (itsMark k (xs.take i)).length = i := by rw [itsMark_length, List.length_take]; omega
  have hd : xs = xs.take i ++ (y :: xs.drop (i + 1)) := by
    have e := List.take_append_drop i xs
    rw [List.drop_eq_getElem_cons hi, (List.getElem?_eq_some_iff.1 h).2] at e
    exact e.symm
  conv => lhs; rw [hd, itsMark_append, itsMark]
  rw [List.getElem?_append_right (by omega), hl]
  simp
theorem itsMany_le {xs : List It} (i : Nat) : itsMany (xs.take i) ≤ itsMany xs := by
  have := itsMany_append (xs.take i) (xs.drop i)
  rw [List.take_append_drop] at this
  have := itsMany_nonneg (xs.drop i)
  omega
structure MarkedL (B : Nat) (w : World) (a : Option Addr) (len : Nat) (k : Int) (xs : List It) (F : List Nat) (w' : World) : Prop where
  rd : RdL itK w' a len (itsMark k xs) F
  own : Own B w' F
  only : Only F w w'
structure MarkingL (B : Nat) (w : World) (b off len : Nat) (k : Int) (xs : List It) (i : Nat) (F : List Nat) (w' : World) : Prop where
  rd : RdEls itK w' b (itsMark k (xs.take i) ++ xs.drop i) off F
  own : Own B w' (b :: F)
  only : Only (b :: F) w w'
def vals8 (z : Int) : List Value := [.int .i64 z, .int .i64 (z + 1), .int .i64 (z + 1 + 1), .int .i64 (z + 1 + 1 + 1), .int .i64 (z + 1 + 1 + 1 + 1), .int .i64 (z + 1 + 1 + 1 + 1 + 1), .int .i64 (z + 1 + 1 + 1 + 1 + 1 + 1), .int .i64 (z + 1 + 1 + 1 + 1 + 1 + 1 + 1)]
theorem setCells_heap (b : Nat) : ∀ (vs : List Value) (o : Nat) (w : World) (x : Nat), x ≠ b → (w.setCells b o vs).heap[x]? = w.heap[x]?
  | [], _, _, _, _ => rfl
  | v :: r, o, w, x, h => by rw [World.setCells, setCells_heap b r (o + 1) _ x h, Below.heap_setCell w ⟨b, o, none⟩ v x h]
theorem setCells_own (b B : Nat) {F : List Nat} : ∀ (vs : List Value) (o : Nat) (w : World), Own B w F → Own B (w.setCells b o vs) F
  | [], _, _, h => h
  | v :: r, o, _, h => setCells_own b B r (o + 1) _ (h.set b o v)
theorem setCells_only (b : Nat) {F : List Nat} (hb : b ∈ F) : ∀ (vs : List Value) (o : Nat) (w w0 : World), Only F w0 w → Only F w0 (w.setCells b o vs)
  | [], _, _, _, h => h
  | v :: r, o, _, w0, h => setCells_only b hb r (o + 1) _ w0 (h.set hb o v)
/-- Eight cells of a row, numbered. -/
structure Set8 (w : World) (b A : Nat) (z : Int) (W : World) : Prop where
  inn : ∀ j, j < 8 → W.cell? ⟨b, A + j, none⟩ = some (.int .i64 (z + j))
  out : ∀ o, (o < A ∨ A + 8 ≤ o) → W.cell? ⟨b, o, none⟩ = w.cell? ⟨b, o, none⟩
  oth : ∀ x, x ≠ b → W.heap[x]? = w.heap[x]?
  own : ∀ (B : Nat) (F : List Nat), Own B w F → Own B W F
  only : ∀ (F : List Nat) (w0 : World), b ∈ F → Only F w0 w → Only F w0 W
  lt : b < W.heap.size
theorem Set8.agr {w W : World} {b A : Nat} {z : Int} (h : Set8 w b A z W) {G : List Nat} (hb : b ∉ G) : Agree w W G := fun x hx => h.oth x (fun e => hb (e ▸ hx))
theorem Set8.made (w : World) (b A : Nat) (z : Int) (hc : ∀ j, j < 8 → (w.cell? ⟨b, A + j, none⟩).isSome = true) : Set8 w b A z (w.setCells b A (vals8 z)) := by
  have i := World.cell?_setCells_in b (vals8 z) A w (fun j hj => hc j hj)
  have inn : ∀ j, j < 8 → (w.setCells b A (vals8 z)).cell? ⟨b, A + j, none⟩ = some (.int .i64 (z + j)) := fun j hj => by
    rw [i j hj]
    match j, hj with
    | 0, _ => show some (Value.int .i64 z) = _; simp
    | 1, _ => rfl
    | 2, _ => show some (Value.int .i64 (z + 1 + 1)) = _; congr 2; omega
    | 3, _ => show some (Value.int .i64 (z + 1 + 1 + 1)) = _; congr 2; omega
    | 4, _ => show some (Value.int .i64 (z + 1 + 1 + 1 + 1)) = _; congr 2; omega
    | 5, _ => show some (Value.int .i64 (z + 1 + 1 + 1 + 1 + 1)) = _; congr 2; omega
    | 6, _ => show some (Value.int .i64 (z + 1 + 1 + 1 + 1 + 1 + 1)) = _; congr 2; omega
    | 7, _ => show some (Value.int .i64 (z + 1 + 1 + 1 + 1 + 1 + 1 + 1)) = _; congr 2; omega
  exact ⟨inn, fun o ho => World.cell?_setCells_out b (vals8 z) A w _ (fun _ _ => ho), fun x hx => setCells_heap b _ _ _ x hx, fun B F h => setCells_own b B _ _ _ h, fun F w0 hb h => setCells_only b hb _ _ _ w0 h, World.block_lt_of_cell? _ _ (inn 0 (by omega))⟩
theorem MarkingL.step {B : Nat} {w wr W8 w9 w10 w11 : World} {b off len : Nat} {k z : Int} {xs : List It} {i : Nat} {F' F1 F2 G1 G2 G3 : List Nat} {y : It} {a1 a2 a3 : Option Addr} {n1 n2 n3 c1 c2 c3 : Nat} (h : MarkingL B w b off len k xs i F' wr) (hy : xs[i]? = some y)
    (hF : F' = F1 ++ ((G1 ++ (G2 ++ G3)) ++ F2))
    (hb : ∀ {w' : World} {ds : Array Value} {y : It}, ds.size = 11 → (∀ j, j < 11 → w'.cell? ⟨b, off + i * 11 + j, none⟩ = ds[j]?) → RdIt w' (.agg ds) y (G1 ++ (G2 ++ G3)) → (∀ o, (o < off + i * 11 ∨ off + (i + 1) * 11 ≤ o) → w'.cell? ⟨b, o, none⟩ = wr.cell? ⟨b, o, none⟩) → Agree wr w' (F1 ++ F2) → RdEls itK w' b ((itsMark k (xs.take i) ++ xs.drop i).set i y) off F')
    (s : Set8 wr b (off + i * 11) z W8) (e8 : wr.cell? ⟨b, off + i * 11 + 8, none⟩ = some (.slice a1 n1 c1)) (e9 : wr.cell? ⟨b, off + i * 11 + 9, none⟩ = some (.slice a2 n2 c2)) (e10 : wr.cell? ⟨b, off + i * 11 + 10, none⟩ = some (.slice a3 n3 c3))
    (p1 : b ∉ G1) (p2 : b ∉ G2) (p3 : b ∉ G3) (d12 : ∀ x ∈ G1, x ∉ G2) (d13 : ∀ x ∈ G1, x ∉ G3) (d23 : ∀ x ∈ G2, x ∉ G3) 
    (m1 : MarkedI B W8 a1 n1 (z + 8) G1 w9) (m2 : MarkedI B w9 a2 n2 (z + 8 + n1) G2 w10) (m3 : MarkedII B w10 a3 n3 (z + 8 + n1 + n2) y.sk.rows G3 w11) (h1 : y.sk.hist.length = n1) (h2 : y.sk.regs.length = n2) (hz : z = k + itsMany (xs.take i)) : MarkingL B w b off len k xs (i + 1) F' w11 := by
  have s9 := m1.only.size
  have s10 := m2.only.size
  have q9 : ∀ x, x < W8.heap.size → x ∉ G1 → x ∉ G2 → x ∉ G3 → w11.heap[x]? = W8.heap[x]? := fun x hx g1 g2 g3 => ((m3.only.block x (by omega) g3).trans (m2.only.block x (by omega) g2)).trans (m1.only.block x hx g1)
  have qb := q9 b s.lt p1 p2 p3
  have cb : ∀ o, w11.cell? ⟨b, o, none⟩ = W8.cell? ⟨b, o, none⟩ := fun o => World.cell?_of_block (w := W8) (a := ⟨b, o, none⟩) qb
  have o := h.own
  have ob : b ∉ F' := (List.nodup_cons.1 o.nodup).1
  have nd := (List.nodup_cons.1 o.nodup).2
  have lF : ∀ x ∈ F', x < wr.heap.size := h.rd.lt
  have sW : wr.heap.size ≤ W8.heap.size := (s.only [b] wr (by simp) (Only.refl _ _)).size
  have r1 : RdI w11 a1 n1 (marksI (z + 8) n1) G1 := (m1.rd.agree (m2.only.agree m1.rd.lt d12)).agree (m3.only.agree (fun x hx => by have := m1.rd.lt x hx; omega) d13)
  have r2 : RdI w11 a2 n2 (marksI (z + 8 + n1) n2) G2 := m2.rd.agree (m3.only.agree m2.rd.lt d23)
  have rit : RdIt w11 (.agg #[.int .i64 z, .int .i64 (z + 1), .int .i64 (z + 2), .int .i64 (z + 3), .int .i64 (z + 4), .int .i64 (z + 5), .int .i64 (z + 6), .int .i64 (z + 7), .slice a1 n1 c1, .slice a2 n2 c2, .slice a3 n3 c3]) (y.markS z) (G1 ++ (G2 ++ G3)) := by
    refine ⟨a1, n1, c1, a2, n2, c2, a3, n3, c3, rfl, a1, n1, c1, a2, n2, c2, a3, n3, c3, G1, G2, G3, rfl, ?_, ?_, ?_, rfl⟩
    · show RdI w11 a1 n1 (marksI (z + 8) y.sk.hist.length) G1
      rw [h1]; exact r1
    · show RdI w11 a2 n2 (marksI (z + 8 + y.sk.hist.length) y.sk.regs.length) G2
      rw [h1, h2]; exact r2
    · show RdII w11 a3 n3 (marksII (z + 8 + y.sk.hist.length + y.sk.regs.length) y.sk.rows) G3
      rw [h1, h2]; exact m3.rd
  have hin : ∀ x ∈ F1 ++ F2, x ∈ F' ∧ x ∉ G1 ∧ x ∉ G2 ∧ x ∉ G3 := fun x hx => by
    rw [hF] at nd ⊢
    rw [List.nodup_append] at nd
    obtain ⟨_, nd2, dj⟩ := nd
    rw [List.nodup_append] at nd2
    obtain ⟨_, _, dj2⟩ := nd2
    rcases List.mem_append.1 hx with hx | hx
    · exact ⟨by simp [hx], fun q => dj x hx x (by simp [q]) rfl, fun q => dj x hx x (by simp [q]) rfl, fun q => dj x hx x (by simp [q]) rfl⟩
    · exact ⟨by simp [hx], fun q => dj2 x (by simp [q]) x hx rfl, fun q => dj2 x (by simp [q]) x hx rfl, fun q => dj2 x (by simp [q]) x hx rfl⟩
  have ag : Agree wr w11 (F1 ++ F2) := fun x hx => by
    obtain ⟨g0, g1, g2, g3⟩ := hin x hx
    have := lF x g0
    exact (q9 x (by omega) g1 g2 g3).trans (s.oth x (fun e => ob (e ▸ g0)))
  refine ⟨?_, ⟨o.nodup, fun x hx q => ?_, o.ge⟩, ?_⟩
  · rw [← itsMark_set hy, ← hz]
    refine hb rfl (fun j hj => ?_) rit (fun o ho => (cb o).trans (s.out o (by omega))) ag
    rw [cb]
    match j, hj with
    | 0, _ => have := s.inn 0 (by omega); simpa using this
    | 1, _ => exact s.inn 1 (by omega)
    | 2, _ => exact s.inn 2 (by omega)
    | 3, _ => exact s.inn 3 (by omega)
    | 4, _ => exact s.inn 4 (by omega)
    | 5, _ => exact s.inn 5 (by omega)
    | 6, _ => exact s.inn 6 (by omega)
    | 7, _ => exact s.inn 7 (by omega)
    | 8, _ => exact (s.out _ (by omega)).trans e8
    | 9, _ => exact (s.out _ (by omega)).trans e9
    | 10, _ => exact (s.out _ (by omega)).trans e10
  · have ow := s.own _ _ o
    rcases List.mem_cons.1 hx with rfl | hx
    · exact (World.frozen?_of_block (w := W8) (a := ⟨x, q, none⟩) qb).trans (ow.free x (by simp) q)
    · by_cases g1 : x ∈ G1
      · have a1' : w11.heap[x]? = w9.heap[x]? := (m3.only.block x (by have := m1.rd.lt x g1; omega) (d13 x g1)).trans (m2.only.block x (m1.rd.lt x g1) (d12 x g1))
        exact (World.frozen?_of_block (w := w9) (a := ⟨x, q, none⟩) a1').trans (m1.own.free x g1 q)
      · by_cases g2 : x ∈ G2
        · exact (World.frozen?_of_block (w := w10) (a := ⟨x, q, none⟩) (m3.only.block x (m2.rd.lt x g2) (d23 x g2))).trans (m2.own.free x g2 q)
        · by_cases g3 : x ∈ G3
          · exact m3.own.free x g3 q
          · exact (World.frozen?_of_block (w := W8) (a := ⟨x, q, none⟩) (q9 x (by have := lF x hx; omega) g1 g2 g3)).trans (ow.free x (by simp [hx]) q)
  · have t0 := s.only (b :: F') w (by simp) h.only
    have t1 := t0.trans (m1.only.mono (fun x hx => by rw [hF]; simp [hx]))
    have t2 := t1.trans (m2.only.mono (fun x hx => by rw [hF]; simp [hx]))
    exact t2.trans (m3.only.mono (fun x hx => by rw [hF]; simp [hx]))
set_option maxRecDepth 200000 in
set_option maxHeartbeats 8000000 in
theorem markItemS_any (B : Nat) (a : Option Addr) (len cap : Nat) (xs : List It) (F : List Nat) (k : Int) (w : World) (h : RdL itK w a len xs F) (ho : Own B w F) (hw : ∀ y ∈ xs, y.sk.wide) (hlen : len ≤ 1048576) (hk0 : 0 ≤ k) (hk1 : k + itsMany xs ≤ 1000000000000) :
    Calls Try.prog 39 #[.slice a len cap, .int .i64 k] w fun e w' => e = .returned (.int .i64 (k + itsMany xs)) ∧ MarkedL B w a len k xs F w' := by
  have HL : Hid (xs.length = len ∧ (∀ y ∈ xs, y.sk.wide)) := ⟨h.length, hw⟩
  have HK1 : Hid (k + itsMany xs ≤ 1000000000000 ∧ 0 ≤ k) := ⟨hk1, hk0⟩
  clear hk1 hk0 hw
  rcases h.cells with ⟨h0, hF⟩ | ⟨b, off, F', hp, rfl, hF, hc⟩
  · subst h0
    have hx : xs = [] := List.eq_nil_of_length_eq_zero HL.out.1
    subst hx
    have HH : Hid (Own B w F ∧ F = []) := ⟨ho, hF⟩
    clear h ho hF
    go_enter Try.func39, Try.ntmps39
    go_wp2
    refine wp_loop_rounds 1 ?_
    rw [rounds_succ]
    go_wp2
    go_ret
    exact ⟨ret_int (by simp [itsMany]), ⟨⟨rfl, .inl ⟨rfl, HH.out.2⟩⟩, HH.out.1, Only.refl _ _⟩⟩
  · subst hF
    have HM : Hid (MarkingL B w b off len k xs 0 F' w) := ⟨by simpa [itsMark] using hc, ho, Only.refl _ _⟩
    clear h ho hc
    go_enter Try.func39, Try.ntmps39
    go_wp2
    go_loopw [1, 5] (fun q i wr => ∃ (j : Nat) (z : Int), j ≤ len ∧ i = .int .i64 j ∧ q = .int .i64 z ∧ Hid (z = k + itsMany (xs.take j)) ∧ Hid (MarkingL B w b off len k xs j F' wr)) (fun _ i _ => len - (intOf i).toNat)
    case atStart => exact ⟨0, k, by omega, rfl, rfl, by show _ = _; simp [itsMany], HM⟩
    case round =>
      obtain ⟨i, z, hi, rfl, rfl, HZ, HMi⟩ := hrel
      clear HM
      by_cases hlt : i < len
      · have hI : (i : Int) < (len : Int) := by omega
        obtain ⟨y, hy⟩ : ∃ y, xs[i]? = some y := ⟨_, List.getElem?_eq_getElem (by rw [HL.out.1]; exact hlt)⟩
        have hil : (itsMark k (xs.take i)).length = i := by rw [itsMark_length, List.length_take]; have := HL.out.1; omega
        have hlen2 : i < (itsMark k (xs.take i) ++ xs.drop i).length := by rw [List.length_append, hil, List.length_drop]; have := HL.out.1; omega
        obtain ⟨F1, cs, Fi, F2, hFF, hcs, hcc, hR, hback⟩ := HMi.out.rd.part i hlen2
        have hyi : (itsMark k (xs.take i) ++ xs.drop i)[i] = y := by
          have e : (itsMark k (xs.take i) ++ xs.drop i)[i]? = some y := by
            rw [List.getElem?_append_right (by omega), hil, Nat.sub_self, List.getElem?_drop, Nat.add_zero]; exact hy
          exact (List.getElem?_eq_some_iff.1 e).2
        rw [hyi] at hR
        obtain ⟨a1, n1, c1, a2, n2, c2, a3, n3, c3, ecs, a1', n1', c1', a2', n2', c2', a3', n3', c3', G1, G2, G3, esk, r1, r2, r3, hG⟩ := hR
        injection ecs with ecs
        subst ecs
        injection esk with esk
        injection esk with esk
        simp at esk
        obtain ⟨⟨rfl, rfl, rfl⟩, ⟨rfl, rfl, rfl⟩, rfl, rfl, rfl⟩ := esk
        have HB : Hid (∀ {w' : World} {ds : Array Value} {y : It}, ds.size = 11 → (∀ j, j < 11 → w'.cell? ⟨b, off + i * 11 + j, none⟩ = ds[j]?) → RdIt w' (.agg ds) y Fi → (∀ o, (o < off + i * 11 ∨ off + (i + 1) * 11 ≤ o) → w'.cell? ⟨b, o, none⟩ = wr.cell? ⟨b, o, none⟩) → Agree wr w' (F1 ++ F2) → RdEls itK w' b ((itsMark k (xs.take i) ++ xs.drop i).set i y) off F') := hback
        have HR : Hid (RdI wr a1 n1 y.sk.hist G1 ∧ RdI wr a2 n2 y.sk.regs G2 ∧ RdII wr a3 n3 y.sk.rows G3 ∧ Fi = G1 ++ (G2 ++ G3) ∧ F' = F1 ++ (Fi ++ F2)) := ⟨r1, r2, r3, hG, hFF⟩
        have HY : Hid (xs[i]? = some y ∧ y.sk.wide ∧ y.sk.hist.length = n1 ∧ y.sk.regs.length = n2 ∧ y.sk.rows.length = n3) := ⟨hy, HL.out.2 y (List.mem_of_getElem? hy), r1.length, r2.length, r3.length⟩
        have HZ2 : Hid (z + y.manyS ≤ 1000000000000 ∧ 0 ≤ y.sk.many) := by
          have h1 := itsMany_snoc hy
          have h2 := itsMany_le (xs := xs) (i + 1)
          have h3 := HK1.out
          have h4 := HZ.out
          have h5 := Sk.many_nonneg y.sk
          exact ⟨by omega, h5⟩
        have z0 : 0 ≤ z := by have := HZ.out; have := HK1.out; have := itsMany_nonneg (xs.take i); omega
        have z1 : z ≤ 1000000000000 := by have := HZ2.out; have := It.manyS_nonneg y; omega
        have e0 : wr.cell? ⟨b, off + i * 11, none⟩ = some (.int .i64 y.seq) := hcc 0 (by decide)
        have e1 : wr.cell? ⟨b, off + i * 11 + 1, none⟩ = some (.int .i64 y.cls) := hcc 1 (by decide)
        have e2 : wr.cell? ⟨b, off + i * 11 + 2, none⟩ = some (.int .i64 y.key) := hcc 2 (by decide)
        have e3 : wr.cell? ⟨b, off + i * 11 + 3, none⟩ = some (.int .i64 y.window) := hcc 3 (by decide)
        have e4 : wr.cell? ⟨b, off + i * 11 + 4, none⟩ = some (.int .i64 y.sk.count) := hcc 4 (by decide)
        have e5 : wr.cell? ⟨b, off + i * 11 + 5, none⟩ = some (.int .i64 y.sk.sum) := hcc 5 (by decide)
        have e6 : wr.cell? ⟨b, off + i * 11 + 6, none⟩ = some (.int .i64 y.sk.min) := hcc 6 (by decide)
        have e7 : wr.cell? ⟨b, off + i * 11 + 7, none⟩ = some (.int .i64 y.sk.max) := hcc 7 (by decide)
        have e8 : wr.cell? ⟨b, off + i * 11 + 8, none⟩ = some (.slice a1 n1 c1) := hcc 8 (by decide)
        have e9 : wr.cell? ⟨b, off + i * 11 + 9, none⟩ = some (.slice a2 n2 c2) := hcc 9 (by decide)
        have e10 : wr.cell? ⟨b, off + i * 11 + 10, none⟩ = some (.slice a3 n3 c3) := hcc 10 (by decide)
        have fr : ∀ o, wr.frozen? ⟨b, o, none⟩ = false := fun o => HMi.out.own.free b (by simp) o
        have f0 := fr (off + i * 11)
        have f1 := fr (off + i * 11 + 1)
        have f2 := fr (off + i * 11 + 2)
        have f3 := fr (off + i * 11 + 3)
        have f4 := fr (off + i * 11 + 4)
        have f5 := fr (off + i * 11 + 5)
        have f6 := fr (off + i * 11 + 6)
        have f7 := fr (off + i * 11 + 7)
        clear hcs hcc hback r1 r2 r3 hG hFF hy hil hlen2 hyi fr
        go_wp2_with fail
        have S8 := Set8.made wr b (off + i * 11) z (by intro j hj; match j, hj with
          | 0, _ => rw [Nat.add_zero, e0]; rfl
          | 1, _ => rw [e1]; rfl
          | 2, _ => rw [e2]; rfl
          | 3, _ => rw [e3]; rfl
          | 4, _ => rw [e4]; rfl
          | 5, _ => rw [e5]; rfl
          | 6, _ => rw [e6]; rfl
          | 7, _ => rw [e7]; rfl)
        change Calls _ _ _ (World.setCells wr b (off + i * 11) (vals8 z)) _
        have HC : Hid (wr.cell? ⟨b, off + i * 11 + 8, none⟩ = some (.slice a1 n1 c1) ∧ wr.cell? ⟨b, off + i * 11 + 9, none⟩ = some (.slice a2 n2 c2) ∧ wr.cell? ⟨b, off + i * 11 + 10, none⟩ = some (.slice a3 n3 c3)) := ⟨e8, e9, e10⟩
        obtain ⟨W8, hW8⟩ : ∃ W, W = World.setCells wr b (off + i * 11) (vals8 z) := ⟨_, rfl⟩
        rw [← hW8] at S8 ⊢
        have HS : Hid (Set8 wr b (off + i * 11) z W8) := S8
        clear hW8 S8 e0 e1 e2 e3 e4 e5 e6 e7 e8 e9 e10 f0 f1 f2 f3 f4 f5 f6 f7
        have HO : Hid (Own B W8 G1 ∧ Own B W8 G2 ∧ Own B W8 G3 ∧ b ∉ G1 ∧ b ∉ G2 ∧ b ∉ G3 ∧ (∀ x ∈ G1, x ∉ G2) ∧ (∀ x ∈ G1, x ∉ G3) ∧ (∀ x ∈ G2, x ∉ G3)) := by
          have o := HMi.out.own
          have ob : b ∉ F' := (List.nodup_cons.1 o.nodup).1
          have oF : Own B wr F' := ⟨(List.nodup_cons.1 o.nodup).2, fun x hx q => o.free x (List.mem_cons_of_mem _ hx) q, fun x hx => o.ge x (List.mem_cons_of_mem _ hx)⟩
          rw [HR.out.2.2.2.2, HR.out.2.2.2.1] at oF ob
          have o2 := oF.right.left
          have p1 : b ∉ G1 := fun hx => ob (by simp [hx])
          have p2 : b ∉ G2 := fun hx => ob (by simp [hx])
          have p3 : b ∉ G3 := fun hx => ob (by simp [hx])
          have a1 := o2.apart
          exact ⟨HS.out.own _ _ o2.left, HS.out.own _ _ o2.right.left, HS.out.own _ _ o2.right.right, p1, p2, p3, fun x hx q => a1 x hx (by simp [q]), fun x hx q => a1 x hx (by simp [q]), o2.right.apart⟩
        have HR8 : Hid (RdI W8 a1 n1 y.sk.hist G1 ∧ RdI W8 a2 n2 y.sk.regs G2 ∧ RdII W8 a3 n3 y.sk.rows G3) := ⟨HR.out.1.agree (HS.out.agr HO.out.2.2.2.1), HR.out.2.1.agree (HS.out.agr HO.out.2.2.2.2.1), HR.out.2.2.1.agree (HS.out.agr HO.out.2.2.2.2.2.1)⟩
        obtain ⟨y8, hy8⟩ : ∃ t, t = z + 1 + 1 + 1 + 1 + 1 + 1 + 1 + 1 := ⟨_, rfl⟩
        rw [← hy8]
        have HY8 : Hid (y8 = z + 8) := by show _ = _; omega
        have y80 : 0 ≤ y8 := by omega
        have HM8 : Hid (y8 + n1 + n2 + sumLen y.sk.rows ≤ 1000000000000 ∧ 0 ≤ sumLen y.sk.rows) := by
          have h1 := HZ2.out.1
          have h2 := HY8.out
          unfold It.manyS Sk.many at h1
          have h3 := HY.out.2.2.1
          have h4 := HY.out.2.2.2.1
          have h5 := sumLen_nonneg y.sk.rows
          exact ⟨by omega, h5⟩
        clear hy8 z1
        refine (markIntS_any B a1 n1 c1 y.sk.hist G1 y8 W8 HR8.out.1 HO.out.1 y80 (by have := HM8.out; omega)).mono ?_
        rintro e w9 ⟨rfl, m1⟩
        have H9 : Hid (MarkedI B W8 a1 n1 y8 G1 w9) := m1
        have c9 : w9.cell? ⟨b, off + i * 11 + 9, none⟩ = some (.slice a2 n2 c2) := (World.cell?_of_block (w := W8) (a := ⟨b, off + i * 11 + 9, none⟩) (m1.only.block b HS.out.lt HO.out.2.2.2.1)).trans ((HS.out.out _ (by omega)).trans HC.out.2.1)
        obtain ⟨y9, hy9⟩ : ∃ t, t = y8 + (n1 : Int) := ⟨_, rfl⟩
        rw [← hy9]
        have HY9 : Hid (y9 = y8 + (n1 : Int)) := hy9
        have y90 : 0 ≤ y9 := by omega
        clear hy9 m1
        go_wp2_with fail
        refine (markIntS_any B a2 n2 c2 y.sk.regs G2 y9 w9 (HR8.out.2.1.agree (H9.out.only.agree HR8.out.2.1.lt (fun x hx q => HO.out.2.2.2.2.2.2.1 x q hx))) (HO.out.2.1.agree (H9.out.only.agree HR8.out.2.1.lt (fun x hx q => HO.out.2.2.2.2.2.2.1 x q hx))) y90 (by have := HM8.out; have := HY9.out; omega)).mono ?_
        rintro e w10 ⟨rfl, m2⟩
        have H10 : Hid (MarkedI B w9 a2 n2 y9 G2 w10) := m2
        have c10 : w10.cell? ⟨b, off + i * 11 + 10, none⟩ = some (.slice a3 n3 c3) := by
          have q1 := m2.only.block b (Nat.lt_of_lt_of_le HS.out.lt H9.out.only.size) HO.out.2.2.2.2.1
          have q2 := H9.out.only.block b HS.out.lt HO.out.2.2.2.1
          exact (World.cell?_of_block (w := W8) (a := ⟨b, off + i * 11 + 10, none⟩) (q1.trans q2)).trans ((HS.out.out _ (by omega)).trans HC.out.2.2)
        obtain ⟨y10, hy10⟩ : ∃ t, t = y9 + (n2 : Int) := ⟨_, rfl⟩
        rw [← hy10]
        have HY10 : Hid (y10 = y9 + (n2 : Int)) := hy10
        have y100 : 0 ≤ y10 := by omega
        clear hy10 m2 c9
        go_wp2_with fail
        have R3 : RdII w10 a3 n3 y.sk.rows G3 := (HR8.out.2.2.agree (H9.out.only.agree HR8.out.2.2.lt (fun x hx q => HO.out.2.2.2.2.2.2.2.1 x q hx))).agree (H10.out.only.agree (fun x hx => Nat.lt_of_lt_of_le (HR8.out.2.2.lt x hx) H9.out.only.size) (fun x hx q => HO.out.2.2.2.2.2.2.2.2 x q hx))
        have O3 : Own B w10 G3 := (HO.out.2.2.1.agree (H9.out.only.agree HR8.out.2.2.lt (fun x hx q => HO.out.2.2.2.2.2.2.2.1 x q hx))).agree (H10.out.only.agree (fun x hx => Nat.lt_of_lt_of_le (HR8.out.2.2.lt x hx) H9.out.only.size) (fun x hx q => HO.out.2.2.2.2.2.2.2.2 x q hx))
        refine (markIntSS_any B a3 n3 c3 y.sk.rows G3 y10 w10 R3 O3 y100 (by have := HM8.out; have := HY9.out; have := HY10.out; omega) (by have := HY.out.2.1.rows; have := HY.out.2.2.2.2; omega)).mono ?_
        rintro e w11 ⟨rfl, m3⟩
        have H11 : Hid (MarkedII B w10 a3 n3 y10 y.sk.rows G3 w11) := m3
        obtain ⟨y11, hy11⟩ : ∃ t, t = y10 + sumLen y.sk.rows := ⟨_, rfl⟩
        rw [← hy11]
        have HY11 : Hid (y11 = k + itsMany (xs.take (i + 1))) := by
          show _ = _
          rw [itsMany_snoc HY.out.1]
          have h1 := HY8.out; have h2 := HY9.out; have h3 := HY10.out; have h4 := HZ.out
          have h5 := HY.out.2.2.1; have h6 := HY.out.2.2.2.1
          unfold It.manyS Sk.many
          omega
        have HN : Hid (MarkingL B w b off len k xs (i + 1) F' w11) := HMi.out.step HY.out.1 (HR.out.2.2.2.2.trans (by rw [HR.out.2.2.2.1])) (fun {w' ds y'} q1 q2 q3 q4 q5 => HB.out (w' := w') (ds := ds) (y := y') q1 q2 (by rw [HR.out.2.2.2.1]; exact q3) q4 q5) HS.out HC.out.1 HC.out.2.1 HC.out.2.2 HO.out.2.2.2.1 HO.out.2.2.2.2.1 HO.out.2.2.2.2.2.1 HO.out.2.2.2.2.2.2.1 HO.out.2.2.2.2.2.2.2.1 HO.out.2.2.2.2.2.2.2.2 (by rw [← HY8.out]; exact H9.out) (by rw [← HY8.out, ← HY9.out]; exact H10.out) (by rw [← HY8.out, ← HY9.out, ← HY10.out]; exact H11.out) HY.out.2.2.1 HY.out.2.2.2.1 HZ.out
        clear hy11 m3 c10 R3 O3 H9 H10 H11 HR8 HO HS HC HR HMi
        go_wp2
        go_roundw
        case rel => exact ⟨i + 1, y11, by omega, by go_num, rfl, HY11, HN⟩
        case measure => simp [intOf]; omega
      · obtain rfl : i = len := by omega
        have HE : Hid (MarkedL B w (some ⟨b, off, none⟩) i k xs (b :: F') wr ∧ z = k + itsMany xs) := by
          have h1 := HMi.out.rd
          have hx : xs.take i = xs := List.take_of_length_le (by have := HL.out.1; omega)
          have hd : xs.drop i = [] := List.drop_of_length_le (by have := HL.out.1; omega)
          rw [hx, hd, List.append_nil] at h1
          refine ⟨⟨⟨by rw [itsMark_length]; exact HL.out.1, .inr ⟨b, off, F', hp, rfl, rfl, h1⟩⟩, HMi.out.own, HMi.out.only⟩, ?_⟩
          rw [HZ.out, hx]
        have hI : ¬ (i : Int) < (i : Int) := by omega
        go_wp2
        go_ret
        exact ⟨ret_int HE.out.2, HE.out.1⟩
set_option maxRecDepth 200000 in
set_option maxHeartbeats 8000000 in
theorem heldItemS_any (a : Option Addr) (len cap : Nat) (xs : List It) (F : List Nat) (k : Int) (w : World) (h : RdL itK w a len (itsMark k xs) F) (hw : ∀ y ∈ xs, y.sk.wide) (hlen : len ≤ 1048576) (hk0 : 0 ≤ k) (hk1 : k + itsMany xs ≤ 1000000000000) :
    Calls Try.prog 41 #[.slice a len cap, .int .i64 k] w fun e w' => e = .returned (.int .i64 (k + itsMany xs)) ∧ Below w.heap.size w w' := by
  have hxl : xs.length = len := by rw [← itsMark_length k xs]; exact h.length
  have HL : Hid (xs.length = len ∧ (∀ y ∈ xs, y.sk.wide) ∧ RdL itK w a len (itsMark k xs) F) := ⟨hxl, hw, h⟩
  have HK1 : Hid (k + itsMany xs ≤ 1000000000000 ∧ 0 ≤ k) := ⟨hk1, hk0⟩
  clear hk1 hk0 hw h hxl
  go_enter Try.func41, Try.ntmps41
  go_wp2
  go_loopw [1, 5] (fun q i wr => ∃ (j : Nat) (z : Int), j ≤ len ∧ i = .int .i64 j ∧ q = .int .i64 z ∧ Hid (z = k + itsMany (xs.take j)) ∧ Hid (Below w.heap.size w wr)) (fun _ i _ => len - (intOf i).toNat)
  case atStart => exact ⟨0, k, by omega, rfl, rfl, by show _ = _; simp [itsMany], Below.refl _ _⟩
  case round =>
    obtain ⟨i, z, hi, rfl, rfl, HZ, HB⟩ := hrel
    by_cases hlt : i < len
    · have hI : (i : Int) < (len : Int) := by omega
      obtain ⟨y, hy⟩ : ∃ y, xs[i]? = some y := ⟨_, List.getElem?_eq_getElem (by rw [HL.out.1]; exact hlt)⟩
      obtain ⟨b, off, ha, hbF, cs, Fi, hcs, hcc, hR, _⟩ := HL.out.2.2.get i hlt
      have ha' := ha.symm
      subst ha'
      have hbw : b < w.heap.size := HL.out.2.2.lt b hbF
      have hR' := hR _ (itsMark_at hy)
      rw [← HZ.out] at hR'
      obtain ⟨a1, n1, c1, a2, n2, c2, a3, n3, c3, ecs, a1', n1', c1', a2', n2', c2', a3', n3', c3', G1, G2, G3, esk, r1, r2, r3, hG⟩ := hR'
      injection ecs with ecs
      subst ecs
      injection esk with esk
      injection esk with esk
      simp at esk
      obtain ⟨⟨rfl, rfl, rfl⟩, ⟨rfl, rfl, rfl⟩, rfl, rfl, rfl⟩ := esk
      have e1 : n1 = y.sk.hist.length := by rw [← r1.length]; show (marksI (z + 8) y.sk.hist.length).length = _; rw [marksI_length]
      have e2 : n2 = y.sk.regs.length := by rw [← r2.length]; show (marksI (z + 8 + y.sk.hist.length) y.sk.regs.length).length = _; rw [marksI_length]
      have e3 : n3 = y.sk.rows.length := by rw [← r3.length]; show (marksII (z + 8 + y.sk.hist.length + y.sk.regs.length) y.sk.rows).length = _; rw [marksII_length]
      have r1' : RdI w a1 n1 (marksI (z + 8) n1) G1 := by rw [e1]; rw [e1] at r1; exact r1
      have r2' : RdI w a2 n2 (marksI (z + 8 + n1) n2) G2 := by rw [e1, e2]; rw [e2] at r2; exact r2
      have r3' : RdII w a3 n3 (marksII (z + 8 + n1 + n2) y.sk.rows) G3 := by rw [e1, e2]; exact r3
      have HR : Hid (RdI w a1 n1 (marksI (z + 8) n1) G1 ∧ RdI w a2 n2 (marksI (z + 8 + n1) n2) G2 ∧ RdII w a3 n3 (marksII (z + 8 + n1 + n2) y.sk.rows) G3) := ⟨r1', r2', r3'⟩
      have HY : Hid (xs[i]? = some y ∧ y.sk.wide ∧ n1 = y.sk.hist.length ∧ n2 = y.sk.regs.length ∧ n3 = y.sk.rows.length) := ⟨hy, HL.out.2.1 y (List.mem_of_getElem? hy), e1, e2, e3⟩
      have HCC : Hid (∀ W, Below w.heap.size w W → ∀ j v, (#[.int .i64 z, .int .i64 (z + 1), .int .i64 (z + 2), .int .i64 (z + 3), .int .i64 (z + 4), .int .i64 (z + 5), .int .i64 (z + 6), .int .i64 (z + 7), .slice a1 n1 c1, .slice a2 n2 c2, .slice a3 n3 c3] : Array Value)[j]? = some v → j < 11 → W.cell? ⟨b, off + i * 11 + j, none⟩ = some v) := fun W hB j v hv hj => by
        have q : W.cell? ⟨b, off + i * 11 + j, none⟩ = w.cell? ⟨b, off + i * 11 + j, none⟩ := hB.cell (p := ⟨b, off + i * 11 + j, none⟩) hbw
        rw [q, ← hv]
        exact hcc j hj
      have HZ2 : Hid (z + y.manyS ≤ 1000000000000 ∧ 0 ≤ y.sk.many) := by
        have h1 := itsMany_snoc hy
        have h2 := itsMany_le (xs := xs) (i + 1)
        have h3 := HK1.out
        have h4 := HZ.out
        have h5 := Sk.many_nonneg y.sk
        exact ⟨by omega, h5⟩
      have z0 : 0 ≤ z := by have := HZ.out; have := HK1.out; have := itsMany_nonneg (xs.take i); omega
      have z1 : z ≤ 1000000000000 := by have := HZ2.out; have := It.manyS_nonneg y; omega
      have h0 : wr.cell? ⟨b, off + i * 11, none⟩ = some (.int .i64 z) := HCC.out wr HB.out 0 _ rfl (by decide)
      have h1 : wr.cell? ⟨b, off + i * 11 + 1, none⟩ = some (.int .i64 (z + 1)) := HCC.out wr HB.out 1 _ rfl (by decide)
      have h2 : wr.cell? ⟨b, off + i * 11 + 2, none⟩ = some (.int .i64 (z + 1 + 1)) := (HCC.out wr HB.out 2 _ rfl (by decide)).trans (by show some (Value.int .i64 (z + 2)) = _; rw [show (z + 1 + 1 : Int) = z + 2 from by omega])
      have h3 : wr.cell? ⟨b, off + i * 11 + 3, none⟩ = some (.int .i64 (z + 1 + 1 + 1)) := (HCC.out wr HB.out 3 _ rfl (by decide)).trans (by show some (Value.int .i64 (z + 3)) = _; rw [show (z + 1 + 1 + 1 : Int) = z + 3 from by omega])
      have h4 : wr.cell? ⟨b, off + i * 11 + 4, none⟩ = some (.int .i64 (z + 1 + 1 + 1 + 1)) := (HCC.out wr HB.out 4 _ rfl (by decide)).trans (by show some (Value.int .i64 (z + 4)) = _; rw [show (z + 1 + 1 + 1 + 1 : Int) = z + 4 from by omega])
      have h5 : wr.cell? ⟨b, off + i * 11 + 5, none⟩ = some (.int .i64 (z + 1 + 1 + 1 + 1 + 1)) := (HCC.out wr HB.out 5 _ rfl (by decide)).trans (by show some (Value.int .i64 (z + 5)) = _; rw [show (z + 1 + 1 + 1 + 1 + 1 : Int) = z + 5 from by omega])
      have h6 : wr.cell? ⟨b, off + i * 11 + 6, none⟩ = some (.int .i64 (z + 1 + 1 + 1 + 1 + 1 + 1)) := (HCC.out wr HB.out 6 _ rfl (by decide)).trans (by show some (Value.int .i64 (z + 6)) = _; rw [show (z + 1 + 1 + 1 + 1 + 1 + 1 : Int) = z + 6 from by omega])
      have h7 : wr.cell? ⟨b, off + i * 11 + 7, none⟩ = some (.int .i64 (z + 1 + 1 + 1 + 1 + 1 + 1 + 1)) := (HCC.out wr HB.out 7 _ rfl (by decide)).trans (by show some (Value.int .i64 (z + 7)) = _; rw [show (z + 1 + 1 + 1 + 1 + 1 + 1 + 1 : Int) = z + 7 from by omega])
      have h8 : wr.cell? ⟨b, off + i * 11 + 8, none⟩ = some (.slice a1 n1 c1) := HCC.out wr HB.out 8 _ rfl (by decide)
      have h9 : wr.cell? ⟨b, off + i * 11 + 9, none⟩ = some (.slice a2 n2 c2) := HCC.out wr HB.out 9 _ rfl (by decide)
      have h10 : wr.cell? ⟨b, off + i * 11 + 10, none⟩ = some (.slice a3 n3 c3) := HCC.out wr HB.out 10 _ rfl (by decide)
      clear r1 r2 r3 r1' r2' r3' e1 e2 e3 hG hR hcc hcs hy ha hbF hbw
      go_wp2_with fail
      obtain ⟨y8, hy8⟩ : ∃ t, t = z + 1 + 1 + 1 + 1 + 1 + 1 + 1 + 1 := ⟨_, rfl⟩
      rw [← hy8]
      have HY8 : Hid (y8 = z + 8) := by show _ = _; omega
      have y80 : 0 ≤ y8 := by omega
      have HM8 : Hid (y8 + n1 + n2 + sumLen y.sk.rows ≤ 1000000000000 ∧ 0 ≤ sumLen y.sk.rows) := by
        have h1 := HZ2.out.1
        have h2 := HY8.out
        unfold It.manyS Sk.many at h1
        have h3 := HY.out.2.2.1
        have h4 := HY.out.2.2.2.1
        have h5 := sumLen_nonneg y.sk.rows
        exact ⟨by omega, h5⟩
      clear hy8 z1 h0 h1 h2 h3 h4 h5 h6 h7 h8 h9 h10
      refine (heldIntS_any a1 n1 c1 G1 y8 wr (by rw [HY8.out]; exact HR.out.1.below HB.out) y80 (by have := HM8.out; omega)).mono ?_
      rintro e w9 ⟨rfl, hb9⟩
      have HB9 : Hid (Below w.heap.size w w9) := Below.next HB.out hb9
      have c9 := HCC.out w9 HB9.out 9 _ rfl (by decide)
      obtain ⟨y9, hy9⟩ : ∃ t, t = y8 + (n1 : Int) := ⟨_, rfl⟩
      rw [← hy9]
      have HY9 : Hid (y9 = y8 + (n1 : Int)) := hy9
      have y90 : 0 ≤ y9 := by omega
      have y9n : decide (y9 < 0) = false := dec_false (by omega)
      clear hy9 hb9
      go_wp2_with fail
      refine (heldIntS_any a2 n2 c2 G2 y9 w9 (by rw [HY9.out, HY8.out]; exact HR.out.2.1.below HB9.out) y90 (by have := HM8.out; have := HY9.out; omega)).mono ?_
      rintro e w10 ⟨rfl, hb10⟩
      have HB10 : Hid (Below w.heap.size w w10) := Below.next HB9.out hb10
      have c10 := HCC.out w10 HB10.out 10 _ rfl (by decide)
      obtain ⟨y10, hy10⟩ : ∃ t, t = y9 + (n2 : Int) := ⟨_, rfl⟩
      rw [← hy10]
      have HY10 : Hid (y10 = y9 + (n2 : Int)) := hy10
      have y100 : 0 ≤ y10 := by omega
      have y10n : decide (y10 < 0) = false := dec_false (by omega)
      clear hy10 hb10 c9
      go_wp2_with fail
      refine (heldIntSS_any a3 n3 c3 y.sk.rows G3 y10 w10 (by rw [HY10.out, HY9.out, HY8.out]; exact HR.out.2.2.below HB10.out) y100 (by have := HM8.out; have := HY9.out; have := HY10.out; omega) (by have := HY.out.2.1.rows; have := HY.out.2.2.2.2; omega)).mono ?_
      rintro e w11 ⟨rfl, hb11⟩
      have HB11 : Hid (Below w.heap.size w w11) := Below.next HB10.out hb11
      obtain ⟨y11, hy11⟩ : ∃ t, t = y10 + sumLen y.sk.rows := ⟨_, rfl⟩
      rw [← hy11]
      have HY11 : Hid (y11 = k + itsMany (xs.take (i + 1))) := by
        show _ = _
        rw [itsMany_snoc HY.out.1]
        have h1 := HY8.out; have h2 := HY9.out; have h3 := HY10.out; have h4 := HZ.out
        have h5 := HY.out.2.2.1; have h6 := HY.out.2.2.2.1
        unfold It.manyS Sk.many
        omega
      have y110 : 0 ≤ y11 := by have := HM8.out; omega
      have y11n : decide (y11 < 0) = false := dec_false (by omega)
      clear hy11 hb11 c10
      go_wp2
      go_roundw
      case rel => exact ⟨i + 1, y11, by omega, by go_num, rfl, HY11, HB11⟩
      case measure => simp [intOf]; omega
    · obtain rfl : i = len := by omega
      have HV : Hid (z = k + itsMany xs) := by show _ = _; rw [HZ.out, List.take_of_length_le (by have := HL.out.1; omega)]
      have hI : ¬ (i : Int) < (i : Int) := by omega
      go_wp2
      go_ret
      exact ⟨ret_int HV.out, HB.out⟩
end Go.Proofs.Ytjndcfamfminkar
