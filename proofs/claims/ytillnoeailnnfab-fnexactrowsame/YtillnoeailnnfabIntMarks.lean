/- The walks through the helpers of the laws that mark slices of numbers (and slices of such) and look whether the marks still stand. No statement of the seat is proved here. -/
import Derived.Test.YtillnoeailnnfabIntRows
import Derived.Test.YtillnoeailnnfabMarkMath
import Derived.Test.YtillnoeailnnfabBlocks
namespace Go.Proofs.Ytillnoeailnnfab
open Go.RowKit

/-! ### rows of rows -/
theorem rdM_append {w : World} : ∀ {cs ds : List Cl} {b off : Nat} {F : List Nat}, RdM w (cs ++ ds) b off F ↔ ∃ F1 F2, RdM w cs b off F1 ∧ RdM w ds b (off + cs.length) F2 ∧ F = F1 ++ F2
  | [], ds, b, off, F => by
    constructor
    · intro h; exact ⟨[], F, by simp [RdM], by simpa using h, rfl⟩
    · rintro ⟨F1, F2, h1, h2, rfl⟩; rw [RdM] at h1; subst h1; simpa using h2
  | c :: cs, ds, b, off, F => by
    rw [List.cons_append, RdM]
    constructor
    · rintro ⟨v, F1, F2, hc, h1, h2, rfl⟩
      obtain ⟨G1, G2, k1, k2, rfl⟩ := rdM_append.1 h2
      refine ⟨F1 ++ G1, G2, ?_, ?_, by simp⟩
      · rw [RdM]; exact ⟨v, F1, G1, hc, h1, k1, rfl⟩
      · rw [List.length_cons, show off + (cs.length + 1) = off + 1 + cs.length by omega]; exact k2
    · rintro ⟨F1, F2, h1, h2, rfl⟩
      rw [RdM] at h1
      obtain ⟨v, G1, G2, hc, k1, k2, rfl⟩ := h1
      refine ⟨v, G1, G2 ++ F2, hc, k1, rdM_append.2 ⟨G2, F2, k2, ?_, rfl⟩, by simp⟩
      rw [List.length_cons, show off + (cs.length + 1) = off + 1 + cs.length by omega] at h2; exact h2
def marksII : Int → List (List Int) → List (List Int)
  | _, [] => []
  | k, z :: zs => marksI k z.length :: marksII (k + z.length) zs
theorem marksII_length (k : Int) (zs : List (List Int)) : (marksII k zs).length = zs.length := by
  induction zs generalizing k with
  | nil => rfl
  | cons z zs ih => simp [marksII, ih]
theorem marksII_append (k : Int) (xs ys : List (List Int)) : marksII k (xs ++ ys) = marksII k xs ++ marksII (k + sumLen xs) ys := by
  induction xs generalizing k with
  | nil => simp [marksII, sumLen]
  | cons x xs ih =>
    rw [List.cons_append, marksII, marksII, ih]
    simp [sumLen, Int.add_assoc]
theorem marksII_snoc (k : Int) (zs : List (List Int)) (j : Nat) (h : j < zs.length) : marksII k (zs.take (j + 1)) = marksII k (zs.take j) ++ [marksI (k + sumLen (zs.take j)) (zs.getD j []).length] := by
  rw [take_snoc zs [] j h, marksII_append]; rfl
theorem marksII_getD (k : Int) (zs : List (List Int)) (j : Nat) (h : j < zs.length) : (marksII k zs).getD j [] = marksI (k + sumLen (zs.take j)) (zs.getD j []).length := by
  have e : zs = zs.take j ++ (zs.getD j [] :: zs.drop (j + 1)) := by
    rw [List.getD_eq_getElem?_getD, List.getElem?_eq_getElem h]; simp
  conv => lhs; rw [e, marksII_append]
  rw [List.getD_eq_getElem?_getD, List.getElem?_append_right (by rw [marksII_length]; simp; omega), marksII_length, marksII]
  have : j - (zs.take j).length = 0 := by simp; omega
  rw [this]; simp
structure MarkedII (B : Nat) (w : World) (a : Option Addr) (len : Nat) (k : Int) (zss : List (List Int)) (F : List Nat) (w' : World) : Prop where
  rd : RdII w' a len (marksII k zss) F
  own : Own B w' F
  only : Only F w w'
structure MarkingII (B : Nat) (w : World) (b off : Nat) (k : Int) (zss : List (List Int)) (j : Nat) (F : List Nat) (w' : World) : Prop where
  rd : RdM w' ((marksII k (zss.take j) ++ zss.drop j).map ints) b off F
  own : Own B w' (b :: F)
  only : Only (b :: F) w w'
  lt : b < w'.heap.size
theorem MarkingII.row {B : Nat} {w wr : World} {b off : Nat} {k : Int} {zss : List (List Int)} {j : Nat} {F : List Nat} (h : MarkingII B w b off k zss j F wr) (hj : j < zss.length) :
    ∃ a n cap G, wr.cell? ⟨b, off + j, none⟩ = some (.slice a n cap) ∧ n = (zss.getD j []).length ∧ RdI wr a n (zss.getD j []) G ∧ Own B wr G ∧
      ∀ w2, MarkedI B wr a n (k + sumLen (zss.take j)) G w2 → MarkingII B w b off k zss (j + 1) F w2 := by
  have hd : zss.drop j = zss.getD j [] :: zss.drop (j + 1) := by
    rw [List.getD_eq_getElem?_getD, List.getElem?_eq_getElem hj]; simp
  have rd := h.rd
  rw [hd, List.map_append, List.map_cons] at rd
  obtain ⟨F1, F2, m1, m2, rfl⟩ := rdM_append.1 rd
  rw [RdM] at m2
  obtain ⟨v, G, F3, hc, hv, m3, rfl⟩ := m2
  obtain ⟨a, n, cap, rfl, hr⟩ := rd_ints.1 hv
  have hlen : (List.map ints (marksII k (zss.take j))).length = j := by simp [marksII_length]; omega
  rw [hlen] at hc m3
  have hb : b ∉ F1 ++ (G ++ F3) := (List.nodup_cons.1 h.own.nodup).1
  have nd := (List.nodup_cons.1 h.own.nodup).2
  have nd1 := List.nodup_append.1 nd
  have nd2 := List.nodup_append.1 nd1.2.1
  have hoG : Own B wr G := ⟨nd2.1, fun x hx => h.own.free x (by simp [hx]), fun x hx => h.own.ge x (by simp [hx])⟩
  refine ⟨a, n, cap, G, hc, hr.length.symm, hr, hoG, fun w2 hm => ?_⟩
  have lt1 := m1.lt
  have lt3 := m3.lt
  have ag1 : Agree wr w2 F1 := hm.only.agree lt1 (fun x hx hg => nd1.2.2 x hx x (by simp [hg]) rfl)
  have ag3 : Agree wr w2 F3 := hm.only.agree lt3 (fun x hx hg => nd2.2.2 x hg x hx rfl)
  have agb : w2.heap[b]? = wr.heap[b]? := hm.only.block b h.lt (fun hx => hb (by simp [hx]))
  refine ⟨?_, ⟨h.own.nodup, fun x hx o => ?_, h.own.ge⟩, h.only.trans (hm.only.mono (fun x hx => by simp [hx])), Nat.lt_of_lt_of_le h.lt hm.only.size⟩
  · rw [marksII_snoc k zss j hj, List.append_assoc, List.map_append, List.singleton_append, List.map_cons]
    refine rdM_append.2 ⟨F1, G ++ F3, m1.agree agb ag1, ?_, rfl⟩
    rw [RdM, hlen]
    refine ⟨.slice a n cap, G, F3, (World.cell?_of_block (w := wr) (a := ⟨b, off + j, none⟩) agb).trans hc, ?_, m3.agree agb ag3, rfl⟩
    rw [← hr.length] at hm
    refine rd_ints.2 ⟨a, n, cap, rfl, ?_⟩
    have := hm.rd
    rwa [hr.length] at this ⊢
  · rcases List.mem_cons.1 hx with rfl | hx
    · exact (World.frozen?_of_block (w := wr) (a := ⟨x, o, none⟩) agb).trans (h.own.free x (by simp) o)
    · rcases List.mem_append.1 hx with hx | hx
      · exact (World.frozen?_of_block (w := wr) (a := ⟨x, o, none⟩) (ag1 x hx)).trans (h.own.free x (by simp [hx]) o)
      · rcases List.mem_append.1 hx with hx | hx
        · exact hm.own.free x hx o
        · exact (World.frozen?_of_block (w := wr) (a := ⟨x, o, none⟩) (ag3 x hx)).trans (h.own.free x (by simp [hx]) o)
end Go.Proofs.Ytillnoeailnnfab
