/- Marks in a row of numbers, as plain data. No statement of the seat is proved here. -/
import Derived.Test.YtjnamoppcklomaaGreatIntLists
import Derived.Test.YtjnamoppcklomaaGreatBlocks
namespace Go.Proofs.YtjnamoppcklomaaGreat
open Go.RowKit

def marksI (k : Int) : Nat → List Int
  | 0 => []
  | n + 1 => marksI k n ++ [k + n]
theorem marksI_length (k : Int) (n : Nat) : (marksI k n).length = n := by
  induction n with
  | zero => rfl
  | succ n ih => simp [marksI, ih]
theorem marksI_getD (k : Int) (n i : Nat) (h : i < n) : (marksI k n).getD i 0 = k + i := by
  induction n with
  | zero => omega
  | succ n ih =>
    rw [marksI, List.getD_eq_getElem?_getD]
    by_cases hi : i < n
    · rw [List.getElem?_append_left (by rw [marksI_length]; exact hi), ← List.getD_eq_getElem?_getD]; exact ih hi
    · obtain rfl : i = n := by omega
      rw [List.getElem?_append_right (by rw [marksI_length]; omega), marksI_length]; simp
def markedI (k : Int) (j : Nat) (zs : List Int) : List Int := marksI k j ++ zs.drop j
theorem markedI_step (k : Int) (j : Nat) (zs : List Int) (h : j < zs.length) : (markedI k j zs).set j (k + j) = markedI k (j + 1) zs := by
  unfold markedI
  rw [List.set_append_right j _ (by rw [marksI_length]; omega), marksI_length, Nat.sub_self, List.drop_eq_getElem_cons h, List.set_cons_zero]
  simp [marksI]
theorem markedI_end (k : Int) (n : Nat) (zs : List Int) (h : zs.length = n) : markedI k n zs = marksI k n := by
  simp [markedI, List.drop_of_length_le (Nat.le_of_eq h)]
theorem RdI.set {w : World} {b off len : Nat} {zs : List Int} (h : RdI w (some ⟨b, off, none⟩) len zs [b]) (hp : 0 < len) (j : Nat) (hj : j < len) (n : Int) : RdI (w.setCell ⟨b, off + j, none⟩ (.int .i64 n)) (some ⟨b, off, none⟩) len (zs.set j n) [b] := by
  have hl := h.length
  rcases h.cells with ⟨h0, _⟩ | ⟨b', off', _, he, _, hc⟩
  · omega
  · obtain ⟨rfl, rfl⟩ : b = b' ∧ off = off' := by simpa using he
    refine ⟨by simp [hl], .inr ⟨b, off, hp, rfl, rfl, fun i hi => ?_⟩⟩
    by_cases hij : i = j
    · subst hij
      rw [World.cell?_setCell_same _ _ _ (hc i hi)]
      simp [hl, hi]
    · rw [World.cell?_setCell_other _ _ _ _ (by intro e; simp only [Addr.mk.injEq] at e; omega), hc i hi]
      simp [Ne.symm hij]
theorem Only.set {F : List Nat} {w w' : World} {g : Nat} (h : Only F w w') (hg : g ∈ F) (j : Nat) (v : Value) : Only F w (w'.setCell ⟨g, j, none⟩ v) :=
  h.trans ⟨rfl, rfl, rfl, by simp [World.setCell], fun k _ hf => Below.heap_setCell w' ⟨g, j, none⟩ v k (fun e => hf (by have e2 : k = g := e; rw [e2]; exact hg))⟩
theorem Own.set {B : Nat} {w : World} {F : List Nat} (h : Own B w F) (g j : Nat) (v : Value) : Own B (w.setCell ⟨g, j, none⟩ v) F :=
  ⟨h.nodup, fun b hb o => (World.frozen?_setCell _ _ _ _).trans (h.free b hb o), h.ge⟩

/-- What a marking tells: how far it came, what is held now, that nothing else was written. -/
structure MarkedI (B : Nat) (w : World) (a : Option Addr) (len : Nat) (k : Int) (F : List Nat) (w' : World) : Prop where
  rd : RdI w' a len (marksI k len) F
  own : Own B w' F
  only : Only F w w'
structure MarkingI (B : Nat) (w : World) (a : Option Addr) (len : Nat) (k : Int) (zs : List Int) (j : Nat) (F : List Nat) (w' : World) : Prop where
  rd : RdI w' a len (markedI k j zs) F
  own : Own B w' F
  only : Only F w w'
theorem MarkingI.step {B : Nat} {w wr : World} {b off len : Nat} {k : Int} {zs : List Int} {j : Nat} (h : MarkingI B w (some ⟨b, off, none⟩) len k zs j [b] wr) (hl : zs.length = len) (hj : j < len) :
    MarkingI B w (some ⟨b, off, none⟩) len k zs (j + 1) [b] (wr.setCell ⟨b, off + j, none⟩ (.int .i64 (k + j))) := by
  refine ⟨?_, h.own.set _ _ _, h.only.set (by simp) _ _⟩
  have := h.rd.set (by omega) j hj (k + j)
  rwa [markedI_step k j zs (by omega)] at this
end Go.Proofs.YtjnamoppcklomaaGreat
