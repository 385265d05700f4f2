/- The walks through Parts, the program's and the model's. No statement of the seat is proved here. -/
import Derived.Test.YtgoalcakfaellakTexts
import Derived.Test.YtgoalcakfaellakShelf
namespace Go.Proofs.Ytgoalcakfaellak
open Go.RowKit

/-- The parts that are ended ahead of place k, and where the next one begins. -/
def pst (s : ByteArray) (b : Int) : Nat → List ByteArray × Nat
  | 0 => ([], 0)
  | k + 1 => if (s.data.toList[k]?.getD 0).toNat = b then ((pst s b k).1 ++ [s.extract (pst s b k).2 k], k + 1) else pst s b k
def partsOf (s : ByteArray) (b : Int) : List ByteArray := (pst s b s.size).1 ++ [s.extract (pst s b s.size).2 s.size]
theorem pst_le (s : ByteArray) (b : Int) (k : Nat) : (pst s b k).2 ≤ k ∧ (pst s b k).1.length ≤ k := by
  induction k with
  | zero => exact ⟨Nat.le_refl _, Nat.le_refl _⟩
  | succ k ih =>
    simp only [pst]
    split
    · exact ⟨Nat.le_refl _, by simp; omega⟩
    · exact ⟨by omega, by omega⟩
theorem partsOf_len (s : ByteArray) (b : Int) : (partsOf s b).length ≤ s.size + 1 := by
  have := (pst_le s b s.size).2
  simp [partsOf]; omega
theorem byte_at (s : ByteArray) (k : Nat) (h : k < s.size) : s.data.toList[k]?.getD 0 = s[k] := by
  have h' : k < s.data.toList.length := by simpa using h
  rw [List.getElem?_eq_getElem h']; rfl
theorem pst_hit {s : ByteArray} {b : Int} {k : Nat} (h : k < s.size) (he : (s[k].toNat : Int) = b) {l : List ByteArray} {f : Nat} (hp : pst s b k = (l, f)) : pst s b (k + 1) = (l ++ [s.extract f k], k + 1) := by
  simp only [pst]; rw [byte_at s k h, if_pos he, hp]
theorem pst_miss {s : ByteArray} {b : Int} {k : Nat} (h : k < s.size) (he : ¬ (s[k].toNat : Int) = b) {l : List ByteArray} {f : Nat} (hp : pst s b k = (l, f)) : pst s b (k + 1) = (l, f) := by
  simp only [pst]; rw [byte_at s k h, if_neg he, hp]
theorem parts_end {s : ByteArray} {b : Int} {l : List ByteArray} {f : Nat} (hp : pst s b s.size = (l, f)) : partsOf s b = l ++ [s.extract f s.size] := by
  simp only [partsOf]; rw [hp]
theorem pst_bd {s : ByteArray} {b : Int} {k : Nat} {l : List ByteArray} {f : Nat} (hp : pst s b k = (l, f)) : f ≤ k ∧ l.length ≤ k := by
  have := pst_le s b k; rw [hp] at this; exact this

theorem texts_grow {B : Nat} {w wr w1 : World} {o : Obj} {v v' : Value} {acc : List ByteArray} {x : ByteArray} (hB : B ≤ wr.heap.size)
    (hown : wr.ownsRow B 9 1 v acc.length (acc.map Value.string)) (hbel : Below B w wr)
    (hown' : w1.ownsRow B 9 1 v' (acc.length + 1) (acc.map Value.string ++ [.string x])) (hgrow : (wr.alloc o).grownBy w1 v.ownBlock) :
    w1.ownsRow B 9 1 v' (acc ++ [x]).length ((acc ++ [x]).map Value.string) ∧ Below B w w1 := by
  refine ⟨by simpa using hown', (hbel.alloc hB o).grown hgrow (by simp; omega) (fun j hj => (hown.lt j hj).1)⟩

set_option maxHeartbeats 800000 in
theorem partsSpec_any (s : ByteArray) (b : Int) (w : World) (hs : s.size ≤ 1048576) : Calls Try.prog 18 #[.string s, .int .u8 b] w fun e w' =>
    ∃ v, e = .returned v ∧ w'.ownsRow w.heap.size 9 1 v (partsOf s b).length ((partsOf s b).map Value.string) ∧ Below w.heap.size w w' := by
  obtain ⟨i0, hi, hz0, hz1, hz2⟩ := info_parts Try.info9
  have hstart := World.ownsRow_lit (base := w.heap.size) (e := 9) (size := 1) w #[] 0 (Nat.le_refl _) (by unfold maxLen; omega) rfl
  have Hstart : Hid ((w.alloc (.cells #[] 9)).ownsRow w.heap.size 9 1 (.slice (some ⟨w.heap.size, 0, none⟩) 0 0) ([] : List ByteArray).length (([] : List ByteArray).map Value.string)) := by show World.ownsRow _ _ _ _ _ _ _; simpa using hstart
  clear hstart
  go_enter Try.func18, Try.ntmps18
  go_wp2
  go_loopw [5, 6, 7] (fun v fr i wr => ∃ (k f : Nat) (l : List ByteArray), k ≤ s.size + 1 ∧ f ≤ k ∧ l.length ≤ k ∧ i = .int .i64 k ∧ fr = .int .i64 f ∧ Hid ((k ≤ s.size ∧ pst s b k = (l, f)) ∨ (k = s.size + 1 ∧ l = partsOf s b)) ∧ Hid (wr.ownsRow w.heap.size 9 1 v l.length (l.map Value.string)) ∧ Below w.heap.size w wr) (fun _ _ i _ => s.size + 1 - (intOf i).toNat)
  case atStart => exact ⟨0, 0, [], by omega, by omega, by simp, rfl, rfl, .inl ⟨by omega, rfl⟩, Hstart.out, (Below.refl _ _).alloc (Nat.le_refl _) _⟩
  case round =>
    obtain ⟨k, f, l, hk, hf, hll, rfl, rfl, HP, HO, hbel⟩ := hrel
    have hsz := hbel.size
    clear Hstart
    by_cases hlt : k < s.size
    · have hne : ((k : Int) == (s.size : Int)) = false := by simp; omega
      have hP : pst s b k = (l, f) := by
        rcases HP.out with h | h
        · exact h.2
        · omega
      by_cases he : (s[k].toNat : Int) = b
      · have heb : ((s[k].toNat : Int) == b) = true := by simp [he]
        have HN : Hid (pst s b (k + 1) = (l ++ [s.extract f k], k + 1)) := pst_hit hlt he hP
        clear he hP HP
        have hown := HO.out
        go_wp2_with (at_builtin; refine wpList_append_own _ rfl _ _ 33 rfl w.heap.size 9 i0 (.string ⟨#[]⟩) 1 16 Try.underlying33 hi hz0 hz1 hz2 rfl (by decide) _ _ _ rfl (hown.alloc _) ⟨wr.heap.size, 0, none⟩ 1 1 [.string (s.extract f k)] rfl rfl ?c1 ?c2 ?c3 ?c4 ?c5 ?_)
        case c1 => exact cell_one_new _ _ _
        case c2 => intro u hu; simp at hu; subst hu; rfl
        case c3 => unfold maxLen; omega
        case c4 => omega
        case c5 => simp; omega
        intro v' w1 hown' hgrow _
        have R := texts_grow (by omega) hown hbel hown' hgrow
        clear hown' hgrow hown hbel HO
        go_wp2
        go_roundw
        case rel => exact ⟨k + 1, k + 1, l ++ [s.extract f k], by omega, by omega, by simp; omega, by go_num, by go_num, .inl ⟨by omega, HN.out⟩, R.1, R.2⟩
        case measure => simp [intOf]; omega
      · have heb : ((s[k].toNat : Int) == b) = false := by simp [he]
        have HN : Hid (pst s b (k + 1) = (l, f)) := pst_miss hlt he hP
        clear he hP HP
        go_wp2
        go_roundw
        case rel => exact ⟨k + 1, f, l, by omega, by omega, by omega, by go_num, by go_num, .inl ⟨by omega, HN.out⟩, HO.out, hbel⟩
        case measure => simp [intOf]; omega
    · by_cases heq : k = s.size
      · have hne : ((k : Int) == (s.size : Int)) = true := by simp; omega
        have hP : pst s b k = (l, f) := by
          rcases HP.out with h | h
          · exact h.2
          · omega
        have HN : Hid (partsOf s b = l ++ [s.extract f s.size]) := by show partsOf s b = _; rw [heq] at hP; exact parts_end hP
        clear hP HP
        have hown := HO.out
        go_wp2_with (at_builtin; refine wpList_append_own _ rfl _ _ 33 rfl w.heap.size 9 i0 (.string ⟨#[]⟩) 1 16 Try.underlying33 hi hz0 hz1 hz2 rfl (by decide) _ _ _ rfl (hown.alloc _) ⟨wr.heap.size, 0, none⟩ 1 1 [.string (s.extract f s.size)] rfl rfl ?d1 ?d2 ?d3 ?d4 ?d5 ?_)
        case d1 => exact cell_one_new _ _ _
        case d2 => intro u hu; simp at hu; subst hu; rfl
        case d3 => unfold maxLen; omega
        case d4 => omega
        case d5 => simp; omega
        intro v' w1 hown' hgrow _
        have R := texts_grow (by omega) hown hbel hown' hgrow
        clear hown' hgrow hown hbel HO
        go_wp2
        go_roundw
        case rel => exact ⟨k + 1, k + 1, l ++ [s.extract f s.size], by omega, by omega, by simp; omega, by go_num, by go_num, .inr ⟨by omega, HN.out.symm⟩, R.1, R.2⟩
        case measure => simp [intOf]; omega
      · have HN : Hid (l = partsOf s b) := by
          rcases HP.out with h | h
          · omega
          · exact h.2
        go_wp2
        go_ret
        exact ⟨_, rfl, by rw [← HN.out]; exact HO.out, hbel⟩
end Go.Proofs.Ytgoalcakfaellak
