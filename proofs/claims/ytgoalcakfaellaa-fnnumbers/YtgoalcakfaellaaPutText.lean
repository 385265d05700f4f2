/- The walks through PutText, the program's and the model's. No statement of the seat is proved here. -/
import Derived.Test.YtgoalcakfaellaaPutNum
import Derived.Lib.AppendStr
import Derived.Laws.IdiomStrings
namespace Go.Proofs.Ytgoalcakfaellaa
open Go.RowKit
open Go.WideShapes (add_plain)

/-- A text's bytes as numbers. -/
def sbytes (s : ByteArray) : List Int := s.data.toList.map fun b => (b.toNat : Int)
theorem sbytes_len (s : ByteArray) : (sbytes s).length = s.size := by rw [sbytes, List.length_map, Array.length_toList]; rfl
theorem sbytes_range (s : ByteArray) : ∀ n ∈ sbytes s, 0 ≤ n ∧ n ≤ 255 := by
  intro n hn
  simp only [sbytes, List.mem_map] at hn
  obtain ⟨b, _, rfl⟩ := hn
  have := UInt8.toNat_lt b
  omega
theorem strCells_eq (s : ByteArray) : Lib.strCells s = (sbytes s).map (Value.int .u8) := by simp [Lib.strCells, sbytes]
/-- What PutText writes. -/
def textOf (s : ByteArray) : List Int := encOf (s.size : Int) ++ sbytes s
theorem textOf_range (s : ByteArray) : ∀ n ∈ textOf s, 0 ≤ n ∧ n ≤ 255 := by
  intro n hn
  rcases List.mem_append.1 hn with h | h
  · exact encOf_range _ n h
  · exact sbytes_range s n h
theorem textOf_len (s : ByteArray) : (textOf s).length = (encOf (s.size : Int)).length + s.size := by simp [textOf, sbytes_len]

theorem text_end {B : Nat} {w w1 w2 : World} {v v' : Value} {s : ByteArray} (hB : B ≤ w1.heap.size)
    (hown : w1.ownsRow B 5 1 v (encOf (s.size : Int)).length ((encOf (s.size : Int)).map (Value.int .u8))) (hb : Below B w w1)
    (hown' : w2.ownsRow B 5 1 v' ((encOf (s.size : Int)).length + s.size) ((encOf (s.size : Int)).map (Value.int .u8) ++ (sbytes s).map (Value.int .u8))) (hgrow : w1.grownBy w2 v.ownBlock) :
    w2.ownsRow B 5 1 v' (textOf s).length ((textOf s).map (Value.int .u8)) ∧ Below B w w2 := by
  refine ⟨by rw [textOf_len]; simpa [textOf] using hown', hb.grown hgrow hB (fun j hj => (hown.lt j hj).1)⟩

set_option maxHeartbeats 400000 in
theorem putTextImpl_any (s : ByteArray) (w : World) (hs : s.size ≤ 1048576) : Calls Try.prog 8 #[.string s] w fun e w' =>
    ∃ v, e = .returned v ∧ w'.ownsRow w.heap.size 5 1 v (textOf s).length ((textOf s).map (Value.int .u8)) ∧ Below w.heap.size w w' := by
  obtain ⟨i0, hi, hz0, hz1, hz2⟩ := info_parts Try.info5
  have hel := encOf_len (s.size : Int)
  go_enter Try.func8, Try.ntmps8
  go_wp2_with fail
  refine (putImpl_any _ _ (by omega) (by omega)).mono ?_
  rintro e w1 ⟨v, rfl, hown, hb⟩
  have hsz := hb.size
  go_wp2_with (at_builtin; refine Lib.wpList_append_own_string _ rfl _ _ 22 9 rfl w.heap.size 5 i0 Try.underlying22 Try.underlying9 hi hz0 hz1 hz2 _ _ _ rfl hown s rfl ?c1 ?c2 ?c3 ?_)
  case c1 => unfold maxLen; omega
  case c2 => omega
  case c3 => omega
  intro v' w2 hown' hgrow _
  rw [strCells_eq] at hown'
  have R := text_end hsz hown hb hown' hgrow
  clear hown' hgrow hown hb
  go_wp2
  go_ret
  exact ⟨_, rfl, R.1, R.2⟩

theorem bytesRow_at (s : ByteArray) (cap j : Nat) (u : Value) (h : ((sbytes s).map (Value.int .u8))[j]? = some u) : (bytesRow s cap)[j]? = some u := by
  have hj : j < (sbytes s).length := by
    rcases Nat.lt_or_ge j (sbytes s).length with h' | h'
    · exact h'
    · rw [List.getElem?_eq_none (by simpa using h')] at h; cases h
  rw [sbytes_len] at hj
  have hd : j < s.data.size := hj
  unfold bytesRow
  rw [Array.getElem?_append_left (by simpa using hd)]
  simpa [sbytes] using h

end Go.Proofs.Ytgoalcakfaellaa
