/- Sets as texts: the mathematics. No statement of the seat is proved here. -/
import Derived.Test.YtjiciigaeeibgabDoorSpImplA
import Derived.Test.YtjiciigaeeibgabDoorDigits
import Derived.Laws.StructEq
namespace Go.Proofs.YtjiciigaeeibgabDoor
open Go.RowKit Go.Sort
def itB (n : Int) : ByteArray := ⟨(Lib.itoa n).toArray⟩
theorem dig_21 (m : Nat) (h : m ≤ 9223372036854775808) : (dig m []).length ≤ 20 := by
  have := dig_small 20 m [] (by have : (10 : Nat) ^ 20 = 100000000000000000000 := by decide
                                omega)
  simpa using this
theorem itoa_len (n : Int) (h0 : -9223372036854775808 ≤ n) (h1 : n ≤ 9223372036854775807) : (Lib.itoa n).length ≤ 21 := by
  by_cases h : 0 < n
  · rw [← itoa_pos n h]
    have := dig_21 n.toNat (by omega)
    omega
  · by_cases h2 : n < 0
    · rw [← itoa_neg n h2]
      have := dig_21 (-n).toNat (by omega)
      simp only [List.length_cons]
      omega
    · obtain rfl : n = 0 := by omega
      rw [Lib.itoa, if_neg (by omega), show (0 : Int).toNat = 0 from rfl, Lib.decDigits_one (i := 0) (by omega)]
      simp
def In64 (n : Int) : Prop := -9223372036854775808 ≤ n ∧ n ≤ 9223372036854775807
theorem itB_size {n : Int} (h : In64 n) : (itB n).size ≤ 21 := by
  unfold itB
  rw [size_list]
  exact itoa_len n h.1 h.2
/-- A span as a text. -/
def spB (p : Int × Int) : ByteArray := if p.1 = p.2 then itB p.1 else itB p.1 ++ ⟨#[45]⟩ ++ itB p.2
theorem size1 (c : UInt8) : (⟨#[c]⟩ : ByteArray).size = 1 := rfl
theorem spB_size {p : Int × Int} (h1 : In64 p.1) (h2 : In64 p.2) : (spB p).size ≤ 43 := by
  have e1 := itB_size h1
  have e2 := itB_size h2
  unfold spB
  split
  · omega
  · rw [ByteArray.size_append, ByteArray.size_append, size1]
    omega
def joinB (bs : List ByteArray) : ByteArray := ⟨(Lib.join (bs.map (·.data.toList)) [44]).toArray⟩
theorem joinB_nil : joinB [] = ⟨#[]⟩ := rfl
theorem joinB_one (b : ByteArray) : joinB [b] = b := by
  unfold joinB
  rw [List.map_cons, List.map_nil, Lib.join_one]
theorem joinB_snoc {bs : List ByteArray} (b : ByteArray) (h : bs ≠ []) : joinB (bs ++ [b]) = joinB bs ++ ⟨#[44]⟩ ++ b := by
  obtain ⟨x, r, rfl⟩ := List.exists_cons_of_ne_nil h
  unfold joinB
  apply ByteArray.ext
  apply Array.ext'
  rw [List.cons_append, List.map_cons, List.map_cons, Lib.join_cons, Lib.join_cons]
  simp [Lib.joinTail, ByteArray.data_append]
theorem tail_len : ∀ (r : List (List UInt8)), (∀ y ∈ r, y.length ≤ 43) → (Lib.joinTail [44] r).length ≤ 44 * r.length
  | [], _ => by simp [Lib.joinTail]
  | y :: r, h => by
    have e := tail_len r (fun z hz => h z (by simp [hz]))
    have e2 := h y (by simp)
    simp only [Lib.joinTail, List.map_cons, List.flatten_cons, List.length_append, List.length_cons, List.length_nil] at e ⊢
    omega
theorem join_len (xs : List (List UInt8)) (h : ∀ y ∈ xs, y.length ≤ 43) : (Lib.join xs [44]).length ≤ 44 * xs.length := by
  cases xs with
  | nil => simp [Lib.join_nil]
  | cons x r =>
    rw [Lib.join_cons, List.length_append]
    have e := tail_len r (fun z hz => h z (by simp [hz]))
    have e2 := h x (by simp)
    simp only [List.length_cons]
    omega
/-- A set as a text. -/
def Sp.texts (ps : Sp) : List ByteArray := ps.map spB
def Sp.text (ps : Sp) : ByteArray := joinB ps.texts
def Sp.in64 (ps : Sp) : Prop := ∀ p ∈ ps, In64 p.1 ∧ In64 p.2
theorem texts_len {ps : Sp} (h : ps.in64) : ∀ y ∈ ps.texts.map (·.data.toList), y.length ≤ 43 := by
  intro y hy
  obtain ⟨b, hb, rfl⟩ := List.mem_map.1 hy
  obtain ⟨p, hp, rfl⟩ := List.mem_map.1 hb
  have e : (spB p).data.size ≤ 43 := spB_size (h p hp).1 (h p hp).2
  rw [Array.length_toList]
  exact e
theorem text_size {ps : Sp} (h : ps.in64) : ps.text.size ≤ 44 * ps.length := by
  have := join_len _ (texts_len h)
  unfold Sp.text joinB
  rw [size_list]
  simpa [Sp.texts] using this
theorem in64_take {ps : Sp} (h : ps.in64) (k : Nat) : Sp.in64 (ps.take k) := fun p hp => h p (List.mem_of_mem_take hp)
theorem text_first {ps : Sp} (h : 0 < ps.length) : Sp.text (ps.take 1) = spB (ps.at 0) := by
  have := takeP_succ ps 0 h
  rw [this]
  exact joinB_one _
theorem text_step {ps : Sp} {k : Nat} (hk : k < ps.length) (h0 : 0 < k) : Sp.text (ps.take (k + 1)) = Sp.text (ps.take k) ++ ⟨#[44]⟩ ++ spB (ps.at k) := by
  have := takeP_succ ps k hk
  rw [this]
  unfold Sp.text Sp.texts
  rw [List.map_append]
  refine joinB_snoc _ (fun e => ?_)
  have := congrArg List.length e
  simp at this
  rcases this with e | e
  · omega
  · rw [e] at hk; simp at hk
end Go.Proofs.YtjiciigaeeibgabDoor
