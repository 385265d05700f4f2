/- The walk through the program's Parts. No statement of the seat is proved here. -/
import Derived.Test.YtgoalcakfaellakParts
namespace Go.Proofs.Ytgoalcakfaellak
open Go.RowKit

theorem clone_any (s : ByteArray) (w : World) (hs : s.size ≤ 281474976710656) : Calls Try.prog 29 #[.string s] w fun e w' => e = .returned (.string s) ∧ Below w.heap.size w w' := by
  go_enter Try.func29, Try.ntmps29
  go_wp2_with (go_at_call 33; refine (Try.stringslite_Clone s _ hs).mono ?_; rintro e w' ⟨rfl, hb⟩)
  go_ret
  exact ⟨rfl, by assumption⟩
theorem extract_le (s : ByteArray) (a b : Nat) (hs : s.size ≤ 1048576) : (s.extract a b).size ≤ 281474976710656 := by
  have : (s.extract a b).size ≤ s.size := by rw [ByteArray.size_extract]; omega
  omega

set_option maxHeartbeats 800000 in
theorem partsImpl_any (s : ByteArray) (b : Int) (w : World) (hs : s.size ≤ 1048576) : Calls Try.prog 19 #[.string s, .int .u8 b] w fun e w' =>
    ∃ v, e = .returned v ∧ w'.ownsRow w.heap.size 9 1 v (partsOf s b).length ((partsOf s b).map Value.string) ∧ Below w.heap.size w w' := by
  obtain ⟨i0, hi, hz0, hz1, hz2⟩ := info_parts Try.info9
  go_enter Try.func19, Try.ntmps19
  go_wp2
  go_loopw [5, 6, 10] (fun v fr i wr => ∃ (k f : Nat) (l : List ByteArray), k ≤ s.size ∧ f ≤ k ∧ l.length ≤ k ∧ i = .int .i64 k ∧ fr = .int .i64 f ∧ Hid (pst s b k = (l, f)) ∧ Hid (wr.ownsRow w.heap.size 9 1 v l.length (l.map Value.string)) ∧ Below w.heap.size w wr) (fun _ _ i _ => s.size - (intOf i).toNat)
  case atStart => exact ⟨0, 0, [], by omega, by omega, by simp, rfl, rfl, rfl, World.ownsRow_nil _ _ _ _, Below.refl _ _⟩
  case round =>
    obtain ⟨k, f, l, hk, hf, hll, rfl, rfl, HP, HO, hbel⟩ := hrel
    by_cases hlt : k < s.size
    · by_cases he : (s[k].toNat : Int) = b
      · have heb : ((s[k].toNat : Int) == b) = true := by simp [he]
        have HN : Hid (pst s b (k + 1) = (l ++ [s.extract f k], k + 1)) := pst_hit hlt he HP.out
        clear he HP
        go_wp2_with fail
        refine (clone_any _ _ (extract_le s f k hs)).mono ?_
        rintro e wc ⟨rfl, hbc⟩
        have hown := ownsRow_below HO.out hbc
        have hbel := hbel.trans (hbc.mono hbel.size)
        have hsz := hbel.size
        clear HO hbc
        go_wp2_with (at_builtin; refine wpList_append_own _ rfl _ _ 33 rfl w.heap.size 9 i0 (.string ⟨#[]⟩) 1 16 Try.underlying33 hi hz0 hz1 hz2 rfl (by decide) _ _ _ rfl (hown.alloc _) ⟨wc.heap.size, 0, none⟩ 1 1 [.string (s.extract f k)] rfl rfl ?c1 ?c2 ?c3 ?c4 ?c5 ?_)
        case c1 => exact cell_one_new _ _ _
        case c2 => intro u hu; simp at hu; subst hu; rfl
        case c3 => unfold maxLen; omega
        case c4 => omega
        case c5 => simp; omega
        intro v' w1 hown' hgrow _
        have R := texts_grow (by omega) hown hbel hown' hgrow
        clear hown' hgrow hown hbel
        go_wp2
        go_roundw
        case rel => exact ⟨k + 1, k + 1, l ++ [s.extract f k], by omega, by omega, by simp; omega, by go_num, by go_num, HN, R.1, R.2⟩
        case measure => simp [intOf]; omega
      · have heb : ((s[k].toNat : Int) == b) = false := by simp [he]
        have HN : Hid (pst s b (k + 1) = (l, f)) := pst_miss hlt he HP.out
        clear he HP
        go_wp2
        go_roundw
        case rel => exact ⟨k + 1, f, l, by omega, by omega, by omega, by go_num, by go_num, HN, HO, hbel⟩
        case measure => simp [intOf]; omega
    · obtain rfl : k = s.size := by omega
      have HN : Hid (partsOf s b = l ++ [s.extract f s.size]) := parts_end HP.out
      clear HP
      go_wp2_with fail
      refine (clone_any _ _ (extract_le s f s.size hs)).mono ?_
      rintro e wc ⟨rfl, hbc⟩
      have hown := ownsRow_below HO.out hbc
      have hbel := hbel.trans (hbc.mono hbel.size)
      have hsz := hbel.size
      clear HO hbc
      go_wp2_with (at_builtin; refine wpList_append_own _ rfl _ _ 33 rfl w.heap.size 9 i0 (.string ⟨#[]⟩) 1 16 Try.underlying33 hi hz0 hz1 hz2 rfl (by decide) _ _ _ rfl (hown.alloc _) ⟨wc.heap.size, 0, none⟩ 1 1 [.string (s.extract f s.size)] rfl rfl ?d1 ?d2 ?d3 ?d4 ?d5 ?_)
      case d1 => exact cell_one_new _ _ _
      case d2 => intro u hu; simp at hu; subst hu; rfl
      case d3 => unfold maxLen; omega
      case d4 => omega
      case d5 => simp; omega
      intro v' w1 hown' hgrow _
      have R := texts_grow (by omega) hown hbel hown' hgrow
      rw [← HN.out] at R
      clear hown' hgrow hown hbel
      go_wp2
      go_ret
      exact ⟨_, rfl, R.1, R.2⟩
end Go.Proofs.Ytgoalcakfaellak
