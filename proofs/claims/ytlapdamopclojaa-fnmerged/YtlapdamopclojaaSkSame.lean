/- Two lists, two summaries held against each other, by the model and by the library. No statement of the seat is proved here. -/
import Derived.Test.YtlapdamopclojaaTallyB
namespace Go.Proofs.Ytlapdamopclojaa
open Go.RowKit
set_option maxHeartbeats 1000000 in
theorem slEqual_any (a b : Option Addr) (la lb ca cb : Nat) (xs ys : List Int) (F G : List Nat) (w : World) (ha : RdI w a la xs F) (hb : RdI w b lb ys G) (hla : la ≤ 140737488355328) (hlb : lb ≤ 140737488355328) :
    Calls Try.prog 74 #[.slice a la ca, .slice b lb cb] w fun e w' => e = .returned (.bool (decide (xs = ys))) ∧ Below w.heap.size w w' := by
  have Hx : Hid (xs.length = la) := ha.length
  have Hy : Hid (ys.length = lb) := hb.length
  by_cases hl : la = lb
  · subst hl
    have hbne : ((la : Int) != (la : Int)) = false := by simp
    by_cases h0 : la = 0
    · subst h0
      have ex : xs = [] := List.eq_nil_of_length_eq_zero ha.length
      have ey : ys = [] := List.eq_nil_of_length_eq_zero hb.length
      clear ha hb
      go_enter Try.func74, Try.ntmps74
      go_wp2
      refine wp_loop_rounds 1 ?_
      rw [rounds_succ]
      go_wp2
      go_ret
      exact ⟨ret_bool (by rw [ex, ey]; rfl), Below.refl _ _⟩
    · obtain ⟨b1, o1, rfl, hc1⟩ : ∃ b off, a = some ⟨b, off, none⟩ ∧ ∀ i, i < la → w.cell? ⟨b, off + i, none⟩ = some (.int .i64 (xs.getD i 0)) := by
        rcases ha.cells with h | ⟨b, off, _, h1, _, h2⟩
        · exact absurd h.1 h0
        · exact ⟨b, off, h1, h2⟩
      obtain ⟨b2, o2, rfl, hc2⟩ : ∃ b' off, b = some ⟨b', off, none⟩ ∧ ∀ i, i < la → w.cell? ⟨b', off + i, none⟩ = some (.int .i64 (ys.getD i 0)) := by
        rcases hb.cells with h | ⟨b, off, _, h1, _, h2⟩
        · exact absurd h.1 h0
        · exact ⟨b, off, h1, h2⟩
      have hb1 : b1 < w.heap.size := World.block_lt_of_cell? _ _ (hc1 0 (by omega))
      have hb2 : b2 < w.heap.size := World.block_lt_of_cell? _ _ (hc2 0 (by omega))
      clear ha hb
      go_enter Try.func74, Try.ntmps74
      go_wp2
      go_loopw [13] (fun i wr => ∃ k : Nat, k ≤ la ∧ i = .int .i64 k ∧ Hid (xs.take k = ys.take k) ∧ Below w.heap.size w wr) (fun i _ => la - (intOf i).toNat)
      case atStart => exact ⟨0, by omega, rfl, rfl, Below.refl _ _⟩
      case round =>
        obtain ⟨k, hk, rfl, HT, hbel⟩ := hrel
        by_cases hlt : k < la
        · have d1 : wr.cell? ⟨b1, o1 + k, none⟩ = some (.int .i64 (xs.getD k 0)) := (hbel.cell (by exact hb1)).trans (hc1 k hlt)
          have d2 : wr.cell? ⟨b2, o2 + k, none⟩ = some (.int .i64 (ys.getD k 0)) := (hbel.cell (by exact hb2)).trans (hc2 k hlt)
          by_cases he : xs[k]?.getD 0 = ys[k]?.getD 0
          · have hne : (xs[k]?.getD 0 != ys[k]?.getD 0) = false := by simp [he]
            have HE : Hid (xs[k]?.getD 0 = ys[k]?.getD 0) := he
            clear he hc1 hc2
            go_wp2
            go_region
            all_goals (try go_wp2)
            all_goals
              go_roundw
              case rel => exact ⟨k + 1, by omega, by go_num, eqI_step (by rw [Hx.out, Hy.out]) (by rw [Hx.out]; exact hlt) HT.out HE.out, by repeat (first | exact hbel | apply Below.drew)⟩
              case measure => simp [intOf]; omega
          · have hne : (xs[k]?.getD 0 != ys[k]?.getD 0) = true := by simp [he]
            have HE : Hid (¬ xs[k]?.getD 0 = ys[k]?.getD 0) := he
            clear he hc1 hc2
            go_wp2
            go_region
            all_goals (try go_wp2)
            all_goals
              go_ret
              exact ⟨ret_bool (neI_of_at HE.out).symm, by repeat (first | exact hbel | apply Below.drew)⟩
        · obtain rfl : k = la := by omega
          go_wp2
          go_ret
          exact ⟨ret_bool (eqI_end Hx.out Hy.out HT.out).symm, hbel⟩
  · have hbne : ((la : Int) != (lb : Int)) = true := by simp; omega
    have e : decide (xs = ys) = false := by
      rw [decide_eq_false_iff_not]; intro e; subst e; exact hl (Hx.out.symm.trans Hy.out)
    clear ha hb
    go_enter Try.func74, Try.ntmps74
    go_wp2
    go_ret
    exact ⟨ret_bool e.symm, Below.refl _ _⟩
/-- The two boxes lie there, and nothing elder has changed. -/
structure Boxes (w : World) (A B : Array Value) (t : TypeId) (W : World) : Prop where
  fst : Blk W w.heap.size A t
  snd : Blk W (w.heap.size + 1) B t
  bel : Below w.heap.size w W
theorem Boxes.below {w W W' : World} {A B : Array Value} {t : TypeId} (h : Boxes w A B t W) (b : Below W.heap.size W W') : Boxes w A B t W' := ⟨h.fst.below b, h.snd.below b, Below.next h.bel b⟩
theorem Boxes.drew {w W : World} {A B : Array Value} {t : TypeId} (h : Boxes w A B t W) : Boxes w A B t W.drew := ⟨h.fst, h.snd, h.bel.drew⟩
end Go.Proofs.Ytlapdamopclojaa
