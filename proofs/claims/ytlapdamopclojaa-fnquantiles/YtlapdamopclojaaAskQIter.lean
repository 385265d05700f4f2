/- The program's iterator over the buckets that have something: what it hands over. No statement of the seat is proved here. -/
import Derived.RangeFuncNested
import Derived.RangeFuncBound
import Derived.RangeFuncCalls
import Derived.RangeFuncLeaves
import Derived.RangeFuncFrom
import Derived.Shelf.Abstract
import Derived.Shelf.RegionOpen
import Derived.WalkKit
import Derived.OwnWalkIn
import Derived.TacticsInMore
import Derived.LoopNIn
import Derived.LoopIn
import Derived.Test.YtlapdamopclojaaAskQMath
namespace Go.Proofs.Ytlapdamopclojaa
open Go.RowKit Go.Shelf
attribute [local go_sem] Oper.semAt_some
section
variable {F : Fence} {n : Nat} {P : Program} {ops : Array Oper} {Q : Exit → Act → World → Prop} {rest : List Oper} {a : Act} {w : World} {x y : Operand} {o : Oper}
theorem stopLoadIn (ty : TypeId) (_ho : o.op = .load ty x) (h : Stop (wpListIn F n P ops Q (o :: rest) a w)) : wpListIn F n P ops Q (o :: rest) a w := h
theorem load_part_in (ty : TypeId) (g off m : Nat) (xs : List Int) (t : TypeId) (d : TypeDesc) (hg : Blk w g (tc xs) t) (hgd : o.guard = none) (ho : o.op = .load ty x) (hx : a.eval x = .pointer (some ⟨g, off, none⟩))
    (hu : P.underlying ty = some d) (hd : (match d with | .struct _ | .array _ _ => true | _ => false) = true) (hi : (P.info? ty).map (·.size) = some m) (hfit : off + m ≤ xs.length)
    (hro : F.round = none) (h : wpListIn F n P ops Q rest (a.put o.dst (.agg (tc ((xs.drop off).take m)))) w) : Stop (wpListIn F n P ops Q (o :: rest) a w) := by
  refine wpListIn_plain hgd fun K hK => ?_
  unfold Oper.wpIn
  rw [hro]
  unfold Oper.semAt execOp
  simp only [ho, hx, Instr.loadAt, Instr.sureAddr, Sem.run_bind, Sem.run_pure, Result.andThen_ok, run_loadVar_part w g off m t ty xs d hg hu hd hi hfit]
  refine ⟨fun f hf => ?_, hK _ _ h⟩
  simp [Oper.about, ho] at hf
end
/-- A bucket's number, and how many stand in it and in those ahead of it. -/
abbrev Fb := { x : Nat × Int // x.1 < 8 ∧ 0 ≤ x.2 ∧ x.2 ≤ 8000000000 }
/-- What has come when the first k buckets have been looked at. -/
def Came (H : List Int) (k : Nat) (l : List Fb) : Prop := l.map (·.1) = ((List.range k).filter (fun j => decide (0 < H[j]?.getD 0))).map (fun j => (j, up H (j + 1)))
theorem came_nil (H : List Int) : Came H 0 [] := by simp [Came]
theorem came_yes {H : List Int} {k : Nat} {l : List Fb} (h : Came H k l) (hp : 0 < H[k]?.getD 0) (x : Fb) (hx : x.1 = (k, up H (k + 1))) : Came H (k + 1) (l ++ [x]) := by
  unfold Came at h ⊢
  rw [List.range_succ, List.filter_append, List.map_append, List.map_append, h]
  simp [hp, hx]
theorem came_no {H : List Int} {k : Nat} {l : List Fb} (h : Came H k l) (hp : ¬ 0 < H[k]?.getD 0) : Came H (k + 1) l := by
  unfold Came at h ⊢
  rw [List.range_succ, List.filter_append, List.map_append, h]
  simp [hp]
theorem came_length {H : List Int} {k : Nat} {l : List Fb} (h : Came H k l) : l.length ≤ k := by
  have e := congrArg List.length h
  simp at e
  rw [e]
  have := List.length_filter_le (fun j => decide (0 < H[j]?.getD 0)) (List.range k)
  simpa using this
theorem came_last {H : List Int} : ∀ {k : Nat} {A : List (Nat × Int)} {b : Nat × Int}, ((List.range k).filter (fun j => decide (0 < H[j]?.getD 0))).map (fun j => (j, up H (j + 1))) = A ++ [b] →
    ∃ j, j < k ∧ 0 < H[j]?.getD 0 ∧ b = (j, up H (j + 1)) ∧ A = ((List.range j).filter (fun j => decide (0 < H[j]?.getD 0))).map (fun j => (j, up H (j + 1)))
  | 0, A, b, h => by simp at h
  | k + 1, A, b, h => by
    rw [List.range_succ, List.filter_append, List.map_append] at h
    by_cases hp : 0 < H[k]?.getD 0
    · have e : (List.filter (fun j => decide (0 < H[j]?.getD 0)) [k]).map (fun j => (j, up H (j + 1))) = [(k, up H (k + 1))] := by simp [hp]
      rw [e] at h
      obtain ⟨h1, h2⟩ := List.append_inj' h rfl
      exact ⟨k, by omega, hp, by simpa using h2.symm, h1.symm⟩
    · have e : (List.filter (fun j => decide (0 < H[j]?.getD 0)) [k]).map (fun j => (j, up H (j + 1))) = [] := by simp [hp]
      rw [e, List.append_nil] at h
      obtain ⟨j, hj, r⟩ := came_last h
      exact ⟨j, by omega, r⟩
theorem came_mem {H : List Int} {k : Nat} {l : List Fb} (h : Came H k l) {i : Nat} (hi : i < k) (hp : 0 < H[i]?.getD 0) : ∃ y ∈ l, y.1 = (i, up H (i + 1)) := by
  have e : (i, up H (i + 1)) ∈ l.map (·.1) := by
    rw [h]
    exact List.mem_map.2 ⟨i, List.mem_filter.2 ⟨by simpa using hi, by simpa using hp⟩, rfl⟩
  obtain ⟨y, hy, he⟩ := List.mem_map.1 e
  exact ⟨y, hy, he⟩
theorem quantH_came_none {H : List Int} {p : Int} {l : List Fb} (h : Came H 8 l) (hl : ∀ y ∈ l, y.1.2 * 1000 < p * up H 8) : quantH H p = (0, 0) := by
  refine quantH_none fun i hi => ?_
  by_cases hp : 0 < H[i]?.getD 0
  · obtain ⟨y, hy, e⟩ := came_mem h hi hp
    have := hl y hy
    rw [e] at this
    exact qhit_low (by simp at this; omega)
  · exact qhit_none hp
theorem quantH_came_hit {H : List Int} {p : Int} {k : Nat} {A : List Fb} {x : Fb} (hk : k ≤ 8) (h : Came H k (A ++ [x])) (hl : ∀ y ∈ A, y.1.2 * 1000 < p * up H 8) (hx : p * up H 8 ≤ x.1.2 * 1000) : quantH H p = (lowN x.1.1, highN x.1.1) := by
  have h' := h
  unfold Came at h'
  rw [List.map_append, List.map_cons, List.map_nil] at h'
  obtain ⟨j, hj, hp, e, eA⟩ := came_last h'.symm
  have hA : Came H j A := eA
  rw [e] at hx ⊢
  refine quantH_hit (by omega) (fun i hi => ?_) (qhit_yes hp hx)
  by_cases hq : 0 < H[i]?.getD 0
  · obtain ⟨y, hy, e2⟩ := came_mem hA hi hq
    have := hl y hy
    rw [e2] at this
    exact qhit_low (by simp at this; omega)
  · exact qhit_none hq
set_option maxHeartbeats 1000000 in
theorem filled_any (ys : List Int) (w : World) :
    Calls Try.prog 59 #[.agg (tc ys)] w fun e w' => e = .returned (.func (.func 77) #[] #[.pointer (some ⟨w.heap.size, 0, none⟩)]) ∧ w' = w.alloc (.cells (tc ys) 66) := by
  go_enter Try.func59, Try.ntmps59
  go_wp2
  go_ret
  exact ⟨rfl, rfl⟩
set_option maxRecDepth 100000 in
set_option maxHeartbeats 2000000 in
theorem filled1_in (n : Nat) (hn : 1 ≤ n) (l B n₀ : Nat) (ys : List Int) (hy : ys.length = 28) (hH : Hin ((ys.drop 4).take 8)) (J Jx : List Fb → World → Prop)
    (hY : ∀ pre (x : Fb) W, J pre W → pre.length < 8 → YieldAt Fence.wide (n - 1) Try.prog l #[.int .i64 (x.1.1 : Int), .int .i64 x.1.2] W fun e W' =>
      (e = .returned (.bool true) ∧ J (pre ++ [x]) W' ∧ Below n₀ W W') ∨ (e = .returned (.bool false) ∧ Jx (pre ++ [x]) W'))
    (W : World) (hB : Blk W B (tc ys) 66) (h0 : J [] W) :
    CallsIn Fence.wide n Try.prog 77 #[.func (.yield l) #[] #[], .pointer (some ⟨B, 0, none⟩)] W fun e W' => (∃ v, e = .returned v) ∧
      ((∃ xs, Came ((ys.drop 4).take 8) 8 xs ∧ J xs W') ∨ (∃ pre, (∃ k, k ≤ 8 ∧ Came ((ys.drop 4).take 8) k pre) ∧ Jx pre W')) := by
  refine callsIn_of_wp Try.func77 rfl trivial ?_ rfl
  simp only [Try.ntmps77, List.size_toArray, List.length_cons, List.length_nil, Nat.reduceAdd, Nat.reduceSub, Array.replicate_succ, Array.replicate_zero, List.push_toArray, List.append_toArray, List.nil_append, List.cons_append]
  have HY : Hid (ys.length = 28) := hy
  have HB : Hid (Blk W B (tc ys) 66) := hB
  clear hy hB
  gi_wp2_with (with_reducible refine stopLoadIn 62 rfl ?_)
  refine load_part_in 62 B 4 8 ys 66 _ HB.out rfl rfl rfl Try.underlying62 rfl (by kernel_rfl) (by rw [HY.out]; omega) rfl ?_
  obtain ⟨R, hR⟩ : ∃ R, R = (ys.drop 4).take 8 := ⟨_, rfl⟩
  rw [← hR] at hH ⊢
  have HR : Hid (Hin R) := hH
  have HE : Hid (R = (ys.drop 4).take 8) := hR
  clear hH hR
  gi_wp2
  gi_loopw [3, 8] (fun c i wr => ∃ (k : Nat) (m : Int) (pre : List Fb), k ≤ 8 ∧ i = .int .i64 k ∧ c = .int .i64 m ∧ 0 ≤ m ∧ m ≤ 8000000000 ∧ Hid (m = up R k ∧ Came R k pre) ∧ J pre wr) (fun _ i _ => 8 - (intOf i).toNat)
  case atStart => exact ⟨0, 0, [], by omega, rfl, rfl, by omega, by omega, ⟨(up_zero R).symm, came_nil R⟩, h0⟩
  case round =>
    obtain ⟨k, m, pre, hk, rfl, rfl, m0, m8, HM, hJ⟩ := hrel
    by_cases hlt : k < 8
    · obtain ⟨x, hx⟩ : ∃ x, x = R[k]?.getD 0 := ⟨_, rfl⟩
      have hi : ∀ w, (Instr.index 62 (.agg (tc R)) (.int .i64 k)).run Try.prog w = .ok (.int .i64 x) w := fun w => by
        rw [hx]; exact run_index_int w 62 3 R 8 k HR.out.1 hlt Try.underlying62 Try.underlying3 (fun _ => by simp)
      have hu : up R (k + 1) = m + x := by rw [up_succ (by rw [HR.out.1]; exact hlt), ← hx, ← HM.out.1]
      have HU : Hid (m + x = up R (k + 1)) := hu.symm
      have b1 : 0 ≤ m + x := by have := (HR.out.up (k + 1)).1; omega
      have b2 : m + x ≤ 8000000000 := by have := (HR.out.up (k + 1)).2.2; omega
      have b3 : 0 ≤ x := by rw [hx]; exact (HR.out.at k).1
      have HX : Hid (x = R[k]?.getD 0) := hx
      clear hx hu
      by_cases hp : 0 < x
      · have hpd : decide (0 < x) = true := dec_true hp
        have HC : Hid (Came R (k + 1) (pre ++ [⟨(k, m + x), hlt, b1, b2⟩])) := came_yes HM.out.2 (by rw [← HX.out]; exact hp) _ (by simp [HU.out])
        obtain ⟨fn, tmps, assign, body, hy, hRR⟩ := hY pre ⟨(k, m + x), hlt, b1, b2⟩ wr hJ (by have := came_length HM.out.2; omega)
        dsimp only at hy
        gi_wp2
        refine hRR.mono ?_
        rintro e W3 (⟨rfl, hJ3, hk3⟩ | ⟨rfl, hJx3⟩)
        · gi_wp2
          go_roundw
          case rel => exact ⟨k + 1, m + x, _, by omega, by go_num, by go_num, b1, b2, ⟨HU.out, HC.out⟩, hJ3⟩
          case measure => simp [intOf]; omega
        · gi_wp2
          refine bodyPost_ret (results_none rfl _ _ _) rfl ?_
          exact ⟨⟨_, rfl⟩, .inr ⟨_, ⟨k + 1, by omega, by rw [← HE.out]; exact HC.out⟩, hJx3⟩⟩
      · have hpd : decide (0 < x) = false := dec_false hp
        have HC : Hid (Came R (k + 1) pre) := came_no HM.out.2 (by rw [← HX.out]; exact hp)
        gi_wp2
        refine ⟨fun _ h => (by cases h), ?_⟩
        gi_wp2
        go_roundw
        case rel => exact ⟨k + 1, m + x, pre, by omega, by go_num, by go_num, b1, b2, ⟨HU.out, HC.out⟩, hJ⟩
        case measure => simp [intOf]; omega
    · obtain rfl : k = 8 := by omega
      simp only [Int.cast_ofNat_Int]
      gi_wp2
      go_end0
      exact ⟨⟨_, rfl⟩, .inl ⟨_, by rw [← HE.out]; exact HM.out.2, hJ⟩⟩
theorem filled_stops (n : Nat) (hn : 1 ≤ n) (B n₀ : Nat) (ys : List Int) (hy : ys.length = 28) (hH : Hin ((ys.drop 4).take 8)) (w : World) (hB : Blk w B (tc ys) 66) :
    SeqStopsK Fence.wide n Try.prog 77 #[.pointer (some ⟨B, 0, none⟩)] (fun x : Fb => #[Value.int .i64 (x.1.1 : Int), Value.int .i64 x.1.2]) (Below n₀) (fun xs => Came ((ys.drop 4).take 8) 8 xs)
      (fun pre => ∃ k, k ≤ 8 ∧ Came ((ys.drop 4).take 8) k pre) 8 w := fun l J Jx W hW _ _ hY h0 =>
  filled1_in n hn l B n₀ ys hy hH J Jx hY W (hB.below hW) h0
end Go.Proofs.Ytlapdamopclojaa
