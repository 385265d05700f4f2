/- The walk through the program's GetNum: it defers, it calls readNum, it recovers. No statement of the seat is proved here. -/
import Derived.Test.YtgoalcakfaellaaReadNum
namespace Go.Proofs.Ytgoalcakfaellaa
open Go.RowKit

theorem read_no (a : Option Addr) (len cap : Nat) (p : Int) (zs : List Int) (w : World) (h : RdB w a len zs) (hlen : len ≤ 1048576) (hcap : len ≤ cap) (ha : a = none → cap = 0) (hres : res zs p = none) :
    Calls Try.prog 19 #[.slice a len cap, .int .i64 p] w fun e w' => e = .panicked [{ v := .iface 9 (.string ⟨#[110, 111, 32, 110, 117, 109, 98, 101, 114]⟩), recovered := false }] ∧ w' = w := by
  have := read_any a len cap p zs w h hlen hcap ha
  rw [hres] at this
  exact this
theorem read_yes (a : Option Addr) (len cap : Nat) (p n : Int) (u : Nat) (zs : List Int) (w : World) (h : RdB w a len zs) (hlen : len ≤ 1048576) (hcap : len ≤ cap) (ha : a = none → cap = 0) (hres : res zs p = some (n, u)) :
    Calls Try.prog 19 #[.slice a len cap, .int .i64 p] w fun e w' => e = .returned (.tuple #[.int .i64 n, .int .i64 (p + u)]) ∧ w' = w := by
  have := read_any a len cap p zs w h hlen hcap ha
  rw [hres] at this
  exact this

theorem below3 (w : World) (a b c : Obj) : Below w.heap.size w (((w.alloc a).alloc b).alloc c) :=
  (((Below.refl _ _).alloc (Nat.le_refl _) _).alloc (by simp) _).alloc (by simp; omega) _

set_option maxHeartbeats 800000 in
theorem getImpl_no (a : Option Addr) (len cap : Nat) (p : Int) (zs : List Int) (w : World) (h : RdB w a len zs) (hlen : len ≤ 1048576) (hcap : len ≤ cap) (ha : a = none → cap = 0) (hres : res zs p = none) :
    Calls Try.prog 10 #[.slice a len cap, .int .i64 p] w fun e w' => e = .returned (.tuple #[.int .i64 0, .int .i64 0, .bool false]) ∧ Below w.heap.size w w' := by
  have hmf : ∀ (fn : Fn) (first cap : Array Value) (w : World), (Instr.makeFunc fn first cap).run Try.prog w = .ok (.func fn first cap) w := fun _ _ _ _ => rfl
  have HR : Hid (RdB w a len zs) := h
  have Hres : Hid (res zs p = none) := hres
  clear h hres
  go_enter_defers Try.func10, Try.ntmps10
  go_wp2_with fail
  refine (read_no a len cap p zs _ (HR.out.below (below3 _ _ _ _)) hlen hcap ha Hres.out).mono ?_
  rintro e w1 ⟨rfl, rfl⟩
  go_wp2
  refine leaves_cons (f := 18) (args := #[.pointer (some ⟨w.heap.size, 0, none⟩), .pointer (some ⟨w.heap.size + 1, 0, none⟩), .pointer (some ⟨w.heap.size + 2, 0, none⟩)]) (by simp) (by simp [go_sem]) ?_
  refine (catch_panicking ⟨w.heap.size, 0, none⟩ ⟨w.heap.size + 1, 0, none⟩ ⟨w.heap.size + 2, 0, none⟩ (.int .i64 0) (.int .i64 0) (.bool false) _ _ [] _ (by simp) (by simp) (by simp) ?_ ?_ ?_ ?_ ?_ ?_).mono ?_
  · simp [go_sem]
  · simp [go_sem]
  · simp [go_sem]
  · simp [go_sem]
  · simp [go_sem]
  · simp [go_sem]
  rintro e u' w2 ⟨rfl, rfl, rfl⟩
  clear HR Hres hmf
  simp [Leaves, settle, results, Try.results10, go_sem]
  exact below3 _ _ _ _

set_option maxHeartbeats 800000 in
theorem getImpl_yes (a : Option Addr) (len cap : Nat) (p n : Int) (u : Nat) (zs : List Int) (w : World) (h : RdB w a len zs) (hlen : len ≤ 1048576) (hcap : len ≤ cap) (ha : a = none → cap = 0) (hres : res zs p = some (n, u)) :
    Calls Try.prog 10 #[.slice a len cap, .int .i64 p] w fun e w' => e = .returned (.tuple #[.int .i64 n, .int .i64 (p + u), .bool true]) ∧ Below w.heap.size w w' := by
  have hmf : ∀ (fn : Fn) (first cap : Array Value) (w : World), (Instr.makeFunc fn first cap).run Try.prog w = .ok (.func fn first cap) w := fun _ _ _ _ => rfl
  have HR : Hid (RdB w a len zs) := h
  have Hres : Hid (res zs p = some (n, u)) := hres
  clear h hres
  go_enter_defers Try.func10, Try.ntmps10
  go_wp2_with fail
  refine (read_yes a len cap p n u zs _ (HR.out.below (below3 _ _ _ _)) hlen hcap ha Hres.out).mono ?_
  rintro e w1 ⟨rfl, rfl⟩
  clear HR Hres
  go_wp2
  go_region
  all_goals (try go_wp2)
  all_goals
    refine leaves_cons (f := 18) (args := #[.pointer (some ⟨w.heap.size, 0, none⟩), .pointer (some ⟨w.heap.size + 1, 0, none⟩), .pointer (some ⟨w.heap.size + 2, 0, none⟩)]) (by simp) (by simp [go_sem]) ?_
    refine (catch_idle _ _ _ _).mono ?_
    rintro e u' w2 ⟨rfl, rfl, rfl⟩
    simp [Leaves, settle, results, Try.results10, go_sem]
    exact (below3 _ _ _ _).drew

theorem getImpl_any (a : Option Addr) (len cap : Nat) (p : Int) (zs : List Int) (w : World) (h : RdB w a len zs) (hlen : len ≤ 1048576) (hcap : len ≤ cap) (ha : a = none → cap = 0) :
    Calls Try.prog 10 #[.slice a len cap, .int .i64 p] w fun e w' => e = .returned (out3 (res zs p) p) ∧ Below w.heap.size w w' := by
  cases hr : res zs p with
  | none => exact getImpl_no a len cap p zs w h hlen hcap ha hr
  | some x => exact getImpl_yes a len cap p x.1 x.2 zs w h hlen hcap ha hr
end Go.Proofs.Ytgoalcakfaellaa
