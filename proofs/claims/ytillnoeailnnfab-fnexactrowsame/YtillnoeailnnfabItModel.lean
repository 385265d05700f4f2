/- The walks through the model's IdOf, ItemOk, EntryOk. No statement of the seat is proved here. -/
import Derived.Test.YtillnoeailnnfabItHelp2
import Derived.Test.YtillnoeailnnfabSpModel
import Derived.Test.YtillnoeailnnfabSkOk
namespace Go.Proofs.Ytillnoeailnnfab
open Go.RowKit
def idOf (a s : Int) : Int := if (0 ≤ a ∧ a ≤ 2) ∧ 1 ≤ s ∧ s ≤ 60 then 100 * a + s else -1
def placeOk (k w : Int) : Bool := decide (0 ≤ k ∧ k ≤ 4) && decide (0 ≤ w ∧ w ≤ 20)
def It.ok (x : It) : Bool := decide (1 ≤ x.seq ∧ x.seq ≤ 60) && decide (0 ≤ x.cls ∧ x.cls ≤ 1) && placeOk x.key x.window && x.sk.ok
def En.ok (x : En) : Bool := placeOk x.key x.window && decide (0 < x.ids.length) && x.ids.ok && x.sk.ok
def En.zero : En := ⟨0, 0, [], Sk.zero⟩
theorem rdEn_zero (W : World) : RdEn W (.agg #[.int .i64 0, .int .i64 0, .slice none 0 0, .int .i64 0, .int .i64 0, .int .i64 0, .int .i64 0, .slice none 0 0, .slice none 0 0, .slice none 0 0]) En.zero [] [] :=
  ⟨none, 0, 0, none, 0, 0, none, 0, 0, none, 0, 0, rfl, RdP.nil, ⟨none, 0, 0, none, 0, 0, none, 0, 0, [], [], [], rfl, ⟨rfl, .inl ⟨rfl, rfl⟩⟩, ⟨rfl, .inl ⟨rfl, rfl⟩⟩, ⟨rfl, .inl ⟨rfl, rfl⟩⟩, rfl⟩, fun _ => rfl, Nat.le_refl _⟩
theorem infoEnA : (Try.prog.info? 42).map (·.size) = some 10 := by kernel_rfl
theorem En.ok_sk {x : En} (h : x.ok = true) : x.sk.ok = true := by
  unfold En.ok at h
  simp only [Bool.and_eq_true] at h
  exact h.2
end Go.Proofs.Ytillnoeailnnfab
