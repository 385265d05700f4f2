/- The walks through the model's SetJoin. No statement of the seat is proved here. -/
import Derived.Test.YthimjmkdcocofaaSpJoin
namespace Go.Proofs.Ythimjmkdcocofaa
open Go.RowKit
theorem Sp.at_mem {ps : Sp} {k : Nat} (hk : k < ps.length) : ps.at k ∈ ps := by
  unfold Sp.at
  rw [List.getElem?_eq_getElem hk]
  exact List.getElem_mem hk
theorem inb_iff {ps : Sp} : (∀ k, k < ps.length → InB (ps.at k)) ↔ ∀ p ∈ ps, InB p := by
  constructor
  · intro h p hp
    obtain ⟨k, hk, rfl⟩ := List.getElem_of_mem hp
    have := h k hk
    unfold Sp.at at this
    rw [List.getElem?_eq_getElem hk] at this
    exact this
  · exact fun h k hk => h _ (Sp.at_mem hk)
theorem put_inb : ∀ {ps : Sp} {x : Int × Int} {d : Bool}, (∀ p ∈ ps, InB p) → InB x → ∀ p ∈ put ps x d, InB p
  | [], x, d, _, hx, p, hp => by
    cases d <;> simp [put] at hp
    subst hp; exact hx
  | q :: ps, x, d, h, hx, p, hp => by
    have hq := h q (by simp)
    have hr : ∀ p ∈ ps, InB p := fun p hp => h p (by simp [hp])
    rw [put] at hp
    split at hp
    · rcases List.mem_cons.1 hp with rfl | hp
      · exact hq
      · exact put_inb hr hx p hp
    · split at hp
      · rcases List.mem_append.1 hp with hp | hp
        · cases d <;> simp at hp
          subst hp; exact hx
        · rcases List.mem_cons.1 hp with rfl | hp
          · exact hq
          · exact put_inb hr hx p hp
      · exact put_inb hr (by unfold InB at hq hx ⊢; simp only; omega) p hp
def joinTo (ps qs : Sp) (k : Nat) : Sp := (qs.take k).foldl (fun o q => put o q false) ps
theorem joinTo_zero (ps qs : Sp) : joinTo ps qs 0 = ps := by simp [joinTo]
theorem joinTo_succ {ps qs : Sp} {k : Nat} (hk : k < qs.length) : joinTo ps qs (k + 1) = put (joinTo ps qs k) (qs.at k) false := by
  unfold joinTo
  rw [takeP_succ qs k hk, List.foldl_append]
  rfl
theorem joinTo_inb {ps qs : Sp} (h1 : ∀ p ∈ ps, InB p) (h2 : ∀ p ∈ qs, InB p) : ∀ k, k ≤ qs.length → ∀ p ∈ joinTo ps qs k, InB p
  | 0, _ => by rw [joinTo_zero]; exact h1
  | k + 1, hk => by
    rw [joinTo_succ (by omega)]
    exact put_inb (joinTo_inb h1 h2 k (by omega)) (h2 _ (Sp.at_mem (by omega)))
theorem joinTo_length {ps qs : Sp} : ∀ k, k ≤ qs.length → (joinTo ps qs k).length ≤ ps.length + k
  | 0, _ => by rw [joinTo_zero]; omega
  | k + 1, hk => by
    rw [joinTo_succ (by omega)]
    have := put_length (joinTo ps qs k) (qs.at k) false
    have := joinTo_length (ps := ps) (qs := qs) k (by omega)
    omega
def Sp.join (ps qs : Sp) : Sp := if (ps.ok && qs.ok) = true then joinTo ps qs qs.length else []
theorem Sp.join_not {ps qs : Sp} (h : (ps.ok && qs.ok) = false) : ps.join qs = [] := by unfold Sp.join; rw [h]; rfl
theorem Sp.join_yes {ps qs : Sp} (h1 : ps.ok = true) (h2 : qs.ok = true) : ps.join qs = joinTo ps qs qs.length := by unfold Sp.join; rw [h1, h2]; rfl
end Go.Proofs.Ythimjmkdcocofaa
