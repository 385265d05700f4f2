/- Frames, as plain data. No statement of the seat is proved here. -/
import Derived.Test.YtgkbhhlkaifnoaaItHelp2
namespace Go.Proofs.Ytgkbhhlkaifnoaa
open Go.RowKit
structure Fr where
  kind : Int
  agent : Int
  epoch : Int
  granted : Int
  taken : Sp
  item : It
  deriving DecidableEq
/-- A frame's value that can be read; F: its set's block, G: its item's. -/
def RdFr (w : World) (v : Value) (e : Fr) (F G : List Nat) : Prop :=
  ∃ b l c a1 n1 c1 a2 n2 c2 a3 n3 c3, v = .agg #[.int .i64 e.kind, .int .i64 e.agent, .int .i64 e.epoch, .int .i64 e.granted, .slice b l c, .int .i64 e.item.seq, .int .i64 e.item.cls, .int .i64 e.item.key, .int .i64 e.item.window, .int .i64 e.item.sk.count, .int .i64 e.item.sk.sum, .int .i64 e.item.sk.min, .int .i64 e.item.sk.max, .slice a1 n1 c1, .slice a2 n2 c2, .slice a3 n3 c3] ∧
    RdP w b l e.taken F ∧ RdIt w (.agg #[.int .i64 e.item.seq, .int .i64 e.item.cls, .int .i64 e.item.key, .int .i64 e.item.window, .int .i64 e.item.sk.count, .int .i64 e.item.sk.sum, .int .i64 e.item.sk.min, .int .i64 e.item.sk.max, .slice a1 n1 c1, .slice a2 n2 c2, .slice a3 n3 c3]) e.item G ∧ Capd b l c
theorem RdFr.agree {w w' : World} {v : Value} {e : Fr} {F G : List Nat} (h : RdFr w v e F G) (ha : Agree w w' F) (hg : Agree w w' G) : RdFr w' v e F G := by
  obtain ⟨b, l, c, a1, n1, c1, a2, n2, c2, a3, n3, c3, hv, hp, hr, hcp⟩ := h
  exact ⟨b, l, c, a1, n1, c1, a2, n2, c2, a3, n3, c3, hv, hp.agree ha, hr.agree hg, hcp⟩
theorem RdFr.lt1 {w : World} {v : Value} {e : Fr} {F G : List Nat} (h : RdFr w v e F G) : ∀ b ∈ F, b < w.heap.size := by
  obtain ⟨b, l, c, a1, n1, c1, a2, n2, c2, a3, n3, c3, hv, hp, hr, _⟩ := h
  exact hp.lt
theorem RdFr.lt2 {w : World} {v : Value} {e : Fr} {F G : List Nat} (h : RdFr w v e F G) : ∀ b ∈ G, b < w.heap.size := by
  obtain ⟨b, l, c, a1, n1, c1, a2, n2, c2, a3, n3, c3, hv, hp, hr, _⟩ := h
  exact hr.lt
theorem RdFr.below {w w' : World} {v : Value} {e : Fr} {F G : List Nat} (h : RdFr w v e F G) (hb : Below w.heap.size w w') : RdFr w' v e F G := h.agree (.below hb h.lt1) (.below hb h.lt2)
theorem Fr.eq_of {x y : Fr} (h1 : x.kind = y.kind) (h2 : x.agent = y.agent) (h3 : x.epoch = y.epoch) (h4 : x.granted = y.granted) (h5 : x.taken = y.taken) (h6 : x.item = y.item) : x = y := by
  cases x; cases y; simp_all
theorem RdIt.cells11 {w : World} {v : Value} {x : It} {F : List Nat} (h : RdIt w v x F) : ∃ a1 n1 c1 a2 n2 c2 a3 n3 c3, v = .agg #[.int .i64 x.seq, .int .i64 x.cls, .int .i64 x.key, .int .i64 x.window, .int .i64 x.sk.count, .int .i64 x.sk.sum, .int .i64 x.sk.min, .int .i64 x.sk.max, .slice a1 n1 c1, .slice a2 n2 c2, .slice a3 n3 c3] := by
  obtain ⟨a1, n1, c1, a2, n2, c2, a3, n3, c3, rfl, _⟩ := h
  exact ⟨a1, n1, c1, a2, n2, c2, a3, n3, c3, rfl⟩
theorem infoItA7 : (Try.prog.info? 36).map (·.size) = some 11 := by kernel_rfl
end Go.Proofs.Ytgkbhhlkaifnoaa
