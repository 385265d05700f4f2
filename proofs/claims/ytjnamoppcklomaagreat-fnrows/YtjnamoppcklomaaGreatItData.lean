/- Items and entries, as plain data. No statement of the seat is proved here. -/
import Derived.Test.YtjnamoppcklomaaGreatSkLaw
import Derived.Test.YtjnamoppcklomaaGreatSpOpen
import Derived.Test.YtjnamoppcklomaaGreatPart
namespace Go.Proofs.YtjnamoppcklomaaGreat
open Go.RowKit
structure It where
 seq : Int
 cls : Int
 key : Int
 window : Int
 sk : Sk
 deriving DecidableEq
structure En where
 key : Int
 window : Int
 ids : Sp
 sk : Sk
 deriving DecidableEq
def RdIt (w : World) (v : Value) (x : It) (F : List Nat) : Prop :=
 ∃ a1 n1 c1 a2 n2 c2 a3 n3 c3, v = .agg #[.int .i64 x.seq, .int .i64 x.cls, .int .i64 x.key, .int .i64 x.window, .int .i64 x.sk.count, .int .i64 x.sk.sum, .int .i64 x.sk.min, .int .i64 x.sk.max, .slice a1 n1 c1, .slice a2 n2 c2, .slice a3 n3 c3] ∧
  RdSk w (.agg #[.int .i64 x.sk.count, .int .i64 x.sk.sum, .int .i64 x.sk.min, .int .i64 x.sk.max, .slice a1 n1 c1, .slice a2 n2 c2, .slice a3 n3 c3]) x.sk F
def RdEn (w : World) (v : Value) (e : En) (F G : List Nat) : Prop :=
 ∃ b l c a1 n1 c1 a2 n2 c2 a3 n3 c3, v = .agg #[.int .i64 e.key, .int .i64 e.window, .slice b l c, .int .i64 e.sk.count, .int .i64 e.sk.sum, .int .i64 e.sk.min, .int .i64 e.sk.max, .slice a1 n1 c1, .slice a2 n2 c2, .slice a3 n3 c3] ∧
  RdP w b l e.ids F ∧ RdSk w (.agg #[.int .i64 e.sk.count, .int .i64 e.sk.sum, .int .i64 e.sk.min, .int .i64 e.sk.max, .slice a1 n1 c1, .slice a2 n2 c2, .slice a3 n3 c3]) e.sk G ∧ Capd b l c
theorem RdIt.agree {w w' : World} {v : Value} {x : It} {F : List Nat} (h : RdIt w v x F) (ha : Agree w w' F) : RdIt w' v x F := by
 obtain ⟨a1, n1, c1, a2, n2, c2, a3, n3, c3, hv, hr⟩ := h
 exact ⟨a1, n1, c1, a2, n2, c2, a3, n3, c3, hv, hr.agree ha⟩
theorem RdIt.lt {w : World} {v : Value} {x : It} {F : List Nat} (h : RdIt w v x F) : ∀ b ∈ F, b < w.heap.size := by
 obtain ⟨a1, n1, c1, a2, n2, c2, a3, n3, c3, hv, hr⟩ := h
 exact hr.lt
theorem RdIt.below {w w' : World} {v : Value} {x : It} {F : List Nat} (h : RdIt w v x F) (hb : Below w.heap.size w w') : RdIt w' v x F := h.agree (.below hb h.lt)
theorem RdEn.agree {w w' : World} {v : Value} {e : En} {F G : List Nat} (h : RdEn w v e F G) (ha : Agree w w' F) (hg : Agree w w' G) : RdEn w' v e F G := by
 obtain ⟨b, l, c, a1, n1, c1, a2, n2, c2, a3, n3, c3, hv, hp, hr, hcp⟩ := h
 exact ⟨b, l, c, a1, n1, c1, a2, n2, c2, a3, n3, c3, hv, hp.agree ha, hr.agree hg, hcp⟩
theorem RdEn.lt1 {w : World} {v : Value} {e : En} {F G : List Nat} (h : RdEn w v e F G) : ∀ b ∈ F, b < w.heap.size := by
 obtain ⟨b, l, c, a1, n1, c1, a2, n2, c2, a3, n3, c3, hv, hp, hr, _⟩ := h
 exact hp.lt
theorem RdEn.lt2 {w : World} {v : Value} {e : En} {F G : List Nat} (h : RdEn w v e F G) : ∀ b ∈ G, b < w.heap.size := by
 obtain ⟨b, l, c, a1, n1, c1, a2, n2, c2, a3, n3, c3, hv, hp, hr, _⟩ := h
 exact hr.lt
theorem RdEn.below {w w' : World} {v : Value} {e : En} {F G : List Nat} (h : RdEn w v e F G) (hb : Below w.heap.size w w') : RdEn w' v e F G := h.agree (.below hb h.lt1) (.below hb h.lt2)
def NewEn (w : World) (x : En) (e : Ending) (w' : World) : Prop := ∃ v F G, e = .returned v ∧ RdEn w' v x F G ∧ Own w.heap.size w' F ∧ Own w.heap.size w' G ∧ (∀ b ∈ F, b ∉ G) ∧ Below w.heap.size w w'
def NewEn2 (w : World) (x : En) (d : Bool) (e : Ending) (w' : World) : Prop := ∃ v F G, e = .returned (.tuple #[v, .bool d]) ∧ RdEn w' v x F G ∧ Own w.heap.size w' F ∧ Own w.heap.size w' G ∧ (∀ b ∈ F, b ∉ G) ∧ Below w.heap.size w w'
theorem En.eq_of {x y : En} (h1 : x.key = y.key) (h2 : x.window = y.window) (h3 : x.ids = y.ids) (h4 : x.sk = y.sk) : x = y := by
 cases x; cases y; simp_all
end Go.Proofs.YtjnamoppcklomaaGreat
