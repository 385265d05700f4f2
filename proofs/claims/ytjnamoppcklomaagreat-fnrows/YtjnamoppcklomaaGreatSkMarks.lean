/- The walks through the helpers of the laws that mark a summary and look whether the marks still stand. No statement of the seat is proved here. -/
import Derived.Test.YtjnamoppcklomaaGreatSk
import Derived.Test.YtjnamoppcklomaaGreatIntMarks
namespace Go.Proofs.YtjnamoppcklomaaGreat
open Go.RowKit
def Sk.many (s : Sk) : Int := s.hist.length + s.regs.length + sumLen s.rows
section
variable {B : Nat} {w W W' : World} {A : Array Value} {t : TypeId} {a1 a2 a3 : Option Addr} {n1 n2 n3 : Nat} {z1 z2 : List Int} {z3 : List (List Int)} {F1 F2 F3 : List Nat} {k : Int}
end
end Go.Proofs.YtjnamoppcklomaaGreat
