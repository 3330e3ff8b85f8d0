/-
  The walk of LeaseEnds. Conditions: the table of bounds lies as the text lays it.
-/
import Derived.Test.YtljgjehecaiohaaDoorLeEndsNear
import Derived.Test.YtljgjehecaiohaaDoorLeEndsFar
import Derived.Test.YtljgjehecaiohaaDoorLeEndsNo
namespace Go.Proofs.YtljgjehecaiohaaDoor
open Go.RowKit Le
section
variable {s n t f : Int} {w : World}
theorem leEnds_any (hb : BndAt w) : Calls Tryd.prog 8 #[.int .i64 s, .int .i64 n, .agg #[.int .i64 t, .int .i64 f]] w (Tlb true w) := by
  by_cases hv : Valid s n
  · by_cases hm : n ≤ 1099511626876
    · exact leEndsNear hb hv hm
    · exact leEndsFar hb hv hm
  · exact leEndsNo hb hv
end
end Go.Proofs.YtljgjehecaiohaaDoor
