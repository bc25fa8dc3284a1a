/- Plain: the examples of the document. Conditions: none. -/
import Derived.Test.YtkedhnahgpmkaaaTyPut
import Derived.Test.YtkedhnahgpmkaaaTySpine
namespace Go.Proofs.Ytkedhnahgpmkaaa
open Go.RowKit

namespace Ty
def tVar (n : Int) : Ty := .mk 1 n [] []
def tInt : Ty := .mk 2 0 [73, 110, 116] []
def tVec : Ty := .mk 2 0 [86, 101, 99] []
def tZ : Ty := .mk 2 0 [39, 90] []
theorem ex_proper : isProper (arrow (tVar 1) (tVar 0)) = true := by decide +kernel
theorem ex_propers : propersT [tInt] = true := by decide +kernel
theorem ex_put : isProper (putT [tInt] (arrow (tVar 1) (tVar 0))) = true := by decide +kernel
theorem ex_same : same (putT [tInt] (arrow (tVar 1) (tVar 0))) (arrow (tVar 0) tInt) = true := by decide +kernel
theorem ex_vec : isProper (applyT tVec [tVar 0, tZ]) = true := by decide +kernel
theorem ex_spine : SpineR (applyT tVec [tVar 0, tZ]) tVec [tZ, tVar 0] := .app _ _ _ _ (.app _ _ _ _ (.done _ (by decide)))
theorem ex_same2 : same tVec tVec = true := by decide +kernel
theorem ex_same3 : same tZ tZ = true := by decide +kernel

end Ty
end Go.Proofs.Ytkedhnahgpmkaaa
