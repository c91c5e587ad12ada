/-
  The law's awake: fixed examples.
-/
import Derived.Test.YtalhkoolpnmcdaaBl
namespace Go.Proofs.Ytalhkoolpnmcdaa
open Go.RowKit

def adm : List UInt8 := [97, 100, 109]
def ann : List UInt8 := [97, 110, 110]
def bob : List UInt8 := [98, 111, 98]
def A1 : TT := (2, [rootN adm 493 5])
def C2 : TT × Int × Int := createT A1 1 [100] 2147484159 ann adm 6
def C3 : TT × Int × Int := createT C2.1 2 [102] 420 ann adm 7
def C4 : TT × Int × Int := writeT C3.1 3 2 [97, 98] bob 8
theorem vld1 : Vld A1.1 A1.2 := newT_vld adm 493 5
theorem vld2 : Vld C2.1.1 C2.1.2 := create_vld vld1 _ _ _ _ _ _
theorem vld3 : Vld C3.1.1 C3.1.2 := create_vld vld2 _ _ _ _ _ _
theorem vld4 : Vld C4.1.1 C4.1.2 := write_vld vld3 _ _ _ _ _
theorem c2_res : C2.2.1 = 2 ∧ C2.2.2 = 0 := by decide
theorem c3_res : C3.2.1 = 3 ∧ C3.2.2 = 0 := by decide
theorem c4_res : C4.2.1 = 2 ∧ C4.2.2 = 0 := by decide
theorem r4_res : readT C4.1.2 3 1 2 = ([0, 97], 0) := by decide
theorem p4_res : pathT C4.1.2 3 = ([47, 100, 47, 102], 0) := by decide
theorem n4_res : hasN C4.1.2 1 = true ∧ (nodeN C4.1.2 1).ve = 1 ∧ (nodeN C4.1.2 1).mu = ann ∧ (nodeN C4.1.2 1).mo = 2147484141 := by decide
end Go.Proofs.Ytalhkoolpnmcdaa
