/- The two texts that every statement of the layer parses: their trees, by reckoning. Of no program. -/
import Derived.Test.YtoedeedoecdajaaDoorTreeErr
import Derived.Test.YtoedeedoecdajaaDoorTreeSame
import Derived.Test.YtoedeedoecdajaaDoorProg
namespace Go.Proofs.YtoedeedoecdajaaDoor

def awText : List UInt8 := [100, 97, 116, 97, 32, 67, 32, 49, 59, 32, 102, 32, 61, 32, 92, 32, 120, 32, 45, 62, 32, 99, 97, 115, 101, 32, 120, 32, 111, 102, 32, 123, 32, 67, 32, 121, 32, 45, 62, 32, 121, 59, 32, 51, 32, 45, 62, 32, 103, 32, 120, 32, 49, 59, 32, 122, 32, 45, 62, 32, 67, 32, 122, 59, 32, 125, 59]
def awAlts : List A := [.mk 1 33 [67] 0 [[121]] (.mk 1 40 [121] 0 [] [] [] []), .mk 2 43 [] 3 [] (.mk 1 48 [103] 0 [⟨[120], 0⟩, ⟨[], 1⟩] [] [] []), .mk 3 55 [122] 0 [] (.mk 2 60 [67] 0 [⟨[122], 0⟩] [] [] [])]
def awBind : B := .mk [102] 10 [[120]] (.mk 6 21 [] 0 [] [] [.mk 1 26 [120] 0 [] [] [] []] awAlts)
theorem aw_parse : parseT awText = .ok ⟨[⟨[67], 1, 5⟩], [awBind]⟩ := by kernel_rfl
theorem aw_short : parseT [102, 32, 61, 32, 120] = .error (5, 23) := by kernel_rfl
theorem aw_size : sizeP ⟨[⟨[67], 1, 5⟩], [awBind]⟩ = 5 := by kernel_rfl

end Go.Proofs.YtoedeedoecdajaaDoor
