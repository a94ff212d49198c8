/- Layer 11 (care): the law of tides: runs (2). -/
import Derived.Test.YtekikddpdbgkdaaGreatDoorPb0
namespace Go.Proofs.YtekikddpdbgkdaaGreatDoor.Ca
open Go Go.Proofs.YtekikddpdbgkdaaGreatDoor.Sx Go.RowKit
set_option maxHeartbeats 4000000 in
theorem run_200 : runT (someT ++ moreT ++ ([.le aE atE, .lt bE atE] ++ [.le aE (.v 6)] ++ [.le endE5 bE])) = true := by kernel_rfl
set_option maxHeartbeats 4000000 in
theorem run_201 : runT (someT ++ moreT ++ ([.le aE atE, .lt bE atE] ++ [.le aE (.v 6)] ++ ([.lt bE endE5, .not (offE5 (.add bE (.c 1)))] ++ offAt (.add bE (.c 1))))) = true := by kernel_rfl
set_option maxHeartbeats 4000000 in
theorem run_210 : runT (someT ++ moreT ++ ([.le aE atE, .lt bE atE] ++ ([.lt (.v 6) aE, .not (offE5 (.sub aE (.c 1)))] ++ offAt (.sub aE (.c 1))) ++ [.le endE5 bE])) = true := by kernel_rfl
set_option maxHeartbeats 4000000 in
theorem run_211 : runT (someT ++ moreT ++ ([.le aE atE, .lt bE atE] ++ ([.lt (.v 6) aE, .not (offE5 (.sub aE (.c 1)))] ++ offAt (.sub aE (.c 1))) ++ ([.lt bE endE5, .not (offE5 (.add bE (.c 1)))] ++ offAt (.add bE (.c 1))))) = true := by kernel_rfl
end Go.Proofs.YtekikddpdbgkdaaGreatDoor.Ca
