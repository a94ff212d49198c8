/- Layer 11 (care): the law of tides: runs (1). -/
import Derived.Test.YtekikddpdbgkdaaGreatDoorPb0
namespace Go.Proofs.YtekikddpdbgkdaaGreatDoor.Ca
open Go Go.Proofs.YtekikddpdbgkdaaGreatDoor.Sx Go.RowKit
set_option maxHeartbeats 4000000 in
theorem run_100 : runT (someT ++ moreT ++ ([.le aE atE, .le atE bE, offE5 atE] ++ [.le aE (.v 6)] ++ [.le endE5 bE])) = true := by kernel_rfl
set_option maxHeartbeats 4000000 in
theorem run_101 : runT (someT ++ moreT ++ ([.le aE atE, .le atE bE, offE5 atE] ++ [.le aE (.v 6)] ++ ([.lt bE endE5, .not (offE5 (.add bE (.c 1)))] ++ offAt (.add bE (.c 1))))) = true := by kernel_rfl
set_option maxHeartbeats 4000000 in
theorem run_110 : runT (someT ++ moreT ++ ([.le aE atE, .le atE bE, offE5 atE] ++ ([.lt (.v 6) aE, .not (offE5 (.sub aE (.c 1)))] ++ offAt (.sub aE (.c 1))) ++ [.le endE5 bE])) = true := by kernel_rfl
set_option maxHeartbeats 4000000 in
theorem run_111 : runT (someT ++ moreT ++ ([.le aE atE, .le atE bE, offE5 atE] ++ ([.lt (.v 6) aE, .not (offE5 (.sub aE (.c 1)))] ++ offAt (.sub aE (.c 1))) ++ ([.lt bE endE5, .not (offE5 (.add bE (.c 1)))] ++ offAt (.add bE (.c 1))))) = true := by kernel_rfl
end Go.Proofs.YtekikddpdbgkdaaGreatDoor.Ca
