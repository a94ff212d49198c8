/- Layer 11 (care): the law of tides: runs (0). -/
import Derived.Test.YtekikddpdbgkdaaGreatDoorPb0
namespace Go.Proofs.YtekikddpdbgkdaaGreatDoor.Ca
open Go Go.Proofs.YtekikddpdbgkdaaGreatDoor.Sx Go.RowKit
set_option maxHeartbeats 4000000 in
theorem run_000 : runT (someT ++ moreT ++ ([.lt atE aE, .not (offE5 atE)] ++ [.le aE (.v 6)] ++ [.le endE5 bE])) = true := by kernel_rfl
set_option maxHeartbeats 4000000 in
theorem run_001 : runT (someT ++ moreT ++ ([.lt atE aE, .not (offE5 atE)] ++ [.le aE (.v 6)] ++ ([.lt bE endE5, .not (offE5 (.add bE (.c 1)))] ++ offAt (.add bE (.c 1))))) = true := by kernel_rfl
set_option maxHeartbeats 4000000 in
theorem run_010 : runT (someT ++ moreT ++ ([.lt atE aE, .not (offE5 atE)] ++ ([.lt (.v 6) aE, .not (offE5 (.sub aE (.c 1)))] ++ offAt (.sub aE (.c 1))) ++ [.le endE5 bE])) = true := by kernel_rfl
set_option maxHeartbeats 4000000 in
theorem run_011 : runT (someT ++ moreT ++ ([.lt atE aE, .not (offE5 atE)] ++ ([.lt (.v 6) aE, .not (offE5 (.sub aE (.c 1)))] ++ offAt (.sub aE (.c 1))) ++ ([.lt bE endE5, .not (offE5 (.add bE (.c 1)))] ++ offAt (.add bE (.c 1))))) = true := by kernel_rfl
end Go.Proofs.YtekikddpdbgkdaaGreatDoor.Ca
