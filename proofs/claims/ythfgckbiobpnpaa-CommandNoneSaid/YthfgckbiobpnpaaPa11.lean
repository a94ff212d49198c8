/- Layer 10 (command): what the document fixes, of a whole world: awake; and the laws of the rules and of objects that no call made. -/
import Derived.Test.YthfgckbiobpnpaaProg
import Derived.Test.YthfgckbiobpnpaaPa10
namespace Go.Proofs.Ythfgckbiobpnpaa.Cm
open Go Go.Proofs.Ythfgckbiobpnpaa.Sx Go.RowKit

def CT : Tb := { tab := fun _ _ _ _ => True }
def K : LK := .sc (.i .i64)
def cAwake := ctrVal 16 [] [] (.b .tt) []
set_option maxHeartbeats 4000000 in
theorem awake_ok : CtrOk CT.open Try.prog cAwake := auto_val (TT := CT.open) (Γ := {}) (by simp) 2000 rfl (by kernel_rfl)
/-- What a law says of a call. -/
def Law (f : FuncId) (aks : List AK) (F : List E) : Prop := ∀ ρ w, holds ρ F → CT.tab ρ.g ρ.h ρ.k ρ.m → RowsAt ρ w aks → Calls Try.prog f (arr ρ (patAs 0 aks)) w fun e w' => e = .returned (.bool true) ∧ Below w.heap.size w w'
def rulesK : List AK := [.ag [K, K, K], .one K]
def noneK : List AK := [.one K, .ag [K, K, K]]
set_option maxHeartbeats 4000000 in
theorem rules_law : Law 3 rulesK [] := fun ρ w hF hT hR =>
  val_rest (TT := CT) decB_ok (Γ := { calls := [cAwake] }) (by simpa using awake_ok) 2000 rulesK [] (.b .tt) rfl [] (by kernel_rfl) ρ w hF hT hR trivial
set_option maxHeartbeats 4000000 in
theorem none_law : Law 10 noneK [] := fun ρ w hF hT hR =>
  val_rest (TT := CT) decB_ok (Γ := { calls := [cAwake] }) (by simpa using awake_ok) 2000 noneK [] (.b .tt) rfl [] (by kernel_rfl) ρ w hF hT hR trivial
end Go.Proofs.Ythfgckbiobpnpaa.Cm
