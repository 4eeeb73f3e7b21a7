/- What StoreNone asks of. For every input the call returns true and leaves what it was given as it was: no cache does nothing; which caches may be; a record that may not be, or is not the next one, changes nothing (StoreNone). No condition. -/
import Derived.Test.YtniniaokibnhfaaGreatKit
import Derived.Test.YtniniaokibnhfaaGreatStoreNil
namespace Go.Proofs.YtniniaokibnhfaaGreat.Storey
open Go.ChangeShapes Go.WideShapes Go.ChangeAt Go.RowKit
open Wirey (Blk Row str str_size str_list Kp)
open Taby (En TabAt Tbl tp find ins drop size ended St)
open Policyy (Pv HeldP StepP Tell)
open Ringy (Key)
open Regy

section
variable {w0 w w' w'' : World} {B b T M C S : Nat} {H H' : Nat → Prop} {s t : Sv} {k : Key} {v : Value} {l : List Key} {o : Opn} {x : Rcd}
def no0 : Sv := Sv.new 1 1 1 0
theorem no0_ok : no0.Ok := Sv.new_ok (.inl rfl) (by decide) (by decide) (by decide) (by decide) (by decide)
theorem no1 : no0.apply ⟨1, 0, 0, 0, ⟨0, [], [], 0, 0⟩⟩ = (no0, .of 0, 1) := by rfl
theorem no2 : no0.apply ⟨3, 0, 0, 0, ⟨5, [], [], 0, 0⟩⟩ = (no0, .of 0, 123) := by rfl
theorem no1_ok : Rcd.Ok ⟨1, 0, 0, 0, ⟨0, [], [], 0, 0⟩⟩ := ⟨by decide, by decide, by decide, by decide, by decide, by decide, by decide, by decide⟩
theorem no2_ok : Rcd.Ok ⟨3, 0, 0, 0, ⟨5, [], [], 0, 0⟩⟩ := ⟨by decide, by decide, by decide, by decide, by decide, by decide, by decide, by decide⟩

end
end Go.Proofs.YtniniaokibnhfaaGreat.Storey
