/-
  The text of Fixed.
-/
import Derived.Test.YtimpokbcfjgdaaaDoorCore
namespace Go.Proofs.YtimpokbcfjgdaaaDoor
open Go.RowKit
open Plain

def fixStr (n m : Nat) : ByteArray := if n < 256 ^ m then strOfNums (low n m) else ⟨#[]⟩

end Go.Proofs.YtimpokbcfjgdaaaDoor
