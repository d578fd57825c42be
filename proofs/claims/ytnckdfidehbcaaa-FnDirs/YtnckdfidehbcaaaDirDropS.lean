/-
  What DirGet answers.
-/
import Derived.Test.YtnckdfidehbcaaaDirPlain
namespace Go.Proofs.Ytnckdfidehbcaaa
open Go.RowKit
open Plain

def gotV (o : Option EntV) : Value := .tuple #[.agg (entSh.cells (o.getD zeroE)).toArray, .bool o.isSome]

end Go.Proofs.Ytnckdfidehbcaaa
