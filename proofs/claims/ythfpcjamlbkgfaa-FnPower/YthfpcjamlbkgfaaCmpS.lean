/-
  A text's bytes as a list.
-/
import Derived.Test.YthfpcjamlbkgfaaOrderF
import Derived.Lib.Strings
import Derived.WalkKit
namespace Go.Proofs.Ythfpcjamlbkgfaa
open Go.RowKit
open Plain

theorem tl (x : ByteArray) : x.toList = x.data.toList := Lib.toList_data x

end Go.Proofs.Ythfpcjamlbkgfaa
