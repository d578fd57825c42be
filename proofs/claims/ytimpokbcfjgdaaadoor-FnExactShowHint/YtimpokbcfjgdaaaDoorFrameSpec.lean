/-
  spec.Crc answers, and touches nothing.
-/
import Derived.Test.YtimpokbcfjgdaaaDoorFramePlain
import Derived.Test.YtimpokbcfjgdaaaDoorRecNum
import Derived.Test.YtimpokbcfjgdaaaDoorCrcSpec
namespace Go.Proofs.YtimpokbcfjgdaaaDoor
open Go.RowKit
open Plain

theorem specCrc_ans (s : ByteArray) (hs : s.size ≤ 1099511627776) : Ans 18 #[.string s] (.int .i64 (crcN s)) := by
  intro w
  refine (specCrc_any s w hs).mono ?_
  rintro e w' ⟨rfl, rfl⟩
  exact ⟨rfl, Below.refl _ _⟩

end Go.Proofs.YtimpokbcfjgdaaaDoor
