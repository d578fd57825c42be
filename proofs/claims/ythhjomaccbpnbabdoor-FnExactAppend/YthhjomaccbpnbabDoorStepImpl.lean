/-
  impl.step.
-/
import Derived.Test.YthhjomaccbpnbabDoorStepBad
import Derived.Test.YthhjomaccbpnbabDoorStepDown
import Derived.Test.YthhjomaccbpnbabDoorStepGo0
import Derived.Test.YthhjomaccbpnbabDoorStepGo1
namespace Go.Proofs.YthhjomaccbpnbabDoor
open Go.RowKit Go.Maps
open Plain

set_option maxRecDepth 100000 in
set_option maxHeartbeats 4000000 in
theorem implStep_any (w : World) (A : SentA) (hA : SentIn w A) (a : Option Addr) (n cap : Nat) (fs : List FileV) (ha : a = none ∨ ∃ g, a = some ⟨g, 0, none⟩) (hr : FRow w 0 a n fs) (hn : n ≤ 1048576) (hz : szFs fs ≤ 1048576) (c u : Int) (d : Bool) (hu : -9223372036854775808 ≤ u) (hu2 : u ≤ 9223372036854775807)
    (g : FuncId) (cb : Array Value) (eg : ∀ args w, (callFunc g args).run Tryd.prog w = .ok (.enter g args) w) (code : Int) (hcode : 0 ≤ code ∧ code ≤ 5) (R : List FileV) (hRi : diskOk fs c u = true → code = 0 → Rising R) (P : World → Prop) (hP : ∀ W', Below w.heap.size w W' → P W') (hch : diskOk fs c u = true → Change g cb A fs code R P) :
    Calls Tryd.prog 32 #[.agg #[.slice a n cap, .int .i64 c, .int .i64 u, .bool d], .func (.func g) #[] cb] w fun e w' => (∃ a' cap', e = .returned (.tuple #[.agg #[.slice a' (stepF fs c u d code R).1.length cap', .int .i64 c, .int .i64 (begU fs c u d), .bool (begD fs c u d)], .int .i64 (stepF fs c u d code R).2]) ∧ FOwn w' w.heap.size (.slice a' (stepF fs c u d code R).1.length cap') (stepF fs c u d code R).1) ∧ Below w.heap.size w w' := by
  by_cases q : diskOk fs c u = true
  · by_cases q1 : d = true ∨ u = 0
    · exact implStep_down w A hA a n cap fs ha hr hn hz c u d hu hu2 g cb eg code hcode R hRi P hP hch q q1
    · have hd : d = false := by
        cases d
        · rfl
        · exact absurd (Or.inl rfl) q1
      subst hd
      by_cases hu1 : u = -1
      · exact implStep_go0 w A hA a n cap fs ha hr hn hz c u hu hu2 g cb eg code hcode R hRi P hP hch q q1 hu1
      · exact implStep_go1 w A hA a n cap fs ha hr hn hz c u hu hu2 g cb eg code hcode R hRi P hP hch q q1 hu1
  · exact implStep_bad w A hA a n cap fs ha hr hn hz c u d hu hu2 g cb eg code hcode R hRi P hP hch q

end Go.Proofs.YthhjomaccbpnbabDoor
