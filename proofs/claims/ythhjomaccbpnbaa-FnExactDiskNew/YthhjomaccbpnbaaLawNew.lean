/-
  The walk of the exact law of DiskNew, over contracts: both answer an empty list of files, c, U and false.
-/
import Derived.Test.YthhjomaccbpnbaaLawBase
import Derived.Test.YthhjomaccbpnbaaNewSpec
namespace Go.Proofs.Ythhjomaccbpnbaa
open Go.RowKit
open Plain

/-- At x the function f answers a disk of no file. -/
def AnswersN (f : FuncId) (x c U : Int) : Prop :=
  ∀ W : World, Calls Try.prog f #[.int .i64 x] W fun e w' => (∃ a' cap', e = .returned (.agg #[.slice a' 0 cap', .int .i64 c, .int .i64 U, .bool false]) ∧ FOwn w' W.heap.size (.slice a' 0 cap') []) ∧ Below W.heap.size W w'
theorem own_nil (w : World) (lo : Nat) : FOwn w lo (.slice none 0 0) [] := by
  unfold FOwn
  simp [World.ownsRow, fcells]
theorem answersN_spec (x : Int) : AnswersN 15 x (newC x) (newU x) := fun W =>
  (specNew_any x W).mono fun _ _ ⟨h1, h2⟩ => ⟨⟨none, 0, h1, own_nil _ _⟩, h2⟩

set_option maxRecDepth 100000 in
set_option maxHeartbeats 8000000 in
theorem lawNew_walk (x c U : Int) (w : World) (hS : AnswersN 15 x c U) (hI : AnswersN 16 x c U) :
    Calls Try.prog 5 #[.int .i64 x] w fun e w' => e = .returned (.bool true) ∧ Below w.heap.size w w' := by
  have HSP := hide hS
  have HIM := hide hI
  clear hS hI
  go_enter Try.func5, Try.ntmps5
  go_wp2_with fail
  refine (HSP.out _).mono ?_
  rintro e w1 ⟨⟨a3, cap3, rfl, ho3⟩, hb1⟩
  obtain ⟨X3, hX3⟩ : ∃ X, X = w1.alloc (.cells #[.slice a3 0 cap3, .int .i64 c, .int .i64 U, .bool false] 30) := ⟨_, rfl⟩
  have HV3 : Hid (DVar X3 w1.heap.size w.heap.size a3 0 cap3 c U false []) := hide (by rw [hX3]; exact DVar.new (w0 := w1) ho3 (Nat.le_refl _))
  have HB3 : Hid (Below w.heap.size w X3) := hide (by rw [hX3]; exact hb1.trans ((alloc_below _ _).mono hb1.size))
  have z3 : X3.heap.size = w1.heap.size + 1 := by rw [hX3]; simp
  have hl3 : w.heap.size ≤ w1.heap.size := hb1.size
  go_wp2_with fail
  rw [← hX3]
  clear hX3 ho3 hb1 HSP
  obtain ⟨b3, hb3⟩ : ∃ b, w1.heap.size = b := ⟨_, rfl⟩
  rw [hb3] at HV3 z3 hl3 ⊢
  clear hb3
  refine (HIM.out X3).mono ?_
  rintro e w5 ⟨⟨a5, cap5, rfl, ho5⟩, hb5⟩
  rw [z3] at ho5
  have q5 : b3 + 1 ≤ w5.heap.size := by rw [← z3]; exact hb5.size
  have HV35 := hide (HV3.out.later hb5)
  have HB5 := hide (HB3.out.trans (hb5.mono HB3.out.size))
  clear HV3 HB3 hb5 z3
  obtain ⟨X5, hX5⟩ : ∃ X, X = w5.alloc (.cells #[.slice a5 0 cap5, .int .i64 c, .int .i64 U, .bool false] 30) := ⟨_, rfl⟩
  have HV5 : Hid (DVar X5 w5.heap.size (b3 + 1) a5 0 cap5 c U false []) := hide (by rw [hX5]; exact DVar.new (w0 := w5) ho5 (Nat.le_refl _))
  have HV3 : Hid (DVar X5 b3 w.heap.size a3 0 cap3 c U false []) := hide (by rw [hX5]; exact HV35.out.later (alloc_below _ _))
  have HB6 : Hid (Below w.heap.size w X5) := hide (by rw [hX5]; exact HB5.out.trans ((alloc_below _ _).mono HB5.out.size))
  have y := HV5.out.cells
  have y' := HV3.out.cells
  rw [hX5] at y y'
  obtain ⟨y0, y1, y2, y3⟩ := y
  obtain ⟨x0, x1, x2, x3⟩ := y'
  go_wp2_with fail
  clear y0 y1 y2 y3 x0 x1 x2 x3
  rw [← hX5]
  clear hX5 HV35 HB5 ho5
  obtain ⟨b5, hb5⟩ : ∃ b, w5.heap.size = b := ⟨_, rfl⟩
  rw [hb5] at HV5 q5 ⊢
  clear hb5
  refine (eqDisk_any X5 a5 a3 0 0 cap5 cap3 [] [] HV5.out.own.row0 HV3.out.own.row0 (by omega) (by omega) c U c U false false).mono ?_
  rintro e w6 ⟨rfl, hb6⟩
  rw [eqDB_self]
  have HV36 := hide (HV3.out.later hb6)
  have HV56 := hide (HV5.out.later hb6)
  have HB7 := hide (HB6.out.trans (hb6.mono HB6.out.size))
  clear HV3 HV5 HB6 hb6
  obtain ⟨y0, y1, y2, y3⟩ := HV56.out.cells
  go_wp2_with fail
  clear y0 y1 y2 y3
  refine (markDisk_any w6 (b3 + 1) a5 0 cap5 [] HV56.out.own (by omega) 1 (by omega) (by omega) c U false).mono ?_
  rintro e w11 ⟨rfl, ho11, hg11⟩
  have HB11 : Hid (Below w.heap.size w w11) := hide (HB7.out.grown hg11 HB7.out.size (fun k hk => by have := HV56.out.blk k hk; omega))
  have HV31 := hide (HV36.out.other hg11 (fun e => by have := HV56.out.blk b3 e; omega) (fun g e q => by have h1 := HV36.out.blk g e; have h2 := HV56.out.blk g q; omega))
  have HV51 := hide (HV56.out.written hg11 ho11)
  clear HV36 HV56 HB7 hg11 ho11
  obtain ⟨y0, y1, y2, y3⟩ := HV51.out.cells
  go_wp2_with fail
  clear y0 y1 y2 y3
  refine (heldDisk_any w11 a5 0 cap5 (by omega) 1 (by omega) (by omega) HV51.out.own.row0 c U false).mono ?_
  rintro e w12 ⟨rfl, hb12⟩
  have HV32 := hide (HV31.out.later hb12)
  have HV52 := hide (HV51.out.later hb12)
  have HB12 := hide (HB11.out.trans (hb12.mono HB11.out.size))
  clear HV31 HV51 HB11 hb12
  go_wp2_with fail
  refine (HIM.out w12).mono ?_
  rintro e w14 ⟨⟨a14, cap14, rfl, ho14⟩, hb14⟩
  have HV34 := hide (HV32.out.later hb14)
  have HV54 := hide (HV52.out.later hb14)
  have HB14 := hide (HB12.out.trans (hb14.mono HB12.out.size))
  clear HV32 HV52 HB12 hb14
  obtain ⟨X, hX⟩ : ∃ X, X = w14.alloc (.cells #[.slice a14 0 cap14, .int .i64 c, .int .i64 U, .bool false] 30) := ⟨_, rfl⟩
  have HVh : Hid (DVar X w14.heap.size w12.heap.size a14 0 cap14 c U false []) := hide (by rw [hX]; exact DVar.new (w0 := w14) ho14 (Nat.le_refl _))
  have HV35 : Hid (DVar X b3 w.heap.size a3 0 cap3 c U false []) := hide (by rw [hX]; exact HV34.out.later (alloc_below _ _))
  have HV55 : Hid (DVar X b5 (b3 + 1) a5 0 cap5 c U false (marked 0 1)) := hide (by rw [hX]; exact HV54.out.later (alloc_below _ _))
  have HB15 : Hid (Below w.heap.size w X) := hide (by rw [hX]; exact HB14.out.trans ((alloc_below _ _).mono HB14.out.size))
  have y := HVh.out.cells
  have y' := HV35.out.cells
  rw [hX] at y y'
  obtain ⟨y0, y1, y2, y3⟩ := y
  obtain ⟨x0, x1, x2, x3⟩ := y'
  go_wp2_with fail
  clear y0 y1 y2 y3 x0 x1 x2 x3
  rw [← hX]
  clear hX HV34 HV54 HB14 ho14
  refine (eqDisk_any X a14 a3 0 0 cap14 cap3 [] [] HVh.out.own.row0 HV35.out.own.row0 (by omega) (by omega) c U c U false false).mono ?_
  rintro e w16 ⟨rfl, hb16⟩
  rw [eqDB_self]
  have HV56 := hide (HV55.out.later hb16)
  have HB16 := hide (HB15.out.trans (hb16.mono HB15.out.size))
  clear HV35 HV55 HVh HB15 hb16
  obtain ⟨y0, y1, y2, y3⟩ := HV56.out.cells
  go_wp2_with fail
  clear y0 y1 y2 y3
  refine (heldDisk_any w16 a5 0 cap5 (by omega) 1 (by omega) (by omega) HV56.out.own.row0 c U false).mono ?_
  rintro e w17 ⟨rfl, hb17⟩
  have HB17 := hide (HB16.out.trans (hb17.mono HB16.out.size))
  clear HB16 HV56 hb17
  go_wp2
  go_ret
  exact ⟨rfl, HB17.out⟩

end Go.Proofs.Ythhjomaccbpnbaa
