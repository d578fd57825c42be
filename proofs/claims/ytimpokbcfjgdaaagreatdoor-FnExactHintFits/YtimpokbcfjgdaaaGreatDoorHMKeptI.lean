/-
  impl.keptAndMarked: slices.IndexFunc at spots.
-/
import Derived.Test.YtimpokbcfjgdaaaGreatDoorHG19
import Derived.Test.YtimpokbcfjgdaaaGreatDoorHG17
import Derived.BigQuiet
import Derived.Deep.QuietTactic
namespace Go.Proofs.YtimpokbcfjgdaaaGreatDoor
open Go.RowKit Go.Shelf Go.Lib
open Plain

theorem sp_cells {w : World} {a : Option Addr} {n : Nat} {xs : List SpotV} (h : spotSh.Row w a n xs) (i : Nat) (hi : i < xs.length) : ∃ b off, a = some ⟨b, off, none⟩ ∧ b < w.heap.size ∧
    w.cell? ⟨b, off + i * 8, none⟩ = some (.int .i64 ((xs[i]).pos : Nat)) ∧ w.cell? ⟨b, off + i * 8 + 1, none⟩ = some (.int .i64 ((xs[i]).len : Nat)) ∧ w.cell? ⟨b, off + i * 8 + 2, none⟩ = some (.int .i64 (xs[i]).r.kind) ∧ w.cell? ⟨b, off + i * 8 + 3, none⟩ = some (.int .i64 (xs[i]).r.batch) ∧ w.cell? ⟨b, off + i * 8 + 4, none⟩ = some (.string (xs[i]).r.key) ∧ w.cell? ⟨b, off + i * 8 + 5, none⟩ = some (.string (xs[i]).r.val) ∧ w.cell? ⟨b, off + i * 8 + 6, none⟩ = some (.int .i64 (xs[i]).r.cnt) ∧ w.cell? ⟨b, off + i * 8 + 7, none⟩ = some (.int .i64 (xs[i]).r.sum) := by
  obtain ⟨b, off, h1, h2, h3⟩ := h.cells i hi
  exact ⟨b, off, h1, h2, h3 0 (by decide), h3 1 (by decide), h3 2 (by decide), h3 3 (by decide), h3 4 (by decide), h3 5 (by decide), h3 6 (by decide), h3 7 (by decide)⟩

/-- slices.IndexFunc at a row of spots. -/
theorem idxS_any (p : SpotV → Bool) (g : Nat) (lb : Array Value) (eg : ∀ args w, (callFunc g args).run Tryz.prog w = .ok (.enter g args) w) (b off n c : Nat) (xs : List SpotV) (w : World) (hr : spotSh.Row w (some ⟨b, off, none⟩) n xs) (hb : b < w.heap.size) (hn : n ≤ 9223372036854775807)
    (hp : PredBelow Tryz.prog g lb (fun x => .agg (spotSh.cells x).toArray) p w) :
    Calls Tryz.prog 82 #[.slice (some ⟨b, off, none⟩) n c, .func (.func g) #[] lb] w fun e w' => (∃ r : Int, e = .returned (.int .i64 r) ∧ ((r = -1 ∧ ∀ y, y ∈ xs → p y = false) ∨ ∃ k, ∃ h : k < xs.length, r = (k : Int) ∧ p (xs[k]) = true ∧ ∀ y, y ∈ xs.take k → p y = false)) ∧ Below w.heap.size w w' := by
  letI : Inhabited SpotV := ⟨zeroSp⟩
  have hcon := AnyQ.slices_IndexFunc Tryz.laysIdxS 8 Tryz.isAgg43 Tryz.sizeOf43 spotSh.cells (fun _ => rfl) p g lb eg b off n c xs w hp (by rw [hr.len]; exact Nat.le_refl _) hn hb (fun j hj i v hi => by
    obtain ⟨b', off', q0, -, h3⟩ := hr.cells j hj
    simp only [Option.some.injEq, Addr.mk.injEq] at q0
    obtain ⟨rfl, rfl, -⟩ := q0
    have e : xs[j]! = xs[j] := by simp [hj]
    rw [e] at hi
    have hi5 : i < 8 := by
      have := (List.getElem?_eq_some_iff.1 hi).1
      rw [spotSh.len] at this
      exact this
    exact (h3 i hi5).trans hi)
  change Calls Tryz.prog 82 _ _ _ at hcon
  refine hcon.mono ?_
  rintro e w' ⟨rfl, hb'⟩
  refine ⟨⟨_, rfl, ?_⟩, hb'⟩
  rw [List.take_of_length_le (by rw [hr.len]; exact Nat.le_refl _)]
  unfold idxBy
  rcases idxFrom_is p default xs 0 with ⟨h1, h2⟩ | ⟨k, hk, h1, h2, h3⟩
  · exact .inl ⟨h1, h2⟩
  · exact .inr ⟨k, hk, by rw [h1, Nat.zero_add], h2, h3⟩

set_option maxHeartbeats 1000000 in
theorem keptPred (w : World) : PredBelow Tryz.prog 83 #[] (fun x => .agg (spotSh.cells x).toArray) (fun x => decide (¬ x.r.kind = 4)) w := fun W x hb => by
  show Calls Tryz.prog 83 #[.agg #[.int .i64 (x.pos : Nat), .int .i64 (x.len : Nat), .int .i64 x.r.kind, .int .i64 x.r.batch, .string x.r.key, .string x.r.val, .int .i64 x.r.cnt, .int .i64 x.r.sum]] W fun e w' => e = .returned (.bool (decide (¬ x.r.kind = 4))) ∧ Below w.heap.size w w'
  by_cases hk : x.r.kind = 4
  · have t1 : (x.r.kind != 4) = false := by simp [hk]
    have HV : Hid (decide (¬ x.r.kind = 4) = false) := hide (by simp [hk])
    clear hk
    go_enter Tryz.func83, Tryz.ntmps83
    go_wp2
    go_ret
    exact ⟨by rw [HV.out]; rfl, hb.alloc hb.size _⟩
  · have t1 : (x.r.kind != 4) = true := by simpa using hk
    have HV : Hid (decide (¬ x.r.kind = 4) = true) := hide (by simpa using hk)
    clear hk
    go_enter Tryz.func83, Tryz.ntmps83
    go_wp2
    go_ret
    exact ⟨by rw [HV.out]; rfl, hb.alloc hb.size _⟩

theorem markedM_nil : markedM [] = false := by decide
/-- At no spots there is nothing to be found. -/
theorem idxS_nil (a : Option Addr) (c : Nat) (w : World) : Calls Tryz.prog 82 #[.slice a 0 c, .func (.func 83) #[] #[]] w fun e w' => e = .returned (.int .i64 (-1)) ∧ Below w.heap.size w w' := by
  go_enter Tryz.func82, Tryz.ntmps82
  go_wp2
  go_loopw [8] (fun i wr => i = .int .i64 0 ∧ Hid (Below w.heap.size w wr)) (fun _ _ => 0)
  case atStart => exact ⟨rfl, hide (Below.refl _ _)⟩
  case round =>
    obtain ⟨rfl, HB⟩ := hrel
    go_wp2
    go_ret
    exact ⟨rfl, HB.out⟩

set_option maxRecDepth 100000 in
set_option maxHeartbeats 2000000 in
theorem implKept_any (w : World) (a : Option Addr) (n cap : Nat) (xs : List SpotV) (hr : spotSh.Row w a n xs) (hn : n ≤ 1048576) :
    Calls Tryz.prog 45 #[.slice a n cap] w fun e w' => e = .returned (.bool (markedM xs)) ∧ Below w.heap.size w w' := by
  have hlen := hr.len
  by_cases h0 : n = 0
  · have hx : xs = [] := List.length_eq_zero_iff.1 (by omega)
    have HV : Hid (markedM xs = false) := hide (by rw [hx]; exact markedM_nil)
    subst h0
    have HX := hide (idxS_nil a cap w)
    clear hx hr hlen
    go_enter Tryz.func45, Tryz.ntmps45
    go_wp2_with fail
    refine HX.out.mono ?_
    rintro e w1 ⟨rfl, hb1⟩
    have HB1 := hide hb1
    clear hb1 HX
    go_wp2
    go_ret
    exact ⟨by rw [HV.out]; rfl, HB1.out⟩
  · have hl : 0 < xs.length := by omega
    obtain ⟨b, off, rfl, hbw, -⟩ := sp_cells hr 0 hl
    have HX := hide (idxS_any (fun x => decide (¬ x.r.kind = 4)) 83 #[] (enters_of Tryz.func83 (by kernel_rfl) rfl) b off n cap xs w hr hbw (by omega) (keptPred w))
    have HR := hide hr
    have hlast : lastSp xs = xs[xs.length - 1] := spD (by omega)
    have hne : ¬ xs = [] := fun e => by rw [e] at hl; exact absurd hl (by decide)
    have hil := init_len xs
    have HM : Hid (∀ k, (hk : k < xs.length) → (¬ (xs[k]).r.kind = 4) → (∀ y, y ∈ xs.take k → y.r.kind = 4) → markedM xs = (decide (k = n - 1) && decide ((xs[k]).r.kind = 5))) := hide (fun k hk h4 hpre => by
      unfold markedM
      by_cases he : k = n - 1
      · have hk2 : k = xs.length - 1 := by omega
        have e1 : (lastSp xs).r.kind = (xs[k]).r.kind := by rw [hlast]; congr 2; simp [hk2]
        rw [decide_eq_true he, Bool.true_and]
        apply decide_eq_decide.2
        rw [e1]
        exact ⟨fun h => h.2.2, fun h => ⟨fun p hp => hpre p (by unfold initSp at hp; rwa [← hk2] at hp), hne, h⟩⟩
      · rw [decide_eq_false he, Bool.false_and]
        apply decide_eq_false
        rintro ⟨h1, -, -⟩
        refine h4 (h1 _ ?_)
        have hki : k < (initSp xs).length := by omega
        have := List.getElem_mem hki
        rwa [init_get hki, spD hk] at this)
    have HZ : Hid ((∀ y, y ∈ xs → y.r.kind = 4) → markedM xs = false) := hide (fun h => by
      unfold markedM
      apply decide_eq_false
      rintro ⟨-, -, h3⟩
      have := h (xs[xs.length - 1]) (List.getElem_mem _)
      rw [hlast, this] at h3
      exact absurd h3 (by decide))
    clear hr hlast hil hne
    go_enter Tryz.func45, Tryz.ntmps45
    go_wp2_with fail
    refine HX.out.mono ?_
    rintro e w1 ⟨⟨r, rfl, hcase⟩, hb1⟩
    have HR1 := hide (HR.out.later hb1)
    have HB1 : Hid (∀ _ : Nat, Below w.heap.size w w1) := hide (fun _ => hb1)
    clear hb1 HX HR
    rcases hcase with ⟨rfl, h2⟩ | ⟨k, hk, rfl, h2, h3⟩
    · have HV := hide (HZ.out (fun y hy => by have := h2 y hy; simpa using this))
      clear h2 HM HZ
      go_wp2
      go_ret
      exact ⟨by rw [HV.out]; rfl, HB1.out 0⟩
    · have HV := hide (HM.out k hk (by simpa using h2) (fun y hy => by have := h3 y hy; simpa using this))
      obtain ⟨b', off', q, -, -, -, e2, -⟩ := sp_cells HR1.out k hk
      simp only [Option.some.injEq, Addr.mk.injEq] at q
      obtain ⟨rfl, rfl, -⟩ := q
      have hkn : k < n := by omega
      have hkn2 : (k : Int) < (n : Int) := by omega
      have hk0 : (0 : Int) ≤ (k : Int) := by omega
      generalize (xs[k]).r.kind = kd at *
      clear h2 h3 HM HZ
      by_cases he : k = n - 1
      · have t1 : ((k : Int) == (n : Int) - 1) = true := by simp; omega
        rw [decide_eq_true he, Bool.true_and] at HV
        by_cases h5 : kd = 5
        · have t2 : (kd == 5) = true := by simpa using h5
          rw [decide_eq_true h5] at HV
          clear he h5
          go_wp2
          go_ret
          exact ⟨by rw [HV.out]; rfl, HB1.out 0⟩
        · have t2 : (kd == 5) = false := by simpa using h5
          rw [decide_eq_false h5] at HV
          clear he h5
          go_wp2
          go_ret
          exact ⟨by rw [HV.out]; rfl, HB1.out 0⟩
      · have t1 : ((k : Int) == (n : Int) - 1) = false := by simp; omega
        rw [decide_eq_false he, Bool.false_and] at HV
        clear he
        go_wp2
        go_ret
        exact ⟨by rw [HV.out]; rfl, HB1.out 0⟩

end Go.Proofs.YtimpokbcfjgdaaaGreatDoor
