import Derived.Test.YtikpbgkjghcidaaMarginFns
import Derived.Test.YtikpbgkjghcidaaMapAt
/- The program's function of package margin that lays its table of closures. -/
namespace Go.Proofs.Ytikpbgkjghcidaa
open Go.RowKit
set_option linter.unusedVariables false
set_option linter.unusedSimpArgs false
/-- a pointer to the moved pen, captured at c. -/
def clo13 (f : FuncId) (c : Nat) : Value := .func (.func f) #[] #[.pointer (some ⟨c, 0, none⟩)]
def stepsL (c : Nat) : List (Int × Value) := [(1, clo13 26 c), (2, clo13 27 c), (3, clo13 28 c), (4, clo13 29 c)]
set_option maxHeartbeats 1000000 in
theorem steps13_to {k : Nat} {w : World} : Calls Try.prog 20 #[.pointer (some ⟨k, 0, none⟩)] w fun e w' => ∃ b c, e = .returned (.map (some b)) ∧ MapAt w' b (stepsL c) ∧ Box w' c [.pointer (some ⟨k, 0, none⟩)] ∧ b ≠ c ∧ w.heap.size ≤ b ∧ w.heap.size ≤ c ∧ Below w.heap.size w w' := by
  have hmm := @run_makeMap Try.prog
  go_enter Try.func20, Try.ntmps20
  go_wp2_with ((with_reducible refine stop_insert ?_ ?_); exact rfl)
  clear hmm
  generalize hW : World.alloc (World.alloc w _) _ = W
  have HX := Lib.hid (show Box W w.heap.size [.pointer (some ⟨k, 0, none⟩)] by rw [← hW]; exact (Box.new _ [.pointer (some ⟨k, 0, none⟩)] _).alloc _)
  have HM := Lib.hid (show MapAt W (w.heap.size + 1) [] by rw [← hW]; exact MapAt.new' _ _ (by simp))
  have HB := Lib.hid (show Below w.heap.size w W by rw [← hW]; exact ((Below.refl _ _).alloc (Nat.le_refl _) _).alloc (by simp) _)
  clear hW
  refine Stop.intro ?_
  refine wpList_insert_at (by rfl) _ _ _ _ (by rfl) 3 45 Try.underlying43 Try.underlying3 (w.heap.size + 1) [] 1 (clo13 26 w.heap.size) HM.out (by rfl) (by rfl) (by rfl) (by simp) ?_
  intro w1 hM hg
  have HM1 := Lib.hid hM
  have HX1 := Lib.hid (HX.out.grown hg (fun k hk => by injection hk with hk; omega))
  have HB1 := Lib.hid (Below.grown HB.out hg HB.out.size (fun j hj => by injection hj with hj; omega))
  clear hM hg HM HX HB
  have HM := HM1
  have HX := HX1
  have HB := HB1
  clear HM1 HX1 HB1
  go_wp2_with ((with_reducible refine stop_insert ?_ ?_); exact rfl)
  refine Stop.intro ?_
  refine wpList_insert_at (by rfl) _ _ _ _ (by rfl) 3 45 Try.underlying43 Try.underlying3 (w.heap.size + 1) [(1, clo13 26 w.heap.size)] 2 (clo13 27 w.heap.size) HM.out (by rfl) (by rfl) (by rfl) (by simp) ?_
  intro w2 hM hg
  have HM2 := Lib.hid hM
  have HX2 := Lib.hid (HX.out.grown hg (fun k hk => by injection hk with hk; omega))
  have HB2 := Lib.hid (Below.grown HB.out hg HB.out.size (fun j hj => by injection hj with hj; omega))
  clear hM hg HM HX HB
  have HM := HM2
  have HX := HX2
  have HB := HB2
  clear HM2 HX2 HB2
  go_wp2_with ((with_reducible refine stop_insert ?_ ?_); exact rfl)
  refine Stop.intro ?_
  refine wpList_insert_at (by rfl) _ _ _ _ (by rfl) 3 45 Try.underlying43 Try.underlying3 (w.heap.size + 1) [(1, clo13 26 w.heap.size), (2, clo13 27 w.heap.size)] 3 (clo13 28 w.heap.size) HM.out (by rfl) (by rfl) (by rfl) (by simp) ?_
  intro w3 hM hg
  have HM3 := Lib.hid hM
  have HX3 := Lib.hid (HX.out.grown hg (fun k hk => by injection hk with hk; omega))
  have HB3 := Lib.hid (Below.grown HB.out hg HB.out.size (fun j hj => by injection hj with hj; omega))
  clear hM hg HM HX HB
  have HM := HM3
  have HX := HX3
  have HB := HB3
  clear HM3 HX3 HB3
  go_wp2_with ((with_reducible refine stop_insert ?_ ?_); exact rfl)
  refine Stop.intro ?_
  refine wpList_insert_at (by rfl) _ _ _ _ (by rfl) 3 45 Try.underlying43 Try.underlying3 (w.heap.size + 1) [(1, clo13 26 w.heap.size), (2, clo13 27 w.heap.size), (3, clo13 28 w.heap.size)] 4 (clo13 29 w.heap.size) HM.out (by rfl) (by rfl) (by rfl) (by simp) ?_
  intro w4 hM hg
  have HM4 := Lib.hid hM
  have HX4 := Lib.hid (HX.out.grown hg (fun k hk => by injection hk with hk; omega))
  have HB4 := Lib.hid (Below.grown HB.out hg HB.out.size (fun j hj => by injection hj with hj; omega))
  clear hM hg HM HX HB
  have HM := HM4
  have HX := HX4
  have HB := HB4
  clear HM4 HX4 HB4
  go_wp2_with ((with_reducible refine stop_insert ?_ ?_); exact rfl)
  go_ret
  exact ⟨_, _, rfl, HM.out, HX.out, by omega, by omega, Nat.le_refl _, HB.out⟩
end Go.Proofs.Ytikpbgkjghcidaa
