import Derived.Test.YtikpbgkjghcidaaMarginFns
import Derived.Test.YtikpbgkjghcidaaMarginLaws
/- The program's functions of package margin: each step of a pen alone. -/
namespace Go.Proofs.Ytikpbgkjghcidaa
open Go.RowKit
set_option linter.unusedVariables false
set_option linter.unusedSimpArgs false
theorem nearI_open {a : Int} (h : NearI a) : -1125899906842624 ≤ a ∧ a ≤ 1125899906842624 := h
theorem box_newN (w : World) (vs : List Value) (t : TypeId) (n : Nat) (h : n = w.heap.size) : Box (w.alloc (.cells vs.toArray t)) n vs := by subst h; exact Box.new w vs t
theorem at13_to {y m : Int} {w : World} (hy : NearI y) (hm : NearI m) : Calls Try.prog 11 #[.agg #[.int .i64 y, .int .i64 m]] w fun e w' => e = .returned (.int .i64 (y + m)) ∧ Below w.heap.size w w' := by
  obtain ⟨y1, y2⟩ := nearI_open hy
  obtain ⟨m1, m2⟩ := nearI_open hm
  have hw : IntKind.i64.wrap (y + m) = y + m := wrap_far (by omega)
  clear hy hm
  go_enter Try.func11, Try.ntmps11
  go_wp2_with fail
  refine (place13_to none 0 0 hw _).mono ?_
  rintro e w1 ⟨rfl, hb⟩
  have HB := Lib.hid hb
  clear hb
  go_wp2_with fail
  go_ret
  exact ⟨rfl, below_then (by go_grown) HB.out⟩
theorem enter13_top {y m a d y' m' : Int} {w : World} (hv : enterP (y, m) a d = (y', m')) (hy : NearI y) (hm : NearI m) (ha : NearI a) (hd : NearI d) : Calls Try.prog 12 #[.agg #[.int .i64 y, .int .i64 m], .int .i64 a, .int .i64 d] w fun e w' => e = .returned (.agg #[.int .i64 y', .int .i64 m']) ∧ Below w.heap.size w w' := by
  obtain ⟨y1, y2⟩ := nearI_open hy
  obtain ⟨m1, m2⟩ := nearI_open hm
  obtain ⟨a1, a2⟩ := nearI_open ha
  obtain ⟨d1, d2⟩ := nearI_open hd
  have hr : -1125899906842624 ≤ raiseI m a ∧ raiseI m a ≤ 1125899906842624 := by unfold raiseI; split <;> omega
  have HW1 := Lib.hid (show IntKind.i64.wrap (y + raiseI m a) = y + raiseI m a from wrap_far (by omega))
  have HW2 := Lib.hid (show IntKind.i64.wrap (y + raiseI m a + d) = y + raiseI m a + d from wrap_far (by omega))
  have HV := Lib.hid hv
  clear hv
  go_enter Try.func12, Try.ntmps12
  go_wp2_with fail
  generalize hW : World.alloc (World.alloc (World.alloc w _) _) _ = W
  have HX := Lib.hid (show Box W (w.heap.size + 1 + 1) (mvd y m none 0 0) by rw [← hW]; exact box_newN _ (mvd y m none 0 0) _ _ (by simp))
  have HR := Lib.hid (show Box W (w.heap.size + 1) [.int .i64 0, .int .i64 0] by rw [← hW]; exact (Box.new2' _ _ _ _ _ (by simp)).alloc _)
  have HB := Lib.hid (show Below w.heap.size w W by rw [← hW]; go_grown)
  clear hW
  refine (enter13_to HV.out HW1.out HW2.out HX.out).mono ?_
  rintro e w1 ⟨rfl, hX1, hg⟩
  have HX1 := Lib.hid hX1
  have HR1 := Lib.hid (HR.out.grown hg (fun k hk => by injection hk with hk; omega))
  have HB1 := Lib.hid (Below.grown HB.out hg HB.out.size (fun j hj => by injection hj with hj; omega))
  clear hX1 hg HX HR HB
  obtain ⟨⟨c0, c1, c2⟩, _, hlt⟩ := mvd_of HX1.out
  obtain ⟨r0, r1, f0, f1, hlr⟩ := HR1.out.of2
  go_wp2_with fail
  exact bodyPost_ret (v := .agg #[.int .i64 y', .int .i64 m']) (by simp [results, Try.results12, go_sem, r0, r1]) rfl ⟨rfl, (HB1.out.setCell (by simp) _).setCell (by simp) _⟩
theorem leave13_top {y m a d y' m' : Int} {w : World} (hv : leaveP (y, m) a d = (y', m')) (hy : NearI y) (hm : NearI m) (ha : NearI a) (hd : NearI d) : Calls Try.prog 14 #[.agg #[.int .i64 y, .int .i64 m], .int .i64 a, .int .i64 d] w fun e w' => e = .returned (.agg #[.int .i64 y', .int .i64 m']) ∧ Below w.heap.size w w' := by
  obtain ⟨y1, y2⟩ := nearI_open hy
  obtain ⟨m1, m2⟩ := nearI_open hm
  obtain ⟨a1, a2⟩ := nearI_open ha
  obtain ⟨d1, d2⟩ := nearI_open hd
  have HW1 := Lib.hid (show IntKind.i64.wrap (y + m) = y + m from wrap_far (by omega))
  have HW2 := Lib.hid (show IntKind.i64.wrap (y + m + d) = y + m + d from wrap_far (by omega))
  have HV := Lib.hid hv
  clear hv
  go_enter Try.func14, Try.ntmps14
  go_wp2_with fail
  generalize hW : World.alloc (World.alloc (World.alloc w _) _) _ = W
  have HX := Lib.hid (show Box W (w.heap.size + 1 + 1) (mvd y m none 0 0) by rw [← hW]; exact box_newN _ (mvd y m none 0 0) _ _ (by simp))
  have HR := Lib.hid (show Box W (w.heap.size + 1) [.int .i64 0, .int .i64 0] by rw [← hW]; exact (Box.new2' _ _ _ _ _ (by simp)).alloc _)
  have HB := Lib.hid (show Below w.heap.size w W by rw [← hW]; go_grown)
  clear hW
  refine (leave13_to HV.out HW1.out HW2.out HX.out).mono ?_
  rintro e w1 ⟨rfl, hX1, hg⟩
  have HX1 := Lib.hid hX1
  have HR1 := Lib.hid (HR.out.grown hg (fun k hk => by injection hk with hk; omega))
  have HB1 := Lib.hid (Below.grown HB.out hg HB.out.size (fun j hj => by injection hj with hj; omega))
  clear hX1 hg HX HR HB
  obtain ⟨⟨c0, c1, c2⟩, _, hlt⟩ := mvd_of HX1.out
  obtain ⟨r0, r1, f0, f1, hlr⟩ := HR1.out.of2
  go_wp2_with fail
  exact bodyPost_ret (v := .agg #[.int .i64 y', .int .i64 m']) (by simp [results, Try.results14, go_sem, r0, r1]) rfl ⟨rfl, (HB1.out.setCell (by simp) _).setCell (by simp) _⟩
theorem clear13_top {y m a y' m' : Int} {w : World} (hv : clearP (y, m) a = (y', m')) (hy : NearI y) (hm : NearI m) (ha : NearI a) : Calls Try.prog 16 #[.agg #[.int .i64 y, .int .i64 m], .int .i64 a] w fun e w' => e = .returned (.agg #[.int .i64 y', .int .i64 m']) ∧ Below w.heap.size w w' := by
  obtain ⟨y1, y2⟩ := nearI_open hy
  obtain ⟨m1, m2⟩ := nearI_open hm
  obtain ⟨a1, a2⟩ := nearI_open ha
  have HW1 := Lib.hid (show IntKind.i64.wrap (y + m) = y + m from wrap_far (by omega))
  have HV := Lib.hid hv
  clear hv
  go_enter Try.func16, Try.ntmps16
  go_wp2_with fail
  generalize hW : World.alloc (World.alloc (World.alloc w _) _) _ = W
  have HX := Lib.hid (show Box W (w.heap.size + 1 + 1) (mvd y m none 0 0) by rw [← hW]; exact box_newN _ (mvd y m none 0 0) _ _ (by simp))
  have HR := Lib.hid (show Box W (w.heap.size + 1) [.int .i64 0, .int .i64 0] by rw [← hW]; exact (Box.new2' _ _ _ _ _ (by simp)).alloc _)
  have HB := Lib.hid (show Below w.heap.size w W by rw [← hW]; go_grown)
  clear hW
  refine (clear13_to HV.out HW1.out HX.out).mono ?_
  rintro e w1 ⟨rfl, hX1, hg⟩
  have HX1 := Lib.hid hX1
  have HR1 := Lib.hid (HR.out.grown hg (fun k hk => by injection hk with hk; omega))
  have HB1 := Lib.hid (Below.grown HB.out hg HB.out.size (fun j hj => by injection hj with hj; omega))
  clear hX1 hg HX HR HB
  obtain ⟨⟨c0, c1, c2⟩, _, hlt⟩ := mvd_of HX1.out
  obtain ⟨r0, r1, f0, f1, hlr⟩ := HR1.out.of2
  go_wp2_with fail
  exact bodyPost_ret (v := .agg #[.int .i64 y', .int .i64 m']) (by simp [results, Try.results16, go_sem, r0, r1]) rfl ⟨rfl, (HB1.out.setCell (by simp) _).setCell (by simp) _⟩
theorem put13_top {y m a d : Int} {w : World} (ha : NearI a) (hd : NearI d) : Calls Try.prog 18 #[.agg #[.int .i64 y, .int .i64 m], .int .i64 a, .int .i64 d] w fun e w' => e = .returned (.agg #[.int .i64 (a + d), .int .i64 0]) ∧ Below w.heap.size w w' := by
  obtain ⟨a1, a2⟩ := nearI_open ha
  obtain ⟨d1, d2⟩ := nearI_open hd
  have HW1 := Lib.hid (show IntKind.i64.wrap (a + d) = a + d from wrap_far (by omega))
  go_enter Try.func18, Try.ntmps18
  go_wp2_with fail
  generalize hW : World.alloc (World.alloc (World.alloc w _) _) _ = W
  have HX := Lib.hid (show Box W (w.heap.size + 1 + 1) (mvd y m none 0 0) by rw [← hW]; exact box_newN _ (mvd y m none 0 0) _ _ (by simp))
  have HR := Lib.hid (show Box W (w.heap.size + 1) [.int .i64 0, .int .i64 0] by rw [← hW]; exact (Box.new2' _ _ _ _ _ (by simp)).alloc _)
  have HB := Lib.hid (show Below w.heap.size w W by rw [← hW]; go_grown)
  clear hW
  refine (put13_to HW1.out HX.out).mono ?_
  rintro e w1 ⟨rfl, hX1, hg⟩
  have HX1 := Lib.hid hX1
  have HR1 := Lib.hid (HR.out.grown hg (fun k hk => by injection hk with hk; omega))
  have HB1 := Lib.hid (Below.grown HB.out hg HB.out.size (fun j hj => by injection hj with hj; omega))
  clear hX1 hg HX HR HB
  obtain ⟨⟨c0, c1, c2⟩, _, hlt⟩ := mvd_of HX1.out
  obtain ⟨r0, r1, f0, f1, hlr⟩ := HR1.out.of2
  go_wp2_with fail
  exact bodyPost_ret (v := .agg #[.int .i64 (a + d), .int .i64 0]) (by simp [results, Try.results18, go_sem, r0, r1]) rfl ⟨rfl, (HB1.out.setCell (by simp) _).setCell (by simp) _⟩
end Go.Proofs.Ytikpbgkjghcidaa
