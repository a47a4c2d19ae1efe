import Derived.Test.YtechccoongilcaaDoorJD712
import Derived.Test.YtechccoongilcaaDoorJD708
import Derived.Deep.Cut
/- The program's package read: two nodes compared. -/
namespace Go.Proofs.YtechccoongilcaaDoor
open Go.RowKit
set_option linter.unusedVariables false
set_option linter.unusedSimpArgs false
set_option maxHeartbeats 4000000 in
set_option maxRecDepth 100000 in
theorem pnode_any (m1 m2 : NdM) (x1 x2 : Nd) (w : World) (h1 : Shows w m1 x1) (h2 : Shows w m2 x2) : Calls Tryd.prog 19 #[.agg (encM m1).toArray, .agg (encM m2).toArray] w fun e w' => e = .returned (.bool (ndB x1 x2)) ∧ Below w.heap.size w w' := by
  rw [ndB_M h1 h2]
  obtain ⟨vw, hvw⟩ : ∃ v, (x1.words == x2.words) = v := ⟨_, rfl⟩
  obtain ⟨vs, hvs⟩ : ∃ v, styB m1.sty m2.sty = v := ⟨_, rfl⟩
  rw [hvw, hvs]
  have HVW := Lib.hid hvw
  have HVS := Lib.hid hvs
  have H1 := Lib.hid h1.2
  have H2 := Lib.hid h2.2
  clear h1 h2 hvw hvs
  obtain ⟨k1, s1, t1, l1, p1, A1, n1, c1, i1, q1, r1⟩ := m1
  obtain ⟨k2, s2, t2, l2, p2, A2, n2, c2, i2, q2, r2⟩ := m2
  simp only [encM] at *
  go_enter Tryd.func19, Tryd.ntmps19
  go_upto_region 1 with (fail)
  generalize hW : World.alloc (World.alloc _ _) _ = W
  have hX : Box W w.heap.size (encM ⟨k1, s1, t1, l1, p1, A1, n1, c1, i1, q1, r1⟩) := by rw [← hW]; exact (box_new w _ _ _ rfl _ rfl).alloc _
  have hY : Box W (w.heap.size + 1) (encM ⟨k2, s2, t2, l2, p2, A2, n2, c2, i2, q2, r2⟩) := by rw [← hW]; exact box_new _ _ _ _ (by simp) _ rfl
  have HB := Lib.hid (show Below w.heap.size w W by rw [← hW]; go_grown)
  clear hW
  have HI1 := Lib.hid ((H1.out.cells.below HB.out rfl).ints)
  have HI2 := Lib.hid ((H2.out.cells.below HB.out rfl).ints)
  obtain ⟨hXl, _, hXc⟩ := hX
  obtain ⟨hYl, _, hYc⟩ := hY
  have x0 := hXc 0 _ rfl
  have y0 := hYc 0 _ rfl
  have x1 := hXc 1 _ rfl
  have y1 := hYc 1 _ rfl
  have x2 := hXc 2 _ rfl
  have y2 := hYc 2 _ rfl
  have x3 := hXc 3 _ rfl
  have y3 := hYc 3 _ rfl
  have x4 := hXc 4 _ rfl
  have y4 := hYc 4 _ rfl
  have x5 := hXc 5 _ rfl
  have y5 := hYc 5 _ rfl
  have x6 := hXc 6 _ rfl
  have y6 := hYc 6 _ rfl
  have x7 := hXc 7 _ rfl
  have y7 := hYc 7 _ rfl
  have x8 := hXc 8 _ rfl
  have y8 := hYc 8 _ rfl
  have x9 := hXc 9 _ rfl
  have y9 := hYc 9 _ rfl
  have x10 := hXc 10 _ rfl
  have y10 := hYc 10 _ rfl
  have x11 := hXc 11 _ rfl
  have y11 := hYc 11 _ rfl
  have x12 := hXc 12 _ rfl
  have y12 := hYc 12 _ rfl
  have x13 := hXc 13 _ rfl
  have y13 := hYc 13 _ rfl
  have x14 := hXc 14 _ rfl
  have y14 := hYc 14 _ rfl
  have x15 := hXc 15 _ rfl
  have y15 := hYc 15 _ rfl
  have x16 := hXc 16 _ rfl
  have y16 := hYc 16 _ rfl
  have x17 := hXc 17 _ rfl
  have y17 := hYc 17 _ rfl
  have x18 := hXc 18 _ rfl
  have y18 := hYc 18 _ rfl
  have x19 := hXc 19 _ rfl
  have y19 := hYc 19 _ rfl
  have hse : ∀ w, (Op.equalIn 10000 44 (.agg #[.int .i64 t1.top, .int .i64 t1.bottom, .int .i64 t1.padTop, .int .i64 t1.padBottom, .int .i64 t1.inset, .int .i64 t1.orphans, .int .i64 t1.widows, .int .i64 t1.head, .int .i64 t1.before, .int .i64 t1.after, .int .i64 t1.inside, .int .i64 t1.clear]) (.agg #[.int .i64 t2.top, .int .i64 t2.bottom, .int .i64 t2.padTop, .int .i64 t2.padBottom, .int .i64 t2.inset, .int .i64 t2.orphans, .int .i64 t2.widows, .int .i64 t2.head, .int .i64 t2.before, .int .i64 t2.after, .int .i64 t2.inside, .int .i64 t2.clear])).run Tryd.prog w = .ok vs w := fun w => by
    rw [← HVS.out]; exact sty_equal t1 t2 w
  clear hXc hYc
  by_cases hk : k1 = k2
  rotate_left
  · have hk' : (k1 == k2) = false := by simp [hk]
    go_wp2_with fail
    go_ret
    exact ⟨ret_bool (by simp [*]), HB.out⟩
  have hk' : (k1 == k2) = true := by simp [hk]
  by_cases hs : s1 = s2
  rotate_left
  · have hs' : (s1 == s2) = false := by simp [hs]
    go_wp2_with fail
    go_ret
    exact ⟨ret_bool (by simp [*]), HB.out⟩
  have hs' : (s1 == s2) = true := by simp [hs]
  cases vs with
  | false =>
    go_wp2_with fail
    go_ret
    exact ⟨ret_bool (by simp [*]), HB.out⟩
  | true =>
    by_cases hl : l1 = l2
    rotate_left
    · have hl' : (l1 == l2) = false := by simp [hl]
      go_wp2_with fail
      go_ret
      exact ⟨ret_bool (by simp [*]), HB.out⟩
    have hl' : (l1 == l2) = true := by simp [hl]
    by_cases hp : p1 = p2
    rotate_left
    · have hp' : (p1 == p2) = false := by simp [hp]
      go_wp2_with fail
      go_ret
      exact ⟨ret_bool (by simp [*]), HB.out⟩
    have hp' : (p1 == p2) = true := by simp [hp]
    cases vw with
    | false =>
      go_wp2_with (go_at_call 38; (with_reducible refine (pequal_to HVW.out _ HI1.out HI2.out).mono ?_); rintro e w5 ⟨rfl, hb5⟩; have HB5 := Lib.hid (HB.out.trans (hb5.mono (by omega))); have hx5 := bcell hb5; clear hb5)
      go_ret
      exact ⟨ret_bool (by simp [*]), HB5.out⟩
    | true =>
      by_cases hi : i1 = i2
      rotate_left
      · have hi' : (i1 == i2) = false := by simp [hi]
        go_wp2_with (go_at_call 38; (with_reducible refine (pequal_to HVW.out _ HI1.out HI2.out).mono ?_); rintro e w5 ⟨rfl, hb5⟩; have HB5 := Lib.hid (HB.out.trans (hb5.mono (by omega))); have hx5 := bcell hb5; clear hb5)
        go_ret
        exact ⟨ret_bool (by simp [*]), HB5.out⟩
      have hi' : (i1 == i2) = true := by simp [hi]
      by_cases hq : q1 = q2
      rotate_left
      · have hq' : (q1 == q2) = false := by simp [hq]
        go_wp2_with (go_at_call 38; (with_reducible refine (pequal_to HVW.out _ HI1.out HI2.out).mono ?_); rintro e w5 ⟨rfl, hb5⟩; have HB5 := Lib.hid (HB.out.trans (hb5.mono (by omega))); have hx5 := bcell hb5; clear hb5)
        go_ret
        exact ⟨ret_bool (by simp [*]), HB5.out⟩
      have hq' : (q1 == q2) = true := by simp [hq]
      by_cases hr : r1 = r2
      rotate_left
      · have hr' : (r1 == r2) = false := by simp [hr]
        go_wp2_with (go_at_call 38; (with_reducible refine (pequal_to HVW.out _ HI1.out HI2.out).mono ?_); rintro e w5 ⟨rfl, hb5⟩; have HB5 := Lib.hid (HB.out.trans (hb5.mono (by omega))); have hx5 := bcell hb5; clear hb5)
        go_ret
        exact ⟨ret_bool (by simp [*]), HB5.out⟩
      have hr' : (r1 == r2) = true := by simp [hr]
      go_wp2_with (go_at_call 38; (with_reducible refine (pequal_to HVW.out _ HI1.out HI2.out).mono ?_); rintro e w5 ⟨rfl, hb5⟩; have HB5 := Lib.hid (HB.out.trans (hb5.mono (by omega))); have hx5 := bcell hb5; clear hb5)
      go_ret
      exact ⟨ret_bool (by simp [*]), HB5.out⟩
end Go.Proofs.YtechccoongilcaaDoor
