import Derived.Test.YtkbpiekmphcdnaaRect
import Derived.Test.YtkbpiekmphcdnaaSpanLengthsMath
/- Functions of package rect that ask others. -/
namespace Go.Proofs.Ytkbpiekmphcdnaa
open Go.RowKit
set_option linter.unusedVariables false
set_option linter.unusedSimpArgs false
set_option maxRecDepth 100000 in
theorem rectof_to {a b c d p q u v : Int} (h1 : Near a) (h2 : Near b) (h3 : Near c) (h4 : Near d) (hv : ofR (a, b) (c, d) = ⟨p, q, u, v⟩) (w : World) : Calls Try.prog 37 #[.agg #[.int .i64 a, .int .i64 b], .agg #[.int .i64 c, .int .i64 d]] w fun e W' => e = .returned (.agg #[.int .i64 p, .int .i64 q, .int .i64 u, .int .i64 v]) ∧ Below w.heap.size w W' := by
  have HV := Lib.hid (show tidyR ⟨a, c, lenS (a, b), lenS (c, d)⟩ = ⟨p, q, u, v⟩ from hv)
  have H1 := Lib.hid h1
  have H2 := Lib.hid h2
  have H3 := Lib.hid h3
  have H4 := Lib.hid h4
  clear h1 h2 h3 h4 hv
  go_enter Try.func37, Try.ntmps37
  go_wp2_with fail
  generalize hW : ((w.alloc (.cells #[.int .i64 a, .int .i64 b] 23)).alloc (.cells #[.int .i64 c, .int .i64 d] 23)).alloc (.cells #[.int .i64 0, .int .i64 0, .int .i64 0, .int .i64 0] 41) = W
  have hA : Box W w.heap.size [.int .i64 a, .int .i64 b] := by rw [← hW]; exact ((Box.new2 _ _ _ _).alloc _).alloc _
  have hB : Box W (w.heap.size + 1) [.int .i64 c, .int .i64 d] := by rw [← hW]; exact ((Box.new2' _ _ _ _ _ (by simp))).alloc _
  have hR : Box W (w.heap.size + 1 + 1) [.int .i64 0, .int .i64 0, .int .i64 0, .int .i64 0] := by rw [← hW]; exact (Box.new4' _ _ _ _ _ _ _ (by simp))
  have HB := Lib.hid (show Below w.heap.size w W by rw [← hW]; go_grown)
  clear hW
  obtain ⟨a0, a1⟩ := OnW.of2 hA
  obtain ⟨b0, b1⟩ := OnW.of2 hB
  refine wp_region_on_tail 10 (by kernel_rfl) (by kernel_rfl) rfl (by kernel_rfl) ?_
  simp only [headOf, List.take_succ_cons, List.take_zero, List.getElem_toArray, List.getElem_cons_succ, List.getElem_cons_zero]
  repeat (go_big_quiet_step ((first
    | (go_at_call 11; with_reducible exact Calls.on_of (len_to rfl H1.out H2.out _))
    | (go_at_call 11; with_reducible exact Calls.on_of (len_to rfl H3.out H4.out _))
    | (go_at_call 40; with_reducible exact Calls.on_of (rtidy_to HV.out _)))))
  refine wpQuiet_nil ?_
  intro w3 hw'
  obtain ⟨⟨w', hOn⟩, hw''⟩ := hw'
  obtain rfl : w3 = w' := hw''
  replace HB := Lib.hid (below_then HB.out hOn)
  replace hR := On.box hR _ hOn
  clear a0 a1 b0 b1 hA hB hOn
  obtain ⟨⟨r0, r1, r2, r3⟩, ⟨f0, f1, f2, f3⟩, r4⟩ := hR.of4
  go_wp2_with fail
  refine bodyPost_ret (v := .agg #[.int .i64 p, .int .i64 q, .int .i64 u, .int .i64 v]) (by simp [results, Try.results37, go_sem, r0, r1, r2, r3]) rfl ⟨rfl, ?_⟩
  exact Below.setCell (Below.setCell (Below.setCell (Below.setCell HB.out (by go_size) _) (by go_size) _) (by go_size) _) (by go_size) _
/-- the spans of a rectangle lie within 2^61. -/
def Fit (r : Rc) : Prop := (Near r.x ∧ Near (r.x + r.w)) ∧ Near r.y ∧ Near (r.y + r.h)
theorem near_wrap {n : Int} (h : Near n) : IntKind.i64.wrap n = n := by unfold Near at h; exact IntWalk.i64_in _ (by omega)
theorem across_to {x y w h p q : Int} (hf : Fit ⟨x, y, w, h⟩) (hv : acrossR ⟨x, y, w, h⟩ = (p, q)) (W : World) : Calls Try.prog 41 #[.agg #[.int .i64 x, .int .i64 y, .int .i64 w, .int .i64 h]] W fun e W' => e = .returned (.agg #[.int .i64 p, .int .i64 q]) ∧ Below W.heap.size W W' := by
  injection hv with e1 e2
  subst e1 e2
  exact across_any _ _ _ _ _ (near_wrap hf.1.2)
theorem down_to {x y w h p q : Int} (hf : Fit ⟨x, y, w, h⟩) (hv : downR ⟨x, y, w, h⟩ = (p, q)) (W : World) : Calls Try.prog 42 #[.agg #[.int .i64 x, .int .i64 y, .int .i64 w, .int .i64 h]] W fun e W' => e = .returned (.agg #[.int .i64 p, .int .i64 q]) ∧ Below W.heap.size W W' := by
  injection hv with e1 e2
  subst e1 e2
  exact down_any _ _ _ _ _ (near_wrap hf.2.2)
theorem has_v {a b n : Int} {v : Bool} (h : decide (hasS (a, b) n) = v) (w : World) : Calls Try.prog 13 #[.agg #[.int .i64 a, .int .i64 b], .int .i64 n] w fun e w' => e = .returned (.bool v) ∧ Below w.heap.size w w' := by
  have h2 := has_any a b n w
  have e : decide (a ≤ n ∧ n < b) = v := by rw [← h]; exact decide_eq_decide.2 Iff.rfl
  rw [e] at h2; exact h2
theorem recthas_to {x y w h px py : Int} {v : Bool} (hf : Fit ⟨x, y, w, h⟩) (hv : decide (hasR ⟨x, y, w, h⟩ px py) = v) (W : World) : Calls Try.prog 32 #[.agg #[.int .i64 x, .int .i64 y, .int .i64 w, .int .i64 h], .int .i64 px, .int .i64 py] W fun e W' => e = .returned (.bool v) ∧ Below W.heap.size W W' := by
  obtain ⟨u1, h1⟩ : ∃ u, decide (hasS (acrossR ⟨x, y, w, h⟩) px) = u := ⟨_, rfl⟩
  obtain ⟨u2, h2⟩ : ∃ u, decide (hasS (downR ⟨x, y, w, h⟩) py) = u := ⟨_, rfl⟩
  have hv2 : (u1 && u2) = v := by rw [← hv, ← h1, ← h2]; unfold hasR; exact (Bool.decide_and _ _).symm
  subst hv2
  rcases ha : acrossR ⟨x, y, w, h⟩ with ⟨a1, b1⟩
  rcases hd : downR ⟨x, y, w, h⟩ with ⟨a2, b2⟩
  rw [ha] at h1
  rw [hd] at h2
  have HF := Lib.hid hf
  have HA := Lib.hid ha
  have HD := Lib.hid hd
  have H1 := Lib.hid h1
  have H2 := Lib.hid h2
  clear hf ha hd h1 h2 hv
  cases u1
  all_goals
    go_enter Try.func32, Try.ntmps32
    go_wp2_with fail
    refine (across_to HF.out HA.out _).mono ?_
    rintro e w1 ⟨rfl, hb⟩
    have hA := (Box.new4 W (.int .i64 x) (.int .i64 y) (.int .i64 w) (.int .i64 h) 41).below hb
    have HB := Lib.hid (below_then (by go_grown) hb : Below W.heap.size W w1)
    clear hb
    go_wp2_with fail
    refine (has_v H1.out _).mono ?_
    rintro e w2 ⟨rfl, hb⟩
    replace hA := hA.below hb
    replace HB := Lib.hid (below_then HB.out hb)
    clear hb
    obtain ⟨⟨r0, r1, r2, r3⟩, ⟨f0, f1, f2, f3⟩, r4⟩ := hA.of4
    go_wp2_with fail
  · go_ret
    exact ⟨rfl, HB.out⟩
  · refine (down_to HF.out HD.out _).mono ?_
    rintro e w3 ⟨rfl, hb⟩
    replace HB := Lib.hid (below_then HB.out hb)
    clear hb hA r0 r1 r2 r3 r4 f0 f1 f2 f3
    go_wp2_with fail
    refine (has_v H2.out _).mono ?_
    rintro e w4 ⟨rfl, hb⟩
    replace HB := Lib.hid (below_then HB.out hb)
    clear hb
    go_wp2_with fail
    go_ret
    exact ⟨ret_bool (by simp), HB.out⟩
def meetR (a b : Rc) : Rc := ofR (meetS (acrossR a) (acrossR b)) (meetS (downR a) (downR b))
set_option maxRecDepth 100000 in
theorem rectmeet_to {x y w h x' y' w' h' p q u v : Int} (hf : Fit ⟨x, y, w, h⟩) (hf' : Fit ⟨x', y', w', h'⟩) (hv : meetR ⟨x, y, w, h⟩ ⟨x', y', w', h'⟩ = ⟨p, q, u, v⟩) (W0 : World) : Calls Try.prog 39 #[.agg #[.int .i64 x, .int .i64 y, .int .i64 w, .int .i64 h], .agg #[.int .i64 x', .int .i64 y', .int .i64 w', .int .i64 h']] W0 fun e W' => e = .returned (.agg #[.int .i64 p, .int .i64 q, .int .i64 u, .int .i64 v]) ∧ Below W0.heap.size W0 W' := by
  unfold meetR at hv
  rcases ha : acrossR ⟨x, y, w, h⟩ with ⟨a1, b1⟩
  rcases hd : downR ⟨x, y, w, h⟩ with ⟨a2, b2⟩
  rcases ha' : acrossR ⟨x', y', w', h'⟩ with ⟨a3, b3⟩
  rcases hd' : downR ⟨x', y', w', h'⟩ with ⟨a4, b4⟩
  rw [ha, hd, ha', hd'] at hv
  rcases hm : meetS (a1, b1) (a3, b3) with ⟨m1, m2⟩
  rcases hn : meetS (a2, b2) (a4, b4) with ⟨m3, m4⟩
  rw [hm, hn] at hv
  have hfa : Near a1 ∧ Near b1 := by have := hf.1; injection ha with e1 e2; rw [← e1, ← e2]; exact this
  have hfd : Near a2 ∧ Near b2 := by have := hf.2; injection hd with e1 e2; rw [← e1, ← e2]; exact this
  have hfa' : Near a3 ∧ Near b3 := by have := hf'.1; injection ha' with e1 e2; rw [← e1, ← e2]; exact this
  have hfd' : Near a4 ∧ Near b4 := by have := hf'.2; injection hd' with e1 e2; rw [← e1, ← e2]; exact this
  have HX := Lib.hid (meet_near hm hfa.1 hfa.2 hfa'.1 hfa'.2)
  have HY := Lib.hid (meet_near hn hfd.1 hfd.2 hfd'.1 hfd'.2)
  have HF := Lib.hid hf
  have HF' := Lib.hid hf'
  have HA := Lib.hid ha
  have HD := Lib.hid hd
  have HA' := Lib.hid ha'
  have HD' := Lib.hid hd'
  have HM := Lib.hid hm
  have HN := Lib.hid hn
  have HV := Lib.hid hv
  clear hf hf' ha hd ha' hd' hm hn hv hfa hfd hfa' hfd'
  go_enter Try.func39, Try.ntmps39
  go_wp2_with fail
  generalize hW : ((W0.alloc (.cells #[.int .i64 x, .int .i64 y, .int .i64 w, .int .i64 h] 41)).alloc (.cells #[.int .i64 x', .int .i64 y', .int .i64 w', .int .i64 h'] 41)).alloc (.cells #[.int .i64 0, .int .i64 0, .int .i64 0, .int .i64 0] 41) = W
  have hA : Box W W0.heap.size [.int .i64 x, .int .i64 y, .int .i64 w, .int .i64 h] := by rw [← hW]; exact ((Box.new4 _ _ _ _ _ _).alloc _).alloc _
  have hB : Box W (W0.heap.size + 1) [.int .i64 x', .int .i64 y', .int .i64 w', .int .i64 h'] := by rw [← hW]; exact ((Box.new4' _ _ _ _ _ _ _ (by simp))).alloc _
  have hR : Box W (W0.heap.size + 1 + 1) [.int .i64 0, .int .i64 0, .int .i64 0, .int .i64 0] := by rw [← hW]; exact (Box.new4' _ _ _ _ _ _ _ (by simp))
  have HB := Lib.hid (show Below W0.heap.size W0 W by rw [← hW]; go_grown)
  clear hW
  obtain ⟨k0, k1, k2, k3⟩ := OnW.of4 hA
  obtain ⟨l0, l1, l2, l3⟩ := OnW.of4 hB
  refine wp_region_on_tail 11 (by kernel_rfl) (by kernel_rfl) rfl (by kernel_rfl) ?_
  simp only [headOf, List.take_succ_cons, List.take_zero, List.getElem_toArray, List.getElem_cons_succ, List.getElem_cons_zero]
  repeat (go_big_quiet_step ((first
    | (go_at_call 41; with_reducible exact Calls.on_of (across_to HF.out HA.out _))
    | (go_at_call 41; with_reducible exact Calls.on_of (across_to HF'.out HA'.out _))
    | (go_at_call 42; with_reducible exact Calls.on_of (down_to HF.out HD.out _))
    | (go_at_call 42; with_reducible exact Calls.on_of (down_to HF'.out HD'.out _))
    | (go_at_call 15; with_reducible exact Calls.on_of (meet_to HM.out _))
    | (go_at_call 15; with_reducible exact Calls.on_of (meet_to HN.out _))
    | (go_at_call 37; with_reducible exact Calls.on_of (rectof_to HX.out.1 HX.out.2 HY.out.1 HY.out.2 HV.out _)))))
  refine wpQuiet_nil ?_
  intro w3 hw'
  obtain ⟨⟨w', hOn⟩, hw''⟩ := hw'
  obtain rfl : w3 = w' := hw''
  replace HB := Lib.hid (below_then HB.out hOn)
  replace hR := On.box hR _ hOn
  clear k0 k1 k2 k3 l0 l1 l2 l3 hA hB hOn
  obtain ⟨⟨r0, r1, r2, r3⟩, ⟨f0, f1, f2, f3⟩, r4⟩ := hR.of4
  go_wp2_with fail
  refine bodyPost_ret (v := .agg #[.int .i64 p, .int .i64 q, .int .i64 u, .int .i64 v]) (by simp [results, Try.results39, go_sem, r0, r1, r2, r3]) rfl ⟨rfl, ?_⟩
  exact Below.setCell (Below.setCell (Below.setCell (Below.setCell HB.out (by go_size) _) (by go_size) _) (by go_size) _) (by go_size) _
end Go.Proofs.Ytkbpiekmphcdnaa
