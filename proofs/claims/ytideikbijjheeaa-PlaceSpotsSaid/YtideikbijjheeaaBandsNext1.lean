import Derived.Test.YtideikbijjheeaaBandsOf1
/- The program's closure of package bands that seeks the next height. (Written by program: tools/drafts/gennext1.py.) -/
namespace Go.Proofs.Ytideikbijjheeaa
open Go.RowKit
set_option linter.unusedVariables false
set_option linter.unusedSimpArgs false
def nextV (v : Bool) (z : Int) (s : Int × Bool) : Int × Bool := if v then (if s.2 = false ∨ z < s.1 then (z, true) else s) else s
set_option maxHeartbeats 2000000 in
theorem next1_no {x y u h s a b nx : Int} (hv : (leaveF x u s a b != (a, b)) = false) (hw : IntKind.i64.wrap (x + u) = x + u) (hw2 : IntKind.i64.wrap (y + h) = y + h) {fl : Bool} {w0 w : World} {ki kf kn : Nat}
    (hI : Box w ki [.int .i64 a, .int .i64 b]) (hF : Box w kf [.bool fl]) (hN : Box w kn [.int .i64 nx]) (hkf : w0.heap.size ≤ kf) (hkn : w0.heap.size ≤ kn) (hne : kn ≠ kf) (hB : Below w0.heap.size w0 w) :
    Calls Try.prog 32 #[.agg #[.int .i64 x, .int .i64 y, .int .i64 u, .int .i64 h, .int .i64 s], .pointer (some ⟨ki, 0, none⟩), .pointer (some ⟨kf, 0, none⟩), .pointer (some ⟨kn, 0, none⟩)] w fun e w' => e = .returned (.tuple #[]) ∧ Box w' kn [.int .i64 nx] ∧ Box w' kf [.bool fl] ∧ Spare [kn, kf] w w' ∧ Below w0.heap.size w0 w' := by
  have HC := Lib.hid (fun w => narrows_to (x := x) (y := y) (u := u) (h := h) (s := s) hv hw w)
  have HC2 := Lib.hid (fun w => bottom_to (x := x) (y := y) (u := u) (h := h) (s := s) hw2 w)
  clear hv
  have HI := Lib.hid hI
  have HF := Lib.hid hF
  have HN := Lib.hid hN
  have HB := Lib.hid hB
  clear hI hF hN hB
  go_enter Try.func32, Try.ntmps32
  go_wp2_with fail
  generalize hW : w.alloc (.cells #[.int .i64 x, .int .i64 y, .int .i64 u, .int .i64 h, .int .i64 s] 54) = W
  have HX := Lib.hid (show Box W w.heap.size [.int .i64 x, .int .i64 y, .int .i64 u, .int .i64 h, .int .i64 s] by rw [← hW]; exact Box.new5 _ _ _ _ _ _ _)
  have hBW : Below w.heap.size w W := by rw [← hW]; go_grown
  have HBW := Lib.hid hBW
  have HIW := Lib.hid (HI.out.below hBW)
  have HFW := Lib.hid (HF.out.below hBW)
  have HNW := Lib.hid (HN.out.below hBW)
  clear hW hBW
  have k0 := OnW.cell (W := W) HX.out.of5.1.1
  have k1 := OnW.cell (W := W) HX.out.of5.1.2.1
  have k2 := OnW.cell (W := W) HX.out.of5.1.2.2.1
  have k3 := OnW.cell (W := W) HX.out.of5.1.2.2.2.1
  have k4 := OnW.cell (W := W) HX.out.of5.1.2.2.2.2
  obtain ⟨j0, j1⟩ := OnW.of2 HIW.out
  have jf := OnW.of1 HFW.out
  have jn := OnW.of1 HNW.out
  refine wp_region_on (by kernel_rfl) (by kernel_rfl) ?_
  repeat (go_big_quiet_step ((first
    | (go_at_call 33; with_reducible exact Calls.on_of (HC.out _))
    | (go_at_call 34; with_reducible exact Calls.on_of (HC2.out _)))))
  refine wpQuiet_nil ?_
  intro w5 hw'
  obtain ⟨⟨w6, hOn⟩, hw''⟩ := hw'
  obtain rfl : w5 = w6 := hw''
  have HB5 := Lib.hid (below_then HBW.out hOn)
  clear k0 k1 k2 k3 k4 j0 j1 jf jn
  go_wp2_with fail
  go_end0
  exact ⟨rfl, HN.out.below HB5.out, HF.out.below HB5.out, Spare.below (Spare.refl _ _) HB5.out, HB.out.trans (HB5.out.mono HB.out.size)⟩
set_option maxHeartbeats 2000000 in
theorem next1_first {x y u h s a b nx : Int} (hv : (leaveF x u s a b != (a, b)) = true) (hw : IntKind.i64.wrap (x + u) = x + u) (hw2 : IntKind.i64.wrap (y + h) = y + h) {w0 w : World} {ki kf kn : Nat}
    (hI : Box w ki [.int .i64 a, .int .i64 b]) (hF : Box w kf [.bool false]) (hN : Box w kn [.int .i64 nx]) (hkf : w0.heap.size ≤ kf) (hkn : w0.heap.size ≤ kn) (hne : kn ≠ kf) (hB : Below w0.heap.size w0 w) :
    Calls Try.prog 32 #[.agg #[.int .i64 x, .int .i64 y, .int .i64 u, .int .i64 h, .int .i64 s], .pointer (some ⟨ki, 0, none⟩), .pointer (some ⟨kf, 0, none⟩), .pointer (some ⟨kn, 0, none⟩)] w fun e w' => e = .returned (.tuple #[]) ∧ Box w' kn [.int .i64 (y + h)] ∧ Box w' kf [.bool true] ∧ Spare [kn, kf] w w' ∧ Below w0.heap.size w0 w' := by
  have HC := Lib.hid (fun w => narrows_to (x := x) (y := y) (u := u) (h := h) (s := s) hv hw w)
  have HC2 := Lib.hid (fun w => bottom_to (x := x) (y := y) (u := u) (h := h) (s := s) hw2 w)
  clear hv
  have HI := Lib.hid hI
  have HF := Lib.hid hF
  have HN := Lib.hid hN
  have HB := Lib.hid hB
  clear hI hF hN hB
  go_enter Try.func32, Try.ntmps32
  go_wp2_with fail
  generalize hW : w.alloc (.cells #[.int .i64 x, .int .i64 y, .int .i64 u, .int .i64 h, .int .i64 s] 54) = W
  have HX := Lib.hid (show Box W w.heap.size [.int .i64 x, .int .i64 y, .int .i64 u, .int .i64 h, .int .i64 s] by rw [← hW]; exact Box.new5 _ _ _ _ _ _ _)
  have hBW : Below w.heap.size w W := by rw [← hW]; go_grown
  have HBW := Lib.hid hBW
  have HIW := Lib.hid (HI.out.below hBW)
  have HFW := Lib.hid (HF.out.below hBW)
  have HNW := Lib.hid (HN.out.below hBW)
  clear hW hBW
  have k0 := OnW.cell (W := W) HX.out.of5.1.1
  have k1 := OnW.cell (W := W) HX.out.of5.1.2.1
  have k2 := OnW.cell (W := W) HX.out.of5.1.2.2.1
  have k3 := OnW.cell (W := W) HX.out.of5.1.2.2.2.1
  have k4 := OnW.cell (W := W) HX.out.of5.1.2.2.2.2
  obtain ⟨j0, j1⟩ := OnW.of2 HIW.out
  have jf := OnW.of1 HFW.out
  have jn := OnW.of1 HNW.out
  refine wp_region_on (by kernel_rfl) (by kernel_rfl) ?_
  repeat (go_big_quiet_step ((first
    | (go_at_call 33; with_reducible exact Calls.on_of (HC.out _))
    | (go_at_call 34; with_reducible exact Calls.on_of (HC2.out _)))))
  refine wpQuiet_nil ?_
  intro w5 hw'
  obtain ⟨⟨w6, hOn⟩, hw''⟩ := hw'
  obtain rfl : w5 = w6 := hw''
  have HB5 := Lib.hid (below_then HBW.out hOn)
  clear k0 k1 k2 k3 k4 j0 j1 jf jn
  obtain ⟨⟨x0, x1, x2, x3, x4⟩, hxs⟩ := (HX.out.below hOn).of5
  clear hOn
  go_wp2_with fail
  refine (HC2.out _).mono ?_
  rintro e w7 ⟨rfl, hb7⟩
  have HB7 := Lib.hid (below_then HB5.out hb7)
  obtain ⟨f0, f1, f2⟩ := (HF.out.below HB7.out).of1
  obtain ⟨n0, n1, n2⟩ := (HN.out.below HB7.out).of1
  clear hb7 x0 x1 x2 x3 x4
  go_wp2_with fail
  go_end0
  refine ⟨rfl, ((HN.out.below HB7.out).set 0 (.int .i64 (y + h)) (by simp)).set_other (fun e => hne e.symm) 0 _, ((HF.out.below HB7.out).set_other hne 0 _).set 0 (.bool true) (by simp), ?_, ?_⟩
  · exact Spare.set (Spare.set (Spare.below (Spare.refl _ _) HB7.out) (by simp)) (by simp)
  · exact ((HB.out.trans (HB7.out.mono HB.out.size)).setCell hkn _).setCell hkf _
set_option maxHeartbeats 2000000 in
theorem next1_less {x y u h s a b nx : Int} (hv : (leaveF x u s a b != (a, b)) = true) (hw : IntKind.i64.wrap (x + u) = x + u) (hw2 : IntKind.i64.wrap (y + h) = y + h) (hl : y + h < nx) {w0 w : World} {ki kf kn : Nat}
    (hI : Box w ki [.int .i64 a, .int .i64 b]) (hF : Box w kf [.bool true]) (hN : Box w kn [.int .i64 nx]) (hkf : w0.heap.size ≤ kf) (hkn : w0.heap.size ≤ kn) (hne : kn ≠ kf) (hB : Below w0.heap.size w0 w) :
    Calls Try.prog 32 #[.agg #[.int .i64 x, .int .i64 y, .int .i64 u, .int .i64 h, .int .i64 s], .pointer (some ⟨ki, 0, none⟩), .pointer (some ⟨kf, 0, none⟩), .pointer (some ⟨kn, 0, none⟩)] w fun e w' => e = .returned (.tuple #[]) ∧ Box w' kn [.int .i64 (y + h)] ∧ Box w' kf [.bool true] ∧ Spare [kn, kf] w w' ∧ Below w0.heap.size w0 w' := by
  have HC := Lib.hid (fun w => narrows_to (x := x) (y := y) (u := u) (h := h) (s := s) hv hw w)
  have HC2 := Lib.hid (fun w => bottom_to (x := x) (y := y) (u := u) (h := h) (s := s) hw2 w)
  clear hv
  have HI := Lib.hid hI
  have HF := Lib.hid hF
  have HN := Lib.hid hN
  have HB := Lib.hid hB
  clear hI hF hN hB
  have hld : decide (y + h < nx) = true := decide_eq_true hl
  go_enter Try.func32, Try.ntmps32
  go_wp2_with fail
  generalize hW : w.alloc (.cells #[.int .i64 x, .int .i64 y, .int .i64 u, .int .i64 h, .int .i64 s] 54) = W
  have HX := Lib.hid (show Box W w.heap.size [.int .i64 x, .int .i64 y, .int .i64 u, .int .i64 h, .int .i64 s] by rw [← hW]; exact Box.new5 _ _ _ _ _ _ _)
  have hBW : Below w.heap.size w W := by rw [← hW]; go_grown
  have HBW := Lib.hid hBW
  have HIW := Lib.hid (HI.out.below hBW)
  have HFW := Lib.hid (HF.out.below hBW)
  have HNW := Lib.hid (HN.out.below hBW)
  clear hW hBW
  have k0 := OnW.cell (W := W) HX.out.of5.1.1
  have k1 := OnW.cell (W := W) HX.out.of5.1.2.1
  have k2 := OnW.cell (W := W) HX.out.of5.1.2.2.1
  have k3 := OnW.cell (W := W) HX.out.of5.1.2.2.2.1
  have k4 := OnW.cell (W := W) HX.out.of5.1.2.2.2.2
  obtain ⟨j0, j1⟩ := OnW.of2 HIW.out
  have jf := OnW.of1 HFW.out
  have jn := OnW.of1 HNW.out
  refine wp_region_on (by kernel_rfl) (by kernel_rfl) ?_
  repeat (go_big_quiet_step ((first
    | (go_at_call 33; with_reducible exact Calls.on_of (HC.out _))
    | (go_at_call 34; with_reducible exact Calls.on_of (HC2.out _)))))
  refine wpQuiet_nil ?_
  intro w5 hw'
  obtain ⟨⟨w6, hOn⟩, hw''⟩ := hw'
  obtain rfl : w5 = w6 := hw''
  have HB5 := Lib.hid (below_then HBW.out hOn)
  clear k0 k1 k2 k3 k4 j0 j1 jf jn
  obtain ⟨⟨x0, x1, x2, x3, x4⟩, hxs⟩ := (HX.out.below hOn).of5
  clear hOn
  go_wp2_with fail
  refine (HC2.out _).mono ?_
  rintro e w7 ⟨rfl, hb7⟩
  have HB7 := Lib.hid (below_then HB5.out hb7)
  obtain ⟨f0, f1, f2⟩ := (HF.out.below HB7.out).of1
  obtain ⟨n0, n1, n2⟩ := (HN.out.below HB7.out).of1
  clear hb7 x0 x1 x2 x3 x4
  go_wp2_with fail
  go_end0
  refine ⟨rfl, ((HN.out.below HB7.out).set 0 (.int .i64 (y + h)) (by simp)).set_other (fun e => hne e.symm) 0 _, ((HF.out.below HB7.out).set_other hne 0 _).set 0 (.bool true) (by simp), ?_, ?_⟩
  · exact Spare.set (Spare.set (Spare.below (Spare.refl _ _) HB7.out) (by simp)) (by simp)
  · exact ((HB.out.trans (HB7.out.mono HB.out.size)).setCell hkn _).setCell hkf _
set_option maxHeartbeats 2000000 in
theorem next1_more {x y u h s a b nx : Int} (hv : (leaveF x u s a b != (a, b)) = true) (hw : IntKind.i64.wrap (x + u) = x + u) (hw2 : IntKind.i64.wrap (y + h) = y + h) (hl : ¬ y + h < nx) {w0 w : World} {ki kf kn : Nat}
    (hI : Box w ki [.int .i64 a, .int .i64 b]) (hF : Box w kf [.bool true]) (hN : Box w kn [.int .i64 nx]) (hkf : w0.heap.size ≤ kf) (hkn : w0.heap.size ≤ kn) (hne : kn ≠ kf) (hB : Below w0.heap.size w0 w) :
    Calls Try.prog 32 #[.agg #[.int .i64 x, .int .i64 y, .int .i64 u, .int .i64 h, .int .i64 s], .pointer (some ⟨ki, 0, none⟩), .pointer (some ⟨kf, 0, none⟩), .pointer (some ⟨kn, 0, none⟩)] w fun e w' => e = .returned (.tuple #[]) ∧ Box w' kn [.int .i64 nx] ∧ Box w' kf [.bool true] ∧ Spare [kn, kf] w w' ∧ Below w0.heap.size w0 w' := by
  have HC := Lib.hid (fun w => narrows_to (x := x) (y := y) (u := u) (h := h) (s := s) hv hw w)
  have HC2 := Lib.hid (fun w => bottom_to (x := x) (y := y) (u := u) (h := h) (s := s) hw2 w)
  clear hv
  have HI := Lib.hid hI
  have HF := Lib.hid hF
  have HN := Lib.hid hN
  have HB := Lib.hid hB
  clear hI hF hN hB
  have hld : decide (y + h < nx) = false := decide_eq_false hl
  go_enter Try.func32, Try.ntmps32
  go_wp2_with fail
  generalize hW : w.alloc (.cells #[.int .i64 x, .int .i64 y, .int .i64 u, .int .i64 h, .int .i64 s] 54) = W
  have HX := Lib.hid (show Box W w.heap.size [.int .i64 x, .int .i64 y, .int .i64 u, .int .i64 h, .int .i64 s] by rw [← hW]; exact Box.new5 _ _ _ _ _ _ _)
  have hBW : Below w.heap.size w W := by rw [← hW]; go_grown
  have HBW := Lib.hid hBW
  have HIW := Lib.hid (HI.out.below hBW)
  have HFW := Lib.hid (HF.out.below hBW)
  have HNW := Lib.hid (HN.out.below hBW)
  clear hW hBW
  have k0 := OnW.cell (W := W) HX.out.of5.1.1
  have k1 := OnW.cell (W := W) HX.out.of5.1.2.1
  have k2 := OnW.cell (W := W) HX.out.of5.1.2.2.1
  have k3 := OnW.cell (W := W) HX.out.of5.1.2.2.2.1
  have k4 := OnW.cell (W := W) HX.out.of5.1.2.2.2.2
  obtain ⟨j0, j1⟩ := OnW.of2 HIW.out
  have jf := OnW.of1 HFW.out
  have jn := OnW.of1 HNW.out
  refine wp_region_on (by kernel_rfl) (by kernel_rfl) ?_
  repeat (go_big_quiet_step ((first
    | (go_at_call 33; with_reducible exact Calls.on_of (HC.out _))
    | (go_at_call 34; with_reducible exact Calls.on_of (HC2.out _)))))
  refine wpQuiet_nil ?_
  intro w5 hw'
  obtain ⟨⟨w6, hOn⟩, hw''⟩ := hw'
  obtain rfl : w5 = w6 := hw''
  have HB5 := Lib.hid (below_then HBW.out hOn)
  clear k0 k1 k2 k3 k4 j0 j1 jf jn
  go_wp2_with fail
  go_end0
  exact ⟨rfl, HN.out.below HB5.out, HF.out.below HB5.out, Spare.below (Spare.refl _ _) HB5.out, HB.out.trans (HB5.out.mono HB.out.size)⟩
theorem next1_to {x y u h s a b nx p : Int} {v fl ok : Bool} (hv : (leaveF x u s a b != (a, b)) = v) (hr : nextV v (y + h) (nx, fl) = (p, ok)) (hw : IntKind.i64.wrap (x + u) = x + u) (hw2 : IntKind.i64.wrap (y + h) = y + h) {w0 w : World} {ki kf kn : Nat}
    (hI : Box w ki [.int .i64 a, .int .i64 b]) (hF : Box w kf [.bool fl]) (hN : Box w kn [.int .i64 nx]) (hkf : w0.heap.size ≤ kf) (hkn : w0.heap.size ≤ kn) (hne : kn ≠ kf) (hB : Below w0.heap.size w0 w) :
    Calls Try.prog 32 #[.agg #[.int .i64 x, .int .i64 y, .int .i64 u, .int .i64 h, .int .i64 s], .pointer (some ⟨ki, 0, none⟩), .pointer (some ⟨kf, 0, none⟩), .pointer (some ⟨kn, 0, none⟩)] w fun e w' => e = .returned (.tuple #[]) ∧ Box w' kn [.int .i64 p] ∧ Box w' kf [.bool ok] ∧ Spare [kn, kf] w w' ∧ Below w0.heap.size w0 w' := by
  unfold nextV at hr
  cases v with
  | false =>
    rw [if_neg (by decide)] at hr
    injection hr with e1 e2
    subst e1 e2
    exact next1_no hv hw hw2 hI hF hN hkf hkn hne hB
  | true =>
    rw [if_pos rfl] at hr
    cases fl with
    | false =>
      rw [if_pos (.inl rfl)] at hr
      injection hr with e1 e2
      subst e1 e2
      exact next1_first hv hw hw2 hI hF hN hkf hkn hne hB
    | true =>
      by_cases hl : y + h < nx
      · rw [if_pos (.inr hl)] at hr
        injection hr with e1 e2
        subst e1 e2
        exact next1_less hv hw hw2 hl hI hF hN hkf hkn hne hB
      · rw [if_neg (by simpa using hl)] at hr
        injection hr with e1 e2
        subst e1 e2
        exact next1_more hv hw hw2 hl hI hF hN hkf hkn hne hB
end Go.Proofs.Ytideikbijjheeaa
