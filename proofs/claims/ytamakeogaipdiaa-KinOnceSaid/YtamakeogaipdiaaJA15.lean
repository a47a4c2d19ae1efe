import Derived.Test.YtamakeogaipdiaaJA09
/- The program's package valid: one node's numbers. (Written by program: tools/drafts/genmay2.py.) -/
namespace Go.Proofs.Ytamakeogaipdiaa
open Go.RowKit
set_option linter.unusedVariables false
set_option linter.unusedSimpArgs false
def mayB (m : NdM) (ws : List Int) : Bool :=
  if m.kind = 1 then mayStyleB m.sty && noTextB m && decide (m.side = 0) && noBoxB m
  else if m.kind = 2 then noStyleB m && mayTextB m ws && decide (m.side = 0) && noBoxB m
  else if m.kind = 3 then noStyleB m && noTextB m && decide (m.side = 0) && mayBoxB m
  else if m.kind = 4 then noStyleB m && noTextB m && !([m.side].any (oddB 1 2)) && mayBoxB m
  else false
set_option maxHeartbeats 4000000 in
theorem pmay_k1 (m : NdM) (ws : List Int) (w : World) (hk : m.kind = 1) (hI : Ints w m.A m.n ws) : Calls Try.prog 73 #[.agg (encM m).toArray] w fun e w' => e = .returned (.bool (mayB m ws)) ∧ Below w.heap.size w w' := by
  show Calls Try.prog 73 #[.agg #[.int .i64 m.kind, .int .i64 m.size, .int .i64 m.sty.top, .int .i64 m.sty.bottom, .int .i64 m.sty.padTop, .int .i64 m.sty.padBottom, .int .i64 m.sty.inset, .int .i64 m.sty.orphans, .int .i64 m.sty.widows, .int .i64 m.sty.head, .int .i64 m.sty.before, .int .i64 m.sty.after, .int .i64 m.sty.inside, .int .i64 m.sty.clear, .int .i64 m.line, .int .i64 m.space, .slice m.A m.n m.c, .int .i64 m.side, .int .i64 m.w, .int .i64 m.h]] w fun e w' => e = .returned (.bool (mayB m ws)) ∧ Below w.heap.size w w'
  have k1 : (m.kind == 1) = true := by rw [hk]; rfl
  have HB0 : mayB m ws = (mayStyleB m.sty && noTextB m && decide (m.side = 0) && noBoxB m) := by unfold mayB; rw [hk]; rfl
  clear hk
  have HI := Lib.hid hI
  clear hI
  obtain ⟨v0, hv0⟩ : ∃ v, mayStyleB m.sty = v := ⟨_, rfl⟩
  have HV0 := Lib.hid hv0
  obtain ⟨v1, hv1⟩ : ∃ v, noTextB m = v := ⟨_, rfl⟩
  have HV1 := Lib.hid hv1
  obtain ⟨v3, hv3⟩ : ∃ v, noBoxB m = v := ⟨_, rfl⟩
  have HV3 := Lib.hid hv3
  have HB0 := Lib.hid HB0
  clear hv0 hv1 hv3
  have HK := Lib.hid (show Blk (w.alloc (.cells #[.int .i64 m.kind, .int .i64 m.size, .int .i64 m.sty.top, .int .i64 m.sty.bottom, .int .i64 m.sty.padTop, .int .i64 m.sty.padBottom, .int .i64 m.sty.inset, .int .i64 m.sty.orphans, .int .i64 m.sty.widows, .int .i64 m.sty.head, .int .i64 m.sty.before, .int .i64 m.sty.after, .int .i64 m.sty.inside, .int .i64 m.sty.clear, .int .i64 m.line, .int .i64 m.space, .slice m.A m.n m.c, .int .i64 m.side, .int .i64 m.w, .int .i64 m.h] 45)) w.heap.size 45 [.int .i64 m.kind, .int .i64 m.size, .int .i64 m.sty.top, .int .i64 m.sty.bottom, .int .i64 m.sty.padTop, .int .i64 m.sty.padBottom, .int .i64 m.sty.inset, .int .i64 m.sty.orphans, .int .i64 m.sty.widows, .int .i64 m.sty.head, .int .i64 m.sty.before, .int .i64 m.sty.after, .int .i64 m.sty.inside, .int .i64 m.sty.clear, .int .i64 m.line, .int .i64 m.space, .slice m.A m.n m.c, .int .i64 m.side, .int .i64 m.w, .int .i64 m.h] from Blk.new w 45 [.int .i64 m.kind, .int .i64 m.size, .int .i64 m.sty.top, .int .i64 m.sty.bottom, .int .i64 m.sty.padTop, .int .i64 m.sty.padBottom, .int .i64 m.sty.inset, .int .i64 m.sty.orphans, .int .i64 m.sty.widows, .int .i64 m.sty.head, .int .i64 m.sty.before, .int .i64 m.sty.after, .int .i64 m.sty.inside, .int .i64 m.sty.clear, .int .i64 m.line, .int .i64 m.space, .slice m.A m.n m.c, .int .i64 m.side, .int .i64 m.w, .int .i64 m.h] _ rfl _ rfl)
  have HR := Lib.hid (sty_range (m := m) HK.out.box)
  go_enter Try.func73, Try.ntmps73
  go_wp2_with ((with_reducible refine stop_load 43 (.tmp 7) ?_ ?_); exact rfl; refine Stop.intro ?_; refine wpList_load_mid rfl 43 (.tmp 7) rfl w.heap.size (0 + 2) rfl (encS12 m.sty) _ HR.out Try.underlying43 rfl (by kernel_rfl) ?_)
  refine (pmaystyle_to HV0.out _).mono ?_
  rintro e w1 ⟨rfl, hb⟩
  have HB := Lib.hid (below_then (show Below w.heap.size w _ by go_grown) hb)
  have HK := Lib.hid (show Blk w1 w.heap.size 45 [.int .i64 m.kind, .int .i64 m.size, .int .i64 m.sty.top, .int .i64 m.sty.bottom, .int .i64 m.sty.padTop, .int .i64 m.sty.padBottom, .int .i64 m.sty.inset, .int .i64 m.sty.orphans, .int .i64 m.sty.widows, .int .i64 m.sty.head, .int .i64 m.sty.before, .int .i64 m.sty.after, .int .i64 m.sty.inside, .int .i64 m.sty.clear, .int .i64 m.line, .int .i64 m.space, .slice m.A m.n m.c, .int .i64 m.side, .int .i64 m.w, .int .i64 m.h] from HK.out.on hb)
  clear hb
  cases v0 with
  | false =>
    go_wp2_with fail
    go_ret
    exact ⟨ret_bool (by rw [HB0.out, HV0.out]; simp), HB.out⟩
  | true =>
  go_wp2_with ((with_reducible refine stop_load 45 (.tmp 1) ?_ ?_); exact rfl; refine Stop.intro ?_; refine Go.Proofs.Ytamakeogaipdiaa.wpList_load_row_w (by kernel_rfl) 45 (.tmp 1) rfl (w.heap.size) rfl 45 #[.int .i64 m.kind, .int .i64 m.size, .int .i64 m.sty.top, .int .i64 m.sty.bottom, .int .i64 m.sty.padTop, .int .i64 m.sty.padBottom, .int .i64 m.sty.inset, .int .i64 m.sty.orphans, .int .i64 m.sty.widows, .int .i64 m.sty.head, .int .i64 m.sty.before, .int .i64 m.sty.after, .int .i64 m.sty.inside, .int .i64 m.sty.clear, .int .i64 m.line, .int .i64 m.space, .slice m.A m.n m.c, .int .i64 m.side, .int .i64 m.w, .int .i64 m.h] _ (HK.out) Try.underlying45 rfl (by kernel_rfl) ?_)
  refine (pnotext_to (m := m) HV1.out _).mono ?_
  rintro e w2 ⟨rfl, hb⟩
  have HB := Lib.hid (below_then HB.out hb)
  have HK := Lib.hid (show Blk w2 w.heap.size 45 [.int .i64 m.kind, .int .i64 m.size, .int .i64 m.sty.top, .int .i64 m.sty.bottom, .int .i64 m.sty.padTop, .int .i64 m.sty.padBottom, .int .i64 m.sty.inset, .int .i64 m.sty.orphans, .int .i64 m.sty.widows, .int .i64 m.sty.head, .int .i64 m.sty.before, .int .i64 m.sty.after, .int .i64 m.sty.inside, .int .i64 m.sty.clear, .int .i64 m.line, .int .i64 m.space, .slice m.A m.n m.c, .int .i64 m.side, .int .i64 m.w, .int .i64 m.h] from HK.out.on hb)
  clear hb
  cases v1 with
  | false =>
    go_wp2_with fail
    go_ret
    exact ⟨ret_bool (by rw [HB0.out, HV0.out, HV1.out]; simp), HB.out⟩
  | true =>
  have c17 := HK.out.box.2.2 17 _ rfl
  by_cases hs : m.side = 0
  rotate_left
  · have s0 : (m.side == 0) = false := by simpa using hs
    have HS := Lib.hid (decide_eq_false hs)
    clear hs
    go_wp2_with fail
    go_ret
    exact ⟨ret_bool (by rw [HB0.out, HV0.out, HV1.out, HS.out]; simp), HB.out⟩
  have s0 : (m.side == 0) = true := by simpa using hs
  have HS := Lib.hid (decide_eq_true hs)
  clear hs
  go_wp2_with ((with_reducible refine stop_load 45 (.tmp 1) ?_ ?_); exact rfl; refine Stop.intro ?_; refine Go.Proofs.Ytamakeogaipdiaa.wpList_load_row_w (by kernel_rfl) 45 (.tmp 1) rfl (w.heap.size) rfl 45 #[.int .i64 m.kind, .int .i64 m.size, .int .i64 m.sty.top, .int .i64 m.sty.bottom, .int .i64 m.sty.padTop, .int .i64 m.sty.padBottom, .int .i64 m.sty.inset, .int .i64 m.sty.orphans, .int .i64 m.sty.widows, .int .i64 m.sty.head, .int .i64 m.sty.before, .int .i64 m.sty.after, .int .i64 m.sty.inside, .int .i64 m.sty.clear, .int .i64 m.line, .int .i64 m.space, .slice m.A m.n m.c, .int .i64 m.side, .int .i64 m.w, .int .i64 m.h] _ (HK.out) Try.underlying45 rfl (by kernel_rfl) ?_)
  refine (pnobox_to (m := m) HV3.out _).mono ?_
  rintro e w3 ⟨rfl, hb⟩
  have HB := Lib.hid (below_then HB.out hb)
  have HK := Lib.hid (show Blk w3 w.heap.size 45 [.int .i64 m.kind, .int .i64 m.size, .int .i64 m.sty.top, .int .i64 m.sty.bottom, .int .i64 m.sty.padTop, .int .i64 m.sty.padBottom, .int .i64 m.sty.inset, .int .i64 m.sty.orphans, .int .i64 m.sty.widows, .int .i64 m.sty.head, .int .i64 m.sty.before, .int .i64 m.sty.after, .int .i64 m.sty.inside, .int .i64 m.sty.clear, .int .i64 m.line, .int .i64 m.space, .slice m.A m.n m.c, .int .i64 m.side, .int .i64 m.w, .int .i64 m.h] from HK.out.on hb)
  clear hb
  go_wp2_with fail
  go_ret
  exact ⟨ret_bool (by rw [HB0.out, HV0.out, HV1.out, HS.out, HV3.out]; simp), HB.out⟩
set_option maxHeartbeats 4000000 in
theorem pmay_k2 (m : NdM) (ws : List Int) (w : World) (hk : m.kind = 2) (hI : Ints w m.A m.n ws) : Calls Try.prog 73 #[.agg (encM m).toArray] w fun e w' => e = .returned (.bool (mayB m ws)) ∧ Below w.heap.size w w' := by
  show Calls Try.prog 73 #[.agg #[.int .i64 m.kind, .int .i64 m.size, .int .i64 m.sty.top, .int .i64 m.sty.bottom, .int .i64 m.sty.padTop, .int .i64 m.sty.padBottom, .int .i64 m.sty.inset, .int .i64 m.sty.orphans, .int .i64 m.sty.widows, .int .i64 m.sty.head, .int .i64 m.sty.before, .int .i64 m.sty.after, .int .i64 m.sty.inside, .int .i64 m.sty.clear, .int .i64 m.line, .int .i64 m.space, .slice m.A m.n m.c, .int .i64 m.side, .int .i64 m.w, .int .i64 m.h]] w fun e w' => e = .returned (.bool (mayB m ws)) ∧ Below w.heap.size w w'
  have k1 : (m.kind == 1) = false := by rw [hk]; rfl
  have k2 : (m.kind == 2) = true := by rw [hk]; rfl
  have HB0 : mayB m ws = (noStyleB m && mayTextB m ws && decide (m.side = 0) && noBoxB m) := by unfold mayB; rw [hk]; rfl
  clear hk
  have HI := Lib.hid hI
  clear hI
  obtain ⟨v0, hv0⟩ : ∃ v, noStyleB m = v := ⟨_, rfl⟩
  have HV0 := Lib.hid hv0
  obtain ⟨v1, hv1⟩ : ∃ v, mayTextB m ws = v := ⟨_, rfl⟩
  have HV1 := Lib.hid hv1
  obtain ⟨v3, hv3⟩ : ∃ v, noBoxB m = v := ⟨_, rfl⟩
  have HV3 := Lib.hid hv3
  have HB0 := Lib.hid HB0
  clear hv0 hv1 hv3
  have HK := Lib.hid (show Blk (w.alloc (.cells #[.int .i64 m.kind, .int .i64 m.size, .int .i64 m.sty.top, .int .i64 m.sty.bottom, .int .i64 m.sty.padTop, .int .i64 m.sty.padBottom, .int .i64 m.sty.inset, .int .i64 m.sty.orphans, .int .i64 m.sty.widows, .int .i64 m.sty.head, .int .i64 m.sty.before, .int .i64 m.sty.after, .int .i64 m.sty.inside, .int .i64 m.sty.clear, .int .i64 m.line, .int .i64 m.space, .slice m.A m.n m.c, .int .i64 m.side, .int .i64 m.w, .int .i64 m.h] 45)) w.heap.size 45 [.int .i64 m.kind, .int .i64 m.size, .int .i64 m.sty.top, .int .i64 m.sty.bottom, .int .i64 m.sty.padTop, .int .i64 m.sty.padBottom, .int .i64 m.sty.inset, .int .i64 m.sty.orphans, .int .i64 m.sty.widows, .int .i64 m.sty.head, .int .i64 m.sty.before, .int .i64 m.sty.after, .int .i64 m.sty.inside, .int .i64 m.sty.clear, .int .i64 m.line, .int .i64 m.space, .slice m.A m.n m.c, .int .i64 m.side, .int .i64 m.w, .int .i64 m.h] from Blk.new w 45 [.int .i64 m.kind, .int .i64 m.size, .int .i64 m.sty.top, .int .i64 m.sty.bottom, .int .i64 m.sty.padTop, .int .i64 m.sty.padBottom, .int .i64 m.sty.inset, .int .i64 m.sty.orphans, .int .i64 m.sty.widows, .int .i64 m.sty.head, .int .i64 m.sty.before, .int .i64 m.sty.after, .int .i64 m.sty.inside, .int .i64 m.sty.clear, .int .i64 m.line, .int .i64 m.space, .slice m.A m.n m.c, .int .i64 m.side, .int .i64 m.w, .int .i64 m.h] _ rfl _ rfl)
  go_enter Try.func73, Try.ntmps73
  go_wp2_with ((with_reducible refine stop_load 45 (.tmp 1) ?_ ?_); exact rfl; refine Stop.intro ?_; refine Go.Proofs.Ytamakeogaipdiaa.wpList_load_row_w (by kernel_rfl) 45 (.tmp 1) rfl (w.heap.size) rfl 45 #[.int .i64 m.kind, .int .i64 m.size, .int .i64 m.sty.top, .int .i64 m.sty.bottom, .int .i64 m.sty.padTop, .int .i64 m.sty.padBottom, .int .i64 m.sty.inset, .int .i64 m.sty.orphans, .int .i64 m.sty.widows, .int .i64 m.sty.head, .int .i64 m.sty.before, .int .i64 m.sty.after, .int .i64 m.sty.inside, .int .i64 m.sty.clear, .int .i64 m.line, .int .i64 m.space, .slice m.A m.n m.c, .int .i64 m.side, .int .i64 m.w, .int .i64 m.h] _ (HK.out) Try.underlying45 rfl (by kernel_rfl) ?_)
  refine (pnostyle_to (m := m) HV0.out _).mono ?_
  rintro e w1 ⟨rfl, hb⟩
  have HB := Lib.hid (below_then (show Below w.heap.size w _ by go_grown) hb)
  have HK := Lib.hid (show Blk w1 w.heap.size 45 [.int .i64 m.kind, .int .i64 m.size, .int .i64 m.sty.top, .int .i64 m.sty.bottom, .int .i64 m.sty.padTop, .int .i64 m.sty.padBottom, .int .i64 m.sty.inset, .int .i64 m.sty.orphans, .int .i64 m.sty.widows, .int .i64 m.sty.head, .int .i64 m.sty.before, .int .i64 m.sty.after, .int .i64 m.sty.inside, .int .i64 m.sty.clear, .int .i64 m.line, .int .i64 m.space, .slice m.A m.n m.c, .int .i64 m.side, .int .i64 m.w, .int .i64 m.h] from HK.out.on hb)
  clear hb
  cases v0 with
  | false =>
    go_wp2_with fail
    go_ret
    exact ⟨ret_bool (by rw [HB0.out, HV0.out]; simp), HB.out⟩
  | true =>
  go_wp2_with ((with_reducible refine stop_load 45 (.tmp 1) ?_ ?_); exact rfl; refine Stop.intro ?_; refine Go.Proofs.Ytamakeogaipdiaa.wpList_load_row_w (by kernel_rfl) 45 (.tmp 1) rfl (w.heap.size) rfl 45 #[.int .i64 m.kind, .int .i64 m.size, .int .i64 m.sty.top, .int .i64 m.sty.bottom, .int .i64 m.sty.padTop, .int .i64 m.sty.padBottom, .int .i64 m.sty.inset, .int .i64 m.sty.orphans, .int .i64 m.sty.widows, .int .i64 m.sty.head, .int .i64 m.sty.before, .int .i64 m.sty.after, .int .i64 m.sty.inside, .int .i64 m.sty.clear, .int .i64 m.line, .int .i64 m.space, .slice m.A m.n m.c, .int .i64 m.side, .int .i64 m.w, .int .i64 m.h] _ (HK.out) Try.underlying45 rfl (by kernel_rfl) ?_)
  refine (pmaytext_to (m := m) HV1.out _ (HI.out.below HB.out rfl)).mono ?_
  rintro e w2 ⟨rfl, hb⟩
  have HB := Lib.hid (below_then HB.out hb)
  have HK := Lib.hid (show Blk w2 w.heap.size 45 [.int .i64 m.kind, .int .i64 m.size, .int .i64 m.sty.top, .int .i64 m.sty.bottom, .int .i64 m.sty.padTop, .int .i64 m.sty.padBottom, .int .i64 m.sty.inset, .int .i64 m.sty.orphans, .int .i64 m.sty.widows, .int .i64 m.sty.head, .int .i64 m.sty.before, .int .i64 m.sty.after, .int .i64 m.sty.inside, .int .i64 m.sty.clear, .int .i64 m.line, .int .i64 m.space, .slice m.A m.n m.c, .int .i64 m.side, .int .i64 m.w, .int .i64 m.h] from HK.out.on hb)
  clear hb
  cases v1 with
  | false =>
    go_wp2_with fail
    go_ret
    exact ⟨ret_bool (by rw [HB0.out, HV0.out, HV1.out]; simp), HB.out⟩
  | true =>
  have c17 := HK.out.box.2.2 17 _ rfl
  by_cases hs : m.side = 0
  rotate_left
  · have s0 : (m.side == 0) = false := by simpa using hs
    have HS := Lib.hid (decide_eq_false hs)
    clear hs
    go_wp2_with fail
    go_ret
    exact ⟨ret_bool (by rw [HB0.out, HV0.out, HV1.out, HS.out]; simp), HB.out⟩
  have s0 : (m.side == 0) = true := by simpa using hs
  have HS := Lib.hid (decide_eq_true hs)
  clear hs
  go_wp2_with ((with_reducible refine stop_load 45 (.tmp 1) ?_ ?_); exact rfl; refine Stop.intro ?_; refine Go.Proofs.Ytamakeogaipdiaa.wpList_load_row_w (by kernel_rfl) 45 (.tmp 1) rfl (w.heap.size) rfl 45 #[.int .i64 m.kind, .int .i64 m.size, .int .i64 m.sty.top, .int .i64 m.sty.bottom, .int .i64 m.sty.padTop, .int .i64 m.sty.padBottom, .int .i64 m.sty.inset, .int .i64 m.sty.orphans, .int .i64 m.sty.widows, .int .i64 m.sty.head, .int .i64 m.sty.before, .int .i64 m.sty.after, .int .i64 m.sty.inside, .int .i64 m.sty.clear, .int .i64 m.line, .int .i64 m.space, .slice m.A m.n m.c, .int .i64 m.side, .int .i64 m.w, .int .i64 m.h] _ (HK.out) Try.underlying45 rfl (by kernel_rfl) ?_)
  refine (pnobox_to (m := m) HV3.out _).mono ?_
  rintro e w3 ⟨rfl, hb⟩
  have HB := Lib.hid (below_then HB.out hb)
  have HK := Lib.hid (show Blk w3 w.heap.size 45 [.int .i64 m.kind, .int .i64 m.size, .int .i64 m.sty.top, .int .i64 m.sty.bottom, .int .i64 m.sty.padTop, .int .i64 m.sty.padBottom, .int .i64 m.sty.inset, .int .i64 m.sty.orphans, .int .i64 m.sty.widows, .int .i64 m.sty.head, .int .i64 m.sty.before, .int .i64 m.sty.after, .int .i64 m.sty.inside, .int .i64 m.sty.clear, .int .i64 m.line, .int .i64 m.space, .slice m.A m.n m.c, .int .i64 m.side, .int .i64 m.w, .int .i64 m.h] from HK.out.on hb)
  clear hb
  go_wp2_with fail
  go_ret
  exact ⟨ret_bool (by rw [HB0.out, HV0.out, HV1.out, HS.out, HV3.out]; simp), HB.out⟩
set_option maxHeartbeats 4000000 in
theorem pmay_k3 (m : NdM) (ws : List Int) (w : World) (hk : m.kind = 3) (hI : Ints w m.A m.n ws) : Calls Try.prog 73 #[.agg (encM m).toArray] w fun e w' => e = .returned (.bool (mayB m ws)) ∧ Below w.heap.size w w' := by
  show Calls Try.prog 73 #[.agg #[.int .i64 m.kind, .int .i64 m.size, .int .i64 m.sty.top, .int .i64 m.sty.bottom, .int .i64 m.sty.padTop, .int .i64 m.sty.padBottom, .int .i64 m.sty.inset, .int .i64 m.sty.orphans, .int .i64 m.sty.widows, .int .i64 m.sty.head, .int .i64 m.sty.before, .int .i64 m.sty.after, .int .i64 m.sty.inside, .int .i64 m.sty.clear, .int .i64 m.line, .int .i64 m.space, .slice m.A m.n m.c, .int .i64 m.side, .int .i64 m.w, .int .i64 m.h]] w fun e w' => e = .returned (.bool (mayB m ws)) ∧ Below w.heap.size w w'
  have k1 : (m.kind == 1) = false := by rw [hk]; rfl
  have k2 : (m.kind == 2) = false := by rw [hk]; rfl
  have k3 : (m.kind == 3) = true := by rw [hk]; rfl
  have HB0 : mayB m ws = (noStyleB m && noTextB m && decide (m.side = 0) && mayBoxB m) := by unfold mayB; rw [hk]; rfl
  clear hk
  have HI := Lib.hid hI
  clear hI
  obtain ⟨v0, hv0⟩ : ∃ v, noStyleB m = v := ⟨_, rfl⟩
  have HV0 := Lib.hid hv0
  obtain ⟨v1, hv1⟩ : ∃ v, noTextB m = v := ⟨_, rfl⟩
  have HV1 := Lib.hid hv1
  obtain ⟨v3, hv3⟩ : ∃ v, mayBoxB m = v := ⟨_, rfl⟩
  have HV3 := Lib.hid hv3
  have HB0 := Lib.hid HB0
  clear hv0 hv1 hv3
  have HK := Lib.hid (show Blk (w.alloc (.cells #[.int .i64 m.kind, .int .i64 m.size, .int .i64 m.sty.top, .int .i64 m.sty.bottom, .int .i64 m.sty.padTop, .int .i64 m.sty.padBottom, .int .i64 m.sty.inset, .int .i64 m.sty.orphans, .int .i64 m.sty.widows, .int .i64 m.sty.head, .int .i64 m.sty.before, .int .i64 m.sty.after, .int .i64 m.sty.inside, .int .i64 m.sty.clear, .int .i64 m.line, .int .i64 m.space, .slice m.A m.n m.c, .int .i64 m.side, .int .i64 m.w, .int .i64 m.h] 45)) w.heap.size 45 [.int .i64 m.kind, .int .i64 m.size, .int .i64 m.sty.top, .int .i64 m.sty.bottom, .int .i64 m.sty.padTop, .int .i64 m.sty.padBottom, .int .i64 m.sty.inset, .int .i64 m.sty.orphans, .int .i64 m.sty.widows, .int .i64 m.sty.head, .int .i64 m.sty.before, .int .i64 m.sty.after, .int .i64 m.sty.inside, .int .i64 m.sty.clear, .int .i64 m.line, .int .i64 m.space, .slice m.A m.n m.c, .int .i64 m.side, .int .i64 m.w, .int .i64 m.h] from Blk.new w 45 [.int .i64 m.kind, .int .i64 m.size, .int .i64 m.sty.top, .int .i64 m.sty.bottom, .int .i64 m.sty.padTop, .int .i64 m.sty.padBottom, .int .i64 m.sty.inset, .int .i64 m.sty.orphans, .int .i64 m.sty.widows, .int .i64 m.sty.head, .int .i64 m.sty.before, .int .i64 m.sty.after, .int .i64 m.sty.inside, .int .i64 m.sty.clear, .int .i64 m.line, .int .i64 m.space, .slice m.A m.n m.c, .int .i64 m.side, .int .i64 m.w, .int .i64 m.h] _ rfl _ rfl)
  go_enter Try.func73, Try.ntmps73
  go_wp2_with ((with_reducible refine stop_load 45 (.tmp 1) ?_ ?_); exact rfl; refine Stop.intro ?_; refine Go.Proofs.Ytamakeogaipdiaa.wpList_load_row_w (by kernel_rfl) 45 (.tmp 1) rfl (w.heap.size) rfl 45 #[.int .i64 m.kind, .int .i64 m.size, .int .i64 m.sty.top, .int .i64 m.sty.bottom, .int .i64 m.sty.padTop, .int .i64 m.sty.padBottom, .int .i64 m.sty.inset, .int .i64 m.sty.orphans, .int .i64 m.sty.widows, .int .i64 m.sty.head, .int .i64 m.sty.before, .int .i64 m.sty.after, .int .i64 m.sty.inside, .int .i64 m.sty.clear, .int .i64 m.line, .int .i64 m.space, .slice m.A m.n m.c, .int .i64 m.side, .int .i64 m.w, .int .i64 m.h] _ (HK.out) Try.underlying45 rfl (by kernel_rfl) ?_)
  refine (pnostyle_to (m := m) HV0.out _).mono ?_
  rintro e w1 ⟨rfl, hb⟩
  have HB := Lib.hid (below_then (show Below w.heap.size w _ by go_grown) hb)
  have HK := Lib.hid (show Blk w1 w.heap.size 45 [.int .i64 m.kind, .int .i64 m.size, .int .i64 m.sty.top, .int .i64 m.sty.bottom, .int .i64 m.sty.padTop, .int .i64 m.sty.padBottom, .int .i64 m.sty.inset, .int .i64 m.sty.orphans, .int .i64 m.sty.widows, .int .i64 m.sty.head, .int .i64 m.sty.before, .int .i64 m.sty.after, .int .i64 m.sty.inside, .int .i64 m.sty.clear, .int .i64 m.line, .int .i64 m.space, .slice m.A m.n m.c, .int .i64 m.side, .int .i64 m.w, .int .i64 m.h] from HK.out.on hb)
  clear hb
  cases v0 with
  | false =>
    go_wp2_with fail
    go_ret
    exact ⟨ret_bool (by rw [HB0.out, HV0.out]; simp), HB.out⟩
  | true =>
  go_wp2_with ((with_reducible refine stop_load 45 (.tmp 1) ?_ ?_); exact rfl; refine Stop.intro ?_; refine Go.Proofs.Ytamakeogaipdiaa.wpList_load_row_w (by kernel_rfl) 45 (.tmp 1) rfl (w.heap.size) rfl 45 #[.int .i64 m.kind, .int .i64 m.size, .int .i64 m.sty.top, .int .i64 m.sty.bottom, .int .i64 m.sty.padTop, .int .i64 m.sty.padBottom, .int .i64 m.sty.inset, .int .i64 m.sty.orphans, .int .i64 m.sty.widows, .int .i64 m.sty.head, .int .i64 m.sty.before, .int .i64 m.sty.after, .int .i64 m.sty.inside, .int .i64 m.sty.clear, .int .i64 m.line, .int .i64 m.space, .slice m.A m.n m.c, .int .i64 m.side, .int .i64 m.w, .int .i64 m.h] _ (HK.out) Try.underlying45 rfl (by kernel_rfl) ?_)
  refine (pnotext_to (m := m) HV1.out _).mono ?_
  rintro e w2 ⟨rfl, hb⟩
  have HB := Lib.hid (below_then HB.out hb)
  have HK := Lib.hid (show Blk w2 w.heap.size 45 [.int .i64 m.kind, .int .i64 m.size, .int .i64 m.sty.top, .int .i64 m.sty.bottom, .int .i64 m.sty.padTop, .int .i64 m.sty.padBottom, .int .i64 m.sty.inset, .int .i64 m.sty.orphans, .int .i64 m.sty.widows, .int .i64 m.sty.head, .int .i64 m.sty.before, .int .i64 m.sty.after, .int .i64 m.sty.inside, .int .i64 m.sty.clear, .int .i64 m.line, .int .i64 m.space, .slice m.A m.n m.c, .int .i64 m.side, .int .i64 m.w, .int .i64 m.h] from HK.out.on hb)
  clear hb
  cases v1 with
  | false =>
    go_wp2_with fail
    go_ret
    exact ⟨ret_bool (by rw [HB0.out, HV0.out, HV1.out]; simp), HB.out⟩
  | true =>
  have c17 := HK.out.box.2.2 17 _ rfl
  by_cases hs : m.side = 0
  rotate_left
  · have s0 : (m.side == 0) = false := by simpa using hs
    have HS := Lib.hid (decide_eq_false hs)
    clear hs
    go_wp2_with fail
    go_ret
    exact ⟨ret_bool (by rw [HB0.out, HV0.out, HV1.out, HS.out]; simp), HB.out⟩
  have s0 : (m.side == 0) = true := by simpa using hs
  have HS := Lib.hid (decide_eq_true hs)
  clear hs
  go_wp2_with ((with_reducible refine stop_load 45 (.tmp 1) ?_ ?_); exact rfl; refine Stop.intro ?_; refine Go.Proofs.Ytamakeogaipdiaa.wpList_load_row_w (by kernel_rfl) 45 (.tmp 1) rfl (w.heap.size) rfl 45 #[.int .i64 m.kind, .int .i64 m.size, .int .i64 m.sty.top, .int .i64 m.sty.bottom, .int .i64 m.sty.padTop, .int .i64 m.sty.padBottom, .int .i64 m.sty.inset, .int .i64 m.sty.orphans, .int .i64 m.sty.widows, .int .i64 m.sty.head, .int .i64 m.sty.before, .int .i64 m.sty.after, .int .i64 m.sty.inside, .int .i64 m.sty.clear, .int .i64 m.line, .int .i64 m.space, .slice m.A m.n m.c, .int .i64 m.side, .int .i64 m.w, .int .i64 m.h] _ (HK.out) Try.underlying45 rfl (by kernel_rfl) ?_)
  refine (pmaybox_to (m := m) HV3.out _).mono ?_
  rintro e w3 ⟨rfl, hb⟩
  have HB := Lib.hid (below_then HB.out hb)
  have HK := Lib.hid (show Blk w3 w.heap.size 45 [.int .i64 m.kind, .int .i64 m.size, .int .i64 m.sty.top, .int .i64 m.sty.bottom, .int .i64 m.sty.padTop, .int .i64 m.sty.padBottom, .int .i64 m.sty.inset, .int .i64 m.sty.orphans, .int .i64 m.sty.widows, .int .i64 m.sty.head, .int .i64 m.sty.before, .int .i64 m.sty.after, .int .i64 m.sty.inside, .int .i64 m.sty.clear, .int .i64 m.line, .int .i64 m.space, .slice m.A m.n m.c, .int .i64 m.side, .int .i64 m.w, .int .i64 m.h] from HK.out.on hb)
  clear hb
  go_wp2_with fail
  go_ret
  exact ⟨ret_bool (by rw [HB0.out, HV0.out, HV1.out, HS.out, HV3.out]; simp), HB.out⟩
set_option maxHeartbeats 4000000 in
theorem pmay_k4 (m : NdM) (ws : List Int) (w : World) (hk : m.kind = 4) (hI : Ints w m.A m.n ws) : Calls Try.prog 73 #[.agg (encM m).toArray] w fun e w' => e = .returned (.bool (mayB m ws)) ∧ Below w.heap.size w w' := by
  show Calls Try.prog 73 #[.agg #[.int .i64 m.kind, .int .i64 m.size, .int .i64 m.sty.top, .int .i64 m.sty.bottom, .int .i64 m.sty.padTop, .int .i64 m.sty.padBottom, .int .i64 m.sty.inset, .int .i64 m.sty.orphans, .int .i64 m.sty.widows, .int .i64 m.sty.head, .int .i64 m.sty.before, .int .i64 m.sty.after, .int .i64 m.sty.inside, .int .i64 m.sty.clear, .int .i64 m.line, .int .i64 m.space, .slice m.A m.n m.c, .int .i64 m.side, .int .i64 m.w, .int .i64 m.h]] w fun e w' => e = .returned (.bool (mayB m ws)) ∧ Below w.heap.size w w'
  have k1 : (m.kind == 1) = false := by rw [hk]; rfl
  have k2 : (m.kind == 2) = false := by rw [hk]; rfl
  have k3 : (m.kind == 3) = false := by rw [hk]; rfl
  have k4 : (m.kind == 4) = true := by rw [hk]; rfl
  have HB0 : mayB m ws = (noStyleB m && noTextB m && !([m.side].any (oddB 1 2)) && mayBoxB m) := by unfold mayB; rw [hk]; rfl
  clear hk
  have HI := Lib.hid hI
  clear hI
  obtain ⟨v0, hv0⟩ : ∃ v, noStyleB m = v := ⟨_, rfl⟩
  have HV0 := Lib.hid hv0
  obtain ⟨v1, hv1⟩ : ∃ v, noTextB m = v := ⟨_, rfl⟩
  have HV1 := Lib.hid hv1
  obtain ⟨v2, hv2⟩ : ∃ v, [m.side].any (oddB 1 2) = v := ⟨_, rfl⟩
  have HV2 := Lib.hid hv2
  obtain ⟨v3, hv3⟩ : ∃ v, mayBoxB m = v := ⟨_, rfl⟩
  have HV3 := Lib.hid hv3
  have HB0 := Lib.hid HB0
  clear hv0 hv1 hv2 hv3
  have HK := Lib.hid (show Blk (w.alloc (.cells #[.int .i64 m.kind, .int .i64 m.size, .int .i64 m.sty.top, .int .i64 m.sty.bottom, .int .i64 m.sty.padTop, .int .i64 m.sty.padBottom, .int .i64 m.sty.inset, .int .i64 m.sty.orphans, .int .i64 m.sty.widows, .int .i64 m.sty.head, .int .i64 m.sty.before, .int .i64 m.sty.after, .int .i64 m.sty.inside, .int .i64 m.sty.clear, .int .i64 m.line, .int .i64 m.space, .slice m.A m.n m.c, .int .i64 m.side, .int .i64 m.w, .int .i64 m.h] 45)) w.heap.size 45 [.int .i64 m.kind, .int .i64 m.size, .int .i64 m.sty.top, .int .i64 m.sty.bottom, .int .i64 m.sty.padTop, .int .i64 m.sty.padBottom, .int .i64 m.sty.inset, .int .i64 m.sty.orphans, .int .i64 m.sty.widows, .int .i64 m.sty.head, .int .i64 m.sty.before, .int .i64 m.sty.after, .int .i64 m.sty.inside, .int .i64 m.sty.clear, .int .i64 m.line, .int .i64 m.space, .slice m.A m.n m.c, .int .i64 m.side, .int .i64 m.w, .int .i64 m.h] from Blk.new w 45 [.int .i64 m.kind, .int .i64 m.size, .int .i64 m.sty.top, .int .i64 m.sty.bottom, .int .i64 m.sty.padTop, .int .i64 m.sty.padBottom, .int .i64 m.sty.inset, .int .i64 m.sty.orphans, .int .i64 m.sty.widows, .int .i64 m.sty.head, .int .i64 m.sty.before, .int .i64 m.sty.after, .int .i64 m.sty.inside, .int .i64 m.sty.clear, .int .i64 m.line, .int .i64 m.space, .slice m.A m.n m.c, .int .i64 m.side, .int .i64 m.w, .int .i64 m.h] _ rfl _ rfl)
  go_enter Try.func73, Try.ntmps73
  go_wp2_with ((with_reducible refine stop_load 45 (.tmp 1) ?_ ?_); exact rfl; refine Stop.intro ?_; refine Go.Proofs.Ytamakeogaipdiaa.wpList_load_row_w (by kernel_rfl) 45 (.tmp 1) rfl (w.heap.size) rfl 45 #[.int .i64 m.kind, .int .i64 m.size, .int .i64 m.sty.top, .int .i64 m.sty.bottom, .int .i64 m.sty.padTop, .int .i64 m.sty.padBottom, .int .i64 m.sty.inset, .int .i64 m.sty.orphans, .int .i64 m.sty.widows, .int .i64 m.sty.head, .int .i64 m.sty.before, .int .i64 m.sty.after, .int .i64 m.sty.inside, .int .i64 m.sty.clear, .int .i64 m.line, .int .i64 m.space, .slice m.A m.n m.c, .int .i64 m.side, .int .i64 m.w, .int .i64 m.h] _ (HK.out) Try.underlying45 rfl (by kernel_rfl) ?_)
  refine (pnostyle_to (m := m) HV0.out _).mono ?_
  rintro e w1 ⟨rfl, hb⟩
  have HB := Lib.hid (below_then (show Below w.heap.size w _ by go_grown) hb)
  have HK := Lib.hid (show Blk w1 w.heap.size 45 [.int .i64 m.kind, .int .i64 m.size, .int .i64 m.sty.top, .int .i64 m.sty.bottom, .int .i64 m.sty.padTop, .int .i64 m.sty.padBottom, .int .i64 m.sty.inset, .int .i64 m.sty.orphans, .int .i64 m.sty.widows, .int .i64 m.sty.head, .int .i64 m.sty.before, .int .i64 m.sty.after, .int .i64 m.sty.inside, .int .i64 m.sty.clear, .int .i64 m.line, .int .i64 m.space, .slice m.A m.n m.c, .int .i64 m.side, .int .i64 m.w, .int .i64 m.h] from HK.out.on hb)
  clear hb
  cases v0 with
  | false =>
    go_wp2_with fail
    go_ret
    exact ⟨ret_bool (by rw [HB0.out, HV0.out]; simp), HB.out⟩
  | true =>
  go_wp2_with ((with_reducible refine stop_load 45 (.tmp 1) ?_ ?_); exact rfl; refine Stop.intro ?_; refine Go.Proofs.Ytamakeogaipdiaa.wpList_load_row_w (by kernel_rfl) 45 (.tmp 1) rfl (w.heap.size) rfl 45 #[.int .i64 m.kind, .int .i64 m.size, .int .i64 m.sty.top, .int .i64 m.sty.bottom, .int .i64 m.sty.padTop, .int .i64 m.sty.padBottom, .int .i64 m.sty.inset, .int .i64 m.sty.orphans, .int .i64 m.sty.widows, .int .i64 m.sty.head, .int .i64 m.sty.before, .int .i64 m.sty.after, .int .i64 m.sty.inside, .int .i64 m.sty.clear, .int .i64 m.line, .int .i64 m.space, .slice m.A m.n m.c, .int .i64 m.side, .int .i64 m.w, .int .i64 m.h] _ (HK.out) Try.underlying45 rfl (by kernel_rfl) ?_)
  refine (pnotext_to (m := m) HV1.out _).mono ?_
  rintro e w2 ⟨rfl, hb⟩
  have HB := Lib.hid (below_then HB.out hb)
  have HK := Lib.hid (show Blk w2 w.heap.size 45 [.int .i64 m.kind, .int .i64 m.size, .int .i64 m.sty.top, .int .i64 m.sty.bottom, .int .i64 m.sty.padTop, .int .i64 m.sty.padBottom, .int .i64 m.sty.inset, .int .i64 m.sty.orphans, .int .i64 m.sty.widows, .int .i64 m.sty.head, .int .i64 m.sty.before, .int .i64 m.sty.after, .int .i64 m.sty.inside, .int .i64 m.sty.clear, .int .i64 m.line, .int .i64 m.space, .slice m.A m.n m.c, .int .i64 m.side, .int .i64 m.w, .int .i64 m.h] from HK.out.on hb)
  clear hb
  cases v1 with
  | false =>
    go_wp2_with fail
    go_ret
    exact ⟨ret_bool (by rw [HB0.out, HV0.out, HV1.out]; simp), HB.out⟩
  | true =>
  have c17 := HK.out.box.2.2 17 _ rfl
  go_wp2_with fail
  refine (podd_to HV2.out _ (Ints.lit _ _ _ _ _ rfl (by simp) (by simp) _ rfl)).mono ?_
  rintro e w3 ⟨rfl, hb⟩
  have HB := Lib.hid (below_then HB.out (below_then (show Below w2.heap.size w2 _ by go_grown) hb))
  have HK := Lib.hid (show Blk w3 w.heap.size 45 [.int .i64 m.kind, .int .i64 m.size, .int .i64 m.sty.top, .int .i64 m.sty.bottom, .int .i64 m.sty.padTop, .int .i64 m.sty.padBottom, .int .i64 m.sty.inset, .int .i64 m.sty.orphans, .int .i64 m.sty.widows, .int .i64 m.sty.head, .int .i64 m.sty.before, .int .i64 m.sty.after, .int .i64 m.sty.inside, .int .i64 m.sty.clear, .int .i64 m.line, .int .i64 m.space, .slice m.A m.n m.c, .int .i64 m.side, .int .i64 m.w, .int .i64 m.h] from (HK.out.alloc _).on hb)
  clear hb
  clear c17
  cases v2 with
  | true =>
    go_wp2_with fail
    go_ret
    exact ⟨ret_bool (by rw [HB0.out, HV0.out, HV1.out, HV2.out]; simp), HB.out⟩
  | false =>
  go_wp2_with ((with_reducible refine stop_load 45 (.tmp 1) ?_ ?_); exact rfl; refine Stop.intro ?_; refine Go.Proofs.Ytamakeogaipdiaa.wpList_load_row_w (by kernel_rfl) 45 (.tmp 1) rfl (w.heap.size) rfl 45 #[.int .i64 m.kind, .int .i64 m.size, .int .i64 m.sty.top, .int .i64 m.sty.bottom, .int .i64 m.sty.padTop, .int .i64 m.sty.padBottom, .int .i64 m.sty.inset, .int .i64 m.sty.orphans, .int .i64 m.sty.widows, .int .i64 m.sty.head, .int .i64 m.sty.before, .int .i64 m.sty.after, .int .i64 m.sty.inside, .int .i64 m.sty.clear, .int .i64 m.line, .int .i64 m.space, .slice m.A m.n m.c, .int .i64 m.side, .int .i64 m.w, .int .i64 m.h] _ (HK.out) Try.underlying45 rfl (by kernel_rfl) ?_)
  refine (pmaybox_to (m := m) HV3.out _).mono ?_
  rintro e w4 ⟨rfl, hb⟩
  have HB := Lib.hid (below_then HB.out hb)
  have HK := Lib.hid (show Blk w4 w.heap.size 45 [.int .i64 m.kind, .int .i64 m.size, .int .i64 m.sty.top, .int .i64 m.sty.bottom, .int .i64 m.sty.padTop, .int .i64 m.sty.padBottom, .int .i64 m.sty.inset, .int .i64 m.sty.orphans, .int .i64 m.sty.widows, .int .i64 m.sty.head, .int .i64 m.sty.before, .int .i64 m.sty.after, .int .i64 m.sty.inside, .int .i64 m.sty.clear, .int .i64 m.line, .int .i64 m.space, .slice m.A m.n m.c, .int .i64 m.side, .int .i64 m.w, .int .i64 m.h] from HK.out.on hb)
  clear hb
  go_wp2_with fail
  go_ret
  exact ⟨ret_bool (by rw [HB0.out, HV0.out, HV1.out, HV2.out, HV3.out]; simp), HB.out⟩
set_option maxHeartbeats 1000000 in
theorem pmay_any (m : NdM) (ws : List Int) (w : World) (hI : Ints w m.A m.n ws) : Calls Try.prog 73 #[.agg (encM m).toArray] w fun e w' => e = .returned (.bool (mayB m ws)) ∧ Below w.heap.size w w' := by
  by_cases k1 : m.kind = 1
  · exact pmay_k1 m ws w k1 hI
  by_cases k2 : m.kind = 2
  · exact pmay_k2 m ws w k2 hI
  by_cases k3 : m.kind = 3
  · exact pmay_k3 m ws w k3 hI
  by_cases k4 : m.kind = 4
  · exact pmay_k4 m ws w k4 hI
  have HB0 := Lib.hid (show mayB m ws = false by unfold mayB; rw [if_neg k1, if_neg k2, if_neg k3, if_neg k4])
  have e1 : (m.kind == 1) = false := by simpa using k1
  have e2 : (m.kind == 2) = false := by simpa using k2
  have e3 : (m.kind == 3) = false := by simpa using k3
  have e4 : (m.kind == 4) = false := by simpa using k4
  clear k1 k2 k3 k4 hI
  show Calls Try.prog 73 #[.agg #[.int .i64 m.kind, .int .i64 m.size, .int .i64 m.sty.top, .int .i64 m.sty.bottom, .int .i64 m.sty.padTop, .int .i64 m.sty.padBottom, .int .i64 m.sty.inset, .int .i64 m.sty.orphans, .int .i64 m.sty.widows, .int .i64 m.sty.head, .int .i64 m.sty.before, .int .i64 m.sty.after, .int .i64 m.sty.inside, .int .i64 m.sty.clear, .int .i64 m.line, .int .i64 m.space, .slice m.A m.n m.c, .int .i64 m.side, .int .i64 m.w, .int .i64 m.h]] w fun e w' => e = .returned (.bool (mayB m ws)) ∧ Below w.heap.size w w'
  go_enter Try.func73, Try.ntmps73
  go_wp2_with fail
  go_ret
  exact ⟨ret_bool (by rw [HB0.out]), by go_grown⟩
theorem pmay_to {m : NdM} {ws : List Int} {v : Bool} (hv : mayB m ws = v) (w : World) (hI : Ints w m.A m.n ws) : Calls Try.prog 73 #[.agg (encM m).toArray] w fun e w' => e = .returned (.bool v) ∧ Below w.heap.size w w' := by
  subst hv; exact pmay_any m ws w hI
def fitsB (m : NdM) (left : Int) : Bool := if m.kind ≠ 1 then decide (m.size = 1) else !([m.size].any (oddB 1 left))
set_option maxHeartbeats 1000000 in
theorem pfits_any (m : NdM) (left : Int) (w : World) : Calls Try.prog 71 #[.agg (encM m).toArray, .int .i64 left] w fun e w' => e = .returned (.bool (fitsB m left)) ∧ Below w.heap.size w w' := by
  show Calls Try.prog 71 #[.agg #[.int .i64 m.kind, .int .i64 m.size, .int .i64 m.sty.top, .int .i64 m.sty.bottom, .int .i64 m.sty.padTop, .int .i64 m.sty.padBottom, .int .i64 m.sty.inset, .int .i64 m.sty.orphans, .int .i64 m.sty.widows, .int .i64 m.sty.head, .int .i64 m.sty.before, .int .i64 m.sty.after, .int .i64 m.sty.inside, .int .i64 m.sty.clear, .int .i64 m.line, .int .i64 m.space, .slice m.A m.n m.c, .int .i64 m.side, .int .i64 m.w, .int .i64 m.h], .int .i64 left] w fun e w' => e = .returned (.bool (fitsB m left)) ∧ Below w.heap.size w w'
  by_cases k1 : m.kind = 1
  rotate_left
  · have e1 : (m.kind != 1) = true := by simpa using k1
    have HB0 := Lib.hid (show fitsB m left = (m.size == 1) by unfold fitsB; rw [if_pos k1, Bool.eq_iff_iff]; simp)
    clear k1
    go_enter Try.func71, Try.ntmps71
    go_wp2_with fail
    go_ret
    exact ⟨ret_bool (by rw [HB0.out]), by go_grown⟩
  have e1 : (m.kind != 1) = false := by simpa using k1
  obtain ⟨v, hv⟩ : ∃ v, [m.size].any (oddB 1 left) = v := ⟨_, rfl⟩
  have HB0 := Lib.hid (show fitsB m left = !v by unfold fitsB; rw [if_neg (by simpa using k1), hv])
  have HV := Lib.hid hv
  clear k1 hv
  go_enter Try.func71, Try.ntmps71
  go_wp2_with fail
  refine (podd_to HV.out _ (Ints.lit _ _ _ _ _ rfl (by simp) (by simp) _ rfl)).mono ?_
  rintro e w1 ⟨rfl, hb⟩
  have HB := Lib.hid (below_then (show Below w.heap.size w _ by go_grown) hb)
  clear hb
  go_wp2_with fail
  go_ret
  exact ⟨ret_bool (by rw [HB0.out]), HB.out⟩
theorem pfits_to {m : NdM} {left : Int} {v : Bool} (hv : fitsB m left = v) (w : World) : Calls Try.prog 71 #[.agg (encM m).toArray, .int .i64 left] w fun e w' => e = .returned (.bool v) ∧ Below w.heap.size w w' := by
  subst hv; exact pfits_any m left w
theorem fitsB_iff (m : NdM) (left : Int) : fitsB m left = true ↔ 1 ≤ m.size ∧ (m.kind = 1 → m.size ≤ left) ∧ (m.kind ≠ 1 → m.size = 1) := by
  unfold fitsB
  by_cases h : m.kind = 1
  · simp [h, oddB, fromB]
  · simp [h]
    omega
/-- what the program asks of a node is what the document asks. -/
theorem mayB_one {w : World} {m : NdM} {x : Nd} (h : Shows w m x) : mayB m x.words = oneB x := by
  obtain ⟨⟨h1, h2, h3, h4, h5, h6, h7, h8⟩, hI⟩ := h
  have hl := hI.1
  have hw : (m.n = 0) ↔ x.words = [] := by rw [← List.length_eq_zero_iff, hl]
  have hn0 : decide (m.n = 0) = decide (x.words = []) := by rw [Bool.eq_iff_iff]; simp [hw]
  have hnp : decide (0 < m.n) = decide (x.words ≠ []) := by rw [Bool.eq_iff_iff]; simp [← hw]; omega
  have hany : ∀ (l : List Int) (a b : Int), (!(l.any (oddB a b))) = l.all (fun n => fromB n a b) := by
    intro l a b
    rw [List.not_any_eq_all_not]
    congr 1
    funext n
    simp [oddB]
  have hS : mayStyleB x.sty = styOkB x.sty := by
    unfold mayStyleB styOkB
    simp only [hany, maxN, List.all_cons, List.all_nil, Bool.and_true]
    rw [Bool.eq_iff_iff]
    simp only [Bool.and_eq_true]
    constructor
    · rintro ⟨⟨⟨⟨⟨a1, a2, a3, a4, a5, a8⟩, a6, a7⟩, a9, a10⟩, a11⟩, a12⟩
      exact ⟨⟨⟨⟨⟨⟨⟨⟨⟨⟨⟨a1, a2⟩, a3⟩, a4⟩, a5⟩, a6⟩, a7⟩, a8⟩, a9⟩, a10⟩, a11⟩, a12⟩
    · rintro ⟨⟨⟨⟨⟨⟨⟨⟨⟨⟨⟨a1, a2⟩, a3⟩, a4⟩, a5⟩, a6⟩, a7⟩, a8⟩, a9⟩, a10⟩, a11⟩, a12⟩
      exact ⟨⟨⟨⟨⟨a1, a2, a3, a4, a5, a8⟩, a6, a7⟩, a9, a10⟩, a11⟩, a12⟩
  unfold mayB oneB noTextB noBoxB noStyleB mayTextB mayBoxB
  simp only [hany, hn0, hnp, ← h1, ← h3, ← h4, ← h5, ← h6, ← h7, ← h8, hS, List.all_cons, List.all_nil, Bool.and_true]
  have hst : styB x.sty .none = decide (x.sty = .none) := by rw [Bool.eq_iff_iff, styB_iff]; simp
  rw [hst]
  by_cases k1 : x.kind = 1
  · simp only [if_pos k1]
    ac_rfl
  by_cases hs : x.sty = .none
  rotate_left
  · simp [k1, hs]
  by_cases k2 : x.kind = 2
  · simp only [if_neg k1, if_pos k2, hs, maxN, decide_true, Bool.true_and, ne_eq, not_true_eq_false, if_false]
    ac_rfl
  have hM : (1099511627776 : Int) = maxN := rfl
  rw [if_neg k1, if_neg k1, if_neg k2, if_neg (show ¬ (x.sty ≠ Sty.none) by simpa using hs), if_neg k2, hs, hM, decide_eq_true rfl, Bool.true_and]
  by_cases h4' : x.line ≠ 0 ∨ x.space ≠ 0 ∨ x.words ≠ [] ∨ fromB x.w 1 maxN = false ∨ fromB x.h 1 maxN = false
  · rw [if_pos h4']
    rcases h4' with h | h | h | h | h <;> simp [h]
  rw [if_neg h4']
  rw [not_or, not_or, not_or, not_or, Decidable.not_not, Decidable.not_not, Decidable.not_not, Bool.not_eq_false, Bool.not_eq_false] at h4'
  obtain ⟨a1, a2, a3, a4, a5⟩ := h4'
  by_cases k3 : x.kind = 3
  · simp [k3, a1, a2, a3, a4, a5]
  · simp [k3, a1, a2, a3, a4, a5]
end Go.Proofs.Ytamakeogaipdiaa
