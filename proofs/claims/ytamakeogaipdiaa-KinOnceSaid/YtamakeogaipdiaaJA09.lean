import Derived.Test.YtamakeogaipdiaaJA03
import Derived.Test.YtamakeogaipdiaaJA01
/- The program's package valid: one node's numbers, part by part. (Written by program: tools/drafts/genmay.py.) -/
namespace Go.Proofs.Ytamakeogaipdiaa
open Go.RowKit
set_option linter.unusedVariables false
set_option linter.unusedSimpArgs false
def MX : Int := 1099511627776
theorem Ints.lit (w : World) (t : TypeId) (zs : List Int) (k n : Nat) (hk : zs.length = k) (h : n = w.heap.size) (hz : k ≤ 1000) (cs : Array Value) (hc : cs = (zs.map (Value.int .i64)).toArray) : Ints (w.alloc (.cells cs t)) (some ⟨n, 0, none⟩) k zs := by
  subst hk h hc; exact Ints.new w t zs (by omega)
/-- a load that hangs on a guard that holds. -/
theorem wpList_load_row_w {P : Program} {ops : Array Oper} {rest : List Oper} {o : Oper} {a : Act} {w : World} {Q : Exit → Act → World → Prop} (hgd : Region.wanted o (yielded ops a.tmps) = true) (t : TypeId) (x : Operand) (ho : o.op = .load t x) (g : Nat) (hx : a.eval x = .pointer (some ⟨g, 0, none⟩)) (te : TypeId) (cs : Array Value) (d : TypeDesc)
    (hg : w.heap[g]? = some (.cells cs te (0, 0))) (hu : P.underlying t = some d) (hd : (match d with | .struct _ | .array _ _ => true | _ => false) = true) (hi : (P.info? t).map (·.size) = some cs.size)
    (h : wpList P ops Q rest (a.put o.dst (.agg cs)) w) : wpList P ops Q (o :: rest) a w := by
  refine wpList_step fun K hK => ?_
  rw [if_pos hgd]
  have hr := run_loadVar_row (P := P) w g te t cs (0, 0) d hg hu hd hi
  unfold Oper.wp
  have he : (execOp a.eval o).run P w = .ok (.value (.agg cs)) w := by
    unfold execOp
    simp only [ho, hx, Instr.loadAt, Instr.sureAddr, Sem.run_bind, Sem.run_pure, Result.andThen_ok, hr]
  rw [he, Oper.upon_value]
  exact hK _ _ h
def noTextB (m : NdM) : Bool := decide (m.line = 0) && decide (m.space = 0) && decide (m.n = 0)
def noBoxB (m : NdM) : Bool := decide (m.w = 0) && decide (m.h = 0)
def noStyleB (m : NdM) : Bool := styB m.sty .none
def mayStyleB (s : Sty) : Bool := !([s.top, s.bottom, s.padTop, s.padBottom, s.inset, s.head].any (oddB 0 1099511627776)) && !([s.orphans, s.widows].any (oddB 1 1099511627776)) && !([s.before, s.after].any (oddB 0 4)) && !([s.inside].any (oddB 0 1)) && !([s.clear].any (oddB 0 3))
def mayTextB (m : NdM) (ws : List Int) : Bool := !([m.line].any (oddB 1 1099511627776)) && !([m.space].any (oddB 0 1099511627776)) && decide (0 < m.n) && !(ws.any (oddB 1 1099511627776))
def mayBoxB (m : NdM) : Bool := !([m.w, m.h].any (oddB 1 1099511627776))
set_option maxHeartbeats 1000000 in
theorem pnotext_any (m : NdM) (w : World) : Calls Try.prog 85 #[.agg (encM m).toArray] w fun e w' => e = .returned (.bool (noTextB m)) ∧ Below w.heap.size w w' := by
  show Calls Try.prog 85 #[.agg #[.int .i64 m.kind, .int .i64 m.size, .int .i64 m.sty.top, .int .i64 m.sty.bottom, .int .i64 m.sty.padTop, .int .i64 m.sty.padBottom, .int .i64 m.sty.inset, .int .i64 m.sty.orphans, .int .i64 m.sty.widows, .int .i64 m.sty.head, .int .i64 m.sty.before, .int .i64 m.sty.after, .int .i64 m.sty.inside, .int .i64 m.sty.clear, .int .i64 m.line, .int .i64 m.space, .slice m.A m.n m.c, .int .i64 m.side, .int .i64 m.w, .int .i64 m.h]] w fun e w' => e = .returned (.bool (noTextB m)) ∧ Below w.heap.size w w'
  have hB : noTextB m = (decide (m.line = 0) && decide (m.space = 0) && decide (m.n = 0)) := rfl
  by_cases h1 : m.line = 0
  rotate_left
  · have b1 : (m.line == 0) = false := by simpa using h1
    have HB := Lib.hid (show noTextB m = false by rw [hB]; simp [h1])
    clear hB
    go_enter Try.func85, Try.ntmps85
    go_wp2_with fail
    go_ret
    exact ⟨ret_bool (by rw [HB.out]), by go_grown⟩
  have b1 : (m.line == 0) = true := by simpa using h1
  by_cases h2 : m.space = 0
  rotate_left
  · have b2 : (m.space == 0) = false := by simpa using h2
    have HB := Lib.hid (show noTextB m = false by rw [hB]; simp [h2])
    clear hB h1
    go_enter Try.func85, Try.ntmps85
    go_wp2_with fail
    go_ret
    exact ⟨ret_bool (by rw [HB.out]), by go_grown⟩
  have b2 : (m.space == 0) = true := by simpa using h2
  have HB := Lib.hid (show noTextB m = ((m.n : Int) == 0) by rw [hB, Bool.eq_iff_iff]; simp [h1, h2])
  clear hB h1 h2
  go_enter Try.func85, Try.ntmps85
  go_wp2_with fail
  go_ret
  exact ⟨ret_bool (by rw [HB.out]), by go_grown⟩
theorem pnotext_to {m : NdM} {v : Bool} (hv : noTextB m = v) (w : World) : Calls Try.prog 85 #[.agg (encM m).toArray] w fun e w' => e = .returned (.bool v) ∧ Below w.heap.size w w' := by
  subst hv; exact pnotext_any m w
set_option maxHeartbeats 1000000 in
theorem pnobox_any (m : NdM) (w : World) : Calls Try.prog 86 #[.agg (encM m).toArray] w fun e w' => e = .returned (.bool (noBoxB m)) ∧ Below w.heap.size w w' := by
  show Calls Try.prog 86 #[.agg #[.int .i64 m.kind, .int .i64 m.size, .int .i64 m.sty.top, .int .i64 m.sty.bottom, .int .i64 m.sty.padTop, .int .i64 m.sty.padBottom, .int .i64 m.sty.inset, .int .i64 m.sty.orphans, .int .i64 m.sty.widows, .int .i64 m.sty.head, .int .i64 m.sty.before, .int .i64 m.sty.after, .int .i64 m.sty.inside, .int .i64 m.sty.clear, .int .i64 m.line, .int .i64 m.space, .slice m.A m.n m.c, .int .i64 m.side, .int .i64 m.w, .int .i64 m.h]] w fun e w' => e = .returned (.bool (noBoxB m)) ∧ Below w.heap.size w w'
  have hB : noBoxB m = (decide (m.w = 0) && decide (m.h = 0)) := rfl
  by_cases h1 : m.w = 0
  rotate_left
  · have b1 : (m.w == 0) = false := by simpa using h1
    have HB := Lib.hid (show noBoxB m = false by rw [hB]; simp [h1])
    clear hB
    go_enter Try.func86, Try.ntmps86
    go_wp2_with fail
    go_ret
    exact ⟨ret_bool (by rw [HB.out]), by go_grown⟩
  have b1 : (m.w == 0) = true := by simpa using h1
  have HB := Lib.hid (show noBoxB m = (m.h == 0) by rw [hB, Bool.eq_iff_iff]; simp [h1])
  clear hB h1
  go_enter Try.func86, Try.ntmps86
  go_wp2_with fail
  go_ret
  exact ⟨ret_bool (by rw [HB.out]), by go_grown⟩
theorem pnobox_to {m : NdM} {v : Bool} (hv : noBoxB m = v) (w : World) : Calls Try.prog 86 #[.agg (encM m).toArray] w fun e w' => e = .returned (.bool v) ∧ Below w.heap.size w w' := by
  subst hv; exact pnobox_any m w
set_option maxHeartbeats 1000000 in
theorem pmaybox_any (m : NdM) (w : World) : Calls Try.prog 89 #[.agg (encM m).toArray] w fun e w' => e = .returned (.bool (mayBoxB m)) ∧ Below w.heap.size w w' := by
  show Calls Try.prog 89 #[.agg #[.int .i64 m.kind, .int .i64 m.size, .int .i64 m.sty.top, .int .i64 m.sty.bottom, .int .i64 m.sty.padTop, .int .i64 m.sty.padBottom, .int .i64 m.sty.inset, .int .i64 m.sty.orphans, .int .i64 m.sty.widows, .int .i64 m.sty.head, .int .i64 m.sty.before, .int .i64 m.sty.after, .int .i64 m.sty.inside, .int .i64 m.sty.clear, .int .i64 m.line, .int .i64 m.space, .slice m.A m.n m.c, .int .i64 m.side, .int .i64 m.w, .int .i64 m.h]] w fun e w' => e = .returned (.bool (mayBoxB m)) ∧ Below w.heap.size w w'
  obtain ⟨v, hv⟩ : ∃ v, [m.w, m.h].any (oddB 1 1099511627776) = v := ⟨_, rfl⟩
  have HV := Lib.hid hv
  clear hv
  go_enter Try.func89, Try.ntmps89
  go_wp2_with fail
  refine (podd_to HV.out _ (Ints.lit _ _ _ _ _ rfl (by simp) (by simp) _ rfl)).mono ?_
  rintro e w1 ⟨rfl, hb⟩
  have HB := Lib.hid (below_then (show Below w.heap.size w _ by go_grown) hb)
  clear hb
  go_wp2_with fail
  go_ret
  exact ⟨ret_bool (by unfold mayBoxB; rw [HV.out]), HB.out⟩
theorem pmaybox_to {m : NdM} {v : Bool} (hv : mayBoxB m = v) (w : World) : Calls Try.prog 89 #[.agg (encM m).toArray] w fun e w' => e = .returned (.bool v) ∧ Below w.heap.size w w' := by
  subst hv; exact pmaybox_any m w
set_option maxHeartbeats 2000000 in
theorem pmaytext_any (m : NdM) (ws : List Int) (w : World) (hI : Ints w m.A m.n ws) : Calls Try.prog 88 #[.agg (encM m).toArray] w fun e w' => e = .returned (.bool (mayTextB m ws)) ∧ Below w.heap.size w w' := by
  show Calls Try.prog 88 #[.agg #[.int .i64 m.kind, .int .i64 m.size, .int .i64 m.sty.top, .int .i64 m.sty.bottom, .int .i64 m.sty.padTop, .int .i64 m.sty.padBottom, .int .i64 m.sty.inset, .int .i64 m.sty.orphans, .int .i64 m.sty.widows, .int .i64 m.sty.head, .int .i64 m.sty.before, .int .i64 m.sty.after, .int .i64 m.sty.inside, .int .i64 m.sty.clear, .int .i64 m.line, .int .i64 m.space, .slice m.A m.n m.c, .int .i64 m.side, .int .i64 m.w, .int .i64 m.h]] w fun e w' => e = .returned (.bool (mayTextB m ws)) ∧ Below w.heap.size w w'
  have HI := Lib.hid hI
  clear hI
  obtain ⟨v1, hv1⟩ : ∃ v, [m.line].any (oddB 1 1099511627776) = v := ⟨_, rfl⟩
  obtain ⟨v2, hv2⟩ : ∃ v, [m.space].any (oddB 0 1099511627776) = v := ⟨_, rfl⟩
  obtain ⟨v3, hv3⟩ : ∃ v, ws.any (oddB 1 1099511627776) = v := ⟨_, rfl⟩
  have HV1 := Lib.hid hv1
  have HV2 := Lib.hid hv2
  have HV3 := Lib.hid hv3
  clear hv1 hv2 hv3
  go_enter Try.func88, Try.ntmps88
  go_wp2_with fail
  refine (podd_to HV1.out _ (Ints.lit _ _ _ _ _ rfl (by simp) (by simp) _ rfl)).mono ?_
  rintro e w1 ⟨rfl, hb⟩
  have hX : Box w1 w.heap.size [.int .i64 m.kind, .int .i64 m.size, .int .i64 m.sty.top, .int .i64 m.sty.bottom, .int .i64 m.sty.padTop, .int .i64 m.sty.padBottom, .int .i64 m.sty.inset, .int .i64 m.sty.orphans, .int .i64 m.sty.widows, .int .i64 m.sty.head, .int .i64 m.sty.before, .int .i64 m.sty.after, .int .i64 m.sty.inside, .int .i64 m.sty.clear, .int .i64 m.line, .int .i64 m.space, .slice m.A m.n m.c, .int .i64 m.side, .int .i64 m.w, .int .i64 m.h] := ((box_new w _ _ _ rfl _ rfl).alloc _).below hb
  have c15 := hX.2.2 15 _ rfl
  have HX := Lib.hid hX
  have HB := Lib.hid (below_then (show Below w.heap.size w _ by go_grown) hb)
  clear hb hX
  cases v1 with
  | true =>
    clear c15
    go_wp2_with fail
    go_ret
    exact ⟨ret_bool (by unfold mayTextB; rw [HV1.out]; rfl), HB.out⟩
  | false =>
  go_wp2_with fail
  refine (podd_to HV2.out _ (Ints.lit _ _ _ _ _ rfl (by simp) (by simp) _ rfl)).mono ?_
  rintro e w2 ⟨rfl, hb⟩
  have hX : Box w2 w.heap.size [.int .i64 m.kind, .int .i64 m.size, .int .i64 m.sty.top, .int .i64 m.sty.bottom, .int .i64 m.sty.padTop, .int .i64 m.sty.padBottom, .int .i64 m.sty.inset, .int .i64 m.sty.orphans, .int .i64 m.sty.widows, .int .i64 m.sty.head, .int .i64 m.sty.before, .int .i64 m.sty.after, .int .i64 m.sty.inside, .int .i64 m.sty.clear, .int .i64 m.line, .int .i64 m.space, .slice m.A m.n m.c, .int .i64 m.side, .int .i64 m.w, .int .i64 m.h] := (HX.out.alloc _).below hb
  have c16 := hX.2.2 16 _ rfl
  have HX := Lib.hid hX
  have HB := Lib.hid (below_then HB.out (below_then (show Below w1.heap.size w1 _ by go_grown) hb))
  clear hb hX c15
  cases v2 with
  | true =>
    clear c16
    go_wp2_with fail
    go_ret
    exact ⟨ret_bool (by unfold mayTextB; rw [HV1.out, HV2.out]; rfl), HB.out⟩
  | false =>
  by_cases hn : 0 < m.n
  rotate_left
  · have hn2 : ¬ ((0 : Int) < (m.n : Int)) := by omega
    have hn3 : (m.n : Int) ≤ 0 := by omega
    have HN := Lib.hid hn
    clear hn
    go_wp2_with fail
    go_ret
    exact ⟨ret_bool (by unfold mayTextB; rw [decide_eq_false HN.out]; simp), HB.out⟩
  have hn2 : (0 : Int) < (m.n : Int) := by omega
  have HN := Lib.hid hn
  clear hn
  go_wp2_with fail
  refine (podd_to HV3.out _ (HI.out.below HB.out rfl)).mono ?_
  rintro e w3 ⟨rfl, hb⟩
  have HB := Lib.hid (below_then HB.out hb)
  clear hb
  go_wp2_with fail
  go_ret
  exact ⟨ret_bool (by unfold mayTextB; rw [HV1.out, HV2.out, HV3.out, decide_eq_true HN.out]; rfl), HB.out⟩
theorem pmaytext_to {m : NdM} {ws : List Int} {v : Bool} (hv : mayTextB m ws = v) (w : World) (hI : Ints w m.A m.n ws) : Calls Try.prog 88 #[.agg (encM m).toArray] w fun e w' => e = .returned (.bool v) ∧ Below w.heap.size w w' := by
  subst hv; exact pmaytext_any m ws w hI
set_option maxHeartbeats 1000000 in
theorem pnostyle_any (m : NdM) (w : World) : Calls Try.prog 87 #[.agg (encM m).toArray] w fun e w' => e = .returned (.bool (noStyleB m)) ∧ Below w.heap.size w w' := by
  show Calls Try.prog 87 #[.agg #[.int .i64 m.kind, .int .i64 m.size, .int .i64 m.sty.top, .int .i64 m.sty.bottom, .int .i64 m.sty.padTop, .int .i64 m.sty.padBottom, .int .i64 m.sty.inset, .int .i64 m.sty.orphans, .int .i64 m.sty.widows, .int .i64 m.sty.head, .int .i64 m.sty.before, .int .i64 m.sty.after, .int .i64 m.sty.inside, .int .i64 m.sty.clear, .int .i64 m.line, .int .i64 m.space, .slice m.A m.n m.c, .int .i64 m.side, .int .i64 m.w, .int .i64 m.h]] w fun e w' => e = .returned (.bool (noStyleB m)) ∧ Below w.heap.size w w'
  have HK := Lib.hid (show Blk (w.alloc (.cells #[.int .i64 m.kind, .int .i64 m.size, .int .i64 m.sty.top, .int .i64 m.sty.bottom, .int .i64 m.sty.padTop, .int .i64 m.sty.padBottom, .int .i64 m.sty.inset, .int .i64 m.sty.orphans, .int .i64 m.sty.widows, .int .i64 m.sty.head, .int .i64 m.sty.before, .int .i64 m.sty.after, .int .i64 m.sty.inside, .int .i64 m.sty.clear, .int .i64 m.line, .int .i64 m.space, .slice m.A m.n m.c, .int .i64 m.side, .int .i64 m.w, .int .i64 m.h] 45)) w.heap.size 45 [.int .i64 m.kind, .int .i64 m.size, .int .i64 m.sty.top, .int .i64 m.sty.bottom, .int .i64 m.sty.padTop, .int .i64 m.sty.padBottom, .int .i64 m.sty.inset, .int .i64 m.sty.orphans, .int .i64 m.sty.widows, .int .i64 m.sty.head, .int .i64 m.sty.before, .int .i64 m.sty.after, .int .i64 m.sty.inside, .int .i64 m.sty.clear, .int .i64 m.line, .int .i64 m.space, .slice m.A m.n m.c, .int .i64 m.side, .int .i64 m.w, .int .i64 m.h] from Blk.new w 45 [.int .i64 m.kind, .int .i64 m.size, .int .i64 m.sty.top, .int .i64 m.sty.bottom, .int .i64 m.sty.padTop, .int .i64 m.sty.padBottom, .int .i64 m.sty.inset, .int .i64 m.sty.orphans, .int .i64 m.sty.widows, .int .i64 m.sty.head, .int .i64 m.sty.before, .int .i64 m.sty.after, .int .i64 m.sty.inside, .int .i64 m.sty.clear, .int .i64 m.line, .int .i64 m.space, .slice m.A m.n m.c, .int .i64 m.side, .int .i64 m.w, .int .i64 m.h] _ rfl _ rfl)
  have HR := Lib.hid (sty_range (m := m) HK.out.box)
  have he := sty_equal0 m.sty
  go_enter Try.func87, Try.ntmps87
  go_wp2_with ((with_reducible refine stop_load 43 (.tmp 3) ?_ ?_); exact rfl; refine Stop.intro ?_; refine wpList_load_mid rfl 43 (.tmp 3) rfl w.heap.size (0 + 2) rfl (encS12 m.sty) _ HR.out Try.underlying43 rfl (by kernel_rfl) ?_)
  go_ret
  exact ⟨rfl, by go_grown⟩
theorem pnostyle_to {m : NdM} {v : Bool} (hv : noStyleB m = v) (w : World) : Calls Try.prog 87 #[.agg (encM m).toArray] w fun e w' => e = .returned (.bool v) ∧ Below w.heap.size w w' := by
  subst hv; exact pnostyle_any m w
set_option maxHeartbeats 2000000 in
theorem pmaystyle_any (s : Sty) (w : World) : Calls Try.prog 84 #[.agg (encS12 s).toArray] w fun e w' => e = .returned (.bool (mayStyleB s)) ∧ Below w.heap.size w w' := by
  show Calls Try.prog 84 #[.agg #[.int .i64 s.top, .int .i64 s.bottom, .int .i64 s.padTop, .int .i64 s.padBottom, .int .i64 s.inset, .int .i64 s.orphans, .int .i64 s.widows, .int .i64 s.head, .int .i64 s.before, .int .i64 s.after, .int .i64 s.inside, .int .i64 s.clear]] w fun e w' => e = .returned (.bool (mayStyleB s)) ∧ Below w.heap.size w w'
  obtain ⟨v0, hv0⟩ : ∃ v, [s.top, s.bottom, s.padTop, s.padBottom, s.inset, s.head].any (oddB 0 1099511627776) = v := ⟨_, rfl⟩
  have HV0 := Lib.hid hv0
  obtain ⟨v1, hv1⟩ : ∃ v, [s.orphans, s.widows].any (oddB 1 1099511627776) = v := ⟨_, rfl⟩
  have HV1 := Lib.hid hv1
  obtain ⟨v2, hv2⟩ : ∃ v, [s.before, s.after].any (oddB 0 4) = v := ⟨_, rfl⟩
  have HV2 := Lib.hid hv2
  obtain ⟨v3, hv3⟩ : ∃ v, [s.inside].any (oddB 0 1) = v := ⟨_, rfl⟩
  have HV3 := Lib.hid hv3
  obtain ⟨v4, hv4⟩ : ∃ v, [s.clear].any (oddB 0 3) = v := ⟨_, rfl⟩
  have HV4 := Lib.hid hv4
  clear hv0 hv1 hv2 hv3 hv4
  go_enter Try.func84, Try.ntmps84
  go_wp2_with fail
  refine (podd_to HV0.out _ (Ints.lit _ _ _ _ _ rfl (by simp) (by simp) _ rfl)).mono ?_
  rintro e w1 ⟨rfl, hb⟩
  have hX : Box w1 w.heap.size [.int .i64 s.top, .int .i64 s.bottom, .int .i64 s.padTop, .int .i64 s.padBottom, .int .i64 s.inset, .int .i64 s.orphans, .int .i64 s.widows, .int .i64 s.head, .int .i64 s.before, .int .i64 s.after, .int .i64 s.inside, .int .i64 s.clear] := ((box_new w _ _ _ rfl _ rfl).alloc _).below hb
  have HB := Lib.hid (below_then (show Below w.heap.size w _ by go_grown) hb)
  have HX := Lib.hid hX
  have c5 := hX.2.2 5 _ rfl
  have c6 := hX.2.2 6 _ rfl
  clear hb hX 
  cases v0 with
  | true =>
    clear c5 c6
    go_wp2_with fail
    go_ret
    exact ⟨ret_bool (by unfold mayStyleB; rw [HV0.out]; rfl), HB.out⟩
  | false =>
  go_wp2_with fail
  refine (podd_to HV1.out _ (Ints.lit _ _ _ _ _ rfl (by simp) (by simp) _ rfl)).mono ?_
  rintro e w2 ⟨rfl, hb⟩
  have hX : Box w2 w.heap.size [.int .i64 s.top, .int .i64 s.bottom, .int .i64 s.padTop, .int .i64 s.padBottom, .int .i64 s.inset, .int .i64 s.orphans, .int .i64 s.widows, .int .i64 s.head, .int .i64 s.before, .int .i64 s.after, .int .i64 s.inside, .int .i64 s.clear] := (HX.out.alloc _).below hb
  have HB := Lib.hid (below_then HB.out (below_then (show Below w1.heap.size w1 _ by go_grown) hb))
  have HX := Lib.hid hX
  have c8 := hX.2.2 8 _ rfl
  have c9 := hX.2.2 9 _ rfl
  clear hb hX c5 c6
  cases v1 with
  | true =>
    clear c8 c9
    go_wp2_with fail
    go_ret
    exact ⟨ret_bool (by unfold mayStyleB; rw [HV0.out, HV1.out]; rfl), HB.out⟩
  | false =>
  go_wp2_with fail
  refine (podd_to HV2.out _ (Ints.lit _ _ _ _ _ rfl (by simp) (by simp) _ rfl)).mono ?_
  rintro e w3 ⟨rfl, hb⟩
  have hX : Box w3 w.heap.size [.int .i64 s.top, .int .i64 s.bottom, .int .i64 s.padTop, .int .i64 s.padBottom, .int .i64 s.inset, .int .i64 s.orphans, .int .i64 s.widows, .int .i64 s.head, .int .i64 s.before, .int .i64 s.after, .int .i64 s.inside, .int .i64 s.clear] := (HX.out.alloc _).below hb
  have HB := Lib.hid (below_then HB.out (below_then (show Below w2.heap.size w2 _ by go_grown) hb))
  have HX := Lib.hid hX
  have c10 := hX.2.2 10 _ rfl
  clear hb hX c8 c9
  cases v2 with
  | true =>
    clear c10
    go_wp2_with fail
    go_ret
    exact ⟨ret_bool (by unfold mayStyleB; rw [HV0.out, HV1.out, HV2.out]; rfl), HB.out⟩
  | false =>
  go_wp2_with fail
  refine (podd_to HV3.out _ (Ints.lit _ _ _ _ _ rfl (by simp) (by simp) _ rfl)).mono ?_
  rintro e w4 ⟨rfl, hb⟩
  have hX : Box w4 w.heap.size [.int .i64 s.top, .int .i64 s.bottom, .int .i64 s.padTop, .int .i64 s.padBottom, .int .i64 s.inset, .int .i64 s.orphans, .int .i64 s.widows, .int .i64 s.head, .int .i64 s.before, .int .i64 s.after, .int .i64 s.inside, .int .i64 s.clear] := (HX.out.alloc _).below hb
  have HB := Lib.hid (below_then HB.out (below_then (show Below w3.heap.size w3 _ by go_grown) hb))
  have HX := Lib.hid hX
  have c11 := hX.2.2 11 _ rfl
  clear hb hX c10
  cases v3 with
  | true =>
    clear c11
    go_wp2_with fail
    go_ret
    exact ⟨ret_bool (by unfold mayStyleB; rw [HV0.out, HV1.out, HV2.out, HV3.out]; rfl), HB.out⟩
  | false =>
  go_wp2_with fail
  refine (podd_to HV4.out _ (Ints.lit _ _ _ _ _ rfl (by simp) (by simp) _ rfl)).mono ?_
  rintro e w5 ⟨rfl, hb⟩
  have hX : Box w5 w.heap.size [.int .i64 s.top, .int .i64 s.bottom, .int .i64 s.padTop, .int .i64 s.padBottom, .int .i64 s.inset, .int .i64 s.orphans, .int .i64 s.widows, .int .i64 s.head, .int .i64 s.before, .int .i64 s.after, .int .i64 s.inside, .int .i64 s.clear] := (HX.out.alloc _).below hb
  have HB := Lib.hid (below_then HB.out (below_then (show Below w4.heap.size w4 _ by go_grown) hb))
  have HX := Lib.hid hX
  clear hb hX c11
  go_wp2_with fail
  go_ret
  exact ⟨ret_bool (by unfold mayStyleB; rw [HV0.out, HV1.out, HV2.out, HV3.out, HV4.out]; rfl), HB.out⟩
theorem pmaystyle_to {s : Sty} {v : Bool} (hv : mayStyleB s = v) (w : World) : Calls Try.prog 84 #[.agg (encS12 s).toArray] w fun e w' => e = .returned (.bool v) ∧ Below w.heap.size w w' := by
  subst hv; exact pmaystyle_any s w
end Go.Proofs.Ytamakeogaipdiaa
