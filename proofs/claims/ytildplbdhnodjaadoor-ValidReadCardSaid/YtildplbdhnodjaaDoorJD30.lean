import Derived.Test.YtildplbdhnodjaaDoorJD28
import Derived.Test.YtildplbdhnodjaaDoorJD02
/- The program's package valid: Count, Is, Check. (Written by program: tools/drafts/gentop.py.) -/
namespace Go.Proofs.YtildplbdhnodjaaDoor
open Go.RowKit
set_option linter.unusedVariables false
set_option linter.unusedSimpArgs false
def PreV (l : List Nd) (w : World) (A : Option Addr) (n : Nat) : Prop := Sees w A n l ∧ n ≤ 100000
theorem PreV.below {l : List Nd} {w w' : World} {A : Option Addr} {n : Nat} (h : PreV l w A n) (hb : Below w.heap.size w w') : PreV l w' A n := ⟨h.1.below hb, h.2⟩
theorem pcount_pre {l : List Nd} {A : Option Addr} {n ca : Nat} {w : World} (h : PreV l w A n) : Calls Tryd.prog 16 #[.slice A n ca] w (CountPost l w) := pcount_any l A n ca w h.1 h.2
theorem doc_ans {l : List Nd} {a : Sm × Int} (ha : ansV l = a) (h : IsDoc l) : a = (sumB l, 0) := by rw [← ha]; unfold ansV; rw [if_pos ((docB_iff l).2 h)]
theorem no_ans {l : List Nd} {a : Sm × Int} (ha : ansV l = a) (h : ¬ IsDoc l) : a = (.none, 4) := by rw [← ha]; unfold ansV; rw [if_neg (fun e => h ((docB_iff l).1 e))]
set_option maxHeartbeats 4000000 in
set_option maxRecDepth 100000 in
theorem pCount_to {l : List Nd} {s : Sm} {f : Int} (ha : ansV l = (s, f)) {A : Option Addr} {n ca : Nat} {w : World} (h : PreV l w A n) : Calls Tryd.prog 6 #[.slice A n ca] w fun e w' => e = .returned (.tuple #[.agg #[.int .i64 s.depth, .int .i64 s.pieces, .int .i64 s.nodes, .int .i64 s.heights], .int .i64 f]) ∧ Below w.heap.size w w' := by
  have HA := Lib.hid ha
  have H := Lib.hid h
  clear ha h
  obtain ⟨s0, s1, s2, s3⟩ := s
  simp only
  go_enter Tryd.func6, Tryd.ntmps6
  go_wp2_with fail
  refine (pcount_pre (H.out.below (show Below w.heap.size w _ by go_grown))).mono ?_
  rintro e w1 ⟨⟨hd, A1, k1, c1, rfl⟩ | ⟨hd, rfl⟩, hb⟩
  · have he := doc_ans HA.out hd
    injection he with he1 he2
    subst he2
    have HE := Lib.hid he1
    have hX : Box w1 w.heap.size [.int .i64 0, .int .i64 0, .int .i64 0, .int .i64 0] := (box_new w _ _ _ rfl _ rfl).below hb
    have c0 := hX.2.2 0 _ rfl
    have c1' := hX.2.2 1 _ rfl
    have c2 := hX.2.2 2 _ rfl
    have c3 := hX.2.2 3 _ rfl
    have f0 := hX.2.1 0
    have f1 := hX.2.1 1
    have f2 := hX.2.1 2
    have f3 := hX.2.1 3
    have fl := hX.1
    have HX := Lib.hid hX
    have HB := Lib.hid (below_then (show Below w.heap.size w _ by go_grown) hb)
    rw [← he1]
    clear hX hb hd he1
    go_wp2_with fail
    have hne : ¬ w.heap.size = w1.heap.size := by omega
    have hY := ((((HX.out.set 0 (.int .i64 s0) (by simp)).set 1 (.int .i64 s1) (by simp)).set 2 (.int .i64 s2) (by simp)).set 3 (.int .i64 s3) (by simp))
    have hZ := hY.alloc (.cells #[.int .i64 s0, .int .i64 s1, .int .i64 s2, .int .i64 s3, .slice A1 k1 c1] 53)
    have r0 := hZ.2.2 0 _ rfl
    have r1 := hZ.2.2 1 _ rfl
    have r2 := hZ.2.2 2 _ rfl
    have r3 := hZ.2.2 3 _ rfl
    refine bodyPost_ret (v := .tuple #[.agg #[.int .i64 s0, .int .i64 s1, .int .i64 s2, .int .i64 s3], .int .i64 0]) (by simp [results, Tryd.results6, go_sem, r0, r1, r2, r3]) rfl ⟨rfl, ?_⟩
    exact ((((HB.out.setCell (by simp) _).setCell (by simp) _).setCell (by simp) _).setCell (by simp) _).alloc (by simp; omega) _
  · have he := no_ans HA.out hd
    injection he with he1 he2
    subst he2
    injection he1 with h0 h1 h2 h3
    subst h0 h1 h2 h3
    have hX : Box w1 w.heap.size [.int .i64 0, .int .i64 0, .int .i64 0, .int .i64 0] := (box_new w _ _ _ rfl _ rfl).below hb
    have c0 := hX.2.2 0 _ rfl
    have c1' := hX.2.2 1 _ rfl
    have c2 := hX.2.2 2 _ rfl
    have c3 := hX.2.2 3 _ rfl
    have f0 := hX.2.1 0
    have f1 := hX.2.1 1
    have f2 := hX.2.1 2
    have f3 := hX.2.1 3
    have fl := hX.1
    have HX := Lib.hid hX
    have HB := Lib.hid (below_then (show Below w.heap.size w _ by go_grown) hb)
    clear hX hb hd
    go_wp2_with fail
    have hne : ¬ w.heap.size = w1.heap.size := by omega
    have hY := ((((HX.out.set 0 (.int .i64 0) (by simp)).set 1 (.int .i64 0) (by simp)).set 2 (.int .i64 0) (by simp)).set 3 (.int .i64 0) (by simp))
    have hZ := hY.alloc (.cells #[.int .i64 0, .int .i64 0, .int .i64 0, .int .i64 0, .slice none 0 0] 53)
    have r0 := hZ.2.2 0 _ rfl
    have r1 := hZ.2.2 1 _ rfl
    have r2 := hZ.2.2 2 _ rfl
    have r3 := hZ.2.2 3 _ rfl
    refine bodyPost_ret (v := .tuple #[.agg #[.int .i64 0, .int .i64 0, .int .i64 0, .int .i64 0], .int .i64 4]) (by simp [results, Tryd.results6, go_sem, r0, r1, r2, r3]) rfl ⟨rfl, ?_⟩
    exact ((((HB.out.setCell (by simp) _).setCell (by simp) _).setCell (by simp) _).setCell (by simp) _).alloc (by simp; omega) _
set_option maxHeartbeats 4000000 in
set_option maxRecDepth 100000 in
theorem pIs_to {l : List Nd} {v : Bool} (ha : docB l = v) {A : Option Addr} {n ca : Nat} {w : World} (h : PreV l w A n) : Calls Tryd.prog 7 #[.slice A n ca] w fun e w' => e = .returned (.bool v) ∧ Below w.heap.size w w' := by
  have HA := Lib.hid ha
  have H := Lib.hid h
  clear ha h
  go_enter Tryd.func7, Tryd.ntmps7
  go_wp2_with fail
  refine (pcount_pre H.out).mono ?_
  rintro e w1 ⟨⟨hd, A1, k1, c1, rfl⟩ | ⟨hd, rfl⟩, hb⟩
  · have HV := Lib.hid (show v = true by rw [← HA.out]; exact (docB_iff l).2 hd)
    obtain ⟨⟨s0, s1, s2, s3⟩, hs⟩ : ∃ s, sumB l = s := ⟨_, rfl⟩
    rw [hs]
    have HB := Lib.hid hb
    clear hb hd hs
    go_wp2_with fail
    go_ret
    exact ⟨ret_bool HV.out.symm, HB.out.alloc (by have := HB.out.size; omega) _⟩
  · have HV := Lib.hid (show v = false by rw [← HA.out]; rcases hq : docB l with _ | _; rfl; exact absurd ((docB_iff l).1 hq) hd)
    have HB := Lib.hid hb
    clear hb hd
    go_wp2_with fail
    go_ret
    exact ⟨ret_bool HV.out.symm, HB.out.alloc (by have := HB.out.size; omega) _⟩
theorem wpList_val {P : Program} {ops : Array Oper} {rest : List Oper} {o : Oper} {a : Act} {w : World} {Q : Exit → Act → World → Prop} (hgd : o.guard = none) (v : Value) (he : (execOp a.eval o).run P w = .ok (.value v) w) (h : wpList P ops Q rest (a.put o.dst v) w) : wpList P ops Q (o :: rest) a w := by
  refine wpList_plain hgd fun K hK => ?_
  unfold Oper.wp
  rw [he, Oper.upon_value]
  exact hK _ _ h
set_option maxHeartbeats 8000000 in
set_option maxRecDepth 100000 in
theorem pCheck_to {l : List Nd} {f : Int} (ha : chkV l = f) {A : Option Addr} {n ca : Nat} {w : World} (h : PreV l w A n) : Calls Tryd.prog 8 #[.slice A n ca] w fun e w' => e = .returned (.int .i64 f) ∧ Below w.heap.size w w' := by
  have HA := Lib.hid ha
  have H := Lib.hid h
  clear ha h
  go_enter Tryd.func8, Tryd.ntmps8
  go_wp2_with fail
  refine (pcount_pre H.out).mono ?_
  rintro e w1 ⟨⟨hd, A1, k1, c1, rfl⟩ | ⟨hd, rfl⟩, hb⟩
  rotate_left
  · have HV := Lib.hid (show f = 4 by rw [← HA.out]; unfold chkV; rw [if_neg (fun e => hd ((docB_iff l).1 e))])
    have HB := Lib.hid hb
    clear hb hd
    go_wp2_with fail
    go_ret
    exact ⟨ret_int HV.out.symm, HB.out.alloc (by have := HB.out.size; omega) _⟩
  obtain ⟨⟨s0, s1, s2, s3⟩, hs⟩ : ∃ s, sumB l = s := ⟨_, rfl⟩
  have HV := Lib.hid (show f = if decide (16 < s0) || decide (2000 < s1) || decide (2000 < s2) || decide (1099511627776 < s3) then 2 else 0 by rw [← HA.out]; unfold chkV overB; rw [if_pos ((docB_iff l).2 hd), hs])
  rw [hs]
  have HB := Lib.hid hb
  have hsz := hb.size
  clear hb hd hs
  go_wp2_with fail
  go_loopw [33] (fun i wr => ∃ k : Nat, i = .int .i64 k ∧ Below w.heap.size w wr ∧ (k = 0 ∨ (k = 1 ∧ s0 ≤ 16) ∨ (k = 2 ∧ s0 ≤ 16 ∧ s1 ≤ 2000) ∨ (k = 3 ∧ s0 ≤ 16 ∧ s1 ≤ 2000 ∧ s2 ≤ 2000) ∨ (k = 4 ∧ s0 ≤ 16 ∧ s1 ≤ 2000 ∧ s2 ≤ 2000 ∧ s3 ≤ 1099511627776))) (fun i _ => 4 - (intOf i).toNat)
  case atStart => exact ⟨0, rfl, (HB.out.alloc (by omega) _).alloc (by simp; omega) _, .inl rfl⟩
  case round =>
    obtain ⟨k, rfl, hon, hk⟩ := hrel
    have HO := Lib.hid hon
    have hos := hon.size
    clear hon
    rcases hk with rfl | ⟨rfl, h0⟩ | ⟨rfl, h0, h1⟩ | ⟨rfl, h0, h1, h2⟩ | ⟨rfl, h0, h1, h2, h3⟩
    · by_cases hv : 16 < s0
      · have HW := Lib.hid (show f = 2 by rw [HV.out]; simp [hv])
        go_wp2_with ((with_reducible refine stop_dst 35 ?_ ?_); exact rfl; refine Stop.intro ?_; refine wpList_val rfl (.agg #[.int .i64 s0, .int .i64 16]) (by kernel_rfl) ?_)
        go_ret
        exact ⟨ret_int HW.out.symm, HO.out.alloc (by omega) _⟩
      · have hv2 : s0 ≤ 16 := by omega
        clear hv
        go_wp2_with ((with_reducible refine stop_dst 35 ?_ ?_); exact rfl; refine Stop.intro ?_; refine wpList_val rfl (.agg #[.int .i64 s0, .int .i64 16]) (by kernel_rfl) ?_)
        go_roundw
        case rel => exact ⟨1, by go_num, HO.out.alloc (by omega) _, .inr (.inl ⟨rfl, by omega⟩)⟩
        case measure => simp [intOf]
    · by_cases hv : 2000 < s1
      · have HW := Lib.hid (show f = 2 by rw [HV.out]; simp [hv])
        go_wp2_with ((with_reducible refine stop_dst 35 ?_ ?_); exact rfl; refine Stop.intro ?_; refine wpList_val rfl (.agg #[.int .i64 s1, .int .i64 2000]) (by kernel_rfl) ?_)
        go_ret
        exact ⟨ret_int HW.out.symm, HO.out.alloc (by omega) _⟩
      · have hv2 : s1 ≤ 2000 := by omega
        clear hv
        go_wp2_with ((with_reducible refine stop_dst 35 ?_ ?_); exact rfl; refine Stop.intro ?_; refine wpList_val rfl (.agg #[.int .i64 s1, .int .i64 2000]) (by kernel_rfl) ?_)
        go_roundw
        case rel => exact ⟨2, by go_num, HO.out.alloc (by omega) _, .inr (.inr (.inl ⟨rfl, by omega, by omega⟩))⟩
        case measure => simp [intOf]
    · by_cases hv : 2000 < s2
      · have HW := Lib.hid (show f = 2 by rw [HV.out]; simp [hv])
        go_wp2_with ((with_reducible refine stop_dst 35 ?_ ?_); exact rfl; refine Stop.intro ?_; refine wpList_val rfl (.agg #[.int .i64 s2, .int .i64 2000]) (by kernel_rfl) ?_)
        go_ret
        exact ⟨ret_int HW.out.symm, HO.out.alloc (by omega) _⟩
      · have hv2 : s2 ≤ 2000 := by omega
        clear hv
        go_wp2_with ((with_reducible refine stop_dst 35 ?_ ?_); exact rfl; refine Stop.intro ?_; refine wpList_val rfl (.agg #[.int .i64 s2, .int .i64 2000]) (by kernel_rfl) ?_)
        go_roundw
        case rel => exact ⟨3, by go_num, HO.out.alloc (by omega) _, .inr (.inr (.inr (.inl ⟨rfl, by omega, by omega, by omega⟩)))⟩
        case measure => simp [intOf]
    · by_cases hv : 1099511627776 < s3
      · have HW := Lib.hid (show f = 2 by rw [HV.out]; simp [hv])
        go_wp2_with ((with_reducible refine stop_dst 35 ?_ ?_); exact rfl; refine Stop.intro ?_; refine wpList_val rfl (.agg #[.int .i64 s3, .int .i64 1099511627776]) (by kernel_rfl) ?_)
        go_ret
        exact ⟨ret_int HW.out.symm, HO.out.alloc (by omega) _⟩
      · have hv2 : s3 ≤ 1099511627776 := by omega
        clear hv
        go_wp2_with ((with_reducible refine stop_dst 35 ?_ ?_); exact rfl; refine Stop.intro ?_; refine wpList_val rfl (.agg #[.int .i64 s3, .int .i64 1099511627776]) (by kernel_rfl) ?_)
        go_roundw
        case rel => exact ⟨4, by go_num, HO.out.alloc (by omega) _, .inr (.inr (.inr (.inr ⟨rfl, by omega, by omega, by omega, by omega⟩)))⟩
        case measure => simp [intOf]
    · have HW := Lib.hid (show f = 0 by rw [HV.out, decide_eq_false (by omega : ¬ 16 < s0), decide_eq_false (by omega : ¬ 2000 < s1), decide_eq_false (by omega : ¬ 2000 < s2), decide_eq_false (by omega : ¬ 1099511627776 < s3)]; rfl)
      go_wp2_with fail
      go_ret
      exact ⟨ret_int HW.out.symm, HO.out⟩
end Go.Proofs.YtildplbdhnodjaaDoor
