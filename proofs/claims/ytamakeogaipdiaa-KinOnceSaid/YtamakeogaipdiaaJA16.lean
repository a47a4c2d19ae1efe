import Derived.Test.YtamakeogaipdiaaJA10
/- The document's answers for package valid: one node. (Written by program: tools/drafts/genone.py.) -/
namespace Go.Proofs.Ytamakeogaipdiaa
open Go.RowKit
set_option linter.unusedVariables false
set_option linter.unusedSimpArgs false
def oneM (m : NdM) (ws : List Int) : Bool := oneB ⟨m.kind, m.size, m.sty, m.line, m.space, ws, m.side, m.w, m.h⟩
theorem Shows.one {w : World} {m : NdM} {x : Nd} (h : Shows w m x) : oneB x = oneM m x.words := by
  obtain ⟨⟨h1, h2, h3, h4, h5, h6, h7, h8⟩, _⟩ := h
  unfold oneM
  rw [← h1, ← h2, ← h3, ← h4, ← h5, ← h6, ← h7, ← h8]
theorem words_n {w : World} {m : NdM} {ws : List Int} (hI : Ints w m.A m.n ws) : decide (ws = []) = decide (m.n = 0) ∧ decide (ws ≠ []) = decide (0 < m.n) := by
  have hl := hI.1
  have hw : ws = [] ↔ m.n = 0 := by rw [← List.length_eq_zero_iff, hl]
  constructor
  · rw [Bool.eq_iff_iff]; simp [hw]
  · rw [Bool.eq_iff_iff]; simp [hw]; omega
theorem any_bad {ws : List Int} {k : Nat} (hk : k < ws.length) (h : fromB (ws[k]?.getD 0) 1 1099511627776 = false) : (ws.all fun n => fromB n 1 1099511627776) = false := by
  rw [List.all_eq_false]
  refine ⟨ws[k], List.getElem_mem hk, ?_⟩
  simpa [hk] using h
theorem all_good {ws : List Int} (h : ∀ j, j < ws.length → fromB (ws[j]?.getD 0) 1 1099511627776 = true) : (ws.all fun n => fromB n 1 1099511627776) = true := by
  rw [List.all_eq_true]
  intro z hz
  obtain ⟨j, hj, rfl⟩ := List.getElem_of_mem hz
  have := h j hj
  simpa [hj] using this
set_option maxHeartbeats 4000000 in
set_option maxRecDepth 100000 in
theorem vone_k1 (m : NdM) (ws : List Int) (w : World) (hk : m.kind = 1) (hI : Ints w m.A m.n ws) : Calls Try.prog 49 #[.agg (encM m).toArray] w fun e w' => e = .returned (.bool (oneM m ws)) ∧ Below w.heap.size w w' := by
  show Calls Try.prog 49 #[.agg #[.int .i64 m.kind, .int .i64 m.size, .int .i64 m.sty.top, .int .i64 m.sty.bottom, .int .i64 m.sty.padTop, .int .i64 m.sty.padBottom, .int .i64 m.sty.inset, .int .i64 m.sty.orphans, .int .i64 m.sty.widows, .int .i64 m.sty.head, .int .i64 m.sty.before, .int .i64 m.sty.after, .int .i64 m.sty.inside, .int .i64 m.sty.clear, .int .i64 m.line, .int .i64 m.space, .slice m.A m.n m.c, .int .i64 m.side, .int .i64 m.w, .int .i64 m.h]] w fun e w' => e = .returned (.bool (oneM m ws)) ∧ Below w.heap.size w w'
  have k1 : (m.kind == 1) = true := by rw [hk]; rfl
  obtain ⟨v, hv⟩ : ∃ v, styOkB m.sty = v := ⟨_, rfl⟩
  have HB := Lib.hid (show oneM m ws = (v && decide (m.line = 0) && decide (m.space = 0) && decide (m.n = 0) && decide (m.side = 0) && decide (m.w = 0) && decide (m.h = 0)) by unfold oneM oneB; simp only [if_pos hk]; rw [hv, (words_n hI).1])
  have HV := Lib.hid hv
  have HK := Lib.hid (show Blk (w.alloc (.cells #[.int .i64 m.kind, .int .i64 m.size, .int .i64 m.sty.top, .int .i64 m.sty.bottom, .int .i64 m.sty.padTop, .int .i64 m.sty.padBottom, .int .i64 m.sty.inset, .int .i64 m.sty.orphans, .int .i64 m.sty.widows, .int .i64 m.sty.head, .int .i64 m.sty.before, .int .i64 m.sty.after, .int .i64 m.sty.inside, .int .i64 m.sty.clear, .int .i64 m.line, .int .i64 m.space, .slice m.A m.n m.c, .int .i64 m.side, .int .i64 m.w, .int .i64 m.h] 45)) w.heap.size 45 [.int .i64 m.kind, .int .i64 m.size, .int .i64 m.sty.top, .int .i64 m.sty.bottom, .int .i64 m.sty.padTop, .int .i64 m.sty.padBottom, .int .i64 m.sty.inset, .int .i64 m.sty.orphans, .int .i64 m.sty.widows, .int .i64 m.sty.head, .int .i64 m.sty.before, .int .i64 m.sty.after, .int .i64 m.sty.inside, .int .i64 m.sty.clear, .int .i64 m.line, .int .i64 m.space, .slice m.A m.n m.c, .int .i64 m.side, .int .i64 m.w, .int .i64 m.h] from Blk.new w 45 [.int .i64 m.kind, .int .i64 m.size, .int .i64 m.sty.top, .int .i64 m.sty.bottom, .int .i64 m.sty.padTop, .int .i64 m.sty.padBottom, .int .i64 m.sty.inset, .int .i64 m.sty.orphans, .int .i64 m.sty.widows, .int .i64 m.sty.head, .int .i64 m.sty.before, .int .i64 m.sty.after, .int .i64 m.sty.inside, .int .i64 m.sty.clear, .int .i64 m.line, .int .i64 m.space, .slice m.A m.n m.c, .int .i64 m.side, .int .i64 m.w, .int .i64 m.h] _ rfl _ rfl)
  have HR := Lib.hid (sty_range (m := m) HK.out.box)
  clear hk hI hv
  go_enter Try.func49, Try.ntmps49
  go_wp2_with ((with_reducible refine stop_load 43 (.tmp 8) ?_ ?_); exact rfl; refine Stop.intro ?_; refine wpList_load_mid rfl 43 (.tmp 8) rfl w.heap.size (0 + 2) rfl (encS12 m.sty) _ HR.out Try.underlying43 rfl (by kernel_rfl) ?_)
  refine (vblock_to HV.out _).mono ?_
  rintro e w1 ⟨rfl, hb⟩
  have hX := (HK.out.on hb).box
  have HBB := Lib.hid (below_then (show Below w.heap.size w _ by go_grown) hb)
  have c14 := hX.2.2 14 _ rfl
  have c15 := hX.2.2 15 _ rfl
  have c16 := hX.2.2 16 _ rfl
  have c17 := hX.2.2 17 _ rfl
  have c18 := hX.2.2 18 _ rfl
  have c19 := hX.2.2 19 _ rfl
  clear hb hX
  cases v with
  | false =>
    clear c14 c15 c16 c17 c18 c19
    go_wp2_with fail
    go_ret
    exact ⟨ret_bool (by rw [HB.out]; simp), HBB.out⟩
  | true =>
  by_cases h_line : m.line = 0
  rotate_left
  · have b_line : (m.line == 0) = false := by simpa using h_line
    have H_line := Lib.hid (decide_eq_false h_line)
    clear h_line
    go_wp2_with fail
    go_ret
    exact ⟨ret_bool (by rw [HB.out, H_line.out]; simp), HBB.out⟩
  have b_line : (m.line == 0) = true := by simpa using h_line
  have H_line := Lib.hid (decide_eq_true h_line)
  clear h_line
  by_cases h_space : m.space = 0
  rotate_left
  · have b_space : (m.space == 0) = false := by simpa using h_space
    have H_space := Lib.hid (decide_eq_false h_space)
    clear h_space
    go_wp2_with fail
    go_ret
    exact ⟨ret_bool (by rw [HB.out, H_line.out, H_space.out]; simp), HBB.out⟩
  have b_space : (m.space == 0) = true := by simpa using h_space
  have H_space := Lib.hid (decide_eq_true h_space)
  clear h_space
  by_cases h_n : m.n = 0
  rotate_left
  · have b_n : (((m.n : Nat) : Int) == 0) = false := by simpa using h_n
    have H_n := Lib.hid (decide_eq_false h_n)
    clear h_n
    go_wp2_with fail
    go_ret
    exact ⟨ret_bool (by rw [HB.out, H_line.out, H_space.out, H_n.out]; simp), HBB.out⟩
  have b_n : (((m.n : Nat) : Int) == 0) = true := by simpa using h_n
  have H_n := Lib.hid (decide_eq_true h_n)
  clear h_n
  by_cases h_side : m.side = 0
  rotate_left
  · have b_side : (m.side == 0) = false := by simpa using h_side
    have H_side := Lib.hid (decide_eq_false h_side)
    clear h_side
    go_wp2_with fail
    go_ret
    exact ⟨ret_bool (by rw [HB.out, H_line.out, H_space.out, H_n.out, H_side.out]; simp), HBB.out⟩
  have b_side : (m.side == 0) = true := by simpa using h_side
  have H_side := Lib.hid (decide_eq_true h_side)
  clear h_side
  by_cases h_w : m.w = 0
  rotate_left
  · have b_w : (m.w == 0) = false := by simpa using h_w
    have H_w := Lib.hid (decide_eq_false h_w)
    clear h_w
    go_wp2_with fail
    go_ret
    exact ⟨ret_bool (by rw [HB.out, H_line.out, H_space.out, H_n.out, H_side.out, H_w.out]; simp), HBB.out⟩
  have b_w : (m.w == 0) = true := by simpa using h_w
  have H_w := Lib.hid (decide_eq_true h_w)
  clear h_w
  by_cases h_h : m.h = 0
  rotate_left
  · have b_h : (m.h == 0) = false := by simpa using h_h
    have H_h := Lib.hid (decide_eq_false h_h)
    clear h_h
    go_wp2_with fail
    go_ret
    exact ⟨ret_bool (by rw [HB.out, H_line.out, H_space.out, H_n.out, H_side.out, H_w.out, H_h.out]; simp), HBB.out⟩
  have b_h : (m.h == 0) = true := by simpa using h_h
  have H_h := Lib.hid (decide_eq_true h_h)
  clear h_h
  go_wp2_with fail
  go_ret
  exact ⟨ret_bool (by rw [HB.out, H_line.out, H_space.out, H_n.out, H_side.out, H_w.out, H_h.out]; simp), HBB.out⟩
set_option maxHeartbeats 4000000 in
set_option maxRecDepth 100000 in
theorem vone_sty (m : NdM) (ws : List Int) (w : World) (hk : ¬ m.kind = 1) (hs : styB m.sty .none = false) : Calls Try.prog 49 #[.agg (encM m).toArray] w fun e w' => e = .returned (.bool (oneM m ws)) ∧ Below w.heap.size w w' := by
  show Calls Try.prog 49 #[.agg #[.int .i64 m.kind, .int .i64 m.size, .int .i64 m.sty.top, .int .i64 m.sty.bottom, .int .i64 m.sty.padTop, .int .i64 m.sty.padBottom, .int .i64 m.sty.inset, .int .i64 m.sty.orphans, .int .i64 m.sty.widows, .int .i64 m.sty.head, .int .i64 m.sty.before, .int .i64 m.sty.after, .int .i64 m.sty.inside, .int .i64 m.sty.clear, .int .i64 m.line, .int .i64 m.space, .slice m.A m.n m.c, .int .i64 m.side, .int .i64 m.w, .int .i64 m.h]] w fun e w' => e = .returned (.bool (oneM m ws)) ∧ Below w.heap.size w w'
  have k1 : (m.kind == 1) = false := by simpa using hk
  have HB := Lib.hid (show oneM m ws = false by unfold oneM oneB; simp only [if_neg hk]; rw [if_pos (fun e => by have := (styB_iff m.sty .none).2 e; rw [hs] at this; cases this)])
  have HK := Lib.hid (show Blk (w.alloc (.cells #[.int .i64 m.kind, .int .i64 m.size, .int .i64 m.sty.top, .int .i64 m.sty.bottom, .int .i64 m.sty.padTop, .int .i64 m.sty.padBottom, .int .i64 m.sty.inset, .int .i64 m.sty.orphans, .int .i64 m.sty.widows, .int .i64 m.sty.head, .int .i64 m.sty.before, .int .i64 m.sty.after, .int .i64 m.sty.inside, .int .i64 m.sty.clear, .int .i64 m.line, .int .i64 m.space, .slice m.A m.n m.c, .int .i64 m.side, .int .i64 m.w, .int .i64 m.h] 45)) w.heap.size 45 [.int .i64 m.kind, .int .i64 m.size, .int .i64 m.sty.top, .int .i64 m.sty.bottom, .int .i64 m.sty.padTop, .int .i64 m.sty.padBottom, .int .i64 m.sty.inset, .int .i64 m.sty.orphans, .int .i64 m.sty.widows, .int .i64 m.sty.head, .int .i64 m.sty.before, .int .i64 m.sty.after, .int .i64 m.sty.inside, .int .i64 m.sty.clear, .int .i64 m.line, .int .i64 m.space, .slice m.A m.n m.c, .int .i64 m.side, .int .i64 m.w, .int .i64 m.h] from Blk.new w 45 [.int .i64 m.kind, .int .i64 m.size, .int .i64 m.sty.top, .int .i64 m.sty.bottom, .int .i64 m.sty.padTop, .int .i64 m.sty.padBottom, .int .i64 m.sty.inset, .int .i64 m.sty.orphans, .int .i64 m.sty.widows, .int .i64 m.sty.head, .int .i64 m.sty.before, .int .i64 m.sty.after, .int .i64 m.sty.inside, .int .i64 m.sty.clear, .int .i64 m.line, .int .i64 m.space, .slice m.A m.n m.c, .int .i64 m.side, .int .i64 m.w, .int .i64 m.h] _ rfl _ rfl)
  have HR := Lib.hid (sty_range (m := m) HK.out.box)
  have he := sty_equal0 m.sty
  clear hk
  go_enter Try.func49, Try.ntmps49
  go_wp2_with ((with_reducible refine stop_load 43 (.tmp 42) ?_ ?_); exact rfl; refine Stop.intro ?_; refine wpList_load_mid rfl 43 (.tmp 42) rfl w.heap.size (0 + 2) rfl (encS12 m.sty) _ HR.out Try.underlying43 rfl (by kernel_rfl) ?_)
  go_ret
  exact ⟨ret_bool (by rw [HB.out]), by go_grown⟩
set_option maxHeartbeats 4000000 in
set_option maxRecDepth 100000 in
theorem vone_k2 (m : NdM) (ws : List Int) (w : World) (hk : m.kind = 2) (hs : styB m.sty .none = true) (hI : Ints w m.A m.n ws) : Calls Try.prog 49 #[.agg (encM m).toArray] w fun e w' => e = .returned (.bool (oneM m ws)) ∧ Below w.heap.size w w' := by
  show Calls Try.prog 49 #[.agg #[.int .i64 m.kind, .int .i64 m.size, .int .i64 m.sty.top, .int .i64 m.sty.bottom, .int .i64 m.sty.padTop, .int .i64 m.sty.padBottom, .int .i64 m.sty.inset, .int .i64 m.sty.orphans, .int .i64 m.sty.widows, .int .i64 m.sty.head, .int .i64 m.sty.before, .int .i64 m.sty.after, .int .i64 m.sty.inside, .int .i64 m.sty.clear, .int .i64 m.line, .int .i64 m.space, .slice m.A m.n m.c, .int .i64 m.side, .int .i64 m.w, .int .i64 m.h]] w fun e w' => e = .returned (.bool (oneM m ws)) ∧ Below w.heap.size w w'
  have k1 : (m.kind == 1) = false := by rw [hk]; rfl
  have k2 : (m.kind == 2) = true := by rw [hk]; rfl
  have hn1 : ¬ m.kind = 1 := by omega
  obtain ⟨vl, hvl⟩ : ∃ v, fromB m.line 1 1099511627776 = v := ⟨_, rfl⟩
  obtain ⟨vs, hvs⟩ : ∃ v, fromB m.space 0 1099511627776 = v := ⟨_, rfl⟩
  have HB := Lib.hid (show oneM m ws = ((ws.all fun n => fromB n 1 1099511627776) && decide (0 < m.n) && vl && vs && decide (m.side = 0) && decide (m.w = 0) && decide (m.h = 0)) by
    unfold oneM oneB maxN
    simp only [if_neg hn1, if_pos hk]
    rw [if_neg (show ¬ (m.sty ≠ Sty.none) by simpa using (styB_iff _ _).1 hs), hvl, hvs, (words_n hI).2])
  have HVL := Lib.hid hvl
  have HVS := Lib.hid hvs
  have HI := Lib.hid hI
  have hl := hI.1
  have hmx := hI.2.1
  have HK := Lib.hid (show Blk (w.alloc (.cells #[.int .i64 m.kind, .int .i64 m.size, .int .i64 m.sty.top, .int .i64 m.sty.bottom, .int .i64 m.sty.padTop, .int .i64 m.sty.padBottom, .int .i64 m.sty.inset, .int .i64 m.sty.orphans, .int .i64 m.sty.widows, .int .i64 m.sty.head, .int .i64 m.sty.before, .int .i64 m.sty.after, .int .i64 m.sty.inside, .int .i64 m.sty.clear, .int .i64 m.line, .int .i64 m.space, .slice m.A m.n m.c, .int .i64 m.side, .int .i64 m.w, .int .i64 m.h] 45)) w.heap.size 45 [.int .i64 m.kind, .int .i64 m.size, .int .i64 m.sty.top, .int .i64 m.sty.bottom, .int .i64 m.sty.padTop, .int .i64 m.sty.padBottom, .int .i64 m.sty.inset, .int .i64 m.sty.orphans, .int .i64 m.sty.widows, .int .i64 m.sty.head, .int .i64 m.sty.before, .int .i64 m.sty.after, .int .i64 m.sty.inside, .int .i64 m.sty.clear, .int .i64 m.line, .int .i64 m.space, .slice m.A m.n m.c, .int .i64 m.side, .int .i64 m.w, .int .i64 m.h] from Blk.new w 45 [.int .i64 m.kind, .int .i64 m.size, .int .i64 m.sty.top, .int .i64 m.sty.bottom, .int .i64 m.sty.padTop, .int .i64 m.sty.padBottom, .int .i64 m.sty.inset, .int .i64 m.sty.orphans, .int .i64 m.sty.widows, .int .i64 m.sty.head, .int .i64 m.sty.before, .int .i64 m.sty.after, .int .i64 m.sty.inside, .int .i64 m.sty.clear, .int .i64 m.line, .int .i64 m.space, .slice m.A m.n m.c, .int .i64 m.side, .int .i64 m.w, .int .i64 m.h] _ rfl _ rfl)
  have HR := Lib.hid (sty_range (m := m) HK.out.box)
  have he := sty_equal0 m.sty
  obtain ⟨A1, hA1⟩ : ∃ A1, m.A = A1 := ⟨_, rfl⟩
  have hI2 := hI
  rw [hA1] at hI2 HK HR ⊢
  have HI2 := Lib.hid hI2
  have HA1 := Lib.hid hA1
  clear hk hn1 hvl hvs hI hI2 hA1 HI
  go_enter Try.func49, Try.ntmps49
  go_wp2_with ((with_reducible refine stop_load 43 (.tmp 42) ?_ ?_); exact rfl; refine Stop.intro ?_; refine wpList_load_mid rfl 43 (.tmp 42) rfl w.heap.size (0 + 2) rfl (encS12 m.sty) _ HR.out Try.underlying43 rfl (by kernel_rfl) ?_)
  clear he
  go_loopw [4] (fun i wr => ∃ k : Nat, k ≤ m.n ∧ i = .int .i64 k ∧ (∀ j, j < k → fromB (ws[j]?.getD 0) 1 1099511627776 = true) ∧ wr = w.alloc (.cells #[.int .i64 m.kind, .int .i64 m.size, .int .i64 m.sty.top, .int .i64 m.sty.bottom, .int .i64 m.sty.padTop, .int .i64 m.sty.padBottom, .int .i64 m.sty.inset, .int .i64 m.sty.orphans, .int .i64 m.sty.widows, .int .i64 m.sty.head, .int .i64 m.sty.before, .int .i64 m.sty.after, .int .i64 m.sty.inside, .int .i64 m.sty.clear, .int .i64 m.line, .int .i64 m.space, .slice A1 m.n m.c, .int .i64 m.side, .int .i64 m.w, .int .i64 m.h] 45)) (fun i _ => m.n - (intOf i).toNat)
  case atStart => exact ⟨0, by omega, rfl, fun j hj => by omega, rfl⟩
  case round =>
    obtain ⟨k, hkn, rfl, hall, rfl⟩ := hrel
    have HL := Lib.hid hall
    clear hall
    by_cases hlt : k < m.n
    · have hk2 : (k : Int) < (m.n : Int) := by omega
      obtain ⟨b1, o1, rfl, hc⟩ := HI2.out.at_ hlt
      have hlb : b1 < w.heap.size := cell_lt hc
      obtain ⟨u, hu⟩ : ∃ u, ws[k]?.getD 0 = u := ⟨_, rfl⟩
      obtain ⟨v, hv⟩ : ∃ v, fromB u 1 1099511627776 = v := ⟨_, rfl⟩
      rw [hu] at hc
      have HU := Lib.hid hu
      have HV := Lib.hid hv
      clear hu hv
      cases v with
      | false =>
        have HY := Lib.hid (any_bad (ws := ws) (k := k) (by omega) (by rw [HU.out]; exact HV.out))
        go_wp2_with (go_at_call 64; ((with_reducible refine (vfrom_to HV.out _).mono ?_)); rintro e w' ⟨rfl, rfl⟩)
        go_ret
        exact ⟨ret_bool (by rw [HB.out, HY.out]; simp), by go_grown⟩
      | true =>
        go_wp2_with (go_at_call 64; ((with_reducible refine (vfrom_to HV.out _).mono ?_)); rintro e w' ⟨rfl, rfl⟩)
        go_roundw
        case rel => exact ⟨k + 1, by omega, by go_num, fun j hj => by
          by_cases e : j = k
          · subst e; rw [HU.out]; exact HV.out
          · exact HL.out j (by omega), by first | rfl | trivial⟩
        case measure => simp [intOf]; omega
    · have hk2 : (m.n : Int) ≤ (k : Int) := by omega
      have HY := Lib.hid (all_good (ws := ws) (fun j hj => HL.out j (by omega)))
      by_cases hn : 0 < m.n
      rotate_left
      · have hn2 : (m.n : Int) ≤ 0 := by omega
        have H0 := Lib.hid (decide_eq_false hn)
        clear hn
        go_wp2_with fail
        go_ret
        exact ⟨ret_bool (by rw [HB.out, H0.out]; simp), by go_grown⟩
      have hn2 : (0 : Int) < (m.n : Int) := by omega
      have H0 := Lib.hid (decide_eq_true hn)
      clear hn
      cases vl with
      | false =>
        go_wp2_with (first | (go_at_call 64; ((with_reducible refine (vfrom_to HVL.out _).mono ?_)); rintro e w' ⟨rfl, rfl⟩) | (go_at_call 64; ((with_reducible refine (vfrom_to HVS.out _).mono ?_)); rintro e w' ⟨rfl, rfl⟩))
        go_ret
        exact ⟨ret_bool (by rw [HB.out]; simp), by go_grown⟩
      | true =>
      cases vs with
      | false =>
        go_wp2_with (first | (go_at_call 64; ((with_reducible refine (vfrom_to HVL.out _).mono ?_)); rintro e w' ⟨rfl, rfl⟩) | (go_at_call 64; ((with_reducible refine (vfrom_to HVS.out _).mono ?_)); rintro e w' ⟨rfl, rfl⟩))
        go_ret
        exact ⟨ret_bool (by rw [HB.out]; simp), by go_grown⟩
      | true =>
      by_cases h_side : m.side = 0
      rotate_left
      · have b_side : (m.side == 0) = false := by simpa using h_side
        have H_side := Lib.hid (decide_eq_false h_side)
        clear h_side
        go_wp2_with (first | (go_at_call 64; ((with_reducible refine (vfrom_to HVL.out _).mono ?_)); rintro e w' ⟨rfl, rfl⟩) | (go_at_call 64; ((with_reducible refine (vfrom_to HVS.out _).mono ?_)); rintro e w' ⟨rfl, rfl⟩))
        go_ret
        exact ⟨ret_bool (by rw [HB.out, HY.out, H0.out, H_side.out]; simp), by go_grown⟩
      have b_side : (m.side == 0) = true := by simpa using h_side
      have H_side := Lib.hid (decide_eq_true h_side)
      clear h_side
      by_cases h_w : m.w = 0
      rotate_left
      · have b_w : (m.w == 0) = false := by simpa using h_w
        have H_w := Lib.hid (decide_eq_false h_w)
        clear h_w
        go_wp2_with (first | (go_at_call 64; ((with_reducible refine (vfrom_to HVL.out _).mono ?_)); rintro e w' ⟨rfl, rfl⟩) | (go_at_call 64; ((with_reducible refine (vfrom_to HVS.out _).mono ?_)); rintro e w' ⟨rfl, rfl⟩))
        go_ret
        exact ⟨ret_bool (by rw [HB.out, HY.out, H0.out, H_side.out, H_w.out]; simp), by go_grown⟩
      have b_w : (m.w == 0) = true := by simpa using h_w
      have H_w := Lib.hid (decide_eq_true h_w)
      clear h_w
      by_cases h_h : m.h = 0
      rotate_left
      · have b_h : (m.h == 0) = false := by simpa using h_h
        have H_h := Lib.hid (decide_eq_false h_h)
        clear h_h
        go_wp2_with (first | (go_at_call 64; ((with_reducible refine (vfrom_to HVL.out _).mono ?_)); rintro e w' ⟨rfl, rfl⟩) | (go_at_call 64; ((with_reducible refine (vfrom_to HVS.out _).mono ?_)); rintro e w' ⟨rfl, rfl⟩))
        go_ret
        exact ⟨ret_bool (by rw [HB.out, HY.out, H0.out, H_side.out, H_w.out, H_h.out]; simp), by go_grown⟩
      have b_h : (m.h == 0) = true := by simpa using h_h
      have H_h := Lib.hid (decide_eq_true h_h)
      clear h_h
      go_wp2_with (first | (go_at_call 64; ((with_reducible refine (vfrom_to HVL.out _).mono ?_)); rintro e w' ⟨rfl, rfl⟩) | (go_at_call 64; ((with_reducible refine (vfrom_to HVS.out _).mono ?_)); rintro e w' ⟨rfl, rfl⟩))
      go_ret
      exact ⟨ret_bool (by rw [HB.out, HY.out, H0.out, H_side.out, H_w.out, H_h.out]; simp), by go_grown⟩
set_option maxHeartbeats 8000000 in
set_option maxRecDepth 100000 in
theorem vone_k3 (m : NdM) (ws : List Int) (w : World) (hk1 : ¬ m.kind = 1) (hk2 : ¬ m.kind = 2) (hs : styB m.sty .none = true) (hI : Ints w m.A m.n ws) : Calls Try.prog 49 #[.agg (encM m).toArray] w fun e w' => e = .returned (.bool (oneM m ws)) ∧ Below w.heap.size w w' := by
  show Calls Try.prog 49 #[.agg #[.int .i64 m.kind, .int .i64 m.size, .int .i64 m.sty.top, .int .i64 m.sty.bottom, .int .i64 m.sty.padTop, .int .i64 m.sty.padBottom, .int .i64 m.sty.inset, .int .i64 m.sty.orphans, .int .i64 m.sty.widows, .int .i64 m.sty.head, .int .i64 m.sty.before, .int .i64 m.sty.after, .int .i64 m.sty.inside, .int .i64 m.sty.clear, .int .i64 m.line, .int .i64 m.space, .slice m.A m.n m.c, .int .i64 m.side, .int .i64 m.w, .int .i64 m.h]] w fun e w' => e = .returned (.bool (oneM m ws)) ∧ Below w.heap.size w w'
  have k1 : (m.kind == 1) = false := by simpa using hk1
  have k2 : (m.kind == 2) = false := by simpa using hk2
  obtain ⟨vw, hvw⟩ : ∃ v, fromB m.w 1 1099511627776 = v := ⟨_, rfl⟩
  obtain ⟨vh, hvh⟩ : ∃ v, fromB m.h 1 1099511627776 = v := ⟨_, rfl⟩
  obtain ⟨vs, hvs⟩ : ∃ v, fromB m.side 1 2 = v := ⟨_, rfl⟩
  have HB := Lib.hid (show oneM m ws = (decide (m.line = 0) && decide (m.space = 0) && decide (m.n = 0) && vw && vh && ((decide (m.kind = 3) && decide (m.side = 0)) || (decide (m.kind = 4) && vs))) by
    unfold oneM oneB
    have hwn := (words_n hI).1
    have hM : (1099511627776 : Int) = maxN := rfl
    rw [hM] at hvw hvh
    simp only [if_neg hk1, if_neg hk2]
    rw [if_neg (show ¬ (m.sty ≠ Sty.none) by simpa using (styB_iff _ _).1 hs), ← hwn, ← hvw, ← hvh, ← hvs]
    by_cases h4 : m.line ≠ 0 ∨ m.space ≠ 0 ∨ ws ≠ [] ∨ fromB m.w 1 maxN = false ∨ fromB m.h 1 maxN = false
    · rw [if_pos h4]
      rcases h4 with h | h | h | h | h <;> simp [h]
    · rw [if_neg h4]
      rw [not_or, not_or, not_or, not_or, Decidable.not_not, Decidable.not_not, Decidable.not_not, Bool.not_eq_false, Bool.not_eq_false] at h4
      obtain ⟨a1, a2, a3, a4, a5⟩ := h4
      simp [a1, a2, a3, a4, a5])
  have HVW := Lib.hid hvw
  have HVH := Lib.hid hvh
  have HVS := Lib.hid hvs
  have HK := Lib.hid (show Blk (w.alloc (.cells #[.int .i64 m.kind, .int .i64 m.size, .int .i64 m.sty.top, .int .i64 m.sty.bottom, .int .i64 m.sty.padTop, .int .i64 m.sty.padBottom, .int .i64 m.sty.inset, .int .i64 m.sty.orphans, .int .i64 m.sty.widows, .int .i64 m.sty.head, .int .i64 m.sty.before, .int .i64 m.sty.after, .int .i64 m.sty.inside, .int .i64 m.sty.clear, .int .i64 m.line, .int .i64 m.space, .slice m.A m.n m.c, .int .i64 m.side, .int .i64 m.w, .int .i64 m.h] 45)) w.heap.size 45 [.int .i64 m.kind, .int .i64 m.size, .int .i64 m.sty.top, .int .i64 m.sty.bottom, .int .i64 m.sty.padTop, .int .i64 m.sty.padBottom, .int .i64 m.sty.inset, .int .i64 m.sty.orphans, .int .i64 m.sty.widows, .int .i64 m.sty.head, .int .i64 m.sty.before, .int .i64 m.sty.after, .int .i64 m.sty.inside, .int .i64 m.sty.clear, .int .i64 m.line, .int .i64 m.space, .slice m.A m.n m.c, .int .i64 m.side, .int .i64 m.w, .int .i64 m.h] from Blk.new w 45 [.int .i64 m.kind, .int .i64 m.size, .int .i64 m.sty.top, .int .i64 m.sty.bottom, .int .i64 m.sty.padTop, .int .i64 m.sty.padBottom, .int .i64 m.sty.inset, .int .i64 m.sty.orphans, .int .i64 m.sty.widows, .int .i64 m.sty.head, .int .i64 m.sty.before, .int .i64 m.sty.after, .int .i64 m.sty.inside, .int .i64 m.sty.clear, .int .i64 m.line, .int .i64 m.space, .slice m.A m.n m.c, .int .i64 m.side, .int .i64 m.w, .int .i64 m.h] _ rfl _ rfl)
  have HR := Lib.hid (sty_range (m := m) HK.out.box)
  have he := sty_equal0 m.sty
  clear hk1 hk2 hvw hvh hvs hI
  by_cases h_line : m.line = 0
  rotate_left
  · have b_line : (m.line != 0) = true := by simpa using h_line
    have H_line := Lib.hid (decide_eq_false h_line)
    clear h_line
    go_enter Try.func49, Try.ntmps49
    go_wp2_with (first | ((with_reducible refine stop_load 43 (.tmp 42) ?_ ?_); exact rfl; refine Stop.intro ?_; refine wpList_load_mid rfl 43 (.tmp 42) rfl w.heap.size (0 + 2) rfl (encS12 m.sty) _ HR.out Try.underlying43 rfl (by kernel_rfl) ?_) | (go_at_call 64; ((with_reducible refine (vfrom_to HVW.out _).mono ?_)); rintro e w' ⟨rfl, rfl⟩) | (go_at_call 64; ((with_reducible refine (vfrom_to HVH.out _).mono ?_)); rintro e w' ⟨rfl, rfl⟩) | (go_at_call 64; ((with_reducible refine (vfrom_to HVS.out _).mono ?_)); rintro e w' ⟨rfl, rfl⟩))
    go_ret
    exact ⟨ret_bool (by rw [HB.out, H_line.out]; simp), by go_grown⟩
  have b_line : (m.line != 0) = false := by simpa using h_line
  have H_line := Lib.hid (decide_eq_true h_line)
  clear h_line
  by_cases h_space : m.space = 0
  rotate_left
  · have b_space : (m.space != 0) = true := by simpa using h_space
    have H_space := Lib.hid (decide_eq_false h_space)
    clear h_space
    go_enter Try.func49, Try.ntmps49
    go_wp2_with (first | ((with_reducible refine stop_load 43 (.tmp 42) ?_ ?_); exact rfl; refine Stop.intro ?_; refine wpList_load_mid rfl 43 (.tmp 42) rfl w.heap.size (0 + 2) rfl (encS12 m.sty) _ HR.out Try.underlying43 rfl (by kernel_rfl) ?_) | (go_at_call 64; ((with_reducible refine (vfrom_to HVW.out _).mono ?_)); rintro e w' ⟨rfl, rfl⟩) | (go_at_call 64; ((with_reducible refine (vfrom_to HVH.out _).mono ?_)); rintro e w' ⟨rfl, rfl⟩) | (go_at_call 64; ((with_reducible refine (vfrom_to HVS.out _).mono ?_)); rintro e w' ⟨rfl, rfl⟩))
    go_ret
    exact ⟨ret_bool (by rw [HB.out, H_line.out, H_space.out]; simp), by go_grown⟩
  have b_space : (m.space != 0) = false := by simpa using h_space
  have H_space := Lib.hid (decide_eq_true h_space)
  clear h_space
  by_cases h_n : m.n = 0
  rotate_left
  · have b_n : (((m.n : Nat) : Int) != 0) = true := by simpa using h_n
    have H_n := Lib.hid (decide_eq_false h_n)
    clear h_n
    go_enter Try.func49, Try.ntmps49
    go_wp2_with (first | ((with_reducible refine stop_load 43 (.tmp 42) ?_ ?_); exact rfl; refine Stop.intro ?_; refine wpList_load_mid rfl 43 (.tmp 42) rfl w.heap.size (0 + 2) rfl (encS12 m.sty) _ HR.out Try.underlying43 rfl (by kernel_rfl) ?_) | (go_at_call 64; ((with_reducible refine (vfrom_to HVW.out _).mono ?_)); rintro e w' ⟨rfl, rfl⟩) | (go_at_call 64; ((with_reducible refine (vfrom_to HVH.out _).mono ?_)); rintro e w' ⟨rfl, rfl⟩) | (go_at_call 64; ((with_reducible refine (vfrom_to HVS.out _).mono ?_)); rintro e w' ⟨rfl, rfl⟩))
    go_ret
    exact ⟨ret_bool (by rw [HB.out, H_line.out, H_space.out, H_n.out]; simp), by go_grown⟩
  have b_n : (((m.n : Nat) : Int) != 0) = false := by simpa using h_n
  have H_n := Lib.hid (decide_eq_true h_n)
  clear h_n
  cases vw with
  | false =>
    go_enter Try.func49, Try.ntmps49
    go_wp2_with (first | ((with_reducible refine stop_load 43 (.tmp 42) ?_ ?_); exact rfl; refine Stop.intro ?_; refine wpList_load_mid rfl 43 (.tmp 42) rfl w.heap.size (0 + 2) rfl (encS12 m.sty) _ HR.out Try.underlying43 rfl (by kernel_rfl) ?_) | (go_at_call 64; ((with_reducible refine (vfrom_to HVW.out _).mono ?_)); rintro e w' ⟨rfl, rfl⟩) | (go_at_call 64; ((with_reducible refine (vfrom_to HVH.out _).mono ?_)); rintro e w' ⟨rfl, rfl⟩) | (go_at_call 64; ((with_reducible refine (vfrom_to HVS.out _).mono ?_)); rintro e w' ⟨rfl, rfl⟩))
    go_ret
    exact ⟨ret_bool (by rw [HB.out, H_line.out, H_space.out, H_n.out]; simp), by go_grown⟩
  | true =>
  cases vh with
  | false =>
    go_enter Try.func49, Try.ntmps49
    go_wp2_with (first | ((with_reducible refine stop_load 43 (.tmp 42) ?_ ?_); exact rfl; refine Stop.intro ?_; refine wpList_load_mid rfl 43 (.tmp 42) rfl w.heap.size (0 + 2) rfl (encS12 m.sty) _ HR.out Try.underlying43 rfl (by kernel_rfl) ?_) | (go_at_call 64; ((with_reducible refine (vfrom_to HVW.out _).mono ?_)); rintro e w' ⟨rfl, rfl⟩) | (go_at_call 64; ((with_reducible refine (vfrom_to HVH.out _).mono ?_)); rintro e w' ⟨rfl, rfl⟩) | (go_at_call 64; ((with_reducible refine (vfrom_to HVS.out _).mono ?_)); rintro e w' ⟨rfl, rfl⟩))
    go_ret
    exact ⟨ret_bool (by rw [HB.out, H_line.out, H_space.out, H_n.out]; simp), by go_grown⟩
  | true =>
  by_cases k3 : m.kind = 3
  · have b3 : (m.kind == 3) = true := by rw [k3]; rfl
    have b4 : (m.kind == 4) = false := by rw [k3]; rfl
    have H3 := Lib.hid k3
    clear k3
    by_cases h_side : m.side = 0
    · have b_s : (m.side == 0) = true := by simpa using h_side
      have HS := Lib.hid h_side
      clear h_side
      go_enter Try.func49, Try.ntmps49
      go_wp2_with (first | ((with_reducible refine stop_load 43 (.tmp 42) ?_ ?_); exact rfl; refine Stop.intro ?_; refine wpList_load_mid rfl 43 (.tmp 42) rfl w.heap.size (0 + 2) rfl (encS12 m.sty) _ HR.out Try.underlying43 rfl (by kernel_rfl) ?_) | (go_at_call 64; ((with_reducible refine (vfrom_to HVW.out _).mono ?_)); rintro e w' ⟨rfl, rfl⟩) | (go_at_call 64; ((with_reducible refine (vfrom_to HVH.out _).mono ?_)); rintro e w' ⟨rfl, rfl⟩) | (go_at_call 64; ((with_reducible refine (vfrom_to HVS.out _).mono ?_)); rintro e w' ⟨rfl, rfl⟩))
      go_ret
      exact ⟨ret_bool (by rw [HB.out, H_line.out, H_space.out, H_n.out]; simp [H3.out, HS.out]), by go_grown⟩
    · have b_s : (m.side == 0) = false := by simpa using h_side
      have HS := Lib.hid h_side
      clear h_side
      go_enter Try.func49, Try.ntmps49
      go_wp2_with (first | ((with_reducible refine stop_load 43 (.tmp 42) ?_ ?_); exact rfl; refine Stop.intro ?_; refine wpList_load_mid rfl 43 (.tmp 42) rfl w.heap.size (0 + 2) rfl (encS12 m.sty) _ HR.out Try.underlying43 rfl (by kernel_rfl) ?_) | (go_at_call 64; ((with_reducible refine (vfrom_to HVW.out _).mono ?_)); rintro e w' ⟨rfl, rfl⟩) | (go_at_call 64; ((with_reducible refine (vfrom_to HVH.out _).mono ?_)); rintro e w' ⟨rfl, rfl⟩) | (go_at_call 64; ((with_reducible refine (vfrom_to HVS.out _).mono ?_)); rintro e w' ⟨rfl, rfl⟩))
      go_ret
      exact ⟨ret_bool (by rw [HB.out, H_line.out, H_space.out, H_n.out]; simp [H3.out, HS.out]), by go_grown⟩
  have b3 : (m.kind == 3) = false := by simpa using k3
  have H3 := Lib.hid k3
  clear k3
  by_cases k4 : m.kind = 4
  · have b4 : (m.kind == 4) = true := by rw [k4]; rfl
    have H4 := Lib.hid k4
    clear k4
    go_enter Try.func49, Try.ntmps49
    go_wp2_with (first | ((with_reducible refine stop_load 43 (.tmp 42) ?_ ?_); exact rfl; refine Stop.intro ?_; refine wpList_load_mid rfl 43 (.tmp 42) rfl w.heap.size (0 + 2) rfl (encS12 m.sty) _ HR.out Try.underlying43 rfl (by kernel_rfl) ?_) | (go_at_call 64; ((with_reducible refine (vfrom_to HVW.out _).mono ?_)); rintro e w' ⟨rfl, rfl⟩) | (go_at_call 64; ((with_reducible refine (vfrom_to HVH.out _).mono ?_)); rintro e w' ⟨rfl, rfl⟩) | (go_at_call 64; ((with_reducible refine (vfrom_to HVS.out _).mono ?_)); rintro e w' ⟨rfl, rfl⟩))
    go_ret
    exact ⟨ret_bool (by rw [HB.out, H_line.out, H_space.out, H_n.out]; simp [H4.out]), by go_grown⟩
  · have b4 : (m.kind == 4) = false := by simpa using k4
    have H4 := Lib.hid k4
    clear k4
    go_enter Try.func49, Try.ntmps49
    go_wp2_with (first | ((with_reducible refine stop_load 43 (.tmp 42) ?_ ?_); exact rfl; refine Stop.intro ?_; refine wpList_load_mid rfl 43 (.tmp 42) rfl w.heap.size (0 + 2) rfl (encS12 m.sty) _ HR.out Try.underlying43 rfl (by kernel_rfl) ?_) | (go_at_call 64; ((with_reducible refine (vfrom_to HVW.out _).mono ?_)); rintro e w' ⟨rfl, rfl⟩) | (go_at_call 64; ((with_reducible refine (vfrom_to HVH.out _).mono ?_)); rintro e w' ⟨rfl, rfl⟩) | (go_at_call 64; ((with_reducible refine (vfrom_to HVS.out _).mono ?_)); rintro e w' ⟨rfl, rfl⟩))
    go_ret
    exact ⟨ret_bool (by rw [HB.out, H_line.out, H_space.out, H_n.out]; simp [H3.out, H4.out]), by go_grown⟩
theorem vone_any (m : NdM) (ws : List Int) (w : World) (hI : Ints w m.A m.n ws) : Calls Try.prog 49 #[.agg (encM m).toArray] w fun e w' => e = .returned (.bool (oneM m ws)) ∧ Below w.heap.size w w' := by
  by_cases k1 : m.kind = 1
  · exact vone_k1 m ws w k1 hI
  rcases hs : styB m.sty .none with _ | _
  · exact vone_sty m ws w k1 hs
  by_cases k2 : m.kind = 2
  · exact vone_k2 m ws w k2 hs hI
  · exact vone_k3 m ws w k1 k2 hs hI
theorem vone_to {m : NdM} {x : Nd} {v : Bool} (hv : oneB x = v) (w : World) (hS : Shows w m x) : Calls Try.prog 49 #[.agg (encM m).toArray] w fun e w' => e = .returned (.bool v) ∧ Below w.heap.size w w' := by
  rw [hS.one] at hv
  subst hv
  exact vone_any m x.words w hS.2
end Go.Proofs.Ytamakeogaipdiaa
