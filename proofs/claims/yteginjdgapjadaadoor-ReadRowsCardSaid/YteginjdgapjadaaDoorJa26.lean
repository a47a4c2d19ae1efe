import Derived.Test.YteginjdgapjadaaDoorJa25
/- Stage 5's laws: the chapter's examples hold, in any world. (Written by program: tools/drafts/genawake5.py.) -/
namespace Go.Proofs.YteginjdgapjadaaDoor
open Go.RowKit
set_option linter.unusedVariables false
set_option linter.unusedSimpArgs false
theorem lblock_at (size top widows before : Int) (w : World) : Calls Tryd.prog 19 #[.int .i64 size, .int .i64 top, .int .i64 widows, .int .i64 before] w fun e w' => e = .returned (.agg #[.int .i64 1, .int .i64 size, .int .i64 top, .int .i64 0, .int .i64 0, .int .i64 0, .int .i64 0, .int .i64 2, .int .i64 widows, .int .i64 0, .int .i64 before, .int .i64 0, .int .i64 0, .int .i64 0, .int .i64 0, .int .i64 0, .slice none 0 0, .int .i64 0, .int .i64 0, .int .i64 0]) ∧ Below w.heap.size w w' := lblock_any size top widows before w
theorem nds_lit (w : World) (zs : List NdM) (l : List Nd) (m : Nat) (t : TypeId) (n : Nat) (hn : n = w.heap.size) (cs : Array Value) (hcs : cs = (zs.flatMap encM).toArray) (hm : zs.length = m) (hm2 : m ≤ 1000) (hl : zs.length = l.length) (hS : ∀ (i : Nat) (mm : NdM) (x : Nd), zs[i]? = some mm → l[i]? = some x → Shows w mm x) : Sees (w.alloc (.cells cs t)) (some ⟨n, 0, none⟩) m l := by
  have hb := box_new w (zs.flatMap encM) t n hn cs hcs
  subst hm
  exact ⟨zs, rows_box encM_len hb (by omega), hl, fun i mm x h1 h2 => (hS i mm x h1 h2).below ((Below.refl _ _).alloc (Nat.le_refl _) _)⟩
theorem shows1 {w : World} {m1 : NdM} {x1 : Nd} (h1 : Shows w m1 x1) : ∀ (i : Nat) (mm : NdM) (x : Nd), [m1][i]? = some mm → [x1][i]? = some x → Shows w mm x := fun i mm x e1 e2 => by
  cases i with
  | zero => simp at e1 e2; subst e1 e2; exact h1
  | succ i => simp at e1
theorem shows2 {w : World} {m1 m2 : NdM} {x1 x2 : Nd} (h1 : Shows w m1 x1) (h2 : Shows w m2 x2) : ∀ (i : Nat) (mm : NdM) (x : Nd), [m1, m2][i]? = some mm → [x1, x2][i]? = some x → Shows w mm x := fun i mm x e1 e2 => by
  cases i with
  | zero => simp at e1 e2; subst e1 e2; exact h1
  | succ i => cases i with
    | zero => simp at e1 e2; subst e1 e2; exact h2
    | succ i => simp at e1
theorem shows_no (w : World) (m : NdM) (x : Nd) (h : x.kind = m.kind ∧ x.size = m.size ∧ x.sty = m.sty ∧ x.line = m.line ∧ x.space = m.space ∧ x.side = m.side ∧ x.w = m.w ∧ x.h = m.h) (h2 : m.n = 0) (h3 : x.words = []) : Shows w m x := ⟨h, by rw [h2, h3]; exact Ints.nil _ _⟩
set_option maxRecDepth 100000 in
set_option maxHeartbeats 4000000 in
theorem rawake_any (w : World) (hT : Tabs w) : Calls Tryd.prog 7 #[] w fun e w' => e = .returned (.bool true) ∧ Below w.heap.size w w' := by
  have C0 : Hid (evalF ⟨#[91, 109, 53, 32, 40, 49, 48, 32, 50, 32, 51, 48, 32, 52, 48, 41, 93]⟩ = some (some [⟨1, 2, ⟨5, 0, 0, 0, 0, 2, 2, 0, 0, 0, 0, 0⟩, 0, 0, [], 0, 0, 0⟩, ⟨2, 1, .none, 10, 2, [30, 40], 0, 0, 0⟩], 0)) := by show evalF ⟨#[91, 109, 53, 32, 40, 49, 48, 32, 50, 32, 51, 48, 32, 52, 48, 41, 93]⟩ = _; decide +kernel
  have C1 : Hid (evalF ⟨#[123, 51, 32, 52, 125, 60, 76, 32, 53, 32, 54, 62]⟩ = some (some [⟨3, 1, .none, 0, 0, [], 0, 3, 4⟩, ⟨4, 1, .none, 0, 0, [], 1, 5, 6⟩], 0)) := by show evalF ⟨#[123, 51, 32, 52, 125, 60, 76, 32, 53, 32, 54, 62]⟩ = _; decide +kernel
  have C2 : Hid (evalF ⟨#[91, 93]⟩ = some (some [⟨1, 1, ⟨0, 0, 0, 0, 0, 2, 2, 0, 0, 0, 0, 0⟩, 0, 0, [], 0, 0, 0⟩], 0)) := by show evalF ⟨#[91, 93]⟩ = _; decide +kernel
  have C3 : Hid (evalF ⟨#[91, 119, 49, 66, 52, 93]⟩ = some (some [⟨1, 1, ⟨0, 0, 0, 0, 0, 2, 1, 0, 4, 0, 0, 0⟩, 0, 0, [], 0, 0, 0⟩], 0)) := by show evalF ⟨#[91, 119, 49, 66, 52, 93]⟩ = _; decide +kernel
  have W0 : Hid (evalF ⟨#[93]⟩ = some (none, 0)) := by show evalF ⟨#[93]⟩ = _; decide +kernel
  have W1 : Hid (evalF ⟨#[91]⟩ = some (none, 1)) := by show evalF ⟨#[91]⟩ = _; decide +kernel
  have W2 : Hid (evalF ⟨#[40, 49, 32, 49, 41]⟩ = some (none, 4)) := by show evalF ⟨#[40, 49, 32, 49, 41]⟩ = _; decide +kernel
  have W3 : Hid (evalF ⟨#[91, 109, 49, 109, 50, 93]⟩ = some (none, 3)) := by show evalF ⟨#[91, 109, 49, 109, 50, 93]⟩ = _; decide +kernel
  have hB := Below.refl w.heap.size w
  go_enter Tryd.func7, Tryd.ntmps7
  go_wp2_with (go_at_call 19; (with_reducible refine (lblock_at _ _ _ _ _).mono ?_); rintro e w1 ⟨rfl, hb⟩; replace hB := below_then (show Below w.heap.size w _ by go_grown) hb; clear hb; have hBs := hB.size)
  refine (is_to (evalF_ok C0.out) _ (hT.below (show Below w.heap.size w _ by go_grown)) (by decide) (nds_lit _ [⟨1, 2, ⟨5, 0, 0, 0, 0, 2, 2, 0, 0, 0, 0, 0⟩, 0, 0, none, 0, 0, 0, 0, 0⟩, ⟨2, 1, .none, 10, 2, some ⟨w1.heap.size, 0, none⟩, 2, 2, 0, 0, 0⟩] _ _ _ _ (by simp) _ (by rfl) rfl (by simp) rfl (shows2 (shows_no _ _ _ (by simp) rfl rfl) ⟨by simp, Ints.new2' _ _ _ _ _ rfl⟩))).mono ?_
  rintro e w1 ⟨rfl, hb⟩
  replace hB := below_then (show Below w.heap.size w _ by go_grown) hb
  clear hb
  have hBs := hB.size
  go_wp2_with (go_at_call 19; (with_reducible refine (lblock_at _ _ _ _ _).mono ?_); rintro e w1 ⟨rfl, hb⟩; replace hB := below_then (show Below w.heap.size w _ by go_grown) hb; clear hb; have hBs := hB.size)
  refine (is_to (evalF_ok C1.out) _ (hT.below (show Below w.heap.size w _ by go_grown)) (by decide) (nds_lit _ [⟨3, 1, .none, 0, 0, none, 0, 0, 0, 3, 4⟩, ⟨4, 1, .none, 0, 0, none, 0, 0, 1, 5, 6⟩] _ _ _ _ (by simp) _ (by rfl) rfl (by simp) rfl (shows2 (shows_no _ _ _ (by simp) rfl rfl) (shows_no _ _ _ (by simp) rfl rfl)))).mono ?_
  rintro e w1 ⟨rfl, hb⟩
  replace hB := below_then (show Below w.heap.size w _ by go_grown) hb
  clear hb
  have hBs := hB.size
  go_wp2_with (go_at_call 19; (with_reducible refine (lblock_at _ _ _ _ _).mono ?_); rintro e w1 ⟨rfl, hb⟩; replace hB := below_then (show Below w.heap.size w _ by go_grown) hb; clear hb; have hBs := hB.size)
  refine (is_to (evalF_ok C2.out) _ (hT.below (show Below w.heap.size w _ by go_grown)) (by decide) (nds_lit _ [⟨1, 1, ⟨0, 0, 0, 0, 0, 2, 2, 0, 0, 0, 0, 0⟩, 0, 0, none, 0, 0, 0, 0, 0⟩] _ _ _ _ (by simp) _ (by rfl) rfl (by simp) rfl (shows1 (shows_no _ _ _ (by simp) rfl rfl)))).mono ?_
  rintro e w1 ⟨rfl, hb⟩
  replace hB := below_then (show Below w.heap.size w _ by go_grown) hb
  clear hb
  have hBs := hB.size
  go_wp2_with (go_at_call 19; (with_reducible refine (lblock_at _ _ _ _ _).mono ?_); rintro e w1 ⟨rfl, hb⟩; replace hB := below_then (show Below w.heap.size w _ by go_grown) hb; clear hb; have hBs := hB.size)
  refine (is_to (evalF_ok C3.out) _ (hT.below (show Below w.heap.size w _ by go_grown)) (by decide) (nds_lit _ [⟨1, 1, ⟨0, 0, 0, 0, 0, 2, 1, 0, 4, 0, 0, 0⟩, 0, 0, none, 0, 0, 0, 0, 0⟩] _ _ _ _ (by simp) _ (by rfl) rfl (by simp) rfl (shows1 (shows_no _ _ _ (by simp) rfl rfl)))).mono ?_
  rintro e w1 ⟨rfl, hb⟩
  replace hB := below_then (show Below w.heap.size w _ by go_grown) hb
  clear hb
  have hBs := hB.size
  go_wp2_with fail
  refine (wrong_at (evalF_ok W0.out) (by rfl) _ (hT.below (show Below w.heap.size w _ by go_grown)) (by decide)).mono ?_
  rintro e w1 ⟨rfl, hb⟩
  replace hB := below_then (show Below w.heap.size w _ by go_grown) hb
  clear hb
  have hBs := hB.size
  go_wp2_with fail
  refine (wrong_at (evalF_ok W1.out) (by rfl) _ (hT.below (show Below w.heap.size w _ by go_grown)) (by decide)).mono ?_
  rintro e w1 ⟨rfl, hb⟩
  replace hB := below_then (show Below w.heap.size w _ by go_grown) hb
  clear hb
  have hBs := hB.size
  go_wp2_with fail
  refine (wrong_at (evalF_ok W2.out) (by rfl) _ (hT.below (show Below w.heap.size w _ by go_grown)) (by decide)).mono ?_
  rintro e w1 ⟨rfl, hb⟩
  replace hB := below_then (show Below w.heap.size w _ by go_grown) hb
  clear hb
  have hBs := hB.size
  go_wp2_with fail
  refine (wrong_at (evalF_ok W3.out) (by rfl) _ (hT.below (show Below w.heap.size w _ by go_grown)) (by decide)).mono ?_
  rintro e w1 ⟨rfl, hb⟩
  replace hB := below_then (show Below w.heap.size w _ by go_grown) hb
  clear hb
  have hBs := hB.size
  go_wp2_with fail
  go_ret
  exact ⟨rfl, hB⟩
end Go.Proofs.YteginjdgapjadaaDoor
