import Derived.Test.YtideikbijjheeaaPlaceTop
/- What package place is asked to say, the program says. -/
namespace Go.Proofs.Ytideikbijjheeaa
open Go.RowKit
set_option linter.unusedVariables false
set_option linter.unusedSimpArgs false
theorem owns_mono11 {w : World} {base b2 : Nat} {e : TypeId} {size : Nat} {v : Value} {n : Nat} {xs : List Value} (h : w.ownsRow base e size v n xs) (hb : b2 ≤ base) : w.ownsRow b2 e size v n xs := by
  refine ⟨h.1, ?_⟩
  rcases h.2 with h2 | ⟨g, cap, cur, h1, h2, h3⟩
  · exact .inl h2
  · exact .inr ⟨g, cap, cur, h1, by omega, h3⟩
set_option maxHeartbeats 16000000 in
set_option maxRecDepth 100000 in
theorem put11_to {l : List Fl} {f0 f1 f2 f3 f4 f5 f6 y a b x t : Int} {A : Option Addr} {n c : Nat} {w : World} (hx : spotX l ⟨f0, f1, f2, f3, f4, f5, f6⟩ y a b = x) (ht : spotY l ⟨f0, f1, f2, f3, f4, f5, f6⟩ y a b = t) (hn : ∀ g ∈ l, g.near) (hf : (⟨f0, f1, f2, f3, f4, f5, f6⟩ : Fl).near) (hy : NearI y) (ha : NearI a) (hb : NearI b) (hn2 : n ≤ 1000) (h : Rows 7 encFl w A n l) :
    Calls Try.prog 8 #[.slice A n c, .agg #[.int .i64 f0, .int .i64 f1, .int .i64 f2, .int .i64 f3, .int .i64 f4, .int .i64 f5, .int .i64 f6], .int .i64 y, .agg #[.int .i64 a, .int .i64 b]] w (FlsOwn w (l ++ [⟨f0, f1, f2, x, t, f5, f6⟩])) := by
  have HL := Lib.hid h.1
  obtain ⟨i0, hi0, hz0, hz1, hz2⟩ := info_parts fl_info'
  obtain ⟨W, hW⟩ : ∃ W, (w.alloc (.cells #[.int .i64 f0, .int .i64 f1, .int .i64 f2, .int .i64 f3, .int .i64 f4, .int .i64 f5, .int .i64 f6] 24)).alloc (.cells #[.int .i64 a, .int .i64 b] 26) = W := ⟨_, rfl⟩
  have hB : Below w.heap.size w W := by rw [← hW]; go_grown
  have HB := Lib.hid hB
  have HC := Lib.hid (fun (v : World) (hv : On W v) => placed11_to (c := c) hx ht hn hf hy ha hb (h.below (below_then hB hv)))
  have HK := Lib.hid (show ∀ v : World, On W v → Calls Try.prog 17 #[.slice A n c] v fun e w' => ∃ A' c', e = .returned (.slice A' n c') ∧ w'.ownsRow W.heap.size 24 7 (.slice A' n c') n (l.flatMap encFl) ∧ Below v.heap.size v w' from
    fun v hv => (clone11_to (c := c) (h.below (below_then hB hv)) hn2).mono (by rintro e w2 ⟨A2, c2, rfl, ho, hb⟩; exact ⟨A2, c2, rfl, owns_mono11 ho (Below.size hv), hb⟩))
  have HD := Lib.hid (show Box W w.heap.size (encFl ⟨f0, f1, f2, f3, f4, f5, f6⟩) by rw [← hW]; exact (box7 w ⟨f0, f1, f2, f3, f4, f5, f6⟩ _).alloc _)
  have hI : Box W (w.heap.size + 1) [.int .i64 a, .int .i64 b] := by rw [← hW]; exact Box.new2' _ _ _ _ _ (by simp)
  have HW := Lib.hid hW
  obtain ⟨⟨p0, p1, p2, p3, p4, p5, p6⟩, hBl2⟩ := HD.out.of7
  simp only at p0 p1 p2 p3 p4 p5 p6
  have k0 := On.cell p0
  have k1 := On.cell p1
  have k2 := On.cell p2
  have k3 := On.cell p3
  have k4 := On.cell p4
  have k5 := On.cell p5
  have k6 := On.cell p6
  obtain ⟨j0, j1⟩ := On.of2 hI
  clear hx ht hn hf hy ha hb h hW hI p0 p1 p2 p3 p4 p5 p6 hBl2 hB
  go_enter Try.func8, Try.ntmps8
  go_wp2_with fail
  rw [HW.out]
  go_region_held3 (fun W' => On W W') (first | exact (On.refl _).drew | exact hO4 | exact On.step (by assumption) hb | exact On.alloc (by assumption) _) (first
    | (go_at_call 17; ((with_reducible refine (HK.out _ (by assumption)).mono ?_); rintro e w2 ⟨A2, c2, rfl, hown2, hb⟩; have HO2 := Lib.hid hown2; clear hown2))
    | (go_at_call 12; ((with_reducible refine (HC.out _ (by assumption)).mono ?_); rintro e w3 ⟨rfl, hb⟩; have HO3 := Lib.hid (owns_below HO2.out hb)))
    | (refine step_append_cells _ (by rfl) (.tmp 10) (.tmp 16) _ (by rfl) W.heap.size 24 i0 (.agg #[.int .i64 0, .int .i64 0, .int .i64 0, .int .i64 0, .int .i64 0, .int .i64 0, .int .i64 0]) 7 56 Try.underlying22 hi0 hz0 hz1 hz2 rfl (by decide) _ n _ (by rfl) (owns_below HO3.out ((Below.refl _ _).alloc (Nat.le_refl _) _)) _ 1 1 _ (by rfl) (cells7 _ ⟨f0, f1, f2, x, t, f5, f6⟩ _) (encFl_one ⟨f0, f1, f2, x, t, f5, f6⟩) (by unfold maxLen; omega) (by omega) (Below.size (by assumption)) ?_; intro A4 c4 w4 hown4 hg4; have hO4 : On W w4 := Below.grown (by assumption) hg4 (Below.size (by assumption)) (fun r e => owns_block HO3.out r e)))
  go_wp2_with fail
  go_ret
  refine ⟨A4, n + 1, c4, rfl, by rw [List.length_append, HL.out]; rfl, ?_, below_then HB.out hO4⟩
  have e : (l ++ [(⟨f0, f1, f2, x, t, f5, f6⟩ : Fl)]).flatMap encFl = l.flatMap encFl ++ encFl ⟨f0, f1, f2, x, t, f5, f6⟩ := by simp [List.flatMap_append]
  rw [e]
  exact owns_mono11 hown4 HB.out.size
theorem placeSays : PlaceSays where
  spot := fun hx ht hn hf hy ha hb _ h => spot11_to hx ht hn hf hy ha hb h
  put := fun hx ht hn hf hy ha hb hn2 h => put11_to hx ht hn hf hy ha hb hn2 h
end Go.Proofs.Ytideikbijjheeaa
