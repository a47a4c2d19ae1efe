import Derived.Test.YtkbpiekmphcdnaaRectSlicesW1
import Derived.Test.YtkbpiekmphcdnaaRectDiv
/- The walk of the law RectSlices. -/
namespace Go.Proofs.Ytkbpiekmphcdnaa
open Go.RowKit
set_option linter.unusedVariables false
set_option linter.unusedSimpArgs false
theorem less_one {h high : Int} (h1 : 0 ≤ h) (h2 : 1 ≤ high) (h3 : 40000 ≤ h / high) : 32768 ≤ (h - 1) / high ∧ (h - 1) / high ≤ h := by
  have h4 := Int.ediv_le_self high h1
  obtain ⟨d1, d2⟩ := count_doc (show 1 ≤ h by omega) h2
  have g := Int.ediv_le_self high (show 0 ≤ h - 1 by omega)
  by_cases c : h / high * high < h
  · have := d1 c; omega
  · have := d2 c; omega
theorem less_two {h high : Int} (h1 : 1 ≤ h) (h2 : 1 ≤ high) (h3 : h / high ≤ 2000) : (0 ≤ (h - 1) / high ∧ (h - 1) / high ≤ 2000) := by
  obtain ⟨d1, d2⟩ := count_doc h1 h2
  have g := Int.ediv_nonneg (show 0 ≤ h - 1 by omega) (show 0 ≤ high by omega)
  by_cases c : h / high * high < h
  · have := d1 c; omega
  · have := d2 c; omega
theorem slices_case (x y w h high : Int) (hf : ¬ (288230376151711744 < x ∨ 288230376151711744 < y ∨ 288230376151711744 < w ∨ 288230376151711744 < h ∨ 288230376151711744 < high)) :
    (0 < high ∧ 0 ≤ h ∧ (0 ≤ h / high ∧ h / high ≤ h) ∧ 2000 < h / high ∧ h / high < 40000) ∨
    (slicesR ⟨x, y, w, h⟩ high = [] ∧
      ((high ≤ 0 ∧ w < 1) ∨ (high ≤ 0 ∧ 1 ≤ w ∧ h < 1) ∨ (high ≤ 0 ∧ 1 ≤ w ∧ 1 ≤ h) ∨
      ((0 < high ∧ h < 0 ∧ (h ≤ h.tdiv high ∧ h.tdiv high ≤ 0)) ∧ w < 1) ∨ ((0 < high ∧ h < 0 ∧ (h ≤ h.tdiv high ∧ h.tdiv high ≤ 0)) ∧ 1 ≤ w) ∨
      ((0 < high ∧ 0 ≤ h ∧ (0 ≤ h / high ∧ h / high ≤ h) ∧ h / high ≤ 2000) ∧ w < 1) ∨ ((0 < high ∧ 0 ≤ h ∧ (0 ≤ h / high ∧ h / high ≤ h) ∧ h / high ≤ 2000) ∧ 1 ≤ w ∧ h < 1) ∨
      ((0 < high ∧ 0 ≤ h ∧ (0 ≤ h / high ∧ h / high ≤ h) ∧ 40000 ≤ h / high) ∧ w < 1) ∨ ((0 < high ∧ 1 ≤ h ∧ (0 ≤ h / high ∧ h / high ≤ h) ∧ 40000 ≤ h / high) ∧ 1 ≤ w ∧ 32768 ≤ (h - 1) / high ∧ (h - 1) / high ≤ h))) ∨
    ((0 < high ∧ 1 ≤ h ∧ (0 ≤ h / high ∧ h / high ≤ h) ∧ h / high ≤ 2000) ∧ 1 ≤ w ∧ 0 ≤ (h - 1) / high ∧ (h - 1) / high ≤ 2000) := by
  have nn : w < 1 ∨ h < 1 → slicesR ⟨x, y, w, h⟩ high = [] := fun k => slices_none (countS_zero (.inl k))
  by_cases c1 : high ≤ 0
  · by_cases c2 : w < 1
    · exact .inr (.inl ⟨nn (.inl c2), .inl ⟨c1, c2⟩⟩)
    by_cases c3 : h < 1
    · exact .inr (.inl ⟨nn (.inr c3), .inr (.inl ⟨c1, by omega, c3⟩)⟩)
    exact .inr (.inl ⟨slices_none (countS_zero (.inr (by omega))), .inr (.inr (.inl ⟨c1, by omega, by omega⟩))⟩)
  by_cases c2 : h < 0
  · have g := tdiv_low c2 (show 0 < high by omega)
    by_cases c3 : w < 1
    · exact .inr (.inl ⟨nn (.inl c3), .inr (.inr (.inr (.inl ⟨⟨by omega, c2, g⟩, c3⟩)))⟩)
    exact .inr (.inl ⟨nn (.inr (by omega)), .inr (.inr (.inr (.inr (.inl ⟨⟨by omega, c2, g⟩, by omega⟩))))⟩)
  have g : 0 ≤ h / high ∧ h / high ≤ h := ⟨Int.ediv_nonneg (by omega) (by omega), Int.ediv_le_self high (by omega)⟩
  by_cases c3 : h / high ≤ 2000
  · by_cases c4 : w < 1
    · exact .inr (.inl ⟨nn (.inl c4), .inr (.inr (.inr (.inr (.inr (.inl ⟨⟨by omega, by omega, g, c3⟩, c4⟩)))))⟩)
    by_cases c5 : h < 1
    · exact .inr (.inl ⟨nn (.inr c5), .inr (.inr (.inr (.inr (.inr (.inr (.inl ⟨⟨by omega, by omega, g, c3⟩, by omega, c5⟩))))))⟩)
    exact .inr (.inr ⟨⟨by omega, by omega, g, c3⟩, by omega, less_two (by omega) (by omega) c3⟩)
  by_cases c4 : 40000 ≤ h / high
  · by_cases c5 : w < 1
    · exact .inr (.inl ⟨nn (.inl c5), .inr (.inr (.inr (.inr (.inr (.inr (.inr (.inl ⟨⟨by omega, by omega, g, c4⟩, c5⟩)))))))⟩)
    have k := less_one (show 0 ≤ h by omega) (show 1 ≤ high by omega) c4
    exact .inr (.inl ⟨slices_none (countS_far (by show 32768 < (h - 1) / high + 1; omega)), .inr (.inr (.inr (.inr (.inr (.inr (.inr (.inr ⟨⟨by omega, by omega, g, c4⟩, by omega, k⟩)))))))⟩)
  exact .inl ⟨by omega, by omega, g, by omega, by omega⟩
set_option maxRecDepth 100000 in
set_option maxHeartbeats 4000000 in
theorem rectslices_law (x : Int) (_ : -9223372036854775808 ≤ x ∧ x ≤ 9223372036854775807) (y : Int) (_ : -9223372036854775808 ≤ y ∧ y ≤ 9223372036854775807) (w : Int) (_ : -9223372036854775808 ≤ w ∧ w ≤ 9223372036854775807) (h : Int) (_ : -9223372036854775808 ≤ h ∧ h ≤ 9223372036854775807) (high : Int) (hhb : -9223372036854775808 ≤ high ∧ high ≤ 9223372036854775807)
    (px : Int) (_ : -9223372036854775808 ≤ px ∧ px ≤ 9223372036854775807) (py : Int) (_ : -9223372036854775808 ≤ py ∧ py ≤ 9223372036854775807) (w0 : World) :
    Calls Try.prog 8 #[.agg #[.int .i64 x, .int .i64 y, .int .i64 w, .int .i64 h], .int .i64 high, .int .i64 px, .int .i64 py] w0 fun e w' => e = .returned (.bool true) ∧ Below w0.heap.size w0 w' := by
  obtain ⟨M, hmx, hM1, hM2⟩ := max5 (P := Try.prog) x y w h high
  obtain ⟨m, hmn, hm1, hm2⟩ := min4 (P := Try.prog) x y w h
  have HM1 := Lib.hid hM1
  have HM2 := Lib.hid hM2
  have Hm1 := Lib.hid hm1
  have Hm2 := Lib.hid hm2
  clear hM1 hM2 hm1 hm2
  by_cases hf : 288230376151711744 < x ∨ 288230376151711744 < y ∨ 288230376151711744 < w ∨ 288230376151711744 < h ∨ 288230376151711744 < high
  · have hM := HM1.out hf
    clear hf
    go_enter Try.func8, Try.ntmps8
    go_wp2_with (go_at_call 26; refine (rawake_any _).mono ?_; rintro e w' ⟨rfl, hbw⟩)
    go_ret
    exact ⟨rfl, below_then (by go_grown) hbw⟩
  have hM := HM2.out hf
  by_cases hf2 : x < -288230376151711744 ∨ y < -288230376151711744 ∨ w < -288230376151711744 ∨ h < -288230376151711744
  · have hm := Hm1.out hf2
    clear hf hf2
    go_enter Try.func8, Try.ntmps8
    go_wp2_with (go_at_call 26; refine (rawake_any _).mono ?_; rintro e w' ⟨rfl, hbw⟩)
    go_ret
    exact ⟨rfl, below_then (by go_grown) hbw⟩
  have hm := Hm2.out hf2
  have hcase := slices_case x y w h high hf
  have x1 : x ≤ 288230376151711744 := by omega
  have y1 : y ≤ 288230376151711744 := by omega
  have w1 : w ≤ 288230376151711744 := by omega
  have h1 : h ≤ 288230376151711744 := by omega
  have hi1 : high ≤ 288230376151711744 := by omega
  have x2 : -288230376151711744 ≤ x := by omega
  have y2 : -288230376151711744 ≤ y := by omega
  have w2 : -288230376151711744 ≤ w := by omega
  have h2 : -288230376151711744 ≤ h := by omega
  have HN : Hid (NearR ⟨x, y, w, h⟩) := Lib.hid (show NearR ⟨x, y, w, h⟩ by unfold NearR Near60; simp only; omega)
  clear hf hf2
  rcases hcase with ⟨hc, hc1, ⟨g1, g2⟩, hc2, hc3⟩ | ⟨hE, hcase⟩ | ⟨⟨hc, hc1, ⟨g1, g2⟩, hc2⟩, hc3, hc4, hc5⟩
  · go_enter Try.func8, Try.ntmps8
    go_wp2_with (go_at_call 26; refine (rawake_any _).mono ?_; rintro e w' ⟨rfl, hbw⟩)
    go_ret
    exact ⟨rfl, below_then (by go_grown) hbw⟩
  · have HE := Lib.hid hE
    clear hE
    rcases hcase with ⟨c1, c2⟩ | ⟨c1, c2, c3⟩ | ⟨c1, c2, c3⟩ | ⟨⟨c1, c2, c3, c4⟩, c5⟩ | ⟨⟨c1, c2, c3, c4⟩, c5⟩ | ⟨⟨c1, c2, ⟨c3, c4⟩, c5⟩, c6⟩ | ⟨⟨c1, c2, ⟨c3, c4⟩, c5⟩, c6, c7⟩ | ⟨⟨c1, c2, ⟨c3, c4⟩, c5⟩, c6⟩ | ⟨⟨c1, c2, ⟨c3, c4⟩, c5⟩, c6, c7, c8⟩
    all_goals
      go_enter Try.func8, Try.ntmps8
      go_wp2_with fail
      refine (rectslices_any _ _ _ _ _ HN.out hhb _).mono ?_
      rintro e W ⟨A2, n2, k2, rfl, hR, hb⟩
      have hA := (Box.new4 w0 (.int .i64 x) (.int .i64 y) (.int .i64 w) (.int .i64 h) 41).below hb
      have HB := Lib.hid (below_then (by go_grown) hb : Below w0.heap.size w0 W)
      rw [HE.out] at hR
      obtain rfl : n2 = 0 := hR.len.symm
      clear hb hR
      obtain ⟨⟨a0, a1, a2, a3⟩, ⟨f0, f1, f2, f3⟩, a5⟩ := hA.of4
      go_wp2_with (go_at_call 26; refine (rawake_any _).mono ?_; rintro e w' ⟨rfl, hbw⟩)
      go_ret
      exact ⟨rfl, below_then HB.out hbw⟩
  · exact rectslices_main x y w h high px py w0 hhb ⟨x1, y1, w1, h1, hi1⟩ ⟨x2, y2, w2, h2⟩ hc hc1 g1 g2 hc2 hc3 hc4 hc5 M m hmx hmn hM hm
end Go.Proofs.Ytkbpiekmphcdnaa
