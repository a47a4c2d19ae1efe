import Derived.Test.YtipmdhfinlkceaaJW16
import Derived.Test.YtipmdhfinlkceaaJW24
import Derived.Test.YtipmdhfinlkceaaJW26
import Derived.Test.YtipmdhfinlkceaaJW09
/- AtomsAwake. -/
set_option linter.unusedVariables false
set_option linter.unusedSimpArgs false
namespace Go.Proofs.Ytipmdhfinlkceaa
open Go.RowKit
theorem rise14A : Rising ams14A := by
  intro i j x y hij hx hy
  have hj : j < 3 := (List.getElem?_eq_some_iff.1 hy).1
  rcases (show j = 0 ∨ j = 1 ∨ j = 2 by omega) with rfl | rfl | rfl
  · obtain rfl : i = 0 := by omega
    rw [hx] at hy; injection hy with hy; subst hy; exact Int.le_refl _
  · rcases (show i = 0 ∨ i = 1 by omega) with rfl | rfl <;> (simp [ams14A] at hx hy; subst hx hy; decide)
  · rcases (show i = 0 ∨ i = 1 ∨ i = 2 by omega) with rfl | rfl | rfl <;> (simp [ams14A] at hx hy; subst hx hy; decide)
theorem near14A : ∀ x ∈ ams14A, x.near := by
  intro x hx
  simp [ams14A] at hx
  rcases hx with rfl | rfl | rfl <;> (unfold Am.near; decide)
theorem nest14A : Nested doc14A := ((docB_iff doc14A).1 (by kernel_rfl)).2.nested
theorem words14A : ∀ y ∈ doc14A, y.words.length ≤ 60 := by decide
set_option maxHeartbeats 8000000 in
set_option maxRecDepth 100000 in
theorem awake15_any (w : World) : Calls Try.prog 7 #[] w fun e w' => e = .returned (.bool true) ∧ Below w.heap.size w w' := by
  go_enter Try.func7, Try.ntmps7
  go_wp2_with fail
  refine (rof_ok (evalF_ok eval14A) _ (by decide)).mono ?_
  rintro e w0 ⟨A, n, c, rfl, hN, hb⟩
  have HN := Lib.hid hN.sees
  have HO := Lib.hid (show On w w0 from hb)
  have hn : n ≤ 4 := by rw [← hN.sees.len]; exact Nat.le_refl _
  clear hN hb
  go_wp2_with fail
  refine (rof14_to (wd := 100) (by omega) words14A HN.out).mono ?_
  rintro e w1 ⟨A1, n1, c1, A2, n2, c2, rfl, hr1, hr2, hb, _, _⟩
  rw [gal14A] at hr1
  rw [gal14A]
  have HN1 := Lib.hid (HN.out.on hb)
  have HR1 := Lib.hid (show Rows 8 encAm w1 A1 n1 ams14A from hr1)
  have HO1 := Lib.hid (HO.out.step hb)
  clear hr1 hr2 hb HN HO
  have hn1 : n1 ≤ 3 := by rw [← HR1.out.len]; exact Nat.le_refl _
  go_wp2_with fail
  generalize hZ : World.alloc w1 _ = Z
  have HX := Lib.hid (show ∀ W, On Z W → W.cell? ⟨w1.heap.size, 0, none⟩ = some (.slice A1 n1 c1) from On.cell (by rw [← hZ]; exact (Box.new w1 [.slice A1 n1 c1, .slice A2 n2 c2, .int .i64 40] _).2.2 0 _ rfl))
  have hal : On w1 Z := by rw [← hZ]; exact On.alloc (On.refl w1) _
  have HNZ := Lib.hid (HN1.out.on hal)
  have HRZ := Lib.hid (HR1.out.on hal)
  have HOZ := Lib.hid (HO1.out.step hal)
  have HOn := Lib.hid (On.refl Z)
  clear hZ hal HN1 HR1 HO1
  refine (awithin_to (l := ams14A) (a := 0) (c := c1) rise14A nest14A (show wthI doc14A ams14A 0 = (0, 2) by decide) (HNZ.out.on HOn.out) (HRZ.out.on HOn.out) (by omega) (by omega)).mono ?_
  rintro e w2 ⟨rfl, hb⟩
  have HOn2 := Lib.hid (HOn.out.step hb)
  clear hb HOn
  have x0 := HX.out w2 HOn2.out
  go_wp2_with fail
  clear x0
  refine (awithin_to (l := ams14A) (a := 2) (c := c1) rise14A nest14A (show wthI doc14A ams14A 2 = (2, 3) by decide) (HNZ.out.on HOn2.out) (HRZ.out.on HOn2.out) (by omega) (by omega)).mono ?_
  rintro e w3 ⟨rfl, hb⟩
  have HOn3 := Lib.hid (HOn2.out.step hb)
  clear hb HOn2
  have x0 := HX.out w3 HOn3.out
  go_wp2_with fail
  clear x0
  refine (awithin_to (l := ams14A) (a := 4) (c := c1) rise14A nest14A (show wthI doc14A ams14A 4 = (0, 0) by decide) (HNZ.out.on HOn3.out) (HRZ.out.on HOn3.out) (by omega) (by omega)).mono ?_
  rintro e w4 ⟨rfl, hb⟩
  have HOn4 := Lib.hid (HOn3.out.step hb)
  clear hb HOn3
  have x0 := HX.out w4 HOn4.out
  go_wp2_with fail
  clear x0
  refine (abot_to (c := c1) (k := 1) (show botI ams14A 1 = 25 by decide) near14A (HRZ.out.on HOn4.out)).mono ?_
  rintro e w5 ⟨rfl, hb⟩
  have HOn5 := Lib.hid (HOn4.out.step hb)
  clear hb HOn4
  have x0 := HX.out w5 HOn5.out
  go_wp2_with fail
  clear x0
  refine (agap_to (c := c1) (k := 0) (show gapI ams14A 0 = 5 by decide) near14A (HRZ.out.on HOn5.out)).mono ?_
  rintro e w6 ⟨rfl, hb⟩
  have HOn6 := Lib.hid (HOn5.out.step hb)
  clear hb HOn5
  have x0 := HX.out w6 HOn6.out
  go_wp2_with fail
  clear x0
  refine (agap_to (c := c1) (k := 1) (show gapI ams14A 1 = 0 by decide) near14A (HRZ.out.on HOn6.out)).mono ?_
  rintro e w7 ⟨rfl, hb⟩
  have HOn7 := Lib.hid (HOn6.out.step hb)
  clear hb HOn6
  have x0 := HX.out w7 HOn7.out
  go_wp2_with fail
  clear x0
  refine (agap_to (c := c1) (k := 2) (show gapI ams14A 2 = 7 by decide) near14A (HRZ.out.on HOn7.out)).mono ?_
  rintro e w8 ⟨rfl, hb⟩
  have HOn8 := Lib.hid (HOn7.out.step hb)
  clear hb HOn7
  have x0 := HX.out w8 HOn8.out
  go_wp2_with fail
  clear x0
  refine (aoff_to (c := c1) (i := 0) (k := 2) (show offI ams14A 0 2 = 27 by decide) near14A (HRZ.out.on HOn8.out)).mono ?_
  rintro e w9 ⟨rfl, hb⟩
  have HOn9 := Lib.hid (HOn8.out.step hb)
  clear hb HOn8
  have x0 := HX.out w9 HOn9.out
  go_wp2_with fail
  clear x0
  refine (ahigh_to (c := c1) (i := 0) (k := 2) (show highI ams14A 0 2 = 20 by decide) near14A (by decide) (HRZ.out.on HOn9.out)).mono ?_
  rintro e w10 ⟨rfl, hb⟩
  have HOn10 := Lib.hid (HOn9.out.step hb)
  clear hb HOn9
  have x0 := HX.out w10 HOn10.out
  go_wp2_with fail
  clear x0
  refine (ahigh_to (c := c1) (i := 1) (k := 3) (show highI ams14A 1 3 = 25 by decide) near14A (by decide) (HRZ.out.on HOn10.out)).mono ?_
  rintro e w11 ⟨rfl, hb⟩
  have HOn11 := Lib.hid (HOn10.out.step hb)
  clear hb HOn10
  have x0 := HX.out w11 HOn11.out
  go_wp2_with fail
  clear x0
  go_ret
  exact ⟨rfl, HOZ.out.step HOn11.out⟩
end Go.Proofs.Ytipmdhfinlkceaa
