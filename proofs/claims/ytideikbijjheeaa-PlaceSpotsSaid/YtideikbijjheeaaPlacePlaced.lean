import Derived.Test.YtideikbijjheeaaPlaceStand
import Derived.Test.YtideikbijjheeaaPlaceDown
/- The program's function of package place that places a float. -/
namespace Go.Proofs.Ytideikbijjheeaa
open Go.RowKit
set_option linter.unusedVariables false
set_option linter.unusedSimpArgs false
set_option maxHeartbeats 8000000 in
theorem placed11_to {l : List Fl} {f0 f1 f2 f3 f4 f5 f6 y a b x t : Int} {A : Option Addr} {n c : Nat} {w : World} (hx : spotX l ⟨f0, f1, f2, f3, f4, f5, f6⟩ y a b = x) (ht : spotY l ⟨f0, f1, f2, f3, f4, f5, f6⟩ y a b = t) (hn : ∀ g ∈ l, g.near) (hf : (⟨f0, f1, f2, f3, f4, f5, f6⟩ : Fl).near) (hy : NearI y) (ha : NearI a) (hb : NearI b) (h : Rows 7 encFl w A n l) :
    Calls Try.prog 12 #[.slice A n c, .agg #[.int .i64 f0, .int .i64 f1, .int .i64 f2, .int .i64 f3, .int .i64 f4, .int .i64 f5, .int .i64 f6], .int .i64 y, .agg #[.int .i64 a, .int .i64 b]] w fun e w' => e = .returned (.agg #[.int .i64 f0, .int .i64 f1, .int .i64 f2, .int .i64 x, .int .i64 t, .int .i64 f5, .int .i64 f6]) ∧ Below w.heap.size w w' := by
  have h5 : NearI f5 := hf.2.2.1
  have h6 : NearI f6 := hf.2.2.2
  have hsy : NearY (startY l y) := startY_bd hn hy
  have hsk : seekE l f6 f5 a b (startY l y) = t := by rw [← ht, spotY_seek]
  have hty : NearY t := by rw [← ht]; exact seekF_bd hn _ _ _ _ _ _ hsy
  obtain ⟨⟨p, q⟩, hpq⟩ : ∃ r, bandL l t f6 (a, b) = r := ⟨_, rfl⟩
  have hxx : (if f1 = 1 then p else max p (q - f5)) = x := by
    rw [← hx]; unfold spotX; rw [ht]; simp only; rw [hpq]
  obtain ⟨V, hV⟩ : ∃ V, ((w.alloc (.cells #[.int .i64 f0, .int .i64 f1, .int .i64 f2, .int .i64 f3, .int .i64 f4, .int .i64 f5, .int .i64 f6] 24)).alloc (.cells #[.int .i64 a, .int .i64 b] 26)).alloc (.cells #[.int .i64 0, .int .i64 0, .int .i64 0, .int .i64 0, .int .i64 0, .int .i64 0, .int .i64 0] 24) = V := ⟨_, rfl⟩
  have hwV : Below w.heap.size w V := by rw [← hV]; go_grown
  have hsz : V.heap.size = w.heap.size + 1 + 1 + 1 := by rw [← hV]; simp
  have HRS := Lib.hid (show Box V (w.heap.size + 1 + 1) (encFl ⟨0, 0, 0, 0, 0, 0, 0⟩) by rw [← hV]; exact (show w.heap.size + 1 + 1 = ((w.alloc (.cells #[.int .i64 f0, .int .i64 f1, .int .i64 f2, .int .i64 f3, .int .i64 f4, .int .i64 f5, .int .i64 f6] 24)).alloc (.cells #[.int .i64 a, .int .i64 b] 26)).heap.size by simp) ▸ box7 _ ⟨0, 0, 0, 0, 0, 0, 0⟩ _)
  have HVV := Lib.hid hV
  have HB := Lib.hid hwV
  have HX0 := Lib.hid (show Box (V.alloc (.cells (srch f0 f1 f2 f3 f4 f5 f6 A n c a b).toArray 44)) (w.heap.size + 1 + 1 + 1) (srch f0 f1 f2 f3 f4 f5 f6 A n c a b) by
    have := Box.new V (srch f0 f1 f2 f3 f4 f5 f6 A n c a b) 44
    rw [hsz] at this; exact this)
  have HB0 := Lib.hid (show Below V.heap.size V (V.alloc (.cells (srch f0 f1 f2 f3 f4 f5 f6 A n c a b).toArray 44)) from (Below.refl _ _).alloc (Nat.le_refl _) _)
  have HN := Lib.hid hn
  have HY := Lib.hid hy
  have HSY := Lib.hid hsy
  have HTY := Lib.hid hty
  have H5 := Lib.hid h5
  have H6 := Lib.hid h6
  have HA1 := Lib.hid ha
  have HB1 := Lib.hid hb
  have HSK := Lib.hid hsk
  have HPQ := Lib.hid hpq
  have HXX := Lib.hid hxx
  have HA := Lib.hid (h.below hwV)
  clear hx ht hn hf hy ha hb h h5 h6 hsy hsk hty hpq hxx hV hwV
  have HSZ := Lib.hid hsz
  clear hsz
  go_enter Try.func12, Try.ntmps12
  go_wp2_with fail
  rw [HVV.out]
  refine (begin_to (t := startY l y) rfl HN.out HA.out HB0.out HX0.out (Nat.le_of_eq HSZ.out)).mono ?_
  rintro e w1 ⟨rfl, hx1, hb1⟩
  have HX2 := Lib.hid hx1
  have HB2 := Lib.hid hb1
  clear hx1 hb1 HX0 HB0
  go_wp2_with fail
  refine (down_to11 HSK.out HN.out HSY.out H6.out HA1.out HB1.out HA.out HB2.out HX2.out (Nat.le_of_eq HSZ.out)).mono ?_
  rintro e w2 ⟨rfl, hx1, hb1⟩
  have HX3 := Lib.hid hx1
  have HB3 := Lib.hid hb1
  clear hx1 hb1 HX2 HB2
  go_wp2_with fail
  refine (stand_to HPQ.out HXX.out HN.out HTY.out H5.out H6.out HA1.out HB1.out HA.out HB3.out HX3.out (Nat.le_of_eq HSZ.out)).mono ?_
  rintro e w3 ⟨rfl, hx1, hb1⟩
  have HX4 := Lib.hid hx1
  have HB4 := Lib.hid hb1
  clear hx1 hb1 HX3 HB3
  obtain ⟨⟨p0, p1, p2, p3, p4, p5, p6⟩, ⟨p7, p8, p9⟩, p10, p11⟩ := srch_of HX4.out
  have HR4 := Lib.hid (HRS.out.below HB4.out)
  obtain ⟨⟨r0, r1, r2, r3, r4, r5, r6⟩, rBl⟩ := HR4.out.of7
  have rfz := HR4.out.2.1
  go_wp2_with fail
  have hY := ((((((HR4.out.set 0 (.int .i64 f0) (by simp [encFl])).set 1 (.int .i64 f1) (by simp [encFl])).set 2 (.int .i64 f2) (by simp [encFl])).set 3 (.int .i64 x) (by simp [encFl])).set 4 (.int .i64 t) (by simp [encFl])).set 5 (.int .i64 f5) (by simp [encFl])).set 6 (.int .i64 f6) (by simp [encFl])
  have s0 := hY.2.2 0 _ rfl
  have s1 := hY.2.2 1 _ rfl
  have s2 := hY.2.2 2 _ rfl
  have s3 := hY.2.2 3 _ rfl
  have s4 := hY.2.2 4 _ rfl
  have s5 := hY.2.2 5 _ rfl
  have s6 := hY.2.2 6 _ rfl
  refine bodyPost_ret (v := .agg #[.int .i64 f0, .int .i64 f1, .int .i64 f2, .int .i64 x, .int .i64 t, .int .i64 f5, .int .i64 f6]) (by simp [results, Try.results12, go_sem, s0, s1, s2, s3, s4, s5, s6]) rfl ⟨rfl, ?_⟩
  have HE := Lib.hid (HB.out.trans (Below.mono HB4.out HB.out.size))
  have hle : w.heap.size ≤ w.heap.size + 1 + 1 := by omega
  exact ((((((HE.out.setCell hle _).setCell hle _).setCell hle _).setCell hle _).setCell hle _).setCell hle _).setCell hle _
end Go.Proofs.Ytideikbijjheeaa
