import Derived.Test.YtghcahkdfpahbaaBandsLaws
/- The walk of the law BandsTell, if package bands says what it is asked. (Written by program: tools/drafts/gentell10.py.) -/
namespace Go.Proofs.Ytghcahkdfpahbaa
open Go.RowKit
set_option linter.unusedVariables false
set_option linter.unusedSimpArgs false
theorem fl_info : (Try.prog.info? 37).map (fun i => (i.zero, i.size, i.bytes)) = some (some (.agg #[.int .i64 0, .int .i64 0, .int .i64 0, .int .i64 0, .int .i64 0, .int .i64 0, .int .i64 0]), 7, 56) := by kernel_rfl
theorem fls_one (l : List Fl) : ∀ u ∈ l.flatMap encFl, u.oneCell' = true := by
  intro u hu
  obtain ⟨f, _, hf⟩ := List.mem_flatMap.1 hu
  exact encFl_one f u hf
theorem ints4 (w : World) (t : TypeId) (a b c d : Int) (n : Nat) (h : n = w.heap.size) : Ints (w.alloc (.cells #[.int .i64 a, .int .i64 b, .int .i64 c, .int .i64 d] t)) (some ⟨n, 0, none⟩) 4 [a, b, c, d] := by subst h; exact Ints.new w t [a, b, c, d] (by simp)
set_option maxHeartbeats 8000000 in
set_option maxRecDepth 100000 in
theorem bandstell_far (H : BandsSays) {A : Option Addr} {n c : Nat} {l : List Fl} {y high a b sides : Int} {w : World} (hz : Rows 7 encFl w A n l) (hbad : 60 < n ∨ nearsB l [y, high, a, b] = false) :
    Calls Try.prog 3 #[.slice A n c, .int .i64 y, .int .i64 high, .agg #[.int .i64 a, .int .i64 b], .int .i64 sides] w fun e w' => e = .returned (.bool true) ∧ Below w.heap.size w w' := by
  have HH := Lib.hid H
  have HA := Lib.hid hz
  have hnb := hz.2.1
  clear H hz
  by_cases hbig : 60 < n
  · have hbig2 : (60 : Int) < (n : Int) := by omega
    clear hbad
    go_enter Try.func3, Try.ntmps3
    go_wp2_with fail
    refine (bawake_any HH.out _).mono ?_
    rintro e w9 ⟨rfl, hb9⟩
    have HB9 := Lib.hid (below_then (show Below w.heap.size w _ by go_grown) hb9)
    clear hb9
    go_wp2_with fail
    go_ret
    exact ⟨rfl, HB9.out⟩
  · have HN := Lib.hid (hbad.resolve_left hbig)
    have hbig2 : (n : Int) ≤ (60 : Int) := by omega
    clear hbad hbig
    go_enter Try.func3, Try.ntmps3
    go_wp2_with fail
    refine (rnears_to HN.out (HA.out.below (show Below w.heap.size w _ by go_grown)) (ints4 _ _ _ _ _ _ _ (by simp))).mono ?_
    rintro e w1 ⟨rfl, hb⟩
    have HB := Lib.hid (below_then (show Below w.heap.size w _ by go_grown) hb)
    clear hb
    go_wp2_with fail
    refine (bawake_any HH.out _).mono ?_
    rintro e w9 ⟨rfl, hb9⟩
    have HB9 := Lib.hid (below_then HB.out hb9)
    clear hb9
    go_wp2_with fail
    go_ret
    exact ⟨rfl, HB9.out⟩
set_option maxHeartbeats 16000000 in
set_option maxRecDepth 100000 in
theorem bandstell_in (H : BandsSays) {A : Option Addr} {n c : Nat} {l : List Fl} {y high a b sides : Int} (hsd : -9223372036854775808 ≤ sides ∧ sides ≤ 9223372036854775807) {w : World} (hz : Rows 7 encFl w A n l) (hsm : n ≤ 60) (hnear : nearsB l [y, high, a, b] = true) :
    Calls Try.prog 3 #[.slice A n c, .int .i64 y, .int .i64 high, .agg #[.int .i64 a, .int .i64 b], .int .i64 sides] w fun e w' => e = .returned (.bool true) ∧ Below w.heap.size w w' := by
  have HH := Lib.hid H
  have HA := Lib.hid hz
  have HN := Lib.hid hnear
  have HF := Lib.hid (nearsB_iff.1 hnear).1
  have HY := Lib.hid ((nearsB_iff.1 hnear).2 y (by simp))
  have HG := Lib.hid ((nearsB_iff.1 hnear).2 high (by simp))
  have Ha := Lib.hid ((nearsB_iff.1 hnear).2 a (by simp))
  have Hb := Lib.hid ((nearsB_iff.1 hnear).2 b (by simp))
  have HS := Lib.hid hsd
  have hn2 : n ≤ 1000 := by omega
  have hbig2 : (n : Int) ≤ (60 : Int) := by omega
  obtain ⟨⟨p, q⟩, h1⟩ : ∃ r, bandL l y high (a, b) = r := ⟨_, rfl⟩
  obtain ⟨⟨u1, x1⟩, h2⟩ : ∃ r, nextL l y high a b = r := ⟨_, rfl⟩
  obtain ⟨⟨u2, x2⟩, h3⟩ : ∃ r, lowestL l sides = r := ⟨_, rfl⟩
  obtain ⟨⟨u3, x3⟩, h4⟩ : ∃ r, topL l = r := ⟨_, rfl⟩
  have R1 := Lib.hid h1
  have R2 := Lib.hid h2
  have R3 := Lib.hid h3
  have R4 := Lib.hid h4
  obtain ⟨i0, hi0, hz0, hz1, hz2⟩ := info_parts fl_info
  have hX0 := Lib.hid (Box.new2 w (.int .i64 a) (.int .i64 b) 24)
  clear H hz hnear hsd hsm h1 h2 h3 h4
  go_enter Try.func3, Try.ntmps3
  go_wp2_with fail
  refine (rnears_to HN.out (HA.out.below (show Below w.heap.size w _ by go_grown)) (ints4 _ _ _ _ _ _ _ (by simp))).mono ?_
  rintro e w1 ⟨rfl, hb⟩
  have HX := Lib.hid ((hX0.out.alloc (.cells #[.int .i64 y, .int .i64 high, .int .i64 a, .int .i64 b] 3)).below hb)
  have HB := Lib.hid (below_then (show Below w.heap.size w _ by go_grown) hb)
  clear hb hX0
  go_wp2_with ((with_reducible refine stop_dst 42 ?_ ?_); exact rfl)
  refine Stop.intro ?_
  have hO : (w1.alloc (.cells #[] 37)).ownsRow w1.heap.size 37 7 (.slice (some ⟨w1.heap.size, 0, none⟩) 0 0) 0 [] := World.ownsRow_made w1 #[] 0 (Nat.le_refl _) (by decide) rfl
  have hC : Cells (w1.alloc (.cells #[] 37)) A n 7 (l.flatMap encFl) := ((HA.out.below HB.out).below ((Below.refl _ _).alloc (Nat.le_refl _) _)).cells encFl_len (by decide)
  have hXa := HX.out.alloc (.cells #[] 37)
  have hws := HB.out.size
  refine wpList_append_cells _ rfl (.tmp 40) (.tmp 41) _ rfl w1.heap.size 37 i0 (.agg #[.int .i64 0, .int .i64 0, .int .i64 0, .int .i64 0, .int .i64 0, .int .i64 0, .int .i64 0]) 7 56 Try.underlying22 hi0 hz0 hz1 hz2 rfl (by decide) _ 0 [] rfl hO A n c _ rfl hC (fls_one l) (by unfold maxLen; omega) (by omega) (by simp) ?_
  intro A1 c1 w2 hown1 hg1
  simp only [Nat.zero_add, List.nil_append] at hown1
  have hb1 : Below w1.heap.size w1 w2 := ((Below.refl _ _).alloc (Nat.le_refl _) _).grown hg1 (by simp) (by intro k hk; cases hk; exact Nat.le_refl _)
  have HI1 := Lib.hid (ownsRow_rows (enc := encFl) encFl_len (by decide) hown1)
  have HI := Lib.hid ((HA.out.below HB.out).below hb1)
  have HX := Lib.hid (HX.out.below hb1)
  have HB := Lib.hid (below_then HB.out hb1)
  clear hown1 hg1 hb1 hO hC hXa hi0 hz0 hz1 hz2 hws
  rw [Nat.zero_add]
  obtain ⟨k0, k1, k2, k3, k4⟩ := HX.out.of2
  go_wp2_with fail
  refine (HH.out.next R2.out HF.out HY.out HG.out Ha.out Hb.out hn2 HI1.out).mono ?_
  rintro e w3 ⟨rfl, hb⟩
  have HI1 := Lib.hid (HI1.out.below hb)
  have HI := Lib.hid (HI.out.below hb)
  have HX := Lib.hid (HX.out.below hb)
  have HB := Lib.hid (below_then HB.out hb)
  clear hb k0 k1 k2 k3 k4
  obtain ⟨k0, k1, k2, k3, k4⟩ := HX.out.of2
  go_wp2_with fail
  refine (rnext_to R2.out HF.out HY.out.y HG.out HI.out).mono ?_
  rintro e w4 ⟨rfl, hb⟩
  have HI1 := Lib.hid (HI1.out.below hb)
  have HI := Lib.hid (HI.out.below hb)
  have HX := Lib.hid (HX.out.below hb)
  have HB := Lib.hid (below_then HB.out hb)
  clear hb k0 k1 k2 k3 k4
  obtain ⟨k0, k1, k2, k3, k4⟩ := HX.out.of2
  go_wp2_with fail
  refine (HH.out.lowest R3.out HF.out HS.out hn2 HI1.out).mono ?_
  rintro e w5 ⟨rfl, hb⟩
  have HI1 := Lib.hid (HI1.out.below hb)
  have HI := Lib.hid (HI.out.below hb)
  have HX := Lib.hid (HX.out.below hb)
  have HB := Lib.hid (below_then HB.out hb)
  clear hb k0 k1 k2 k3 k4
  obtain ⟨k0, k1, k2, k3, k4⟩ := HX.out.of2
  go_wp2_with fail
  refine (rlowest_to R3.out HF.out HI.out).mono ?_
  rintro e w6 ⟨rfl, hb⟩
  have HI1 := Lib.hid (HI1.out.below hb)
  have HI := Lib.hid (HI.out.below hb)
  have HX := Lib.hid (HX.out.below hb)
  have HB := Lib.hid (below_then HB.out hb)
  clear hb k0 k1 k2 k3 k4
  obtain ⟨k0, k1, k2, k3, k4⟩ := HX.out.of2
  go_wp2_with fail
  refine (HH.out.top R4.out HF.out hn2 HI1.out).mono ?_
  rintro e w7 ⟨rfl, hb⟩
  have HI1 := Lib.hid (HI1.out.below hb)
  have HI := Lib.hid (HI.out.below hb)
  have HX := Lib.hid (HX.out.below hb)
  have HB := Lib.hid (below_then HB.out hb)
  clear hb k0 k1 k2 k3 k4
  obtain ⟨k0, k1, k2, k3, k4⟩ := HX.out.of2
  go_wp2_with fail
  refine (rtop_to R4.out HI.out).mono ?_
  rintro e w8 ⟨rfl, rfl⟩
  have HC1 := Lib.hid (show ∀ p' : OnW w7, Calls Try.prog 12 #[.slice A1 n c1, .int .i64 y, .int .i64 high, .agg #[.int .i64 a, .int .i64 b]] p'.w fun e w' => e = .returned (.agg #[.int .i64 p, .int .i64 q]) ∧ Below p'.w.heap.size p'.w w' from fun p' => HH.out.of R1.out HF.out HY.out HG.out Ha.out Hb.out hn2 (HI1.out.on p'.h))
  have HC2 := Lib.hid (show ∀ p' : OnW w7, Calls Try.prog 13 #[.slice A n c, .int .i64 y, .int .i64 high, .agg #[.int .i64 a, .int .i64 b]] p'.w fun e w' => e = .returned (.agg #[.int .i64 p, .int .i64 q]) ∧ Below p'.w.heap.size p'.w w' from fun p' => rof10_to R1.out HF.out HY.out.y HG.out (HI.out.on p'.h))
  have HC3 := Lib.hid (show ∀ p' : OnW w7, Calls Try.prog 15 #[.slice A1 n c1, .slice A n c] p'.w fun e w' => e = .returned (.bool true) ∧ Below p'.w.heap.size p'.w w' from fun p' => fls_same (HI1.out.on p'.h) (HI.out.on p'.h))
  have HC4 := Lib.hid (show ∀ p' : OnW w7, Calls Try.prog 5 #[] p'.w fun e w' => e = .returned (.bool true) ∧ Below p'.w.heap.size p'.w w' from fun p' => bawake_any HH.out _)
  have HC5 := Lib.hid (show ∀ (u : Int) (x : Bool) (p' : OnW w7), Calls Try.prog 14 #[.int .i64 u, .bool x, .int .i64 u, .bool x] p'.w fun e w' => e = .returned (.bool true) ∧ Below p'.w.heap.size p'.w w' from fun u x p' => is_same u x _)
  have he := sp_same p q
  clear k0 k1 k2 k3 k4
  obtain ⟨k0, k1⟩ := OnW.of2 HX.out
  go_wp2_with fail
  refine wp_region_on (by kernel_rfl) (by kernel_rfl) ?_
  repeat (go_big_quiet_step ((first
    | (go_at_call 12; with_reducible exact Calls.on_of (HC1.out _))
    | (go_at_call 13; with_reducible exact Calls.on_of (HC2.out _))
    | (go_at_call 15; with_reducible exact Calls.on_of (HC3.out _))
    | (go_at_call 5; with_reducible exact Calls.on_of (HC4.out _))
    | (go_at_call 14; with_reducible exact Calls.on_of (HC5.out _ _ _)))))
  refine wpQuiet_nil ?_
  intro w9 hw'
  obtain ⟨⟨w', hOn⟩, hw''⟩ := hw'
  obtain rfl : w9 = w' := hw''
  have HB9 := Lib.hid (below_then HB.out hOn)
  clear hOn k0 k1
  go_wp2_with fail
  go_ret
  exact ⟨rfl, HB9.out⟩
theorem bandstell_walk (H : BandsSays) (A : Option Addr) (n c : Nat) (l : List Fl) (y : Int) (hy : -9223372036854775808 ≤ y ∧ y ≤ 9223372036854775807) (high : Int) (hh : -9223372036854775808 ≤ high ∧ high ≤ 9223372036854775807)
    (a : Int) (ha : -9223372036854775808 ≤ a ∧ a ≤ 9223372036854775807) (b : Int) (hb : -9223372036854775808 ≤ b ∧ b ≤ 9223372036854775807) (sides : Int) (hsd : -9223372036854775808 ≤ sides ∧ sides ≤ 9223372036854775807) (w : World) (hz : Rows 7 encFl w A n l) :
    Calls Try.prog 3 #[.slice A n c, .int .i64 y, .int .i64 high, .agg #[.int .i64 a, .int .i64 b], .int .i64 sides] w fun e w' => e = .returned (.bool true) ∧ Below w.heap.size w w' := by
  by_cases hbig : 60 < n
  · exact bandstell_far H hz (.inl hbig)
  · rcases hq : nearsB l [y, high, a, b] with _ | _
    · exact bandstell_far H hz (.inr hq)
    · exact bandstell_in H hsd hz (by omega) hq
end Go.Proofs.Ytghcahkdfpahbaa
