import Derived.Test.YtipmdhfinlkceaaJW09
/- PlaceSpot. -/
set_option linter.unusedVariables false
set_option linter.unusedSimpArgs false
namespace Go.Proofs.Ytipmdhfinlkceaa
open Go.RowKit
theorem Fl.near_h {f : Fl} (h : f.near) : NearI f.h := h.2.2.2
theorem ret_two {a b x y : Int} (h1 : a = b) (h2 : x = y) : Ending.returned (.tuple #[.int .i64 a, .int .i64 x]) = .returned (.tuple #[.int .i64 b, .int .i64 y]) := by rw [h1, h2]
set_option maxHeartbeats 16000000 in
set_option maxRecDepth 100000 in
theorem rspot_to {l : List Fl} {f0 f1 f2 f3 f4 f5 f6 y a b x t : Int} (hx : spotX l ⟨f0, f1, f2, f3, f4, f5, f6⟩ y a b = x) (ht : spotY l ⟨f0, f1, f2, f3, f4, f5, f6⟩ y a b = t) (hn : ∀ g ∈ l, g.near) (hf : (⟨f0, f1, f2, f3, f4, f5, f6⟩ : Fl).near) (hy : NearI y) (ha : NearI a) (hb : NearI b) {A : Option Addr} {n c : Nat} (hn2 : n ≤ 1000) {w : World} (h : Rows 7 encFl w A n l) :
    Calls Try.prog 53 #[.slice A n c, .agg #[.int .i64 f0, .int .i64 f1, .int .i64 f2, .int .i64 f3, .int .i64 f4, .int .i64 f5, .int .i64 f6], .int .i64 y, .agg #[.int .i64 a, .int .i64 b]] w fun e w' => e = .returned (.tuple #[.int .i64 x, .int .i64 t]) ∧ Below w.heap.size w w' := by
  have HA := Lib.hid h
  have HL := Lib.hid h.1
  have HN := Lib.hid hn
  have HY := Lib.hid hy
  have HAY := Lib.hid ha.y
  have HBY := Lib.hid hb.y
  have HH := Lib.hid (Fl.near_h hf)
  have HXV := Lib.hid hx
  have HTV := Lib.hid ht
  have HTY := Lib.hid (show NearY t by rw [← ht]; exact seekF_bd hn _ _ _ _ _ _ (startY_bd hn hy))
  obtain ⟨⟨p, q⟩, hpq⟩ : ∃ r, bandL l t f6 (a, b) = r := ⟨_, rfl⟩
  have HFBT := Lib.hid hpq
  have hqb := (bandL_bd hn t f6 (a, b) ⟨ha.y, hb.y⟩).2
  rw [hpq] at hqb
  obtain ⟨q1, q2⟩ := hqb
  have hwb := hf.2.2.1
  simp only at q1 q2 hwb
  obtain ⟨w1', w2'⟩ := hwb
  unfold farB at q1 q2 w1' w2'
  have hqw : IntKind.i64.wrap (q - f5) = q - f5 := IntWalk.i64_in _ (by omega)
  obtain ⟨⟨tp, some0⟩, htp⟩ : ∃ r, topL l = r := ⟨_, rfl⟩
  have HTP := Lib.hid htp
  have hsk0 : seekF l f6 f5 a b (n + 1 - 0) (startY l y) = t := by
    have := HL.out
    rw [← ht]; unfold spotY; rw [this]; rfl
  obtain ⟨V, hV⟩ : ∃ V, (w.alloc (.cells #[.int .i64 f0, .int .i64 f1, .int .i64 f2, .int .i64 f3, .int .i64 f4, .int .i64 f5, .int .i64 f6] 70)).alloc (.cells #[.int .i64 a, .int .i64 b] 84) = V := ⟨_, rfl⟩
  have HB := Lib.hid (show Below w.heap.size w V by rw [← hV]; go_grown)
  have HD := Lib.hid (show Box V w.heap.size (encFl ⟨f0, f1, f2, f3, f4, f5, f6⟩) by rw [← hV]; exact (box7 w ⟨f0, f1, f2, f3, f4, f5, f6⟩ _).alloc _)
  have HI := Lib.hid (show Box V (w.heap.size + 1) [.int .i64 a, .int .i64 b] by rw [← hV]; exact Box.new2' _ _ _ _ _ (by simp))
  have HVV := Lib.hid hV
  have startY0 := Lib.hid (startY_bd hn hy)
  have HS0 := Lib.hid hsk0
  clear h hn hf hy ha hb hx ht hpq htp hV hsk0
  go_enter Try.func53, Try.ntmps53
  go_wp2_with fail
  rw [HVV.out]
  refine (rtop_to HTP.out (HA.out.below HB.out)).mono ?_
  rintro e w3 ⟨rfl, rfl⟩
  cases some0 with
  | false =>
    have hsk : seekF l f6 f5 a b (n + 1 - 0) y = t := by rw [← HS0.out]; congr 1; unfold startY; rw [HTP.out]; simp
    replace startY0 := Lib.hid HY.out.y
    go_wp2_with fail
    have HSK := Lib.hid hsk
    clear hsk
    go_loopw [2, 12, 13, 14] (fun yy i nx ok wr => ∃ (k : Nat) (z : Int), yy = .int .i64 z ∧ i = .int .i64 (k : Int) ∧ k ≤ n + 1 ∧ Hid (NearY z) ∧ Hid (seekF l f6 f5 a b (n + 1 - k) z = t) ∧ Hid (Box wr w.heap.size (encFl ⟨f0, f1, f2, f3, f4, f5, f6⟩)) ∧ Hid (Box wr (w.heap.size + 1) [.int .i64 a, .int .i64 b]) ∧ Hid (Below w.heap.size w wr)) (fun _ i _ _ _ => n + 1 - (intOf i).toNat)
    case atStart => exact ⟨0, _, rfl, rfl, Nat.zero_le _, Lib.hid (startY0.out), HSK, HD, HI, HB⟩
    case round =>
      obtain ⟨k, z, rfl, rfl, hkn, HZ, HSK, HD, HI, HB⟩ := hrel
      by_cases hlt : k ≤ n
      · have hlt2 : (k : Int) ≤ (n : Int) := by omega
        obtain ⟨⟨p', q'⟩, hb1⟩ : ∃ r, bandL l z f6 (a, b) = r := ⟨_, rfl⟩
        obtain ⟨v, hv⟩ : ∃ v, lenW p' q' = v := ⟨_, rfl⟩
        have hbd := bandL_bd HN.out z f6 (a, b) ⟨HAY.out, HBY.out⟩
        rw [hb1] at hbd
        have HC1 := Lib.hid (show ∀ p : OnW wr, Calls Try.prog 50 #[.slice A n c, .int .i64 z, .int .i64 f6, .agg #[.int .i64 a, .int .i64 b]] p.w fun e w' => e = .returned (.agg #[.int .i64 p', .int .i64 q']) ∧ Below p.w.heap.size p.w w' from fun p => rof10_to hb1 HN.out HZ.out HH.out (HA.out.below (below_then HB.out p.h)))
        have HC2 := Lib.hid (show ∀ p : OnW wr, Calls Try.prog 52 #[.agg #[.int .i64 p', .int .i64 q']] p.w fun e w' => e = .returned (.int .i64 v) ∧ Below p.w.heap.size p.w w' from fun p => rlen_to hv hbd.1 hbd.2 _)
        have hf7 := HD.out.of7.1
        simp only at hf7
        obtain ⟨p0, p1, p2, p3, p4, p5, p6⟩ := hf7
        have k5 : ∀ p : OnW wr, p.w.cell? ⟨w.heap.size, 5, none⟩ = some (.int .i64 f5) := OnW.cell p5
        have k6 : ∀ p : OnW wr, p.w.cell? ⟨w.heap.size, 6, none⟩ = some (.int .i64 f6) := OnW.cell p6
        obtain ⟨j0, j1⟩ := OnW.of2 HI.out
        have HBD := Lib.hid hb1
        have HLV := Lib.hid hv
        clear hb1 hv hbd p0 p1 p2 p3 p4 p5 p6
        have HSU := Lib.hid (show seekF l f6 f5 a b (n - k + 1) z = t by rw [← HSK.out]; congr 1; omega)
        by_cases hfit : f5 ≤ v
        · have HT := Lib.hid (show z = t by rw [← HSU.out]; unfold seekF; rw [if_pos (by unfold fitsF; rw [HBD.out]; simp only; rw [HLV.out]; exact decide_eq_true hfit)])
          go_wp2_with fail
          refine wp_region_on (by kernel_rfl) (by kernel_rfl) ?_
          repeat (go_big_quiet_step ((first
            | (go_at_call 50; with_reducible exact Calls.on_of (HC1.out _))
            | (go_at_call 52; with_reducible exact Calls.on_of (HC2.out _)))))
          refine wpQuiet_nil ?_
          intro w5 hw'
          obtain ⟨⟨w6, hOn⟩, hw''⟩ := hw'
          obtain rfl : w5 = w6 := hw''
          have HB := Lib.hid (below_then HB.out hOn)
          have HD := Lib.hid (HD.out.below hOn)
          have HI := Lib.hid (HI.out.below hOn)
          clear hOn k5 k6 j0 j1
          have HFB := Lib.hid (show bandL l z f6 (a, b) = (p, q) by rw [HT.out]; exact HFBT.out)
          have hf7 := HD.out.of7.1
          simp only at hf7
          obtain ⟨p0, p1, p2, p3, p4, p5, p6⟩ := hf7
          obtain ⟨j0, j1, j2, j3, j4⟩ := HI.out.of2
          go_wp2_with fail
          refine (rof10_to HFB.out HN.out (by rw [HT.out]; exact HTY.out) HH.out (HA.out.below HB.out)).mono ?_
          rintro e w8 ⟨rfl, hb⟩
          have HB8 := Lib.hid (below_then HB.out hb)
          have HD8 := Lib.hid (HD.out.below hb)
          have HX8 := Lib.hid (Box.new2 w8 (.int .i64 p) (.int .i64 q) 84)
          clear hb
          clear p0 p1 p2 p3 p4 p5 p6 j0 j1 j2 j3 j4
          obtain ⟨⟨p0, p1, p2, p3, p4, p5, p6⟩, hBl⟩ := (HD8.out.alloc (.cells #[.int .i64 p, .int .i64 q] 84)).of7
          obtain ⟨s0, s1, s2, s3, s4⟩ := HX8.out.of2
          simp only at p1 p5
          by_cases hs : f1 = 1
          · have hsb : (f1 == 1) = true := by simpa using hs
            have HXX := Lib.hid (show p = x by rw [← HXV.out]; unfold spotX; rw [if_pos hs, HTV.out, HFBT.out])
            clear hs
            go_wp2_with fail
            go_ret2
            exact ⟨ret_two HXX.out HT.out, HB8.out.alloc (by have := HB8.out.size; omega) _⟩
          · have hsb : (f1 == 1) = false := by simpa using hs
            have HXX := Lib.hid (show max p (q - f5) = x by rw [← HXV.out]; unfold spotX; rw [if_neg hs, HTV.out, HFBT.out])
            clear hs
            go_wp2_with fail
            go_ret2
            exact ⟨ret_two HXX.out HT.out, HB8.out.alloc (by have := HB8.out.size; omega) _⟩
        · have hfit2 : v < f5 := by omega
          have HNF := Lib.hid (show fitsF l f6 f5 a b z = false by unfold fitsF; rw [HBD.out]; simp only; rw [HLV.out]; exact decide_eq_false hfit)
          obtain ⟨⟨u, ok⟩, hnx⟩ : ∃ r, nextL l z f6 a b = r := ⟨_, rfl⟩
          have HNX := Lib.hid hnx
          have HUY := Lib.hid (show NearY u by have := nextL_bd HN.out z f6 a b; rw [hnx] at this; exact this)
          clear hnx
          go_wp2_with fail
          refine wp_region_on (by kernel_rfl) (by kernel_rfl) ?_
          repeat (go_big_quiet_step ((first
            | (go_at_call 50; with_reducible exact Calls.on_of (HC1.out _))
            | (go_at_call 52; with_reducible exact Calls.on_of (HC2.out _)))))
          refine wpQuiet_nil ?_
          intro w5 hw'
          obtain ⟨⟨w6, hOn⟩, hw''⟩ := hw'
          obtain rfl : w5 = w6 := hw''
          have HB := Lib.hid (below_then HB.out hOn)
          have HD := Lib.hid (HD.out.below hOn)
          have HI := Lib.hid (HI.out.below hOn)
          clear hOn k5 k6 j0 j1
          have hf7 := HD.out.of7.1
          simp only at hf7
          obtain ⟨p0, p1, p2, p3, p4, p5, p6⟩ := hf7
          obtain ⟨j0, j1, j2, j3, j4⟩ := HI.out.of2
          go_wp2_with fail
          refine (rnext_to HNX.out HN.out HZ.out HH.out (HA.out.below HB.out)).mono ?_
          rintro e w7 ⟨rfl, hb⟩
          have HB := Lib.hid (below_then HB.out hb)
          have HD := Lib.hid (HD.out.below hb)
          have HI := Lib.hid (HI.out.below hb)
          clear hb p0 p1 p2 p3 p4 p5 p6 j0 j1 j2 j3 j4
          cases ok with
          | false =>
            have HT := Lib.hid (show z = t by rw [← HSU.out]; unfold seekF; rw [HNF.out, HNX.out]; rfl)
            have HFB := Lib.hid (show bandL l z f6 (a, b) = (p, q) by rw [HT.out]; exact HFBT.out)
            have hf7 := HD.out.of7.1
            simp only at hf7
            obtain ⟨p0, p1, p2, p3, p4, p5, p6⟩ := hf7
            obtain ⟨j0, j1, j2, j3, j4⟩ := HI.out.of2
            go_wp2_with fail
            refine (rof10_to HFB.out HN.out (by rw [HT.out]; exact HTY.out) HH.out (HA.out.below HB.out)).mono ?_
            rintro e w8 ⟨rfl, hb⟩
            have HB8 := Lib.hid (below_then HB.out hb)
            have HD8 := Lib.hid (HD.out.below hb)
            have HX8 := Lib.hid (Box.new2 w8 (.int .i64 p) (.int .i64 q) 84)
            clear hb
            clear p0 p1 p2 p3 p4 p5 p6 j0 j1 j2 j3 j4
            obtain ⟨⟨p0, p1, p2, p3, p4, p5, p6⟩, hBl⟩ := (HD8.out.alloc (.cells #[.int .i64 p, .int .i64 q] 84)).of7
            obtain ⟨s0, s1, s2, s3, s4⟩ := HX8.out.of2
            simp only at p1 p5
            by_cases hs : f1 = 1
            · have hsb : (f1 == 1) = true := by simpa using hs
              have HXX := Lib.hid (show p = x by rw [← HXV.out]; unfold spotX; rw [if_pos hs, HTV.out, HFBT.out])
              clear hs
              go_wp2_with fail
              go_ret2
              exact ⟨ret_two HXX.out HT.out, HB8.out.alloc (by have := HB8.out.size; omega) _⟩
            · have hsb : (f1 == 1) = false := by simpa using hs
              have HXX := Lib.hid (show max p (q - f5) = x by rw [← HXV.out]; unfold spotX; rw [if_neg hs, HTV.out, HFBT.out])
              clear hs
              go_wp2_with fail
              go_ret2
              exact ⟨ret_two HXX.out HT.out, HB8.out.alloc (by have := HB8.out.size; omega) _⟩
          | true =>
            have HS2 := Lib.hid (show seekF l f6 f5 a b (n + 1 - (k + 1)) u = t by
              have hst : seekF l f6 f5 a b (n - k + 1) z = seekF l f6 f5 a b (n - k) u := by rw [seekF, HNF.out, HNX.out]; rfl
              rw [← HSU.out, hst, show n + 1 - (k + 1) = n - k by omega])
            go_wp2_with fail
            go_roundw
            case rel => exact ⟨k + 1, u, rfl, by go_num, by omega, HUY, HS2, HD, HI, HB⟩
            case measure => simp [intOf] <;> omega
      · have hge : (n : Int) < (k : Int) := by omega
        have HT := Lib.hid (show z = t by rw [← HSK.out, show n + 1 - k = 0 by omega]; rfl)
        have HFB := Lib.hid (show bandL l z f6 (a, b) = (p, q) by rw [HT.out]; exact HFBT.out)
        have hf7 := HD.out.of7.1
        simp only at hf7
        obtain ⟨p0, p1, p2, p3, p4, p5, p6⟩ := hf7
        obtain ⟨j0, j1, j2, j3, j4⟩ := HI.out.of2
        go_wp2_with fail
        refine (rof10_to HFB.out HN.out (by rw [HT.out]; exact HTY.out) HH.out (HA.out.below HB.out)).mono ?_
        rintro e w8 ⟨rfl, hb⟩
        have HB8 := Lib.hid (below_then HB.out hb)
        have HD8 := Lib.hid (HD.out.below hb)
        have HX8 := Lib.hid (Box.new2 w8 (.int .i64 p) (.int .i64 q) 84)
        clear hb
        clear p0 p1 p2 p3 p4 p5 p6 j0 j1 j2 j3 j4
        obtain ⟨⟨p0, p1, p2, p3, p4, p5, p6⟩, hBl⟩ := (HD8.out.alloc (.cells #[.int .i64 p, .int .i64 q] 84)).of7
        obtain ⟨s0, s1, s2, s3, s4⟩ := HX8.out.of2
        simp only at p1 p5
        by_cases hs : f1 = 1
        · have hsb : (f1 == 1) = true := by simpa using hs
          have HXX := Lib.hid (show p = x by rw [← HXV.out]; unfold spotX; rw [if_pos hs, HTV.out, HFBT.out])
          clear hs
          go_wp2_with fail
          go_ret2
          exact ⟨ret_two HXX.out HT.out, HB8.out.alloc (by have := HB8.out.size; omega) _⟩
        · have hsb : (f1 == 1) = false := by simpa using hs
          have HXX := Lib.hid (show max p (q - f5) = x by rw [← HXV.out]; unfold spotX; rw [if_neg hs, HTV.out, HFBT.out])
          clear hs
          go_wp2_with fail
          go_ret2
          exact ⟨ret_two HXX.out HT.out, HB8.out.alloc (by have := HB8.out.size; omega) _⟩
  | true =>
    by_cases htop : y < tp
    · have hsk : seekF l f6 f5 a b (n + 1 - 0) tp = t := by rw [← HS0.out]; congr 1; unfold startY; rw [HTP.out, if_pos ⟨rfl, htop⟩]
      replace startY0 := Lib.hid (show NearY tp by have := startY0.out; unfold startY at this; rw [HTP.out, if_pos ⟨rfl, htop⟩] at this; exact this)
      go_wp2_with fail
      have HSK := Lib.hid hsk
      clear hsk
      go_loopw [2, 12, 13, 14] (fun yy i nx ok wr => ∃ (k : Nat) (z : Int), yy = .int .i64 z ∧ i = .int .i64 (k : Int) ∧ k ≤ n + 1 ∧ Hid (NearY z) ∧ Hid (seekF l f6 f5 a b (n + 1 - k) z = t) ∧ Hid (Box wr w.heap.size (encFl ⟨f0, f1, f2, f3, f4, f5, f6⟩)) ∧ Hid (Box wr (w.heap.size + 1) [.int .i64 a, .int .i64 b]) ∧ Hid (Below w.heap.size w wr)) (fun _ i _ _ _ => n + 1 - (intOf i).toNat)
      case atStart => exact ⟨0, _, rfl, rfl, Nat.zero_le _, Lib.hid (startY0.out), HSK, HD, HI, HB⟩
      case round =>
        obtain ⟨k, z, rfl, rfl, hkn, HZ, HSK, HD, HI, HB⟩ := hrel
        by_cases hlt : k ≤ n
        · have hlt2 : (k : Int) ≤ (n : Int) := by omega
          obtain ⟨⟨p', q'⟩, hb1⟩ : ∃ r, bandL l z f6 (a, b) = r := ⟨_, rfl⟩
          obtain ⟨v, hv⟩ : ∃ v, lenW p' q' = v := ⟨_, rfl⟩
          have hbd := bandL_bd HN.out z f6 (a, b) ⟨HAY.out, HBY.out⟩
          rw [hb1] at hbd
          have HC1 := Lib.hid (show ∀ p : OnW wr, Calls Try.prog 50 #[.slice A n c, .int .i64 z, .int .i64 f6, .agg #[.int .i64 a, .int .i64 b]] p.w fun e w' => e = .returned (.agg #[.int .i64 p', .int .i64 q']) ∧ Below p.w.heap.size p.w w' from fun p => rof10_to hb1 HN.out HZ.out HH.out (HA.out.below (below_then HB.out p.h)))
          have HC2 := Lib.hid (show ∀ p : OnW wr, Calls Try.prog 52 #[.agg #[.int .i64 p', .int .i64 q']] p.w fun e w' => e = .returned (.int .i64 v) ∧ Below p.w.heap.size p.w w' from fun p => rlen_to hv hbd.1 hbd.2 _)
          have hf7 := HD.out.of7.1
          simp only at hf7
          obtain ⟨p0, p1, p2, p3, p4, p5, p6⟩ := hf7
          have k5 : ∀ p : OnW wr, p.w.cell? ⟨w.heap.size, 5, none⟩ = some (.int .i64 f5) := OnW.cell p5
          have k6 : ∀ p : OnW wr, p.w.cell? ⟨w.heap.size, 6, none⟩ = some (.int .i64 f6) := OnW.cell p6
          obtain ⟨j0, j1⟩ := OnW.of2 HI.out
          have HBD := Lib.hid hb1
          have HLV := Lib.hid hv
          clear hb1 hv hbd p0 p1 p2 p3 p4 p5 p6
          have HSU := Lib.hid (show seekF l f6 f5 a b (n - k + 1) z = t by rw [← HSK.out]; congr 1; omega)
          by_cases hfit : f5 ≤ v
          · have HT := Lib.hid (show z = t by rw [← HSU.out]; unfold seekF; rw [if_pos (by unfold fitsF; rw [HBD.out]; simp only; rw [HLV.out]; exact decide_eq_true hfit)])
            go_wp2_with fail
            refine wp_region_on (by kernel_rfl) (by kernel_rfl) ?_
            repeat (go_big_quiet_step ((first
              | (go_at_call 50; with_reducible exact Calls.on_of (HC1.out _))
              | (go_at_call 52; with_reducible exact Calls.on_of (HC2.out _)))))
            refine wpQuiet_nil ?_
            intro w5 hw'
            obtain ⟨⟨w6, hOn⟩, hw''⟩ := hw'
            obtain rfl : w5 = w6 := hw''
            have HB := Lib.hid (below_then HB.out hOn)
            have HD := Lib.hid (HD.out.below hOn)
            have HI := Lib.hid (HI.out.below hOn)
            clear hOn k5 k6 j0 j1
            have HFB := Lib.hid (show bandL l z f6 (a, b) = (p, q) by rw [HT.out]; exact HFBT.out)
            have hf7 := HD.out.of7.1
            simp only at hf7
            obtain ⟨p0, p1, p2, p3, p4, p5, p6⟩ := hf7
            obtain ⟨j0, j1, j2, j3, j4⟩ := HI.out.of2
            go_wp2_with fail
            refine (rof10_to HFB.out HN.out (by rw [HT.out]; exact HTY.out) HH.out (HA.out.below HB.out)).mono ?_
            rintro e w8 ⟨rfl, hb⟩
            have HB8 := Lib.hid (below_then HB.out hb)
            have HD8 := Lib.hid (HD.out.below hb)
            have HX8 := Lib.hid (Box.new2 w8 (.int .i64 p) (.int .i64 q) 84)
            clear hb
            clear p0 p1 p2 p3 p4 p5 p6 j0 j1 j2 j3 j4
            obtain ⟨⟨p0, p1, p2, p3, p4, p5, p6⟩, hBl⟩ := (HD8.out.alloc (.cells #[.int .i64 p, .int .i64 q] 84)).of7
            obtain ⟨s0, s1, s2, s3, s4⟩ := HX8.out.of2
            simp only at p1 p5
            by_cases hs : f1 = 1
            · have hsb : (f1 == 1) = true := by simpa using hs
              have HXX := Lib.hid (show p = x by rw [← HXV.out]; unfold spotX; rw [if_pos hs, HTV.out, HFBT.out])
              clear hs
              go_wp2_with fail
              go_ret2
              exact ⟨ret_two HXX.out HT.out, HB8.out.alloc (by have := HB8.out.size; omega) _⟩
            · have hsb : (f1 == 1) = false := by simpa using hs
              have HXX := Lib.hid (show max p (q - f5) = x by rw [← HXV.out]; unfold spotX; rw [if_neg hs, HTV.out, HFBT.out])
              clear hs
              go_wp2_with fail
              go_ret2
              exact ⟨ret_two HXX.out HT.out, HB8.out.alloc (by have := HB8.out.size; omega) _⟩
          · have hfit2 : v < f5 := by omega
            have HNF := Lib.hid (show fitsF l f6 f5 a b z = false by unfold fitsF; rw [HBD.out]; simp only; rw [HLV.out]; exact decide_eq_false hfit)
            obtain ⟨⟨u, ok⟩, hnx⟩ : ∃ r, nextL l z f6 a b = r := ⟨_, rfl⟩
            have HNX := Lib.hid hnx
            have HUY := Lib.hid (show NearY u by have := nextL_bd HN.out z f6 a b; rw [hnx] at this; exact this)
            clear hnx
            go_wp2_with fail
            refine wp_region_on (by kernel_rfl) (by kernel_rfl) ?_
            repeat (go_big_quiet_step ((first
              | (go_at_call 50; with_reducible exact Calls.on_of (HC1.out _))
              | (go_at_call 52; with_reducible exact Calls.on_of (HC2.out _)))))
            refine wpQuiet_nil ?_
            intro w5 hw'
            obtain ⟨⟨w6, hOn⟩, hw''⟩ := hw'
            obtain rfl : w5 = w6 := hw''
            have HB := Lib.hid (below_then HB.out hOn)
            have HD := Lib.hid (HD.out.below hOn)
            have HI := Lib.hid (HI.out.below hOn)
            clear hOn k5 k6 j0 j1
            have hf7 := HD.out.of7.1
            simp only at hf7
            obtain ⟨p0, p1, p2, p3, p4, p5, p6⟩ := hf7
            obtain ⟨j0, j1, j2, j3, j4⟩ := HI.out.of2
            go_wp2_with fail
            refine (rnext_to HNX.out HN.out HZ.out HH.out (HA.out.below HB.out)).mono ?_
            rintro e w7 ⟨rfl, hb⟩
            have HB := Lib.hid (below_then HB.out hb)
            have HD := Lib.hid (HD.out.below hb)
            have HI := Lib.hid (HI.out.below hb)
            clear hb p0 p1 p2 p3 p4 p5 p6 j0 j1 j2 j3 j4
            cases ok with
            | false =>
              have HT := Lib.hid (show z = t by rw [← HSU.out]; unfold seekF; rw [HNF.out, HNX.out]; rfl)
              have HFB := Lib.hid (show bandL l z f6 (a, b) = (p, q) by rw [HT.out]; exact HFBT.out)
              have hf7 := HD.out.of7.1
              simp only at hf7
              obtain ⟨p0, p1, p2, p3, p4, p5, p6⟩ := hf7
              obtain ⟨j0, j1, j2, j3, j4⟩ := HI.out.of2
              go_wp2_with fail
              refine (rof10_to HFB.out HN.out (by rw [HT.out]; exact HTY.out) HH.out (HA.out.below HB.out)).mono ?_
              rintro e w8 ⟨rfl, hb⟩
              have HB8 := Lib.hid (below_then HB.out hb)
              have HD8 := Lib.hid (HD.out.below hb)
              have HX8 := Lib.hid (Box.new2 w8 (.int .i64 p) (.int .i64 q) 84)
              clear hb
              clear p0 p1 p2 p3 p4 p5 p6 j0 j1 j2 j3 j4
              obtain ⟨⟨p0, p1, p2, p3, p4, p5, p6⟩, hBl⟩ := (HD8.out.alloc (.cells #[.int .i64 p, .int .i64 q] 84)).of7
              obtain ⟨s0, s1, s2, s3, s4⟩ := HX8.out.of2
              simp only at p1 p5
              by_cases hs : f1 = 1
              · have hsb : (f1 == 1) = true := by simpa using hs
                have HXX := Lib.hid (show p = x by rw [← HXV.out]; unfold spotX; rw [if_pos hs, HTV.out, HFBT.out])
                clear hs
                go_wp2_with fail
                go_ret2
                exact ⟨ret_two HXX.out HT.out, HB8.out.alloc (by have := HB8.out.size; omega) _⟩
              · have hsb : (f1 == 1) = false := by simpa using hs
                have HXX := Lib.hid (show max p (q - f5) = x by rw [← HXV.out]; unfold spotX; rw [if_neg hs, HTV.out, HFBT.out])
                clear hs
                go_wp2_with fail
                go_ret2
                exact ⟨ret_two HXX.out HT.out, HB8.out.alloc (by have := HB8.out.size; omega) _⟩
            | true =>
              have HS2 := Lib.hid (show seekF l f6 f5 a b (n + 1 - (k + 1)) u = t by
                have hst : seekF l f6 f5 a b (n - k + 1) z = seekF l f6 f5 a b (n - k) u := by rw [seekF, HNF.out, HNX.out]; rfl
                rw [← HSU.out, hst, show n + 1 - (k + 1) = n - k by omega])
              go_wp2_with fail
              go_roundw
              case rel => exact ⟨k + 1, u, rfl, by go_num, by omega, HUY, HS2, HD, HI, HB⟩
              case measure => simp [intOf] <;> omega
        · have hge : (n : Int) < (k : Int) := by omega
          have HT := Lib.hid (show z = t by rw [← HSK.out, show n + 1 - k = 0 by omega]; rfl)
          have HFB := Lib.hid (show bandL l z f6 (a, b) = (p, q) by rw [HT.out]; exact HFBT.out)
          have hf7 := HD.out.of7.1
          simp only at hf7
          obtain ⟨p0, p1, p2, p3, p4, p5, p6⟩ := hf7
          obtain ⟨j0, j1, j2, j3, j4⟩ := HI.out.of2
          go_wp2_with fail
          refine (rof10_to HFB.out HN.out (by rw [HT.out]; exact HTY.out) HH.out (HA.out.below HB.out)).mono ?_
          rintro e w8 ⟨rfl, hb⟩
          have HB8 := Lib.hid (below_then HB.out hb)
          have HD8 := Lib.hid (HD.out.below hb)
          have HX8 := Lib.hid (Box.new2 w8 (.int .i64 p) (.int .i64 q) 84)
          clear hb
          clear p0 p1 p2 p3 p4 p5 p6 j0 j1 j2 j3 j4
          obtain ⟨⟨p0, p1, p2, p3, p4, p5, p6⟩, hBl⟩ := (HD8.out.alloc (.cells #[.int .i64 p, .int .i64 q] 84)).of7
          obtain ⟨s0, s1, s2, s3, s4⟩ := HX8.out.of2
          simp only at p1 p5
          by_cases hs : f1 = 1
          · have hsb : (f1 == 1) = true := by simpa using hs
            have HXX := Lib.hid (show p = x by rw [← HXV.out]; unfold spotX; rw [if_pos hs, HTV.out, HFBT.out])
            clear hs
            go_wp2_with fail
            go_ret2
            exact ⟨ret_two HXX.out HT.out, HB8.out.alloc (by have := HB8.out.size; omega) _⟩
          · have hsb : (f1 == 1) = false := by simpa using hs
            have HXX := Lib.hid (show max p (q - f5) = x by rw [← HXV.out]; unfold spotX; rw [if_neg hs, HTV.out, HFBT.out])
            clear hs
            go_wp2_with fail
            go_ret2
            exact ⟨ret_two HXX.out HT.out, HB8.out.alloc (by have := HB8.out.size; omega) _⟩
    · have hsk : seekF l f6 f5 a b (n + 1 - 0) y = t := by rw [← HS0.out]; congr 1; unfold startY; rw [HTP.out, if_neg (fun q => htop q.2)]
      have htop2 : tp ≤ y := by omega
      replace startY0 := Lib.hid HY.out.y
      go_wp2_with fail
      have HSK := Lib.hid hsk
      clear hsk
      go_loopw [2, 12, 13, 14] (fun yy i nx ok wr => ∃ (k : Nat) (z : Int), yy = .int .i64 z ∧ i = .int .i64 (k : Int) ∧ k ≤ n + 1 ∧ Hid (NearY z) ∧ Hid (seekF l f6 f5 a b (n + 1 - k) z = t) ∧ Hid (Box wr w.heap.size (encFl ⟨f0, f1, f2, f3, f4, f5, f6⟩)) ∧ Hid (Box wr (w.heap.size + 1) [.int .i64 a, .int .i64 b]) ∧ Hid (Below w.heap.size w wr)) (fun _ i _ _ _ => n + 1 - (intOf i).toNat)
      case atStart => exact ⟨0, _, rfl, rfl, Nat.zero_le _, Lib.hid (startY0.out), HSK, HD, HI, HB⟩
      case round =>
        obtain ⟨k, z, rfl, rfl, hkn, HZ, HSK, HD, HI, HB⟩ := hrel
        by_cases hlt : k ≤ n
        · have hlt2 : (k : Int) ≤ (n : Int) := by omega
          obtain ⟨⟨p', q'⟩, hb1⟩ : ∃ r, bandL l z f6 (a, b) = r := ⟨_, rfl⟩
          obtain ⟨v, hv⟩ : ∃ v, lenW p' q' = v := ⟨_, rfl⟩
          have hbd := bandL_bd HN.out z f6 (a, b) ⟨HAY.out, HBY.out⟩
          rw [hb1] at hbd
          have HC1 := Lib.hid (show ∀ p : OnW wr, Calls Try.prog 50 #[.slice A n c, .int .i64 z, .int .i64 f6, .agg #[.int .i64 a, .int .i64 b]] p.w fun e w' => e = .returned (.agg #[.int .i64 p', .int .i64 q']) ∧ Below p.w.heap.size p.w w' from fun p => rof10_to hb1 HN.out HZ.out HH.out (HA.out.below (below_then HB.out p.h)))
          have HC2 := Lib.hid (show ∀ p : OnW wr, Calls Try.prog 52 #[.agg #[.int .i64 p', .int .i64 q']] p.w fun e w' => e = .returned (.int .i64 v) ∧ Below p.w.heap.size p.w w' from fun p => rlen_to hv hbd.1 hbd.2 _)
          have hf7 := HD.out.of7.1
          simp only at hf7
          obtain ⟨p0, p1, p2, p3, p4, p5, p6⟩ := hf7
          have k5 : ∀ p : OnW wr, p.w.cell? ⟨w.heap.size, 5, none⟩ = some (.int .i64 f5) := OnW.cell p5
          have k6 : ∀ p : OnW wr, p.w.cell? ⟨w.heap.size, 6, none⟩ = some (.int .i64 f6) := OnW.cell p6
          obtain ⟨j0, j1⟩ := OnW.of2 HI.out
          have HBD := Lib.hid hb1
          have HLV := Lib.hid hv
          clear hb1 hv hbd p0 p1 p2 p3 p4 p5 p6
          have HSU := Lib.hid (show seekF l f6 f5 a b (n - k + 1) z = t by rw [← HSK.out]; congr 1; omega)
          by_cases hfit : f5 ≤ v
          · have HT := Lib.hid (show z = t by rw [← HSU.out]; unfold seekF; rw [if_pos (by unfold fitsF; rw [HBD.out]; simp only; rw [HLV.out]; exact decide_eq_true hfit)])
            go_wp2_with fail
            refine wp_region_on (by kernel_rfl) (by kernel_rfl) ?_
            repeat (go_big_quiet_step ((first
              | (go_at_call 50; with_reducible exact Calls.on_of (HC1.out _))
              | (go_at_call 52; with_reducible exact Calls.on_of (HC2.out _)))))
            refine wpQuiet_nil ?_
            intro w5 hw'
            obtain ⟨⟨w6, hOn⟩, hw''⟩ := hw'
            obtain rfl : w5 = w6 := hw''
            have HB := Lib.hid (below_then HB.out hOn)
            have HD := Lib.hid (HD.out.below hOn)
            have HI := Lib.hid (HI.out.below hOn)
            clear hOn k5 k6 j0 j1
            have HFB := Lib.hid (show bandL l z f6 (a, b) = (p, q) by rw [HT.out]; exact HFBT.out)
            have hf7 := HD.out.of7.1
            simp only at hf7
            obtain ⟨p0, p1, p2, p3, p4, p5, p6⟩ := hf7
            obtain ⟨j0, j1, j2, j3, j4⟩ := HI.out.of2
            go_wp2_with fail
            refine (rof10_to HFB.out HN.out (by rw [HT.out]; exact HTY.out) HH.out (HA.out.below HB.out)).mono ?_
            rintro e w8 ⟨rfl, hb⟩
            have HB8 := Lib.hid (below_then HB.out hb)
            have HD8 := Lib.hid (HD.out.below hb)
            have HX8 := Lib.hid (Box.new2 w8 (.int .i64 p) (.int .i64 q) 84)
            clear hb
            clear p0 p1 p2 p3 p4 p5 p6 j0 j1 j2 j3 j4
            obtain ⟨⟨p0, p1, p2, p3, p4, p5, p6⟩, hBl⟩ := (HD8.out.alloc (.cells #[.int .i64 p, .int .i64 q] 84)).of7
            obtain ⟨s0, s1, s2, s3, s4⟩ := HX8.out.of2
            simp only at p1 p5
            by_cases hs : f1 = 1
            · have hsb : (f1 == 1) = true := by simpa using hs
              have HXX := Lib.hid (show p = x by rw [← HXV.out]; unfold spotX; rw [if_pos hs, HTV.out, HFBT.out])
              clear hs
              go_wp2_with fail
              go_ret2
              exact ⟨ret_two HXX.out HT.out, HB8.out.alloc (by have := HB8.out.size; omega) _⟩
            · have hsb : (f1 == 1) = false := by simpa using hs
              have HXX := Lib.hid (show max p (q - f5) = x by rw [← HXV.out]; unfold spotX; rw [if_neg hs, HTV.out, HFBT.out])
              clear hs
              go_wp2_with fail
              go_ret2
              exact ⟨ret_two HXX.out HT.out, HB8.out.alloc (by have := HB8.out.size; omega) _⟩
          · have hfit2 : v < f5 := by omega
            have HNF := Lib.hid (show fitsF l f6 f5 a b z = false by unfold fitsF; rw [HBD.out]; simp only; rw [HLV.out]; exact decide_eq_false hfit)
            obtain ⟨⟨u, ok⟩, hnx⟩ : ∃ r, nextL l z f6 a b = r := ⟨_, rfl⟩
            have HNX := Lib.hid hnx
            have HUY := Lib.hid (show NearY u by have := nextL_bd HN.out z f6 a b; rw [hnx] at this; exact this)
            clear hnx
            go_wp2_with fail
            refine wp_region_on (by kernel_rfl) (by kernel_rfl) ?_
            repeat (go_big_quiet_step ((first
              | (go_at_call 50; with_reducible exact Calls.on_of (HC1.out _))
              | (go_at_call 52; with_reducible exact Calls.on_of (HC2.out _)))))
            refine wpQuiet_nil ?_
            intro w5 hw'
            obtain ⟨⟨w6, hOn⟩, hw''⟩ := hw'
            obtain rfl : w5 = w6 := hw''
            have HB := Lib.hid (below_then HB.out hOn)
            have HD := Lib.hid (HD.out.below hOn)
            have HI := Lib.hid (HI.out.below hOn)
            clear hOn k5 k6 j0 j1
            have hf7 := HD.out.of7.1
            simp only at hf7
            obtain ⟨p0, p1, p2, p3, p4, p5, p6⟩ := hf7
            obtain ⟨j0, j1, j2, j3, j4⟩ := HI.out.of2
            go_wp2_with fail
            refine (rnext_to HNX.out HN.out HZ.out HH.out (HA.out.below HB.out)).mono ?_
            rintro e w7 ⟨rfl, hb⟩
            have HB := Lib.hid (below_then HB.out hb)
            have HD := Lib.hid (HD.out.below hb)
            have HI := Lib.hid (HI.out.below hb)
            clear hb p0 p1 p2 p3 p4 p5 p6 j0 j1 j2 j3 j4
            cases ok with
            | false =>
              have HT := Lib.hid (show z = t by rw [← HSU.out]; unfold seekF; rw [HNF.out, HNX.out]; rfl)
              have HFB := Lib.hid (show bandL l z f6 (a, b) = (p, q) by rw [HT.out]; exact HFBT.out)
              have hf7 := HD.out.of7.1
              simp only at hf7
              obtain ⟨p0, p1, p2, p3, p4, p5, p6⟩ := hf7
              obtain ⟨j0, j1, j2, j3, j4⟩ := HI.out.of2
              go_wp2_with fail
              refine (rof10_to HFB.out HN.out (by rw [HT.out]; exact HTY.out) HH.out (HA.out.below HB.out)).mono ?_
              rintro e w8 ⟨rfl, hb⟩
              have HB8 := Lib.hid (below_then HB.out hb)
              have HD8 := Lib.hid (HD.out.below hb)
              have HX8 := Lib.hid (Box.new2 w8 (.int .i64 p) (.int .i64 q) 84)
              clear hb
              clear p0 p1 p2 p3 p4 p5 p6 j0 j1 j2 j3 j4
              obtain ⟨⟨p0, p1, p2, p3, p4, p5, p6⟩, hBl⟩ := (HD8.out.alloc (.cells #[.int .i64 p, .int .i64 q] 84)).of7
              obtain ⟨s0, s1, s2, s3, s4⟩ := HX8.out.of2
              simp only at p1 p5
              by_cases hs : f1 = 1
              · have hsb : (f1 == 1) = true := by simpa using hs
                have HXX := Lib.hid (show p = x by rw [← HXV.out]; unfold spotX; rw [if_pos hs, HTV.out, HFBT.out])
                clear hs
                go_wp2_with fail
                go_ret2
                exact ⟨ret_two HXX.out HT.out, HB8.out.alloc (by have := HB8.out.size; omega) _⟩
              · have hsb : (f1 == 1) = false := by simpa using hs
                have HXX := Lib.hid (show max p (q - f5) = x by rw [← HXV.out]; unfold spotX; rw [if_neg hs, HTV.out, HFBT.out])
                clear hs
                go_wp2_with fail
                go_ret2
                exact ⟨ret_two HXX.out HT.out, HB8.out.alloc (by have := HB8.out.size; omega) _⟩
            | true =>
              have HS2 := Lib.hid (show seekF l f6 f5 a b (n + 1 - (k + 1)) u = t by
                have hst : seekF l f6 f5 a b (n - k + 1) z = seekF l f6 f5 a b (n - k) u := by rw [seekF, HNF.out, HNX.out]; rfl
                rw [← HSU.out, hst, show n + 1 - (k + 1) = n - k by omega])
              go_wp2_with fail
              go_roundw
              case rel => exact ⟨k + 1, u, rfl, by go_num, by omega, HUY, HS2, HD, HI, HB⟩
              case measure => simp [intOf] <;> omega
        · have hge : (n : Int) < (k : Int) := by omega
          have HT := Lib.hid (show z = t by rw [← HSK.out, show n + 1 - k = 0 by omega]; rfl)
          have HFB := Lib.hid (show bandL l z f6 (a, b) = (p, q) by rw [HT.out]; exact HFBT.out)
          have hf7 := HD.out.of7.1
          simp only at hf7
          obtain ⟨p0, p1, p2, p3, p4, p5, p6⟩ := hf7
          obtain ⟨j0, j1, j2, j3, j4⟩ := HI.out.of2
          go_wp2_with fail
          refine (rof10_to HFB.out HN.out (by rw [HT.out]; exact HTY.out) HH.out (HA.out.below HB.out)).mono ?_
          rintro e w8 ⟨rfl, hb⟩
          have HB8 := Lib.hid (below_then HB.out hb)
          have HD8 := Lib.hid (HD.out.below hb)
          have HX8 := Lib.hid (Box.new2 w8 (.int .i64 p) (.int .i64 q) 84)
          clear hb
          clear p0 p1 p2 p3 p4 p5 p6 j0 j1 j2 j3 j4
          obtain ⟨⟨p0, p1, p2, p3, p4, p5, p6⟩, hBl⟩ := (HD8.out.alloc (.cells #[.int .i64 p, .int .i64 q] 84)).of7
          obtain ⟨s0, s1, s2, s3, s4⟩ := HX8.out.of2
          simp only at p1 p5
          by_cases hs : f1 = 1
          · have hsb : (f1 == 1) = true := by simpa using hs
            have HXX := Lib.hid (show p = x by rw [← HXV.out]; unfold spotX; rw [if_pos hs, HTV.out, HFBT.out])
            clear hs
            go_wp2_with fail
            go_ret2
            exact ⟨ret_two HXX.out HT.out, HB8.out.alloc (by have := HB8.out.size; omega) _⟩
          · have hsb : (f1 == 1) = false := by simpa using hs
            have HXX := Lib.hid (show max p (q - f5) = x by rw [← HXV.out]; unfold spotX; rw [if_neg hs, HTV.out, HFBT.out])
            clear hs
            go_wp2_with fail
            go_ret2
            exact ⟨ret_two HXX.out HT.out, HB8.out.alloc (by have := HB8.out.size; omega) _⟩
end Go.Proofs.Ytipmdhfinlkceaa
