import Derived.Test.YtideikbijjheeaaPlaceFns2
/- The program's function of package place that moves a search down until it has room, or nothing is in its way. -/
namespace Go.Proofs.Ytideikbijjheeaa
open Go.RowKit
set_option linter.unusedVariables false
set_option linter.unusedSimpArgs false
/-- where the search in block m stands. -/
def yAt (m : Nat) (w : World) : Int := match w.cell? ⟨m, 4, none⟩ with
  | some (.int _ z) => z
  | _ => 0
theorem yAt_of {w : World} {m : Nat} {f0 f1 f2 x y f5 f6 : Int} {A : Option Addr} {n c : Nat} {a b : Int} (h : Box w m (srch f0 f1 f2 x y f5 f6 A n c a b)) : yAt m w = y := by
  unfold yAt
  rw [(srch_of h).1.2.2.2.2.1]
set_option maxHeartbeats 8000000 in
theorem down_to11 {l : List Fl} {f0 f1 f2 x y t f5 f6 a b : Int} (hv : seekE l f6 f5 a b y = t) (hn : ∀ f ∈ l, f.near) (hy : NearY y) (hh : NearI f6) (ha : NearI a) (hb : NearI b) {A : Option Addr} {n c m : Nat} {w0 w : World} (h : Rows 7 encFl w0 A n l) (hB : Below w0.heap.size w0 w) (hX : Box w m (srch f0 f1 f2 x y f5 f6 A n c a b)) (hm : w0.heap.size ≤ m) :
    Calls Try.prog 19 #[.pointer (some ⟨m, 0, none⟩)] w fun e w' => e = .returned (.tuple #[]) ∧ Box w' m (srch f0 f1 f2 x t f5 f6 A n c a b) ∧ Below w0.heap.size w0 w' := by
  have HV := Lib.hid hv
  have HN := Lib.hid hn
  have HY := Lib.hid hy
  have HH := Lib.hid hh
  have HAY := Lib.hid ha.y
  have HBY := Lib.hid hb.y
  have HA := Lib.hid h
  have HB := Lib.hid hB
  have HX := Lib.hid hX
  clear hv hn hy hh ha hb h hB hX
  go_enter Try.func19, Try.ntmps19
  go_wp2_with fail
  go_loopw [2, 3] (fun nx ok wr => ∃ z, Hid (NearY z) ∧ Hid (seekE l f6 f5 a b z = t) ∧ Hid (Box wr m (srch f0 f1 f2 x z f5 f6 A n c a b)) ∧ Hid (Below w0.heap.size w0 wr)) (fun _ _ wr => cntA l (yAt m wr))
  case atStart => exact ⟨y, HY, HV, HX, HB⟩
  case round =>
    obtain ⟨z, HZ, HSK, HD, HB⟩ := hrel
    obtain ⟨⟨p, q⟩, hb1⟩ : ∃ r, bandL l z f6 (a, b) = r := ⟨_, rfl⟩
    obtain ⟨v, hv⟩ : ∃ v, lenW p q = v := ⟨_, rfl⟩
    have hbd := bandL_bd HN.out z f6 (a, b) ⟨HAY.out, HBY.out⟩
    rw [hb1] at hbd
    have HC1 := Lib.hid (show ∀ p' : OnW wr, Calls Try.prog 25 #[.pointer (some ⟨m, 0, none⟩)] p'.w fun e w' => e = .returned (.agg #[.int .i64 p, .int .i64 q]) ∧ Below p'.w.heap.size p'.w w' from fun p' => band_to hb1 HN.out HZ.out HH.out (HA.out.below (below_then HB.out p'.h)) (HD.out.below p'.h))
    have HC2 := Lib.hid (show ∀ p' : OnW wr, Calls Try.prog 24 #[.agg #[.int .i64 p, .int .i64 q]] p'.w fun e w' => e = .returned (.int .i64 v) ∧ Below p'.w.heap.size p'.w w' from fun p' => plen_to hv hbd.1 hbd.2 _)
    have hfz : fitsF l f6 f5 a b z = decide (f5 ≤ v) := by unfold fitsF; rw [hb1]; simp only; rw [hv]
    have k5 := OnW.cell (srch_of HD.out).1.2.2.2.2.2.1
    clear hb1 hv hbd
    by_cases hfit : f5 ≤ v
    · have HT := Lib.hid (show z = t by rw [← HSK.out, seekE_fits (by rw [hfz]; exact decide_eq_true hfit)])
      clear hfz
      go_wp2_with fail
      refine wp_region_on (by kernel_rfl) (by kernel_rfl) ?_
      repeat (go_big_quiet_step ((first
        | (go_at_call 25; with_reducible exact Calls.on_of (HC1.out _))
        | (go_at_call 24; with_reducible exact Calls.on_of (HC2.out _)))))
      refine wpQuiet_nil ?_
      intro w5 hw'
      obtain ⟨⟨w6, hOn⟩, hw''⟩ := hw'
      obtain rfl : w5 = w6 := hw''
      have HB5 := Lib.hid (below_then HB.out hOn)
      have HD5 := Lib.hid (HD.out.below hOn)
      clear hOn k5
      go_wp2_with fail
      go_end0
      exact ⟨rfl, by rw [← HT.out]; exact HD5.out, HB5.out⟩
    · have hfit2 : v < f5 := by omega
      have HNF := Lib.hid (show fitsF l f6 f5 a b z = false by rw [hfz]; exact decide_eq_false hfit)
      obtain ⟨⟨u, ok⟩, hnx⟩ : ∃ r, nextL l z f6 a b = r := ⟨_, rfl⟩
      have HNX := Lib.hid hnx
      have HUY := Lib.hid (show NearY u by have := nextL_bd HN.out z f6 a b; rw [hnx] at this; exact this)
      clear hnx hfz hfit
      go_wp2_with fail
      refine wp_region_on (by kernel_rfl) (by kernel_rfl) ?_
      repeat (go_big_quiet_step ((first
        | (go_at_call 25; with_reducible exact Calls.on_of (HC1.out _))
        | (go_at_call 24; with_reducible exact Calls.on_of (HC2.out _)))))
      refine wpQuiet_nil ?_
      intro w5 hw'
      obtain ⟨⟨w6, hOn⟩, hw''⟩ := hw'
      obtain rfl : w5 = w6 := hw''
      have HB5 := Lib.hid (below_then HB.out hOn)
      have HD5 := Lib.hid (HD.out.below hOn)
      clear hOn k5
      go_wp2_with fail
      have HC3 := Lib.hid (show ∀ p' : OnW w5, Calls Try.prog 26 #[.slice A n c, .int .i64 z, .int .i64 f6, .agg #[.int .i64 a, .int .i64 b]] p'.w fun e w' => e = .returned (.tuple #[.int .i64 u, .bool ok]) ∧ Below p'.w.heap.size p'.w w' from fun p' => bnext_to HNX.out HN.out HZ.out HH.out (HA.out.below (below_then HB5.out p'.h)))
      obtain ⟨⟨p0, p1, p2, p3, p4, p5, p6⟩, ⟨p7, p8, p9⟩, p10, p11⟩ := srch_of HD5.out
      have k4 := OnW.cell p4
      have k6 := OnW.cell p6
      have k7 := OnW.cell p7
      have k8 := OnW.cell p8
      have k9 := OnW.cell p9
      clear p0 p1 p2 p3 p4 p5 p6 p7 p8 p9 p10 p11
      refine wp_region_on (by kernel_rfl) (by kernel_rfl) ?_
      repeat (go_big_quiet_step ((first
        | (go_at_call 26; with_reducible exact Calls.on_of (HC3.out _)))))
      refine wpQuiet_nil ?_
      intro w7 hw'
      obtain ⟨⟨w8, hOn⟩, hw''⟩ := hw'
      obtain rfl : w7 = w8 := hw''
      have HB7 := Lib.hid (below_then HB5.out hOn)
      have HD7 := Lib.hid (HD5.out.below hOn)
      clear hOn k4 k6 k7 k8 k9 HB5 HD5 HC1 HC2 HC3
      cases ok with
      | false =>
        have HT := Lib.hid (show z = t by rw [← HSK.out, seekE_none HNF.out (by rw [HNX.out])])
        go_wp2_with fail
        exact bodyPost_ret (v := .tuple #[]) (by simp [results, Try.results19, go_sem]) rfl ⟨rfl, by rw [← HT.out]; exact HD7.out, HB7.out⟩
      | true =>
        have HS2 := Lib.hid (show seekE l f6 f5 a b u = t by
          have := seekE_next HNF.out (by rw [HNX.out])
          rw [HNX.out] at this
          rw [← this]; exact HSK.out)
        have HCN := Lib.hid (show cntA l u < cntA l z by
          have := cnt_next (l := l) (y := z) (h := f6) (a := a) (b := b) (by rw [HNX.out])
          rw [HNX.out] at this; exact this)
        obtain ⟨⟨p0, p1, p2, p3, p4, p5, p6⟩, ⟨p7, p8, p9⟩, p10, p11⟩ := srch_of HD7.out
        go_wp2_with fail
        have HD8 := Lib.hid (show Box (w7.setCell ⟨m, 4, none⟩ (.int .i64 u)) m (srch f0 f1 f2 x u f5 f6 A n c a b) from HD7.out.set 4 (.int .i64 u) (by simp [srch]))
        go_roundw
        case rel => exact ⟨u, HUY, HS2, HD8, Lib.hid (HB7.out.setCell hm _)⟩
        case measure => rw [yAt_of HD8.out, yAt_of HD.out]; exact HCN.out
end Go.Proofs.Ytideikbijjheeaa
