import Derived.Test.YtkbpiekmphcdnaaRectLaws
/- The walk of the law RectRows. -/
namespace Go.Proofs.Ytkbpiekmphcdnaa
open Go.RowKit
set_option linter.unusedVariables false
set_option linter.unusedSimpArgs false
theorem enc_oneR (zs : List Rc) : ∀ u ∈ zs.flatMap encR, u.oneCell' = true := by
  intro u hu
  obtain ⟨z, _, h⟩ := List.mem_flatMap.1 hu
  unfold encR at h
  simp at h
  rcases h with rfl | rfl | rfl | rfl <;> rfl
theorem tdiv_neg {h high : Int} (h1 : h < 0) (h2 : 0 < high) : h ≤ h.tdiv high ∧ h.tdiv high ≤ 0 := by
  have e : h.tdiv high = -((-h) / high) := by
    rw [show h = -(-h) by omega, Int.neg_tdiv, Int.tdiv_eq_ediv_of_nonneg (by omega), Int.neg_neg]
  have k0 := Int.ediv_nonneg (show 0 ≤ -h by omega) (show 0 ≤ high by omega)
  have k1 := Int.ediv_le_self high (show 0 ≤ -h by omega)
  rw [e]; omega
set_option maxRecDepth 100000 in
set_option maxHeartbeats 4000000 in
theorem rectrows_law (A : Option Addr) (n c : Nat) (zs : List Rc) (x : Int) (_ : -9223372036854775808 ≤ x ∧ x ≤ 9223372036854775807) (y : Int) (_ : -9223372036854775808 ≤ y ∧ y ≤ 9223372036854775807) (w : Int) (_ : -9223372036854775808 ≤ w ∧ w ≤ 9223372036854775807) (h : Int) (_ : -9223372036854775808 ≤ h ∧ h ≤ 9223372036854775807) (high : Int) (hhb : -9223372036854775808 ≤ high ∧ high ≤ 9223372036854775807) (w0 : World) (hz : Rows 4 encR w0 A n zs) :
    Calls Try.prog 7 #[.slice A n c, .agg #[.int .i64 x, .int .i64 y, .int .i64 w, .int .i64 h], .int .i64 high] w0 fun e w' => e = .returned (.bool true) ∧ Below w0.heap.size w0 w' := by
  obtain ⟨i0, hi0, hz0, hz1, hz2⟩ := info_parts rect_info
  have hn := hz.2.1
  have HL := Lib.hid hz.1
  have HZ := Lib.hid hz
  clear hz
  by_cases hbig : 40 < n
  · go_enter Try.func7, Try.ntmps7
    go_wp2_with (go_at_call 26; refine (rawake_any _).mono ?_; rintro e w' ⟨rfl, hbw⟩)
    go_ret
    exact ⟨rfl, below_then (by go_grown) hbw⟩
  by_cases hN : NearR ⟨x, y, w, h⟩
  case neg =>
    go_enter Try.func7, Try.ntmps7
    go_wp2_with fail
    refine (rnear_no hN _).mono ?_
    rintro e w1 ⟨rfl, hb1⟩
    go_wp2_with (go_at_call 26; refine (rawake_any _).mono ?_; rintro e w' ⟨rfl, hbw⟩)
    go_ret
    exact ⟨rfl, below_then (below_then (by go_grown) hb1) hbw⟩
  have HN := Lib.hid hN
  have hh1 : -1152921504606846976 ≤ h ∧ h ≤ 1152921504606846976 := hN.2.2.2
  clear hN
  have hcase : (1152921504606846976 < high) ∨ (0 < high ∧ high ≤ 1152921504606846976 ∧ 0 ≤ h ∧ (0 ≤ h / high ∧ h / high ≤ h) ∧ 2000 < h / high ∧ h / high < 40000) ∨ (high ≤ 0) ∨ (0 < high ∧ high ≤ 1152921504606846976 ∧ h < 0 ∧ (h ≤ h.tdiv high ∧ h.tdiv high ≤ 0)) ∨
      (0 < high ∧ high ≤ 1152921504606846976 ∧ 0 ≤ h ∧ (0 ≤ h / high ∧ h / high ≤ h) ∧ h / high ≤ 2000) ∨ (0 < high ∧ high ≤ 1152921504606846976 ∧ 0 ≤ h ∧ (0 ≤ h / high ∧ h / high ≤ h) ∧ 40000 ≤ h / high) := by
    by_cases c1 : 1152921504606846976 < high
    · exact .inl c1
    by_cases c2 : high ≤ 0
    · exact .inr (.inr (.inl c2))
    by_cases c3 : h < 0
    · exact .inr (.inr (.inr (.inl ⟨by omega, by omega, c3, tdiv_neg c3 (by omega)⟩)))
    have g : 0 ≤ h / high ∧ h / high ≤ h := ⟨Int.ediv_nonneg (by omega) (by omega), Int.ediv_le_self high (by omega)⟩
    by_cases c4 : h / high ≤ 2000
    · exact .inr (.inr (.inr (.inr (.inl ⟨by omega, by omega, by omega, g, c4⟩))))
    by_cases c5 : 40000 ≤ h / high
    · exact .inr (.inr (.inr (.inr (.inr ⟨by omega, by omega, by omega, g, c5⟩))))
    exact .inr (.inl ⟨by omega, by omega, by omega, g, by omega, by omega⟩)
  rcases hcase with hc | ⟨hc, hc1, hc2, ⟨g1, g2⟩, hc3, hc4⟩ | hc | ⟨hc, hc1, hc2, g1, g2⟩ | ⟨hc, hc1, hc2, ⟨g1, g2⟩, hc3⟩ | ⟨hc, hc1, hc2, ⟨g1, g2⟩, hc3⟩
  all_goals
    go_enter Try.func7, Try.ntmps7
    go_wp2_with fail
    refine (rnear_yes HN.out _).mono ?_
    rintro e W ⟨rfl, hb⟩
    have hA := (Box.new4 w0 (.int .i64 x) (.int .i64 y) (.int .i64 w) (.int .i64 h) 41).below hb
    have HB := Lib.hid (below_then (by go_grown) hb : Below w0.heap.size w0 W)
    have HZ1 := Lib.hid (HZ.out.below HB.out)
    clear hb
    obtain ⟨⟨a0, a1, a2, a3⟩, ⟨f0, f1, f2, f3⟩, a5⟩ := hA.of4
  · go_wp2_with (go_at_call 26; refine (rawake_any _).mono ?_; rintro e w' ⟨rfl, hbw⟩)
    go_ret
    exact ⟨rfl, below_then HB.out hbw⟩
  · go_wp2_with (go_at_call 26; refine (rawake_any _).mono ?_; rintro e w' ⟨rfl, hbw⟩)
    go_ret
    exact ⟨rfl, below_then HB.out hbw⟩
  all_goals
    go_wp2_with fail
    clear a0 a1 a2 a3 a5 f0 f1 f2 f3
    have HNot : ∀ z, z ∈ zs.take 0 → NearR z := fun z hz => by simp at hz
    go_loopw [7] (fun i wr => ∃ k : Nat, k ≤ n ∧ i = .int .i64 k ∧ (∀ z, z ∈ zs.take k → NearR z) ∧ On W wr) (fun i _ => n - (intOf i).toNat)
    case atStart => exact ⟨0, by omega, rfl, HNot, On.refl _⟩
    case round =>
      obtain ⟨k, hk, rfl, hnr, hOn⟩ := hrel
      have HNr := Lib.hid hnr
      have HOn := Lib.hid hOn
      clear hnr hOn HNot
      obtain ⟨wo, rfl⟩ : ∃ wo : World, wo = wr := ⟨_, rfl⟩
      by_cases hlt : k < n
      · obtain ⟨bl, off, p', q', u', v', rfl, hbl, hx, HC⟩ := rects_get HZ1.out hlt
        have HX := Lib.hid hx
        clear hx
        obtain ⟨⟨c0, c1, c2, c3⟩, c4⟩ := HC.out wo HOn.out
        go_wp2_with fail
        by_cases hN2 : NearR ⟨p', q', u', v'⟩
        case neg =>
          refine (rnear_no hN2 _).mono ?_
          rintro e w1 ⟨rfl, hb1⟩
          have HOn2 := Lib.hid (HOn.out.step hb1)
          clear hb1 c0 c1 c2 c3 c4
          go_wp2_with (go_at_call 26; refine (rawake_any _).mono ?_; rintro e w' ⟨rfl, hbw⟩)
          go_ret
          exact ⟨rfl, below_then (below_then HB.out HOn2.out) hbw⟩
        case pos =>
          have hnr2 : ∀ z, z ∈ zs.take (k + 1) → NearR z := fun z hz => by
            rw [take_snoc HX.out] at hz
            rcases List.mem_append.1 hz with h1 | h1
            · exact HNr.out z h1
            · obtain rfl := List.mem_singleton.1 h1; exact hN2
          have HNr2 := Lib.hid hnr2
          have HN2 := Lib.hid hN2
          clear hnr2 hN2
          refine (rnear_yes HN2.out _).mono ?_
          rintro e w2 ⟨rfl, hb2⟩
          have HOn2 := Lib.hid (HOn.out.step hb2)
          clear hb2 c0 c1 c2 c3 c4
          go_wp2_with fail
          go_roundw
          case rel => exact ⟨k + 1, by omega, by go_num, HNr2.out, HOn2.out⟩
          case measure => simp [intOf]; omega
      · have hall := HNr.out
        rw [List.take_of_length_le (by rw [HL.out]; omega)] at hall
        have HAll := Lib.hid hall
        rcases hv : hullR zs with ⟨p, q, u, v⟩
        have HV := Lib.hid hv
        have HO : Hid ((wo.alloc (.cells #[] 41)).ownsRow wo.heap.size 41 4 (.slice (some ⟨wo.heap.size, 0, none⟩) 0 0) 0 []) := World.ownsRow_made wo (base := wo.heap.size) (e := 41) (size := 4) #[] 0 (by simp) (by decide) rfl
        have HC : Hid (Cells (wo.alloc (.cells #[] 41)) A n 4 (zs.flatMap encR)) := ((HZ1.out.on HOn.out).below (by go_grown)).cells encR_len (by decide)
        clear hall hv
        go_wp2_with (at_builtin; refine wpList_append_cells _ rfl (.tmp 53) (.tmp 54) _ rfl wo.heap.size 41 i0 (.agg #[.int .i64 0, .int .i64 0, .int .i64 0, .int .i64 0]) 4 32 Try.underlying39 hi0 hz0 hz1 hz2 rfl (by decide) _ 0 [] rfl HO.out A n c _ rfl HC.out (enc_oneR _) (by unfold maxLen; omega) (by omega) (by simp) ?_; intro A1 c1 w1 hown1 hg1)
        simp only [Nat.zero_add, List.nil_append] at hown1
        have hb1 : Below wo.heap.size _ w1 := (Below.refl _ _).grown hg1 (by simp) (owns_block HO.out)
        have hon1 : On wo w1 := (show Below wo.heap.size wo _ by go_grown).trans hb1
        have hA1 := On.box hA w1 (below_then HOn.out hon1)
        have HB1 := Lib.hid (below_then (below_then HB.out HOn.out) hon1)
        have HI1 := Lib.hid (ownsRow_rows (enc := encR) encR_len (by decide) hown1)
        have HI := Lib.hid (HZ1.out.on (below_then HOn.out hon1))
        clear hown1 hg1 hb1 hon1 HO HC
        obtain ⟨k0, k1, k2, k3⟩ := On.of4 hA1
        go_wp2_with fail
        go_region_held3 (fun W' => On w1 W') (first | exact (On.refl _).drew | exact On.step (by assumption) hb) (first
          | (go_at_call 27; ((with_reducible refine (recthull_any _ _ _ zs _ (HI1.out.on (by assumption)) HAll.out p q u v HV.out).mono ?_); rintro e w2 ⟨rfl, hb⟩))
          | (go_at_call 28; ((with_reducible refine (refhull_any _ _ _ zs _ (HI.out.on (by assumption)) HAll.out p q u v HV.out).mono ?_); rintro e w2 ⟨rfl, hb⟩))
          | (go_at_call 30; ((with_reducible refine (rectslices_any _ _ _ _ _ HN.out hhb _).mono ?_); rintro e w2 ⟨A2, n2, c2, rfl, hRa, hb⟩))
          | (go_at_call 31; ((with_reducible refine (refslices_any _ _ _ _ _ HN.out hhb _).mono ?_); rintro e w2 ⟨A3, n3, c3, rfl, hRb, hb⟩; have hRa2 := hRa.below hb))
          | (go_at_call 29; ((with_reducible refine (rsame_any _ _ _ _ _ _ _ _ hRa2 hRb).mono ?_); rintro e w2 ⟨rfl, hb⟩))
          | (go_at_call 29; ((with_reducible refine (rsame_any _ _ _ _ _ _ zs _ (HI1.out.on (by assumption)) (HI.out.on (by assumption))).mono ?_); rintro e w2 ⟨rfl, hb⟩))
          | (go_at_call 26; ((with_reducible refine (rawake_any _).mono ?_); rintro e w2 ⟨rfl, hb⟩)))
        rename_i hOn2
        go_wp2_with fail
        go_ret
        exact ⟨rfl, below_then HB1.out hOn2⟩
end Go.Proofs.Ytkbpiekmphcdnaa
