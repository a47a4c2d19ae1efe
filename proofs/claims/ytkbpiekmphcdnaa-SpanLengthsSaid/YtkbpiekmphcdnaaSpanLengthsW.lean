import Derived.BigQuiet
import Derived.Deep.RegionHeld3
import Derived.Test.YtkbpiekmphcdnaaSpanLengthsMath
/- The walk of the law SpanLengths. -/
namespace Go.Proofs.Ytkbpiekmphcdnaa
open Go.RowKit
set_option linter.unusedVariables false
set_option linter.unusedSimpArgs false
set_option maxRecDepth 100000 in
set_option maxHeartbeats 4000000 in
theorem lengths_law (a : Int) (_ : -9223372036854775808 ≤ a ∧ a ≤ 9223372036854775807) (b : Int) (_ : -9223372036854775808 ≤ b ∧ b ≤ 9223372036854775807) (A : Option Addr) (n c : Nat) (zs : List Sp) (_ : ∀ z ∈ zs, (Lit.int .i64 z.1).wf = true ∧ (Lit.int .i64 z.2).wf = true) (w : World) (hz : Rows 2 encS w A n zs) :
    Calls Try.prog 6 #[.agg #[.int .i64 a, .int .i64 b], .slice A n c] w fun e w' => e = .returned (.bool true) ∧ Below w.heap.size w w' := by
  have hn := hz.2.1
  have HL := Lib.hid hz.1
  have HZ := Lib.hid hz
  clear hz
  by_cases hbig : 60 < n
  · go_enter Try.func6, Try.ntmps6
    go_wp2_with (go_at_call 19; refine (awake_any _).mono ?_; rintro e w' ⟨rfl, hbw⟩)
    go_ret
    exact ⟨rfl, below_then (by go_grown) hbw⟩
  by_cases hN : Near a ∧ Near b
  case neg =>
    go_enter Try.func6, Try.ntmps6
    go_wp2_with fail
    refine (near_no _ _ _ hN).mono ?_
    rintro e w1 ⟨rfl, hb1⟩
    go_wp2_with (go_at_call 19; refine (awake_any _).mono ?_; rintro e w' ⟨rfl, hbw⟩)
    go_ret
    exact ⟨rfl, below_then (below_then (by go_grown) hb1) hbw⟩
  case pos =>
    obtain ⟨hNa, hNb⟩ := hN
    have HNA := Lib.hid hNa
    have HNB := Lib.hid hNb
    have hle := lenS_le (s := (a, b)) hNa hNb
    obtain ⟨top, htop⟩ : ∃ top, lenS (a, b) = top := ⟨_, rfl⟩
    have HTop := Lib.hid htop
    rw [htop] at hle
    clear hNa hNb htop
    go_enter Try.func6, Try.ntmps6
    go_wp2_with fail
    refine (near_yes _ _ _ HNA.out HNB.out).mono ?_
    rintro e W ⟨rfl, hb⟩
    have hA := (Box.new2 w (.int .i64 a) (.int .i64 b) 23).below hb
    have HB := Lib.hid (below_then (by go_grown) hb : Below w.heap.size w W)
    have HZ1 := Lib.hid (HZ.out.below HB.out)
    clear hb
    go_wp2_with fail
    go_loopw [5, 6] (fun v i wr => ∃ (k : Nat) (t : Int), k ≤ n ∧ i = .int .i64 k ∧ v = .int .i64 t ∧ sumMet (a, b) (zs.take k) = t ∧ ApartL (zs.take k) ∧ On W wr) (fun _ i _ => n - (intOf i).toNat)
    case atStart => exact ⟨0, 0, by omega, rfl, rfl, rfl, List.Pairwise.nil, On.refl _⟩
    case round =>
      obtain ⟨k, t, hk, rfl, rfl, hs, hap, hOn⟩ := hrel
      obtain ⟨ht0, ht1⟩ := sumMet_bound (s := (a, b)) hap
      rw [hs] at ht0 ht1
      rw [HTop.out] at ht1
      have HS := Lib.hid hs
      have HAp := Lib.hid hap
      have HOn := Lib.hid hOn
      clear hs hap hOn
      obtain ⟨wo, rfl⟩ : ∃ wo : World, wo = wr := ⟨_, rfl⟩
      by_cases hlt : k < n
      · obtain ⟨bl, off, p, q, rfl, hbl, hx, HC⟩ := rows_get HZ1.out hlt
        have HX := Lib.hid hx
        clear hx
        obtain ⟨c0, c1, c2⟩ := HC.out wo HOn.out
        go_wp2_with fail
        by_cases hN2 : Near p ∧ Near q
        case neg =>
          refine (near_no _ _ _ hN2).mono ?_
          rintro e w1 ⟨rfl, hb1⟩
          have HOn2 := Lib.hid (HOn.out.step hb1)
          clear hb1 c0 c1 c2
          go_wp2_with (go_at_call 19; refine (awake_any _).mono ?_; rintro e w' ⟨rfl, hbw⟩)
          go_ret
          exact ⟨rfl, below_then (below_then HB.out HOn2.out) hbw⟩
        case pos =>
          obtain ⟨hNp, hNq⟩ := hN2
          have HNP := Lib.hid hNp
          have HNQ := Lib.hid hNq
          clear hNp hNq
          refine (near_yes _ _ _ HNP.out HNQ.out).mono ?_
          rintro e w2 ⟨rfl, hb2⟩
          have HOn2 := Lib.hid (HOn.out.step hb2)
          clear hb2 c0 c1 c2
          go_wp2_with fail
          go_loopw [7] (fun i wr => ∃ j : Nat, j ≤ k ∧ i = .int .i64 j ∧ (∀ m y, m < j → zs[m]? = some y → meetS (p, q) y = (0, 0)) ∧ On w2 wr) (fun i _ => k - (intOf i).toNat)
          case atStart => exact ⟨0, by omega, rfl, fun _ _ h => absurd h (by omega), On.refl _⟩
          case round =>
            obtain ⟨j, hj, rfl, hq, hOn3⟩ := hrel
            have HQ := Lib.hid hq
            have HOn3 := Lib.hid (below_then HOn2.out hOn3 : On W wr)
            have HOn4 := Lib.hid hOn3
            clear hq hOn3
            obtain ⟨w3, rfl⟩ : ∃ w3 : World, w3 = wr := ⟨_, rfl⟩
            by_cases hjk : j < k
            · obtain ⟨bl2, off2, p2, q2, e2, hbl2, hx2, HC2⟩ := rows_get HZ1.out (i := j) (by omega)
              simp only [Option.some.injEq, Addr.mk.injEq] at e2
              obtain ⟨eb, eo, _⟩ := e2
              subst eb eo
              have HX2 := Lib.hid hx2
              have HD : Hid (∀ p_ : OnW w3, (p_.w.cell? ⟨bl, off + k * 2, none⟩ = some (.int .i64 p) ∧ p_.w.cell? ⟨bl, off + k * 2 + 1, none⟩ = some (.int .i64 q)) ∧ p_.w.cell? ⟨bl, off + j * 2, none⟩ = some (.int .i64 p2) ∧ p_.w.cell? ⟨bl, off + j * 2 + 1, none⟩ = some (.int .i64 q2)) := fun p_ => by
                obtain ⟨x1, x2, _⟩ := HC.out p_.w (below_then HOn3.out p_.h)
                obtain ⟨x3, x4, _⟩ := HC2.out p_.w (below_then HOn3.out p_.h)
                exact ⟨⟨x1, x2⟩, x3, x4⟩
              have d0 := fun p_ => (HD.out p_).1.1
              have d1 := fun p_ => (HD.out p_).1.2
              have d2 := fun p_ => (HD.out p_).2.1
              have d3 := fun p_ => (HD.out p_).2.2
              have hj1 : (0 : Int) ≤ (j : Int) := by omega
              have hj2 : (j : Int) < (n : Int) := by omega
              have hk1 : (0 : Int) ≤ (k : Int) := by omega
              have hk2 : (k : Int) < (n : Int) := by omega
              obtain ⟨v, hv⟩ : ∃ v, decide (meetS (p, q) (p2, q2) = (0, 0)) = v := ⟨_, rfl⟩
              have HV := Lib.hid hv
              clear hv hx2
              cases v
              all_goals
                go_wp2_with fail
                refine wp_region_on (by kernel_rfl) (by kernel_rfl) ?_
                repeat (go_big_quiet_step ((go_at_call 16; with_reducible exact Calls.on_of (apart_to HV.out _))))
                refine wpQuiet_nil ?_
                intro w7 hw'
                obtain ⟨⟨w', hOn7⟩, hw''⟩ := hw'
                obtain rfl : w7 = w' := hw''
                have HOn7 := Lib.hid (On.step (W := w2) HOn4.out hOn7)
                clear hOn7 d0 d1 d2 d3
              · go_wp2_with (go_at_call 19; refine (awake_any _).mono ?_; rintro e w' ⟨rfl, hbw⟩)
                go_ret
                exact ⟨rfl, below_then (below_then (below_then HB.out HOn2.out) HOn7.out) hbw⟩
              · have hq2 : ∀ m y, m < j + 1 → zs[m]? = some y → meetS (p, q) y = (0, 0) := fun m y hm hy => by
                  rcases (show m < j ∨ m = j by omega) with h | h
                  · exact HQ.out m y h hy
                  · subst h
                    rw [HX2.out] at hy
                    injection hy with hy
                    subst hy
                    exact of_decide_eq_true HV.out
                have HQ2 := Lib.hid hq2
                clear hq2
                go_wp2_with fail
                go_roundw
                case rel => exact ⟨j + 1, by omega, by go_num, HQ2.out, HOn7.out⟩
                case measure => simp [intOf]; omega
            · obtain rfl : j = k := by omega
              have hapn := apart_snoc HX.out HAp.out (fun m y hm hy => HQ.out m y hm hy)
              obtain ⟨hu0, hu1⟩ := sumMet_bound (s := (a, b)) hapn
              have HAp2 := Lib.hid hapn
              rcases hme : meetS (a, b) (p, q) with ⟨mx, my⟩
              obtain ⟨hNx, hNy⟩ := meet_near hme HNA.out HNB.out HNP.out HNQ.out
              have hz := len_zero (meetS_ok (a, b) (p, q))
              have hsn := sumMet_snoc (s := (a, b)) HX.out
              rw [HS.out] at hsn
              rw [hme] at hz hsn
              obtain ⟨le, hle2⟩ : ∃ le, lenS (mx, my) = le := ⟨_, rfl⟩
              obtain ⟨v, hv⟩ : ∃ v, decide (meetS (a, b) (p, q) = (0, 0)) = v := ⟨_, rfl⟩
              rw [hle2] at hz hsn
              rw [← hme, hv] at hz
              rw [hsn] at hu0 hu1
              rw [HTop.out] at hu1
              have hl0 : 0 ≤ le := by rw [← hle2]; exact lenS_nonneg _
              rcases hhe : hullL [(a, b), (p, q)] with ⟨hx, hy⟩
              obtain ⟨hw1, hw2⟩ := within_hull1 hhe
              have HMe := Lib.hid hme
              have HNX := Lib.hid hNx
              have HNY := Lib.hid hNy
              have HLe := Lib.hid hle2
              have HV := Lib.hid hv
              have HHe := Lib.hid hhe
              have HW1 := Lib.hid hw1
              have HW2 := Lib.hid hw2
              have HSn := Lib.hid hsn
              clear hapn hme hNx hNy hle2 hv hhe hw1 hw2 hsn
              have hA3 := On.box hA w3 HOn3.out
              obtain ⟨k0, k1⟩ := On.of2 hA3
              have HK : Hid (∀ W', On w3 W' → W'.cell? ⟨bl, off + j * 2, none⟩ = some (.int .i64 p) ∧ W'.cell? ⟨bl, off + j * 2 + 1, none⟩ = some (.int .i64 q) ∧ bl < W'.heap.size) := fun W' hW => HC.out W' (below_then HOn3.out hW)
              have k2 := fun W' hW => (HK.out W' hW).1
              have k3 := fun W' hW => (HK.out W' hW).2.1
              go_wp2_with fail
              go_region_held3 (fun W' => On w3 W') (first | exact (On.refl _).drew | exact On.step (by assumption) hb | exact On.alloc (On.refl _).drew _ | exact On.alloc (by assumption) _ | exact On.alloc hOn4 _ | exact On.set (On.set hOn4 (Nat.le_refl _) _) (Nat.le_refl _) _) (first
                | (go_at_call 15; ((with_reducible refine (meet_to HMe.out _).mono ?_); rintro e w4 ⟨rfl, hb⟩; have hOn4 : On w3 w4 := On.step (W := w3) (by assumption) hb; obtain ⟨hc, hf⟩ := bcell hb; have hz4 := hb.size; (try simp at hz4))))
              all_goals
                first
                  | (have hM := (((Box.new2 w3.drew (.int .i64 0) (.int .i64 0) 23).below hb).set 0 (.int .i64 mx) (by simp)).set 1 (.int .i64 my) (by simp)
                     have hO5 := On.set (j := 1) (On.set (j := 0) hOn4 (Nat.le_refl _) (.int .i64 mx)) (Nat.le_refl _) (.int .i64 my)
                     change Box ((w4.setCell ⟨w3.heap.size, 0, none⟩ (.int .i64 mx)).setCell ⟨w3.heap.size, 1, none⟩ (.int .i64 my)) w3.heap.size [.int .i64 mx, .int .i64 my] at hM
                     generalize (w4.setCell ⟨w3.heap.size, 0, none⟩ (.int .i64 mx)).setCell ⟨w3.heap.size, 1, none⟩ (.int .i64 my) = w5 at hM hO5 ⊢)
                  | (have hM := Box.new2 w4 (.int .i64 mx) (.int .i64 my) 23
                     have hO5 := On.alloc hOn4 (.cells #[.int .i64 mx, .int .i64 my] 23)
                     generalize w4.alloc (.cells #[.int .i64 mx, .int .i64 my] 23) = w5 at hM hO5 ⊢)
              all_goals
                have HO5 := Lib.hid (below_then HOn3.out hO5 : On W w5)
                have HM5 := Lib.hid hM
                obtain ⟨m0, m1⟩ := hM.of2
                clear hb hc hf hz4 hOn4 hO5 hM k0 k1 k2 k3 HK hA3
                go_wp2_with fail
                refine (len_to HLe.out HNX.out HNY.out _).mono ?_
                rintro e w6 ⟨rfl, hb6⟩
                have HO6 := Lib.hid (On.step HO5.out hb6)
                have hM6 := HM5.out.below hb6
                have hwr : IntKind.i64.wrap (t + le) = t + le := IntWalk.i64_in _ (by omega)
                clear hb6 m0 m1
                go_wp2_with fail
                have hA6 := On.box hA w6 HO6.out
                obtain ⟨k0, k1⟩ := On.of2 hA6
                obtain ⟨k4, k5⟩ := On.of2 hM6
                have HK : Hid (∀ W', On w6 W' → W'.cell? ⟨bl, off + j * 2, none⟩ = some (.int .i64 p) ∧ W'.cell? ⟨bl, off + j * 2 + 1, none⟩ = some (.int .i64 q) ∧ bl < W'.heap.size) := fun W' hW => HC.out W' (below_then HO6.out hW)
                have k2 := fun W' hW => (HK.out W' hW).1
                have k3 := fun W' hW => (HK.out W' hW).2.1
                go_region_held3 (fun W' => On w6 W') (first | exact (On.refl _).drew | exact On.step (by assumption) hb | exact On.alloc (by assumption) _) (first
                  | (go_at_call 16; ((with_reducible refine (apart_to HV.out _).mono ?_); rintro e w7 ⟨rfl, hb⟩))
                  | (go_at_call 11; ((with_reducible refine (len_to HLe.out HNX.out HNY.out _).mono ?_); rintro e w7 ⟨rfl, hb⟩))
                  | (go_at_call 18; ((with_reducible refine (withinv HW1.out _).mono ?_); rintro e w7 ⟨rfl, hb⟩))
                  | (go_at_call 18; ((with_reducible refine (withinv HW2.out _).mono ?_); rintro e w7 ⟨rfl, hb⟩))
                  | (go_at_call 20; (refine (hull_to HHe.out (rows_lit _ [(a, b), (p, q)] _ _ _ (by simp) _ (by simp [encS]) rfl (by simp))).mono ?_; rintro e w7 ⟨rfl, hb⟩)))
                rename_i hOn7
                have HO7 := Lib.hid (below_then HO6.out hOn7)
                clear hOn7 k0 k1 k2 k3 k4 k5 HK
                go_wp2_with fail
                go_roundw
                case rel => exact ⟨j + 1, t + le, by omega, by go_num, rfl, HSn.out, HAp2.out, HO7.out⟩
                case measure => simp [intOf]; omega
      · have hap := HAp.out
        rw [List.take_of_length_le (by rw [HL.out]; omega)] at hap
        have hs2 := HS.out
        rw [List.take_of_length_le (by rw [HL.out]; omega)] at hs2
        have HAll := Lib.hid hap
        have HS2 := Lib.hid hs2
        have hA1 := On.box hA wo HOn.out
        have HZ2 := Lib.hid (HZ1.out.on HOn.out)
        clear hap hs2
        obtain ⟨a0, a1, a2, a3, a4⟩ := hA1.of2
        go_wp2_with fail
        refine (less_any _ _ _ _ _ zs _ (by omega) HZ2.out).mono ?_
        rintro e w4 ⟨A2, n2, c2, rfl, hR, hb4⟩
        have HOn4 := Lib.hid (HOn.out.step hb4)
        have HL2 := Lib.hid hR.1
        have HR := Lib.hid hR
        have hn2 := hR.2.1
        clear hb4 a0 a1 a2 a3 a4 hA1 hR
        go_wp2_with fail
        go_loopw [5, 10] (fun v i wr => ∃ (k : Nat) (u : Int), k ≤ n2 ∧ i = .int .i64 k ∧ v = .int .i64 u ∧ t + sumS ((lessR (a, b) zs).take k) = u ∧ On w4 wr) (fun _ i _ => n2 - (intOf i).toNat)
        case atStart => exact ⟨0, t, by omega, rfl, rfl, by rw [List.take_zero, sumS_nil]; omega, On.refl _⟩
        case round =>
          obtain ⟨m, u, hm, rfl, rfl, hu, hO5⟩ := hrel
          have HU := Lib.hid hu
          have HO5 := Lib.hid hO5
          clear hO5
          obtain ⟨w5, rfl⟩ : ∃ w5 : World, w5 = wr := ⟨_, rfl⟩
          by_cases hlt2 : m < n2
          · obtain ⟨bl2, off2, p, q, rfl, hbl2, hx, HC⟩ := rows_get HR.out hlt2
            obtain ⟨hNp, hNq⟩ := less_near hx HNA.out HNB.out
            have hsn := left_snoc hx
            obtain ⟨hb0, hb1⟩ := left_bound (s := (a, b)) HAll.out (m + 1)
            obtain ⟨hb2, hb3⟩ := left_bound (s := (a, b)) HAll.out m
            rw [HS2.out] at hb0 hb1 hb2 hb3
            rw [HTop.out] at hb1 hb3
            obtain ⟨le, hle2⟩ : ∃ le, lenS (p, q) = le := ⟨_, rfl⟩
            rw [hle2] at hsn
            have hun : t + sumS ((lessR (a, b) zs).take (m + 1)) = u + le := by omega
            have hc0 : 0 ≤ u + le := by omega
            have hc1 : u + le ≤ top := by omega
            have hwr : IntKind.i64.wrap (u + le) = u + le := IntWalk.i64_in _ (by omega)
            have HUn := Lib.hid hun
            have HLe := Lib.hid hle2
            have HNP := Lib.hid hNp
            have HNQ := Lib.hid hNq
            obtain ⟨c0, c1, c2⟩ := HC.out w5 HO5.out
            clear hsn hb0 hb1 hb2 hb3 hun hle2 hNp hNq hx hu
            go_wp2_with fail
            refine (len_to HLe.out HNP.out HNQ.out _).mono ?_
            rintro e w6 ⟨rfl, hb6⟩
            have HO6 := Lib.hid (HO5.out.step hb6)
            clear hb6 c0 c1 c2
            go_wp2_with fail
            go_roundw
            case rel => exact ⟨m + 1, u + le, by omega, by go_num, rfl, HUn.out, HO6.out⟩
            case measure => simp [intOf]; omega
          · rw [List.take_of_length_le (by rw [HL2.out]; omega)] at hu
            have hsum := less_sum (a, b) zs HAll.out
            have hs2 : sumS (zs.map (meetS (a, b))) = t := HS2.out
            obtain rfl : u = top := by rw [HTop.out] at hsum; omega
            have hA5 := On.box hA w5 (below_then HOn4.out HO5.out)
            obtain ⟨a0, a1, a2, a3, a4⟩ := hA5.of2
            clear hu hsum hs2
            go_wp2_with fail
            refine (len_to HTop.out HNA.out HNB.out _).mono ?_
            rintro e w6 ⟨rfl, hb6⟩
            have HO6 := Lib.hid (below_then (below_then HB.out HOn4.out) (On.step HO5.out hb6))
            clear hb6 a0 a1 a2 a3 a4 hA5
            go_wp2_with (go_at_call 19; refine (awake_any _).mono ?_; rintro e w8 ⟨rfl, hb8⟩)
            go_ret
            exact ⟨rfl, below_then HO6.out hb8⟩
end Go.Proofs.Ytkbpiekmphcdnaa
