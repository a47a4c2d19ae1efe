import Derived.BigQuiet
import Derived.Test.YtkbpiekmphcdnaaSpanNumbersMath
/- The walk of the law SpanNumbers. -/
namespace Go.Proofs.Ytkbpiekmphcdnaa
open Go.RowKit
set_option linter.unusedVariables false
set_option linter.unusedSimpArgs false
set_option maxRecDepth 100000 in
set_option maxHeartbeats 4000000 in
theorem numbers_law (a : Int) (_ : -9223372036854775808 ≤ a ∧ a ≤ 9223372036854775807) (b : Int) (_ : -9223372036854775808 ≤ b ∧ b ≤ 9223372036854775807) (A : Option Addr) (n c : Nat) (zs : List Sp) (_ : ∀ z ∈ zs, (Lit.int .i64 z.1).wf = true ∧ (Lit.int .i64 z.2).wf = true) (at_ : Int) (_ : -9223372036854775808 ≤ at_ ∧ at_ ≤ 9223372036854775807) (w : World) (hz : Rows 2 encS w A n zs) :
    Calls Try.prog 5 #[.agg #[.int .i64 a, .int .i64 b], .slice A n c, .int .i64 at_] w fun e w' => e = .returned (.bool true) ∧ Below w.heap.size w w' := by
  have hn := hz.2.1
  have HL := Lib.hid hz.1
  have HZ := Lib.hid hz
  clear hz
  by_cases hbig : 60 < n
  · go_enter Try.func5, Try.ntmps5
    go_wp2_with (go_at_call 19; refine (awake_any _).mono ?_; rintro e w' ⟨rfl, hbw⟩)
    go_ret
    exact ⟨rfl, below_then (by go_grown) hbw⟩
  · obtain ⟨iv, hiv⟩ : ∃ iv, hasB (a, b) at_ = iv := ⟨_, rfl⟩
    have HI := Lib.hid hiv
    clear hiv
    go_enter Try.func5, Try.ntmps5
    go_wp2_with fail
    refine (has_to HI.out _).mono ?_
    rintro e W ⟨rfl, hb⟩
    have hA := (Box.new2 w (.int .i64 a) (.int .i64 b) 23).below hb
    have HB := Lib.hid (below_then (by go_grown) hb : Below w.heap.size w W)
    have HZ1 := Lib.hid (HZ.out.below HB.out)
    clear hb
    go_wp2_with fail
    go_loopw [8, 9] (fun v i wr => ∃ (k : Nat) (s : Bool), k ≤ n ∧ i = .int .i64 k ∧ v = .bool s ∧ anyB (zs.take k) at_ = s ∧ On W wr) (fun _ i _ => n - (intOf i).toNat)
    case atStart => exact ⟨0, false, by omega, rfl, rfl, rfl, On.refl _⟩
    case round =>
      obtain ⟨k, s, hk, rfl, rfl, hs, hOn⟩ := hrel
      have HS := Lib.hid hs
      have HOn := Lib.hid hOn
      clear hs hOn
      obtain ⟨wo, rfl⟩ : ∃ wo : World, wo = wr := ⟨_, rfl⟩
      by_cases hlt : k < n
      · obtain ⟨bl, off, p, q, rfl, hbl, hx, HC⟩ := rows_get HZ1.out hlt
        have HX := Lib.hid hx
        clear hx
        obtain ⟨c0, c1, c2⟩ := HC.out wo HOn.out
        obtain ⟨hv, hhv⟩ : ∃ v, hasB (p, q) at_ = v := ⟨_, rfl⟩
        cases iv <;> cases s
        all_goals
          have HV := Lib.hid hhv
          have HN := Lib.hid ((anyB_snoc (n := at_) HX.out).trans (by rw [HS.out, hhv]))
          have HM := Lib.hid ((hasB_meet (a, b) (p, q) at_).trans (by rw [HI.out, hhv]))
          rcases hme : meetS (a, b) (p, q) with ⟨x, y⟩
          rw [hme] at HM
          have HMe := Lib.hid hme
          clear hme hhv
          all_goals
            go_wp2_with fail
            refine (has_to HV.out _).mono ?_
            rintro e w2 ⟨rfl, hb2⟩
            have HOn2 := Lib.hid (HOn.out.step hb2)
            have hA2 := On.box hA w2 HOn2.out
            have HC2 : Hid (∀ p_ : OnW w2, p_.w.cell? ⟨bl, off + k * 2, none⟩ = some (.int .i64 p) ∧ p_.w.cell? ⟨bl, off + k * 2 + 1, none⟩ = some (.int .i64 q)) := fun p_ => by
              obtain ⟨x1, x2, _⟩ := HC.out p_.w (below_then HOn2.out p_.h)
              exact ⟨x1, x2⟩
            clear hb2 c0 c1 c2
            go_wp2_with fail
            obtain ⟨a0, a1⟩ := OnW.of2 hA2
            have d0 := fun p_ => (HC2.out p_).1
            have d1 := fun p_ => (HC2.out p_).2
            refine wp_region_on (by kernel_rfl) (by kernel_rfl) ?_
            repeat (quiet_step (first
              | (go_at_call 15; exact Calls.on_of (meet_to HMe.out _))
              | (go_at_call 13; exact Calls.on_of (has_to HM.out _))))
            refine wpQuiet_nil ?_
            intro w3 hw'
            obtain ⟨⟨w', hOn3⟩, hw''⟩ := hw'
            obtain rfl : w3 = w' := hw''
            have HOn3 := Lib.hid (below_then HOn2.out hOn3 : On W w3)
            clear hOn3 a0 a1 d0 d1
            go_wp2_with fail
            go_roundw
            case rel => exact ⟨k + 1, _, by omega, by go_num, rfl, HN.out, HOn3.out⟩
            case measure => simp [intOf]; omega
      · have hs' := HS.out
        rw [List.take_of_length_le (by rw [HL.out]; omega)] at hs'
        have HF := Lib.hid (less_hasB (a, b) zs at_)
        have HF2 := Lib.hid ((HF.out).trans (by rw [HI.out, hs']))
        have HHU := Lib.hid (fun h : s = true => (show hasB (hullL zs) at_ = true from hasB_iff.2 (hullL_has (anyB_iff.1 (hs'.trans h)))))
        rcases hhe : hullL zs with ⟨x, y⟩
        have HHe := Lib.hid hhe
        clear hs' hhe
        have hA1 := On.box hA wo HOn.out
        have HZ2 := Lib.hid (HZ1.out.on HOn.out)
        cases s
        case' true =>
          have HU := Lib.hid (HHU.out rfl)
          rw [HHe.out] at HU
          go_wp2_with fail
          have HH := hull_any A n c zs wo HZ2.out
          rw [HHe.out] at HH
          refine HH.mono ?_
          rintro e w2 ⟨rfl, hb2⟩
          clear HH
          replace HOn := Lib.hid (HOn.out.step hb2)
          clear hb2
          go_wp2_with fail
          refine (has_to HU.out _).mono ?_
          rintro e w3 ⟨rfl, hb2⟩
          replace HOn := Lib.hid (HOn.out.step hb2)
          clear hb2 HU hA1 HZ2 HHU
          have hA1 := On.box hA w3 HOn.out
          have HZ2 := Lib.hid (HZ1.out.on HOn.out)
        all_goals
          obtain ⟨a0, a1, a2, a3, a4⟩ := hA1.of2
          go_wp2_with fail
          refine (less_any _ _ _ _ _ zs _ (by omega) HZ2.out).mono ?_
          rintro e w4 ⟨A2, n2, c2, rfl, hR, hb4⟩
          replace HOn := Lib.hid (HOn.out.step hb4)
          have hA4 := On.box hA w4 HOn.out
          have HL2 := Lib.hid hR.1
          have HR := Lib.hid hR
          have hn2 := hR.2.1
          clear hb4 a0 a1 a2 a3 a4 hA1 hR
          go_wp2_with fail
          go_loopw [12, 13] (fun v i wr => ∃ (k : Nat) (f : Bool), k ≤ n2 ∧ i = .int .i64 k ∧ v = .bool f ∧ anyB ((lessR (a, b) zs).take k) at_ = f ∧ On w4 wr) (fun _ i _ => n2 - (intOf i).toNat)
          case atStart => exact ⟨0, false, by omega, rfl, rfl, rfl, On.refl _⟩
          case round =>
            obtain ⟨j, f, hj, rfl, rfl, hf, hOn5⟩ := hrel
            have HFd := Lib.hid hf
            have HOn5 := Lib.hid hOn5
            clear hf hOn5
            obtain ⟨w5, rfl⟩ : ∃ w5 : World, w5 = wr := ⟨_, rfl⟩
            by_cases hlt2 : j < n2
            · obtain ⟨bl, off, p, q, rfl, hbl, hx, HC⟩ := rows_get HR.out hlt2
              have HX := Lib.hid hx
              have hpq : p < q := less_some hx
              have HWi := Lib.hid (less_within hx)
              have hqp : decide (q ≤ p) = false := by simp; omega
              clear hx
              obtain ⟨c0, c1, c2⟩ := HC.out w5 HOn5.out
              obtain ⟨hv, hhv⟩ : ∃ v, hasB (p, q) at_ = v := ⟨_, rfl⟩
              all_goals
                have HV := Lib.hid hhv
                have HN := Lib.hid ((anyB_snoc (n := at_) HX.out).trans (by rw [HFd.out, hhv]))
                clear hhv
                cases f
                case' false =>
                  go_wp2_with fail
                  refine (has_to HV.out _).mono ?_
                  rintro e w6 ⟨rfl, hb6⟩
                  have HOn6 := Lib.hid (HOn5.out.step hb6)
                  clear hb6
                case' true =>
                  have HOn6 := Lib.hid HOn5.out
                  obtain ⟨w6, rfl⟩ : ∃ w6 : World, w6 = w5 := ⟨_, rfl⟩
                all_goals
                  clear c0 c1 c2
                  obtain ⟨a0, a1⟩ := OnW.of2 (On.box hA4 w6 HOn6.out)
                  have HD : Hid (∀ p_ : OnW w6, p_.w.cell? ⟨bl, off + j * 2, none⟩ = some (.int .i64 p) ∧ p_.w.cell? ⟨bl, off + j * 2 + 1, none⟩ = some (.int .i64 q)) := fun p_ => by
                    obtain ⟨x1, x2, _⟩ := HC.out p_.w (below_then HOn6.out p_.h)
                    exact ⟨x1, x2⟩
                  have d0 := fun p_ => (HD.out p_).1
                  have d1 := fun p_ => (HD.out p_).2
                  have hj1 : (0 : Int) ≤ (j : Int) := by omega
                  have hj2 : (j : Int) < (n2 : Int) := by omega
                  rcases Nat.eq_zero_or_pos j with hj0 | hj0
                  case' inl =>
                    have hg : decide ((0 : Int) < (j : Int)) = false := by simp; omega
                    have hg2 : decide (0 < j) = false := by simp; omega
                    have HJ0 := Lib.hid hj0
                    clear hj0
                  case' inr =>
                    obtain ⟨bl2, off2, p2, q2, e2, hbl2, hx2, HC2⟩ := rows_get HR.out (i := j - 1) (by omega)
                    simp only [Option.some.injEq, Addr.mk.injEq] at e2
                    obtain ⟨eb, eo, _⟩ := e2
                    subst eb eo
                    have hq2p : q2 < p := less_next hx2 (by rw [show j - 1 + 1 = j by omega]; exact HX.out)
                    have HD2 : Hid (∀ p_ : OnW w6, p_.w.cell? ⟨bl, off + (j - 1) * 2 + 1, none⟩ = some (.int .i64 q2)) := fun p_ => (HC2.out p_.w (below_then HOn6.out p_.h)).2.1
                    clear hx2
                    have d2 := fun p_ => HD2.out p_
                    have hqp2 : decide (p ≤ q2) = false := by simp; omega
                    have hg : decide ((0 : Int) < (j : Int)) = true := by simp; omega
                    have hg2 : decide (0 < j) = true := by simp; omega
                    have e0 : (0 : Int) ≤ (j : Int) - 1 := by omega
                    have e1 : (j : Int) - 1 < (n2 : Int) := by omega
                    have e5 : (1 : Int) ≤ (j : Int) := by omega
                    have e2 : ((j : Int) - 1).toNat = j - 1 := by omega
                    have e3 : IntKind.i64.wrap ((j : Int) - 1) = (j : Int) - 1 := IntWalk.i64_in _ (by omega)
                  all_goals
                    go_wp2_with fail
                    refine wp_region_on (by kernel_rfl) (by kernel_rfl) ?_
                    repeat (go_big_quiet_step ((go_at_call 18; with_reducible exact Calls.on_of (withinv HWi.out _))))
                    refine wpQuiet_nil ?_
                    intro w7 hw'
                    obtain ⟨⟨w', hOn7⟩, hw''⟩ := hw'
                    obtain rfl : w7 = w' := hw''
                    have HOn7 := Lib.hid (below_then HOn6.out hOn7 : On w4 w7)
                    clear hOn7
                    go_wp2_with fail
                    go_roundw
                    case rel => exact ⟨_, _, hlt2, by go_num, rfl, HN.out, HOn7.out⟩
                    case measure => simp [intOf]; omega
            · have hf := HFd.out
              rw [List.take_of_length_le (by rw [HL2.out]; omega)] at hf
              have hf2 := hf.symm.trans HF2.out
              clear hf
              have HF3 := Lib.hid hf2
              clear hf2
              cases iv
              all_goals
                obtain rfl := HF3.out
                go_wp2_with (go_at_call 19; refine (awake_any _).mono ?_; rintro e w8 ⟨rfl, hb8⟩)
                go_ret
                exact ⟨rfl, below_then (below_then (below_then HB.out HOn.out) HOn5.out) hb8⟩
end Go.Proofs.Ytkbpiekmphcdnaa
