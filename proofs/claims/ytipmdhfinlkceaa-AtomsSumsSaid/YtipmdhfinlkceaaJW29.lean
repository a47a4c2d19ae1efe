import Derived.Test.YtipmdhfinlkceaaJW27
import Derived.Test.YtipmdhfinlkceaaJW10
import Derived.Test.YtipmdhfinlkceaaJW01
/- AtomsSumsW. -/
set_option linter.unusedVariables false
set_option linter.unusedSimpArgs false
namespace Go.Proofs.Ytipmdhfinlkceaa
open Go.RowKit
set_option maxHeartbeats 16000000 in
set_option maxRecDepth 100000 in
theorem atomssums_all {l : List Am} {i j q : Int} (hi : I64w i) (hj : I64w j) (hq : I64w q) {A : Option Addr} {n c : Nat} {w : World} (h : Rows 8 encAm w A n l) :
    Calls Try.prog 4 #[.slice A n c, .int .i64 i, .int .i64 j, .int .i64 q] w fun e w' => e = .returned (.bool true) ∧ Below w.heap.size w w' := by
  have HR := Lib.hid h
  have hlb := h.2.1
  have HLN := Lib.hid h.len
  obtain ⟨hi0, hi1⟩ := hi
  obtain ⟨hj0, hj1⟩ := hj
  obtain ⟨hq0, hq1⟩ := hq
  clear h
  by_cases h3 : 300 < n
  · have h4 : (300 : Int) < (n : Int) := by omega
    go_enter Try.func4, Try.ntmps4
    go_wp2_with fail
    refine (awake15_any _).mono ?_
    rintro e w9 ⟨rfl, hb⟩
    go_wp2_with fail
    go_ret
    exact ⟨rfl, hb⟩
  have h4 : (n : Int) ≤ 300 := by omega
  go_enter Try.func4, Try.ntmps4
  go_wp2_with fail
  refine (rnear15_to HR.out).mono ?_
  rintro e w1 ⟨v, rfl, hv, hb1⟩
  have HO1 := Lib.hid (show On w w1 from hb1)
  clear hb1
  cases v with
  | false =>
    go_wp2_with fail
    refine (awake15_any _).mono ?_
    rintro e w9 ⟨rfl, hb⟩
    go_wp2_with fail
    go_ret
    exact ⟨rfl, below_then HO1.out hb⟩
  | true =>
  have HNR := Lib.hid (show ∀ x ∈ l, x.near from (show NearTo l l.length by rw [HLN.out]; exact hv rfl).near)
  clear hv
  go_wp2_with fail
  go_loopw [9, 10, 11] (fun s9 s10 s11 wr => ∃ (k : Nat) (s p : Int), s9 = .int .i64 s ∧ s10 = .int .i64 p ∧ s11 = .int .i64 (k : Int) ∧ k ≤ n ∧ Hid (s = botI l ((k : Int) - 1)) ∧ Hid (p = partI l i (k : Int)) ∧ Hid (On w wr)) (fun _ _ s11 _ => n - (intOf s11).toNat)
  case atStart => exact ⟨0, 0, 0, rfl, rfl, rfl, Nat.zero_le _, Lib.hid (by unfold botI; rw [amAt_none (by omega)]), Lib.hid (by
    unfold partI
    split
    · unfold botI; rw [amAt_none (by omega)]
    · rw [if_pos (by omega)]), HO1⟩
  case round =>
    obtain ⟨k, s, p, rfl, rfl, rfl, hkn, HS, HP, HO⟩ := hrel
    by_cases hlt : k < n
    · have hlt2 : (k : Int) < (n : Int) := by omega
      obtain ⟨b, off, x, rfl, hb, hx, _, _, _⟩ := am_at (HR.out.on HO.out) hlt
      obtain ⟨b', off', x', e, _, hx', _, _, c7w⟩ := am_at HR.out hlt
      injection e with e
      injection e with e1 e2 e3
      subst e1 e2
      obtain rfl : x' = x := by rw [hx] at hx'; injection hx' with e; exact e.symm
      obtain ⟨bk, hbk⟩ : ∃ bk, botI l (k : Int) = bk := ⟨_, rfl⟩
      obtain ⟨g, hg⟩ : ∃ g, gapI l (k : Int) = g := ⟨_, rfl⟩
      have hsb := bot_bd HNR.out ((k : Int) - 1)
      have hnx := HNR.out _ (List.mem_of_getElem? hx)
      obtain ⟨⟨y0, y1⟩, z0, z1⟩ := hnx
      have e1 := bot_at hx
      have e2 := gap_at hx
      rw [hbk] at e1
      rw [hg, ← HS.out] at e2
      rw [← HS.out] at hsb
      obtain ⟨hsb0, hsb1⟩ := hsb
      have hpb := part_bd HNR.out i (k : Int)
      rw [← HP.out] at hpb
      obtain ⟨hpb0, hpb1⟩ := hpb
      have HX := Lib.hid hx
      have HBK := Lib.hid hbk
      have HG := Lib.hid (fun (W : World) (hW : On w W) (v : OnW W) => agap_to (c := c) hg HNR.out (HR.out.on (below_then hW v.h)))
      obtain ⟨p0, p1, p2, p3, p4, p5, p6, p7⟩ := x'
      simp only at y0 y1 z0 z1 e1 e2
      have HC7 := Lib.hid (show ∀ W, On w W → W.cell? ⟨b, off + k * 8 + 7, none⟩ = some (.int .i64 p7) from On.cell c7w)
      have c7 := OnW.cell (HC7.out wr HO.out)
      have hwg : IntKind.i64.wrap (g + p7) = g + p7 := IntWalk.i64_in _ (by omega)
      have hws : IntKind.i64.wrap (s + (g + p7)) = bk := by rw [IntWalk.i64_in _ (by omega)]; omega
      have hbn : (bk != bk) = false := by simp
      have hwk : IntKind.i64.wrap ((k : Int) + 1) = (k : Int) + 1 := IntWalk.i64_in _ (by omega)
      have HS2 := Lib.hid (show bk = botI l (((k + 1 : Nat) : Int) - 1) by rw [← HBK.out]; congr 1; omega)
      have HE1 := Lib.hid e1
      have HE2 := Lib.hid e2
      have HPE := Lib.hid (show partI l i ((k + 1 : Nat) : Int) = if i < 0 then bk else if (k : Int) + 1 ≤ i then 0 else bk - topI l i by
        unfold partI
        rw [show (((k + 1 : Nat) : Int) - 1) = (k : Int) by omega, HBK.out, show ((k + 1 : Nat) : Int) = (k : Int) + 1 by omega])
      clear hx hx' hbk hg c7w e1 e2
      rcases (show i < 0 ∨ (0 ≤ i ∧ (k : Int) < i) ∨ (k : Int) = i ∨ (0 ≤ i ∧ i < (k : Int)) by omega) with hA | ⟨hB0, hB⟩ | hC | ⟨hD0, hD⟩
      · have d1 : ((k : Int) == i) = false := by simp; omega
        have d2 : i < (k : Int) := by omega
        have d3 : decide ((0 : Int) ≤ i) = false := decide_eq_false (by omega)
        have hps : p = s := by rw [HP.out, HS.out]; unfold partI; rw [if_pos hA]
        have hwp : IntKind.i64.wrap (p + (g + p7)) = bk := by rw [hps]; exact hws
        have HP2 := Lib.hid (show bk = partI l i ((k + 1 : Nat) : Int) by rw [HPE.out, if_pos hA])
        clear hps HP HS HPE
        go_wp2_with fail
        refine wp_region_on (by kernel_rfl) (by kernel_rfl) ?_
        repeat (go_big_quiet_step (first | (go_at_call 10; with_reducible exact Calls.on_of (HG.out _ HO.out _))))
        refine wpQuiet_nil ?_
        intro w5 hw'
        obtain ⟨⟨w6, hOn⟩, hw''⟩ := hw'
        obtain rfl : w5 = w6 := hw''
        have HO5 := Lib.hid (show On w w5 from below_then HO.out hOn)
        clear hOn c7
        go_wp2_with fail
        refine (abot_to (c := c) HBK.out HNR.out (HR.out.on HO5.out)).mono ?_
        rintro e w7 ⟨rfl, hb⟩
        have HO7 := Lib.hid (HO5.out.step hb)
        have k7 := HC7.out w7 HO7.out
        clear hb
        have c8 := OnW.cell k7
        go_wp2_with fail
        refine wp_region_on (by kernel_rfl) (by kernel_rfl) ?_
        repeat (go_big_quiet_step (first | (go_at_call 10; with_reducible exact Calls.on_of (HG.out _ HO7.out _))))
        refine wpQuiet_nil ?_
        intro w8 hw'
        obtain ⟨⟨w9, hOn⟩, hw''⟩ := hw'
        obtain rfl : w8 = w9 := hw''
        have HO8 := Lib.hid (show On w w8 from below_then HO7.out hOn)
        clear hOn c8 k7
        go_wp2_with fail
        go_roundw
        case rel => exact ⟨k + 1, bk, bk, rfl, rfl, by go_num, by omega, HS2, HP2, HO8⟩
        case measure => simp [intOf] <;> omega
      · have d1 : ((k : Int) == i) = false := by simp; omega
        have d2 : (k : Int) ≤ i := by omega
        have d3 : decide (i < (k : Int)) = false := decide_eq_false (by omega)
        have d4 : decide (i ≤ (k : Int)) = false := decide_eq_false (by omega)
        have d5 : decide ((0 : Int) ≤ i) = true := decide_eq_true hB0
        have HP2 := Lib.hid (show p = partI l i ((k + 1 : Nat) : Int) by rw [HPE.out, HP.out, if_neg (by omega), if_pos (by omega)]; unfold partI; rw [if_neg (by omega), if_pos (by omega)])
        clear HP HS HPE
        go_wp2_with fail
        refine wp_region_on (by kernel_rfl) (by kernel_rfl) ?_
        repeat (go_big_quiet_step (first | (go_at_call 10; with_reducible exact Calls.on_of (HG.out _ HO.out _))))
        refine wpQuiet_nil ?_
        intro w5 hw'
        obtain ⟨⟨w6, hOn⟩, hw''⟩ := hw'
        obtain rfl : w5 = w6 := hw''
        have HO5 := Lib.hid (show On w w5 from below_then HO.out hOn)
        clear hOn c7
        go_wp2_with fail
        refine (abot_to (c := c) HBK.out HNR.out (HR.out.on HO5.out)).mono ?_
        rintro e w7 ⟨rfl, hb⟩
        have HO7 := Lib.hid (HO5.out.step hb)
        have k7 := HC7.out w7 HO7.out
        clear hb
        go_wp2_with fail
        go_roundw
        case rel => exact ⟨k + 1, bk, p, rfl, rfl, by go_num, by omega, HS2, HP2, HO7⟩
        case measure => simp [intOf] <;> omega
      · subst hC
        have d1 : ((k : Int) == (k : Int)) = true := by simp
        have d3 : decide ((k : Int) < (k : Int)) = false := decide_eq_false (by omega)
        have d5 : decide ((0 : Int) ≤ (k : Int)) = true := decide_eq_true (by omega)
        have hpn : (p7 != p7) = false := by simp
        have htop : topI l (k : Int) = p5 := by unfold topI; rw [amAt_nat, HX.out]
        have HHI := Lib.hid (show highI l (k : Int) ((k : Int) + 1) = p7 by rw [high_at HX.out (by omega) (Int.le_refl _), htop]; simp only; omega)
        have HP2 := Lib.hid (show p7 = partI l (k : Int) ((k + 1 : Nat) : Int) by rw [HPE.out, if_neg (by omega), if_neg (by omega), htop, HE1.out]; omega)
        clear HP HS HPE htop
        go_wp2_with fail
        refine wp_region_on (by kernel_rfl) (by kernel_rfl) ?_
        repeat (go_big_quiet_step (first | (go_at_call 10; with_reducible exact Calls.on_of (HG.out _ HO.out _))))
        refine wpQuiet_nil ?_
        intro w5 hw'
        obtain ⟨⟨w6, hOn⟩, hw''⟩ := hw'
        obtain rfl : w5 = w6 := hw''
        have HO5 := Lib.hid (show On w w5 from below_then HO.out hOn)
        clear hOn c7
        go_wp2_with fail
        refine (abot_to (c := c) HBK.out HNR.out (HR.out.on HO5.out)).mono ?_
        rintro e w7 ⟨rfl, hb⟩
        have HO7 := Lib.hid (HO5.out.step hb)
        have k7 := HC7.out w7 HO7.out
        clear hb
        go_wp2_with fail
        refine (ahigh_to (c := c) HHI.out HNR.out (by omega) (HR.out.on HO7.out)).mono ?_
        rintro e w10 ⟨rfl, hb⟩
        have HOE := Lib.hid (HO7.out.step hb)
        clear hb
        go_wp2_with fail
        go_roundw
        case rel => exact ⟨k + 1, bk, p7, rfl, rfl, by go_num, by omega, HS2, HP2, HOE⟩
        case measure => simp [intOf] <;> omega
      · have d1 : ((k : Int) == i) = false := by simp; omega
        have d3 : decide (i < (k : Int)) = true := decide_eq_true hD
        have d5 : decide ((0 : Int) ≤ i) = true := decide_eq_true hD0
        have d6 : i ≤ (k : Int) := by omega
        have d7 : decide (i ≤ (k : Int)) = true := decide_eq_true d6
        obtain ⟨p', hp'⟩ : ∃ p', bk - topI l i = p' := ⟨_, rfl⟩
        have hpp : p = s - topI l i := by rw [HP.out, HS.out]; unfold partI; rw [if_neg (by omega), if_neg (by omega)]
        have hwp : IntKind.i64.wrap (p + (g + p7)) = p' := by
          have h8 := HE1.out
          have h9 := HE2.out
          rw [IntWalk.i64_in _ (by omega)]; omega
        have hpn : (p' != p') = false := by simp
        have HHI := Lib.hid (show highI l i ((k : Int) + 1) = p' by rw [high_at HX.out hD0 d6, ← hp', HE1.out])
        have HP2 := Lib.hid (show p' = partI l i ((k + 1 : Nat) : Int) by rw [HPE.out, if_neg (by omega), if_neg (by omega)]; exact hp'.symm)
        clear HP HS HPE hpp hp'
        go_wp2_with fail
        refine wp_region_on (by kernel_rfl) (by kernel_rfl) ?_
        repeat (go_big_quiet_step (first | (go_at_call 10; with_reducible exact Calls.on_of (HG.out _ HO.out _))))
        refine wpQuiet_nil ?_
        intro w5 hw'
        obtain ⟨⟨w6, hOn⟩, hw''⟩ := hw'
        obtain rfl : w5 = w6 := hw''
        have HO5 := Lib.hid (show On w w5 from below_then HO.out hOn)
        clear hOn c7
        go_wp2_with fail
        refine (abot_to (c := c) HBK.out HNR.out (HR.out.on HO5.out)).mono ?_
        rintro e w7 ⟨rfl, hb⟩
        have HO7 := Lib.hid (HO5.out.step hb)
        have k7 := HC7.out w7 HO7.out
        clear hb
        have c8 := OnW.cell k7
        go_wp2_with fail
        refine wp_region_on (by kernel_rfl) (by kernel_rfl) ?_
        repeat (go_big_quiet_step (first | (go_at_call 10; with_reducible exact Calls.on_of (HG.out _ HO7.out _))))
        refine wpQuiet_nil ?_
        intro w8 hw'
        obtain ⟨⟨w9, hOn⟩, hw''⟩ := hw'
        obtain rfl : w8 = w9 := hw''
        have HO8 := Lib.hid (show On w w8 from below_then HO7.out hOn)
        clear hOn c8 k7
        go_wp2_with fail
        refine (ahigh_to (c := c) HHI.out HNR.out (by omega) (HR.out.on HO8.out)).mono ?_
        rintro e w10 ⟨rfl, hb⟩
        have HOE := Lib.hid (HO8.out.step hb)
        clear hb
        go_wp2_with fail
        go_roundw
        case rel => exact ⟨k + 1, bk, p', rfl, rfl, by go_num, by omega, HS2, HP2, HOE⟩
        case measure => simp [intOf] <;> omega
    · obtain rfl : n = k := by omega
      obtain ⟨o1, ho1⟩ : ∃ o1, offI l i j = o1 := ⟨_, rfl⟩
      have hob := off_bd HNR.out i j
      rw [ho1] at hob
      obtain ⟨hob0, hob1⟩ := hob
      have HO1' := Lib.hid ho1
      have HN1 := Lib.hid (show offI l j i = -o1 by rw [off_neg, ho1])
      have hng : IntKind.i64.wrap (-(-o1)) = o1 := by rw [IntWalk.i64_in _ (by omega)]; omega
      have hoo : (o1 == o1) = true := by simp
      clear ho1 HS HP
      by_cases f0 : i < 0
      · have g0 : decide (i < 0) = true := decide_eq_true f0
        go_wp2_with fail
        refine (aoff_to (c := c) HO1'.out HNR.out (HR.out.on HO.out)).mono ?_
        rintro e w20 ⟨rfl, hb⟩
        have HO20 := Lib.hid (HO.out.step hb)
        clear hb
        go_wp2_with fail
        refine (aoff_to (c := c) HN1.out HNR.out (HR.out.on HO20.out)).mono ?_
        rintro e w21 ⟨rfl, hb⟩
        have HO21 := Lib.hid (HO20.out.step hb)
        clear hb
        go_wp2_with fail
        refine (awake15_any _).mono ?_
        rintro e w22 ⟨rfl, hb⟩
        have HO22 := Lib.hid (HO21.out.step hb)
        clear hb
        go_wp2_with fail
        go_ret
        exact ⟨rfl, HO22.out⟩
      have g0 : decide (i < 0) = false := decide_eq_false f0
      have m0 : 0 ≤ i := by omega
      by_cases f1 : j < 0
      · have g1 : decide (j < 0) = true := decide_eq_true f1
        go_wp2_with fail
        refine (aoff_to (c := c) HO1'.out HNR.out (HR.out.on HO.out)).mono ?_
        rintro e w20 ⟨rfl, hb⟩
        have HO20 := Lib.hid (HO.out.step hb)
        clear hb
        go_wp2_with fail
        refine (aoff_to (c := c) HN1.out HNR.out (HR.out.on HO20.out)).mono ?_
        rintro e w21 ⟨rfl, hb⟩
        have HO21 := Lib.hid (HO20.out.step hb)
        clear hb
        go_wp2_with fail
        refine (awake15_any _).mono ?_
        rintro e w22 ⟨rfl, hb⟩
        have HO22 := Lib.hid (HO21.out.step hb)
        clear hb
        go_wp2_with fail
        go_ret
        exact ⟨rfl, HO22.out⟩
      have g1 : decide (j < 0) = false := decide_eq_false f1
      have m1 : 0 ≤ j := by omega
      by_cases f2 : q < 0
      · have g2 : decide (q < 0) = true := decide_eq_true f2
        go_wp2_with fail
        refine (aoff_to (c := c) HO1'.out HNR.out (HR.out.on HO.out)).mono ?_
        rintro e w20 ⟨rfl, hb⟩
        have HO20 := Lib.hid (HO.out.step hb)
        clear hb
        go_wp2_with fail
        refine (aoff_to (c := c) HN1.out HNR.out (HR.out.on HO20.out)).mono ?_
        rintro e w21 ⟨rfl, hb⟩
        have HO21 := Lib.hid (HO20.out.step hb)
        clear hb
        go_wp2_with fail
        refine (awake15_any _).mono ?_
        rintro e w22 ⟨rfl, hb⟩
        have HO22 := Lib.hid (HO21.out.step hb)
        clear hb
        go_wp2_with fail
        go_ret
        exact ⟨rfl, HO22.out⟩
      have g2 : decide (q < 0) = false := decide_eq_false f2
      have m2 : 0 ≤ q := by omega
      by_cases f3 : (n : Int) ≤ i
      · have g3 : decide ((n : Int) ≤ i) = true := decide_eq_true f3
        go_wp2_with fail
        refine (aoff_to (c := c) HO1'.out HNR.out (HR.out.on HO.out)).mono ?_
        rintro e w20 ⟨rfl, hb⟩
        have HO20 := Lib.hid (HO.out.step hb)
        clear hb
        go_wp2_with fail
        refine (aoff_to (c := c) HN1.out HNR.out (HR.out.on HO20.out)).mono ?_
        rintro e w21 ⟨rfl, hb⟩
        have HO21 := Lib.hid (HO20.out.step hb)
        clear hb
        go_wp2_with fail
        refine (awake15_any _).mono ?_
        rintro e w22 ⟨rfl, hb⟩
        have HO22 := Lib.hid (HO21.out.step hb)
        clear hb
        go_wp2_with fail
        go_ret
        exact ⟨rfl, HO22.out⟩
      have g3 : decide ((n : Int) ≤ i) = false := decide_eq_false f3
      have m3 : i < (n : Int) := by omega
      by_cases f4 : (n : Int) ≤ j
      · have g4 : decide ((n : Int) ≤ j) = true := decide_eq_true f4
        go_wp2_with fail
        refine (aoff_to (c := c) HO1'.out HNR.out (HR.out.on HO.out)).mono ?_
        rintro e w20 ⟨rfl, hb⟩
        have HO20 := Lib.hid (HO.out.step hb)
        clear hb
        go_wp2_with fail
        refine (aoff_to (c := c) HN1.out HNR.out (HR.out.on HO20.out)).mono ?_
        rintro e w21 ⟨rfl, hb⟩
        have HO21 := Lib.hid (HO20.out.step hb)
        clear hb
        go_wp2_with fail
        refine (awake15_any _).mono ?_
        rintro e w22 ⟨rfl, hb⟩
        have HO22 := Lib.hid (HO21.out.step hb)
        clear hb
        go_wp2_with fail
        go_ret
        exact ⟨rfl, HO22.out⟩
      have g4 : decide ((n : Int) ≤ j) = false := decide_eq_false f4
      have m4 : j < (n : Int) := by omega
      by_cases f5 : (n : Int) ≤ q
      · have g5 : decide ((n : Int) ≤ q) = true := decide_eq_true f5
        go_wp2_with fail
        refine (aoff_to (c := c) HO1'.out HNR.out (HR.out.on HO.out)).mono ?_
        rintro e w20 ⟨rfl, hb⟩
        have HO20 := Lib.hid (HO.out.step hb)
        clear hb
        go_wp2_with fail
        refine (aoff_to (c := c) HN1.out HNR.out (HR.out.on HO20.out)).mono ?_
        rintro e w21 ⟨rfl, hb⟩
        have HO21 := Lib.hid (HO20.out.step hb)
        clear hb
        go_wp2_with fail
        refine (awake15_any _).mono ?_
        rintro e w22 ⟨rfl, hb⟩
        have HO22 := Lib.hid (HO21.out.step hb)
        clear hb
        go_wp2_with fail
        go_ret
        exact ⟨rfl, HO22.out⟩
      have g5 : decide ((n : Int) ≤ q) = false := decide_eq_false f5
      have m5 : q < (n : Int) := by omega
      obtain ⟨o2, ho2⟩ : ∃ o2, offI l j q = o2 := ⟨_, rfl⟩
      obtain ⟨o3, ho3⟩ : ∃ o3, offI l i q = o3 := ⟨_, rfl⟩
      have hsum := off_add (l := l) (i := i) (j := j) (k := q) ⟨m0, by rw [HLN.out]; exact m3⟩ ⟨m1, by rw [HLN.out]; exact m4⟩ ⟨m2, by rw [HLN.out]; exact m5⟩
      rw [HO1'.out, ho2, ho3] at hsum
      have hob2 := off_bd HNR.out j q
      rw [ho2] at hob2
      have hwo : IntKind.i64.wrap (o1 + o2) = o3 := by rw [IntWalk.i64_in _ (by omega)]; omega
      have hoo3 : (o3 == o3) = true := by simp
      have HA2 := Lib.hid ho2
      have HA3 := Lib.hid ho3
      clear ho2 ho3 hsum hob2
      go_wp2_with fail
      refine (aoff_to (c := c) HO1'.out HNR.out (HR.out.on HO.out)).mono ?_
      rintro e w30 ⟨rfl, hb⟩
      have HO30 := Lib.hid (HO.out.step hb)
      clear hb
      go_wp2_with fail
      refine (aoff_to (c := c) HA2.out HNR.out (HR.out.on HO30.out)).mono ?_
      rintro e w31 ⟨rfl, hb⟩
      have HO31 := Lib.hid (HO30.out.step hb)
      clear hb
      go_wp2_with fail
      refine (aoff_to (c := c) HA3.out HNR.out (HR.out.on HO31.out)).mono ?_
      rintro e w32 ⟨rfl, hb⟩
      have HO32 := Lib.hid (HO31.out.step hb)
      clear hb
      go_wp2_with fail
      refine (aoff_to (c := c) HO1'.out HNR.out (HR.out.on HO32.out)).mono ?_
      rintro e w20 ⟨rfl, hb⟩
      have HO20 := Lib.hid (HO32.out.step hb)
      clear hb
      go_wp2_with fail
      refine (aoff_to (c := c) HN1.out HNR.out (HR.out.on HO20.out)).mono ?_
      rintro e w21 ⟨rfl, hb⟩
      have HO21 := Lib.hid (HO20.out.step hb)
      clear hb
      go_wp2_with fail
      refine (awake15_any _).mono ?_
      rintro e w22 ⟨rfl, hb⟩
      have HO22 := Lib.hid (HO21.out.step hb)
      clear hb
      go_wp2_with fail
      go_ret
      exact ⟨rfl, HO22.out⟩
end Go.Proofs.Ytipmdhfinlkceaa
