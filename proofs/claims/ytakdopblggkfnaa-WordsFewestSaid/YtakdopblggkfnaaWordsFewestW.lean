import Derived.Test.YtakdopblggkfnaaWordsLaws
/- The walk of the law WordsFewest, if package words says what it is asked. (Written by program: tools/drafts/genfewest9.py.) -/
namespace Go.Proofs.Ytakdopblggkfnaa
open Go.RowKit
set_option linter.unusedVariables false
set_option linter.unusedSimpArgs false
theorem linesR_count (zs : List Int) (sp wd : Int) (a : Nat) : (linesR zs sp wd a).length = (linesP zs sp wd a).length := by unfold linesR; rw [List.length_map]
/-- the lines of a wider line. -/
theorem all_more (H : WordsSays) {zs : List Int} {sp wd more : Int} {m : Nat} (hm : (linesR zs sp wd 0).length = m) (hn : Near9 zs sp) (h0 : 0 ≤ wd) (h1 : wd ≤ farN) (h2 : 0 ≤ more) (h3 : more ≤ 1099511627776) {A : Option Addr} {n c : Nat} (hn2 : n ≤ 1000) {w : World} (hz : Ints w A n zs) :
    Calls Try.prog 13 #[.slice A n c, .int .i64 sp, .int .i64 (wd + more)] w fun e w' => ∃ A' n' c', e = .returned (.slice A' n' c') ∧ n' ≤ 9223372036854775807 ∧ (wd + more ≤ farN → n' ≤ m) ∧ Below w.heap.size w w' := by
  by_cases hw : wd + more ≤ farN
  · refine (H.all rfl hn (by omega) hw hn2 hz).mono ?_
    rintro e w' ⟨A', n', c', rfl, h5, h6, h7⟩
    refine ⟨A', n', c', rfl, h6.2.1, fun _ => ?_, h7⟩
    rw [h5, ← hm, linesR_count, linesR_count]
    exact lines_wider hn (by omega) 0 (Nat.zero_le _)
  · refine (H.any hn (by omega) (by unfold farN at *; omega) hn2 hz).mono ?_
    rintro e w' ⟨A', n', c', rfl, h5, h7⟩
    exact ⟨A', n', c', rfl, h5, fun h => absurd h hw, h7⟩
set_option maxHeartbeats 8000000 in
set_option maxRecDepth 100000 in
theorem wordsfewest_far (H : WordsSays) {A A4 : Option Addr} {n c n4 c4 : Nat} {zs es : List Int} {sp wd more : Int} {w : World} (hz : Ints w A n zs) (hz4 : Ints w A4 n4 es) (hbad : 200 < n ∨ 200 < n4 ∨ nearB zs sp wd = false ∨ more < 0 ∨ 1099511627776 < more) :
    Calls Try.prog 5 #[.slice A n c, .int .i64 sp, .int .i64 wd, .int .i64 more, .slice A4 n4 c4] w fun e w' => e = .returned (.bool true) ∧ Below w.heap.size w w' := by
  have HH := Lib.hid H
  have HA := Lib.hid hz
  have hnb := hz.2.1
  have hnb4 := hz4.2.1
  clear H hz hz4
  by_cases h1 : 200 < n
  · have h1' : (200 : Int) < (n : Int) := by omega
    clear hbad
    go_enter Try.func5, Try.ntmps5
    go_wp2_with fail
    refine (wawake_any HH.out _).mono ?_
    rintro e w9 ⟨rfl, hb9⟩
    have HB9 := Lib.hid (hb9)
    clear hb9
    go_wp2_with fail
    go_ret
    exact ⟨rfl, HB9.out⟩
  by_cases h2 : 200 < n4
  · have h1' : (n : Int) ≤ (200 : Int) := by omega
    have h2' : (200 : Int) < (n4 : Int) := by omega
    clear hbad
    go_enter Try.func5, Try.ntmps5
    go_wp2_with fail
    refine (wawake_any HH.out _).mono ?_
    rintro e w9 ⟨rfl, hb9⟩
    have HB9 := Lib.hid (hb9)
    clear hb9
    go_wp2_with fail
    go_ret
    exact ⟨rfl, HB9.out⟩
  have h1' : (n : Int) ≤ (200 : Int) := by omega
  have h2' : (n4 : Int) ≤ (200 : Int) := by omega
  rcases hq : nearB zs sp wd with _ | _
  · have HN := Lib.hid hq
    clear hbad hq
    go_enter Try.func5, Try.ntmps5
    go_wp2_with fail
    refine (rnear_to HN.out HA.out).mono ?_
    rintro e w1 ⟨rfl, rfl⟩
    go_wp2_with fail
    refine (wawake_any HH.out _).mono ?_
    rintro e w9 ⟨rfl, hb9⟩
    have HB9 := Lib.hid (hb9)
    clear hb9
    go_wp2_with fail
    go_ret
    exact ⟨rfl, HB9.out⟩
  have HN := Lib.hid hq
  by_cases h3 : more < 0
  · clear hbad hq
    go_enter Try.func5, Try.ntmps5
    go_wp2_with fail
    refine (rnear_to HN.out HA.out).mono ?_
    rintro e w1 ⟨rfl, rfl⟩
    go_wp2_with fail
    refine (wawake_any HH.out _).mono ?_
    rintro e w9 ⟨rfl, hb9⟩
    have HB9 := Lib.hid (hb9)
    clear hb9
    go_wp2_with fail
    go_ret
    exact ⟨rfl, HB9.out⟩
  have h4 : 1099511627776 < more := by
    rcases hbad with h | h | h | h | h
    · omega
    · omega
    · rw [hq] at h; cases h
    · omega
    · exact h
  clear hbad hq
  go_enter Try.func5, Try.ntmps5
  go_wp2_with fail
  refine (rnear_to HN.out HA.out).mono ?_
  rintro e w1 ⟨rfl, rfl⟩
  go_wp2_with fail
  refine (wawake_any HH.out _).mono ?_
  rintro e w9 ⟨rfl, hb9⟩
  have HB9 := Lib.hid (hb9)
  clear hb9
  go_wp2_with fail
  go_ret
  exact ⟨rfl, HB9.out⟩
set_option maxHeartbeats 16000000 in
set_option maxRecDepth 100000 in
theorem wordsfewest_in (H : WordsSays) {A A4 : Option Addr} {n c n4 c4 : Nat} {zs es : List Int} {sp wd more : Int} {w : World} (hz : Ints w A n zs) (hz4 : Ints w A4 n4 es) (hsm : n ≤ 200) (hsm4 : n4 ≤ 200) (hnear : nearB zs sp wd = true) (hm0 : 0 ≤ more) (hm1 : more ≤ 1099511627776) :
    Calls Try.prog 5 #[.slice A n c, .int .i64 sp, .int .i64 wd, .int .i64 more, .slice A4 n4 c4] w fun e w' => e = .returned (.bool true) ∧ Below w.heap.size w w' := by
  have HH := Lib.hid H
  have HA := Lib.hid hz
  have HA4 := Lib.hid hz4
  have HL := Lib.hid hz.1
  have HN := Lib.hid hnear
  have HNE := Lib.hid (nearB_iff.1 hnear)
  have hn2 : n ≤ 1000 := by omega
  have h1' : (n : Int) ≤ (200 : Int) := by omega
  have h2' : (n4 : Int) ≤ (200 : Int) := by omega
  have hd1 : decide ((200 : Int) < (n : Int)) = false := decide_eq_false (by omega)
  have hd2 : decide ((200 : Int) < (n4 : Int)) = false := decide_eq_false (by omega)
  have hd3 : decide (more < 0) = false := decide_eq_false (by omega)
  have hd4 : decide (1099511627776 < more) = false := decide_eq_false (by omega)
  obtain ⟨wd0, wd1⟩ := (nearB_iff.1 hnear).2
  unfold farN at wd1
  have hwm : IntKind.i64.wrap (wd + more) = wd + more := IntWalk.i64_in _ (by omega)
  clear H hz hz4 hnear hsm hsm4
  go_enter Try.func5, Try.ntmps5
  go_wp2_with fail
  refine (rnear_to HN.out HA.out).mono ?_
  rintro e w1 ⟨rfl, rfl⟩
  go_wp2_with fail
  refine (HH.out.all rfl HNE.out.1 HNE.out.2.1 HNE.out.2.2 hn2 HA.out).mono ?_
  rintro e w2 ⟨A7, m, c7, rfl, hm, hr7, hb⟩
  have HM := Lib.hid hm.symm
  have HI := Lib.hid (HA.out.below hb rfl)
  have HI4 := Lib.hid (HA4.out.below hb rfl)
  have HB := Lib.hid hb
  have hmb := hr7.2.1
  clear hm hr7 hb
  go_wp2_with fail
  refine (all_more HH.out HM.out HNE.out.1 HNE.out.2.1 HNE.out.2.2 hm0 hm1 hn2 HI.out).mono ?_
  rintro e w3 ⟨A8, m8, c8, rfl, hm8, hmm, hb⟩
  have HMM := Lib.hid hmm
  have HI := Lib.hid (HI.out.below hb rfl)
  have HI4 := Lib.hid (HI4.out.below hb rfl)
  have HB := Lib.hid (below_then HB.out hb)
  clear hmm hb
  by_cases hg : m8 ≤ m
  · have hg2 : (m8 : Int) ≤ (m : Int) := by omega
    have hdg : decide (m < m8) = false := decide_eq_false (by omega)
    go_wp2_with fail
    go_loopw [12, 13] (fun f i wr => ∃ k g : Nat, i = .int .i64 (k : Int) ∧ f = .int .i64 (g : Int) ∧ k ≤ n4 ∧ g ≤ n ∧ Hid (∃ ns : List Nat, PartsTo zs sp wd 0 ns g ∧ ns.length = k) ∧ Hid (On w3 wr)) (fun _ i _ => n4 - (intOf i).toNat)
    case atStart => exact ⟨0, 0, rfl, rfl, Nat.zero_le _, Nat.zero_le _, Lib.hid ⟨[], rfl, rfl⟩, Lib.hid (On.refl _)⟩
    case round =>
      obtain ⟨k, g, rfl, rfl, hk, hgn, HP, HO⟩ := hrel
      by_cases hlt : k < n4
      · have hlt2 : (k : Int) < (n4 : Int) := by omega
        obtain ⟨b4, o4, rfl, hc4⟩ := (HI4.out.below HO.out rfl).at_ hlt
        obtain ⟨u, hu⟩ : ∃ u, es[k]?.getD 0 = u := ⟨_, rfl⟩
        rw [hu] at hc4
        clear hu
        by_cases hu1 : u ≤ (g : Int)
        · go_wp2_with fail
          refine (wawake_any HH.out _).mono ?_
          rintro e w9 ⟨rfl, hb9⟩
          have HB9 := Lib.hid (below_then (below_then HB.out HO.out) hb9)
          clear hb9
          go_wp2_with fail
          go_ret
          exact ⟨rfl, HB9.out⟩
        by_cases hu2 : (n : Int) < u
        · go_wp2_with fail
          refine (wawake_any HH.out _).mono ?_
          rintro e w9 ⟨rfl, hb9⟩
          have HB9 := Lib.hid (below_then (below_then HB.out HO.out) hb9)
          clear hb9
          go_wp2_with fail
          go_ret
          exact ⟨rfl, HB9.out⟩
        obtain ⟨t, rfl⟩ : ∃ t : Nat, u = (t : Int) := ⟨u.toNat, by omega⟩
        have hgt : g < t := by omega
        have htn : t ≤ n := by omega
        by_cases hone : t = g + 1
        · have hone2 : (t : Int) ≤ (g : Int) + 1 := by omega
          have HP2 := Lib.hid (show ∃ ns : List Nat, PartsTo zs sp wd 0 ns t ∧ ns.length = k + 1 by
            obtain ⟨ns, p1, p2⟩ := HP.out
            exact ⟨ns ++ [t], partsTo_snoc p1 ⟨hgt, by have := HL.out; omega, .inl hone⟩, by simp [p2]⟩)
          clear hone
          go_wp2_with fail
          go_roundw
          case rel => exact ⟨k + 1, t, by go_num, rfl, by omega, by omega, HP2, HO⟩
          case measure => simp [intOf] <;> omega
        have hone2 : (g : Int) + 1 < (t : Int) := by omega
        obtain ⟨v, hv⟩ : ∃ v, wideN zs sp g t = v := ⟨_, rfl⟩
        have HW := Lib.hid (show wideI zs sp (g : Int) (t : Int) = v by rw [wideI_nat, hv])
        have HV := Lib.hid hv
        clear hv
        by_cases hvw : v ≤ wd
        · have HP2 := Lib.hid (show ∃ ns : List Nat, PartsTo zs sp wd 0 ns t ∧ ns.length = k + 1 by
            obtain ⟨ns, p1, p2⟩ := HP.out
            exact ⟨ns ++ [t], partsTo_snoc p1 ⟨hgt, by have := HL.out; omega, .inr (by rw [HV.out]; exact hvw)⟩, by simp [p2]⟩)
          go_wp2_with fail
          refine (HH.out.wide HW.out HNE.out.1 (by unfold I64w; omega) (by unfold I64w; omega) hn2 (HI.out.below HO.out rfl)).mono ?_
          rintro e w8 ⟨rfl, hb8⟩
          have HO8 := Lib.hid (HO.out.step hb8)
          have hc5 := (below_cell hb8 (cell_lt hc4)).trans hc4
          clear hb8
          go_wp2_with fail
          go_roundw
          case rel => exact ⟨k + 1, t, by go_num, rfl, by omega, by omega, HP2, HO8⟩
          case measure => simp [intOf] <;> omega
        · have hvw2 : wd < v := by omega
          go_wp2_with fail
          refine (HH.out.wide HW.out HNE.out.1 (by unfold I64w; omega) (by unfold I64w; omega) hn2 (HI.out.below HO.out rfl)).mono ?_
          rintro e w8 ⟨rfl, hb8⟩
          have HO := Lib.hid (HO.out.step hb8)
          clear hb8
          go_wp2_with fail
          refine (wawake_any HH.out _).mono ?_
          rintro e w9 ⟨rfl, hb9⟩
          have HB9 := Lib.hid (below_then (below_then HB.out HO.out) hb9)
          clear hb9
          go_wp2_with fail
          go_ret
          exact ⟨rfl, HB9.out⟩
      · have hge : (n4 : Int) ≤ (k : Int) := by omega
        by_cases hgn2 : g < n
        · have hgn3 : (g : Int) < (n : Int) := by omega
          go_wp2_with fail
          refine (wawake_any HH.out _).mono ?_
          rintro e w9 ⟨rfl, hb9⟩
          have HB9 := Lib.hid (below_then (below_then HB.out HO.out) hb9)
          clear hb9
          go_wp2_with fail
          go_ret
          exact ⟨rfl, HB9.out⟩
        · have hgn3 : (n : Int) ≤ (g : Int) := by omega
          have hme : (m : Int) ≤ (n4 : Int) := by
            obtain ⟨ns, p1, p2⟩ := HP.out
            have hg : g = zs.length := by have := HL.out; omega
            rw [hg] at p1
            have := lines_fewest HNE.out.1 (Int.le_refl wd) ns 0 0 (Nat.le_refl _) p1
            rw [← linesR_count, HM.out] at this
            omega
          go_wp2_with fail
          refine (wawake_any HH.out _).mono ?_
          rintro e w9 ⟨rfl, hb9⟩
          have HB9 := Lib.hid (below_then (below_then HB.out HO.out) hb9)
          clear hb9
          go_wp2_with fail
          go_ret
          exact ⟨rfl, HB9.out⟩
  · have hg2 : (m : Int) < (m8 : Int) := by omega
    have hdg : decide (m < m8) = true := decide_eq_true (by omega)
    have hfar : (35184372088832 : Int) < wd + more := by
      rcases Int.lt_or_le farN (wd + more) with h | h
      · exact h
      · exact absurd (HMM.out h) hg
    have hdf : decide (wd + more ≤ 35184372088832) = false := decide_eq_false (by omega)
    go_wp2_with fail
    go_loopw [12, 13] (fun f i wr => ∃ k g : Nat, i = .int .i64 (k : Int) ∧ f = .int .i64 (g : Int) ∧ k ≤ n4 ∧ g ≤ n ∧ Hid (∃ ns : List Nat, PartsTo zs sp wd 0 ns g ∧ ns.length = k) ∧ Hid (On w3 wr)) (fun _ i _ => n4 - (intOf i).toNat)
    case atStart => exact ⟨0, 0, rfl, rfl, Nat.zero_le _, Nat.zero_le _, Lib.hid ⟨[], rfl, rfl⟩, Lib.hid (On.refl _)⟩
    case round =>
      obtain ⟨k, g, rfl, rfl, hk, hgn, HP, HO⟩ := hrel
      by_cases hlt : k < n4
      · have hlt2 : (k : Int) < (n4 : Int) := by omega
        obtain ⟨b4, o4, rfl, hc4⟩ := (HI4.out.below HO.out rfl).at_ hlt
        obtain ⟨u, hu⟩ : ∃ u, es[k]?.getD 0 = u := ⟨_, rfl⟩
        rw [hu] at hc4
        clear hu
        by_cases hu1 : u ≤ (g : Int)
        · go_wp2_with fail
          refine (wawake_any HH.out _).mono ?_
          rintro e w9 ⟨rfl, hb9⟩
          have HB9 := Lib.hid (below_then (below_then HB.out HO.out) hb9)
          clear hb9
          go_wp2_with fail
          go_ret
          exact ⟨rfl, HB9.out⟩
        by_cases hu2 : (n : Int) < u
        · go_wp2_with fail
          refine (wawake_any HH.out _).mono ?_
          rintro e w9 ⟨rfl, hb9⟩
          have HB9 := Lib.hid (below_then (below_then HB.out HO.out) hb9)
          clear hb9
          go_wp2_with fail
          go_ret
          exact ⟨rfl, HB9.out⟩
        obtain ⟨t, rfl⟩ : ∃ t : Nat, u = (t : Int) := ⟨u.toNat, by omega⟩
        have hgt : g < t := by omega
        have htn : t ≤ n := by omega
        by_cases hone : t = g + 1
        · have hone2 : (t : Int) ≤ (g : Int) + 1 := by omega
          have HP2 := Lib.hid (show ∃ ns : List Nat, PartsTo zs sp wd 0 ns t ∧ ns.length = k + 1 by
            obtain ⟨ns, p1, p2⟩ := HP.out
            exact ⟨ns ++ [t], partsTo_snoc p1 ⟨hgt, by have := HL.out; omega, .inl hone⟩, by simp [p2]⟩)
          clear hone
          go_wp2_with fail
          go_roundw
          case rel => exact ⟨k + 1, t, by go_num, rfl, by omega, by omega, HP2, HO⟩
          case measure => simp [intOf] <;> omega
        have hone2 : (g : Int) + 1 < (t : Int) := by omega
        obtain ⟨v, hv⟩ : ∃ v, wideN zs sp g t = v := ⟨_, rfl⟩
        have HW := Lib.hid (show wideI zs sp (g : Int) (t : Int) = v by rw [wideI_nat, hv])
        have HV := Lib.hid hv
        clear hv
        by_cases hvw : v ≤ wd
        · have HP2 := Lib.hid (show ∃ ns : List Nat, PartsTo zs sp wd 0 ns t ∧ ns.length = k + 1 by
            obtain ⟨ns, p1, p2⟩ := HP.out
            exact ⟨ns ++ [t], partsTo_snoc p1 ⟨hgt, by have := HL.out; omega, .inr (by rw [HV.out]; exact hvw)⟩, by simp [p2]⟩)
          go_wp2_with fail
          refine (HH.out.wide HW.out HNE.out.1 (by unfold I64w; omega) (by unfold I64w; omega) hn2 (HI.out.below HO.out rfl)).mono ?_
          rintro e w8 ⟨rfl, hb8⟩
          have HO8 := Lib.hid (HO.out.step hb8)
          have hc5 := (below_cell hb8 (cell_lt hc4)).trans hc4
          clear hb8
          go_wp2_with fail
          go_roundw
          case rel => exact ⟨k + 1, t, by go_num, rfl, by omega, by omega, HP2, HO8⟩
          case measure => simp [intOf] <;> omega
        · have hvw2 : wd < v := by omega
          go_wp2_with fail
          refine (HH.out.wide HW.out HNE.out.1 (by unfold I64w; omega) (by unfold I64w; omega) hn2 (HI.out.below HO.out rfl)).mono ?_
          rintro e w8 ⟨rfl, hb8⟩
          have HO := Lib.hid (HO.out.step hb8)
          clear hb8
          go_wp2_with fail
          refine (wawake_any HH.out _).mono ?_
          rintro e w9 ⟨rfl, hb9⟩
          have HB9 := Lib.hid (below_then (below_then HB.out HO.out) hb9)
          clear hb9
          go_wp2_with fail
          go_ret
          exact ⟨rfl, HB9.out⟩
      · have hge : (n4 : Int) ≤ (k : Int) := by omega
        by_cases hgn2 : g < n
        · have hgn3 : (g : Int) < (n : Int) := by omega
          go_wp2_with fail
          refine (wawake_any HH.out _).mono ?_
          rintro e w9 ⟨rfl, hb9⟩
          have HB9 := Lib.hid (below_then (below_then HB.out HO.out) hb9)
          clear hb9
          go_wp2_with fail
          go_ret
          exact ⟨rfl, HB9.out⟩
        · have hgn3 : (n : Int) ≤ (g : Int) := by omega
          have hme : (m : Int) ≤ (n4 : Int) := by
            obtain ⟨ns, p1, p2⟩ := HP.out
            have hg : g = zs.length := by have := HL.out; omega
            rw [hg] at p1
            have := lines_fewest HNE.out.1 (Int.le_refl wd) ns 0 0 (Nat.le_refl _) p1
            rw [← linesR_count, HM.out] at this
            omega
          go_wp2_with fail
          refine (wawake_any HH.out _).mono ?_
          rintro e w9 ⟨rfl, hb9⟩
          have HB9 := Lib.hid (below_then (below_then HB.out HO.out) hb9)
          clear hb9
          go_wp2_with fail
          go_ret
          exact ⟨rfl, HB9.out⟩
theorem wordsfewest_walk (H : WordsSays) (A : Option Addr) (n c : Nat) (zs : List Int) (zs0 : ∀ z ∈ zs, (Lit.int .i64 z).wf = true) (sp : Int) (hsp : -9223372036854775808 ≤ sp ∧ sp ≤ 9223372036854775807) (wd : Int) (hwd : -9223372036854775808 ≤ wd ∧ wd ≤ 9223372036854775807)
    (more : Int) (hmore : -9223372036854775808 ≤ more ∧ more ≤ 9223372036854775807) (A4 : Option Addr) (n4 c4 : Nat) (es : List Int) (es0 : ∀ z ∈ es, (Lit.int .i64 z).wf = true) (w : World) (hz : Ints w A n zs) (hz4 : Ints w A4 n4 es) :
    Calls Try.prog 5 #[.slice A n c, .int .i64 sp, .int .i64 wd, .int .i64 more, .slice A4 n4 c4] w fun e w' => e = .returned (.bool true) ∧ Below w.heap.size w w' := by
  by_cases h1 : 200 < n
  · exact wordsfewest_far H hz hz4 (.inl h1)
  by_cases h2 : 200 < n4
  · exact wordsfewest_far H hz hz4 (.inr (.inl h2))
  rcases hq : nearB zs sp wd with _ | _
  · exact wordsfewest_far H hz hz4 (.inr (.inr (.inl hq)))
  by_cases h3 : more < 0
  · exact wordsfewest_far H hz hz4 (.inr (.inr (.inr (.inl h3))))
  by_cases h4 : 1099511627776 < more
  · exact wordsfewest_far H hz hz4 (.inr (.inr (.inr (.inr h4))))
  exact wordsfewest_in H hz hz4 (by omega) (by omega) hq (by omega) (by omega)
end Go.Proofs.Ytakdopblggkfnaa
