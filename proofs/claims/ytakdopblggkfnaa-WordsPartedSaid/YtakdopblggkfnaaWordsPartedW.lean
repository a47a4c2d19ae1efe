import Derived.Test.YtakdopblggkfnaaWordsLaws
/- The walk of the law WordsParted, if package words says what it is asked. -/
namespace Go.Proofs.Ytakdopblggkfnaa
open Go.RowKit
set_option linter.unusedVariables false
set_option linter.unusedSimpArgs false
set_option maxHeartbeats 4000000 in
set_option maxRecDepth 100000 in
theorem wordsparted_far (H : WordsSays) {A : Option Addr} {n c : Nat} {zs : List Int} {sp wd : Int} {w : World} (hz : Ints w A n zs) (hbad : 200 < n ∨ nearB zs sp wd = false) :
    Calls Try.prog 4 #[.slice A n c, .int .i64 sp, .int .i64 wd] w fun e w' => e = .returned (.bool true) ∧ Below w.heap.size w w' := by
  have HH := Lib.hid H
  have HA := Lib.hid hz
  have hnb := hz.2.1
  clear H hz
  by_cases hbig : 200 < n
  · have hbig2 : (200 : Int) < (n : Int) := by omega
    clear hbad
    go_enter Try.func4, Try.ntmps4
    go_wp2_with fail
    refine (wawake_any HH.out _).mono ?_
    rintro e w1 ⟨rfl, hb⟩
    have HB := Lib.hid hb
    clear hb
    go_wp2_with fail
    go_ret
    exact ⟨rfl, HB.out⟩
  · have HN := Lib.hid (hbad.resolve_left hbig)
    have hbig2 : (n : Int) ≤ (200 : Int) := by omega
    clear hbad hbig
    go_enter Try.func4, Try.ntmps4
    go_wp2_with fail
    refine (rnear_to HN.out HA.out).mono ?_
    rintro e w1 ⟨rfl, rfl⟩
    go_wp2_with fail
    refine (wawake_any HH.out _).mono ?_
    rintro e w1 ⟨rfl, hb⟩
    have HB := Lib.hid hb
    clear hb
    go_wp2_with fail
    go_ret
    exact ⟨rfl, HB.out⟩
set_option maxHeartbeats 8000000 in
set_option maxRecDepth 100000 in
theorem wordsparted_in (H : WordsSays) {A : Option Addr} {n c : Nat} {zs : List Int} {sp wd : Int} {w : World} (hz : Ints w A n zs) (hsm : n ≤ 200) (hnear : nearB zs sp wd = true) :
    Calls Try.prog 4 #[.slice A n c, .int .i64 sp, .int .i64 wd] w fun e w' => e = .returned (.bool true) ∧ Below w.heap.size w w' := by
  have HH := Lib.hid H
  have HA := Lib.hid hz
  have HL := Lib.hid hz.1
  have HN := Lib.hid hnear
  have HNE := Lib.hid (nearB_iff.1 hnear)
  have hn2 : n ≤ 1000 := by omega
  have hbig2 : (n : Int) ≤ (200 : Int) := by omega
  have hd200 : decide ((200 : Int) < (n : Int)) = false := decide_eq_false (by omega)
  obtain ⟨sp0, sp1⟩ := (nearB_iff.1 hnear).1.1
  unfold farN at sp1
  obtain ⟨rs, hr⟩ : ∃ rs, linesR zs sp wd 0 = rs := ⟨_, rfl⟩
  have HR := Lib.hid hr
  clear H hz hnear hr hsm
  go_enter Try.func4, Try.ntmps4
  go_wp2_with fail
  refine (rnear_to HN.out HA.out).mono ?_
  rintro e w1 ⟨rfl, rfl⟩
  go_wp2_with fail
  refine (HH.out.all HR.out HNE.out.1 HNE.out.2.1 HNE.out.2.2 hn2 HA.out).mono ?_
  rintro e wA ⟨A7, m, c7, rfl, hm, hr7, hb⟩
  have HM := Lib.hid hm
  have HR7 := Lib.hid hr7
  have HB := Lib.hid hb
  have hmb := hr7.2.1
  clear hm hr7 hb
  go_wp2_with fail
  go_loopw [8, 9, 10, 11, 12] (fun at' i x s k' wr => ∃ (k a : Nat), i = .int .i64 (k : Int) ∧ at' = .int .i64 (a : Int) ∧ k ≤ m ∧ a ≤ n ∧ Hid (rs.drop k = linesR zs sp wd a) ∧ Hid (On wA wr)) (fun _ i _ _ _ _ => m - (intOf i).toNat)
  case atStart => exact ⟨0, 0, rfl, rfl, Nat.zero_le _, Nat.zero_le _, Lib.hid HR.out.symm, Lib.hid (On.refl _)⟩
  case round =>
    obtain ⟨k, a, rfl, rfl, hkm, han, HD, HO⟩ := hrel
    by_cases hlt : k < m
    · have hlt2 : (k : Int) < (m : Int) := by omega
      obtain ⟨b7, o7, x, y, z, rfl, hb7, hx, q0, q1, q2⟩ := runs_at (HR7.out.on HO.out) hlt
      have hkl := (List.getElem?_eq_some_iff.1 hx)
      obtain ⟨hk1, hk2⟩ := hkl
      have hdr := HD.out
      rw [List.drop_eq_getElem_cons hk1, hk2] at hdr
      have hal : a < zs.length := by
        rcases Nat.lt_or_ge a zs.length with h | h
        · exact h
        · rw [linesR_end h] at hdr; cases hdr
      rw [linesR_step hal] at hdr
      injection hdr with hd1 hd2
      obtain ⟨e, he⟩ : ∃ e, endP zs sp wd a = e := ⟨_, rfl⟩
      obtain ⟨s1, s2⟩ := endP_spec (sp := sp) (wd := wd) hal
      rw [he] at s1 s2 hd2
      unfold takeN at hd1
      rw [he] at hd1
      injection hd1 with g1 hd1
      injection hd1 with g2 g3
      subst g1 g2
      have HZ := Lib.hid g3
      have HD2 := Lib.hid hd2
      have HS1 := Lib.hid s1
      have HS2 := Lib.hid s2
      have hae : a < e := s1.1
      have hen : e ≤ n := by have := s1.2.1; have := HL.out; omega
      have hzb := wideN_bd HNE.out.1 a e
      rw [← g3] at hzb
      obtain ⟨z0, z1'⟩ := hzb
      have z1 : z ≤ 2000 * 35184372088832 := by
        have h2 : 2 * (zs.length : Int) * farN ≤ 2000 * farN := Int.mul_le_mul_of_nonneg_right (by have := HL.out; omega) (by unfold farN; omega)
        unfold farN at *
        omega
      have hx0 : 0 ≤ ((e : Int) - a - 1) * sp := Int.mul_nonneg (by omega) sp0
      have hx1 : ((e : Int) - a - 1) * sp ≤ 1000 * 35184372088832 :=
        Int.le_trans (Int.mul_le_mul_of_nonneg_left sp1 (by omega)) (Int.mul_le_mul_of_nonneg_right (by omega) (by omega))
      have hwx : IntKind.i64.wrap (((e : Int) - a - 1) * sp) = ((e : Int) - a - 1) * sp := IntWalk.i64_in _ (by omega)
      have HX1 := Lib.hid hx0
      have HX2 := Lib.hid hx1
      have HO2 := Lib.hid (show On wA (wr.alloc (.cells #[.int .i64 (a : Int), .int .i64 (e : Int), .int .i64 z] 27)) from HO.out.alloc _)
      have HBX := Lib.hid (box3 wr (.int .i64 (a : Int)) (.int .i64 (e : Int)) (.int .i64 z) 27)
      have haa : ((a : Int) != (a : Int)) = false := by simp
      have hae2 : (a : Int) < (e : Int) := by omega
      have hdea : decide (e ≤ a) = false := decide_eq_false (by omega)
      have hdne : decide (n < e) = false := decide_eq_false (by omega)
      have hen2 : (e : Int) ≤ (n : Int) := by omega
      clear hx hk1 hk2 hal he s1 s2 hd2 g3 z1' hx0 hx1
      go_wp2_with fail
      obtain ⟨V, hV⟩ : ∃ V, wr.alloc (.cells #[.int .i64 (a : Int), .int .i64 (e : Int), .int .i64 z] 27) = V := ⟨_, rfl⟩
      obtain ⟨B, hB⟩ : ∃ B, wr.heap.size = B := ⟨_, rfl⟩
      rw [hV, hB] at HBX
      rw [hV] at HO2
      rw [hV, hB]
      clear hV hB q0 q1 q2
      obtain ⟨⟨p0, p1, p2⟩, _, hBl⟩ := HBX.out.of3w
      have hzz : (z != z) = false := by simp
      go_loopw [11, 12] (fun s k' wq => ∃ (j : Nat) (t : Int), s = .int .i64 t ∧ k' = .int .i64 ((a + j : Nat) : Int) ∧ a + j ≤ e ∧ Hid (t = ((e : Int) - a - 1) * sp + sumK zs a j) ∧ wq = V) (fun _ k' _ => e - (intOf k').toNat)
      case atStart => exact ⟨0, _, rfl, by rfl, by omega, Lib.hid (by unfold sumK; rw [Int.add_zero]), by first | rfl | trivial⟩
      case round =>
        obtain ⟨j, t, rfl, rfl, hje, HT, rfl⟩ := hrel
        by_cases hlj : a + j < e
        · have hlj2 : ((a + j : Nat) : Int) < (e : Int) := by omega
          have hlj3 : ((a + j : Nat) : Int) < (n : Int) := by omega
          obtain ⟨b', off, hA', hc⟩ := (HA.out.below (below_then HB.out HO2.out) rfl).at_ (show a + j < n by omega)
          subst hA'
          obtain ⟨u, hu⟩ : ∃ u, zs[a + j]?.getD 0 = u := ⟨_, rfl⟩
          rw [hu] at hc
          have hub := word_bd HNE.out.1 (a + j)
          unfold wordI at hub
          rw [hu] at hub
          obtain ⟨u0, u1⟩ := hub
          unfold farN at u1
          have hsb := sumK_bd HNE.out.1 a j
          have HT2 := Lib.hid (show t + u = ((e : Int) - a - 1) * sp + sumK zs a (j + 1) by rw [HT.out, sumK, Int.add_assoc]; congr 1; rw [← hu]; rfl)
          have ht0 : 0 ≤ t := by rw [HT.out]; have := HX1.out; omega
          have ht1 : t ≤ 2000 * 35184372088832 := by
            rw [HT.out]
            have h1 := HX2.out
            have h2 : (j : Int) * farN ≤ 1000 * farN := Int.mul_le_mul_of_nonneg_right (by omega) (by unfold farN; omega)
            unfold farN at *
            omega
          clear hu hsb
          go_wp2_with fail
          go_roundw
          case rel => exact ⟨j + 1, t + u, rfl, by go_num, by omega, HT2, by first | rfl | trivial⟩
          case measure => simp [intOf] <;> omega
        · have hge : (e : Int) ≤ ((a + j : Nat) : Int) := by omega
          have htz : t = z := by
            rw [HT.out, HZ.out]
            unfold wideN
            rw [if_pos ⟨hae, by have := HL.out; omega⟩, show e - a = j by omega]
          subst htz
          by_cases hen3 : e < n
          · have hen4 : (e : Int) < (n : Int) := by omega
            obtain ⟨b', off, hA', hc⟩ := (HA.out.below (below_then HB.out HO2.out) rfl).at_ hen3
            subst hA'
            obtain ⟨u, hu⟩ : ∃ u, zs[e]?.getD 0 = u := ⟨_, rfl⟩
            rw [hu] at hc
            have hub := word_bd HNE.out.1 e
            have hfull := HS2.out (by have := HL.out; omega)
            rw [wideN_step hae (by have := HL.out; omega), ← HZ.out] at hfull
            unfold wordI at hub hfull
            rw [hu] at hub hfull
            obtain ⟨u0, u1⟩ := hub
            unfold farN at u1
            clear hu
            by_cases hzw : t ≤ wd
            · go_wp2_with fail
              go_roundw
              case rel => exact ⟨k + 1, e, by go_num, rfl, by omega, hen, HD2, HO2⟩
              case measure => simp [intOf] <;> omega
            · have hone : (e : Int) ≤ (a : Int) + 1 := by
                rcases HS1.out.2.2 with h | h
                · omega
                · rw [← HZ.out] at h; exact absurd h hzw
              have hzw2 : wd < t := by omega
              go_wp2_with fail
              go_roundw
              case rel => exact ⟨k + 1, e, by go_num, rfl, by omega, hen, HD2, HO2⟩
              case measure => simp [intOf] <;> omega
          · have hen4 : (n : Int) ≤ (e : Int) := by omega
            by_cases hzw : t ≤ wd
            · go_wp2_with fail
              go_roundw
              case rel => exact ⟨k + 1, e, by go_num, rfl, by omega, hen, HD2, HO2⟩
              case measure => simp [intOf] <;> omega
            · have hone : (e : Int) ≤ (a : Int) + 1 := by
                rcases HS1.out.2.2 with h | h
                · omega
                · rw [← HZ.out] at h; exact absurd h hzw
              have hzw2 : wd < t := by omega
              go_wp2_with fail
              go_roundw
              case rel => exact ⟨k + 1, e, by go_num, rfl, by omega, hen, HD2, HO2⟩
              case measure => simp [intOf] <;> omega
    · have hge : (m : Int) ≤ (k : Int) := by omega
      obtain rfl : a = n := by
        have h1 := HD.out
        rw [List.drop_eq_nil_of_le (by have := HM.out; omega)] at h1
        rcases Nat.lt_or_ge a zs.length with h | h
        · rw [linesR_step h] at h1; cases h1
        · have := HL.out; omega
      have hnn : ((a : Int) == (a : Int)) = true := by simp
      go_wp2_with fail
      refine (wawake_any HH.out _).mono ?_
      rintro e wE ⟨rfl, hbE⟩
      have HBE := Lib.hid (below_then (below_then HB.out HO.out) hbE)
      clear hbE
      go_wp2_with fail
      go_ret
      exact ⟨rfl, HBE.out⟩
theorem wordsparted_walk (H : WordsSays) (A : Option Addr) (n c : Nat) (zs : List Int) (zs0 : ∀ z ∈ zs, (Lit.int .i64 z).wf = true) (sp : Int) (hsp : -9223372036854775808 ≤ sp ∧ sp ≤ 9223372036854775807) (wd : Int) (hwd : -9223372036854775808 ≤ wd ∧ wd ≤ 9223372036854775807)
    (w : World) (hz : Ints w A n zs) :
    Calls Try.prog 4 #[.slice A n c, .int .i64 sp, .int .i64 wd] w fun e w' => e = .returned (.bool true) ∧ Below w.heap.size w w' := by
  by_cases hbig : 200 < n
  · exact wordsparted_far H hz (.inl hbig)
  · rcases hq : nearB zs sp wd with _ | _
    · exact wordsparted_far H hz (.inr hq)
    · exact wordsparted_in H hz (by omega) hq
end Go.Proofs.Ytakdopblggkfnaa
