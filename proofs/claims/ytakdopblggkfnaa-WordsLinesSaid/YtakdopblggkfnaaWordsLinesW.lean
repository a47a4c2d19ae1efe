import Derived.Test.YtakdopblggkfnaaWordsLaws
/- The walk of the law WordsLines, if package words says what it is asked. -/
namespace Go.Proofs.Ytakdopblggkfnaa
open Go.RowKit
set_option linter.unusedVariables false
set_option linter.unusedSimpArgs false
theorem int_info9 : (Try.prog.info? 3).map (fun i => (i.zero, i.size, i.bytes)) = some (some (.int .i64 0), 1, 8) := by kernel_rfl
set_option maxHeartbeats 4000000 in
set_option maxRecDepth 100000 in
theorem wordslines_far (H : WordsSays) {A : Option Addr} {n c : Nat} {zs : List Int} {sp wd a b : Int} {w : World} (hz : Ints w A n zs) (hbad : 100 < n ∨ nearB zs sp wd = false) :
    Calls Try.prog 3 #[.slice A n c, .int .i64 sp, .int .i64 wd, .int .i64 a, .int .i64 b] w fun e w' => e = .returned (.bool true) ∧ Below w.heap.size w w' := by
  have HH := Lib.hid H
  have HA := Lib.hid hz
  have hnb := hz.2.1
  clear H hz
  by_cases hbig : 100 < n
  · have hbig2 : (100 : Int) < (n : Int) := by omega
    clear hbad
    go_enter Try.func3, Try.ntmps3
    go_wp2_with fail
    refine (wawake_any HH.out _).mono ?_
    rintro e w1 ⟨rfl, hb⟩
    have HB := Lib.hid hb
    clear hb
    go_wp2_with fail
    go_ret
    exact ⟨rfl, HB.out⟩
  · have HN := Lib.hid (hbad.resolve_left hbig)
    have hbig2 : (n : Int) ≤ (100 : Int) := by omega
    clear hbad hbig
    go_enter Try.func3, Try.ntmps3
    go_wp2_with fail
    refine (rnear_to HN.out HA.out).mono ?_
    rintro e w1 ⟨rfl, rfl⟩
    go_wp2_with fail
    refine (wawake_any HH.out _).mono ?_
    rintro e w1 ⟨rfl, hb⟩
    have HB := Lib.hid hb
    clear hb
    go_wp2_with fail
    go_ret
    exact ⟨rfl, HB.out⟩
set_option maxHeartbeats 8000000 in
set_option maxRecDepth 100000 in
theorem wordslines_in (H : WordsSays) {A : Option Addr} {n c : Nat} {zs : List Int} {sp wd a b : Int} (ha : I64w a) (hb : I64w b) {w : World} (hz : Ints w A n zs) (hsm : n ≤ 100) (hnear : nearB zs sp wd = true) :
    Calls Try.prog 3 #[.slice A n c, .int .i64 sp, .int .i64 wd, .int .i64 a, .int .i64 b] w fun e w' => e = .returned (.bool true) ∧ Below w.heap.size w w' := by
  have HH := Lib.hid H
  have HA := Lib.hid hz
  have HN := Lib.hid hnear
  have HNE := Lib.hid (nearB_iff.1 hnear)
  have Ha := Lib.hid ha
  have Hb := Lib.hid hb
  have hn2 : n ≤ 1000 := by omega
  have hbig2 : (n : Int) ≤ (100 : Int) := by omega
  obtain ⟨v, hv⟩ : ∃ v, wideI zs sp a b = v := ⟨_, rfl⟩
  obtain ⟨⟨x, y, z⟩, ht⟩ : ∃ r, takeI zs sp wd a = r := ⟨_, rfl⟩
  obtain ⟨rs, hr⟩ : ∃ rs, linesR zs sp wd 0 = rs := ⟨_, rfl⟩
  have HV := Lib.hid hv
  have HT := Lib.hid ht
  have HR := Lib.hid hr
  obtain ⟨i0, hi0, hz0, hz1, hz2⟩ := info_parts int_info9
  have HO := Lib.hid (show (w.alloc (.cells #[] 3)).ownsRow w.heap.size 3 1 (.slice (some ⟨w.heap.size, 0, none⟩) 0 0) 0 [] from World.ownsRow_made w #[] 0 (Nat.le_refl _) (by decide) rfl)
  have HC := Lib.hid (show Cells (w.alloc (.cells #[] 3)) A n 1 (zs.map (Value.int .i64)) from HA.out.cells.below (B := w.heap.size) (by go_grown) rfl)
  have H1 := Lib.hid (show ∀ u ∈ zs.map (Value.int .i64), u.oneCell' = true by
    intro u hu
    obtain ⟨z, _, rfl⟩ := List.mem_map.1 hu
    rfl)
  have hvv : (v != v) = false := by simp
  have he := run3_same x y z
  clear H hz hnear ha hb hv ht hr hsm
  go_enter Try.func3, Try.ntmps3
  go_wp2_with fail
  refine (rnear_to HN.out HA.out).mono ?_
  rintro e w1 ⟨rfl, rfl⟩
  go_wp2_with ((with_reducible refine stop_dst 26 ?_ ?_); exact rfl)
  refine Stop.intro ?_
  refine wpList_append_cells _ rfl (.tmp 24) (.tmp 25) _ rfl w.heap.size 3 i0 (.int .i64 0) 1 8 Try.underlying22 hi0 hz0 hz1 hz2 rfl (by decide) _ 0 [] rfl HO.out A n c _ rfl HC.out H1.out (by unfold maxLen; omega) (by omega) (by simp) ?_
  intro A1 c1 w1 hown1 hg1
  simp only [Nat.zero_add, List.nil_append] at hown1
  have hb1 : Below w.heap.size w w1 := ((Below.refl _ _).alloc (Nat.le_refl _) _).grown hg1 (by simp) (by intro k hk; cases hk; exact Nat.le_refl _)
  have HI1 := Lib.hid (show Ints w1 A1 n zs from (ownsRow_cells hown1).ints)
  have HI := Lib.hid (HA.out.below hb1 rfl)
  have HB := Lib.hid hb1
  clear hown1 hg1 hb1 HO HC H1 hi0 hz0 hz1 hz2
  rw [Nat.zero_add]
  go_wp2_with fail
  refine (HH.out.wide HV.out HNE.out.1 Ha.out Hb.out hn2 HI1.out).mono ?_
  rintro e w2 ⟨rfl, hb⟩
  have HI1 := Lib.hid (HI1.out.below hb rfl)
  have HI := Lib.hid (HI.out.below hb rfl)
  have HB := Lib.hid (below_then HB.out hb)
  clear hb
  go_wp2_with fail
  refine (rwide_to HV.out HNE.out.1 Ha.out Hb.out hn2 HI.out).mono ?_
  rintro e w2 ⟨rfl, rfl⟩
  go_wp2_with fail
  refine (HH.out.take HT.out HNE.out.1 HNE.out.2.1 HNE.out.2.2 Ha.out hn2 HI1.out).mono ?_
  rintro e w3 ⟨rfl, hb⟩
  have HI1 := Lib.hid (HI1.out.below hb rfl)
  have HI := Lib.hid (HI.out.below hb rfl)
  have HB := Lib.hid (below_then HB.out hb)
  clear hb
  go_wp2_with fail
  refine (rtake_to HT.out HNE.out.1 Ha.out hn2 HI.out).mono ?_
  rintro e w4 ⟨rfl, hb⟩
  have HI1 := Lib.hid (HI1.out.below hb rfl)
  have HI := Lib.hid (HI.out.below hb rfl)
  have HB := Lib.hid (below_then HB.out hb)
  clear hb
  go_wp2_with fail
  refine (HH.out.all HR.out HNE.out.1 HNE.out.2.1 HNE.out.2.2 hn2 HI1.out).mono ?_
  rintro e w5 ⟨A5, n5, c5, rfl, hm5, hr5, hb⟩
  have HR5 := Lib.hid hr5
  have HI1 := Lib.hid (HI1.out.below hb rfl)
  have HI := Lib.hid (HI.out.below hb rfl)
  have HB := Lib.hid (below_then HB.out hb)
  clear hb hm5 hr5
  go_wp2_with fail
  refine (rall_to HR.out HNE.out.1 hn2 HI.out).mono ?_
  rintro e w6 hro
  obtain ⟨A6, n6, c6, rfl, hm6, hr6, hb⟩ := hro.seen
  have HR5 := Lib.hid (HR5.out.below hb)
  have HR6 := Lib.hid hr6
  have HI1 := Lib.hid (HI1.out.below hb rfl)
  have HI := Lib.hid (HI.out.below hb rfl)
  have HB := Lib.hid (below_then HB.out hb)
  clear hb hm6 hr6 hro
  go_wp2_with fail
  refine (runs_same HR5.out HR6.out).mono ?_
  rintro e w7 ⟨rfl, hb⟩
  have HI1 := Lib.hid (HI1.out.below hb rfl)
  have HI := Lib.hid (HI.out.below hb rfl)
  have HB := Lib.hid (below_then HB.out hb)
  clear hb he hvv
  go_wp2_with fail
  go_loopw [12] (fun i wr => ∃ k m : Nat, k ≤ n ∧ i = .int .i64 k ∧ wr = w7.drewN m) (fun i _ => n - (intOf i).toNat)
  case atStart => exact ⟨0, 0, by omega, rfl, rfl⟩
  case round =>
    obtain ⟨k, m, hk, rfl, rfl⟩ := hrel
    by_cases hlt : k < n
    · have hlt2 : (k : Int) < (n : Int) := by omega
      obtain ⟨b1, o1, rfl, hc1⟩ := HI1.out.at_ hlt
      obtain ⟨b, o, rfl, hc⟩ := HI.out.at_ hlt
      obtain ⟨u, hu⟩ : ∃ u, zs[k]?.getD 0 = u := ⟨_, rfl⟩
      rw [hu] at hc1 hc
      have huu : (u != u) = false := by simp
      clear hu
      go_wp2_with fail
      go_quiet (fail)
      go_wp2_with fail
      go_roundw
      case rel => exact ⟨k + 1, _, by omega, by go_num, rfl⟩
      case measure => simp [intOf]; omega
    · have hge : (n : Int) ≤ (k : Int) := by omega
      go_wp2_with fail
      refine (wawake_any HH.out _).mono ?_
      rintro e w8 ⟨rfl, hb⟩
      have HB8 := Lib.hid ((below_drewN HB.out m).trans (hb.mono (below_drewN HB.out m).size))
      clear hb
      go_wp2_with fail
      go_ret
      exact ⟨rfl, HB8.out⟩
theorem wordslines_walk (H : WordsSays) (A : Option Addr) (n c : Nat) (zs : List Int) (zs0 : ∀ z ∈ zs, (Lit.int .i64 z).wf = true) (sp : Int) (hsp : -9223372036854775808 ≤ sp ∧ sp ≤ 9223372036854775807) (wd : Int) (hwd : -9223372036854775808 ≤ wd ∧ wd ≤ 9223372036854775807)
    (a : Int) (ha : -9223372036854775808 ≤ a ∧ a ≤ 9223372036854775807) (b : Int) (hb : -9223372036854775808 ≤ b ∧ b ≤ 9223372036854775807) (w : World) (hz : Ints w A n zs) :
    Calls Try.prog 3 #[.slice A n c, .int .i64 sp, .int .i64 wd, .int .i64 a, .int .i64 b] w fun e w' => e = .returned (.bool true) ∧ Below w.heap.size w w' := by
  by_cases hbig : 100 < n
  · exact wordslines_far H hz (.inl hbig)
  · rcases hq : nearB zs sp wd with _ | _
    · exact wordslines_far H hz (.inr hq)
    · exact wordslines_in H ha hb hz (by omega) hq
end Go.Proofs.Ytakdopblggkfnaa
