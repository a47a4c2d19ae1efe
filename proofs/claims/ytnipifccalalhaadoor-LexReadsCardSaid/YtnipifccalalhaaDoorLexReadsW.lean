import Derived.Test.YtnipifccalalhaaDoorLexLaws
/- The walk of the law LexReads. -/
namespace Go.Proofs.YtnipifccalalhaaDoor
open Go.RowKit
set_option linter.unusedVariables false
set_option linter.unusedSimpArgs false
set_option maxRecDepth 100000 in
set_option maxHeartbeats 2000000 in
theorem lexreads_law (s : ByteArray) (hmax : s.size ≤ 9223372036854775807) (w : World) (hT : Tabs w) : Calls Tryd.prog 3 #[.string s] w fun e w' => e = .returned (.bool true) ∧ Below w.heap.size w w' := by
  by_cases hbig : 5000 < s.size
  · go_enter Tryd.func3, Tryd.ntmps3
    go_wp2_with (go_at_call 6; refine (lawake_any _ hT).mono ?_; rintro e w' ⟨rfl, hbw⟩)
    go_ret
    exact ⟨rfl, hbw⟩
  have hs : s.size ≤ 100000 := by omega
  obtain ⟨v1, v2, hv⟩ : ∃ (v1 : Int) (v2 : Bool), textV (textB s) = .tuple #[.int .i64 v1, .bool v2] := by
    cases textB s with
    | none => exact ⟨0, true, rfl⟩
    | some p => exact ⟨p, false, rfl⟩
  have HT := Lib.hid hv
  clear hv
  rcases hb : lexB s with ⟨_ | toks, q⟩
  all_goals
    have HL := Lib.hid hb
    clear hb
    go_enter Tryd.func3, Tryd.ntmps3
    go_wp2_with fail
  · refine (lex_bad HL.out _ hT hs).mono ?_
    rintro e w1 ⟨rfl, _, hb1⟩
    have HB1 := Lib.hid hb1
    clear hb1
    go_wp2_with fail
    refine (ref_bad HL.out _ hs).mono ?_
    rintro e w2 ⟨rfl, _, hb2⟩
    have HB2 := Lib.hid (below_then HB1.out hb2)
    clear hb2
    go_wp2_with fail
    refine (text_to HT.out _ hs).mono ?_
    rintro e w3 ⟨rfl, hb3⟩
    have HB3 := Lib.hid (below_then HB2.out hb3)
    clear hb3
    go_wp2_with fail
    refine (rtext_to HT.out _ hs).mono ?_
    rintro e w4 ⟨rfl, hb4⟩
    have HB4 := Lib.hid (below_then HB3.out hb4)
    clear hb4
    go_wp2_with fail
    refine (tsame_any _ _ _ _ _ _ [] _ (Rows.nil _ _) (Rows.nil _ _)).mono ?_
    rintro e w5 ⟨rfl, hb5⟩
    have HB5 := Lib.hid (below_then HB4.out hb5)
    clear hb5
    go_wp2_with (go_at_call 6; refine (lawake_any _ (hT.below HB5.out)).mono ?_; rintro e w6 ⟨rfl, hb6⟩)
    go_ret
    exact ⟨rfl, below_then HB5.out hb6⟩
  · refine (lex_ok HL.out _ hT hs).mono ?_
    rintro e w1 ⟨A1, n1, c1, rfl, hR1, _, hb1⟩
    have HB1 := Lib.hid hb1
    have HR1 := Lib.hid hR1
    clear hb1 hR1
    go_wp2_with fail
    refine (ref_ok HL.out _ hs).mono ?_
    rintro e w2 ⟨A2, n2, c2, rfl, hR2, _, hb2⟩
    have HB2 := Lib.hid (below_then HB1.out hb2)
    have HR12 := Lib.hid (HR1.out.below hb2)
    have HR2 := Lib.hid hR2
    clear hb2 hR2
    go_wp2_with fail
    refine (text_to HT.out _ hs).mono ?_
    rintro e w3 ⟨rfl, hb3⟩
    have HB3 := Lib.hid (below_then HB2.out hb3)
    have HR13 := Lib.hid (HR12.out.below hb3)
    have HR23 := Lib.hid (HR2.out.below hb3)
    clear hb3
    go_wp2_with fail
    refine (rtext_to HT.out _ hs).mono ?_
    rintro e w4 ⟨rfl, hb4⟩
    have HB4 := Lib.hid (below_then HB3.out hb4)
    have HR14 := Lib.hid (HR13.out.below hb4)
    have HR24 := Lib.hid (HR23.out.below hb4)
    clear hb4
    go_wp2_with fail
    refine (tsame_any _ _ _ _ _ _ toks _ HR14.out HR24.out).mono ?_
    rintro e w5 ⟨rfl, hb5⟩
    have HB5 := Lib.hid (below_then HB4.out hb5)
    clear hb5
    go_wp2_with (go_at_call 6; refine (lawake_any _ (hT.below HB5.out)).mono ?_; rintro e w6 ⟨rfl, hb6⟩)
    go_ret
    exact ⟨rfl, below_then HB5.out hb6⟩
end Go.Proofs.YtnipifccalalhaaDoor
