import Derived.Test.YtamakeogaipdiaaJA12
import Derived.Test.YtamakeogaipdiaaJA03
import Derived.OwnWalk
import Derived.Lib.MinMax
/- The document's answer for package lex: the tokens of a script. -/
namespace Go.Proofs.Ytamakeogaipdiaa
open Go.RowKit
set_option linter.unusedVariables false
set_option linter.unusedSimpArgs false
set_option maxRecDepth 100000 in
set_option maxHeartbeats 4000000 in
theorem reflex_any (s : ByteArray) (w : World) (hs : s.size ≤ 600000) : Calls Try.prog 39 #[.string s] w (LexPost w s) := by
  obtain ⟨i0, hi0, hz0, hz1, hz2⟩ := info_parts tok_info
  have HT := Lib.hid (show lexF s (s.size + 1) false 0 [] = lexB s from rfl)
  go_enter Try.func39, Try.ntmps39
  go_wp2_with fail
  go_loopw [5, 6, 7] (fun v u i wr => ∃ (k f m c' : Nat) (c : Bool) (ci : Int) (A' : Option Addr) (out : List Tok), k ≤ s.size ∧ s.size ≤ k + f ∧ m ≤ k ∧ v = .slice A' m c' ∧ u = .int .i64 ci ∧ (ci == 1) = c ∧ i = .int .i64 k ∧ lexF s f c k out = lexB s ∧ wr.ownsRow w.heap.size 75 4 (.slice A' m c') m (out.flatMap encT) ∧ Below w.heap.size w wr) (fun _ _ i _ => s.size - (intOf i).toNat)
  case atStart => exact ⟨0, s.size + 1, 0, 0, false, 0, none, [], by omega, by omega, by omega, rfl, rfl, rfl, rfl, HT.out, owns_nil _ _ _ _, Below.refl _ _⟩
  case round =>
    obtain ⟨k, f, m, c', c, ci, A', out, hk, hf, hm, rfl, rfl, hci, rfl, ht, hO, hB⟩ := hrel
    have HO := Lib.hid hO
    have HB := Lib.hid hB
    have hsz := hB.size
    by_cases hlt : k < s.size
    · obtain ⟨f', rfl, hf', hop⟩ := lexF_open (c := c) (out := out) hlt hf
      rw [ht] at hop
      have hb0 := bAt_get s k hlt
      obtain ⟨hbd1, hbd2⟩ := bAt_bd s k
      obtain ⟨b, hb⟩ : ∃ b, bAt s k = b := ⟨_, rfl⟩
      rw [hb] at hb0 hop hbd1 hbd2
      obtain ⟨z, hz⟩ : ∃ z, sizeB s k = z := ⟨_, rfl⟩
      have hz4 := sizeB_le s k
      rw [hz] at hz4 hop
      have HZ := Lib.hid hz
      have hk2 : (k : Int) < (s.size : Int) := by omega
      clear ht hO hB
      by_cases hzn : z = 0
      · rw [if_pos hzn] at hop
        subst hzn
        have HR := Lib.hid hop
        clear hop hz hb
        go_wp2_with (go_at_call 54; refine (size_to HZ.out _ (by omega) (by omega)).mono ?_; rintro e w' ⟨rfl, rfl⟩)
        go_ret3
        exact .inr ⟨k, HR.out, rfl, hlt, HB.out⟩
      · rw [if_neg hzn] at hop
        have hin := sizeB_in (s := s) (k := k) (by omega)
        rw [hz] at hin
        have hzz : ((z : Int) == 0) = false := by simp; omega
        have HBk := Lib.hid hb
        clear hz hb
        cases c
        case true =>
          by_cases h10 : b = 10
          all_goals
            simp only [h10, ne_eq, not_true_eq_false, not_false_eq_true, decide_true, decide_false, if_true] at hop
            have HR := Lib.hid hop
            clear hop
            first
              | (have hbb : (b == 10) = true := by simp [h10])
              | (have hbb : (b == 10) = false := by simp [h10])
            go_wp2_with (go_at_call 54; refine (size_to HZ.out _ (by omega) (by omega)).mono ?_; rintro e w' ⟨rfl, rfl⟩)
            go_roundw
            case rel => exact ⟨k + z, f', m, c', _, _, A', out, by omega, by omega, by omega, rfl, rfl, by first | rfl | exact hci, by go_num, HR.out.symm, HO.out, HB.out⟩
            case measure => simp [intOf]; omega
        case false =>
          simp only [Bool.false_eq_true, if_false] at hop
          by_cases h35 : b = 35
          · rw [if_pos h35] at hop
            subst h35
            have HR := Lib.hid hop
            clear hop
            go_wp2_with (go_at_call 54; refine (size_to HZ.out _ (by omega) (by omega)).mono ?_; rintro e w' ⟨rfl, rfl⟩)
            go_roundw
            case rel => exact ⟨k + 1, f', m, c', _, _, A', out, by omega, by omega, by omega, rfl, rfl, rfl, by go_num, HR.out.symm, HO.out, HB.out⟩
            case measure => simp [intOf]; omega
          rw [if_neg h35] at hop
          have hb35 : (b == 35) = false := by simp [h35]
          by_cases hwh : b = 32 ∨ b = 9 ∨ b = 10
          · rw [if_pos hwh] at hop
            have HR := Lib.hid hop
            clear hop h35 hb35
            rcases hwh with rfl | rfl | rfl
            all_goals
              go_wp2_with (go_at_call 54; refine (size_to HZ.out _ (by omega) (by omega)).mono ?_; rintro e w' ⟨rfl, rfl⟩)
              go_roundw
              case rel => exact ⟨k + 1, f', m, c', _, _, A', out, by omega, by omega, by omega, rfl, rfl, hci, by go_num, HR.out.symm, HO.out, HB.out⟩
              case measure => simp [intOf]; omega
          rw [if_neg hwh] at hop
          have hb32 : (b == 32) = false := by simp; omega
          have hb9 : (b == 9) = false := by simp; omega
          have hb10 : (b == 10) = false := by simp; omega
          clear hwh h35
          rcases hdg : digB s k with _ | _
          · rw [hdg] at hop
            simp only [Bool.false_eq_true, if_false] at hop
            have hin48 : inB s k 48 57 = false := hdg
            have HR := Lib.hid hop
            clear hop hdg
            go_wp2_with (first
              | (go_at_call 54; refine (size_to HZ.out _ (by omega) (by omega)).mono ?_; rintro e w' ⟨rfl, rfl⟩)
              | (go_at_call 55; refine (in_any s k _ _ _ (by omega) (by omega)).mono ?_; rintro e w' ⟨rfl, rfl⟩))
            refine (rune_any s k z _ (by omega) hz4 hin (by omega)).mono ?_
            rintro e w2 ⟨rfl, hb2⟩
            obtain ⟨rv, hrv⟩ : ∃ rv, runeB s k z = rv := ⟨_, rfl⟩
            have hR2 := HR.out
            rw [hrv] at hR2 ⊢
            have HR2 := Lib.hid hR2
            have HO2 := Lib.hid (owns_below HO.out hb2)
            have HB2 := Lib.hid (HB.out.trans (hb2.mono hsz))
            have hsz2 := HB2.out.size
            have HC1 := Lib.hid (tok_cells w2 1 rv 0 k 75 w2.heap.size rfl)
            have HO6 := Lib.hid (owns_below HO2.out (w' := w2.alloc (.cells #[.int .i64 1, .int .i32 rv, .int .i64 0, .int .i64 k] 75)) (by go_grown))
            have HB6 := Lib.hid (HB2.out.alloc hsz2 (.cells #[.int .i64 1, .int .i32 rv, .int .i64 0, .int .i64 k] 75))
            clear hb2 hR2 hrv
            go_wp2_with (at_builtin; refine wpList_append_cells _ rfl (.tmp 54) (.tmp 61) _ rfl w.heap.size 75 i0 (.agg #[.int .i64 0, .int .i32 0, .int .i64 0, .int .i64 0]) 4 32 Try.underlying68 hi0 hz0 hz1 hz2 rfl (by decide) _ m _ rfl HO6.out _ 1 1 _ rfl HC1.out (tok_cell4 _ _ _ _) (by unfold maxLen; omega) (by omega) (by simp; omega) ?_; intro A6 c6 w6 hown6 hg6; have hb6 : Below w.heap.size _ w6 := (Below.refl _ _).grown hg6 (by simp; omega) (owns_block HO6.out); have HB7 := Lib.hid (HB6.out.trans hb6); have HO7 := Lib.hid hown6; clear hg6 hown6 hb6)
            go_roundw
            case rel => exact ⟨k + z, f', m + 1, c6, false, ci, A6, out ++ [⟨1, rv, 0, k⟩], by omega, by omega, by omega, rfl, rfl, hci, by go_num, HR2.out.symm, by rw [toks_snoc]; exact HO7.out, HB7.out⟩
            case measure => simp [intOf]; omega
          · rw [hdg] at hop
            simp only [if_true] at hop
            have hin48 : inB s k 48 57 = true := hdg
            have hgt := numB_gt hdg
            have h48 : 48 ≤ b ∧ b ≤ 57 := by
              have e := inB_at hlt 48 57
              rw [hin48, HBk.out] at e
              have e2 := e.symm
              simp only [Bool.and_eq_true, decide_eq_true_eq] at e2
              exact e2
            rcases hnb : numB s k with ⟨nv, ne⟩
            rw [hnb] at hop hgt
            simp only at hop hgt
            have HR := Lib.hid hop
            have HNb := Lib.hid (show numF s (s.size + 1) 0 k = (nv, ne) from hnb)
            clear hop hdg hnb
            go_wp2_with (first
              | (go_at_call 54; refine (size_to HZ.out _ (by omega) (by omega)).mono ?_; rintro e w' ⟨rfl, rfl⟩)
              | (go_at_call 55; refine (in_any s k _ _ _ (by omega) (by omega)).mono ?_; rintro e w' ⟨rfl, rfl⟩))
            obtain ⟨wo, rfl⟩ : ∃ wo : World, wo = wr := ⟨_, rfl⟩
            go_loopw [10, 11] (fun v i wr => ∃ (e f2 : Nat) (n : Int), e ≤ s.size ∧ k ≤ e ∧ s.size ≤ e + f2 ∧ v = .int .i64 n ∧ i = .int .i64 e ∧ (0 ≤ n ∧ n ≤ 2199023255552) ∧ numF s f2 n e = (nv, ne) ∧ wr = wo) (fun _ i _ => s.size - (intOf i).toNat)
            case atStart => exact ⟨k, s.size + 1, 0, by omega, by omega, by omega, rfl, rfl, by omega, HNb.out, rfl⟩
            case round =>
              obtain ⟨e, f2, n, he1, he2, he3, rfl, rfl, ⟨hn1, hn2⟩, hnf, rfl⟩ := hrel
              have HNf := Lib.hid hnf
              clear hnf
              rcases hde : digB s e with _ | _
              · have hend := numF_end (f := f2) (n := n) hde
                rw [HNf.out] at hend
                injection hend with q1 q2
                subst q1 q2
                have hin2 : inB s ne 48 57 = false := hde
                by_cases hbad : 1099511627776 < nv ∨ (b = 48 ∧ k + 1 < ne)
                · have hR2 := HR.out
                  rw [if_pos hbad] at hR2
                  have HR2 := Lib.hid hR2
                  have hbi : 1099511627776 < nv ∨ (nv ≤ 1099511627776 ∧ b = 48 ∧ (k : Int) + 1 < (ne : Int)) := by omega
                  clear hR2 hbad hde
                  rcases hbi with hb1 | ⟨hb1, rfl, hb2⟩
                  all_goals
                    go_wp2_with (go_at_call 55; refine (in_any s ne _ _ _ (by omega) (by omega)).mono ?_; rintro e w' ⟨rfl, rfl⟩)
                    go_ret3
                    exact .inr ⟨k, HR2.out, rfl, hlt, HB.out⟩
                · have hR2 := HR.out
                  rw [if_neg hbad] at hR2
                  have HR2 := Lib.hid hR2
                  have hbi : nv ≤ 1099511627776 ∧ (((b == 48) = true ∧ (ne : Int) ≤ (k : Int) + 1) ∨ (b == 48) = false) := by
                    refine ⟨by omega, ?_⟩
                    by_cases q : b = 48
                    · exact .inl ⟨by simp [q], by omega⟩
                    · exact .inr (by simp [q])
                  obtain ⟨hb1, hbi⟩ := hbi
                  have HC1 := Lib.hid (tok_cells wr 2 0 nv k 75 wr.heap.size rfl)
                  have HO6 := Lib.hid (owns_below HO.out (w' := wr.alloc (.cells #[.int .i64 2, .int .i32 0, .int .i64 nv, .int .i64 k] 75)) (by go_grown))
                  have HB6 := Lib.hid (HB.out.alloc hsz (.cells #[.int .i64 2, .int .i32 0, .int .i64 nv, .int .i64 k] 75))
                  clear hR2 hbad hde
                  rcases hbi with ⟨hb2, hb3⟩ | hb2
                  all_goals
                    go_wp2_with (first
                      | (go_at_call 55; refine (in_any s ne _ _ _ (by omega) (by omega)).mono ?_; rintro e w' ⟨rfl, rfl⟩)
                      | (at_builtin; refine wpList_append_cells _ rfl (.tmp 94) (.tmp 98) _ rfl w.heap.size 75 i0 (.agg #[.int .i64 0, .int .i32 0, .int .i64 0, .int .i64 0]) 4 32 Try.underlying68 hi0 hz0 hz1 hz2 rfl (by decide) _ m _ rfl HO6.out _ 1 1 _ rfl HC1.out (tok_cell4 _ _ _ _) (by unfold maxLen; omega) (by omega) (by simp; omega) ?_; intro A6 c6 w6 hown6 hg6; have hb6 : Below w.heap.size _ w6 := (Below.refl _ _).grown hg6 (by simp; omega) (owns_block HO6.out); have HB7 := Lib.hid (HB6.out.trans hb6); have HO7 := Lib.hid hown6; clear hg6 hown6 hb6))
                    go_roundw
                    case rel => exact ⟨ne, f', m + 1, c6, false, ci, A6, out ++ [⟨2, 0, nv, k⟩], by omega, by omega, by omega, rfl, rfl, hci, by go_num, HR2.out.symm, by rw [toks_snoc]; exact HO7.out, HB7.out⟩
                    case measure => simp [intOf]; omega
              · have hle := inB_lt hde
                have hin2 : inB s e 48 57 = true := hde
                have hbe0 := bAt_get s e hle
                have h48e : 48 ≤ bAt s e ∧ bAt s e ≤ 57 := by
                  have q := inB_at hle 48 57
                  rw [hin2] at q
                  have q2 := q.symm
                  simp only [Bool.and_eq_true, decide_eq_true_eq] at q2
                  exact q2
                obtain ⟨f3, hf3, hst⟩ := numF_step (n := n) hde he3
                rw [HNf.out] at hst
                have HSt := Lib.hid hst
                have o1 : IntKind.u8.wrap (bAt s e - 48) = bAt s e - 48 := by rw [IntKind.wrap_u8]; omega
                have hle2 : (e : Int) < (s.size : Int) := by omega
                clear hde hst
                go_wp2_with (go_at_call 55; refine (in_any s e _ _ _ (by omega) (by omega)).mono ?_; rintro e w' ⟨rfl, rfl⟩)
                go_roundw
                case rel => exact ⟨e + 1, f3, min (10 * n + (bAt s e - 48)) 2199023255552, by omega, by omega, by omega, rfl, by go_num, by omega, HSt.out.symm, by first | rfl | trivial⟩
                case measure => simp [intOf]; omega
    · have HR := Lib.hid (ht.symm.trans (lexF_end hlt))
      have hR := ownsRow_rows (enc := encT) (zs := out) encT_len (by decide) hO
      have HRo := Lib.hid hR
      have hcap := owns_cap hO
      have hat := owns_at hO
      have hk2 : (s.size : Int) ≤ (k : Int) := by omega
      clear ht hO hB hR
      go_wp2_with fail
      go_ret3
      exact .inl ⟨out, A', m, c', HR.out, rfl, HRo.out, ⟨by omega, hcap, hat⟩, HB.out⟩
end Go.Proofs.Ytamakeogaipdiaa
