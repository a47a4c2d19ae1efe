import Derived.Test.YtipmdhfinlkceaaJW03
/- BandsRef3. -/
set_option linter.unusedVariables false
set_option linter.unusedSimpArgs false
namespace Go.Proofs.Ytipmdhfinlkceaa
open Go.RowKit
theorem ret_pair {a b : Int} {x y : Bool} (h : (a, x) = (b, y)) : Ending.returned (.tuple #[.int .i64 a, .bool x]) = .returned (.tuple #[.int .i64 b, .bool y]) := by injection h with h1 h2; rw [h1, h2]
set_option maxHeartbeats 8000000 in
set_option maxRecDepth 100000 in
theorem rnext_to {l : List Fl} {y high a b p : Int} {ok : Bool} (hv : nextL l y high a b = (p, ok)) (hn : ∀ f ∈ l, f.near) (hy : NearY y) (hh : NearI high) {A : Option Addr} {n c : Nat} {w : World} (h : Rows 7 encFl w A n l) :
    Calls Try.prog 51 #[.slice A n c, .int .i64 y, .int .i64 high, .agg #[.int .i64 a, .int .i64 b]] w fun e w' => e = .returned (.tuple #[.int .i64 p, .bool ok]) ∧ Below w.heap.size w w' := by
  have HA := Lib.hid h
  have HL := Lib.hid h.1
  have hnb := h.2.1
  have HV := Lib.hid hv
  have HN := Lib.hid hn
  have HY := Lib.hid hy
  have HH := Lib.hid hh
  clear h hv hn hy hh
  obtain ⟨V, hV⟩ : ∃ V, w.alloc (.cells #[.int .i64 a, .int .i64 b] 84) = V := ⟨_, rfl⟩
  have HB0 := Lib.hid (show Below w.heap.size w V by rw [← hV]; go_grown)
  have HD0 := Lib.hid (show Box V w.heap.size [.int .i64 a, .int .i64 b] by rw [← hV]; exact Box.new2 _ _ _ _)
  have HVV := Lib.hid hV
  clear hV
  go_enter Try.func51, Try.ntmps51
  go_wp2_with fail
  rw [HVV.out]
  go_loopw [10, 11, 12, 13] (fun s' fl' i f wr => ∃ (k : Nat) (s : Int) (fl : Bool), i = .int .i64 (k : Int) ∧ s' = .int .i64 s ∧ fl' = .bool fl ∧ k ≤ n ∧ Hid ((l.take k).foldl (leastStep (narrowF y high a b)) (0, false) = (s, fl)) ∧ Hid (Box wr w.heap.size [.int .i64 a, .int .i64 b]) ∧ Hid (Below w.heap.size w wr)) (fun _ _ i _ _ => n - (intOf i).toNat)
  case atStart => exact ⟨0, 0, false, rfl, rfl, rfl, Nat.zero_le _, Lib.hid rfl, HD0, HB0⟩
  case round =>
    obtain ⟨k, s, fl, rfl, rfl, rfl, hkn, HF, HD, HB⟩ := hrel
    by_cases hlt : k < n
    · have hlt2 : (k : Int) < (n : Int) := by omega
      obtain ⟨b1, o1, f, rfl, hb1, hf, q0, q1, q2, q3, q4, q5, q6⟩ := fl_at (HA.out.below HB.out) hlt
      have HST := Lib.hid (foldl_one (leastStep (narrowF y high a b)) (0, false) hf)
      have HFN := Lib.hid (HN.out f (List.mem_of_getElem? hf))
      obtain ⟨v, hv⟩ : ∃ v, meetsF f y high = v := ⟨_, rfl⟩
      have HM := Lib.hid hv
      have hxb := HFN.out.1
      have hyb := HFN.out.2.1
      have hwb := HFN.out.2.2.1
      have hhb := HFN.out.2.2.2
      have HBX := Lib.hid (box7 wr f 70)
      obtain ⟨f0, f1, f2, f3, f4, f5, f6⟩ := f
      simp only at q0 q1 q2 q3 q4 q5 q6 hxb hwb hyb hhb
      obtain ⟨x1, x2⟩ := hxb
      obtain ⟨w1', w2'⟩ := hwb
      obtain ⟨y1', y2'⟩ := hyb
      obtain ⟨h1', h2'⟩ := hhb
      unfold farB at x1 x2 w1' w2' y1' y2' h1' h2'
      have hwr : IntKind.i64.wrap (f3 + f5) = f3 + f5 := IntWalk.i64_in _ (by omega)
      have hwr2 : IntKind.i64.wrap (f4 + f6) = f4 + f6 := IntWalk.i64_in _ (by omega)
      have HG := Lib.hid (show Below w.heap.size w (wr.alloc (.cells #[.int .i64 f0, .int .i64 f1, .int .i64 f2, .int .i64 f3, .int .i64 f4, .int .i64 f5, .int .i64 f6] 70)) from HB.out.alloc (by have := HB.out.size; omega) _)
      have HDG := Lib.hid (HD.out.alloc (.cells #[.int .i64 f0, .int .i64 f1, .int .i64 f2, .int .i64 f3, .int .i64 f4, .int .i64 f5, .int .i64 f6] 70))
      clear hf hv
      go_wp2_with fail
      refine (rmeets_to HM.out HFN.out HY.out HH.out _).mono ?_
      rintro e w5 ⟨rfl, hb5⟩
      have HB5 := Lib.hid (below_then HG.out hb5)
      have HD5 := Lib.hid (HDG.out.below hb5)
      obtain ⟨⟨p0, p1, p2, p3, p4, p5, p6⟩, hBl⟩ := (HBX.out.below hb5).of7
      simp only at p0 p1 p2 p3 p4 p5 p6
      obtain ⟨d0, d1, d2, d3, d4⟩ := HD5.out.of2
      clear hb5 q0 q1 q2 q3 q4 q5 q6 HG HDG HBX
      cases v with
      | false =>
        have HNW := Lib.hid (show narrowF y high a b ⟨f0, f1, f2, f3, f4, f5, f6⟩ = false by unfold narrowF; rw [HM.out]; rfl)
        have HS := Lib.hid (show (l.take (k + 1)).foldl (leastStep (narrowF y high a b)) (0, false) = (s, fl) by rw [HST.out, HF.out]; unfold leastStep; rw [HNW.out, if_neg (by decide)])
        go_wp2_with fail
        go_roundw
        case rel => exact ⟨k + 1, _, _, by go_num, rfl, rfl, by omega, HS, HD5, HB5⟩
        case measure => simp [intOf] <;> omega
      | true =>
        by_cases hs : f1 = 1
        · have hsb : (f1 == 1) = true := by simpa using hs
          have hsn : (f1 != 1) = false := by simpa using hs
          by_cases hna : a < f3 + f5
          · have HNW := Lib.hid (show narrowF y high a b ⟨f0, f1, f2, f3, f4, f5, f6⟩ = true by unfold narrowF; rw [HM.out, if_pos hs, decide_eq_true hna]; rfl)
            clear hs
            cases fl with
            | false =>
              have HS := Lib.hid (show (l.take (k + 1)).foldl (leastStep (narrowF y high a b)) (0, false) = (f4 + f6, true) by rw [HST.out, HF.out]; unfold leastStep; rw [HNW.out, if_pos rfl, if_pos (.inl rfl)])
              go_wp2_with fail
              go_roundw
              case rel => exact ⟨k + 1, _, _, by go_num, rfl, rfl, by omega, HS, HD5, HB5⟩
              case measure => simp [intOf] <;> omega
            | true =>
              by_cases hbest : f4 + f6 < s
              · have HS := Lib.hid (show (l.take (k + 1)).foldl (leastStep (narrowF y high a b)) (0, false) = (f4 + f6, true) by rw [HST.out, HF.out]; unfold leastStep; rw [HNW.out, if_pos rfl, if_pos (.inr hbest)])
                go_wp2_with fail
                go_roundw
                case rel => exact ⟨k + 1, _, _, by go_num, rfl, rfl, by omega, HS, HD5, HB5⟩
                case measure => simp [intOf] <;> omega
              · have hbest2 : s ≤ f4 + f6 := by omega
                have HS := Lib.hid (show (l.take (k + 1)).foldl (leastStep (narrowF y high a b)) (0, false) = (s, true) by rw [HST.out, HF.out]; unfold leastStep; rw [HNW.out, if_pos rfl, if_neg (by simp; omega)])
                go_wp2_with fail
                go_roundw
                case rel => exact ⟨k + 1, _, _, by go_num, rfl, rfl, by omega, HS, HD5, HB5⟩
                case measure => simp [intOf] <;> omega
          · have HNW := Lib.hid (show narrowF y high a b ⟨f0, f1, f2, f3, f4, f5, f6⟩ = false by unfold narrowF; rw [HM.out, if_pos hs, decide_eq_false hna]; rfl)
            have hna2 : f3 + f5 ≤ a := by omega
            clear hs
            have HS := Lib.hid (show (l.take (k + 1)).foldl (leastStep (narrowF y high a b)) (0, false) = (s, fl) by rw [HST.out, HF.out]; unfold leastStep; rw [HNW.out, if_neg (by decide)])
            go_wp2_with fail
            go_roundw
            case rel => exact ⟨k + 1, _, _, by go_num, rfl, rfl, by omega, HS, HD5, HB5⟩
            case measure => simp [intOf] <;> omega
        · have hsb : (f1 == 1) = false := by simpa using hs
          have hsn : (f1 != 1) = true := by simpa using hs
          by_cases hna : f3 < b
          · have HNW := Lib.hid (show narrowF y high a b ⟨f0, f1, f2, f3, f4, f5, f6⟩ = true by unfold narrowF; rw [HM.out, if_neg hs, decide_eq_true hna]; rfl)
            clear hs
            cases fl with
            | false =>
              have HS := Lib.hid (show (l.take (k + 1)).foldl (leastStep (narrowF y high a b)) (0, false) = (f4 + f6, true) by rw [HST.out, HF.out]; unfold leastStep; rw [HNW.out, if_pos rfl, if_pos (.inl rfl)])
              go_wp2_with fail
              go_roundw
              case rel => exact ⟨k + 1, _, _, by go_num, rfl, rfl, by omega, HS, HD5, HB5⟩
              case measure => simp [intOf] <;> omega
            | true =>
              by_cases hbest : f4 + f6 < s
              · have HS := Lib.hid (show (l.take (k + 1)).foldl (leastStep (narrowF y high a b)) (0, false) = (f4 + f6, true) by rw [HST.out, HF.out]; unfold leastStep; rw [HNW.out, if_pos rfl, if_pos (.inr hbest)])
                go_wp2_with fail
                go_roundw
                case rel => exact ⟨k + 1, _, _, by go_num, rfl, rfl, by omega, HS, HD5, HB5⟩
                case measure => simp [intOf] <;> omega
              · have hbest2 : s ≤ f4 + f6 := by omega
                have HS := Lib.hid (show (l.take (k + 1)).foldl (leastStep (narrowF y high a b)) (0, false) = (s, true) by rw [HST.out, HF.out]; unfold leastStep; rw [HNW.out, if_pos rfl, if_neg (by simp; omega)])
                go_wp2_with fail
                go_roundw
                case rel => exact ⟨k + 1, _, _, by go_num, rfl, rfl, by omega, HS, HD5, HB5⟩
                case measure => simp [intOf] <;> omega
          · have HNW := Lib.hid (show narrowF y high a b ⟨f0, f1, f2, f3, f4, f5, f6⟩ = false by unfold narrowF; rw [HM.out, if_neg hs, decide_eq_false hna]; rfl)
            have hna2 : b ≤ f3 := by omega
            clear hs
            have HS := Lib.hid (show (l.take (k + 1)).foldl (leastStep (narrowF y high a b)) (0, false) = (s, fl) by rw [HST.out, HF.out]; unfold leastStep; rw [HNW.out, if_neg (by decide)])
            go_wp2_with fail
            go_roundw
            case rel => exact ⟨k + 1, _, _, by go_num, rfl, rfl, by omega, HS, HD5, HB5⟩
            case measure => simp [intOf] <;> omega
    · have hge : (n : Int) ≤ (k : Int) := by omega
      have HE := Lib.hid (show (s, fl) = (p, ok) by rw [← HV.out, ← HF.out, List.take_of_length_le (by have := HL.out; omega)]; rfl)
      go_wp2_with fail
      go_ret2
      exact ⟨ret_pair HE.out, HB.out⟩
set_option maxHeartbeats 4000000 in
set_option maxRecDepth 100000 in
theorem rtop_to {l : List Fl} {p : Int} {ok : Bool} (hv : topL l = (p, ok)) {A : Option Addr} {n c : Nat} {w : World} (h : Rows 7 encFl w A n l) :
    Calls Try.prog 63 #[.slice A n c] w fun e w' => e = .returned (.tuple #[.int .i64 p, .bool ok]) ∧ w = w' := by
  have HA := Lib.hid h
  have HL := Lib.hid h.1
  have hnb := h.2.1
  have HV := Lib.hid hv
  clear h hv
  go_enter Try.func63, Try.ntmps63
  go_wp2_with fail
  go_loopw [4, 5] (fun s' i wr => ∃ (k : Nat) (s : Int), i = .int .i64 (k : Int) ∧ s' = .int .i64 s ∧ k ≤ n ∧ Hid (topF (l.take k) = s) ∧ wr = w) (fun _ i _ => n - (intOf i).toNat)
  case atStart => exact ⟨0, 0, rfl, rfl, Nat.zero_le _, Lib.hid rfl, rfl⟩
  case round =>
    obtain ⟨k, s, rfl, rfl, hkn, HF, rfl⟩ := hrel
    by_cases hlt : k < n
    · have hlt2 : (k : Int) < (n : Int) := by omega
      obtain ⟨b1, o1, f, rfl, hb1, hf, q0, q1, q2, q3, q4, q5, q6⟩ := fl_at HA.out hlt
      have HST := Lib.hid (show topF (l.take (k + 1)) = if l.take k = [] then f.y else topStep (topF (l.take k)) f by rw [take_one hf, topF_snoc])
      obtain ⟨f0, f1, f2, f3, f4, f5, f6⟩ := f
      simp only at q4
      have hkl : k < l.length := by have := HL.out; omega
      have HKL := Lib.hid hkl
      clear hf hkl q0 q1 q2 q3 q5 q6
      cases k with
      | zero =>
        have HS := Lib.hid (show topF (l.take (0 + 1)) = f4 by rw [HST.out, List.take_zero, if_pos rfl])
        go_wp2_with fail
        go_roundw
        case rel => exact ⟨0 + 1, _, by go_num, rfl, by omega, HS, by first | rfl | trivial⟩
        case measure => simp [intOf] <;> omega
      | succ k =>
        have HNE := Lib.hid (show ¬ l.take (k + 1) = [] from fun q => by have := congrArg List.length q; rw [List.length_take, Nat.min_eq_left (by have := HKL.out; omega)] at this; simp at this)
        by_cases hbest : s < f4
        · have HS := Lib.hid (show topF (l.take (k + 1 + 1)) = f4 by rw [HST.out, if_neg HNE.out, HF.out]; unfold topStep; rw [if_pos hbest])
          go_wp2_with fail
          go_roundw
          case rel => exact ⟨k + 1 + 1, _, by go_num, rfl, by omega, HS, by first | rfl | trivial⟩
          case measure => simp [intOf] <;> omega
        · have HS := Lib.hid (show topF (l.take (k + 1 + 1)) = s by rw [HST.out, if_neg HNE.out, HF.out]; unfold topStep; rw [if_neg hbest])
          have hbest2 : f4 ≤ s := by omega
          go_wp2_with fail
          go_roundw
          case rel => exact ⟨k + 1 + 1, _, by go_num, rfl, by omega, HS, by first | rfl | trivial⟩
          case measure => simp [intOf] <;> omega
    · have hge : (n : Int) ≤ (k : Int) := by omega
      have HE := Lib.hid (show (s, decide ((0 : Int) < (n : Int))) = (p, ok) by
        rw [← HV.out, ← HF.out, List.take_of_length_le (by have := HL.out; omega)]
        unfold topL
        have : decide ((0 : Int) < (n : Int)) = decide (0 < l.length) := by rw [HL.out, Bool.eq_iff_iff]; simp
        rw [this])
      go_wp2_with fail
      go_ret2
      have he := HE.out
      exact ⟨by injection he with h1 h2; rw [h1, ← h2]; first | rfl | (congr 1; simp), rfl⟩
end Go.Proofs.Ytipmdhfinlkceaa
