import Derived.Test.YtideikbijjheeaaBandsRef
/- The document's answers for package bands: the band of a strip. -/
namespace Go.Proofs.Ytideikbijjheeaa
open Go.RowKit
set_option linter.unusedVariables false
set_option linter.unusedSimpArgs false
set_option maxHeartbeats 4000000 in
set_option maxRecDepth 100000 in
theorem rof10_to {l : List Fl} {y high a b p q : Int} (hv : bandL l y high (a, b) = (p, q)) (hn : ∀ f ∈ l, f.near) (hy : NearY y) (hh : NearI high) {A : Option Addr} {n c : Nat} {w : World} (h : Rows 7 encFl w A n l) :
    Calls Try.prog 15 #[.slice A n c, .int .i64 y, .int .i64 high, .agg #[.int .i64 a, .int .i64 b]] w fun e w' => e = .returned (.agg #[.int .i64 p, .int .i64 q]) ∧ Below w.heap.size w w' := by
  have HA := Lib.hid h
  have HL := Lib.hid h.1
  have hnb := h.2.1
  have HV := Lib.hid hv
  have HN := Lib.hid hn
  have HY := Lib.hid hy
  have HH := Lib.hid hh
  clear h hv hn hy hh
  obtain ⟨V, hV⟩ : ∃ V, (w.alloc (.cells #[.int .i64 a, .int .i64 b] 26)).alloc (.cells #[.int .i64 0, .int .i64 0] 26) = V := ⟨_, rfl⟩
  have HB0 := Lib.hid (show Below w.heap.size w V by rw [← hV]; go_grown)
  have HD0 := Lib.hid (show Box V w.heap.size [.int .i64 a, .int .i64 b] by rw [← hV]; exact (Box.new2 _ _ _ _).alloc _)
  have HR0 := Lib.hid (show Box V (w.heap.size + 1) [.int .i64 0, .int .i64 0] by rw [← hV]; exact Box.new2' _ _ _ _ _ (by simp))
  have HVV := Lib.hid hV
  clear hV
  go_enter Try.func15, Try.ntmps15
  go_wp2_with fail
  rw [HVV.out]
  go_loopw [9, 10] (fun i f wr => ∃ (k : Nat) (s t : Int), i = .int .i64 (k : Int) ∧ k ≤ n ∧ Hid ((l.take k).foldl (bandStep y high) (a, b) = (s, t)) ∧ Hid (Box wr w.heap.size [.int .i64 s, .int .i64 t]) ∧ Hid (Box wr (w.heap.size + 1) [.int .i64 0, .int .i64 0]) ∧ Hid (Below w.heap.size w wr)) (fun i _ _ => n - (intOf i).toNat)
  case atStart => exact ⟨0, a, b, rfl, Nat.zero_le _, Lib.hid rfl, HD0, HR0, HB0⟩
  case round =>
    obtain ⟨k, s, t, rfl, hkn, HF, HD, HR, HB⟩ := hrel
    by_cases hlt : k < n
    · have hlt2 : (k : Int) < (n : Int) := by omega
      obtain ⟨b1, o1, f, rfl, hb1, hf, q0, q1, q2, q3, q4, q5, q6⟩ := fl_at (HA.out.below HB.out) hlt
      have HST := Lib.hid (foldl_one (bandStep y high) (a, b) hf)
      have HFN := Lib.hid (HN.out f (List.mem_of_getElem? hf))
      obtain ⟨v, hv⟩ : ∃ v, meetsF f y high = v := ⟨_, rfl⟩
      have HM := Lib.hid hv
      have hxb := HFN.out.1
      have hwb := HFN.out.2.2.1
      have HBX := Lib.hid (box7 wr f 24)
      obtain ⟨f0, f1, f2, f3, f4, f5, f6⟩ := f
      simp only at q0 q1 q2 q3 q4 q5 q6 hxb hwb
      obtain ⟨x1, x2⟩ := hxb
      obtain ⟨w1', w2'⟩ := hwb
      unfold farB at x1 x2 w1' w2'
      have hwr : IntKind.i64.wrap (f3 + f5) = f3 + f5 := IntWalk.i64_in _ (by omega)
      have HG := Lib.hid (show Below w.heap.size w (wr.alloc (.cells #[.int .i64 f0, .int .i64 f1, .int .i64 f2, .int .i64 f3, .int .i64 f4, .int .i64 f5, .int .i64 f6] 24)) from HB.out.alloc (by have := HB.out.size; omega) _)
      have HDG := Lib.hid (HD.out.alloc (.cells #[.int .i64 f0, .int .i64 f1, .int .i64 f2, .int .i64 f3, .int .i64 f4, .int .i64 f5, .int .i64 f6] 24))
      have HRG := Lib.hid (HR.out.alloc (.cells #[.int .i64 f0, .int .i64 f1, .int .i64 f2, .int .i64 f3, .int .i64 f4, .int .i64 f5, .int .i64 f6] 24))
      clear hf hv
      go_wp2_with fail
      refine (rmeets_to HM.out HFN.out HY.out HH.out _).mono ?_
      rintro e w5 ⟨rfl, hb5⟩
      have HB5 := Lib.hid (below_then HG.out hb5)
      have HD5 := Lib.hid (HDG.out.below hb5)
      have HR5 := Lib.hid (HRG.out.below hb5)
      obtain ⟨⟨p0, p1, p2, p3, p4, p5, p6⟩, hBl⟩ := (HBX.out.below hb5).of7
      simp only at p0 p1 p2 p3 p4 p5 p6
      obtain ⟨d0, d1, d2, d3, d4⟩ := HD5.out.of2
      clear hb5 q0 q1 q2 q3 q4 q5 q6 HG HDG HRG HBX
      cases v with
      | false =>
        have HS := Lib.hid (show (l.take (k + 1)).foldl (bandStep y high) (a, b) = (s, t) by rw [HST.out, HF.out]; unfold bandStep; rw [HM.out, if_neg (by decide)])
        go_wp2_with fail
        go_roundw
        case rel => exact ⟨k + 1, s, t, by go_num, by omega, HS, HD5, HR5, HB5⟩
        case measure => simp [intOf] <;> omega
      | true =>
        by_cases hs : f1 = 1
        · have HS := Lib.hid (show (l.take (k + 1)).foldl (bandStep y high) (a, b) = (max s (f3 + f5), t) by rw [HST.out, HF.out]; unfold bandStep; rw [HM.out, if_pos rfl, if_pos hs])
          have hsb : (f1 == 1) = true := by simpa using hs
          have HD6 := Lib.hid (HD5.out.set 0 (.int .i64 (max s (f3 + f5))) (by simp))
          have HR6 := Lib.hid (HR5.out.set_other (m := w.heap.size) (by omega) 0 (.int .i64 (max s (f3 + f5))))
          have HB6 := Lib.hid (HB5.out.setCell (p := ⟨w.heap.size, 0, none⟩) (Nat.le_refl _) (.int .i64 (max s (f3 + f5))))
          clear hs
          go_wp2_with fail
          go_roundw
          case rel => exact ⟨k + 1, _, _, by go_num, by omega, HS, HD6, HR6, HB6⟩
          case measure => simp [intOf] <;> omega
        · have HS := Lib.hid (show (l.take (k + 1)).foldl (bandStep y high) (a, b) = (s, min t f3) by rw [HST.out, HF.out]; unfold bandStep; rw [HM.out, if_pos rfl, if_neg hs])
          have hsb : (f1 == 1) = false := by simpa using hs
          have HD6 := Lib.hid (HD5.out.set 1 (.int .i64 (min t f3)) (by simp))
          have HR6 := Lib.hid (HR5.out.set_other (m := w.heap.size) (by omega) 1 (.int .i64 (min t f3)))
          have HB6 := Lib.hid (HB5.out.setCell (p := ⟨w.heap.size, 1, none⟩) (Nat.le_refl _) (.int .i64 (min t f3)))
          clear hs
          go_wp2_with fail
          go_roundw
          case rel => exact ⟨k + 1, _, _, by go_num, by omega, HS, HD6, HR6, HB6⟩
          case measure => simp [intOf] <;> omega
    · have hge : (n : Int) ≤ (k : Int) := by omega
      have HE := Lib.hid (show (s, t) = (p, q) by rw [← HV.out, ← HF.out, List.take_of_length_le (by have := HL.out; omega)]; rfl)
      obtain ⟨d0, d1, d2, d3, d4⟩ := HD.out.of2
      obtain ⟨r0, r1, r2, r3, r4⟩ := HR.out.of2
      go_wp2_with fail
      have he := HE.out
      injection he with e1 e2
      subst e1 e2
      have hY := (HR.out.set 0 (.int .i64 s) (by simp)).set 1 (.int .i64 t) (by simp)
      have s0 := hY.2.2 0 _ rfl
      have s1 := hY.2.2 1 _ rfl
      exact bodyPost_ret (v := .agg #[.int .i64 s, .int .i64 t]) (by simp [results, Try.results15, go_sem, s0, s1]) rfl ⟨rfl, (HB.out.setCell (by simp) _).setCell (by simp) _⟩
end Go.Proofs.Ytideikbijjheeaa
