import Derived.Test.YtkbpiekmphcdnaaRectHull
/- The hull of rectangles: the document's. -/
namespace Go.Proofs.Ytkbpiekmphcdnaa
open Go.RowKit
set_option linter.unusedVariables false
set_option linter.unusedSimpArgs false
theorem rof_at {l r t b l' r' t' b' p q u v : Int} (e1 : l = l') (e2 : r = r') (e3 : t = t') (e4 : b = b') (h : (Near l' ∧ Near r') ∧ Near t' ∧ Near b') (hv : rofR l' r' t' b' = ⟨p, q, u, v⟩) (W : World) : Calls Try.prog 44 #[.int .i64 l, .int .i64 r, .int .i64 t, .int .i64 b] W fun e W' => e = .returned (.agg #[.int .i64 p, .int .i64 q, .int .i64 u, .int .i64 v]) ∧ Below W.heap.size W W' := by
  subst e1 e2 e3 e4
  exact rof_to h.1.1 h.1.2 h.2.1 h.2.2 hv W
theorem near_min {a b : Int} (h1 : Near a) (h2 : Near b) : Near (min a b) := by unfold Near at *; omega
theorem near_max {a b : Int} (h1 : Near a) (h2 : Near b) : Near (max a b) := by unfold Near at *; omega
set_option maxRecDepth 100000 in
set_option maxHeartbeats 2000000 in
theorem refhull_any (A : Option Addr) (n c : Nat) (zs : List Rc) (w0 : World) (h1 : Rows 4 encR w0 A n zs) (hz : ∀ z ∈ zs, NearR z) (p q u v : Int) (hv : hullR zs = ⟨p, q, u, v⟩) :
    Calls Try.prog 28 #[.slice A n c] w0 fun e w' => e = .returned (.agg #[.int .i64 p, .int .i64 q, .int .i64 u, .int .i64 v]) ∧ Below w0.heap.size w0 w' := by
  have hn := h1.2.1
  have HL := Lib.hid h1.1
  have H1 := Lib.hid h1
  have HZ := Lib.hid hz
  have HV := Lib.hid hv
  clear h1 hz hv
  go_enter Try.func28, Try.ntmps28
  go_wp2_with fail
  go_loopw [4] (fun i wr => ∃ (k : Nat) (x y s t : Int), k ≤ n ∧ i = .int .i64 k ∧ (zs.take k).foldl hullRStep ⟨0, 0, 0, 0⟩ = ⟨x, y, s, t⟩ ∧ Box wr w0.heap.size [.int .i64 0, .int .i64 0, .int .i64 0, .int .i64 0] ∧ Box wr (w0.heap.size + 1) [.int .i64 x, .int .i64 y, .int .i64 s, .int .i64 t] ∧ Below w0.heap.size w0 wr) (fun i _ => n - (intOf i).toNat)
  case atStart => exact ⟨0, 0, 0, 0, 0, by omega, rfl, rfl, (Box.new4 _ _ _ _ _ _).alloc _, Box.new4' _ _ _ _ _ _ _ (by simp), by go_grown⟩
  case round =>
    obtain ⟨k, x, y, s, t, hk, rfl, hh, hR, hB, hb⟩ := hrel
    have HH := Lib.hid hh
    have HB := Lib.hid hb
    have hok := hullR_ok (zs.take k) ⟨0, 0, 0, 0⟩ (.inl rfl) (fun r hr => HZ.out r (List.mem_of_mem_take hr))
    rw [hh] at hok
    have HOk := Lib.hid hok
    clear hh hb hok
    by_cases hlt : k < n
    · obtain ⟨bl, off, p', q', u', v', rfl, hbl, hx, HC⟩ := rects_get H1.out hlt
      have HX := Lib.hid hx
      have HNr := Lib.hid (HZ.out _ (List.mem_of_getElem? hx))
      clear hx
      obtain ⟨⟨c0, c1, c2, c3⟩, c4⟩ := HC.out wr HB.out
      obtain ⟨⟨r0, r1, r2, r3⟩, ⟨f0, f1, f2, f3⟩, r4⟩ := hR.of4
      obtain ⟨⟨b0, b1, b2, b3⟩, ⟨g0, g1, g2, g3⟩, b4⟩ := hB.of4
      by_cases hq : noneR ⟨p', q', u', v'⟩
      · have HS := Lib.hid (show hullRStep ⟨x, y, s, t⟩ ⟨p', q', u', v'⟩ = ⟨x, y, s, t⟩ from if_pos hq)
        have HT := Lib.hid (decide_eq_true hq)
        clear hq
        go_wp2_with fail
        refine (none_to HT.out _).mono ?_
        rintro e w2 ⟨rfl, hb2⟩
        have hR2 := (hR.alloc (.cells #[.int .i64 p', .int .i64 q', .int .i64 u', .int .i64 v'] 41)).below hb2
        have hB2 := (hB.alloc (.cells #[.int .i64 p', .int .i64 q', .int .i64 u', .int .i64 v'] 41)).below hb2
        have HB2 := Lib.hid (below_then (HB.out.alloc (by omega) _) hb2)
        have hSz : w0.heap.size + 1 < wr.heap.size := b4
        clear hb2 hR hB HB r0 r1 r2 r3 r4 b0 b1 b2 b3 b4 c0 c1 c2 c3 c4 f0 f1 f2 f3 g0 g1 g2 g3
        go_wp2_with fail
        go_roundw
        case rel => exact ⟨k + 1, x, y, s, t, by omega, by go_num, by rw [rhull_snoc HX.out HH.out, HS.out], hR2, hB2, HB2.out⟩
        case measure => simp [intOf]; omega
      · have HT := Lib.hid (decide_eq_false hq)
        obtain ⟨hst1, hst2⟩ := hull_by_edges HOk.out hq
        have hfh := fit_hull HOk.out
        have hfr := fit_near HNr.out
        have o1 := near_wrap hfh.1.2
        have o2 := near_wrap hfh.2.2
        have o3 := near_wrap hfr.1.2
        have o4 := near_wrap hfr.2.2
        simp only at o1 o2 o3 o4
        have M1 := Lib.hid (show (Near (min p' p') ∧ Near (max (p' + u') (p' + u'))) ∧ Near (min q' q') ∧ Near (max (q' + v') (q' + v')) from ⟨⟨near_min hfr.1.1 hfr.1.1, near_max hfr.1.2 hfr.1.2⟩, near_min hfr.2.1 hfr.2.1, near_max hfr.2.2 hfr.2.2⟩)
        have M2 := Lib.hid (show (Near (min x p') ∧ Near (max (x + s) (p' + u'))) ∧ Near (min y q') ∧ Near (max (y + t) (q' + v')) from ⟨⟨near_min hfh.1.1 hfr.1.1, near_max hfh.1.2 hfr.1.2⟩, near_min hfh.2.1 hfr.2.1, near_max hfh.2.2 hfr.2.2⟩)
        rcases e7 : hullRStep ⟨x, y, s, t⟩ ⟨p', q', u', v'⟩ with ⟨x1, y1, w1, h1⟩
        rw [e7] at hst1 hst2
        have HS := Lib.hid e7
        have HSt1 := Lib.hid hst1
        have HSt2 := Lib.hid hst2
        clear hst1 hst2 hfh hfr e7 hq
        go_wp2_with fail
        refine (none_to HT.out _).mono ?_
        rintro e w2 ⟨rfl, hb2⟩
        have hR2 := (hR.alloc (.cells #[.int .i64 p', .int .i64 q', .int .i64 u', .int .i64 v'] 41)).below hb2
        have hB2 := (hB.alloc (.cells #[.int .i64 p', .int .i64 q', .int .i64 u', .int .i64 v'] 41)).below hb2
        have hS2 := (Box.new4 wr (.int .i64 p') (.int .i64 q') (.int .i64 u') (.int .i64 v') 41).below hb2
        have HB2 := Lib.hid (below_then (HB.out.alloc (by omega) _) hb2)
        have hSz : w0.heap.size + 1 < wr.heap.size := b4
        clear hb2 hR hB HB r0 r1 r2 r3 r4 b0 b1 b2 b3 b4 c0 c1 c2 c3 c4 f0 f1 f2 f3 g0 g1 g2 g3
        obtain ⟨⟨b0, b1, b2, b3⟩, ⟨g0, g1, g2, g3⟩, b4⟩ := hB2.of4
        go_wp2_with fail
        by_cases hq2 : noneR ⟨x, y, s, t⟩
        · have HT2 := Lib.hid (decide_eq_true hq2)
          have HSt := Lib.hid (HSt1.out hq2)
          refine (none_to HT2.out _).mono ?_
          rintro e w3 ⟨rfl, hb3⟩
          have hR3 := hR2.below hb3
          have hB3 := hB2.below hb3
          have hS3 := hS2.below hb3
          have HB3 := Lib.hid (below_then HB2.out hb3)
          clear hb3 hR2 hB2 hS2 HB2 b0 b1 b2 b3 b4 g0 g1 g2 g3 hq2
          obtain ⟨⟨b0, b1, b2, b3⟩, ⟨g0, g1, g2, g3⟩, b4⟩ := hB3.of4
          obtain ⟨⟨s0, s1, s2, s3⟩, ⟨f0, f1, f2, f3⟩, s4⟩ := hS3.of4
          go_wp2_with fail
          refine (rof_at (by omega) (by omega) (by omega) (by omega) M1.out HSt.out _).mono ?_
          rintro e w4 ⟨rfl, hb4⟩
          have hR4 := (hR3.set4_other (m := w0.heap.size + 1) (by omega) (.int .i64 p') (.int .i64 q') (.int .i64 u') (.int .i64 v')).below hb4
          have hB4 := (hB3.set4 (.int .i64 p') (.int .i64 q') (.int .i64 u') (.int .i64 v')).below hb4
          have HB4 := Lib.hid (below_then (below_set4 (m := w0.heap.size + 1) HB3.out (by omega) (.int .i64 p') (.int .i64 q') (.int .i64 u') (.int .i64 v')) hb4)
          clear hb4 hR3 hB3 hS3 HB3 b0 b1 b2 b3 b4 g0 g1 g2 g3 s0 s1 s2 s3 s4 f0 f1 f2 f3
          obtain ⟨⟨b0, b1, b2, b3⟩, ⟨g0, g1, g2, g3⟩, b4⟩ := hB4.of4
          go_wp2_with fail
          go_roundw
          case rel => exact ⟨k + 1, x1, y1, w1, h1, by omega, by go_num, by rw [rhull_snoc HX.out HH.out, HS.out], hR4.set4_other (by omega) _ _ _ _, hB4.set4 _ _ _ _, below_set4 HB4.out (by omega) _ _ _ _⟩
          case measure => simp [intOf]; omega
        · have HT2 := Lib.hid (decide_eq_false hq2)
          have HSt := Lib.hid (HSt2.out hq2)
          refine (none_to HT2.out _).mono ?_
          rintro e w3 ⟨rfl, hb3⟩
          have hR3 := hR2.below hb3
          have hB3 := hB2.below hb3
          have hS3 := hS2.below hb3
          have HB3 := Lib.hid (below_then HB2.out hb3)
          clear hb3 hR2 hB2 hS2 HB2 b0 b1 b2 b3 b4 g0 g1 g2 g3 hq2
          obtain ⟨⟨b0, b1, b2, b3⟩, ⟨g0, g1, g2, g3⟩, b4⟩ := hB3.of4
          obtain ⟨⟨s0, s1, s2, s3⟩, ⟨f0, f1, f2, f3⟩, s4⟩ := hS3.of4
          go_wp2_with fail
          all_goals
            refine (rof_at (by omega) (by omega) (by omega) (by omega) M2.out HSt.out _).mono ?_
            rintro e w4 ⟨rfl, hb4⟩
            have hR4 := hR3.below hb4
            have hB4 := hB3.below hb4
            have HB4 := Lib.hid (below_then HB3.out hb4)
            clear hb4 hR3 hB3 hS3 HB3 b0 b1 b2 b3 b4 g0 g1 g2 g3 s0 s1 s2 s3 s4 f0 f1 f2 f3
            obtain ⟨⟨b0, b1, b2, b3⟩, ⟨g0, g1, g2, g3⟩, b4⟩ := hB4.of4
            go_wp2_with fail
            go_roundw
            case rel => exact ⟨k + 1, x1, y1, w1, h1, by omega, by go_num, by rw [rhull_snoc HX.out HH.out, HS.out], hR4.set4_other (by omega) _ _ _ _, hB4.set4 _ _ _ _, below_set4 HB4.out (by omega) _ _ _ _⟩
            case measure => simp [intOf]; omega
    · have hv := HV.out
      rw [rhull_all (by rw [HL.out]; omega) HH.out] at hv
      injection hv with e1 e2 e3 e4
      subst e1 e2 e3 e4
      obtain ⟨⟨r0, r1, r2, r3⟩, ⟨f0, f1, f2, f3⟩, r4⟩ := hR.of4
      obtain ⟨⟨b0, b1, b2, b3⟩, ⟨g0, g1, g2, g3⟩, b4⟩ := hB.of4
      go_wp2_with fail
      refine bodyPost_ret (v := .agg #[.int .i64 x, .int .i64 y, .int .i64 s, .int .i64 t]) (by simp [results, Try.results28, go_sem, r0, r1, r2, r3]) rfl ⟨rfl, ?_⟩
      exact below_set4 HB.out (by omega) _ _ _ _
end Go.Proofs.Ytkbpiekmphcdnaa
