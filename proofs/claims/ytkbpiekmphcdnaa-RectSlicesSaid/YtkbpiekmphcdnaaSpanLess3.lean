import Derived.Test.YtkbpiekmphcdnaaSpanLess2
import Derived.Deep.RegionHeld3
import Derived.Deep.AppendLies
/- What is left of a span: the document's way. -/
namespace Go.Proofs.Ytkbpiekmphcdnaa
open Go.RowKit
set_option linter.unusedVariables false
set_option linter.unusedSimpArgs false
theorem made_one (w : World) (x y : Int) (t : TypeId) (n : Nat) (hn : n = w.heap.size) (c : Nat) : Rows 2 encS (w.alloc (.cells #[.int .i64 x, .int .i64 y] t)) (some ⟨n, 0, none⟩) 1 [(x, y)] := by
  subst hn
  refine ⟨rfl, by decide, fun _ => ⟨_, _, rfl, by simp, fun i z hz j v hv => ?_⟩⟩
  match i, hz with
  | 0, hz =>
    simp at hz; subst hz
    simp only [Nat.zero_mul, Nat.zero_add]
    exact (Box.new2 w (.int .i64 x) (.int .i64 y) t).2.2 j v hv
theorem out_snoc {zs out out0 : List Sp} {k : Nat} {x : Sp} (hx : zs[k]? = some x) (h : (zs.take k).foldl outStep out0 = out) : (zs.take (k + 1)).foldl outStep out0 = outStep out x := by
  rw [take_snoc hx, List.foldl_append, h]; rfl
theorem out_len {s : Sp} {zs out : List Sp} {k : Nat} (h : (zs.take k).foldl outStep [s] = out) : out.length ≤ k + 1 := by
  have h1 := outL_bound s (zs.take k)
  have h2 : (zs.take k).length ≤ k := List.length_take_le _ _
  have h3 : outL s (zs.take k) = out := h
  rw [h3] at h1
  omega
theorem two_cells (w : World) (x y u v : Int) (t : TypeId) (n : Nat) (hn : n = w.heap.size) : Cells (w.alloc (.cells #[.int .i64 x, .int .i64 y, .int .i64 u, .int .i64 v] t)) (some ⟨n, 0, none⟩) 2 2 [.int .i64 x, .int .i64 y, .int .i64 u, .int .i64 v] := by
  subst hn
  refine ⟨rfl, by decide, fun _ => ⟨_, _, rfl, by simp, fun j z hz => ?_⟩⟩
  rw [Nat.zero_add]; exact (Box.new w [.int .i64 x, .int .i64 y, .int .i64 u, .int .i64 v] t).2.2 j z hz
theorem two_cell2 (x y u v : Int) : ∀ z ∈ ([.int .i64 x, .int .i64 y, .int .i64 u, .int .i64 v] : List Value), z.oneCell' = true := by
  intro z hz; simp at hz; rcases hz with rfl | rfl | rfl | rfl <;> rfl
set_option maxRecDepth 100000 in
set_option maxHeartbeats 4000000 in
theorem rless_any (a b : Int) (A : Option Addr) (n c : Nat) (zs : List Sp) (w : World) (hn60 : n ≤ 1000) (h1 : Rows 2 encS w A n zs) :
    Calls Try.prog 24 #[.agg #[.int .i64 a, .int .i64 b], .slice A n c] w (LessPost w (a, b) zs) := by
  obtain ⟨i0, hi0, hz0, hz1, hz2⟩ := info_parts span_info
  have HL := Lib.hid h1.1
  have H1 := Lib.hid h1
  clear h1
  go_enter Try.func24, Try.ntmps24
  go_wp2_with fail
  go_loopw [5, 6] (fun v i wr => ∃ (k m c' : Nat) (A' : Option Addr) (out : List Sp), k ≤ n ∧ i = .int .i64 k ∧ v = .slice A' m c' ∧ (zs.take k).foldl outStep [(a, b)] = out ∧ Rows 2 encS wr A' m out ∧ Below w.heap.size w wr) (fun _ i _ => n - (intOf i).toNat)
  case atStart => exact ⟨0, 1, 1, _, _, by omega, rfl, rfl, rfl, made_one _ _ _ _ _ (by simp) 1, by go_grown⟩
  case round =>
    obtain ⟨k, m, c', A', out, hk, rfl, rfl, hf, hO, hb⟩ := hrel
    have HF := Lib.hid hf
    have HB := Lib.hid hb
    have HO := Lib.hid hO
    have hm : m ≤ k + 1 := by rw [← hO.len]; exact out_len hf
    clear hb hO hf
    obtain ⟨wo, rfl⟩ : ∃ wo : World, wo = wr := ⟨_, rfl⟩
    by_cases hlt : k < n
    · obtain ⟨bl, off, p, q, rfl, hbl, hx, HC⟩ := rows_get H1.out hlt
      have HX := Lib.hid hx
      clear hx
      obtain ⟨c0, c1, c2⟩ := HC.out wo HB.out
      go_wp2_with fail
      refine (none_any _ _ _).mono ?_
      rintro e w2 ⟨rfl, hb2⟩
      have HO2 := Lib.hid (HO.out.below hb2)
      have HB2 := Lib.hid (below_then HB.out hb2)
      clear hb2 c0 c1 c2
      by_cases hpq : q ≤ p
      · have HS := Lib.hid ((out_snoc HX.out HF.out).trans (if_pos hpq))
        go_wp2_with fail
        go_roundw
        case rel => exact ⟨k + 1, m, c', A', out, by omega, by go_num, rfl, HS.out, HO2.out, HB2.out⟩
        case measure => simp [intOf]; omega
      · have HS := Lib.hid ((out_snoc HX.out HF.out).trans (if_neg hpq))
        go_wp2_with fail
        go_loopw [7, 8] (fun v i w3 => ∃ (j c3 : Nat) (A3 : Option Addr), j ≤ m ∧ i = .int .i64 j ∧ v = .slice A3 (2 * j) c3 ∧ w3.ownsRow w2.heap.size 23 2 (.slice A3 (2 * j) c3) (2 * j) (((out.take j).flatMap (pieces (p, q))).flatMap encS) ∧ Below w2.heap.size w2 w3) (fun _ i _ => m - (intOf i).toNat)
        case atStart => exact ⟨0, 0, none, by omega, rfl, rfl, owns_nil _ _ _ _, Below.refl _ _⟩
        case round =>
          obtain ⟨j, c3, A3, hj, rfl, rfl, hO3, hb3⟩ := hrel
          have HO3 := Lib.hid hO3
          have HB3 := Lib.hid hb3
          have hs3 := hb3.size
          clear hO3 hb3
          obtain ⟨w3, rfl⟩ : ∃ w3 : World, w3 = wr := ⟨_, rfl⟩
          by_cases hjm : j < m
          · obtain ⟨bo, oo, u, v, rfl, hbo, ho, HD⟩ := rows_get HO2.out hjm
            have HX2 := Lib.hid ho
            clear ho
            obtain ⟨d0, d1, d2⟩ := HD.out w3 HB3.out
            obtain ⟨c0, c1, c2⟩ := HC.out w3 (HB2.out.trans (HB3.out.mono HB2.out.size))
            have k0 := fun W' hW => (HD.out W' hW).1
            have k1 := fun W' hW => (HD.out W' hW).2.1
            have k2 : ∀ W', Below w2.heap.size w2 W' → W'.cell? ⟨bl, off + k * 2, none⟩ = some (.int .i64 p) := fun W' hW => (HC.out W' (HB2.out.trans (hW.mono HB2.out.size))).1
            have k3 : ∀ W', Below w2.heap.size w2 W' → W'.cell? ⟨bl, off + k * 2 + 1, none⟩ = some (.int .i64 q) := fun W' hW => (HC.out W' (HB2.out.trans (hW.mono HB2.out.size))).2.1
            have hb3 := HB3.out
            clear c0 c1 c2 d0 d1 d2
            go_wp2_with fail
            go_region_held3 (fun W' => Below w2.heap.size w2 W') (first | (go_grown; done) | exact hb4)
              (first
                | (refine step_append_cells _ (by rfl) _ _ _ (by rfl) w2.heap.size 23 i0 (.agg #[.int .i64 0, .int .i64 0]) 2 16 Try.underlying31 hi0 hz0 hz1 hz2 rfl (by decide) _ (2 * j) _ (by rfl) (owns_below HO3.out (by go_grown)) _ 2 2 _ (by rfl) (two_cells _ _ _ _ _ _ _ (by simp)) (two_cell2 _ _ _ _) (by unfold maxLen; omega) (by omega) (by simp; omega) ?_; intro A4 c4 w4 hown4 hg4; have hb4 : Below w2.heap.size w2 w4 := (show Below w2.heap.size w2 _ by go_grown).grown hg4 (by simp; omega) (owns_block HO3.out)))
            all_goals
              go_wp2_with fail
              go_roundw
              case rel =>
                refine ⟨j + 1, c4, A4, by omega, by go_num, rfl, ?_, hb4⟩
                rw [take_snoc HX2.out, List.flatMap_append, List.flatMap_append]
                have e : ([(u, v)].flatMap (pieces (p, q))).flatMap encS = [.int .i64 u, .int .i64 (min v p), .int .i64 (max u q), .int .i64 v] := rfl
                rw [e, show 2 * (j + 1) = 2 * j + 2 by omega]
                exact hown4
              case measure => simp [intOf]; omega
          · have hO3 := ownsRow_rows (enc := encS) (zs := (out.take j).flatMap (pieces (p, q))) encS_len (by decide) HO3.out
            obtain rfl : j = m := by omega
            rw [List.take_of_length_le (by rw [HO2.out.len]; omega)] at hO3
            have HN := Lib.hid hO3
            have HB4 := Lib.hid (HB2.out.trans (HB3.out.mono HB2.out.size))
            clear hO3
            go_wp2_with fail
            go_loopw [5, 9] (fun x i w4 => ∃ (l m4 c4 : Nat) (A4 : Option Addr), l ≤ 2 * j ∧ m4 ≤ l ∧ i = .int .i64 l ∧ x = .slice A4 m4 c4 ∧ w4.ownsRow w3.heap.size 23 2 (.slice A4 m4 c4) m4 ((((out.flatMap (pieces (p, q))).take l).filter nonE).flatMap encS) ∧ Below w3.heap.size w3 w4) (fun _ i _ => 2 * j - (intOf i).toNat)
            case atStart => exact ⟨0, 0, 0, none, by omega, by omega, rfl, rfl, owns_nil _ _ _ _, Below.refl _ _⟩
            case round =>
              obtain ⟨l, m4, c4, A4, hl, hm4, rfl, rfl, hO4, hb4⟩ := hrel
              have HO4 := Lib.hid hO4
              clear hO4
              obtain ⟨w4, rfl⟩ : ∃ w4 : World, w4 = wr := ⟨_, rfl⟩
              by_cases hl2 : l < 2 * j
              · obtain ⟨by_, oy, u, v, rfl, hby, hy, HD⟩ := rows_get HN.out hl2
                have HX2 := Lib.hid hy
                clear hy
                obtain ⟨d0, d1, d2⟩ := HD.out w4 hb4
                go_wp2_with fail
                refine (none_any _ _ _).mono ?_
                rintro e w5 ⟨rfl, hb5⟩
                have HO5 := Lib.hid (owns_below HO4.out hb5)
                have HB5 := Lib.hid (hb4.trans (hb5.mono hb4.size))
                clear hb5 d0 d1 d2
                by_cases hvu : v ≤ u
                · have hS : ((out.flatMap (pieces (p, q))).take (l + 1)).filter nonE = ((out.flatMap (pieces (p, q))).take l).filter nonE := by
                    rw [take_snoc HX2.out, List.filter_append]; simp [nonE]; omega
                  have HS2 := Lib.hid hS
                  clear hS
                  go_wp2_with fail
                  go_roundw
                  case rel => exact ⟨l + 1, m4, c4, A4, by omega, by omega, by go_num, rfl, by rw [HS2.out]; exact HO5.out, HB5.out⟩
                  case measure => simp [intOf]; omega
                · have hS : ((out.flatMap (pieces (p, q))).take (l + 1)).filter nonE = ((out.flatMap (pieces (p, q))).take l).filter nonE ++ [(u, v)] := by
                    rw [take_snoc HX2.out, List.filter_append]; simp [nonE]; omega
                  have HS2 := Lib.hid hS
                  clear hS
                  have hvu' : decide (v ≤ u) = false := by simp; omega
                  have hvu'' : (!decide (v ≤ u)) = true := by simp; omega
                  obtain ⟨d0, d1, d2⟩ := HD.out w5 HB5.out
                  have hsz5 := HB5.out.size
                  have HC1 := Lib.hid (one_cells w5 u v 23 w5.heap.size rfl)
                  have HO6 := Lib.hid (owns_below HO5.out (w' := w5.alloc (.cells #[.int .i64 u, .int .i64 v] 23)) (by go_grown))
                  have HB6 := Lib.hid (HB5.out.alloc hsz5 (.cells #[.int .i64 u, .int .i64 v] 23))
                  go_wp2_with (at_builtin; refine wpList_append_cells _ rfl (.tmp 78) (.tmp 83) _ rfl w3.heap.size 23 i0 (.agg #[.int .i64 0, .int .i64 0]) 2 16 Try.underlying31 hi0 hz0 hz1 hz2 rfl (by decide) _ m4 _ rfl HO6.out _ 1 1 _ rfl HC1.out (one_cell2 _ _) (by unfold maxLen; omega) (by omega) (by simp; omega) ?_; intro A6 c6 w6 hown6 hg6; have hb6 : Below w3.heap.size _ w6 := (Below.refl _ _).grown hg6 (by simp; omega) (owns_block HO6.out); have HB7 := Lib.hid (HB6.out.trans hb6); have HO7 := Lib.hid hown6; clear hg6 hown6 hb6)
                  go_roundw
                  case rel => exact ⟨l + 1, m4 + 1, c6, A6, by omega, by omega, by go_num, rfl, by rw [HS2.out, List.flatMap_append]; exact HO7.out, HB7.out⟩
                  case measure => simp [intOf]; omega
              · have hO5 := ownsRow_rows (enc := encS) (zs := ((out.flatMap (pieces (p, q))).take l).filter nonE) encS_len (by decide) HO4.out
                rw [List.take_of_length_le (by rw [HN.out.len]; omega)] at hO5
                have HO5 := Lib.hid hO5
                have HB5 := Lib.hid (HB4.out.trans (hb4.mono HB4.out.size))
                clear hO5 hb4
                go_wp2_with fail
                go_roundw
                case rel => exact ⟨k + 1, m4, c4, A4, _, by omega, by go_num, rfl, HS.out, HO5.out, HB5.out⟩
                case measure => simp [intOf]; omega
    · have hout : outL (a, b) zs = out := by
        have := HF.out
        rwa [List.take_of_length_le (by rw [HL.out]; omega)] at this
      by_cases hm1 : m = 1
      · subst hm1
        obtain ⟨o, rfl⟩ : ∃ o, out = [o] := List.length_eq_one_iff.1 HO.out.len
        obtain ⟨bo, oo, u, v, rfl, hbo, ho, HD⟩ := rows_get HO.out (i := 0) (by decide)
        obtain rfl : o = (u, v) := by simpa using ho
        have HE : Hid (lessR (a, b) zs = if v ≤ u then [] else [(u, v)]) := by
          show lessR (a, b) zs = _
          unfold lessR; rw [hout]
        obtain ⟨d0, d1, d2⟩ := HD.out _ (Below.refl _ _)
        simp only [Nat.zero_mul, Nat.add_zero] at d0 d1
        clear ho hout
        go_wp2_with fail
        refine (none_any _ _ _).mono ?_
        rintro e w5 ⟨rfl, hb5⟩
        have HB5 := Lib.hid (below_then HB.out hb5)
        have HO5 := Lib.hid (HO.out.below hb5)
        clear hb5
        by_cases hvu : v ≤ u
        · go_wp2_with fail
          go_ret
          exact ⟨_, _, _, rfl, by rw [HE.out, if_pos hvu]; exact Rows.nil _ _, HB5.out⟩
        · go_wp2_with fail
          go_ret
          exact ⟨_, _, _, rfl, by rw [HE.out, if_neg (by omega)]; exact HO5.out, HB5.out⟩
      · have HE : Hid (lessR (a, b) zs = out) := by
          show lessR (a, b) zs = _
          unfold lessR; rw [hout]
          split
          · rename_i o
            exact absurd HO.out.len (fun h => hm1 (by simpa using h.symm))
          · rfl
        have hmb : ((m : Int) == 1) = false := by simp; omega
        clear hout hm1
        go_wp2_with fail
        go_ret
        exact ⟨_, _, _, rfl, by rw [HE.out]; exact HO.out, HB.out⟩
end Go.Proofs.Ytkbpiekmphcdnaa
