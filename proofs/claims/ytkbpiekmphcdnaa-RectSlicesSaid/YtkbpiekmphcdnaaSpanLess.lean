import Derived.Test.YtkbpiekmphcdnaaSpanRows
/- What is left of a span: the code's way. -/
namespace Go.Proofs.Ytkbpiekmphcdnaa
open Go.RowKit
set_option linter.unusedVariables false
set_option linter.unusedSimpArgs false
theorem span_info : (Try.prog.info? 23).map (fun i => (i.zero, i.size, i.bytes)) = some (some (.agg #[.int .i64 0, .int .i64 0]), 2, 16) := by kernel_rfl
theorem metL_snoc_no {s x : Sp} {zs : List Sp} {k : Nat} (hx : zs[k]? = some x) (h : meetS s x = (0, 0)) : metL s (zs.take (k + 1)) = metL s (zs.take k) := by
  rw [take_snoc hx]; unfold metL; rw [List.map_append, List.filter_append]; simp [h, nonE]
theorem metL_snoc_yes {s x m : Sp} {zs : List Sp} {k : Nat} (hx : zs[k]? = some x) (h : meetS s x = m) (hm : m.1 < m.2) : metL s (zs.take (k + 1)) = metL s (zs.take k) ++ [m] := by
  rw [take_snoc hx]; unfold metL; rw [List.map_append, List.filter_append]; simp [h, nonE, hm]
def RisingPost (w : World) (s : Sp) (zs : List Sp) (e : Ending) (w' : World) : Prop :=
  ∃ A n c ms, e = .returned (.slice A n c) ∧ Rows 2 encS w' A n ms ∧ ms.Perm (metL s zs) ∧ RisingL ms ∧ Below w.heap.size w w'
set_option maxHeartbeats 2000000 in
theorem rising_any (a b : Int) (A : Option Addr) (n c : Nat) (zs : List Sp) (w : World) (hn60 : n ≤ 1000) (h1 : Rows 2 encS w A n zs) :
    Calls Try.prog 36 #[.agg #[.int .i64 a, .int .i64 b], .slice A n c] w (RisingPost w (a, b) zs) := by
  obtain ⟨i0, hi0, hz0, hz1, hz2⟩ := info_parts span_info
  have HL := Lib.hid h1.1
  have H1 := Lib.hid h1
  clear h1
  go_enter Try.func36, Try.ntmps36
  go_wp2_with fail
  go_loopw [5, 11] (fun v i wr => ∃ (k m c' : Nat) (A' : Option Addr), k ≤ n ∧ m ≤ k ∧ i = .int .i64 k ∧ v = .slice A' m c' ∧ wr.ownsRow (w.heap.size + 1) 23 2 (.slice A' m c') m ((metL (a, b) (zs.take k)).flatMap encS) ∧ Box wr w.heap.size [.int .i64 a, .int .i64 b] ∧ Below w.heap.size w wr) (fun _ i _ => n - (intOf i).toNat)
  case atStart => exact ⟨0, 0, 0, none, by omega, by omega, rfl, rfl, owns_nil _ _ _ _, Box.new2 _ _ _ _, by go_grown⟩
  case round =>
    obtain ⟨k, m, c', A', hk, hm, rfl, rfl, hO, hB, hb⟩ := hrel
    have HB := Lib.hid hb
    have HO := Lib.hid hO
    clear hb hO
    by_cases hlt : k < n
    · obtain ⟨bl, off, p, q, rfl, hbl, hx, HC⟩ := rows_get H1.out hlt
      have HX := Lib.hid hx
      clear hx
      obtain ⟨c0, c1, c2⟩ := HC.out wr HB.out
      obtain ⟨b0, b1, b2, b3, b4⟩ := hB.of2
      rcases hme : meetS (a, b) (p, q) with ⟨x, y⟩
      have HM := Lib.hid hme
      clear hme
      go_wp2_with fail
      refine (meet_to HM.out _).mono ?_
      rintro e w2 ⟨rfl, hb2⟩
      have hB2 := (hB.alloc (.cells #[.int .i64 p, .int .i64 q] 23)).below hb2
      have HO2 := Lib.hid (owns_below (owns_below HO.out ((Below.refl _ _).alloc (Nat.le_refl _) (.cells #[.int .i64 p, .int .i64 q] 23))) hb2)
      have HB2 := Lib.hid (below_then (HB.out.alloc (by omega) (.cells #[.int .i64 p, .int .i64 q] 23)) hb2)
      clear hb2 c0 c1 c2 hB b0 b1 b2 b3 b4 HO HB
      by_cases hxy : x < y
      · have HS := Lib.hid (metL_snoc_yes HX.out HM.out hxy)
        have hz : (x == 0) = false ∨ ((x == 0) = true ∧ (y == 0) = false) := by
          rcases (show x ≠ 0 ∨ (x = 0 ∧ y ≠ 0) by omega) with h | ⟨h, h'⟩
          · exact .inl (by simpa using h)
          · exact .inr ⟨by simpa using h, by simpa using h'⟩
        have HC1 : Hid (Cells ((w2.alloc (.cells #[.int .i64 x, .int .i64 y] 23)).alloc (.cells #[.int .i64 x, .int .i64 y] 23)) (some ⟨w2.heap.size + 1, 0, none⟩) 1 2 [.int .i64 x, .int .i64 y]) := by
          refine ⟨rfl, by decide, fun _ => ⟨_, _, rfl, by simp, fun j u hu => ?_⟩⟩
          have hbx := Box.new2' (w2.alloc (.cells #[.int .i64 x, .int .i64 y] 23)) (.int .i64 x) (.int .i64 y) 23 (w2.heap.size + 1) (by simp)
          rw [Nat.zero_add]; exact hbx.2.2 j u hu
        have HO3 := Lib.hid (owns_below HO2.out (w' := (w2.alloc (.cells #[.int .i64 x, .int .i64 y] 23)).alloc (.cells #[.int .i64 x, .int .i64 y] 23)) (by go_grown))
        have hB3 := hB2.below (w' := (w2.alloc (.cells #[.int .i64 x, .int .i64 y] 23)).alloc (.cells #[.int .i64 x, .int .i64 y] 23)) (by go_grown)
        have HB3 := Lib.hid (below_then HB2.out (w2 := (w2.alloc (.cells #[.int .i64 x, .int .i64 y] 23)).alloc (.cells #[.int .i64 x, .int .i64 y] 23)) (by go_grown))
        have hlt2 := hB2.lt
        clear hB2 HO2 HB2
        rcases hz with hz | ⟨hz, hz'⟩
        all_goals
          go_wp2_with (at_builtin; refine wpList_append_cells _ rfl (.tmp 21) (.tmp 23) _ rfl (w.heap.size + 1) 23 i0 (.agg #[.int .i64 0, .int .i64 0]) 2 16 Try.underlying31 hi0 hz0 hz1 hz2 rfl (by decide) _ m _ rfl HO3.out _ 1 1 _ rfl HC1.out (by intro u hu; simp at hu; rcases hu with rfl | rfl <;> rfl) (by unfold maxLen; omega) (by omega) (by simp; omega) ?_; intro A4 c4 w4 hown4 hg4)
          have hb4 : Below (w.heap.size + 1) _ w4 := (Below.refl _ _).grown hg4 (by simp; omega) (owns_block HO3.out)
          clear hg4
          go_roundw
          case rel => exact ⟨k + 1, m + 1, c4, A4, by omega, by omega, by go_num, rfl, by rw [HS.out, List.flatMap_append]; exact hown4, hB3.belowB hb4 (by omega), HB3.out.trans (hb4.mono (by omega))⟩
          case measure => simp [intOf]; omega
      · have h00 := (meetS_none (a := (a, b)) (b := (p, q))).1 (by rw [HM.out]; exact Int.not_lt.1 hxy)
        have HS := Lib.hid (metL_snoc_no HX.out h00)
        rw [HM.out] at h00
        injection h00 with e1 e2
        subst e1 e2
        go_wp2_with fail
        go_roundw
        case rel => exact ⟨k + 1, m, c', A', by omega, by omega, by go_num, rfl, by rw [HS.out]; exact owns_below HO2.out (by go_grown), hB2.alloc _, HB2.out.alloc (by have := hB2.lt; omega) _⟩
        case measure => simp [intOf]; omega
    · have hlen := HO.out.1
      rw [List.take_of_length_le (by rw [HL.out]; omega)] at HO
      go_wp2_with fail
      refine (sort_any (w.heap.size + 1) _ _ _ _ _ _ (by omega) HO.out).mono ?_
      rintro e w5 ⟨rfl, ms, hp, hr, hR, hb5⟩
      have HR5 := Lib.hid hR
      have HB5 := Lib.hid (HB.out.trans (hb5.mono (by omega)))
      clear hR hb5
      go_wp2_with fail
      go_ret
      exact ⟨_, _, _, ms, rfl, HR5.out, hp, hr, HB5.out⟩
end Go.Proofs.Ytkbpiekmphcdnaa
