import Derived.Test.YtkbpiekmphcdnaaSpanLaws
import Derived.Test.YtkbpiekmphcdnaaSpanLess3
/- The walk of the law SpanRows. -/
namespace Go.Proofs.Ytkbpiekmphcdnaa
open Go.RowKit
set_option linter.unusedVariables false
set_option linter.unusedSimpArgs false
theorem enc_one (zs : List Sp) : ∀ u ∈ zs.flatMap encS, u.oneCell' = true := by
  intro u hu
  obtain ⟨z, _, h⟩ := List.mem_flatMap.1 hu
  unfold encS at h
  simp at h
  rcases h with rfl | rfl <;> rfl
set_option maxHeartbeats 2000000 in
theorem rows_law (a : Int) (_ : -9223372036854775808 ≤ a ∧ a ≤ 9223372036854775807) (b : Int) (_ : -9223372036854775808 ≤ b ∧ b ≤ 9223372036854775807) (A : Option Addr) (n c : Nat) (zs : List Sp) (_ : ∀ z ∈ zs, (Lit.int .i64 z.1).wf = true ∧ (Lit.int .i64 z.2).wf = true) (w : World) (hz : Rows 2 encS w A n zs) :
    Calls Try.prog 4 #[.agg #[.int .i64 a, .int .i64 b], .slice A n c] w fun e w' => e = .returned (.bool true) ∧ Below w.heap.size w w' := by
  have hn := hz.2.1
  have HZ := Lib.hid hz
  clear hz
  by_cases hbig : 60 < n
  · go_enter Try.func4, Try.ntmps4
    go_wp2_with (go_at_call 19; refine (awake_any _).mono ?_; rintro e w' ⟨rfl, hbw⟩)
    go_ret
    exact ⟨rfl, below_then (by go_grown) hbw⟩
  · obtain ⟨i0, hi0, hz0, hz1, hz2⟩ := info_parts span_info
    have HO : Hid (((w.alloc (.cells #[.int .i64 a, .int .i64 b] 23)).alloc (.cells #[] 23)).ownsRow (w.heap.size + 1) 23 2 (.slice (some ⟨w.heap.size + 1, 0, none⟩) 0 0) 0 []) := by
      have h := World.ownsRow_made (w.alloc (.cells #[.int .i64 a, .int .i64 b] 23)) (base := w.heap.size + 1) (e := 23) (size := 2) #[] 0 (by simp) (by decide) rfl
      rw [World.size_alloc] at h
      exact h
    have HC : Hid (Cells ((w.alloc (.cells #[.int .i64 a, .int .i64 b] 23)).alloc (.cells #[] 23)) A n 2 (zs.flatMap encS)) := (HZ.out.below (by go_grown)).cells encS_len (by decide)
    have hBx := (Box.new2 w (.int .i64 a) (.int .i64 b) 23).alloc (.cells #[] 23)
    go_enter Try.func4, Try.ntmps4
    go_wp2_with (at_builtin; refine wpList_append_cells _ rfl (.tmp 10) (.tmp 11) _ rfl (w.heap.size + 1) 23 i0 (.agg #[.int .i64 0, .int .i64 0]) 2 16 Try.underlying31 hi0 hz0 hz1 hz2 rfl (by decide) _ 0 [] rfl HO.out A n c _ rfl HC.out (enc_one _) (by unfold maxLen; omega) (by omega) (by simp) ?_; intro A1 c1 w1 hown1 hg1)
    simp only [Nat.zero_add, List.nil_append] at hown1
    have hb1 : Below (w.heap.size + 1) _ w1 := (Below.refl _ _).grown hg1 (by simp) (owns_block HO.out)
    have hB1 := hBx.belowB hb1 (by omega)
    have HB1 := Lib.hid ((show Below w.heap.size w _ by go_grown).trans (hb1.mono (by omega)) : Below w.heap.size w w1)
    have HI1 := Lib.hid (ownsRow_rows (enc := encS) encS_len (by decide) hown1)
    have HI := Lib.hid (HZ.out.below HB1.out)
    clear hown1 hg1 hb1 hBx HO HC
    obtain ⟨k0, k1⟩ := On.of2 hB1
    go_wp2_with fail
    go_region_held3 (fun W' => On w1 W') (first | exact (On.refl _).drew | exact On.step (by assumption) hb) (first
      | (go_at_call 20; ((with_reducible refine (hull_any _ _ _ zs _ (HI1.out.on (by assumption))).mono ?_); rintro e w2 ⟨rfl, hb⟩))
      | (go_at_call 21; ((with_reducible refine (rhull_any _ _ _ zs _ (HI.out.on (by assumption))).mono ?_); rintro e w2 ⟨rfl, hb⟩))
      | (go_at_call 23; ((with_reducible refine (less_any _ _ _ _ _ zs _ (by omega) (HI1.out.on (by assumption))).mono ?_); rintro e w2 ⟨A2, n2, c2, rfl, hRa, hb⟩))
      | (go_at_call 24; ((with_reducible refine (rless_any _ _ _ _ _ zs _ (by omega) (HI.out.on (by assumption))).mono ?_); rintro e w2 ⟨A3, n3, c3, rfl, hRb, hb⟩; have hRa2 := hRa.below hb))
      | (go_at_call 22; ((with_reducible refine (same_any _ _ _ _ _ _ _ _ hRa2 hRb).mono ?_); rintro e w2 ⟨rfl, hb⟩))
      | (go_at_call 22; ((with_reducible refine (same_any _ _ _ _ _ _ zs _ (HI1.out.on (by assumption)) (HI.out.on (by assumption))).mono ?_); rintro e w2 ⟨rfl, hb⟩))
      | (go_at_call 19; ((with_reducible refine (awake_any _).mono ?_); rintro e w2 ⟨rfl, hb⟩)))
    rename_i hOn
    go_wp2_with fail
    go_ret
    exact ⟨rfl, below_then HB1.out hOn⟩
end Go.Proofs.Ytkbpiekmphcdnaa
