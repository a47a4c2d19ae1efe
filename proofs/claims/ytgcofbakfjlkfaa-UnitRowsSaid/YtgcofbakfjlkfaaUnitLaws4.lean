import Derived.Test.YtgcofbakfjlkfaaUnitLaws
import Derived.Test.YtgcofbakfjlkfaaCells
/- The walk of the law UnitRows. -/
namespace Go.Proofs.Ytgcofbakfjlkfaa
open Go.RowKit
set_option linter.unusedVariables false
set_option linter.unusedSimpArgs false
theorem int_info : (Try.prog.info? 3).map (fun i => (i.zero, i.size, i.bytes)) = some (some (.int .i64 0), 1, 8) := by kernel_rfl
set_option maxHeartbeats 800000 in
theorem rows_law (A : Option Addr) (n c : Nat) (zs : List Int) (zs0 : ∀ z ∈ zs, (Lit.int .i64 z).wf = true) (w : World) (hz : Ints w A n zs) :
    Calls Try.prog 4 #[.slice A n c] w fun e w' => e = .returned (.bool true) ∧ Below w.heap.size w w' := by
  have hn := hz.2.1
  have HZ := Lib.hid hz
  clear hz
  by_cases hbig : 100 < n
  · go_enter Try.func4, Try.ntmps4
    go_wp2_with (go_at_call 19; refine (awake_any _).mono ?_; rintro e w' ⟨rfl, hbw⟩)
    go_ret
    exact ⟨rfl, hbw⟩
  · obtain ⟨i0, hi0, hz0, hz1, hz2⟩ := info_parts int_info
    have HO : Hid ((w.alloc (.cells #[] 3)).ownsRow w.heap.size 3 1 (.slice (some ⟨w.heap.size, 0, none⟩) 0 0) 0 []) := World.ownsRow_made w #[] 0 (Nat.le_refl _) (by decide) rfl
    have HC : Hid (Cells (w.alloc (.cells #[] 3)) A n 1 (zs.map (Value.int .i64))) := HZ.out.cells.below (B := w.heap.size) (by go_grown) rfl
    have H1 : Hid (∀ u ∈ zs.map (Value.int .i64), u.oneCell' = true) := by
      intro u hu
      obtain ⟨z, _, rfl⟩ := List.mem_map.1 hu
      rfl
    go_enter Try.func4, Try.ntmps4
    go_wp2_with (at_builtin; refine wpList_append_cells _ rfl (.tmp 9) (.tmp 10) _ rfl w.heap.size 3 i0 (.int .i64 0) 1 8 Try.underlying30 hi0 hz0 hz1 hz2 rfl (by decide) _ 0 [] rfl HO.out A n c _ rfl HC.out H1.out (by unfold maxLen; omega) (by omega) (by simp) ?_; intro A1 c1 w1 hown1 hg1)
    simp only [Nat.zero_add, List.nil_append] at hown1
    have hb1 : Below w.heap.size w w1 := ((Below.refl _ _).alloc (Nat.le_refl _) _).grown hg1 (by simp) (by intro k hk; cases hk; exact Nat.le_refl _)
    have HI1 : Hid (Ints w1 A1 n zs) := (ownsRow_cells hown1).ints
    have HI : Hid (Ints w1 A n zs) := HZ.out.below hb1 rfl
    have HB := Lib.hid hb1
    clear hown1 hg1 hb1
    go_wp2_with (first
      | (go_at_call 14; refine (add_any _ _ _ _ _ HI1.out).mono ?_; rintro e w' ⟨rfl, rfl⟩)
      | (go_at_call 15; refine (radd_any _ _ _ _ _ HI.out).mono ?_; rintro e w' ⟨rfl, rfl⟩)
      | (go_at_call 20; refine (least_any _ _ _ _ _ HI1.out).mono ?_; rintro e w' ⟨rfl, rfl⟩)
      | (go_at_call 21; refine (rleast_any _ _ _ _ _ HI.out).mono ?_; rintro e w' ⟨rfl, rfl⟩)
      | (go_at_call 22; refine (greatest_any _ _ _ _ _ HI1.out).mono ?_; rintro e w' ⟨rfl, rfl⟩)
      | (go_at_call 23; refine (rgreatest_any _ _ _ _ _ HI.out).mono ?_; rintro e w' ⟨rfl, rfl⟩))
    go_loopw [4] (fun i wr => ∃ k m : Nat, k ≤ n ∧ i = .int .i64 k ∧ wr = w1.drewN m) (fun i _ => n - (intOf i).toNat)
    case atStart => exact ⟨0, 0, by omega, rfl, rfl⟩
    case round =>
      obtain ⟨k, m, hk, rfl, rfl⟩ := hrel
      by_cases hlt : k < n
      · obtain ⟨b1, o1, rfl, hc1⟩ := HI1.out.at_ hlt
        obtain ⟨b, o, rfl, hc⟩ := HI.out.at_ hlt
        go_wp2_with fail
        go_quiet (fail)
        go_wp2_with fail
        go_roundw
        case rel => exact ⟨k + 1, _, by omega, by go_num, rfl⟩
        case measure => simp [intOf]; omega
      · go_wp2_with (go_at_call 19; refine (awake_any _).mono ?_; rintro e w' ⟨rfl, hbw⟩)
        go_ret
        exact ⟨rfl, (below_drewN HB.out m).trans (hbw.mono (below_drewN HB.out m).size)⟩
end Go.Proofs.Ytgcofbakfjlkfaa
