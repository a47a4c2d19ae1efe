import Derived.Test.YtkbpiekmphcdnaaSpanLess2
import Derived.Deep.RegionHeld3
/- The chapter's examples hold, in any world. -/
namespace Go.Proofs.Ytkbpiekmphcdnaa
open Go.RowKit
set_option linter.unusedVariables false
set_option linter.unusedSimpArgs false
theorem rows_lit (w : World) (zs : List Sp) (m : Nat) (t : TypeId) (n : Nat) (hn : n = w.heap.size) (cs : Array Value) (hcs : cs = (zs.flatMap encS).toArray) (hm : zs.length = m) (hm2 : m ≤ 1000) : Rows 2 encS (w.alloc (.cells cs t)) (some ⟨n, 0, none⟩) m zs := by
  subst hn hcs hm
  refine ⟨rfl, by omega, fun _ => ⟨_, _, rfl, by simp, fun i x hx j v hv => ?_⟩⟩
  rw [Nat.zero_add]
  exact (Box.new w (zs.flatMap encS) t).2.2 _ _ (flat_get encS_len zs i x j v hx hv)
set_option maxHeartbeats 1000000 in
theorem awake_any (w : World) : Calls Try.prog 19 #[] w fun e w' => e = .returned (.bool true) ∧ Below w.heap.size w w' := by
  have c1 : lenS (2, 5) = 3 := by decide
  have c2 : lenS (5, 2) = 0 := by decide
  have c3 : meetS (0, 4) (2, 9) = (2, 4) := by decide
  have c4 : meetS (0, 2) (2, 9) = (0, 0) := by decide
  have c5 : hullL [(7, 9), (4, 4), (1, 2)] = (1, 9) := by decide
  have C6 : Hid (lessR (0, 10) [(2, 3), (5, 20)] = [(0, 2), (3, 5)]) := by show lessR (0, 10) [(2, 3), (5, 20)] = [(0, 2), (3, 5)]; decide
  have C7 : Hid (lessR (0, 10) [(0, 10)] = []) := by show lessR (0, 10) [(0, 10)] = []; decide
  have hB := Below.refl w.heap.size w
  go_enter Try.func19, Try.ntmps19
  go_wp2_with (first
    | (go_at_call 35; refine (of_any _ _ _).mono ?_; rintro e w1 ⟨rfl, hb⟩; replace hB := below_then (show Below w.heap.size w _ by go_grown) hb; clear hb; have hBs := hB.size)
    | (go_at_call 11; refine (len_any _ _ _ (by omega) (by omega)).mono ?_; rintro e w1 ⟨rfl, hb⟩; replace hB := below_then (show Below w.heap.size w _ by go_grown) hb; clear hb; have hBs := hB.size)
    | (go_at_call 13; refine (has_any _ _ _ _).mono ?_; rintro e w1 ⟨rfl, hb⟩; replace hB := below_then (show Below w.heap.size w _ by go_grown) hb; clear hb; have hBs := hB.size)
    | (go_at_call 15; refine (meet_any _ _ _ _ _).mono ?_; rintro e w1 ⟨rfl, hb⟩; replace hB := below_then (show Below w.heap.size w _ by go_grown) hb; clear hb; have hBs := hB.size)
    | (go_at_call 20; refine (hull_any _ _ _ [(7, 9), (4, 4), (1, 2)] _ (rows_lit _ _ _ _ _ (by simp) _ (by simp [encS]) rfl (by decide))).mono ?_; rintro e w1 ⟨rfl, hb⟩; replace hB := below_then (show Below w.heap.size w _ by go_grown) hb; clear hb; have hBs := hB.size))
  refine (less_any _ _ _ _ _ [(2, 3), (5, 20)] _ (by decide) (rows_lit _ _ _ _ _ (by simp) _ (by simp [encS]) rfl (by decide))).mono ?_
  rintro e w1 ⟨A1, n1, k1, rfl, hR, hb⟩
  replace hB := below_then (show Below w.heap.size w _ by go_grown) hb
  have hBs := hB.size
  rw [C6.out] at hR
  obtain rfl : n1 = 2 := hR.len.symm
  clear hb
  go_wp2_with fail
  refine (of_any _ _ _).mono ?_
  rintro e w2 ⟨rfl, hb⟩
  replace hR := hR.below hb
  replace hB := below_then hB hb
  have hBs := hB.size
  clear hb
  go_wp2_with fail
  refine (of_any _ _ _).mono ?_
  rintro e w3 ⟨rfl, hb⟩
  replace hR := hR.below hb
  replace hB := below_then hB hb
  have hBs := hB.size
  clear hb
  go_wp2_with fail
  refine (same_any _ _ _ _ _ _ _ _ (hR.below (by go_grown)) (rows_lit _ _ _ _ _ (by simp) _ (by simp [encS]) rfl (by decide))).mono ?_
  rintro e w4 ⟨rfl, hb⟩
  replace hB := below_then (show Below w.heap.size w _ by go_grown) hb
  have hBs := hB.size
  clear hb hR
  go_wp2_with (go_at_call 35; refine (of_any _ _ _).mono ?_; rintro e w1 ⟨rfl, hb⟩; replace hB := below_then (show Below w.heap.size w _ by go_grown) hb; clear hb; have hBs := hB.size)
  refine (less_any _ _ _ _ _ [(0, 10)] _ (by decide) (rows_lit _ _ _ _ _ (by simp) _ (by simp [encS]) rfl (by decide))).mono ?_
  rintro e w5 ⟨A1, n1, k1, rfl, hR, hb⟩
  replace hB := below_then (show Below w.heap.size w _ by go_grown) hb
  have hBs := hB.size
  rw [C7.out] at hR
  obtain rfl : n1 = 0 := hR.len.symm
  clear hb
  go_wp2_with fail
  go_ret
  exact ⟨rfl, hB⟩
end Go.Proofs.Ytkbpiekmphcdnaa
