import Derived.Test.YtipmdhfinlkceaaGreatJP01
import Derived.Test.YtipmdhfinlkceaaGreatRows
import Derived.Test.YtipmdhfinlkceaaGreatJP00
import Derived.BigQuiet
import Derived.BigRegion
import Derived.Deep.QuietTactic
import Derived.Lib.MinMax
import Derived.OwnWalk
import Derived.Deep.WholeRow
import Derived.DeepKeys
import Derived.WalkKit
import Derived.ProofKit
import Derived.OpenShut
import Derived.Handy
import Derived.Lib.Hide
import Derived.Maps.AppendAt
import Derived.Lib.SmallJoins
import Derived.Deep.MidRow
/- AtomsFns, BandsRef, BandsRef2, LexRef, LexTok, MarginRef, MarginSt, ReadEnc, ReadMem, ReadSty, RectDown, SpanMeet, UnitAdd, ValidOdd, WordsRefW, MarginFns, MarginTop, NodeOpen, ReadAns, ReadGen, ReadScript, ReadSees, ValidPre, ValidSt. -/
set_option linter.unusedVariables false
set_option linter.unusedSimpArgs false
namespace Go.Proofs.YtipmdhfinlkceaaGreat
open Go.RowKit
theorem ahas_to {k : Int} {v : Bool} {n : Nat} (hv : (decide (0 ≤ k) && decide (k < (n : Int))) = v) (A : Option Addr) (c : Nat) (hn : n ≤ 9223372036854775807) (w : World) : Calls Tryz.prog 32 #[.slice A n c, .int .i64 k] w fun e w' => e = .returned (.bool v) ∧ w = w' := by
  subst hv
  by_cases h0 : 0 ≤ k
  · by_cases h1 : k < (n : Int)
    · have HV := Lib.hid (show (decide (0 ≤ k) && decide (k < (n : Int))) = true by rw [decide_eq_true h0, decide_eq_true h1]; rfl)
      go_enter Tryz.func32, Tryz.ntmps32
      go_wp2_with fail
      go_ret
      exact ⟨ret_bool (by first | exact HV.out.symm | exact (decide_eq_false (by omega)).symm), rfl⟩
    · have HV := Lib.hid (show (decide (0 ≤ k) && decide (k < (n : Int))) = false by rw [decide_eq_true h0, decide_eq_false h1]; rfl)
      have h2 : (n : Int) ≤ k := by omega
      go_enter Tryz.func32, Tryz.ntmps32
      go_wp2_with fail
      go_ret
      exact ⟨ret_bool (by first | exact HV.out.symm | exact (decide_eq_false (by omega)).symm), rfl⟩
  · have HV := Lib.hid (show (decide (0 ≤ k) && decide (k < (n : Int))) = false by rw [decide_eq_false h0]; rfl)
    have h2 : k < 0 := by omega
    go_enter Tryz.func32, Tryz.ntmps32
    go_wp2_with fail
    go_ret
    exact ⟨ret_bool (by first | exact HV.out.symm | exact (decide_eq_false (by omega)).symm), rfl⟩
theorem nhas_to {k : Int} {v : Bool} {n : Nat} (hv : (decide (0 ≤ k) && decide (k < (n : Int))) = v) (A : Option Addr) (c : Nat) (hn : n ≤ 9223372036854775807) (w : World) : Calls Tryz.prog 25 #[.slice A n c, .int .i64 k] w fun e w' => e = .returned (.bool v) ∧ w = w' := by
  subst hv
  by_cases h0 : 0 ≤ k
  · by_cases h1 : k < (n : Int)
    · have HV := Lib.hid (show (decide (0 ≤ k) && decide (k < (n : Int))) = true by rw [decide_eq_true h0, decide_eq_true h1]; rfl)
      go_enter Tryz.func25, Tryz.ntmps25
      go_wp2_with fail
      go_ret
      exact ⟨ret_bool (by first | exact HV.out.symm | exact (decide_eq_false (by omega)).symm), rfl⟩
    · have HV := Lib.hid (show (decide (0 ≤ k) && decide (k < (n : Int))) = false by rw [decide_eq_true h0, decide_eq_false h1]; rfl)
      have h2 : (n : Int) ≤ k := by omega
      go_enter Tryz.func25, Tryz.ntmps25
      go_wp2_with fail
      go_ret
      exact ⟨ret_bool (by first | exact HV.out.symm | exact (decide_eq_false (by omega)).symm), rfl⟩
  · have HV := Lib.hid (show (decide (0 ≤ k) && decide (k < (n : Int))) = false by rw [decide_eq_false h0]; rfl)
    have h2 : k < 0 := by omega
    go_enter Tryz.func25, Tryz.ntmps25
    go_wp2_with fail
    go_ret
    exact ⟨ret_bool (by first | exact HV.out.symm | exact (decide_eq_false (by omega)).symm), rfl⟩
theorem am_at {w : World} {A : Option Addr} {n : Nat} {l : List Am} (h : Rows 8 encAm w A n l) {j : Nat} (hj : j < n) : ∃ b off x, A = some ⟨b, off, none⟩ ∧ b < w.heap.size ∧ l[j]? = some x ∧ w.cell? ⟨b, off + j * 8 + 1, none⟩ = some (.int .i64 x.node) ∧ w.cell? ⟨b, off + j * 8 + 5, none⟩ = some (.int .i64 x.y) ∧ w.cell? ⟨b, off + j * 8 + 7, none⟩ = some (.int .i64 x.h) := by
  obtain ⟨b, off, x, e, hl, hx, hc⟩ := h.at_ hj
  exact ⟨b, off, x, e, hl, hx, hc 1 _ rfl, hc 5 _ rfl, hc 7 _ rfl⟩
set_option maxHeartbeats 2000000 in
set_option maxRecDepth 100000 in
theorem abot_to {l : List Am} {k v : Int} (hv : botI l k = v) (hnr : ∀ x ∈ l, x.near) {A : Option Addr} {n c : Nat} {w : World} (h : Rows 8 encAm w A n l) :
    Calls Tryz.prog 12 #[.slice A n c, .int .i64 k] w fun e w' => e = .returned (.int .i64 v) ∧ Below w.heap.size w w' := by
  have hl := h.len
  have hn := h.2.1
  by_cases hk : 0 ≤ k ∧ k < (n : Int)
  · obtain ⟨j, rfl⟩ : ∃ j : Nat, k = (j : Int) := ⟨k.toNat, by omega⟩
    have hj : j < n := by omega
    have hj2 : (j : Int) < (n : Int) := by omega
    obtain ⟨b, off, x, rfl, hb, hx, c1, c5, c7⟩ := am_at h hj
    have HB := Lib.hid (show (decide ((0 : Int) ≤ (j : Int)) && decide ((j : Int) < (n : Int))) = true by rw [decide_eq_true hk.1, decide_eq_true hk.2]; rfl)
    have hnx := hnr x (List.mem_of_getElem? hx)
    obtain ⟨⟨y0, y1⟩, h0, h1⟩ := hnx
    have HV := Lib.hid (show v = x.y + x.h by rw [← hv]; unfold botI; rw [amAt_nat, hx])
    have hw : IntKind.i64.wrap (x.y + x.h) = x.y + x.h := IntWalk.i64_in _ (by omega)
    obtain ⟨p0, p1, p2, p3, p4, p5, p6, p7⟩ := x
    simp only at c5 c7 hw HV y0 y1 h0 h1
    clear h hv hl hx hk hnr c1
    go_enter Tryz.func12, Tryz.ntmps12
    go_wp2_with fail
    refine (ahas_to HB.out _ _ (by omega) _).mono ?_
    rintro e w1 ⟨rfl, rfl⟩
    go_wp2_with fail
    go_region
    go_wp2_with fail
    go_ret
    exact ⟨ret_int HV.out.symm, by go_grown⟩
  · have HB := Lib.hid (show (decide ((0 : Int) ≤ k) && decide (k < (n : Int))) = false by
      rcases Decidable.not_and_iff_not_or_not.1 hk with h9 | h9
      · rw [decide_eq_false h9]; rfl
      · rw [decide_eq_false h9, Bool.and_false])
    have HV := Lib.hid (show v = 0 by rw [← hv]; unfold botI; rw [amAt_none (by rw [hl]; exact hk)])
    clear h hv hl hk hnr
    go_enter Tryz.func12, Tryz.ntmps12
    go_wp2_with fail
    refine (ahas_to HB.out _ _ (by omega) _).mono ?_
    rintro e w1 ⟨rfl, rfl⟩
    go_wp2_with fail
    go_ret
    exact ⟨ret_int HV.out.symm, by go_grown⟩
theorem am_in {k : Int} {n : Nat} (hk : 0 ≤ k ∧ k < (n : Int)) : (decide ((0 : Int) ≤ k) && decide (k < (n : Int))) = true := by rw [decide_eq_true hk.1, decide_eq_true hk.2]; rfl
theorem am_out {k : Int} {n : Nat} (hk : ¬ (0 ≤ k ∧ k < (n : Int))) : (decide ((0 : Int) ≤ k) && decide (k < (n : Int))) = false := by
  rcases Decidable.not_and_iff_not_or_not.1 hk with h9 | h9
  · rw [decide_eq_false h9]; rfl
  · rw [decide_eq_false h9, Bool.and_false]
set_option maxHeartbeats 2000000 in
set_option maxRecDepth 100000 in
theorem agap_to {l : List Am} {k v : Int} (hv : gapI l k = v) (hnr : ∀ x ∈ l, x.near) {A : Option Addr} {n c : Nat} {w : World} (h : Rows 8 encAm w A n l) :
    Calls Tryz.prog 13 #[.slice A n c, .int .i64 k] w fun e w' => e = .returned (.int .i64 v) ∧ Below w.heap.size w w' := by
  have hl := h.len
  have hn := h.2.1
  by_cases hk : 0 ≤ k ∧ k < (n : Int)
  · obtain ⟨j, rfl⟩ : ∃ j : Nat, k = (j : Int) := ⟨k.toNat, by omega⟩
    have hj : j < n := by omega
    have hj2 : (j : Int) < (n : Int) := by omega
    have HB := Lib.hid (am_in hk)
    have HR := Lib.hid h
    have HNR := Lib.hid hnr
    obtain ⟨b, off, x, rfl, hb, hx, c1, c5, c7⟩ := am_at h hj
    have hnx := hnr x (List.mem_of_getElem? hx)
    obtain ⟨⟨y0, y1⟩, h0, h1⟩ := hnx
    obtain ⟨u, hu⟩ : ∃ u, botI l ((j : Int) - 1) = u := ⟨_, rfl⟩
    have hub := bot_bd hnr ((j : Int) - 1)
    rw [hu] at hub
    obtain ⟨hu0, hu1⟩ := hub
    have HU := Lib.hid hu
    have HV := Lib.hid (show v = x.y - u by rw [← hv]; unfold gapI; rw [amAt_nat, hx, ← hu])
    have hw : IntKind.i64.wrap (x.y - u) = x.y - u := IntWalk.i64_in _ (by omega)
    obtain ⟨p0, p1, p2, p3, p4, p5, p6, p7⟩ := x
    simp only at c5 c7 hw HV y0 y1 h0 h1
    clear h hv hl hx hk hnr c1 c7 hu
    go_enter Tryz.func13, Tryz.ntmps13
    go_wp2_with fail
    refine (ahas_to HB.out _ _ (by omega) _).mono ?_
    rintro e w1 ⟨rfl, rfl⟩
    go_wp2_with fail
    have k5 : ∀ p : OnW w, p.w.cell? ⟨b, off + j * 8 + 5, none⟩ = some (.int .i64 p5) := OnW.cell c5
    have HC := fun p : OnW w => abot_to (c := c) HU.out HNR.out (HR.out.on p.h)
    refine wp_region_on (by kernel_rfl) (by kernel_rfl) ?_
    repeat (go_big_quiet_step (first | (go_at_call 12; with_reducible exact Calls.on_of (HC _))))
    refine wpQuiet_nil ?_
    intro w5 hw'
    obtain ⟨⟨w6, hOn⟩, hw''⟩ := hw'
    obtain rfl : w5 = w6 := hw''
    go_wp2_with fail
    go_ret
    exact ⟨ret_int HV.out.symm, hOn⟩
  · have HB := Lib.hid (am_out hk)
    have HV := Lib.hid (show v = 0 by rw [← hv]; unfold gapI; rw [amAt_none (by rw [hl]; exact hk)])
    clear h hv hl hk hnr
    go_enter Tryz.func13, Tryz.ntmps13
    go_wp2_with fail
    refine (ahas_to HB.out _ _ (by omega) _).mono ?_
    rintro e w1 ⟨rfl, rfl⟩
    go_wp2_with fail
    go_ret
    exact ⟨ret_int HV.out.symm, by go_grown⟩
set_option maxHeartbeats 2000000 in
set_option maxRecDepth 100000 in
theorem aoff_to {l : List Am} {i k v : Int} (hv : offI l i k = v) (hnr : ∀ x ∈ l, x.near) {A : Option Addr} {n c : Nat} {w : World} (h : Rows 8 encAm w A n l) :
    Calls Tryz.prog 14 #[.slice A n c, .int .i64 i, .int .i64 k] w fun e w' => e = .returned (.int .i64 v) ∧ Below w.heap.size w w' := by
  have hl := h.len
  have hn := h.2.1
  by_cases hi : 0 ≤ i ∧ i < (n : Int)
  · by_cases hk : 0 ≤ k ∧ k < (n : Int)
    · obtain ⟨j, rfl⟩ : ∃ j : Nat, k = (j : Int) := ⟨k.toNat, by omega⟩
      obtain ⟨m, rfl⟩ : ∃ m : Nat, i = (m : Int) := ⟨i.toNat, by omega⟩
      have hj : j < n := by omega
      have hj2 : (j : Int) < (n : Int) := by omega
      have hm : m < n := by omega
      have hm2 : (m : Int) < (n : Int) := by omega
      have HB := Lib.hid (am_in hi)
      have HB2 := Lib.hid (am_in hk)
      obtain ⟨b, off, x, rfl, hb, hx, c1, c5, c7⟩ := am_at h hj
      obtain ⟨b', off', y, e, hb', hy, d1, d5, d7⟩ := am_at h hm
      injection e with e
      injection e with e1 e2 e3
      subst e1 e2
      have hnx := hnr x (List.mem_of_getElem? hx)
      obtain ⟨⟨y0, y1⟩, h0, h1⟩ := hnx
      have hny := hnr y (List.mem_of_getElem? hy)
      obtain ⟨⟨z0, z1⟩, h2, h3⟩ := hny
      have HV := Lib.hid (show v = x.y - y.y by rw [← hv]; unfold offI; rw [amAt_nat, amAt_nat, hx, hy])
      have hw : IntKind.i64.wrap (x.y - y.y) = x.y - y.y := IntWalk.i64_in _ (by omega)
      obtain ⟨p0, p1, p2, p3, p4, p5, p6, p7⟩ := x
      obtain ⟨q0, q1, q2, q3, q4, q5, q6, q7⟩ := y
      simp only at c5 d5 hw HV y0 y1 z0 z1
      clear h hv hl hx hy hk hi hnr c1 d1 c7 d7 h0 h1 h2 h3
      go_enter Tryz.func14, Tryz.ntmps14
      go_wp2_with fail
      refine (ahas_to HB.out _ _ (by omega) _).mono ?_
      rintro e w1 ⟨rfl, rfl⟩
      go_wp2_with fail
      refine (ahas_to HB2.out _ _ (by omega) _).mono ?_
      rintro e w1 ⟨rfl, rfl⟩
      go_wp2_with fail
      go_region
      go_wp2_with fail
      go_ret
      exact ⟨ret_int HV.out.symm, by go_grown⟩
    · have HB := Lib.hid (am_in hi)
      have HB2 := Lib.hid (am_out hk)
      have HV := Lib.hid (show v = 0 by rw [← hv]; unfold offI; rw [amAt_none (k := k) (by rw [hl]; exact hk)]; cases amAt l i <;> rfl)
      clear h hv hl hk hi hnr
      go_enter Tryz.func14, Tryz.ntmps14
      go_wp2_with fail
      refine (ahas_to HB.out _ _ (by omega) _).mono ?_
      rintro e w1 ⟨rfl, rfl⟩
      go_wp2_with fail
      refine (ahas_to HB2.out _ _ (by omega) _).mono ?_
      rintro e w1 ⟨rfl, rfl⟩
      go_wp2_with fail
      go_ret
      exact ⟨ret_int HV.out.symm, by go_grown⟩
  · have HB := Lib.hid (am_out hi)
    have HV := Lib.hid (show v = 0 by rw [← hv]; unfold offI; rw [amAt_none (k := i) (by rw [hl]; exact hi)])
    clear h hv hl hi hnr
    go_enter Tryz.func14, Tryz.ntmps14
    go_wp2_with fail
    refine (ahas_to HB.out _ _ (by omega) _).mono ?_
    rintro e w1 ⟨rfl, rfl⟩
    go_wp2_with fail
    go_ret
    exact ⟨ret_int HV.out.symm, by go_grown⟩
set_option maxHeartbeats 2000000 in
set_option maxRecDepth 100000 in
theorem ahigh_to {l : List Am} {i k v : Int} (hv : highI l i k = v) (hnr : ∀ x ∈ l, x.near) (hkb : k ≤ 9223372036854775807) {A : Option Addr} {n c : Nat} {w : World} (h : Rows 8 encAm w A n l) :
    Calls Tryz.prog 15 #[.slice A n c, .int .i64 i, .int .i64 k] w fun e w' => e = .returned (.int .i64 v) ∧ Below w.heap.size w w' := by
  have hl := h.len
  have hn := h.2.1
  by_cases hki : k ≤ i
  · have HV := Lib.hid (show v = 0 by rw [← hv]; unfold highI; rw [if_pos hki])
    clear h hv hl hnr
    go_enter Tryz.func15, Tryz.ntmps15
    go_wp2_with fail
    go_ret
    exact ⟨ret_int HV.out.symm, by go_grown⟩
  have hki2 : i < k := by omega
  by_cases hi : 0 ≤ i ∧ i < (n : Int)
  · have hwk : IntKind.i64.wrap (k - 1) = k - 1 := IntWalk.i64_in _ (by omega)
    by_cases hk : 0 ≤ k - 1 ∧ k - 1 < (n : Int)
    · obtain ⟨m, rfl⟩ : ∃ m : Nat, i = (m : Int) := ⟨i.toNat, by omega⟩
      have hm : m < n := by omega
      have hm2 : (m : Int) < (n : Int) := by omega
      have HB := Lib.hid (am_in hi)
      have HB2 := Lib.hid (am_in hk)
      have HR := Lib.hid h
      have HNR := Lib.hid hnr
      obtain ⟨b, off, x, rfl, hb, hx, c1, c5, c7⟩ := am_at h hm
      obtain ⟨z, hz, _⟩ := amAt_some (l := l) hk.1 (by rw [hl]; exact hk.2)
      have hnx := hnr x (List.mem_of_getElem? hx)
      obtain ⟨⟨y0, y1⟩, h0, h1⟩ := hnx
      obtain ⟨u, hu⟩ : ∃ u, botI l (k - 1) = u := ⟨_, rfl⟩
      have hub := bot_bd hnr (k - 1)
      rw [hu] at hub
      obtain ⟨hu0, hu1⟩ := hub
      have HU := Lib.hid hu
      have HV := Lib.hid (show v = u - x.y by rw [← hv]; unfold highI; rw [if_neg hki, amAt_nat, hx, hz, ← hu])
      have hw : IntKind.i64.wrap (u - x.y) = u - x.y := IntWalk.i64_in _ (by omega)
      obtain ⟨p0, p1, p2, p3, p4, p5, p6, p7⟩ := x
      simp only at c5 hw HV y0 y1 h0 h1
      clear h hv hl hx hk hi hnr c1 c7 hu hz
      go_enter Tryz.func15, Tryz.ntmps15
      go_wp2_with fail
      refine (ahas_to HB.out _ _ (by omega) _).mono ?_
      rintro e w1 ⟨rfl, rfl⟩
      go_wp2_with fail
      refine (ahas_to HB2.out _ _ (by omega) _).mono ?_
      rintro e w1 ⟨rfl, rfl⟩
      go_wp2_with fail
      have k5 : ∀ p : OnW w, p.w.cell? ⟨b, off + m * 8 + 5, none⟩ = some (.int .i64 p5) := OnW.cell c5
      have HC := fun p : OnW w => abot_to (c := c) HU.out HNR.out (HR.out.on p.h)
      refine wp_region_on (by kernel_rfl) (by kernel_rfl) ?_
      repeat (go_big_quiet_step (first | (go_at_call 12; with_reducible exact Calls.on_of (HC _))))
      refine wpQuiet_nil ?_
      intro w5 hw'
      obtain ⟨⟨w6, hOn⟩, hw''⟩ := hw'
      obtain rfl : w5 = w6 := hw''
      go_wp2_with fail
      go_ret
      exact ⟨ret_int HV.out.symm, hOn⟩
    · have HB := Lib.hid (am_in hi)
      have HB2 := Lib.hid (am_out hk)
      have HV := Lib.hid (show v = 0 by rw [← hv]; unfold highI; rw [if_neg hki, amAt_none (k := k - 1) (by rw [hl]; exact hk)]; cases amAt l i <;> rfl)
      clear h hv hl hk hi hnr
      go_enter Tryz.func15, Tryz.ntmps15
      go_wp2_with fail
      refine (ahas_to HB.out _ _ (by omega) _).mono ?_
      rintro e w1 ⟨rfl, rfl⟩
      go_wp2_with fail
      refine (ahas_to HB2.out _ _ (by omega) _).mono ?_
      rintro e w1 ⟨rfl, rfl⟩
      go_wp2_with fail
      go_ret
      exact ⟨ret_int HV.out.symm, by go_grown⟩
  · have HB := Lib.hid (am_out hi)
    have HV := Lib.hid (show v = 0 by rw [← hv]; unfold highI; rw [if_neg hki, amAt_none (k := i) (by rw [hl]; exact hi)])
    clear h hv hl hi hnr
    go_enter Tryz.func15, Tryz.ntmps15
    go_wp2_with fail
    refine (ahas_to HB.out _ _ (by omega) _).mono ?_
    rintro e w1 ⟨rfl, rfl⟩
    go_wp2_with fail
    go_ret
    exact ⟨ret_int HV.out.symm, by go_grown⟩
theorem fl_at {w : World} {A : Option Addr} {n : Nat} {l : List Fl} (h : Rows 7 encFl w A n l) {i : Nat} (hi : i < n) :
    ∃ b off f, A = some ⟨b, off, none⟩ ∧ b < w.heap.size ∧ l[i]? = some f ∧ (w.cell? ⟨b, off + i * 7, none⟩ = some (.int .i64 f.node) ∧ w.cell? ⟨b, off + i * 7 + 1, none⟩ = some (.int .i64 f.side) ∧ w.cell? ⟨b, off + i * 7 + 2, none⟩ = some (.int .i64 f.anchor) ∧
      w.cell? ⟨b, off + i * 7 + 3, none⟩ = some (.int .i64 f.x) ∧ w.cell? ⟨b, off + i * 7 + 4, none⟩ = some (.int .i64 f.y) ∧ w.cell? ⟨b, off + i * 7 + 5, none⟩ = some (.int .i64 f.w) ∧ w.cell? ⟨b, off + i * 7 + 6, none⟩ = some (.int .i64 f.h)) := by
  obtain ⟨b, off, f, h1, h2, h3, h4⟩ := h.at_ hi
  exact ⟨b, off, f, h1, h2, h3, h4 0 _ rfl, h4 1 _ rfl, h4 2 _ rfl, h4 3 _ rfl, h4 4 _ rfl, h4 5 _ rfl, h4 6 _ rfl⟩
theorem Box.of7 {w : World} {n : Nat} {f : Fl} (h : Box w n (encFl f)) : (w.cell? ⟨n, 0, none⟩ = some (.int .i64 f.node) ∧ w.cell? ⟨n, 1, none⟩ = some (.int .i64 f.side) ∧ w.cell? ⟨n, 2, none⟩ = some (.int .i64 f.anchor) ∧ w.cell? ⟨n, 3, none⟩ = some (.int .i64 f.x) ∧
    w.cell? ⟨n, 4, none⟩ = some (.int .i64 f.y) ∧ w.cell? ⟨n, 5, none⟩ = some (.int .i64 f.w) ∧ w.cell? ⟨n, 6, none⟩ = some (.int .i64 f.h)) ∧ n < w.heap.size :=
  ⟨⟨h.2.2 0 _ rfl, h.2.2 1 _ rfl, h.2.2 2 _ rfl, h.2.2 3 _ rfl, h.2.2 4 _ rfl, h.2.2 5 _ rfl, h.2.2 6 _ rfl⟩, h.1⟩
theorem box7 (w : World) (f : Fl) (t : TypeId) : Box (w.alloc (.cells #[.int .i64 f.node, .int .i64 f.side, .int .i64 f.anchor, .int .i64 f.x, .int .i64 f.y, .int .i64 f.w, .int .i64 f.h] t)) w.heap.size (encFl f) := Box.new w (encFl f) t
set_option maxHeartbeats 1000000 in
set_option maxRecDepth 100000 in
theorem rmeets_to {f : Fl} {y high : Int} {v : Bool} (hv : meetsF f y high = v) (hn : f.near) (hy : NearY y) (hh : NearI high) (w : World) :
    Calls Tryz.prog 127 #[.agg #[.int .i64 f.node, .int .i64 f.side, .int .i64 f.anchor, .int .i64 f.x, .int .i64 f.y, .int .i64 f.w, .int .i64 f.h], .int .i64 y, .int .i64 high] w fun e w' => e = .returned (.bool v) ∧ Below w.heap.size w w' := by
  obtain ⟨f0, f1, f2, f3, f4, f5, f6⟩ := f
  obtain ⟨_, ⟨n1, n2⟩, _, ⟨n3, n4⟩⟩ := hn
  obtain ⟨y1, y2⟩ := hy
  obtain ⟨h1, h2⟩ := hh
  unfold farB at *
  simp only at n1 n2 n3 n4 ⊢
  have hw1 : IntKind.i64.wrap (y + max high 1) = y + max high 1 := IntWalk.i64_in _ (by omega)
  have hw2 : IntKind.i64.wrap (f4 + f6) = f4 + f6 := IntWalk.i64_in _ (by omega)
  unfold meetsF at hv
  simp only at hv
  by_cases a1 : 0 < f6
  · by_cases a2 : f4 < y + max high 1
    · by_cases a3 : y < f4 + f6
      · have HV := Lib.hid (show true = v by rw [← hv, decide_eq_true a1, decide_eq_true a2, decide_eq_true a3]; rfl)
        clear hv
        go_enter Tryz.func127, Tryz.ntmps127
        go_wp2_with fail
        go_ret
        exact ⟨ret_bool HV.out, by go_grown⟩
      · have HV := Lib.hid (show false = v by rw [← hv, decide_eq_false a3, Bool.and_false, Bool.and_false])
        have a4 : f4 + f6 ≤ y := by omega
        clear hv
        go_enter Tryz.func127, Tryz.ntmps127
        go_wp2_with fail
        go_ret
        exact ⟨ret_bool HV.out, by go_grown⟩
    · have HV := Lib.hid (show false = v by rw [← hv, decide_eq_false a2, Bool.false_and, Bool.and_false])
      have a4 : y + max high 1 ≤ f4 := by omega
      clear hv
      go_enter Tryz.func127, Tryz.ntmps127
      go_wp2_with fail
      go_ret
      exact ⟨ret_bool HV.out, by go_grown⟩
  · have HV := Lib.hid (show false = v by rw [← hv, decide_eq_false a1, Bool.false_and])
    have a4 : f6 ≤ 0 := by omega
    clear hv
    go_enter Tryz.func127, Tryz.ntmps127
    go_wp2_with fail
    go_ret
    exact ⟨ret_bool HV.out, by go_grown⟩
set_option maxHeartbeats 4000000 in
set_option maxRecDepth 100000 in
theorem rof10_to {l : List Fl} {y high a b p q : Int} (hv : bandL l y high (a, b) = (p, q)) (hn : ∀ f ∈ l, f.near) (hy : NearY y) (hh : NearI high) {A : Option Addr} {n c : Nat} {w : World} (h : Rows 7 encFl w A n l) :
    Calls Tryz.prog 94 #[.slice A n c, .int .i64 y, .int .i64 high, .agg #[.int .i64 a, .int .i64 b]] w fun e w' => e = .returned (.agg #[.int .i64 p, .int .i64 q]) ∧ Below w.heap.size w w' := by
  have HA := Lib.hid h
  have HL := Lib.hid h.1
  have hnb := h.2.1
  have HV := Lib.hid hv
  have HN := Lib.hid hn
  have HY := Lib.hid hy
  have HH := Lib.hid hh
  clear h hv hn hy hh
  obtain ⟨V, hV⟩ : ∃ V, (w.alloc (.cells #[.int .i64 a, .int .i64 b] 112)).alloc (.cells #[.int .i64 0, .int .i64 0] 112) = V := ⟨_, rfl⟩
  have HB0 := Lib.hid (show Below w.heap.size w V by rw [← hV]; go_grown)
  have HD0 := Lib.hid (show Box V w.heap.size [.int .i64 a, .int .i64 b] by rw [← hV]; exact (Box.new2 _ _ _ _).alloc _)
  have HR0 := Lib.hid (show Box V (w.heap.size + 1) [.int .i64 0, .int .i64 0] by rw [← hV]; exact Box.new2' _ _ _ _ _ (by simp))
  have HVV := Lib.hid hV
  clear hV
  go_enter Tryz.func94, Tryz.ntmps94
  go_wp2_with fail
  rw [HVV.out]
  go_loopw [9, 10] (fun i f wr => ∃ (k : Nat) (s t : Int), i = .int .i64 (k : Int) ∧ k ≤ n ∧ Hid ((l.take k).foldl (bandStep y high) (a, b) = (s, t)) ∧ Hid (Box wr w.heap.size [.int .i64 s, .int .i64 t]) ∧ Hid (Box wr (w.heap.size + 1) [.int .i64 0, .int .i64 0]) ∧ Hid (Below w.heap.size w wr)) (fun i _ _ => n - (intOf i).toNat)
  case atStart => exact ⟨0, a, b, rfl, Nat.zero_le _, Lib.hid rfl, HD0, HR0, HB0⟩
  case round =>
    obtain ⟨k, s, t, rfl, hkn, HF, HD, HR, HB⟩ := hrel
    by_cases hlt : k < n
    · have hlt2 : (k : Int) < (n : Int) := by omega
      obtain ⟨b1, o1, f, rfl, hb1, hf, q0, q1, q2, q3, q4, q5, q6⟩ := fl_at (HA.out.below HB.out) hlt
      have HST := Lib.hid (foldl_one (bandStep y high) (a, b) hf)
      have HFN := Lib.hid (HN.out f (List.mem_of_getElem? hf))
      obtain ⟨v, hv⟩ : ∃ v, meetsF f y high = v := ⟨_, rfl⟩
      have HM := Lib.hid hv
      have hxb := HFN.out.1
      have hwb := HFN.out.2.2.1
      have HBX := Lib.hid (box7 wr f 67)
      obtain ⟨f0, f1, f2, f3, f4, f5, f6⟩ := f
      simp only at q0 q1 q2 q3 q4 q5 q6 hxb hwb
      obtain ⟨x1, x2⟩ := hxb
      obtain ⟨w1', w2'⟩ := hwb
      unfold farB at x1 x2 w1' w2'
      have hwr : IntKind.i64.wrap (f3 + f5) = f3 + f5 := IntWalk.i64_in _ (by omega)
      have HG := Lib.hid (show Below w.heap.size w (wr.alloc (.cells #[.int .i64 f0, .int .i64 f1, .int .i64 f2, .int .i64 f3, .int .i64 f4, .int .i64 f5, .int .i64 f6] 67)) from HB.out.alloc (by have := HB.out.size; omega) _)
      have HDG := Lib.hid (HD.out.alloc (.cells #[.int .i64 f0, .int .i64 f1, .int .i64 f2, .int .i64 f3, .int .i64 f4, .int .i64 f5, .int .i64 f6] 67))
      have HRG := Lib.hid (HR.out.alloc (.cells #[.int .i64 f0, .int .i64 f1, .int .i64 f2, .int .i64 f3, .int .i64 f4, .int .i64 f5, .int .i64 f6] 67))
      clear hf hv
      go_wp2_with fail
      refine (rmeets_to HM.out HFN.out HY.out HH.out _).mono ?_
      rintro e w5 ⟨rfl, hb5⟩
      have HB5 := Lib.hid (below_then HG.out hb5)
      have HD5 := Lib.hid (HDG.out.below hb5)
      have HR5 := Lib.hid (HRG.out.below hb5)
      obtain ⟨⟨p0, p1, p2, p3, p4, p5, p6⟩, hBl⟩ := (HBX.out.below hb5).of7
      simp only at p0 p1 p2 p3 p4 p5 p6
      obtain ⟨d0, d1, d2, d3, d4⟩ := HD5.out.of2
      clear hb5 q0 q1 q2 q3 q4 q5 q6 HG HDG HRG HBX
      cases v with
      | false =>
        have HS := Lib.hid (show (l.take (k + 1)).foldl (bandStep y high) (a, b) = (s, t) by rw [HST.out, HF.out]; unfold bandStep; rw [HM.out, if_neg (by decide)])
        go_wp2_with fail
        go_roundw
        case rel => exact ⟨k + 1, s, t, by go_num, by omega, HS, HD5, HR5, HB5⟩
        case measure => simp [intOf] <;> omega
      | true =>
        by_cases hs : f1 = 1
        · have HS := Lib.hid (show (l.take (k + 1)).foldl (bandStep y high) (a, b) = (max s (f3 + f5), t) by rw [HST.out, HF.out]; unfold bandStep; rw [HM.out, if_pos rfl, if_pos hs])
          have hsb : (f1 == 1) = true := by simpa using hs
          have HD6 := Lib.hid (HD5.out.set 0 (.int .i64 (max s (f3 + f5))) (by simp))
          have HR6 := Lib.hid (HR5.out.set_other (m := w.heap.size) (by omega) 0 (.int .i64 (max s (f3 + f5))))
          have HB6 := Lib.hid (HB5.out.setCell (p := ⟨w.heap.size, 0, none⟩) (Nat.le_refl _) (.int .i64 (max s (f3 + f5))))
          clear hs
          go_wp2_with fail
          go_roundw
          case rel => exact ⟨k + 1, _, _, by go_num, by omega, HS, HD6, HR6, HB6⟩
          case measure => simp [intOf] <;> omega
        · have HS := Lib.hid (show (l.take (k + 1)).foldl (bandStep y high) (a, b) = (s, min t f3) by rw [HST.out, HF.out]; unfold bandStep; rw [HM.out, if_pos rfl, if_neg hs])
          have hsb : (f1 == 1) = false := by simpa using hs
          have HD6 := Lib.hid (HD5.out.set 1 (.int .i64 (min t f3)) (by simp))
          have HR6 := Lib.hid (HR5.out.set_other (m := w.heap.size) (by omega) 1 (.int .i64 (min t f3)))
          have HB6 := Lib.hid (HB5.out.setCell (p := ⟨w.heap.size, 1, none⟩) (Nat.le_refl _) (.int .i64 (min t f3)))
          clear hs
          go_wp2_with fail
          go_roundw
          case rel => exact ⟨k + 1, _, _, by go_num, by omega, HS, HD6, HR6, HB6⟩
          case measure => simp [intOf] <;> omega
    · have hge : (n : Int) ≤ (k : Int) := by omega
      have HE := Lib.hid (show (s, t) = (p, q) by rw [← HV.out, ← HF.out, List.take_of_length_le (by have := HL.out; omega)]; rfl)
      obtain ⟨d0, d1, d2, d3, d4⟩ := HD.out.of2
      obtain ⟨r0, r1, r2, r3, r4⟩ := HR.out.of2
      go_wp2_with fail
      have he := HE.out
      injection he with e1 e2
      subst e1 e2
      have hY := (HR.out.set 0 (.int .i64 s) (by simp)).set 1 (.int .i64 t) (by simp)
      have s0 := hY.2.2 0 _ rfl
      have s1 := hY.2.2 1 _ rfl
      exact bodyPost_ret (v := .agg #[.int .i64 s, .int .i64 t]) (by simp [results, Tryz.results94, go_sem, s0, s1]) rfl ⟨rfl, (HB.out.setCell (by simp) _).setCell (by simp) _⟩
theorem in_any (s : ByteArray) (k : Nat) (a b : Int) (w : World) (hk : k ≤ 1000000) (hs : s.size ≤ 1000000) : Calls Tryz.prog 55 #[.string s, .int .i64 k, .int .u8 a, .int .u8 b] w fun e w' => e = .returned (.bool (inB s k a b)) ∧ w = w' := by
  by_cases h1 : k < s.size
  · have hb := bAt_get s k h1
    have h2 : (k : Int) < (s.size : Int) := by omega
    by_cases h3 : a ≤ bAt s k
    all_goals
      go_enter Tryz.func55, Tryz.ntmps55
      go_wp2
      go_ret
      exact ⟨ret_bool (by rw [inB_at h1]; first | (simp [h3]; done) | (rw [decide_eq_false (show ¬ a ≤ bAt s k by omega)]; rfl)), rfl⟩
  · have h2 : (s.size : Int) ≤ (k : Int) := by omega
    go_enter Tryz.func55, Tryz.ntmps55
    go_wp2
    go_ret
    exact ⟨ret_bool (inB_ge h1 a b).symm, rfl⟩
theorem in_at {s : ByteArray} {x : Int} {k : Nat} (hx : x = (k : Int)) (a b : Int) (w : World) (hk : k ≤ 1000000) (hs : s.size ≤ 1000000) : Calls Tryz.prog 55 #[.string s, .int .i64 x, .int .u8 a, .int .u8 b] w fun e w' => e = .returned (.bool (inB s k a b)) ∧ w = w' := by
  subst hx; exact in_any s k a b w hk hs
theorem more_any (s : ByteArray) (k n : Nat) (w : World) (hk : k ≤ 900000) (hn : n ≤ 3) (hs : s.size ≤ 1000000) : Calls Tryz.prog 86 #[.string s, .int .i64 k, .int .i64 n] w fun e w' => e = .returned (.bool (moreB s k n)) ∧ w = w' := by
  go_enter Tryz.func86, Tryz.ntmps86
  go_wp2_with fail
  go_loopw [7] (fun i wr => ∃ j : Nat, j ≤ n ∧ i = .int .i64 j ∧ moreB s k j = true ∧ wr = w) (fun i _ => n - (intOf i).toNat)
  case atStart => exact ⟨0, by omega, rfl, rfl, rfl⟩
  case round =>
    obtain ⟨j, hj, rfl, hm, rfl⟩ := hrel
    have HM := Lib.hid hm
    clear hm
    by_cases hlt : j < n
    · obtain ⟨v, hv⟩ : ∃ v, inB s (k + j) 128 191 = v := ⟨_, rfl⟩
      cases v
      · have HN := Lib.hid (moreB_no (i := k) hlt hv)
        go_wp2_with (go_at_call 55; refine (in_at (k := k + j) (by omega) _ _ _ (by omega) hs).mono ?_; rintro e w' ⟨rfl, rfl⟩)
        go_ret
        exact ⟨ret_bool HN.out.symm, rfl⟩
      · have HN := Lib.hid (show moreB s k (j + 1) = true by show (moreB s k j && inB s (k + j) 128 191) = true; rw [HM.out, hv]; rfl)
        go_wp2_with (go_at_call 55; refine (in_at (k := k + j) (by omega) _ _ _ (by omega) hs).mono ?_; rintro e w' ⟨rfl, rfl⟩)
        go_roundw
        case rel => exact ⟨j + 1, by omega, by go_num, HN.out, by first | rfl | trivial⟩
        case measure => simp [intOf]; omega
    · obtain rfl : j = n := by omega
      go_wp2_with fail
      go_ret
      exact ⟨ret_bool HM.out.symm, rfl⟩
theorem more_at {s : ByteArray} {x y : Int} {k n : Nat} (hx : x = (k : Int)) (hy : y = (n : Int)) (w : World) (hk : k ≤ 900000) (hn : n ≤ 3) (hs : s.size ≤ 1000000) : Calls Tryz.prog 86 #[.string s, .int .i64 x, .int .i64 y] w fun e w' => e = .returned (.bool (moreB s k n)) ∧ w = w' := by
  subst hx hy; exact more_any s k n w hk hn hs
theorem in_k1 (s : ByteArray) (k : Nat) (a b : Int) (w : World) (hk : k ≤ 800000) (hs : s.size ≤ 1000000) : Calls Tryz.prog 55 #[.string s, .int .i64 ((k : Int) + 1), .int .u8 a, .int .u8 b] w fun e w' => e = .returned (.bool (inB s (k + 1) a b)) ∧ w = w' := in_at (by omega) a b w (by omega) hs
theorem more_k1_1 (s : ByteArray) (k : Nat) (w : World) (hk : k ≤ 800000) (hs : s.size ≤ 1000000) : Calls Tryz.prog 86 #[.string s, .int .i64 ((k : Int) + 1), .int .i64 1] w fun e w' => e = .returned (.bool (moreB s (k + 1) 1)) ∧ w = w' := more_at (by omega) (by omega) w (by omega) (by omega) hs
theorem more_k1_2 (s : ByteArray) (k : Nat) (w : World) (hk : k ≤ 800000) (hs : s.size ≤ 1000000) : Calls Tryz.prog 86 #[.string s, .int .i64 ((k : Int) + 1), .int .i64 2] w fun e w' => e = .returned (.bool (moreB s (k + 1) 2)) ∧ w = w' := more_at (by omega) (by omega) w (by omega) (by omega) hs
theorem more_k1_3 (s : ByteArray) (k : Nat) (w : World) (hk : k ≤ 800000) (hs : s.size ≤ 1000000) : Calls Tryz.prog 86 #[.string s, .int .i64 ((k : Int) + 1), .int .i64 3] w fun e w' => e = .returned (.bool (moreB s (k + 1) 3)) ∧ w = w' := more_at (by omega) (by omega) w (by omega) (by omega) hs
theorem more_k2_1 (s : ByteArray) (k : Nat) (w : World) (hk : k ≤ 800000) (hs : s.size ≤ 1000000) : Calls Tryz.prog 86 #[.string s, .int .i64 ((k : Int) + 2), .int .i64 1] w fun e w' => e = .returned (.bool (moreB s (k + 2) 1)) ∧ w = w' := more_at (by omega) (by omega) w (by omega) (by omega) hs
theorem more_k2_2 (s : ByteArray) (k : Nat) (w : World) (hk : k ≤ 800000) (hs : s.size ≤ 1000000) : Calls Tryz.prog 86 #[.string s, .int .i64 ((k : Int) + 2), .int .i64 2] w fun e w' => e = .returned (.bool (moreB s (k + 2) 2)) ∧ w = w' := more_at (by omega) (by omega) w (by omega) (by omega) hs
theorem more_k2_3 (s : ByteArray) (k : Nat) (w : World) (hk : k ≤ 800000) (hs : s.size ≤ 1000000) : Calls Tryz.prog 86 #[.string s, .int .i64 ((k : Int) + 2), .int .i64 3] w fun e w' => e = .returned (.bool (moreB s (k + 2) 3)) ∧ w = w' := more_at (by omega) (by omega) w (by omega) (by omega) hs
def encT (t : Tok) : List Value := [.int .i64 t.kind, .int .i32 t.sign, .int .i64 t.n, .int .i64 t.at_]
theorem encT_len (t : Tok) : (encT t).length = 4 := rfl
theorem toks_at {w : World} {A : Option Addr} {n : Nat} {zs : List Tok} (h : Rows 4 encT w A n zs) {i : Nat} (hi : i < n) :
    ∃ b off x y u v, A = some ⟨b, off, none⟩ ∧ b < w.heap.size ∧ zs[i]? = some ⟨x, y, u, v⟩ ∧ w.cell? ⟨b, off + i * 4, none⟩ = some (.int .i64 x) ∧ w.cell? ⟨b, off + i * 4 + 1, none⟩ = some (.int .i32 y) ∧ w.cell? ⟨b, off + i * 4 + 2, none⟩ = some (.int .i64 u) ∧ w.cell? ⟨b, off + i * 4 + 3, none⟩ = some (.int .i64 v) := by
  obtain ⟨b, off, ⟨x, y, u, v⟩, h1, h2, h3, h4⟩ := h.at_ hi
  exact ⟨b, off, x, y, u, v, h1, h2, h3, h4 0 _ rfl, h4 1 _ rfl, h4 2 _ rfl, h4 3 _ rfl⟩
theorem tok_info : (Tryz.prog.info? 75).map (fun i => (i.zero, i.size, i.bytes)) = some (some (.agg #[.int .i64 0, .int .i32 0, .int .i64 0, .int .i64 0]), 4, 32) := by kernel_rfl
def LexPost (w : World) (s : ByteArray) (e : Ending) (w' : World) : Prop :=
  (∃ toks A n c, lexB s = (some toks, 0) ∧ e = .returned (.tuple #[.slice A n c, .int .i64 0, .int .i64 0]) ∧ Rows 4 encT w' A n toks ∧ (n ≤ s.size ∧ n ≤ c ∧ ∀ p, A = some p → p.block < w'.heap.size) ∧ Below w.heap.size w w') ∨
  (∃ k : Nat, lexB s = (none, k) ∧ e = .returned (.tuple #[.slice none 0 0, .int .i64 (k : Int), .int .i64 1]) ∧ k < s.size ∧ Below w.heap.size w w')
theorem owns_cap {w : World} {base : Nat} {e : TypeId} {size : Nat} {A : Option Addr} {n c : Nat} {xs : List Value} (h : w.ownsRow base e size (.slice A n c) n xs) : n ≤ c := by
  rcases h.2 with ⟨h1, h2⟩ | ⟨g, cap, cur, h1, _, _, h2, _⟩
  · omega
  · injection h1 with _ _ h1; omega
theorem owns_at {w : World} {base : Nat} {e : TypeId} {size : Nat} {A : Option Addr} {n c : Nat} {xs : List Value} (h : w.ownsRow base e size (.slice A n c) n xs) : ∀ p, A = some p → p.block < w.heap.size := by
  intro p hp
  subst hp
  rcases h.2 with ⟨h1, h2⟩ | ⟨g, cap, cur, h1, _, h2, _⟩
  · injection h1 with h1; cases h1
  · injection h1 with h1; injection h1 with h1; subst h1
    exact (Array.getElem?_eq_some_iff.1 h2).1
theorem tok_cells (w : World) (a b c d : Int) (t : TypeId) (n : Nat) (hn : n = w.heap.size) : Cells (w.alloc (.cells #[.int .i64 a, .int .i32 b, .int .i64 c, .int .i64 d] t)) (some ⟨n, 0, none⟩) 1 4 [.int .i64 a, .int .i32 b, .int .i64 c, .int .i64 d] := by
  subst hn
  refine ⟨rfl, by decide, fun _ => ⟨_, _, rfl, by simp, fun j u hu => ?_⟩⟩
  rw [Nat.zero_add]; exact (Box.new w [.int .i64 a, .int .i32 b, .int .i64 c, .int .i64 d] t).2.2 j u hu
theorem tok_cell4 (a b c d : Int) : ∀ u ∈ ([.int .i64 a, .int .i32 b, .int .i64 c, .int .i64 d] : List Value), u.oneCell' = true := by
  intro u hu; simp at hu; rcases hu with rfl | rfl | rfl | rfl <;> rfl
theorem toks_snoc (out : List Tok) (t : Tok) : (out ++ [t]).flatMap encT = out.flatMap encT ++ encT t := by rw [List.flatMap_append]; simp
theorem wrap_far {a : Int} (h : -4611686018427387904 ≤ a ∧ a ≤ 4611686018427387904) : IntKind.i64.wrap a = a := IntWalk.i64_in _ (by omega)
theorem penb_open {k : Nat} {y m : Int} (h : PenB k (y, m)) (hk : k ≤ 1000) : (-2253051613689872384 ≤ y ∧ y ≤ 2253051613689872384) ∧ (-1125899906842624 ≤ m ∧ m ≤ 1125899906842624) := by
  obtain ⟨⟨h1, h2⟩, h3⟩ := h
  unfold NearI farB at h3
  simp only at h1 h2 h3
  omega
set_option maxHeartbeats 2000000 in
theorem renter_to {y m a d y' m' : Int} (hv : enterP (y, m) a d = (y', m')) {k : Nat} (hp : PenB k (y, m)) (hk : k ≤ 1000) (ha : NearI a) (hd : NearI d) (w : World) :
    Calls Tryz.prog 63 #[.agg #[.int .i64 y, .int .i64 m], .int .i64 a, .int .i64 d] w fun e w' => e = .returned (.agg #[.int .i64 y', .int .i64 m']) ∧ Below w.heap.size w w' := by
  obtain ⟨⟨y1, y2⟩, ⟨m1, m2⟩⟩ := penb_open hp hk
  obtain ⟨a1, a2⟩ := ha
  obtain ⟨d1, d2⟩ := hd
  unfold farB at a1 a2 d1 d2
  have HV := Lib.hid hv
  clear hv hp hk
  have hw1 : IntKind.i64.wrap (y + m) = y + m := wrap_far (by omega)
  have hw2 : IntKind.i64.wrap (y + m + d) = y + m + d := wrap_far (by omega)
  have hw3 : IntKind.i64.wrap (y + a) = y + a := wrap_far (by omega)
  have hw4 : IntKind.i64.wrap (y + a + d) = y + a + d := wrap_far (by omega)
  by_cases c1 : m < a
  · by_cases c2 : 0 < d
    · have HE := Lib.hid (show (y + a + d, 0) = (y', m') by rw [← HV.out]; unfold enterP raiseI; rw [if_pos c2, if_pos c1])
      go_enter Tryz.func63, Tryz.ntmps63
      go_wp2_with fail
      have he := HE.out
      injection he with e1 e2
      subst e1 e2
      exact bodyPost_ret (v := .agg #[.int .i64 (y + a + d), .int .i64 (0)]) (by simp [results, Tryz.results63, go_sem]) rfl ⟨rfl, by go_grown⟩
    · have c2n := Int.not_lt.1 c2
      have HE := Lib.hid (show (y, a) = (y', m') by rw [← HV.out]; unfold enterP raiseI; rw [if_neg c2, if_pos c1])
      go_enter Tryz.func63, Tryz.ntmps63
      go_wp2_with fail
      have he := HE.out
      injection he with e1 e2
      subst e1 e2
      exact bodyPost_ret (v := .agg #[.int .i64 (y), .int .i64 (a)]) (by simp [results, Tryz.results63, go_sem]) rfl ⟨rfl, by go_grown⟩
  · have c1n := Int.not_lt.1 c1
    by_cases c2 : 0 < d
    · have HE := Lib.hid (show (y + m + d, 0) = (y', m') by rw [← HV.out]; unfold enterP raiseI; rw [if_pos c2, if_neg c1])
      go_enter Tryz.func63, Tryz.ntmps63
      go_wp2_with fail
      have he := HE.out
      injection he with e1 e2
      subst e1 e2
      exact bodyPost_ret (v := .agg #[.int .i64 (y + m + d), .int .i64 (0)]) (by simp [results, Tryz.results63, go_sem]) rfl ⟨rfl, by go_grown⟩
    · have c2n := Int.not_lt.1 c2
      have HE := Lib.hid (show (y, m) = (y', m') by rw [← HV.out]; unfold enterP raiseI; rw [if_neg c2, if_neg c1])
      go_enter Tryz.func63, Tryz.ntmps63
      go_wp2_with fail
      have he := HE.out
      injection he with e1 e2
      subst e1 e2
      exact bodyPost_ret (v := .agg #[.int .i64 (y), .int .i64 (m)]) (by simp [results, Tryz.results63, go_sem]) rfl ⟨rfl, by go_grown⟩
set_option maxHeartbeats 2000000 in
theorem rleave_to {y m a d y' m' : Int} (hv : leaveP (y, m) a d = (y', m')) {k : Nat} (hp : PenB k (y, m)) (hk : k ≤ 1000) (ha : NearI a) (hd : NearI d) (w : World) :
    Calls Tryz.prog 64 #[.agg #[.int .i64 y, .int .i64 m], .int .i64 a, .int .i64 d] w fun e w' => e = .returned (.agg #[.int .i64 y', .int .i64 m']) ∧ Below w.heap.size w w' := by
  obtain ⟨⟨y1, y2⟩, ⟨m1, m2⟩⟩ := penb_open hp hk
  obtain ⟨a1, a2⟩ := ha
  obtain ⟨d1, d2⟩ := hd
  unfold farB at a1 a2 d1 d2
  have HV := Lib.hid hv
  clear hv hp hk
  have hw1 : IntKind.i64.wrap (y + m) = y + m := wrap_far (by omega)
  have hw2 : IntKind.i64.wrap (y + m + d) = y + m + d := wrap_far (by omega)
  have hw3 : IntKind.i64.wrap (y + a) = y + a := wrap_far (by omega)
  have hw4 : IntKind.i64.wrap (y + a + d) = y + a + d := wrap_far (by omega)
  by_cases c1 : 0 < d
  · by_cases c2 : 0 < a
    · have HE := Lib.hid (show (y + m + d, a) = (y', m') by rw [← HV.out]; unfold leaveP raiseI; rw [if_pos c1, if_pos c2])
      go_enter Tryz.func64, Tryz.ntmps64
      go_wp2_with fail
      have he := HE.out
      injection he with e1 e2
      subst e1 e2
      exact bodyPost_ret (v := .agg #[.int .i64 (y + m + d), .int .i64 (a)]) (by simp [results, Tryz.results64, go_sem]) rfl ⟨rfl, by go_grown⟩
    · have c2n := Int.not_lt.1 c2
      have HE := Lib.hid (show (y + m + d, 0) = (y', m') by rw [← HV.out]; unfold leaveP raiseI; rw [if_pos c1, if_neg c2])
      go_enter Tryz.func64, Tryz.ntmps64
      go_wp2_with fail
      have he := HE.out
      injection he with e1 e2
      subst e1 e2
      exact bodyPost_ret (v := .agg #[.int .i64 (y + m + d), .int .i64 (0)]) (by simp [results, Tryz.results64, go_sem]) rfl ⟨rfl, by go_grown⟩
  · have c1n := Int.not_lt.1 c1
    by_cases c2 : m < a
    · have HE := Lib.hid (show (y, a) = (y', m') by rw [← HV.out]; unfold leaveP raiseI; rw [if_neg c1, if_pos c2])
      go_enter Tryz.func64, Tryz.ntmps64
      go_wp2_with fail
      have he := HE.out
      injection he with e1 e2
      subst e1 e2
      exact bodyPost_ret (v := .agg #[.int .i64 (y), .int .i64 (a)]) (by simp [results, Tryz.results64, go_sem]) rfl ⟨rfl, by go_grown⟩
    · have c2n := Int.not_lt.1 c2
      have HE := Lib.hid (show (y, m) = (y', m') by rw [← HV.out]; unfold leaveP raiseI; rw [if_neg c1, if_neg c2])
      go_enter Tryz.func64, Tryz.ntmps64
      go_wp2_with fail
      have he := HE.out
      injection he with e1 e2
      subst e1 e2
      exact bodyPost_ret (v := .agg #[.int .i64 (y), .int .i64 (m)]) (by simp [results, Tryz.results64, go_sem]) rfl ⟨rfl, by go_grown⟩
set_option maxHeartbeats 2000000 in
theorem rclear_to {y m a y' m' : Int} (hv : clearP (y, m) a = (y', m')) {k : Nat} (hp : PenB k (y, m)) (hk : k ≤ 1000) (ha : NearI a) (w : World) :
    Calls Tryz.prog 62 #[.agg #[.int .i64 y, .int .i64 m], .int .i64 a] w fun e w' => e = .returned (.agg #[.int .i64 y', .int .i64 m']) ∧ Below w.heap.size w w' := by
  obtain ⟨⟨y1, y2⟩, ⟨m1, m2⟩⟩ := penb_open hp hk
  obtain ⟨a1, a2⟩ := ha
  unfold farB at a1 a2
  have HV := Lib.hid hv
  clear hv hp hk
  have hw1 : IntKind.i64.wrap (y + m) = y + m := wrap_far (by omega)
  by_cases c1 : y + m < a
  · have HE := Lib.hid (show (a, 0) = (y', m') by rw [← HV.out]; unfold clearP; rw [if_pos c1])
    go_enter Tryz.func62, Tryz.ntmps62
    go_wp2_with fail
    have he := HE.out
    injection he with e1 e2
    subst e1 e2
    exact bodyPost_ret (v := .agg #[.int .i64 (a), .int .i64 (0)]) (by simp [results, Tryz.results62, go_sem]) rfl ⟨rfl, by go_grown⟩
  · have c1n := Int.not_lt.1 c1
    have HE := Lib.hid (show (y, m) = (y', m') by rw [← HV.out]; unfold clearP; rw [if_neg c1])
    go_enter Tryz.func62, Tryz.ntmps62
    go_wp2_with fail
    have he := HE.out
    injection he with e1 e2
    subst e1 e2
    exact bodyPost_ret (v := .agg #[.int .i64 (y), .int .i64 (m)]) (by simp [results, Tryz.results62, go_sem]) rfl ⟨rfl, by go_grown⟩
theorem owns_set13 {w : World} {base : Nat} {e : TypeId} {size : Nat} {v : Value} {n : Nat} {xs : List Value} (h : w.ownsRow base e size v n xs) {m : Nat} (hm : m < base) (j : Nat) (u : Value) : (w.setCell ⟨m, j, none⟩ u).ownsRow base e size v n xs := by
  refine ⟨h.1, ?_⟩
  rcases h.2 with h2 | ⟨g, cap, cur, h1, h2, h3, h4⟩
  · exact .inl h2
  · exact .inr ⟨g, cap, cur, h1, h2, (Below.heap_setCell _ _ _ _ (fun e => by simp at e; omega)).trans h3, h4⟩
theorem owns_mono13 {w : World} {base b2 : Nat} {e : TypeId} {size : Nat} {v : Value} {n : Nat} {xs : List Value} (h : w.ownsRow base e size v n xs) (hb : b2 ≤ base) : w.ownsRow b2 e size v n xs := by
  refine ⟨h.1, ?_⟩
  rcases h.2 with h2 | ⟨g, cap, cur, h1, h2, h3⟩
  · exact .inl h2
  · exact .inr ⟨g, cap, cur, h1, by omega, h3⟩
def encS12 (s : Sty) : List Value := [.int .i64 s.top, .int .i64 s.bottom, .int .i64 s.padTop, .int .i64 s.padBottom, .int .i64 s.inset, .int .i64 s.orphans, .int .i64 s.widows, .int .i64 s.head, .int .i64 s.before, .int .i64 s.after, .int .i64 s.inside, .int .i64 s.clear]
structure NdM where
  kind : Int
  size : Int
  sty : Sty
  line : Int
  space : Int
  A : Option Addr
  n : Nat
  c : Nat
  side : Int
  w : Int
  h : Int
def encM (m : NdM) : List Value := [.int .i64 m.kind, .int .i64 m.size, .int .i64 m.sty.top, .int .i64 m.sty.bottom, .int .i64 m.sty.padTop, .int .i64 m.sty.padBottom, .int .i64 m.sty.inset, .int .i64 m.sty.orphans, .int .i64 m.sty.widows, .int .i64 m.sty.head, .int .i64 m.sty.before, .int .i64 m.sty.after, .int .i64 m.sty.inside, .int .i64 m.sty.clear,
  .int .i64 m.line, .int .i64 m.space, .slice m.A m.n m.c, .int .i64 m.side, .int .i64 m.w, .int .i64 m.h]
theorem encM_len (m : NdM) : (encM m).length = 20 := rfl
theorem encM_one (m : NdM) : ∀ u ∈ encM m, u.oneCell' = true := by
  intro u hu
  simp only [encM, List.mem_cons, List.not_mem_nil, or_false] at hu
  rcases hu with h | h | h | h | h | h | h | h | h | h | h | h | h | h | h | h | h | h | h | h <;> subst h <;> rfl
theorem encMs_one (zs : List NdM) : ∀ u ∈ zs.flatMap encM, u.oneCell' = true := by
  intro u hu
  obtain ⟨m, _, hm⟩ := List.mem_flatMap.1 hu
  exact encM_one m u hm
def Holds (base : Nat) (w : World) (m : NdM) (x : Nd) : Prop := (x.kind = m.kind ∧ x.size = m.size ∧ x.sty = m.sty ∧ x.line = m.line ∧ x.space = m.space ∧ x.side = m.side ∧ x.w = m.w ∧ x.h = m.h) ∧ w.ownsRow base 3 1 (.slice m.A m.n m.c) m.n (x.words.map (Value.int .i64))
def Holds2 (base : Nat) (w : World) (zs : List NdM) (l : List Nd) : Prop := zs.length = l.length ∧ ∀ (i : Nat) (m : NdM) (x : Nd), zs[i]? = some m → l[i]? = some x → Holds base w m x
theorem Holds2.below {base : Nat} {w w' : World} {zs : List NdM} {l : List Nd} (h : Holds2 base w zs l) (hb : Below w.heap.size w w') : Holds2 base w' zs l :=
  ⟨h.1, fun i m x h1 h2 => ⟨(h.2 i m x h1 h2).1, owns_below (h.2 i m x h1 h2).2 hb⟩⟩
theorem Holds2.nil (base : Nat) (w : World) : Holds2 base w [] [] := ⟨rfl, fun i m x h => by simp at h⟩
theorem Holds2.append {base : Nat} {w : World} {zs zs' : List NdM} {l l' : List Nd} (h : Holds2 base w zs l) (h' : Holds2 base w zs' l') : Holds2 base w (zs ++ zs') (l ++ l') := by
  refine ⟨by rw [List.length_append, List.length_append, h.1, h'.1], fun i m x h1 h2 => ?_⟩
  by_cases hi : i < zs.length
  · rw [List.getElem?_append_left hi] at h1
    rw [List.getElem?_append_left (by rw [← h.1]; exact hi)] at h2
    exact h.2 i m x h1 h2
  · rw [List.getElem?_append_right (by omega)] at h1
    rw [List.getElem?_append_right (by rw [← h.1]; omega), ← h.1] at h2
    exact h'.2 _ m x h1 h2
theorem Holds2.one {base : Nat} {w : World} {m : NdM} {x : Nd} (h : Holds base w m x) : Holds2 base w [m] [x] := by
  refine ⟨rfl, fun i m' x' h1 h2 => ?_⟩
  cases i with
  | zero => simp at h1 h2; subst h1 h2; exact h
  | succ i => simp at h1
def Far (base : Nat) (A : Option Addr) : Prop := ∀ p, A = some p → base ≤ p.block
theorem Far.nil (base : Nat) : Far base .none := fun p h => by cases h
theorem Far.at_ {base g : Nat} (h : base ≤ g) : Far base (some ⟨g, 0, .none⟩) := fun p e => by cases e; exact h
theorem Far.up {base base' : Nat} {A : Option Addr} (h : Far base A) (hb : base' ≤ base) : Far base' A := fun p e => Nat.le_trans hb (h p e)
theorem Far.owns {w : World} {base : Nat} {e : TypeId} {size : Nat} {A : Option Addr} {n c : Nat} {xs : List Value} (h : w.ownsRow base e size (.slice A n c) n xs) : Far base A := fun p hp => owns_block h p.block (by subst hp; rfl)
def Same (base : Nat) (w w' : World) : Prop := w.heap.size ≤ w'.heap.size ∧ ∀ k, base ≤ k → k < w.heap.size → w'.heap[k]? = w.heap[k]?
theorem Same.refl (base : Nat) (w : World) : Same base w w := ⟨Nat.le_refl _, fun _ _ _ => rfl⟩
theorem Same.below {base : Nat} {w w' : World} (h : Below w.heap.size w w') : Same base w w' := ⟨h.size, fun k _ hk => h.block k hk⟩
theorem Same.set {base : Nat} (w : World) {m : Nat} (hm : m < base) (j : Nat) (v : Value) : Same base w (w.setCell ⟨m, j, .none⟩ v) :=
  ⟨by simp, fun k hk _ => Below.heap_setCell _ _ _ _ (fun e => by simp at e; omega)⟩
theorem Same.trans {base : Nat} {a b c : World} (h : Same base a b) (k : Same base b c) : Same base a c := ⟨Nat.le_trans h.1 k.1, fun i hi hl => (k.2 i hi (Nat.lt_of_lt_of_le hl h.1)).trans (h.2 i hi hl)⟩
theorem Rows.same {α : Type} {k : Nat} {enc : α → List Value} {w w' : World} {A : Option Addr} {n : Nat} {zs : List α} {base : Nat} (h : Rows k enc w A n zs) (hA : Far base A) (hs : Same base w w') : Rows k enc w' A n zs :=
  ⟨h.1, h.2.1, fun hn => by
    obtain ⟨b, off, e, hl, hc⟩ := h.2.2 hn
    have hb := hA _ e
    exact ⟨b, off, e, Nat.lt_of_lt_of_le hl hs.1, fun i x hx j v hv => (World.cell?_of_block (w := w) (a := ⟨b, _, .none⟩) (hs.2 b hb hl)).trans (hc i x hx j v hv)⟩⟩
theorem owns_same {w w' : World} {base : Nat} {e : TypeId} {size : Nat} {v : Value} {n : Nat} {xs : List Value} (h : w.ownsRow base e size v n xs) (hs : Same base w w') : w'.ownsRow base e size v n xs := by
  refine ⟨h.1, ?_⟩
  rcases h.2 with h2 | ⟨g, cap, cur, h1, h2, h3, h4⟩
  · exact .inl h2
  · exact .inr ⟨g, cap, cur, h1, h2, (hs.2 g h2 (Array.getElem?_eq_some_iff.1 h3).1).trans h3, h4⟩
theorem owns_up {w : World} {base base' : Nat} {e : TypeId} {size : Nat} {v : Value} {n : Nat} {xs : List Value} (h : w.ownsRow base e size v n xs) (hb : base' ≤ base) : w.ownsRow base' e size v n xs := by
  refine ⟨h.1, ?_⟩
  rcases h.2 with h2 | ⟨g, cap, cur, h1, h2, h3⟩
  · exact .inl h2
  · exact .inr ⟨g, cap, cur, h1, by omega, h3⟩
theorem owns_grown {w w' : World} {base base' : Nat} {e e' : TypeId} {size size' : Nat} {v v' : Value} {n n' : Nat} {xs xs' : List Value} (h : w.ownsRow base e size v n xs) (h' : w.ownsRow base' e' size' v' n' xs') (hne : e ≠ e') (hg : w.grownBy w' v'.ownBlock) : w'.ownsRow base e size v n xs := by
  refine ⟨h.1, ?_⟩
  rcases h.2 with h2 | ⟨g, cap, cur, h1, h2, h3, h4⟩
  · exact .inl h2
  · refine .inr ⟨g, cap, cur, h1, h2, (hg.block g (Array.getElem?_eq_some_iff.1 h3).1 (fun q => ?_)).trans h3, h4⟩
    rcases h'.2 with ⟨k, _⟩ | ⟨g', cap', cur', k, _, k3, _⟩
    · rw [k] at q; cases q
    · rw [k] at q
      injection q with q
      rw [show g = g' from q, k3] at h3
      injection h3 with h3
      injection h3 with _ h3 _
      exact hne h3.symm
theorem Holds2.grown {base base' : Nat} {w w' : World} {zs : List NdM} {l : List Nd} {e' : TypeId} {size' n' : Nat} {v' : Value} {xs' : List Value} (h : Holds2 base w zs l) (h' : w.ownsRow base' e' size' v' n' xs') (hne : 3 ≠ e') (hg : w.grownBy w' v'.ownBlock) : Holds2 base w' zs l :=
  ⟨h.1, fun i m x h1 h2 => ⟨(h.2 i m x h1 h2).1, owns_grown (h.2 i m x h1 h2).2 h' hne hg⟩⟩
theorem Holds2.same {base : Nat} {w w' : World} {zs : List NdM} {l : List Nd} (h : Holds2 base w zs l) (hs : Same base w w') : Holds2 base w' zs l :=
  ⟨h.1, fun i m x h1 h2 => ⟨(h.2 i m x h1 h2).1, owns_same (h.2 i m x h1 h2).2 hs⟩⟩
theorem Holds2.up {base base' : Nat} {w : World} {zs : List NdM} {l : List Nd} (h : Holds2 base w zs l) (hb : base' ≤ base) : Holds2 base' w zs l :=
  ⟨h.1, fun i m x h1 h2 => ⟨(h.2 i m x h1 h2).1, owns_up (h.2 i m x h1 h2).2 hb⟩⟩
theorem Holds.ints {base : Nat} {w : World} {m : NdM} {x : Nd} (h : Holds base w m x) : Ints w m.A m.n x.words := (ownsRow_cells h.2).ints
def Nds (base : Nat) (w : World) (A : Option Addr) (n : Nat) (l : List Nd) : Prop := ∃ zs : List NdM, Rows 20 encM w A n zs ∧ Holds2 base w zs l ∧ Far base A
theorem Nds.same {base : Nat} {w w' : World} {A : Option Addr} {n : Nat} {l : List Nd} (h : Nds base w A n l) (hs : Same base w w') : Nds base w' A n l := by
  obtain ⟨zs, h1, h2, h3⟩ := h
  exact ⟨zs, h1.same h3 hs, h2.same hs, h3⟩
theorem Nds.below {base : Nat} {w w' : World} {A : Option Addr} {n : Nat} {l : List Nd} (h : Nds base w A n l) (hb : Below w.heap.size w w') : Nds base w' A n l := h.same (Same.below hb)
theorem Nds.up {base base' : Nat} {w : World} {A : Option Addr} {n : Nat} {l : List Nd} (h : Nds base w A n l) (hb : base' ≤ base) : Nds base' w A n l := by
  obtain ⟨zs, h1, h2, h3⟩ := h
  exact ⟨zs, h1, h2.up hb, h3.up hb⟩
theorem Nds.nil (base : Nat) (w : World) : Nds base w .none 0 [] := ⟨[], Rows.nil _ _, Holds2.nil _ _, Far.nil _⟩
theorem Nds.len {base : Nat} {w : World} {A : Option Addr} {n : Nat} {l : List Nd} (h : Nds base w A n l) : l.length = n := by
  obtain ⟨zs, h1, h2, _⟩ := h
  rw [← h2.1]; exact h1.1
theorem Parse.len {l : List Tok} {t : Bool} {i : Nat} {out : List Nd} {r : Res (List Nd)} (h : Parse l t i out r) : ∀ x b, r = .ok x b → x.length + i ≤ out.length + b := by
  have hbox : ∀ i kind side e x b, boxR l i kind side e = .ok x b → x.length + i ≤ b := by
    intro i kind side e x b hr
    unfold boxR at hr
    split at hr
    · cases hr
    split at hr
    · cases hr
    split at hr
    · cases hr
    · cases hr; simp; omega
  induction h with
  | stop _ => intro x b h; cases h; omega
  | more _ _ _ ih1 ih2 => intro x b h; have := ih1 _ _ rfl; have := ih2 _ _ h; simp at *; omega
  | fail _ _ _ => intro x b h; cases h
  | blockA _ _ => intro x b h; cases h
  | blockN _ _ _ _ => intro x b h; cases h
  | blockE _ _ _ _ _ => intro x b h; cases h
  | block _ g2 _ _ ih => intro x b h; cases h; have := ih _ _ rfl; have := g2.le; simp [Res.at_] at *; omega
  | textL _ _ => intro x b h; cases h
  | textS _ _ _ => intro x b h; cases h
  | textW _ _ _ _ _ => intro x b h; cases h
  | text _ _ _ g4 _ _ => intro x b h; cases h; have := g4.le; simp; omega
  | mono _ => intro x b h; have := hbox _ _ _ _ _ _ h; simp; omega
  | left _ _ => intro x b h; have := hbox _ _ _ _ _ _ h; simp; omega
  | right _ _ => intro x b h; have := hbox _ _ _ _ _ _ h; simp; omega
  | side _ _ _ => intro x b h; cases h
def gotV (A : Option Addr) (n c : Nat) (p wrong : Int) : Value := .agg #[.slice A n c, .int .i64 p, .int .i64 wrong]
def GotR (w : World) (r : Res (List Nd)) (e : Ending) (w' : World) : Prop := match r with
  | .ok x b => ∃ A n c, e = .returned (gotV A n c b 0) ∧ Nds w.heap.size w' A n x ∧ Below w.heap.size w w'
  | .bad p => e = .returned (gotV none 0 0 p 1) ∧ Below w.heap.size w w'
def GotP (toks : List Tok) (t : Bool) (i : Nat) (w : World) (e : Ending) (w' : World) : Prop := ∃ r, Parse toks t i [] r ∧ GotR w r e w'
theorem box_load {P : Program} {w : World} {n k : Nat} {vs : List Value} (h : Box w n vs) (hk : vs.length = k) (cs : Array Value) (hc : cs = vs.toArray) : (loadCellsFrom ⟨n, 0, none⟩ 0 k #[]).run P w = .ok cs w := by
  subst hk hc
  have := run_loadCells_list (P := P) w ⟨n, 0, none⟩ vs (fun j v hv => by
    rw [Go.WideShapes.add_plain, Nat.zero_add]; exact h.2.2 j v hv)
  simpa [loadCells] using this
theorem box3_of {w : World} {n : Nat} {a b c : Value} (h : Box w n [a, b, c]) : (w.cell? ⟨n, 0, none⟩ = some a ∧ w.cell? ⟨n, 1, none⟩ = some b ∧ w.cell? ⟨n, 2, none⟩ = some c) ∧ (w.frozen? ⟨n, 0, none⟩ = false ∧ w.frozen? ⟨n, 1, none⟩ = false ∧ w.frozen? ⟨n, 2, none⟩ = false) ∧ n < w.heap.size :=
  ⟨⟨h.2.2 0 _ rfl, h.2.2 1 _ rfl, h.2.2 2 _ rfl⟩, ⟨h.2.1 _, h.2.1 _, h.2.1 _⟩, h.1⟩
theorem rows_box {α : Type} {k : Nat} {enc : α → List Value} (hk : ∀ x, (enc x).length = k) {w : World} {n : Nat} {zs : List α} (h : Box w n (zs.flatMap enc)) (hl : zs.length ≤ 1000000) : Rows k enc w (some ⟨n, 0, none⟩) zs.length zs := by
  refine ⟨rfl, by omega, fun _ => ⟨n, 0, rfl, h.1, fun i x hx j v hv => ?_⟩⟩
  rw [Nat.zero_add]
  exact h.2.2 _ _ (flat_get hk zs i x j v hx hv)
theorem box_new (w : World) (vs : List Value) (t : TypeId) (n : Nat) (h : n = w.heap.size) (cs : Array Value) (hc : cs = vs.toArray) : Box (w.alloc (.cells cs t)) n vs := by subst h hc; exact Box.new w vs t
def styB (s t : Sty) : Bool := s.top == t.top && s.bottom == t.bottom && s.padTop == t.padTop && s.padBottom == t.padBottom && s.inset == t.inset && s.orphans == t.orphans && s.widows == t.widows && s.head == t.head && s.before == t.before && s.after == t.after && s.inside == t.inside && s.clear == t.clear
theorem styB_iff (s t : Sty) : styB s t = true ↔ s = t := by
  obtain ⟨a0, a1, a2, a3, a4, a5, a6, a7, a8, a9, a10, a11⟩ := s
  obtain ⟨b0, b1, b2, b3, b4, b5, b6, b7, b8, b9, b10, b11⟩ := t
  simp [styB, and_assoc]
theorem part_int (xs : Array Value) (k : Nat) (v : Value) (h : xs[k]? = some v) (w : World) : (part 3 xs k).run Tryz.prog w = .ok v w := run_part_plain w (by kernel_rfl) h
theorem ite_ok {p : Prop} [Decidable p] {c : Bool} {w : World} : (if p then Result.ok c w else Result.ok false w) = Result.ok (decide p && c) w := by split <;> simp_all
theorem ite_and {b : Bool} {c : Bool} {w : World} : (if (!b) = true then Result.ok false w else Result.ok c w) = Result.ok (b && c) w := by cases b <;> rfl
set_option maxRecDepth 10000 in
theorem sty_equal (s t : Sty) (w : World) : (Op.equalIn 10000 38 (.agg (encS12 s).toArray) (.agg (encS12 t).toArray)).run Tryz.prog w = .ok (styB s t) w := by
  obtain ⟨a0, a1, a2, a3, a4, a5, a6, a7, a8, a9, a10, a11⟩ := s
  obtain ⟨b0, b1, b2, b3, b4, b5, b6, b7, b8, b9, b10, b11⟩ := t
  rw [show (10000 : Nat) = 9999 + 1 from rfl, run_equalIn_struct w 9999 _ _ _ (by kernel_rfl) (by kernel_rfl)]
  have hi : ∀ (a b : Int) (w : World), (Op.equalIn 9999 3 (.int .i64 a) (.int .i64 b)).run Tryz.prog w = .ok (a == b) w := fun a b w => run_equalIn_int w 9998 3 .i64 .i64 a b Tryz.underlying3
  simp [Program.fieldsOf, Tryz.underlying38, Op.eqFields, encS12, part_int, hi, styB, ite_and]
  simp only [ite_ok]
  congr 1
  rw [Bool.eq_iff_iff]
  simp [and_assoc]
def Shows (w : World) (m : NdM) (x : Nd) : Prop := (x.kind = m.kind ∧ x.size = m.size ∧ x.sty = m.sty ∧ x.line = m.line ∧ x.space = m.space ∧ x.side = m.side ∧ x.w = m.w ∧ x.h = m.h) ∧ Ints w m.A m.n x.words
theorem Shows.below {w w' : World} {m : NdM} {x : Nd} (h : Shows w m x) (hb : Below w.heap.size w w') : Shows w' m x := ⟨h.1, (h.2.cells.below hb rfl).ints⟩
theorem Holds.shows {base : Nat} {w : World} {m : NdM} {x : Nd} (h : Holds base w m x) : Shows w m x := ⟨h.1, h.ints⟩
def Sees (w : World) (A : Option Addr) (n : Nat) (l : List Nd) : Prop := ∃ zs : List NdM, Rows 20 encM w A n zs ∧ zs.length = l.length ∧ ∀ (i : Nat) (m : NdM) (x : Nd), zs[i]? = some m → l[i]? = some x → Shows w m x
theorem Sees.below {w w' : World} {A : Option Addr} {n : Nat} {l : List Nd} (h : Sees w A n l) (hb : Below w.heap.size w w') : Sees w' A n l := by
  obtain ⟨zs, h1, h2, h3⟩ := h
  exact ⟨zs, h1.below hb, h2, fun i m x h4 h5 => (h3 i m x h4 h5).below hb⟩
theorem Nds.sees {base : Nat} {w : World} {A : Option Addr} {n : Nat} {l : List Nd} (h : Nds base w A n l) : Sees w A n l := by
  obtain ⟨zs, h1, h2, h3⟩ := h
  exact ⟨zs, h1, h2.1, fun i m x h4 h5 => (h2.2 i m x h4 h5).shows⟩
theorem Sees.len {w : World} {A : Option Addr} {n : Nat} {l : List Nd} (h : Sees w A n l) : l.length = n := by
  obtain ⟨zs, h1, h2, _⟩ := h
  rw [← h2]; exact h1.1
theorem down_any (x y w h : Int) (W : World) (hb : IntKind.i64.wrap (y + h) = y + h) : Calls Tryz.prog 163 #[.agg #[.int .i64 x, .int .i64 y, .int .i64 w, .int .i64 h]] W fun e W' => e = .returned (.agg #[.int .i64 y, .int .i64 (y + h)]) ∧ Below W.heap.size W W' := by
  go_enter Tryz.func163, Tryz.ntmps163
  go_wp2
  refine bodyPost_ret (v := .agg #[.int .i64 y, .int .i64 (y + h)]) (by simp [results, Tryz.results163, go_sem]) rfl ⟨rfl, by go_grown⟩
theorem empty_any (a b : Int) (w : World) : Calls Tryz.prog 153 #[.agg #[.int .i64 a, .int .i64 b]] w fun e w' => e = .returned (.bool (decide (b ≤ a))) ∧ Below w.heap.size w w' := by
  go_enter Tryz.func153, Tryz.ntmps153
  go_wp2
  go_ret
  exact ⟨rfl, by go_grown⟩
theorem tidy_any (a b : Int) (w : World) : Calls Tryz.prog 166 #[.agg #[.int .i64 a, .int .i64 b]] w fun e w' => e = .returned (.agg #[.int .i64 (tidyS (a, b)).1, .int .i64 (tidyS (a, b)).2]) ∧ Below w.heap.size w w' := by
  by_cases h1 : b ≤ a
  · have HN := Lib.hid (tidyS_none (s := (a, b)) h1)
    go_enter Tryz.func166, Tryz.ntmps166
    go_wp2_with (go_at_call 153; refine (empty_any _ _ _).mono ?_; rintro e w1 ⟨rfl, hb⟩; obtain ⟨hc, hf⟩ := bcell hb; have hz : w.heap.size + 1 < w1.heap.size := by have := hb.size; simp at this; omega)
    refine bodyPost_ret (v := .agg #[.int .i64 0, .int .i64 0]) (by simp [results, Tryz.results166, go_sem, hc, hz]) rfl ⟨by rw [HN.out], ?_⟩
    exact Below.setCell (Below.setCell (below_then (by go_grown) hb) (by go_size) _) (by go_size) _
  · have HN := Lib.hid (tidyS_some (s := (a, b)) (by simpa using h1))
    go_enter Tryz.func166, Tryz.ntmps166
    go_wp2_with (go_at_call 153; refine (empty_any _ _ _).mono ?_; rintro e w1 ⟨rfl, hb⟩; obtain ⟨hc, hf⟩ := bcell hb; have hz : w.heap.size + 1 < w1.heap.size := by have := hb.size; simp at this; omega)
    refine bodyPost_ret (v := .agg #[.int .i64 a, .int .i64 b]) (by simp [results, Tryz.results166, go_sem, hc, hz]) rfl ⟨by rw [HN.out], ?_⟩
    exact Below.setCell (Below.setCell (below_then (by go_grown) hb) (by go_size) _) (by go_size) _
theorem tidy_to {a b p q : Int} (h1 : a = p) (h2 : b = q) (w : World) : Calls Tryz.prog 166 #[.agg #[.int .i64 a, .int .i64 b]] w fun e w' => e = .returned (.agg #[.int .i64 (tidyS (p, q)).1, .int .i64 (tidyS (p, q)).2]) ∧ Below w.heap.size w w' := by
  subst h1 h2; exact tidy_any _ _ _
theorem meet_any (a b c d : Int) (w : World) : Calls Tryz.prog 165 #[.agg #[.int .i64 a, .int .i64 b], .agg #[.int .i64 c, .int .i64 d]] w fun e w' => e = .returned (.agg #[.int .i64 (meetS (a, b) (c, d)).1, .int .i64 (meetS (a, b) (c, d)).2]) ∧ Below w.heap.size w w' := by
  unfold meetS
  go_enter Tryz.func165, Tryz.ntmps165
  go_wp2_with (go_at_call 166; refine (tidy_to (p := max a c) (q := min b d) (by omega) (by omega) _).mono ?_; rintro e w1 ⟨rfl, hb⟩; obtain ⟨hc, hf⟩ := bcell hb; have hz : w.heap.size + 1 + 1 < w1.heap.size := by have := hb.size; simp at this; omega)
  all_goals
    refine bodyPost_ret (v := .agg #[.int .i64 (tidyS (max a c, min b d)).1, .int .i64 (tidyS (max a c, min b d)).2]) (by simp [results, Tryz.results165, go_sem, hc, hz]) rfl ⟨rfl, ?_⟩
    exact Below.setCell (Below.setCell (below_then (by go_grown) hb) (by go_size) _) (by go_size) _
theorem meet_to {a b c d p q : Int} (h : meetS (a, b) (c, d) = (p, q)) (w : World) : Calls Tryz.prog 165 #[.agg #[.int .i64 a, .int .i64 b], .agg #[.int .i64 c, .int .i64 d]] w fun e w' => e = .returned (.agg #[.int .i64 p, .int .i64 q]) ∧ Below w.heap.size w w' := by
  have := meet_any a b c d w
  rw [h] at this; exact this
theorem apart_any (a b c d : Int) (w : World) : Calls Tryz.prog 162 #[.agg #[.int .i64 a, .int .i64 b], .agg #[.int .i64 c, .int .i64 d]] w fun e w' => e = .returned (.bool (decide (meetS (a, b) (c, d) = (0, 0)))) ∧ Below w.heap.size w w' := by
  rcases hm : meetS (a, b) (c, d) with ⟨p, q⟩
  have HM := Lib.hid hm
  clear hm
  go_enter Tryz.func162, Tryz.ntmps162
  go_wp2_with (go_at_call 165; refine (meet_to HM.out _).mono ?_; rintro e w1 ⟨rfl, hb⟩; obtain ⟨hc, hf⟩ := bcell hb; have hz : w.heap.size + 1 < w1.heap.size := by have := hb.size; simp at this; omega)
  all_goals
    go_ret
    exact ⟨ret_bool (by simp_all), below_then (by go_grown) hb⟩
theorem clamp_any (n : Int) (w : World) : Calls Tryz.prog 107 #[.int .i64 n] w fun e w' => e = .returned (.int .i64 (lim n)) ∧ w = w' := by
  go_enter Tryz.func107, Tryz.ntmps107
  go_wp2
  all_goals go_ret
  all_goals exact ⟨ret_int (by unfold lim; omega), rfl⟩
theorem may_any (n : Int) (w : World) : Calls Tryz.prog 16 #[.int .i64 n] w fun e w' => e = .returned (.bool (decide (1 ≤ n) && decide (n ≤ 1099511627776))) ∧ w = w' := by
  by_cases h1 : 1 ≤ n <;> by_cases h2 : n ≤ 1099511627776
  all_goals
    go_enter Tryz.func16, Tryz.ntmps16
    go_wp2
    go_ret
    exact ⟨ret_bool (by simp [h1, h2]), rfl⟩
set_option maxHeartbeats 400000 in
theorem add_any (A : Option Addr) (n c : Nat) (zs : List Int) (w : World) (hz : Ints w A n zs) :
    Calls Tryz.prog 73 #[.slice A n c] w fun e w' => e = .returned (.int .i64 (sumL zs)) ∧ w = w' := by
  have hn := hz.2.1
  have HL := Lib.hid hz.1
  have HZ := Lib.hid hz
  clear hz
  go_enter Tryz.func73, Tryz.ntmps73
  go_wp2
  go_loop [3, 8] (fun s i => ∃ k : Nat, k ≤ n ∧ i = .int .i64 k ∧ s = .int .i64 (sumL (zs.take k))) (fun _ i => n - (intOf i).toNat)
  case atStart => exact ⟨0, by omega, rfl, rfl⟩
  case round =>
    obtain ⟨k, hk, rfl, rfl⟩ := hrel
    have hs := sumL_bd (zs.take k)
    by_cases hlt : k < n
    · have hl := lim_bd (zs[k]?.getD 0)
      have HT := Lib.hid (take_snoc_getD zs k (by rw [HL.out]; exact hlt))
      obtain ⟨b, off, rfl, hc⟩ := HZ.out.at_ hlt
      go_wp2_with (go_at_call 107; refine (clamp_any _ _).mono ?_; rintro e w' ⟨rfl, rfl⟩)
      go_round
      case rel => exact ⟨k + 1, by omega, by go_num, by rw [HT.out, sumL_snoc]⟩
      case measure => simp [intOf]; omega
    · go_wp2_with fail
      go_ret
      exact ⟨ret_int (by rw [List.take_of_length_le (by rw [HL.out]; omega)]), rfl⟩
def oddB (a b n : Int) : Bool := !fromB n a b
theorem odd1_any (n a b : Int) (g3 g4 : Nat) (w : World) (h3 : w.cell? ⟨g3, 0, none⟩ = some (.int .i64 a)) (h4 : w.cell? ⟨g4, 0, none⟩ = some (.int .i64 b)) : Calls Tryz.prog 131 #[.int .i64 n, .pointer (some ⟨g3, 0, none⟩), .pointer (some ⟨g4, 0, none⟩)] w fun e w' => e = .returned (.bool (oddB a b n)) ∧ w = w' := by
  by_cases h : n < a
  all_goals
    go_enter Tryz.func131, Tryz.ntmps131
    go_wp2_with fail
    go_ret
    refine ⟨ret_bool ?_, rfl⟩
    rw [Bool.eq_iff_iff]
    simp [oddB, fromB] <;> omega
theorem odd1_to {n a b : Int} {v : Bool} (hv : oddB a b n = v) {g3 g4 : Nat} (w : World) (h3 : w.cell? ⟨g3, 0, none⟩ = some (.int .i64 a)) (h4 : w.cell? ⟨g4, 0, none⟩ = some (.int .i64 b)) : Calls Tryz.prog 131 #[.int .i64 n, .pointer (some ⟨g3, 0, none⟩), .pointer (some ⟨g4, 0, none⟩)] w fun e w' => e = .returned (.bool v) ∧ w = w' := by
  subst hv; exact odd1_any n a b g3 g4 w h3 h4
theorem any_at {zs : List Int} {a b : Int} {k : Nat} (hk : k < zs.length) (h : oddB a b (zs[k]?.getD 0) = true) : zs.any (oddB a b) = true := by
  rw [List.any_eq_true]
  refine ⟨zs[k], List.getElem_mem hk, ?_⟩
  simpa [hk] using h
theorem any_no {zs : List Int} {a b : Int} (h : ∀ j, j < zs.length → oddB a b (zs[j]?.getD 0) = false) : zs.any (oddB a b) = false := by
  rw [List.any_eq_false]
  intro z hz
  obtain ⟨j, hj, rfl⟩ := List.getElem_of_mem hz
  have := h j hj
  simp [hj] at this
  simp [this]
set_option maxHeartbeats 2000000 in
theorem indexf_any (zs : List Int) (a b : Int) (g3 g4 : Nat) (A : Option Addr) (n c : Nat) (w : World) (hz : Ints w A n zs) (h3 : w.cell? ⟨g3, 0, none⟩ = some (.int .i64 a)) (h4 : w.cell? ⟨g4, 0, none⟩ = some (.int .i64 b)) :
    Calls Tryz.prog 151 #[.slice A n c, .func (.func 131) #[] #[.pointer (some ⟨g3, 0, none⟩), .pointer (some ⟨g4, 0, none⟩)]] w fun e w' => ∃ i : Int, e = .returned (.int .i64 i) ∧ decide (0 ≤ i) = zs.any (oddB a b) ∧ w = w' := by
  have hl := hz.1
  have hn := hz.2.1
  have HZ := Lib.hid hz
  have H3 := Lib.hid h3
  have H4 := Lib.hid h4
  clear hz h3 h4
  go_enter Tryz.func151, Tryz.ntmps151
  go_wp2_with fail
  go_loopw [8] (fun i wr => ∃ k : Nat, k ≤ n ∧ i = .int .i64 k ∧ (∀ j, j < k → oddB a b (zs[j]?.getD 0) = false) ∧ wr = w) (fun i _ => n - (intOf i).toNat)
  case atStart => exact ⟨0, by omega, rfl, fun j hj => by omega, rfl⟩
  case round =>
    obtain ⟨k, hk, rfl, hno, rfl⟩ := hrel
    have HN := Lib.hid hno
    clear hno
    by_cases hlt : k < n
    · have hk2 : (k : Int) < (n : Int) := by omega
      obtain ⟨b1, o1, rfl, hc⟩ := HZ.out.at_ hlt
      obtain ⟨u, hu⟩ : ∃ u, zs[k]?.getD 0 = u := ⟨_, rfl⟩
      obtain ⟨v, hv⟩ : ∃ v, oddB a b u = v := ⟨_, rfl⟩
      rw [hu] at hc
      have HU := Lib.hid hu
      have HV := Lib.hid hv
      clear hv hu
      go_wp2_with fail
      refine (odd1_to HV.out _ H3.out H4.out).mono ?_
      rintro e w' ⟨rfl, rfl⟩
      cases v with
      | true =>
        have HY := Lib.hid (any_at (zs := zs) (a := a) (b := b) (k := k) (by omega) (by rw [HU.out]; exact HV.out))
        go_wp2_with fail
        go_ret
        exact ⟨_, rfl, by rw [HY.out]; simp, rfl⟩
      | false =>
        go_wp2_with fail
        go_roundw
        case rel => exact ⟨k + 1, by omega, by go_num, fun j hj => by
          by_cases e : j = k
          · subst e; rw [HU.out]; exact HV.out
          · exact HN.out j (by omega), by first | rfl | trivial⟩
        case measure => simp [intOf]; omega
    · have hk2 : (n : Int) ≤ (k : Int) := by omega
      have HY := Lib.hid (any_no (zs := zs) (a := a) (b := b) (fun j hj => HN.out j (by omega)))
      go_wp2_with fail
      go_ret
      exact ⟨_, rfl, by rw [HY.out]; simp, rfl⟩
theorem contains_any (zs : List Int) (a b : Int) (g3 g4 : Nat) (A : Option Addr) (n c : Nat) (w : World) (hz : Ints w A n zs) (h3 : w.cell? ⟨g3, 0, none⟩ = some (.int .i64 a)) (h4 : w.cell? ⟨g4, 0, none⟩ = some (.int .i64 b)) :
    Calls Tryz.prog 130 #[.slice A n c, .func (.func 131) #[] #[.pointer (some ⟨g3, 0, none⟩), .pointer (some ⟨g4, 0, none⟩)]] w fun e w' => e = .returned (.bool (zs.any (oddB a b))) ∧ w = w' := by
  have HZ := Lib.hid hz
  have H3 := Lib.hid h3
  have H4 := Lib.hid h4
  clear hz h3 h4
  go_enter Tryz.func130, Tryz.ntmps130
  go_wp2_with fail
  refine (indexf_any zs a b g3 g4 _ _ _ _ HZ.out H3.out H4.out).mono ?_
  rintro e w' ⟨i, rfl, hi, rfl⟩
  have HI := Lib.hid hi
  clear hi
  go_wp2_with fail
  go_ret
  exact ⟨ret_bool HI.out, rfl⟩
theorem cell_new1 (w : World) (v : Value) (t : TypeId) (n : Nat) (h : n = w.heap.size) : (w.alloc (.cells #[v] t)).cell? ⟨n, 0, none⟩ = some v := by subst h; exact (Box.new w [v] t).2.2 0 _ rfl
theorem podd_any (zs : List Int) (a b : Int) (A : Option Addr) (n c : Nat) (w : World) (hz : Ints w A n zs) :
    Calls Tryz.prog 98 #[.int .i64 a, .int .i64 b, .slice A n c] w fun e w' => e = .returned (.bool (zs.any (oddB a b))) ∧ Below w.heap.size w w' := by
  have HZ := Lib.hid hz
  clear hz
  go_enter Tryz.func98, Tryz.ntmps98
  go_wp2_with fail
  refine (contains_any zs a b _ _ _ _ _ _ (HZ.out.below (B := w.heap.size) (by go_grown) rfl) (On.cell (cell_new1 w _ _ _ rfl) _ (Below.alloc (Below.refl _ _) (Nat.le_refl _) _)) (cell_new1 _ _ _ _ (by simp))).mono ?_
  rintro e w' ⟨rfl, rfl⟩
  go_wp2_with fail
  go_ret
  exact ⟨rfl, by go_grown⟩
theorem podd_to {zs : List Int} {a b : Int} {v : Bool} (hv : zs.any (oddB a b) = v) {A : Option Addr} {n c : Nat} (w : World) (hz : Ints w A n zs) :
    Calls Tryz.prog 98 #[.int .i64 a, .int .i64 b, .slice A n c] w fun e w' => e = .returned (.bool v) ∧ Below w.heap.size w w' := by
  subst hv; exact podd_any zs a b A n c w hz
def I64w (a : Int) : Prop := -9223372036854775808 ≤ a ∧ a ≤ 9223372036854775807
theorem wideI_bad {zs : List Int} {sp a b : Int} (h : a < 0 ∨ (zs.length : Int) ≤ a ∨ b ≤ a ∨ (zs.length : Int) < b) : wideI zs sp a b = 0 := by
  unfold wideI
  split
  · unfold wideN
    rw [if_neg (by omega)]
  · rfl
theorem wideI_nat {zs : List Int} {sp : Int} {a b : Nat} : wideI zs sp (a : Int) (b : Int) = wideN zs sp a b := by
  unfold wideI
  rw [if_pos ⟨by omega, by omega⟩, Int.toNat_natCast, Int.toNat_natCast]
set_option maxHeartbeats 1000000 in
set_option maxRecDepth 100000 in
theorem rwide_to {zs : List Int} {sp a b v : Int} (hv : wideI zs sp a b = v) (hn : Near9 zs sp) (ha : I64w a) (hb : I64w b) {A : Option Addr} {n c : Nat} (hn2 : n ≤ 1000) {w : World} (h : Ints w A n zs) :
    Calls Tryz.prog 150 #[.slice A n c, .int .i64 sp, .int .i64 a, .int .i64 b] w fun e w' => e = .returned (.int .i64 v) ∧ w = w' := by
  have HA := Lib.hid h
  have HN := Lib.hid h.1
  have hl := h.1
  clear h
  obtain ⟨ha1, ha2⟩ := ha
  obtain ⟨hb1, hb2⟩ := hb
  by_cases h1 : a < 0
  · have HV := Lib.hid (show 0 = v by rw [← hv]; exact (wideI_bad (by omega)).symm)
    clear hv hl
    go_enter Tryz.func150, Tryz.ntmps150
    go_wp2_with fail
    go_ret
    exact ⟨ret_int HV.out, rfl⟩
  by_cases h2 : (n : Int) ≤ a
  · have HV := Lib.hid (show 0 = v by rw [← hv]; exact (wideI_bad (by omega)).symm)
    clear hv hl
    go_enter Tryz.func150, Tryz.ntmps150
    go_wp2_with fail
    go_ret
    exact ⟨ret_int HV.out, rfl⟩
  by_cases h3 : b ≤ a
  · have HV := Lib.hid (show 0 = v by rw [← hv]; exact (wideI_bad (by omega)).symm)
    clear hv hl
    go_enter Tryz.func150, Tryz.ntmps150
    go_wp2_with fail
    go_ret
    exact ⟨ret_int HV.out, rfl⟩
  by_cases h4 : (n : Int) < b
  · have HV := Lib.hid (show 0 = v by rw [← hv]; exact (wideI_bad (by omega)).symm)
    clear hv hl
    go_enter Tryz.func150, Tryz.ntmps150
    go_wp2_with fail
    go_ret
    exact ⟨ret_int HV.out, rfl⟩
  obtain ⟨i, rfl⟩ : ∃ i : Nat, a = (i : Int) := ⟨a.toNat, by omega⟩
  obtain ⟨j, rfl⟩ : ∃ j : Nat, b = (j : Int) := ⟨b.toNat, by omega⟩
  have hij : i < j := by omega
  have hjn : j ≤ n := by omega
  rw [wideI_nat] at hv
  unfold wideN at hv
  rw [if_pos ⟨hij, by omega⟩] at hv
  obtain ⟨⟨sp0, sp1⟩, _⟩ := id hn
  unfold farN at sp1
  have hx0 : 0 ≤ ((j : Int) - i - 1) * sp := Int.mul_nonneg (by omega) sp0
  have hx1 : ((j : Int) - i - 1) * sp ≤ 1000 * 35184372088832 := by
    refine Int.le_trans (Int.mul_le_mul_of_nonneg_left sp1 (by omega)) (Int.mul_le_mul_of_nonneg_right (by omega) (by omega))
  have hwx : IntKind.i64.wrap (((j : Int) - i - 1) * sp) = ((j : Int) - i - 1) * sp := IntWalk.i64_in _ (by omega)
  have HV := Lib.hid hv
  have HNE := Lib.hid hn
  have HX1 := Lib.hid hx0
  have HX2 := Lib.hid hx1
  clear hv hn hl h1 h2 h3 h4 hx0 hx1
  go_enter Tryz.func150, Tryz.ntmps150
  go_wp2_with fail
  go_loopw [9, 10] (fun s i' wr => ∃ (k : Nat) (t : Int), s = .int .i64 t ∧ i' = .int .i64 ((i + k : Nat) : Int) ∧ i + k ≤ j ∧ Hid (t = ((j : Int) - i - 1) * sp + sumK zs i k) ∧ wr = w) (fun _ i' _ => j - (intOf i').toNat)
  case atStart => exact ⟨0, _, rfl, by rfl, by omega, Lib.hid (by unfold sumK; rw [Int.add_zero]), rfl⟩
  case round =>
    obtain ⟨k, t, rfl, rfl, hkj, HT, rfl⟩ := hrel
    by_cases hlt : i + k < j
    · have hlt2 : ((i + k : Nat) : Int) < (j : Int) := by omega
      have hltn : ((i + k : Nat) : Int) < (n : Int) := by omega
      obtain ⟨b', off, rfl, hc⟩ := HA.out.at_ (show i + k < n by omega)
      obtain ⟨z, hz⟩ : ∃ z, zs[i + k]?.getD 0 = z := ⟨_, rfl⟩
      rw [hz] at hc
      have hzb := word_bd HNE.out (i + k)
      have hsb := sumK_bd HNE.out i k
      have HT2 := Lib.hid (show t + z = ((j : Int) - i - 1) * sp + sumK zs i (k + 1) by rw [HT.out, sumK, Int.add_assoc]; congr 1; rw [← hz]; rfl)
      have ht0 : 0 ≤ t := by rw [HT.out]; have := HX1.out; omega
      have ht1 : t ≤ 2000 * 35184372088832 := by
        rw [HT.out]
        have h1 := HX2.out
        have h2 : (k : Int) * farN ≤ 1000 * farN := Int.mul_le_mul_of_nonneg_right (by omega) (by unfold farN; omega)
        unfold farN at *
        omega
      unfold wordI at hzb
      rw [hz] at hzb
      obtain ⟨hz0, hz1⟩ := hzb
      unfold farN at hz1
      clear hz hsb
      go_wp2_with fail
      go_roundw
      case rel => exact ⟨k + 1, t + z, rfl, by go_num, by omega, HT2, by first | rfl | trivial⟩
      case measure => simp [intOf] <;> omega
    · have hge : (j : Int) ≤ ((i + k : Nat) : Int) := by omega
      have HV2 := Lib.hid (show t = v by rw [HT.out, ← HV.out, show j - i = k by omega])
      go_wp2_with fail
      go_ret
      exact ⟨ret_int HV2.out, rfl⟩
def mvd (y m : Int) (A : Option Addr) (n c : Nat) : List Value := [.int .i64 y, .int .i64 m, .slice A n c]
theorem mvd_of {w : World} {k : Nat} {y m : Int} {A : Option Addr} {n c : Nat} (h : Box w k (mvd y m A n c)) : (w.cell? ⟨k, 0, none⟩ = some (.int .i64 y) ∧ w.cell? ⟨k, 1, none⟩ = some (.int .i64 m) ∧ w.cell? ⟨k, 2, none⟩ = some (.slice A n c)) ∧ (w.frozen? ⟨k, 0, none⟩ = false ∧ w.frozen? ⟨k, 1, none⟩ = false ∧ w.frozen? ⟨k, 2, none⟩ = false) ∧ k < w.heap.size :=
  ⟨⟨h.2.2 0 _ rfl, h.2.2 1 _ rfl, h.2.2 2 _ rfl⟩, ⟨h.2.1 _, h.2.1 _, h.2.1 _⟩, h.1⟩
theorem grown_set13 {w w' : World} {k j : Nat} {v : Value} (h : w.grownBy w' (some k)) : w.grownBy (w'.setCell ⟨k, j, none⟩ v) (some k) := h.trans (grownBy_setCellN w' k j v)
theorem grown_below13 {w w' : World} {row : Option Nat} (h : Below w.heap.size w w') : w.grownBy w' row := ⟨h.os, h.tape, h.output, h.size, fun k hk _ => h.block k hk⟩
theorem place13_to {y m : Int} (A : Option Addr) (n c : Nat) (hw : IntKind.i64.wrap (y + m) = y + m) (w : World) : Calls Tryz.prog 85 #[.agg #[.int .i64 y, .int .i64 m, .slice A n c]] w fun e w' => e = .returned (.int .i64 (y + m)) ∧ Below w.heap.size w w' := by
  go_enter Tryz.func85, Tryz.ntmps85
  go_wp2_with fail
  go_ret
  exact ⟨rfl, by go_grown⟩
theorem down13_to {y0 m0 y : Int} {A : Option Addr} {n c k : Nat} {w : World} (hX : Box w k (mvd y0 m0 A n c)) : Calls Tryz.prog 133 #[.pointer (some ⟨k, 0, none⟩), .int .i64 y] w fun e w' => e = .returned (.tuple #[]) ∧ Box w' k (mvd y 0 A n c) ∧ w.grownBy w' (some k) := by
  have HX := Lib.hid hX
  obtain ⟨⟨c0, c1, c2⟩, ⟨f0, f1, f2⟩, hlt⟩ := mvd_of hX
  clear hX
  go_enter Tryz.func133, Tryz.ntmps133
  go_wp2_with fail
  go_end0
  exact ⟨rfl, (HX.out.set 0 (.int .i64 y) (by simp [mvd])).set 1 (.int .i64 0) (by simp [mvd]), grown_set13 (grown_set13 (World.grownBy.refl _ _))⟩
theorem collapse13_to {y m a g : Int} (hg : raiseI m a = g) {A : Option Addr} {n c k : Nat} {w : World} (hX : Box w k (mvd y m A n c)) : Calls Tryz.prog 134 #[.pointer (some ⟨k, 0, none⟩), .int .i64 a] w fun e w' => e = .returned (.tuple #[]) ∧ Box w' k (mvd y g A n c) ∧ w.grownBy w' (some k) := by
  rw [raiseI_max] at hg
  have HG := Lib.hid hg
  have HX := Lib.hid hX
  obtain ⟨⟨c0, c1, c2⟩, ⟨f0, f1, f2⟩, hlt⟩ := mvd_of hX
  clear hX hg
  go_enter Tryz.func134, Tryz.ntmps134
  go_wp2_with fail
  go_end0
  exact ⟨rfl, by rw [← HG.out]; exact HX.out.set 1 (.int .i64 (max m a)) (by simp [mvd]), grown_set13 (World.grownBy.refl _ _)⟩
theorem pad13_to {y m d y' m' : Int} (hv : (if 0 < d then (y + m + d, 0) else (y, m)) = (y', m')) (hw1 : IntKind.i64.wrap (y + m) = y + m) (hw2 : IntKind.i64.wrap (y + m + d) = y + m + d) {A : Option Addr} {n c k : Nat} {w : World} (hX : Box w k (mvd y m A n c)) : Calls Tryz.prog 135 #[.pointer (some ⟨k, 0, none⟩), .int .i64 d] w fun e w' => e = .returned (.tuple #[]) ∧ Box w' k (mvd y' m' A n c) ∧ w.grownBy w' (some k) := by
  have HX := Lib.hid hX
  obtain ⟨⟨c0, c1, c2⟩, ⟨f0, f1, f2⟩, hlt⟩ := mvd_of hX
  clear hX
  by_cases hd : 0 < d
  · have HV := Lib.hid (show (y + m + d, 0) = (y', m') by rw [← hv, if_pos hd])
    clear hv
    go_enter Tryz.func135, Tryz.ntmps135
    go_wp2_with fail
    refine (place13_to A n c hw1 _).mono ?_
    rintro e w1 ⟨rfl, hb⟩
    have HB := Lib.hid hb
    have HX1 := Lib.hid (HX.out.below hb)
    clear hb c0 c1 c2 f0 f1 f2 HX
    go_wp2_with fail
    refine (down13_to HX1.out).mono ?_
    rintro e w2 ⟨rfl, hX2, hg⟩
    have HX2 := Lib.hid hX2
    have HG := Lib.hid ((grown_below13 HB.out).trans hg)
    clear hX2 hg HX1 HB
    have he := HV.out
    injection he with e1 e2
    subst e1 e2
    clear HV
    go_wp2_with fail
    go_end0
    exact ⟨rfl, HX2.out, HG.out⟩
  · have HV := Lib.hid (show (y, m) = (y', m') by rw [← hv, if_neg hd])
    have hdn := Int.not_lt.1 hd
    clear hv hd
    go_enter Tryz.func135, Tryz.ntmps135
    go_wp2_with fail
    go_end0
    have he := HV.out
    injection he with e1 e2
    subst e1 e2
    exact ⟨rfl, HX.out, World.grownBy.refl _ _⟩
theorem clear13_to {y m d y' m' : Int} (hv : clearP (y, m) d = (y', m')) (hw1 : IntKind.i64.wrap (y + m) = y + m) {A : Option Addr} {n c k : Nat} {w : World} (hX : Box w k (mvd y m A n c)) : Calls Tryz.prog 108 #[.pointer (some ⟨k, 0, none⟩), .int .i64 d] w fun e w' => e = .returned (.tuple #[]) ∧ Box w' k (mvd y' m' A n c) ∧ w.grownBy w' (some k) := by
  have HX := Lib.hid hX
  obtain ⟨⟨c0, c1, c2⟩, ⟨f0, f1, f2⟩, hlt⟩ := mvd_of hX
  clear hX
  unfold clearP at hv
  by_cases hd : y + m < d
  · have HV := Lib.hid (show (d, 0) = (y', m') by rw [← hv, if_pos hd])
    clear hv
    go_enter Tryz.func108, Tryz.ntmps108
    go_wp2_with fail
    refine (place13_to A n c hw1 _).mono ?_
    rintro e w1 ⟨rfl, hb⟩
    have HB := Lib.hid hb
    have HX1 := Lib.hid (HX.out.below hb)
    clear hb c0 c1 c2 f0 f1 f2 HX
    go_wp2_with fail
    refine (down13_to HX1.out).mono ?_
    rintro e w2 ⟨rfl, hX2, hg⟩
    have HX2 := Lib.hid hX2
    have HG := Lib.hid ((grown_below13 HB.out).trans hg)
    clear hX2 hg HX1 HB
    have he := HV.out
    injection he with e1 e2
    subst e1 e2
    clear HV
    go_wp2_with fail
    go_end0
    exact ⟨rfl, HX2.out, HG.out⟩
  · have HV := Lib.hid (show (y, m) = (y', m') by rw [← hv, if_neg hd])
    have hdn := Int.not_lt.1 hd
    clear hv hd
    go_enter Tryz.func108, Tryz.ntmps108
    go_wp2_with fail
    refine (place13_to A n c hw1 _).mono ?_
    rintro e w1 ⟨rfl, hb⟩
    have HB := Lib.hid hb
    have HX1 := Lib.hid (HX.out.below hb)
    clear hb c0 c1 c2 f0 f1 f2 HX
    go_wp2_with fail
    go_end0
    have he := HV.out
    injection he with e1 e2
    subst e1 e2
    exact ⟨rfl, HX1.out, grown_below13 HB.out⟩
theorem put13_to {y m a d : Int} (hw : IntKind.i64.wrap (a + d) = a + d) {A : Option Addr} {n c k : Nat} {w : World} (hX : Box w k (mvd y m A n c)) : Calls Tryz.prog 138 #[.pointer (some ⟨k, 0, none⟩), .int .i64 a, .int .i64 d] w fun e w' => e = .returned (.tuple #[]) ∧ Box w' k (mvd (a + d) 0 A n c) ∧ w.grownBy w' (some k) := by
  have HX := Lib.hid hX
  clear hX
  go_enter Tryz.func138, Tryz.ntmps138
  go_wp2_with fail
  refine (down13_to HX.out).mono ?_
  rintro e w2 ⟨rfl, hX2, hg⟩
  have HX2 := Lib.hid hX2
  have HG := Lib.hid hg
  clear hX2 hg HX
  go_wp2_with fail
  go_end0
  exact ⟨rfl, HX2.out, HG.out⟩
theorem enter13_to {y m a d y' m' : Int} (hv : enterP (y, m) a d = (y', m')) (hw1 : IntKind.i64.wrap (y + raiseI m a) = y + raiseI m a) (hw2 : IntKind.i64.wrap (y + raiseI m a + d) = y + raiseI m a + d) {A : Option Addr} {n c k : Nat} {w : World} (hX : Box w k (mvd y m A n c)) : Calls Tryz.prog 109 #[.pointer (some ⟨k, 0, none⟩), .int .i64 a, .int .i64 d] w fun e w' => e = .returned (.tuple #[]) ∧ Box w' k (mvd y' m' A n c) ∧ w.grownBy w' (some k) := by
  have HX := Lib.hid hX
  have HV := Lib.hid hv
  have HW1 := Lib.hid hw1
  have HW2 := Lib.hid hw2
  clear hX hv hw1 hw2
  go_enter Tryz.func109, Tryz.ntmps109
  go_wp2_with fail
  refine (collapse13_to rfl HX.out).mono ?_
  rintro e w1 ⟨rfl, hX1, hg1⟩
  have HX1 := Lib.hid hX1
  have HG1 := Lib.hid hg1
  clear hX1 hg1 HX
  go_wp2_with fail
  refine (pad13_to HV.out HW1.out HW2.out HX1.out).mono ?_
  rintro e w2 ⟨rfl, hX2, hg⟩
  have HX2 := Lib.hid hX2
  have HG := Lib.hid (HG1.out.trans hg)
  clear hX2 hg HX1 HG1
  go_wp2_with fail
  go_end0
  exact ⟨rfl, HX2.out, HG.out⟩
theorem leave13_to {y m a d y' m' : Int} (hv : leaveP (y, m) a d = (y', m')) (hw1 : IntKind.i64.wrap (y + m) = y + m) (hw2 : IntKind.i64.wrap (y + m + d) = y + m + d) {A : Option Addr} {n c k : Nat} {w : World} (hX : Box w k (mvd y m A n c)) : Calls Tryz.prog 110 #[.pointer (some ⟨k, 0, none⟩), .int .i64 a, .int .i64 d] w fun e w' => e = .returned (.tuple #[]) ∧ Box w' k (mvd y' m' A n c) ∧ w.grownBy w' (some k) := by
  have HX := Lib.hid hX
  obtain ⟨y1, m1, h1⟩ : ∃ y1 m1, (if 0 < d then (y + m + d, 0) else (y, m)) = (y1, m1) := ⟨_, _, rfl⟩
  have hv2 : (y1, raiseI m1 a) = (y', m') := by
    rw [← hv]
    unfold leaveP
    by_cases hd : 0 < d
    · rw [if_pos hd] at h1 ⊢
      injection h1 with e1 e2
      subst e1 e2
      rfl
    · rw [if_neg hd] at h1 ⊢
      injection h1 with e1 e2
      subst e1 e2
      rfl
  have HV := Lib.hid hv2
  have H1 := Lib.hid h1
  have HW1 := Lib.hid hw1
  have HW2 := Lib.hid hw2
  clear hX hv hw1 hw2 hv2 h1
  go_enter Tryz.func110, Tryz.ntmps110
  go_wp2_with fail
  refine (pad13_to H1.out HW1.out HW2.out HX.out).mono ?_
  rintro e w1 ⟨rfl, hX1, hg1⟩
  have HX1 := Lib.hid hX1
  have HG1 := Lib.hid hg1
  clear hX1 hg1 HX
  go_wp2_with fail
  refine (collapse13_to rfl HX1.out).mono ?_
  rintro e w2 ⟨rfl, hX2, hg⟩
  have HX2 := Lib.hid hX2
  have HG := Lib.hid (HG1.out.trans hg)
  clear hX2 hg HX1 HG1
  go_wp2_with fail
  go_end0
  have he := HV.out
  injection he with e1 e2
  exact ⟨rfl, by rw [← e1, ← e2]; exact HX2.out, HG.out⟩
theorem nearI_open {a : Int} (h : NearI a) : -1125899906842624 ≤ a ∧ a ≤ 1125899906842624 := h
theorem box_newN (w : World) (vs : List Value) (t : TypeId) (n : Nat) (h : n = w.heap.size) : Box (w.alloc (.cells vs.toArray t)) n vs := by subst h; exact Box.new w vs t
theorem at13_to {y m : Int} {w : World} (hy : NearI y) (hm : NearI m) : Calls Tryz.prog 44 #[.agg #[.int .i64 y, .int .i64 m]] w fun e w' => e = .returned (.int .i64 (y + m)) ∧ Below w.heap.size w w' := by
  obtain ⟨y1, y2⟩ := nearI_open hy
  obtain ⟨m1, m2⟩ := nearI_open hm
  have hw : IntKind.i64.wrap (y + m) = y + m := wrap_far (by omega)
  clear hy hm
  go_enter Tryz.func44, Tryz.ntmps44
  go_wp2_with fail
  refine (place13_to none 0 0 hw _).mono ?_
  rintro e w1 ⟨rfl, hb⟩
  have HB := Lib.hid hb
  clear hb
  go_wp2_with fail
  go_ret
  exact ⟨rfl, below_then (by go_grown) HB.out⟩
theorem enter13_top {y m a d y' m' : Int} {w : World} (hv : enterP (y, m) a d = (y', m')) (hy : NearI y) (hm : NearI m) (ha : NearI a) (hd : NearI d) : Calls Tryz.prog 75 #[.agg #[.int .i64 y, .int .i64 m], .int .i64 a, .int .i64 d] w fun e w' => e = .returned (.agg #[.int .i64 y', .int .i64 m']) ∧ Below w.heap.size w w' := by
  obtain ⟨y1, y2⟩ := nearI_open hy
  obtain ⟨m1, m2⟩ := nearI_open hm
  obtain ⟨a1, a2⟩ := nearI_open ha
  obtain ⟨d1, d2⟩ := nearI_open hd
  have hr : -1125899906842624 ≤ raiseI m a ∧ raiseI m a ≤ 1125899906842624 := by unfold raiseI; split <;> omega
  have HW1 := Lib.hid (show IntKind.i64.wrap (y + raiseI m a) = y + raiseI m a from wrap_far (by omega))
  have HW2 := Lib.hid (show IntKind.i64.wrap (y + raiseI m a + d) = y + raiseI m a + d from wrap_far (by omega))
  have HV := Lib.hid hv
  clear hv
  go_enter Tryz.func75, Tryz.ntmps75
  go_wp2_with fail
  generalize hW : World.alloc (World.alloc (World.alloc w _) _) _ = W
  have HX := Lib.hid (show Box W (w.heap.size + 1 + 1) (mvd y m none 0 0) by rw [← hW]; exact box_newN _ (mvd y m none 0 0) _ _ (by simp))
  have HR := Lib.hid (show Box W (w.heap.size + 1) [.int .i64 0, .int .i64 0] by rw [← hW]; exact (Box.new2' _ _ _ _ _ (by simp)).alloc _)
  have HB := Lib.hid (show Below w.heap.size w W by rw [← hW]; go_grown)
  clear hW
  refine (enter13_to HV.out HW1.out HW2.out HX.out).mono ?_
  rintro e w1 ⟨rfl, hX1, hg⟩
  have HX1 := Lib.hid hX1
  have HR1 := Lib.hid (HR.out.grown hg (fun k hk => by injection hk with hk; omega))
  have HB1 := Lib.hid (Below.grown HB.out hg HB.out.size (fun j hj => by injection hj with hj; omega))
  clear hX1 hg HX HR HB
  obtain ⟨⟨c0, c1, c2⟩, _, hlt⟩ := mvd_of HX1.out
  obtain ⟨r0, r1, f0, f1, hlr⟩ := HR1.out.of2
  go_wp2_with fail
  exact bodyPost_ret (v := .agg #[.int .i64 y', .int .i64 m']) (by simp [results, Tryz.results75, go_sem, r0, r1]) rfl ⟨rfl, (HB1.out.setCell (by simp) _).setCell (by simp) _⟩
theorem leave13_top {y m a d y' m' : Int} {w : World} (hv : leaveP (y, m) a d = (y', m')) (hy : NearI y) (hm : NearI m) (ha : NearI a) (hd : NearI d) : Calls Tryz.prog 76 #[.agg #[.int .i64 y, .int .i64 m], .int .i64 a, .int .i64 d] w fun e w' => e = .returned (.agg #[.int .i64 y', .int .i64 m']) ∧ Below w.heap.size w w' := by
  obtain ⟨y1, y2⟩ := nearI_open hy
  obtain ⟨m1, m2⟩ := nearI_open hm
  obtain ⟨a1, a2⟩ := nearI_open ha
  obtain ⟨d1, d2⟩ := nearI_open hd
  have HW1 := Lib.hid (show IntKind.i64.wrap (y + m) = y + m from wrap_far (by omega))
  have HW2 := Lib.hid (show IntKind.i64.wrap (y + m + d) = y + m + d from wrap_far (by omega))
  have HV := Lib.hid hv
  clear hv
  go_enter Tryz.func76, Tryz.ntmps76
  go_wp2_with fail
  generalize hW : World.alloc (World.alloc (World.alloc w _) _) _ = W
  have HX := Lib.hid (show Box W (w.heap.size + 1 + 1) (mvd y m none 0 0) by rw [← hW]; exact box_newN _ (mvd y m none 0 0) _ _ (by simp))
  have HR := Lib.hid (show Box W (w.heap.size + 1) [.int .i64 0, .int .i64 0] by rw [← hW]; exact (Box.new2' _ _ _ _ _ (by simp)).alloc _)
  have HB := Lib.hid (show Below w.heap.size w W by rw [← hW]; go_grown)
  clear hW
  refine (leave13_to HV.out HW1.out HW2.out HX.out).mono ?_
  rintro e w1 ⟨rfl, hX1, hg⟩
  have HX1 := Lib.hid hX1
  have HR1 := Lib.hid (HR.out.grown hg (fun k hk => by injection hk with hk; omega))
  have HB1 := Lib.hid (Below.grown HB.out hg HB.out.size (fun j hj => by injection hj with hj; omega))
  clear hX1 hg HX HR HB
  obtain ⟨⟨c0, c1, c2⟩, _, hlt⟩ := mvd_of HX1.out
  obtain ⟨r0, r1, f0, f1, hlr⟩ := HR1.out.of2
  go_wp2_with fail
  exact bodyPost_ret (v := .agg #[.int .i64 y', .int .i64 m']) (by simp [results, Tryz.results76, go_sem, r0, r1]) rfl ⟨rfl, (HB1.out.setCell (by simp) _).setCell (by simp) _⟩
theorem clear13_top {y m a y' m' : Int} {w : World} (hv : clearP (y, m) a = (y', m')) (hy : NearI y) (hm : NearI m) (ha : NearI a) : Calls Tryz.prog 74 #[.agg #[.int .i64 y, .int .i64 m], .int .i64 a] w fun e w' => e = .returned (.agg #[.int .i64 y', .int .i64 m']) ∧ Below w.heap.size w w' := by
  obtain ⟨y1, y2⟩ := nearI_open hy
  obtain ⟨m1, m2⟩ := nearI_open hm
  obtain ⟨a1, a2⟩ := nearI_open ha
  have HW1 := Lib.hid (show IntKind.i64.wrap (y + m) = y + m from wrap_far (by omega))
  have HV := Lib.hid hv
  clear hv
  go_enter Tryz.func74, Tryz.ntmps74
  go_wp2_with fail
  generalize hW : World.alloc (World.alloc (World.alloc w _) _) _ = W
  have HX := Lib.hid (show Box W (w.heap.size + 1 + 1) (mvd y m none 0 0) by rw [← hW]; exact box_newN _ (mvd y m none 0 0) _ _ (by simp))
  have HR := Lib.hid (show Box W (w.heap.size + 1) [.int .i64 0, .int .i64 0] by rw [← hW]; exact (Box.new2' _ _ _ _ _ (by simp)).alloc _)
  have HB := Lib.hid (show Below w.heap.size w W by rw [← hW]; go_grown)
  clear hW
  refine (clear13_to HV.out HW1.out HX.out).mono ?_
  rintro e w1 ⟨rfl, hX1, hg⟩
  have HX1 := Lib.hid hX1
  have HR1 := Lib.hid (HR.out.grown hg (fun k hk => by injection hk with hk; omega))
  have HB1 := Lib.hid (Below.grown HB.out hg HB.out.size (fun j hj => by injection hj with hj; omega))
  clear hX1 hg HX HR HB
  obtain ⟨⟨c0, c1, c2⟩, _, hlt⟩ := mvd_of HX1.out
  obtain ⟨r0, r1, f0, f1, hlr⟩ := HR1.out.of2
  go_wp2_with fail
  exact bodyPost_ret (v := .agg #[.int .i64 y', .int .i64 m']) (by simp [results, Tryz.results74, go_sem, r0, r1]) rfl ⟨rfl, (HB1.out.setCell (by simp) _).setCell (by simp) _⟩
theorem put13_top {y m a d : Int} {w : World} (ha : NearI a) (hd : NearI d) : Calls Tryz.prog 112 #[.agg #[.int .i64 y, .int .i64 m], .int .i64 a, .int .i64 d] w fun e w' => e = .returned (.agg #[.int .i64 (a + d), .int .i64 0]) ∧ Below w.heap.size w w' := by
  obtain ⟨a1, a2⟩ := nearI_open ha
  obtain ⟨d1, d2⟩ := nearI_open hd
  have HW1 := Lib.hid (show IntKind.i64.wrap (a + d) = a + d from wrap_far (by omega))
  go_enter Tryz.func112, Tryz.ntmps112
  go_wp2_with fail
  generalize hW : World.alloc (World.alloc (World.alloc w _) _) _ = W
  have HX := Lib.hid (show Box W (w.heap.size + 1 + 1) (mvd y m none 0 0) by rw [← hW]; exact box_newN _ (mvd y m none 0 0) _ _ (by simp))
  have HR := Lib.hid (show Box W (w.heap.size + 1) [.int .i64 0, .int .i64 0] by rw [← hW]; exact (Box.new2' _ _ _ _ _ (by simp)).alloc _)
  have HB := Lib.hid (show Below w.heap.size w W by rw [← hW]; go_grown)
  clear hW
  refine (put13_to HW1.out HX.out).mono ?_
  rintro e w1 ⟨rfl, hX1, hg⟩
  have HX1 := Lib.hid hX1
  have HR1 := Lib.hid (HR.out.grown hg (fun k hk => by injection hk with hk; omega))
  have HB1 := Lib.hid (Below.grown HB.out hg HB.out.size (fun j hj => by injection hj with hj; omega))
  clear hX1 hg HX HR HB
  obtain ⟨⟨c0, c1, c2⟩, _, hlt⟩ := mvd_of HX1.out
  obtain ⟨r0, r1, f0, f1, hlr⟩ := HR1.out.of2
  go_wp2_with fail
  exact bodyPost_ret (v := .agg #[.int .i64 (a + d), .int .i64 0]) (by simp [results, Tryz.results112, go_sem, r0, r1]) rfl ⟨rfl, (HB1.out.setCell (by simp) _).setCell (by simp) _⟩
end Go.Proofs.YtipmdhfinlkceaaGreat
namespace Go.Proofs.YtipmdhfinlkceaaGreat
open Go.ChangeShapes Go.WideShapes Go.ChangeAt Go.RowKit Go.Joins
theorem cellsNode : Tryz.prog.cellsOf 40 = 20 := by kernel_rfl
theorem cellsStyle : Tryz.prog.cellsOf 38 = 12 := by kernel_rfl
theorem cellsInt5 : Tryz.prog.cellsOf 3 = 1 := by kernel_rfl
theorem cellsInts5 : Tryz.prog.cellsOf 33 = 1 := by kernel_rfl
section
variable {H : Type} {enc : TypeId × Value → H} {W : World}
theorem trod_field {fs : Array Field} {t : TypeId} {fuel : Nat} {cs : List Value} {x : DataW H × List MemPlace} (ht : Tryz.prog.underlying t = some (.struct fs)) (h : DataW.trod enc Tryz.prog W 0 (fun _ => true) true fuel t cs = some x) :
    cs.length = Tryz.prog.cellsOf t ∧ ∃ n, ∀ (i : Nat) (f : Field), fs[i]? = some f → ∃ y, DataW.trod enc Tryz.prog W 0 (fun _ => true) true n f.type ((cs.drop f.offset).take (Tryz.prog.cellsOf f.type)) = some y := by
  obtain ⟨xs, n, _, _, hl, hlen, hf⟩ := DataW.trod_struct ht h
  refine ⟨hl, n, fun i f hi => ?_⟩
  have hlt : i < xs.length := by rw [hlen]; exact (Array.getElem?_eq_some_iff.1 hi).1
  exact ⟨xs[i], by rw [hf i f hi, List.getElem?_eq_getElem hlt]⟩
theorem trod_words {fuel : Nat} {cs : List Value} {x : DataW H × List MemPlace} (h : DataW.trod enc Tryz.prog W 0 (fun _ => true) true fuel 33 cs = some x) : ∃ A n c zs, cs = [.slice A n c] ∧ Ints W A n zs := by
  rcases open_ints Tryz.underlying33 Tryz.underlying3 cellsInt5 h with ⟨hcs, _⟩ | ⟨a, len, cap, zs, hcs, _, hl, hm, hz, _, hcell, hw⟩
  · exact ⟨none, 0, 0, [], hcs, Ints.nil _ _⟩
  · simp only [if_true] at hz
    refine ⟨_, len, cap, zs.take len, hcs, ⟨by rw [List.length_take]; omega, by unfold maxLen at hm; omega, fun hn => ?_⟩⟩
    obtain ⟨b, off, spot⟩ := a
    have hspot : spot = none := by simpa [Addr.add] using World.cell?_spot (hcell 0 (by omega))
    subst hspot
    have hc0 : ∀ k, k < len → W.cell? ⟨b, off + k, none⟩ = some (.int .i64 ((zs.take len)[k]?.getD 0)) := by
      intro k hk
      rw [← add_plain, hcell k (by omega)]
      simp [hk]
    exact ⟨b, off, rfl, cell_lt (hc0 0 hn), hc0⟩
set_option maxRecDepth 100000 in
theorem trod_sty {fuel : Nat} {cs : List Value} {x : DataW H × List MemPlace} (h : DataW.trod enc Tryz.prog W 0 (fun _ => true) true fuel 38 cs = some x) : ∃ s : Sty, cs = encS12 s := by
  obtain ⟨hl, n, hf⟩ := trod_field Tryz.underlying38 h
  rw [cellsStyle] at hl
  match cs, hl with
  | [x0, x1, x2, x3, x4, x5, x6, x7, x8, x9, x10, x11], _ =>
    obtain ⟨y0, h0⟩ := hf 0 _ rfl
    simp only [List.getElem_toArray, List.getElem_cons_zero, List.getElem_cons_succ, cellsInt5] at h0
    obtain ⟨a0, e0, _, _⟩ := DataW.trod_int Tryz.underlying3 h0
    simp at e0
    subst e0
    obtain ⟨y1, h1⟩ := hf 1 _ rfl
    simp only [List.getElem_toArray, List.getElem_cons_zero, List.getElem_cons_succ, cellsInt5] at h1
    obtain ⟨a1, e1, _, _⟩ := DataW.trod_int Tryz.underlying3 h1
    simp at e1
    subst e1
    obtain ⟨y2, h2⟩ := hf 2 _ rfl
    simp only [List.getElem_toArray, List.getElem_cons_zero, List.getElem_cons_succ, cellsInt5] at h2
    obtain ⟨a2, e2, _, _⟩ := DataW.trod_int Tryz.underlying3 h2
    simp at e2
    subst e2
    obtain ⟨y3, h3⟩ := hf 3 _ rfl
    simp only [List.getElem_toArray, List.getElem_cons_zero, List.getElem_cons_succ, cellsInt5] at h3
    obtain ⟨a3, e3, _, _⟩ := DataW.trod_int Tryz.underlying3 h3
    simp at e3
    subst e3
    obtain ⟨y4, h4⟩ := hf 4 _ rfl
    simp only [List.getElem_toArray, List.getElem_cons_zero, List.getElem_cons_succ, cellsInt5] at h4
    obtain ⟨a4, e4, _, _⟩ := DataW.trod_int Tryz.underlying3 h4
    simp at e4
    subst e4
    obtain ⟨y5, h5⟩ := hf 5 _ rfl
    simp only [List.getElem_toArray, List.getElem_cons_zero, List.getElem_cons_succ, cellsInt5] at h5
    obtain ⟨a5, e5, _, _⟩ := DataW.trod_int Tryz.underlying3 h5
    simp at e5
    subst e5
    obtain ⟨y6, h6⟩ := hf 6 _ rfl
    simp only [List.getElem_toArray, List.getElem_cons_zero, List.getElem_cons_succ, cellsInt5] at h6
    obtain ⟨a6, e6, _, _⟩ := DataW.trod_int Tryz.underlying3 h6
    simp at e6
    subst e6
    obtain ⟨y7, h7⟩ := hf 7 _ rfl
    simp only [List.getElem_toArray, List.getElem_cons_zero, List.getElem_cons_succ, cellsInt5] at h7
    obtain ⟨a7, e7, _, _⟩ := DataW.trod_int Tryz.underlying3 h7
    simp at e7
    subst e7
    obtain ⟨y8, h8⟩ := hf 8 _ rfl
    simp only [List.getElem_toArray, List.getElem_cons_zero, List.getElem_cons_succ, cellsInt5] at h8
    obtain ⟨a8, e8, _, _⟩ := DataW.trod_int Tryz.underlying3 h8
    simp at e8
    subst e8
    obtain ⟨y9, h9⟩ := hf 9 _ rfl
    simp only [List.getElem_toArray, List.getElem_cons_zero, List.getElem_cons_succ, cellsInt5] at h9
    obtain ⟨a9, e9, _, _⟩ := DataW.trod_int Tryz.underlying3 h9
    simp at e9
    subst e9
    obtain ⟨y10, h10⟩ := hf 10 _ rfl
    simp only [List.getElem_toArray, List.getElem_cons_zero, List.getElem_cons_succ, cellsInt5] at h10
    obtain ⟨a10, e10, _, _⟩ := DataW.trod_int Tryz.underlying3 h10
    simp at e10
    subst e10
    obtain ⟨y11, h11⟩ := hf 11 _ rfl
    simp only [List.getElem_toArray, List.getElem_cons_zero, List.getElem_cons_succ, cellsInt5] at h11
    obtain ⟨a11, e11, _, _⟩ := DataW.trod_int Tryz.underlying3 h11
    simp at e11
    subst e11
    exact ⟨⟨a0, a1, a2, a3, a4, a5, a6, a7, a8, a9, a10, a11⟩, rfl⟩
set_option maxRecDepth 100000 in
theorem trod_node {fuel : Nat} {cs : List Value} {x : DataW H × List MemPlace} (h : DataW.trod enc Tryz.prog W 0 (fun _ => true) true fuel 40 cs = some x) : ∃ m : NdM, cs = encM m ∧ ∃ ws, Ints W m.A m.n ws := by
  obtain ⟨hl, n, hf⟩ := trod_field Tryz.underlying40 h
  rw [cellsNode] at hl
  match cs, hl with
  | [x0, x1, x2, x3, x4, x5, x6, x7, x8, x9, x10, x11, x12, x13, x14, x15, x16, x17, x18, x19], _ =>
    obtain ⟨y0, h0⟩ := hf 0 _ rfl
    simp only [List.getElem_toArray, List.getElem_cons_zero, List.getElem_cons_succ, cellsInt5] at h0
    obtain ⟨a0, e0, _, _⟩ := DataW.trod_int Tryz.underlying3 h0
    simp at e0
    subst e0
    obtain ⟨y1, h1⟩ := hf 1 _ rfl
    simp only [List.getElem_toArray, List.getElem_cons_zero, List.getElem_cons_succ, cellsInt5] at h1
    obtain ⟨a1, e1, _, _⟩ := DataW.trod_int Tryz.underlying3 h1
    simp at e1
    subst e1
    obtain ⟨y3, h3⟩ := hf 3 _ rfl
    simp only [List.getElem_toArray, List.getElem_cons_zero, List.getElem_cons_succ, cellsInt5] at h3
    obtain ⟨a3, e3, _, _⟩ := DataW.trod_int Tryz.underlying3 h3
    simp at e3
    subst e3
    obtain ⟨y4, h4⟩ := hf 4 _ rfl
    simp only [List.getElem_toArray, List.getElem_cons_zero, List.getElem_cons_succ, cellsInt5] at h4
    obtain ⟨a4, e4, _, _⟩ := DataW.trod_int Tryz.underlying3 h4
    simp at e4
    subst e4
    obtain ⟨y6, h6⟩ := hf 6 _ rfl
    simp only [List.getElem_toArray, List.getElem_cons_zero, List.getElem_cons_succ, cellsInt5] at h6
    obtain ⟨a6, e6, _, _⟩ := DataW.trod_int Tryz.underlying3 h6
    simp at e6
    subst e6
    obtain ⟨y7, h7⟩ := hf 7 _ rfl
    simp only [List.getElem_toArray, List.getElem_cons_zero, List.getElem_cons_succ, cellsInt5] at h7
    obtain ⟨a7, e7, _, _⟩ := DataW.trod_int Tryz.underlying3 h7
    simp at e7
    subst e7
    obtain ⟨y8, h8⟩ := hf 8 _ rfl
    simp only [List.getElem_toArray, List.getElem_cons_zero, List.getElem_cons_succ, cellsInt5] at h8
    obtain ⟨a8, e8, _, _⟩ := DataW.trod_int Tryz.underlying3 h8
    simp at e8
    subst e8
    obtain ⟨y2, h2⟩ := hf 2 _ rfl
    simp only [List.getElem_toArray, List.getElem_cons_zero, List.getElem_cons_succ, cellsStyle] at h2
    obtain ⟨s, e2⟩ := trod_sty h2
    simp [encS12] at e2
    obtain ⟨rfl, rfl, rfl, rfl, rfl, rfl, rfl, rfl, rfl, rfl, rfl, rfl⟩ := e2
    obtain ⟨y5, h5⟩ := hf 5 _ rfl
    simp only [List.getElem_toArray, List.getElem_cons_zero, List.getElem_cons_succ, cellsInts5] at h5
    obtain ⟨A, k, c, ws, e5, hws⟩ := trod_words h5
    simp at e5
    subst e5
    exact ⟨⟨a0, a1, s, a3, a4, A, k, c, a6, a7, a8⟩, rfl, ws, hws⟩
theorem shows_list : ∀ (zs : List NdM), (∀ z ∈ zs, ∃ ws, Ints W z.A z.n ws) → ∃ l : List Nd, zs.length = l.length ∧ ∀ (i : Nat) (m : NdM) (x : Nd), zs[i]? = some m → l[i]? = some x → Shows W m x
  | [], _ => ⟨[], rfl, fun i m x h => by simp at h⟩
  | z :: zs, hz => by
    obtain ⟨ws, hw⟩ := hz z (by simp)
    obtain ⟨l, h1, h2⟩ := shows_list zs (fun y hy => hz y (by simp [hy]))
    refine ⟨⟨z.kind, z.size, z.sty, z.line, z.space, ws, z.side, z.w, z.h⟩ :: l, by simp [h1], fun i m x e1 e2 => ?_⟩
    cases i with
    | zero =>
      simp at e1 e2
      subst e1 e2
      exact ⟨⟨rfl, rfl, rfl, rfl, rfl, rfl, rfl, rfl⟩, hw⟩
    | succ i => exact h2 i m x (by simpa using e1) (by simpa using e2)
set_option maxRecDepth 100000 in
theorem open_nodesC {base : Nat} {v : Value} {d : DataW H} {p : List MemPlace} (hv : Value.okWide Tryz.prog W .any base 22 v) (h : DataW.Trod enc Tryz.prog W 0 (fun _ => true) true 22 v d p) :
    ∃ A n c l, v = .slice A n c ∧ (n ≤ c ∧ c ≤ 9223372036854775807) ∧ Sees W A n l := by
  obtain ⟨A, n, c, zs, h1, h2, h3, h4, h5⟩ := open_rows encM (fun m => ∃ ws, Ints W m.A m.n ws) Tryz.underlying22 cellsNode (by decide) encM_len (fun fuel cs y hy => trod_node hy) hv h
  obtain ⟨l, h6, h7⟩ := shows_list zs h5
  exact ⟨A, n, c, l, h1, ⟨h2, by unfold maxLen at h3; omega⟩, zs, h4, h6, h7⟩
end
end Go.Proofs.YtipmdhfinlkceaaGreat
namespace Go.Proofs.YtipmdhfinlkceaaGreat
open Go.RowKit
def ReadB (s : ByteArray) (r : Option (List Nd) × Nat) : Prop := (∃ k, lexB s = (none, k) ∧ r = (none, k)) ∨ (∃ toks q, lexB s = (some toks, q) ∧ Read toks s.size r)
theorem ReadB.det {s : ByteArray} {r r' : Option (List Nd) × Nat} (h : ReadB s r) (h' : ReadB s r') : r = r' := by
  rcases h with ⟨k, h1, rfl⟩ | ⟨t, q, h1, h2⟩ <;> rcases h' with ⟨k', h1', rfl⟩ | ⟨t', q', h1', h2'⟩ <;> rw [h1] at h1'
  · injection h1' with _ h; rw [h]
  · injection h1' with h _; cases h
  · injection h1' with h _; cases h
  · injection h1' with h _; injection h with h; subst h; exact h2.det h2'
def OfPost (w : World) (s : ByteArray) (e : Ending) (w' : World) : Prop :=
  (∃ x A n c, ReadB s (some x, 0) ∧ e = .returned (.tuple #[.slice A n c, .int .i64 0, .int .i64 0]) ∧ Nds w.heap.size w' A n x ∧ Below w.heap.size w w') ∨
  (∃ k : Nat, ReadB s (none, k) ∧ e = .returned (.tuple #[.slice none 0 0, .int .i64 (k : Int), .int .i64 1]) ∧ Below w.heap.size w w')
def zeroM (kind side : Int) : NdM := ⟨kind, 1, .none, 0, 0, none, 0, 0, side, 0, 0⟩
theorem int_info5 : (Tryz.prog.info? 3).map (fun i => (i.zero, i.size, i.bytes)) = some (some (.int .i64 0), 1, 8) := by kernel_rfl
theorem node_info5 : (Tryz.prog.info? 40).map (fun i => (i.zero, i.size, i.bytes)) = some (some (.agg #[.int .i64 0, .int .i64 0, .int .i64 0, .int .i64 0, .int .i64 0, .int .i64 0, .int .i64 0, .int .i64 0, .int .i64 0, .int .i64 0, .int .i64 0, .int .i64 0, .int .i64 0, .int .i64 0, .int .i64 0, .int .i64 0, .slice none 0 0, .int .i64 0, .int .i64 0, .int .i64 0]), 20, 176) := by kernel_rfl
def cellNat (w : World) (a : Addr) : Nat := match w.cell? a with
  | some (.int _ z) => z.toNat
  | _ => 0
theorem blk_not_row {w : World} {T : Nat} {t e : TypeId} {vs : List Value} {base size n : Nat} {v : Value} {xs : List Value} (h : Blk w T t vs) (hne : t ≠ e) (ho : w.ownsRow base e size v n xs) : ∀ k, v.ownBlock = some k → k ≠ T := by
  intro k hk e'
  subst e'
  rcases ho.2 with ⟨q, _⟩ | ⟨g, cap, cur, q, _, q3, _⟩
  · rw [q] at hk; cases hk
  · rw [q] at hk
    injection hk with hk
    rw [show k = g from hk.symm] at h
    rw [show w.heap[g]? = _ from h] at q3
    injection q3 with q3
    injection q3 with _ q3 _
    exact hne q3
theorem owns_one {w : World} {e : TypeId} {size base : Nat} (vs : List Value) (hl : vs.length = size) (h0 : 0 < size) (hb : base ≤ w.heap.size) (h1 : ∀ u ∈ vs, u.oneCell' = true) (n : Nat) (hn : n = w.heap.size) (cs : Array Value) (hc : cs = vs.toArray) : (w.alloc (.cells cs e)).ownsRow base e size (.slice (some ⟨n, 0, none⟩) 1 1) 1 vs := by
  subst hn hc
  exact ⟨by omega, .inr ⟨w.heap.size, 1, vs.toArray, rfl, hb, World.alloc_heap_new w _, by decide, by decide, by simp [hl], by rw [Nat.one_mul, ← hl]; simp⟩⟩
theorem yields_row {P : Program} {a : Act} {o : Oper} {S : World → Prop} (t : TypeId) (x : Operand) (ho : o.op = .load t x) (g : Nat) (hx : a.eval x = .pointer (some ⟨g, 0, none⟩)) (te : TypeId) (cs : Array Value) (d : TypeDesc)
    (hS : ∀ w, S w → w.heap[g]? = some (.cells cs te (0, 0))) (hu : P.underlying t = some d) (hd : (match d with | .struct _ | .array _ _ => true | _ => false) = true) (hi : (P.info? t).map (·.size) = some cs.size) :
    ∀ w, S w → (execOp a.eval o).run P w = .ok (.value (.agg cs)) w := fun w hw => by
  have hr := run_loadVar_row (P := P) w g te t cs (0, 0) d (hS w hw) hu hd hi
  unfold execOp
  simp only [ho, hx, Instr.loadAt, Instr.sureAddr, Sem.run_bind, Sem.run_pure, Result.andThen_ok, hr]
def ReadOk (w : World) (x : List Nd) (e : Ending) (w' : World) : Prop := ∃ A n c, e = .returned (.tuple #[.slice A n c, .int .i64 0, .int .i64 0]) ∧ Nds w.heap.size w' A n x ∧ Below w.heap.size w w'
theorem of_ok {w w' : World} {s : ByteArray} {e : Ending} {x : List Nd} (h : ReadB s (some x, 0)) (hp : OfPost w s e w') : ReadOk w x e w' := by
  rcases hp with ⟨x', A, n, c, h1, h2, h3, h4⟩ | ⟨k, h1, _⟩
  · have := h.det h1
    injection this with h5 _; injection h5 with h5; subst h5
    exact ⟨A, n, c, h2, h3, h4⟩
  · have := h.det h1
    injection this with h5 _; cases h5
def evalF (s : ByteArray) : Option (Option (List Nd) × Nat) := match lexB s with
  | (some toks, 0) => readF toks s.size
  | (none, k) => some (none, k)
  | _ => none
theorem evalF_ok {s : ByteArray} {r : Option (List Nd) × Nat} (h : evalF s = some r) : ReadB s r := by
  unfold evalF at h
  split at h
  · rename_i toks h1; exact .inr ⟨toks, 0, h1, readF_ok h⟩
  · rename_i k h1; cases h; exact .inl ⟨k, h1, rfl⟩
  · cases h
theorem rows_range {w : World} {A : Option Addr} {n k : Nat} {zs : List NdM} (h : Rows 20 encM w A n zs) (hk : k < n) : ∃ b off m, A = some ⟨b, off, none⟩ ∧ b < w.heap.size ∧ zs[k]? = some m ∧ w.rangeAt b (off + k * 20) (encM m) := by
  obtain ⟨b, off, m, h1, h2, h3, h4⟩ := h.at_ hk
  exact ⟨b, off, m, h1, h2, h3, h4⟩
theorem range_on {w : World} {b o : Nat} {cs : List Value} (h : w.rangeAt b o cs) : ∀ W', On w W' → W'.rangeAt b o cs := fun W' hW j v hv => On.cell (h j v hv) W' hW
theorem Sees.at_ {w : World} {A : Option Addr} {n k : Nat} {l : List Nd} (h : Sees w A n l) (hk : k < n) : ∃ b off m x, A = some ⟨b, off, none⟩ ∧ b < w.heap.size ∧ l[k]? = some x ∧ w.rangeAt b (off + k * 20) (encM m) ∧ Shows w m x := by
  obtain ⟨zs, h1, h2, h3⟩ := h
  obtain ⟨b, off, m, e1, e2, e3, e4⟩ := rows_range h1 hk
  have hl := h1.1
  have hx : l[k]? = some (l[k]'(by omega)) := List.getElem?_eq_getElem _
  exact ⟨b, off, m, _, e1, e2, hx, e4, h3 k m _ e3 hx⟩
theorem Sees.bound {w : World} {A : Option Addr} {n : Nat} {l : List Nd} (h : Sees w A n l) : n ≤ 9223372036854775807 := by
  obtain ⟨zs, h1, _⟩ := h
  exact h1.2.1
theorem Sees.on {w w' : World} {A : Option Addr} {n : Nat} {l : List Nd} (h : Sees w A n l) (hb : On w w') : Sees w' A n l := h.below hb
theorem Sees.nil (w : World) : Sees w none 0 [] := ⟨[], Rows.nil _ _, rfl, fun i m x h => by simp at h⟩
def PreV (l : List Nd) (w : World) (A : Option Addr) (n : Nat) : Prop := Sees w A n l ∧ n ≤ 100000
theorem PreV.below {l : List Nd} {w w' : World} {A : Option Addr} {n : Nat} (h : PreV l w A n) (hb : Below w.heap.size w w') : PreV l w' A n := ⟨h.1.below hb, h.2⟩
theorem sty_range {w : World} {g : Nat} {m : NdM} (h : Box w g (encM m)) : w.rangeAt g (0 + 2) (encS12 m.sty) := fun j v hv => by
  have hj : j < 12 := (List.getElem?_eq_some_iff.1 hv).1
  refine h.2.2 (2 + j) v ?_
  show (([.int .i64 m.kind, .int .i64 m.size] : List Value) ++ (encS12 m.sty ++ [.int .i64 m.line, .int .i64 m.space, .slice m.A m.n m.c, .int .i64 m.side, .int .i64 m.w, .int .i64 m.h]))[2 + j]? = _
  rw [List.getElem?_append_right (by simp), List.getElem?_append_left (by simp [encS12]; omega)]
  simpa using hv
theorem sty_equal0 (s : Sty) (w : World) : (Op.equalIn 10000 38 (.agg (encS12 s).toArray) (.agg #[.int .i64 0, .int .i64 0, .int .i64 0, .int .i64 0, .int .i64 0, .int .i64 0, .int .i64 0, .int .i64 0, .int .i64 0, .int .i64 0, .int .i64 0, .int .i64 0])).run Tryz.prog w = .ok (styB s .none) w := sty_equal s .none w
end Go.Proofs.YtipmdhfinlkceaaGreat
