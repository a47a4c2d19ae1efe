import Derived.Test.YtipmdhfinlkceaaJW01
import Derived.Test.YtipmdhfinlkceaaRows
import Derived.Test.YtipmdhfinlkceaaJW00
import Derived.BigQuiet
import Derived.BigRegion
import Derived.Deep.QuietTactic
import Derived.Lib.MinMax
import Derived.Lib.SmallJoins
import Derived.OwnWalk
import Derived.Deep.WholeRow
import Derived.DeepKeys
import Derived.Deep.MidRow
/- AtomsFns, BandsRef, BandsRef2, FlatOpen, LexRef, LexTok, MarginRef, MarginSt, ReadEnc, ReadMem, ReadSty, WordsRefW, AmOpen, NodeOpen, ReadAns, ReadGen, ReadScript, ReadSees, TreeRef, ValidPre, ValidSt, WordsRef2, TreePar. -/
set_option linter.unusedVariables false
set_option linter.unusedSimpArgs false
namespace Go.Proofs.Ytipmdhfinlkceaa
open Go.RowKit
theorem ahas_to {k : Int} {v : Bool} {n : Nat} (hv : (decide (0 ≤ k) && decide (k < (n : Int))) = v) (A : Option Addr) (c : Nat) (hn : n ≤ 9223372036854775807) (w : World) : Calls Try.prog 20 #[.slice A n c, .int .i64 k] w fun e w' => e = .returned (.bool v) ∧ w = w' := by
  subst hv
  by_cases h0 : 0 ≤ k
  · by_cases h1 : k < (n : Int)
    · have HV := Lib.hid (show (decide (0 ≤ k) && decide (k < (n : Int))) = true by rw [decide_eq_true h0, decide_eq_true h1]; rfl)
      go_enter Try.func20, Try.ntmps20
      go_wp2_with fail
      go_ret
      exact ⟨ret_bool (by first | exact HV.out.symm | exact (decide_eq_false (by omega)).symm), rfl⟩
    · have HV := Lib.hid (show (decide (0 ≤ k) && decide (k < (n : Int))) = false by rw [decide_eq_true h0, decide_eq_false h1]; rfl)
      have h2 : (n : Int) ≤ k := by omega
      go_enter Try.func20, Try.ntmps20
      go_wp2_with fail
      go_ret
      exact ⟨ret_bool (by first | exact HV.out.symm | exact (decide_eq_false (by omega)).symm), rfl⟩
  · have HV := Lib.hid (show (decide (0 ≤ k) && decide (k < (n : Int))) = false by rw [decide_eq_false h0]; rfl)
    have h2 : k < 0 := by omega
    go_enter Try.func20, Try.ntmps20
    go_wp2_with fail
    go_ret
    exact ⟨ret_bool (by first | exact HV.out.symm | exact (decide_eq_false (by omega)).symm), rfl⟩
theorem nhas_to {k : Int} {v : Bool} {n : Nat} (hv : (decide (0 ≤ k) && decide (k < (n : Int))) = v) (A : Option Addr) (c : Nat) (hn : n ≤ 9223372036854775807) (w : World) : Calls Try.prog 18 #[.slice A n c, .int .i64 k] w fun e w' => e = .returned (.bool v) ∧ w = w' := by
  subst hv
  by_cases h0 : 0 ≤ k
  · by_cases h1 : k < (n : Int)
    · have HV := Lib.hid (show (decide (0 ≤ k) && decide (k < (n : Int))) = true by rw [decide_eq_true h0, decide_eq_true h1]; rfl)
      go_enter Try.func18, Try.ntmps18
      go_wp2_with fail
      go_ret
      exact ⟨ret_bool (by first | exact HV.out.symm | exact (decide_eq_false (by omega)).symm), rfl⟩
    · have HV := Lib.hid (show (decide (0 ≤ k) && decide (k < (n : Int))) = false by rw [decide_eq_true h0, decide_eq_false h1]; rfl)
      have h2 : (n : Int) ≤ k := by omega
      go_enter Try.func18, Try.ntmps18
      go_wp2_with fail
      go_ret
      exact ⟨ret_bool (by first | exact HV.out.symm | exact (decide_eq_false (by omega)).symm), rfl⟩
  · have HV := Lib.hid (show (decide (0 ≤ k) && decide (k < (n : Int))) = false by rw [decide_eq_false h0]; rfl)
    have h2 : k < 0 := by omega
    go_enter Try.func18, Try.ntmps18
    go_wp2_with fail
    go_ret
    exact ⟨ret_bool (by first | exact HV.out.symm | exact (decide_eq_false (by omega)).symm), rfl⟩
theorem am_at {w : World} {A : Option Addr} {n : Nat} {l : List Am} (h : Rows 8 encAm w A n l) {j : Nat} (hj : j < n) : ∃ b off x, A = some ⟨b, off, none⟩ ∧ b < w.heap.size ∧ l[j]? = some x ∧ w.cell? ⟨b, off + j * 8 + 1, none⟩ = some (.int .i64 x.node) ∧ w.cell? ⟨b, off + j * 8 + 5, none⟩ = some (.int .i64 x.y) ∧ w.cell? ⟨b, off + j * 8 + 7, none⟩ = some (.int .i64 x.h) := by
  obtain ⟨b, off, x, e, hl, hx, hc⟩ := h.at_ hj
  exact ⟨b, off, x, e, hl, hx, hc 1 _ rfl, hc 5 _ rfl, hc 7 _ rfl⟩
set_option maxHeartbeats 2000000 in
set_option maxRecDepth 100000 in
theorem abot_to {l : List Am} {k v : Int} (hv : botI l k = v) (hnr : ∀ x ∈ l, x.near) {A : Option Addr} {n c : Nat} {w : World} (h : Rows 8 encAm w A n l) :
    Calls Try.prog 11 #[.slice A n c, .int .i64 k] w fun e w' => e = .returned (.int .i64 v) ∧ Below w.heap.size w w' := by
  have hl := h.len
  have hn := h.2.1
  by_cases hk : 0 ≤ k ∧ k < (n : Int)
  · obtain ⟨j, rfl⟩ : ∃ j : Nat, k = (j : Int) := ⟨k.toNat, by omega⟩
    have hj : j < n := by omega
    have hj2 : (j : Int) < (n : Int) := by omega
    obtain ⟨b, off, x, rfl, hb, hx, c1, c5, c7⟩ := am_at h hj
    have HB := Lib.hid (show (decide ((0 : Int) ≤ (j : Int)) && decide ((j : Int) < (n : Int))) = true by rw [decide_eq_true hk.1, decide_eq_true hk.2]; rfl)
    have hnx := hnr x (List.mem_of_getElem? hx)
    obtain ⟨⟨y0, y1⟩, h0, h1⟩ := hnx
    have HV := Lib.hid (show v = x.y + x.h by rw [← hv]; unfold botI; rw [amAt_nat, hx])
    have hw : IntKind.i64.wrap (x.y + x.h) = x.y + x.h := IntWalk.i64_in _ (by omega)
    obtain ⟨p0, p1, p2, p3, p4, p5, p6, p7⟩ := x
    simp only at c5 c7 hw HV y0 y1 h0 h1
    clear h hv hl hx hk hnr c1
    go_enter Try.func11, Try.ntmps11
    go_wp2_with fail
    refine (ahas_to HB.out _ _ (by omega) _).mono ?_
    rintro e w1 ⟨rfl, rfl⟩
    go_wp2_with fail
    go_region
    go_wp2_with fail
    go_ret
    exact ⟨ret_int HV.out.symm, by go_grown⟩
  · have HB := Lib.hid (show (decide ((0 : Int) ≤ k) && decide (k < (n : Int))) = false by
      rcases Decidable.not_and_iff_not_or_not.1 hk with h9 | h9
      · rw [decide_eq_false h9]; rfl
      · rw [decide_eq_false h9, Bool.and_false])
    have HV := Lib.hid (show v = 0 by rw [← hv]; unfold botI; rw [amAt_none (by rw [hl]; exact hk)])
    clear h hv hl hk hnr
    go_enter Try.func11, Try.ntmps11
    go_wp2_with fail
    refine (ahas_to HB.out _ _ (by omega) _).mono ?_
    rintro e w1 ⟨rfl, rfl⟩
    go_wp2_with fail
    go_ret
    exact ⟨ret_int HV.out.symm, by go_grown⟩
theorem am_in {k : Int} {n : Nat} (hk : 0 ≤ k ∧ k < (n : Int)) : (decide ((0 : Int) ≤ k) && decide (k < (n : Int))) = true := by rw [decide_eq_true hk.1, decide_eq_true hk.2]; rfl
theorem am_out {k : Int} {n : Nat} (hk : ¬ (0 ≤ k ∧ k < (n : Int))) : (decide ((0 : Int) ≤ k) && decide (k < (n : Int))) = false := by
  rcases Decidable.not_and_iff_not_or_not.1 hk with h9 | h9
  · rw [decide_eq_false h9]; rfl
  · rw [decide_eq_false h9, Bool.and_false]
set_option maxHeartbeats 2000000 in
set_option maxRecDepth 100000 in
theorem agap_to {l : List Am} {k v : Int} (hv : gapI l k = v) (hnr : ∀ x ∈ l, x.near) {A : Option Addr} {n c : Nat} {w : World} (h : Rows 8 encAm w A n l) :
    Calls Try.prog 10 #[.slice A n c, .int .i64 k] w fun e w' => e = .returned (.int .i64 v) ∧ Below w.heap.size w w' := by
  have hl := h.len
  have hn := h.2.1
  by_cases hk : 0 ≤ k ∧ k < (n : Int)
  · obtain ⟨j, rfl⟩ : ∃ j : Nat, k = (j : Int) := ⟨k.toNat, by omega⟩
    have hj : j < n := by omega
    have hj2 : (j : Int) < (n : Int) := by omega
    have HB := Lib.hid (am_in hk)
    have HR := Lib.hid h
    have HNR := Lib.hid hnr
    obtain ⟨b, off, x, rfl, hb, hx, c1, c5, c7⟩ := am_at h hj
    have hnx := hnr x (List.mem_of_getElem? hx)
    obtain ⟨⟨y0, y1⟩, h0, h1⟩ := hnx
    obtain ⟨u, hu⟩ : ∃ u, botI l ((j : Int) - 1) = u := ⟨_, rfl⟩
    have hub := bot_bd hnr ((j : Int) - 1)
    rw [hu] at hub
    obtain ⟨hu0, hu1⟩ := hub
    have HU := Lib.hid hu
    have HV := Lib.hid (show v = x.y - u by rw [← hv]; unfold gapI; rw [amAt_nat, hx, ← hu])
    have hw : IntKind.i64.wrap (x.y - u) = x.y - u := IntWalk.i64_in _ (by omega)
    obtain ⟨p0, p1, p2, p3, p4, p5, p6, p7⟩ := x
    simp only at c5 c7 hw HV y0 y1 h0 h1
    clear h hv hl hx hk hnr c1 c7 hu
    go_enter Try.func10, Try.ntmps10
    go_wp2_with fail
    refine (ahas_to HB.out _ _ (by omega) _).mono ?_
    rintro e w1 ⟨rfl, rfl⟩
    go_wp2_with fail
    have k5 : ∀ p : OnW w, p.w.cell? ⟨b, off + j * 8 + 5, none⟩ = some (.int .i64 p5) := OnW.cell c5
    have HC := fun p : OnW w => abot_to (c := c) HU.out HNR.out (HR.out.on p.h)
    refine wp_region_on (by kernel_rfl) (by kernel_rfl) ?_
    repeat (go_big_quiet_step (first | (go_at_call 11; with_reducible exact Calls.on_of (HC _))))
    refine wpQuiet_nil ?_
    intro w5 hw'
    obtain ⟨⟨w6, hOn⟩, hw''⟩ := hw'
    obtain rfl : w5 = w6 := hw''
    go_wp2_with fail
    go_ret
    exact ⟨ret_int HV.out.symm, hOn⟩
  · have HB := Lib.hid (am_out hk)
    have HV := Lib.hid (show v = 0 by rw [← hv]; unfold gapI; rw [amAt_none (by rw [hl]; exact hk)])
    clear h hv hl hk hnr
    go_enter Try.func10, Try.ntmps10
    go_wp2_with fail
    refine (ahas_to HB.out _ _ (by omega) _).mono ?_
    rintro e w1 ⟨rfl, rfl⟩
    go_wp2_with fail
    go_ret
    exact ⟨ret_int HV.out.symm, by go_grown⟩
set_option maxHeartbeats 2000000 in
set_option maxRecDepth 100000 in
theorem aoff_to {l : List Am} {i k v : Int} (hv : offI l i k = v) (hnr : ∀ x ∈ l, x.near) {A : Option Addr} {n c : Nat} {w : World} (h : Rows 8 encAm w A n l) :
    Calls Try.prog 13 #[.slice A n c, .int .i64 i, .int .i64 k] w fun e w' => e = .returned (.int .i64 v) ∧ Below w.heap.size w w' := by
  have hl := h.len
  have hn := h.2.1
  by_cases hi : 0 ≤ i ∧ i < (n : Int)
  · by_cases hk : 0 ≤ k ∧ k < (n : Int)
    · obtain ⟨j, rfl⟩ : ∃ j : Nat, k = (j : Int) := ⟨k.toNat, by omega⟩
      obtain ⟨m, rfl⟩ : ∃ m : Nat, i = (m : Int) := ⟨i.toNat, by omega⟩
      have hj : j < n := by omega
      have hj2 : (j : Int) < (n : Int) := by omega
      have hm : m < n := by omega
      have hm2 : (m : Int) < (n : Int) := by omega
      have HB := Lib.hid (am_in hi)
      have HB2 := Lib.hid (am_in hk)
      obtain ⟨b, off, x, rfl, hb, hx, c1, c5, c7⟩ := am_at h hj
      obtain ⟨b', off', y, e, hb', hy, d1, d5, d7⟩ := am_at h hm
      injection e with e
      injection e with e1 e2 e3
      subst e1 e2
      have hnx := hnr x (List.mem_of_getElem? hx)
      obtain ⟨⟨y0, y1⟩, h0, h1⟩ := hnx
      have hny := hnr y (List.mem_of_getElem? hy)
      obtain ⟨⟨z0, z1⟩, h2, h3⟩ := hny
      have HV := Lib.hid (show v = x.y - y.y by rw [← hv]; unfold offI; rw [amAt_nat, amAt_nat, hx, hy])
      have hw : IntKind.i64.wrap (x.y - y.y) = x.y - y.y := IntWalk.i64_in _ (by omega)
      obtain ⟨p0, p1, p2, p3, p4, p5, p6, p7⟩ := x
      obtain ⟨q0, q1, q2, q3, q4, q5, q6, q7⟩ := y
      simp only at c5 d5 hw HV y0 y1 z0 z1
      clear h hv hl hx hy hk hi hnr c1 d1 c7 d7 h0 h1 h2 h3
      go_enter Try.func13, Try.ntmps13
      go_wp2_with fail
      refine (ahas_to HB.out _ _ (by omega) _).mono ?_
      rintro e w1 ⟨rfl, rfl⟩
      go_wp2_with fail
      refine (ahas_to HB2.out _ _ (by omega) _).mono ?_
      rintro e w1 ⟨rfl, rfl⟩
      go_wp2_with fail
      go_region
      go_wp2_with fail
      go_ret
      exact ⟨ret_int HV.out.symm, by go_grown⟩
    · have HB := Lib.hid (am_in hi)
      have HB2 := Lib.hid (am_out hk)
      have HV := Lib.hid (show v = 0 by rw [← hv]; unfold offI; rw [amAt_none (k := k) (by rw [hl]; exact hk)]; cases amAt l i <;> rfl)
      clear h hv hl hk hi hnr
      go_enter Try.func13, Try.ntmps13
      go_wp2_with fail
      refine (ahas_to HB.out _ _ (by omega) _).mono ?_
      rintro e w1 ⟨rfl, rfl⟩
      go_wp2_with fail
      refine (ahas_to HB2.out _ _ (by omega) _).mono ?_
      rintro e w1 ⟨rfl, rfl⟩
      go_wp2_with fail
      go_ret
      exact ⟨ret_int HV.out.symm, by go_grown⟩
  · have HB := Lib.hid (am_out hi)
    have HV := Lib.hid (show v = 0 by rw [← hv]; unfold offI; rw [amAt_none (k := i) (by rw [hl]; exact hi)])
    clear h hv hl hi hnr
    go_enter Try.func13, Try.ntmps13
    go_wp2_with fail
    refine (ahas_to HB.out _ _ (by omega) _).mono ?_
    rintro e w1 ⟨rfl, rfl⟩
    go_wp2_with fail
    go_ret
    exact ⟨ret_int HV.out.symm, by go_grown⟩
set_option maxHeartbeats 2000000 in
set_option maxRecDepth 100000 in
theorem ahigh_to {l : List Am} {i k v : Int} (hv : highI l i k = v) (hnr : ∀ x ∈ l, x.near) (hkb : k ≤ 9223372036854775807) {A : Option Addr} {n c : Nat} {w : World} (h : Rows 8 encAm w A n l) :
    Calls Try.prog 12 #[.slice A n c, .int .i64 i, .int .i64 k] w fun e w' => e = .returned (.int .i64 v) ∧ Below w.heap.size w w' := by
  have hl := h.len
  have hn := h.2.1
  by_cases hki : k ≤ i
  · have HV := Lib.hid (show v = 0 by rw [← hv]; unfold highI; rw [if_pos hki])
    clear h hv hl hnr
    go_enter Try.func12, Try.ntmps12
    go_wp2_with fail
    go_ret
    exact ⟨ret_int HV.out.symm, by go_grown⟩
  have hki2 : i < k := by omega
  by_cases hi : 0 ≤ i ∧ i < (n : Int)
  · have hwk : IntKind.i64.wrap (k - 1) = k - 1 := IntWalk.i64_in _ (by omega)
    by_cases hk : 0 ≤ k - 1 ∧ k - 1 < (n : Int)
    · obtain ⟨m, rfl⟩ : ∃ m : Nat, i = (m : Int) := ⟨i.toNat, by omega⟩
      have hm : m < n := by omega
      have hm2 : (m : Int) < (n : Int) := by omega
      have HB := Lib.hid (am_in hi)
      have HB2 := Lib.hid (am_in hk)
      have HR := Lib.hid h
      have HNR := Lib.hid hnr
      obtain ⟨b, off, x, rfl, hb, hx, c1, c5, c7⟩ := am_at h hm
      obtain ⟨z, hz, _⟩ := amAt_some (l := l) hk.1 (by rw [hl]; exact hk.2)
      have hnx := hnr x (List.mem_of_getElem? hx)
      obtain ⟨⟨y0, y1⟩, h0, h1⟩ := hnx
      obtain ⟨u, hu⟩ : ∃ u, botI l (k - 1) = u := ⟨_, rfl⟩
      have hub := bot_bd hnr (k - 1)
      rw [hu] at hub
      obtain ⟨hu0, hu1⟩ := hub
      have HU := Lib.hid hu
      have HV := Lib.hid (show v = u - x.y by rw [← hv]; unfold highI; rw [if_neg hki, amAt_nat, hx, hz, ← hu])
      have hw : IntKind.i64.wrap (u - x.y) = u - x.y := IntWalk.i64_in _ (by omega)
      obtain ⟨p0, p1, p2, p3, p4, p5, p6, p7⟩ := x
      simp only at c5 hw HV y0 y1 h0 h1
      clear h hv hl hx hk hi hnr c1 c7 hu hz
      go_enter Try.func12, Try.ntmps12
      go_wp2_with fail
      refine (ahas_to HB.out _ _ (by omega) _).mono ?_
      rintro e w1 ⟨rfl, rfl⟩
      go_wp2_with fail
      refine (ahas_to HB2.out _ _ (by omega) _).mono ?_
      rintro e w1 ⟨rfl, rfl⟩
      go_wp2_with fail
      have k5 : ∀ p : OnW w, p.w.cell? ⟨b, off + m * 8 + 5, none⟩ = some (.int .i64 p5) := OnW.cell c5
      have HC := fun p : OnW w => abot_to (c := c) HU.out HNR.out (HR.out.on p.h)
      refine wp_region_on (by kernel_rfl) (by kernel_rfl) ?_
      repeat (go_big_quiet_step (first | (go_at_call 11; with_reducible exact Calls.on_of (HC _))))
      refine wpQuiet_nil ?_
      intro w5 hw'
      obtain ⟨⟨w6, hOn⟩, hw''⟩ := hw'
      obtain rfl : w5 = w6 := hw''
      go_wp2_with fail
      go_ret
      exact ⟨ret_int HV.out.symm, hOn⟩
    · have HB := Lib.hid (am_in hi)
      have HB2 := Lib.hid (am_out hk)
      have HV := Lib.hid (show v = 0 by rw [← hv]; unfold highI; rw [if_neg hki, amAt_none (k := k - 1) (by rw [hl]; exact hk)]; cases amAt l i <;> rfl)
      clear h hv hl hk hi hnr
      go_enter Try.func12, Try.ntmps12
      go_wp2_with fail
      refine (ahas_to HB.out _ _ (by omega) _).mono ?_
      rintro e w1 ⟨rfl, rfl⟩
      go_wp2_with fail
      refine (ahas_to HB2.out _ _ (by omega) _).mono ?_
      rintro e w1 ⟨rfl, rfl⟩
      go_wp2_with fail
      go_ret
      exact ⟨ret_int HV.out.symm, by go_grown⟩
  · have HB := Lib.hid (am_out hi)
    have HV := Lib.hid (show v = 0 by rw [← hv]; unfold highI; rw [if_neg hki, amAt_none (k := i) (by rw [hl]; exact hi)])
    clear h hv hl hi hnr
    go_enter Try.func12, Try.ntmps12
    go_wp2_with fail
    refine (ahas_to HB.out _ _ (by omega) _).mono ?_
    rintro e w1 ⟨rfl, rfl⟩
    go_wp2_with fail
    go_ret
    exact ⟨ret_int HV.out.symm, by go_grown⟩
theorem fl_at {w : World} {A : Option Addr} {n : Nat} {l : List Fl} (h : Rows 7 encFl w A n l) {i : Nat} (hi : i < n) :
    ∃ b off f, A = some ⟨b, off, none⟩ ∧ b < w.heap.size ∧ l[i]? = some f ∧ (w.cell? ⟨b, off + i * 7, none⟩ = some (.int .i64 f.node) ∧ w.cell? ⟨b, off + i * 7 + 1, none⟩ = some (.int .i64 f.side) ∧ w.cell? ⟨b, off + i * 7 + 2, none⟩ = some (.int .i64 f.anchor) ∧
      w.cell? ⟨b, off + i * 7 + 3, none⟩ = some (.int .i64 f.x) ∧ w.cell? ⟨b, off + i * 7 + 4, none⟩ = some (.int .i64 f.y) ∧ w.cell? ⟨b, off + i * 7 + 5, none⟩ = some (.int .i64 f.w) ∧ w.cell? ⟨b, off + i * 7 + 6, none⟩ = some (.int .i64 f.h)) := by
  obtain ⟨b, off, f, h1, h2, h3, h4⟩ := h.at_ hi
  exact ⟨b, off, f, h1, h2, h3, h4 0 _ rfl, h4 1 _ rfl, h4 2 _ rfl, h4 3 _ rfl, h4 4 _ rfl, h4 5 _ rfl, h4 6 _ rfl⟩
theorem Box.of7 {w : World} {n : Nat} {f : Fl} (h : Box w n (encFl f)) : (w.cell? ⟨n, 0, none⟩ = some (.int .i64 f.node) ∧ w.cell? ⟨n, 1, none⟩ = some (.int .i64 f.side) ∧ w.cell? ⟨n, 2, none⟩ = some (.int .i64 f.anchor) ∧ w.cell? ⟨n, 3, none⟩ = some (.int .i64 f.x) ∧
    w.cell? ⟨n, 4, none⟩ = some (.int .i64 f.y) ∧ w.cell? ⟨n, 5, none⟩ = some (.int .i64 f.w) ∧ w.cell? ⟨n, 6, none⟩ = some (.int .i64 f.h)) ∧ n < w.heap.size :=
  ⟨⟨h.2.2 0 _ rfl, h.2.2 1 _ rfl, h.2.2 2 _ rfl, h.2.2 3 _ rfl, h.2.2 4 _ rfl, h.2.2 5 _ rfl, h.2.2 6 _ rfl⟩, h.1⟩
theorem box7 (w : World) (f : Fl) (t : TypeId) : Box (w.alloc (.cells #[.int .i64 f.node, .int .i64 f.side, .int .i64 f.anchor, .int .i64 f.x, .int .i64 f.y, .int .i64 f.w, .int .i64 f.h] t)) w.heap.size (encFl f) := Box.new w (encFl f) t
set_option maxHeartbeats 1000000 in
set_option maxRecDepth 100000 in
theorem rmeets_to {f : Fl} {y high : Int} {v : Bool} (hv : meetsF f y high = v) (hn : f.near) (hy : NearY y) (hh : NearI high) (w : World) :
    Calls Try.prog 61 #[.agg #[.int .i64 f.node, .int .i64 f.side, .int .i64 f.anchor, .int .i64 f.x, .int .i64 f.y, .int .i64 f.w, .int .i64 f.h], .int .i64 y, .int .i64 high] w fun e w' => e = .returned (.bool v) ∧ Below w.heap.size w w' := by
  obtain ⟨f0, f1, f2, f3, f4, f5, f6⟩ := f
  obtain ⟨_, ⟨n1, n2⟩, _, ⟨n3, n4⟩⟩ := hn
  obtain ⟨y1, y2⟩ := hy
  obtain ⟨h1, h2⟩ := hh
  unfold farB at *
  simp only at n1 n2 n3 n4 ⊢
  have hw1 : IntKind.i64.wrap (y + max high 1) = y + max high 1 := IntWalk.i64_in _ (by omega)
  have hw2 : IntKind.i64.wrap (f4 + f6) = f4 + f6 := IntWalk.i64_in _ (by omega)
  unfold meetsF at hv
  simp only at hv
  by_cases a1 : 0 < f6
  · by_cases a2 : f4 < y + max high 1
    · by_cases a3 : y < f4 + f6
      · have HV := Lib.hid (show true = v by rw [← hv, decide_eq_true a1, decide_eq_true a2, decide_eq_true a3]; rfl)
        clear hv
        go_enter Try.func61, Try.ntmps61
        go_wp2_with fail
        go_ret
        exact ⟨ret_bool HV.out, by go_grown⟩
      · have HV := Lib.hid (show false = v by rw [← hv, decide_eq_false a3, Bool.and_false, Bool.and_false])
        have a4 : f4 + f6 ≤ y := by omega
        clear hv
        go_enter Try.func61, Try.ntmps61
        go_wp2_with fail
        go_ret
        exact ⟨ret_bool HV.out, by go_grown⟩
    · have HV := Lib.hid (show false = v by rw [← hv, decide_eq_false a2, Bool.false_and, Bool.and_false])
      have a4 : y + max high 1 ≤ f4 := by omega
      clear hv
      go_enter Try.func61, Try.ntmps61
      go_wp2_with fail
      go_ret
      exact ⟨ret_bool HV.out, by go_grown⟩
  · have HV := Lib.hid (show false = v by rw [← hv, decide_eq_false a1, Bool.false_and])
    have a4 : f6 ≤ 0 := by omega
    clear hv
    go_enter Try.func61, Try.ntmps61
    go_wp2_with fail
    go_ret
    exact ⟨ret_bool HV.out, by go_grown⟩
set_option maxHeartbeats 4000000 in
set_option maxRecDepth 100000 in
theorem rof10_to {l : List Fl} {y high a b p q : Int} (hv : bandL l y high (a, b) = (p, q)) (hn : ∀ f ∈ l, f.near) (hy : NearY y) (hh : NearI high) {A : Option Addr} {n c : Nat} {w : World} (h : Rows 7 encFl w A n l) :
    Calls Try.prog 50 #[.slice A n c, .int .i64 y, .int .i64 high, .agg #[.int .i64 a, .int .i64 b]] w fun e w' => e = .returned (.agg #[.int .i64 p, .int .i64 q]) ∧ Below w.heap.size w w' := by
  have HA := Lib.hid h
  have HL := Lib.hid h.1
  have hnb := h.2.1
  have HV := Lib.hid hv
  have HN := Lib.hid hn
  have HY := Lib.hid hy
  have HH := Lib.hid hh
  clear h hv hn hy hh
  obtain ⟨V, hV⟩ : ∃ V, (w.alloc (.cells #[.int .i64 a, .int .i64 b] 84)).alloc (.cells #[.int .i64 0, .int .i64 0] 84) = V := ⟨_, rfl⟩
  have HB0 := Lib.hid (show Below w.heap.size w V by rw [← hV]; go_grown)
  have HD0 := Lib.hid (show Box V w.heap.size [.int .i64 a, .int .i64 b] by rw [← hV]; exact (Box.new2 _ _ _ _).alloc _)
  have HR0 := Lib.hid (show Box V (w.heap.size + 1) [.int .i64 0, .int .i64 0] by rw [← hV]; exact Box.new2' _ _ _ _ _ (by simp))
  have HVV := Lib.hid hV
  clear hV
  go_enter Try.func50, Try.ntmps50
  go_wp2_with fail
  rw [HVV.out]
  go_loopw [9, 10] (fun i f wr => ∃ (k : Nat) (s t : Int), i = .int .i64 (k : Int) ∧ k ≤ n ∧ Hid ((l.take k).foldl (bandStep y high) (a, b) = (s, t)) ∧ Hid (Box wr w.heap.size [.int .i64 s, .int .i64 t]) ∧ Hid (Box wr (w.heap.size + 1) [.int .i64 0, .int .i64 0]) ∧ Hid (Below w.heap.size w wr)) (fun i _ _ => n - (intOf i).toNat)
  case atStart => exact ⟨0, a, b, rfl, Nat.zero_le _, Lib.hid rfl, HD0, HR0, HB0⟩
  case round =>
    obtain ⟨k, s, t, rfl, hkn, HF, HD, HR, HB⟩ := hrel
    by_cases hlt : k < n
    · have hlt2 : (k : Int) < (n : Int) := by omega
      obtain ⟨b1, o1, f, rfl, hb1, hf, q0, q1, q2, q3, q4, q5, q6⟩ := fl_at (HA.out.below HB.out) hlt
      have HST := Lib.hid (foldl_one (bandStep y high) (a, b) hf)
      have HFN := Lib.hid (HN.out f (List.mem_of_getElem? hf))
      obtain ⟨v, hv⟩ : ∃ v, meetsF f y high = v := ⟨_, rfl⟩
      have HM := Lib.hid hv
      have hxb := HFN.out.1
      have hwb := HFN.out.2.2.1
      have HBX := Lib.hid (box7 wr f 70)
      obtain ⟨f0, f1, f2, f3, f4, f5, f6⟩ := f
      simp only at q0 q1 q2 q3 q4 q5 q6 hxb hwb
      obtain ⟨x1, x2⟩ := hxb
      obtain ⟨w1', w2'⟩ := hwb
      unfold farB at x1 x2 w1' w2'
      have hwr : IntKind.i64.wrap (f3 + f5) = f3 + f5 := IntWalk.i64_in _ (by omega)
      have HG := Lib.hid (show Below w.heap.size w (wr.alloc (.cells #[.int .i64 f0, .int .i64 f1, .int .i64 f2, .int .i64 f3, .int .i64 f4, .int .i64 f5, .int .i64 f6] 70)) from HB.out.alloc (by have := HB.out.size; omega) _)
      have HDG := Lib.hid (HD.out.alloc (.cells #[.int .i64 f0, .int .i64 f1, .int .i64 f2, .int .i64 f3, .int .i64 f4, .int .i64 f5, .int .i64 f6] 70))
      have HRG := Lib.hid (HR.out.alloc (.cells #[.int .i64 f0, .int .i64 f1, .int .i64 f2, .int .i64 f3, .int .i64 f4, .int .i64 f5, .int .i64 f6] 70))
      clear hf hv
      go_wp2_with fail
      refine (rmeets_to HM.out HFN.out HY.out HH.out _).mono ?_
      rintro e w5 ⟨rfl, hb5⟩
      have HB5 := Lib.hid (below_then HG.out hb5)
      have HD5 := Lib.hid (HDG.out.below hb5)
      have HR5 := Lib.hid (HRG.out.below hb5)
      obtain ⟨⟨p0, p1, p2, p3, p4, p5, p6⟩, hBl⟩ := (HBX.out.below hb5).of7
      simp only at p0 p1 p2 p3 p4 p5 p6
      obtain ⟨d0, d1, d2, d3, d4⟩ := HD5.out.of2
      clear hb5 q0 q1 q2 q3 q4 q5 q6 HG HDG HRG HBX
      cases v with
      | false =>
        have HS := Lib.hid (show (l.take (k + 1)).foldl (bandStep y high) (a, b) = (s, t) by rw [HST.out, HF.out]; unfold bandStep; rw [HM.out, if_neg (by decide)])
        go_wp2_with fail
        go_roundw
        case rel => exact ⟨k + 1, s, t, by go_num, by omega, HS, HD5, HR5, HB5⟩
        case measure => simp [intOf] <;> omega
      | true =>
        by_cases hs : f1 = 1
        · have HS := Lib.hid (show (l.take (k + 1)).foldl (bandStep y high) (a, b) = (max s (f3 + f5), t) by rw [HST.out, HF.out]; unfold bandStep; rw [HM.out, if_pos rfl, if_pos hs])
          have hsb : (f1 == 1) = true := by simpa using hs
          have HD6 := Lib.hid (HD5.out.set 0 (.int .i64 (max s (f3 + f5))) (by simp))
          have HR6 := Lib.hid (HR5.out.set_other (m := w.heap.size) (by omega) 0 (.int .i64 (max s (f3 + f5))))
          have HB6 := Lib.hid (HB5.out.setCell (p := ⟨w.heap.size, 0, none⟩) (Nat.le_refl _) (.int .i64 (max s (f3 + f5))))
          clear hs
          go_wp2_with fail
          go_roundw
          case rel => exact ⟨k + 1, _, _, by go_num, by omega, HS, HD6, HR6, HB6⟩
          case measure => simp [intOf] <;> omega
        · have HS := Lib.hid (show (l.take (k + 1)).foldl (bandStep y high) (a, b) = (s, min t f3) by rw [HST.out, HF.out]; unfold bandStep; rw [HM.out, if_pos rfl, if_neg hs])
          have hsb : (f1 == 1) = false := by simpa using hs
          have HD6 := Lib.hid (HD5.out.set 1 (.int .i64 (min t f3)) (by simp))
          have HR6 := Lib.hid (HR5.out.set_other (m := w.heap.size) (by omega) 1 (.int .i64 (min t f3)))
          have HB6 := Lib.hid (HB5.out.setCell (p := ⟨w.heap.size, 1, none⟩) (Nat.le_refl _) (.int .i64 (min t f3)))
          clear hs
          go_wp2_with fail
          go_roundw
          case rel => exact ⟨k + 1, _, _, by go_num, by omega, HS, HD6, HR6, HB6⟩
          case measure => simp [intOf] <;> omega
    · have hge : (n : Int) ≤ (k : Int) := by omega
      have HE := Lib.hid (show (s, t) = (p, q) by rw [← HV.out, ← HF.out, List.take_of_length_le (by have := HL.out; omega)]; rfl)
      obtain ⟨d0, d1, d2, d3, d4⟩ := HD.out.of2
      obtain ⟨r0, r1, r2, r3, r4⟩ := HR.out.of2
      go_wp2_with fail
      have he := HE.out
      injection he with e1 e2
      subst e1 e2
      have hY := (HR.out.set 0 (.int .i64 s) (by simp)).set 1 (.int .i64 t) (by simp)
      have s0 := hY.2.2 0 _ rfl
      have s1 := hY.2.2 1 _ rfl
      exact bodyPost_ret (v := .agg #[.int .i64 s, .int .i64 t]) (by simp [results, Try.results50, go_sem, s0, s1]) rfl ⟨rfl, (HB.out.setCell (by simp) _).setCell (by simp) _⟩
end Go.Proofs.Ytipmdhfinlkceaa
namespace Go.Proofs.Ytipmdhfinlkceaa
open Go.ChangeShapes Go.WideShapes Go.ChangeAt Go.RowKit Go.Joins
theorem cellsOne : Try.prog.cellsOf 3 = 1 := by kernel_rfl
section
variable {H : Type} {enc : TypeId × Value → H} {W : World}
theorem trod_flat {fs : Array Field} {t : TypeId} {fuel : Nat} {cs : List Value} {x : DataW H × List MemPlace} (ht : Try.prog.underlying t = some (.struct fs)) (h : DataW.trod enc Try.prog W 0 (fun _ => true) true fuel t cs = some x) :
    cs.length = Try.prog.cellsOf t ∧ ∃ n, ∀ (i : Nat) (f : Field), fs[i]? = some f → ∃ y, DataW.trod enc Try.prog W 0 (fun _ => true) true n f.type ((cs.drop f.offset).take (Try.prog.cellsOf f.type)) = some y := by
  obtain ⟨xs, n, _, _, hl, hlen, hf⟩ := DataW.trod_struct ht h
  refine ⟨hl, n, fun i f hi => ?_⟩
  have hlt : i < xs.length := by rw [hlen]; exact (Array.getElem?_eq_some_iff.1 hi).1
  exact ⟨xs[i], by rw [hf i f hi, List.getElem?_eq_getElem hlt]⟩
end
end Go.Proofs.Ytipmdhfinlkceaa
namespace Go.Proofs.Ytipmdhfinlkceaa
open Go.RowKit
theorem in_any (s : ByteArray) (k : Nat) (a b : Int) (w : World) (hk : k ≤ 1000000) (hs : s.size ≤ 1000000) : Calls Try.prog 30 #[.string s, .int .i64 k, .int .u8 a, .int .u8 b] w fun e w' => e = .returned (.bool (inB s k a b)) ∧ w = w' := by
  by_cases h1 : k < s.size
  · have hb := bAt_get s k h1
    have h2 : (k : Int) < (s.size : Int) := by omega
    by_cases h3 : a ≤ bAt s k
    all_goals
      go_enter Try.func30, Try.ntmps30
      go_wp2
      go_ret
      exact ⟨ret_bool (by rw [inB_at h1]; first | (simp [h3]; done) | (rw [decide_eq_false (show ¬ a ≤ bAt s k by omega)]; rfl)), rfl⟩
  · have h2 : (s.size : Int) ≤ (k : Int) := by omega
    go_enter Try.func30, Try.ntmps30
    go_wp2
    go_ret
    exact ⟨ret_bool (inB_ge h1 a b).symm, rfl⟩
theorem in_at {s : ByteArray} {x : Int} {k : Nat} (hx : x = (k : Int)) (a b : Int) (w : World) (hk : k ≤ 1000000) (hs : s.size ≤ 1000000) : Calls Try.prog 30 #[.string s, .int .i64 x, .int .u8 a, .int .u8 b] w fun e w' => e = .returned (.bool (inB s k a b)) ∧ w = w' := by
  subst hx; exact in_any s k a b w hk hs
theorem more_any (s : ByteArray) (k n : Nat) (w : World) (hk : k ≤ 900000) (hn : n ≤ 3) (hs : s.size ≤ 1000000) : Calls Try.prog 43 #[.string s, .int .i64 k, .int .i64 n] w fun e w' => e = .returned (.bool (moreB s k n)) ∧ w = w' := by
  go_enter Try.func43, Try.ntmps43
  go_wp2_with fail
  go_loopw [7] (fun i wr => ∃ j : Nat, j ≤ n ∧ i = .int .i64 j ∧ moreB s k j = true ∧ wr = w) (fun i _ => n - (intOf i).toNat)
  case atStart => exact ⟨0, by omega, rfl, rfl, rfl⟩
  case round =>
    obtain ⟨j, hj, rfl, hm, rfl⟩ := hrel
    have HM := Lib.hid hm
    clear hm
    by_cases hlt : j < n
    · obtain ⟨v, hv⟩ : ∃ v, inB s (k + j) 128 191 = v := ⟨_, rfl⟩
      cases v
      · have HN := Lib.hid (moreB_no (i := k) hlt hv)
        go_wp2_with (go_at_call 30; refine (in_at (k := k + j) (by omega) _ _ _ (by omega) hs).mono ?_; rintro e w' ⟨rfl, rfl⟩)
        go_ret
        exact ⟨ret_bool HN.out.symm, rfl⟩
      · have HN := Lib.hid (show moreB s k (j + 1) = true by show (moreB s k j && inB s (k + j) 128 191) = true; rw [HM.out, hv]; rfl)
        go_wp2_with (go_at_call 30; refine (in_at (k := k + j) (by omega) _ _ _ (by omega) hs).mono ?_; rintro e w' ⟨rfl, rfl⟩)
        go_roundw
        case rel => exact ⟨j + 1, by omega, by go_num, HN.out, by first | rfl | trivial⟩
        case measure => simp [intOf]; omega
    · obtain rfl : j = n := by omega
      go_wp2_with fail
      go_ret
      exact ⟨ret_bool HM.out.symm, rfl⟩
theorem more_at {s : ByteArray} {x y : Int} {k n : Nat} (hx : x = (k : Int)) (hy : y = (n : Int)) (w : World) (hk : k ≤ 900000) (hn : n ≤ 3) (hs : s.size ≤ 1000000) : Calls Try.prog 43 #[.string s, .int .i64 x, .int .i64 y] w fun e w' => e = .returned (.bool (moreB s k n)) ∧ w = w' := by
  subst hx hy; exact more_any s k n w hk hn hs
theorem in_k1 (s : ByteArray) (k : Nat) (a b : Int) (w : World) (hk : k ≤ 800000) (hs : s.size ≤ 1000000) : Calls Try.prog 30 #[.string s, .int .i64 ((k : Int) + 1), .int .u8 a, .int .u8 b] w fun e w' => e = .returned (.bool (inB s (k + 1) a b)) ∧ w = w' := in_at (by omega) a b w (by omega) hs
theorem more_k1_1 (s : ByteArray) (k : Nat) (w : World) (hk : k ≤ 800000) (hs : s.size ≤ 1000000) : Calls Try.prog 43 #[.string s, .int .i64 ((k : Int) + 1), .int .i64 1] w fun e w' => e = .returned (.bool (moreB s (k + 1) 1)) ∧ w = w' := more_at (by omega) (by omega) w (by omega) (by omega) hs
theorem more_k1_2 (s : ByteArray) (k : Nat) (w : World) (hk : k ≤ 800000) (hs : s.size ≤ 1000000) : Calls Try.prog 43 #[.string s, .int .i64 ((k : Int) + 1), .int .i64 2] w fun e w' => e = .returned (.bool (moreB s (k + 1) 2)) ∧ w = w' := more_at (by omega) (by omega) w (by omega) (by omega) hs
theorem more_k1_3 (s : ByteArray) (k : Nat) (w : World) (hk : k ≤ 800000) (hs : s.size ≤ 1000000) : Calls Try.prog 43 #[.string s, .int .i64 ((k : Int) + 1), .int .i64 3] w fun e w' => e = .returned (.bool (moreB s (k + 1) 3)) ∧ w = w' := more_at (by omega) (by omega) w (by omega) (by omega) hs
theorem more_k2_1 (s : ByteArray) (k : Nat) (w : World) (hk : k ≤ 800000) (hs : s.size ≤ 1000000) : Calls Try.prog 43 #[.string s, .int .i64 ((k : Int) + 2), .int .i64 1] w fun e w' => e = .returned (.bool (moreB s (k + 2) 1)) ∧ w = w' := more_at (by omega) (by omega) w (by omega) (by omega) hs
theorem more_k2_2 (s : ByteArray) (k : Nat) (w : World) (hk : k ≤ 800000) (hs : s.size ≤ 1000000) : Calls Try.prog 43 #[.string s, .int .i64 ((k : Int) + 2), .int .i64 2] w fun e w' => e = .returned (.bool (moreB s (k + 2) 2)) ∧ w = w' := more_at (by omega) (by omega) w (by omega) (by omega) hs
theorem more_k2_3 (s : ByteArray) (k : Nat) (w : World) (hk : k ≤ 800000) (hs : s.size ≤ 1000000) : Calls Try.prog 43 #[.string s, .int .i64 ((k : Int) + 2), .int .i64 3] w fun e w' => e = .returned (.bool (moreB s (k + 2) 3)) ∧ w = w' := more_at (by omega) (by omega) w (by omega) (by omega) hs
def encT (t : Tok) : List Value := [.int .i64 t.kind, .int .i32 t.sign, .int .i64 t.n, .int .i64 t.at_]
theorem encT_len (t : Tok) : (encT t).length = 4 := rfl
theorem toks_at {w : World} {A : Option Addr} {n : Nat} {zs : List Tok} (h : Rows 4 encT w A n zs) {i : Nat} (hi : i < n) :
    ∃ b off x y u v, A = some ⟨b, off, none⟩ ∧ b < w.heap.size ∧ zs[i]? = some ⟨x, y, u, v⟩ ∧ w.cell? ⟨b, off + i * 4, none⟩ = some (.int .i64 x) ∧ w.cell? ⟨b, off + i * 4 + 1, none⟩ = some (.int .i32 y) ∧ w.cell? ⟨b, off + i * 4 + 2, none⟩ = some (.int .i64 u) ∧ w.cell? ⟨b, off + i * 4 + 3, none⟩ = some (.int .i64 v) := by
  obtain ⟨b, off, ⟨x, y, u, v⟩, h1, h2, h3, h4⟩ := h.at_ hi
  exact ⟨b, off, x, y, u, v, h1, h2, h3, h4 0 _ rfl, h4 1 _ rfl, h4 2 _ rfl, h4 3 _ rfl⟩
theorem tok_info : (Try.prog.info? 62).map (fun i => (i.zero, i.size, i.bytes)) = some (some (.agg #[.int .i64 0, .int .i32 0, .int .i64 0, .int .i64 0]), 4, 32) := by kernel_rfl
def LexPost (w : World) (s : ByteArray) (e : Ending) (w' : World) : Prop :=
  (∃ toks A n c, lexB s = (some toks, 0) ∧ e = .returned (.tuple #[.slice A n c, .int .i64 0, .int .i64 0]) ∧ Rows 4 encT w' A n toks ∧ (n ≤ s.size ∧ n ≤ c ∧ ∀ p, A = some p → p.block < w'.heap.size) ∧ Below w.heap.size w w') ∨
  (∃ k : Nat, lexB s = (none, k) ∧ e = .returned (.tuple #[.slice none 0 0, .int .i64 (k : Int), .int .i64 1]) ∧ k < s.size ∧ Below w.heap.size w w')
theorem owns_cap {w : World} {base : Nat} {e : TypeId} {size : Nat} {A : Option Addr} {n c : Nat} {xs : List Value} (h : w.ownsRow base e size (.slice A n c) n xs) : n ≤ c := by
  rcases h.2 with ⟨h1, h2⟩ | ⟨g, cap, cur, h1, _, _, h2, _⟩
  · omega
  · injection h1 with _ _ h1; omega
theorem owns_at {w : World} {base : Nat} {e : TypeId} {size : Nat} {A : Option Addr} {n c : Nat} {xs : List Value} (h : w.ownsRow base e size (.slice A n c) n xs) : ∀ p, A = some p → p.block < w.heap.size := by
  intro p hp
  subst hp
  rcases h.2 with ⟨h1, h2⟩ | ⟨g, cap, cur, h1, _, h2, _⟩
  · injection h1 with h1; cases h1
  · injection h1 with h1; injection h1 with h1; subst h1
    exact (Array.getElem?_eq_some_iff.1 h2).1
theorem tok_cells (w : World) (a b c d : Int) (t : TypeId) (n : Nat) (hn : n = w.heap.size) : Cells (w.alloc (.cells #[.int .i64 a, .int .i32 b, .int .i64 c, .int .i64 d] t)) (some ⟨n, 0, none⟩) 1 4 [.int .i64 a, .int .i32 b, .int .i64 c, .int .i64 d] := by
  subst hn
  refine ⟨rfl, by decide, fun _ => ⟨_, _, rfl, by simp, fun j u hu => ?_⟩⟩
  rw [Nat.zero_add]; exact (Box.new w [.int .i64 a, .int .i32 b, .int .i64 c, .int .i64 d] t).2.2 j u hu
theorem tok_cell4 (a b c d : Int) : ∀ u ∈ ([.int .i64 a, .int .i32 b, .int .i64 c, .int .i64 d] : List Value), u.oneCell' = true := by
  intro u hu; simp at hu; rcases hu with rfl | rfl | rfl | rfl <;> rfl
theorem toks_snoc (out : List Tok) (t : Tok) : (out ++ [t]).flatMap encT = out.flatMap encT ++ encT t := by rw [List.flatMap_append]; simp
theorem wrap_far {a : Int} (h : -4611686018427387904 ≤ a ∧ a ≤ 4611686018427387904) : IntKind.i64.wrap a = a := IntWalk.i64_in _ (by omega)
theorem penb_open {k : Nat} {y m : Int} (h : PenB k (y, m)) (hk : k ≤ 1000) : (-2253051613689872384 ≤ y ∧ y ≤ 2253051613689872384) ∧ (-1125899906842624 ≤ m ∧ m ≤ 1125899906842624) := by
  obtain ⟨⟨h1, h2⟩, h3⟩ := h
  unfold NearI farB at h3
  simp only at h1 h2 h3
  omega
set_option maxHeartbeats 2000000 in
theorem renter_to {y m a d y' m' : Int} (hv : enterP (y, m) a d = (y', m')) {k : Nat} (hp : PenB k (y, m)) (hk : k ≤ 1000) (ha : NearI a) (hd : NearI d) (w : World) :
    Calls Try.prog 38 #[.agg #[.int .i64 y, .int .i64 m], .int .i64 a, .int .i64 d] w fun e w' => e = .returned (.agg #[.int .i64 y', .int .i64 m']) ∧ Below w.heap.size w w' := by
  obtain ⟨⟨y1, y2⟩, ⟨m1, m2⟩⟩ := penb_open hp hk
  obtain ⟨a1, a2⟩ := ha
  obtain ⟨d1, d2⟩ := hd
  unfold farB at a1 a2 d1 d2
  have HV := Lib.hid hv
  clear hv hp hk
  have hw1 : IntKind.i64.wrap (y + m) = y + m := wrap_far (by omega)
  have hw2 : IntKind.i64.wrap (y + m + d) = y + m + d := wrap_far (by omega)
  have hw3 : IntKind.i64.wrap (y + a) = y + a := wrap_far (by omega)
  have hw4 : IntKind.i64.wrap (y + a + d) = y + a + d := wrap_far (by omega)
  by_cases c1 : m < a
  · by_cases c2 : 0 < d
    · have HE := Lib.hid (show (y + a + d, 0) = (y', m') by rw [← HV.out]; unfold enterP raiseI; rw [if_pos c2, if_pos c1])
      go_enter Try.func38, Try.ntmps38
      go_wp2_with fail
      have he := HE.out
      injection he with e1 e2
      subst e1 e2
      exact bodyPost_ret (v := .agg #[.int .i64 (y + a + d), .int .i64 (0)]) (by simp [results, Try.results38, go_sem]) rfl ⟨rfl, by go_grown⟩
    · have c2n := Int.not_lt.1 c2
      have HE := Lib.hid (show (y, a) = (y', m') by rw [← HV.out]; unfold enterP raiseI; rw [if_neg c2, if_pos c1])
      go_enter Try.func38, Try.ntmps38
      go_wp2_with fail
      have he := HE.out
      injection he with e1 e2
      subst e1 e2
      exact bodyPost_ret (v := .agg #[.int .i64 (y), .int .i64 (a)]) (by simp [results, Try.results38, go_sem]) rfl ⟨rfl, by go_grown⟩
  · have c1n := Int.not_lt.1 c1
    by_cases c2 : 0 < d
    · have HE := Lib.hid (show (y + m + d, 0) = (y', m') by rw [← HV.out]; unfold enterP raiseI; rw [if_pos c2, if_neg c1])
      go_enter Try.func38, Try.ntmps38
      go_wp2_with fail
      have he := HE.out
      injection he with e1 e2
      subst e1 e2
      exact bodyPost_ret (v := .agg #[.int .i64 (y + m + d), .int .i64 (0)]) (by simp [results, Try.results38, go_sem]) rfl ⟨rfl, by go_grown⟩
    · have c2n := Int.not_lt.1 c2
      have HE := Lib.hid (show (y, m) = (y', m') by rw [← HV.out]; unfold enterP raiseI; rw [if_neg c2, if_neg c1])
      go_enter Try.func38, Try.ntmps38
      go_wp2_with fail
      have he := HE.out
      injection he with e1 e2
      subst e1 e2
      exact bodyPost_ret (v := .agg #[.int .i64 (y), .int .i64 (m)]) (by simp [results, Try.results38, go_sem]) rfl ⟨rfl, by go_grown⟩
set_option maxHeartbeats 2000000 in
theorem rleave_to {y m a d y' m' : Int} (hv : leaveP (y, m) a d = (y', m')) {k : Nat} (hp : PenB k (y, m)) (hk : k ≤ 1000) (ha : NearI a) (hd : NearI d) (w : World) :
    Calls Try.prog 39 #[.agg #[.int .i64 y, .int .i64 m], .int .i64 a, .int .i64 d] w fun e w' => e = .returned (.agg #[.int .i64 y', .int .i64 m']) ∧ Below w.heap.size w w' := by
  obtain ⟨⟨y1, y2⟩, ⟨m1, m2⟩⟩ := penb_open hp hk
  obtain ⟨a1, a2⟩ := ha
  obtain ⟨d1, d2⟩ := hd
  unfold farB at a1 a2 d1 d2
  have HV := Lib.hid hv
  clear hv hp hk
  have hw1 : IntKind.i64.wrap (y + m) = y + m := wrap_far (by omega)
  have hw2 : IntKind.i64.wrap (y + m + d) = y + m + d := wrap_far (by omega)
  have hw3 : IntKind.i64.wrap (y + a) = y + a := wrap_far (by omega)
  have hw4 : IntKind.i64.wrap (y + a + d) = y + a + d := wrap_far (by omega)
  by_cases c1 : 0 < d
  · by_cases c2 : 0 < a
    · have HE := Lib.hid (show (y + m + d, a) = (y', m') by rw [← HV.out]; unfold leaveP raiseI; rw [if_pos c1, if_pos c2])
      go_enter Try.func39, Try.ntmps39
      go_wp2_with fail
      have he := HE.out
      injection he with e1 e2
      subst e1 e2
      exact bodyPost_ret (v := .agg #[.int .i64 (y + m + d), .int .i64 (a)]) (by simp [results, Try.results39, go_sem]) rfl ⟨rfl, by go_grown⟩
    · have c2n := Int.not_lt.1 c2
      have HE := Lib.hid (show (y + m + d, 0) = (y', m') by rw [← HV.out]; unfold leaveP raiseI; rw [if_pos c1, if_neg c2])
      go_enter Try.func39, Try.ntmps39
      go_wp2_with fail
      have he := HE.out
      injection he with e1 e2
      subst e1 e2
      exact bodyPost_ret (v := .agg #[.int .i64 (y + m + d), .int .i64 (0)]) (by simp [results, Try.results39, go_sem]) rfl ⟨rfl, by go_grown⟩
  · have c1n := Int.not_lt.1 c1
    by_cases c2 : m < a
    · have HE := Lib.hid (show (y, a) = (y', m') by rw [← HV.out]; unfold leaveP raiseI; rw [if_neg c1, if_pos c2])
      go_enter Try.func39, Try.ntmps39
      go_wp2_with fail
      have he := HE.out
      injection he with e1 e2
      subst e1 e2
      exact bodyPost_ret (v := .agg #[.int .i64 (y), .int .i64 (a)]) (by simp [results, Try.results39, go_sem]) rfl ⟨rfl, by go_grown⟩
    · have c2n := Int.not_lt.1 c2
      have HE := Lib.hid (show (y, m) = (y', m') by rw [← HV.out]; unfold leaveP raiseI; rw [if_neg c1, if_neg c2])
      go_enter Try.func39, Try.ntmps39
      go_wp2_with fail
      have he := HE.out
      injection he with e1 e2
      subst e1 e2
      exact bodyPost_ret (v := .agg #[.int .i64 (y), .int .i64 (m)]) (by simp [results, Try.results39, go_sem]) rfl ⟨rfl, by go_grown⟩
set_option maxHeartbeats 2000000 in
theorem rclear_to {y m a y' m' : Int} (hv : clearP (y, m) a = (y', m')) {k : Nat} (hp : PenB k (y, m)) (hk : k ≤ 1000) (ha : NearI a) (w : World) :
    Calls Try.prog 37 #[.agg #[.int .i64 y, .int .i64 m], .int .i64 a] w fun e w' => e = .returned (.agg #[.int .i64 y', .int .i64 m']) ∧ Below w.heap.size w w' := by
  obtain ⟨⟨y1, y2⟩, ⟨m1, m2⟩⟩ := penb_open hp hk
  obtain ⟨a1, a2⟩ := ha
  unfold farB at a1 a2
  have HV := Lib.hid hv
  clear hv hp hk
  have hw1 : IntKind.i64.wrap (y + m) = y + m := wrap_far (by omega)
  by_cases c1 : y + m < a
  · have HE := Lib.hid (show (a, 0) = (y', m') by rw [← HV.out]; unfold clearP; rw [if_pos c1])
    go_enter Try.func37, Try.ntmps37
    go_wp2_with fail
    have he := HE.out
    injection he with e1 e2
    subst e1 e2
    exact bodyPost_ret (v := .agg #[.int .i64 (a), .int .i64 (0)]) (by simp [results, Try.results37, go_sem]) rfl ⟨rfl, by go_grown⟩
  · have c1n := Int.not_lt.1 c1
    have HE := Lib.hid (show (y, m) = (y', m') by rw [← HV.out]; unfold clearP; rw [if_neg c1])
    go_enter Try.func37, Try.ntmps37
    go_wp2_with fail
    have he := HE.out
    injection he with e1 e2
    subst e1 e2
    exact bodyPost_ret (v := .agg #[.int .i64 (y), .int .i64 (m)]) (by simp [results, Try.results37, go_sem]) rfl ⟨rfl, by go_grown⟩
theorem owns_mono13 {w : World} {base b2 : Nat} {e : TypeId} {size : Nat} {v : Value} {n : Nat} {xs : List Value} (h : w.ownsRow base e size v n xs) (hb : b2 ≤ base) : w.ownsRow b2 e size v n xs := by
  refine ⟨h.1, ?_⟩
  rcases h.2 with h2 | ⟨g, cap, cur, h1, h2, h3⟩
  · exact .inl h2
  · exact .inr ⟨g, cap, cur, h1, by omega, h3⟩
def encS12 (s : Sty) : List Value := [.int .i64 s.top, .int .i64 s.bottom, .int .i64 s.padTop, .int .i64 s.padBottom, .int .i64 s.inset, .int .i64 s.orphans, .int .i64 s.widows, .int .i64 s.head, .int .i64 s.before, .int .i64 s.after, .int .i64 s.inside, .int .i64 s.clear]
structure NdM where
  kind : Int
  size : Int
  sty : Sty
  line : Int
  space : Int
  A : Option Addr
  n : Nat
  c : Nat
  side : Int
  w : Int
  h : Int
def encM (m : NdM) : List Value := [.int .i64 m.kind, .int .i64 m.size, .int .i64 m.sty.top, .int .i64 m.sty.bottom, .int .i64 m.sty.padTop, .int .i64 m.sty.padBottom, .int .i64 m.sty.inset, .int .i64 m.sty.orphans, .int .i64 m.sty.widows, .int .i64 m.sty.head, .int .i64 m.sty.before, .int .i64 m.sty.after, .int .i64 m.sty.inside, .int .i64 m.sty.clear,
  .int .i64 m.line, .int .i64 m.space, .slice m.A m.n m.c, .int .i64 m.side, .int .i64 m.w, .int .i64 m.h]
theorem encM_len (m : NdM) : (encM m).length = 20 := rfl
theorem encM_one (m : NdM) : ∀ u ∈ encM m, u.oneCell' = true := by
  intro u hu
  simp only [encM, List.mem_cons, List.not_mem_nil, or_false] at hu
  rcases hu with h | h | h | h | h | h | h | h | h | h | h | h | h | h | h | h | h | h | h | h <;> subst h <;> rfl
theorem encMs_one (zs : List NdM) : ∀ u ∈ zs.flatMap encM, u.oneCell' = true := by
  intro u hu
  obtain ⟨m, _, hm⟩ := List.mem_flatMap.1 hu
  exact encM_one m u hm
def Holds (base : Nat) (w : World) (m : NdM) (x : Nd) : Prop := (x.kind = m.kind ∧ x.size = m.size ∧ x.sty = m.sty ∧ x.line = m.line ∧ x.space = m.space ∧ x.side = m.side ∧ x.w = m.w ∧ x.h = m.h) ∧ w.ownsRow base 3 1 (.slice m.A m.n m.c) m.n (x.words.map (Value.int .i64))
def Holds2 (base : Nat) (w : World) (zs : List NdM) (l : List Nd) : Prop := zs.length = l.length ∧ ∀ (i : Nat) (m : NdM) (x : Nd), zs[i]? = some m → l[i]? = some x → Holds base w m x
theorem Holds2.below {base : Nat} {w w' : World} {zs : List NdM} {l : List Nd} (h : Holds2 base w zs l) (hb : Below w.heap.size w w') : Holds2 base w' zs l :=
  ⟨h.1, fun i m x h1 h2 => ⟨(h.2 i m x h1 h2).1, owns_below (h.2 i m x h1 h2).2 hb⟩⟩
theorem Holds2.nil (base : Nat) (w : World) : Holds2 base w [] [] := ⟨rfl, fun i m x h => by simp at h⟩
theorem Holds2.append {base : Nat} {w : World} {zs zs' : List NdM} {l l' : List Nd} (h : Holds2 base w zs l) (h' : Holds2 base w zs' l') : Holds2 base w (zs ++ zs') (l ++ l') := by
  refine ⟨by rw [List.length_append, List.length_append, h.1, h'.1], fun i m x h1 h2 => ?_⟩
  by_cases hi : i < zs.length
  · rw [List.getElem?_append_left hi] at h1
    rw [List.getElem?_append_left (by rw [← h.1]; exact hi)] at h2
    exact h.2 i m x h1 h2
  · rw [List.getElem?_append_right (by omega)] at h1
    rw [List.getElem?_append_right (by rw [← h.1]; omega), ← h.1] at h2
    exact h'.2 _ m x h1 h2
theorem Holds2.one {base : Nat} {w : World} {m : NdM} {x : Nd} (h : Holds base w m x) : Holds2 base w [m] [x] := by
  refine ⟨rfl, fun i m' x' h1 h2 => ?_⟩
  cases i with
  | zero => simp at h1 h2; subst h1 h2; exact h
  | succ i => simp at h1
def Far (base : Nat) (A : Option Addr) : Prop := ∀ p, A = some p → base ≤ p.block
theorem Far.nil (base : Nat) : Far base .none := fun p h => by cases h
theorem Far.at_ {base g : Nat} (h : base ≤ g) : Far base (some ⟨g, 0, .none⟩) := fun p e => by cases e; exact h
theorem Far.up {base base' : Nat} {A : Option Addr} (h : Far base A) (hb : base' ≤ base) : Far base' A := fun p e => Nat.le_trans hb (h p e)
theorem Far.owns {w : World} {base : Nat} {e : TypeId} {size : Nat} {A : Option Addr} {n c : Nat} {xs : List Value} (h : w.ownsRow base e size (.slice A n c) n xs) : Far base A := fun p hp => owns_block h p.block (by subst hp; rfl)
def Same (base : Nat) (w w' : World) : Prop := w.heap.size ≤ w'.heap.size ∧ ∀ k, base ≤ k → k < w.heap.size → w'.heap[k]? = w.heap[k]?
theorem Same.refl (base : Nat) (w : World) : Same base w w := ⟨Nat.le_refl _, fun _ _ _ => rfl⟩
theorem Same.below {base : Nat} {w w' : World} (h : Below w.heap.size w w') : Same base w w' := ⟨h.size, fun k _ hk => h.block k hk⟩
theorem Same.set {base : Nat} (w : World) {m : Nat} (hm : m < base) (j : Nat) (v : Value) : Same base w (w.setCell ⟨m, j, .none⟩ v) :=
  ⟨by simp, fun k hk _ => Below.heap_setCell _ _ _ _ (fun e => by simp at e; omega)⟩
theorem Same.trans {base : Nat} {a b c : World} (h : Same base a b) (k : Same base b c) : Same base a c := ⟨Nat.le_trans h.1 k.1, fun i hi hl => (k.2 i hi (Nat.lt_of_lt_of_le hl h.1)).trans (h.2 i hi hl)⟩
theorem Rows.same {α : Type} {k : Nat} {enc : α → List Value} {w w' : World} {A : Option Addr} {n : Nat} {zs : List α} {base : Nat} (h : Rows k enc w A n zs) (hA : Far base A) (hs : Same base w w') : Rows k enc w' A n zs :=
  ⟨h.1, h.2.1, fun hn => by
    obtain ⟨b, off, e, hl, hc⟩ := h.2.2 hn
    have hb := hA _ e
    exact ⟨b, off, e, Nat.lt_of_lt_of_le hl hs.1, fun i x hx j v hv => (World.cell?_of_block (w := w) (a := ⟨b, _, .none⟩) (hs.2 b hb hl)).trans (hc i x hx j v hv)⟩⟩
theorem owns_same {w w' : World} {base : Nat} {e : TypeId} {size : Nat} {v : Value} {n : Nat} {xs : List Value} (h : w.ownsRow base e size v n xs) (hs : Same base w w') : w'.ownsRow base e size v n xs := by
  refine ⟨h.1, ?_⟩
  rcases h.2 with h2 | ⟨g, cap, cur, h1, h2, h3, h4⟩
  · exact .inl h2
  · exact .inr ⟨g, cap, cur, h1, h2, (hs.2 g h2 (Array.getElem?_eq_some_iff.1 h3).1).trans h3, h4⟩
theorem owns_up {w : World} {base base' : Nat} {e : TypeId} {size : Nat} {v : Value} {n : Nat} {xs : List Value} (h : w.ownsRow base e size v n xs) (hb : base' ≤ base) : w.ownsRow base' e size v n xs := by
  refine ⟨h.1, ?_⟩
  rcases h.2 with h2 | ⟨g, cap, cur, h1, h2, h3⟩
  · exact .inl h2
  · exact .inr ⟨g, cap, cur, h1, by omega, h3⟩
theorem owns_grown {w w' : World} {base base' : Nat} {e e' : TypeId} {size size' : Nat} {v v' : Value} {n n' : Nat} {xs xs' : List Value} (h : w.ownsRow base e size v n xs) (h' : w.ownsRow base' e' size' v' n' xs') (hne : e ≠ e') (hg : w.grownBy w' v'.ownBlock) : w'.ownsRow base e size v n xs := by
  refine ⟨h.1, ?_⟩
  rcases h.2 with h2 | ⟨g, cap, cur, h1, h2, h3, h4⟩
  · exact .inl h2
  · refine .inr ⟨g, cap, cur, h1, h2, (hg.block g (Array.getElem?_eq_some_iff.1 h3).1 (fun q => ?_)).trans h3, h4⟩
    rcases h'.2 with ⟨k, _⟩ | ⟨g', cap', cur', k, _, k3, _⟩
    · rw [k] at q; cases q
    · rw [k] at q
      injection q with q
      rw [show g = g' from q, k3] at h3
      injection h3 with h3
      injection h3 with _ h3 _
      exact hne h3.symm
theorem Holds2.grown {base base' : Nat} {w w' : World} {zs : List NdM} {l : List Nd} {e' : TypeId} {size' n' : Nat} {v' : Value} {xs' : List Value} (h : Holds2 base w zs l) (h' : w.ownsRow base' e' size' v' n' xs') (hne : 3 ≠ e') (hg : w.grownBy w' v'.ownBlock) : Holds2 base w' zs l :=
  ⟨h.1, fun i m x h1 h2 => ⟨(h.2 i m x h1 h2).1, owns_grown (h.2 i m x h1 h2).2 h' hne hg⟩⟩
theorem Holds2.same {base : Nat} {w w' : World} {zs : List NdM} {l : List Nd} (h : Holds2 base w zs l) (hs : Same base w w') : Holds2 base w' zs l :=
  ⟨h.1, fun i m x h1 h2 => ⟨(h.2 i m x h1 h2).1, owns_same (h.2 i m x h1 h2).2 hs⟩⟩
theorem Holds2.up {base base' : Nat} {w : World} {zs : List NdM} {l : List Nd} (h : Holds2 base w zs l) (hb : base' ≤ base) : Holds2 base' w zs l :=
  ⟨h.1, fun i m x h1 h2 => ⟨(h.2 i m x h1 h2).1, owns_up (h.2 i m x h1 h2).2 hb⟩⟩
theorem Holds.ints {base : Nat} {w : World} {m : NdM} {x : Nd} (h : Holds base w m x) : Ints w m.A m.n x.words := (ownsRow_cells h.2).ints
def Nds (base : Nat) (w : World) (A : Option Addr) (n : Nat) (l : List Nd) : Prop := ∃ zs : List NdM, Rows 20 encM w A n zs ∧ Holds2 base w zs l ∧ Far base A
theorem Nds.same {base : Nat} {w w' : World} {A : Option Addr} {n : Nat} {l : List Nd} (h : Nds base w A n l) (hs : Same base w w') : Nds base w' A n l := by
  obtain ⟨zs, h1, h2, h3⟩ := h
  exact ⟨zs, h1.same h3 hs, h2.same hs, h3⟩
theorem Nds.below {base : Nat} {w w' : World} {A : Option Addr} {n : Nat} {l : List Nd} (h : Nds base w A n l) (hb : Below w.heap.size w w') : Nds base w' A n l := h.same (Same.below hb)
theorem Nds.up {base base' : Nat} {w : World} {A : Option Addr} {n : Nat} {l : List Nd} (h : Nds base w A n l) (hb : base' ≤ base) : Nds base' w A n l := by
  obtain ⟨zs, h1, h2, h3⟩ := h
  exact ⟨zs, h1, h2.up hb, h3.up hb⟩
theorem Nds.nil (base : Nat) (w : World) : Nds base w .none 0 [] := ⟨[], Rows.nil _ _, Holds2.nil _ _, Far.nil _⟩
theorem Nds.len {base : Nat} {w : World} {A : Option Addr} {n : Nat} {l : List Nd} (h : Nds base w A n l) : l.length = n := by
  obtain ⟨zs, h1, h2, _⟩ := h
  rw [← h2.1]; exact h1.1
theorem Parse.len {l : List Tok} {t : Bool} {i : Nat} {out : List Nd} {r : Res (List Nd)} (h : Parse l t i out r) : ∀ x b, r = .ok x b → x.length + i ≤ out.length + b := by
  have hbox : ∀ i kind side e x b, boxR l i kind side e = .ok x b → x.length + i ≤ b := by
    intro i kind side e x b hr
    unfold boxR at hr
    split at hr
    · cases hr
    split at hr
    · cases hr
    split at hr
    · cases hr
    · cases hr; simp; omega
  induction h with
  | stop _ => intro x b h; cases h; omega
  | more _ _ _ ih1 ih2 => intro x b h; have := ih1 _ _ rfl; have := ih2 _ _ h; simp at *; omega
  | fail _ _ _ => intro x b h; cases h
  | blockA _ _ => intro x b h; cases h
  | blockN _ _ _ _ => intro x b h; cases h
  | blockE _ _ _ _ _ => intro x b h; cases h
  | block _ g2 _ _ ih => intro x b h; cases h; have := ih _ _ rfl; have := g2.le; simp [Res.at_] at *; omega
  | textL _ _ => intro x b h; cases h
  | textS _ _ _ => intro x b h; cases h
  | textW _ _ _ _ _ => intro x b h; cases h
  | text _ _ _ g4 _ _ => intro x b h; cases h; have := g4.le; simp; omega
  | mono _ => intro x b h; have := hbox _ _ _ _ _ _ h; simp; omega
  | left _ _ => intro x b h; have := hbox _ _ _ _ _ _ h; simp; omega
  | right _ _ => intro x b h; have := hbox _ _ _ _ _ _ h; simp; omega
  | side _ _ _ => intro x b h; cases h
def gotV (A : Option Addr) (n c : Nat) (p wrong : Int) : Value := .agg #[.slice A n c, .int .i64 p, .int .i64 wrong]
def GotR (w : World) (r : Res (List Nd)) (e : Ending) (w' : World) : Prop := match r with
  | .ok x b => ∃ A n c, e = .returned (gotV A n c b 0) ∧ Nds w.heap.size w' A n x ∧ Below w.heap.size w w'
  | .bad p => e = .returned (gotV none 0 0 p 1) ∧ Below w.heap.size w w'
def GotP (toks : List Tok) (t : Bool) (i : Nat) (w : World) (e : Ending) (w' : World) : Prop := ∃ r, Parse toks t i [] r ∧ GotR w r e w'
theorem box_load {P : Program} {w : World} {n k : Nat} {vs : List Value} (h : Box w n vs) (hk : vs.length = k) (cs : Array Value) (hc : cs = vs.toArray) : (loadCellsFrom ⟨n, 0, none⟩ 0 k #[]).run P w = .ok cs w := by
  subst hk hc
  have := run_loadCells_list (P := P) w ⟨n, 0, none⟩ vs (fun j v hv => by
    rw [Go.WideShapes.add_plain, Nat.zero_add]; exact h.2.2 j v hv)
  simpa [loadCells] using this
theorem box3_of {w : World} {n : Nat} {a b c : Value} (h : Box w n [a, b, c]) : (w.cell? ⟨n, 0, none⟩ = some a ∧ w.cell? ⟨n, 1, none⟩ = some b ∧ w.cell? ⟨n, 2, none⟩ = some c) ∧ (w.frozen? ⟨n, 0, none⟩ = false ∧ w.frozen? ⟨n, 1, none⟩ = false ∧ w.frozen? ⟨n, 2, none⟩ = false) ∧ n < w.heap.size :=
  ⟨⟨h.2.2 0 _ rfl, h.2.2 1 _ rfl, h.2.2 2 _ rfl⟩, ⟨h.2.1 _, h.2.1 _, h.2.1 _⟩, h.1⟩
theorem rows_box {α : Type} {k : Nat} {enc : α → List Value} (hk : ∀ x, (enc x).length = k) {w : World} {n : Nat} {zs : List α} (h : Box w n (zs.flatMap enc)) (hl : zs.length ≤ 1000000) : Rows k enc w (some ⟨n, 0, none⟩) zs.length zs := by
  refine ⟨rfl, by omega, fun _ => ⟨n, 0, rfl, h.1, fun i x hx j v hv => ?_⟩⟩
  rw [Nat.zero_add]
  exact h.2.2 _ _ (flat_get hk zs i x j v hx hv)
theorem box_new (w : World) (vs : List Value) (t : TypeId) (n : Nat) (h : n = w.heap.size) (cs : Array Value) (hc : cs = vs.toArray) : Box (w.alloc (.cells cs t)) n vs := by subst h hc; exact Box.new w vs t
def styB (s t : Sty) : Bool := s.top == t.top && s.bottom == t.bottom && s.padTop == t.padTop && s.padBottom == t.padBottom && s.inset == t.inset && s.orphans == t.orphans && s.widows == t.widows && s.head == t.head && s.before == t.before && s.after == t.after && s.inside == t.inside && s.clear == t.clear
theorem styB_iff (s t : Sty) : styB s t = true ↔ s = t := by
  obtain ⟨a0, a1, a2, a3, a4, a5, a6, a7, a8, a9, a10, a11⟩ := s
  obtain ⟨b0, b1, b2, b3, b4, b5, b6, b7, b8, b9, b10, b11⟩ := t
  simp [styB, and_assoc]
theorem part_int (xs : Array Value) (k : Nat) (v : Value) (h : xs[k]? = some v) (w : World) : (part 3 xs k).run Try.prog w = .ok v w := run_part_plain w (by kernel_rfl) h
theorem ite_ok {p : Prop} [Decidable p] {c : Bool} {w : World} : (if p then Result.ok c w else Result.ok false w) = Result.ok (decide p && c) w := by split <;> simp_all
theorem ite_and {b : Bool} {c : Bool} {w : World} : (if (!b) = true then Result.ok false w else Result.ok c w) = Result.ok (b && c) w := by cases b <;> rfl
set_option maxRecDepth 10000 in
theorem sty_equal (s t : Sty) (w : World) : (Op.equalIn 10000 37 (.agg (encS12 s).toArray) (.agg (encS12 t).toArray)).run Try.prog w = .ok (styB s t) w := by
  obtain ⟨a0, a1, a2, a3, a4, a5, a6, a7, a8, a9, a10, a11⟩ := s
  obtain ⟨b0, b1, b2, b3, b4, b5, b6, b7, b8, b9, b10, b11⟩ := t
  rw [show (10000 : Nat) = 9999 + 1 from rfl, run_equalIn_struct w 9999 _ _ _ (by kernel_rfl) (by kernel_rfl)]
  have hi : ∀ (a b : Int) (w : World), (Op.equalIn 9999 3 (.int .i64 a) (.int .i64 b)).run Try.prog w = .ok (a == b) w := fun a b w => run_equalIn_int w 9998 3 .i64 .i64 a b Try.underlying3
  simp [Program.fieldsOf, Try.underlying37, Op.eqFields, encS12, part_int, hi, styB, ite_and]
  simp only [ite_ok]
  congr 1
  rw [Bool.eq_iff_iff]
  simp [and_assoc]
def Shows (w : World) (m : NdM) (x : Nd) : Prop := (x.kind = m.kind ∧ x.size = m.size ∧ x.sty = m.sty ∧ x.line = m.line ∧ x.space = m.space ∧ x.side = m.side ∧ x.w = m.w ∧ x.h = m.h) ∧ Ints w m.A m.n x.words
theorem Shows.below {w w' : World} {m : NdM} {x : Nd} (h : Shows w m x) (hb : Below w.heap.size w w') : Shows w' m x := ⟨h.1, (h.2.cells.below hb rfl).ints⟩
theorem Holds.shows {base : Nat} {w : World} {m : NdM} {x : Nd} (h : Holds base w m x) : Shows w m x := ⟨h.1, h.ints⟩
def Sees (w : World) (A : Option Addr) (n : Nat) (l : List Nd) : Prop := ∃ zs : List NdM, Rows 20 encM w A n zs ∧ zs.length = l.length ∧ ∀ (i : Nat) (m : NdM) (x : Nd), zs[i]? = some m → l[i]? = some x → Shows w m x
theorem Sees.below {w w' : World} {A : Option Addr} {n : Nat} {l : List Nd} (h : Sees w A n l) (hb : Below w.heap.size w w') : Sees w' A n l := by
  obtain ⟨zs, h1, h2, h3⟩ := h
  exact ⟨zs, h1.below hb, h2, fun i m x h4 h5 => (h3 i m x h4 h5).below hb⟩
theorem Nds.sees {base : Nat} {w : World} {A : Option Addr} {n : Nat} {l : List Nd} (h : Nds base w A n l) : Sees w A n l := by
  obtain ⟨zs, h1, h2, h3⟩ := h
  exact ⟨zs, h1, h2.1, fun i m x h4 h5 => (h2.2 i m x h4 h5).shows⟩
theorem Sees.len {w : World} {A : Option Addr} {n : Nat} {l : List Nd} (h : Sees w A n l) : l.length = n := by
  obtain ⟨zs, h1, h2, _⟩ := h
  rw [← h2]; exact h1.1
def I64w (a : Int) : Prop := -9223372036854775808 ≤ a ∧ a ≤ 9223372036854775807
theorem wideI_bad {zs : List Int} {sp a b : Int} (h : a < 0 ∨ (zs.length : Int) ≤ a ∨ b ≤ a ∨ (zs.length : Int) < b) : wideI zs sp a b = 0 := by
  unfold wideI
  split
  · unfold wideN
    rw [if_neg (by omega)]
  · rfl
theorem wideI_nat {zs : List Int} {sp : Int} {a b : Nat} : wideI zs sp (a : Int) (b : Int) = wideN zs sp a b := by
  unfold wideI
  rw [if_pos ⟨by omega, by omega⟩, Int.toNat_natCast, Int.toNat_natCast]
set_option maxHeartbeats 1000000 in
set_option maxRecDepth 100000 in
theorem rwide_to {zs : List Int} {sp a b v : Int} (hv : wideI zs sp a b = v) (hn : Near9 zs sp) (ha : I64w a) (hb : I64w b) {A : Option Addr} {n c : Nat} (hn2 : n ≤ 1000) {w : World} (h : Ints w A n zs) :
    Calls Try.prog 67 #[.slice A n c, .int .i64 sp, .int .i64 a, .int .i64 b] w fun e w' => e = .returned (.int .i64 v) ∧ w = w' := by
  have HA := Lib.hid h
  have HN := Lib.hid h.1
  have hl := h.1
  clear h
  obtain ⟨ha1, ha2⟩ := ha
  obtain ⟨hb1, hb2⟩ := hb
  by_cases h1 : a < 0
  · have HV := Lib.hid (show 0 = v by rw [← hv]; exact (wideI_bad (by omega)).symm)
    clear hv hl
    go_enter Try.func67, Try.ntmps67
    go_wp2_with fail
    go_ret
    exact ⟨ret_int HV.out, rfl⟩
  by_cases h2 : (n : Int) ≤ a
  · have HV := Lib.hid (show 0 = v by rw [← hv]; exact (wideI_bad (by omega)).symm)
    clear hv hl
    go_enter Try.func67, Try.ntmps67
    go_wp2_with fail
    go_ret
    exact ⟨ret_int HV.out, rfl⟩
  by_cases h3 : b ≤ a
  · have HV := Lib.hid (show 0 = v by rw [← hv]; exact (wideI_bad (by omega)).symm)
    clear hv hl
    go_enter Try.func67, Try.ntmps67
    go_wp2_with fail
    go_ret
    exact ⟨ret_int HV.out, rfl⟩
  by_cases h4 : (n : Int) < b
  · have HV := Lib.hid (show 0 = v by rw [← hv]; exact (wideI_bad (by omega)).symm)
    clear hv hl
    go_enter Try.func67, Try.ntmps67
    go_wp2_with fail
    go_ret
    exact ⟨ret_int HV.out, rfl⟩
  obtain ⟨i, rfl⟩ : ∃ i : Nat, a = (i : Int) := ⟨a.toNat, by omega⟩
  obtain ⟨j, rfl⟩ : ∃ j : Nat, b = (j : Int) := ⟨b.toNat, by omega⟩
  have hij : i < j := by omega
  have hjn : j ≤ n := by omega
  rw [wideI_nat] at hv
  unfold wideN at hv
  rw [if_pos ⟨hij, by omega⟩] at hv
  obtain ⟨⟨sp0, sp1⟩, _⟩ := id hn
  unfold farN at sp1
  have hx0 : 0 ≤ ((j : Int) - i - 1) * sp := Int.mul_nonneg (by omega) sp0
  have hx1 : ((j : Int) - i - 1) * sp ≤ 1000 * 35184372088832 := by
    refine Int.le_trans (Int.mul_le_mul_of_nonneg_left sp1 (by omega)) (Int.mul_le_mul_of_nonneg_right (by omega) (by omega))
  have hwx : IntKind.i64.wrap (((j : Int) - i - 1) * sp) = ((j : Int) - i - 1) * sp := IntWalk.i64_in _ (by omega)
  have HV := Lib.hid hv
  have HNE := Lib.hid hn
  have HX1 := Lib.hid hx0
  have HX2 := Lib.hid hx1
  clear hv hn hl h1 h2 h3 h4 hx0 hx1
  go_enter Try.func67, Try.ntmps67
  go_wp2_with fail
  go_loopw [9, 10] (fun s i' wr => ∃ (k : Nat) (t : Int), s = .int .i64 t ∧ i' = .int .i64 ((i + k : Nat) : Int) ∧ i + k ≤ j ∧ Hid (t = ((j : Int) - i - 1) * sp + sumK zs i k) ∧ wr = w) (fun _ i' _ => j - (intOf i').toNat)
  case atStart => exact ⟨0, _, rfl, by rfl, by omega, Lib.hid (by unfold sumK; rw [Int.add_zero]), rfl⟩
  case round =>
    obtain ⟨k, t, rfl, rfl, hkj, HT, rfl⟩ := hrel
    by_cases hlt : i + k < j
    · have hlt2 : ((i + k : Nat) : Int) < (j : Int) := by omega
      have hltn : ((i + k : Nat) : Int) < (n : Int) := by omega
      obtain ⟨b', off, rfl, hc⟩ := HA.out.at_ (show i + k < n by omega)
      obtain ⟨z, hz⟩ : ∃ z, zs[i + k]?.getD 0 = z := ⟨_, rfl⟩
      rw [hz] at hc
      have hzb := word_bd HNE.out (i + k)
      have hsb := sumK_bd HNE.out i k
      have HT2 := Lib.hid (show t + z = ((j : Int) - i - 1) * sp + sumK zs i (k + 1) by rw [HT.out, sumK, Int.add_assoc]; congr 1; rw [← hz]; rfl)
      have ht0 : 0 ≤ t := by rw [HT.out]; have := HX1.out; omega
      have ht1 : t ≤ 2000 * 35184372088832 := by
        rw [HT.out]
        have h1 := HX2.out
        have h2 : (k : Int) * farN ≤ 1000 * farN := Int.mul_le_mul_of_nonneg_right (by omega) (by unfold farN; omega)
        unfold farN at *
        omega
      unfold wordI at hzb
      rw [hz] at hzb
      obtain ⟨hz0, hz1⟩ := hzb
      unfold farN at hz1
      clear hz hsb
      go_wp2_with fail
      go_roundw
      case rel => exact ⟨k + 1, t + z, rfl, by go_num, by omega, HT2, by first | rfl | trivial⟩
      case measure => simp [intOf] <;> omega
    · have hge : (j : Int) ≤ ((i + k : Nat) : Int) := by omega
      have HV2 := Lib.hid (show t = v by rw [HT.out, ← HV.out, show j - i = k by omega])
      go_wp2_with fail
      go_ret
      exact ⟨ret_int HV2.out, rfl⟩
end Go.Proofs.Ytipmdhfinlkceaa
namespace Go.Proofs.Ytipmdhfinlkceaa
open Go.ChangeShapes Go.WideShapes Go.ChangeAt Go.RowKit Go.Joins
set_option maxRecDepth 100000
section
variable {H : Type} {enc : TypeId × Value → H} {W : World}
theorem trod_am {fuel : Nat} {cs : List Value} {x : DataW H × List MemPlace} (h : DataW.trod enc Try.prog W 0 (fun _ => true) true fuel 32 cs = some x) : ∃ a0 a1 a2 a3 a4 a5 a6 a7 : Int, cs = [.int .i64 a0, .int .i64 a1, .int .i64 a2, .int .i64 a3, .int .i64 a4, .int .i64 a5, .int .i64 a6, .int .i64 a7] ∧ (Lit.int .i64 a0).wf = true ∧ (Lit.int .i64 a1).wf = true ∧ (Lit.int .i64 a2).wf = true ∧ (Lit.int .i64 a3).wf = true ∧ (Lit.int .i64 a4).wf = true ∧ (Lit.int .i64 a5).wf = true ∧ (Lit.int .i64 a6).wf = true ∧ (Lit.int .i64 a7).wf = true := by
  obtain ⟨hl, n, hf⟩ := trod_flat Try.underlying32 h
  have hc : Try.prog.cellsOf 32 = 8 := by kernel_rfl
  rw [hc] at hl
  match cs, hl with
  | [x0, x1, x2, x3, x4, x5, x6, x7], _ =>
    obtain ⟨y0, h0⟩ := hf 0 _ rfl
    simp only [List.getElem_toArray, List.getElem_cons_zero, List.getElem_cons_succ, cellsOne] at h0
    obtain ⟨a0, e0, _, k0⟩ := DataW.trod_int Try.underlying3 h0
    simp at e0
    subst e0
    obtain ⟨y1, h1⟩ := hf 1 _ rfl
    simp only [List.getElem_toArray, List.getElem_cons_zero, List.getElem_cons_succ, cellsOne] at h1
    obtain ⟨a1, e1, _, k1⟩ := DataW.trod_int Try.underlying3 h1
    simp at e1
    subst e1
    obtain ⟨y2, h2⟩ := hf 2 _ rfl
    simp only [List.getElem_toArray, List.getElem_cons_zero, List.getElem_cons_succ, cellsOne] at h2
    obtain ⟨a2, e2, _, k2⟩ := DataW.trod_int Try.underlying3 h2
    simp at e2
    subst e2
    obtain ⟨y3, h3⟩ := hf 3 _ rfl
    simp only [List.getElem_toArray, List.getElem_cons_zero, List.getElem_cons_succ, cellsOne] at h3
    obtain ⟨a3, e3, _, k3⟩ := DataW.trod_int Try.underlying3 h3
    simp at e3
    subst e3
    obtain ⟨y4, h4⟩ := hf 4 _ rfl
    simp only [List.getElem_toArray, List.getElem_cons_zero, List.getElem_cons_succ, cellsOne] at h4
    obtain ⟨a4, e4, _, k4⟩ := DataW.trod_int Try.underlying3 h4
    simp at e4
    subst e4
    obtain ⟨y5, h5⟩ := hf 5 _ rfl
    simp only [List.getElem_toArray, List.getElem_cons_zero, List.getElem_cons_succ, cellsOne] at h5
    obtain ⟨a5, e5, _, k5⟩ := DataW.trod_int Try.underlying3 h5
    simp at e5
    subst e5
    obtain ⟨y6, h6⟩ := hf 6 _ rfl
    simp only [List.getElem_toArray, List.getElem_cons_zero, List.getElem_cons_succ, cellsOne] at h6
    obtain ⟨a6, e6, _, k6⟩ := DataW.trod_int Try.underlying3 h6
    simp at e6
    subst e6
    obtain ⟨y7, h7⟩ := hf 7 _ rfl
    simp only [List.getElem_toArray, List.getElem_cons_zero, List.getElem_cons_succ, cellsOne] at h7
    obtain ⟨a7, e7, _, k7⟩ := DataW.trod_int Try.underlying3 h7
    simp at e7
    subst e7
    exact ⟨a0, a1, a2, a3, a4, a5, a6, a7, rfl, k0, k1, k2, k3, k4, k5, k6, k7⟩
theorem open_ams {base : Nat} {v : Value} {d : DataW H} {p : List MemPlace} (hv : Value.okWide Try.prog W .any base 23 v) (h : DataW.Trod enc Try.prog W 0 (fun _ => true) true 23 v d p) :
    ∃ A n c zs, v = .slice A n c ∧ n ≤ c ∧ c ≤ maxLen ∧ Rows 8 encAm W A n zs ∧ ∀ z ∈ zs, ∀ u ∈ encAm z, ∃ a : Int, u = .int .i64 a ∧ (Lit.int .i64 a).wf = true := by
  refine open_rows encAm (fun z => ∀ u ∈ encAm z, ∃ a : Int, u = .int .i64 a ∧ (Lit.int .i64 a).wf = true) Try.underlying23 (by kernel_rfl) (by decide) encAm_len ?_ hv h
  intro fuel cs y hy
  obtain ⟨a0, a1, a2, a3, a4, a5, a6, a7, rfl, k0, k1, k2, k3, k4, k5, k6, k7⟩ := trod_am hy
  refine ⟨⟨a0, a1, a2, a3, a4, a5, a6, a7⟩, rfl, fun u hu => ?_⟩
  simp only [encAm, List.mem_cons, List.not_mem_nil, or_false] at hu
  rcases hu with rfl | rfl | rfl | rfl | rfl | rfl | rfl | rfl
  · exact ⟨_, rfl, k0⟩
  · exact ⟨_, rfl, k1⟩
  · exact ⟨_, rfl, k2⟩
  · exact ⟨_, rfl, k3⟩
  · exact ⟨_, rfl, k4⟩
  · exact ⟨_, rfl, k5⟩
  · exact ⟨_, rfl, k6⟩
  · exact ⟨_, rfl, k7⟩
end
end Go.Proofs.Ytipmdhfinlkceaa
namespace Go.Proofs.Ytipmdhfinlkceaa
open Go.ChangeShapes Go.WideShapes Go.ChangeAt Go.RowKit Go.Joins
theorem cellsNode : Try.prog.cellsOf 40 = 20 := by kernel_rfl
theorem cellsStyle : Try.prog.cellsOf 37 = 12 := by kernel_rfl
theorem cellsInt5 : Try.prog.cellsOf 3 = 1 := by kernel_rfl
theorem cellsInts5 : Try.prog.cellsOf 38 = 1 := by kernel_rfl
section
variable {H : Type} {enc : TypeId × Value → H} {W : World}
theorem trod_field {fs : Array Field} {t : TypeId} {fuel : Nat} {cs : List Value} {x : DataW H × List MemPlace} (ht : Try.prog.underlying t = some (.struct fs)) (h : DataW.trod enc Try.prog W 0 (fun _ => true) true fuel t cs = some x) :
    cs.length = Try.prog.cellsOf t ∧ ∃ n, ∀ (i : Nat) (f : Field), fs[i]? = some f → ∃ y, DataW.trod enc Try.prog W 0 (fun _ => true) true n f.type ((cs.drop f.offset).take (Try.prog.cellsOf f.type)) = some y := by
  obtain ⟨xs, n, _, _, hl, hlen, hf⟩ := DataW.trod_struct ht h
  refine ⟨hl, n, fun i f hi => ?_⟩
  have hlt : i < xs.length := by rw [hlen]; exact (Array.getElem?_eq_some_iff.1 hi).1
  exact ⟨xs[i], by rw [hf i f hi, List.getElem?_eq_getElem hlt]⟩
theorem trod_words {fuel : Nat} {cs : List Value} {x : DataW H × List MemPlace} (h : DataW.trod enc Try.prog W 0 (fun _ => true) true fuel 38 cs = some x) : ∃ A n c zs, cs = [.slice A n c] ∧ Ints W A n zs := by
  rcases open_ints Try.underlying38 Try.underlying3 cellsInt5 h with ⟨hcs, _⟩ | ⟨a, len, cap, zs, hcs, _, hl, hm, hz, _, hcell, hw⟩
  · exact ⟨none, 0, 0, [], hcs, Ints.nil _ _⟩
  · simp only [if_true] at hz
    refine ⟨_, len, cap, zs.take len, hcs, ⟨by rw [List.length_take]; omega, by unfold maxLen at hm; omega, fun hn => ?_⟩⟩
    obtain ⟨b, off, spot⟩ := a
    have hspot : spot = none := by simpa [Addr.add] using World.cell?_spot (hcell 0 (by omega))
    subst hspot
    have hc0 : ∀ k, k < len → W.cell? ⟨b, off + k, none⟩ = some (.int .i64 ((zs.take len)[k]?.getD 0)) := by
      intro k hk
      rw [← add_plain, hcell k (by omega)]
      simp [hk]
    exact ⟨b, off, rfl, cell_lt (hc0 0 hn), hc0⟩
set_option maxRecDepth 100000 in
theorem trod_sty {fuel : Nat} {cs : List Value} {x : DataW H × List MemPlace} (h : DataW.trod enc Try.prog W 0 (fun _ => true) true fuel 37 cs = some x) : ∃ s : Sty, cs = encS12 s := by
  obtain ⟨hl, n, hf⟩ := trod_field Try.underlying37 h
  rw [cellsStyle] at hl
  match cs, hl with
  | [x0, x1, x2, x3, x4, x5, x6, x7, x8, x9, x10, x11], _ =>
    obtain ⟨y0, h0⟩ := hf 0 _ rfl
    simp only [List.getElem_toArray, List.getElem_cons_zero, List.getElem_cons_succ, cellsInt5] at h0
    obtain ⟨a0, e0, _, _⟩ := DataW.trod_int Try.underlying3 h0
    simp at e0
    subst e0
    obtain ⟨y1, h1⟩ := hf 1 _ rfl
    simp only [List.getElem_toArray, List.getElem_cons_zero, List.getElem_cons_succ, cellsInt5] at h1
    obtain ⟨a1, e1, _, _⟩ := DataW.trod_int Try.underlying3 h1
    simp at e1
    subst e1
    obtain ⟨y2, h2⟩ := hf 2 _ rfl
    simp only [List.getElem_toArray, List.getElem_cons_zero, List.getElem_cons_succ, cellsInt5] at h2
    obtain ⟨a2, e2, _, _⟩ := DataW.trod_int Try.underlying3 h2
    simp at e2
    subst e2
    obtain ⟨y3, h3⟩ := hf 3 _ rfl
    simp only [List.getElem_toArray, List.getElem_cons_zero, List.getElem_cons_succ, cellsInt5] at h3
    obtain ⟨a3, e3, _, _⟩ := DataW.trod_int Try.underlying3 h3
    simp at e3
    subst e3
    obtain ⟨y4, h4⟩ := hf 4 _ rfl
    simp only [List.getElem_toArray, List.getElem_cons_zero, List.getElem_cons_succ, cellsInt5] at h4
    obtain ⟨a4, e4, _, _⟩ := DataW.trod_int Try.underlying3 h4
    simp at e4
    subst e4
    obtain ⟨y5, h5⟩ := hf 5 _ rfl
    simp only [List.getElem_toArray, List.getElem_cons_zero, List.getElem_cons_succ, cellsInt5] at h5
    obtain ⟨a5, e5, _, _⟩ := DataW.trod_int Try.underlying3 h5
    simp at e5
    subst e5
    obtain ⟨y6, h6⟩ := hf 6 _ rfl
    simp only [List.getElem_toArray, List.getElem_cons_zero, List.getElem_cons_succ, cellsInt5] at h6
    obtain ⟨a6, e6, _, _⟩ := DataW.trod_int Try.underlying3 h6
    simp at e6
    subst e6
    obtain ⟨y7, h7⟩ := hf 7 _ rfl
    simp only [List.getElem_toArray, List.getElem_cons_zero, List.getElem_cons_succ, cellsInt5] at h7
    obtain ⟨a7, e7, _, _⟩ := DataW.trod_int Try.underlying3 h7
    simp at e7
    subst e7
    obtain ⟨y8, h8⟩ := hf 8 _ rfl
    simp only [List.getElem_toArray, List.getElem_cons_zero, List.getElem_cons_succ, cellsInt5] at h8
    obtain ⟨a8, e8, _, _⟩ := DataW.trod_int Try.underlying3 h8
    simp at e8
    subst e8
    obtain ⟨y9, h9⟩ := hf 9 _ rfl
    simp only [List.getElem_toArray, List.getElem_cons_zero, List.getElem_cons_succ, cellsInt5] at h9
    obtain ⟨a9, e9, _, _⟩ := DataW.trod_int Try.underlying3 h9
    simp at e9
    subst e9
    obtain ⟨y10, h10⟩ := hf 10 _ rfl
    simp only [List.getElem_toArray, List.getElem_cons_zero, List.getElem_cons_succ, cellsInt5] at h10
    obtain ⟨a10, e10, _, _⟩ := DataW.trod_int Try.underlying3 h10
    simp at e10
    subst e10
    obtain ⟨y11, h11⟩ := hf 11 _ rfl
    simp only [List.getElem_toArray, List.getElem_cons_zero, List.getElem_cons_succ, cellsInt5] at h11
    obtain ⟨a11, e11, _, _⟩ := DataW.trod_int Try.underlying3 h11
    simp at e11
    subst e11
    exact ⟨⟨a0, a1, a2, a3, a4, a5, a6, a7, a8, a9, a10, a11⟩, rfl⟩
set_option maxRecDepth 100000 in
theorem trod_node {fuel : Nat} {cs : List Value} {x : DataW H × List MemPlace} (h : DataW.trod enc Try.prog W 0 (fun _ => true) true fuel 40 cs = some x) : ∃ m : NdM, cs = encM m ∧ ∃ ws, Ints W m.A m.n ws := by
  obtain ⟨hl, n, hf⟩ := trod_field Try.underlying40 h
  rw [cellsNode] at hl
  match cs, hl with
  | [x0, x1, x2, x3, x4, x5, x6, x7, x8, x9, x10, x11, x12, x13, x14, x15, x16, x17, x18, x19], _ =>
    obtain ⟨y0, h0⟩ := hf 0 _ rfl
    simp only [List.getElem_toArray, List.getElem_cons_zero, List.getElem_cons_succ, cellsInt5] at h0
    obtain ⟨a0, e0, _, _⟩ := DataW.trod_int Try.underlying3 h0
    simp at e0
    subst e0
    obtain ⟨y1, h1⟩ := hf 1 _ rfl
    simp only [List.getElem_toArray, List.getElem_cons_zero, List.getElem_cons_succ, cellsInt5] at h1
    obtain ⟨a1, e1, _, _⟩ := DataW.trod_int Try.underlying3 h1
    simp at e1
    subst e1
    obtain ⟨y3, h3⟩ := hf 3 _ rfl
    simp only [List.getElem_toArray, List.getElem_cons_zero, List.getElem_cons_succ, cellsInt5] at h3
    obtain ⟨a3, e3, _, _⟩ := DataW.trod_int Try.underlying3 h3
    simp at e3
    subst e3
    obtain ⟨y4, h4⟩ := hf 4 _ rfl
    simp only [List.getElem_toArray, List.getElem_cons_zero, List.getElem_cons_succ, cellsInt5] at h4
    obtain ⟨a4, e4, _, _⟩ := DataW.trod_int Try.underlying3 h4
    simp at e4
    subst e4
    obtain ⟨y6, h6⟩ := hf 6 _ rfl
    simp only [List.getElem_toArray, List.getElem_cons_zero, List.getElem_cons_succ, cellsInt5] at h6
    obtain ⟨a6, e6, _, _⟩ := DataW.trod_int Try.underlying3 h6
    simp at e6
    subst e6
    obtain ⟨y7, h7⟩ := hf 7 _ rfl
    simp only [List.getElem_toArray, List.getElem_cons_zero, List.getElem_cons_succ, cellsInt5] at h7
    obtain ⟨a7, e7, _, _⟩ := DataW.trod_int Try.underlying3 h7
    simp at e7
    subst e7
    obtain ⟨y8, h8⟩ := hf 8 _ rfl
    simp only [List.getElem_toArray, List.getElem_cons_zero, List.getElem_cons_succ, cellsInt5] at h8
    obtain ⟨a8, e8, _, _⟩ := DataW.trod_int Try.underlying3 h8
    simp at e8
    subst e8
    obtain ⟨y2, h2⟩ := hf 2 _ rfl
    simp only [List.getElem_toArray, List.getElem_cons_zero, List.getElem_cons_succ, cellsStyle] at h2
    obtain ⟨s, e2⟩ := trod_sty h2
    simp [encS12] at e2
    obtain ⟨rfl, rfl, rfl, rfl, rfl, rfl, rfl, rfl, rfl, rfl, rfl, rfl⟩ := e2
    obtain ⟨y5, h5⟩ := hf 5 _ rfl
    simp only [List.getElem_toArray, List.getElem_cons_zero, List.getElem_cons_succ, cellsInts5] at h5
    obtain ⟨A, k, c, ws, e5, hws⟩ := trod_words h5
    simp at e5
    subst e5
    exact ⟨⟨a0, a1, s, a3, a4, A, k, c, a6, a7, a8⟩, rfl, ws, hws⟩
theorem shows_list : ∀ (zs : List NdM), (∀ z ∈ zs, ∃ ws, Ints W z.A z.n ws) → ∃ l : List Nd, zs.length = l.length ∧ ∀ (i : Nat) (m : NdM) (x : Nd), zs[i]? = some m → l[i]? = some x → Shows W m x
  | [], _ => ⟨[], rfl, fun i m x h => by simp at h⟩
  | z :: zs, hz => by
    obtain ⟨ws, hw⟩ := hz z (by simp)
    obtain ⟨l, h1, h2⟩ := shows_list zs (fun y hy => hz y (by simp [hy]))
    refine ⟨⟨z.kind, z.size, z.sty, z.line, z.space, ws, z.side, z.w, z.h⟩ :: l, by simp [h1], fun i m x e1 e2 => ?_⟩
    cases i with
    | zero =>
      simp at e1 e2
      subst e1 e2
      exact ⟨⟨rfl, rfl, rfl, rfl, rfl, rfl, rfl, rfl⟩, hw⟩
    | succ i => exact h2 i m x (by simpa using e1) (by simpa using e2)
set_option maxRecDepth 100000 in
theorem open_nodesC {base : Nat} {v : Value} {d : DataW H} {p : List MemPlace} (hv : Value.okWide Try.prog W .any base 22 v) (h : DataW.Trod enc Try.prog W 0 (fun _ => true) true 22 v d p) :
    ∃ A n c l, v = .slice A n c ∧ (n ≤ c ∧ c ≤ 9223372036854775807) ∧ Sees W A n l := by
  obtain ⟨A, n, c, zs, h1, h2, h3, h4, h5⟩ := open_rows encM (fun m => ∃ ws, Ints W m.A m.n ws) Try.underlying22 cellsNode (by decide) encM_len (fun fuel cs y hy => trod_node hy) hv h
  obtain ⟨l, h6, h7⟩ := shows_list zs h5
  exact ⟨A, n, c, l, h1, ⟨h2, by unfold maxLen at h3; omega⟩, zs, h4, h6, h7⟩
end
end Go.Proofs.Ytipmdhfinlkceaa
namespace Go.Proofs.Ytipmdhfinlkceaa
open Go.RowKit
def ReadB (s : ByteArray) (r : Option (List Nd) × Nat) : Prop := (∃ k, lexB s = (none, k) ∧ r = (none, k)) ∨ (∃ toks q, lexB s = (some toks, q) ∧ Read toks s.size r)
theorem ReadB.det {s : ByteArray} {r r' : Option (List Nd) × Nat} (h : ReadB s r) (h' : ReadB s r') : r = r' := by
  rcases h with ⟨k, h1, rfl⟩ | ⟨t, q, h1, h2⟩ <;> rcases h' with ⟨k', h1', rfl⟩ | ⟨t', q', h1', h2'⟩ <;> rw [h1] at h1'
  · injection h1' with _ h; rw [h]
  · injection h1' with h _; cases h
  · injection h1' with h _; cases h
  · injection h1' with h _; injection h with h; subst h; exact h2.det h2'
def OfPost (w : World) (s : ByteArray) (e : Ending) (w' : World) : Prop :=
  (∃ x A n c, ReadB s (some x, 0) ∧ e = .returned (.tuple #[.slice A n c, .int .i64 0, .int .i64 0]) ∧ Nds w.heap.size w' A n x ∧ Below w.heap.size w w') ∨
  (∃ k : Nat, ReadB s (none, k) ∧ e = .returned (.tuple #[.slice none 0 0, .int .i64 (k : Int), .int .i64 1]) ∧ Below w.heap.size w w')
def zeroM (kind side : Int) : NdM := ⟨kind, 1, .none, 0, 0, none, 0, 0, side, 0, 0⟩
theorem int_info5 : (Try.prog.info? 3).map (fun i => (i.zero, i.size, i.bytes)) = some (some (.int .i64 0), 1, 8) := by kernel_rfl
theorem node_info5 : (Try.prog.info? 40).map (fun i => (i.zero, i.size, i.bytes)) = some (some (.agg #[.int .i64 0, .int .i64 0, .int .i64 0, .int .i64 0, .int .i64 0, .int .i64 0, .int .i64 0, .int .i64 0, .int .i64 0, .int .i64 0, .int .i64 0, .int .i64 0, .int .i64 0, .int .i64 0, .int .i64 0, .int .i64 0, .slice none 0 0, .int .i64 0, .int .i64 0, .int .i64 0]), 20, 176) := by kernel_rfl
def cellNat (w : World) (a : Addr) : Nat := match w.cell? a with
  | some (.int _ z) => z.toNat
  | _ => 0
theorem blk_not_row {w : World} {T : Nat} {t e : TypeId} {vs : List Value} {base size n : Nat} {v : Value} {xs : List Value} (h : Blk w T t vs) (hne : t ≠ e) (ho : w.ownsRow base e size v n xs) : ∀ k, v.ownBlock = some k → k ≠ T := by
  intro k hk e'
  subst e'
  rcases ho.2 with ⟨q, _⟩ | ⟨g, cap, cur, q, _, q3, _⟩
  · rw [q] at hk; cases hk
  · rw [q] at hk
    injection hk with hk
    rw [show k = g from hk.symm] at h
    rw [show w.heap[g]? = _ from h] at q3
    injection q3 with q3
    injection q3 with _ q3 _
    exact hne q3
theorem owns_one {w : World} {e : TypeId} {size base : Nat} (vs : List Value) (hl : vs.length = size) (h0 : 0 < size) (hb : base ≤ w.heap.size) (h1 : ∀ u ∈ vs, u.oneCell' = true) (n : Nat) (hn : n = w.heap.size) (cs : Array Value) (hc : cs = vs.toArray) : (w.alloc (.cells cs e)).ownsRow base e size (.slice (some ⟨n, 0, none⟩) 1 1) 1 vs := by
  subst hn hc
  exact ⟨by omega, .inr ⟨w.heap.size, 1, vs.toArray, rfl, hb, World.alloc_heap_new w _, by decide, by decide, by simp [hl], by rw [Nat.one_mul, ← hl]; simp⟩⟩
theorem yields_row {P : Program} {a : Act} {o : Oper} {S : World → Prop} (t : TypeId) (x : Operand) (ho : o.op = .load t x) (g : Nat) (hx : a.eval x = .pointer (some ⟨g, 0, none⟩)) (te : TypeId) (cs : Array Value) (d : TypeDesc)
    (hS : ∀ w, S w → w.heap[g]? = some (.cells cs te (0, 0))) (hu : P.underlying t = some d) (hd : (match d with | .struct _ | .array _ _ => true | _ => false) = true) (hi : (P.info? t).map (·.size) = some cs.size) :
    ∀ w, S w → (execOp a.eval o).run P w = .ok (.value (.agg cs)) w := fun w hw => by
  have hr := run_loadVar_row (P := P) w g te t cs (0, 0) d (hS w hw) hu hd hi
  unfold execOp
  simp only [ho, hx, Instr.loadAt, Instr.sureAddr, Sem.run_bind, Sem.run_pure, Result.andThen_ok, hr]
def ReadOk (w : World) (x : List Nd) (e : Ending) (w' : World) : Prop := ∃ A n c, e = .returned (.tuple #[.slice A n c, .int .i64 0, .int .i64 0]) ∧ Nds w.heap.size w' A n x ∧ Below w.heap.size w w'
theorem of_ok {w w' : World} {s : ByteArray} {e : Ending} {x : List Nd} (h : ReadB s (some x, 0)) (hp : OfPost w s e w') : ReadOk w x e w' := by
  rcases hp with ⟨x', A, n, c, h1, h2, h3, h4⟩ | ⟨k, h1, _⟩
  · have := h.det h1
    injection this with h5 _; injection h5 with h5; subst h5
    exact ⟨A, n, c, h2, h3, h4⟩
  · have := h.det h1
    injection this with h5 _; cases h5
def evalF (s : ByteArray) : Option (Option (List Nd) × Nat) := match lexB s with
  | (some toks, 0) => readF toks s.size
  | (none, k) => some (none, k)
  | _ => none
theorem evalF_ok {s : ByteArray} {r : Option (List Nd) × Nat} (h : evalF s = some r) : ReadB s r := by
  unfold evalF at h
  split at h
  · rename_i toks h1; exact .inr ⟨toks, 0, h1, readF_ok h⟩
  · rename_i k h1; cases h; exact .inl ⟨k, h1, rfl⟩
  · cases h
theorem rows_range {w : World} {A : Option Addr} {n k : Nat} {zs : List NdM} (h : Rows 20 encM w A n zs) (hk : k < n) : ∃ b off m, A = some ⟨b, off, none⟩ ∧ b < w.heap.size ∧ zs[k]? = some m ∧ w.rangeAt b (off + k * 20) (encM m) := by
  obtain ⟨b, off, m, h1, h2, h3, h4⟩ := h.at_ hk
  exact ⟨b, off, m, h1, h2, h3, h4⟩
theorem range_on {w : World} {b o : Nat} {cs : List Value} (h : w.rangeAt b o cs) : ∀ W', On w W' → W'.rangeAt b o cs := fun W' hW j v hv => On.cell (h j v hv) W' hW
theorem Sees.at_ {w : World} {A : Option Addr} {n k : Nat} {l : List Nd} (h : Sees w A n l) (hk : k < n) : ∃ b off m x, A = some ⟨b, off, none⟩ ∧ b < w.heap.size ∧ l[k]? = some x ∧ w.rangeAt b (off + k * 20) (encM m) ∧ Shows w m x := by
  obtain ⟨zs, h1, h2, h3⟩ := h
  obtain ⟨b, off, m, e1, e2, e3, e4⟩ := rows_range h1 hk
  have hl := h1.1
  have hx : l[k]? = some (l[k]'(by omega)) := List.getElem?_eq_getElem _
  exact ⟨b, off, m, _, e1, e2, hx, e4, h3 k m _ e3 hx⟩
theorem Sees.bound {w : World} {A : Option Addr} {n : Nat} {l : List Nd} (h : Sees w A n l) : n ≤ 9223372036854775807 := by
  obtain ⟨zs, h1, _⟩ := h
  exact h1.2.1
theorem Sees.on {w w' : World} {A : Option Addr} {n : Nat} {l : List Nd} (h : Sees w A n l) (hb : On w w') : Sees w' A n l := h.below hb
theorem Sees.nil (w : World) : Sees w none 0 [] := ⟨[], Rows.nil _ _, rfl, fun i m x h => by simp at h⟩
def IntsOut (w : World) (zs : List Int) (e : Ending) (w' : World) : Prop := ∃ A n c, e = .returned (.slice A n c) ∧ w'.ownsRow w.heap.size 3 1 (.slice A n c) n (zs.map (Value.int .i64)) ∧ Below w.heap.size w w'
theorem vhas_to {L : List Nd} {a : Int} {v : Bool} (hv : hasI L a = v) {A : Option Addr} {n c : Nat} {w : World} (h : Sees w A n L) : Calls Try.prog 65 #[.slice A n c, .int .i64 a] w fun e w' => e = .returned (.bool v) ∧ w = w' := by
  have hl := h.len
  have hb := h.bound
  subst hv
  by_cases h0 : 0 ≤ a
  · by_cases h1 : a < (n : Int)
    · have HV := Lib.hid (show hasI L a = true from hasI_iff.2 ⟨h0, by omega⟩)
      clear h hl
      go_enter Try.func65, Try.ntmps65
      go_wp2_with fail
      go_ret
      exact ⟨ret_bool HV.out.symm, rfl⟩
    · have HV := Lib.hid (show hasI L a = false by rcases hq : hasI L a with _ | _; rfl; have := (hasI_iff.1 hq).2; omega)
      have h2 : (n : Int) ≤ a := by omega
      clear h hl
      go_enter Try.func65, Try.ntmps65
      go_wp2_with fail
      go_ret
      exact ⟨ret_bool HV.out.symm, rfl⟩
  · have HV := Lib.hid (show hasI L a = false by rcases hq : hasI L a with _ | _; rfl; have := (hasI_iff.1 hq).1; omega)
    have h2 : a < 0 := by omega
    clear h hl
    go_enter Try.func65, Try.ntmps65
    go_wp2_with fail
    go_ret
    exact ⟨ret_bool HV.out.symm, rfl⟩
set_option maxHeartbeats 1000000 in
set_option maxRecDepth 100000 in
theorem vholds_to {L : List Nd} (hn : Nested L) {a b : Int} {v : Bool} (hv : holdsI L a b = v) {A : Option Addr} {n c : Nat} {w : World} (h : Sees w A n L) (hn2 : n ≤ 100000) : Calls Try.prog 66 #[.slice A n c, .int .i64 a, .int .i64 b] w fun e w' => e = .returned (.bool v) ∧ w = w' := by
  have HA := Lib.hid h
  have hl := h.len
  rcases hqa : hasI L a with _ | _
  · have HV := Lib.hid (show false = v by rw [← hv]; unfold holdsI; rw [hqa]; rfl)
    have HQ := Lib.hid hqa
    clear h hv hqa hl
    go_enter Try.func66, Try.ntmps66
    go_wp2_with fail
    refine (vhas_to HQ.out HA.out).mono ?_
    rintro e w1 ⟨rfl, rfl⟩
    go_wp2_with fail
    go_ret
    exact ⟨ret_bool HV.out, rfl⟩
  rcases hqb : hasI L b with _ | _
  · have HV := Lib.hid (show false = v by rw [← hv]; unfold holdsI; rw [hqa, hqb]; rfl)
    have HQ := Lib.hid hqa
    have HQ2 := Lib.hid hqb
    clear h hv hqa hqb hl
    go_enter Try.func66, Try.ntmps66
    go_wp2_with fail
    refine (vhas_to HQ.out HA.out).mono ?_
    rintro e w1 ⟨rfl, rfl⟩
    go_wp2_with fail
    refine (vhas_to HQ2.out HA.out).mono ?_
    rintro e w1 ⟨rfl, rfl⟩
    go_wp2_with fail
    go_ret
    exact ⟨ret_bool HV.out, rfl⟩
  obtain ⟨a0, a1⟩ := hasI_iff.1 hqa
  obtain ⟨b0, b1⟩ := hasI_iff.1 hqb
  obtain ⟨i, rfl⟩ : ∃ i : Nat, a = (i : Int) := ⟨a.toNat, by omega⟩
  obtain ⟨j, rfl⟩ : ∃ j : Nat, b = (j : Int) := ⟨b.toNat, by omega⟩
  have hin : i < n := by omega
  obtain ⟨b1', o1, m1, x1, rfl, hb1, e1, r1, s1⟩ := h.at_ hin
  have c1 := r1 1 _ rfl
  have hms : m1.size = x1.size := s1.1.2.1.symm
  obtain ⟨z, hz⟩ : ∃ z, m1.size = z := ⟨_, rfl⟩
  have c1' : w.cell? ⟨b1', o1 + i * 20 + 1, none⟩ = some (.int .i64 z) := by rw [← hz]; exact c1
  have hnx := hn i x1 e1
  have hz0 : 1 ≤ z ∧ z ≤ 100000 := by have := hnx.1; have := hnx.2.1; omega
  obtain ⟨z0, z1⟩ := hz0
  have hv2 : holdP L i j = v := by rw [← hv]; unfold holdsI; rw [hqa, hqb]; simp
  have hin2 : (i : Int) < (n : Int) := by omega
  have hjn : (j : Int) < (n : Int) := by omega
  have HQ := Lib.hid hqa
  have HQ2 := Lib.hid hqb
  by_cases hij : i ≤ j
  · by_cases hlt : (j : Int) - (i : Int) < z
    · have HV := Lib.hid (show true = v by rw [← hv2]; exact (holdP_iff.2 ⟨x1, e1, by omega, hij, by omega⟩).symm)
      have h1 : (i : Int) ≤ (j : Int) := by omega
      clear h hv hv2 hqa hqb hl hms hz c1 hnx r1 s1 e1 a0 a1 b0 b1
      go_enter Try.func66, Try.ntmps66
      go_wp2_with fail
      refine (vhas_to HQ.out HA.out).mono ?_
      rintro e w1 ⟨rfl, rfl⟩
      go_wp2_with fail
      refine (vhas_to HQ2.out HA.out).mono ?_
      rintro e w1 ⟨rfl, rfl⟩
      go_wp2_with fail
      go_ret
      exact ⟨ret_bool HV.out, rfl⟩
    · have HV := Lib.hid (show false = v by
        rw [← hv2]
        rcases hq : holdP L i j with _ | _
        · rfl
        · obtain ⟨x, g1, _, _, g4⟩ := holdP_iff.1 hq
          rw [e1] at g1; injection g1 with g1; subst g1; omega)
      have h1 : (i : Int) ≤ (j : Int) := by omega
      have h2 : z ≤ (j : Int) - (i : Int) := by omega
      have hd : decide ((j : Int) - (i : Int) < z) = false := by simp; omega
      clear h hv hv2 hqa hqb hl hms hz c1 hnx r1 s1 e1 a0 a1 b0 b1 hlt
      go_enter Try.func66, Try.ntmps66
      go_wp2_with fail
      refine (vhas_to HQ.out HA.out).mono ?_
      rintro e w1 ⟨rfl, rfl⟩
      go_wp2_with fail
      refine (vhas_to HQ2.out HA.out).mono ?_
      rintro e w1 ⟨rfl, rfl⟩
      go_wp2_with fail
      go_ret
      exact ⟨ret_bool HV.out, rfl⟩
  · have HV := Lib.hid (show false = v by
      rw [← hv2]
      rcases hq : holdP L i j with _ | _
      · rfl
      · obtain ⟨x, _, _, g3, _⟩ := holdP_iff.1 hq; omega)
    have h1 : (j : Int) < (i : Int) := by omega
    clear h hv hv2 hqa hqb hl hms hz c1 hnx r1 s1 e1 a0 a1 b0 b1 hij
    go_enter Try.func66, Try.ntmps66
    go_wp2_with fail
    refine (vhas_to HQ.out HA.out).mono ?_
    rintro e w1 ⟨rfl, rfl⟩
    go_wp2_with fail
    refine (vhas_to HQ2.out HA.out).mono ?_
    rintro e w1 ⟨rfl, rfl⟩
    go_wp2_with fail
    go_ret
    exact ⟨ret_bool HV.out, rfl⟩
theorem cells_ofone (w : World) (t : TypeId) (v : Value) : Cells (w.alloc (.cells #[v] t)) (some ⟨w.heap.size, 0, none⟩) 1 1 [v] :=
  ⟨rfl, by decide, fun _ => ⟨w.heap.size, 0, rfl, by simp, fun j u hu => by
    have := (Box.new w [v] t).2.2 j u hu
    rw [Nat.zero_add]; exact this⟩⟩
theorem int_info8 : (Try.prog.info? 3).map (fun i => (i.zero, i.size, i.bytes)) = some (some (.int .i64 0), 1, 8) := by kernel_rfl
def upFrom (L : List Nd) (b k : Nat) : List Nat := (backTo L b b).filter fun i => decide (k ≤ i)
theorem upFrom_all (L : List Nd) (b : Nat) : upFrom L b 0 = backTo L b b := by
  unfold upFrom
  rw [List.filter_eq_self]
  intro i _
  simp
theorem upFrom_none (L : List Nd) (b : Nat) : upFrom L b b = [] := by
  unfold upFrom
  rw [List.filter_eq_nil_iff]
  intro i hi
  have := (up_mem.1 hi).1
  simp; omega
theorem filter_up {L : List Nd} {b : Nat} : ∀ {i k : Nat}, k < i → ((backTo L b i).filter fun j => decide (k ≤ j)) = ((backTo L b i).filter fun j => decide (k + 1 ≤ j)) ++ (if holdP L k b then [k] else [])
  | 0, k, h => by omega
  | i + 1, k, h => by
    have hlow : ∀ m, m ≤ k + 1 → ((backTo L b m).filter fun j => decide (k + 1 ≤ j)) = [] := fun m hm => by
      rw [List.filter_eq_nil_iff]
      intro j hj
      have := (up_mem.1 hj).1
      simp; omega
    rcases Nat.eq_or_lt_of_le (Nat.le_of_lt_succ h) with hk | hk
    · subst hk
      rw [hlow (k + 1) (Nat.le_refl _), up_succ]
      have hno : ((backTo L b k).filter fun j => decide (k ≤ j)) = [] := by
        rw [List.filter_eq_nil_iff]
        intro j hj
        have := (up_mem.1 hj).1
        simp; omega
      split
      · rw [List.filter_cons_of_pos (by simp), hno]; rfl
      · rw [hno]; rfl
    · have ih := filter_up (L := L) (b := b) (i := i) hk
      rw [up_succ]
      split
      · rw [List.filter_cons_of_pos (by simp; omega), List.filter_cons_of_pos (by simp; omega), ih, List.cons_append]
      · exact ih
theorem upFrom_step {L : List Nd} {b k : Nat} (h : k < b) : upFrom L b k = upFrom L b (k + 1) ++ (if holdP L k b then [k] else []) := filter_up h
theorem upFrom_len (L : List Nd) (b k : Nat) : (upFrom L b k).length ≤ b := Nat.le_trans (List.length_filter_le _ _) (up_len b)
def natsI (l : List Nat) : List Int := l.map fun i : Nat => (i : Int)
theorem holdsI_nat {L : List Nd} {i b : Nat} (hi : i < L.length) (hb : b < L.length) : holdsI L (i : Int) (b : Int) = holdP L i b := by
  unfold holdsI
  rw [hasI_iff.2 ⟨by omega, by omega⟩, hasI_iff.2 ⟨by omega, by omega⟩]
  simp
set_option maxHeartbeats 4000000 in
set_option maxRecDepth 100000 in
theorem vabove_to {L : List Nd} (hn : Nested L) {a : Int} (ha : -9223372036854775808 ≤ a ∧ a ≤ 9223372036854775807) {zs : List Int} (hv : aboveI L a = zs) {A : Option Addr} {n c : Nat} {w : World} (h : Sees w A n L) (hn2 : n ≤ 100000) :
    Calls Try.prog 59 #[.slice A n c, .int .i64 a] w (IntsOut w zs) := by
  obtain ⟨i0, hi0, hz0, hz1, hz2⟩ := info_parts int_info8
  have HA := Lib.hid h
  have hl := h.len
  rcases hq : hasI L a with _ | _
  · have HQ := Lib.hid hq
    have HV := Lib.hid (show [] = zs by rw [← hv]; unfold aboveI; rw [hq]; rfl)
    obtain ⟨u, hu⟩ : ∃ u, wrap64 (a - 1) = u := ⟨_, rfl⟩
    clear h hv hq hl hi0 hz0 hz1 hz2 ha
    by_cases hu0 : 0 ≤ u
    · go_enter Try.func59, Try.ntmps59
      go_wp2_with fail
      refine wp_loop_rounds 1 ?_
      rw [rounds_succ]
      go_wp2_with fail
      refine (vhas_to HQ.out HA.out).mono ?_
      rintro e w1 ⟨rfl, rfl⟩
      go_wp2_with fail
      go_ret
      rw [← HV.out]
      exact ⟨none, 0, 0, rfl, owns_nil _ _ _ _, Below.refl _ _⟩
    · have hu1 : u < 0 := by omega
      go_enter Try.func59, Try.ntmps59
      go_wp2_with fail
      refine wp_loop_rounds 1 ?_
      rw [rounds_succ]
      go_wp2_with fail
      go_ret
      rw [← HV.out]
      exact ⟨none, 0, 0, rfl, owns_nil _ _ _ _, Below.refl _ _⟩
  have HQ := Lib.hid hq
  obtain ⟨a0, a1⟩ := hasI_iff.1 hq
  obtain ⟨b, rfl⟩ : ∃ b : Nat, a = (b : Int) := ⟨a.toNat, by omega⟩
  have hbn : b < n := by omega
  have HV := Lib.hid (show natsI (backTo L b b) = zs by rw [← hv, aboveI_nat (by omega)]; unfold aboveP; rw [if_pos (by omega)]; rfl)
  have HL := Lib.hid hl
  clear h hv hq hl ha a0 a1
  obtain ⟨D, hD⟩ : ∃ D, w.heap.size = D := ⟨_, rfl⟩
  have HD := Lib.hid hD
  clear hD
  go_enter Try.func59, Try.ntmps59
  go_wp2_with fail
  go_loopw [5, 6] (fun o i wr => ∃ (k m c1 : Nat) (A1 : Option Addr), k ≤ b ∧ i = .int .i64 ((k : Int) - 1) ∧ o = .slice A1 m c1 ∧ wr.ownsRow D 3 1 (.slice A1 m c1) m ((natsI (upFrom L b k)).map (Value.int .i64)) ∧ m ≤ b ∧ On w wr) (fun _ i _ => (intOf i + 1).toNat)
  case atStart => exact ⟨b, 0, 0, none, Nat.le_refl _, rfl, rfl, by rw [upFrom_none]; exact owns_nil _ _ _ _, Nat.zero_le _, On.refl w⟩
  case round =>
    obtain ⟨k, m, c1, A1, hkb, rfl, rfl, hown, hmb, hon⟩ := hrel
    have HO := Lib.hid hon
    have HOw := Lib.hid hown
    clear hon hown
    cases k with
    | zero =>
      have hk0 : ((0 : Nat) : Int) - 1 < 0 := by omega
      have HVV := Lib.hid (show (natsI (upFrom L b 0)) = zs by rw [upFrom_all]; exact HV.out)
      go_wp2_with fail
      go_ret
      exact ⟨A1, m, c1, rfl, by rw [HD.out, ← HVV.out]; exact HOw.out, HO.out⟩
    | succ k =>
      have hkk : ((k + 1 : Nat) : Int) - 1 = (k : Int) := by omega
      rw [hkk]
      have hk0 : (0 : Int) ≤ (k : Int) := by omega
      have HLEN := Lib.hid (upFrom_step (L := L) (b := b) (k := k) (by omega))
      obtain ⟨hh, hhh⟩ : ∃ q, holdP L k b = q := ⟨_, rfl⟩
      have HH := Lib.hid (show holdsI L (k : Int) (b : Int) = hh by rw [holdsI_nat (by have := HL.out; omega) (by have := HL.out; omega)]; exact hhh)
      have HS := Lib.hid (HA.out.on HO.out)
      have HPH := Lib.hid hhh
      clear hhh hkk
      go_wp2_with fail
      refine (vhas_to HQ.out HS.out).mono ?_
      rintro e w1 ⟨rfl, rfl⟩
      go_wp2_with fail
      refine (vholds_to hn HH.out HS.out hn2).mono ?_
      rintro e w1 ⟨rfl, rfl⟩
      cases hh with
      | false =>
        have HE := Lib.hid (show upFrom L b k = upFrom L b (k + 1) by rw [HLEN.out, HPH.out]; simp)
        go_wp2_with fail
        go_roundw
        case rel => exact ⟨k, m, c1, A1, by omega, rfl, rfl, by rw [HE.out]; exact HOw.out, hmb, HO.out⟩
        case measure => simp [intOf] <;> omega
      | true =>
        have HE := Lib.hid (show (natsI (upFrom L b k)).map (Value.int .i64) = (natsI (upFrom L b (k + 1))).map (Value.int .i64) ++ [.int .i64 (k : Int)] by rw [HLEN.out, HPH.out]; unfold natsI; simp)
        have hm1 : m + 1 ≤ b := by
          have h1 := upFrom_len L b k
          have h2 := congrArg List.length HE.out
          have h3 := HOw.out.1
          simp only [List.length_append, List.length_map, List.length_cons, List.length_nil, natsI] at h2 h3
          omega
        have hws := HO.out.size
        go_wp2_with ((with_reducible refine stop_dst 25 ?_ ?_); exact rfl)
        refine Stop.intro ?_
        have hOA := owns_below HOw.out ((Below.refl wr.heap.size wr).alloc (Nat.le_refl _) (.cells #[.int .i64 (k : Int)] 3))
        refine wpList_append_cells _ rfl (.tmp 22) (.tmp 24) _ rfl D 3 i0 (.int .i64 0) 1 8 Try.underlying38 hi0 hz0 hz1 hz2 rfl (by decide) (.slice A1 m c1) m _ rfl hOA _ 1 1 _ rfl (cells_ofone wr 3 (.int .i64 (k : Int))) (by intro u hu; simp at hu; subst hu; rfl) (by unfold maxLen; omega) (by omega) (by have := HD.out; simp; omega) ?_
        intro A2 c2 w2 hown2 hg2
        have hb2 : On w w2 := (HO.out.alloc _).grown hg2 (by simp; omega) (fun r e => by have := owns_block hOA r e; have := HD.out; omega)
        have HO2 := Lib.hid hb2
        have HOw2 := Lib.hid (show w2.ownsRow D 3 1 (.slice A2 (m + 1) c2) (m + 1) ((natsI (upFrom L b k)).map (Value.int .i64)) by rw [HE.out]; exact hown2)
        clear hOA hown2 hg2 hb2
        go_wp2_with fail
        go_roundw
        case rel => exact ⟨k, m + 1, c2, A2, by omega, rfl, rfl, HOw2.out, hm1, HO2.out⟩
        case measure => simp [intOf] <;> omega
def PreV (l : List Nd) (w : World) (A : Option Addr) (n : Nat) : Prop := Sees w A n l ∧ n ≤ 100000
theorem PreV.below {l : List Nd} {w w' : World} {A : Option Addr} {n : Nat} (h : PreV l w A n) (hb : Below w.heap.size w w') : PreV l w' A n := ⟨h.1.below hb, h.2⟩
theorem sty_range {w : World} {g : Nat} {m : NdM} (h : Box w g (encM m)) : w.rangeAt g (0 + 2) (encS12 m.sty) := fun j v hv => by
  have hj : j < 12 := (List.getElem?_eq_some_iff.1 hv).1
  refine h.2.2 (2 + j) v ?_
  show (([.int .i64 m.kind, .int .i64 m.size] : List Value) ++ (encS12 m.sty ++ [.int .i64 m.line, .int .i64 m.space, .slice m.A m.n m.c, .int .i64 m.side, .int .i64 m.w, .int .i64 m.h]))[2 + j]? = _
  rw [List.getElem?_append_right (by simp), List.getElem?_append_left (by simp [encS12]; omega)]
  simpa using hv
theorem sty_equal0 (s : Sty) (w : World) : (Op.equalIn 10000 37 (.agg (encS12 s).toArray) (.agg #[.int .i64 0, .int .i64 0, .int .i64 0, .int .i64 0, .int .i64 0, .int .i64 0, .int .i64 0, .int .i64 0, .int .i64 0, .int .i64 0, .int .i64 0, .int .i64 0])).run Try.prog w = .ok (styB s .none) w := sty_equal s .none w
abbrev Run3 := Int × Int × Int
def takeN (zs : List Int) (sp wd : Int) (a : Nat) : Run3 := ((a : Int), (endP zs sp wd a : Int), wideN zs sp a (endP zs sp wd a))
def takeI (zs : List Int) (sp wd a : Int) : Run3 := if 0 ≤ a ∧ a < (zs.length : Int) then takeN zs sp wd a.toNat else (0, 0, 0)
theorem takeI_bad {zs : List Int} {sp wd a : Int} (h : a < 0 ∨ (zs.length : Int) ≤ a) : takeI zs sp wd a = (0, 0, 0) := by unfold takeI; rw [if_neg (by omega)]
theorem takeI_nat {zs : List Int} {sp wd : Int} {a : Nat} (h : a < zs.length) : takeI zs sp wd (a : Int) = takeN zs sp wd a := by unfold takeI; rw [if_pos ⟨by omega, by omega⟩, Int.toNat_natCast]
theorem box3 (w : World) (a b c : Value) (t : TypeId) : Box (w.alloc (.cells #[a, b, c] t)) w.heap.size [a, b, c] := Box.new w [a, b, c] t
theorem Box.of3w {w : World} {n : Nat} {a b c : Value} (h : Box w n [a, b, c]) : (w.cell? ⟨n, 0, none⟩ = some a ∧ w.cell? ⟨n, 1, none⟩ = some b ∧ w.cell? ⟨n, 2, none⟩ = some c) ∧ (w.frozen? ⟨n, 0, none⟩ = false ∧ w.frozen? ⟨n, 1, none⟩ = false ∧ w.frozen? ⟨n, 2, none⟩ = false) ∧ n < w.heap.size :=
  ⟨⟨h.2.2 0 _ rfl, h.2.2 1 _ rfl, h.2.2 2 _ rfl⟩, ⟨h.2.1 _, h.2.1 _, h.2.1 _⟩, h.1⟩
set_option maxHeartbeats 2000000 in
set_option maxRecDepth 100000 in
theorem rtake_to {zs : List Int} {sp wd a x y z : Int} (hv : takeI zs sp wd a = (x, y, z)) (hn : Near9 zs sp) (ha : I64w a) {A : Option Addr} {n c : Nat} (hn2 : n ≤ 1000) {w : World} (h : Ints w A n zs) :
    Calls Try.prog 60 #[.slice A n c, .int .i64 sp, .int .i64 wd, .int .i64 a] w fun e w' => e = .returned (.agg #[.int .i64 x, .int .i64 y, .int .i64 z]) ∧ Below w.heap.size w w' := by
  have HA := Lib.hid h
  have HN := Lib.hid h.1
  have hl := h.1
  have HNE := Lib.hid hn
  clear h hn
  obtain ⟨ha1, ha2⟩ := ha
  have hX0 : Box (w.alloc (.cells #[.int .i64 0, .int .i64 0, .int .i64 0] 114)) w.heap.size [.int .i64 0, .int .i64 0, .int .i64 0] := box3 w _ _ _ _
  by_cases h12 : a < 0 ∨ (n : Int) ≤ a
  · rw [takeI_bad (by omega)] at hv
    injection hv with e1 hv
    injection hv with e2 e3
    subst e1 e2 e3
    have HX := Lib.hid hX0
    clear hX0 hl
    by_cases h1 : a < 0
    · clear h12
      go_enter Try.func60, Try.ntmps60
      go_wp2_with fail
      have hY := ((HX.out.set 0 (.int .i64 0) (by simp)).set 1 (.int .i64 0) (by simp)).set 2 (.int .i64 0) (by simp)
      obtain ⟨⟨r0, r1, r2⟩, _, _⟩ := hY.of3w
      exact bodyPost_ret (v := .agg #[.int .i64 0, .int .i64 0, .int .i64 0]) (by simp [results, Try.results60, go_sem, r0, r1, r2]) rfl ⟨rfl, by go_grown⟩
    · have h2 : (n : Int) ≤ a := by omega
      clear h12
      go_enter Try.func60, Try.ntmps60
      go_wp2_with fail
      have hY := ((HX.out.set 0 (.int .i64 0) (by simp)).set 1 (.int .i64 0) (by simp)).set 2 (.int .i64 0) (by simp)
      obtain ⟨⟨r0, r1, r2⟩, _, _⟩ := hY.of3w
      exact bodyPost_ret (v := .agg #[.int .i64 0, .int .i64 0, .int .i64 0]) (by simp [results, Try.results60, go_sem, r0, r1, r2]) rfl ⟨rfl, by go_grown⟩
  obtain ⟨i, rfl⟩ : ∃ i : Nat, a = (i : Int) := ⟨a.toNat, by omega⟩
  have hin : i < n := by omega
  rw [takeI_nat (by omega)] at hv
  unfold takeN at hv
  injection hv with e1 hv
  injection hv with e2 e3
  have E1 := Lib.hid e1
  have E2 := Lib.hid e2
  have E3 := Lib.hid e3
  have hin2 : (i : Int) < (n : Int) := by omega
  have hd0 : decide ((i : Int) < 0) = false := decide_eq_false (by omega)
  have hd1 : decide (n ≤ i) = false := decide_eq_false (by omega)
  obtain ⟨V, hV⟩ : ∃ V, w.alloc (.cells #[.int .i64 0, .int .i64 0, .int .i64 0] 114) = V := ⟨_, rfl⟩
  have HB := Lib.hid (show Below w.heap.size w V by rw [← hV]; go_grown)
  have HX := Lib.hid (show Box V w.heap.size [.int .i64 0, .int .i64 0, .int .i64 0] by rw [← hV]; exact hX0)
  have HVV := Lib.hid hV
  have HAV := Lib.hid (HA.out.below HB.out rfl)
  have HL0 := Lib.hid (show LineTo zs sp wd i (i + 1) from ⟨by omega, by omega, .inl rfl⟩)
  clear e1 e2 e3 hV hX0 hl h12
  go_enter Try.func60, Try.ntmps60
  go_wp2_with fail
  rw [HVV.out]
  go_loopw [9] (fun t' wr => ∃ t : Nat, t' = .int .i64 (t : Int) ∧ t ≤ n ∧ Hid (LineTo zs sp wd i t) ∧ wr = V) (fun t' _ => n - (intOf t').toNat)
  case atStart => exact ⟨i + 1, by go_num, by omega, HL0, by first | rfl | trivial⟩
  case round =>
    obtain ⟨t, rfl, htn, HL, rfl⟩ := hrel
    by_cases hlt : t < n
    · have hlt2 : (t : Int) < (n : Int) := by omega
      obtain ⟨u, hu⟩ : ∃ u, wideN zs sp i (t + 1) = u := ⟨_, rfl⟩
      have HU := Lib.hid (show wideI zs sp (i : Int) ((t : Int) + 1) = u by rw [show (t : Int) + 1 = ((t + 1 : Nat) : Int) by omega, wideI_nat, hu])
      have HU2 := Lib.hid hu
      clear hu
      by_cases huw : u ≤ wd
      · have HL2 := Lib.hid (show LineTo zs sp wd i (t + 1) from ⟨by have := HL.out.1; omega, by have := HN.out; omega, .inr (by rw [HU2.out]; exact huw)⟩)
        go_wp2_with fail
        refine (rwide_to HU.out HNE.out (by unfold I64w; omega) (by unfold I64w; omega) hn2 HAV.out).mono ?_
        rintro e w1 ⟨rfl, rfl⟩
        go_wp2_with fail
        go_roundw
        case rel => exact ⟨t + 1, by go_num, by omega, HL2, by first | rfl | trivial⟩
        case measure => simp [intOf] <;> omega
      · have HF := Lib.hid (show t = endP zs sp wd i from full_one HNE.out HL.out (fun _ => by rw [HU2.out]; omega) (endP_spec (by have := HN.out; omega)).1 (endP_spec (by have := HN.out; omega)).2)
        have huw2 : wd < u := by omega
        have HZ := Lib.hid (show wideI zs sp (i : Int) (t : Int) = z by rw [wideI_nat, HF.out]; exact E3.out)
        obtain ⟨⟨c0, c1, c2⟩, ⟨f0, f1, f2⟩, hb0⟩ := HX.out.of3w
        go_wp2_with fail
        refine (rwide_to HU.out HNE.out (by unfold I64w; omega) (by unfold I64w; omega) hn2 HAV.out).mono ?_
        rintro e w1 ⟨rfl, rfl⟩
        go_wp2_with fail
        refine (rwide_to HZ.out HNE.out (by unfold I64w; omega) (by unfold I64w; omega) hn2 HAV.out).mono ?_
        rintro e w1 ⟨rfl, rfl⟩
        go_wp2_with fail
        have hY := ((HX.out.set 0 (.int .i64 (i : Int)) (by simp)).set 1 (.int .i64 (t : Int)) (by simp)).set 2 (.int .i64 z) (by simp)
        obtain ⟨⟨r0, r1, r2⟩, _, _⟩ := hY.of3w
        exact bodyPost_ret (v := .agg #[.int .i64 x, .int .i64 y, .int .i64 z]) (by rw [← E1.out, ← E2.out, ← HF.out]; simp [results, Try.results60, go_sem, r0, r1, r2]) rfl ⟨rfl, ((HB.out.setCell (Nat.le_refl _) _).setCell (Nat.le_refl _) _).setCell (Nat.le_refl _) _⟩
    · have hge : (n : Int) ≤ (t : Int) := by omega
      have HF := Lib.hid (show t = endP zs sp wd i from full_one HNE.out HL.out (fun h => by have := HN.out; omega) (endP_spec (by have := HN.out; omega)).1 (endP_spec (by have := HN.out; omega)).2)
      have HZ := Lib.hid (show wideI zs sp (i : Int) (t : Int) = z by rw [wideI_nat, HF.out]; exact E3.out)
      obtain ⟨⟨c0, c1, c2⟩, ⟨f0, f1, f2⟩, hb0⟩ := HX.out.of3w
      go_wp2_with fail
      refine (rwide_to HZ.out HNE.out (by unfold I64w; omega) (by unfold I64w; omega) hn2 HAV.out).mono ?_
      rintro e w1 ⟨rfl, rfl⟩
      go_wp2_with fail
      have hY := ((HX.out.set 0 (.int .i64 (i : Int)) (by simp)).set 1 (.int .i64 (t : Int)) (by simp)).set 2 (.int .i64 z) (by simp)
      obtain ⟨⟨r0, r1, r2⟩, _, _⟩ := hY.of3w
      exact bodyPost_ret (v := .agg #[.int .i64 x, .int .i64 y, .int .i64 z]) (by rw [← E1.out, ← E2.out, ← HF.out]; simp [results, Try.results60, go_sem, r0, r1, r2]) rfl ⟨rfl, ((HB.out.setCell (Nat.le_refl _) _).setCell (Nat.le_refl _) _).setCell (Nat.le_refl _) _⟩
theorem IntsOut.ints {w w' : World} {zs : List Int} {e : Ending} (h : IntsOut w zs e w') : ∃ A n c, e = .returned (.slice A n c) ∧ n = zs.length ∧ Ints w' A n zs ∧ Below w.heap.size w w' := by
  obtain ⟨A, n, c, h1, h2, h3⟩ := h
  have hi := (ownsRow_cells h2).ints
  exact ⟨A, n, c, h1, hi.1.symm, hi, h3⟩
set_option maxHeartbeats 1000000 in
set_option maxRecDepth 100000 in
theorem vparent_to {L : List Nd} (hn : Nested L) {a : Int} (ha : -9223372036854775808 ≤ a ∧ a ≤ 9223372036854775807) {v : Int} (hv : parentI L a = v) {A : Option Addr} {n c : Nat} {w : World} (h : Sees w A n L) (hn2 : n ≤ 100000) :
    Calls Try.prog 48 #[.slice A n c, .int .i64 a] w fun e w' => e = .returned (.int .i64 v) ∧ Below w.heap.size w w' := by
  obtain ⟨zs, hz⟩ : ∃ zs, aboveI L a = zs := ⟨_, rfl⟩
  have HU := Lib.hid (vabove_to hn ha hz (A := A) (n := n) (c := c) (w := w) h hn2)
  unfold parentI at hv
  rw [hz] at hv
  clear ha hz h
  cases zs with
  | nil =>
    have HV := Lib.hid (show v = -1 from hv.symm)
    clear hv
    go_enter Try.func48, Try.ntmps48
    go_wp2_with fail
    refine HU.out.mono ?_
    intro e w1 hp
    obtain ⟨A1, m, c1, rfl, hm, hi, hb⟩ := hp.ints
    simp only [List.length_nil] at hm
    subst hm
    have HB := Lib.hid hb
    clear hp hi hb
    go_wp2_with fail
    go_ret
    exact ⟨ret_int HV.out.symm, HB.out⟩
  | cons z t =>
    have HV := Lib.hid (show v = z from hv.symm)
    clear hv
    go_enter Try.func48, Try.ntmps48
    go_wp2_with fail
    refine HU.out.mono ?_
    intro e w1 hp
    obtain ⟨A1, m, c1, rfl, hm, hi, hb⟩ := hp.ints
    have hm1 : 0 < m := by rw [hm]; simp
    obtain ⟨b1, o1, rfl, hc⟩ := hi.at_ hm1
    have hc0 : w1.cell? ⟨b1, o1 + 0, none⟩ = some (.int .i64 z) := hc
    have hc1 : w1.cell? ⟨b1, o1, none⟩ = some (.int .i64 z) := hc
    have hm2 : ((m : Int) == 0) = false := by simp; omega
    have hm3 : (0 : Int) < (m : Int) := by omega
    have HB := Lib.hid hb
    clear hp hi hb hm hc
    go_wp2_with fail
    go_ret
    exact ⟨ret_int HV.out.symm, HB.out⟩
end Go.Proofs.Ytipmdhfinlkceaa
