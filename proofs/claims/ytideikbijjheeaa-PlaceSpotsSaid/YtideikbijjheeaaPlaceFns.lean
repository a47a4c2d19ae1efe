import Derived.Test.YtideikbijjheeaaBandsTop10
import Derived.Test.YtideikbijjheeaaPlaceRef
import Derived.Test.YtideikbijjheeaaPlaceSeek
import Derived.Test.YtideikbijjheeaaTail
/- The program's functions of package place that speak of one search: its band, where it begins, where it stands. -/
namespace Go.Proofs.Ytideikbijjheeaa
open Go.RowKit
set_option linter.unusedVariables false
set_option linter.unusedSimpArgs false
/-- a search's cells. -/
def srch (f0 f1 f2 x y f5 f6 : Int) (A : Option Addr) (n c : Nat) (a b : Int) : List Value := [.int .i64 f0, .int .i64 f1, .int .i64 f2, .int .i64 x, .int .i64 y, .int .i64 f5, .int .i64 f6, .slice A n c, .int .i64 a, .int .i64 b]
theorem srch_of {w : World} {m : Nat} {f0 f1 f2 x y f5 f6 : Int} {A : Option Addr} {n c : Nat} {a b : Int} (h : Box w m (srch f0 f1 f2 x y f5 f6 A n c a b)) :
    (w.cell? ⟨m, 0, none⟩ = some (.int .i64 f0) ∧ w.cell? ⟨m, 1, none⟩ = some (.int .i64 f1) ∧ w.cell? ⟨m, 2, none⟩ = some (.int .i64 f2) ∧ w.cell? ⟨m, 3, none⟩ = some (.int .i64 x) ∧ w.cell? ⟨m, 4, none⟩ = some (.int .i64 y) ∧ w.cell? ⟨m, 5, none⟩ = some (.int .i64 f5) ∧ w.cell? ⟨m, 6, none⟩ = some (.int .i64 f6)) ∧
    (w.cell? ⟨m, 7, none⟩ = some (.slice A n c) ∧ w.cell? ⟨m, 8, none⟩ = some (.int .i64 a) ∧ w.cell? ⟨m, 9, none⟩ = some (.int .i64 b)) ∧ (∀ o, w.frozen? ⟨m, o, none⟩ = false) ∧ m < w.heap.size :=
  ⟨⟨h.2.2 0 _ rfl, h.2.2 1 _ rfl, h.2.2 2 _ rfl, h.2.2 3 _ rfl, h.2.2 4 _ rfl, h.2.2 5 _ rfl, h.2.2 6 _ rfl⟩, ⟨h.2.2 7 _ rfl, h.2.2 8 _ rfl, h.2.2 9 _ rfl⟩, h.2.1, h.1⟩
theorem plen_to {a b v : Int} (hv : lenW a b = v) (ha : NearY a) (hb : NearY b) (w : World) : Calls Try.prog 24 #[.agg #[.int .i64 a, .int .i64 b]] w fun e w' => e = .returned (.int .i64 v) ∧ Below w.heap.size w w' := by
  obtain ⟨a1, a2⟩ := ha
  obtain ⟨b1, b2⟩ := hb
  unfold farB at a1 a2 b1 b2
  have hw : IntKind.i64.wrap (b - a) = b - a := IntWalk.i64_in _ (by omega)
  have HX := Lib.hid (Box.new2 w (.int .i64 a) (.int .i64 b) 26)
  unfold lenW at hv
  by_cases h : b ≤ a
  · rw [if_pos h] at hv
    have HV := Lib.hid hv
    clear hv
    go_enter Try.func24, Try.ntmps24
    go_wp2_with fail
    refine (empty_any _ _ _).mono ?_
    rintro e w1 ⟨rfl, hb⟩
    have HB := Lib.hid (below_then (show Below w.heap.size w _ by go_grown) hb)
    clear hb
    go_wp2_with fail
    go_ret
    exact ⟨ret_int HV.out, HB.out⟩
  · rw [if_neg h] at hv
    have HV := Lib.hid hv
    have h2 : a < b := by omega
    clear hv
    go_enter Try.func24, Try.ntmps24
    go_wp2_with fail
    refine (empty_any _ _ _).mono ?_
    rintro e w1 ⟨rfl, hb⟩
    have HB := Lib.hid (below_then (show Below w.heap.size w _ by go_grown) hb)
    obtain ⟨c0, c1, _, _, _⟩ := (HX.out.below hb).of2
    clear hb
    go_wp2_with fail
    go_ret
    exact ⟨ret_int HV.out, HB.out⟩
set_option maxHeartbeats 2000000 in
theorem band_to {l : List Fl} {f0 f1 f2 x y f5 f6 a b p q : Int} (hv : bandL l y f6 (a, b) = (p, q)) (hn : ∀ f ∈ l, f.near) (hy : NearY y) (hh : NearI f6) {A : Option Addr} {n c m : Nat} {w : World} (h : Rows 7 encFl w A n l) (hX : Box w m (srch f0 f1 f2 x y f5 f6 A n c a b)) :
    Calls Try.prog 25 #[.pointer (some ⟨m, 0, none⟩)] w fun e w' => e = .returned (.agg #[.int .i64 p, .int .i64 q]) ∧ Below w.heap.size w w' := by
  obtain ⟨V, hV⟩ : ∃ V, w.alloc (.cells #[.int .i64 0, .int .i64 0] 26) = V := ⟨_, rfl⟩
  have hwV : Below w.heap.size w V := by rw [← hV]; go_grown
  have HR := Lib.hid (show Box V w.heap.size [.int .i64 0, .int .i64 0] by rw [← hV]; exact Box.new2 _ _ _ _)
  have HB := Lib.hid hwV
  have HX := Lib.hid (hX.below hwV)
  have HA := Lib.hid (h.below hwV)
  have HC := Lib.hid (show ∀ p' : OnW V, Calls Try.prog 30 #[.slice A n c, .int .i64 y, .int .i64 f6, .agg #[.int .i64 a, .int .i64 b]] p'.w fun e w' => e = .returned (.agg #[.int .i64 p, .int .i64 q]) ∧ Below p'.w.heap.size p'.w w' from fun p' => bof_to hv hn hy hh (HA.out.below p'.h))
  have HVV := Lib.hid hV
  obtain ⟨⟨p0, p1, p2, p3, p4, p5, p6⟩, ⟨p7, p8, p9⟩, p10, p11⟩ := srch_of HX.out
  have k4 := OnW.cell p4
  have k6 := OnW.cell p6
  have k7 := OnW.cell p7
  have k8 := OnW.cell p8
  have k9 := OnW.cell p9
  clear hv hn hy hh h hX hV hwV p0 p1 p2 p3 p4 p5 p6 p7 p8 p9 p10 p11
  go_enter Try.func25, Try.ntmps25
  go_wp2_with fail
  rw [HVV.out]
  refine wp_region_on_tail 19 (by kernel_rfl) (by kernel_rfl) rfl (by kernel_rfl) ?_
  simp only [headOf, List.take_succ_cons, List.take_zero, List.getElem_toArray, List.getElem_cons_succ, List.getElem_cons_zero]
  repeat (go_big_quiet_step ((first
    | (go_at_call 30; with_reducible exact Calls.on_of (HC.out _)))))
  refine wpQuiet_nil ?_
  intro w5 hw'
  obtain ⟨⟨w6, hOn⟩, hw''⟩ := hw'
  obtain rfl : w5 = w6 := hw''
  have HB5 := Lib.hid (below_then HB.out hOn)
  have HR5 := Lib.hid (HR.out.below hOn)
  obtain ⟨r0, r1, r2, r3, r4⟩ := HR5.out.of2
  clear k4 k6 k7 k8 k9 hOn
  go_wp2_with fail
  have hY := (HR5.out.set 0 (.int .i64 p) (by simp)).set 1 (.int .i64 q) (by simp)
  have s0 := hY.2.2 0 _ rfl
  have s1 := hY.2.2 1 _ rfl
  exact bodyPost_ret (v := .agg #[.int .i64 p, .int .i64 q]) (by simp [results, Try.results25, go_sem, s0, s1]) rfl ⟨rfl, (HB5.out.setCell (by simp) _).setCell (by simp) _⟩
end Go.Proofs.Ytideikbijjheeaa
