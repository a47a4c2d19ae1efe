import Derived.Test.YtideikbijjheeaaPlacePut
/- Stage 11's law: what package place is asked to say; the chapter's examples hold, in any world, if it does. -/
namespace Go.Proofs.Ytideikbijjheeaa
open Go.RowKit
set_option linter.unusedVariables false
set_option linter.unusedSimpArgs false
/-- floats in a new row of the call's own. -/
def FlsOwn (w : World) (l : List Fl) (e : Ending) (w' : World) : Prop := ∃ A n c, e = .returned (.slice A n c) ∧ n = l.length ∧ w'.ownsRow w.heap.size 24 7 (.slice A n c) n (l.flatMap encFl) ∧ Below w.heap.size w w'
/-- what package place is asked to say. -/
structure PlaceSays : Prop where
  spot : ∀ {l : List Fl} {f0 f1 f2 f3 f4 f5 f6 y a b x t : Int} {A : Option Addr} {n c : Nat} {w : World}, spotX l ⟨f0, f1, f2, f3, f4, f5, f6⟩ y a b = x → spotY l ⟨f0, f1, f2, f3, f4, f5, f6⟩ y a b = t → (∀ g ∈ l, g.near) → (⟨f0, f1, f2, f3, f4, f5, f6⟩ : Fl).near → NearI y → NearI a → NearI b → n ≤ 1000 → Rows 7 encFl w A n l →
    Calls Try.prog 6 #[.slice A n c, .agg #[.int .i64 f0, .int .i64 f1, .int .i64 f2, .int .i64 f3, .int .i64 f4, .int .i64 f5, .int .i64 f6], .int .i64 y, .agg #[.int .i64 a, .int .i64 b]] w fun e w' => e = .returned (.tuple #[.int .i64 x, .int .i64 t]) ∧ Below w.heap.size w w'
  put : ∀ {l : List Fl} {f0 f1 f2 f3 f4 f5 f6 y a b x t : Int} {A : Option Addr} {n c : Nat} {w : World}, spotX l ⟨f0, f1, f2, f3, f4, f5, f6⟩ y a b = x → spotY l ⟨f0, f1, f2, f3, f4, f5, f6⟩ y a b = t → (∀ g ∈ l, g.near) → (⟨f0, f1, f2, f3, f4, f5, f6⟩ : Fl).near → NearI y → NearI a → NearI b → n ≤ 1000 → Rows 7 encFl w A n l →
    Calls Try.prog 8 #[.slice A n c, .agg #[.int .i64 f0, .int .i64 f1, .int .i64 f2, .int .i64 f3, .int .i64 f4, .int .i64 f5, .int .i64 f6], .int .i64 y, .agg #[.int .i64 a, .int .i64 b]] w (FlsOwn w (l ++ [⟨f0, f1, f2, x, t, f5, f6⟩]))
def two11 : List Fl := [⟨0, 1, 0, 0, 0, 30, 20⟩, ⟨0, 2, 0, 80, 10, 20, 40⟩]
theorem near_two11 : ∀ f ∈ two11, f.near := fun f hf => by
  have : two11.all Fl.nearB = true := by decide +kernel
  exact Fl.nearB_iff.1 (List.all_eq_true.1 this f hf)
theorem fls_lit11 (w : World) (zs : List Fl) (m : Nat) (t : TypeId) (n : Nat) (hn : n = w.heap.size) (cs : Array Value) (hcs : cs = (zs.flatMap encFl).toArray) (hm : zs.length = m) (hm2 : m ≤ 1000) : Rows 7 encFl (w.alloc (.cells cs t)) (some ⟨n, 0, none⟩) m zs := by
  subst hn hcs hm
  refine ⟨rfl, by omega, fun _ => ⟨_, _, rfl, by simp, fun i x hx j v hv => ?_⟩⟩
  rw [Nat.zero_add]
  exact (Box.new w (zs.flatMap encFl) t).2.2 _ _ (flat_get encFl_len zs i x j v hx hv)
set_option maxHeartbeats 2000000 in
set_option maxRecDepth 100000 in
theorem pspot_to (H : PlaceSays) {side wd y x t : Int} (hx : spotX two11 ⟨0, side, 0, 0, 0, wd, 5⟩ y 0 100 = x) (ht : spotY two11 ⟨0, side, 0, 0, 0, wd, 5⟩ y 0 100 = t) (hw : NearI wd) (hy : NearI y) (w : World) :
    Calls Try.prog 11 #[.int .i64 side, .int .i64 wd, .int .i64 y, .int .i64 x, .int .i64 t] w fun e w' => e = .returned (.bool true) ∧ Below w.heap.size w w' := by
  have HH := Lib.hid H
  have HX := Lib.hid hx
  have HT := Lib.hid ht
  have HF := Lib.hid (show (⟨0, side, 0, 0, 0, wd, 5⟩ : Fl).near from ⟨by unfold NearI farB; simp only; omega, by unfold NearI farB; simp only; omega, hw, by unfold NearI farB; simp only; omega⟩)
  have HY := Lib.hid hy
  have HR := Lib.hid (fls_lit11 w two11 2 24 _ rfl _ rfl rfl (by decide))
  have hxx : (x == x) = true := by simp
  have htt : (t == t) = true := by simp
  clear H hx ht hw hy
  go_enter Try.func11, Try.ntmps11
  go_wp2_with fail
  refine (HH.out.spot HX.out HT.out near_two11 HF.out HY.out (by unfold NearI farB; omega) (by unfold NearI farB; omega) (by decide) HR.out).mono ?_
  rintro e w1 ⟨rfl, hb⟩
  have HB := Lib.hid (below_then (show Below w.heap.size w _ by go_grown) hb)
  clear hb
  go_wp2_with fail
  go_ret
  exact ⟨rfl, HB.out⟩
theorem near_lit11 {a : Int} (h : nearIB a = true) : NearI a := nearIB_iff.1 h
theorem d11x0 : spotX two11 ⟨0, 1, 0, 0, 0, 40, 5⟩ 0 0 100 = 30 := by decide +kernel
theorem d11y0 : spotY two11 ⟨0, 1, 0, 0, 0, 40, 5⟩ 0 0 100 = 10 := by decide +kernel
theorem d11x1 : spotX two11 ⟨0, 1, 0, 0, 0, 55, 5⟩ 0 0 100 = 0 := by decide +kernel
theorem d11y1 : spotY two11 ⟨0, 1, 0, 0, 0, 55, 5⟩ 0 0 100 = 20 := by decide +kernel
theorem d11x2 : spotX two11 ⟨0, 2, 0, 0, 0, 90, 5⟩ 0 0 100 = 10 := by decide +kernel
theorem d11y2 : spotY two11 ⟨0, 2, 0, 0, 0, 90, 5⟩ 0 0 100 = 50 := by decide +kernel
theorem d11x3 : spotX two11 ⟨0, 2, 0, 0, 0, 300, 5⟩ 60 0 100 = 0 := by decide +kernel
theorem d11y3 : spotY two11 ⟨0, 2, 0, 0, 0, 300, 5⟩ 60 0 100 = 60 := by decide +kernel
set_option maxHeartbeats 2000000 in
set_option maxRecDepth 100000 in
theorem pawake_any (H : PlaceSays) (w : World) : Calls Try.prog 5 #[] w fun e w' => e = .returned (.bool true) ∧ Below w.heap.size w w' := by
  have HH := Lib.hid H
  clear H
  go_enter Try.func5, Try.ntmps5
  go_wp2_with fail
  refine (pspot_to HH.out d11x0 d11y0 (near_lit11 (by decide)) (near_lit11 (by decide)) _).mono ?_
  rintro e w1 ⟨rfl, hb⟩
  have HB := Lib.hid hb
  clear hb
  go_wp2_with fail
  refine (pspot_to HH.out d11x1 d11y1 (near_lit11 (by decide)) (near_lit11 (by decide)) _).mono ?_
  rintro e w2 ⟨rfl, hb⟩
  have HB := Lib.hid (below_then HB.out hb)
  clear hb
  go_wp2_with fail
  refine (pspot_to HH.out d11x2 d11y2 (near_lit11 (by decide)) (near_lit11 (by decide)) _).mono ?_
  rintro e w3 ⟨rfl, hb⟩
  have HB := Lib.hid (below_then HB.out hb)
  clear hb
  go_wp2_with fail
  refine (pspot_to HH.out d11x3 d11y3 (near_lit11 (by decide)) (near_lit11 (by decide)) _).mono ?_
  rintro e w4 ⟨rfl, hb⟩
  have HB := Lib.hid (below_then HB.out hb)
  clear hb
  go_wp2_with fail
  go_ret
  exact ⟨rfl, HB.out⟩
end Go.Proofs.Ytideikbijjheeaa
