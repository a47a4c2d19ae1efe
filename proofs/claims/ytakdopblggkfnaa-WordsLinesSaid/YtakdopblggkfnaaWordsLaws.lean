import Derived.Test.YtakdopblggkfnaaWordsRef4
/- Stage 9's laws: what package words is asked to say; the chapter's examples hold, in any world, if it does. (Written by program: tools/drafts/genawake9.py.) -/
namespace Go.Proofs.Ytakdopblggkfnaa
open Go.RowKit
set_option linter.unusedVariables false
set_option linter.unusedSimpArgs false
/-- runs that can be read. -/
def RunsSeen9 (w : World) (rs : List Run3) (e : Ending) (w' : World) : Prop := ∃ A n c, e = .returned (.slice A n c) ∧ n = rs.length ∧ Rows 3 encRun w' A n rs ∧ Below w.heap.size w w'
theorem RunsOut.seen {w w' : World} {rs : List Run3} {e : Ending} (h : RunsOut w rs e w') : RunsSeen9 w rs e w' := by
  obtain ⟨A, n, c, h1, h2, h3⟩ := h
  have hi := ownsRow_rows encRun_len (by decide) h2
  exact ⟨A, n, c, h1, hi.len.symm, hi, h3⟩
/-- what package words is asked to say. -/
structure WordsSays : Prop where
  wide : ∀ {zs : List Int} {sp a b v : Int} {A : Option Addr} {n c : Nat} {w : World}, wideI zs sp a b = v → Near9 zs sp → I64w a → I64w b → n ≤ 1000 → Ints w A n zs → Calls Try.prog 8 #[.slice A n c, .int .i64 sp, .int .i64 a, .int .i64 b] w fun e w' => e = .returned (.int .i64 v) ∧ Below w.heap.size w w'
  take : ∀ {zs : List Int} {sp wd a x y z : Int} {A : Option Addr} {n c : Nat} {w : World}, takeI zs sp wd a = (x, y, z) → Near9 zs sp → 0 ≤ wd → wd ≤ farN → I64w a → n ≤ 1000 → Ints w A n zs → Calls Try.prog 10 #[.slice A n c, .int .i64 sp, .int .i64 wd, .int .i64 a] w fun e w' => e = .returned (.agg #[.int .i64 x, .int .i64 y, .int .i64 z]) ∧ Below w.heap.size w w'
  all : ∀ {zs : List Int} {sp wd : Int} {rs : List Run3} {A : Option Addr} {n c : Nat} {w : World}, linesR zs sp wd 0 = rs → Near9 zs sp → 0 ≤ wd → wd ≤ farN → n ≤ 1000 → Ints w A n zs → Calls Try.prog 13 #[.slice A n c, .int .i64 sp, .int .i64 wd] w (RunsSeen9 w rs)
  any : ∀ {zs : List Int} {sp wd : Int} {A : Option Addr} {n c : Nat} {w : World}, Near9 zs sp → 0 ≤ wd → wd ≤ 2 * farN → n ≤ 1000 → Ints w A n zs → Calls Try.prog 13 #[.slice A n c, .int .i64 sp, .int .i64 wd] w fun e w' => ∃ A' n' c', e = .returned (.slice A' n' c') ∧ n' ≤ 9223372036854775807 ∧ Below w.heap.size w w'
def four9 : List Int := [30, 20, 10, 40]
theorem near_four : Near9 four9 5 := ⟨by unfold farN; omega, fun z hz => by
  simp [four9] at hz
  unfold farN
  omega⟩
theorem d9w0 : wideI four9 5 0 2 = 55 := by decide +kernel
theorem d9w1 : wideI four9 5 3 3 = 0 := by decide +kernel
theorem d9t0 : takeI four9 5 55 0 = (0, 2, 55) := by decide +kernel
theorem d9t1 : takeI four9 5 54 0 = (0, 1, 30) := by decide +kernel
theorem d9t2 : takeI four9 5 5 3 = (3, 4, 40) := by decide +kernel
theorem d9a0 : linesR four9 5 70 0 = [(0, 3, 70), (3, 4, 40)] := by decide +kernel
theorem d9a1 : linesR four9 5 1 0 = [(0, 1, 30), (1, 2, 20), (2, 3, 10), (3, 4, 40)] := by decide +kernel
theorem four_any (w : World) : Calls Try.prog 15 #[] w fun e w' => ∃ A, e = .returned (.slice A 4 4) ∧ Ints w' A 4 four9 ∧ Below w.heap.size w w' := by
  go_enter Try.func15, Try.ntmps15
  go_wp2_with fail
  go_ret
  exact ⟨_, rfl, Ints.new w 3 [30, 20, 10, 40] (by decide), (Below.refl _ _).alloc (Nat.le_refl _) _⟩
theorem runs_lit (w : World) (zs : List Run3) (m : Nat) (t : TypeId) (n : Nat) (hn : n = w.heap.size) (cs : Array Value) (hcs : cs = (zs.flatMap encRun).toArray) (hm : zs.length = m) (hm2 : m ≤ 1000) : Rows 3 encRun (w.alloc (.cells cs t)) (some ⟨n, 0, none⟩) m zs := by
  subst hn hcs hm
  refine ⟨rfl, by omega, fun _ => ⟨_, _, rfl, by simp, fun i x hx j v hv => ?_⟩⟩
  rw [Nat.zero_add]
  exact (Box.new w (zs.flatMap encRun) t).2.2 _ _ (flat_get encRun_len zs i x j v hx hv)
set_option maxHeartbeats 8000000 in
set_option maxRecDepth 100000 in
theorem wawake_any (H : WordsSays) (w : World) : Calls Try.prog 7 #[] w fun e w' => e = .returned (.bool true) ∧ Below w.heap.size w w' := by
  have HH := Lib.hid H
  have HB := Lib.hid (Below.refl w.heap.size w)
  clear H
  go_enter Try.func7, Try.ntmps7
  go_wp2_with fail
  refine (four_any _).mono ?_
  rintro e w1 ⟨A1, rfl, hi, hb⟩
  have HI := Lib.hid hi
  have HB := Lib.hid (below_then HB.out hb)
  clear hi hb
  go_wp2_with fail
  refine (HH.out.wide d9w0 near_four ⟨by decide, by decide⟩ ⟨by decide, by decide⟩ (by decide) HI.out).mono ?_
  rintro e w2 ⟨rfl, hb⟩
  have HB := Lib.hid (below_then HB.out hb)
  clear hb
  go_wp2_with fail
  refine (four_any _).mono ?_
  rintro e w3 ⟨A3, rfl, hi, hb⟩
  have HI := Lib.hid hi
  have HB := Lib.hid (below_then HB.out hb)
  clear hi hb
  go_wp2_with fail
  refine (HH.out.wide d9w1 near_four ⟨by decide, by decide⟩ ⟨by decide, by decide⟩ (by decide) HI.out).mono ?_
  rintro e w4 ⟨rfl, hb⟩
  have HB := Lib.hid (below_then HB.out hb)
  clear hb
  go_wp2_with fail
  refine (four_any _).mono ?_
  rintro e w5 ⟨A5, rfl, hi, hb⟩
  have HI := Lib.hid hi
  have HB := Lib.hid (below_then HB.out hb)
  clear hi hb
  have he := run3_same 0 2 55
  go_wp2_with fail
  refine (HH.out.take d9t0 near_four (by decide) (by decide) ⟨by decide, by decide⟩ (by decide) HI.out).mono ?_
  rintro e w6 ⟨rfl, hb⟩
  have HB := Lib.hid (below_then HB.out hb)
  clear hb
  go_wp2_with fail
  refine (four_any _).mono ?_
  rintro e w7 ⟨A7, rfl, hi, hb⟩
  have HI := Lib.hid hi
  have HB := Lib.hid (below_then HB.out hb)
  clear hi hb
  have he := run3_same 0 1 30
  go_wp2_with fail
  refine (HH.out.take d9t1 near_four (by decide) (by decide) ⟨by decide, by decide⟩ (by decide) HI.out).mono ?_
  rintro e w8 ⟨rfl, hb⟩
  have HB := Lib.hid (below_then HB.out hb)
  clear hb
  go_wp2_with fail
  refine (four_any _).mono ?_
  rintro e w9 ⟨A9, rfl, hi, hb⟩
  have HI := Lib.hid hi
  have HB := Lib.hid (below_then HB.out hb)
  clear hi hb
  have he := run3_same 3 4 40
  go_wp2_with fail
  refine (HH.out.take d9t2 near_four (by decide) (by decide) ⟨by decide, by decide⟩ (by decide) HI.out).mono ?_
  rintro e w10 ⟨rfl, hb⟩
  have HB := Lib.hid (below_then HB.out hb)
  clear hb
  go_wp2_with fail
  refine (four_any _).mono ?_
  rintro e w11 ⟨A11, rfl, hi, hb⟩
  have HI := Lib.hid hi
  have HB := Lib.hid (below_then HB.out hb)
  clear hi hb
  go_wp2_with fail
  refine (HH.out.all d9a0 near_four (by decide) (by decide) (by decide) HI.out).mono ?_
  rintro e w12 ⟨A12, n12, c12, rfl, hm, hi, hb⟩
  have HI := Lib.hid hi
  have HB := Lib.hid (below_then HB.out hb)
  clear hm hi hb
  go_wp2_with fail
  have hal : Below w12.heap.size w12 (w12.alloc (.cells (([(0, 3, 70), (3, 4, 40)] : List Run3).flatMap encRun).toArray 27)) := (Below.refl _ _).alloc (Nat.le_refl _) _
  have HB := Lib.hid (below_then HB.out hal)
  have HI := Lib.hid (HI.out.below hal)
  refine (runs_same HI.out (runs_lit _ [(0, 3, 70), (3, 4, 40)] _ _ _ rfl _ rfl rfl (by decide))).mono ?_
  rintro e w13 ⟨rfl, hb⟩
  have HB := Lib.hid (below_then HB.out hb)
  clear hb hal
  go_wp2_with fail
  refine (four_any _).mono ?_
  rintro e w14 ⟨A14, rfl, hi, hb⟩
  have HI := Lib.hid hi
  have HB := Lib.hid (below_then HB.out hb)
  clear hi hb
  go_wp2_with fail
  refine (HH.out.all d9a1 near_four (by decide) (by decide) (by decide) HI.out).mono ?_
  rintro e w15 ⟨A15, n15, c15, rfl, hm, hi, hb⟩
  have HB := Lib.hid (below_then HB.out hb)
  obtain rfl : n15 = 4 := hm
  clear hi hb
  go_wp2_with fail
  go_ret
  exact ⟨rfl, HB.out⟩
end Go.Proofs.Ytakdopblggkfnaa
