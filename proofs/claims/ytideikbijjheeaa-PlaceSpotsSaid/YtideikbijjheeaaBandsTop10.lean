import Derived.Test.YtideikbijjheeaaBandsGreat
/- The program's functions of package bands that are called from outside it: Of, Next, Top. (Written by program: tools/drafts/gengreat10.py.) -/
namespace Go.Proofs.Ytideikbijjheeaa
open Go.RowKit
set_option linter.unusedVariables false
set_option linter.unusedSimpArgs false
theorem Box.new1' (w : World) (a : Value) (t : TypeId) (n : Nat) (h : n = w.heap.size) : Box (w.alloc (.cells #[a] t)) n [a] := by subst h; exact Box.new w [a] t
set_option maxHeartbeats 2000000 in
theorem bof_to {l : List Fl} {y high a b p q : Int} {A : Option Addr} {n c : Nat} {w : World} (hv : bandL l y high (a, b) = (p, q)) (hn : ∀ f ∈ l, f.near) (hy : NearY y) (hh : NearI high) (h : Rows 7 encFl w A n l) :
    Calls Try.prog 30 #[.slice A n c, .int .i64 y, .int .i64 high, .agg #[.int .i64 a, .int .i64 b]] w fun e w' => e = .returned (.agg #[.int .i64 p, .int .i64 q]) ∧ Below w.heap.size w w' := by
  have HV := Lib.hid hv
  have HN := Lib.hid hn
  have HY := Lib.hid hy
  have HH := Lib.hid hh
  have HA := Lib.hid h
  clear hv hn hy hh h
  go_enter Try.func30, Try.ntmps30
  go_wp2_with fail
  generalize hW : ((w.alloc (.cells #[.int .i64 a, .int .i64 b] 26)).alloc (.cells #[.int .i64 0, .int .i64 0] 26)).alloc (.cells #[.int .i64 a, .int .i64 b] 26) = W
  have hX : Box W (w.heap.size + 1 + 1) [.int .i64 a, .int .i64 b] := by rw [← hW]; exact Box.new2' _ _ _ _ _ (by simp)
  have hR : Box W (w.heap.size + 1) [.int .i64 0, .int .i64 0] := by rw [← hW]; exact (Box.new2' _ _ _ _ _ (by simp)).alloc _
  have hB : Below w.heap.size w W := by rw [← hW]; go_grown
  refine (meeting_of HV.out HN.out HY.out HH.out HA.out hB hX (by omega)).mono ?_
  rintro e w5 ⟨rfl, hx5, hsp, hb5⟩
  have hr5 := hsp _ _ (by simp) hR
  have HB5 := Lib.hid hb5
  obtain ⟨d0, d1, d2, d3, d4⟩ := hx5.of2
  obtain ⟨r0, r1, r2, r3, r4⟩ := hr5.of2
  have HR5 := Lib.hid hr5
  clear hX hR hB hW hx5 hsp hb5 hr5
  go_wp2_with fail
  have hY := (HR5.out.set 0 (.int .i64 p) (by simp)).set 1 (.int .i64 q) (by simp)
  have s0 := hY.2.2 0 _ rfl
  have s1 := hY.2.2 1 _ rfl
  exact bodyPost_ret (v := .agg #[.int .i64 p, .int .i64 q]) (by simp [results, Try.results30, go_sem, s0, s1]) rfl ⟨rfl, (HB5.out.setCell (by simp) _).setCell (by simp) _⟩
set_option maxHeartbeats 2000000 in
theorem bnext_to {l : List Fl} {y high a b p : Int} {ok : Bool} {A : Option Addr} {n c : Nat} {w : World} (hv : nextL l y high a b = (p, ok)) (hn : ∀ f ∈ l, f.near) (hy : NearY y) (hh : NearI high) (h : Rows 7 encFl w A n l) :
    Calls Try.prog 26 #[.slice A n c, .int .i64 y, .int .i64 high, .agg #[.int .i64 a, .int .i64 b]] w fun e w' => e = .returned (.tuple #[.int .i64 p, .bool ok]) ∧ Below w.heap.size w w' := by
  have HV := Lib.hid hv
  have HN := Lib.hid hn
  have HY := Lib.hid hy
  have HH := Lib.hid hh
  have HA := Lib.hid h
  clear hv hn hy hh h
  go_enter Try.func26, Try.ntmps26
  go_wp2_with fail
  generalize hW : ((w.alloc (.cells #[.int .i64 a, .int .i64 b] 26)).alloc (.cells #[.int .i64 0] 3)).alloc (.cells #[.bool false] 4) = W
  have hI : Box W w.heap.size [.int .i64 a, .int .i64 b] := by rw [← hW]; exact ((Box.new2 _ _ _ _).alloc _).alloc _
  have hN : Box W (w.heap.size + 1) [.int .i64 0] := by rw [← hW]; exact (Box.new1' _ _ _ _ (by simp)).alloc _
  have hF : Box W (w.heap.size + 1 + 1) [.bool false] := by rw [← hW]; exact Box.new1' _ _ _ _ (by simp)
  have hB : Below w.heap.size w W := by rw [← hW]; go_grown
  refine (meeting_next HV.out HN.out HY.out HH.out HA.out hB hI hF hN (by omega) (by omega) (by omega) (by omega)).mono ?_
  rintro e w5 ⟨rfl, hn5, hf5, hsp, hb5⟩
  have HB5 := Lib.hid hb5
  obtain ⟨d0, d1, d2⟩ := hn5.of1
  obtain ⟨r0, r1, r2⟩ := hf5.of1
  clear hI hN hF hB hW hn5 hf5 hsp hb5
  go_wp2_with fail
  have k0 := OnW.cell (W := w5) d0
  have k1 := OnW.cell (W := w5) r0
  refine wp_region_on (by kernel_rfl) (by kernel_rfl) ?_
  repeat (go_big_quiet_step (fail))
  refine wpQuiet_nil ?_
  intro w7 hw'
  obtain ⟨⟨w6, hOn⟩, hw''⟩ := hw'
  obtain rfl : w7 = w6 := hw''
  go_wp2_with fail
  go_ret2
  exact ⟨rfl, HB5.out.trans (Below.mono hOn HB5.out.size)⟩
theorem btop_to {l : List Fl} {p : Int} {ok : Bool} {A : Option Addr} {n c : Nat} {w : World} (hv : topL l = (p, ok)) (hn : ∀ f ∈ l, f.near) (h : Rows 7 encFl w A n l) :
    Calls Try.prog 23 #[.slice A n c] w fun e w' => e = .returned (.tuple #[.int .i64 p, .bool ok]) ∧ Below w.heap.size w w' := by
  have HV := Lib.hid hv
  have HN := Lib.hid hn
  have HA := Lib.hid h
  clear hv hn h
  go_enter Try.func23, Try.ntmps23
  go_wp2_with fail
  refine (greatest_top HV.out HN.out HA.out (Below.refl _ _)).mono ?_
  rintro e w5 ⟨rfl, hb5⟩
  go_wp2_with fail
  go_ret2
  exact ⟨rfl, hb5⟩
end Go.Proofs.Ytideikbijjheeaa
