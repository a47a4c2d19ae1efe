import Derived.Test.YtakdopblggkfnaaWordsRef
/- The document's answers for package words: the line from a word on. -/
namespace Go.Proofs.Ytakdopblggkfnaa
open Go.RowKit
set_option linter.unusedVariables false
set_option linter.unusedSimpArgs false
/-- a run: from where, up to where, how wide. -/
abbrev Run3 := Int × Int × Int
def encRun (p : Run3) : List Value := [.int .i64 p.1, .int .i64 p.2.1, .int .i64 p.2.2]
theorem encRun_len (p : Run3) : (encRun p).length = 3 := rfl
theorem encRun_one (p : Run3) : ∀ u ∈ encRun p, u.oneCell' = true := by
  intro u hu
  simp [encRun] at hu
  rcases hu with rfl | rfl | rfl <;> rfl
def takeN (zs : List Int) (sp wd : Int) (a : Nat) : Run3 := ((a : Int), (endP zs sp wd a : Int), wideN zs sp a (endP zs sp wd a))
def takeI (zs : List Int) (sp wd a : Int) : Run3 := if 0 ≤ a ∧ a < (zs.length : Int) then takeN zs sp wd a.toNat else (0, 0, 0)
theorem takeI_bad {zs : List Int} {sp wd a : Int} (h : a < 0 ∨ (zs.length : Int) ≤ a) : takeI zs sp wd a = (0, 0, 0) := by unfold takeI; rw [if_neg (by omega)]
theorem takeI_nat {zs : List Int} {sp wd : Int} {a : Nat} (h : a < zs.length) : takeI zs sp wd (a : Int) = takeN zs sp wd a := by unfold takeI; rw [if_pos ⟨by omega, by omega⟩, Int.toNat_natCast]
theorem box3 (w : World) (a b c : Value) (t : TypeId) : Box (w.alloc (.cells #[a, b, c] t)) w.heap.size [a, b, c] := Box.new w [a, b, c] t
theorem Box.of3w {w : World} {n : Nat} {a b c : Value} (h : Box w n [a, b, c]) : (w.cell? ⟨n, 0, none⟩ = some a ∧ w.cell? ⟨n, 1, none⟩ = some b ∧ w.cell? ⟨n, 2, none⟩ = some c) ∧ (w.frozen? ⟨n, 0, none⟩ = false ∧ w.frozen? ⟨n, 1, none⟩ = false ∧ w.frozen? ⟨n, 2, none⟩ = false) ∧ n < w.heap.size :=
  ⟨⟨h.2.2 0 _ rfl, h.2.2 1 _ rfl, h.2.2 2 _ rfl⟩, ⟨h.2.1 _, h.2.1 _, h.2.1 _⟩, h.1⟩
set_option maxHeartbeats 2000000 in
set_option maxRecDepth 100000 in
theorem rtake_to {zs : List Int} {sp wd a x y z : Int} (hv : takeI zs sp wd a = (x, y, z)) (hn : Near9 zs sp) (ha : I64w a) {A : Option Addr} {n c : Nat} (hn2 : n ≤ 1000) {w : World} (h : Ints w A n zs) :
    Calls Try.prog 11 #[.slice A n c, .int .i64 sp, .int .i64 wd, .int .i64 a] w fun e w' => e = .returned (.agg #[.int .i64 x, .int .i64 y, .int .i64 z]) ∧ Below w.heap.size w w' := by
  have HA := Lib.hid h
  have HN := Lib.hid h.1
  have hl := h.1
  have HNE := Lib.hid hn
  clear h hn
  obtain ⟨ha1, ha2⟩ := ha
  have hX0 : Box (w.alloc (.cells #[.int .i64 0, .int .i64 0, .int .i64 0] 27)) w.heap.size [.int .i64 0, .int .i64 0, .int .i64 0] := box3 w _ _ _ _
  by_cases h12 : a < 0 ∨ (n : Int) ≤ a
  · rw [takeI_bad (by omega)] at hv
    injection hv with e1 hv
    injection hv with e2 e3
    subst e1 e2 e3
    have HX := Lib.hid hX0
    clear hX0 hl
    by_cases h1 : a < 0
    · clear h12
      go_enter Try.func11, Try.ntmps11
      go_wp2_with fail
      have hY := ((HX.out.set 0 (.int .i64 0) (by simp)).set 1 (.int .i64 0) (by simp)).set 2 (.int .i64 0) (by simp)
      obtain ⟨⟨r0, r1, r2⟩, _, _⟩ := hY.of3w
      exact bodyPost_ret (v := .agg #[.int .i64 0, .int .i64 0, .int .i64 0]) (by simp [results, Try.results11, go_sem, r0, r1, r2]) rfl ⟨rfl, by go_grown⟩
    · have h2 : (n : Int) ≤ a := by omega
      clear h12
      go_enter Try.func11, Try.ntmps11
      go_wp2_with fail
      have hY := ((HX.out.set 0 (.int .i64 0) (by simp)).set 1 (.int .i64 0) (by simp)).set 2 (.int .i64 0) (by simp)
      obtain ⟨⟨r0, r1, r2⟩, _, _⟩ := hY.of3w
      exact bodyPost_ret (v := .agg #[.int .i64 0, .int .i64 0, .int .i64 0]) (by simp [results, Try.results11, go_sem, r0, r1, r2]) rfl ⟨rfl, by go_grown⟩
  obtain ⟨i, rfl⟩ : ∃ i : Nat, a = (i : Int) := ⟨a.toNat, by omega⟩
  have hin : i < n := by omega
  rw [takeI_nat (by omega)] at hv
  unfold takeN at hv
  injection hv with e1 hv
  injection hv with e2 e3
  have E1 := Lib.hid e1
  have E2 := Lib.hid e2
  have E3 := Lib.hid e3
  have hin2 : (i : Int) < (n : Int) := by omega
  have hd0 : decide ((i : Int) < 0) = false := decide_eq_false (by omega)
  have hd1 : decide (n ≤ i) = false := decide_eq_false (by omega)
  obtain ⟨V, hV⟩ : ∃ V, w.alloc (.cells #[.int .i64 0, .int .i64 0, .int .i64 0] 27) = V := ⟨_, rfl⟩
  have HB := Lib.hid (show Below w.heap.size w V by rw [← hV]; go_grown)
  have HX := Lib.hid (show Box V w.heap.size [.int .i64 0, .int .i64 0, .int .i64 0] by rw [← hV]; exact hX0)
  have HVV := Lib.hid hV
  have HAV := Lib.hid (HA.out.below HB.out rfl)
  have HL0 := Lib.hid (show LineTo zs sp wd i (i + 1) from ⟨by omega, by omega, .inl rfl⟩)
  clear e1 e2 e3 hV hX0 hl h12
  go_enter Try.func11, Try.ntmps11
  go_wp2_with fail
  rw [HVV.out]
  go_loopw [9] (fun t' wr => ∃ t : Nat, t' = .int .i64 (t : Int) ∧ t ≤ n ∧ Hid (LineTo zs sp wd i t) ∧ wr = V) (fun t' _ => n - (intOf t').toNat)
  case atStart => exact ⟨i + 1, by go_num, by omega, HL0, by first | rfl | trivial⟩
  case round =>
    obtain ⟨t, rfl, htn, HL, rfl⟩ := hrel
    by_cases hlt : t < n
    · have hlt2 : (t : Int) < (n : Int) := by omega
      obtain ⟨u, hu⟩ : ∃ u, wideN zs sp i (t + 1) = u := ⟨_, rfl⟩
      have HU := Lib.hid (show wideI zs sp (i : Int) ((t : Int) + 1) = u by rw [show (t : Int) + 1 = ((t + 1 : Nat) : Int) by omega, wideI_nat, hu])
      have HU2 := Lib.hid hu
      clear hu
      by_cases huw : u ≤ wd
      · have HL2 := Lib.hid (show LineTo zs sp wd i (t + 1) from ⟨by have := HL.out.1; omega, by have := HN.out; omega, .inr (by rw [HU2.out]; exact huw)⟩)
        go_wp2_with fail
        refine (rwide_to HU.out HNE.out (by unfold I64w; omega) (by unfold I64w; omega) hn2 HAV.out).mono ?_
        rintro e w1 ⟨rfl, rfl⟩
        go_wp2_with fail
        go_roundw
        case rel => exact ⟨t + 1, by go_num, by omega, HL2, by first | rfl | trivial⟩
        case measure => simp [intOf] <;> omega
      · have HF := Lib.hid (show t = endP zs sp wd i from full_one HNE.out HL.out (fun _ => by rw [HU2.out]; omega) (endP_spec (by have := HN.out; omega)).1 (endP_spec (by have := HN.out; omega)).2)
        have huw2 : wd < u := by omega
        have HZ := Lib.hid (show wideI zs sp (i : Int) (t : Int) = z by rw [wideI_nat, HF.out]; exact E3.out)
        obtain ⟨⟨c0, c1, c2⟩, ⟨f0, f1, f2⟩, hb0⟩ := HX.out.of3w
        go_wp2_with fail
        refine (rwide_to HU.out HNE.out (by unfold I64w; omega) (by unfold I64w; omega) hn2 HAV.out).mono ?_
        rintro e w1 ⟨rfl, rfl⟩
        go_wp2_with fail
        refine (rwide_to HZ.out HNE.out (by unfold I64w; omega) (by unfold I64w; omega) hn2 HAV.out).mono ?_
        rintro e w1 ⟨rfl, rfl⟩
        go_wp2_with fail
        have hY := ((HX.out.set 0 (.int .i64 (i : Int)) (by simp)).set 1 (.int .i64 (t : Int)) (by simp)).set 2 (.int .i64 z) (by simp)
        obtain ⟨⟨r0, r1, r2⟩, _, _⟩ := hY.of3w
        exact bodyPost_ret (v := .agg #[.int .i64 x, .int .i64 y, .int .i64 z]) (by rw [← E1.out, ← E2.out, ← HF.out]; simp [results, Try.results11, go_sem, r0, r1, r2]) rfl ⟨rfl, ((HB.out.setCell (Nat.le_refl _) _).setCell (Nat.le_refl _) _).setCell (Nat.le_refl _) _⟩
    · have hge : (n : Int) ≤ (t : Int) := by omega
      have HF := Lib.hid (show t = endP zs sp wd i from full_one HNE.out HL.out (fun h => by have := HN.out; omega) (endP_spec (by have := HN.out; omega)).1 (endP_spec (by have := HN.out; omega)).2)
      have HZ := Lib.hid (show wideI zs sp (i : Int) (t : Int) = z by rw [wideI_nat, HF.out]; exact E3.out)
      obtain ⟨⟨c0, c1, c2⟩, ⟨f0, f1, f2⟩, hb0⟩ := HX.out.of3w
      go_wp2_with fail
      refine (rwide_to HZ.out HNE.out (by unfold I64w; omega) (by unfold I64w; omega) hn2 HAV.out).mono ?_
      rintro e w1 ⟨rfl, rfl⟩
      go_wp2_with fail
      have hY := ((HX.out.set 0 (.int .i64 (i : Int)) (by simp)).set 1 (.int .i64 (t : Int)) (by simp)).set 2 (.int .i64 z) (by simp)
      obtain ⟨⟨r0, r1, r2⟩, _, _⟩ := hY.of3w
      exact bodyPost_ret (v := .agg #[.int .i64 x, .int .i64 y, .int .i64 z]) (by rw [← E1.out, ← E2.out, ← HF.out]; simp [results, Try.results11, go_sem, r0, r1, r2]) rfl ⟨rfl, ((HB.out.setCell (Nat.le_refl _) _).setCell (Nat.le_refl _) _).setCell (Nat.le_refl _) _⟩
end Go.Proofs.Ytakdopblggkfnaa
