import Derived.Test.YtakdopblggkfnaaWordsRef2
import Derived.Deep.MidRow
/- The document's answers for package words: all lines; rows of runs that are the same. -/
namespace Go.Proofs.Ytakdopblggkfnaa
open Go.RowKit
set_option linter.unusedVariables false
set_option linter.unusedSimpArgs false
theorem partw_int (xs : Array Value) (k : Nat) (v : Value) (h : xs[k]? = some v) (w : World) : (part 3 xs k).run Try.prog w = .ok v w := run_part_plain w (by kernel_rfl) h
theorem itew_ok {p : Prop} [Decidable p] {c : Bool} {w : World} : (if p then Result.ok c w else Result.ok false w) = Result.ok (decide p && c) w := by split <;> simp_all
theorem itew_and {b : Bool} {c : Bool} {w : World} : (if (!b) = true then Result.ok false w else Result.ok c w) = Result.ok (b && c) w := by cases b <;> rfl
theorem run3_equal (a0 a1 a2 b0 b1 b2 : Int) (w : World) : (Op.equalIn 10000 27 (.agg #[.int .i64 a0, .int .i64 a1, .int .i64 a2]) (.agg #[.int .i64 b0, .int .i64 b1, .int .i64 b2])).run Try.prog w = .ok (a0 == b0 && a1 == b1 && a2 == b2) w := by
  rw [show (10000 : Nat) = 9999 + 1 from rfl, run_equalIn_struct w 9999 _ _ _ (by kernel_rfl) (by kernel_rfl)]
  have hi : ∀ (a b : Int) (w : World), (Op.equalIn 9999 3 (.int .i64 a) (.int .i64 b)).run Try.prog w = .ok (a == b) w := fun a b w => run_equalIn_int w 9998 3 .i64 .i64 a b Try.underlying3
  simp [Program.fieldsOf, Try.underlying27, Op.eqFields, partw_int, hi, itew_and]
  simp only [itew_ok]
  congr 1
  rw [Bool.eq_iff_iff]
  simp [and_assoc]
theorem run3_same (a0 a1 a2 : Int) (w : World) : (Op.equalIn 10000 27 (.agg #[.int .i64 a0, .int .i64 a1, .int .i64 a2]) (.agg #[.int .i64 a0, .int .i64 a1, .int .i64 a2])).run Try.prog w = .ok true w := by rw [run3_equal]; simp
theorem runs_at {w : World} {A : Option Addr} {n : Nat} {zs : List Run3} (h : Rows 3 encRun w A n zs) {i : Nat} (hi : i < n) :
    ∃ b off x y z, A = some ⟨b, off, none⟩ ∧ b < w.heap.size ∧ zs[i]? = some (x, y, z) ∧ w.cell? ⟨b, off + i * 3, none⟩ = some (.int .i64 x) ∧ w.cell? ⟨b, off + i * 3 + 1, none⟩ = some (.int .i64 y) ∧ w.cell? ⟨b, off + i * 3 + 2, none⟩ = some (.int .i64 z) := by
  obtain ⟨b, off, ⟨x, y, z⟩, h1, h2, h3, h4⟩ := h.at_ hi
  exact ⟨b, off, x, y, z, h1, h2, h3, h4 0 _ rfl, h4 1 _ rfl, h4 2 _ rfl⟩
set_option maxHeartbeats 2000000 in
set_option maxRecDepth 100000 in
/-- two rows of the same runs are the same. -/
theorem runs_same {zs : List Run3} {A B : Option Addr} {n m c d : Nat} {w : World} (h1 : Rows 3 encRun w A n zs) (h2 : Rows 3 encRun w B m zs) :
    Calls Try.prog 12 #[.slice A n c, .slice B m d] w fun e w' => e = .returned (.bool true) ∧ Below w.heap.size w w' := by
  have hn := h1.2.1
  obtain rfl : n = m := h1.1.symm.trans h2.1
  have H1 := Lib.hid h1
  have H2 := Lib.hid h2
  clear h1 h2
  have hq : ((n : Int) != (n : Int)) = false := by simp
  go_enter Try.func12, Try.ntmps12
  go_wp2_with fail
  go_loopw [5] (fun i wr => ∃ k m : Nat, k ≤ n ∧ i = .int .i64 k ∧ wr = w.drewN m) (fun i _ => n - (intOf i).toNat)
  case atStart => exact ⟨0, 0, by omega, rfl, rfl⟩
  case round =>
    obtain ⟨k, m, hk, rfl, rfl⟩ := hrel
    by_cases hlt : k < n
    · have hk2 : (k : Int) < (n : Int) := by omega
      obtain ⟨b, off, x, y, z, rfl, hbl, hx, c0, c1, c2⟩ := runs_at H1.out hlt
      obtain ⟨b', off', x', y', z', rfl, hbl', hx', c0', c1', c2'⟩ := runs_at H2.out hlt
      rw [hx] at hx'
      injection hx' with hx'
      injection hx' with e1 e2
      injection e2 with e2 e3
      subst e1 e2 e3
      have HX := Lib.hid hx
      have he := run3_same x y z
      clear hx
      go_wp2_with fail
      go_quiet (fail)
      go_wp2_with fail
      go_roundw
      case rel => exact ⟨k + 1, _, by omega, by go_num, rfl⟩
      case measure => simp [intOf]; omega
    · have hk2 : (n : Int) ≤ (k : Int) := by omega
      go_wp2_with fail
      go_ret
      exact ⟨rfl, below_drewN (Below.refl _ _) m⟩
/-- all lines. -/
def linesR (zs : List Int) (sp wd : Int) (a : Nat) : List Run3 := (linesP zs sp wd a).map fun p => ((p.1 : Int), (p.2 : Int), wideN zs sp p.1 p.2)
theorem linesR_end {zs : List Int} {sp wd : Int} {a : Nat} (h : zs.length ≤ a) : linesR zs sp wd a = [] := by unfold linesR; rw [linesP_end h]; rfl
theorem linesR_step {zs : List Int} {sp wd : Int} {a : Nat} (h : a < zs.length) : linesR zs sp wd a = takeN zs sp wd a :: linesR zs sp wd (endP zs sp wd a) := by unfold linesR; rw [linesP_step h]; rfl
theorem linesR_len {zs : List Int} {sp wd : Int} : ∀ (f a : Nat), zs.length ≤ a + f → (linesR zs sp wd a).length + a ≤ zs.length + a ∧ (a ≤ zs.length → (linesR zs sp wd a).length + a ≤ zs.length)
  | 0, a, h => by rw [linesR_end (by omega)]; simp
  | f + 1, a, h => by
    by_cases ha : a < zs.length
    · have hs := (endP_spec (sp := sp) (wd := wd) ha).1
      have h1 := hs.1
      have h2 := hs.2.1
      have := (linesR_len (sp := sp) (wd := wd) f (endP zs sp wd a) (by omega)).2 h2
      rw [linesR_step ha, List.length_cons]
      omega
    · rw [linesR_end (by omega)]; simp
/-- runs in a new row of the call's own. -/
def RunsOut (w : World) (rs : List Run3) (e : Ending) (w' : World) : Prop := ∃ A n c, e = .returned (.slice A n c) ∧ w'.ownsRow w.heap.size 27 3 (.slice A n c) n (rs.flatMap encRun) ∧ Below w.heap.size w w'
theorem run_info3 : (Try.prog.info? 27).map (fun i => (i.zero, i.size, i.bytes)) = some (some (.agg #[.int .i64 0, .int .i64 0, .int .i64 0]), 3, 24) := by kernel_rfl
theorem cells_three (w : World) (t : TypeId) (u v x : Value) : Cells (w.alloc (.cells #[u, v, x] t)) (some ⟨w.heap.size, 0, none⟩) 1 3 [u, v, x] :=
  ⟨rfl, by decide, fun _ => ⟨w.heap.size, 0, rfl, by simp, fun j y hy => by
    have := (Box.new w [u, v, x] t).2.2 j y hy
    rw [Nat.zero_add]; exact this⟩⟩
end Go.Proofs.Ytakdopblggkfnaa
