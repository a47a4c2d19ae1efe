import Derived.Test.YtideikbijjheeaaBandsFns
/- The program's closures of package bands: what each leaves of the variables that it has captured. -/
namespace Go.Proofs.Ytideikbijjheeaa
open Go.RowKit
set_option linter.unusedVariables false
set_option linter.unusedSimpArgs false
/-- all boxes but these stay. -/
def Spare (S : List Nat) (w w' : World) : Prop := ∀ n vs, n ∉ S → Box w n vs → Box w' n vs
theorem Spare.refl (S : List Nat) (w : World) : Spare S w w := fun _ _ _ h => h
theorem Spare.trans {S : List Nat} {w w1 w2 : World} (h : Spare S w w1) (k : Spare S w1 w2) : Spare S w w2 := fun n vs hn hb => k n vs hn (h n vs hn hb)
theorem Spare.below {S : List Nat} {w w1 w2 : World} (h : Spare S w w1) (k : Below w1.heap.size w1 w2) : Spare S w w2 := fun n vs hn hb => (h n vs hn hb).below k
theorem Spare.set {S : List Nat} {w w1 : World} {m j : Nat} {v : Value} (h : Spare S w w1) (hm : m ∈ S) : Spare S w (w1.setCell ⟨m, j, none⟩ v) := fun n vs hn hb => (h n vs hn hb).set_other (fun e => hn (e ▸ hm)) j v
set_option maxHeartbeats 1000000 in
theorem of1_to {x y u h s a b p q : Int} (hv : leaveF x u s a b = (p, q)) (hw : IntKind.i64.wrap (x + u) = x + u) {w0 w : World} {k : Nat} (hX : Box w k [.int .i64 a, .int .i64 b]) (hk : w0.heap.size ≤ k) (hB : Below w0.heap.size w0 w) :
    Calls Try.prog 36 #[.agg #[.int .i64 x, .int .i64 y, .int .i64 u, .int .i64 h, .int .i64 s], .pointer (some ⟨k, 0, none⟩)] w fun e w' => e = .returned (.tuple #[]) ∧ Box w' k [.int .i64 p, .int .i64 q] ∧ Spare [k] w w' ∧ Below w0.heap.size w0 w' := by
  have HV := Lib.hid hv
  clear hv
  have HX := Lib.hid hX
  obtain ⟨d0, d1, d2, d3, d4⟩ := hX.of2
  go_enter Try.func36, Try.ntmps36
  go_wp2_with fail
  refine (leaves_to HV.out hw _).mono ?_
  rintro e w1 ⟨rfl, hb⟩
  have hb2 := (Below.refl w0.heap.size w).mono (Nat.le_refl _)
  have hB1 : Below w.heap.size w w1 := below_then (by go_grown) hb
  have HX1 := Lib.hid (HX.out.below hB1)
  obtain ⟨c0, c1, c2, c3, c4⟩ := HX1.out.of2
  clear hb hb2 d0 d1 d2 d3 d4
  go_wp2_with fail
  go_end0
  refine ⟨rfl, (HX1.out.set 0 (.int .i64 p) (by simp)).set 1 (.int .i64 q) (by simp), ?_, ?_⟩
  · exact Spare.set (Spare.set (Spare.below (Spare.refl _ _) hB1) (by simp)) (by simp)
  · exact ((hB.trans (hB1.mono hB.size)).setCell hk _).setCell hk _
end Go.Proofs.Ytideikbijjheeaa
