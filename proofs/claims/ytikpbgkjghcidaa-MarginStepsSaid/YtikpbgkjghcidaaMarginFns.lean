import Derived.Test.YtikpbgkjghcidaaMarginRun
import Derived.Test.YtikpbgkjghcidaaBoxN
import Derived.Test.YtikpbgkjghcidaaSlices
import Derived.Maps.AppendAt
/- The program's functions of package margin that move a pen behind a pointer. -/
namespace Go.Proofs.Ytikpbgkjghcidaa
open Go.RowKit
set_option linter.unusedVariables false
set_option linter.unusedSimpArgs false
/-- a moved pen's cells. -/
def mvd (y m : Int) (A : Option Addr) (n c : Nat) : List Value := [.int .i64 y, .int .i64 m, .slice A n c]
theorem mvd_of {w : World} {k : Nat} {y m : Int} {A : Option Addr} {n c : Nat} (h : Box w k (mvd y m A n c)) : (w.cell? ⟨k, 0, none⟩ = some (.int .i64 y) ∧ w.cell? ⟨k, 1, none⟩ = some (.int .i64 m) ∧ w.cell? ⟨k, 2, none⟩ = some (.slice A n c)) ∧ (w.frozen? ⟨k, 0, none⟩ = false ∧ w.frozen? ⟨k, 1, none⟩ = false ∧ w.frozen? ⟨k, 2, none⟩ = false) ∧ k < w.heap.size :=
  ⟨⟨h.2.2 0 _ rfl, h.2.2 1 _ rfl, h.2.2 2 _ rfl⟩, ⟨h.2.1 _, h.2.1 _, h.2.1 _⟩, h.1⟩
theorem grown_set {w w' : World} {k j : Nat} {v : Value} (h : w.grownBy w' (some k)) : w.grownBy (w'.setCell ⟨k, j, none⟩ v) (some k) := h.trans (grownBy_setCellN w' k j v)
theorem grown_below {w w' : World} {row : Option Nat} (h : Below w.heap.size w w') : w.grownBy w' row := ⟨h.os, h.tape, h.output, h.size, fun k hk _ => h.block k hk⟩
theorem place13_to {y m : Int} (A : Option Addr) (n c : Nat) (hw : IntKind.i64.wrap (y + m) = y + m) (w : World) : Calls Try.prog 21 #[.agg #[.int .i64 y, .int .i64 m, .slice A n c]] w fun e w' => e = .returned (.int .i64 (y + m)) ∧ Below w.heap.size w w' := by
  go_enter Try.func21, Try.ntmps21
  go_wp2_with fail
  go_ret
  exact ⟨rfl, by go_grown⟩
theorem down13_to {y0 m0 y : Int} {A : Option Addr} {n c k : Nat} {w : World} (hX : Box w k (mvd y0 m0 A n c)) : Calls Try.prog 32 #[.pointer (some ⟨k, 0, none⟩), .int .i64 y] w fun e w' => e = .returned (.tuple #[]) ∧ Box w' k (mvd y 0 A n c) ∧ w.grownBy w' (some k) := by
  have HX := Lib.hid hX
  obtain ⟨⟨c0, c1, c2⟩, ⟨f0, f1, f2⟩, hlt⟩ := mvd_of hX
  clear hX
  go_enter Try.func32, Try.ntmps32
  go_wp2_with fail
  go_end0
  exact ⟨rfl, (HX.out.set 0 (.int .i64 y) (by simp [mvd])).set 1 (.int .i64 0) (by simp [mvd]), grown_set (grown_set (World.grownBy.refl _ _))⟩
theorem collapse13_to {y m a g : Int} (hg : raiseI m a = g) {A : Option Addr} {n c k : Nat} {w : World} (hX : Box w k (mvd y m A n c)) : Calls Try.prog 30 #[.pointer (some ⟨k, 0, none⟩), .int .i64 a] w fun e w' => e = .returned (.tuple #[]) ∧ Box w' k (mvd y g A n c) ∧ w.grownBy w' (some k) := by
  rw [raiseI_max] at hg
  have HG := Lib.hid hg
  have HX := Lib.hid hX
  obtain ⟨⟨c0, c1, c2⟩, ⟨f0, f1, f2⟩, hlt⟩ := mvd_of hX
  clear hX hg
  go_enter Try.func30, Try.ntmps30
  go_wp2_with fail
  go_end0
  exact ⟨rfl, by rw [← HG.out]; exact HX.out.set 1 (.int .i64 (max m a)) (by simp [mvd]), grown_set (World.grownBy.refl _ _)⟩
theorem pad13_to {y m d y' m' : Int} (hv : (if 0 < d then (y + m + d, 0) else (y, m)) = (y', m')) (hw1 : IntKind.i64.wrap (y + m) = y + m) (hw2 : IntKind.i64.wrap (y + m + d) = y + m + d) {A : Option Addr} {n c k : Nat} {w : World} (hX : Box w k (mvd y m A n c)) : Calls Try.prog 31 #[.pointer (some ⟨k, 0, none⟩), .int .i64 d] w fun e w' => e = .returned (.tuple #[]) ∧ Box w' k (mvd y' m' A n c) ∧ w.grownBy w' (some k) := by
  have HX := Lib.hid hX
  obtain ⟨⟨c0, c1, c2⟩, ⟨f0, f1, f2⟩, hlt⟩ := mvd_of hX
  clear hX
  by_cases hd : 0 < d
  · have HV := Lib.hid (show (y + m + d, 0) = (y', m') by rw [← hv, if_pos hd])
    clear hv
    go_enter Try.func31, Try.ntmps31
    go_wp2_with fail
    refine (place13_to A n c hw1 _).mono ?_
    rintro e w1 ⟨rfl, hb⟩
    have HB := Lib.hid hb
    have HX1 := Lib.hid (HX.out.below hb)
    clear hb c0 c1 c2 f0 f1 f2 HX
    go_wp2_with fail
    refine (down13_to HX1.out).mono ?_
    rintro e w2 ⟨rfl, hX2, hg⟩
    have HX2 := Lib.hid hX2
    have HG := Lib.hid ((grown_below HB.out).trans hg)
    clear hX2 hg HX1 HB
    have he := HV.out
    injection he with e1 e2
    subst e1 e2
    clear HV
    go_wp2_with fail
    go_end0
    exact ⟨rfl, HX2.out, HG.out⟩
  · have HV := Lib.hid (show (y, m) = (y', m') by rw [← hv, if_neg hd])
    have hdn := Int.not_lt.1 hd
    clear hv hd
    go_enter Try.func31, Try.ntmps31
    go_wp2_with fail
    go_end0
    have he := HV.out
    injection he with e1 e2
    subst e1 e2
    exact ⟨rfl, HX.out, World.grownBy.refl _ _⟩
theorem clear13_to {y m d y' m' : Int} (hv : clearP (y, m) d = (y', m')) (hw1 : IntKind.i64.wrap (y + m) = y + m) {A : Option Addr} {n c k : Nat} {w : World} (hX : Box w k (mvd y m A n c)) : Calls Try.prog 24 #[.pointer (some ⟨k, 0, none⟩), .int .i64 d] w fun e w' => e = .returned (.tuple #[]) ∧ Box w' k (mvd y' m' A n c) ∧ w.grownBy w' (some k) := by
  have HX := Lib.hid hX
  obtain ⟨⟨c0, c1, c2⟩, ⟨f0, f1, f2⟩, hlt⟩ := mvd_of hX
  clear hX
  unfold clearP at hv
  by_cases hd : y + m < d
  · have HV := Lib.hid (show (d, 0) = (y', m') by rw [← hv, if_pos hd])
    clear hv
    go_enter Try.func24, Try.ntmps24
    go_wp2_with fail
    refine (place13_to A n c hw1 _).mono ?_
    rintro e w1 ⟨rfl, hb⟩
    have HB := Lib.hid hb
    have HX1 := Lib.hid (HX.out.below hb)
    clear hb c0 c1 c2 f0 f1 f2 HX
    go_wp2_with fail
    refine (down13_to HX1.out).mono ?_
    rintro e w2 ⟨rfl, hX2, hg⟩
    have HX2 := Lib.hid hX2
    have HG := Lib.hid ((grown_below HB.out).trans hg)
    clear hX2 hg HX1 HB
    have he := HV.out
    injection he with e1 e2
    subst e1 e2
    clear HV
    go_wp2_with fail
    go_end0
    exact ⟨rfl, HX2.out, HG.out⟩
  · have HV := Lib.hid (show (y, m) = (y', m') by rw [← hv, if_neg hd])
    have hdn := Int.not_lt.1 hd
    clear hv hd
    go_enter Try.func24, Try.ntmps24
    go_wp2_with fail
    refine (place13_to A n c hw1 _).mono ?_
    rintro e w1 ⟨rfl, hb⟩
    have HB := Lib.hid hb
    have HX1 := Lib.hid (HX.out.below hb)
    clear hb c0 c1 c2 f0 f1 f2 HX
    go_wp2_with fail
    go_end0
    have he := HV.out
    injection he with e1 e2
    subst e1 e2
    exact ⟨rfl, HX1.out, grown_below HB.out⟩
theorem put13_to {y m a d : Int} (hw : IntKind.i64.wrap (a + d) = a + d) {A : Option Addr} {n c k : Nat} {w : World} (hX : Box w k (mvd y m A n c)) : Calls Try.prog 25 #[.pointer (some ⟨k, 0, none⟩), .int .i64 a, .int .i64 d] w fun e w' => e = .returned (.tuple #[]) ∧ Box w' k (mvd (a + d) 0 A n c) ∧ w.grownBy w' (some k) := by
  have HX := Lib.hid hX
  clear hX
  go_enter Try.func25, Try.ntmps25
  go_wp2_with fail
  refine (down13_to HX.out).mono ?_
  rintro e w2 ⟨rfl, hX2, hg⟩
  have HX2 := Lib.hid hX2
  have HG := Lib.hid hg
  clear hX2 hg HX
  go_wp2_with fail
  go_end0
  exact ⟨rfl, HX2.out, HG.out⟩
theorem enter13_to {y m a d y' m' : Int} (hv : enterP (y, m) a d = (y', m')) (hw1 : IntKind.i64.wrap (y + raiseI m a) = y + raiseI m a) (hw2 : IntKind.i64.wrap (y + raiseI m a + d) = y + raiseI m a + d) {A : Option Addr} {n c k : Nat} {w : World} (hX : Box w k (mvd y m A n c)) : Calls Try.prog 22 #[.pointer (some ⟨k, 0, none⟩), .int .i64 a, .int .i64 d] w fun e w' => e = .returned (.tuple #[]) ∧ Box w' k (mvd y' m' A n c) ∧ w.grownBy w' (some k) := by
  have HX := Lib.hid hX
  have HV := Lib.hid hv
  have HW1 := Lib.hid hw1
  have HW2 := Lib.hid hw2
  clear hX hv hw1 hw2
  go_enter Try.func22, Try.ntmps22
  go_wp2_with fail
  refine (collapse13_to rfl HX.out).mono ?_
  rintro e w1 ⟨rfl, hX1, hg1⟩
  have HX1 := Lib.hid hX1
  have HG1 := Lib.hid hg1
  clear hX1 hg1 HX
  go_wp2_with fail
  refine (pad13_to HV.out HW1.out HW2.out HX1.out).mono ?_
  rintro e w2 ⟨rfl, hX2, hg⟩
  have HX2 := Lib.hid hX2
  have HG := Lib.hid (HG1.out.trans hg)
  clear hX2 hg HX1 HG1
  go_wp2_with fail
  go_end0
  exact ⟨rfl, HX2.out, HG.out⟩
theorem leave13_to {y m a d y' m' : Int} (hv : leaveP (y, m) a d = (y', m')) (hw1 : IntKind.i64.wrap (y + m) = y + m) (hw2 : IntKind.i64.wrap (y + m + d) = y + m + d) {A : Option Addr} {n c k : Nat} {w : World} (hX : Box w k (mvd y m A n c)) : Calls Try.prog 23 #[.pointer (some ⟨k, 0, none⟩), .int .i64 a, .int .i64 d] w fun e w' => e = .returned (.tuple #[]) ∧ Box w' k (mvd y' m' A n c) ∧ w.grownBy w' (some k) := by
  have HX := Lib.hid hX
  obtain ⟨y1, m1, h1⟩ : ∃ y1 m1, (if 0 < d then (y + m + d, 0) else (y, m)) = (y1, m1) := ⟨_, _, rfl⟩
  have hv2 : (y1, raiseI m1 a) = (y', m') := by
    rw [← hv]
    unfold leaveP
    by_cases hd : 0 < d
    · rw [if_pos hd] at h1 ⊢
      injection h1 with e1 e2
      subst e1 e2
      rfl
    · rw [if_neg hd] at h1 ⊢
      injection h1 with e1 e2
      subst e1 e2
      rfl
  have HV := Lib.hid hv2
  have H1 := Lib.hid h1
  have HW1 := Lib.hid hw1
  have HW2 := Lib.hid hw2
  clear hX hv hw1 hw2 hv2 h1
  go_enter Try.func23, Try.ntmps23
  go_wp2_with fail
  refine (pad13_to H1.out HW1.out HW2.out HX.out).mono ?_
  rintro e w1 ⟨rfl, hX1, hg1⟩
  have HX1 := Lib.hid hX1
  have HG1 := Lib.hid hg1
  clear hX1 hg1 HX
  go_wp2_with fail
  refine (collapse13_to rfl HX1.out).mono ?_
  rintro e w2 ⟨rfl, hX2, hg⟩
  have HX2 := Lib.hid hX2
  have HG := Lib.hid (HG1.out.trans hg)
  clear hX2 hg HX1 HG1
  go_wp2_with fail
  go_end0
  have he := HV.out
  injection he with e1 e2
  exact ⟨rfl, by rw [← e1, ← e2]; exact HX2.out, HG.out⟩
end Go.Proofs.Ytikpbgkjghcidaa
