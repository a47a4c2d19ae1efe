import Derived.Test.YtechccoongilcaaGreatDoorJZ728
import Derived.Test.YtechccoongilcaaGreatDoorJZ702
/- The program's package valid: Is. -/
namespace Go.Proofs.YtechccoongilcaaGreatDoor
open Go.RowKit
set_option linter.unusedVariables false
set_option linter.unusedSimpArgs false
def PreV (l : List Nd) (w : World) (A : Option Addr) (n : Nat) : Prop := Sees w A n l ∧ n ≤ 100000
theorem PreV.below {l : List Nd} {w w' : World} {A : Option Addr} {n : Nat} (h : PreV l w A n) (hb : Below w.heap.size w w') : PreV l w' A n := ⟨h.1.below hb, h.2⟩
theorem pcount_pre {l : List Nd} {A : Option Addr} {n ca : Nat} {w : World} (h : PreV l w A n) : Calls Tryz.prog 20 #[.slice A n ca] w (CountPost l w) := pcount_any l A n ca w h.1 h.2
theorem doc_ans {l : List Nd} {a : Sm × Int} (ha : ansV l = a) (h : IsDoc l) : a = (sumB l, 0) := by rw [← ha]; unfold ansV; rw [if_pos ((docB_iff l).2 h)]
theorem no_ans {l : List Nd} {a : Sm × Int} (ha : ansV l = a) (h : ¬ IsDoc l) : a = (.none, 4) := by rw [← ha]; unfold ansV; rw [if_neg (fun e => h ((docB_iff l).1 e))]
theorem pIs_to {l : List Nd} {v : Bool} (ha : docB l = v) {A : Option Addr} {n ca : Nat} {w : World} (h : PreV l w A n) : Calls Tryz.prog 11 #[.slice A n ca] w fun e w' => e = .returned (.bool v) ∧ Below w.heap.size w w' := by
  have HA := Lib.hid ha
  have H := Lib.hid h
  clear ha h
  go_enter Tryz.func11, Tryz.ntmps11
  go_wp2_with fail
  refine (pcount_pre H.out).mono ?_
  rintro e w1 ⟨⟨hd, A1, k1, c1, rfl⟩ | ⟨hd, rfl⟩, hb⟩
  · have HV := Lib.hid (show v = true by rw [← HA.out]; exact (docB_iff l).2 hd)
    obtain ⟨⟨s0, s1, s2, s3⟩, hs⟩ : ∃ s, sumB l = s := ⟨_, rfl⟩
    rw [hs]
    have HB := Lib.hid hb
    clear hb hd hs
    go_wp2_with fail
    go_ret
    exact ⟨ret_bool HV.out.symm, HB.out.alloc (by have := HB.out.size; omega) _⟩
  · have HV := Lib.hid (show v = false by rw [← HA.out]; rcases hq : docB l with _ | _; rfl; exact absurd ((docB_iff l).1 hq) hd)
    have HB := Lib.hid hb
    clear hb hd
    go_wp2_with fail
    go_ret
    exact ⟨ret_bool HV.out.symm, HB.out.alloc (by have := HB.out.size; omega) _⟩
end Go.Proofs.YtechccoongilcaaGreatDoor
