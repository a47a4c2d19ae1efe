import Derived.Test.YtamakeogaipdiaaJA22
import Derived.Test.YtamakeogaipdiaaJA01
import Derived.Test.YtamakeogaipdiaaJA03
import Derived.Test.YtamakeogaipdiaaJA12
/- The program's package valid: Is. -/
namespace Go.Proofs.Ytamakeogaipdiaa
open Go.RowKit
set_option linter.unusedVariables false
set_option linter.unusedSimpArgs false
theorem pcount_pre {l : List Nd} {A : Option Addr} {n ca : Nat} {w : World} (h : PreV l w A n) : Calls Try.prog 59 #[.slice A n ca] w (CountPost l w) := pcount_any l A n ca w h.1 h.2
theorem pIs_to {l : List Nd} {v : Bool} (ha : docB l = v) {A : Option Addr} {n ca : Nat} {w : World} (h : PreV l w A n) : Calls Try.prog 41 #[.slice A n ca] w fun e w' => e = .returned (.bool v) ∧ Below w.heap.size w w' := by
  have HA := Lib.hid ha
  have H := Lib.hid h
  clear ha h
  go_enter Try.func41, Try.ntmps41
  go_wp2_with fail
  refine (pcount_pre H.out).mono ?_
  rintro e w1 ⟨⟨hd, A1, k1, c1, rfl⟩ | ⟨hd, rfl⟩, hb⟩
  · have HV := Lib.hid (show v = true by rw [← HA.out]; exact (docB_iff l).2 hd)
    obtain ⟨⟨s0, s1, s2, s3⟩, hs⟩ : ∃ s, sumB l = s := ⟨_, rfl⟩
    rw [hs]
    have HB := Lib.hid hb
    clear hb hd hs
    go_wp2_with fail
    go_ret
    exact ⟨ret_bool HV.out.symm, HB.out.alloc (by have := HB.out.size; omega) _⟩
  · have HV := Lib.hid (show v = false by rw [← HA.out]; rcases hq : docB l with _ | _; rfl; exact absurd ((docB_iff l).1 hq) hd)
    have HB := Lib.hid hb
    clear hb hd
    go_wp2_with fail
    go_ret
    exact ⟨ret_bool HV.out.symm, HB.out.alloc (by have := HB.out.size; omega) _⟩
end Go.Proofs.Ytamakeogaipdiaa
/- The program's package kin: whether a row of atoms' nodes may be. -/
namespace Go.Proofs.Ytamakeogaipdiaa
open Go.RowKit
set_option linter.unusedVariables false
set_option linter.unusedSimpArgs false
set_option maxHeartbeats 4000000 in
set_option maxRecDepth 100000 in
theorem kmay_to {L : List Nd} {of : List Int} {v : Bool} (hv : kinB L of = v) {A B : Option Addr} {n c m d : Nat} {w : World} (hP : PreV L w A n) (hI : Ints w B m of) (hm : m ≤ 1000000) :
    Calls Try.prog 23 #[.agg #[.slice A n c, .slice B m d]] w fun e w' => e = .returned (.bool v) ∧ Below w.heap.size w w' := by
  have HV := Lib.hid hv
  have HP := Lib.hid hP
  have HI := Lib.hid hI
  have HL := Lib.hid hP.1.len
  have HLO := Lib.hid hI.1
  have hn : n ≤ 100000 := hP.2
  clear hv hP hI
  rcases hd : docB L with _ | _
  · have HD := Lib.hid hd
    have HE := Lib.hid (show v = false by rw [← HV.out]; unfold kinB; rw [hd]; rfl)
    clear hd
    go_enter Try.func23, Try.ntmps23
    go_wp2_with fail
    refine (pIs_to HD.out (HP.out.below (show Below w.heap.size w _ by go_grown))).mono ?_
    rintro e w1 ⟨rfl, hb⟩
    have HB := Lib.hid (below_then (show Below w.heap.size w _ by go_grown) hb)
    clear hb
    go_wp2_with fail
    go_ret
    exact ⟨ret_bool HE.out.symm, HB.out⟩
  have HD := Lib.hid hd
  clear hd
  go_enter Try.func23, Try.ntmps23
  go_wp2_with fail
  generalize hW : World.alloc w _ = W
  have HO0 := Lib.hid (show On w W by rw [← hW]; exact On.alloc (On.refl w) _)
  have HX0 := Lib.hid (show Box W w.heap.size [.slice A n c, .slice B m d] by rw [← hW]; exact box_new16 _ _ _ _ rfl _ rfl)
  clear hW
  refine (pIs_to HD.out (HP.out.below HO0.out)).mono ?_
  rintro e w1 ⟨rfl, hb⟩
  have HX := Lib.hid (HX0.out.below hb)
  have HO1 := Lib.hid (HO0.out.step hb)
  clear hb HX0 HO0
  obtain ⟨q0, q1, _, _, hwl⟩ := HX.out.of2
  go_wp2_with fail
  clear q0 q1
  go_loopw [3, 4, 5, 6, 7, 15] (fun k at' mn l mo i wr => ∃ q kk : Nat, i = .int .i64 (q : Int) ∧ k = .int .i64 (kk : Int) ∧ q ≤ n ∧ Hid (PM L of q kk) ∧ Hid (On w1 wr)) (fun _ _ _ _ _ i _ => n - (intOf i).toNat)
  case atStart => exact ⟨0, 0, rfl, rfl, Nat.zero_le _, Lib.hid PM.start, Lib.hid (On.refl _)⟩
  case round =>
    obtain ⟨q, kk, rfl, rfl, hqn, HM, HO⟩ := hrel
    have hkm : kk ≤ m := by have := HM.out.le; have := HLO.out; omega
    obtain ⟨q0, q1, _, _, hbl⟩ := (HX.out.below HO.out).of2
    have HOw := Lib.hid (show On w wr from HO1.out.trans (HO.out.mono HO1.out.size))
    by_cases hlt : q < n
    · have hlt2 : (q : Int) < (n : Int) := by omega
      have hq0 : (0 : Int) ≤ (q : Int) := by omega
      have hwq : IntKind.i64.wrap ((q : Int) + 1) = (q : Int) + 1 := IntWalk.i64_in _ (by omega)
      have hx : L[q]? = some (L[q]'(by have := HL.out; omega)) := List.getElem?_eq_getElem _
      obtain ⟨x, hxx⟩ : ∃ x, L[q]'(by have := HL.out; omega) = x := ⟨_, rfl⟩
      rw [hxx] at hx
      have HXQ := Lib.hid hx
      clear hx hxx
      go_wp2_with fail
      refine (krun_to hkm (HI.out.below HOw.out rfl) hm).mono ?_
      rintro e w2 ⟨z, rfl, hr, hb⟩
      have HR := Lib.hid hr
      have HO2 := Lib.hid (HO.out.step hb)
      have HOw2 := Lib.hid (HOw.out.step hb)
      have hzm : kk + z ≤ m := by have := hr.le HM.out.le; have := HLO.out; omega
      clear hb hr q0 q1
      obtain ⟨q0, q1, _, _, hbl2⟩ := (HX.out.below HO2.out).of2
      go_wp2_with fail
      refine (katoms_to HXQ.out (HP.out.1.below HOw2.out)).mono ?_
      rintro e w3 ⟨rfl, hb⟩
      have HO3 := Lib.hid (HO2.out.step hb)
      have HOw3 := Lib.hid (HOw2.out.step hb)
      obtain ⟨lo, hlo⟩ : ∃ lo, leastM x = lo := ⟨_, rfl⟩
      obtain ⟨hi, hhi⟩ : ∃ hi, mostM x = hi := ⟨_, rfl⟩
      rw [hlo, hhi]
      have HLE := Lib.hid hlo
      have HHI := Lib.hid hhi
      clear hb q0 q1 hlo hhi
      by_cases h1 : lo ≤ z
      · have e1 : (lo : Int) ≤ (z : Int) := by omega
        have e2 : decide ((z : Int) < (lo : Int)) = false := decide_eq_false (by omega)
        have e2' : decide (z < lo) = false := decide_eq_false (by omega)
        by_cases h2 : z ≤ hi
        · have e3 : (z : Int) ≤ (hi : Int) := by omega
          have e4 : decide ((hi : Int) < (z : Int)) = false := decide_eq_false (by omega)
          have e4' : decide (hi < z) = false := decide_eq_false (by omega)
          have HN := Lib.hid (HM.out.next HR.out HXQ.out (by rw [HLE.out]; exact h1) (by rw [HHI.out]; exact h2))
          have hwk : IntKind.i64.wrap ((kk : Int) + (z : Int)) = (kk : Int) + (z : Int) := IntWalk.i64_in _ (by omega)
          go_wp2_with fail
          go_roundw
          case rel => exact ⟨q + 1, kk + z, by go_num, by go_num, by omega, HN, HO3⟩
          case measure => simp [intOf] <;> omega
        · have e3 : (hi : Int) < (z : Int) := by omega
          have e4 : decide ((hi : Int) < (z : Int)) = true := decide_eq_true (by omega)
          have HE := Lib.hid (show false = v by rw [← HV.out, HM.out.bad HR.out HXQ.out (by rw [HLE.out, HHI.out]; omega)])
          go_wp2_with fail
          go_ret
          exact ⟨ret_bool HE.out, HOw3.out⟩
      · have e1 : (z : Int) < (lo : Int) := by omega
        have e2 : decide ((z : Int) < (lo : Int)) = true := decide_eq_true (by omega)
        have HE := Lib.hid (show false = v by rw [← HV.out, HM.out.bad HR.out HXQ.out (by rw [HLE.out, HHI.out]; omega)])
        go_wp2_with fail
        go_ret
        exact ⟨ret_bool HE.out, HOw3.out⟩
    · obtain rfl : q = n := by omega
      have hle : (q : Int) ≤ (q : Int) := Int.le_refl _
      by_cases hke : kk = m
      · subst hke
        have hq : ((kk : Int) == (kk : Int)) = true := by simp
        have HE := Lib.hid (show true = v by
          rw [← HV.out]
          refine (PM.good HD.out ?_).symm
          have h9 := HM.out
          rw [HL.out, HLO.out]; exact h9)
        go_wp2_with fail
        go_ret
        exact ⟨ret_bool HE.out, HOw.out⟩
      · have hq : ((kk : Int) == (m : Int)) = false := by simp; omega
        have HE := Lib.hid (show false = v by
          rw [← HV.out]
          refine (PM.short (k := kk) ?_ (by rw [HLO.out]; exact hke)).symm
          rw [HL.out]; exact HM.out)
        go_wp2_with fail
        go_ret
        exact ⟨ret_bool HE.out, HOw.out⟩
end Go.Proofs.Ytamakeogaipdiaa
/- The program's package tree: an order of nodes: end, of. (Split off TreeFnsR.) -/
namespace Go.Proofs.Ytamakeogaipdiaa
open Go.RowKit
set_option linter.unusedVariables false
set_option linter.unusedSimpArgs false
theorem tend_to {L : List Nd} (hn : Nested L) {k : Nat} {x : Nd} (hx : L[k]? = some x) {e : Int} (he : (k : Int) + x.size = e) {A : Option Addr} {n c : Nat} {w : World} (h : Sees w A n L) (hn2 : n ≤ 100000) :
    Calls Try.prog 53 #[.slice A n c, .int .i64 (k : Int)] w fun r w' => r = .returned (.int .i64 e) ∧ w = w' := by
  have hl := h.len
  have hk := (List.getElem?_eq_some_iff.1 hx).1
  have hkn : k < n := by omega
  have hkn2 : (k : Int) < (n : Int) := by omega
  obtain ⟨b1, o1, m1, x1, rfl, hb1, e1, r1, s1⟩ := h.at_ hkn
  rw [hx] at e1
  injection e1 with e1
  subst e1
  have c1 := r1 1 _ rfl
  have hms : m1.size = x.size := s1.1.2.1.symm
  have hs := hn k x hx
  have hs1 := hs.1
  have hs2 := hs.2.1
  obtain ⟨z, hz⟩ : ∃ z, m1.size = z := ⟨_, rfl⟩
  have c1' : w.cell? ⟨b1, o1 + k * 20 + 1, none⟩ = some (.int .i64 z) := by rw [← hz]; exact c1
  rw [hz] at hms
  rw [← hms] at he hs1 hs2
  have hwr : IntKind.i64.wrap ((k : Int) + z) = (k : Int) + z := IntWalk.i64_in _ (by omega)
  have HE := Lib.hid he
  clear h hx r1 s1 hs hms hz c1 he hl hk
  go_enter Try.func53, Try.ntmps53
  go_wp2_with fail
  go_ret
  exact ⟨ret_int HE.out, rfl⟩
/-- what an order is of: a document's nodes, or none. -/
def ordL (L : List Nd) : List Nd := if docB L then L else []
theorem ordL_doc (L : List Nd) : IsDoc (ordL L) := by
  unfold ordL
  rcases hd : docB L with _ | _
  · rw [if_neg (by decide)]
    exact (docB_iff []).1 rfl
  · rw [if_pos rfl]; exact (docB_iff L).1 hd
set_option maxHeartbeats 1000000 in
set_option maxRecDepth 100000 in
theorem tof_to {L : List Nd} {A : Option Addr} {n c : Nat} {w : World} (h : PreV L w A n) :
    Calls Try.prog 37 #[.slice A n c] w fun e w' => ∃ A' n' c', e = .returned (.agg #[.slice A' n' c']) ∧ PreV (ordL L) w' A' n' ∧ Below w.heap.size w w' := by
  have H := Lib.hid h
  clear h
  rcases hd : docB L with _ | _
  · have HL := Lib.hid (show ordL L = [] by unfold ordL; rw [hd, if_neg (by decide)])
    have HD := Lib.hid hd
    clear hd
    go_enter Try.func37, Try.ntmps37
    go_wp2_with fail
    refine (pIs_to HD.out (H.out.below (show Below w.heap.size w _ by go_grown))).mono ?_
    rintro e w1 ⟨rfl, hb⟩
    have HB := Lib.hid (below_then (show Below w.heap.size w _ by go_grown) hb)
    have HX := Lib.hid (show Box w1 w.heap.size [.slice none 0 0] from (Box.new w [.slice none 0 0] _).below hb)
    clear hb
    obtain ⟨a0, a1, a2⟩ := HX.out.of1
    go_wp2_with fail
    have hY := HX.out.set 0 (.slice none 0 0) (by simp)
    have r0 := hY.2.2 0 _ rfl
    exact bodyPost_ret (v := .agg #[.slice none 0 0]) (by simp [results, Try.results37, go_sem, r0]) rfl ⟨none, 0, 0, rfl, ⟨by rw [HL.out]; exact Sees.nil _, by omega⟩, HB.out.setCell (Nat.le_refl _) _⟩
  · have HL := Lib.hid (show ordL L = L by unfold ordL; rw [hd, if_pos rfl])
    have HD := Lib.hid hd
    clear hd
    go_enter Try.func37, Try.ntmps37
    go_wp2_with fail
    refine (pIs_to HD.out (H.out.below (show Below w.heap.size w _ by go_grown))).mono ?_
    rintro e w1 ⟨rfl, hb⟩
    have HB := Lib.hid (below_then (show Below w.heap.size w _ by go_grown) hb)
    have HX := Lib.hid (show Box w1 w.heap.size [.slice none 0 0] from (Box.new w [.slice none 0 0] _).below hb)
    clear hb
    obtain ⟨a0, a1, a2⟩ := HX.out.of1
    go_wp2_with fail
    have hY := HX.out.set 0 (.slice A n c) (by simp)
    have r0 := hY.2.2 0 _ rfl
    exact bodyPost_ret (v := .agg #[.slice A n c]) (by simp [results, Try.results37, go_sem, r0]) rfl ⟨A, n, c, rfl, by rw [HL.out]; exact H.out.below (HB.out.setCell (Nat.le_refl _) _), HB.out.setCell (Nat.le_refl _) _⟩
end Go.Proofs.Ytamakeogaipdiaa
/- The program's package tree: who holds whom. (Split off TreeFns.) -/
namespace Go.Proofs.Ytamakeogaipdiaa
open Go.RowKit
set_option linter.unusedVariables false
set_option linter.unusedSimpArgs false
theorem thas_to {L : List Nd} {a : Int} {v : Bool} (hv : hasI L a = v) {A : Option Addr} {n c : Nat} {w : World} (h : Sees w A n L) : Calls Try.prog 52 #[.slice A n c, .int .i64 a] w fun e w' => e = .returned (.bool v) ∧ w = w' := by
  have hl := h.len
  have hb := h.bound
  subst hv
  by_cases h0 : 0 ≤ a
  · by_cases h1 : a < (n : Int)
    · have HV := Lib.hid (show hasI L a = true from hasI_iff.2 ⟨h0, by omega⟩)
      clear h hl
      go_enter Try.func52, Try.ntmps52
      go_wp2_with fail
      go_ret
      exact ⟨ret_bool HV.out.symm, rfl⟩
    · have HV := Lib.hid (show hasI L a = false by rcases hq : hasI L a with _ | _; rfl; have := (hasI_iff.1 hq).2; omega)
      have h2 : (n : Int) ≤ a := by omega
      clear h hl
      go_enter Try.func52, Try.ntmps52
      go_wp2_with fail
      go_ret
      exact ⟨ret_bool HV.out.symm, rfl⟩
  · have HV := Lib.hid (show hasI L a = false by rcases hq : hasI L a with _ | _; rfl; have := (hasI_iff.1 hq).1; omega)
    have h2 : a < 0 := by omega
    clear h hl
    go_enter Try.func52, Try.ntmps52
    go_wp2_with fail
    go_ret
    exact ⟨ret_bool HV.out.symm, rfl⟩
set_option maxHeartbeats 1000000 in
set_option maxRecDepth 100000 in
theorem tholds_to {L : List Nd} (hn : Nested L) {a b : Int} {v : Bool} (hv : holdsI L a b = v) {A : Option Addr} {n c : Nat} {w : World} (h : Sees w A n L) (hn2 : n ≤ 100000) :
    Calls Try.prog 38 #[.agg #[.slice A n c], .int .i64 a, .int .i64 b] w fun e w' => e = .returned (.bool v) ∧ Below w.heap.size w w' := by
  have HA := Lib.hid h
  have hl := h.len
  rcases hqa : hasI L a with _ | _
  · have HV := Lib.hid (show false = v by rw [← hv]; unfold holdsI; rw [hqa]; rfl)
    have HQ := Lib.hid hqa
    clear h hv hqa hl
    go_enter Try.func38, Try.ntmps38
    go_wp2_with fail
    refine (thas_to HQ.out (HA.out.below (show Below w.heap.size w _ by go_grown))).mono ?_
    rintro e w1 ⟨rfl, rfl⟩
    go_wp2_with fail
    go_ret
    exact ⟨ret_bool HV.out, by go_grown⟩
  obtain ⟨a0, a1⟩ := hasI_iff.1 hqa
  obtain ⟨i, rfl⟩ : ∃ i : Nat, a = (i : Int) := ⟨a.toNat, by omega⟩
  by_cases hab : (i : Int) ≤ b
  · obtain ⟨j, rfl⟩ : ∃ j : Nat, b = (j : Int) := ⟨b.toNat, by omega⟩
    have hx : L[i]? = some (L[i]'(by omega)) := List.getElem?_eq_getElem _
    obtain ⟨x, hxx⟩ : ∃ x, L[i]'(by omega) = x := ⟨_, rfl⟩
    rw [hxx] at hx
    have hs := (hn i x hx).2.1
    obtain ⟨e0, he⟩ : ∃ e0 : Int, (i : Int) + x.size = e0 := ⟨_, rfl⟩
    have HX := Lib.hid hx
    have HE := Lib.hid he
    have HQ := Lib.hid hqa
    by_cases hlt : (j : Int) < e0
    · have HV := Lib.hid (show true = v by
        rw [← hv]; unfold holdsI
        rw [hqa, show hasI L (j : Int) = true from hasI_iff.2 ⟨by omega, by omega⟩, Int.toNat_natCast, Int.toNat_natCast, holdP_iff.2 ⟨x, hx, by omega, by omega, by omega⟩]
        rfl)
      clear h hv hqa hl hx hxx hs he a0 a1
      go_enter Try.func38, Try.ntmps38
      go_wp2_with fail
      refine (thas_to HQ.out (HA.out.below (show Below w.heap.size w _ by go_grown))).mono ?_
      rintro e w1 ⟨rfl, rfl⟩
      go_wp2_with fail
      refine (tend_to hn HX.out HE.out (HA.out.below (show Below w.heap.size w _ by go_grown)) hn2).mono ?_
      rintro e w1 ⟨rfl, rfl⟩
      go_wp2_with fail
      go_ret
      exact ⟨ret_bool HV.out, by go_grown⟩
    · have HV := Lib.hid (show false = v by
        rw [← hv]; unfold holdsI
        rw [hqa, Int.toNat_natCast, Int.toNat_natCast]
        rcases hq : holdP L i j with _ | _
        · simp
        · obtain ⟨y, g1, _, _, g4⟩ := holdP_iff.1 hq
          rw [hx] at g1; injection g1 with g1; subst g1; omega)
      have h2 : e0 ≤ (j : Int) := by omega
      clear h hv hqa hl hx hxx hs he a0 a1 hlt
      go_enter Try.func38, Try.ntmps38
      go_wp2_with fail
      refine (thas_to HQ.out (HA.out.below (show Below w.heap.size w _ by go_grown))).mono ?_
      rintro e w1 ⟨rfl, rfl⟩
      go_wp2_with fail
      refine (tend_to hn HX.out HE.out (HA.out.below (show Below w.heap.size w _ by go_grown)) hn2).mono ?_
      rintro e w1 ⟨rfl, rfl⟩
      go_wp2_with fail
      go_ret
      exact ⟨ret_bool (by rw [← HV.out]; exact decide_eq_false (by omega)), by go_grown⟩
  · have HV := Lib.hid (show false = v by
      rw [← hv]; unfold holdsI
      rcases hq : hasI L b with _ | _
      · rw [hqa]; rfl
      · have hb0 := (hasI_iff.1 hq).1
        rcases hh : holdP L (i : Int).toNat b.toNat with _ | _
        · rw [hqa]; rfl
        · obtain ⟨y, _, _, g3, _⟩ := holdP_iff.1 hh
          omega)
    have HQ := Lib.hid hqa
    have h2 : b < (i : Int) := by omega
    clear h hv hqa hl hab a0 a1
    go_enter Try.func38, Try.ntmps38
    go_wp2_with fail
    refine (thas_to HQ.out (HA.out.below (show Below w.heap.size w _ by go_grown))).mono ?_
    rintro e w1 ⟨rfl, rfl⟩
    go_wp2_with fail
    go_ret
    exact ⟨ret_bool HV.out, by go_grown⟩
end Go.Proofs.Ytamakeogaipdiaa
/- The program's package tree: the iterator over the nodes above one. (Split off TreeIter.) -/
namespace Go.Proofs.Ytamakeogaipdiaa
open Go.RowKit Go.Shelf
set_option linter.unusedVariables false
set_option linter.unusedSimpArgs false
attribute [local go_sem] Oper.semAt_some
theorem cell_of {W : World} {b : Nat} {v : Value} {t : TypeId} (h : W.heap[b]? = some (.cells #[v] t)) : W.cell? ⟨b, 0, none⟩ = some v := by simp [World.cell?, h]
theorem above_len {L : List Nd} (a : Int) : (aboveI L a).length ≤ L.length := by
  unfold aboveI
  split
  · rename_i h
    obtain ⟨h1, h2⟩ := hasI_iff.1 h
    rw [List.length_map]
    unfold aboveP
    split
    · exact Nat.le_trans (up_len _) (by omega)
    · exact Nat.zero_le _
  · exact Nat.zero_le _
theorem holdsI_ord {L : List Nd} {i j : Nat} (hij : i ≤ j) (hj : j < L.length) : holdsI L (i : Int) (j : Int) = holdP L i j := by
  unfold holdsI
  rw [hasI_iff.2 ⟨by omega, by omega⟩, hasI_iff.2 ⟨by omega, by omega⟩, Int.toNat_natCast, Int.toNat_natCast]
  rfl
set_option maxRecDepth 100000 in
set_option maxHeartbeats 4000000 in
theorem above1_in (n l b : Nat) (w0 : World) {L : List Nd} (hn : Nested L) {A : Option Addr} {m c : Nat} (hm : m ≤ 100000) (a : Int) (hS : Sees w0 A m L)
    (hb : w0.heap[b]? = some (.cells #[.slice A m c] 66)) (hb1 : w0.heap[b + 1]? = some (.cells #[.int .i64 a] 3))
    (J Jx : List Int → World → Prop) (W : World) (hW : On w0 W) (hJ : AbidesFrom W.heap.size J)
    (hY : ∀ pre x W1, J pre W1 → pre.length < 100001 → YieldAt Fence.wide (n - 1) Try.prog l #[.int .i64 x] W1 fun e W' =>
      (e = .returned (.bool true) ∧ J (pre ++ [x]) W' ∧ Below w0.heap.size W1 W') ∨ (e = .returned (.bool false) ∧ Jx (pre ++ [x]) W'))
    (h0 : J [] W) :
    CallsIn Fence.wide n Try.prog 93 #[.func (.yield l) #[] #[], .pointer (some ⟨b, 0, none⟩), .pointer (some ⟨b + 1, 0, none⟩)] W fun e W' => (∃ v, e = .returned v) ∧
      ((∃ xs, xs = aboveI L a ∧ J xs W') ∨ (∃ pre, pre <+: aboveI L a ∧ Jx pre W')) := by
  have hl := hS.len
  have hcb := Lib.hid (show ∀ V, On w0 V → V.cell? ⟨b, 0, none⟩ = some (.slice A m c) from On.cell (cell_of hb))
  have hca := Lib.hid (show ∀ V, On w0 V → V.cell? ⟨b + 1, 0, none⟩ = some (.int .i64 a) from On.cell (cell_of hb1))
  have HS := Lib.hid hS
  have HY := Lib.hid hY
  have HJ := Lib.hid hJ
  have HL := Lib.hid hl
  have HN := Lib.hid hn
  have c1 := hcb.out W hW
  have c2 := hca.out W hW
  clear hS hb hb1 hY hJ hl hn
  refine callsIn_of_wp Try.func93 rfl trivial ?_ rfl
  simp only [Try.ntmps93, List.size_toArray, List.length_cons, List.length_nil, Nat.reduceAdd, Nat.reduceSub, Array.replicate_succ, Array.replicate_zero, List.push_toArray, List.append_toArray, List.nil_append, List.cons_append]
  rcases hq : hasI L a with _ | _
  · have HQ := Lib.hid hq
    have HA := Lib.hid (show aboveI L a = [] by unfold aboveI; rw [hq]; rfl)
    clear hq
    gi_wp2_with (refine ⟨trivial, wide_deep _, ?_⟩; gi_at_call 52; refine (callsIn_wide.2 (thas_to HQ.out (HS.out.below hW))).mono ?_; rintro e w' ⟨rfl, rfl⟩)
    refine bodyPost_ret (results_none rfl _ _ _) rfl ?_
    exact ⟨⟨_, rfl⟩, .inl ⟨[], HA.out.symm, h0⟩⟩
  obtain ⟨a0, a1⟩ := hasI_iff.1 hq
  obtain ⟨j, rfl⟩ : ∃ j : Nat, a = (j : Int) := ⟨a.toNat, by omega⟩
  have hjL : j < L.length := by omega
  have hjm : j ≤ 100000 := by have := HL.out; omega
  have HQ := Lib.hid hq
  have HA := Lib.hid (show aboveI L (j : Int) = (backTo L j j).map (fun i : Nat => (i : Int)) by rw [aboveI_nat hjL]; unfold aboveP; rw [if_pos hjL])
  clear hq a0 a1
  gi_wp2_with (refine ⟨trivial, wide_deep _, ?_⟩; gi_at_call 52; refine (callsIn_wide.2 (thas_to HQ.out (HS.out.below hW))).mono ?_; rintro e w' ⟨rfl, rfl⟩)
  have HH0 := Lib.hid h0
  have HW := Lib.hid hW
  clear h0 hW c1 c2
  gi_loopw [4] (fun i wr => ∃ (k : Nat) (z : Int) (pre : List Int), i = .int .i64 z ∧ z + 1 = (k : Int) ∧ k ≤ j ∧ Hid (pre ++ (backTo L j k).map (fun i : Nat => (i : Int)) = aboveI L (j : Int)) ∧ Hid (J pre wr) ∧ Hid (On w0 wr) ∧ Hid (W.heap.size ≤ wr.heap.size)) (fun i _ => (intOf i + 1).toNat)
  case atStart => exact ⟨j, _, [], rfl, by omega, Nat.le_refl _, Lib.hid (by rw [HA.out]; rfl), HH0, HW, Lib.hid (Nat.le_refl _)⟩
  case round =>
    obtain ⟨k, z, pre, rfl, hz, hkj, HP, HJp, HO, HG⟩ := hrel
    cases k with
    | zero =>
      obtain rfl : z = -1 := by omega
      gi_wp2
      go_end0
      exact ⟨⟨_, rfl⟩, .inl ⟨pre, by have := HP.out; simpa [backTo] using this, HJp.out⟩⟩
    | succ k =>
      obtain rfl : z = (k : Int) := by omega
      have c1 := hcb.out wr HO.out
      have c2 := hca.out wr HO.out
      have hlen : pre.length < 100001 := by
        have h1 := congrArg List.length HP.out
        have h2 := above_len (L := L) (j : Int)
        have h3 := HL.out
        simp at h1; omega
      have hho := holdsI_ord (L := L) (i := k) (j := j) (by omega) hjL
      rcases hhq : holdP L k j with _ | _
      · rw [hhq] at hho
        have HHO := Lib.hid hho
        have HP2 := Lib.hid (show pre ++ (backTo L j k).map (fun i : Nat => (i : Int)) = aboveI L (j : Int) by have := HP.out; rw [up_succ, hhq, if_neg (by decide)] at this; exact this)
        clear hho hhq hz
        gi_wp2_with (refine ⟨trivial, wide_deep _, ?_⟩; gi_at_call 38; refine (callsIn_wide.2 (tholds_to HN.out HHO.out (HS.out.below HO.out) hm)).mono ?_; rintro e w3 ⟨rfl, hb3⟩; have HO3 := Lib.hid (HO.out.step hb3); have HJ3 := Lib.hid (HJ.out pre wr w3 none HJp.out (grown_of_below hb3 none) (fun r e => by cases e)); have HG3 := Lib.hid (Nat.le_trans HG.out hb3.size); clear hb3)
        refine ⟨fun _ h => (by cases h), ?_⟩
        gi_wp2
        go_roundw
        case rel => exact ⟨k, (k : Int) - 1, pre, by go_num, by omega, by omega, HP2, HJ3, HO3, HG3⟩
        case measure => simp [intOf] <;> omega
      · rw [hhq] at hho
        have HHO := Lib.hid hho
        have HP2 := Lib.hid (show (pre ++ [(k : Int)]) ++ (backTo L j k).map (fun i : Nat => (i : Int)) = aboveI L (j : Int) by have := HP.out; rw [up_succ, hhq, if_pos rfl] at this; simpa using this)
        clear hho hhq hz
        gi_wp2_with (refine ⟨trivial, wide_deep _, ?_⟩; gi_at_call 38; refine (callsIn_wide.2 (tholds_to HN.out HHO.out (HS.out.below HO.out) hm)).mono ?_; rintro e w3 ⟨rfl, hb3⟩; have HO3 := Lib.hid (HO.out.step hb3); have hJ3 := HJ.out pre wr w3 none HJp.out (grown_of_below hb3 none) (fun r e => by cases e); obtain ⟨fn, tmps, assign, body, hy, hR⟩ := HY.out pre (k : Int) w3 hJ3 hlen; have HG3 := Lib.hid (Nat.le_trans HG.out hb3.size); clear hb3 hJ3)
        refine ⟨wide_deep _, ?_⟩
        refine hR.mono ?_
        rintro e W3 (⟨rfl, hJ4, hk4⟩ | ⟨rfl, hx4⟩)
        · have HJ4 := Lib.hid hJ4
          have HO4 := Lib.hid (HO3.out.trans hk4)
          have HG4 := Lib.hid (Nat.le_trans HG3.out hk4.size)
          clear hJ4 hk4 hy hR
          gi_wp2
          go_roundw
          case rel => exact ⟨k, (k : Int) - 1, pre ++ [(k : Int)], by go_num, by omega, by omega, HP2, HJ4, HO4, HG4⟩
          case measure => simp [intOf] <;> omega
        · gi_wp2
          refine bodyPost_ret (results_none rfl _ _ _) rfl ?_
          exact ⟨⟨_, rfl⟩, .inr ⟨pre ++ [(k : Int)], ⟨_, HP2.out⟩, hx4⟩⟩
/-- the iterator over the nodes above one, as its callers take it. -/
theorem above_stops (b : Nat) (w0 : World) {L : List Nd} (hn : Nested L) {A : Option Addr} {m c : Nat} (hm : m ≤ 100000) (a : Int) (hS : Sees w0 A m L)
    (hb : w0.heap[b]? = some (.cells #[.slice A m c] 66)) (hb1 : w0.heap[b + 1]? = some (.cells #[.int .i64 a] 3)) (n : Nat) :
    SeqStopsK Fence.wide n Try.prog 93 #[.pointer (some ⟨b, 0, none⟩), .pointer (some ⟨b + 1, 0, none⟩)] (fun x : Int => #[Value.int .i64 x]) (Below w0.heap.size) (fun xs => xs = aboveI L a) (fun pre => pre <+: aboveI L a) 100001 w0 :=
  fun l J Jx W hW hJ hJx hY h0 => above1_in n l b w0 hn hm a hS hb hb1 J Jx W hW hJ hY h0
end Go.Proofs.Ytamakeogaipdiaa
/- The program's package tree: Holds. (Split off TreeTop.) -/
namespace Go.Proofs.Ytamakeogaipdiaa
open Go.RowKit Go.Shelf
set_option linter.unusedVariables false
set_option linter.unusedSimpArgs false
attribute [local go_sem] Oper.semAt_some
set_option maxRecDepth 100000 in
set_option maxHeartbeats 2000000 in
theorem tHolds_to {L : List Nd} {a b : Int} {v : Bool} (hv : holdsI (ordL L) a b = v) {A : Option Addr} {n c : Nat} {w : World} (h : PreV L w A n) : Calls Try.prog 19 #[.slice A n c, .int .i64 a, .int .i64 b] w fun e w' => e = .returned (.bool v) ∧ Below w.heap.size w w' := by
  have H := Lib.hid h
  have HV := Lib.hid hv
  clear h hv
  go_enter Try.func19, Try.ntmps19
  go_wp2_with fail
  refine (tof_to H.out).mono ?_
  rintro e w1 ⟨A1, n1, c1, rfl, hp, hb⟩
  have HP := Lib.hid hp
  have HB := Lib.hid hb
  clear hp hb
  go_wp2_with fail
  refine (tholds_to ((forest_iff_nested _).1 (ordL_doc L).2) HV.out HP.out.1 HP.out.2).mono ?_
  rintro e w2 ⟨rfl, hb⟩
  have HB2 := Lib.hid (below_then HB.out hb)
  clear hb
  go_wp2_with fail
  go_ret
  exact ⟨rfl, HB2.out⟩
end Go.Proofs.Ytamakeogaipdiaa
/- The program's package tree: Above. (Split off TreeTopA.) -/
namespace Go.Proofs.Ytamakeogaipdiaa
open Go.RowKit Go.Shelf
set_option linter.unusedVariables false
set_option linter.unusedSimpArgs false
attribute [local go_sem] Oper.semAt_some
theorem tabove_in (A : Option Addr) (m c : Nat) (a : Int) (w : World) : Calls Try.prog 77 #[.agg #[.slice A m c], .int .i64 a] w fun e w' => e = .returned (.func (.func 93) #[] #[.pointer (some ⟨w.heap.size, 0, none⟩), .pointer (some ⟨w.heap.size + 1, 0, none⟩)]) ∧ w' = (w.alloc (.cells #[.slice A m c] 66)).alloc (.cells #[.int .i64 a] 3) := by
  go_enter Try.func77, Try.ntmps77
  go_wp2_with fail
  go_ret
  exact ⟨rfl, rfl⟩
theorem two_boxes (w : World) (u v : Value) (t1 t2 : TypeId) : ((w.alloc (.cells #[u] t1)).alloc (.cells #[v] t2)).heap[w.heap.size]? = some (.cells #[u] t1) ∧ ((w.alloc (.cells #[u] t1)).alloc (.cells #[v] t2)).heap[w.heap.size + 1]? = some (.cells #[v] t2) ∧ On w ((w.alloc (.cells #[u] t1)).alloc (.cells #[v] t2)) ∧ ((w.alloc (.cells #[u] t1)).alloc (.cells #[v] t2)).heap.size = w.heap.size + 2 := by
  refine ⟨(Below.heap_alloc _ _ _ (by simp)).trans (World.alloc_heap_new w _), ?_, ((Below.refl _ w).alloc (Nat.le_refl _) _).alloc (by simp) _, by simp⟩
  have := World.alloc_heap_new (w.alloc (.cells #[u] t1)) (.cells #[v] t2)
  rwa [World.size_alloc] at this
theorem ints_out {w w1 w2 : World} {xs : List Int} {v : Value} (hb : Below w.heap.size w w1) (h : w2.ownsRow w1.heap.size 3 1 v xs.length (xs.map (Value.int .i64))) (hb2 : Below w1.heap.size w1 w2) : IntsOut w xs (.returned v) w2 := by
  obtain ⟨A, c, rfl⟩ := ownsRow_form h
  exact ⟨A, xs.length, c, rfl, owns_up h hb.size, below_then hb hb2⟩
set_option maxRecDepth 100000 in
set_option maxHeartbeats 2000000 in
theorem tAbove_to {L : List Nd} {a : Int} {A : Option Addr} {n c : Nat} {w : World} (h : PreV L w A n) : Calls Try.prog 61 #[.slice A n c, .int .i64 a] w (IntsOut w (aboveI (ordL L) a)) := by
  have H := Lib.hid h
  clear h
  go_enter Try.func61, Try.ntmps61
  go_wp2_with fail
  refine (tof_to H.out).mono ?_
  rintro e w1 ⟨A1, n1, c1, rfl, hp, hb⟩
  have HP := Lib.hid hp
  have HB := Lib.hid hb
  clear hp hb
  go_wp2_with fail
  refine (tabove_in _ _ _ _ _).mono ?_
  rintro e w2 ⟨rfl, hw2⟩
  obtain ⟨g1, g2, g3, g4⟩ := two_boxes w1 (.slice A1 n1 c1) (.int .i64 a) 66 3
  rw [← hw2] at g1 g2 g3 g4
  have HC := Lib.hid (collect_to 93 #[.pointer (some ⟨w1.heap.size, 0, none⟩), .pointer (some ⟨w1.heap.size + 1, 0, none⟩)] (enters_of Try.func93 (by kernel_rfl) rfl) _ _ 100001 w2.heap.size (by omega) w2 w2 (Nat.le_refl _) (Below.refl _ _)
    (above_stops w1.heap.size w2 ((forest_iff_nested _).1 (ordL_doc L).2) HP.out.2 a (HP.out.1.below g3) g1 g2))
  have HO := Lib.hid (below_then HB.out g3)
  clear hw2 g1 g2 g3 g4
  go_wp2_with fail
  refine HC.out.mono ?_
  rintro e w3 ⟨xs, v, rfl, rfl, h2, h3⟩
  have HI := Lib.hid (ints_out HO.out h2 h3)
  clear h2 h3
  go_wp2_with fail
  go_ret
  exact HI.out
end Go.Proofs.Ytamakeogaipdiaa
