import Derived.Test.YtllloonfnbhoeaaJA19
import Derived.Test.YtllloonfnbhoeaaJA01
import Derived.Test.YtllloonfnbhoeaaJA02
/- The program's package valid: Is. -/
namespace Go.Proofs.Ytllloonfnbhoeaa
open Go.RowKit
set_option linter.unusedVariables false
set_option linter.unusedSimpArgs false
def PreV (l : List Nd) (w : World) (A : Option Addr) (n : Nat) : Prop := Sees w A n l ∧ n ≤ 100000
theorem PreV.below {l : List Nd} {w w' : World} {A : Option Addr} {n : Nat} (h : PreV l w A n) (hb : Below w.heap.size w w') : PreV l w' A n := ⟨h.1.below hb, h.2⟩
theorem pcount_pre {l : List Nd} {A : Option Addr} {n ca : Nat} {w : World} (h : PreV l w A n) : Calls Try.prog 41 #[.slice A n ca] w (CountPost l w) := pcount_any l A n ca w h.1 h.2
theorem doc_ans {l : List Nd} {a : Sm × Int} (ha : ansV l = a) (h : IsDoc l) : a = (sumB l, 0) := by rw [← ha]; unfold ansV; rw [if_pos ((docB_iff l).2 h)]
theorem no_ans {l : List Nd} {a : Sm × Int} (ha : ansV l = a) (h : ¬ IsDoc l) : a = (.none, 4) := by rw [← ha]; unfold ansV; rw [if_neg (fun e => h ((docB_iff l).1 e))]
theorem pIs_to {l : List Nd} {v : Bool} (ha : docB l = v) {A : Option Addr} {n ca : Nat} {w : World} (h : PreV l w A n) : Calls Try.prog 23 #[.slice A n ca] w fun e w' => e = .returned (.bool v) ∧ Below w.heap.size w w' := by
  have HA := Lib.hid ha
  have H := Lib.hid h
  clear ha h
  go_enter Try.func23, Try.ntmps23
  go_wp2_with fail
  refine (pcount_pre H.out).mono ?_
  rintro e w1 ⟨⟨hd, A1, k1, c1, rfl⟩ | ⟨hd, rfl⟩, hb⟩
  · have HV := Lib.hid (show v = true by rw [← HA.out]; exact (docB_iff l).2 hd)
    obtain ⟨⟨s0, s1, s2, s3⟩, hs⟩ : ∃ s, sumB l = s := ⟨_, rfl⟩
    rw [hs]
    have HB := Lib.hid hb
    clear hb hd hs
    go_wp2_with fail
    go_ret
    exact ⟨ret_bool HV.out.symm, HB.out.alloc (by have := HB.out.size; omega) _⟩
  · have HV := Lib.hid (show v = false by rw [← HA.out]; rcases hq : docB l with _ | _; rfl; exact absurd ((docB_iff l).1 hq) hd)
    have HB := Lib.hid hb
    clear hb hd
    go_wp2_with fail
    go_ret
    exact ⟨ret_bool HV.out.symm, HB.out.alloc (by have := HB.out.size; omega) _⟩
end Go.Proofs.Ytllloonfnbhoeaa
/- The program's package tree: an order of nodes, and who holds whom. -/
namespace Go.Proofs.Ytllloonfnbhoeaa
open Go.RowKit
set_option linter.unusedVariables false
set_option linter.unusedSimpArgs false
theorem thas_to {L : List Nd} {a : Int} {v : Bool} (hv : hasI L a = v) {A : Option Addr} {n c : Nat} {w : World} (h : Sees w A n L) : Calls Try.prog 45 #[.slice A n c, .int .i64 a] w fun e w' => e = .returned (.bool v) ∧ w = w' := by
  have hl := h.len
  have hb := h.bound
  subst hv
  by_cases h0 : 0 ≤ a
  · by_cases h1 : a < (n : Int)
    · have HV := Lib.hid (show hasI L a = true from hasI_iff.2 ⟨h0, by omega⟩)
      clear h hl
      go_enter Try.func45, Try.ntmps45
      go_wp2_with fail
      go_ret
      exact ⟨ret_bool HV.out.symm, rfl⟩
    · have HV := Lib.hid (show hasI L a = false by rcases hq : hasI L a with _ | _; rfl; have := (hasI_iff.1 hq).2; omega)
      have h2 : (n : Int) ≤ a := by omega
      clear h hl
      go_enter Try.func45, Try.ntmps45
      go_wp2_with fail
      go_ret
      exact ⟨ret_bool HV.out.symm, rfl⟩
  · have HV := Lib.hid (show hasI L a = false by rcases hq : hasI L a with _ | _; rfl; have := (hasI_iff.1 hq).1; omega)
    have h2 : a < 0 := by omega
    clear h hl
    go_enter Try.func45, Try.ntmps45
    go_wp2_with fail
    go_ret
    exact ⟨ret_bool HV.out.symm, rfl⟩
theorem tmany_to {L : List Nd} {A : Option Addr} {n c : Nat} {w : World} (h : Sees w A n L) : Calls Try.prog 31 #[.slice A n c] w fun e w' => e = .returned (.int .i64 (n : Int)) ∧ w = w' := by
  have hb := h.bound
  clear h
  go_enter Try.func31, Try.ntmps31
  go_wp2_with fail
  go_ret
  exact ⟨rfl, rfl⟩
theorem tend_to {L : List Nd} (hn : Nested L) {k : Nat} {x : Nd} (hx : L[k]? = some x) {e : Int} (he : (k : Int) + x.size = e) {A : Option Addr} {n c : Nat} {w : World} (h : Sees w A n L) (hn2 : n ≤ 100000) :
    Calls Try.prog 33 #[.slice A n c, .int .i64 (k : Int)] w fun r w' => r = .returned (.int .i64 e) ∧ w = w' := by
  have hl := h.len
  have hk := (List.getElem?_eq_some_iff.1 hx).1
  have hkn : k < n := by omega
  have hkn2 : (k : Int) < (n : Int) := by omega
  obtain ⟨b1, o1, m1, x1, rfl, hb1, e1, r1, s1⟩ := h.at_ hkn
  rw [hx] at e1
  injection e1 with e1
  subst e1
  have c1 := r1 1 _ rfl
  have hms : m1.size = x.size := s1.1.2.1.symm
  have hs := hn k x hx
  have hs1 := hs.1
  have hs2 := hs.2.1
  obtain ⟨z, hz⟩ : ∃ z, m1.size = z := ⟨_, rfl⟩
  have c1' : w.cell? ⟨b1, o1 + k * 20 + 1, none⟩ = some (.int .i64 z) := by rw [← hz]; exact c1
  rw [hz] at hms
  rw [← hms] at he hs1 hs2
  have hwr : IntKind.i64.wrap ((k : Int) + z) = (k : Int) + z := IntWalk.i64_in _ (by omega)
  have HE := Lib.hid he
  clear h hx r1 s1 hs hms hz c1 he hl hk
  go_enter Try.func33, Try.ntmps33
  go_wp2_with fail
  go_ret
  exact ⟨ret_int HE.out, rfl⟩
theorem tinset_to {L : List Nd} {k : Nat} {i : Int} (hk : k < L.length) (hi : insetAt L k = i) {A : Option Addr} {n c : Nat} {w : World} (h : Sees w A n L) :
    Calls Try.prog 35 #[.slice A n c, .int .i64 (k : Int)] w fun r w' => r = .returned (.int .i64 i) ∧ w = w' := by
  have hl := h.len
  have hkn : k < n := by omega
  have hkn2 : (k : Int) < (n : Int) := by omega
  have hb := h.bound
  obtain ⟨b1, o1, m1, x1, rfl, hb1, e1, r1, s1⟩ := h.at_ hkn
  have hins : insetAt L k = m1.sty.inset := by unfold insetAt; rw [e1]; show x1.sty.inset = _; rw [s1.1.2.2.1]
  have c1 : w.cell? ⟨b1, o1 + k * 20 + 2 + 4, none⟩ = some (.int .i64 m1.sty.inset) := r1 6 _ rfl
  rw [← hins, hi] at c1
  clear h r1 s1 e1 hins hi hl hk
  go_enter Try.func35, Try.ntmps35
  go_wp2_with fail
  go_ret
  exact ⟨rfl, rfl⟩
set_option maxHeartbeats 1000000 in
set_option maxRecDepth 100000 in
theorem tholds_to {L : List Nd} (hn : Nested L) {a b : Int} {v : Bool} (hv : holdsI L a b = v) {A : Option Addr} {n c : Nat} {w : World} (h : Sees w A n L) (hn2 : n ≤ 100000) :
    Calls Try.prog 29 #[.agg #[.slice A n c], .int .i64 a, .int .i64 b] w fun e w' => e = .returned (.bool v) ∧ Below w.heap.size w w' := by
  have HA := Lib.hid h
  have hl := h.len
  rcases hqa : hasI L a with _ | _
  · have HV := Lib.hid (show false = v by rw [← hv]; unfold holdsI; rw [hqa]; rfl)
    have HQ := Lib.hid hqa
    clear h hv hqa hl
    go_enter Try.func29, Try.ntmps29
    go_wp2_with fail
    refine (thas_to HQ.out (HA.out.below (show Below w.heap.size w _ by go_grown))).mono ?_
    rintro e w1 ⟨rfl, rfl⟩
    go_wp2_with fail
    go_ret
    exact ⟨ret_bool HV.out, by go_grown⟩
  obtain ⟨a0, a1⟩ := hasI_iff.1 hqa
  obtain ⟨i, rfl⟩ : ∃ i : Nat, a = (i : Int) := ⟨a.toNat, by omega⟩
  by_cases hab : (i : Int) ≤ b
  · obtain ⟨j, rfl⟩ : ∃ j : Nat, b = (j : Int) := ⟨b.toNat, by omega⟩
    have hx : L[i]? = some (L[i]'(by omega)) := List.getElem?_eq_getElem _
    obtain ⟨x, hxx⟩ : ∃ x, L[i]'(by omega) = x := ⟨_, rfl⟩
    rw [hxx] at hx
    have hs := (hn i x hx).2.1
    obtain ⟨e0, he⟩ : ∃ e0 : Int, (i : Int) + x.size = e0 := ⟨_, rfl⟩
    have HX := Lib.hid hx
    have HE := Lib.hid he
    have HQ := Lib.hid hqa
    by_cases hlt : (j : Int) < e0
    · have HV := Lib.hid (show true = v by
        rw [← hv]; unfold holdsI
        rw [hqa, show hasI L (j : Int) = true from hasI_iff.2 ⟨by omega, by omega⟩, Int.toNat_natCast, Int.toNat_natCast, holdP_iff.2 ⟨x, hx, by omega, by omega, by omega⟩]
        rfl)
      clear h hv hqa hl hx hxx hs he a0 a1
      go_enter Try.func29, Try.ntmps29
      go_wp2_with fail
      refine (thas_to HQ.out (HA.out.below (show Below w.heap.size w _ by go_grown))).mono ?_
      rintro e w1 ⟨rfl, rfl⟩
      go_wp2_with fail
      refine (tend_to hn HX.out HE.out (HA.out.below (show Below w.heap.size w _ by go_grown)) hn2).mono ?_
      rintro e w1 ⟨rfl, rfl⟩
      go_wp2_with fail
      go_ret
      exact ⟨ret_bool HV.out, by go_grown⟩
    · have HV := Lib.hid (show false = v by
        rw [← hv]; unfold holdsI
        rw [hqa, Int.toNat_natCast, Int.toNat_natCast]
        rcases hq : holdP L i j with _ | _
        · simp
        · obtain ⟨y, g1, _, _, g4⟩ := holdP_iff.1 hq
          rw [hx] at g1; injection g1 with g1; subst g1; omega)
      have h2 : e0 ≤ (j : Int) := by omega
      clear h hv hqa hl hx hxx hs he a0 a1 hlt
      go_enter Try.func29, Try.ntmps29
      go_wp2_with fail
      refine (thas_to HQ.out (HA.out.below (show Below w.heap.size w _ by go_grown))).mono ?_
      rintro e w1 ⟨rfl, rfl⟩
      go_wp2_with fail
      refine (tend_to hn HX.out HE.out (HA.out.below (show Below w.heap.size w _ by go_grown)) hn2).mono ?_
      rintro e w1 ⟨rfl, rfl⟩
      go_wp2_with fail
      go_ret
      exact ⟨ret_bool (by rw [← HV.out]; exact decide_eq_false (by omega)), by go_grown⟩
  · have HV := Lib.hid (show false = v by
      rw [← hv]; unfold holdsI
      rcases hq : hasI L b with _ | _
      · rw [hqa]; rfl
      · have hb0 := (hasI_iff.1 hq).1
        rcases hh : holdP L (i : Int).toNat b.toNat with _ | _
        · rw [hqa]; rfl
        · obtain ⟨y, _, _, g3, _⟩ := holdP_iff.1 hh
          omega)
    have HQ := Lib.hid hqa
    have h2 : b < (i : Int) := by omega
    clear h hv hqa hl hab a0 a1
    go_enter Try.func29, Try.ntmps29
    go_wp2_with fail
    refine (thas_to HQ.out (HA.out.below (show Below w.heap.size w _ by go_grown))).mono ?_
    rintro e w1 ⟨rfl, rfl⟩
    go_wp2_with fail
    go_ret
    exact ⟨ret_bool HV.out, by go_grown⟩
set_option maxHeartbeats 1000000 in
set_option maxRecDepth 100000 in
theorem tinner_to {L : List Nd} (hn : Nested L) {a p q : Int} (hv : innerI L a = (p, q)) {A : Option Addr} {n c : Nat} {w : World} (h : Sees w A n L) (hn2 : n ≤ 100000) :
    Calls Try.prog 48 #[.agg #[.slice A n c], .int .i64 a] w fun e w' => e = .returned (.tuple #[.int .i64 p, .int .i64 q]) ∧ Below w.heap.size w w' := by
  have HA := Lib.hid h
  have hl := h.len
  unfold innerI at hv
  by_cases h1 : a = -1
  · rw [if_pos h1] at hv
    injection hv with hp hq
    have HP := Lib.hid hp
    have HQ := Lib.hid (show (n : Int) = q by rw [← hq]; omega)
    subst h1
    clear h hp hq hl
    go_enter Try.func48, Try.ntmps48
    go_wp2_with fail
    refine (tmany_to (HA.out.below (show Below w.heap.size w _ by go_grown))).mono ?_
    rintro e w1 ⟨rfl, rfl⟩
    go_wp2_with fail
    go_ret2
    exact ⟨by have g1 := HP.out; have g2 := HQ.out; subst g1; subst g2; rfl, by go_grown⟩
  rw [if_neg h1] at hv
  have hd : (a == -1) = false := by simpa using h1
  rcases hqa : hasI L a with _ | _
  · have hv2 : ((0 : Int), (0 : Int)) = (p, q) := by
      rw [hqa] at hv
      rw [← hv]
      cases L[a.toNat]? <;> rfl
    injection hv2 with hp hq
    have HP := Lib.hid hp
    have HQ := Lib.hid hq
    have HH := Lib.hid hqa
    clear h hp hq hl hqa hv
    go_enter Try.func48, Try.ntmps48
    go_wp2_with fail
    refine (thas_to HH.out (HA.out.below (show Below w.heap.size w _ by go_grown))).mono ?_
    rintro e w1 ⟨rfl, rfl⟩
    go_wp2_with fail
    go_ret2
    exact ⟨by have g1 := HP.out; have g2 := HQ.out; subst g1; subst g2; rfl, by go_grown⟩
  obtain ⟨a0, a1⟩ := hasI_iff.1 hqa
  obtain ⟨i, rfl⟩ : ∃ i : Nat, a = (i : Int) := ⟨a.toNat, by omega⟩
  have hx : L[i]? = some (L[i]'(by omega)) := List.getElem?_eq_getElem _
  obtain ⟨x, hxx⟩ : ∃ x, L[i]'(by omega) = x := ⟨_, rfl⟩
  rw [hxx] at hx
  rw [Int.toNat_natCast, hx, hqa] at hv
  simp only [if_true] at hv
  injection hv with hp hq
  have HP := Lib.hid hp
  have HQ := Lib.hid hq
  have HH := Lib.hid hqa
  have HX := Lib.hid hx
  clear h hp hq hqa hx hxx
  go_enter Try.func48, Try.ntmps48
  go_wp2_with fail
  refine (thas_to HH.out (HA.out.below (show Below w.heap.size w _ by go_grown))).mono ?_
  rintro e w1 ⟨rfl, rfl⟩
  go_wp2_with fail
  refine (tend_to hn HX.out HQ.out (HA.out.below (show Below w.heap.size w _ by go_grown)) hn2).mono ?_
  rintro e w1 ⟨rfl, rfl⟩
  go_wp2_with fail
  go_ret2
  exact ⟨by have g1 := HP.out; subst g1; rfl, by go_grown⟩
/-- what an order is of: a document's nodes, or none. -/
def ordL (L : List Nd) : List Nd := if docB L then L else []
theorem ordL_doc (L : List Nd) : IsDoc (ordL L) := by
  unfold ordL
  rcases hd : docB L with _ | _
  · rw [if_neg (by decide)]
    exact (docB_iff []).1 rfl
  · rw [if_pos rfl]; exact (docB_iff L).1 hd
set_option maxHeartbeats 1000000 in
set_option maxRecDepth 100000 in
theorem tof_to {L : List Nd} {A : Option Addr} {n c : Nat} {w : World} (h : PreV L w A n) :
    Calls Try.prog 25 #[.slice A n c] w fun e w' => ∃ A' n' c', e = .returned (.agg #[.slice A' n' c']) ∧ PreV (ordL L) w' A' n' ∧ Below w.heap.size w w' := by
  have H := Lib.hid h
  clear h
  rcases hd : docB L with _ | _
  · have HL := Lib.hid (show ordL L = [] by unfold ordL; rw [hd, if_neg (by decide)])
    have HD := Lib.hid hd
    clear hd
    go_enter Try.func25, Try.ntmps25
    go_wp2_with fail
    refine (pIs_to HD.out (H.out.below (show Below w.heap.size w _ by go_grown))).mono ?_
    rintro e w1 ⟨rfl, hb⟩
    have HB := Lib.hid (below_then (show Below w.heap.size w _ by go_grown) hb)
    have HX := Lib.hid (show Box w1 w.heap.size [.slice none 0 0] from (Box.new w [.slice none 0 0] _).below hb)
    clear hb
    obtain ⟨a0, a1, a2⟩ := HX.out.of1
    go_wp2_with fail
    have hY := HX.out.set 0 (.slice none 0 0) (by simp)
    have r0 := hY.2.2 0 _ rfl
    exact bodyPost_ret (v := .agg #[.slice none 0 0]) (by simp [results, Try.results25, go_sem, r0]) rfl ⟨none, 0, 0, rfl, ⟨by rw [HL.out]; exact Sees.nil _, by omega⟩, HB.out.setCell (Nat.le_refl _) _⟩
  · have HL := Lib.hid (show ordL L = L by unfold ordL; rw [hd, if_pos rfl])
    have HD := Lib.hid hd
    clear hd
    go_enter Try.func25, Try.ntmps25
    go_wp2_with fail
    refine (pIs_to HD.out (H.out.below (show Below w.heap.size w _ by go_grown))).mono ?_
    rintro e w1 ⟨rfl, hb⟩
    have HB := Lib.hid (below_then (show Below w.heap.size w _ by go_grown) hb)
    have HX := Lib.hid (show Box w1 w.heap.size [.slice none 0 0] from (Box.new w [.slice none 0 0] _).below hb)
    clear hb
    obtain ⟨a0, a1, a2⟩ := HX.out.of1
    go_wp2_with fail
    have hY := HX.out.set 0 (.slice A n c) (by simp)
    have r0 := hY.2.2 0 _ rfl
    exact bodyPost_ret (v := .agg #[.slice A n c]) (by simp [results, Try.results25, go_sem, r0]) rfl ⟨A, n, c, rfl, by rw [HL.out]; exact H.out.below (HB.out.setCell (Nat.le_refl _) _), HB.out.setCell (Nat.le_refl _) _⟩
end Go.Proofs.Ytllloonfnbhoeaa
