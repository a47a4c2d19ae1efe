import Derived.Test.YtipmdhfinlkceaaJW09
import Derived.Lib.MinMax
/- AtomsRef. -/
set_option linter.unusedVariables false
set_option linter.unusedSimpArgs false
namespace Go.Proofs.Ytipmdhfinlkceaa
open Go.RowKit
theorem run_max4 {P : Program} (W : World) (ts : Array TypeId) (t : TypeId) (a b c d : Int) : (Builtin.max_ ts t #[.int .i64 a, .int .i64 b, .int .i64 c, .int .i64 d]).run P W = .ok (.int .i64 (max (max (max a b) c) d)) W := by
  have m : ∀ x y : Int, (if x < y then y else x) = max x y := fun x y => by
    rw [Int.max_def]; split <;> split <;> omega
  simp [Builtin.max_, Builtin.max2, m]
theorem run_min4a {P : Program} (W : World) (ts : Array TypeId) (t : TypeId) (a b c d : Int) : (Builtin.min_ ts t #[.int .i64 a, .int .i64 b, .int .i64 c, .int .i64 d]).run P W = .ok (.int .i64 (min (min (min a b) c) d)) W := by
  have m : ∀ x y : Int, (if y < x then y else x) = min x y := fun x y => by
    rw [Int.min_def]; split <;> split <;> omega
  simp [Builtin.min_, Builtin.min2, m]
theorem max4 {P : Program} (a b c d : Int) : ∃ M, (∀ (W : World) (ts : Array TypeId) (t : TypeId), (Builtin.max_ ts t #[.int .i64 a, .int .i64 b, .int .i64 c, .int .i64 d]).run P W = .ok (.int .i64 M) W) ∧ a ≤ M ∧ b ≤ M ∧ c ≤ M ∧ d ≤ M :=
  ⟨_, fun W ts t => run_max4 W ts t a b c d, by omega, by omega, by omega, by omega⟩
theorem min4a {P : Program} (a b c d : Int) : ∃ M, (∀ (W : World) (ts : Array TypeId) (t : TypeId), (Builtin.min_ ts t #[.int .i64 a, .int .i64 b, .int .i64 c, .int .i64 d]).run P W = .ok (.int .i64 M) W) ∧ M ≤ a ∧ M ≤ b ∧ M ≤ c ∧ M ≤ d :=
  ⟨_, fun W ts t => run_min4a W ts t a b c d, by omega, by omega, by omega, by omega⟩
def NearTo (l : List Am) (k : Nat) : Prop := (∀ (j : Nat) (x : Am), j < k → l[j]? = some x → x.near) ∧ ∀ (j : Nat) (x y : Am), j + 1 < k → l[j]? = some x → l[j + 1]? = some y → x.node ≤ y.node
theorem NearTo.rising {l : List Am} (h : NearTo l l.length) : Rising l := by
  intro i j x y hij hx hy
  induction j generalizing y with
  | zero => obtain rfl : i = 0 := by omega
            rw [hx] at hy; injection hy with hy; subst hy; exact Int.le_refl _
  | succ j ih =>
    have hj : j + 1 < l.length := (List.getElem?_eq_some_iff.1 hy).1
    rcases Nat.lt_or_ge i (j + 1) with h1 | h1
    · have hz : l[j]? = some (l[j]'(by omega)) := List.getElem?_eq_getElem _
      have h2 := ih _ (by omega) hz
      have h3 := h.2 j _ y hj hz hy
      omega
    · obtain rfl : i = j + 1 := by omega
      rw [hx] at hy; injection hy with hy; subst hy; exact Int.le_refl _
theorem near_zero {l : List Am} {x : Am} (hx : l[0]? = some x) (hf : x.near) : NearTo l (0 + 1) :=
  ⟨fun j y hj hy => by
    obtain rfl : j = 0 := by omega
    rw [hx] at hy
    injection hy with hy
    subst hy
    exact hf, fun j x y hj => by omega⟩
theorem near_next {l : List Am} {k : Nat} {x y : Am} (h : NearTo l (k + 1)) (hx : l[k + 1]? = some x) (hy : l[k]? = some y) (hf : x.near) (hg : y.node ≤ x.node) : NearTo l (k + 1 + 1) :=
  ⟨fun j z hj hz => by
    rcases Nat.lt_or_ge j (k + 1) with h1 | h1
    · exact h.1 j z h1 hz
    · obtain rfl : j = k + 1 := by omega
      rw [hx] at hz
      injection hz with hz
      subst hz
      exact hf, fun j u v hj hu hv => by
    rcases Nat.lt_or_ge (j + 1) (k + 1) with h1 | h1
    · exact h.2 j u v h1 hu hv
    · obtain rfl : j = k := by omega
      rw [hy] at hu
      injection hu with hu
      subst hu
      rw [hx] at hv
      injection hv with hv
      subst hv
      exact hg⟩
theorem NearTo.near {l : List Am} (h : NearTo l l.length) : ∀ x ∈ l, x.near := fun x hx => by
  obtain ⟨j, hj, rfl⟩ := List.getElem_of_mem hx
  exact h.1 j _ hj (List.getElem?_eq_getElem hj)
set_option maxHeartbeats 8000000 in
set_option maxRecDepth 100000 in
theorem rnear15_to {l : List Am} {A : Option Addr} {n c : Nat} {w : World} (h : Rows 8 encAm w A n l) :
    Calls Try.prog 5 #[.slice A n c] w fun e w' => ∃ v, e = .returned (.bool v) ∧ (v = true → NearTo l n) ∧ Below w.heap.size w w' := by
  have HR := Lib.hid h
  have HN := Lib.hid h.len
  have hnb := h.2.1
  clear h
  go_enter Try.func5, Try.ntmps5
  go_wp2_with fail
  go_loopw [3] (fun i wr => ∃ k : Nat, i = .int .i64 (k : Int) ∧ k ≤ n ∧ Hid (NearTo l k) ∧ Hid (On w wr)) (fun i _ => n - (intOf i).toNat)
  case atStart => exact ⟨0, rfl, Nat.zero_le _, Lib.hid ⟨fun j z hj => by omega, fun j x y hj => by omega⟩, Lib.hid (On.refl _)⟩
  case round =>
    obtain ⟨k, rfl, hkn, HK, HO⟩ := hrel
    by_cases hlt : k < n
    · have hlt2 : (k : Int) < (n : Int) := by omega
      obtain ⟨b, off, x, rfl, hb, hx, hc⟩ := (HR.out.on HO.out).at_ hlt
      have c1 := OnW.cell (hc 1 _ rfl)
      have c4 := OnW.cell (hc 4 _ rfl)
      have c5 := OnW.cell (hc 5 _ rfl)
      have c6 := OnW.cell (hc 6 _ rfl)
      have c7 := OnW.cell (hc 7 _ rfl)
      have HX := Lib.hid hx
      obtain ⟨p0, p1, p2, p3, p4, p5, p6, p7⟩ := x
      simp only at c1 c4 c5 c6 c7
      obtain ⟨M, hM, hM4, hM5, hM6, hM7⟩ := max4 (P := Try.prog) p4 p5 p6 p7
      obtain ⟨m, hm, hm4, hm5, hm6, hm7⟩ := min4a (P := Try.prog) p4 p5 p6 p7
      clear hc hx
      by_cases h1 : 1125899906842624 < M
      · have d1 : decide (1125899906842624 < M) = true := decide_eq_true h1
        clear hM4 hM5 hM6 hM7 hm4 hm5 hm6 hm7
        go_wp2_with fail
        refine wp_region_on (by kernel_rfl) (by kernel_rfl) ?_
        repeat (go_big_quiet_step (fail))
        refine wpQuiet_nil ?_
        intro w5 hw'
        obtain ⟨⟨w6, hOn⟩, hw''⟩ := hw'
        obtain rfl : w5 = w6 := hw''
        go_wp2_with fail
        go_ret
        exact ⟨false, rfl, fun h => (by cases h), below_then HO.out hOn⟩
      have d1 : decide (1125899906842624 < M) = false := decide_eq_false h1
      by_cases h2 : m < -1125899906842624
      · have d2 : decide (m < -1125899906842624) = true := decide_eq_true h2
        clear hM4 hM5 hM6 hM7 hm4 hm5 hm6 hm7
        go_wp2_with fail
        refine wp_region_on (by kernel_rfl) (by kernel_rfl) ?_
        repeat (go_big_quiet_step (fail))
        refine wpQuiet_nil ?_
        intro w5 hw'
        obtain ⟨⟨w6, hOn⟩, hw''⟩ := hw'
        obtain rfl : w5 = w6 := hw''
        go_wp2_with fail
        go_ret
        exact ⟨false, rfl, fun h => (by cases h), below_then HO.out hOn⟩
      have d2 : decide (m < -1125899906842624) = false := decide_eq_false h2
      have HF := Lib.hid (show (⟨p0, p1, p2, p3, p4, p5, p6, p7⟩ : Am).near from ⟨by simp only; omega, by simp only; omega, by simp only; omega⟩)
      clear hM4 hM5 hM6 hM7 hm4 hm5 hm6 hm7
      cases k with
      | zero =>
        have d3 : decide (0 < ((0 : Nat) : Int)) = false := by decide
        have d4 : decide ((0 : Int) < 0) = false := by decide
        go_wp2_with fail
        refine wp_region_on (by kernel_rfl) (by kernel_rfl) ?_
        repeat (go_big_quiet_step (fail))
        refine wpQuiet_nil ?_
        intro w5 hw'
        obtain ⟨⟨w6, hOn⟩, hw''⟩ := hw'
        obtain rfl : w5 = w6 := hw''
        have HO6 := Lib.hid (below_then HO.out hOn)
        have HK2 := Lib.hid (show NearTo l (0 + 1) from near_zero HX.out HF.out)
        clear hOn
        go_wp2_with fail
        go_roundw
        case rel => exact ⟨0 + 1, by go_num, by omega, HK2, HO6⟩
        case measure => simp [intOf] <;> omega
      | succ k =>
        have hk0 : k < n := by omega
        obtain ⟨b', off', y, e, hb', hy, hc'⟩ := (HR.out.on HO.out).at_ hk0
        injection e with e
        injection e with e1 e2 e3
        subst e1 e2
        have cp := OnW.cell (hc' 1 _ rfl)
        have HY := Lib.hid hy
        obtain ⟨q0, q1, q2, q3, q4, q5, q6, q7⟩ := y
        simp only at cp
        have d3 : decide (0 < ((k + 1 : Nat) : Int)) = true := decide_eq_true (by omega)
        have hwk : IntKind.i64.wrap (((k + 1 : Nat) : Int) - 1) = (k : Int) := by rw [IntWalk.i64_in _ (by omega)]; omega
        clear hc' hy
        by_cases h3 : p1 < q1
        · have d4 : decide (p1 < q1) = true := decide_eq_true h3
          go_wp2_with fail
          refine wp_region_on (by kernel_rfl) (by kernel_rfl) ?_
          repeat (go_big_quiet_step (fail))
          refine wpQuiet_nil ?_
          intro w5 hw'
          obtain ⟨⟨w6, hOn⟩, hw''⟩ := hw'
          obtain rfl : w5 = w6 := hw''
          go_wp2_with fail
          go_ret
          exact ⟨false, rfl, fun h => (by cases h), below_then HO.out hOn⟩
        have d4 : decide (p1 < q1) = false := decide_eq_false h3
        have HG := Lib.hid (show q1 ≤ p1 by omega)
        clear h3
        go_wp2_with fail
        refine wp_region_on (by kernel_rfl) (by kernel_rfl) ?_
        repeat (go_big_quiet_step (fail))
        refine wpQuiet_nil ?_
        intro w5 hw'
        obtain ⟨⟨w6, hOn⟩, hw''⟩ := hw'
        obtain rfl : w5 = w6 := hw''
        have HO6 := Lib.hid (below_then HO.out hOn)
        have HK2 := Lib.hid (show NearTo l ((k + 1) + 1) from near_next HK.out HX.out HY.out HF.out HG.out)
        clear hOn
        go_wp2_with fail
        go_roundw
        case rel => exact ⟨(k + 1) + 1, by go_num, by omega, HK2, HO6⟩
        case measure => simp [intOf] <;> omega
    · obtain rfl : k = n := by omega
      go_wp2_with fail
      go_ret
      exact ⟨true, rfl, fun _ => HK.out, HO.out⟩
def wthTo (c1 c2 k : Nat) (fr to : Int) : Prop := (k ≤ c1 ∨ c2 ≤ c1) ∧ fr = 0 ∧ to = 0 ∨ (c1 < k ∧ c1 < c2) ∧ fr = (c1 : Int) ∧ to = ((min k c2 : Nat) : Int)
set_option maxHeartbeats 8000000 in
set_option maxRecDepth 100000 in
theorem rwithin15_to {L : List Nd} {l : List Am} (hr : Rising l) (hd : Nested L) {a p q : Int} (hv : wthI L l a = (p, q)) {A2 : Option Addr} {nn cn : Nat} {A : Option Addr} {n c : Nat} {w : World} (hS : Sees w A2 nn L) (h : Rows 8 encAm w A n l) (hn : n ≤ 10000000) (hnn : nn ≤ 100000) :
    Calls Try.prog 9 #[.slice A2 nn cn, .slice A n c, .int .i64 a] w fun e w' => e = .returned (.tuple #[.int .i64 p, .int .i64 q]) ∧ Below w.heap.size w w' := by
  have hl := hS.len
  have hll := h.len
  by_cases ha : 0 ≤ a ∧ a < (nn : Int)
  · obtain ⟨i, rfl⟩ : ∃ i : Nat, a = (i : Int) := ⟨a.toNat, by omega⟩
    have hi2 : (i : Int) < (nn : Int) := ha.2
    have hin : i < nn := by omega
    obtain ⟨b1, o1, m1, x1, rfl, hb1, e1, r1, s1⟩ := hS.at_ hin
    have k1 := r1 1 _ rfl
    have hms : m1.size = x1.size := s1.1.2.1.symm
    have hs := hd i x1 e1
    have hs1 := hs.1
    have hs2 := hs.2.1
    obtain ⟨z, hz⟩ : ∃ z, m1.size = z := ⟨_, rfl⟩
    have c1' : w.cell? ⟨b1, o1 + i * 20 + 1, none⟩ = some (.int .i64 z) := by rw [← hz]; exact k1
    rw [hz] at hms
    rw [← hms] at hs1 hs2
    have hwr : IntKind.i64.wrap ((i : Int) + z) = (i : Int) + z := IntWalk.i64_in _ (by omega)
    obtain ⟨u, hu⟩ : ∃ u, cutA l (i : Int) = u := ⟨_, rfl⟩
    obtain ⟨v, hv2⟩ : ∃ v, cutA l ((i : Int) + z) = v := ⟨_, rfl⟩
    have hul := cutA_le l (i : Int)
    have hvl := cutA_le l ((i : Int) + z)
    rw [hu] at hul
    rw [hv2] at hvl
    have HV := Lib.hid (show (p, q) = if v ≤ u then (0, 0) else ((u : Int), (v : Int)) by
      rw [← hv]; unfold wthI
      rw [if_pos ha.1, Int.toNat_natCast, e1]
      simp only
      rw [← hms, hu, hv2])
    have HU := Lib.hid (show CutAt l (i : Int) u by rw [← hu]; exact cutA_at hr _)
    have HW := Lib.hid (show CutAt l ((i : Int) + z) v by rw [← hv2]; exact cutA_at hr _)
    have HR := Lib.hid h
    have k1 := On.cell c1'
    have K1 := Lib.hid k1
    clear hS h hv hl ha hr hd r1 s1 hs hms hz k1 c1' hu hv2 e1
    go_enter Try.func9, Try.ntmps9
    go_wp2_with fail
    go_loopw [8, 9, 10] (fun s8 s9 s10 wr => ∃ (k : Nat) (fr to : Int), s8 = .int .i64 fr ∧ s9 = .int .i64 to ∧ s10 = .int .i64 (k : Int) ∧ k ≤ n ∧ Hid (wthTo u v k fr to) ∧ Hid (On w wr)) (fun _ _ s10 _ => n - (intOf s10).toNat)
    case atStart => exact ⟨0, 0, 0, rfl, rfl, rfl, Nat.zero_le _, Lib.hid (.inl ⟨.inl (Nat.zero_le _), rfl, rfl⟩), Lib.hid (On.refl _)⟩
    case round =>
      obtain ⟨k, fr, to, rfl, rfl, rfl, hkn, HS, HO⟩ := hrel
      by_cases hlt : k < n
      · have hlt2 : (k : Int) < (n : Int) := by omega
        obtain ⟨b, off, y, rfl, hb, hy, cc1, _, _⟩ := am_at (HR.out.on HO.out) hlt
        have c1 := OnW.cell cc1
        have c2 := OnW.cell (K1.out wr HO.out)
        have hwk : IntKind.i64.wrap ((k : Int) + 1) = (k : Int) + 1 := IntWalk.i64_in _ (by omega)
        obtain ⟨g, hg⟩ : ∃ g, y.node = g := ⟨_, rfl⟩
        rw [hg] at c1
        have HA1 := Lib.hid (fun h9 : k < u => (show g < (i : Int) by rw [← hg]; exact HU.out.2.1 k y h9 hy))
        have HA2 := Lib.hid (fun h9 : u ≤ k => (show (i : Int) ≤ g by rw [← hg]; exact HU.out.2.2 k y h9 hy))
        have HB1 := Lib.hid (fun h9 : k < v => (show g < (i : Int) + z by rw [← hg]; exact HW.out.2.1 k y h9 hy))
        have HB2 := Lib.hid (fun h9 : v ≤ k => (show (i : Int) + z ≤ g by rw [← hg]; exact HW.out.2.2 k y h9 hy))
        clear cc1 hy hg
        by_cases h1 : k < u
        · have hgi := HA1.out h1
          have d1 : decide (g < (i : Int)) = true := decide_eq_true hgi
          have HS2 := Lib.hid (show wthTo u v (k + 1) fr to by have h9 := HS.out; unfold wthTo at h9 ⊢; omega)
          clear HS
          go_wp2_with fail
          refine wp_region_on (by kernel_rfl) (by kernel_rfl) ?_
          repeat (go_big_quiet_step (fail))
          refine wpQuiet_nil ?_
          intro w5 hw'
          obtain ⟨⟨w6, hOn⟩, hw''⟩ := hw'
          obtain rfl : w5 = w6 := hw''
          have HO6 := Lib.hid (below_then HO.out hOn)
          clear hOn
          go_wp2_with fail
          go_roundw
          case rel => exact ⟨k + 1, fr, to, rfl, rfl, by go_num, by omega, HS2, HO6⟩
          case measure => simp [intOf] <;> omega
        · have hgi := HA2.out (by omega)
          have d1 : decide (g < (i : Int)) = false := decide_eq_false (by omega)
          by_cases h2 : v ≤ k
          · have hgz := HB2.out h2
            have d2 : decide ((i : Int) + z ≤ g) = true := decide_eq_true hgz
            have HS2 := Lib.hid (show wthTo u v (k + 1) fr to by have h9 := HS.out; unfold wthTo at h9 ⊢; omega)
            clear HS
            go_wp2_with fail
            refine wp_region_on (by kernel_rfl) (by kernel_rfl) ?_
            repeat (go_big_quiet_step (fail))
            refine wpQuiet_nil ?_
            intro w5 hw'
            obtain ⟨⟨w6, hOn⟩, hw''⟩ := hw'
            obtain rfl : w5 = w6 := hw''
            have HO6 := Lib.hid (below_then HO.out hOn)
            clear hOn
            go_wp2_with fail
            go_roundw
            case rel => exact ⟨k + 1, fr, to, rfl, rfl, by go_num, by omega, HS2, HO6⟩
            case measure => simp [intOf] <;> omega
          · have hgz := HB1.out (by omega)
            have d2 : decide ((i : Int) + z ≤ g) = false := decide_eq_false (by omega)
            by_cases h3 : to = 0
            · subst h3
              have HS2 := Lib.hid (show wthTo u v (k + 1) (k : Int) ((k : Int) + 1) by have h9 := HS.out; unfold wthTo at h9 ⊢; omega)
              clear HS
              go_wp2_with fail
              refine wp_region_on (by kernel_rfl) (by kernel_rfl) ?_
              repeat (go_big_quiet_step (fail))
              refine wpQuiet_nil ?_
              intro w5 hw'
              obtain ⟨⟨w6, hOn⟩, hw''⟩ := hw'
              obtain rfl : w5 = w6 := hw''
              have HO6 := Lib.hid (below_then HO.out hOn)
              clear hOn
              go_wp2_with fail
              go_roundw
              case rel => exact ⟨k + 1, (k : Int), ((k : Int) + 1), rfl, by go_num, by go_num, by omega, HS2, HO6⟩
              case measure => simp [intOf] <;> omega
            · have h4 : (to == 0) = false := by simpa using h3
              have HS2 := Lib.hid (show wthTo u v (k + 1) fr ((k : Int) + 1) by have h9 := HS.out; unfold wthTo at h9 ⊢; omega)
              clear HS
              go_wp2_with fail
              refine wp_region_on (by kernel_rfl) (by kernel_rfl) ?_
              repeat (go_big_quiet_step (fail))
              refine wpQuiet_nil ?_
              intro w5 hw'
              obtain ⟨⟨w6, hOn⟩, hw''⟩ := hw'
              obtain rfl : w5 = w6 := hw''
              have HO6 := Lib.hid (below_then HO.out hOn)
              clear hOn
              go_wp2_with fail
              go_roundw
              case rel => exact ⟨k + 1, fr, ((k : Int) + 1), rfl, by go_num, by go_num, by omega, HS2, HO6⟩
              case measure => simp [intOf] <;> omega
      · obtain rfl : n = k := by omega
        have HE := Lib.hid (show (fr, to) = (p, q) by
          have h9 := HS.out
          rw [HV.out]
          unfold wthTo at h9
          by_cases h3 : v ≤ u
          · rw [if_pos h3]
            rcases h9 with ⟨_, e1, e2⟩ | ⟨h4, _⟩
            · rw [e1, e2]
            · omega
          · rw [if_neg h3]
            rcases h9 with ⟨h4, _⟩ | ⟨_, e1, e2⟩
            · omega
            · rw [e1, e2]; congr 1; omega)
        go_wp2_with fail
        exact bodyPost_ret (v := .tuple #[.int .i64 fr, .int .i64 to]) (by simp [results, Try.results9, go_sem]) rfl ⟨by have := HE.out; injection this with e1 e2; rw [e1, e2], HO.out⟩
  · have HV := Lib.hid (show (p, q) = (0, 0) by
      rw [← hv]; unfold wthI
      split
      · rw [List.getElem?_eq_none_iff.2 (by omega)]
      · rfl)
    rcases (show a < 0 ∨ (0 ≤ a ∧ (nn : Int) ≤ a) by omega) with hneg | ⟨hpos, hbig⟩
    all_goals
      clear hS h hv hl ha hll
      go_enter Try.func9, Try.ntmps9
      go_wp2_with fail
      exact bodyPost_ret (v := .tuple #[.int .i64 0, .int .i64 0]) (by simp [results, Try.results9, go_sem]) rfl ⟨by have := HV.out; injection this with e1 e2; rw [e1, e2], by go_grown⟩
end Go.Proofs.Ytipmdhfinlkceaa
