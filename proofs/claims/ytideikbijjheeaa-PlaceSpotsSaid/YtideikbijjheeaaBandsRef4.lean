import Derived.Test.YtideikbijjheeaaBandsRef3
import Derived.Deep.MidRow
/- The document's answers for package bands: numbers that are near; rows of floats that are the same. -/
namespace Go.Proofs.Ytideikbijjheeaa
open Go.RowKit
set_option linter.unusedVariables false
set_option linter.unusedSimpArgs false
theorem run_max4b {P : Program} (W : World) (ts : Array TypeId) (t : TypeId) (a b c d : Int) : (Builtin.max_ ts t #[.int .i64 a, .int .i64 b, .int .i64 c, .int .i64 d]).run P W = .ok (.int .i64 (max (max (max a b) c) d)) W := by
  have m : ∀ x y : Int, (if x < y then y else x) = max x y := fun x y => by
    rw [Int.max_def]; split <;> split <;> omega
  simp [Builtin.max_, Builtin.max2, m]
theorem run_min4b {P : Program} (W : World) (ts : Array TypeId) (t : TypeId) (a b c d : Int) : (Builtin.min_ ts t #[.int .i64 a, .int .i64 b, .int .i64 c, .int .i64 d]).run P W = .ok (.int .i64 (min (min (min a b) c) d)) W := by
  have m : ∀ x y : Int, (if y < x then y else x) = min x y := fun x y => by
    rw [Int.min_def]; split <;> split <;> omega
  simp [Builtin.min_, Builtin.min2, m]
/-- the greatest of four, as a number of its own. -/
theorem max4b {P : Program} (a b c d : Int) : ∃ M, (∀ (W : World) (ts : Array TypeId) (t : TypeId), (Builtin.max_ ts t #[.int .i64 a, .int .i64 b, .int .i64 c, .int .i64 d]).run P W = .ok (.int .i64 M) W) ∧ (1125899906842624 < M → (1125899906842624 < a ∨ 1125899906842624 < b ∨ 1125899906842624 < c ∨ 1125899906842624 < d)) ∧ (M ≤ 1125899906842624 → (a ≤ 1125899906842624 ∧ b ≤ 1125899906842624 ∧ c ≤ 1125899906842624 ∧ d ≤ 1125899906842624)) :=
  ⟨_, fun W ts t => run_max4b W ts t a b c d, fun h => by omega, fun h => by omega⟩
theorem min4b {P : Program} (a b c d : Int) : ∃ M, (∀ (W : World) (ts : Array TypeId) (t : TypeId), (Builtin.min_ ts t #[.int .i64 a, .int .i64 b, .int .i64 c, .int .i64 d]).run P W = .ok (.int .i64 M) W) ∧ (M < -1125899906842624 → (a < -1125899906842624 ∨ b < -1125899906842624 ∨ c < -1125899906842624 ∨ d < -1125899906842624)) ∧ (-1125899906842624 ≤ M → (-1125899906842624 ≤ a ∧ -1125899906842624 ≤ b ∧ -1125899906842624 ≤ c ∧ -1125899906842624 ≤ d)) :=
  ⟨_, fun W ts t => run_min4b W ts t a b c d, fun h => by omega, fun h => by omega⟩
set_option maxHeartbeats 8000000 in
set_option maxRecDepth 100000 in
theorem rnears_to {l : List Fl} {more : List Int} {v : Bool} (hv : nearsB l more = v) {A A2 : Option Addr} {n c m c2 : Nat} {w : World} (h : Rows 7 encFl w A n l) (h2 : Ints w A2 m more) :
    Calls Try.prog 4 #[.slice A n c, .slice A2 m c2] w fun e w' => e = .returned (.bool v) ∧ Below w.heap.size w w' := by
  have HA := Lib.hid h
  have HI := Lib.hid h2
  have HL := Lib.hid h.1
  have HM := Lib.hid h2.1
  have hnb := h.2.1
  have hmb := h2.2.1
  have HV := Lib.hid hv
  clear h h2 hv
  go_enter Try.func4, Try.ntmps4
  go_wp2_with fail
  go_loopw [5, 6] (fun i f wr => ∃ k : Nat, i = .int .i64 (k : Int) ∧ k ≤ n ∧ Hid (∀ (j : Nat) (g : Fl), j < k → l[j]? = some g → g.near) ∧ Hid (On w wr)) (fun i _ _ => n - (intOf i).toNat)
  case atStart => exact ⟨0, rfl, Nat.zero_le _, Lib.hid (fun j g hj => by omega), Lib.hid (On.refl w)⟩
  case round =>
    obtain ⟨k, rfl, hkn, HN, HO⟩ := hrel
    by_cases hlt : k < n
    · have hlt2 : (k : Int) < (n : Int) := by omega
      obtain ⟨b1, o1, f, rfl, hb1, hf, q0, q1, q2, q3, q4, q5, q6⟩ := fl_at (HA.out.on HO.out) hlt
      have HF := Lib.hid hf
      obtain ⟨f0, f1, f2, f3, f4, f5, f6⟩ := f
      simp only at q0 q1 q2 q3 q4 q5 q6
      obtain ⟨M, hM, hM1, hM2⟩ := max4b (P := Try.prog) f3 f4 f5 f6
      obtain ⟨M', hM', hM1', hM2'⟩ := min4b (P := Try.prog) f3 f4 f5 f6
      have HO2 := Lib.hid (HO.out.alloc (.cells #[.int .i64 f0, .int .i64 f1, .int .i64 f2, .int .i64 f3, .int .i64 f4, .int .i64 f5, .int .i64 f6] 24))
      have HP1 := Lib.hid hM1
      have HP2 := Lib.hid hM2
      have HP3 := Lib.hid hM1'
      have HP4 := Lib.hid hM2'
      clear hf hM1 hM2 hM1' hM2'
      by_cases a1 : 1125899906842624 < M
      · have HV2 := Lib.hid (show false = v by
          rw [← HV.out]
          refine (nearsB_no (fun q => ?_)).symm
          have := q.1 _ (List.mem_of_getElem? HF.out)
          obtain ⟨⟨_, z1⟩, ⟨_, z2⟩, ⟨_, z3⟩, ⟨_, z4⟩⟩ := this
          have := HP1.out a1
          unfold farB at *
          simp only at z1 z2 z3 z4
          omega)
        go_wp2_with fail
        go_ret
        exact ⟨ret_bool HV2.out, HO2.out⟩
      by_cases a2 : M' < -1125899906842624
      · have HV2 := Lib.hid (show false = v by
          rw [← HV.out]
          refine (nearsB_no (fun q => ?_)).symm
          have := q.1 _ (List.mem_of_getElem? HF.out)
          obtain ⟨⟨z1, _⟩, ⟨z2, _⟩, ⟨z3, _⟩, ⟨z4, _⟩⟩ := this
          have := HP3.out a2
          unfold farB at *
          simp only at z1 z2 z3 z4
          omega)
        have a3 : M ≤ 1125899906842624 := by omega
        go_wp2_with fail
        go_ret
        exact ⟨ret_bool HV2.out, HO2.out⟩
      have a3 : M ≤ 1125899906842624 := by omega
      have a4 : -1125899906842624 ≤ M' := by omega
      have HN2 := Lib.hid (show ∀ (j : Nat) (g : Fl), j < k + 1 → l[j]? = some g → g.near from fun j g hj hg => by
        rcases Nat.lt_or_ge j k with h | h
        · exact HN.out j g h hg
        · obtain rfl : j = k := by omega
          rw [HF.out] at hg
          injection hg with hg
          subst hg
          obtain ⟨z1, z2, z3, z4⟩ := HP2.out a3
          obtain ⟨y1, y2, y3, y4⟩ := HP4.out a4
          unfold Fl.near NearI farB
          simp only
          omega)
      go_wp2_with fail
      go_roundw
      case rel => exact ⟨k + 1, by go_num, by omega, HN2, HO2⟩
      case measure => simp [intOf] <;> omega
    · have hge : (n : Int) ≤ (k : Int) := by omega
      have HN2 := Lib.hid (show ∀ f ∈ l, f.near from fun f hf => by
        obtain ⟨j, hj, rfl⟩ := List.getElem_of_mem hf
        exact HN.out j _ (by have := HL.out; omega) (List.getElem?_eq_getElem hj))
      go_wp2_with fail
      go_loopw [7] (fun i wq => ∃ t : Nat, i = .int .i64 (t : Int) ∧ t ≤ m ∧ Hid (∀ j : Nat, j < t → NearI (more[j]?.getD 0)) ∧ wq = wr) (fun i _ => m - (intOf i).toNat)
      case atStart => exact ⟨0, rfl, Nat.zero_le _, Lib.hid (fun j hj => by omega), by first | rfl | trivial⟩
      case round =>
        obtain ⟨t, rfl, htm, HT, hweq⟩ := hrel
        subst hweq
        by_cases htl : t < m
        · have htl2 : (t : Int) < (m : Int) := by omega
          obtain ⟨b2, o2, rfl, hc2⟩ := (HI.out.below HO.out rfl).at_ htl
          obtain ⟨z, hz⟩ : ∃ z, more[t]?.getD 0 = z := ⟨_, rfl⟩
          rw [hz] at hc2
          have HZ := Lib.hid hz
          have HMem := Lib.hid (show z ∈ more by
            have hg : more[t]? = some (more[t]'(by have := HM.out; omega)) := List.getElem?_eq_getElem _
            rw [hg] at hz
            rw [← hz]
            exact List.getElem_mem _)
          clear hz
          by_cases z1 : 1125899906842624 < z
          · have HV2 := Lib.hid (show false = v by rw [← HV.out]; exact (nearsB_no (fun q => by have := (q.2 z HMem.out).2; unfold farB at this; omega)).symm)
            go_wp2_with fail
            go_ret
            exact ⟨ret_bool HV2.out, HO.out⟩
          by_cases z2 : z < -1125899906842624
          · have HV2 := Lib.hid (show false = v by rw [← HV.out]; exact (nearsB_no (fun q => by have := (q.2 z HMem.out).1; unfold farB at this; omega)).symm)
            go_wp2_with fail
            go_ret
            exact ⟨ret_bool HV2.out, HO.out⟩
          have HT2 := Lib.hid (show ∀ j : Nat, j < t + 1 → NearI (more[j]?.getD 0) from fun j hj => by
            rcases Nat.lt_or_ge j t with h | h
            · exact HT.out j h
            · obtain rfl : j = t := by omega
              rw [HZ.out]; unfold NearI farB; omega)
          go_wp2_with fail
          go_roundw
          case rel => exact ⟨t + 1, by go_num, by omega, HT2, by first | rfl | trivial⟩
          case measure => simp [intOf] <;> omega
        · have hge2 : (m : Int) ≤ (t : Int) := by omega
          have HV2 := Lib.hid (show true = v by
            rw [← HV.out]
            refine (nearsB_iff.2 ⟨HN2.out, fun a ha => ?_⟩).symm
            obtain ⟨j, hj, rfl⟩ := List.getElem_of_mem ha
            have := HT.out j (by have := HM.out; omega)
            rw [List.getElem?_eq_getElem hj] at this
            exact this)
          go_wp2_with fail
          go_ret
          exact ⟨ret_bool HV2.out, HO.out⟩
theorem partf_int (xs : Array Value) (k : Nat) (v : Value) (h : xs[k]? = some v) (w : World) : (part 3 xs k).run Try.prog w = .ok v w := run_part_plain w (by kernel_rfl) h
theorem itef_ok {p : Prop} [Decidable p] {c : Bool} {w : World} : (if p then Result.ok c w else Result.ok false w) = Result.ok (decide p && c) w := by split <;> simp_all
theorem itef_and {b : Bool} {c : Bool} {w : World} : (if (!b) = true then Result.ok false w else Result.ok c w) = Result.ok (b && c) w := by cases b <;> rfl
theorem fl_same (f0 f1 f2 f3 f4 f5 f6 : Int) (w : World) : (Op.equalIn 10000 24 (.agg #[.int .i64 f0, .int .i64 f1, .int .i64 f2, .int .i64 f3, .int .i64 f4, .int .i64 f5, .int .i64 f6]) (.agg #[.int .i64 f0, .int .i64 f1, .int .i64 f2, .int .i64 f3, .int .i64 f4, .int .i64 f5, .int .i64 f6])).run Try.prog w = .ok true w := by
  rw [show (10000 : Nat) = 9999 + 1 from rfl, run_equalIn_struct w 9999 _ _ _ (by kernel_rfl) (by kernel_rfl)]
  have hi : ∀ (a b : Int) (w : World), (Op.equalIn 9999 3 (.int .i64 a) (.int .i64 b)).run Try.prog w = .ok (a == b) w := fun a b w => run_equalIn_int w 9998 3 .i64 .i64 a b Try.underlying3
  simp [Program.fieldsOf, Try.underlying24, Op.eqFields, partf_int, hi, itef_and]
theorem sp_equal (a0 a1 b0 b1 : Int) (w : World) : (Op.equalIn 10000 26 (.agg #[.int .i64 a0, .int .i64 a1]) (.agg #[.int .i64 b0, .int .i64 b1])).run Try.prog w = .ok (a0 == b0 && a1 == b1) w := by
  rw [show (10000 : Nat) = 9999 + 1 from rfl, run_equalIn_struct w 9999 _ _ _ (by kernel_rfl) (by kernel_rfl)]
  have hi : ∀ (a b : Int) (w : World), (Op.equalIn 9999 3 (.int .i64 a) (.int .i64 b)).run Try.prog w = .ok (a == b) w := fun a b w => run_equalIn_int w 9998 3 .i64 .i64 a b Try.underlying3
  simp [Program.fieldsOf, Try.underlying26, Op.eqFields, partf_int, hi, itef_and]
  simp only [itef_ok]
  congr 1
  rw [Bool.eq_iff_iff]
  simp [and_assoc]
theorem sp_same (a0 a1 : Int) (w : World) : (Op.equalIn 10000 26 (.agg #[.int .i64 a0, .int .i64 a1]) (.agg #[.int .i64 a0, .int .i64 a1])).run Try.prog w = .ok true w := by rw [sp_equal]; simp
set_option maxHeartbeats 4000000 in
set_option maxRecDepth 100000 in
/-- two rows of the same floats are the same. -/
theorem fls_same {l : List Fl} {A B : Option Addr} {n m c d : Nat} {w : World} (h1 : Rows 7 encFl w A n l) (h2 : Rows 7 encFl w B m l) :
    Calls Try.prog 9 #[.slice A n c, .slice B m d] w fun e w' => e = .returned (.bool true) ∧ Below w.heap.size w w' := by
  have hn := h1.2.1
  obtain rfl : n = m := h1.1.symm.trans h2.1
  have H1 := Lib.hid h1
  have H2 := Lib.hid h2
  clear h1 h2
  have hq : ((n : Int) != (n : Int)) = false := by simp
  go_enter Try.func9, Try.ntmps9
  go_wp2_with fail
  go_loopw [5] (fun i wr => ∃ k m : Nat, k ≤ n ∧ i = .int .i64 k ∧ wr = w.drewN m) (fun i _ => n - (intOf i).toNat)
  case atStart => exact ⟨0, 0, by omega, rfl, rfl⟩
  case round =>
    obtain ⟨k, m, hk, rfl, rfl⟩ := hrel
    by_cases hlt : k < n
    · have hk2 : (k : Int) < (n : Int) := by omega
      obtain ⟨b, off, f, rfl, hbl, hf, q0, q1, q2, q3, q4, q5, q6⟩ := fl_at H1.out hlt
      obtain ⟨b', off', f', rfl, hbl', hf', p0, p1, p2, p3, p4, p5, p6⟩ := fl_at H2.out hlt
      rw [hf] at hf'
      injection hf' with e1
      subst e1
      obtain ⟨f0, f1, f2, f3, f4, f5, f6⟩ := f
      simp only at q0 q1 q2 q3 q4 q5 q6 p0 p1 p2 p3 p4 p5 p6
      have he := fl_same f0 f1 f2 f3 f4 f5 f6
      clear hf
      go_wp2_with fail
      go_quiet (fail)
      go_wp2_with fail
      go_roundw
      case rel => exact ⟨k + 1, _, by omega, by go_num, rfl⟩
      case measure => simp [intOf]; omega
    · have hk2 : (n : Int) ≤ (k : Int) := by omega
      go_wp2_with fail
      go_ret
      exact ⟨rfl, below_drewN (Below.refl _ _) m⟩
end Go.Proofs.Ytideikbijjheeaa
