import Derived.Test.YtechccoongilcaaDoorJD712
/- The document's answers for package canon: attributes. (Written by program: tools/drafts/genref7.py.) -/
namespace Go.Proofs.YtechccoongilcaaDoor
open Go.RowKit
set_option linter.unusedVariables false
set_option linter.unusedSimpArgs false
theorem add_str {P : Program} {a b c : ByteArray} (h : a ++ b = c) (ha : a.size ≤ 4611686018427387904) (hb : b.size ≤ 4611686018427387903) : ∀ w, (Op.stringOp .add a b).run P w = .ok (.string c) w := fun w => by
  subst h; exact run_string_add_sum w a b (by omega)
set_option maxHeartbeats 1000000 in
set_option maxRecDepth 100000 in
theorem vtold_to {c n p : Int} (s : ByteArray) (hs : s = bytesOf [c]) (h0 : 0 ≤ n) (h : n ≤ 1099511627776) {v : ByteArray} (hv : pcS (attrP c n p) = v) (w : World) : Calls Tryd.prog 49 #[.string s, .int .i64 n, .int .i64 p] w fun e w' => e = .returned (.string v) ∧ Below w.heap.size w w' := by
  rw [pcS_attr] at hv
  rw [← hs] at hv
  have hs1 : s.size = 1 := by rw [hs, bytesOf_size]; rfl
  by_cases hnp : n = p
  · rw [if_pos hnp] at hv
    have hq : (n == p) = true := by simp [hnp]
    have HV := Lib.hid hv
    clear hv hs hs1 h0 h hnp
    go_enter Tryd.func49, Tryd.ntmps49
    go_wp2_with fail
    go_ret
    exact ⟨by rw [← HV.out]; rfl, Below.refl _ _⟩
  · rw [if_neg hnp] at hv
    have hq : (n == p) = false := by simp [hnp]
    obtain ⟨d, hd⟩ : ∃ d, digS n.toNat = d := ⟨_, rfl⟩
    have hds := digS_size (n := n.toNat) (by omega)
    rw [hd] at hv hds
    have HI := Lib.hid (fun w => vdig_to h0 h hd w)
    have ha := add_str (P := Tryd.prog) hv (by omega) (by omega)
    clear hv hs hs1 hnp hd hds h0 h
    go_enter Tryd.func49, Tryd.ntmps49
    go_wp2_with fail
    refine (HI.out _).mono ?_
    rintro e w1 ⟨rfl, hb⟩
    have HB := Lib.hid hb
    clear hb
    go_wp2_with fail
    go_ret
    exact ⟨rfl, HB.out⟩
theorem pcS_size_le {ps : List Pc} (h : fineL ps) {k : Nat} (hk : ps.length ≤ k) : (pcS ps).size ≤ 13 * k := by
  rw [pcS_size]
  have := text_len ps h
  omega
set_option maxHeartbeats 4000000 in
set_option maxRecDepth 100000 in
theorem vstyle_to {s0 s1 s2 s3 s4 s5 s6 s7 s8 s9 s10 s11 : Int} (hf : (⟨s0, s1, s2, s3, s4, s5, s6, s7, s8, s9, s10, s11⟩ : Sty).fits) {v : ByteArray} (hv : pcS (styP ⟨s0, s1, s2, s3, s4, s5, s6, s7, s8, s9, s10, s11⟩) = v) (w : World) : Calls Tryd.prog 27 #[.agg #[.int .i64 s0, .int .i64 s1, .int .i64 s2, .int .i64 s3, .int .i64 s4, .int .i64 s5, .int .i64 s6, .int .i64 s7, .int .i64 s8, .int .i64 s9, .int .i64 s10, .int .i64 s11]] w fun e w' => e = .returned (.string v) ∧ Below w.heap.size w w' := by
  obtain ⟨⟨⟨a0, b0⟩, ⟨a1, b1⟩, ⟨a2, b2⟩, ⟨a3, b3⟩, ⟨a4, b4⟩, ⟨a5, b5⟩⟩, ⟨a6, b6⟩, ⟨a7, b7⟩, ⟨a8, b8⟩, ⟨a9, b9⟩, ⟨a10, b10⟩, ⟨a11, b11⟩⟩ := hf
  unfold maxN at b0 b1 b2 b3 b4 b5 b6 b7
  simp only at a0 b0 a1 b1 a2 b2 a3 b3 a4 b4 a5 b5 a6 b6 a7 b7 a8 b8 a9 b9 a10 b10 a11 b11
  obtain ⟨t0, ht0⟩ : ∃ t, pcS (attrP 109 s0 0) = t := ⟨_, rfl⟩
  have HT0 := Lib.hid (fun w => vtold_to (n := s0) ⟨#[109]⟩ rfl (by omega) (by omega) ht0 w)
  have hz0 : t0.size ≤ 26 := by rw [← ht0]; exact pcS_size_le (fine_attr (lo := 0) (hi := 1099511627776) ⟨by decide, by decide, by decide, by decide⟩ ⟨by omega, by omega⟩ (by decide) (by decide)) (attrP_len _ _ _)
  obtain ⟨t1, ht1⟩ : ∃ t, pcS (attrP 110 s1 0) = t := ⟨_, rfl⟩
  have HT1 := Lib.hid (fun w => vtold_to (n := s1) ⟨#[110]⟩ rfl (by omega) (by omega) ht1 w)
  have hz1 : t1.size ≤ 26 := by rw [← ht1]; exact pcS_size_le (fine_attr (lo := 0) (hi := 1099511627776) ⟨by decide, by decide, by decide, by decide⟩ ⟨by omega, by omega⟩ (by decide) (by decide)) (attrP_len _ _ _)
  obtain ⟨t2, ht2⟩ : ∃ t, pcS (attrP 112 s2 0) = t := ⟨_, rfl⟩
  have HT2 := Lib.hid (fun w => vtold_to (n := s2) ⟨#[112]⟩ rfl (by omega) (by omega) ht2 w)
  have hz2 : t2.size ≤ 26 := by rw [← ht2]; exact pcS_size_le (fine_attr (lo := 0) (hi := 1099511627776) ⟨by decide, by decide, by decide, by decide⟩ ⟨by omega, by omega⟩ (by decide) (by decide)) (attrP_len _ _ _)
  obtain ⟨t3, ht3⟩ : ∃ t, pcS (attrP 113 s3 0) = t := ⟨_, rfl⟩
  have HT3 := Lib.hid (fun w => vtold_to (n := s3) ⟨#[113]⟩ rfl (by omega) (by omega) ht3 w)
  have hz3 : t3.size ≤ 26 := by rw [← ht3]; exact pcS_size_le (fine_attr (lo := 0) (hi := 1099511627776) ⟨by decide, by decide, by decide, by decide⟩ ⟨by omega, by omega⟩ (by decide) (by decide)) (attrP_len _ _ _)
  obtain ⟨t4, ht4⟩ : ∃ t, pcS (attrP 105 s4 0) = t := ⟨_, rfl⟩
  have HT4 := Lib.hid (fun w => vtold_to (n := s4) ⟨#[105]⟩ rfl (by omega) (by omega) ht4 w)
  have hz4 : t4.size ≤ 26 := by rw [← ht4]; exact pcS_size_le (fine_attr (lo := 0) (hi := 1099511627776) ⟨by decide, by decide, by decide, by decide⟩ ⟨by omega, by omega⟩ (by decide) (by decide)) (attrP_len _ _ _)
  obtain ⟨t5, ht5⟩ : ∃ t, pcS (attrP 111 s5 2) = t := ⟨_, rfl⟩
  have HT5 := Lib.hid (fun w => vtold_to (n := s5) ⟨#[111]⟩ rfl (by omega) (by omega) ht5 w)
  have hz5 : t5.size ≤ 26 := by rw [← ht5]; exact pcS_size_le (fine_attr (lo := 0) (hi := 1099511627776) ⟨by decide, by decide, by decide, by decide⟩ ⟨by omega, by omega⟩ (by decide) (by decide)) (attrP_len _ _ _)
  obtain ⟨t6, ht6⟩ : ∃ t, pcS (attrP 119 s6 2) = t := ⟨_, rfl⟩
  have HT6 := Lib.hid (fun w => vtold_to (n := s6) ⟨#[119]⟩ rfl (by omega) (by omega) ht6 w)
  have hz6 : t6.size ≤ 26 := by rw [← ht6]; exact pcS_size_le (fine_attr (lo := 0) (hi := 1099511627776) ⟨by decide, by decide, by decide, by decide⟩ ⟨by omega, by omega⟩ (by decide) (by decide)) (attrP_len _ _ _)
  obtain ⟨t7, ht7⟩ : ∃ t, pcS (attrP 104 s7 0) = t := ⟨_, rfl⟩
  have HT7 := Lib.hid (fun w => vtold_to (n := s7) ⟨#[104]⟩ rfl (by omega) (by omega) ht7 w)
  have hz7 : t7.size ≤ 26 := by rw [← ht7]; exact pcS_size_le (fine_attr (lo := 0) (hi := 1099511627776) ⟨by decide, by decide, by decide, by decide⟩ ⟨by omega, by omega⟩ (by decide) (by decide)) (attrP_len _ _ _)
  obtain ⟨t8, ht8⟩ : ∃ t, pcS (attrP 66 s8 0) = t := ⟨_, rfl⟩
  have HT8 := Lib.hid (fun w => vtold_to (n := s8) ⟨#[66]⟩ rfl (by omega) (by omega) ht8 w)
  have hz8 : t8.size ≤ 26 := by rw [← ht8]; exact pcS_size_le (fine_attr (lo := 0) (hi := 1099511627776) ⟨by decide, by decide, by decide, by decide⟩ ⟨by omega, by omega⟩ (by decide) (by decide)) (attrP_len _ _ _)
  obtain ⟨t9, ht9⟩ : ∃ t, pcS (attrP 65 s9 0) = t := ⟨_, rfl⟩
  have HT9 := Lib.hid (fun w => vtold_to (n := s9) ⟨#[65]⟩ rfl (by omega) (by omega) ht9 w)
  have hz9 : t9.size ≤ 26 := by rw [← ht9]; exact pcS_size_le (fine_attr (lo := 0) (hi := 1099511627776) ⟨by decide, by decide, by decide, by decide⟩ ⟨by omega, by omega⟩ (by decide) (by decide)) (attrP_len _ _ _)
  obtain ⟨t10, ht10⟩ : ∃ t, pcS (attrP 73 s10 0) = t := ⟨_, rfl⟩
  have HT10 := Lib.hid (fun w => vtold_to (n := s10) ⟨#[73]⟩ rfl (by omega) (by omega) ht10 w)
  have hz10 : t10.size ≤ 26 := by rw [← ht10]; exact pcS_size_le (fine_attr (lo := 0) (hi := 1099511627776) ⟨by decide, by decide, by decide, by decide⟩ ⟨by omega, by omega⟩ (by decide) (by decide)) (attrP_len _ _ _)
  obtain ⟨t11, ht11⟩ : ∃ t, pcS (attrP 99 s11 0) = t := ⟨_, rfl⟩
  have HT11 := Lib.hid (fun w => vtold_to (n := s11) ⟨#[99]⟩ rfl (by omega) (by omega) ht11 w)
  have hz11 : t11.size ≤ 26 := by rw [← ht11]; exact pcS_size_le (fine_attr (lo := 0) (hi := 1099511627776) ⟨by decide, by decide, by decide, by decide⟩ ⟨by omega, by omega⟩ (by decide) (by decide)) (attrP_len _ _ _)
  have hsum : t0 ++ t1 ++ t2 ++ t3 ++ t4 ++ t5 ++ t6 ++ t7 ++ t8 ++ t9 ++ t10 ++ t11 = v := by
    rw [← hv]
    unfold styP
    simp only [pcS_append, ht0, ht1, ht2, ht3, ht4, ht5, ht6, ht7, ht8, ht9, ht10, ht11, ByteArray.append_assoc]
  obtain ⟨u1, hu1⟩ : ∃ u, t0 ++ t1 = u := ⟨_, rfl⟩
  have hy1 : u1.size ≤ 26 * 2 := by rw [← hu1, ByteArray.size_append]; omega
  have ha1 := add_str (P := Tryd.prog) hu1 (by omega) (by omega)
  rw [hu1] at hsum
  obtain ⟨u2, hu2⟩ : ∃ u, u1 ++ t2 = u := ⟨_, rfl⟩
  have hy2 : u2.size ≤ 26 * 3 := by rw [← hu2, ByteArray.size_append]; omega
  have ha2 := add_str (P := Tryd.prog) hu2 (by omega) (by omega)
  rw [hu2] at hsum
  obtain ⟨u3, hu3⟩ : ∃ u, u2 ++ t3 = u := ⟨_, rfl⟩
  have hy3 : u3.size ≤ 26 * 4 := by rw [← hu3, ByteArray.size_append]; omega
  have ha3 := add_str (P := Tryd.prog) hu3 (by omega) (by omega)
  rw [hu3] at hsum
  obtain ⟨u4, hu4⟩ : ∃ u, u3 ++ t4 = u := ⟨_, rfl⟩
  have hy4 : u4.size ≤ 26 * 5 := by rw [← hu4, ByteArray.size_append]; omega
  have ha4 := add_str (P := Tryd.prog) hu4 (by omega) (by omega)
  rw [hu4] at hsum
  obtain ⟨u5, hu5⟩ : ∃ u, u4 ++ t5 = u := ⟨_, rfl⟩
  have hy5 : u5.size ≤ 26 * 6 := by rw [← hu5, ByteArray.size_append]; omega
  have ha5 := add_str (P := Tryd.prog) hu5 (by omega) (by omega)
  rw [hu5] at hsum
  obtain ⟨u6, hu6⟩ : ∃ u, u5 ++ t6 = u := ⟨_, rfl⟩
  have hy6 : u6.size ≤ 26 * 7 := by rw [← hu6, ByteArray.size_append]; omega
  have ha6 := add_str (P := Tryd.prog) hu6 (by omega) (by omega)
  rw [hu6] at hsum
  obtain ⟨u7, hu7⟩ : ∃ u, u6 ++ t7 = u := ⟨_, rfl⟩
  have hy7 : u7.size ≤ 26 * 8 := by rw [← hu7, ByteArray.size_append]; omega
  have ha7 := add_str (P := Tryd.prog) hu7 (by omega) (by omega)
  rw [hu7] at hsum
  obtain ⟨u8, hu8⟩ : ∃ u, u7 ++ t8 = u := ⟨_, rfl⟩
  have hy8 : u8.size ≤ 26 * 9 := by rw [← hu8, ByteArray.size_append]; omega
  have ha8 := add_str (P := Tryd.prog) hu8 (by omega) (by omega)
  rw [hu8] at hsum
  obtain ⟨u9, hu9⟩ : ∃ u, u8 ++ t9 = u := ⟨_, rfl⟩
  have hy9 : u9.size ≤ 26 * 10 := by rw [← hu9, ByteArray.size_append]; omega
  have ha9 := add_str (P := Tryd.prog) hu9 (by omega) (by omega)
  rw [hu9] at hsum
  obtain ⟨u10, hu10⟩ : ∃ u, u9 ++ t10 = u := ⟨_, rfl⟩
  have hy10 : u10.size ≤ 26 * 11 := by rw [← hu10, ByteArray.size_append]; omega
  have ha10 := add_str (P := Tryd.prog) hu10 (by omega) (by omega)
  rw [hu10] at hsum
  obtain ⟨u11, hu11⟩ : ∃ u, u10 ++ t11 = u := ⟨_, rfl⟩
  have hy11 : u11.size ≤ 26 * 12 := by rw [← hu11, ByteArray.size_append]; omega
  have ha11 := add_str (P := Tryd.prog) hu11 (by omega) (by omega)
  rw [hu11] at hsum
  subst hsum
  clear hv ht0 hz0 ht1 hz1 ht2 hz2 ht3 hz3 ht4 hz4 ht5 hz5 ht6 hz6 ht7 hz7 ht8 hz8 ht9 hz9 ht10 hz10 ht11 hz11 hu1 hy1 hu2 hy2 hu3 hy3 hu4 hy4 hu5 hy5 hu6 hy6 hu7 hy7 hu8 hy8 hu9 hy9 hu10 hy10 hu11 hy11 a0 b0 a1 b1 a2 b2 a3 b3 a4 b4 a5 b5 a6 b6 a7 b7 a8 b8 a9 b9 a10 b10 a11 b11
  go_enter Tryd.func27, Tryd.ntmps27
  go_wp2_with fail
  generalize hW : World.alloc _ _ = W
  have hA : Box W w.heap.size [.int .i64 s0, .int .i64 s1, .int .i64 s2, .int .i64 s3, .int .i64 s4, .int .i64 s5, .int .i64 s6, .int .i64 s7, .int .i64 s8, .int .i64 s9, .int .i64 s10, .int .i64 s11] := by rw [← hW]; exact box_new w _ _ _ rfl _ rfl
  have HB := Lib.hid (show Below w.heap.size w W by rw [← hW]; go_grown)
  clear hW
  have k0 : ∀ p : OnW W, p.w.cell? ⟨w.heap.size, 0, none⟩ = some (.int .i64 s0) := OnW.cell (hA.2.2 0 _ rfl)
  have k1 : ∀ p : OnW W, p.w.cell? ⟨w.heap.size, 1, none⟩ = some (.int .i64 s1) := OnW.cell (hA.2.2 1 _ rfl)
  have k2 : ∀ p : OnW W, p.w.cell? ⟨w.heap.size, 2, none⟩ = some (.int .i64 s2) := OnW.cell (hA.2.2 2 _ rfl)
  have k3 : ∀ p : OnW W, p.w.cell? ⟨w.heap.size, 3, none⟩ = some (.int .i64 s3) := OnW.cell (hA.2.2 3 _ rfl)
  have k4 : ∀ p : OnW W, p.w.cell? ⟨w.heap.size, 4, none⟩ = some (.int .i64 s4) := OnW.cell (hA.2.2 4 _ rfl)
  have k5 : ∀ p : OnW W, p.w.cell? ⟨w.heap.size, 5, none⟩ = some (.int .i64 s5) := OnW.cell (hA.2.2 5 _ rfl)
  have k6 : ∀ p : OnW W, p.w.cell? ⟨w.heap.size, 6, none⟩ = some (.int .i64 s6) := OnW.cell (hA.2.2 6 _ rfl)
  have k7 : ∀ p : OnW W, p.w.cell? ⟨w.heap.size, 7, none⟩ = some (.int .i64 s7) := OnW.cell (hA.2.2 7 _ rfl)
  have k8 : ∀ p : OnW W, p.w.cell? ⟨w.heap.size, 8, none⟩ = some (.int .i64 s8) := OnW.cell (hA.2.2 8 _ rfl)
  have k9 : ∀ p : OnW W, p.w.cell? ⟨w.heap.size, 9, none⟩ = some (.int .i64 s9) := OnW.cell (hA.2.2 9 _ rfl)
  have k10 : ∀ p : OnW W, p.w.cell? ⟨w.heap.size, 10, none⟩ = some (.int .i64 s10) := OnW.cell (hA.2.2 10 _ rfl)
  have k11 : ∀ p : OnW W, p.w.cell? ⟨w.heap.size, 11, none⟩ = some (.int .i64 s11) := OnW.cell (hA.2.2 11 _ rfl)
  clear hA
  refine wp_region_on (by kernel_rfl) (by kernel_rfl) ?_
  repeat (go_big_quiet_step ((first
    | (go_at_call 49; with_reducible exact Calls.on_of (HT0.out _))
    | (go_at_call 49; with_reducible exact Calls.on_of (HT1.out _))
    | (go_at_call 49; with_reducible exact Calls.on_of (HT2.out _))
    | (go_at_call 49; with_reducible exact Calls.on_of (HT3.out _))
    | (go_at_call 49; with_reducible exact Calls.on_of (HT4.out _))
    | (go_at_call 49; with_reducible exact Calls.on_of (HT5.out _))
    | (go_at_call 49; with_reducible exact Calls.on_of (HT6.out _))
    | (go_at_call 49; with_reducible exact Calls.on_of (HT7.out _))
    | (go_at_call 49; with_reducible exact Calls.on_of (HT8.out _))
    | (go_at_call 49; with_reducible exact Calls.on_of (HT9.out _))
    | (go_at_call 49; with_reducible exact Calls.on_of (HT10.out _))
    | (go_at_call 49; with_reducible exact Calls.on_of (HT11.out _)))))
  refine wpQuiet_nil ?_
  intro w3 hw'
  obtain ⟨⟨w', hOn⟩, hw''⟩ := hw'
  obtain rfl : w3 = w' := hw''
  have HB3 := Lib.hid (below_then HB.out hOn)
  clear hOn HB
  go_wp2_with fail
  go_ret
  exact ⟨rfl, HB3.out⟩
end Go.Proofs.YtechccoongilcaaDoor
