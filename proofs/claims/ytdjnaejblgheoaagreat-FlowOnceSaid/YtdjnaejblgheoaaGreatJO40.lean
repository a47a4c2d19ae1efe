import Derived.Test.YtdjnaejblgheoaaGreatJO39
import Derived.Test.YtdjnaejblgheoaaGreatJO36
import Derived.Test.YtdjnaejblgheoaaGreatJO34
import Derived.Test.YtdjnaejblgheoaaGreatJO25
/- A galley of the call's own, the galley of a document or an error, how much it is. Nothing of the program's functions stands here. -/
namespace Go.Proofs.YtdjnaejblgheoaaGreat
open Go.RowKit
set_option linter.unusedVariables false
set_option linter.unusedSimpArgs false
theorem gal3_of {w : World} {k : Nat} {A A2 : Option Addr} {n c m c2 : Nat} {h : Int} (hX : Box w k [.slice A n c, .slice A2 m c2, .int .i64 h]) : (w.cell? ⟨k, 0, none⟩ = some (.slice A n c) ∧ w.cell? ⟨k, 1, none⟩ = some (.slice A2 m c2) ∧ w.cell? ⟨k, 2, none⟩ = some (.int .i64 h)) ∧ k < w.heap.size :=
  ⟨⟨hX.2.2 0 _ rfl, hX.2.2 1 _ rfl, hX.2.2 2 _ rfl⟩, hX.1⟩
/-- the galley of a document, or an error. -/
theorem gal_cases (L : List Nd) (wd : Int) : (∃ f, galR L wd = ⟨[], [], 0, f⟩ ∧ f ≠ 0 ∧ (chkV L ≠ 0 ∨ f = 4)) ∨ (galR L wd = ⟨(galS L wd).ams, floatsS (galS L wd), highS (galS L wd), 0⟩ ∧ 1 ≤ wd ∧ wd ≤ maxX ∧ IsDoc L ∧ sumE L (evN L 0 L.length) ≤ maxN ∧ chkV L = 0) := by
  unfold galR
  by_cases h1 : wd < 1 ∨ maxX < wd
  · rw [if_pos h1]
    exact .inl ⟨4, rfl, by decide, .inr rfl⟩
  · rw [if_neg h1]
    by_cases h2 : chkV L ≠ 0
    · rw [if_pos h2]
      exact .inl ⟨chkV L, rfl, h2, .inl h2⟩
    · rw [if_neg h2]
      have h3 : chkV L = 0 := by simpa using h2
      obtain ⟨hd, hs⟩ := chk_doc h3
      exact .inr ⟨rfl, by omega, by omega, hd, Int.le_trans (sumE_all hd.2.nested hd.1) hs, h3⟩
theorem galS_len {L : List Nd} (hd : IsDoc L) {wd : Int} (hl : L.length ≤ 60) (hw : ∀ y ∈ L, y.words.length ≤ 60) : (galS L wd).ams.length ≤ 7200 ∧ (galS L wd).fls.length ≤ 120 := by
  have h1 := evN_len hd.2.nested L.length 0 L.length (by omega) (Clo.all hd.2.nested)
  have h2 := runS_len (w := wd) hw (evN L 0 L.length) .start
  have e : (Gs.start).ams.length = 0 ∧ (Gs.start).fls.length = 0 := ⟨rfl, rfl⟩
  unfold galS
  omega
end Go.Proofs.YtdjnaejblgheoaaGreat
/- What package flow is asked to say, the program says. -/
namespace Go.Proofs.YtdjnaejblgheoaaGreat
open Go.RowKit
set_option linter.unusedVariables false
set_option linter.unusedSimpArgs false
theorem ordL_of {L : List Nd} (h : IsDoc L) : ordL L = L := by unfold ordL; rw [if_pos ((docB_iff L).2 h)]
theorem wk_start {w1 W : World} {An Ar : Option Addr} {nn cn nr cr : Nat} (ho : On w1 W) (hX : Box W w1.heap.size (wkV .start none 0 0 none 0 0 An nn cn Ar nr cr)) : Wk w1 An nn cn Ar nr cr W .start none 0 0 none 0 0 :=
  ⟨ho, hX, ⟨owns_nil _ _ _ _, owns_nil _ _ _ _, Apart.nil, rfl, rfl⟩⟩
theorem may14_to {n : Int} {v : Bool} (hv : (decide (1 ≤ n) && decide (n ≤ 1099511627776)) = v) (w : World) : Calls Tryz.prog 23 #[.int .i64 n] w fun e w' => e = .returned (.bool v) ∧ w = w' := may_to hv w
set_option maxHeartbeats 8000000 in
set_option maxRecDepth 100000 in
theorem of14_to {L : List Nd} {wd : Int} {An : Option Addr} {nn cn : Nat} (hnn : nn ≤ 60) (hw60 : ∀ y ∈ L, y.words.length ≤ 60) {w : World} (h : Sees w An nn L) :
    Calls Tryz.prog 9 #[.slice An nn cn, .int .i64 wd] w (GalSeen w (galR L wd)) := by
  obtain ⟨f, hf⟩ : ∃ f, chkV L = f := ⟨_, rfl⟩
  obtain ⟨v, hv⟩ : ∃ v, (decide (1 ≤ wd) && decide (wd ≤ 1099511627776)) = v := ⟨_, rfl⟩
  have HCK := Lib.hid (show ∀ W', On w W' → Calls Tryz.prog 13 #[.slice An nn cn] W' fun e w' => e = .returned (.int .i64 f) ∧ Below W'.heap.size W' w' from fun W' ho => pCheck_to hf ⟨h.on ho, by omega⟩)
  have HF := Lib.hid hf
  have HS := Lib.hid h
  have HW := Lib.hid hw60
  have HV := Lib.hid hv
  have HMY := Lib.hid (fun (W : World) => may14_to hv W)
  clear hf h hw60 hv
  cases v with
  | false =>
    have HE := Lib.hid (show galR L wd = ⟨[], [], 0, 4⟩ by
      unfold galR
      rw [if_pos]
      have h9 := HV.out
      simp only [Bool.and_eq_false_iff, decide_eq_false_iff_not] at h9
      unfold maxX
      omega)
    go_enter Tryz.func9, Tryz.ntmps9
    go_wp2_with fail
    refine (HMY.out _).mono ?_
    rintro e w1 ⟨rfl, rfl⟩
    go_wp2_with fail
    exact bodyPost_ret (v := .tuple #[.agg #[.slice none 0 0, .slice none 0 0, .int .i64 0], .int .i64 4]) (by simp [results, Tryz.results9, go_sem]) rfl (by rw [HE.out]; exact ⟨none, 0, 0, none, 0, 0, rfl, Rows.nil _ _, Rows.nil _ _, by go_grown, (fun q hq => by cases hq), (fun q hq => by cases hq)⟩)
  | true =>
    have hwb : 1 ≤ wd ∧ wd ≤ maxX := by
      have h9 := HV.out
      simp only [Bool.and_eq_true, decide_eq_true_eq] at h9
      unfold maxX
      exact h9
    have HWB := Lib.hid hwb
    clear hwb HV
    go_enter Tryz.func9, Tryz.ntmps9
    go_wp2_with fail
    generalize hW : World.alloc w _ = W
    have HR0 := Lib.hid (show Box W w.heap.size zero3 by rw [← hW]; exact Box.new w zero3 _)
    have HB0 := Lib.hid (show On w W by rw [← hW]; exact On.alloc (On.refl w) _)
    clear hW
    refine (HMY.out _).mono ?_
    rintro e w1 ⟨rfl, rfl⟩
    go_wp2_with fail
    refine (HCK.out W HB0.out).mono ?_
    rintro e w2 ⟨rfl, hb⟩
    have HR2 := Lib.hid (HR0.out.below hb)
    have HB2 := Lib.hid (On.step HB0.out hb)
    clear hb HR0 HB0 HCK HMY
    by_cases hf0 : f = 0
    case neg =>
      have HE := Lib.hid (show galR L wd = ⟨[], [], 0, f⟩ by unfold galR; rw [if_neg (by have := HWB.out; omega), if_pos (by rw [HF.out]; exact hf0), HF.out])
      have hfn : (f != 0) = true := by simpa using hf0
      clear hf0
      obtain ⟨⟨r0, r1, r2⟩, ⟨z0, z1, z2⟩, zl⟩ := zero3_of HR2.out
      go_wp2_with fail
      have hY := ((HR2.out.set 0 (.slice none 0 0) (by simp [zero3])).set 1 (.slice none 0 0) (by simp [zero3])).set 2 (.int .i64 0) (by simp [zero3])
      have s0 := hY.2.2 0 _ rfl
      have s1 := hY.2.2 1 _ rfl
      have s2 := hY.2.2 2 _ rfl
      exact bodyPost_ret (v := .tuple #[.agg #[.slice none 0 0, .slice none 0 0, .int .i64 0], .int .i64 f]) (by simp [results, Tryz.results9, go_sem, s0, s1, s2]) rfl (by rw [HE.out]; exact ⟨none, 0, 0, none, 0, 0, rfl, Rows.nil _ _, Rows.nil _ _, ((Below.setCell (show Below w.heap.size w w2 from HB2.out) (by simp) _).setCell (by simp) _).setCell (by simp) _, (fun q hq => by cases hq), (fun q hq => by cases hq)⟩)
    subst hf0
    have HE := Lib.hid (show galR L wd = ⟨(galS L wd).ams, floatsS (galS L wd), highS (galS L wd), 0⟩ by unfold galR; rw [if_neg (by have := HWB.out; omega), if_neg (by rw [HF.out]; simp)])
    obtain ⟨hd, hsum⟩ := chk_doc HF.out
    have hlen := HS.out.len
    have HD := Lib.hid hd
    have HSU := Lib.hid (Int.le_trans (sumE_all hd.2.nested hd.1) hsum)
    have HRM := Lib.hid (tRooms_to (c := cn) (show roomsI (ordL L) wd = roomsTo L wd nn by rw [ordL_of hd]; unfold roomsI; rw [if_neg (by have := HWB.out; omega), hlen]) (⟨HS.out.on HB2.out, by omega⟩ : PreV L w2 An nn))
    have HLN := Lib.hid hlen
    clear hd hsum HF hlen
    go_wp2_with fail
    refine HRM.out.mono ?_
    rintro e w3 ⟨Ar, nr, cr, rfl, hnr, hrm, hb⟩
    obtain rfl : nr = nn := by rw [hnr, roomsTo_len]
    have HR3 := Lib.hid (HR2.out.below hb)
    have HB3 := Lib.hid (On.step HB2.out hb)
    have HRR := Lib.hid hrm
    clear hb hrm hnr HR2 HB2 HRM
    go_wp2_with fail
    generalize hU : World.alloc w3 _ = U
    have HX := Lib.hid (show Box U w3.heap.size (wkV .start none 0 0 none 0 0 An nr cn Ar nr cr) by rw [← hU]; exact Box.new w3 (wkV .start none 0 0 none 0 0 An nr cn Ar nr cr) _)
    have HOU := Lib.hid (show On w3 U by rw [← hU]; exact On.alloc (On.refl w3) _)
    clear hU
    have hrs : w.heap.size < w3.heap.size := HR3.out.1
    have hel : (evN L 0 nr).length ≤ 120 := by have h9 := evN_len HD.out.2.nested nr 0 nr (by omega) (by rw [← HLN.out]; exact Clo.all HD.out.2.nested); omega
    have HGO := Lib.hid (run_ok HD.out.1 HWB.out.1 HWB.out.2 (evN L 0 nr) GsOk.start)
    have hgl := runS_len (w := wd) HW.out (evN L 0 nr) .start
    have hgs : runS L wd .start (evN L 0 nr) = galS L wd := by unfold galS; rw [HLN.out]
    rw [hgs] at hgl HGO
    have HGL := Lib.hid (show (galS L wd).ams.length ≤ 10000 ∧ (galS L wd).fls.length ≤ 1000 from ⟨by have h9 := hgl.1; have e : (Gs.start).ams.length = 0 := rfl; omega, by have h9 := hgl.2.1; have e : (Gs.start).fls.length = 0 := rfl; omega⟩)
    have HAN := Lib.hid (show ∀ f ∈ (galS L wd).fls, 0 ≤ f.anchor by rw [← hgs]; exact run_anch _ _ (fun f hf => by cases hf))
    have HSM := Lib.hid (show 0 + sumE L (evN L 0 nr) ≤ maxN by have h9 := HSU.out; rw [HLN.out] at h9; omega)
    have HWK := Lib.hid (wwalk14_to HD.out HWB.out.1 HWB.out.2 HW.out (show nr ≤ 1000 by omega) (cn := cn) (cr := cr) (HS.out.on HB3.out) HRR.out nr 0 nr (by omega) (Nat.zero_le _) (by rw [← HLN.out]; exact Clo.all HD.out.2.nested))
    have HGS := Lib.hid hgs
    have HHM := Lib.hid (show 0 + sumE L (evN L 0 nr) ≤ maxN from HSM.out)
    clear hgl hgs
    refine (HWK.out 0 (nr : Int) rfl rfl 0 .start none 0 0 none 0 0 U GsOk.start HSM.out (by show 0 + _ ≤ _; omega) (by show 0 + _ ≤ _; omega) (wk_start HOU.out HX.out)).mono ?_
    rintro e w4 ⟨rfl, h4⟩
    rw [HGS.out] at h4
    obtain ⟨A, n, c, A2, m, c2, hW4, hF4, hN4⟩ := h4
    have HR4 := Lib.hid hF4
    have HW4 := Lib.hid hW4
    have hna := hW4.gs.na
    have hnf := hW4.gs.nf
    have hn1 : n ≤ 100000 := by have := HGL.out.1; omega
    have hm1 : m ≤ 1000 := by have := HGL.out.2; omega
    have HRA := Lib.hid (show ∀ q, A = some q → w3.heap.size < q.block from fun q hq => by subst hq; exact hW4.ra q.block rfl)
    have HRF := Lib.hid (show ∀ q, A2 = some q → w3.heap.size < q.block from fun q hq => by subst hq; exact hW4.rf q.block rfl)
    clear hW4 hF4 hN4 HX HOU HR4 hna hnf HWK
    go_wp2_with fail
    refine (wanchor14_to hn1 hm1 HAN.out HW4.out).mono ?_
    rintro e w5 ⟨rfl, hX5, hA5, hL5, hO5⟩
    have HX5 := Lib.hid hX5
    have HA5 := Lib.hid hA5
    have HL5 := Lib.hid hL5
    have HR5 := Lib.hid (HR3.out.below hO5)
    have HB5 := Lib.hid (On.step HB3.out hO5)
    clear hX5 hA5 hL5 hO5 HW4 HR3 HB3
    go_wp2_with fail
    refine (wend14_to HGO.out HHM.out rfl HX5.out HL5.out).mono ?_
    rintro e w6 ⟨rfl, hb⟩
    have HX6 := Lib.hid (HX5.out.below hb)
    have HA6 := Lib.hid (HA5.out.below hb)
    have HL6 := Lib.hid (HL5.out.below hb)
    have HR6 := Lib.hid (HR5.out.below hb)
    have HB6 := Lib.hid (On.step HB5.out hb)
    clear hb HX5 HA5 HL5 HR5 HB5
    have k0 : w6.cell? ⟨w3.heap.size, 0, none⟩ = some (.slice A n c) := HX6.out.2.2 0 _ rfl
    have k1 : w6.cell? ⟨w3.heap.size, 1, none⟩ = some (.slice A2 m c2) := HX6.out.2.2 1 _ rfl
    have k2 : w6.cell? ⟨w3.heap.size, 2, none⟩ = some (.int .i64 0) := HX6.out.2.2 2 _ rfl
    have f2 : w6.frozen? ⟨w3.heap.size, 2, none⟩ = false := HX6.out.2.1 2
    obtain ⟨⟨r0, r1, r2⟩, ⟨z0, z1, z2⟩, zl⟩ := zero3_of HR6.out
    have hne1 : w.heap.size ≠ w3.heap.size := by omega
    have hne2 : w3.heap.size ≠ w.heap.size := by omega
    go_wp2_with fail
    have hY := (((HR6.out.set_other hne2 2 (.int .i64 (highS (galS L wd)))).set 0 (.slice A n c) (by simp [zero3])).set 1 (.slice A2 m c2) (by simp [zero3])).set 2 (.int .i64 (highS (galS L wd))) (by simp [zero3])
    have s0 := hY.2.2 0 _ rfl
    have s1 := hY.2.2 1 _ rfl
    have s2 := hY.2.2 2 _ rfl
    exact bodyPost_ret (v := .tuple #[.agg #[.slice A n c, .slice A2 m c2, .int .i64 (highS (galS L wd))], .int .i64 0]) (by simp [results, Tryz.results9, go_sem, s0, s1, s2]) rfl (by
      rw [HE.out]
      have ra : ∀ q, A = some q → some w3.heap.size ≠ some q.block := fun q hq e => by have := HRA.out q hq; injection e with e; omega
      have ra2 : ∀ q, A = some q → some w.heap.size ≠ some q.block := fun q hq e => by have := HRA.out q hq; injection e with e; omega
      have rf : ∀ q, A2 = some q → some w3.heap.size ≠ some q.block := fun q hq e => by have := HRF.out q hq; injection e with e; omega
      have rf2 : ∀ q, A2 = some q → some w.heap.size ≠ some q.block := fun q hq e => by have := HRF.out q hq; injection e with e; omega
      exact ⟨A, n, c, A2, m, c2, rfl, rows_far (rows_far (rows_far (rows_far HA6.out (grownBy_setCellN _ _ _ _) ra) (grownBy_setCellN _ _ _ _) ra2) (grownBy_setCellN _ _ _ _) ra2) (grownBy_setCellN _ _ _ _) ra2,
        rows_far (rows_far (rows_far (rows_far HL6.out (grownBy_setCellN _ _ _ _) rf) (grownBy_setCellN _ _ _ _) rf2) (grownBy_setCellN _ _ _ _) rf2) (grownBy_setCellN _ _ _ _) rf2,
        (((Below.setCell (show Below w.heap.size w w6 from HB6.out) (Nat.le_of_lt hrs) _).setCell (by simp) _).setCell (by simp) _).setCell (by simp) _, fun q hq => by have := HRA.out q hq; omega, fun q hq => by have := HRF.out q hq; omega⟩)
theorem flowSays : FlowSays where
  of := fun hn hw h => of14_to hn hw h
end Go.Proofs.YtdjnaejblgheoaaGreat
