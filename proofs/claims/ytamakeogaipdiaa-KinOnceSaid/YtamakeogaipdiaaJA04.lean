import Derived.Test.YtamakeogaipdiaaJA03
/- The document's answers for package kin: the kin of a place; whether two are the same. (Written by program: tools/drafts/genkinref16.py.) -/
namespace Go.Proofs.Ytamakeogaipdiaa
open Go.RowKit
set_option linter.unusedVariables false
set_option linter.unusedSimpArgs false
set_option maxHeartbeats 4000000 in
set_option maxRecDepth 100000 in
theorem vkat_to {L : List Nd} {of : List Int} (h : KinOk L of) {k0 : Nat} {A B : Option Addr} {n c m d : Nat} {w : World} (hk : k0 ≤ m) (hS : Sees w A n L) (hI : Ints w B m of) (hn : n ≤ 100000) (hm : m ≤ 1000000) :
    Calls Try.prog 17 #[.slice A n c, .slice B m d, .int .i64 (k0 : Int)] w (KnOut w (kinK L of (k0 : Int))) := by
  obtain ⟨i0, hi0, hz0, hz1, hz2⟩ := info_parts kin_info16
  have HS := Lib.hid hS
  have HI := Lib.hid hI
  have HL := Lib.hid hS.len
  have HLO := Lib.hid hI.1
  have hwk : IntKind.i64.wrap ((k0 : Int) - 1) = (k0 : Int) - 1 := IntWalk.i64_in _ (by omega)
  have HC := Lib.hid (fun (W : World) (hW : On w W) (b : Nat) (k : Int) (v : Bool) (hb : b < L.length) (hv : holdA L of b k = v) => vkhold_to (c := c) (d := d) h hv (hS.below hW) (hI.below hW rfl) hn hb)
  have HKO := Lib.hid h
  clear hS hI h
  go_enter Try.func17, Try.ntmps17
  go_wp2_with fail
  generalize hW : World.alloc (World.alloc w _) _ = W
  have HB0 := Lib.hid (show KnB (w.heap.size + 1) W { KnM.none with text := -1 } (kinTo L of (k0 : Int) 0) by
    rw [← hW]
    exact ⟨box_new16 _ _ _ _ (by simp) _ rfl, owns_nil _ _ _ _, owns_nil _ _ _ _, owns_nil _ _ _ _, Apart.nil, Apart.nil, rfl⟩)
  have HR0 := Lib.hid (show Box W w.heap.size [.slice none 0 0, .slice none 0 0, .slice none 0 0, .int .i64 0] by
    rw [← hW]
    exact (box_new16 _ _ _ _ rfl _ rfl).alloc _)
  have HO0 := Lib.hid (show On w W by rw [← hW]; exact (On.alloc (On.refl w) _).alloc _)
  clear hW
  go_loopw [8, 9, 10] (fun i a b wr => ∃ (k : Nat) (mm : KnM), i = .int .i64 (k : Int) ∧ k ≤ n ∧ Hid (KnB (w.heap.size + 1) wr mm (kinTo L of (k0 : Int) k)) ∧ Hid (Box wr w.heap.size [.slice none 0 0, .slice none 0 0, .slice none 0 0, .int .i64 0]) ∧ Hid (On w wr)) (fun i _ _ _ => n - (intOf i).toNat)
  case atStart => exact ⟨0, _, rfl, Nat.zero_le _, HB0, HR0, HO0⟩
  case round =>
    obtain ⟨k, mm, rfl, hkn, HB, HR, HO⟩ := hrel
    by_cases hlt : k < n
    · have hlt2 : (k : Int) < (n : Int) := by omega
      have hkk0 : (0 : Int) ≤ (k : Int) := by omega
      have hwi : IntKind.i64.wrap ((k : Int) + 1) = (k : Int) + 1 := IntWalk.i64_in _ (by omega)
      obtain ⟨b2, o2, m2, x2, rfl, hb2, e2, r2, s2⟩ := (HS.out.below HO.out).at_ hlt
      have c0 : wr.cell? ⟨b2, o2 + k * 20, none⟩ = some (.int .i64 m2.kind) := r2 0 _ rfl
      obtain ⟨kd, hkd⟩ : ∃ kd, m2.kind = kd := ⟨_, rfl⟩
      have HBK := Lib.hid (show blockK L k = decide (kd = 1) by unfold blockK; rw [e2, ← hkd, ← s2.1.1])
      rw [hkd] at c0
      have HKL := Lib.hid (show k < L.length by have := HL.out; omega)
      clear r2 s2 e2 hkd
      by_cases hk1 : kd = 1
      · subst hk1
        obtain ⟨l1, l2, l3⟩ := kinTo_lens L of (k0 : Int) k
        have n1 : mm.n1 ≤ 100000 := by have := HB.out.see.e.1; omega
        have n2 : mm.n2 ≤ 100000 := by have := HB.out.see.b.1; omega
        have n3 : mm.n3 ≤ 100000 := by have := HB.out.see.o.1; omega
        have hbx := HB.out.box
        have q0 : wr.cell? ⟨w.heap.size + 1, 0, none⟩ = some (.slice mm.A1 mm.n1 mm.c1) := hbx.2.2 0 _ rfl
        have q1 : wr.cell? ⟨w.heap.size + 1, 1, none⟩ = some (.slice mm.A2 mm.n2 mm.c2) := hbx.2.2 1 _ rfl
        have q2 : wr.cell? ⟨w.heap.size + 1, 2, none⟩ = some (.slice mm.A3 mm.n3 mm.c3) := hbx.2.2 2 _ rfl
        have hbl := hbx.1
        clear l1 l2 l3 hbx
        rcases h1 : holdA L of k ((k0 : Int) - 1) with _ | _
        · have H1 := Lib.hid h1
          rcases h2 : holdA L of k (k0 : Int) with _ | _
          · have H2 := Lib.hid h2
            have HN := Lib.hid (show KnB (w.heap.size + 1) wr mm (kinTo L of (k0 : Int) (k + 1)) by rw [kinTo_none (.inr ⟨H1.out, H2.out⟩)]; exact HB.out)
            clear h1 h2
            go_wp2_with fail
            refine (HC.out _ HO.out _ _ _ HKL.out H1.out).mono ?_
            rintro e w1 ⟨rfl, rfl⟩
            go_wp2_with fail
            refine (HC.out _ HO.out _ _ _ HKL.out H2.out).mono ?_
            rintro e w1 ⟨rfl, rfl⟩
            go_wp2_with fail
            go_roundw
            case rel => exact ⟨k + 1, mm, by go_num, by omega, HN, HR, HO⟩
            case measure => simp [intOf] <;> omega
          · have H2 := Lib.hid h2
            clear h1 h2
            go_wp2_with fail
            refine (HC.out _ HO.out _ _ _ HKL.out H1.out).mono ?_
            rintro e w1 ⟨rfl, rfl⟩
            go_wp2_with fail
            refine (HC.out _ HO.out _ _ _ HKL.out H2.out).mono ?_
            rintro e w1 ⟨rfl, rfl⟩
            go_wp2_with ((with_reducible refine stop_dst 55 ?_ ?_); exact rfl)
            refine Stop.intro ?_
            have hU : On wr (wr.alloc (.cells #[.int .i64 (k : Int)] 3)) := On.alloc (On.refl wr) _
            have hC1 : Cells (wr.alloc (.cells #[.int .i64 (k : Int)] 3)) (some ⟨wr.heap.size, 0, none⟩) 1 1 [.int .i64 (k : Int)] := cells_ofone wr 3 (.int .i64 (k : Int))
            refine wpList_append_cells_at rfl (.tmp 52) (.tmp 54) _ rfl (w.heap.size + 1 + 1) 3 i0 (.int .i64 0) 1 8 Try.underlying23 hi0 hz0 hz1 hz2 rfl (by decide) _ mm.n2 _ rfl (owns_below HB.out.b hU) _ 1 1 _ (by decide) rfl hC1 (by simp [Value.oneCell']) (by unfold maxLen; omega) (by omega) (by simp; omega) ?_
            intro A' c' w2 hown hg h5
            have hbk := owns_block HB.out.b
            have hbox2 : Box w2 (w.heap.size + 1) (encKn mm) := (HB.out.box.alloc _).grown hg (fun r hr => by have := hbk r hr; omega)
            have hO2 : On w w2 := below_grown16 (HO.out.step hU) hg (fun r hr => by have := hbk r hr; omega)
            have f0 := hbox2.2.1 1
            have g0 := hbox2.2.2 1 _ rfl
            have HN := Lib.hid (show KnB (w.heap.size + 1) (w2.setCell ⟨w.heap.size + 1, 1, none⟩ (.slice A' (mm.n2 + 1) c')) { mm with A2 := A', n2 := mm.n2 + 1, c2 := c' } (kinTo L of (k0 : Int) (k + 1)) by rw [kinTo_beg HBK.out H1.out H2.out]; exact KnB.beg_ HB.out hg hown h5)
            have HON := Lib.hid (show On w (w2.setCell ⟨w.heap.size + 1, 1, none⟩ (.slice A' (mm.n2 + 1) c')) from On.set hO2 (by omega) _)
            have HRN := Lib.hid (show Box (w2.setCell ⟨w.heap.size + 1, 1, none⟩ (.slice A' (mm.n2 + 1) c')) w.heap.size [.slice none 0 0, .slice none 0 0, .slice none 0 0, .int .i64 0] from ((HR.out.alloc _).grown hg (fun r hr => by have := hbk r hr; omega)).set_other (by omega) _ _)
            clear hown hg hbox2 hO2 hU hC1 h5 hbk
            go_wp2_with fail
            go_roundw
            case rel => exact ⟨k + 1, _, by go_num, by omega, HN, HRN, HON⟩
            case measure => simp [intOf] <;> omega
        · have H1 := Lib.hid h1
          rcases h2 : holdA L of k (k0 : Int) with _ | _
          · have H2 := Lib.hid h2
            clear h1 h2
            go_wp2_with fail
            refine (HC.out _ HO.out _ _ _ HKL.out H1.out).mono ?_
            rintro e w1 ⟨rfl, rfl⟩
            go_wp2_with fail
            refine (HC.out _ HO.out _ _ _ HKL.out H2.out).mono ?_
            rintro e w1 ⟨rfl, rfl⟩
            go_wp2_with ((with_reducible refine stop_dst 44 ?_ ?_); exact rfl)
            refine Stop.intro ?_
            have hU : On wr (wr.alloc (.cells #[.int .i64 (k : Int)] 3)) := On.alloc (On.refl wr) _
            have hO1 : (wr.alloc (.cells #[.int .i64 (k : Int)] 3)).ownsRow wr.heap.size 3 1 (.slice (some ⟨wr.heap.size, 0, none⟩) 1 1) 1 [.int .i64 (k : Int)] := owns_one (size := 1) [.int .i64 (k : Int)] rfl (by decide) (Nat.le_refl _) (by simp [Value.oneCell']) _ rfl _ rfl
            have hC1 := ownsRow_cells (owns_below HB.out.e hU)
            refine wpList_append_cells _ rfl (.tmp 41) (.tmp 43) _ rfl wr.heap.size 3 i0 (.int .i64 0) 1 8 Try.underlying23 hi0 hz0 hz1 hz2 rfl (by decide) (.slice (some ⟨wr.heap.size, 0, none⟩) 1 1) 1 _ rfl hO1 mm.A1 mm.n1 mm.c1 _ rfl hC1 (ints_ones _) (by unfold maxLen; omega) (by omega) (by simp) ?_
            intro A' c' w2 hown hg
            have hg : (wr.alloc (.cells #[.int .i64 (k : Int)] 3)).grownBy w2 (some wr.heap.size) := hg
            have hbox2 : Box w2 (w.heap.size + 1) (encKn mm) := (HB.out.box.alloc _).grown hg (fun r hr => by injection hr with hr; omega)
            have hO2 : On w w2 := below_grown16 (HO.out.step hU) hg (fun r hr => by injection hr with hr; omega)
            have f0 := hbox2.2.1 0
            have g0 := hbox2.2.2 0 _ rfl
            have HN := Lib.hid (show KnB (w.heap.size + 1) (w2.setCell ⟨w.heap.size + 1, 0, none⟩ (.slice A' (1 + mm.n1) c')) { mm with A1 := A', n1 := 1 + mm.n1, c1 := c' } (kinTo L of (k0 : Int) (k + 1)) by rw [kinTo_end HBK.out H1.out H2.out]; exact KnB.end_ HB.out hg hown)
            have HON := Lib.hid (show On w (w2.setCell ⟨w.heap.size + 1, 0, none⟩ (.slice A' (1 + mm.n1) c')) from On.set hO2 (by omega) _)
            have HRN := Lib.hid (show Box (w2.setCell ⟨w.heap.size + 1, 0, none⟩ (.slice A' (1 + mm.n1) c')) w.heap.size [.slice none 0 0, .slice none 0 0, .slice none 0 0, .int .i64 0] from ((HR.out.alloc _).grown hg (fun r hr => by injection hr with hr; omega)).set_other (by omega) _ _)
            clear hown hg hbox2 hO2 hU hO1 hC1
            go_wp2_with fail
            go_roundw
            case rel => exact ⟨k + 1, _, by go_num, by omega, HN, HRN, HON⟩
            case measure => simp [intOf] <;> omega
          · have H2 := Lib.hid h2
            clear h1 h2
            go_wp2_with fail
            refine (HC.out _ HO.out _ _ _ HKL.out H1.out).mono ?_
            rintro e w1 ⟨rfl, rfl⟩
            go_wp2_with fail
            refine (HC.out _ HO.out _ _ _ HKL.out H2.out).mono ?_
            rintro e w1 ⟨rfl, rfl⟩
            go_wp2_with ((with_reducible refine stop_dst 65 ?_ ?_); exact rfl)
            refine Stop.intro ?_
            have hU : On wr (wr.alloc (.cells #[.int .i64 (k : Int)] 3)) := On.alloc (On.refl wr) _
            have hO1 : (wr.alloc (.cells #[.int .i64 (k : Int)] 3)).ownsRow wr.heap.size 3 1 (.slice (some ⟨wr.heap.size, 0, none⟩) 1 1) 1 [.int .i64 (k : Int)] := owns_one (size := 1) [.int .i64 (k : Int)] rfl (by decide) (Nat.le_refl _) (by simp [Value.oneCell']) _ rfl _ rfl
            have hC1 := ownsRow_cells (owns_below HB.out.o hU)
            refine wpList_append_cells _ rfl (.tmp 62) (.tmp 64) _ rfl wr.heap.size 3 i0 (.int .i64 0) 1 8 Try.underlying23 hi0 hz0 hz1 hz2 rfl (by decide) (.slice (some ⟨wr.heap.size, 0, none⟩) 1 1) 1 _ rfl hO1 mm.A3 mm.n3 mm.c3 _ rfl hC1 (ints_ones _) (by unfold maxLen; omega) (by omega) (by simp) ?_
            intro A' c' w2 hown hg
            have hg : (wr.alloc (.cells #[.int .i64 (k : Int)] 3)).grownBy w2 (some wr.heap.size) := hg
            have hbox2 : Box w2 (w.heap.size + 1) (encKn mm) := (HB.out.box.alloc _).grown hg (fun r hr => by injection hr with hr; omega)
            have hO2 : On w w2 := below_grown16 (HO.out.step hU) hg (fun r hr => by injection hr with hr; omega)
            have f0 := hbox2.2.1 2
            have g0 := hbox2.2.2 2 _ rfl
            have HN := Lib.hid (show KnB (w.heap.size + 1) (w2.setCell ⟨w.heap.size + 1, 2, none⟩ (.slice A' (1 + mm.n3) c')) { mm with A3 := A', n3 := 1 + mm.n3, c3 := c' } (kinTo L of (k0 : Int) (k + 1)) by rw [kinTo_both HBK.out H1.out H2.out]; exact KnB.both_ HB.out hg hown)
            have HON := Lib.hid (show On w (w2.setCell ⟨w.heap.size + 1, 2, none⟩ (.slice A' (1 + mm.n3) c')) from On.set hO2 (by omega) _)
            have HRN := Lib.hid (show Box (w2.setCell ⟨w.heap.size + 1, 2, none⟩ (.slice A' (1 + mm.n3) c')) w.heap.size [.slice none 0 0, .slice none 0 0, .slice none 0 0, .int .i64 0] from ((HR.out.alloc _).grown hg (fun r hr => by injection hr with hr; omega)).set_other (by omega) _ _)
            clear hown hg hbox2 hO2 hU hO1 hC1
            go_wp2_with fail
            go_roundw
            case rel => exact ⟨k + 1, _, by go_num, by omega, HN, HRN, HON⟩
            case measure => simp [intOf] <;> omega
      · have HN := Lib.hid (show KnB (w.heap.size + 1) wr mm (kinTo L of (k0 : Int) (k + 1)) by rw [kinTo_none (.inl (by rw [HBK.out, decide_eq_false hk1]))]; exact HB.out)
        have k1 : (kd != 1) = true := by simpa using hk1
        go_wp2_with fail
        go_roundw
        case rel => exact ⟨k + 1, mm, by go_num, by omega, HN, HR, HO⟩
        case measure => simp [intOf] <;> omega
    · obtain rfl : k = n := by omega
      have HE := Lib.hid (show kinK L of (k0 : Int) = { kinTo L of (k0 : Int) k with text := textK of (k0 : Int) } by rw [kinTo_all, HL.out])
      clear HC
      cases k0 with
      | zero =>
        have HT := Lib.hid (show textK of ((0 : Nat) : Int) = -1 from textK_first of)
        have hz2 : decide ((0 : Int) < 0) = false := rfl
        have hz1 : ((0 : Nat) : Int) = 0 := rfl
        rw [hz1]
        go_wp2_with fail
        refine wp_region_on (by kernel_rfl) (by kernel_rfl) ?_
        repeat (go_big_quiet_step (fail))
        refine wpQuiet_nil ?_
        intro w5 hw'
        obtain ⟨⟨w6, hOn⟩, hw''⟩ := hw'
        obtain rfl : w5 = w6 := hw''
        have HB5 := Lib.hid (HB.out.below hOn)
        have HR5 := Lib.hid (HR.out.below hOn)
        have HO5 := Lib.hid (below_then HO.out hOn)
        have hbx := HB5.out.box
        have hbr := HR5.out
        have q0 : w5.cell? ⟨w.heap.size + 1, 0, none⟩ = some (.slice mm.A1 mm.n1 mm.c1) := hbx.2.2 0 _ rfl
        have q1 : w5.cell? ⟨w.heap.size + 1, 1, none⟩ = some (.slice mm.A2 mm.n2 mm.c2) := hbx.2.2 1 _ rfl
        have q2 : w5.cell? ⟨w.heap.size + 1, 2, none⟩ = some (.slice mm.A3 mm.n3 mm.c3) := hbx.2.2 2 _ rfl
        have q3 : w5.cell? ⟨w.heap.size + 1, 3, none⟩ = some (.int .i64 mm.text) := hbx.2.2 3 _ rfl
        have p0 := hbr.2.2 0 _ rfl
        have p1 := hbr.2.2 1 _ rfl
        have p2 := hbr.2.2 2 _ rfl
        have p3 := hbr.2.2 3 _ rfl
        have p4 : ∀ o, w5.frozen? ⟨w.heap.size, o, none⟩ = false := hbr.2.1
        have p5 : ∀ o, w5.frozen? ⟨w.heap.size + 1, o, none⟩ = false := hbx.2.1
        clear hbx hbr
        go_wp2_with fail
        have hY := (((HR5.out.set 0 (.slice mm.A1 mm.n1 mm.c1) (by simp)).set 1 (.slice mm.A2 mm.n2 mm.c2) (by simp)).set 2 (.slice mm.A3 mm.n3 mm.c3) (by simp)).set 3 (.int .i64 mm.text) (by simp)
        have r0 := hY.2.2 0 _ rfl
        have r1 := hY.2.2 1 _ rfl
        have r2 := hY.2.2 2 _ rfl
        have r3 := hY.2.2 3 _ rfl
        have hKB := (((HB5.out.set_far (N := w.heap.size) (by omega) 0 (.slice mm.A1 mm.n1 mm.c1)).set_far (N := w.heap.size) (by omega) 1 (.slice mm.A2 mm.n2 mm.c2)).set_far (N := w.heap.size) (by omega) 2 (.slice mm.A3 mm.n3 mm.c3)).set_far (N := w.heap.size) (by omega) 3 (.int .i64 mm.text)
        have hOK := On.set (j := 3) (On.set (j := 2) (On.set (j := 1) (On.set (j := 0) HO5.out (Nat.le_refl _) (.slice mm.A1 mm.n1 mm.c1)) (Nat.le_refl _) (.slice mm.A2 mm.n2 mm.c2)) (Nat.le_refl _) (.slice mm.A3 mm.n3 mm.c3)) (Nat.le_refl _) (.int .i64 mm.text)
        refine bodyPost_ret (v := .agg #[.slice mm.A1 mm.n1 mm.c1, .slice mm.A2 mm.n2 mm.c2, .slice mm.A3 mm.n3 mm.c3, .int .i64 mm.text]) (by simp [results, Try.results17, go_sem, r0, r1, r2, r3]) rfl ⟨mm, rfl, ?_, hOK⟩
        have := hKB.see
        rw [HE.out, HT.out]
        exact ⟨this.e, this.b, this.o, by rw [this.t]; rfl⟩
      | succ j =>
        have hj1 : ((j + 1 : Nat) : Int) = (j : Int) + 1 := by omega
        by_cases hje : j + 1 < m
        · have ha : of[j + 1]? = some (of[j + 1]'(by have := HLO.out; omega)) := List.getElem?_eq_getElem _
          obtain ⟨a, haa⟩ : ∃ a, of[j + 1]'(by have := HLO.out; omega) = a := ⟨_, rfl⟩
          rw [haa] at ha
          have hp : of[j]? = some (of[j]'(by have := HLO.out; omega)) := List.getElem?_eq_getElem _
          obtain ⟨p, hpp⟩ : ∃ p, of[j]'(by have := HLO.out; omega) = p := ⟨_, rfl⟩
          rw [hpp] at hp
          obtain ⟨b1, o1, rfl, hb1, c9⟩ := (HI.out.below HO.out rfl).2.2 (by omega)
          have c1 := c9 (j + 1) hje
          have cp := c9 j (by omega)
          rw [ha, Option.getD_some] at c1
          rw [hp, Option.getD_some] at cp
          have k1 := OnW.cell c1
          have kp := OnW.cell cp
          have HT := Lib.hid (show textK of ((j + 1 : Nat) : Int) = if a = p then a else -1 by rw [hj1]; exact textK_at ha hp)
          clear c9 ha haa hp hpp
          rw [hj1]
          have hkp : (0 : Int) < (j : Int) + 1 := by omega
          have hkd : decide ((0 : Int) < (j : Int) + 1) = true := decide_eq_true hkp
          have hks : IntKind.i64.wrap ((j : Int) + 1 - 1) = (j : Int) := by rw [Int.add_sub_cancel]; exact IntWalk.i64_in _ (by omega)
          have hjm : (j : Int) < (m : Int) := by omega
          have hjj0 : (0 : Int) ≤ (j : Int) := by omega
          have hjm1 : (j : Int) + 1 < (m : Int) := by omega
          have hjm1' : decide ((j : Int) + 1 < (m : Int)) = true := decide_eq_true hjm1
          have hjj1 : (0 : Int) ≤ (j : Int) + 1 := by omega
          clear hwk hj1
          by_cases hap : a = p
          · subst hap
            have haq : (a == a) = true := by simp
            have HT := Lib.hid (show textK of ((j + 1 : Nat) : Int) = a by rw [HT.out, if_pos rfl])
            go_wp2_with fail
            refine wp_region_on (by kernel_rfl) (by kernel_rfl) ?_
            repeat (go_big_quiet_step (fail))
            refine wpQuiet_nil ?_
            intro w5 hw'
            obtain ⟨⟨w6, hOn⟩, hw''⟩ := hw'
            obtain rfl : w5 = w6 := hw''
            have HB5 := Lib.hid (HB.out.below hOn)
            have HR5 := Lib.hid (HR.out.below hOn)
            have HO5 := Lib.hid (below_then HO.out hOn)
            have cA : w5.cell? ⟨b1, o1 + (j + 1), none⟩ = some (.int .i64 a) := On.cell c1 w5 hOn
            have hbx := HB5.out.box
            have hbr := HR5.out
            have q0 : w5.cell? ⟨w.heap.size + 1, 0, none⟩ = some (.slice mm.A1 mm.n1 mm.c1) := hbx.2.2 0 _ rfl
            have q1 : w5.cell? ⟨w.heap.size + 1, 1, none⟩ = some (.slice mm.A2 mm.n2 mm.c2) := hbx.2.2 1 _ rfl
            have q2 : w5.cell? ⟨w.heap.size + 1, 2, none⟩ = some (.slice mm.A3 mm.n3 mm.c3) := hbx.2.2 2 _ rfl
            have q3 : w5.cell? ⟨w.heap.size + 1, 3, none⟩ = some (.int .i64 mm.text) := hbx.2.2 3 _ rfl
            have p0 := hbr.2.2 0 _ rfl
            have p1 := hbr.2.2 1 _ rfl
            have p2 := hbr.2.2 2 _ rfl
            have p3 := hbr.2.2 3 _ rfl
            have p4 : ∀ o, w5.frozen? ⟨w.heap.size, o, none⟩ = false := hbr.2.1
            have p5 : ∀ o, w5.frozen? ⟨w.heap.size + 1, o, none⟩ = false := hbx.2.1
            clear hbx hbr
            go_wp2_with fail
            have hY := ((((HR5.out.set_other (m := w.heap.size + 1) (by omega) 3 (.int .i64 a)).set 0 (.slice mm.A1 mm.n1 mm.c1) (by simp)).set 1 (.slice mm.A2 mm.n2 mm.c2) (by simp)).set 2 (.slice mm.A3 mm.n3 mm.c3) (by simp)).set 3 (.int .i64 a) (by simp)
            have r0 := hY.2.2 0 _ rfl
            have r1 := hY.2.2 1 _ rfl
            have r2 := hY.2.2 2 _ rfl
            have r3 := hY.2.2 3 _ rfl
            have hKB := ((((HB5.out.text_ a).set_far (N := w.heap.size) (by omega) 0 (.slice mm.A1 mm.n1 mm.c1)).set_far (N := w.heap.size) (by omega) 1 (.slice mm.A2 mm.n2 mm.c2)).set_far (N := w.heap.size) (by omega) 2 (.slice mm.A3 mm.n3 mm.c3)).set_far (N := w.heap.size) (by omega) 3 (.int .i64 a)
            have hOK := On.set (j := 3) (On.set (j := 2) (On.set (j := 1) (On.set (j := 0) (On.set (n := w.heap.size + 1) (j := 3) HO5.out (by omega) (.int .i64 a)) (Nat.le_refl _) (.slice mm.A1 mm.n1 mm.c1)) (Nat.le_refl _) (.slice mm.A2 mm.n2 mm.c2)) (Nat.le_refl _) (.slice mm.A3 mm.n3 mm.c3)) (Nat.le_refl _) (.int .i64 a)
            refine bodyPost_ret (v := .agg #[.slice mm.A1 mm.n1 mm.c1, .slice mm.A2 mm.n2 mm.c2, .slice mm.A3 mm.n3 mm.c3, .int .i64 a]) (by simp [results, Try.results17, go_sem, r0, r1, r2, r3]) rfl ⟨{ mm with text := a }, rfl, ?_, hOK⟩
            have := hKB.see
            rw [HE.out, HT.out]
            exact ⟨this.e, this.b, this.o, rfl⟩
          · have haq : (a == p) = false := by simpa using hap
            have HT := Lib.hid (show textK of ((j + 1 : Nat) : Int) = -1 by rw [HT.out, if_neg hap])
            go_wp2_with fail
            refine wp_region_on (by kernel_rfl) (by kernel_rfl) ?_
            repeat (go_big_quiet_step (fail))
            refine wpQuiet_nil ?_
            intro w5 hw'
            obtain ⟨⟨w6, hOn⟩, hw''⟩ := hw'
            obtain rfl : w5 = w6 := hw''
            have HB5 := Lib.hid (HB.out.below hOn)
            have HR5 := Lib.hid (HR.out.below hOn)
            have HO5 := Lib.hid (below_then HO.out hOn)
            have hbx := HB5.out.box
            have hbr := HR5.out
            have q0 : w5.cell? ⟨w.heap.size + 1, 0, none⟩ = some (.slice mm.A1 mm.n1 mm.c1) := hbx.2.2 0 _ rfl
            have q1 : w5.cell? ⟨w.heap.size + 1, 1, none⟩ = some (.slice mm.A2 mm.n2 mm.c2) := hbx.2.2 1 _ rfl
            have q2 : w5.cell? ⟨w.heap.size + 1, 2, none⟩ = some (.slice mm.A3 mm.n3 mm.c3) := hbx.2.2 2 _ rfl
            have q3 : w5.cell? ⟨w.heap.size + 1, 3, none⟩ = some (.int .i64 mm.text) := hbx.2.2 3 _ rfl
            have p0 := hbr.2.2 0 _ rfl
            have p1 := hbr.2.2 1 _ rfl
            have p2 := hbr.2.2 2 _ rfl
            have p3 := hbr.2.2 3 _ rfl
            have p4 : ∀ o, w5.frozen? ⟨w.heap.size, o, none⟩ = false := hbr.2.1
            have p5 : ∀ o, w5.frozen? ⟨w.heap.size + 1, o, none⟩ = false := hbx.2.1
            clear hbx hbr
            go_wp2_with fail
            have hY := (((HR5.out.set 0 (.slice mm.A1 mm.n1 mm.c1) (by simp)).set 1 (.slice mm.A2 mm.n2 mm.c2) (by simp)).set 2 (.slice mm.A3 mm.n3 mm.c3) (by simp)).set 3 (.int .i64 mm.text) (by simp)
            have r0 := hY.2.2 0 _ rfl
            have r1 := hY.2.2 1 _ rfl
            have r2 := hY.2.2 2 _ rfl
            have r3 := hY.2.2 3 _ rfl
            have hKB := (((HB5.out.set_far (N := w.heap.size) (by omega) 0 (.slice mm.A1 mm.n1 mm.c1)).set_far (N := w.heap.size) (by omega) 1 (.slice mm.A2 mm.n2 mm.c2)).set_far (N := w.heap.size) (by omega) 2 (.slice mm.A3 mm.n3 mm.c3)).set_far (N := w.heap.size) (by omega) 3 (.int .i64 mm.text)
            have hOK := On.set (j := 3) (On.set (j := 2) (On.set (j := 1) (On.set (j := 0) HO5.out (Nat.le_refl _) (.slice mm.A1 mm.n1 mm.c1)) (Nat.le_refl _) (.slice mm.A2 mm.n2 mm.c2)) (Nat.le_refl _) (.slice mm.A3 mm.n3 mm.c3)) (Nat.le_refl _) (.int .i64 mm.text)
            refine bodyPost_ret (v := .agg #[.slice mm.A1 mm.n1 mm.c1, .slice mm.A2 mm.n2 mm.c2, .slice mm.A3 mm.n3 mm.c3, .int .i64 mm.text]) (by simp [results, Try.results17, go_sem, r0, r1, r2, r3]) rfl ⟨mm, rfl, ?_, hOK⟩
            have := hKB.see
            rw [HE.out, HT.out]
            exact ⟨this.e, this.b, this.o, by rw [this.t]; rfl⟩
        · obtain rfl : m = j + 1 := by omega
          have HT := Lib.hid (show textK of ((j + 1 : Nat) : Int) = -1 from textK_end (by rw [HLO.out]; exact Nat.le_refl _))
          rw [hj1]
          have hkp : (0 : Int) < (j : Int) + 1 := by omega
          have hkd : decide ((0 : Int) < (j : Int) + 1) = true := decide_eq_true hkp
          have hjm1' : decide ((j : Int) + 1 < (j : Int) + 1) = false := decide_eq_false (by omega)
          clear hwk
          go_wp2_with fail
          refine wp_region_on (by kernel_rfl) (by kernel_rfl) ?_
          repeat (go_big_quiet_step (fail))
          refine wpQuiet_nil ?_
          intro w5 hw'
          obtain ⟨⟨w6, hOn⟩, hw''⟩ := hw'
          obtain rfl : w5 = w6 := hw''
          have HB5 := Lib.hid (HB.out.below hOn)
          have HR5 := Lib.hid (HR.out.below hOn)
          have HO5 := Lib.hid (below_then HO.out hOn)
          have hbx := HB5.out.box
          have hbr := HR5.out
          have q0 : w5.cell? ⟨w.heap.size + 1, 0, none⟩ = some (.slice mm.A1 mm.n1 mm.c1) := hbx.2.2 0 _ rfl
          have q1 : w5.cell? ⟨w.heap.size + 1, 1, none⟩ = some (.slice mm.A2 mm.n2 mm.c2) := hbx.2.2 1 _ rfl
          have q2 : w5.cell? ⟨w.heap.size + 1, 2, none⟩ = some (.slice mm.A3 mm.n3 mm.c3) := hbx.2.2 2 _ rfl
          have q3 : w5.cell? ⟨w.heap.size + 1, 3, none⟩ = some (.int .i64 mm.text) := hbx.2.2 3 _ rfl
          have p0 := hbr.2.2 0 _ rfl
          have p1 := hbr.2.2 1 _ rfl
          have p2 := hbr.2.2 2 _ rfl
          have p3 := hbr.2.2 3 _ rfl
          have p4 : ∀ o, w5.frozen? ⟨w.heap.size, o, none⟩ = false := hbr.2.1
          have p5 : ∀ o, w5.frozen? ⟨w.heap.size + 1, o, none⟩ = false := hbx.2.1
          clear hbx hbr
          go_wp2_with fail
          have hY := (((HR5.out.set 0 (.slice mm.A1 mm.n1 mm.c1) (by simp)).set 1 (.slice mm.A2 mm.n2 mm.c2) (by simp)).set 2 (.slice mm.A3 mm.n3 mm.c3) (by simp)).set 3 (.int .i64 mm.text) (by simp)
          have r0 := hY.2.2 0 _ rfl
          have r1 := hY.2.2 1 _ rfl
          have r2 := hY.2.2 2 _ rfl
          have r3 := hY.2.2 3 _ rfl
          have hKB := (((HB5.out.set_far (N := w.heap.size) (by omega) 0 (.slice mm.A1 mm.n1 mm.c1)).set_far (N := w.heap.size) (by omega) 1 (.slice mm.A2 mm.n2 mm.c2)).set_far (N := w.heap.size) (by omega) 2 (.slice mm.A3 mm.n3 mm.c3)).set_far (N := w.heap.size) (by omega) 3 (.int .i64 mm.text)
          have hOK := On.set (j := 3) (On.set (j := 2) (On.set (j := 1) (On.set (j := 0) HO5.out (Nat.le_refl _) (.slice mm.A1 mm.n1 mm.c1)) (Nat.le_refl _) (.slice mm.A2 mm.n2 mm.c2)) (Nat.le_refl _) (.slice mm.A3 mm.n3 mm.c3)) (Nat.le_refl _) (.int .i64 mm.text)
          refine bodyPost_ret (v := .agg #[.slice mm.A1 mm.n1 mm.c1, .slice mm.A2 mm.n2 mm.c2, .slice mm.A3 mm.n3 mm.c3, .int .i64 mm.text]) (by simp [results, Try.results17, go_sem, r0, r1, r2, r3]) rfl ⟨mm, rfl, ?_, hOK⟩
          have := hKB.see
          rw [HE.out, HT.out]
          exact ⟨this.e, this.b, this.o, by rw [this.t]; rfl⟩
set_option maxHeartbeats 1000000 in
set_option maxRecDepth 100000 in
/-- two kin that say the same are the same. -/
theorem vksame_to {x : Kn} {a b : KnM} {w : World} (ha : KnSee w a x) (hb : KnSee w b x) : Calls Try.prog 15 #[.agg (encKn a).toArray, .agg (encKn b).toArray] w fun e w' => e = .returned (.bool true) ∧ Below w.heap.size w w' := by
  obtain ⟨A1, n1, c1, A2, n2, c2, A3, n3, c3, t⟩ := a
  obtain ⟨B1, m1, d1, B2, m2, d2, B3, m3, d3, u⟩ := b
  obtain rfl : t = u := ha.t.trans hb.t.symm
  have HA := Lib.hid ha
  have HB := Lib.hid hb
  clear ha hb
  show Calls Try.prog 15 #[.agg #[.slice A1 n1 c1, .slice A2 n2 c2, .slice A3 n3 c3, .int .i64 t], .agg #[.slice B1 m1 d1, .slice B2 m2 d2, .slice B3 m3 d3, .int .i64 t]] w _
  go_enter Try.func15, Try.ntmps15
  go_wp2_with fail
  generalize hW : World.alloc (World.alloc w _) _ = W
  have HX := Lib.hid (show Box W w.heap.size [.slice A1 n1 c1, .slice A2 n2 c2, .slice A3 n3 c3, .int .i64 t] by rw [← hW]; exact (box_new16 _ _ _ _ rfl _ rfl).alloc _)
  have HY := Lib.hid (show Box W (w.heap.size + 1) [.slice B1 m1 d1, .slice B2 m2 d2, .slice B3 m3 d3, .int .i64 t] by rw [← hW]; exact box_new16 _ _ _ _ (by simp) _ rfl)
  have HO := Lib.hid (show On w W by rw [← hW]; exact (On.alloc (On.refl w) _).alloc _)
  clear hW
  refine (vints_same (HA.out.below HO.out).e (HB.out.below HO.out).e).mono ?_
  rintro e w1 ⟨rfl, hb⟩
  have HO1 := Lib.hid (HO.out.step hb)
  have HX1 := Lib.hid (HX.out.below hb)
  have HY1 := Lib.hid (HY.out.below hb)
  clear hb HX HY HO
  have x1 := HX1.out.2.2 1 _ rfl
  have y1 := HY1.out.2.2 1 _ rfl
  go_wp2_with fail
  clear x1 y1
  refine (vints_same (HA.out.below HO1.out).b (HB.out.below HO1.out).b).mono ?_
  rintro e w2 ⟨rfl, hb⟩
  have HO2 := Lib.hid (HO1.out.step hb)
  have HX2 := Lib.hid (HX1.out.below hb)
  have HY2 := Lib.hid (HY1.out.below hb)
  clear hb HX1 HY1 HO1
  have x1 := HX2.out.2.2 2 _ rfl
  have y1 := HY2.out.2.2 2 _ rfl
  go_wp2_with fail
  clear x1 y1
  refine (vints_same (HA.out.below HO2.out).o (HB.out.below HO2.out).o).mono ?_
  rintro e w3 ⟨rfl, hb⟩
  have HO3 := Lib.hid (HO2.out.step hb)
  have HX3 := Lib.hid (HX2.out.below hb)
  have HY3 := Lib.hid (HY2.out.below hb)
  clear hb HX2 HY2 HO2
  have x1 := HX3.out.2.2 3 _ rfl
  have y1 := HY3.out.2.2 3 _ rfl
  have hq : (t == t) = true := by simp
  go_wp2_with fail
  go_ret
  exact ⟨rfl, HO3.out⟩
end Go.Proofs.Ytamakeogaipdiaa
