import Derived.Test.YtechccoongilcaaDoorJD708
/- The program's package read: the letters of attributes: the region that makes the map. -/
namespace Go.Proofs.YtechccoongilcaaDoor
open Go.RowKit Go.ChangeMaps
set_option linter.unusedVariables false
set_option linter.unusedSimpArgs false
set_option maxRecDepth 100000 in
set_option maxHeartbeats 8000000 in
theorem letters_any (g : Nat) (w : World) (hg : g < w.heap.size) : Calls Tryd.prog 31 #[.pointer (some ⟨g, 0, none⟩)] w fun e w' => ∃ M rb, e = .returned (.map (some M)) ∧ Lets w' rb g M ∧ Below w.heap.size w w' := by
  have hmf := makefn
  have hmm := @run_makeMap Tryd.prog
  go_enter Tryd.func31, Tryd.ntmps31
  go_wp2_with fail
  have hbox := Box.new w [.pointer (some ⟨g, 0, none⟩)] 37
  have hbel : Below w.heap.size w (w.alloc (.cells [.pointer (some ⟨g, 0, none⟩)].toArray 37)) := (Below.refl _ _).alloc (Nat.le_refl _) _
  refine wp_region_any (by kernel_rfl) ?_
  generalize hops : (List.toArray (List.append _ _) : Array Oper) = ops
  have hsz : ops.size = 75 := by rw [← hops]; kernel_rfl
  have hbk : backB ops = true := by rw [← hops]; kernel_rfl
  have HOps := Lib.hid hops
  clear hops
  rw [hsz]
  refine wpAny_inv (I := fun listed a w' => ∃ f, a = Frm w.heap.size g f ∧ LB w w.heap.size g listed f w') ?_ ?_ _ _ _ _ (Nat.le_of_eq (by kernel_rfl)) ⟨fun i => if i = 2 then .map none else undef, rfl, ⟨by kernel_rfl, hbox.drew, hbel.drew, hg, Nat.le_refl _, ?_, ?_, ?_, ?_, ?_⟩⟩
  · rintro listed a w' i ⟨f, rfl, hI⟩ hi
    have hlt : i < 75 := by
      obtain ⟨_, o, ho, _⟩ := mem_ready.1 hi
      have := (Array.getElem?_eq_some_iff.1 ho).1
      omega
    have hn := (mem_ready.1 hi).1
    have HI := Lib.hid hI
    clear hI hbox hbel
    by_cases e0 : i = 0
    · subst e0
      refine wpOp_step (by rw [← HOps.out]; rfl) (fun K' hK => ?_)
      have HK := Lib.hid hK
      clear hK
      unfold Frm
      go_simp
      exact HK.out _ _ ⟨upd f 9 (.map (some w'.heap.size)), rfl, HI.out.make hn⟩
    by_cases e1 : i = 73
    · subst e1
      have h0 : L listed 0 := ready_on hi (by rw [← HOps.out]; kernel_rfl)
      refine wpOp_step (by rw [← HOps.out]; rfl) (fun K' hK => ?_)
      have HK := Lib.hid hK
      clear hK
      unfold Frm
      go_simp
      exact HK.out _ _ ⟨upd f 70 (f 9), rfl, HI.out.copy h0⟩
    by_cases e2 : i = 74
    · subst e2
      have h0 : L listed 73 := ready_on hi (by rw [← HOps.out]; kernel_rfl)
      refine wpOp_step (by rw [← HOps.out]; rfl) (fun K' hK => ?_)
      have HK := Lib.hid hK
      clear hK
      unfold Frm
      go_simp
      exact HK.out _ _ ⟨upd f 2 (f 70), rfl, HI.out.last h0⟩
    obtain ⟨k, r, hk, hr, hc⟩ : ∃ k r, k < 12 ∧ r < 6 ∧ i = 1 + 6 * k + r := ⟨(i - 1) / 6, (i - 1) % 6, by omega, by omega, by omega⟩
    clear e0 e1 e2
    rcases (show k = 0 ∨ k = 1 ∨ k = 2 ∨ k = 3 ∨ k = 4 ∨ k = 5 ∨ k = 6 ∨ k = 7 ∨ k = 8 ∨ k = 9 ∨ k = 10 ∨ k = 11 by omega) with rfl | rfl | rfl | rfl | rfl | rfl | rfl | rfl | rfl | rfl | rfl | rfl
    · rcases (show r = 0 ∨ r = 1 ∨ r = 2 ∨ r = 3 ∨ r = 4 ∨ r = 5 by omega) with rfl | rfl | rfl | rfl | rfl | rfl
      · obtain rfl : i = 1 := by omega
        clear hc hk hr hlt
        refine wpOp_step (by rw [← HOps.out]; rfl) (fun K' hK => ?_)
        have HK := Lib.hid hK
        clear hK
        unfold Frm
        go_simp
        exact HK.out _ _ ⟨upd f 10 (.func (.func 55) #[] #[.pointer (some ⟨w.heap.size, 0, none⟩)]), rfl, HI.out.slot (Below.refl _ _) 1 (by omega) (by omega) (by omega) (by unfold cl; simp)⟩
      · obtain rfl : i = 2 := by omega
        clear hc hk hr hlt
        refine wpOp_step (by rw [← HOps.out]; rfl) (fun K' hK => ?_)
        have HK := Lib.hid hK
        clear hK
        unfold Frm
        go_simp
        exact HK.out _ _ ⟨upd f 11 (.pointer (some ⟨g, 5, none⟩)), rfl, HI.out.slot (Below.refl _ _) 2 (by omega) (by omega) (by omega) (by unfold cl; simp)⟩
      · obtain rfl : i = 3 := by omega
        clear hc hk hr hlt
        have d1 := HI.out.sl 2 (by omega) (by omega) (by omega) (ready_on hi (by rw [← HOps.out]; kernel_rfl))
        simp [cl, slotJ] at d1
        refine wpOp_step (by rw [← HOps.out]; rfl) (fun K' hK => ?_)
        have HK := Lib.hid hK
        clear hK
        unfold Frm
        go_simp
        exact HK.out _ _ ⟨upd f 12 (.pointer (some ⟨g, 5, none⟩)), (by unfold Frm; simp [upd, d1]), HI.out.slot (Below.refl _ _) 3 (by omega) (by omega) (by omega) (by unfold cl; simp)⟩
      · obtain rfl : i = 4 := by omega
        clear hc hk hr hlt
        have d1 := HI.out.sl 3 (by omega) (by omega) (by omega) (ready_on hi (by rw [← HOps.out]; kernel_rfl))
        simp [cl, slotJ] at d1
        refine wpOp_step (by rw [← HOps.out]; rfl) (fun K' hK => ?_)
        have HK := Lib.hid hK
        clear hK
        unfold Frm
        go_simp
        exact HK.out _ _ ⟨upd f 13 (.pointer (some ⟨g, 5, none⟩)), (by unfold Frm; simp [upd, d1]), HI.out.slot (Below.refl _ _) 4 (by omega) (by omega) (by omega) (by unfold cl; simp)⟩
      · obtain rfl : i = 5 := by omega
        clear hc hk hr hlt
        have d1 := HI.out.sl 1 (by omega) (by omega) (by omega) (ready_on hi (by rw [← HOps.out]; kernel_rfl))
        have d2 := HI.out.sl 4 (by omega) (by omega) (by omega) (ready_on hi (by rw [← HOps.out]; kernel_rfl))
        simp [cl, slotJ] at d1 d2
        refine wpOp_step (by rw [← HOps.out]; rfl) (fun K' hK => ?_)
        have HK := Lib.hid hK
        clear hK
        unfold Frm
        go_simp
        go_wp2_with (go_at_call 55; refine (numfn_any _ _ _ _ _).mono ?_; rintro e w1 ⟨v, rfl, ht, hb⟩)
        exact HK.out _ _ ⟨upd f 14 v, by unfold Frm; simp [upd, d1, d2], HI.out.slot hb 5 (by omega) (by omega) (by omega) (by unfold cl; exact ht)⟩
      · obtain rfl : i = 6 := by omega
        clear hc hk hr hlt
        obtain ⟨M, l, v, f9, f14, hm, hl, hfin⟩ := HI.out.fresh 0 (by omega) hn (ready_on hi (by rw [← HOps.out]; kernel_rfl)) (ready_on hi (by rw [← HOps.out]; kernel_rfl))
        obtain ⟨w1, hput, h1, h2, h3⟩ := run_put hm (chK 0) v hl
        rw [show chK 0 = 109 from rfl] at hput
        have HF := Lib.hid (hfin w1 h1 h2)
        clear hfin h1 h2 h3 hm hl
        simp only [Nat.reduceAdd, Nat.reduceMul] at f14
        refine wpOp_step (by rw [← HOps.out]; rfl) (fun K' hK => ?_)
        have HK := Lib.hid hK
        clear hK
        unfold Frm
        go_simp
        exact HK.out _ _ ⟨f, by simp [Frm, f9, f14], HF.out⟩
    · rcases (show r = 0 ∨ r = 1 ∨ r = 2 ∨ r = 3 ∨ r = 4 ∨ r = 5 by omega) with rfl | rfl | rfl | rfl | rfl | rfl
      · obtain rfl : i = 7 := by omega
        clear hc hk hr hlt
        refine wpOp_step (by rw [← HOps.out]; rfl) (fun K' hK => ?_)
        have HK := Lib.hid hK
        clear hK
        unfold Frm
        go_simp
        exact HK.out _ _ ⟨upd f 15 (.func (.func 55) #[] #[.pointer (some ⟨w.heap.size, 0, none⟩)]), rfl, HI.out.slot (Below.refl _ _) 7 (by omega) (by omega) (by omega) (by unfold cl; simp)⟩
      · obtain rfl : i = 8 := by omega
        clear hc hk hr hlt
        refine wpOp_step (by rw [← HOps.out]; rfl) (fun K' hK => ?_)
        have HK := Lib.hid hK
        clear hK
        unfold Frm
        go_simp
        exact HK.out _ _ ⟨upd f 16 (.pointer (some ⟨g, 5, none⟩)), rfl, HI.out.slot (Below.refl _ _) 8 (by omega) (by omega) (by omega) (by unfold cl; simp)⟩
      · obtain rfl : i = 9 := by omega
        clear hc hk hr hlt
        have d1 := HI.out.sl 8 (by omega) (by omega) (by omega) (ready_on hi (by rw [← HOps.out]; kernel_rfl))
        simp [cl, slotJ] at d1
        refine wpOp_step (by rw [← HOps.out]; rfl) (fun K' hK => ?_)
        have HK := Lib.hid hK
        clear hK
        unfold Frm
        go_simp
        exact HK.out _ _ ⟨upd f 17 (.pointer (some ⟨g, 5, none⟩)), (by unfold Frm; simp [upd, d1]), HI.out.slot (Below.refl _ _) 9 (by omega) (by omega) (by omega) (by unfold cl; simp)⟩
      · obtain rfl : i = 10 := by omega
        clear hc hk hr hlt
        have d1 := HI.out.sl 9 (by omega) (by omega) (by omega) (ready_on hi (by rw [← HOps.out]; kernel_rfl))
        simp [cl, slotJ] at d1
        refine wpOp_step (by rw [← HOps.out]; rfl) (fun K' hK => ?_)
        have HK := Lib.hid hK
        clear hK
        unfold Frm
        go_simp
        exact HK.out _ _ ⟨upd f 18 (.pointer (some ⟨g, 6, none⟩)), (by unfold Frm; simp [upd, d1]), HI.out.slot (Below.refl _ _) 10 (by omega) (by omega) (by omega) (by unfold cl; simp)⟩
      · obtain rfl : i = 11 := by omega
        clear hc hk hr hlt
        have d1 := HI.out.sl 7 (by omega) (by omega) (by omega) (ready_on hi (by rw [← HOps.out]; kernel_rfl))
        have d2 := HI.out.sl 10 (by omega) (by omega) (by omega) (ready_on hi (by rw [← HOps.out]; kernel_rfl))
        simp [cl, slotJ] at d1 d2
        refine wpOp_step (by rw [← HOps.out]; rfl) (fun K' hK => ?_)
        have HK := Lib.hid hK
        clear hK
        unfold Frm
        go_simp
        go_wp2_with (go_at_call 55; refine (numfn_any _ _ _ _ _).mono ?_; rintro e w1 ⟨v, rfl, ht, hb⟩)
        exact HK.out _ _ ⟨upd f 19 v, by unfold Frm; simp [upd, d1, d2], HI.out.slot hb 11 (by omega) (by omega) (by omega) (by unfold cl; exact ht)⟩
      · obtain rfl : i = 12 := by omega
        clear hc hk hr hlt
        obtain ⟨M, l, v, f9, f14, hm, hl, hfin⟩ := HI.out.fresh 1 (by omega) hn (ready_on hi (by rw [← HOps.out]; kernel_rfl)) (ready_on hi (by rw [← HOps.out]; kernel_rfl))
        obtain ⟨w1, hput, h1, h2, h3⟩ := run_put hm (chK 1) v hl
        rw [show chK 1 = 110 from rfl] at hput
        have HF := Lib.hid (hfin w1 h1 h2)
        clear hfin h1 h2 h3 hm hl
        simp only [Nat.reduceAdd, Nat.reduceMul] at f14
        refine wpOp_step (by rw [← HOps.out]; rfl) (fun K' hK => ?_)
        have HK := Lib.hid hK
        clear hK
        unfold Frm
        go_simp
        exact HK.out _ _ ⟨f, by simp [Frm, f9, f14], HF.out⟩
    · rcases (show r = 0 ∨ r = 1 ∨ r = 2 ∨ r = 3 ∨ r = 4 ∨ r = 5 by omega) with rfl | rfl | rfl | rfl | rfl | rfl
      · obtain rfl : i = 13 := by omega
        clear hc hk hr hlt
        refine wpOp_step (by rw [← HOps.out]; rfl) (fun K' hK => ?_)
        have HK := Lib.hid hK
        clear hK
        unfold Frm
        go_simp
        exact HK.out _ _ ⟨upd f 20 (.func (.func 55) #[] #[.pointer (some ⟨w.heap.size, 0, none⟩)]), rfl, HI.out.slot (Below.refl _ _) 13 (by omega) (by omega) (by omega) (by unfold cl; simp)⟩
      · obtain rfl : i = 14 := by omega
        clear hc hk hr hlt
        refine wpOp_step (by rw [← HOps.out]; rfl) (fun K' hK => ?_)
        have HK := Lib.hid hK
        clear hK
        unfold Frm
        go_simp
        exact HK.out _ _ ⟨upd f 21 (.pointer (some ⟨g, 5, none⟩)), rfl, HI.out.slot (Below.refl _ _) 14 (by omega) (by omega) (by omega) (by unfold cl; simp)⟩
      · obtain rfl : i = 15 := by omega
        clear hc hk hr hlt
        have d1 := HI.out.sl 14 (by omega) (by omega) (by omega) (ready_on hi (by rw [← HOps.out]; kernel_rfl))
        simp [cl, slotJ] at d1
        refine wpOp_step (by rw [← HOps.out]; rfl) (fun K' hK => ?_)
        have HK := Lib.hid hK
        clear hK
        unfold Frm
        go_simp
        exact HK.out _ _ ⟨upd f 22 (.pointer (some ⟨g, 5, none⟩)), (by unfold Frm; simp [upd, d1]), HI.out.slot (Below.refl _ _) 15 (by omega) (by omega) (by omega) (by unfold cl; simp)⟩
      · obtain rfl : i = 16 := by omega
        clear hc hk hr hlt
        have d1 := HI.out.sl 15 (by omega) (by omega) (by omega) (ready_on hi (by rw [← HOps.out]; kernel_rfl))
        simp [cl, slotJ] at d1
        refine wpOp_step (by rw [← HOps.out]; rfl) (fun K' hK => ?_)
        have HK := Lib.hid hK
        clear hK
        unfold Frm
        go_simp
        exact HK.out _ _ ⟨upd f 23 (.pointer (some ⟨g, 7, none⟩)), (by unfold Frm; simp [upd, d1]), HI.out.slot (Below.refl _ _) 16 (by omega) (by omega) (by omega) (by unfold cl; simp)⟩
      · obtain rfl : i = 17 := by omega
        clear hc hk hr hlt
        have d1 := HI.out.sl 13 (by omega) (by omega) (by omega) (ready_on hi (by rw [← HOps.out]; kernel_rfl))
        have d2 := HI.out.sl 16 (by omega) (by omega) (by omega) (ready_on hi (by rw [← HOps.out]; kernel_rfl))
        simp [cl, slotJ] at d1 d2
        refine wpOp_step (by rw [← HOps.out]; rfl) (fun K' hK => ?_)
        have HK := Lib.hid hK
        clear hK
        unfold Frm
        go_simp
        go_wp2_with (go_at_call 55; refine (numfn_any _ _ _ _ _).mono ?_; rintro e w1 ⟨v, rfl, ht, hb⟩)
        exact HK.out _ _ ⟨upd f 24 v, by unfold Frm; simp [upd, d1, d2], HI.out.slot hb 17 (by omega) (by omega) (by omega) (by unfold cl; exact ht)⟩
      · obtain rfl : i = 18 := by omega
        clear hc hk hr hlt
        obtain ⟨M, l, v, f9, f14, hm, hl, hfin⟩ := HI.out.fresh 2 (by omega) hn (ready_on hi (by rw [← HOps.out]; kernel_rfl)) (ready_on hi (by rw [← HOps.out]; kernel_rfl))
        obtain ⟨w1, hput, h1, h2, h3⟩ := run_put hm (chK 2) v hl
        rw [show chK 2 = 112 from rfl] at hput
        have HF := Lib.hid (hfin w1 h1 h2)
        clear hfin h1 h2 h3 hm hl
        simp only [Nat.reduceAdd, Nat.reduceMul] at f14
        refine wpOp_step (by rw [← HOps.out]; rfl) (fun K' hK => ?_)
        have HK := Lib.hid hK
        clear hK
        unfold Frm
        go_simp
        exact HK.out _ _ ⟨f, by simp [Frm, f9, f14], HF.out⟩
    · rcases (show r = 0 ∨ r = 1 ∨ r = 2 ∨ r = 3 ∨ r = 4 ∨ r = 5 by omega) with rfl | rfl | rfl | rfl | rfl | rfl
      · obtain rfl : i = 19 := by omega
        clear hc hk hr hlt
        refine wpOp_step (by rw [← HOps.out]; rfl) (fun K' hK => ?_)
        have HK := Lib.hid hK
        clear hK
        unfold Frm
        go_simp
        exact HK.out _ _ ⟨upd f 25 (.func (.func 55) #[] #[.pointer (some ⟨w.heap.size, 0, none⟩)]), rfl, HI.out.slot (Below.refl _ _) 19 (by omega) (by omega) (by omega) (by unfold cl; simp)⟩
      · obtain rfl : i = 20 := by omega
        clear hc hk hr hlt
        refine wpOp_step (by rw [← HOps.out]; rfl) (fun K' hK => ?_)
        have HK := Lib.hid hK
        clear hK
        unfold Frm
        go_simp
        exact HK.out _ _ ⟨upd f 26 (.pointer (some ⟨g, 5, none⟩)), rfl, HI.out.slot (Below.refl _ _) 20 (by omega) (by omega) (by omega) (by unfold cl; simp)⟩
      · obtain rfl : i = 21 := by omega
        clear hc hk hr hlt
        have d1 := HI.out.sl 20 (by omega) (by omega) (by omega) (ready_on hi (by rw [← HOps.out]; kernel_rfl))
        simp [cl, slotJ] at d1
        refine wpOp_step (by rw [← HOps.out]; rfl) (fun K' hK => ?_)
        have HK := Lib.hid hK
        clear hK
        unfold Frm
        go_simp
        exact HK.out _ _ ⟨upd f 27 (.pointer (some ⟨g, 5, none⟩)), (by unfold Frm; simp [upd, d1]), HI.out.slot (Below.refl _ _) 21 (by omega) (by omega) (by omega) (by unfold cl; simp)⟩
      · obtain rfl : i = 22 := by omega
        clear hc hk hr hlt
        have d1 := HI.out.sl 21 (by omega) (by omega) (by omega) (ready_on hi (by rw [← HOps.out]; kernel_rfl))
        simp [cl, slotJ] at d1
        refine wpOp_step (by rw [← HOps.out]; rfl) (fun K' hK => ?_)
        have HK := Lib.hid hK
        clear hK
        unfold Frm
        go_simp
        exact HK.out _ _ ⟨upd f 28 (.pointer (some ⟨g, 8, none⟩)), (by unfold Frm; simp [upd, d1]), HI.out.slot (Below.refl _ _) 22 (by omega) (by omega) (by omega) (by unfold cl; simp)⟩
      · obtain rfl : i = 23 := by omega
        clear hc hk hr hlt
        have d1 := HI.out.sl 19 (by omega) (by omega) (by omega) (ready_on hi (by rw [← HOps.out]; kernel_rfl))
        have d2 := HI.out.sl 22 (by omega) (by omega) (by omega) (ready_on hi (by rw [← HOps.out]; kernel_rfl))
        simp [cl, slotJ] at d1 d2
        refine wpOp_step (by rw [← HOps.out]; rfl) (fun K' hK => ?_)
        have HK := Lib.hid hK
        clear hK
        unfold Frm
        go_simp
        go_wp2_with (go_at_call 55; refine (numfn_any _ _ _ _ _).mono ?_; rintro e w1 ⟨v, rfl, ht, hb⟩)
        exact HK.out _ _ ⟨upd f 29 v, by unfold Frm; simp [upd, d1, d2], HI.out.slot hb 23 (by omega) (by omega) (by omega) (by unfold cl; exact ht)⟩
      · obtain rfl : i = 24 := by omega
        clear hc hk hr hlt
        obtain ⟨M, l, v, f9, f14, hm, hl, hfin⟩ := HI.out.fresh 3 (by omega) hn (ready_on hi (by rw [← HOps.out]; kernel_rfl)) (ready_on hi (by rw [← HOps.out]; kernel_rfl))
        obtain ⟨w1, hput, h1, h2, h3⟩ := run_put hm (chK 3) v hl
        rw [show chK 3 = 113 from rfl] at hput
        have HF := Lib.hid (hfin w1 h1 h2)
        clear hfin h1 h2 h3 hm hl
        simp only [Nat.reduceAdd, Nat.reduceMul] at f14
        refine wpOp_step (by rw [← HOps.out]; rfl) (fun K' hK => ?_)
        have HK := Lib.hid hK
        clear hK
        unfold Frm
        go_simp
        exact HK.out _ _ ⟨f, by simp [Frm, f9, f14], HF.out⟩
    · rcases (show r = 0 ∨ r = 1 ∨ r = 2 ∨ r = 3 ∨ r = 4 ∨ r = 5 by omega) with rfl | rfl | rfl | rfl | rfl | rfl
      · obtain rfl : i = 25 := by omega
        clear hc hk hr hlt
        refine wpOp_step (by rw [← HOps.out]; rfl) (fun K' hK => ?_)
        have HK := Lib.hid hK
        clear hK
        unfold Frm
        go_simp
        exact HK.out _ _ ⟨upd f 30 (.func (.func 55) #[] #[.pointer (some ⟨w.heap.size, 0, none⟩)]), rfl, HI.out.slot (Below.refl _ _) 25 (by omega) (by omega) (by omega) (by unfold cl; simp)⟩
      · obtain rfl : i = 26 := by omega
        clear hc hk hr hlt
        refine wpOp_step (by rw [← HOps.out]; rfl) (fun K' hK => ?_)
        have HK := Lib.hid hK
        clear hK
        unfold Frm
        go_simp
        exact HK.out _ _ ⟨upd f 31 (.pointer (some ⟨g, 5, none⟩)), rfl, HI.out.slot (Below.refl _ _) 26 (by omega) (by omega) (by omega) (by unfold cl; simp)⟩
      · obtain rfl : i = 27 := by omega
        clear hc hk hr hlt
        have d1 := HI.out.sl 26 (by omega) (by omega) (by omega) (ready_on hi (by rw [← HOps.out]; kernel_rfl))
        simp [cl, slotJ] at d1
        refine wpOp_step (by rw [← HOps.out]; rfl) (fun K' hK => ?_)
        have HK := Lib.hid hK
        clear hK
        unfold Frm
        go_simp
        exact HK.out _ _ ⟨upd f 32 (.pointer (some ⟨g, 5, none⟩)), (by unfold Frm; simp [upd, d1]), HI.out.slot (Below.refl _ _) 27 (by omega) (by omega) (by omega) (by unfold cl; simp)⟩
      · obtain rfl : i = 28 := by omega
        clear hc hk hr hlt
        have d1 := HI.out.sl 27 (by omega) (by omega) (by omega) (ready_on hi (by rw [← HOps.out]; kernel_rfl))
        simp [cl, slotJ] at d1
        refine wpOp_step (by rw [← HOps.out]; rfl) (fun K' hK => ?_)
        have HK := Lib.hid hK
        clear hK
        unfold Frm
        go_simp
        exact HK.out _ _ ⟨upd f 33 (.pointer (some ⟨g, 9, none⟩)), (by unfold Frm; simp [upd, d1]), HI.out.slot (Below.refl _ _) 28 (by omega) (by omega) (by omega) (by unfold cl; simp)⟩
      · obtain rfl : i = 29 := by omega
        clear hc hk hr hlt
        have d1 := HI.out.sl 25 (by omega) (by omega) (by omega) (ready_on hi (by rw [← HOps.out]; kernel_rfl))
        have d2 := HI.out.sl 28 (by omega) (by omega) (by omega) (ready_on hi (by rw [← HOps.out]; kernel_rfl))
        simp [cl, slotJ] at d1 d2
        refine wpOp_step (by rw [← HOps.out]; rfl) (fun K' hK => ?_)
        have HK := Lib.hid hK
        clear hK
        unfold Frm
        go_simp
        go_wp2_with (go_at_call 55; refine (numfn_any _ _ _ _ _).mono ?_; rintro e w1 ⟨v, rfl, ht, hb⟩)
        exact HK.out _ _ ⟨upd f 34 v, by unfold Frm; simp [upd, d1, d2], HI.out.slot hb 29 (by omega) (by omega) (by omega) (by unfold cl; exact ht)⟩
      · obtain rfl : i = 30 := by omega
        clear hc hk hr hlt
        obtain ⟨M, l, v, f9, f14, hm, hl, hfin⟩ := HI.out.fresh 4 (by omega) hn (ready_on hi (by rw [← HOps.out]; kernel_rfl)) (ready_on hi (by rw [← HOps.out]; kernel_rfl))
        obtain ⟨w1, hput, h1, h2, h3⟩ := run_put hm (chK 4) v hl
        rw [show chK 4 = 105 from rfl] at hput
        have HF := Lib.hid (hfin w1 h1 h2)
        clear hfin h1 h2 h3 hm hl
        simp only [Nat.reduceAdd, Nat.reduceMul] at f14
        refine wpOp_step (by rw [← HOps.out]; rfl) (fun K' hK => ?_)
        have HK := Lib.hid hK
        clear hK
        unfold Frm
        go_simp
        exact HK.out _ _ ⟨f, by simp [Frm, f9, f14], HF.out⟩
    · rcases (show r = 0 ∨ r = 1 ∨ r = 2 ∨ r = 3 ∨ r = 4 ∨ r = 5 by omega) with rfl | rfl | rfl | rfl | rfl | rfl
      · obtain rfl : i = 31 := by omega
        clear hc hk hr hlt
        refine wpOp_step (by rw [← HOps.out]; rfl) (fun K' hK => ?_)
        have HK := Lib.hid hK
        clear hK
        unfold Frm
        go_simp
        exact HK.out _ _ ⟨upd f 35 (.func (.func 55) #[] #[.pointer (some ⟨w.heap.size, 0, none⟩)]), rfl, HI.out.slot (Below.refl _ _) 31 (by omega) (by omega) (by omega) (by unfold cl; simp)⟩
      · obtain rfl : i = 32 := by omega
        clear hc hk hr hlt
        refine wpOp_step (by rw [← HOps.out]; rfl) (fun K' hK => ?_)
        have HK := Lib.hid hK
        clear hK
        unfold Frm
        go_simp
        exact HK.out _ _ ⟨upd f 36 (.pointer (some ⟨g, 5, none⟩)), rfl, HI.out.slot (Below.refl _ _) 32 (by omega) (by omega) (by omega) (by unfold cl; simp)⟩
      · obtain rfl : i = 33 := by omega
        clear hc hk hr hlt
        have d1 := HI.out.sl 32 (by omega) (by omega) (by omega) (ready_on hi (by rw [← HOps.out]; kernel_rfl))
        simp [cl, slotJ] at d1
        refine wpOp_step (by rw [← HOps.out]; rfl) (fun K' hK => ?_)
        have HK := Lib.hid hK
        clear hK
        unfold Frm
        go_simp
        exact HK.out _ _ ⟨upd f 37 (.pointer (some ⟨g, 5, none⟩)), (by unfold Frm; simp [upd, d1]), HI.out.slot (Below.refl _ _) 33 (by omega) (by omega) (by omega) (by unfold cl; simp)⟩
      · obtain rfl : i = 34 := by omega
        clear hc hk hr hlt
        have d1 := HI.out.sl 33 (by omega) (by omega) (by omega) (ready_on hi (by rw [← HOps.out]; kernel_rfl))
        simp [cl, slotJ] at d1
        refine wpOp_step (by rw [← HOps.out]; rfl) (fun K' hK => ?_)
        have HK := Lib.hid hK
        clear hK
        unfold Frm
        go_simp
        exact HK.out _ _ ⟨upd f 38 (.pointer (some ⟨g, 10, none⟩)), (by unfold Frm; simp [upd, d1]), HI.out.slot (Below.refl _ _) 34 (by omega) (by omega) (by omega) (by unfold cl; simp)⟩
      · obtain rfl : i = 35 := by omega
        clear hc hk hr hlt
        have d1 := HI.out.sl 31 (by omega) (by omega) (by omega) (ready_on hi (by rw [← HOps.out]; kernel_rfl))
        have d2 := HI.out.sl 34 (by omega) (by omega) (by omega) (ready_on hi (by rw [← HOps.out]; kernel_rfl))
        simp [cl, slotJ] at d1 d2
        refine wpOp_step (by rw [← HOps.out]; rfl) (fun K' hK => ?_)
        have HK := Lib.hid hK
        clear hK
        unfold Frm
        go_simp
        go_wp2_with (go_at_call 55; refine (numfn_any _ _ _ _ _).mono ?_; rintro e w1 ⟨v, rfl, ht, hb⟩)
        exact HK.out _ _ ⟨upd f 39 v, by unfold Frm; simp [upd, d1, d2], HI.out.slot hb 35 (by omega) (by omega) (by omega) (by unfold cl; exact ht)⟩
      · obtain rfl : i = 36 := by omega
        clear hc hk hr hlt
        obtain ⟨M, l, v, f9, f14, hm, hl, hfin⟩ := HI.out.fresh 5 (by omega) hn (ready_on hi (by rw [← HOps.out]; kernel_rfl)) (ready_on hi (by rw [← HOps.out]; kernel_rfl))
        obtain ⟨w1, hput, h1, h2, h3⟩ := run_put hm (chK 5) v hl
        rw [show chK 5 = 111 from rfl] at hput
        have HF := Lib.hid (hfin w1 h1 h2)
        clear hfin h1 h2 h3 hm hl
        simp only [Nat.reduceAdd, Nat.reduceMul] at f14
        refine wpOp_step (by rw [← HOps.out]; rfl) (fun K' hK => ?_)
        have HK := Lib.hid hK
        clear hK
        unfold Frm
        go_simp
        exact HK.out _ _ ⟨f, by simp [Frm, f9, f14], HF.out⟩
    · rcases (show r = 0 ∨ r = 1 ∨ r = 2 ∨ r = 3 ∨ r = 4 ∨ r = 5 by omega) with rfl | rfl | rfl | rfl | rfl | rfl
      · obtain rfl : i = 37 := by omega
        clear hc hk hr hlt
        refine wpOp_step (by rw [← HOps.out]; rfl) (fun K' hK => ?_)
        have HK := Lib.hid hK
        clear hK
        unfold Frm
        go_simp
        exact HK.out _ _ ⟨upd f 40 (.func (.func 55) #[] #[.pointer (some ⟨w.heap.size, 0, none⟩)]), rfl, HI.out.slot (Below.refl _ _) 37 (by omega) (by omega) (by omega) (by unfold cl; simp)⟩
      · obtain rfl : i = 38 := by omega
        clear hc hk hr hlt
        refine wpOp_step (by rw [← HOps.out]; rfl) (fun K' hK => ?_)
        have HK := Lib.hid hK
        clear hK
        unfold Frm
        go_simp
        exact HK.out _ _ ⟨upd f 41 (.pointer (some ⟨g, 5, none⟩)), rfl, HI.out.slot (Below.refl _ _) 38 (by omega) (by omega) (by omega) (by unfold cl; simp)⟩
      · obtain rfl : i = 39 := by omega
        clear hc hk hr hlt
        have d1 := HI.out.sl 38 (by omega) (by omega) (by omega) (ready_on hi (by rw [← HOps.out]; kernel_rfl))
        simp [cl, slotJ] at d1
        refine wpOp_step (by rw [← HOps.out]; rfl) (fun K' hK => ?_)
        have HK := Lib.hid hK
        clear hK
        unfold Frm
        go_simp
        exact HK.out _ _ ⟨upd f 42 (.pointer (some ⟨g, 5, none⟩)), (by unfold Frm; simp [upd, d1]), HI.out.slot (Below.refl _ _) 39 (by omega) (by omega) (by omega) (by unfold cl; simp)⟩
      · obtain rfl : i = 40 := by omega
        clear hc hk hr hlt
        have d1 := HI.out.sl 39 (by omega) (by omega) (by omega) (ready_on hi (by rw [← HOps.out]; kernel_rfl))
        simp [cl, slotJ] at d1
        refine wpOp_step (by rw [← HOps.out]; rfl) (fun K' hK => ?_)
        have HK := Lib.hid hK
        clear hK
        unfold Frm
        go_simp
        exact HK.out _ _ ⟨upd f 43 (.pointer (some ⟨g, 11, none⟩)), (by unfold Frm; simp [upd, d1]), HI.out.slot (Below.refl _ _) 40 (by omega) (by omega) (by omega) (by unfold cl; simp)⟩
      · obtain rfl : i = 41 := by omega
        clear hc hk hr hlt
        have d1 := HI.out.sl 37 (by omega) (by omega) (by omega) (ready_on hi (by rw [← HOps.out]; kernel_rfl))
        have d2 := HI.out.sl 40 (by omega) (by omega) (by omega) (ready_on hi (by rw [← HOps.out]; kernel_rfl))
        simp [cl, slotJ] at d1 d2
        refine wpOp_step (by rw [← HOps.out]; rfl) (fun K' hK => ?_)
        have HK := Lib.hid hK
        clear hK
        unfold Frm
        go_simp
        go_wp2_with (go_at_call 55; refine (numfn_any _ _ _ _ _).mono ?_; rintro e w1 ⟨v, rfl, ht, hb⟩)
        exact HK.out _ _ ⟨upd f 44 v, by unfold Frm; simp [upd, d1, d2], HI.out.slot hb 41 (by omega) (by omega) (by omega) (by unfold cl; exact ht)⟩
      · obtain rfl : i = 42 := by omega
        clear hc hk hr hlt
        obtain ⟨M, l, v, f9, f14, hm, hl, hfin⟩ := HI.out.fresh 6 (by omega) hn (ready_on hi (by rw [← HOps.out]; kernel_rfl)) (ready_on hi (by rw [← HOps.out]; kernel_rfl))
        obtain ⟨w1, hput, h1, h2, h3⟩ := run_put hm (chK 6) v hl
        rw [show chK 6 = 119 from rfl] at hput
        have HF := Lib.hid (hfin w1 h1 h2)
        clear hfin h1 h2 h3 hm hl
        simp only [Nat.reduceAdd, Nat.reduceMul] at f14
        refine wpOp_step (by rw [← HOps.out]; rfl) (fun K' hK => ?_)
        have HK := Lib.hid hK
        clear hK
        unfold Frm
        go_simp
        exact HK.out _ _ ⟨f, by simp [Frm, f9, f14], HF.out⟩
    · rcases (show r = 0 ∨ r = 1 ∨ r = 2 ∨ r = 3 ∨ r = 4 ∨ r = 5 by omega) with rfl | rfl | rfl | rfl | rfl | rfl
      · obtain rfl : i = 43 := by omega
        clear hc hk hr hlt
        refine wpOp_step (by rw [← HOps.out]; rfl) (fun K' hK => ?_)
        have HK := Lib.hid hK
        clear hK
        unfold Frm
        go_simp
        exact HK.out _ _ ⟨upd f 45 (.func (.func 55) #[] #[.pointer (some ⟨w.heap.size, 0, none⟩)]), rfl, HI.out.slot (Below.refl _ _) 43 (by omega) (by omega) (by omega) (by unfold cl; simp)⟩
      · obtain rfl : i = 44 := by omega
        clear hc hk hr hlt
        refine wpOp_step (by rw [← HOps.out]; rfl) (fun K' hK => ?_)
        have HK := Lib.hid hK
        clear hK
        unfold Frm
        go_simp
        exact HK.out _ _ ⟨upd f 46 (.pointer (some ⟨g, 5, none⟩)), rfl, HI.out.slot (Below.refl _ _) 44 (by omega) (by omega) (by omega) (by unfold cl; simp)⟩
      · obtain rfl : i = 45 := by omega
        clear hc hk hr hlt
        have d1 := HI.out.sl 44 (by omega) (by omega) (by omega) (ready_on hi (by rw [← HOps.out]; kernel_rfl))
        simp [cl, slotJ] at d1
        refine wpOp_step (by rw [← HOps.out]; rfl) (fun K' hK => ?_)
        have HK := Lib.hid hK
        clear hK
        unfold Frm
        go_simp
        exact HK.out _ _ ⟨upd f 47 (.pointer (some ⟨g, 5, none⟩)), (by unfold Frm; simp [upd, d1]), HI.out.slot (Below.refl _ _) 45 (by omega) (by omega) (by omega) (by unfold cl; simp)⟩
      · obtain rfl : i = 46 := by omega
        clear hc hk hr hlt
        have d1 := HI.out.sl 45 (by omega) (by omega) (by omega) (ready_on hi (by rw [← HOps.out]; kernel_rfl))
        simp [cl, slotJ] at d1
        refine wpOp_step (by rw [← HOps.out]; rfl) (fun K' hK => ?_)
        have HK := Lib.hid hK
        clear hK
        unfold Frm
        go_simp
        exact HK.out _ _ ⟨upd f 48 (.pointer (some ⟨g, 12, none⟩)), (by unfold Frm; simp [upd, d1]), HI.out.slot (Below.refl _ _) 46 (by omega) (by omega) (by omega) (by unfold cl; simp)⟩
      · obtain rfl : i = 47 := by omega
        clear hc hk hr hlt
        have d1 := HI.out.sl 43 (by omega) (by omega) (by omega) (ready_on hi (by rw [← HOps.out]; kernel_rfl))
        have d2 := HI.out.sl 46 (by omega) (by omega) (by omega) (ready_on hi (by rw [← HOps.out]; kernel_rfl))
        simp [cl, slotJ] at d1 d2
        refine wpOp_step (by rw [← HOps.out]; rfl) (fun K' hK => ?_)
        have HK := Lib.hid hK
        clear hK
        unfold Frm
        go_simp
        go_wp2_with (go_at_call 55; refine (numfn_any _ _ _ _ _).mono ?_; rintro e w1 ⟨v, rfl, ht, hb⟩)
        exact HK.out _ _ ⟨upd f 49 v, by unfold Frm; simp [upd, d1, d2], HI.out.slot hb 47 (by omega) (by omega) (by omega) (by unfold cl; exact ht)⟩
      · obtain rfl : i = 48 := by omega
        clear hc hk hr hlt
        obtain ⟨M, l, v, f9, f14, hm, hl, hfin⟩ := HI.out.fresh 7 (by omega) hn (ready_on hi (by rw [← HOps.out]; kernel_rfl)) (ready_on hi (by rw [← HOps.out]; kernel_rfl))
        obtain ⟨w1, hput, h1, h2, h3⟩ := run_put hm (chK 7) v hl
        rw [show chK 7 = 104 from rfl] at hput
        have HF := Lib.hid (hfin w1 h1 h2)
        clear hfin h1 h2 h3 hm hl
        simp only [Nat.reduceAdd, Nat.reduceMul] at f14
        refine wpOp_step (by rw [← HOps.out]; rfl) (fun K' hK => ?_)
        have HK := Lib.hid hK
        clear hK
        unfold Frm
        go_simp
        exact HK.out _ _ ⟨f, by simp [Frm, f9, f14], HF.out⟩
    · rcases (show r = 0 ∨ r = 1 ∨ r = 2 ∨ r = 3 ∨ r = 4 ∨ r = 5 by omega) with rfl | rfl | rfl | rfl | rfl | rfl
      · obtain rfl : i = 49 := by omega
        clear hc hk hr hlt
        refine wpOp_step (by rw [← HOps.out]; rfl) (fun K' hK => ?_)
        have HK := Lib.hid hK
        clear hK
        unfold Frm
        go_simp
        exact HK.out _ _ ⟨upd f 50 (.func (.func 55) #[] #[.pointer (some ⟨w.heap.size, 0, none⟩)]), rfl, HI.out.slot (Below.refl _ _) 49 (by omega) (by omega) (by omega) (by unfold cl; simp)⟩
      · obtain rfl : i = 50 := by omega
        clear hc hk hr hlt
        refine wpOp_step (by rw [← HOps.out]; rfl) (fun K' hK => ?_)
        have HK := Lib.hid hK
        clear hK
        unfold Frm
        go_simp
        exact HK.out _ _ ⟨upd f 51 (.pointer (some ⟨g, 5, none⟩)), rfl, HI.out.slot (Below.refl _ _) 50 (by omega) (by omega) (by omega) (by unfold cl; simp)⟩
      · obtain rfl : i = 51 := by omega
        clear hc hk hr hlt
        have d1 := HI.out.sl 50 (by omega) (by omega) (by omega) (ready_on hi (by rw [← HOps.out]; kernel_rfl))
        simp [cl, slotJ] at d1
        refine wpOp_step (by rw [← HOps.out]; rfl) (fun K' hK => ?_)
        have HK := Lib.hid hK
        clear hK
        unfold Frm
        go_simp
        exact HK.out _ _ ⟨upd f 52 (.pointer (some ⟨g, 5, none⟩)), (by unfold Frm; simp [upd, d1]), HI.out.slot (Below.refl _ _) 51 (by omega) (by omega) (by omega) (by unfold cl; simp)⟩
      · obtain rfl : i = 52 := by omega
        clear hc hk hr hlt
        have d1 := HI.out.sl 51 (by omega) (by omega) (by omega) (ready_on hi (by rw [← HOps.out]; kernel_rfl))
        simp [cl, slotJ] at d1
        refine wpOp_step (by rw [← HOps.out]; rfl) (fun K' hK => ?_)
        have HK := Lib.hid hK
        clear hK
        unfold Frm
        go_simp
        exact HK.out _ _ ⟨upd f 53 (.pointer (some ⟨g, 13, none⟩)), (by unfold Frm; simp [upd, d1]), HI.out.slot (Below.refl _ _) 52 (by omega) (by omega) (by omega) (by unfold cl; simp)⟩
      · obtain rfl : i = 53 := by omega
        clear hc hk hr hlt
        have d1 := HI.out.sl 49 (by omega) (by omega) (by omega) (ready_on hi (by rw [← HOps.out]; kernel_rfl))
        have d2 := HI.out.sl 52 (by omega) (by omega) (by omega) (ready_on hi (by rw [← HOps.out]; kernel_rfl))
        simp [cl, slotJ] at d1 d2
        refine wpOp_step (by rw [← HOps.out]; rfl) (fun K' hK => ?_)
        have HK := Lib.hid hK
        clear hK
        unfold Frm
        go_simp
        go_wp2_with (go_at_call 55; refine (numfn_any _ _ _ _ _).mono ?_; rintro e w1 ⟨v, rfl, ht, hb⟩)
        exact HK.out _ _ ⟨upd f 54 v, by unfold Frm; simp [upd, d1, d2], HI.out.slot hb 53 (by omega) (by omega) (by omega) (by unfold cl; exact ht)⟩
      · obtain rfl : i = 54 := by omega
        clear hc hk hr hlt
        obtain ⟨M, l, v, f9, f14, hm, hl, hfin⟩ := HI.out.fresh 8 (by omega) hn (ready_on hi (by rw [← HOps.out]; kernel_rfl)) (ready_on hi (by rw [← HOps.out]; kernel_rfl))
        obtain ⟨w1, hput, h1, h2, h3⟩ := run_put hm (chK 8) v hl
        rw [show chK 8 = 66 from rfl] at hput
        have HF := Lib.hid (hfin w1 h1 h2)
        clear hfin h1 h2 h3 hm hl
        simp only [Nat.reduceAdd, Nat.reduceMul] at f14
        refine wpOp_step (by rw [← HOps.out]; rfl) (fun K' hK => ?_)
        have HK := Lib.hid hK
        clear hK
        unfold Frm
        go_simp
        exact HK.out _ _ ⟨f, by simp [Frm, f9, f14], HF.out⟩
    · rcases (show r = 0 ∨ r = 1 ∨ r = 2 ∨ r = 3 ∨ r = 4 ∨ r = 5 by omega) with rfl | rfl | rfl | rfl | rfl | rfl
      · obtain rfl : i = 55 := by omega
        clear hc hk hr hlt
        refine wpOp_step (by rw [← HOps.out]; rfl) (fun K' hK => ?_)
        have HK := Lib.hid hK
        clear hK
        unfold Frm
        go_simp
        exact HK.out _ _ ⟨upd f 55 (.func (.func 55) #[] #[.pointer (some ⟨w.heap.size, 0, none⟩)]), rfl, HI.out.slot (Below.refl _ _) 55 (by omega) (by omega) (by omega) (by unfold cl; simp)⟩
      · obtain rfl : i = 56 := by omega
        clear hc hk hr hlt
        refine wpOp_step (by rw [← HOps.out]; rfl) (fun K' hK => ?_)
        have HK := Lib.hid hK
        clear hK
        unfold Frm
        go_simp
        exact HK.out _ _ ⟨upd f 56 (.pointer (some ⟨g, 5, none⟩)), rfl, HI.out.slot (Below.refl _ _) 56 (by omega) (by omega) (by omega) (by unfold cl; simp)⟩
      · obtain rfl : i = 57 := by omega
        clear hc hk hr hlt
        have d1 := HI.out.sl 56 (by omega) (by omega) (by omega) (ready_on hi (by rw [← HOps.out]; kernel_rfl))
        simp [cl, slotJ] at d1
        refine wpOp_step (by rw [← HOps.out]; rfl) (fun K' hK => ?_)
        have HK := Lib.hid hK
        clear hK
        unfold Frm
        go_simp
        exact HK.out _ _ ⟨upd f 57 (.pointer (some ⟨g, 5, none⟩)), (by unfold Frm; simp [upd, d1]), HI.out.slot (Below.refl _ _) 57 (by omega) (by omega) (by omega) (by unfold cl; simp)⟩
      · obtain rfl : i = 58 := by omega
        clear hc hk hr hlt
        have d1 := HI.out.sl 57 (by omega) (by omega) (by omega) (ready_on hi (by rw [← HOps.out]; kernel_rfl))
        simp [cl, slotJ] at d1
        refine wpOp_step (by rw [← HOps.out]; rfl) (fun K' hK => ?_)
        have HK := Lib.hid hK
        clear hK
        unfold Frm
        go_simp
        exact HK.out _ _ ⟨upd f 58 (.pointer (some ⟨g, 14, none⟩)), (by unfold Frm; simp [upd, d1]), HI.out.slot (Below.refl _ _) 58 (by omega) (by omega) (by omega) (by unfold cl; simp)⟩
      · obtain rfl : i = 59 := by omega
        clear hc hk hr hlt
        have d1 := HI.out.sl 55 (by omega) (by omega) (by omega) (ready_on hi (by rw [← HOps.out]; kernel_rfl))
        have d2 := HI.out.sl 58 (by omega) (by omega) (by omega) (ready_on hi (by rw [← HOps.out]; kernel_rfl))
        simp [cl, slotJ] at d1 d2
        refine wpOp_step (by rw [← HOps.out]; rfl) (fun K' hK => ?_)
        have HK := Lib.hid hK
        clear hK
        unfold Frm
        go_simp
        go_wp2_with (go_at_call 55; refine (numfn_any _ _ _ _ _).mono ?_; rintro e w1 ⟨v, rfl, ht, hb⟩)
        exact HK.out _ _ ⟨upd f 59 v, by unfold Frm; simp [upd, d1, d2], HI.out.slot hb 59 (by omega) (by omega) (by omega) (by unfold cl; exact ht)⟩
      · obtain rfl : i = 60 := by omega
        clear hc hk hr hlt
        obtain ⟨M, l, v, f9, f14, hm, hl, hfin⟩ := HI.out.fresh 9 (by omega) hn (ready_on hi (by rw [← HOps.out]; kernel_rfl)) (ready_on hi (by rw [← HOps.out]; kernel_rfl))
        obtain ⟨w1, hput, h1, h2, h3⟩ := run_put hm (chK 9) v hl
        rw [show chK 9 = 65 from rfl] at hput
        have HF := Lib.hid (hfin w1 h1 h2)
        clear hfin h1 h2 h3 hm hl
        simp only [Nat.reduceAdd, Nat.reduceMul] at f14
        refine wpOp_step (by rw [← HOps.out]; rfl) (fun K' hK => ?_)
        have HK := Lib.hid hK
        clear hK
        unfold Frm
        go_simp
        exact HK.out _ _ ⟨f, by simp [Frm, f9, f14], HF.out⟩
    · rcases (show r = 0 ∨ r = 1 ∨ r = 2 ∨ r = 3 ∨ r = 4 ∨ r = 5 by omega) with rfl | rfl | rfl | rfl | rfl | rfl
      · obtain rfl : i = 61 := by omega
        clear hc hk hr hlt
        refine wpOp_step (by rw [← HOps.out]; rfl) (fun K' hK => ?_)
        have HK := Lib.hid hK
        clear hK
        unfold Frm
        go_simp
        exact HK.out _ _ ⟨upd f 60 (.func (.func 55) #[] #[.pointer (some ⟨w.heap.size, 0, none⟩)]), rfl, HI.out.slot (Below.refl _ _) 61 (by omega) (by omega) (by omega) (by unfold cl; simp)⟩
      · obtain rfl : i = 62 := by omega
        clear hc hk hr hlt
        refine wpOp_step (by rw [← HOps.out]; rfl) (fun K' hK => ?_)
        have HK := Lib.hid hK
        clear hK
        unfold Frm
        go_simp
        exact HK.out _ _ ⟨upd f 61 (.pointer (some ⟨g, 5, none⟩)), rfl, HI.out.slot (Below.refl _ _) 62 (by omega) (by omega) (by omega) (by unfold cl; simp)⟩
      · obtain rfl : i = 63 := by omega
        clear hc hk hr hlt
        have d1 := HI.out.sl 62 (by omega) (by omega) (by omega) (ready_on hi (by rw [← HOps.out]; kernel_rfl))
        simp [cl, slotJ] at d1
        refine wpOp_step (by rw [← HOps.out]; rfl) (fun K' hK => ?_)
        have HK := Lib.hid hK
        clear hK
        unfold Frm
        go_simp
        exact HK.out _ _ ⟨upd f 62 (.pointer (some ⟨g, 5, none⟩)), (by unfold Frm; simp [upd, d1]), HI.out.slot (Below.refl _ _) 63 (by omega) (by omega) (by omega) (by unfold cl; simp)⟩
      · obtain rfl : i = 64 := by omega
        clear hc hk hr hlt
        have d1 := HI.out.sl 63 (by omega) (by omega) (by omega) (ready_on hi (by rw [← HOps.out]; kernel_rfl))
        simp [cl, slotJ] at d1
        refine wpOp_step (by rw [← HOps.out]; rfl) (fun K' hK => ?_)
        have HK := Lib.hid hK
        clear hK
        unfold Frm
        go_simp
        exact HK.out _ _ ⟨upd f 63 (.pointer (some ⟨g, 15, none⟩)), (by unfold Frm; simp [upd, d1]), HI.out.slot (Below.refl _ _) 64 (by omega) (by omega) (by omega) (by unfold cl; simp)⟩
      · obtain rfl : i = 65 := by omega
        clear hc hk hr hlt
        have d1 := HI.out.sl 61 (by omega) (by omega) (by omega) (ready_on hi (by rw [← HOps.out]; kernel_rfl))
        have d2 := HI.out.sl 64 (by omega) (by omega) (by omega) (ready_on hi (by rw [← HOps.out]; kernel_rfl))
        simp [cl, slotJ] at d1 d2
        refine wpOp_step (by rw [← HOps.out]; rfl) (fun K' hK => ?_)
        have HK := Lib.hid hK
        clear hK
        unfold Frm
        go_simp
        go_wp2_with (go_at_call 55; refine (numfn_any _ _ _ _ _).mono ?_; rintro e w1 ⟨v, rfl, ht, hb⟩)
        exact HK.out _ _ ⟨upd f 64 v, by unfold Frm; simp [upd, d1, d2], HI.out.slot hb 65 (by omega) (by omega) (by omega) (by unfold cl; exact ht)⟩
      · obtain rfl : i = 66 := by omega
        clear hc hk hr hlt
        obtain ⟨M, l, v, f9, f14, hm, hl, hfin⟩ := HI.out.fresh 10 (by omega) hn (ready_on hi (by rw [← HOps.out]; kernel_rfl)) (ready_on hi (by rw [← HOps.out]; kernel_rfl))
        obtain ⟨w1, hput, h1, h2, h3⟩ := run_put hm (chK 10) v hl
        rw [show chK 10 = 73 from rfl] at hput
        have HF := Lib.hid (hfin w1 h1 h2)
        clear hfin h1 h2 h3 hm hl
        simp only [Nat.reduceAdd, Nat.reduceMul] at f14
        refine wpOp_step (by rw [← HOps.out]; rfl) (fun K' hK => ?_)
        have HK := Lib.hid hK
        clear hK
        unfold Frm
        go_simp
        exact HK.out _ _ ⟨f, by simp [Frm, f9, f14], HF.out⟩
    · rcases (show r = 0 ∨ r = 1 ∨ r = 2 ∨ r = 3 ∨ r = 4 ∨ r = 5 by omega) with rfl | rfl | rfl | rfl | rfl | rfl
      · obtain rfl : i = 67 := by omega
        clear hc hk hr hlt
        refine wpOp_step (by rw [← HOps.out]; rfl) (fun K' hK => ?_)
        have HK := Lib.hid hK
        clear hK
        unfold Frm
        go_simp
        exact HK.out _ _ ⟨upd f 65 (.func (.func 55) #[] #[.pointer (some ⟨w.heap.size, 0, none⟩)]), rfl, HI.out.slot (Below.refl _ _) 67 (by omega) (by omega) (by omega) (by unfold cl; simp)⟩
      · obtain rfl : i = 68 := by omega
        clear hc hk hr hlt
        refine wpOp_step (by rw [← HOps.out]; rfl) (fun K' hK => ?_)
        have HK := Lib.hid hK
        clear hK
        unfold Frm
        go_simp
        exact HK.out _ _ ⟨upd f 66 (.pointer (some ⟨g, 5, none⟩)), rfl, HI.out.slot (Below.refl _ _) 68 (by omega) (by omega) (by omega) (by unfold cl; simp)⟩
      · obtain rfl : i = 69 := by omega
        clear hc hk hr hlt
        have d1 := HI.out.sl 68 (by omega) (by omega) (by omega) (ready_on hi (by rw [← HOps.out]; kernel_rfl))
        simp [cl, slotJ] at d1
        refine wpOp_step (by rw [← HOps.out]; rfl) (fun K' hK => ?_)
        have HK := Lib.hid hK
        clear hK
        unfold Frm
        go_simp
        exact HK.out _ _ ⟨upd f 67 (.pointer (some ⟨g, 5, none⟩)), (by unfold Frm; simp [upd, d1]), HI.out.slot (Below.refl _ _) 69 (by omega) (by omega) (by omega) (by unfold cl; simp)⟩
      · obtain rfl : i = 70 := by omega
        clear hc hk hr hlt
        have d1 := HI.out.sl 69 (by omega) (by omega) (by omega) (ready_on hi (by rw [← HOps.out]; kernel_rfl))
        simp [cl, slotJ] at d1
        refine wpOp_step (by rw [← HOps.out]; rfl) (fun K' hK => ?_)
        have HK := Lib.hid hK
        clear hK
        unfold Frm
        go_simp
        exact HK.out _ _ ⟨upd f 68 (.pointer (some ⟨g, 16, none⟩)), (by unfold Frm; simp [upd, d1]), HI.out.slot (Below.refl _ _) 70 (by omega) (by omega) (by omega) (by unfold cl; simp)⟩
      · obtain rfl : i = 71 := by omega
        clear hc hk hr hlt
        have d1 := HI.out.sl 67 (by omega) (by omega) (by omega) (ready_on hi (by rw [← HOps.out]; kernel_rfl))
        have d2 := HI.out.sl 70 (by omega) (by omega) (by omega) (ready_on hi (by rw [← HOps.out]; kernel_rfl))
        simp [cl, slotJ] at d1 d2
        refine wpOp_step (by rw [← HOps.out]; rfl) (fun K' hK => ?_)
        have HK := Lib.hid hK
        clear hK
        unfold Frm
        go_simp
        go_wp2_with (go_at_call 55; refine (numfn_any _ _ _ _ _).mono ?_; rintro e w1 ⟨v, rfl, ht, hb⟩)
        exact HK.out _ _ ⟨upd f 69 v, by unfold Frm; simp [upd, d1, d2], HI.out.slot hb 71 (by omega) (by omega) (by omega) (by unfold cl; exact ht)⟩
      · obtain rfl : i = 72 := by omega
        clear hc hk hr hlt
        obtain ⟨M, l, v, f9, f14, hm, hl, hfin⟩ := HI.out.fresh 11 (by omega) hn (ready_on hi (by rw [← HOps.out]; kernel_rfl)) (ready_on hi (by rw [← HOps.out]; kernel_rfl))
        obtain ⟨w1, hput, h1, h2, h3⟩ := run_put hm (chK 11) v hl
        rw [show chK 11 = 99 from rfl] at hput
        have HF := Lib.hid (hfin w1 h1 h2)
        clear hfin h1 h2 h3 hm hl
        simp only [Nat.reduceAdd, Nat.reduceMul] at f14
        refine wpOp_step (by rw [← HOps.out]; rfl) (fun K' hK => ?_)
        have HK := Lib.hid hK
        clear hK
        unfold Frm
        go_simp
        exact HK.out _ _ ⟨f, by simp [Frm, f9, f14], HF.out⟩
  · rintro listed a w' ⟨f, rfl, hI⟩ hr
    have hall := all_listed hbk (by rw [hsz]; exact hI.size) hr
    rw [hsz] at hall
    obtain ⟨M, hM, hL, hB⟩ := hI.all hall
    unfold Frm
    clear hI hall hr
    have HL := Lib.hid hL
    have HB := Lib.hid hB
    clear hL hB
    rw [hM]
    go_wp2_with fail
    go_ret
    exact ⟨M, _, rfl, HL.out, HB.out⟩
  · intro j h1 h2 h3 hl; exact absurd hl (by unfold L; rw [getD_replicate_false]; decide)
  · intro hl; exact absurd hl (by unfold L; rw [getD_replicate_false]; decide)
  · intro k hk hl; exact absurd hl (by unfold L; rw [getD_replicate_false]; decide)
  · intro hl; exact absurd hl (by unfold L; rw [getD_replicate_false]; decide)
  · intro hl; exact absurd hl (by unfold L; rw [getD_replicate_false]; decide)
end Go.Proofs.YtechccoongilcaaDoor
