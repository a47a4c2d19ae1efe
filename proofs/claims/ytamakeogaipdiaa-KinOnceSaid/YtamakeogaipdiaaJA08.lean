import Derived.Test.YtamakeogaipdiaaJA03
import Derived.Test.YtamakeogaipdiaaJA00
import Derived.Test.YtamakeogaipdiaaJA01
import Derived.BigQuiet
/- The program's package valid: how much one node is. (Written by program: tools/drafts/genalone.py.) -/
namespace Go.Proofs.Ytamakeogaipdiaa
open Go.RowKit
set_option linter.unusedVariables false
set_option linter.unusedSimpArgs false
def aloneS (x : Nd) : Sm := ⟨0, piecesN x, 1, if x.kind = 2 then timesI x.line x.words.length else highN x⟩
theorem ptimes_on {line many v : Int} (hv : timesI line many = v) (w : World) (h1 : 1 ≤ line) (h2 : 1 ≤ many) (h3 : many ≤ 9223372036854775807) : Calls Try.prog 97 #[.int .i64 line, .int .i64 many] w fun e w' => e = .returned (.int .i64 v) ∧ Below w.heap.size w w' :=
  (ptimes_to hv w h1 h2 h3).mono fun e w' ⟨h, k⟩ => ⟨h, by rw [← k]; exact Below.refl _ _⟩
theorem alone_high {x : Nd} (hf : x.fits) (hx : x.words.length ≤ 9223372036854775807) : 0 ≤ (aloneS x).heights ∧ (aloneS x).heights ≤ 8796093022208 ∧ ∀ a, 0 ≤ a → min (cut a + (aloneS x).heights) cutN = cut (a + highN x) := by
  unfold aloneS
  by_cases h2 : x.kind = 2
  · simp only [if_pos h2]
    rcases hf with ⟨k, _⟩ | ⟨_, _, hl, _, hw, _⟩ | ⟨k, _⟩ | ⟨k, _⟩
    · omega
    · have hn : 1 ≤ (x.words.length : Int) := by
        have := List.length_pos_iff.2 hw
        omega
      rw [timesI_cut hl.1 hn]
      have hm : 0 ≤ x.line * (x.words.length : Int) := Int.mul_nonneg (by have := hl.1; omega) (by omega)
      have hh : highN x = x.line * (x.words.length : Int) := by unfold highN; rw [if_neg (by omega), if_pos h2]
      refine ⟨cut_pos hm, ?_, fun a ha => ?_⟩
      · have := cut_le (x.line * (x.words.length : Int)); unfold cutN at this; omega
      · rw [hh, cut_cut ha hm]
    · omega
    · omega
  · simp only [if_neg h2]
    have hp := high_pos hf
    refine ⟨hp, ?_, fun a ha => (cut_step hp).symm⟩
    unfold highN
    rcases hf with ⟨hk, hs, _⟩ | ⟨hk, _⟩ | ⟨hk, _, _, _, _, _, hh, _⟩ | ⟨hk, _, _, _, _, _, hh, _⟩
    · rw [if_pos hk]
      obtain ⟨⟨h1, h2, h3, h4, _⟩, _, h5, _⟩ := hs
      unfold okN maxN at *
      omega
    · omega
    · rw [if_neg (by omega), if_neg (by omega)]; have := hh.2; unfold maxN at this; omega
    · rw [if_neg (by omega), if_neg (by omega)]; have := hh.2; unfold maxN at this; omega
set_option maxHeartbeats 4000000 in
set_option maxRecDepth 100000 in
theorem palone_k1 (m : NdM) (x : Nd) (w : World) (hk : m.kind = 1) (hS : Shows w m x) (hf : x.fits) : Calls Try.prog 91 #[.agg (encM m).toArray] w fun e w' => e = .returned (sumV (aloneS x)) ∧ Below w.heap.size w w' := by
  show Calls Try.prog 91 #[.agg #[.int .i64 m.kind, .int .i64 m.size, .int .i64 m.sty.top, .int .i64 m.sty.bottom, .int .i64 m.sty.padTop, .int .i64 m.sty.padBottom, .int .i64 m.sty.inset, .int .i64 m.sty.orphans, .int .i64 m.sty.widows, .int .i64 m.sty.head, .int .i64 m.sty.before, .int .i64 m.sty.after, .int .i64 m.sty.inside, .int .i64 m.sty.clear, .int .i64 m.line, .int .i64 m.space, .slice m.A m.n m.c, .int .i64 m.side, .int .i64 m.w, .int .i64 m.h]] w fun e w' => e = .returned (sumV (aloneS x)) ∧ Below w.heap.size w w'
  obtain ⟨⟨e1, e2, e3, e4, e5, e6, e7, e8⟩, hI⟩ := hS
  have hk' : x.kind = 1 := by rw [e1, hk]
  obtain ⟨h, hh⟩ : ∃ h, m.sty.top + m.sty.bottom + m.sty.padTop + m.sty.padBottom + m.sty.head = h := ⟨_, rfl⟩
  have HV := Lib.hid (show aloneS x = ⟨0, 0, 1, h⟩ by unfold aloneS piecesN highN; rw [← hh, e3]; simp [hk'])
  have hs : m.sty.fits := by
    rcases hf with ⟨_, h, _⟩ | ⟨k, _⟩ | ⟨k, _⟩ | ⟨k, _⟩
    · rw [← e3]; exact h
    · omega
    · omega
    · omega
  obtain ⟨⟨⟨a0, b0⟩, ⟨a1, b1⟩, ⟨a2, b2⟩, ⟨a3, b3⟩, _⟩, _, ⟨a7, b7⟩, _⟩ := hs
  unfold maxN at *
  have k1 : (m.kind == 1) = true := by rw [hk]; rfl
  clear hk hk' e1 e2 e3 e4 e5 e6 e7 e8 hI hf
  go_enter Try.func91, Try.ntmps91
  go_wp2_with fail
  refine bodyPost_ret (v := .agg #[.int .i64 0, .int .i64 0, .int .i64 1, .int .i64 h]) (by simp [results, Try.results91, go_sem]) rfl ⟨by rw [HV.out]; rfl, by go_grown⟩
set_option maxHeartbeats 4000000 in
set_option maxRecDepth 100000 in
theorem palone_k3 (m : NdM) (x : Nd) (w : World) (hk : m.kind = 3 ∨ m.kind = 4) (hS : Shows w m x) : Calls Try.prog 91 #[.agg (encM m).toArray] w fun e w' => e = .returned (sumV (aloneS x)) ∧ Below w.heap.size w w' := by
  show Calls Try.prog 91 #[.agg #[.int .i64 m.kind, .int .i64 m.size, .int .i64 m.sty.top, .int .i64 m.sty.bottom, .int .i64 m.sty.padTop, .int .i64 m.sty.padBottom, .int .i64 m.sty.inset, .int .i64 m.sty.orphans, .int .i64 m.sty.widows, .int .i64 m.sty.head, .int .i64 m.sty.before, .int .i64 m.sty.after, .int .i64 m.sty.inside, .int .i64 m.sty.clear, .int .i64 m.line, .int .i64 m.space, .slice m.A m.n m.c, .int .i64 m.side, .int .i64 m.w, .int .i64 m.h]] w fun e w' => e = .returned (sumV (aloneS x)) ∧ Below w.heap.size w w'
  obtain ⟨⟨e1, e2, e3, e4, e5, e6, e7, e8⟩, hI⟩ := hS
  have q1 : ¬ x.kind = 1 := by rw [e1]; omega
  have q2 : ¬ x.kind = 2 := by rw [e1]; omega
  have HV := Lib.hid (show aloneS x = ⟨0, 1, 1, m.h⟩ by unfold aloneS piecesN highN; rw [← e8]; simp [q1, q2])
  have k1 : (m.kind == 1) = false := by simp; omega
  have k2 : (m.kind == 2) = false := by simp; omega
  clear hk e1 e2 e3 e4 e5 e6 e7 e8 hI q1 q2
  go_enter Try.func91, Try.ntmps91
  go_wp2_with fail
  refine bodyPost_ret (v := .agg #[.int .i64 0, .int .i64 1, .int .i64 1, .int .i64 m.h]) (by simp [results, Try.results91, go_sem]) rfl ⟨by rw [HV.out]; rfl, by go_grown⟩
set_option maxHeartbeats 4000000 in
set_option maxRecDepth 100000 in
theorem palone_k2 (m : NdM) (x : Nd) (w : World) (hk : m.kind = 2) (hS : Shows w m x) (hf : x.fits) : Calls Try.prog 91 #[.agg (encM m).toArray] w fun e w' => e = .returned (sumV (aloneS x)) ∧ Below w.heap.size w w' := by
  show Calls Try.prog 91 #[.agg #[.int .i64 m.kind, .int .i64 m.size, .int .i64 m.sty.top, .int .i64 m.sty.bottom, .int .i64 m.sty.padTop, .int .i64 m.sty.padBottom, .int .i64 m.sty.inset, .int .i64 m.sty.orphans, .int .i64 m.sty.widows, .int .i64 m.sty.head, .int .i64 m.sty.before, .int .i64 m.sty.after, .int .i64 m.sty.inside, .int .i64 m.sty.clear, .int .i64 m.line, .int .i64 m.space, .slice m.A m.n m.c, .int .i64 m.side, .int .i64 m.w, .int .i64 m.h]] w fun e w' => e = .returned (sumV (aloneS x)) ∧ Below w.heap.size w w'
  obtain ⟨⟨e1, e2, e3, e4, e5, e6, e7, e8⟩, hI⟩ := hS
  have q2 : x.kind = 2 := by rw [e1, hk]
  have hl := hI.1
  have hmx := hI.2.1
  obtain ⟨t, ht⟩ : ∃ t, timesI m.line (m.n : Int) = t := ⟨_, rfl⟩
  have HT := Lib.hid ht
  have HV := Lib.hid (show aloneS x = ⟨0, (m.n : Int), 1, t⟩ by unfold aloneS piecesN; rw [← ht, e4, hl, if_neg (by omega), if_pos q2, if_pos q2])
  have hb : 1 ≤ m.line ∧ 1 ≤ (m.n : Int) := by
    rcases hf with ⟨k, _⟩ | ⟨_, _, hl', _, hw, _⟩ | ⟨k, _⟩ | ⟨k, _⟩
    · omega
    · have := List.length_pos_iff.2 hw
      rw [← e4]
      exact ⟨hl'.1, by omega⟩
    · omega
    · omega
  obtain ⟨hb1, hb2⟩ := hb
  have hb3 : (m.n : Int) ≤ 9223372036854775807 := by omega
  have k1 : (m.kind == 1) = false := by rw [hk]; rfl
  have k2 : (m.kind == 2) = true := by rw [hk]; rfl
  clear hk e1 e2 e3 e4 e5 e6 e7 e8 hI q2 ht hf hl
  go_enter Try.func91, Try.ntmps91
  go_wp2_with fail
  generalize hW : ((w.alloc (.cells #[.int .i64 m.kind, .int .i64 m.size, .int .i64 m.sty.top, .int .i64 m.sty.bottom, .int .i64 m.sty.padTop, .int .i64 m.sty.padBottom, .int .i64 m.sty.inset, .int .i64 m.sty.orphans, .int .i64 m.sty.widows, .int .i64 m.sty.head, .int .i64 m.sty.before, .int .i64 m.sty.after, .int .i64 m.sty.inside, .int .i64 m.sty.clear, .int .i64 m.line, .int .i64 m.space, .slice m.A m.n m.c, .int .i64 m.side, .int .i64 m.w, .int .i64 m.h] 45)).alloc (.cells #[.int .i64 0, .int .i64 0, .int .i64 0, .int .i64 0] 88)) = W
  have hA : Box W w.heap.size [.int .i64 m.kind, .int .i64 m.size, .int .i64 m.sty.top, .int .i64 m.sty.bottom, .int .i64 m.sty.padTop, .int .i64 m.sty.padBottom, .int .i64 m.sty.inset, .int .i64 m.sty.orphans, .int .i64 m.sty.widows, .int .i64 m.sty.head, .int .i64 m.sty.before, .int .i64 m.sty.after, .int .i64 m.sty.inside, .int .i64 m.sty.clear, .int .i64 m.line, .int .i64 m.space, .slice m.A m.n m.c, .int .i64 m.side, .int .i64 m.w, .int .i64 m.h] := by rw [← hW]; exact (box_new w _ _ _ rfl _ rfl).alloc _
  have hR : Box W (w.heap.size + 1) [.int .i64 0, .int .i64 0, .int .i64 0, .int .i64 0] := by rw [← hW]; exact box_new _ _ _ _ (by simp) _ rfl
  have HB := Lib.hid (show Below w.heap.size w W by rw [← hW]; go_grown)
  clear hW
  have a14 : ∀ p : OnW W, p.w.cell? ⟨w.heap.size, 14, none⟩ = some (.int .i64 m.line) := fun p => OnW.cell (hA.2.2 14 _ rfl) p
  have a16 : ∀ p : OnW W, p.w.cell? ⟨w.heap.size, 16, none⟩ = some (.slice m.A m.n m.c) := fun p => OnW.cell (hA.2.2 16 _ rfl) p
  refine wp_region_on_tail 10 (by kernel_rfl) (by kernel_rfl) rfl (by kernel_rfl) ?_
  simp only [headOf, List.take_succ_cons, List.take_zero, List.getElem_toArray, List.getElem_cons_succ, List.getElem_cons_zero]
  repeat (go_big_quiet_step ((first
    | (go_at_call 97; with_reducible exact Calls.on_of (ptimes_on HT.out _ hb1 hb2 hb3)))))
  refine wpQuiet_nil ?_
  intro w3 hw'
  obtain ⟨⟨w', hOn⟩, hw''⟩ := hw'
  obtain rfl : w3 = w' := hw''
  replace HB := Lib.hid (below_then HB.out hOn)
  replace hR := On.box hR _ hOn
  clear a14 a16 hA hOn
  have s0 := hR.2.2 0 _ rfl
  have s1 := hR.2.2 1 _ rfl
  have s2 := hR.2.2 2 _ rfl
  have s3 := hR.2.2 3 _ rfl
  have f0 := hR.2.1 0
  have f1 := hR.2.1 1
  have f2 := hR.2.1 2
  have f3 := hR.2.1 3
  have fl := hR.1
  have HR := Lib.hid hR
  clear hR
  go_wp2_with fail
  have hY := (((HR.out.set 0 (.int .i64 0) (by simp)).set 1 (.int .i64 (m.n : Int)) (by simp)).set 2 (.int .i64 1) (by simp)).set 3 (.int .i64 t) (by simp)
  have r0 := hY.2.2 0 _ rfl
  have r1 := hY.2.2 1 _ rfl
  have r2 := hY.2.2 2 _ rfl
  have r3 := hY.2.2 3 _ rfl
  refine bodyPost_ret (v := .agg #[.int .i64 0, .int .i64 (m.n : Int), .int .i64 1, .int .i64 t]) (by simp [results, Try.results91, go_sem, r0, r1, r2, r3]) rfl ⟨by rw [HV.out]; rfl, ?_⟩
  exact (((HB.out.setCell (by simp) _).setCell (by simp) _).setCell (by simp) _).setCell (by simp) _
theorem palone_any (m : NdM) (x : Nd) (w : World) (hS : Shows w m x) (hf : x.fits) : Calls Try.prog 91 #[.agg (encM m).toArray] w fun e w' => e = .returned (sumV (aloneS x)) ∧ Below w.heap.size w w' := by
  have e1 := hS.1.1
  by_cases k1 : m.kind = 1
  · exact palone_k1 m x w k1 hS hf
  by_cases k2 : m.kind = 2
  · exact palone_k2 m x w k2 hS hf
  refine palone_k3 m x w ?_ hS
  rcases hf with ⟨k, _⟩ | ⟨k, _⟩ | ⟨k, _⟩ | ⟨k, _⟩ <;> omega
theorem palone_to {m : NdM} {x : Nd} {v : Sm} (hv : aloneS x = v) (w : World) (hS : Shows w m x) (hf : x.fits) : Calls Try.prog 91 #[.agg (encM m).toArray] w fun e w' => e = .returned (sumV v) ∧ Below w.heap.size w w' := by
  subst hv; exact palone_any m x w hS hf
end Go.Proofs.Ytamakeogaipdiaa
