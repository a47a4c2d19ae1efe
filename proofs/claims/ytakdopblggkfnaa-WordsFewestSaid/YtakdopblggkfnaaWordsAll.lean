import Derived.Test.YtakdopblggkfnaaWordsRef4
import Derived.Test.YtakdopblggkfnaaWordsTake
/- The program's package words: all lines. -/
namespace Go.Proofs.Ytakdopblggkfnaa
open Go.RowKit
set_option linter.unusedVariables false
set_option linter.unusedSimpArgs false
set_option maxHeartbeats 4000000 in
set_option maxRecDepth 100000 in
theorem pall_to {zs : List Int} {sp wd : Int} {rs : List Run3} (hv : linesR zs sp wd 0 = rs) (hn : Near9 zs sp) (hwd : I64w wd) {A : Option Addr} {n c : Nat} (hn2 : n ≤ 1000) {w : World} (h : Ints w A n zs) :
    Calls Try.prog 13 #[.slice A n c, .int .i64 sp, .int .i64 wd] w (RunsOut w rs) := by
  obtain ⟨D, hD⟩ : ∃ D, w.heap.size = D := ⟨_, rfl⟩
  obtain ⟨i0, hi0, hz0, hz1, hz2⟩ := info_parts run_info3
  have HA := Lib.hid h
  have HL := Lib.hid h.1
  have HV := Lib.hid hv
  have HD := Lib.hid hD
  have HNE := Lib.hid hn
  have HWD := Lib.hid hwd
  clear h hv hD hn hwd
  go_enter Try.func13, Try.ntmps13
  go_wp2_with fail
  go_loopw [7, 8, 9] (fun o i x wr => ∃ (k m c1 : Nat) (A1 : Option Addr) (pre : List Run3), o = .slice A1 m c1 ∧ i = .int .i64 (k : Int) ∧ k ≤ n ∧ m ≤ k ∧ Hid (pre ++ linesR zs sp wd k = linesR zs sp wd 0) ∧ Hid (wr.ownsRow D 27 3 (.slice A1 m c1) m (pre.flatMap encRun)) ∧ Hid (On w wr)) (fun _ i _ _ => n - (intOf i).toNat)
  case atStart => exact ⟨0, 0, 0, none, [], rfl, rfl, Nat.zero_le _, Nat.le_refl _, Lib.hid rfl, Lib.hid (owns_nil _ _ _ _), Lib.hid (On.refl w)⟩
  case round =>
    obtain ⟨k, m, c1, A1, pre, rfl, rfl, hkn, hmk, HP, HOw, HO⟩ := hrel
    by_cases hlt : k < n
    · have hk2 : (k : Int) < (n : Int) := by omega
      have hkl : k < zs.length := by have := HL.out; omega
      obtain ⟨s1, s2⟩ := endP_spec (sp := sp) (wd := wd) hkl
      obtain ⟨e, he⟩ : ∃ e, endP zs sp wd k = e := ⟨_, rfl⟩
      have hke : k < e ∧ e ≤ n := by have := s1.1; have := s1.2.1; have := HL.out; omega
      obtain ⟨z, hz⟩ : ∃ z, wideN zs sp k e = z := ⟨_, rfl⟩
      have HT := Lib.hid (show takeN zs sp wd k = ((k : Int), (e : Int), z) by unfold takeN; rw [he, hz])
      have HTI := Lib.hid (show takeI zs sp wd (k : Int) = ((k : Int), (e : Int), z) by rw [takeI_nat hkl]; exact HT.out)
      have HP2 := Lib.hid (show (pre ++ [((k : Int), (e : Int), z)]) ++ linesR zs sp wd e = linesR zs sp wd 0 by rw [← HP.out, linesR_step hkl, HT.out, he, List.append_assoc]; rfl)
      clear hkl s1 s2 he hz
      go_wp2_with fail
      refine (ptake_to HTI.out HNE.out (by unfold I64w; omega) HWD.out hn2 (HA.out.below HO.out rfl)).mono ?_
      rintro r w1 ⟨rfl, hb⟩
      have HO1 := Lib.hid (HO.out.step hb)
      have HOw1 := Lib.hid (owns_below HOw.out hb)
      clear hb
      go_wp2_with ((with_reducible refine stop_dst 22 ?_ ?_); exact rfl)
      refine Stop.intro ?_
      have hws := HO1.out.size
      have hbx : Box (w1.alloc (.cells #[.int .i64 (k : Int), .int .i64 (e : Int), .int .i64 z] 27)) w1.heap.size [.int .i64 (k : Int), .int .i64 (e : Int), .int .i64 z] := box3 _ _ _ _ _
      obtain ⟨V, hV⟩ : ∃ V, w1.alloc (.cells #[.int .i64 (k : Int), .int .i64 (e : Int), .int .i64 z] 27) = V := ⟨_, rfl⟩
      have hbV : Below w1.heap.size w1 V := by rw [← hV]; exact (Below.refl _ _).alloc (Nat.le_refl _) _
      have hVs : V.heap.size = w1.heap.size + 1 := by rw [← hV]; simp
      rw [hV] at hbx ⊢
      have hc3 := cells_three V 27 (.int .i64 (k : Int)) (.int .i64 (e : Int)) (.int .i64 z)
      rw [hVs] at hc3
      have hOA := owns_below (owns_below HOw1.out hbV) ((Below.refl V.heap.size V).alloc (Nat.le_refl _) (.cells #[.int .i64 (k : Int), .int .i64 (e : Int), .int .i64 z] 27))
      refine wpList_append_cells _ rfl (.tmp 19) (.tmp 21) _ rfl D 27 i0 (.agg #[.int .i64 0, .int .i64 0, .int .i64 0]) 3 24 Try.underlying30 hi0 hz0 hz1 hz2 rfl (by decide) (.slice A1 m c1) m _ rfl hOA _ 1 1 _ rfl hc3 (encRun_one ((k : Int), (e : Int), z)) (by unfold maxLen; omega) (by omega) (by have := HD.out; simp; omega) ?_
      intro A2 c2 wz hown2 hg2
      have hlt2 := owns_block_lt HOw1.out
      have hcz : wz.cell? ⟨w1.heap.size, 1, none⟩ = some (.int .i64 (e : Int)) := hg2.cell ((hbx.alloc _).2.2 1 _ rfl) (fun q => by have := hlt2 _ q.symm; simp only at this; omega)
      have HO2 := Lib.hid (show On w wz from (((HO1.out.trans (hbV.mono hws)).alloc (by omega) _).grown hg2 (by simp; omega) (fun r e => by have := owns_block hOA r e; have := HD.out; omega)))
      have HOw2 := Lib.hid (show wz.ownsRow D 27 3 (.slice A2 (m + 1) c2) (m + 1) ((pre ++ [((k : Int), (e : Int), z)]).flatMap encRun) by rw [List.flatMap_append]; exact hown2)
      clear hOA hown2 hg2 hV hbV hVs hlt2 hbx hc3
      go_wp2_with fail
      go_roundw
      case rel => exact ⟨e, m + 1, c2, A2, _, rfl, rfl, by omega, by omega, HP2, HOw2, HO2⟩
      case measure => simp [intOf] <;> omega
    · have hk2 : (n : Int) ≤ (k : Int) := by omega
      have HE := Lib.hid (show pre = rs by have := HP.out; rw [linesR_end (by have := HL.out; omega), List.append_nil, HV.out] at this; exact this)
      go_wp2_with fail
      go_ret
      exact ⟨A1, m, c1, rfl, by rw [HD.out, ← HE.out]; exact HOw.out, HO.out⟩
end Go.Proofs.Ytakdopblggkfnaa
