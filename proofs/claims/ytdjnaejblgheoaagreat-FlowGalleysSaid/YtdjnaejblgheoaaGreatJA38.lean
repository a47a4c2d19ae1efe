import Derived.Test.YtdjnaejblgheoaaGreatJA35
import Derived.Test.YtdjnaejblgheoaaGreatJA22
import Derived.Test.YtdjnaejblgheoaaGreatJA31
import Derived.Test.YtdjnaejblgheoaaGreatJA03
import Derived.Test.YtdjnaejblgheoaaGreatJA12
import Derived.Deep.QuietTactic
import Derived.BigQuiet
import Derived.Test.YtdjnaejblgheoaaGreatJA36
import Derived.Test.YtdjnaejblgheoaaGreatJA33
import Derived.Laws.MakeOwn
import Derived.Test.YtdjnaejblgheoaaGreatJA37
/- The document's answers for package read: nodes, whatever stands there. -/
namespace Go.Proofs.YtdjnaejblgheoaaGreat
open Go.RowKit
set_option linter.unusedVariables false
set_option linter.unusedSimpArgs false
theorem rknot (toks : List Tok) (A : Option Addr) (n c' : Nat) (hn : n ≤ 800000) (hlen : toks.length = n) : ∀ m : Nat,
    (∀ (i : Nat) (w : World), i ≤ n → 2 * (n - i) + 1 ≤ m → Rows 4 encT w A n toks → Calls Tryz.prog 83 #[.slice A n c', .int .i64 i] w (GotP toks true i w)) ∧
    (∀ (b : Nat) (w : World), opens toks b = true → 2 * (n - b) ≤ m → Rows 4 encT w A n toks → Calls Tryz.prog 122 #[.slice A n c', .int .i64 b] w (GotP toks false b w))
  | 0 => ⟨fun i w _ h _ => absurd h (by omega), fun b w ho h _ => absurd (opens_lt ho) (by omega)⟩
  | m + 1 => by
    obtain ⟨ih1, ih2⟩ := rknot toks A n c' hn hlen m
    refine ⟨fun i w hi hm hR => ?_, fun b w ho hm hR => ?_⟩
    · exact rnodes_any toks A n c' i w hR hi (by omega) (fun b w' h1 h2 hR' ho => ih2 b w' ho (by omega) hR')
    · have hb := opens_lt ho
      exact rone_any toks A n c' b w hR (by omega) ho
        (fun w' hR' hs => rblock_any toks A n c' b w' hR' (by omega) (by omega) hs (fun a w'' h1 h2 hR'' => ih1 a w'' h2 (by omega) hR''))
        (fun w' hR' hs => rtext5_any toks A n c' b w' hR' (by omega) (by omega) hs)
theorem rnodes_all {toks : List Tok} {A : Option Addr} {n c' : Nat} {w : World} (hn : n ≤ 800000) (hR : Rows 4 encT w A n toks) : Calls Tryz.prog 83 #[.slice A n c', .int .i64 (0 : Nat)] w (GotP toks true 0 w) :=
  (rknot toks A n c' hn hR.1 _).1 0 w (by omega) (Nat.le_refl _) hR
end Go.Proofs.YtdjnaejblgheoaaGreat
/- The document's answers for package read: Of. -/
namespace Go.Proofs.YtdjnaejblgheoaaGreat
open Go.RowKit
set_option linter.unusedVariables false
set_option linter.unusedSimpArgs false
theorem rnodes_zero {toks : List Tok} {A : Option Addr} {n c' : Nat} {w : World} (hn : n ≤ 800000) (hR : Rows 4 encT w A n toks) : Calls Tryz.prog 83 #[.slice A n c', .int .i64 0] w (GotP toks true 0 w) := rnodes_all hn hR
set_option maxHeartbeats 4000000 in
theorem refof_any (s : ByteArray) (w : World) (hs : s.size ≤ 600000) : Calls Tryz.prog 47 #[.string s] w (OfPost w s) := by
  go_enter Tryz.func47, Tryz.ntmps47
  go_wp2_with fail
  refine (reflex_any s w hs).mono ?_
  rintro e w1 (⟨toks, A, n, c, hl, rfl, hR, ⟨hns, hnc, hA⟩, hb⟩ | ⟨k, hl, rfl, hk, hb⟩)
  · have HL := Lib.hid hl
    have HB := Lib.hid hb
    have hlen := hR.1
    have HR := Lib.hid hR
    clear hl hR hA hb
    go_wp2_with fail
    refine (rnodes_zero (by omega) HR.out).mono ?_
    rintro e w2 ⟨r, hp, hr⟩
    have hple := hp.le
    simp only [Nat.zero_le, forall_const] at hple
    have hs1 := HB.out.size
    cases r with
    | bad q =>
      obtain ⟨rfl, hbw⟩ := hr.bad
      have HR2 := Lib.hid ((HR.out.below hbw).below ((Below.refl _ _).alloc (Nat.le_refl _) (.cells #[.slice none 0 0, .int .i64 (q : Int), .int .i64 1] 142)))
      have HB2 := Lib.hid ((HB.out.trans (hbw.mono hs1)).alloc (by have := hbw.size; omega) (.cells #[.slice none 0 0, .int .i64 (q : Int), .int .i64 1] 142))
      obtain ⟨⟨t0, t1, t2⟩, _, t3⟩ := box3_of (box_new w2 [.slice none 0 0, .int .i64 (q : Int), .int .i64 1] 142 _ rfl _ rfl)
      have HP := Lib.hid hp
      have hq : q ≤ n := by have := hple.2.1; simp only [Res.at_] at this; omega
      clear hp hr hbw hple
      by_cases hlt : q < n
      · obtain ⟨bl, off, x, y, u, v, rfl, hbl, hx, c0, c1, c2, c3⟩ := toks_at HR2.out hlt
        obtain ⟨p, hv, _⟩ := tok_stands HL.out hx
        obtain rfl : v = (p : Int) := hv
        have HRB := Lib.hid (show ReadB s (none, p) from .inr ⟨toks, 0, HL.out, .bad HP.out hx⟩)
        have h1 : (q : Int) < (n : Int) := by omega
        clear hx
        go_wp2_with fail
        go_quiet (fail)
        go_wp2_with fail
        go_returns
        exact .inr ⟨p, HRB.out, rfl, below_drewN HB2.out _⟩
      · have HRB := Lib.hid (show ReadB s (none, s.size) from .inr ⟨toks, 0, HL.out, .short HP.out (by omega)⟩)
        have h1 : (n : Int) ≤ (q : Int) := by omega
        go_wp2_with fail
        go_returns
        exact .inr ⟨_, HRB.out, rfl, HB2.out⟩
    | ok x b =>
      obtain ⟨A1, m, c1, rfl, hnd, hbw⟩ := hr.ok
      have HR2 := Lib.hid ((HR.out.below hbw).below ((Below.refl _ _).alloc (Nat.le_refl _) (.cells #[.slice A1 m c1, .int .i64 (b : Int), .int .i64 0] 142)))
      have HB2 := Lib.hid ((HB.out.trans (hbw.mono hs1)).alloc (by have := hbw.size; omega) (.cells #[.slice A1 m c1, .int .i64 (b : Int), .int .i64 0] 142))
      have HN2 := Lib.hid (hnd.below ((Below.refl _ _).alloc (Nat.le_refl _) (.cells #[.slice A1 m c1, .int .i64 (b : Int), .int .i64 0] 142)))
      obtain ⟨⟨t0, t1, t2⟩, _, t3⟩ := box3_of (box_new w2 [.slice A1 m c1, .int .i64 (b : Int), .int .i64 0] 142 _ rfl _ rfl)
      have HP := Lib.hid hp
      have hq : b ≤ n := by have := hple.2.1; simp only [Res.at_] at this; omega
      clear hp hr hbw hple hnd
      by_cases hlt : b < n
      · obtain ⟨bl, off, x', y, u, v, rfl, hbl, hx, c0, c1, c2, c3⟩ := toks_at HR2.out hlt
        obtain ⟨p, hv, _⟩ := tok_stands HL.out hx
        obtain rfl : v = (p : Int) := hv
        have HRB := Lib.hid (show ReadB s (none, p) from .inr ⟨toks, 0, HL.out, .rest HP.out hx⟩)
        have h1 : (b : Int) < (n : Int) := by omega
        clear hx
        go_wp2_with fail
        go_quiet (fail)
        go_wp2_with fail
        go_returns
        exact .inr ⟨p, HRB.out, rfl, below_drewN HB2.out _⟩
      · obtain rfl : b = n := by omega
        have HRB := Lib.hid (show ReadB s (some x, 0) from .inr ⟨toks, 0, HL.out, .ok (by rw [hlen]; exact HP.out)⟩)
        have h1 : (b : Int) ≤ (b : Int) := by omega
        go_wp2_with fail
        go_returns
        exact .inl ⟨x, A1, m, c1, HRB.out, rfl, HN2.out.up (by omega), HB2.out⟩
  · have HP := Lib.hid (show ReadB s (none, k) from .inl ⟨k, hl, rfl⟩)
    have HB := Lib.hid hb
    clear hl hb
    go_wp2_with fail
    go_returns
    exact .inr ⟨k, HP.out, rfl, HB.out⟩
end Go.Proofs.YtdjnaejblgheoaaGreat
/- Contracts by value of the document's functions for package read; a script that is written out. -/
namespace Go.Proofs.YtdjnaejblgheoaaGreat
open Go.RowKit
set_option linter.unusedVariables false
set_option linter.unusedSimpArgs false
theorem rof_ok {s : ByteArray} {x : List Nd} (h : ReadB s (some x, 0)) (w : World) (hs : s.size ≤ 600000) : Calls Tryz.prog 47 #[.string s] w (ReadOk w x) := (refof_any s w hs).mono fun _ _ hp => of_ok h hp
end Go.Proofs.YtdjnaejblgheoaaGreat
/- The program's package tree: Rooms. -/
namespace Go.Proofs.YtdjnaejblgheoaaGreat
open Go.RowKit
set_option linter.unusedVariables false
set_option linter.unusedSimpArgs false
theorem made_rooms (n : Nat) : madeCells #[.int .i64 0, .int .i64 0] (n * 2) = (List.replicate (2 * n) (Value.int .i64 0)).toArray := by
  apply Array.ext'
  simp only [madeCells]
  rw [List.eq_replicate_iff]
  refine ⟨by simp; omega, fun b hb => ?_⟩
  simp at hb
  obtain ⟨j, _, rfl⟩ := hb
  rcases Nat.mod_two_eq_zero_or_one j with h | h <;> simp [h]
theorem make_rooms (n : Nat) (hn : n ≤ 1000000) (w : World) : (Instr.makeSlice 46 (.int .i64 (n : Int)) (.int .i64 (n : Int))).run Tryz.prog w = .ok (.slice (some ⟨w.heap.size, 0, none⟩) n n) (w.alloc (.cells (List.replicate (2 * n) (Value.int .i64 0)).toArray 49)) := by
  obtain ⟨i0, hi0, hz0, hz1, hz2⟩ := info_parts room_info
  have h := run_make (P := Tryz.prog) w 46 49 i0 _ Tryz.underlying46 hi0 hz0 .i64 .i64 (n : Int) (n : Int) (by omega) (Int.le_refl _) (by rw [hz2]; omega) (by omega)
  rw [hz1] at h
  rw [h]
  show Result.ok _ (w.alloc (.cells (madeCells #[.int .i64 0, .int .i64 0] ((n : Int).toNat * 2)) _)) = _
  rw [Int.toNat_natCast, made_rooms]
theorem may_to {n : Int} {v : Bool} (hv : (decide (1 ≤ n) && decide (n ≤ 1099511627776)) = v) (w : World) : Calls Tryz.prog 23 #[.int .i64 n] w fun e w' => e = .returned (.bool v) ∧ w = w' := by
  rw [← hv]; exact may_any n w
set_option maxHeartbeats 4000000 in
set_option maxRecDepth 100000 in
theorem tRooms_to {L : List Nd} {W : Int} {zs : List (Int × Int)} (hv : roomsI (ordL L) W = zs) {A : Option Addr} {n c : Nat} {w : World} (h : PreV L w A n) : Calls Tryz.prog 15 #[.slice A n c, .int .i64 W] w (RoomsSeen w zs) := by
  have H := Lib.hid h
  clear h
  have hst : ∀ (a : Addr) (fn : Fn) (f c : Array Value) (m : Mode) (w : World), (store a (.func fn f c) m).run Tryz.prog w = stored Tryz.prog w a (.func fn f c) m := fun a fn f c m w => run_store _ w a _ m rfl
  unfold roomsI at hv
  by_cases hW : W < 1 ∨ maxX < W
  · rw [if_pos hW] at hv
    have HZ := Lib.hid hv
    have HM := Lib.hid (show (decide (1 ≤ W) && decide (W ≤ 1099511627776)) = false by
      unfold maxX at hW
      rw [Bool.and_eq_false_iff, decide_eq_false_iff_not, decide_eq_false_iff_not]
      omega)
    clear hv hW
    go_enter Tryz.func15, Tryz.ntmps15
    go_wp2_with fail
    refine (may_to HM.out _).mono ?_
    rintro e w1 ⟨rfl, rfl⟩
    go_wp2_with fail
    go_ret
    exact ⟨none, 0, 0, rfl, by rw [← HZ.out]; rfl, by rw [← HZ.out]; exact Rows.nil _ _, Below.refl _ _⟩
  rw [if_neg hW] at hv
  have hw1 : 1 ≤ W := by omega
  have hw2 : W ≤ maxX := by omega
  have HZ := Lib.hid hv
  have HM := Lib.hid (show (decide (1 ≤ W) && decide (W ≤ 1099511627776)) = true by
    unfold maxX at hw2
    rw [Bool.and_eq_true, decide_eq_true_eq, decide_eq_true_eq]
    omega)
  clear hv hW
  go_enter Tryz.func15, Tryz.ntmps15
  go_wp2_with fail
  refine (may_to HM.out _).mono ?_
  rintro e w1 ⟨rfl, rfl⟩
  go_wp2_with fail
  refine (tof_to H.out).mono ?_
  rintro e w1 ⟨A1, n1, c1, rfl, hp, hb⟩
  have HP := Lib.hid hp
  have HB := Lib.hid hb
  clear hp hb
  go_wp2_with fail
  refine (tmany_to (HP.out.1.below (show Below w1.heap.size w1 _ by go_grown))).mono ?_
  rintro e w2 ⟨rfl, rfl⟩
  have hmk := make_rooms n1 (by have := HP.out.2; omega)
  go_wp2_with fail
  clear hmk hst
  generalize hV : (((w1.alloc (.cells #[.slice A1 n1 c1] 87)).alloc (.cells (Array.replicate (2 * n1) (.int .i64 0)) 49)).alloc (.cells #[.slice (some ⟨w1.heap.size + 1, 0, none⟩) n1 n1] 46)).alloc (.cells #[(.func (.func 36) #[] #[.pointer (some ⟨w1.heap.size + 1 + 1, 0, none⟩), .pointer (some ⟨w1.heap.size, 0, none⟩), .pointer (some ⟨w1.heap.size + 1 + 1 + 1, 0, none⟩)])] 89) = V
  have HO := Lib.hid (show On w1 V by rw [← hV]; exact (((((Below.refl _ _).alloc (Nat.le_refl _) _).alloc (by simp) _).alloc (by simp; omega) _).alloc (by simp; omega) _))
  have hB0 : Box V w1.heap.size [.slice A1 n1 c1] := by rw [← hV]; exact (((Box.new _ [.slice A1 n1 c1] _).alloc _).alloc _).alloc _
  have hB1 : Box V (w1.heap.size + 1) (List.replicate (2 * n1) (.int .i64 0)) := by rw [← hV]; exact ((box_new _ (List.replicate (2 * n1) (.int .i64 0)) _ _ (by simp) _ (by simp)).alloc _).alloc _
  have hB2 : Box V (w1.heap.size + 1 + 1) [.slice (some ⟨w1.heap.size + 1, 0, none⟩) n1 n1] := by rw [← hV]; exact (box_new _ [.slice (some ⟨w1.heap.size + 1, 0, none⟩) n1 n1] _ _ (by simp) _ rfl).alloc _
  have hB3 : Box V (w1.heap.size + 1 + 1 + 1) [(.func (.func 36) #[] #[.pointer (some ⟨w1.heap.size + 1 + 1, 0, none⟩), .pointer (some ⟨w1.heap.size, 0, none⟩), .pointer (some ⟨w1.heap.size + 1 + 1 + 1, 0, none⟩)])] := by rw [← hV]; exact box_new _ [(.func (.func 36) #[] #[.pointer (some ⟨w1.heap.size + 1 + 1, 0, none⟩), .pointer (some ⟨w1.heap.size, 0, none⟩), .pointer (some ⟨w1.heap.size + 1 + 1 + 1, 0, none⟩)])] _ _ (by simp) _ rfl
  have HE := Lib.hid (show FillEnv V (w1.heap.size + 1 + 1) w1.heap.size (w1.heap.size + 1 + 1 + 1) (w1.heap.size + 1) A1 n1 c1 from ⟨hB2.2.2 0 _ rfl, hB0.2.2 0 _ rfl, hB3.2.2 0 _ rfl, by omega, by omega, by omega⟩)
  have HB1 := Lib.hid (show Box V (w1.heap.size + 1) (rmsV (ordL L) W 0 n1) by rw [rmsV_zero]; exact hB1)
  have HLen := Lib.hid HP.out.1.len
  have hnest : Nested (ordL L) := (forest_iff_nested _).1 (ordL_doc L).2
  have HINN := Lib.hid (show innerI (ordL L) (-1) = (0, (n1 : Int)) by rw [innerI_one, HLen.out])
  have HK0 := Lib.hid (show KidAt (ordL L) (-1) (n1 : Int) 0 by
    have := HLen.out
    by_cases h0 : 0 < n1
    · exact .inr ⟨by omega, (parI_none (by omega)).2 first_none, by omega⟩
    · exact .inl ⟨by omega, kidsFrom_end (by omega)⟩)
  clear hV hB0 hB1 hB2 hB3
  go_loopw [8] (fun at' wr => ∃ (j : Nat), at' = .int .i64 (j : Int) ∧ j ≤ n1 ∧ Hid (KidAt (ordL L) (-1) (n1 : Int) j) ∧ Hid (V.grownBy wr (some (w1.heap.size + 1))) ∧ Hid (Box wr (w1.heap.size + 1) (rmsV (ordL L) W j n1))) (fun at' _ => n1 - (intOf at').toNat)
  case atStart => exact ⟨0, rfl, Nat.zero_le _, HK0, Lib.hid (grown_of_belowF (Below.refl _ _) _), HB1⟩
  case round =>
    obtain ⟨j, rfl, hjn, HK, HG, HBj⟩ := hrel
    have HEq := Lib.hid (HE.out.kept HG.out)
    have HOq := Lib.hid (on_grown HO.out (by omega) HG.out)
    have cO := HEq.out.2.1
    have cF := HEq.out.2.2.1
    have cR := HEq.out.1
    by_cases hlt : j < n1
    · have hlt2 : (j : Int) < (n1 : Int) := by omega
      obtain ⟨hpj, hjL⟩ : parentI (ordL L) (j : Int) = -1 ∧ j < (ordL L).length := by
        rcases HK.out with ⟨h1, _⟩ | ⟨_, h2, h3⟩
        · omega
        · exact ⟨h2, h3⟩
      have hy : (ordL L)[j]? = some ((ordL L)[j]'hjL) := List.getElem?_eq_getElem _
      obtain ⟨y, hyy⟩ : ∃ y, (ordL L)[j]'hjL = y := ⟨_, rfl⟩
      rw [hyy] at hy
      obtain ⟨e2, he2, hje, hee, _, hke2⟩ := kidAt_step hnest HINN.out hy hpj hlt2
      have HY := Lib.hid hy
      have HYE := Lib.hid he2
      have HK2 := Lib.hid hke2
      have HRT := Lib.hid (room_top (w := W) ((parI_none hjL).1 hpj))
      clear hy hyy he2 hke2 hpj hjL cR
      go_wp2_with fail
      refine (tmany_to (HP.out.1.below HOq.out)).mono ?_
      rintro e w5 ⟨rfl, rfl⟩
      go_wp2_with fail
      refine (fill_all (ordL_doc L) hw1 hw2 w1 HP.out.1 HP.out.2 _ _ _ (w1.heap.size + 1) (by omega) (e2 - j) j e2 y _ _ _ (Nat.le_refl _) HY.out HYE.out HRT.out HOq.out HEq.out HBj.out).mono ?_
      rintro e w6 ⟨rfl, hg, hb⟩
      have HG6 := Lib.hid (grown_two HG.out hg)
      have HB6 := Lib.hid hb
      clear hg hb cO cF
      go_wp2_with fail
      go_roundw
      case rel => exact ⟨e2, rfl, by omega, HK2, HG6, HB6⟩
      case measure => simp [intOf] <;> omega
    · obtain rfl : j = n1 := by omega
      go_wp2_with fail
      refine (tmany_to (HP.out.1.below HOq.out)).mono ?_
      rintro e w5 ⟨rfl, rfl⟩
      go_wp2_with fail
      go_ret
      refine ⟨_, _, _, rfl, ?_, ?_, below_then HB.out HOq.out⟩
      · rw [← HZ.out, roomsTo_len, HLen.out]
      · rw [← HZ.out, HLen.out]
        refine ⟨roomsTo_len _ _ _, by have := HP.out.2; omega, fun _ => ⟨w1.heap.size + 1, 0, rfl, HBj.out.lt, fun i x hx j' v hv => ?_⟩⟩
        rw [Nat.zero_add]
        exact HBj.out.2.2 (i * 2 + j') v (by rw [rmsV_all]; exact flat_get encRm_len _ i x j' v hx hv)
end Go.Proofs.YtdjnaejblgheoaaGreat
/- The document's answers for package valid: Check. (Written by program: tools/drafts/genlaw6.py.) -/
namespace Go.Proofs.YtdjnaejblgheoaaGreat
open Go.RowKit
set_option linter.unusedVariables false
set_option linter.unusedSimpArgs false
set_option maxHeartbeats 8000000 in
set_option maxRecDepth 100000 in
theorem vCheck_to {l : List Nd} {f : Int} (ha : chkV l = f) {A : Option Addr} {n ca : Nat} {w : World} (h : PreV l w A n) (hW : ∀ x ∈ l, x.words.length ≤ 100000) : Calls Tryz.prog 27 #[.slice A n ca] w fun e w' => e = .returned (.int .i64 f) ∧ Below w.heap.size w w' := by
  obtain ⟨⟨s, g⟩, hs⟩ : ∃ a, ansV l = a := ⟨_, rfl⟩
  have HS := Lib.hid hs
  have H := Lib.hid h
  have HW := Lib.hid hW
  have hc : (g = 0 ∧ f = if decide (16 < s.depth) || decide (2000 < s.pieces) || decide (2000 < s.nodes) || decide (1099511627776 < s.heights) then 2 else 0) ∨ (g = 4 ∧ f = 4) := by
    rcases ansV_err hs with ⟨e1, e2, e3⟩ | ⟨e1, e2, e3⟩
    · refine .inl ⟨e1, ?_⟩
      rw [← ha]; unfold chkV overB; rw [if_pos e2, e3]
    · refine .inr ⟨e1, ?_⟩
      rw [← ha]; unfold chkV; rw [if_neg (by rw [e2]; decide)]
  clear hs h hW ha
  obtain ⟨s0, s1, s2, s3⟩ := s
  simp only at hc
  rcases hc with ⟨rfl, hf⟩ | ⟨rfl, rfl⟩
  rotate_left
  · go_enter Tryz.func27, Tryz.ntmps27
    go_wp2_with fail
    refine (vCount_to HS.out H.out HW.out).mono ?_
    rintro e w1 ⟨rfl, hb⟩
    have HB := Lib.hid hb
    clear hb
    go_wp2_with fail
    go_ret
    exact ⟨rfl, HB.out.alloc (by have := HB.out.size; omega) _⟩
  have HF := Lib.hid hf
  clear hf
  go_enter Tryz.func27, Tryz.ntmps27
  go_wp2_with fail
  refine (vCount_to HS.out H.out HW.out).mono ?_
  rintro e w1 ⟨rfl, hb⟩
  simp only
  have HB := Lib.hid hb
  have HBB := Lib.hid (show Below w.heap.size w (w1.alloc (.cells #[.int .i64 s0, .int .i64 s1, .int .i64 s2, .int .i64 s3] 75)) from HB.out.alloc (by have := HB.out.size; omega) _)
  clear hb
  by_cases t0 : 16 < s0
  · have HW2 := Lib.hid (show f = 2 by rw [HF.out, decide_eq_true t0]; simp)
    go_wp2_with fail
    go_ret
    exact ⟨ret_int HW2.out.symm, HBB.out⟩
  have T0 := Lib.hid (decide_eq_false t0)
  have u0 : s0 ≤ 16 := by omega
  clear t0
  by_cases t1 : 2000 < s1
  · have HW2 := Lib.hid (show f = 2 by rw [HF.out, decide_eq_true t1]; simp)
    go_wp2_with fail
    go_ret
    exact ⟨ret_int HW2.out.symm, HBB.out⟩
  have T1 := Lib.hid (decide_eq_false t1)
  have u1 : s1 ≤ 2000 := by omega
  clear t1
  by_cases t2 : 2000 < s2
  · have HW2 := Lib.hid (show f = 2 by rw [HF.out, decide_eq_true t2]; simp)
    go_wp2_with fail
    go_ret
    exact ⟨ret_int HW2.out.symm, HBB.out⟩
  have T2 := Lib.hid (decide_eq_false t2)
  have u2 : s2 ≤ 2000 := by omega
  clear t2
  by_cases t3 : 1099511627776 < s3
  · have HW2 := Lib.hid (show f = 2 by rw [HF.out, decide_eq_true t3]; simp)
    go_wp2_with fail
    go_ret
    exact ⟨ret_int HW2.out.symm, HBB.out⟩
  have T3 := Lib.hid (decide_eq_false t3)
  have u3 : s3 ≤ 1099511627776 := by omega
  clear t3
  have HW2 := Lib.hid (show f = 0 by rw [HF.out, T0.out, T1.out, T2.out, T3.out]; rfl)
  go_wp2_with fail
  go_ret
  exact ⟨ret_int HW2.out.symm, HBB.out⟩
end Go.Proofs.YtdjnaejblgheoaaGreat
