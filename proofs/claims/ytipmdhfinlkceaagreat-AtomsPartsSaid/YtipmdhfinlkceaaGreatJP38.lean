import Derived.Test.YtipmdhfinlkceaaGreatJP35
import Derived.Test.YtipmdhfinlkceaaGreatJP21
import Derived.Test.YtipmdhfinlkceaaGreatJP30
import Derived.Test.YtipmdhfinlkceaaGreatJP03
import Derived.Test.YtipmdhfinlkceaaGreatJP12
import Derived.Deep.QuietTactic
import Derived.BigQuiet
import Derived.Test.YtipmdhfinlkceaaGreatJP36
import Derived.Test.YtipmdhfinlkceaaGreatJP32
import Derived.Laws.MakeOwn
import Derived.Test.YtipmdhfinlkceaaGreatJP37
import Derived.Test.YtipmdhfinlkceaaGreatJP34
import Derived.Test.YtipmdhfinlkceaaGreatJP24
/- ReadKnot, ReadRefOf, ReadRefVal, TreeRooms, TreeTopA, FlowGen. -/
set_option linter.unusedVariables false
set_option linter.unusedSimpArgs false
namespace Go.Proofs.YtipmdhfinlkceaaGreat
open Go.RowKit
theorem rknot (toks : List Tok) (A : Option Addr) (n c' : Nat) (hn : n ≤ 800000) (hlen : toks.length = n) : ∀ m : Nat,
    (∀ (i : Nat) (w : World), i ≤ n → 2 * (n - i) + 1 ≤ m → Rows 4 encT w A n toks → Calls Tryz.prog 29 #[.slice A n c', .int .i64 i] w (GotP toks true i w)) ∧
    (∀ (b : Nat) (w : World), opens toks b = true → 2 * (n - b) ≤ m → Rows 4 encT w A n toks → Calls Tryz.prog 58 #[.slice A n c', .int .i64 b] w (GotP toks false b w))
  | 0 => ⟨fun i w _ h _ => absurd h (by omega), fun b w ho h _ => absurd (opens_lt ho) (by omega)⟩
  | m + 1 => by
    obtain ⟨ih1, ih2⟩ := rknot toks A n c' hn hlen m
    refine ⟨fun i w hi hm hR => ?_, fun b w ho hm hR => ?_⟩
    · exact rnodes_any toks A n c' i w hR hi (by omega) (fun b w' h1 h2 hR' ho => ih2 b w' ho (by omega) hR')
    · have hb := opens_lt ho
      exact rone_any toks A n c' b w hR (by omega) ho
        (fun w' hR' hs => rblock_any toks A n c' b w' hR' (by omega) (by omega) hs (fun a w'' h1 h2 hR'' => ih1 a w'' h2 (by omega) hR''))
        (fun w' hR' hs => rtext5_any toks A n c' b w' hR' (by omega) (by omega) hs)
theorem rnodes_all {toks : List Tok} {A : Option Addr} {n c' : Nat} {w : World} (hn : n ≤ 800000) (hR : Rows 4 encT w A n toks) : Calls Tryz.prog 29 #[.slice A n c', .int .i64 (0 : Nat)] w (GotP toks true 0 w) :=
  (rknot toks A n c' hn hR.1 _).1 0 w (by omega) (Nat.le_refl _) hR
theorem rnodes_zero {toks : List Tok} {A : Option Addr} {n c' : Nat} {w : World} (hn : n ≤ 800000) (hR : Rows 4 encT w A n toks) : Calls Tryz.prog 29 #[.slice A n c', .int .i64 0] w (GotP toks true 0 w) := rnodes_all hn hR
set_option maxHeartbeats 4000000 in
theorem refof_any (s : ByteArray) (w : World) (hs : s.size ≤ 600000) : Calls Tryz.prog 10 #[.string s] w (OfPost w s) := by
  go_enter Tryz.func10, Tryz.ntmps10
  go_wp2_with fail
  refine (reflex_any s w hs).mono ?_
  rintro e w1 (⟨toks, A, n, c, hl, rfl, hR, ⟨hns, hnc, hA⟩, hb⟩ | ⟨k, hl, rfl, hk, hb⟩)
  · have HL := Lib.hid hl
    have HB := Lib.hid hb
    have hlen := hR.1
    have HR := Lib.hid hR
    clear hl hR hA hb
    go_wp2_with fail
    refine (rnodes_zero (by omega) HR.out).mono ?_
    rintro e w2 ⟨r, hp, hr⟩
    have hple := hp.le
    simp only [Nat.zero_le, forall_const] at hple
    have hs1 := HB.out.size
    cases r with
    | bad q =>
      obtain ⟨rfl, hbw⟩ := hr.bad
      have HR2 := Lib.hid ((HR.out.below hbw).below ((Below.refl _ _).alloc (Nat.le_refl _) (.cells #[.slice none 0 0, .int .i64 (q : Int), .int .i64 1] 72)))
      have HB2 := Lib.hid ((HB.out.trans (hbw.mono hs1)).alloc (by have := hbw.size; omega) (.cells #[.slice none 0 0, .int .i64 (q : Int), .int .i64 1] 72))
      obtain ⟨⟨t0, t1, t2⟩, _, t3⟩ := box3_of (box_new w2 [.slice none 0 0, .int .i64 (q : Int), .int .i64 1] 72 _ rfl _ rfl)
      have HP := Lib.hid hp
      have hq : q ≤ n := by have := hple.2.1; simp only [Res.at_] at this; omega
      clear hp hr hbw hple
      by_cases hlt : q < n
      · obtain ⟨bl, off, x, y, u, v, rfl, hbl, hx, c0, c1, c2, c3⟩ := toks_at HR2.out hlt
        obtain ⟨p, hv, _⟩ := tok_stands HL.out hx
        obtain rfl : v = (p : Int) := hv
        have HRB := Lib.hid (show ReadB s (none, p) from .inr ⟨toks, 0, HL.out, .bad HP.out hx⟩)
        have h1 : (q : Int) < (n : Int) := by omega
        clear hx
        go_wp2_with fail
        go_quiet (fail)
        go_wp2_with fail
        go_returns
        exact .inr ⟨p, HRB.out, rfl, below_drewN HB2.out _⟩
      · have HRB := Lib.hid (show ReadB s (none, s.size) from .inr ⟨toks, 0, HL.out, .short HP.out (by omega)⟩)
        have h1 : (n : Int) ≤ (q : Int) := by omega
        go_wp2_with fail
        go_returns
        exact .inr ⟨_, HRB.out, rfl, HB2.out⟩
    | ok x b =>
      obtain ⟨A1, m, c1, rfl, hnd, hbw⟩ := hr.ok
      have HR2 := Lib.hid ((HR.out.below hbw).below ((Below.refl _ _).alloc (Nat.le_refl _) (.cells #[.slice A1 m c1, .int .i64 (b : Int), .int .i64 0] 72)))
      have HB2 := Lib.hid ((HB.out.trans (hbw.mono hs1)).alloc (by have := hbw.size; omega) (.cells #[.slice A1 m c1, .int .i64 (b : Int), .int .i64 0] 72))
      have HN2 := Lib.hid (hnd.below ((Below.refl _ _).alloc (Nat.le_refl _) (.cells #[.slice A1 m c1, .int .i64 (b : Int), .int .i64 0] 72)))
      obtain ⟨⟨t0, t1, t2⟩, _, t3⟩ := box3_of (box_new w2 [.slice A1 m c1, .int .i64 (b : Int), .int .i64 0] 72 _ rfl _ rfl)
      have HP := Lib.hid hp
      have hq : b ≤ n := by have := hple.2.1; simp only [Res.at_] at this; omega
      clear hp hr hbw hple hnd
      by_cases hlt : b < n
      · obtain ⟨bl, off, x', y, u, v, rfl, hbl, hx, c0, c1, c2, c3⟩ := toks_at HR2.out hlt
        obtain ⟨p, hv, _⟩ := tok_stands HL.out hx
        obtain rfl : v = (p : Int) := hv
        have HRB := Lib.hid (show ReadB s (none, p) from .inr ⟨toks, 0, HL.out, .rest HP.out hx⟩)
        have h1 : (b : Int) < (n : Int) := by omega
        clear hx
        go_wp2_with fail
        go_quiet (fail)
        go_wp2_with fail
        go_returns
        exact .inr ⟨p, HRB.out, rfl, below_drewN HB2.out _⟩
      · obtain rfl : b = n := by omega
        have HRB := Lib.hid (show ReadB s (some x, 0) from .inr ⟨toks, 0, HL.out, .ok (by rw [hlen]; exact HP.out)⟩)
        have h1 : (b : Int) ≤ (b : Int) := by omega
        go_wp2_with fail
        go_returns
        exact .inl ⟨x, A1, m, c1, HRB.out, rfl, HN2.out.up (by omega), HB2.out⟩
  · have HP := Lib.hid (show ReadB s (none, k) from .inl ⟨k, hl, rfl⟩)
    have HB := Lib.hid hb
    clear hl hb
    go_wp2_with fail
    go_returns
    exact .inr ⟨k, HP.out, rfl, HB.out⟩
theorem rof_ok {s : ByteArray} {x : List Nd} (h : ReadB s (some x, 0)) (w : World) (hs : s.size ≤ 600000) : Calls Tryz.prog 10 #[.string s] w (ReadOk w x) := (refof_any s w hs).mono fun _ _ hp => of_ok h hp
theorem made_rooms (n : Nat) : madeCells #[.int .i64 0, .int .i64 0] (n * 2) = (List.replicate (2 * n) (Value.int .i64 0)).toArray := by
  apply Array.ext'
  simp only [madeCells]
  rw [List.eq_replicate_iff]
  refine ⟨by simp; omega, fun b hb => ?_⟩
  simp at hb
  obtain ⟨j, _, rfl⟩ := hb
  rcases Nat.mod_two_eq_zero_or_one j with h | h <;> simp [h]
theorem make_rooms (n : Nat) (hn : n ≤ 1000000) (w : World) : (Instr.makeSlice 49 (.int .i64 (n : Int)) (.int .i64 (n : Int))).run Tryz.prog w = .ok (.slice (some ⟨w.heap.size, 0, none⟩) n n) (w.alloc (.cells (List.replicate (2 * n) (Value.int .i64 0)).toArray 90)) := by
  obtain ⟨i0, hi0, hz0, hz1, hz2⟩ := info_parts room_info
  have h := run_make (P := Tryz.prog) w 49 90 i0 _ Tryz.underlying49 hi0 hz0 .i64 .i64 (n : Int) (n : Int) (by omega) (Int.le_refl _) (by rw [hz2]; omega) (by omega)
  rw [hz1] at h
  rw [h]
  show Result.ok _ (w.alloc (.cells (madeCells #[.int .i64 0, .int .i64 0] ((n : Int).toNat * 2)) _)) = _
  rw [Int.toNat_natCast, made_rooms]
theorem may_to {n : Int} {v : Bool} (hv : (decide (1 ≤ n) && decide (n ≤ 1099511627776)) = v) (w : World) : Calls Tryz.prog 16 #[.int .i64 n] w fun e w' => e = .returned (.bool v) ∧ w = w' := by
  rw [← hv]; exact may_any n w
set_option maxHeartbeats 4000000 in
set_option maxRecDepth 100000 in
theorem tRooms_to {L : List Nd} {W : Int} {zs : List (Int × Int)} (hv : roomsI (ordL L) W = zs) {A : Option Addr} {n c : Nat} {w : World} (h : PreV L w A n) : Calls Tryz.prog 18 #[.slice A n c, .int .i64 W] w (RoomsSeen w zs) := by
  have H := Lib.hid h
  clear h
  have hst : ∀ (a : Addr) (fn : Fn) (f c : Array Value) (m : Mode) (w : World), (store a (.func fn f c) m).run Tryz.prog w = stored Tryz.prog w a (.func fn f c) m := fun a fn f c m w => run_store _ w a _ m rfl
  unfold roomsI at hv
  by_cases hW : W < 1 ∨ maxX < W
  · rw [if_pos hW] at hv
    have HZ := Lib.hid hv
    have HM := Lib.hid (show (decide (1 ≤ W) && decide (W ≤ 1099511627776)) = false by
      unfold maxX at hW
      rw [Bool.and_eq_false_iff, decide_eq_false_iff_not, decide_eq_false_iff_not]
      omega)
    clear hv hW
    go_enter Tryz.func18, Tryz.ntmps18
    go_wp2_with fail
    refine (may_to HM.out _).mono ?_
    rintro e w1 ⟨rfl, rfl⟩
    go_wp2_with fail
    go_ret
    exact ⟨none, 0, 0, rfl, by rw [← HZ.out]; rfl, by rw [← HZ.out]; exact Rows.nil _ _, Below.refl _ _⟩
  rw [if_neg hW] at hv
  have hw1 : 1 ≤ W := by omega
  have hw2 : W ≤ maxX := by omega
  have HZ := Lib.hid hv
  have HM := Lib.hid (show (decide (1 ≤ W) && decide (W ≤ 1099511627776)) = true by
    unfold maxX at hw2
    rw [Bool.and_eq_true, decide_eq_true_eq, decide_eq_true_eq]
    omega)
  clear hv hW
  go_enter Tryz.func18, Tryz.ntmps18
  go_wp2_with fail
  refine (may_to HM.out _).mono ?_
  rintro e w1 ⟨rfl, rfl⟩
  go_wp2_with fail
  refine (tof_to H.out).mono ?_
  rintro e w1 ⟨A1, n1, c1, rfl, hp, hb⟩
  have HP := Lib.hid hp
  have HB := Lib.hid hb
  clear hp hb
  go_wp2_with fail
  refine (tmany_to (HP.out.1.below (show Below w1.heap.size w1 _ by go_grown))).mono ?_
  rintro e w2 ⟨rfl, rfl⟩
  have hmk := make_rooms n1 (by have := HP.out.2; omega)
  go_wp2_with fail
  clear hmk hst
  generalize hV : (((w1.alloc (.cells #[.slice A1 n1 c1] 62)).alloc (.cells (Array.replicate (2 * n1) (.int .i64 0)) 90)).alloc (.cells #[.slice (some ⟨w1.heap.size + 1, 0, none⟩) n1 n1] 49)).alloc (.cells #[(.func (.func 35) #[] #[.pointer (some ⟨w1.heap.size + 1 + 1, 0, none⟩), .pointer (some ⟨w1.heap.size, 0, none⟩), .pointer (some ⟨w1.heap.size + 1 + 1 + 1, 0, none⟩)])] 88) = V
  have HO := Lib.hid (show On w1 V by rw [← hV]; exact (((((Below.refl _ _).alloc (Nat.le_refl _) _).alloc (by simp) _).alloc (by simp; omega) _).alloc (by simp; omega) _))
  have hB0 : Box V w1.heap.size [.slice A1 n1 c1] := by rw [← hV]; exact (((Box.new _ [.slice A1 n1 c1] _).alloc _).alloc _).alloc _
  have hB1 : Box V (w1.heap.size + 1) (List.replicate (2 * n1) (.int .i64 0)) := by rw [← hV]; exact ((box_new _ (List.replicate (2 * n1) (.int .i64 0)) _ _ (by simp) _ (by simp)).alloc _).alloc _
  have hB2 : Box V (w1.heap.size + 1 + 1) [.slice (some ⟨w1.heap.size + 1, 0, none⟩) n1 n1] := by rw [← hV]; exact (box_new _ [.slice (some ⟨w1.heap.size + 1, 0, none⟩) n1 n1] _ _ (by simp) _ rfl).alloc _
  have hB3 : Box V (w1.heap.size + 1 + 1 + 1) [(.func (.func 35) #[] #[.pointer (some ⟨w1.heap.size + 1 + 1, 0, none⟩), .pointer (some ⟨w1.heap.size, 0, none⟩), .pointer (some ⟨w1.heap.size + 1 + 1 + 1, 0, none⟩)])] := by rw [← hV]; exact box_new _ [(.func (.func 35) #[] #[.pointer (some ⟨w1.heap.size + 1 + 1, 0, none⟩), .pointer (some ⟨w1.heap.size, 0, none⟩), .pointer (some ⟨w1.heap.size + 1 + 1 + 1, 0, none⟩)])] _ _ (by simp) _ rfl
  have HE := Lib.hid (show FillEnv V (w1.heap.size + 1 + 1) w1.heap.size (w1.heap.size + 1 + 1 + 1) (w1.heap.size + 1) A1 n1 c1 from ⟨hB2.2.2 0 _ rfl, hB0.2.2 0 _ rfl, hB3.2.2 0 _ rfl, by omega, by omega, by omega⟩)
  have HB1 := Lib.hid (show Box V (w1.heap.size + 1) (rmsV (ordL L) W 0 n1) by rw [rmsV_zero]; exact hB1)
  have HLen := Lib.hid HP.out.1.len
  have hnest : Nested (ordL L) := (forest_iff_nested _).1 (ordL_doc L).2
  have HINN := Lib.hid (show innerI (ordL L) (-1) = (0, (n1 : Int)) by rw [innerI_one, HLen.out])
  have HK0 := Lib.hid (show KidAt (ordL L) (-1) (n1 : Int) 0 by
    have := HLen.out
    by_cases h0 : 0 < n1
    · exact .inr ⟨by omega, (parI_none (by omega)).2 first_none, by omega⟩
    · exact .inl ⟨by omega, kidsFrom_end (by omega)⟩)
  clear hV hB0 hB1 hB2 hB3
  go_loopw [8] (fun at' wr => ∃ (j : Nat), at' = .int .i64 (j : Int) ∧ j ≤ n1 ∧ Hid (KidAt (ordL L) (-1) (n1 : Int) j) ∧ Hid (V.grownBy wr (some (w1.heap.size + 1))) ∧ Hid (Box wr (w1.heap.size + 1) (rmsV (ordL L) W j n1))) (fun at' _ => n1 - (intOf at').toNat)
  case atStart => exact ⟨0, rfl, Nat.zero_le _, HK0, Lib.hid (grown_of_belowF (Below.refl _ _) _), HB1⟩
  case round =>
    obtain ⟨j, rfl, hjn, HK, HG, HBj⟩ := hrel
    have HEq := Lib.hid (HE.out.kept HG.out)
    have HOq := Lib.hid (on_grown HO.out (by omega) HG.out)
    have cO := HEq.out.2.1
    have cF := HEq.out.2.2.1
    have cR := HEq.out.1
    by_cases hlt : j < n1
    · have hlt2 : (j : Int) < (n1 : Int) := by omega
      obtain ⟨hpj, hjL⟩ : parentI (ordL L) (j : Int) = -1 ∧ j < (ordL L).length := by
        rcases HK.out with ⟨h1, _⟩ | ⟨_, h2, h3⟩
        · omega
        · exact ⟨h2, h3⟩
      have hy : (ordL L)[j]? = some ((ordL L)[j]'hjL) := List.getElem?_eq_getElem _
      obtain ⟨y, hyy⟩ : ∃ y, (ordL L)[j]'hjL = y := ⟨_, rfl⟩
      rw [hyy] at hy
      obtain ⟨e2, he2, hje, hee, _, hke2⟩ := kidAt_step hnest HINN.out hy hpj hlt2
      have HY := Lib.hid hy
      have HYE := Lib.hid he2
      have HK2 := Lib.hid hke2
      have HRT := Lib.hid (room_top (w := W) ((parI_none hjL).1 hpj))
      clear hy hyy he2 hke2 hpj hjL cR
      go_wp2_with fail
      refine (tmany_to (HP.out.1.below HOq.out)).mono ?_
      rintro e w5 ⟨rfl, rfl⟩
      go_wp2_with fail
      refine (fill_all (ordL_doc L) hw1 hw2 w1 HP.out.1 HP.out.2 _ _ _ (w1.heap.size + 1) (by omega) (e2 - j) j e2 y _ _ _ (Nat.le_refl _) HY.out HYE.out HRT.out HOq.out HEq.out HBj.out).mono ?_
      rintro e w6 ⟨rfl, hg, hb⟩
      have HG6 := Lib.hid (grown_two HG.out hg)
      have HB6 := Lib.hid hb
      clear hg hb cO cF
      go_wp2_with fail
      go_roundw
      case rel => exact ⟨e2, rfl, by omega, HK2, HG6, HB6⟩
      case measure => simp [intOf] <;> omega
    · obtain rfl : j = n1 := by omega
      go_wp2_with fail
      refine (tmany_to (HP.out.1.below HOq.out)).mono ?_
      rintro e w5 ⟨rfl, rfl⟩
      go_wp2_with fail
      go_ret
      refine ⟨_, _, _, rfl, ?_, ?_, below_then HB.out HOq.out⟩
      · rw [← HZ.out, roomsTo_len, HLen.out]
      · rw [← HZ.out, HLen.out]
        refine ⟨roomsTo_len _ _ _, by have := HP.out.2; omega, fun _ => ⟨w1.heap.size + 1, 0, rfl, HBj.out.lt, fun i x hx j' v hv => ?_⟩⟩
        rw [Nat.zero_add]
        exact HBj.out.2.2 (i * 2 + j') v (by rw [rmsV_all]; exact flat_get encRm_len _ i x j' v hx hv)
end Go.Proofs.YtipmdhfinlkceaaGreat
namespace Go.Proofs.YtipmdhfinlkceaaGreat
open Go.RowKit Go.Shelf
attribute [local go_sem] Oper.semAt_some
theorem tabove_in (A : Option Addr) (m c : Nat) (a : Int) (w : World) : Calls Tryz.prog 24 #[.agg #[.slice A m c], .int .i64 a] w fun e w' => e = .returned (.func (.func 47) #[] #[.pointer (some ⟨w.heap.size, 0, none⟩), .pointer (some ⟨w.heap.size + 1, 0, none⟩)]) ∧ w' = (w.alloc (.cells #[.slice A m c] 62)).alloc (.cells #[.int .i64 a] 3) := by
  go_enter Tryz.func24, Tryz.ntmps24
  go_wp2_with fail
  go_ret
  exact ⟨rfl, rfl⟩
theorem tkids_in (A : Option Addr) (m c : Nat) (a : Int) (w : World) : Calls Tryz.prog 27 #[.agg #[.slice A m c], .int .i64 a] w fun e w' => e = .returned (.func (.func 52) #[] #[.pointer (some ⟨w.heap.size, 0, none⟩), .pointer (some ⟨w.heap.size + 1, 0, none⟩)]) ∧ w' = (w.alloc (.cells #[.slice A m c] 62)).alloc (.cells #[.int .i64 a] 3) := by
  go_enter Tryz.func27, Tryz.ntmps27
  go_wp2_with fail
  go_ret
  exact ⟨rfl, rfl⟩
theorem two_boxes (w : World) (u v : Value) (t1 t2 : TypeId) : ((w.alloc (.cells #[u] t1)).alloc (.cells #[v] t2)).heap[w.heap.size]? = some (.cells #[u] t1) ∧ ((w.alloc (.cells #[u] t1)).alloc (.cells #[v] t2)).heap[w.heap.size + 1]? = some (.cells #[v] t2) ∧ On w ((w.alloc (.cells #[u] t1)).alloc (.cells #[v] t2)) ∧ ((w.alloc (.cells #[u] t1)).alloc (.cells #[v] t2)).heap.size = w.heap.size + 2 := by
  refine ⟨(Below.heap_alloc _ _ _ (by simp)).trans (World.alloc_heap_new w _), ?_, ((Below.refl _ w).alloc (Nat.le_refl _) _).alloc (by simp) _, by simp⟩
  have := World.alloc_heap_new (w.alloc (.cells #[u] t1)) (.cells #[v] t2)
  rwa [World.size_alloc] at this
theorem ints_out {w w1 w2 : World} {xs : List Int} {v : Value} (hb : Below w.heap.size w w1) (h : w2.ownsRow w1.heap.size 3 1 v xs.length (xs.map (Value.int .i64))) (hb2 : Below w1.heap.size w1 w2) : IntsOut w xs (.returned v) w2 := by
  obtain ⟨A, c, rfl⟩ := ownsRow_form h
  exact ⟨A, xs.length, c, rfl, owns_up h hb.size, below_then hb hb2⟩
set_option maxRecDepth 100000 in
set_option maxHeartbeats 2000000 in
theorem tAbove_to {L : List Nd} {a : Int} {A : Option Addr} {n c : Nat} {w : World} (h : PreV L w A n) : Calls Tryz.prog 6 #[.slice A n c, .int .i64 a] w (IntsOut w (aboveI (ordL L) a)) := by
  have H := Lib.hid h
  clear h
  go_enter Tryz.func6, Tryz.ntmps6
  go_wp2_with fail
  refine (tof_to H.out).mono ?_
  rintro e w1 ⟨A1, n1, c1, rfl, hp, hb⟩
  have HP := Lib.hid hp
  have HB := Lib.hid hb
  clear hp hb
  go_wp2_with fail
  refine (tabove_in _ _ _ _ _).mono ?_
  rintro e w2 ⟨rfl, hw2⟩
  obtain ⟨g1, g2, g3, g4⟩ := two_boxes w1 (.slice A1 n1 c1) (.int .i64 a) 62 3
  rw [← hw2] at g1 g2 g3 g4
  have HC := Lib.hid (collect_to 47 #[.pointer (some ⟨w1.heap.size, 0, none⟩), .pointer (some ⟨w1.heap.size + 1, 0, none⟩)] (enters_of Tryz.func47 (by kernel_rfl) rfl) _ _ 100001 w2.heap.size (by omega) w2 w2 (Nat.le_refl _) (Below.refl _ _)
    (above_stops w1.heap.size w2 ((forest_iff_nested _).1 (ordL_doc L).2) HP.out.2 a (HP.out.1.below g3) g1 g2))
  have HO := Lib.hid (below_then HB.out g3)
  clear hw2 g1 g2 g3 g4
  go_wp2_with fail
  refine HC.out.mono ?_
  rintro e w3 ⟨xs, v, rfl, rfl, h2, h3⟩
  have HI := Lib.hid (ints_out HO.out h2 h3)
  clear h2 h3
  go_wp2_with fail
  go_ret
  exact HI.out
set_option maxRecDepth 100000 in
set_option maxHeartbeats 2000000 in
theorem tKids_to {L : List Nd} {a : Int} {A : Option Addr} {n c : Nat} {w : World} (h : PreV L w A n) : Calls Tryz.prog 8 #[.slice A n c, .int .i64 a] w (IntsOut w (kidsI (ordL L) a)) := by
  have H := Lib.hid h
  clear h
  go_enter Tryz.func8, Tryz.ntmps8
  go_wp2_with fail
  refine (tof_to H.out).mono ?_
  rintro e w1 ⟨A1, n1, c1, rfl, hp, hb⟩
  have HP := Lib.hid hp
  have HB := Lib.hid hb
  clear hp hb
  go_wp2_with fail
  refine (tkids_in _ _ _ _ _).mono ?_
  rintro e w2 ⟨rfl, hw2⟩
  obtain ⟨g1, g2, g3, g4⟩ := two_boxes w1 (.slice A1 n1 c1) (.int .i64 a) 62 3
  rw [← hw2] at g1 g2 g3 g4
  have HC := Lib.hid (collect_to 52 #[.pointer (some ⟨w1.heap.size, 0, none⟩), .pointer (some ⟨w1.heap.size + 1, 0, none⟩)] (enters_of Tryz.func52 (by kernel_rfl) rfl) _ _ 100001 w2.heap.size (by omega) w2 w2 (Nat.le_refl _) (Below.refl _ _)
    (kids_stops w1.heap.size w2 ((forest_iff_nested _).1 (ordL_doc L).2) HP.out.2 a (HP.out.1.below g3) g1 g2))
  have HO := Lib.hid (below_then HB.out g3)
  clear hw2 g1 g2 g3 g4
  go_wp2_with fail
  refine HC.out.mono ?_
  rintro e w3 ⟨xs, v, rfl, rfl, h2, h3⟩
  have HI := Lib.hid (ints_out HO.out h2 h3)
  clear h2 h3
  go_wp2_with fail
  go_ret
  exact HI.out
end Go.Proofs.YtipmdhfinlkceaaGreat
namespace Go.Proofs.YtipmdhfinlkceaaGreat
open Go.RowKit
theorem pieces_high {x : Nd} (h : x.fits) : 0 ≤ piecesN x ∧ piecesN x ≤ highN x ∧ (x.words.length : Int) ≤ piecesN x := by
  have hp := high_pos h
  unfold piecesN
  rcases h with ⟨hk, _, _, _, hw, _⟩ | ⟨hk, _, hl, _⟩ | ⟨hk, _, _, _, hw, _, hh, _⟩ | ⟨hk, _, _, _, hw, _, hh, _⟩
  · rw [if_pos hk, hw]; exact ⟨by decide, hp, by decide⟩
  · have e : highN x = x.line * (x.words.length : Int) := by unfold highN; rw [if_neg (by omega), if_pos hk]
    have h1 : 1 * (x.words.length : Int) ≤ x.line * (x.words.length : Int) := Int.mul_le_mul_of_nonneg_right hl.1 (by omega)
    rw [if_neg (by omega), if_pos hk, e]
    omega
  · have e : highN x = x.h := by unfold highN; rw [if_neg (by omega), if_neg (by omega)]
    have := hh.1
    rw [if_neg (by omega), if_neg (by omega), e, hw]
    simp
    omega
  · have e : highN x = x.h := by unfold highN; rw [if_neg (by omega), if_neg (by omega)]
    have := hh.1
    rw [if_neg (by omega), if_neg (by omega), e, hw]
    simp
    omega
theorem sumI_le2 {f g : Nd → Int} : ∀ {l : List Nd}, (∀ x ∈ l, f x ≤ g x) → sumI f l ≤ sumI g l
  | [], _ => Int.le_refl _
  | x :: l, h => by
    rw [sumI_cons, sumI_cons]
    have h1 := h x (by simp)
    have h2 := sumI_le2 (l := l) (fun y hy => h y (by simp [hy]))
    omega
theorem sumI_one {f : Nd → Int} {l : List Nd} {x : Nd} (h : ∀ y ∈ l, 0 ≤ f y) (hx : x ∈ l) : f x ≤ sumI f l := by
  induction l with
  | nil => cases hx
  | cons y l ih =>
    rw [sumI_cons]
    have h1 := h y (by simp)
    have h2 : 0 ≤ sumI f l := sumI_pos (fun z hz => h z (by simp [hz]))
    rcases List.mem_cons.1 hx with e | hx
    · rw [e]; omega
    · have h3 := ih (fun z hz => h z (by simp [hz])) hx
      omega
theorem chk_lim {L : List Nd} (h : chkV L = 0) : L.length ≤ 2000 ∧ ∀ y ∈ L, y.words.length ≤ 2000 := by
  obtain ⟨hd, hs⟩ := chk_doc h
  have hp : ∀ y ∈ L, 0 ≤ piecesN y := fun y hy => (pieces_high (hd.1 y hy)).1
  have h1 : sumI piecesN L ≤ sumI highN L := sumI_le2 (fun y hy => (pieces_high (hd.1 y hy)).2.1)
  have h2 : 0 ≤ sumI piecesN L := sumI_pos hp
  unfold chkV at h
  rw [if_pos ((docB_iff L).2 hd)] at h
  by_cases ho : overB (sumB L) = true
  · rw [if_pos ho] at h; exact absurd h (by decide)
  · unfold overB at ho
    rw [sumB_eq] at ho
    unfold maxN at hs
    rw [wr_in (by omega) (by omega)] at ho
    simp only [Bool.or_eq_true, decide_eq_true_eq, not_or] at ho
    obtain ⟨⟨⟨_, h4⟩, h5⟩, _⟩ := ho
    refine ⟨by omega, fun y hy => ?_⟩
    have h6 := sumI_one hp hy
    have h7 := (pieces_high (hd.1 y hy)).2.2
    omega
theorem ordL_of {L : List Nd} (h : IsDoc L) : ordL L = L := by unfold ordL; rw [if_pos ((docB_iff L).2 h)]
theorem wk_start {w1 W : World} {An Ar : Option Addr} {nn cn nr cr : Nat} (ho : On w1 W) (hX : Box W w1.heap.size (wkV .start none 0 0 none 0 0 An nn cn Ar nr cr)) : Wk w1 An nn cn Ar nr cr W .start none 0 0 none 0 0 :=
  ⟨ho, hX, ⟨owns_nil _ _ _ _, owns_nil _ _ _ _, Apart.nil, rfl, rfl⟩⟩
theorem may14_to {n : Int} {v : Bool} (hv : (decide (1 ≤ n) && decide (n ≤ 1099511627776)) = v) (w : World) : Calls Tryz.prog 16 #[.int .i64 n] w fun e w' => e = .returned (.bool v) ∧ w = w' := may_to hv w
set_option maxHeartbeats 8000000 in
set_option maxRecDepth 100000 in
theorem of14_gen {L : List Nd} {wd : Int} {An : Option Addr} {nn cn : Nat} (hnn : nn ≤ 100000) {w : World} (h : Sees w An nn L) :
    Calls Tryz.prog 5 #[.slice An nn cn, .int .i64 wd] w (GalSeen w (galR L wd)) := by
  obtain ⟨f, hf⟩ : ∃ f, chkV L = f := ⟨_, rfl⟩
  obtain ⟨v, hv⟩ : ∃ v, (decide (1 ≤ wd) && decide (wd ≤ 1099511627776)) = v := ⟨_, rfl⟩
  have HCK := Lib.hid (show ∀ W', On w W' → Calls Tryz.prog 17 #[.slice An nn cn] W' fun e w' => e = .returned (.int .i64 f) ∧ Below W'.heap.size W' w' from fun W' ho => pCheck_to hf ⟨h.on ho, by omega⟩)
  have HF := Lib.hid hf
  have HS := Lib.hid h
  have HV := Lib.hid hv
  have HMY := Lib.hid (fun (W : World) => may14_to hv W)
  clear hf h hv
  cases v with
  | false =>
    have HE := Lib.hid (show galR L wd = ⟨[], [], 0, 4⟩ by
      unfold galR
      rw [if_pos]
      have h9 := HV.out
      simp only [Bool.and_eq_false_iff, decide_eq_false_iff_not] at h9
      unfold maxX
      omega)
    go_enter Tryz.func5, Tryz.ntmps5
    go_wp2_with fail
    refine (HMY.out _).mono ?_
    rintro e w1 ⟨rfl, rfl⟩
    go_wp2_with fail
    exact bodyPost_ret (v := .tuple #[.agg #[.slice none 0 0, .slice none 0 0, .int .i64 0], .int .i64 4]) (by simp [results, Tryz.results5, go_sem]) rfl (by rw [HE.out]; exact ⟨none, 0, 0, none, 0, 0, rfl, Rows.nil _ _, Rows.nil _ _, by go_grown, (fun q hq => by cases hq), (fun q hq => by cases hq)⟩)
  | true =>
    have hwb : 1 ≤ wd ∧ wd ≤ maxX := by
      have h9 := HV.out
      simp only [Bool.and_eq_true, decide_eq_true_eq] at h9
      unfold maxX
      exact h9
    have HWB := Lib.hid hwb
    clear hwb HV
    go_enter Tryz.func5, Tryz.ntmps5
    go_wp2_with fail
    generalize hW : World.alloc w _ = W
    have HR0 := Lib.hid (show Box W w.heap.size zero3 by rw [← hW]; exact Box.new w zero3 _)
    have HB0 := Lib.hid (show On w W by rw [← hW]; exact On.alloc (On.refl w) _)
    clear hW
    refine (HMY.out _).mono ?_
    rintro e w1 ⟨rfl, rfl⟩
    go_wp2_with fail
    refine (HCK.out W HB0.out).mono ?_
    rintro e w2 ⟨rfl, hb⟩
    have HR2 := Lib.hid (HR0.out.below hb)
    have HB2 := Lib.hid (On.step HB0.out hb)
    clear hb HR0 HB0 HCK HMY
    by_cases hf0 : f = 0
    case neg =>
      have HE := Lib.hid (show galR L wd = ⟨[], [], 0, f⟩ by unfold galR; rw [if_neg (by have := HWB.out; omega), if_pos (by rw [HF.out]; exact hf0), HF.out])
      have hfn : (f != 0) = true := by simpa using hf0
      clear hf0
      obtain ⟨⟨r0, r1, r2⟩, ⟨z0, z1, z2⟩, zl⟩ := zero3_of HR2.out
      go_wp2_with fail
      have hY := ((HR2.out.set 0 (.slice none 0 0) (by simp [zero3])).set 1 (.slice none 0 0) (by simp [zero3])).set 2 (.int .i64 0) (by simp [zero3])
      have s0 := hY.2.2 0 _ rfl
      have s1 := hY.2.2 1 _ rfl
      have s2 := hY.2.2 2 _ rfl
      exact bodyPost_ret (v := .tuple #[.agg #[.slice none 0 0, .slice none 0 0, .int .i64 0], .int .i64 f]) (by simp [results, Tryz.results5, go_sem, s0, s1, s2]) rfl (by rw [HE.out]; exact ⟨none, 0, 0, none, 0, 0, rfl, Rows.nil _ _, Rows.nil _ _, ((Below.setCell (show Below w.heap.size w w2 from HB2.out) (by simp) _).setCell (by simp) _).setCell (by simp) _, (fun q hq => by cases hq), (fun q hq => by cases hq)⟩)
    subst hf0
    have HE := Lib.hid (show galR L wd = ⟨(galS L wd).ams, floatsS (galS L wd), highS (galS L wd), 0⟩ by unfold galR; rw [if_neg (by have := HWB.out; omega), if_neg (by rw [HF.out]; simp)])
    obtain ⟨hd, hsum⟩ := chk_doc HF.out
    have HW := Lib.hid (chk_lim HF.out).2
    have hnl : L.length ≤ 2000 := (chk_lim HF.out).1
    have hlen := HS.out.len
    have HD := Lib.hid hd
    have HSU := Lib.hid (Int.le_trans (sumE_all hd.2.nested hd.1) hsum)
    have HRM := Lib.hid (tRooms_to (c := cn) (show roomsI (ordL L) wd = roomsTo L wd nn by rw [ordL_of hd]; unfold roomsI; rw [if_neg (by have := HWB.out; omega), hlen]) (⟨HS.out.on HB2.out, by omega⟩ : PreV L w2 An nn))
    have HLN := Lib.hid hlen
    have HNR := Lib.hid (show nn ≤ 2000 by omega)
    clear hd hsum HF hlen hnl
    go_wp2_with fail
    refine HRM.out.mono ?_
    rintro e w3 ⟨Ar, nr, cr, rfl, hnr, hrm, hb⟩
    obtain rfl : nr = nn := by rw [hnr, roomsTo_len]
    have HR3 := Lib.hid (HR2.out.below hb)
    have HB3 := Lib.hid (On.step HB2.out hb)
    have HRR := Lib.hid hrm
    clear hb hrm hnr HR2 HB2 HRM
    go_wp2_with fail
    generalize hU : World.alloc w3 _ = U
    have HX := Lib.hid (show Box U w3.heap.size (wkV .start none 0 0 none 0 0 An nr cn Ar nr cr) by rw [← hU]; exact Box.new w3 (wkV .start none 0 0 none 0 0 An nr cn Ar nr cr) _)
    have HOU := Lib.hid (show On w3 U by rw [← hU]; exact On.alloc (On.refl w3) _)
    clear hU
    have hrs : w.heap.size < w3.heap.size := HR3.out.1
    have hel : (evN L 0 nr).length ≤ 4000 := by have h8 := HNR.out; have h9 := evN_len HD.out.2.nested nr 0 nr (by omega) (by rw [← HLN.out]; exact Clo.all HD.out.2.nested); omega
    have HGO := Lib.hid (run_ok HD.out.1 HWB.out.1 HWB.out.2 (evN L 0 nr) GsOk.start)
    have hgl := runS_len2 (w := wd) HW.out (evN L 0 nr) .start
    have hgs : runS L wd .start (evN L 0 nr) = galS L wd := by unfold galS; rw [HLN.out]
    rw [hgs] at hgl HGO
    have HGL := Lib.hid (show (galS L wd).ams.length ≤ 9000000 ∧ (galS L wd).fls.length ≤ 10000 from ⟨by have h9 := hgl.1; have e : (Gs.start).ams.length = 0 := rfl; omega, by have h9 := hgl.2.1; have e : (Gs.start).fls.length = 0 := rfl; omega⟩)
    have HAN := Lib.hid (show ∀ f ∈ (galS L wd).fls, 0 ≤ f.anchor by rw [← hgs]; exact run_anch _ _ (fun f hf => by cases hf))
    have HSM := Lib.hid (show 0 + sumE L (evN L 0 nr) ≤ maxN by have h9 := HSU.out; rw [HLN.out] at h9; omega)
    have HWK := Lib.hid (wwalk14_to HD.out HWB.out.1 HWB.out.2 HW.out (show nr ≤ 10000 by have := HNR.out; omega) (cn := cn) (cr := cr) (HS.out.on HB3.out) HRR.out nr 0 nr (by omega) (Nat.zero_le _) (by rw [← HLN.out]; exact Clo.all HD.out.2.nested))
    have HGS := Lib.hid hgs
    have HHM := Lib.hid (show 0 + sumE L (evN L 0 nr) ≤ maxN from HSM.out)
    clear hgl hgs
    refine (HWK.out 0 (nr : Int) rfl rfl 0 .start none 0 0 none 0 0 U GsOk.start HSM.out (by show 0 + _ ≤ _; omega) (by show 0 + _ ≤ _; omega) (wk_start HOU.out HX.out)).mono ?_
    rintro e w4 ⟨rfl, h4⟩
    rw [HGS.out] at h4
    obtain ⟨A, n, c, A2, m, c2, hW4, hF4, hN4⟩ := h4
    have HR4 := Lib.hid hF4
    have HW4 := Lib.hid hW4
    have hna := hW4.gs.na
    have hnf := hW4.gs.nf
    have hn1 : n ≤ 10000000 := by have := HGL.out.1; omega
    have hm1 : m ≤ 10000 := by have := HGL.out.2; omega
    have HRA := Lib.hid (show ∀ q, A = some q → w3.heap.size < q.block from fun q hq => by subst hq; exact hW4.ra q.block rfl)
    have HRF := Lib.hid (show ∀ q, A2 = some q → w3.heap.size < q.block from fun q hq => by subst hq; exact hW4.rf q.block rfl)
    clear hW4 hF4 hN4 HX HOU HR4 hna hnf HWK
    go_wp2_with fail
    refine (wanchor14_to hn1 hm1 HAN.out HW4.out).mono ?_
    rintro e w5 ⟨rfl, hX5, hA5, hL5, hO5⟩
    have HX5 := Lib.hid hX5
    have HA5 := Lib.hid hA5
    have HL5 := Lib.hid hL5
    have HR5 := Lib.hid (HR3.out.below hO5)
    have HB5 := Lib.hid (On.step HB3.out hO5)
    clear hX5 hA5 hL5 hO5 HW4 HR3 HB3
    go_wp2_with fail
    refine (wend14_to HGO.out HHM.out rfl HX5.out HL5.out).mono ?_
    rintro e w6 ⟨rfl, hb⟩
    have HX6 := Lib.hid (HX5.out.below hb)
    have HA6 := Lib.hid (HA5.out.below hb)
    have HL6 := Lib.hid (HL5.out.below hb)
    have HR6 := Lib.hid (HR5.out.below hb)
    have HB6 := Lib.hid (On.step HB5.out hb)
    clear hb HX5 HA5 HL5 HR5 HB5
    have k0 : w6.cell? ⟨w3.heap.size, 0, none⟩ = some (.slice A n c) := HX6.out.2.2 0 _ rfl
    have k1 : w6.cell? ⟨w3.heap.size, 1, none⟩ = some (.slice A2 m c2) := HX6.out.2.2 1 _ rfl
    have k2 : w6.cell? ⟨w3.heap.size, 2, none⟩ = some (.int .i64 0) := HX6.out.2.2 2 _ rfl
    have f2 : w6.frozen? ⟨w3.heap.size, 2, none⟩ = false := HX6.out.2.1 2
    obtain ⟨⟨r0, r1, r2⟩, ⟨z0, z1, z2⟩, zl⟩ := zero3_of HR6.out
    have hne1 : w.heap.size ≠ w3.heap.size := by omega
    have hne2 : w3.heap.size ≠ w.heap.size := by omega
    go_wp2_with fail
    have hY := (((HR6.out.set_other hne2 2 (.int .i64 (highS (galS L wd)))).set 0 (.slice A n c) (by simp [zero3])).set 1 (.slice A2 m c2) (by simp [zero3])).set 2 (.int .i64 (highS (galS L wd))) (by simp [zero3])
    have s0 := hY.2.2 0 _ rfl
    have s1 := hY.2.2 1 _ rfl
    have s2 := hY.2.2 2 _ rfl
    exact bodyPost_ret (v := .tuple #[.agg #[.slice A n c, .slice A2 m c2, .int .i64 (highS (galS L wd))], .int .i64 0]) (by simp [results, Tryz.results5, go_sem, s0, s1, s2]) rfl (by
      rw [HE.out]
      have ra : ∀ q, A = some q → some w3.heap.size ≠ some q.block := fun q hq e => by have := HRA.out q hq; injection e with e; omega
      have ra2 : ∀ q, A = some q → some w.heap.size ≠ some q.block := fun q hq e => by have := HRA.out q hq; injection e with e; omega
      have rf : ∀ q, A2 = some q → some w3.heap.size ≠ some q.block := fun q hq e => by have := HRF.out q hq; injection e with e; omega
      have rf2 : ∀ q, A2 = some q → some w.heap.size ≠ some q.block := fun q hq e => by have := HRF.out q hq; injection e with e; omega
      exact ⟨A, n, c, A2, m, c2, rfl, rows_far (rows_far (rows_far (rows_far HA6.out (grownBy_setCellN _ _ _ _) ra) (grownBy_setCellN _ _ _ _) ra2) (grownBy_setCellN _ _ _ _) ra2) (grownBy_setCellN _ _ _ _) ra2,
        rows_far (rows_far (rows_far (rows_far HL6.out (grownBy_setCellN _ _ _ _) rf) (grownBy_setCellN _ _ _ _) rf2) (grownBy_setCellN _ _ _ _) rf2) (grownBy_setCellN _ _ _ _) rf2,
        (((Below.setCell (show Below w.heap.size w w6 from HB6.out) (Nat.le_of_lt hrs) _).setCell (by simp) _).setCell (by simp) _).setCell (by simp) _, fun q hq => by have := HRA.out q hq; omega, fun q hq => by have := HRF.out q hq; omega⟩)
end Go.Proofs.YtipmdhfinlkceaaGreat
