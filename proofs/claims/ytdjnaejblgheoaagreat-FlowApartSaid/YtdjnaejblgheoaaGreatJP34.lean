import Derived.Test.YtdjnaejblgheoaaGreatJP30
import Derived.Test.YtdjnaejblgheoaaGreatJP02
import Derived.Test.YtdjnaejblgheoaaGreatJP19
import Derived.Lib.MinMax
import Derived.Test.YtdjnaejblgheoaaGreatJP32
import Derived.Test.YtdjnaejblgheoaaGreatJP25
import Derived.Test.YtdjnaejblgheoaaGreatJP03
import Derived.Laws.MakeOwn
import Derived.Test.YtdjnaejblgheoaaGreatJP33
/- The program's walker of package flow: anchor, end. -/
namespace Go.Proofs.YtdjnaejblgheoaaGreat
open Go.RowKit
set_option linter.unusedVariables false
set_option linter.unusedSimpArgs false
theorem run_anch {L : List Nd} {wd : Int} : ∀ (es : List Ev) (s : Gs), (∀ f ∈ s.fls, 0 ≤ f.anchor) → ∀ f ∈ (runS L wd s es).fls, 0 ≤ f.anchor
  | [], s, h => h
  | e :: es, s, h => by
    show ∀ f ∈ (runS L wd (evS L wd s e) es).fls, 0 ≤ f.anchor
    refine run_anch es _ ?_
    cases e with
    | begin_ i => cases hx : L[i]? with
      | none => rw [show evS L wd s (.begin_ i) = s by show (match L[i]? with | some x => beginS x s | none => s) = _; rw [hx]]; exact h
      | some x => rw [evS_begin hx]; exact h
    | end_ i => cases hx : L[i]? with
      | none => rw [show evS L wd s (.end_ i) = s by show (match L[i]? with | some x => endS x s | none => s) = _; rw [hx]]; exact h
      | some x => rw [evS_end hx]; exact h
    | leaf i => cases hx : L[i]? with
      | none => rw [show evS L wd s (.leaf i) = s by show (match L[i]? with | some x => leafS (roomP L wd i) i x s | none => s) = _; rw [hx]]; exact h
      | some x =>
        rw [evS_leaf hx]
        unfold leafS
        split
        · exact h
        · split
          · exact h
          · split
            · intro f hf
              rcases List.mem_append.1 (show f ∈ s.fls ++ _ from hf) with hf | hf
              · exact h f hf
              · simp only [List.mem_singleton] at hf
                subst hf
                simp
            · exact h
theorem anch_min {n : Int} {f : Fl} (h : 0 ≤ f.anchor) : anchF n f = { f with anchor := min f.anchor (max (n - 1) 0) } := by
  unfold anchF
  split
  · have e : min f.anchor (max (n - 1) 0) = max (n - 1) 0 := by omega
    rw [e]
  · have e : min f.anchor (max (n - 1) 0) = f.anchor := by omega
    rw [e]
theorem side_three {s : Int} (h : s = 1 ∨ s = 2) : andI s 3 ≠ 0 := by
  rcases h with rfl | rfl
  · decide +kernel
  · decide +kernel
theorem low_high : ∀ (l : List Fl) (b t : Int), (∀ f ∈ l, f.side = 1 ∨ f.side = 2) → l.foldl (fun h f => max h (f.y + f.h)) (max b t) = max b (l.foldl (lowStep 3) (t, true)).1
  | [], b, t, h => rfl
  | f :: r, b, t, h => by
    have hs := side_three (h f (by simp))
    show r.foldl _ (max (max b t) (f.y + f.h)) = max b (r.foldl (lowStep 3) (lowStep 3 (t, true) f)).1
    have e : lowStep 3 (t, true) f = (max t (f.y + f.h), true) := by
      unfold lowStep
      rw [if_neg hs]
      by_cases hc : t < f.y + f.h
      · rw [if_pos (.inr hc)]
        have : max t (f.y + f.h) = f.y + f.h := by omega
        rw [this]
      · rw [if_neg (by intro h9; rcases h9 with h9 | h9; cases h9; exact hc h9)]
        have : max t (f.y + f.h) = t := by omega
        rw [this]
    rw [e, ← low_high r b _ (fun g hg => h g (List.mem_cons_of_mem _ hg))]
    congr 1
    omega
/-- the galley's end is the pen's place, or the lowest float's. -/
theorem high_low {s : Gs} (h0 : 0 ≤ s.place) (h : ∀ f ∈ s.fls, f.side = 1 ∨ f.side = 2) : highS s = max s.place (lowestL s.fls 3).1 := by
  unfold highS lowestL
  cases hl : s.fls with
  | nil => show s.place = max s.place 0; omega
  | cons f r =>
    have hs := side_three (h f (by rw [hl]; simp))
    show r.foldl _ (max s.place (f.y + f.h)) = max s.place (r.foldl (lowStep 3) (lowStep 3 (0, false) f)).1
    have e : lowStep 3 (0, false) f = (f.y + f.h, true) := by
      unfold lowStep
      rw [if_neg hs, if_pos (.inl rfl)]
    rw [e]
    exact low_high r _ _ (fun g hg => h g (by rw [hl]; exact List.mem_cons_of_mem _ hg))
theorem low_anch (n : Int) : ∀ (l : List Fl) (s : Int × Bool), (l.map (anchF n)).foldl (lowStep 3) s = l.foldl (lowStep 3) s
  | [], s => rfl
  | f :: r, s => by
    show (r.map (anchF n)).foldl (lowStep 3) (lowStep 3 s (anchF n f)) = r.foldl (lowStep 3) (lowStep 3 s f)
    have e : lowStep 3 s (anchF n f) = lowStep 3 s f := by
      unfold lowStep anchF
      split <;> rfl
    rw [e]
    exact low_anch n r _
theorem anch_near {n : Int} {f : Fl} (h : f.near) : (anchF n f).near := by
  unfold anchF
  split
  · exact h
  · exact h
section
variable {w1 : World} {An Ar : Option Addr} {nn cn nr cr : Nat} {w : World} {s : Gs} {A A2 : Option Addr} {n c m c2 : Nat}
set_option maxHeartbeats 4000000 in
set_option maxRecDepth 100000 in
theorem wanchor14_to (hn : n ≤ 100000) (hm : m ≤ 1000) (ha : ∀ f ∈ s.fls, 0 ≤ f.anchor) (h : Wk w1 An nn cn Ar nr cr w s A n c A2 m c2) :
    Calls Tryz.prog 25 #[.pointer (some ⟨w1.heap.size, 0, none⟩)] w fun e w' => e = .returned (.tuple #[]) ∧ Box w' w1.heap.size (wkV s A n c A2 m c2 An nn cn Ar nr cr) ∧ Rows 8 encAm w' A n s.ams ∧ Rows 7 encFl w' A2 m (floatsS s) ∧ On w1 w' := by
  have hna := h.gs.na
  have hnf := h.gs.nf
  have hws : IntKind.i64.wrap ((n : Int) - 1) = (n : Int) - 1 := IntWalk.i64_in _ (by omega)
  obtain ⟨⟨k0, k1, _, _, _, _, _⟩, _, _⟩ := h.cells
  by_cases hm0 : m = 0
  · subst hm0
    have hf0 : s.fls = [] := List.length_eq_zero_iff.1 hnf
    have HFS := Lib.hid (show floatsS s = [] by unfold floatsS; rw [hf0]; rfl)
    have HT := Lib.hid h
    have HRA := Lib.hid (ownsRow_rows encAm_len (by decide) h.gs.ams)
    clear h ha hnf hf0
    go_enter Tryz.func25, Tryz.ntmps25
    go_wp2_with fail
    go_loopw [3, 18] (fun s3 iv wr => iv = .int .i64 0 ∧ wr = w) (fun _ _ _ => 0)
    case atStart => exact ⟨rfl, rfl⟩
    case round =>
      obtain ⟨rfl, rfl⟩ := hrel
      go_wp2_with fail
      go_end0
      exact ⟨rfl, HT.out.box, HRA.out, by rw [HFS.out]; exact Rows.nil _ _, HT.out.on⟩
  · obtain ⟨g, rfl, hg, hfl⟩ := FlsAt.of_owns h.gs.fls (by omega)
    have hag : ∀ q, A = some q → q.block ≠ g := fun q hq e => by
      subst hq
      exact h.gs.apart q.block rfl (by rw [e]; rfl)
    have HT := Lib.hid h
    have HFL := Lib.hid hfl
    have HRA := Lib.hid (ownsRow_rows encAm_len (by decide) h.gs.ams)
    have HAG := Lib.hid hag
    have HA := Lib.hid ha
    have HNA := Lib.hid hna
    have HNF := Lib.hid hnf
    have hkg : w1.heap.size ≠ g := by omega
    have hkg2 : w1.heap.size ≤ g := by omega
    clear h ha hnf hna hfl hag hm0 hg
    obtain ⟨lst, hlst⟩ : ∃ lst : Int, max ((n : Int) - 1) 0 = lst := ⟨_, rfl⟩
    have HLS := Lib.hid hlst
    go_enter Tryz.func25, Tryz.ntmps25
    go_wp2_with fail
    clear hlst k0 k1
    go_loopw [3, 18] (fun s3 iv wr => ∃ j : Nat, iv = .int .i64 (j : Int) ∧ j ≤ m ∧ Hid (FlsAt wr g (anchTo (n : Int) s.fls j)) ∧ Hid (w.grownBy wr (some g))) (fun _ iv _ => m - (intOf iv).toNat)
    case atStart => exact ⟨0, rfl, Nat.zero_le _, Lib.hid (by rw [anchTo_zero]; exact HFL.out), Lib.hid (World.grownBy.refl _ _)⟩
    case round =>
      obtain ⟨j, rfl, hjm, HF, HG⟩ := hrel
      by_cases hlt : j < m
      · have hlt2 : (j : Int) < (m : Int) := by omega
        have hj0 : (0 : Int) ≤ (j : Int) := by omega
        obtain ⟨x, hx⟩ : ∃ x, s.fls[j]? = some x := ⟨_, List.getElem?_eq_getElem (by have := HNF.out; omega)⟩
        have hxa := anchTo_at (a := (n : Int)) hx
        have HST := Lib.hid (anchTo_step (a := (n : Int)) hx)
        have HMI := Lib.hid (anch_min (n := (n : Int)) (HA.out x (List.mem_of_getElem? hx)))
        have hB := HT.out.box.grown HG.out (fun r e => by injection e with e; omega)
        have k1 : wr.cell? ⟨w1.heap.size, 1, none⟩ = some (.slice (some ⟨g, 0, none⟩) m c2) := hB.2.2 1 _ rfl
        have x2 : wr.cell? ⟨g, j * 7 + 2, none⟩ = some (.int .i64 x.anchor) := HF.out.cell j x hxa 2 _ rfl
        have hgl := HF.out.lt
        have HXA := Lib.hid hxa
        have HMI := Lib.hid (show anchF (n : Int) x = { x with anchor := min x.anchor lst } by rw [HMI.out, HLS.out])
        have f2 : wr.frozen? ⟨g, j * 7 + 2, none⟩ = false := HF.out.free _ (by rw [anchTo_len]; have := HNF.out; omega)
        have q1 := OnW.cell k1
        have q2 := OnW.cell x2
        have hwj : IntKind.i64.wrap ((j : Int) + 1) = (j : Int) + 1 := IntWalk.i64_in _ (by omega)
        clear hx hxa hB k1
        go_wp2_with fail
        refine wp_region_on_tail 19 (by kernel_rfl) (by kernel_rfl) rfl (by kernel_rfl) ?_
        simp only [headOf, List.take_succ_cons, List.take_zero, List.getElem_toArray, List.getElem_cons_succ, List.getElem_cons_zero]
        repeat (go_big_quiet_step (fail))
        refine wpQuiet_nil ?_
        intro w5 hw'
        obtain ⟨⟨w6, hOn⟩, hw''⟩ := hw'
        obtain rfl : w5 = w6 := hw''
        have HF2 := Lib.hid (show FlsAt (w5.setCell ⟨g, j * 7 + 2, none⟩ (.int .i64 (min x.anchor lst))) g (anchTo (n : Int) s.fls (j + 1)) by
          rw [HST.out, HMI.out]
          exact (HF.out.below hOn).anchor HXA.out (min x.anchor lst))
        have HG2 := Lib.hid (show w.grownBy (w5.setCell ⟨g, j * 7 + 2, none⟩ (.int .i64 (min x.anchor lst))) (some g) from by
          have h1 : w.grownBy w5 (some g) := HG.out.trans ⟨hOn.os, hOn.tape, hOn.output, hOn.size, fun k hk _ => hOn.block k hk⟩
          exact h1.trans (grownBy_setCellN w5 g (j * 7 + 2) _))
        have y2 := On.cell x2 w5 hOn
        have z2 : w5.frozen? ⟨g, j * 7 + 2, none⟩ = false := by rw [← f2]; exact Below.frozen hOn (p := ⟨g, j * 7 + 2, none⟩) hgl
        clear hOn q1 q2 x2 f2 HF HG HXA HST HMI
        go_wp2_with fail
        go_roundw
        case rel => exact ⟨j + 1, by go_num, by omega, HF2, HG2⟩
        case measure => simp [intOf] <;> omega
      · have hje : j = m := by omega
        subst hje
        have hge : (j : Int) ≤ (j : Int) := Int.le_refl _
        have hfs : anchTo (n : Int) s.fls j = floatsS s := by rw [anchTo_all (by have := HNF.out; omega)]; unfold floatsS; rw [HNA.out]
        have hfr := HF.out
        rw [hfs] at hfr
        have HFR := Lib.hid (hfr.rows (by unfold floatsS; rw [List.length_map]; exact HNF.out) hm)
        clear hfr hfs HF
        go_wp2_with fail
        go_end0
        exact ⟨rfl, HT.out.box.grown HG.out (fun r e => by injection e with e; omega), rows_far HRA.out HG.out (fun q hq e => HAG.out q hq (by injection e with e; exact e.symm)), HFR.out, Below.grown HT.out.on HG.out HT.out.on.size (fun r e => by injection e with e; omega)⟩
theorem wend14_to {H : Int} (hG : GsOk H s) (hH : H ≤ maxN) {l : List Fl} (hl : floatsS s = l) (hX : Box w w1.heap.size (wkV s A n c A2 m c2 An nn cn Ar nr cr)) (hR : Rows 7 encFl w A2 m l) :
    Calls Tryz.prog 26 #[.pointer (some ⟨w1.heap.size, 0, none⟩)] w fun e w' => e = .returned (.int .i64 (highS s)) ∧ Below w.heap.size w w' := by
  subst hl
  have h0 : 0 ≤ s.place := by have := hG.p0; have := hG.p1; unfold Gs.place; omega
  have hp2 : s.pen.1 + s.pen.2 ≤ H := hG.p2
  have hp0 := hG.p0
  have hp1 := hG.p1
  have HN1 := Lib.hid (show NearI s.pen.1 ∧ NearI s.pen.2 from ⟨by unfold NearI farB maxN at *; omega, by unfold NearI farB maxN at *; omega⟩)
  have hhl := high_low h0 (fun f hf => (hG.fls f hf).side)
  have hla : lowestL (floatsS s) 3 = lowestL s.fls 3 := low_anch _ s.fls (0, false)
  obtain ⟨⟨lp, lok⟩, hlow⟩ : ∃ r, lowestL s.fls 3 = r := ⟨_, rfl⟩
  rw [hlow] at hhl hla
  have HHL := Lib.hid (show max (s.pen.1 + s.pen.2) lp = highS s from hhl.symm)
  have HBL := Lib.hid (blowest_to (c := c2) hla (fun f hf => by
    obtain ⟨g, hg, rfl⟩ := List.mem_map.1 hf
    exact anch_near ((hG.nears hH) g hg)) hR)
  have HX := Lib.hid hX
  have k1 : w.cell? ⟨w1.heap.size, 1, none⟩ = some (.slice A2 m c2) := hX.2.2 1 _ rfl
  clear hG hH hX hR h0 hp2 hp0 hp1 hhl hla hlow
  go_enter Tryz.func26, Tryz.ntmps26
  go_wp2_with fail
  refine HBL.out.mono ?_
  rintro e w2 ⟨rfl, hb⟩
  have HX2 := HX.out.below hb
  have k5 : w2.cell? ⟨w1.heap.size, 5, none⟩ = some (.int .i64 s.pen.1) := HX2.2.2 5 _ rfl
  have k6 : w2.cell? ⟨w1.heap.size, 6, none⟩ = some (.int .i64 s.pen.2) := HX2.2.2 6 _ rfl
  have HB := Lib.hid hb
  clear hb k1 HX2
  go_wp2_with fail
  refine (at13_to HN1.out.1 HN1.out.2).mono ?_
  rintro e w3 ⟨rfl, hb⟩
  have HB2 := Lib.hid (below_then HB.out hb)
  clear hb k5 k6
  go_wp2_with fail
  go_ret
  exact ⟨by rw [← HHL.out]; rfl, HB2.out⟩
end
end Go.Proofs.YtdjnaejblgheoaaGreat
/- The program's package tree: Rooms. -/
namespace Go.Proofs.YtdjnaejblgheoaaGreat
open Go.RowKit
set_option linter.unusedVariables false
set_option linter.unusedSimpArgs false
theorem made_rooms (n : Nat) : madeCells #[.int .i64 0, .int .i64 0] (n * 2) = (List.replicate (2 * n) (Value.int .i64 0)).toArray := by
  apply Array.ext'
  simp only [madeCells]
  rw [List.eq_replicate_iff]
  refine ⟨by simp; omega, fun b hb => ?_⟩
  simp at hb
  obtain ⟨j, _, rfl⟩ := hb
  rcases Nat.mod_two_eq_zero_or_one j with h | h <;> simp [h]
theorem make_rooms (n : Nat) (hn : n ≤ 1000000) (w : World) : (Instr.makeSlice 46 (.int .i64 (n : Int)) (.int .i64 (n : Int))).run Tryz.prog w = .ok (.slice (some ⟨w.heap.size, 0, none⟩) n n) (w.alloc (.cells (List.replicate (2 * n) (Value.int .i64 0)).toArray 49)) := by
  obtain ⟨i0, hi0, hz0, hz1, hz2⟩ := info_parts room_info
  have h := run_make (P := Tryz.prog) w 46 49 i0 _ Tryz.underlying46 hi0 hz0 .i64 .i64 (n : Int) (n : Int) (by omega) (Int.le_refl _) (by rw [hz2]; omega) (by omega)
  rw [hz1] at h
  rw [h]
  show Result.ok _ (w.alloc (.cells (madeCells #[.int .i64 0, .int .i64 0] ((n : Int).toNat * 2)) _)) = _
  rw [Int.toNat_natCast, made_rooms]
theorem may_to {n : Int} {v : Bool} (hv : (decide (1 ≤ n) && decide (n ≤ 1099511627776)) = v) (w : World) : Calls Tryz.prog 23 #[.int .i64 n] w fun e w' => e = .returned (.bool v) ∧ w = w' := by
  rw [← hv]; exact may_any n w
set_option maxHeartbeats 4000000 in
set_option maxRecDepth 100000 in
theorem tRooms_to {L : List Nd} {W : Int} {zs : List (Int × Int)} (hv : roomsI (ordL L) W = zs) {A : Option Addr} {n c : Nat} {w : World} (h : PreV L w A n) : Calls Tryz.prog 15 #[.slice A n c, .int .i64 W] w (RoomsSeen w zs) := by
  have H := Lib.hid h
  clear h
  have hst : ∀ (a : Addr) (fn : Fn) (f c : Array Value) (m : Mode) (w : World), (store a (.func fn f c) m).run Tryz.prog w = stored Tryz.prog w a (.func fn f c) m := fun a fn f c m w => run_store _ w a _ m rfl
  unfold roomsI at hv
  by_cases hW : W < 1 ∨ maxX < W
  · rw [if_pos hW] at hv
    have HZ := Lib.hid hv
    have HM := Lib.hid (show (decide (1 ≤ W) && decide (W ≤ 1099511627776)) = false by
      unfold maxX at hW
      rw [Bool.and_eq_false_iff, decide_eq_false_iff_not, decide_eq_false_iff_not]
      omega)
    clear hv hW
    go_enter Tryz.func15, Tryz.ntmps15
    go_wp2_with fail
    refine (may_to HM.out _).mono ?_
    rintro e w1 ⟨rfl, rfl⟩
    go_wp2_with fail
    go_ret
    exact ⟨none, 0, 0, rfl, by rw [← HZ.out]; rfl, by rw [← HZ.out]; exact Rows.nil _ _, Below.refl _ _⟩
  rw [if_neg hW] at hv
  have hw1 : 1 ≤ W := by omega
  have hw2 : W ≤ maxX := by omega
  have HZ := Lib.hid hv
  have HM := Lib.hid (show (decide (1 ≤ W) && decide (W ≤ 1099511627776)) = true by
    unfold maxX at hw2
    rw [Bool.and_eq_true, decide_eq_true_eq, decide_eq_true_eq]
    omega)
  clear hv hW
  go_enter Tryz.func15, Tryz.ntmps15
  go_wp2_with fail
  refine (may_to HM.out _).mono ?_
  rintro e w1 ⟨rfl, rfl⟩
  go_wp2_with fail
  refine (tof_to H.out).mono ?_
  rintro e w1 ⟨A1, n1, c1, rfl, hp, hb⟩
  have HP := Lib.hid hp
  have HB := Lib.hid hb
  clear hp hb
  go_wp2_with fail
  refine (tmany_to (HP.out.1.below (show Below w1.heap.size w1 _ by go_grown))).mono ?_
  rintro e w2 ⟨rfl, rfl⟩
  have hmk := make_rooms n1 (by have := HP.out.2; omega)
  go_wp2_with fail
  clear hmk hst
  generalize hV : (((w1.alloc (.cells #[.slice A1 n1 c1] 87)).alloc (.cells (Array.replicate (2 * n1) (.int .i64 0)) 49)).alloc (.cells #[.slice (some ⟨w1.heap.size + 1, 0, none⟩) n1 n1] 46)).alloc (.cells #[(.func (.func 36) #[] #[.pointer (some ⟨w1.heap.size + 1 + 1, 0, none⟩), .pointer (some ⟨w1.heap.size, 0, none⟩), .pointer (some ⟨w1.heap.size + 1 + 1 + 1, 0, none⟩)])] 89) = V
  have HO := Lib.hid (show On w1 V by rw [← hV]; exact (((((Below.refl _ _).alloc (Nat.le_refl _) _).alloc (by simp) _).alloc (by simp; omega) _).alloc (by simp; omega) _))
  have hB0 : Box V w1.heap.size [.slice A1 n1 c1] := by rw [← hV]; exact (((Box.new _ [.slice A1 n1 c1] _).alloc _).alloc _).alloc _
  have hB1 : Box V (w1.heap.size + 1) (List.replicate (2 * n1) (.int .i64 0)) := by rw [← hV]; exact ((box_new _ (List.replicate (2 * n1) (.int .i64 0)) _ _ (by simp) _ (by simp)).alloc _).alloc _
  have hB2 : Box V (w1.heap.size + 1 + 1) [.slice (some ⟨w1.heap.size + 1, 0, none⟩) n1 n1] := by rw [← hV]; exact (box_new _ [.slice (some ⟨w1.heap.size + 1, 0, none⟩) n1 n1] _ _ (by simp) _ rfl).alloc _
  have hB3 : Box V (w1.heap.size + 1 + 1 + 1) [(.func (.func 36) #[] #[.pointer (some ⟨w1.heap.size + 1 + 1, 0, none⟩), .pointer (some ⟨w1.heap.size, 0, none⟩), .pointer (some ⟨w1.heap.size + 1 + 1 + 1, 0, none⟩)])] := by rw [← hV]; exact box_new _ [(.func (.func 36) #[] #[.pointer (some ⟨w1.heap.size + 1 + 1, 0, none⟩), .pointer (some ⟨w1.heap.size, 0, none⟩), .pointer (some ⟨w1.heap.size + 1 + 1 + 1, 0, none⟩)])] _ _ (by simp) _ rfl
  have HE := Lib.hid (show FillEnv V (w1.heap.size + 1 + 1) w1.heap.size (w1.heap.size + 1 + 1 + 1) (w1.heap.size + 1) A1 n1 c1 from ⟨hB2.2.2 0 _ rfl, hB0.2.2 0 _ rfl, hB3.2.2 0 _ rfl, by omega, by omega, by omega⟩)
  have HB1 := Lib.hid (show Box V (w1.heap.size + 1) (rmsV (ordL L) W 0 n1) by rw [rmsV_zero]; exact hB1)
  have HLen := Lib.hid HP.out.1.len
  have hnest : Nested (ordL L) := (forest_iff_nested _).1 (ordL_doc L).2
  have HINN := Lib.hid (show innerI (ordL L) (-1) = (0, (n1 : Int)) by rw [innerI_one, HLen.out])
  have HK0 := Lib.hid (show KidAt (ordL L) (-1) (n1 : Int) 0 by
    have := HLen.out
    by_cases h0 : 0 < n1
    · exact .inr ⟨by omega, (parI_none (by omega)).2 first_none, by omega⟩
    · exact .inl ⟨by omega, kidsFrom_end (by omega)⟩)
  clear hV hB0 hB1 hB2 hB3
  go_loopw [8] (fun at' wr => ∃ (j : Nat), at' = .int .i64 (j : Int) ∧ j ≤ n1 ∧ Hid (KidAt (ordL L) (-1) (n1 : Int) j) ∧ Hid (V.grownBy wr (some (w1.heap.size + 1))) ∧ Hid (Box wr (w1.heap.size + 1) (rmsV (ordL L) W j n1))) (fun at' _ => n1 - (intOf at').toNat)
  case atStart => exact ⟨0, rfl, Nat.zero_le _, HK0, Lib.hid (grown_of_belowF (Below.refl _ _) _), HB1⟩
  case round =>
    obtain ⟨j, rfl, hjn, HK, HG, HBj⟩ := hrel
    have HEq := Lib.hid (HE.out.kept HG.out)
    have HOq := Lib.hid (on_grown HO.out (by omega) HG.out)
    have cO := HEq.out.2.1
    have cF := HEq.out.2.2.1
    have cR := HEq.out.1
    by_cases hlt : j < n1
    · have hlt2 : (j : Int) < (n1 : Int) := by omega
      obtain ⟨hpj, hjL⟩ : parentI (ordL L) (j : Int) = -1 ∧ j < (ordL L).length := by
        rcases HK.out with ⟨h1, _⟩ | ⟨_, h2, h3⟩
        · omega
        · exact ⟨h2, h3⟩
      have hy : (ordL L)[j]? = some ((ordL L)[j]'hjL) := List.getElem?_eq_getElem _
      obtain ⟨y, hyy⟩ : ∃ y, (ordL L)[j]'hjL = y := ⟨_, rfl⟩
      rw [hyy] at hy
      obtain ⟨e2, he2, hje, hee, _, hke2⟩ := kidAt_step hnest HINN.out hy hpj hlt2
      have HY := Lib.hid hy
      have HYE := Lib.hid he2
      have HK2 := Lib.hid hke2
      have HRT := Lib.hid (room_top (w := W) ((parI_none hjL).1 hpj))
      clear hy hyy he2 hke2 hpj hjL cR
      go_wp2_with fail
      refine (tmany_to (HP.out.1.below HOq.out)).mono ?_
      rintro e w5 ⟨rfl, rfl⟩
      go_wp2_with fail
      refine (fill_all (ordL_doc L) hw1 hw2 w1 HP.out.1 HP.out.2 _ _ _ (w1.heap.size + 1) (by omega) (e2 - j) j e2 y _ _ _ (Nat.le_refl _) HY.out HYE.out HRT.out HOq.out HEq.out HBj.out).mono ?_
      rintro e w6 ⟨rfl, hg, hb⟩
      have HG6 := Lib.hid (grown_two HG.out hg)
      have HB6 := Lib.hid hb
      clear hg hb cO cF
      go_wp2_with fail
      go_roundw
      case rel => exact ⟨e2, rfl, by omega, HK2, HG6, HB6⟩
      case measure => simp [intOf] <;> omega
    · obtain rfl : j = n1 := by omega
      go_wp2_with fail
      refine (tmany_to (HP.out.1.below HOq.out)).mono ?_
      rintro e w5 ⟨rfl, rfl⟩
      go_wp2_with fail
      go_ret
      refine ⟨_, _, _, rfl, ?_, ?_, below_then HB.out HOq.out⟩
      · rw [← HZ.out, roomsTo_len, HLen.out]
      · rw [← HZ.out, HLen.out]
        refine ⟨roomsTo_len _ _ _, by have := HP.out.2; omega, fun _ => ⟨w1.heap.size + 1, 0, rfl, HBj.out.lt, fun i x hx j' v hv => ?_⟩⟩
        rw [Nat.zero_add]
        exact HBj.out.2.2 (i * 2 + j') v (by rw [rmsV_all]; exact flat_get encRm_len _ i x j' v hx hv)
end Go.Proofs.YtdjnaejblgheoaaGreat
/- The document's answers for package valid: Check. (Written by program: tools/drafts/genlaw6.py.) -/
namespace Go.Proofs.YtdjnaejblgheoaaGreat
open Go.RowKit
set_option linter.unusedVariables false
set_option linter.unusedSimpArgs false
end Go.Proofs.YtdjnaejblgheoaaGreat
