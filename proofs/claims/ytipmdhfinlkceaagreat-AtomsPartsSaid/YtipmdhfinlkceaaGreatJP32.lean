import Derived.Test.YtipmdhfinlkceaaGreatJP29
import Derived.Test.YtipmdhfinlkceaaGreatJP02
import Derived.Test.YtipmdhfinlkceaaGreatJP19
import Derived.Lib.MinMax
import Derived.Test.YtipmdhfinlkceaaGreatJP31
import Derived.Test.YtipmdhfinlkceaaGreatJP01
import Derived.Test.YtipmdhfinlkceaaGreatJP03
import Derived.Test.YtipmdhfinlkceaaGreatJP10
import Derived.Deep.QuietTactic
/- FlowEnd, ValidTopIs, TreeFnsR, TreeRmA, ValidTopChk, TreeFns. -/
set_option linter.unusedVariables false
set_option linter.unusedSimpArgs false
namespace Go.Proofs.YtipmdhfinlkceaaGreat
open Go.RowKit
theorem run_anch {L : List Nd} {wd : Int} : ∀ (es : List Ev) (s : Gs), (∀ f ∈ s.fls, 0 ≤ f.anchor) → ∀ f ∈ (runS L wd s es).fls, 0 ≤ f.anchor
  | [], s, h => h
  | e :: es, s, h => by
    show ∀ f ∈ (runS L wd (evS L wd s e) es).fls, 0 ≤ f.anchor
    refine run_anch es _ ?_
    cases e with
    | begin_ i => cases hx : L[i]? with
      | none => rw [show evS L wd s (.begin_ i) = s by show (match L[i]? with | some x => beginS x s | none => s) = _; rw [hx]]; exact h
      | some x => rw [evS_begin hx]; exact h
    | end_ i => cases hx : L[i]? with
      | none => rw [show evS L wd s (.end_ i) = s by show (match L[i]? with | some x => endS x s | none => s) = _; rw [hx]]; exact h
      | some x => rw [evS_end hx]; exact h
    | leaf i => cases hx : L[i]? with
      | none => rw [show evS L wd s (.leaf i) = s by show (match L[i]? with | some x => leafS (roomP L wd i) i x s | none => s) = _; rw [hx]]; exact h
      | some x =>
        rw [evS_leaf hx]
        unfold leafS
        split
        · exact h
        · split
          · exact h
          · split
            · intro f hf
              rcases List.mem_append.1 (show f ∈ s.fls ++ _ from hf) with hf | hf
              · exact h f hf
              · simp only [List.mem_singleton] at hf
                subst hf
                simp
            · exact h
theorem anch_min {n : Int} {f : Fl} (h : 0 ≤ f.anchor) : anchF n f = { f with anchor := min f.anchor (max (n - 1) 0) } := by
  unfold anchF
  split
  · have e : min f.anchor (max (n - 1) 0) = max (n - 1) 0 := by omega
    rw [e]
  · have e : min f.anchor (max (n - 1) 0) = f.anchor := by omega
    rw [e]
theorem side_three {s : Int} (h : s = 1 ∨ s = 2) : andI s 3 ≠ 0 := by
  rcases h with rfl | rfl
  · decide +kernel
  · decide +kernel
theorem low_high : ∀ (l : List Fl) (b t : Int), (∀ f ∈ l, f.side = 1 ∨ f.side = 2) → l.foldl (fun h f => max h (f.y + f.h)) (max b t) = max b (l.foldl (lowStep 3) (t, true)).1
  | [], b, t, h => rfl
  | f :: r, b, t, h => by
    have hs := side_three (h f (by simp))
    show r.foldl _ (max (max b t) (f.y + f.h)) = max b (r.foldl (lowStep 3) (lowStep 3 (t, true) f)).1
    have e : lowStep 3 (t, true) f = (max t (f.y + f.h), true) := by
      unfold lowStep
      rw [if_neg hs]
      by_cases hc : t < f.y + f.h
      · rw [if_pos (.inr hc)]
        have : max t (f.y + f.h) = f.y + f.h := by omega
        rw [this]
      · rw [if_neg (by intro h9; rcases h9 with h9 | h9; cases h9; exact hc h9)]
        have : max t (f.y + f.h) = t := by omega
        rw [this]
    rw [e, ← low_high r b _ (fun g hg => h g (List.mem_cons_of_mem _ hg))]
    congr 1
    omega
theorem high_low {s : Gs} (h0 : 0 ≤ s.place) (h : ∀ f ∈ s.fls, f.side = 1 ∨ f.side = 2) : highS s = max s.place (lowestL s.fls 3).1 := by
  unfold highS lowestL
  cases hl : s.fls with
  | nil => show s.place = max s.place 0; omega
  | cons f r =>
    have hs := side_three (h f (by rw [hl]; simp))
    show r.foldl _ (max s.place (f.y + f.h)) = max s.place (r.foldl (lowStep 3) (lowStep 3 (0, false) f)).1
    have e : lowStep 3 (0, false) f = (f.y + f.h, true) := by
      unfold lowStep
      rw [if_neg hs, if_pos (.inl rfl)]
    rw [e]
    exact low_high r _ _ (fun g hg => h g (by rw [hl]; exact List.mem_cons_of_mem _ hg))
theorem low_anch (n : Int) : ∀ (l : List Fl) (s : Int × Bool), (l.map (anchF n)).foldl (lowStep 3) s = l.foldl (lowStep 3) s
  | [], s => rfl
  | f :: r, s => by
    show (r.map (anchF n)).foldl (lowStep 3) (lowStep 3 s (anchF n f)) = r.foldl (lowStep 3) (lowStep 3 s f)
    have e : lowStep 3 s (anchF n f) = lowStep 3 s f := by
      unfold lowStep anchF
      split <;> rfl
    rw [e]
    exact low_anch n r _
theorem anch_near {n : Int} {f : Fl} (h : f.near) : (anchF n f).near := by
  unfold anchF
  split
  · exact h
  · exact h
section
variable {w1 : World} {An Ar : Option Addr} {nn cn nr cr : Nat} {w : World} {s : Gs} {A A2 : Option Addr} {n c m c2 : Nat}
set_option maxHeartbeats 4000000 in
set_option maxRecDepth 100000 in
theorem wanchor14_to (hn : n ≤ 10000000) (hm : m ≤ 10000) (ha : ∀ f ∈ s.fls, 0 ≤ f.anchor) (h : Wk w1 An nn cn Ar nr cr w s A n c A2 m c2) :
    Calls Tryz.prog 20 #[.pointer (some ⟨w1.heap.size, 0, none⟩)] w fun e w' => e = .returned (.tuple #[]) ∧ Box w' w1.heap.size (wkV s A n c A2 m c2 An nn cn Ar nr cr) ∧ Rows 8 encAm w' A n s.ams ∧ Rows 7 encFl w' A2 m (floatsS s) ∧ On w1 w' := by
  have hna := h.gs.na
  have hnf := h.gs.nf
  have hws : IntKind.i64.wrap ((n : Int) - 1) = (n : Int) - 1 := IntWalk.i64_in _ (by omega)
  obtain ⟨⟨k0, k1, _, _, _, _, _⟩, _, _⟩ := h.cells
  by_cases hm0 : m = 0
  · subst hm0
    have hf0 : s.fls = [] := List.length_eq_zero_iff.1 hnf
    have HFS := Lib.hid (show floatsS s = [] by unfold floatsS; rw [hf0]; rfl)
    have HT := Lib.hid h
    have HRA := Lib.hid (ownsRow_rows encAm_len (by decide) h.gs.ams)
    clear h ha hnf hf0
    go_enter Tryz.func20, Tryz.ntmps20
    go_wp2_with fail
    go_loopw [3, 18] (fun s3 iv wr => iv = .int .i64 0 ∧ wr = w) (fun _ _ _ => 0)
    case atStart => exact ⟨rfl, rfl⟩
    case round =>
      obtain ⟨rfl, rfl⟩ := hrel
      go_wp2_with fail
      go_end0
      exact ⟨rfl, HT.out.box, HRA.out, by rw [HFS.out]; exact Rows.nil _ _, HT.out.on⟩
  · obtain ⟨g, rfl, hg, hfl⟩ := FlsAt.of_owns h.gs.fls (by omega)
    have hag : ∀ q, A = some q → q.block ≠ g := fun q hq e => by
      subst hq
      exact h.gs.apart q.block rfl (by rw [e]; rfl)
    have HT := Lib.hid h
    have HFL := Lib.hid hfl
    have HRA := Lib.hid (ownsRow_rows encAm_len (by decide) h.gs.ams)
    have HAG := Lib.hid hag
    have HA := Lib.hid ha
    have HNA := Lib.hid hna
    have HNF := Lib.hid hnf
    have hkg : w1.heap.size ≠ g := by omega
    have hkg2 : w1.heap.size ≤ g := by omega
    clear h ha hnf hna hfl hag hm0 hg
    obtain ⟨lst, hlst⟩ : ∃ lst : Int, max ((n : Int) - 1) 0 = lst := ⟨_, rfl⟩
    have HLS := Lib.hid hlst
    go_enter Tryz.func20, Tryz.ntmps20
    go_wp2_with fail
    clear hlst k0 k1
    go_loopw [3, 18] (fun s3 iv wr => ∃ j : Nat, iv = .int .i64 (j : Int) ∧ j ≤ m ∧ Hid (FlsAt wr g (anchTo (n : Int) s.fls j)) ∧ Hid (w.grownBy wr (some g))) (fun _ iv _ => m - (intOf iv).toNat)
    case atStart => exact ⟨0, rfl, Nat.zero_le _, Lib.hid (by rw [anchTo_zero]; exact HFL.out), Lib.hid (World.grownBy.refl _ _)⟩
    case round =>
      obtain ⟨j, rfl, hjm, HF, HG⟩ := hrel
      by_cases hlt : j < m
      · have hlt2 : (j : Int) < (m : Int) := by omega
        have hj0 : (0 : Int) ≤ (j : Int) := by omega
        obtain ⟨x, hx⟩ : ∃ x, s.fls[j]? = some x := ⟨_, List.getElem?_eq_getElem (by have := HNF.out; omega)⟩
        have hxa := anchTo_at (a := (n : Int)) hx
        have HST := Lib.hid (anchTo_step (a := (n : Int)) hx)
        have HMI := Lib.hid (anch_min (n := (n : Int)) (HA.out x (List.mem_of_getElem? hx)))
        have hB := HT.out.box.grown HG.out (fun r e => by injection e with e; omega)
        have k1 : wr.cell? ⟨w1.heap.size, 1, none⟩ = some (.slice (some ⟨g, 0, none⟩) m c2) := hB.2.2 1 _ rfl
        have x2 : wr.cell? ⟨g, j * 7 + 2, none⟩ = some (.int .i64 x.anchor) := HF.out.cell j x hxa 2 _ rfl
        have hgl := HF.out.lt
        have HXA := Lib.hid hxa
        have HMI := Lib.hid (show anchF (n : Int) x = { x with anchor := min x.anchor lst } by rw [HMI.out, HLS.out])
        have f2 : wr.frozen? ⟨g, j * 7 + 2, none⟩ = false := HF.out.free _ (by rw [anchTo_len]; have := HNF.out; omega)
        have q1 := OnW.cell k1
        have q2 := OnW.cell x2
        have hwj : IntKind.i64.wrap ((j : Int) + 1) = (j : Int) + 1 := IntWalk.i64_in _ (by omega)
        clear hx hxa hB k1
        go_wp2_with fail
        refine wp_region_on_tail 19 (by kernel_rfl) (by kernel_rfl) rfl (by kernel_rfl) ?_
        simp only [headOf, List.take_succ_cons, List.take_zero, List.getElem_toArray, List.getElem_cons_succ, List.getElem_cons_zero]
        repeat (go_big_quiet_step (fail))
        refine wpQuiet_nil ?_
        intro w5 hw'
        obtain ⟨⟨w6, hOn⟩, hw''⟩ := hw'
        obtain rfl : w5 = w6 := hw''
        have HF2 := Lib.hid (show FlsAt (w5.setCell ⟨g, j * 7 + 2, none⟩ (.int .i64 (min x.anchor lst))) g (anchTo (n : Int) s.fls (j + 1)) by
          rw [HST.out, HMI.out]
          exact (HF.out.below hOn).anchor HXA.out (min x.anchor lst))
        have HG2 := Lib.hid (show w.grownBy (w5.setCell ⟨g, j * 7 + 2, none⟩ (.int .i64 (min x.anchor lst))) (some g) from by
          have h1 : w.grownBy w5 (some g) := HG.out.trans ⟨hOn.os, hOn.tape, hOn.output, hOn.size, fun k hk _ => hOn.block k hk⟩
          exact h1.trans (grownBy_setCellN w5 g (j * 7 + 2) _))
        have y2 := On.cell x2 w5 hOn
        have z2 : w5.frozen? ⟨g, j * 7 + 2, none⟩ = false := by rw [← f2]; exact Below.frozen hOn (p := ⟨g, j * 7 + 2, none⟩) hgl
        clear hOn q1 q2 x2 f2 HF HG HXA HST HMI
        go_wp2_with fail
        go_roundw
        case rel => exact ⟨j + 1, by go_num, by omega, HF2, HG2⟩
        case measure => simp [intOf] <;> omega
      · have hje : j = m := by omega
        subst hje
        have hge : (j : Int) ≤ (j : Int) := Int.le_refl _
        have hfs : anchTo (n : Int) s.fls j = floatsS s := by rw [anchTo_all (by have := HNF.out; omega)]; unfold floatsS; rw [HNA.out]
        have hfr := HF.out
        rw [hfs] at hfr
        have HFR := Lib.hid (hfr.rows (by unfold floatsS; rw [List.length_map]; exact HNF.out) hm)
        clear hfr hfs HF
        go_wp2_with fail
        go_end0
        exact ⟨rfl, HT.out.box.grown HG.out (fun r e => by injection e with e; omega), rows_far HRA.out HG.out (fun q hq e => HAG.out q hq (by injection e with e; exact e.symm)), HFR.out, Below.grown HT.out.on HG.out HT.out.on.size (fun r e => by injection e with e; omega)⟩
theorem wend14_to {H : Int} (hG : GsOk H s) (hH : H ≤ maxN) {l : List Fl} (hl : floatsS s = l) (hX : Box w w1.heap.size (wkV s A n c A2 m c2 An nn cn Ar nr cr)) (hR : Rows 7 encFl w A2 m l) :
    Calls Tryz.prog 21 #[.pointer (some ⟨w1.heap.size, 0, none⟩)] w fun e w' => e = .returned (.int .i64 (highS s)) ∧ Below w.heap.size w w' := by
  subst hl
  have h0 : 0 ≤ s.place := by have := hG.p0; have := hG.p1; unfold Gs.place; omega
  have hp2 : s.pen.1 + s.pen.2 ≤ H := hG.p2
  have hp0 := hG.p0
  have hp1 := hG.p1
  have HN1 := Lib.hid (show NearI s.pen.1 ∧ NearI s.pen.2 from ⟨by unfold NearI farB maxN at *; omega, by unfold NearI farB maxN at *; omega⟩)
  have hhl := high_low h0 (fun f hf => (hG.fls f hf).side)
  have hla : lowestL (floatsS s) 3 = lowestL s.fls 3 := low_anch _ s.fls (0, false)
  obtain ⟨⟨lp, lok⟩, hlow⟩ : ∃ r, lowestL s.fls 3 = r := ⟨_, rfl⟩
  rw [hlow] at hhl hla
  have HHL := Lib.hid (show max (s.pen.1 + s.pen.2) lp = highS s from hhl.symm)
  have HBL := Lib.hid (blowest_to (c := c2) hla (fun f hf => by
    obtain ⟨g, hg, rfl⟩ := List.mem_map.1 hf
    exact anch_near ((hG.nears hH) g hg)) hR)
  have HX := Lib.hid hX
  have k1 : w.cell? ⟨w1.heap.size, 1, none⟩ = some (.slice A2 m c2) := hX.2.2 1 _ rfl
  clear hG hH hX hR h0 hp2 hp0 hp1 hhl hla hlow
  go_enter Tryz.func21, Tryz.ntmps21
  go_wp2_with fail
  refine HBL.out.mono ?_
  rintro e w2 ⟨rfl, hb⟩
  have HX2 := HX.out.below hb
  have k5 : w2.cell? ⟨w1.heap.size, 5, none⟩ = some (.int .i64 s.pen.1) := HX2.2.2 5 _ rfl
  have k6 : w2.cell? ⟨w1.heap.size, 6, none⟩ = some (.int .i64 s.pen.2) := HX2.2.2 6 _ rfl
  have HB := Lib.hid hb
  clear hb k1 HX2
  go_wp2_with fail
  refine (at13_to HN1.out.1 HN1.out.2).mono ?_
  rintro e w3 ⟨rfl, hb⟩
  have HB2 := Lib.hid (below_then HB.out hb)
  clear hb k5 k6
  go_wp2_with fail
  go_ret
  exact ⟨by rw [← HHL.out]; rfl, HB2.out⟩
end
end Go.Proofs.YtipmdhfinlkceaaGreat
namespace Go.Proofs.YtipmdhfinlkceaaGreat
open Go.RowKit
theorem pcount_pre {l : List Nd} {A : Option Addr} {n ca : Nat} {w : World} (h : PreV l w A n) : Calls Tryz.prog 33 #[.slice A n ca] w (CountPost l w) := pcount_any l A n ca w h.1 h.2
theorem pIs_to {l : List Nd} {v : Bool} (ha : docB l = v) {A : Option Addr} {n ca : Nat} {w : World} (h : PreV l w A n) : Calls Tryz.prog 46 #[.slice A n ca] w fun e w' => e = .returned (.bool v) ∧ Below w.heap.size w w' := by
  have HA := Lib.hid ha
  have H := Lib.hid h
  clear ha h
  go_enter Tryz.func46, Tryz.ntmps46
  go_wp2_with fail
  refine (pcount_pre H.out).mono ?_
  rintro e w1 ⟨⟨hd, A1, k1, c1, rfl⟩ | ⟨hd, rfl⟩, hb⟩
  · have HV := Lib.hid (show v = true by rw [← HA.out]; exact (docB_iff l).2 hd)
    obtain ⟨⟨s0, s1, s2, s3⟩, hs⟩ : ∃ s, sumB l = s := ⟨_, rfl⟩
    rw [hs]
    have HB := Lib.hid hb
    clear hb hd hs
    go_wp2_with fail
    go_ret
    exact ⟨ret_bool HV.out.symm, HB.out.alloc (by have := HB.out.size; omega) _⟩
  · have HV := Lib.hid (show v = false by rw [← HA.out]; rcases hq : docB l with _ | _; rfl; exact absurd ((docB_iff l).1 hq) hd)
    have HB := Lib.hid hb
    clear hb hd
    go_wp2_with fail
    go_ret
    exact ⟨ret_bool HV.out.symm, HB.out.alloc (by have := HB.out.size; omega) _⟩
theorem tmany_to {L : List Nd} {A : Option Addr} {n c : Nat} {w : World} (h : Sees w A n L) : Calls Tryz.prog 34 #[.slice A n c] w fun e w' => e = .returned (.int .i64 (n : Int)) ∧ w = w' := by
  have hb := h.bound
  clear h
  go_enter Tryz.func34, Tryz.ntmps34
  go_wp2_with fail
  go_ret
  exact ⟨rfl, rfl⟩
theorem tend_to {L : List Nd} (hn : Nested L) {k : Nat} {x : Nd} (hx : L[k]? = some x) {e : Int} (he : (k : Int) + x.size = e) {A : Option Addr} {n c : Nat} {w : World} (h : Sees w A n L) (hn2 : n ≤ 100000) :
    Calls Tryz.prog 36 #[.slice A n c, .int .i64 (k : Int)] w fun r w' => r = .returned (.int .i64 e) ∧ w = w' := by
  have hl := h.len
  have hk := (List.getElem?_eq_some_iff.1 hx).1
  have hkn : k < n := by omega
  have hkn2 : (k : Int) < (n : Int) := by omega
  obtain ⟨b1, o1, m1, x1, rfl, hb1, e1, r1, s1⟩ := h.at_ hkn
  rw [hx] at e1
  injection e1 with e1
  subst e1
  have c1 := r1 1 _ rfl
  have hms : m1.size = x.size := s1.1.2.1.symm
  have hs := hn k x hx
  have hs1 := hs.1
  have hs2 := hs.2.1
  obtain ⟨z, hz⟩ : ∃ z, m1.size = z := ⟨_, rfl⟩
  have c1' : w.cell? ⟨b1, o1 + k * 20 + 1, none⟩ = some (.int .i64 z) := by rw [← hz]; exact c1
  rw [hz] at hms
  rw [← hms] at he hs1 hs2
  have hwr : IntKind.i64.wrap ((k : Int) + z) = (k : Int) + z := IntWalk.i64_in _ (by omega)
  have HE := Lib.hid he
  clear h hx r1 s1 hs hms hz c1 he hl hk
  go_enter Tryz.func36, Tryz.ntmps36
  go_wp2_with fail
  go_ret
  exact ⟨ret_int HE.out, rfl⟩
theorem tinset_to {L : List Nd} {k : Nat} {i : Int} (hk : k < L.length) (hi : insetAt L k = i) {A : Option Addr} {n c : Nat} {w : World} (h : Sees w A n L) :
    Calls Tryz.prog 38 #[.slice A n c, .int .i64 (k : Int)] w fun r w' => r = .returned (.int .i64 i) ∧ w = w' := by
  have hl := h.len
  have hkn : k < n := by omega
  have hkn2 : (k : Int) < (n : Int) := by omega
  have hb := h.bound
  obtain ⟨b1, o1, m1, x1, rfl, hb1, e1, r1, s1⟩ := h.at_ hkn
  have hins : insetAt L k = m1.sty.inset := by unfold insetAt; rw [e1]; show x1.sty.inset = _; rw [s1.1.2.2.1]
  have c1 : w.cell? ⟨b1, o1 + k * 20 + 2 + 4, none⟩ = some (.int .i64 m1.sty.inset) := r1 6 _ rfl
  rw [← hins, hi] at c1
  clear h r1 s1 e1 hins hi hl hk
  go_enter Tryz.func38, Tryz.ntmps38
  go_wp2_with fail
  go_ret
  exact ⟨rfl, rfl⟩
def ordL (L : List Nd) : List Nd := if docB L then L else []
theorem ordL_doc (L : List Nd) : IsDoc (ordL L) := by
  unfold ordL
  rcases hd : docB L with _ | _
  · rw [if_neg (by decide)]
    exact (docB_iff []).1 rfl
  · rw [if_pos rfl]; exact (docB_iff L).1 hd
set_option maxHeartbeats 1000000 in
set_option maxRecDepth 100000 in
theorem tof_to {L : List Nd} {A : Option Addr} {n c : Nat} {w : World} (h : PreV L w A n) :
    Calls Tryz.prog 23 #[.slice A n c] w fun e w' => ∃ A' n' c', e = .returned (.agg #[.slice A' n' c']) ∧ PreV (ordL L) w' A' n' ∧ Below w.heap.size w w' := by
  have H := Lib.hid h
  clear h
  rcases hd : docB L with _ | _
  · have HL := Lib.hid (show ordL L = [] by unfold ordL; rw [hd, if_neg (by decide)])
    have HD := Lib.hid hd
    clear hd
    go_enter Tryz.func23, Tryz.ntmps23
    go_wp2_with fail
    refine (pIs_to HD.out (H.out.below (show Below w.heap.size w _ by go_grown))).mono ?_
    rintro e w1 ⟨rfl, hb⟩
    have HB := Lib.hid (below_then (show Below w.heap.size w _ by go_grown) hb)
    have HX := Lib.hid (show Box w1 w.heap.size [.slice none 0 0] from (Box.new w [.slice none 0 0] _).below hb)
    clear hb
    obtain ⟨a0, a1, a2⟩ := HX.out.of1
    go_wp2_with fail
    have hY := HX.out.set 0 (.slice none 0 0) (by simp)
    have r0 := hY.2.2 0 _ rfl
    exact bodyPost_ret (v := .agg #[.slice none 0 0]) (by simp [results, Tryz.results23, go_sem, r0]) rfl ⟨none, 0, 0, rfl, ⟨by rw [HL.out]; exact Sees.nil _, by omega⟩, HB.out.setCell (Nat.le_refl _) _⟩
  · have HL := Lib.hid (show ordL L = L by unfold ordL; rw [hd, if_pos rfl])
    have HD := Lib.hid hd
    clear hd
    go_enter Tryz.func23, Tryz.ntmps23
    go_wp2_with fail
    refine (pIs_to HD.out (H.out.below (show Below w.heap.size w _ by go_grown))).mono ?_
    rintro e w1 ⟨rfl, hb⟩
    have HB := Lib.hid (below_then (show Below w.heap.size w _ by go_grown) hb)
    have HX := Lib.hid (show Box w1 w.heap.size [.slice none 0 0] from (Box.new w [.slice none 0 0] _).below hb)
    clear hb
    obtain ⟨a0, a1, a2⟩ := HX.out.of1
    go_wp2_with fail
    have hY := HX.out.set 0 (.slice A n c) (by simp)
    have r0 := hY.2.2 0 _ rfl
    exact bodyPost_ret (v := .agg #[.slice A n c]) (by simp [results, Tryz.results23, go_sem, r0]) rfl ⟨A, n, c, rfl, by rw [HL.out]; exact H.out.below (HB.out.setCell (Nat.le_refl _) _), HB.out.setCell (Nat.le_refl _) _⟩
def RoomsSeen (w : World) (zs : List (Int × Int)) (e : Ending) (w' : World) : Prop := ∃ A n c, e = .returned (.slice A n c) ∧ n = zs.length ∧ Rows 2 encRm w' A n zs ∧ Below w.heap.size w w'
set_option maxHeartbeats 4000000 in
set_option maxRecDepth 100000 in
theorem wpList_val {P : Program} {ops : Array Oper} {rest : List Oper} {o : Oper} {a : Act} {w : World} {Q : Exit → Act → World → Prop} (hgd : o.guard = none) (v : Value) (he : (execOp a.eval o).run P w = .ok (.value v) w) (h : wpList P ops Q rest (a.put o.dst v) w) : wpList P ops Q (o :: rest) a w := by
  refine wpList_plain hgd fun K hK => ?_
  unfold Oper.wp
  rw [he, Oper.upon_value]
  exact hK _ _ h
set_option maxHeartbeats 8000000 in
set_option maxRecDepth 100000 in
theorem pCheck_to {l : List Nd} {f : Int} (ha : chkV l = f) {A : Option Addr} {n ca : Nat} {w : World} (h : PreV l w A n) : Calls Tryz.prog 17 #[.slice A n ca] w fun e w' => e = .returned (.int .i64 f) ∧ Below w.heap.size w w' := by
  have HA := Lib.hid ha
  have H := Lib.hid h
  clear ha h
  go_enter Tryz.func17, Tryz.ntmps17
  go_wp2_with fail
  refine (pcount_pre H.out).mono ?_
  rintro e w1 ⟨⟨hd, A1, k1, c1, rfl⟩ | ⟨hd, rfl⟩, hb⟩
  rotate_left
  · have HV := Lib.hid (show f = 4 by rw [← HA.out]; unfold chkV; rw [if_neg (fun e => hd ((docB_iff l).1 e))])
    have HB := Lib.hid hb
    clear hb hd
    go_wp2_with fail
    go_ret
    exact ⟨ret_int HV.out.symm, HB.out.alloc (by have := HB.out.size; omega) _⟩
  obtain ⟨⟨s0, s1, s2, s3⟩, hs⟩ : ∃ s, sumB l = s := ⟨_, rfl⟩
  have HV := Lib.hid (show f = if decide (16 < s0) || decide (2000 < s1) || decide (2000 < s2) || decide (1099511627776 < s3) then 2 else 0 by rw [← HA.out]; unfold chkV overB; rw [if_pos ((docB_iff l).2 hd), hs])
  rw [hs]
  have HB := Lib.hid hb
  have hsz := hb.size
  clear hb hd hs
  go_wp2_with fail
  go_loopw [33] (fun i wr => ∃ k : Nat, i = .int .i64 k ∧ Below w.heap.size w wr ∧ (k = 0 ∨ (k = 1 ∧ s0 ≤ 16) ∨ (k = 2 ∧ s0 ≤ 16 ∧ s1 ≤ 2000) ∨ (k = 3 ∧ s0 ≤ 16 ∧ s1 ≤ 2000 ∧ s2 ≤ 2000) ∨ (k = 4 ∧ s0 ≤ 16 ∧ s1 ≤ 2000 ∧ s2 ≤ 2000 ∧ s3 ≤ 1099511627776))) (fun i _ => 4 - (intOf i).toNat)
  case atStart => exact ⟨0, rfl, (HB.out.alloc (by omega) _).alloc (by simp; omega) _, .inl rfl⟩
  case round =>
    obtain ⟨k, rfl, hon, hk⟩ := hrel
    have HO := Lib.hid hon
    have hos := hon.size
    clear hon
    rcases hk with rfl | ⟨rfl, h0⟩ | ⟨rfl, h0, h1⟩ | ⟨rfl, h0, h1, h2⟩ | ⟨rfl, h0, h1, h2, h3⟩
    · by_cases hv : 16 < s0
      · have HW := Lib.hid (show f = 2 by rw [HV.out]; simp [hv])
        go_wp2_with ((with_reducible refine stop_dst 35 ?_ ?_); exact rfl; refine Stop.intro ?_; refine wpList_val rfl (.agg #[.int .i64 s0, .int .i64 16]) (by kernel_rfl) ?_)
        go_ret
        exact ⟨ret_int HW.out.symm, HO.out.alloc (by omega) _⟩
      · have hv2 : s0 ≤ 16 := by omega
        clear hv
        go_wp2_with ((with_reducible refine stop_dst 35 ?_ ?_); exact rfl; refine Stop.intro ?_; refine wpList_val rfl (.agg #[.int .i64 s0, .int .i64 16]) (by kernel_rfl) ?_)
        go_roundw
        case rel => exact ⟨1, by go_num, HO.out.alloc (by omega) _, .inr (.inl ⟨rfl, by omega⟩)⟩
        case measure => simp [intOf]
    · by_cases hv : 2000 < s1
      · have HW := Lib.hid (show f = 2 by rw [HV.out]; simp [hv])
        go_wp2_with ((with_reducible refine stop_dst 35 ?_ ?_); exact rfl; refine Stop.intro ?_; refine wpList_val rfl (.agg #[.int .i64 s1, .int .i64 2000]) (by kernel_rfl) ?_)
        go_ret
        exact ⟨ret_int HW.out.symm, HO.out.alloc (by omega) _⟩
      · have hv2 : s1 ≤ 2000 := by omega
        clear hv
        go_wp2_with ((with_reducible refine stop_dst 35 ?_ ?_); exact rfl; refine Stop.intro ?_; refine wpList_val rfl (.agg #[.int .i64 s1, .int .i64 2000]) (by kernel_rfl) ?_)
        go_roundw
        case rel => exact ⟨2, by go_num, HO.out.alloc (by omega) _, .inr (.inr (.inl ⟨rfl, by omega, by omega⟩))⟩
        case measure => simp [intOf]
    · by_cases hv : 2000 < s2
      · have HW := Lib.hid (show f = 2 by rw [HV.out]; simp [hv])
        go_wp2_with ((with_reducible refine stop_dst 35 ?_ ?_); exact rfl; refine Stop.intro ?_; refine wpList_val rfl (.agg #[.int .i64 s2, .int .i64 2000]) (by kernel_rfl) ?_)
        go_ret
        exact ⟨ret_int HW.out.symm, HO.out.alloc (by omega) _⟩
      · have hv2 : s2 ≤ 2000 := by omega
        clear hv
        go_wp2_with ((with_reducible refine stop_dst 35 ?_ ?_); exact rfl; refine Stop.intro ?_; refine wpList_val rfl (.agg #[.int .i64 s2, .int .i64 2000]) (by kernel_rfl) ?_)
        go_roundw
        case rel => exact ⟨3, by go_num, HO.out.alloc (by omega) _, .inr (.inr (.inr (.inl ⟨rfl, by omega, by omega, by omega⟩)))⟩
        case measure => simp [intOf]
    · by_cases hv : 1099511627776 < s3
      · have HW := Lib.hid (show f = 2 by rw [HV.out]; simp [hv])
        go_wp2_with ((with_reducible refine stop_dst 35 ?_ ?_); exact rfl; refine Stop.intro ?_; refine wpList_val rfl (.agg #[.int .i64 s3, .int .i64 1099511627776]) (by kernel_rfl) ?_)
        go_ret
        exact ⟨ret_int HW.out.symm, HO.out.alloc (by omega) _⟩
      · have hv2 : s3 ≤ 1099511627776 := by omega
        clear hv
        go_wp2_with ((with_reducible refine stop_dst 35 ?_ ?_); exact rfl; refine Stop.intro ?_; refine wpList_val rfl (.agg #[.int .i64 s3, .int .i64 1099511627776]) (by kernel_rfl) ?_)
        go_roundw
        case rel => exact ⟨4, by go_num, HO.out.alloc (by omega) _, .inr (.inr (.inr (.inr ⟨rfl, by omega, by omega, by omega, by omega⟩)))⟩
        case measure => simp [intOf]
    · have HW := Lib.hid (show f = 0 by rw [HV.out, decide_eq_false (by omega : ¬ 16 < s0), decide_eq_false (by omega : ¬ 2000 < s1), decide_eq_false (by omega : ¬ 2000 < s2), decide_eq_false (by omega : ¬ 1099511627776 < s3)]; rfl)
      go_wp2_with fail
      go_ret
      exact ⟨ret_int HW.out.symm, HO.out⟩
theorem thas_to {L : List Nd} {a : Int} {v : Bool} (hv : hasI L a = v) {A : Option Addr} {n c : Nat} {w : World} (h : Sees w A n L) : Calls Tryz.prog 48 #[.slice A n c, .int .i64 a] w fun e w' => e = .returned (.bool v) ∧ w = w' := by
  have hl := h.len
  have hb := h.bound
  subst hv
  by_cases h0 : 0 ≤ a
  · by_cases h1 : a < (n : Int)
    · have HV := Lib.hid (show hasI L a = true from hasI_iff.2 ⟨h0, by omega⟩)
      clear h hl
      go_enter Tryz.func48, Tryz.ntmps48
      go_wp2_with fail
      go_ret
      exact ⟨ret_bool HV.out.symm, rfl⟩
    · have HV := Lib.hid (show hasI L a = false by rcases hq : hasI L a with _ | _; rfl; have := (hasI_iff.1 hq).2; omega)
      have h2 : (n : Int) ≤ a := by omega
      clear h hl
      go_enter Tryz.func48, Tryz.ntmps48
      go_wp2_with fail
      go_ret
      exact ⟨ret_bool HV.out.symm, rfl⟩
  · have HV := Lib.hid (show hasI L a = false by rcases hq : hasI L a with _ | _; rfl; have := (hasI_iff.1 hq).1; omega)
    have h2 : a < 0 := by omega
    clear h hl
    go_enter Tryz.func48, Tryz.ntmps48
    go_wp2_with fail
    go_ret
    exact ⟨ret_bool HV.out.symm, rfl⟩
set_option maxHeartbeats 1000000 in
set_option maxRecDepth 100000 in
theorem tholds_to {L : List Nd} (hn : Nested L) {a b : Int} {v : Bool} (hv : holdsI L a b = v) {A : Option Addr} {n c : Nat} {w : World} (h : Sees w A n L) (hn2 : n ≤ 100000) :
    Calls Tryz.prog 49 #[.agg #[.slice A n c], .int .i64 a, .int .i64 b] w fun e w' => e = .returned (.bool v) ∧ Below w.heap.size w w' := by
  have HA := Lib.hid h
  have hl := h.len
  rcases hqa : hasI L a with _ | _
  · have HV := Lib.hid (show false = v by rw [← hv]; unfold holdsI; rw [hqa]; rfl)
    have HQ := Lib.hid hqa
    clear h hv hqa hl
    go_enter Tryz.func49, Tryz.ntmps49
    go_wp2_with fail
    refine (thas_to HQ.out (HA.out.below (show Below w.heap.size w _ by go_grown))).mono ?_
    rintro e w1 ⟨rfl, rfl⟩
    go_wp2_with fail
    go_ret
    exact ⟨ret_bool HV.out, by go_grown⟩
  obtain ⟨a0, a1⟩ := hasI_iff.1 hqa
  obtain ⟨i, rfl⟩ : ∃ i : Nat, a = (i : Int) := ⟨a.toNat, by omega⟩
  by_cases hab : (i : Int) ≤ b
  · obtain ⟨j, rfl⟩ : ∃ j : Nat, b = (j : Int) := ⟨b.toNat, by omega⟩
    have hx : L[i]? = some (L[i]'(by omega)) := List.getElem?_eq_getElem _
    obtain ⟨x, hxx⟩ : ∃ x, L[i]'(by omega) = x := ⟨_, rfl⟩
    rw [hxx] at hx
    have hs := (hn i x hx).2.1
    obtain ⟨e0, he⟩ : ∃ e0 : Int, (i : Int) + x.size = e0 := ⟨_, rfl⟩
    have HX := Lib.hid hx
    have HE := Lib.hid he
    have HQ := Lib.hid hqa
    by_cases hlt : (j : Int) < e0
    · have HV := Lib.hid (show true = v by
        rw [← hv]; unfold holdsI
        rw [hqa, show hasI L (j : Int) = true from hasI_iff.2 ⟨by omega, by omega⟩, Int.toNat_natCast, Int.toNat_natCast, holdP_iff.2 ⟨x, hx, by omega, by omega, by omega⟩]
        rfl)
      clear h hv hqa hl hx hxx hs he a0 a1
      go_enter Tryz.func49, Tryz.ntmps49
      go_wp2_with fail
      refine (thas_to HQ.out (HA.out.below (show Below w.heap.size w _ by go_grown))).mono ?_
      rintro e w1 ⟨rfl, rfl⟩
      go_wp2_with fail
      refine (tend_to hn HX.out HE.out (HA.out.below (show Below w.heap.size w _ by go_grown)) hn2).mono ?_
      rintro e w1 ⟨rfl, rfl⟩
      go_wp2_with fail
      go_ret
      exact ⟨ret_bool HV.out, by go_grown⟩
    · have HV := Lib.hid (show false = v by
        rw [← hv]; unfold holdsI
        rw [hqa, Int.toNat_natCast, Int.toNat_natCast]
        rcases hq : holdP L i j with _ | _
        · simp
        · obtain ⟨y, g1, _, _, g4⟩ := holdP_iff.1 hq
          rw [hx] at g1; injection g1 with g1; subst g1; omega)
      have h2 : e0 ≤ (j : Int) := by omega
      clear h hv hqa hl hx hxx hs he a0 a1 hlt
      go_enter Tryz.func49, Tryz.ntmps49
      go_wp2_with fail
      refine (thas_to HQ.out (HA.out.below (show Below w.heap.size w _ by go_grown))).mono ?_
      rintro e w1 ⟨rfl, rfl⟩
      go_wp2_with fail
      refine (tend_to hn HX.out HE.out (HA.out.below (show Below w.heap.size w _ by go_grown)) hn2).mono ?_
      rintro e w1 ⟨rfl, rfl⟩
      go_wp2_with fail
      go_ret
      exact ⟨ret_bool (by rw [← HV.out]; exact decide_eq_false (by omega)), by go_grown⟩
  · have HV := Lib.hid (show false = v by
      rw [← hv]; unfold holdsI
      rcases hq : hasI L b with _ | _
      · rw [hqa]; rfl
      · have hb0 := (hasI_iff.1 hq).1
        rcases hh : holdP L (i : Int).toNat b.toNat with _ | _
        · rw [hqa]; rfl
        · obtain ⟨y, _, _, g3, _⟩ := holdP_iff.1 hh
          omega)
    have HQ := Lib.hid hqa
    have h2 : b < (i : Int) := by omega
    clear h hv hqa hl hab a0 a1
    go_enter Tryz.func49, Tryz.ntmps49
    go_wp2_with fail
    refine (thas_to HQ.out (HA.out.below (show Below w.heap.size w _ by go_grown))).mono ?_
    rintro e w1 ⟨rfl, rfl⟩
    go_wp2_with fail
    go_ret
    exact ⟨ret_bool HV.out, by go_grown⟩
set_option maxHeartbeats 1000000 in
set_option maxRecDepth 100000 in
theorem tinner_to {L : List Nd} (hn : Nested L) {a p q : Int} (hv : innerI L a = (p, q)) {A : Option Addr} {n c : Nat} {w : World} (h : Sees w A n L) (hn2 : n ≤ 100000) :
    Calls Tryz.prog 53 #[.agg #[.slice A n c], .int .i64 a] w fun e w' => e = .returned (.tuple #[.int .i64 p, .int .i64 q]) ∧ Below w.heap.size w w' := by
  have HA := Lib.hid h
  have hl := h.len
  unfold innerI at hv
  by_cases h1 : a = -1
  · rw [if_pos h1] at hv
    injection hv with hp hq
    have HP := Lib.hid hp
    have HQ := Lib.hid (show (n : Int) = q by rw [← hq]; omega)
    subst h1
    clear h hp hq hl
    go_enter Tryz.func53, Tryz.ntmps53
    go_wp2_with fail
    refine (tmany_to (HA.out.below (show Below w.heap.size w _ by go_grown))).mono ?_
    rintro e w1 ⟨rfl, rfl⟩
    go_wp2_with fail
    go_ret2
    exact ⟨by have g1 := HP.out; have g2 := HQ.out; subst g1; subst g2; rfl, by go_grown⟩
  rw [if_neg h1] at hv
  have hd : (a == -1) = false := by simpa using h1
  rcases hqa : hasI L a with _ | _
  · have hv2 : ((0 : Int), (0 : Int)) = (p, q) := by
      rw [hqa] at hv
      rw [← hv]
      cases L[a.toNat]? <;> rfl
    injection hv2 with hp hq
    have HP := Lib.hid hp
    have HQ := Lib.hid hq
    have HH := Lib.hid hqa
    clear h hp hq hl hqa hv
    go_enter Tryz.func53, Tryz.ntmps53
    go_wp2_with fail
    refine (thas_to HH.out (HA.out.below (show Below w.heap.size w _ by go_grown))).mono ?_
    rintro e w1 ⟨rfl, rfl⟩
    go_wp2_with fail
    go_ret2
    exact ⟨by have g1 := HP.out; have g2 := HQ.out; subst g1; subst g2; rfl, by go_grown⟩
  obtain ⟨a0, a1⟩ := hasI_iff.1 hqa
  obtain ⟨i, rfl⟩ : ∃ i : Nat, a = (i : Int) := ⟨a.toNat, by omega⟩
  have hx : L[i]? = some (L[i]'(by omega)) := List.getElem?_eq_getElem _
  obtain ⟨x, hxx⟩ : ∃ x, L[i]'(by omega) = x := ⟨_, rfl⟩
  rw [hxx] at hx
  rw [Int.toNat_natCast, hx, hqa] at hv
  simp only [if_true] at hv
  injection hv with hp hq
  have HP := Lib.hid hp
  have HQ := Lib.hid hq
  have HH := Lib.hid hqa
  have HX := Lib.hid hx
  clear h hp hq hqa hx hxx
  go_enter Tryz.func53, Tryz.ntmps53
  go_wp2_with fail
  refine (thas_to HH.out (HA.out.below (show Below w.heap.size w _ by go_grown))).mono ?_
  rintro e w1 ⟨rfl, rfl⟩
  go_wp2_with fail
  refine (tend_to hn HX.out HQ.out (HA.out.below (show Below w.heap.size w _ by go_grown)) hn2).mono ?_
  rintro e w1 ⟨rfl, rfl⟩
  go_wp2_with fail
  go_ret2
  exact ⟨by have g1 := HP.out; subst g1; rfl, by go_grown⟩
end Go.Proofs.YtipmdhfinlkceaaGreat
