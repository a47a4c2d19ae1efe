import Derived.Test.YtipmdhfinlkceaaGreatJP24
import Derived.Test.YtipmdhfinlkceaaGreatJP19
import Derived.Test.YtipmdhfinlkceaaGreatJP01
/- FlowBlock. -/
set_option linter.unusedVariables false
set_option linter.unusedSimpArgs false
namespace Go.Proofs.YtipmdhfinlkceaaGreat
open Go.RowKit
def WalkOk (w1 : World) (An : Option Addr) (nn cn : Nat) (Ar : Option Addr) (nr cr : Nat) (L : List Nd) (wd : Int) (i e : Nat) : Prop :=
  ∀ (a b : Int), a = (i : Int) → b = (e : Int) → ∀ (H : Int) (s : Gs) (A : Option Addr) (n c : Nat) (A2 : Option Addr) (m c2 : Nat) (w : World), GsOk H s → H + sumE L (evN L i e) ≤ maxN → s.ams.length + 2000 * ((evN L i e).length + 1) ≤ 10000000 → s.fls.length + (evN L i e).length ≤ 10000 → Wk w1 An nn cn Ar nr cr w s A n c A2 m c2 →
    Calls Tryz.prog 19 #[.pointer (some ⟨w1.heap.size, 0, none⟩), .int .i64 a, .int .i64 b] w fun e' w' => e' = .returned (.tuple #[]) ∧ WkOut w1 An nn cn Ar nr cr w A n c (runS L wd s (evN L i e)) w'
theorem range_mid {w : World} {b o k : Nat} {cs : List Value} (pre ys post : List Value) (h : w.rangeAt b o cs) (hc : cs = pre ++ (ys ++ post)) (hk : pre.length = k) : w.rangeAt b (o + k) ys := by
  subst hc hk
  intro j v hv
  have := h (pre.length + j) v (by rw [List.getElem?_append_right (by omega), Nat.add_sub_cancel_left, List.getElem?_append_left (List.getElem?_eq_some_iff.1 hv).1]; exact hv)
  rw [Nat.add_assoc]; exact this
theorem sty_of {w : World} {k : Nat} {x : Sty} (h : Box w k [.int .i64 x.top, .int .i64 x.bottom, .int .i64 x.padTop, .int .i64 x.padBottom, .int .i64 x.inset, .int .i64 x.orphans, .int .i64 x.widows, .int .i64 x.head, .int .i64 x.before, .int .i64 x.after, .int .i64 x.inside, .int .i64 x.clear]) : w.cell? ⟨k, 0, none⟩ = some (.int .i64 x.top) ∧ w.cell? ⟨k, 1, none⟩ = some (.int .i64 x.bottom) ∧ w.cell? ⟨k, 2, none⟩ = some (.int .i64 x.padTop) ∧ w.cell? ⟨k, 3, none⟩ = some (.int .i64 x.padBottom) ∧ w.cell? ⟨k, 11, none⟩ = some (.int .i64 x.clear) :=
  ⟨h.2.2 0 _ rfl, h.2.2 1 _ rfl, h.2.2 2 _ rfl, h.2.2 3 _ rfl, h.2.2 11 _ rfl⟩
section
variable {L : List Nd} {w1 : World} {An Ar : Option Addr} {nn cn nr cr : Nat} {w : World} {s : Gs} {A A2 : Option Addr} {n c m c2 : Nat}
set_option maxHeartbeats 8000000 in
set_option maxRecDepth 100000 in
theorem wblock14_to {wd : Int} (hd : IsDoc L) (w1d : 1 ≤ wd) (w2d : wd ≤ maxX) (hw60 : ∀ y ∈ L, y.words.length ≤ 2000) {i : Nat} {x : Nd} (hk : x.kind = 1) (hS : Sees w1 An nn L) (hx : L[i]? = some x) {H : Int} (hG : GsOk H s) (hH : H + sumE L (ev1 L i x) ≤ maxN) (hla : s.ams.length + 2000 * ((ev1 L i x).length + 1) ≤ 10000000) (hlf : s.fls.length + (ev1 L i x).length ≤ 10000)
    (hwalk : WalkOk w1 An nn cn Ar nr cr L wd (i + 1) (nxt i x)) (h : Wk w1 An nn cn Ar nr cr w s A n c A2 m c2) :
    Calls Tryz.prog 39 #[.pointer (some ⟨w1.heap.size, 0, none⟩), .int .i64 (i : Int)] w fun e w' => e = .returned (.tuple #[]) ∧ WkOut w1 An nn cn Ar nr cr w A n c (oneS L wd i x s) w' := by
  have hlen : L.length = nn := hS.len
  have hnn : nn ≤ 9223372036854775807 := hS.bound
  have hin : i < nn := by have := (List.getElem?_eq_some_iff.1 hx).1; omega
  obtain ⟨bn, on_, mm, x', rfl, hbn, hx', hrg, hsh⟩ := (hS.below h.on).at_ hin
  obtain rfl : x = x' := by rw [hx] at hx'; injection hx'
  have hrg1 := hrg
  have hbn1 : bn < w1.heap.size := by
    obtain ⟨b2, o2, m2, x2, e2, hb2, _⟩ := hS.at_ hin
    injection e2 with e2
    injection e2 with e2
    subst e2
    exact hb2
  have hsz0 : w.cell? ⟨bn, on_ + i * 20 + 1, none⟩ = some (.int .i64 x.size) := by have h9 := hrg 1 (.int .i64 mm.size) rfl; rw [← hsh.1.2.1] at h9; exact h9
  have hsz1 : w1.cell? ⟨bn, on_ + i * 20 + 1, none⟩ = some (.int .i64 x.size) := by rw [← hsz0]; exact (Below.cell (show Below w1.heap.size w1 w from h.on) (p := ⟨bn, on_ + i * 20 + 1, none⟩) hbn1).symm
  have HSZ := Lib.hid (show ∀ W', On w1 W' → W'.cell? ⟨bn, on_ + i * 20 + 1, none⟩ = some (.int .i64 x.size) from fun W' hW => On.cell hsz1 W' hW)
  have hxf : x.fits := hd.1 x (List.mem_of_getElem? hx)
  have hpl : s.pen.1 + s.pen.2 ≤ H := hG.p2
  have hp0 := hG.p0
  have hp1 := hG.p1
  have hin2 : (i : Int) < (nn : Int) := by omega
  obtain ⟨NX, hNX⟩ : ∃ NX, nxt i x = NX := ⟨_, rfl⟩
  have hnx := nxt_of hd.2.nested hx
  rw [hNX] at hnx hwalk
  have hev : sumE L (ev1 L i x) = (x.sty.top + x.sty.padTop) + (sumE L (evN L (i + 1) NX) + (x.sty.bottom + x.sty.padBottom)) := by
    unfold ev1
    rw [if_pos hk, hNX, sumE_cons, sumE_append, sumE_cons, sumE_nil, evH_begin hx, evH_end hx]
    omega
  have hel : (ev1 L i x).length = 2 + (evN L (i + 1) NX).length := by
    unfold ev1
    rw [if_pos hk, hNX]
    simp only [List.length_cons, List.length_append, List.length_nil]
    omega
  rw [hev] at hH
  rw [hel] at hla hlf
  obtain ⟨t1, t2, t3, t4⟩ := sty_all_pos hxf
  have hse := sumE_pos hd.1 (evN L (i + 1) NX)
  have hHm : H ≤ maxN := by omega
  have HFN := Lib.hid (hG.nears hHm)
  have hbo := begin_ok hG hxf
  have hrun := run_ok hd.1 w1d w2d (evN L (i + 1) NX) hbo.1
  have hlo := clearS_ok hG x.sty.clear
  obtain ⟨⟨lp, lok⟩, hlow⟩ : ∃ r, lowestL s.fls x.sty.clear = r := ⟨_, rfl⟩
  obtain ⟨⟨cy, cm⟩, hcl⟩ : ∃ r, clearS s.fls x.sty.clear s.pen = r := ⟨_, rfl⟩
  obtain ⟨⟨ey, em⟩, hen⟩ : ∃ r, enterP (cy, cm) x.sty.top x.sty.padTop = r := ⟨_, rfl⟩
  rw [hcl] at hlo
  simp only at hlo
  have hbs : beginS x s = { s with pen := (ey, em) } := by unfold beginS; rw [hcl, hen]
  obtain ⟨s2, hs2⟩ : ∃ s2, runS L wd (beginS x s) (evN L (i + 1) NX) = s2 := ⟨_, rfl⟩
  rw [hs2] at hrun
  obtain ⟨⟨vy, vm⟩, hlv⟩ : ∃ r, leaveP s2.pen x.sty.bottom x.sty.padBottom = r := ⟨_, rfl⟩
  have HE := Lib.hid (show oneS L wd i x s = { s2 with pen := (vy, vm) } by rw [oneS_block hx hk, hNX, hs2]; unfold endS; rw [hlv])
  have hr0 := hrun.p0
  have hr1 := hrun.p1
  have hr2 : s2.pen.1 + s2.pen.2 ≤ _ := hrun.p2
  have hlp : lok = true → lp ≤ H ∧ 0 ≤ lp := fun e => by
    obtain ⟨f, hf, he⟩ := lowest_from (l := s.fls) (sides := x.sty.clear) (by rw [hlow]; exact e)
    rw [hlow] at he
    have hq := hG.fls f hf
    have h1 := hq.y1
    have h2 := hq.y0
    have h3 := hq.h0
    simp only at he
    omega
  have HNP := Lib.hid (show NearI s.pen.1 ∧ NearI s.pen.2 from ⟨by unfold NearI farB maxN at *; omega, by unfold NearI farB maxN at *; omega⟩)
  have HNC := Lib.hid (show NearI cy ∧ NearI cm from ⟨by unfold NearI farB maxN at *; omega, by unfold NearI farB maxN at *; omega⟩)
  have HNS := Lib.hid (show NearI x.sty.top ∧ NearI x.sty.padTop ∧ NearI x.sty.bottom ∧ NearI x.sty.padBottom from ⟨by unfold NearI farB maxN at *; omega, by unfold NearI farB maxN at *; omega, by unfold NearI farB maxN at *; omega, by unfold NearI farB maxN at *; omega⟩)
  have HN2 := Lib.hid (show NearI s2.pen.1 ∧ NearI s2.pen.2 from ⟨by unfold NearI farB maxN at *; omega, by unfold NearI farB maxN at *; omega⟩)
  have HLP := Lib.hid (show lok = true → NearI lp from fun e => by have := hlp e; unfold NearI farB maxN at *; omega)
  have HGB := Lib.hid (show GsOk (H + (x.sty.top + x.sty.padTop)) { s with pen := (ey, em) } by rw [← hbs]; exact hbo.1)
  have HHB := Lib.hid (show H + (x.sty.top + x.sty.padTop) + sumE L (evN L (i + 1) NX) ≤ maxN by omega)
  have HLB := Lib.hid (show s.ams.length + 2000 * ((evN L (i + 1) NX).length + 1) ≤ 10000000 ∧ s.fls.length + (evN L (i + 1) NX).length ≤ 10000 from ⟨by omega, by omega⟩)
  have HWK := Lib.hid hwalk
  have HS2 := Lib.hid (show runS L wd { s with pen := (ey, em) } (evN L (i + 1) NX) = s2 by rw [← hbs]; exact hs2)
  have HEN := Lib.hid hen
  have HCL := Lib.hid hcl
  have HLO := Lib.hid hlow
  have HLV := Lib.hid hlv
  have HBL := Lib.hid (fun (W : World) (hW : On w W) => blowest_to (c := c2) hlow HFN.out (ownsRow_rows encFl_len (by decide) (h.below hW).gs.fls))
  have hstb : mm.sty = x.sty := hsh.1.2.2.1.symm
  have HRS := Lib.hid (show w.rangeAt bn (on_ + i * 20 + 2) [.int .i64 x.sty.top, .int .i64 x.sty.bottom, .int .i64 x.sty.padTop, .int .i64 x.sty.padBottom, .int .i64 x.sty.inset, .int .i64 x.sty.orphans, .int .i64 x.sty.widows, .int .i64 x.sty.head, .int .i64 x.sty.before, .int .i64 x.sty.after, .int .i64 x.sty.inside, .int .i64 x.sty.clear] by
    rw [← hstb]
    exact range_mid [.int .i64 mm.kind, .int .i64 mm.size] _ [.int .i64 mm.line, .int .i64 mm.space, .slice mm.A mm.n mm.c, .int .i64 mm.side, .int .i64 mm.w, .int .i64 mm.h] hrg rfl rfl)
  have HT := Lib.hid h
  have HNN := Lib.hid (show (NX : Int) = (i : Int) + x.size ∧ NX ≤ nn from ⟨hnx.1, by omega⟩)
  have hi0 : (0 : Int) ≤ (i : Int) := by omega
  have hs1 := hnx.1
  have hs2' : i < NX := by rw [← hNX]; exact nxt_lt i x
  have hs3 : NX ≤ nn := by omega
  have HSM := Lib.hid (show (i : Int) + x.size ≤ 9223372036854775807 ∧ 1 ≤ x.size by omega)
  clear hx hx' hrg hrg1 hsh hS hG hH h hxf hpl hp0 hp1 hk hbo hrun hlo hlow hcl hen hbs hs2 hlv hr0 hr1 hr2 hlp hse hev hel hla hlf hwalk t1 t2 t3 t4 hHm hlen hsz0 hsz1 hstb hnx hd hw60 hs1 hs2' hs3 hNX
  obtain ⟨⟨_, _, _, k3, _, _, _⟩, _, _⟩ := HT.out.cells
  go_enter Tryz.func39, Tryz.ntmps39
  go_wp2_with ((with_reducible refine stop_load 38 (.tmp 13) ?_ ?_); exact rfl)
  refine Stop.intro ?_
  refine wpList_load_mid rfl 38 (.tmp 13) rfl bn (on_ + i * 20 + 2) rfl [.int .i64 x.sty.top, .int .i64 x.sty.bottom, .int .i64 x.sty.padTop, .int .i64 x.sty.padBottom, .int .i64 x.sty.inset, .int .i64 x.sty.orphans, .int .i64 x.sty.widows, .int .i64 x.sty.head, .int .i64 x.sty.before, .int .i64 x.sty.after, .int .i64 x.sty.inside, .int .i64 x.sty.clear] _ HRS.out Tryz.underlying38 rfl (by kernel_rfl) ?_
  clear k3
  go_wp2_with ((with_reducible refine stop_store 38 (.tmp 4) (.tmp 14) ?_ ?_); exact rfl)
  refine Stop.intro ?_
  refine wpList_store_row rfl 38 (.tmp 4) (.tmp 14) rfl w.heap.size rfl 38 #[.int .i64 0, .int .i64 0, .int .i64 0, .int .i64 0, .int .i64 0, .int .i64 0, .int .i64 0, .int .i64 0, .int .i64 0, .int .i64 0, .int .i64 0, .int .i64 0] ([.int .i64 x.sty.top, .int .i64 x.sty.bottom, .int .i64 x.sty.padTop, .int .i64 x.sty.padBottom, .int .i64 x.sty.inset, .int .i64 x.sty.orphans, .int .i64 x.sty.widows, .int .i64 x.sty.head, .int .i64 x.sty.before, .int .i64 x.sty.after, .int .i64 x.sty.inside, .int .i64 x.sty.clear]).toArray rfl (Blk.new w 38 [.int .i64 0, .int .i64 0, .int .i64 0, .int .i64 0, .int .i64 0, .int .i64 0, .int .i64 0, .int .i64 0, .int .i64 0, .int .i64 0, .int .i64 0, .int .i64 0] _ rfl _ rfl) (by kernel_rfl) rfl (by simp [Value.oneCell']) ?_
  intro V hV
  have hbV : On w V := by rw [hV]; exact below_setRow ((Below.refl _ _).alloc (Nat.le_refl _) _) (Nat.le_refl _) _
  have HK := Lib.hid (show Box V w.heap.size [.int .i64 x.sty.top, .int .i64 x.sty.bottom, .int .i64 x.sty.padTop, .int .i64 x.sty.padBottom, .int .i64 x.sty.inset, .int .i64 x.sty.orphans, .int .i64 x.sty.widows, .int .i64 x.sty.head, .int .i64 x.sty.before, .int .i64 x.sty.after, .int .i64 x.sty.inside, .int .i64 x.sty.clear] by rw [hV]; exact (Blk.row (Blk.new w 38 [.int .i64 0, .int .i64 0, .int .i64 0, .int .i64 0, .int .i64 0, .int .i64 0, .int .i64 0, .int .i64 0, .int .i64 0, .int .i64 0, .int .i64 0, .int .i64 0] _ rfl _ rfl) [.int .i64 x.sty.top, .int .i64 x.sty.bottom, .int .i64 x.sty.padTop, .int .i64 x.sty.padBottom, .int .i64 x.sty.inset, .int .i64 x.sty.orphans, .int .i64 x.sty.widows, .int .i64 x.sty.head, .int .i64 x.sty.before, .int .i64 x.sty.after, .int .i64 x.sty.inside, .int .i64 x.sty.clear] _ rfl).box)
  have HTV := Lib.hid (HT.out.below hbV)
  have HFV := Lib.hid (FrW.of_below (k := w1.heap.size) (r := (Value.slice A n c).ownBlock) hbV)
  have hwV : w.heap.size < V.heap.size := HK.out.1
  have HRL := Lib.hid (owns_block_lt HT.out.gs.ams)
  have hkw : w1.heap.size < w.heap.size := HT.out.box.1
  have HBL := Lib.hid (fun (p : OnW V) => HBL.out p.w (below_then hbV p.h))
  clear hV hbV HRS HT
  obtain ⟨n0, n1, n2, n3, n11⟩ := sty_of HK.out
  obtain ⟨⟨_, k1, _, _, _, _, _⟩, _, _⟩ := HTV.out.cells
  have n11 := OnW.cell n11
  have k1 := OnW.cell k1
  go_wp2_with fail
  clear n0 n1 n2 n3
  try simp only [Act.put]
  refine wp_region_on (by kernel_rfl) (by kernel_rfl) ?_
  repeat (go_big_quiet_step ((go_at_call 43; with_reducible exact Calls.on_of (HBL.out _))))
  refine wpQuiet_nil ?_
  intro w5 hw'
  obtain ⟨⟨w6, hOn⟩, hw''⟩ := hw'
  obtain rfl : w5 = w6 := hw''
  have HT5 := Lib.hid (HTV.out.below hOn)
  have HF5 := Lib.hid (HFV.out.same (FrW.of_below (k := w1.heap.size) (r := (Value.slice A n c).ownBlock) hOn))
  have HK5 := Lib.hid (HK.out.below hOn)
  clear hOn n11 k1 HTV HFV HK HBL
  cases lok with
  | false =>
    have HT6 := Lib.hid (show Wk w1 (some ⟨bn, on_, none⟩) nn cn Ar nr cr w5 { s with pen := (cy, cm) } A n c A2 m c2 by
      have e : (cy, cm) = s.pen := by rw [← HCL.out]; unfold clearS; rw [HLO.out]; simp
      rw [e]; exact HT5.out)
    have HF6 := HF5
    have HK6 := HK5
    clear HT5 HF5 HK5
    go_wp2_with fail
    obtain ⟨n0, n1, n2, n3, n11⟩ := sty_of HK6.out
    obtain ⟨⟨_, _, _, _, _, k5, k6⟩, _, _⟩ := HT6.out.cells
    simp only at k5 k6
    have n0 := OnW.cell n0
    have n2 := OnW.cell n2
    have k5 := OnW.cell k5
    have k6 := OnW.cell k6
    refine wp_region_on_tail 12 (by kernel_rfl) (by kernel_rfl) rfl (by kernel_rfl) ?_
    simp only [headOf, List.take_succ_cons, List.take_zero, List.getElem_toArray, List.getElem_cons_succ, List.getElem_cons_zero]
    repeat (go_big_quiet_step ((go_at_call 75; with_reducible exact Calls.on_of (enter13_top HEN.out HNC.out.1 HNC.out.2 HNS.out.1 HNS.out.2.1))))
    refine wpQuiet_nil ?_
    intro w8 hw'
    obtain ⟨⟨w9, hOn⟩, hw''⟩ := hw'
    obtain rfl : w8 = w9 := hw''
    have HT8 := Lib.hid (HT6.out.below hOn)
    have HF8 := Lib.hid (HF6.out.same (FrW.of_below (k := w1.heap.size) (r := (Value.slice A n c).ownBlock) hOn))
    have HK8 := Lib.hid (HK6.out.below hOn)
    clear hOn n0 n1 n2 n3 n11 k5 k6 HT6 HF6 HK6
    obtain ⟨⟨_, _, _, _, _, k5, k6⟩, ⟨_, _, _, f5, f6⟩, kl⟩ := HT8.out.cells
    go_wp2_with ((with_reducible refine stop_load 22 (.tmp 54) ?_ ?_); exact rfl)
    refine Stop.intro ?_
    clear k5 k6 f5 f6 kl
    have HT9 := Lib.hid (HT8.out.pen ey em)
    have HF9 := Lib.hid (HF8.out.same (frw_pen w1.heap.size (Value.slice A n c).ownBlock w8 (.int .i64 ey) (.int .i64 em)))
    have HK9 := Lib.hid ((HK8.out.set_other (show w1.heap.size ≠ w.heap.size by omega) 5 (.int .i64 ey)).set_other (show w1.heap.size ≠ w.heap.size by omega) 6 (.int .i64 em))
    clear HT8 HF8 HK8
    generalize (w8.setCell ⟨w1.heap.size, 5, none⟩ (.int .i64 ey)).setCell ⟨w1.heap.size, 6, none⟩ (.int .i64 em) = W9 at HT9 HF9 HK9 ⊢
    obtain ⟨⟨_, _, _, k3, _, _, _⟩, _, _⟩ := HT9.out.cells
    have sz := HSZ.out W9 HT9.out.on
    have hw1 : IntKind.i64.wrap ((i : Int) + 1) = (i : Int) + 1 := IntWalk.i64_in _ (by have := HSM.out; omega)
    have hw2 : IntKind.i64.wrap ((i : Int) + x.size) = (i : Int) + x.size := IntWalk.i64_in _ (by have := HSM.out; omega)
    go_wp2_with fail
    refine (HWK.out ((i : Int) + 1) ((i : Int) + x.size) (by omega) HNN.out.1.symm _ _ _ _ _ _ _ _ _ HGB.out HHB.out HLB.out.1 HLB.out.2 HT9.out).mono ?_
    rintro e wA ⟨rfl, hA⟩
    rw [HS2.out] at hA
    obtain ⟨A', n', c', A2', m', c2', hWA, hFA, hNA⟩ := hA
    have HTA := Lib.hid hWA
    have HFA := Lib.hid (HF9.out.same hFA)
    have HNA := Lib.hid ((NewRow.refl w.heap.size (.slice A n c)).then hNA HF9.out.size)
    have HKA := Lib.hid (hFA.box HK9.out (show w.heap.size ≠ w1.heap.size by omega) (fun e => by have := HRL.out w.heap.size e.symm; omega))
    clear hWA hFA hNA k3 sz hw1 hw2 HT9 HF9 HK9
    obtain ⟨n0, n1, n2, n3, n11⟩ := sty_of HKA.out
    obtain ⟨⟨_, _, _, _, _, k5, k6⟩, _, _⟩ := HTA.out.cells
    have n1 := OnW.cell n1
    have n3 := OnW.cell n3
    have k5 := OnW.cell k5
    have k6 := OnW.cell k6
    go_wp2_with fail
    refine wp_region_on_tail 12 (by kernel_rfl) (by kernel_rfl) rfl (by kernel_rfl) ?_
    simp only [headOf, List.take_succ_cons, List.take_zero, List.getElem_toArray, List.getElem_cons_succ, List.getElem_cons_zero]
    repeat (go_big_quiet_step ((go_at_call 76; with_reducible exact Calls.on_of (leave13_top HLV.out HN2.out.1 HN2.out.2 HNS.out.2.2.1 HNS.out.2.2.2))))
    refine wpQuiet_nil ?_
    intro wB hw'
    obtain ⟨⟨wC, hOn⟩, hw''⟩ := hw'
    obtain rfl : wB = wC := hw''
    have HTB := Lib.hid (HTA.out.below hOn)
    have HFB := Lib.hid (HFA.out.same (FrW.of_below (k := w1.heap.size) (r := (Value.slice A n c).ownBlock) hOn))
    clear hOn n0 n1 n2 n3 n11 k5 k6 HTA HFA HKA
    obtain ⟨⟨_, _, _, _, _, k5, k6⟩, ⟨_, _, _, f5, f6⟩, kl⟩ := HTB.out.cells
    go_wp2_with fail
    go_end0
    refine ⟨rfl, ?_⟩
    rw [HE.out]
    exact ⟨A', n', c', A2', m', c2', HTB.out.pen vy vm, HFB.out.same (frw_pen _ _ _ _ _), HNA.out⟩
  | true =>
    have hcc : clearP (s.pen.1, s.pen.2) lp = (cy, cm) := by rw [← HCL.out]; unfold clearS; rw [HLO.out]; simp
    have HCC := Lib.hid hcc
    clear hcc
    obtain ⟨⟨_, _, _, _, _, k5, k6⟩, _, _⟩ := HT5.out.cells
    go_wp2_with fail
    refine (clear13_top HCC.out HNP.out.1 HNP.out.2 (HLP.out (by trivial))).mono ?_
    rintro e w7 ⟨rfl, hb⟩
    have HT7 := Lib.hid (HT5.out.below hb)
    have HF7 := Lib.hid (HF5.out.same (FrW.of_below (k := w1.heap.size) (r := (Value.slice A n c).ownBlock) hb))
    have HK7 := Lib.hid (HK5.out.below hb)
    clear hb k5 k6 HT5 HF5 HK5
    obtain ⟨⟨_, _, _, _, _, k5, k6⟩, ⟨_, _, _, f5, f6⟩, kl⟩ := HT7.out.cells
    go_wp2_with fail
    clear k5 k6 f5 f6 kl
    have HT6 := Lib.hid (HT7.out.pen cy cm)
    have HF6 := Lib.hid (HF7.out.same (frw_pen w1.heap.size (Value.slice A n c).ownBlock w7 (.int .i64 cy) (.int .i64 cm)))
    have HK6 := Lib.hid ((HK7.out.set_other (show w1.heap.size ≠ w.heap.size by omega) 5 (.int .i64 cy)).set_other (show w1.heap.size ≠ w.heap.size by omega) 6 (.int .i64 cm))
    clear HT7 HF7 HK7
    generalize (w7.setCell ⟨w1.heap.size, 5, none⟩ (.int .i64 cy)).setCell ⟨w1.heap.size, 6, none⟩ (.int .i64 cm) = W6 at HT6 HF6 HK6 ⊢
    obtain ⟨n0, n1, n2, n3, n11⟩ := sty_of HK6.out
    obtain ⟨⟨_, _, _, _, _, k5, k6⟩, _, _⟩ := HT6.out.cells
    simp only at k5 k6
    have n0 := OnW.cell n0
    have n2 := OnW.cell n2
    have k5 := OnW.cell k5
    have k6 := OnW.cell k6
    refine wp_region_on_tail 12 (by kernel_rfl) (by kernel_rfl) rfl (by kernel_rfl) ?_
    simp only [headOf, List.take_succ_cons, List.take_zero, List.getElem_toArray, List.getElem_cons_succ, List.getElem_cons_zero]
    repeat (go_big_quiet_step ((go_at_call 75; with_reducible exact Calls.on_of (enter13_top HEN.out HNC.out.1 HNC.out.2 HNS.out.1 HNS.out.2.1))))
    refine wpQuiet_nil ?_
    intro w8 hw'
    obtain ⟨⟨w9, hOn⟩, hw''⟩ := hw'
    obtain rfl : w8 = w9 := hw''
    have HT8 := Lib.hid (HT6.out.below hOn)
    have HF8 := Lib.hid (HF6.out.same (FrW.of_below (k := w1.heap.size) (r := (Value.slice A n c).ownBlock) hOn))
    have HK8 := Lib.hid (HK6.out.below hOn)
    clear hOn n0 n1 n2 n3 n11 k5 k6 HT6 HF6 HK6
    obtain ⟨⟨_, _, _, _, _, k5, k6⟩, ⟨_, _, _, f5, f6⟩, kl⟩ := HT8.out.cells
    go_wp2_with ((with_reducible refine stop_load 22 (.tmp 54) ?_ ?_); exact rfl)
    refine Stop.intro ?_
    clear k5 k6 f5 f6 kl
    have HT9 := Lib.hid (HT8.out.pen ey em)
    have HF9 := Lib.hid (HF8.out.same (frw_pen w1.heap.size (Value.slice A n c).ownBlock w8 (.int .i64 ey) (.int .i64 em)))
    have HK9 := Lib.hid ((HK8.out.set_other (show w1.heap.size ≠ w.heap.size by omega) 5 (.int .i64 ey)).set_other (show w1.heap.size ≠ w.heap.size by omega) 6 (.int .i64 em))
    clear HT8 HF8 HK8
    generalize (w8.setCell ⟨w1.heap.size, 5, none⟩ (.int .i64 ey)).setCell ⟨w1.heap.size, 6, none⟩ (.int .i64 em) = W9 at HT9 HF9 HK9 ⊢
    obtain ⟨⟨_, _, _, k3, _, _, _⟩, _, _⟩ := HT9.out.cells
    have sz := HSZ.out W9 HT9.out.on
    have hw1 : IntKind.i64.wrap ((i : Int) + 1) = (i : Int) + 1 := IntWalk.i64_in _ (by have := HSM.out; omega)
    have hw2 : IntKind.i64.wrap ((i : Int) + x.size) = (i : Int) + x.size := IntWalk.i64_in _ (by have := HSM.out; omega)
    go_wp2_with fail
    refine (HWK.out ((i : Int) + 1) ((i : Int) + x.size) (by omega) HNN.out.1.symm _ _ _ _ _ _ _ _ _ HGB.out HHB.out HLB.out.1 HLB.out.2 HT9.out).mono ?_
    rintro e wA ⟨rfl, hA⟩
    rw [HS2.out] at hA
    obtain ⟨A', n', c', A2', m', c2', hWA, hFA, hNA⟩ := hA
    have HTA := Lib.hid hWA
    have HFA := Lib.hid (HF9.out.same hFA)
    have HNA := Lib.hid ((NewRow.refl w.heap.size (.slice A n c)).then hNA HF9.out.size)
    have HKA := Lib.hid (hFA.box HK9.out (show w.heap.size ≠ w1.heap.size by omega) (fun e => by have := HRL.out w.heap.size e.symm; omega))
    clear hWA hFA hNA k3 sz hw1 hw2 HT9 HF9 HK9
    obtain ⟨n0, n1, n2, n3, n11⟩ := sty_of HKA.out
    obtain ⟨⟨_, _, _, _, _, k5, k6⟩, _, _⟩ := HTA.out.cells
    have n1 := OnW.cell n1
    have n3 := OnW.cell n3
    have k5 := OnW.cell k5
    have k6 := OnW.cell k6
    go_wp2_with fail
    refine wp_region_on_tail 12 (by kernel_rfl) (by kernel_rfl) rfl (by kernel_rfl) ?_
    simp only [headOf, List.take_succ_cons, List.take_zero, List.getElem_toArray, List.getElem_cons_succ, List.getElem_cons_zero]
    repeat (go_big_quiet_step ((go_at_call 76; with_reducible exact Calls.on_of (leave13_top HLV.out HN2.out.1 HN2.out.2 HNS.out.2.2.1 HNS.out.2.2.2))))
    refine wpQuiet_nil ?_
    intro wB hw'
    obtain ⟨⟨wC, hOn⟩, hw''⟩ := hw'
    obtain rfl : wB = wC := hw''
    have HTB := Lib.hid (HTA.out.below hOn)
    have HFB := Lib.hid (HFA.out.same (FrW.of_below (k := w1.heap.size) (r := (Value.slice A n c).ownBlock) hOn))
    clear hOn n0 n1 n2 n3 n11 k5 k6 HTA HFA HKA
    obtain ⟨⟨_, _, _, _, _, k5, k6⟩, ⟨_, _, _, f5, f6⟩, kl⟩ := HTB.out.cells
    go_wp2_with fail
    go_end0
    refine ⟨rfl, ?_⟩
    rw [HE.out]
    exact ⟨A', n', c', A2', m', c2', HTB.out.pen vy vm, HFB.out.same (frw_pen _ _ _ _ _), HNA.out⟩
end
end Go.Proofs.YtipmdhfinlkceaaGreat
