import Derived.Test.YtechccoongilcaaDoorJD712
import Derived.Test.YtechccoongilcaaDoorJD708
/- The program's package read: what stands ahead of a block's nodes is read. -/
namespace Go.Proofs.YtechccoongilcaaDoor
open Go.RowKit Go.ChangeMaps
set_option linter.unusedVariables false
set_option linter.unusedSimpArgs false
theorem Rd.cells {toks : List Tok} {size : Int} {g : Nat} {w : World} {i : Nat} {wr : Bool} {row opn : Value} {s : Sty} {mp : Value} (h : Rd toks size g w i wr row opn s mp) :
    (w.cell? ⟨g, 5, none⟩ = some (.int .i64 s.top) ∧ w.cell? ⟨g, 6, none⟩ = some (.int .i64 s.bottom) ∧ w.cell? ⟨g, 7, none⟩ = some (.int .i64 s.padTop) ∧ w.cell? ⟨g, 8, none⟩ = some (.int .i64 s.padBottom) ∧ w.cell? ⟨g, 9, none⟩ = some (.int .i64 s.inset) ∧ w.cell? ⟨g, 10, none⟩ = some (.int .i64 s.orphans) ∧ w.cell? ⟨g, 11, none⟩ = some (.int .i64 s.widows) ∧ w.cell? ⟨g, 12, none⟩ = some (.int .i64 s.head) ∧ w.cell? ⟨g, 13, none⟩ = some (.int .i64 s.before) ∧ w.cell? ⟨g, 14, none⟩ = some (.int .i64 s.after) ∧ w.cell? ⟨g, 15, none⟩ = some (.int .i64 s.inside) ∧ w.cell? ⟨g, 16, none⟩ = some (.int .i64 s.clear)) ∧ w.cell? ⟨g, 17, none⟩ = some mp ∧ w.cell? ⟨g, 3, none⟩ = some row ∧ w.cell? ⟨g, 4, none⟩ = some opn := by
  obtain ⟨A, m, c, h1, h2, h3, h4, h5⟩ := h
  exact ⟨⟨h5.box.2.2 5 _ rfl, h5.box.2.2 6 _ rfl, h5.box.2.2 7 _ rfl, h5.box.2.2 8 _ rfl, h5.box.2.2 9 _ rfl, h5.box.2.2 10 _ rfl, h5.box.2.2 11 _ rfl, h5.box.2.2 12 _ rfl, h5.box.2.2 13 _ rfl, h5.box.2.2 14 _ rfl, h5.box.2.2 15 _ rfl, h5.box.2.2 16 _ rfl⟩, h5.box.2.2 17 _ rfl, h5.box.2.2 3 _ rfl, h5.box.2.2 4 _ rfl⟩
theorem Rd.style {toks : List Tok} {size : Int} {g : Nat} {w : World} {i : Nat} {wr : Bool} {row opn : Value} {s : Sty} {mp : Value} (h : Rd toks size g w i wr row opn s mp) (t : Sty) :
    Rd toks size g ((((((((((((w.setCell ⟨g, 5, none⟩ (.int .i64 t.top)).setCell ⟨g, 6, none⟩ (.int .i64 t.bottom)).setCell ⟨g, 7, none⟩ (.int .i64 t.padTop)).setCell ⟨g, 8, none⟩ (.int .i64 t.padBottom)).setCell ⟨g, 9, none⟩ (.int .i64 t.inset)).setCell ⟨g, 10, none⟩ (.int .i64 t.orphans)).setCell ⟨g, 11, none⟩ (.int .i64 t.widows)).setCell ⟨g, 12, none⟩ (.int .i64 t.head)).setCell ⟨g, 13, none⟩ (.int .i64 t.before)).setCell ⟨g, 14, none⟩ (.int .i64 t.after)).setCell ⟨g, 15, none⟩ (.int .i64 t.inside)).setCell ⟨g, 16, none⟩ (.int .i64 t.clear)) i wr row opn t mp := by
  obtain ⟨s0, s1, s2, s3, s4, s5, s6, s7, s8, s9, s10, s11⟩ := s
  obtain ⟨t0, t1, t2, t3, t4, t5, t6, t7, t8, t9, t10, t11⟩ := t
  exact (((((((((((h.set (s' := ⟨t0, s1, s2, s3, s4, s5, s6, s7, s8, s9, s10, s11⟩) 5 _ (fun _ => rfl)).set (s' := ⟨t0, t1, s2, s3, s4, s5, s6, s7, s8, s9, s10, s11⟩) 6 _ (fun _ => rfl)).set (s' := ⟨t0, t1, t2, s3, s4, s5, s6, s7, s8, s9, s10, s11⟩) 7 _ (fun _ => rfl)).set (s' := ⟨t0, t1, t2, t3, s4, s5, s6, s7, s8, s9, s10, s11⟩) 8 _ (fun _ => rfl)).set (s' := ⟨t0, t1, t2, t3, t4, s5, s6, s7, s8, s9, s10, s11⟩) 9 _ (fun _ => rfl)).set (s' := ⟨t0, t1, t2, t3, t4, t5, s6, s7, s8, s9, s10, s11⟩) 10 _ (fun _ => rfl)).set (s' := ⟨t0, t1, t2, t3, t4, t5, t6, s7, s8, s9, s10, s11⟩) 11 _ (fun _ => rfl)).set (s' := ⟨t0, t1, t2, t3, t4, t5, t6, t7, s8, s9, s10, s11⟩) 12 _ (fun _ => rfl)).set (s' := ⟨t0, t1, t2, t3, t4, t5, t6, t7, t8, s9, s10, s11⟩) 13 _ (fun _ => rfl)).set (s' := ⟨t0, t1, t2, t3, t4, t5, t6, t7, t8, t9, s10, s11⟩) 14 _ (fun _ => rfl)).set (s' := ⟨t0, t1, t2, t3, t4, t5, t6, t7, t8, t9, t10, s11⟩) 15 _ (fun _ => rfl)).set (s' := ⟨t0, t1, t2, t3, t4, t5, t6, t7, t8, t9, t10, t11⟩) 16 _ (fun _ => rfl)
theorem cells_one (w : World) (e : TypeId) (v : Value) : Cells (w.alloc (.cells #[v] e)) (some ⟨w.heap.size, 0, none⟩) 1 1 [v] := by
  have hb : Box (w.alloc (.cells #[v] e)) w.heap.size [v] := box_new w _ _ _ rfl _ rfl
  refine ⟨rfl, by decide, fun _ => ⟨w.heap.size, 0, rfl, hb.1, fun j u hu => ?_⟩⟩
  rw [Nat.zero_add]
  exact hb.2.2 j u hu
theorem below_sty (w : World) (D : Nat) (t : Sty) : Below D w ((((((((((((w.setCell ⟨D, 0, none⟩ (.int .i64 t.top)).setCell ⟨D, 1, none⟩ (.int .i64 t.bottom)).setCell ⟨D, 2, none⟩ (.int .i64 t.padTop)).setCell ⟨D, 3, none⟩ (.int .i64 t.padBottom)).setCell ⟨D, 4, none⟩ (.int .i64 t.inset)).setCell ⟨D, 5, none⟩ (.int .i64 t.orphans)).setCell ⟨D, 6, none⟩ (.int .i64 t.widows)).setCell ⟨D, 7, none⟩ (.int .i64 t.head)).setCell ⟨D, 8, none⟩ (.int .i64 t.before)).setCell ⟨D, 9, none⟩ (.int .i64 t.after)).setCell ⟨D, 10, none⟩ (.int .i64 t.inside)).setCell ⟨D, 11, none⟩ (.int .i64 t.clear)) :=
  Below.setCell (Below.setCell (Below.setCell (Below.setCell (Below.setCell (Below.setCell (Below.setCell (Below.setCell (Below.setCell (Below.setCell (Below.setCell (Below.setCell (Below.refl D w) (Nat.le_refl _) _) (Nat.le_refl _) _) (Nat.le_refl _) _) (Nat.le_refl _) _) (Nat.le_refl _) _) (Nat.le_refl _) _) (Nat.le_refl _) _) (Nat.le_refl _) _) (Nat.le_refl _) _) (Nat.le_refl _) _) (Nat.le_refl _) _) (Nat.le_refl _) _
theorem box12 {w : World} {D : Nat} {v0 v1 v2 v3 v4 v5 v6 v7 v8 v9 v10 v11 : Value} (h : Box w D [v0, v1, v2, v3, v4, v5, v6, v7, v8, v9, v10, v11]) : (w.cell? ⟨D, 0, none⟩ = some v0 ∧ w.cell? ⟨D, 1, none⟩ = some v1 ∧ w.cell? ⟨D, 2, none⟩ = some v2 ∧ w.cell? ⟨D, 3, none⟩ = some v3 ∧ w.cell? ⟨D, 4, none⟩ = some v4 ∧ w.cell? ⟨D, 5, none⟩ = some v5 ∧ w.cell? ⟨D, 6, none⟩ = some v6 ∧ w.cell? ⟨D, 7, none⟩ = some v7 ∧ w.cell? ⟨D, 8, none⟩ = some v8 ∧ w.cell? ⟨D, 9, none⟩ = some v9 ∧ w.cell? ⟨D, 10, none⟩ = some v10 ∧ w.cell? ⟨D, 11, none⟩ = some v11) ∧ (w.frozen? ⟨D, 0, none⟩ = false ∧ w.frozen? ⟨D, 1, none⟩ = false ∧ w.frozen? ⟨D, 2, none⟩ = false ∧ w.frozen? ⟨D, 3, none⟩ = false ∧ w.frozen? ⟨D, 4, none⟩ = false ∧ w.frozen? ⟨D, 5, none⟩ = false ∧ w.frozen? ⟨D, 6, none⟩ = false ∧ w.frozen? ⟨D, 7, none⟩ = false ∧ w.frozen? ⟨D, 8, none⟩ = false ∧ w.frozen? ⟨D, 9, none⟩ = false ∧ w.frozen? ⟨D, 10, none⟩ = false ∧ w.frozen? ⟨D, 11, none⟩ = false) ∧ D < w.heap.size :=
  ⟨⟨h.2.2 0 _ rfl, h.2.2 1 _ rfl, h.2.2 2 _ rfl, h.2.2 3 _ rfl, h.2.2 4 _ rfl, h.2.2 5 _ rfl, h.2.2 6 _ rfl, h.2.2 7 _ rfl, h.2.2 8 _ rfl, h.2.2 9 _ rfl, h.2.2 10 _ rfl, h.2.2 11 _ rfl⟩, ⟨h.2.1 _, h.2.1 _, h.2.1 _, h.2.1 _, h.2.1 _, h.2.1 _, h.2.1 _, h.2.1 _, h.2.1 _, h.2.1 _, h.2.1 _, h.2.1 _⟩, h.1⟩
set_option maxHeartbeats 4000000 in
set_option maxRecDepth 100000 in
theorem block_any {toks : List Tok} {size : Int} {g rb M : Nat} {w : World} {i : Nat} {row opn : Value} {s : Sty} (hl : Lets w rb g M) (h : Rd toks size g w i false row opn s (.map (some M))) (hlen : toks.length ≤ 900000) :
    Calls Tryd.prog 58 #[.pointer (some ⟨g, 0, none⟩)] w fun e w' => ∃ s' j b, e = .returned (.agg (encS12 s').toArray) ∧ Bar g w w' ∧ Rd toks size g w' j b row opn s' (.map (some M)) ∧ (b = false → Attrs toks i .plain [] (.ok s' j)) ∧ (b = true → AttrsBad toks i j) := by
  obtain ⟨q0, hq0, hy0, hy1, hy2⟩ := info_parts info_i32
  have HL := Lib.hid hl
  have HR := Lib.hid h
  have HR0 := Lib.hid h
  have g0 := h.lt
  have hi := h.le
  clear hl h
  obtain ⟨D, hD⟩ : ∃ D, w.heap.size = D := ⟨_, rfl⟩
  go_enter Tryd.func58, Tryd.ntmps58
  go_wp2_with fail
  generalize hW : w.alloc _ = W
  have hG : Blk W D 81 (encS12 .none) := by rw [← hW]; exact Blk.new w _ _ _ hD.symm _ rfl
  have HR := Lib.hid (show Rd toks size g W i false row opn s (.map (some M)) from (by rw [← hW]; exact HR.out.below ((Below.refl _ _).alloc (Nat.le_refl _) _)))
  have HB := Lib.hid (show Bar g w W by rw [← hW]; exact (Bar.refl g w).alloc _)
  have hWs : W.heap.size = D + 1 := by rw [← hW, ← hD]; simp
  clear hW
  refine (plain_any W).mono ?_
  rintro e w1 ⟨rfl, hb⟩
  have HR := Lib.hid (HR.out.below hb)
  have HB := Lib.hid (HB.out.trans (Bar.of_below hb))
  have HG := Lib.hid (hG.on hb)
  have hs1 := hb.size
  obtain ⟨⟨x0, x1, x2, x3, x4, x5, x6, x7, x8, x9, x10, x11⟩, x12, x13, x14⟩ := HR.out.cells
  have hfz := HR.out.frozen
  have f5 := hfz 5
  have f6 := hfz 6
  have f7 := hfz 7
  have f8 := hfz 8
  have f9 := hfz 9
  have f10 := hfz 10
  have f11 := hfz 11
  have f12 := hfz 12
  have f13 := hfz 13
  have f14 := hfz 14
  have f15 := hfz 15
  have f16 := hfz 16
  clear hb hG hfz
  have g1 := HR.out.lt
  simp only [encS12, Sty.plain]
  go_wp2_with fail
  have HR2 := Lib.hid (HR.out.style .plain)
  have HB2 := Lib.hid ((((((((((((HB.out.set 5 (.int .i64 0)).set 6 (.int .i64 0)).set 7 (.int .i64 0)).set 8 (.int .i64 0)).set 9 (.int .i64 0)).set 10 (.int .i64 2)).set 11 (.int .i64 2)).set 12 (.int .i64 0)).set 13 (.int .i64 0)).set 14 (.int .i64 0)).set 15 (.int .i64 0)).set 16 (.int .i64 0))
  have HG2 := Lib.hid ((((((((((((HG.out.set_other (m := g) (by omega) 5 (.int .i64 0)).set_other (m := g) (by omega) 6 (.int .i64 0)).set_other (m := g) (by omega) 7 (.int .i64 0)).set_other (m := g) (by omega) 8 (.int .i64 0)).set_other (m := g) (by omega) 9 (.int .i64 0)).set_other (m := g) (by omega) 10 (.int .i64 2)).set_other (m := g) (by omega) 11 (.int .i64 2)).set_other (m := g) (by omega) 12 (.int .i64 0)).set_other (m := g) (by omega) 13 (.int .i64 0)).set_other (m := g) (by omega) 14 (.int .i64 0)).set_other (m := g) (by omega) 15 (.int .i64 0)).set_other (m := g) (by omega) 16 (.int .i64 0))
  simp only [Sty.plain] at HR2
  clear x0 x1 x2 x3 x4 x5 x6 x7 x8 x9 x10 x11 x12 x13 x14 f5 f6 f7 f8 f9 f10 f11 f12 f13 f14 f15 f16 HR HB HG
  go_loopw [3] (fun v wr => ∃ (j : Nat) (b : Bool) (t : Sty) (A : Option Addr) (m c : Nat) (zs : List Int), v = .slice A m c ∧ m ≤ j + b.toNat ∧ Rd toks size g wr j b row opn t (.map (some M)) ∧ wr.ownsRow (D + 1) 21 1 (.slice A m c) m (zs.flatMap enc32) ∧ AtJ toks i j b t zs ∧ Blk wr D 81 (encS12 .none) ∧ Bar g w wr) (fun _ wr => meas wr g)
  case atStart => exact ⟨i, false, .plain, none, 0, 0, [], rfl, by omega, HR2.out, World.ownsRow_nil _ _ _ _, ⟨fun _ r h => h, fun e => by cases e⟩, HG2.out, HB2.out⟩
  case round =>
    clear HR2 HB2 HG2
    obtain ⟨j, b, t, A, m, c, zs, rfl, hmj, hr, ho, hat, hg, hb⟩ := hrel
    have HR := Lib.hid hr
    have HO := Lib.hid ho
    have HAT := Lib.hid hat
    have HG := Lib.hid hg
    have HB := Lib.hid hb
    have hjl := hr.le
    have hms := hr.meas
    have g2 := hr.lt
    have hbs := hb.size
    clear hr ho hat hg hb
    by_cases hmo : (!b && decide (j < toks.length)) = false
    · have HM := Lib.hid (more_to hmo HR.out)
      have HE := Lib.hid (HAT.out.stop (fun e => by
        subst e
        have : toks[j]? = none := List.getElem?_eq_none (by simpa using hmo)
        unfold letterB
        rw [List.find?_eq_none.2 (fun c _ => by unfold sgB; rw [this]; simp)]))
      obtain ⟨⟨x0, x1, x2, x3, x4, x5, x6, x7, x8, x9, x10, x11⟩, x12, x13, x14⟩ := HR.out.cells
      clear hmo
      obtain ⟨⟨y0, y1, y2, y3, y4, y5, y6, y7, y8, y9, y10, y11⟩, ⟨z0, z1, z2, z3, z4, z5, z6, z7, z8, z9, z10, z11⟩, hDl⟩ := box12 (show Box wr D [.int .i64 0, .int .i64 0, .int .i64 0, .int .i64 0, .int .i64 0, .int .i64 0, .int .i64 0, .int .i64 0, .int .i64 0, .int .i64 0, .int .i64 0, .int .i64 0] from HG.out.box)
      go_wp2_with (go_at_call 32; refine HM.out.mono ?_; rintro e w' ⟨rfl, rfl⟩)
      have hbl := below_sty wr D t
      refine bodyPost_ret (v := .agg (encS12 t).toArray) (by simp [results, Tryd.results58, go_sem, y0, y1, y2, y3, y4, y5, y6, y7, y8, y9, y10, y11, hDl, encS12]) rfl ?_
      exact ⟨t, j, b, rfl, HB.out.then hbl (by omega), HR.out.low (hbl.mono (by omega)), HE.out⟩
    · have hmo : (!b && decide (j < toks.length)) = true := by simpa using hmo
      have hbf : b = false := by cases b with | false => rfl | true => simp at hmo
      subst hbf
      have hil : j < toks.length := by simpa using hmo
      have HM := Lib.hid (more_to hmo HR.out)
      have HLr := Lib.hid (HL.out.bar HR0.out HB.out)
      obtain ⟨A0, m0, c0', l1, l2, l3, l4, l5⟩ := HR.out
      have hm0 := l1.1
      rw [List.length_drop] at hm0
      have hm02 := l1.2.1
      obtain ⟨p, off, x, y, u, z, rfl, hbl, hx, ⟨d0, d1, d2, d3⟩, htl⟩ := left_at l1 (by omega)
      have c0 : wr.cell? ⟨g, 0, none⟩ = some (.slice (some ⟨p, off, none⟩) m0 c0') := l5.box.2.2 0 _ rfl
      obtain ⟨⟨x0, x1, x2, x3, x4, x5, x6, x7, x8, x9, x10, x11⟩, x12, _, _⟩ := HR.out.cells
      have hpos : (0 : Int) < (m0 : Int) := by omega
      have HX := Lib.hid hx
      clear l1 l5 htl hx hm0 hmo
      by_cases hy : y ∈ lettersB
      · obtain ⟨v, hk, ht⟩ := HLr.out.hit hy
        have HT := Lib.hid ht
        obtain ⟨D2, rfl, _, _, _⟩ := ht
        by_cases hn : y ∈ zs
        · have HE := Lib.hid (HAT.out.stop (fun _ => by rw [letterB_at HX.out]; simp [hn]))
          have HC := Lib.hid (contains_to (c' := c) (v := true) (decide_eq_true hn) wr (ownsRow_rows enc32_len (by decide) HO.out))
          clear hy hn
          obtain ⟨⟨y0, y1, y2, y3, y4, y5, y6, y7, y8, y9, y10, y11⟩, ⟨z0, z1, z2, z3, z4, z5, z6, z7, z8, z9, z10, z11⟩, hDl⟩ := box12 (show Box wr D [.int .i64 0, .int .i64 0, .int .i64 0, .int .i64 0, .int .i64 0, .int .i64 0, .int .i64 0, .int .i64 0, .int .i64 0, .int .i64 0, .int .i64 0, .int .i64 0] from HG.out.box)
          go_wp2_with (first | (go_at_call 32; refine HM.out.mono ?_; rintro e w' ⟨rfl, rfl⟩) | (go_at_call 80; refine HC.out.mono ?_; rintro e w' ⟨rfl, rfl⟩))
          have hbl := below_sty wr D t
          refine bodyPost_ret (v := .agg (encS12 t).toArray) (by simp [results, Tryd.results58, go_sem, y0, y1, y2, y3, y4, y5, y6, y7, y8, y9, y10, y11, hDl, encS12]) rfl ?_
          exact ⟨t, j, false, rfl, HB.out.then hbl (by omega), HR.out.low (hbl.mono (by omega)), ⟨fun _ => HE.out.1 trivial, fun e => by cases e⟩⟩
        · have HC := Lib.hid (contains_to (c' := c) (v := false) (decide_eq_false hn) wr (ownsRow_rows enc32_len (by decide) HO.out))
          clear x0 x1 x2 x3 x4 x5 x6 x7 x8 x9 x10 x11
          go_wp2_with (first | (go_at_call 32; refine HM.out.mono ?_; rintro e w' ⟨rfl, rfl⟩) | (go_at_call 80; refine HC.out.mono ?_; rintro e w' ⟨rfl, rfl⟩))
          obtain ⟨⟨j1, b1⟩, h1⟩ : ∃ q, mustS toks j false y = q := ⟨_, rfl⟩
          obtain ⟨⟨n, j2, b2⟩, h2⟩ : ∃ q, numS toks j1 b1 (limitB y).1 (limitB y).2 = q := ⟨_, rfl⟩
          obtain ⟨hst1, hst2, hst3⟩ := HAT.out.step HX.out hy hn h1 h2
          have HST := Lib.hid hst1
          have hmj2 : m ≤ j := by simpa using hmj
          refine (must_to h1 HR.out).mono ?_
          rintro e w3 ⟨⟨v1, rfl⟩, hbm, hsm, hrm⟩
          have htm := HT.out.bar c0 hbm
          have hbx := (HLr.out.bar HR.out hbm).box
          obtain ⟨cap, hcap, hcall⟩ := tell_to htm hbx HLr.out.ne.1 (by have := (ch_pos y hy).1; omega) h2 hrm (fun left wr => rcells_with hy n left row opn _ size wr)
          injection hcap with _ _ hcap
          subst hcap
          have HCL := Lib.hid hcall
          have HBM := Lib.hid hbm
          have HOM := Lib.hid (owns_bar HO.out hbm (by omega))
          have HGM := Lib.hid (HG.out.bar hbm (by omega))
          clear hbm hrm htm hbx hcall hst1 hy hn h1 h2 HM HC HX HT hk c0 d0 d1 d2 d3 x12
          go_wp2_with fail
          refine HCL.out.mono ?_
          rintro e w4 ⟨⟨v2, rfl⟩, hbt, hst, hrt⟩
          have HOT := Lib.hid (owns_below (owns_bar HOM.out hbt (by omega)) ((Below.refl _ w4).alloc (Nat.le_refl _) (.cells #[.int .i32 y] 21)))
          have HGT := Lib.hid ((HGM.out.bar hbt (by omega)).alloc (.cells #[.int .i32 y] 21))
          have HBT := Lib.hid (((HB.out.trans HBM.out).trans hbt).alloc (.cells #[.int .i32 y] 21))
          have HRT := Lib.hid (hrt.below ((Below.refl _ w4).alloc (Nat.le_refl _) (.cells #[.int .i32 y] 21)))
          have HCT := Lib.hid (cells_one w4 21 (.int .i32 y))
          have hsz : D + 1 ≤ w4.heap.size := by have := HG.out.box.1; omega
          clear hbt hst hrt HCL HOM HGM HBM
          go_wp2_with (at_builtin; refine wpList_append_cells _ rfl (.tmp 46) (.tmp 48) _ rfl (D + 1) 21 q0 (.int .i32 0) 1 4 Tryd.underlying135 hq0 hy0 hy1 hy2 rfl (by decide) _ m _ rfl HOT.out _ 1 1 _ rfl HCT.out (by intro u hu; simp at hu; subst hu; rfl) (by unfold maxLen; omega) (by omega) (by simp; omega) ?_; intro A6 c6 w6 hown6 hg6; have hb6 : Below (D + 1) _ w6 := (Below.refl _ _).grown hg6 (by simp; omega) (owns_block HOT.out); have HG6 := Lib.hid (HGT.out.below hb6 (by omega)); have HB6 := Lib.hid (HBT.out.then hb6 (by omega)); have HR6 := Lib.hid (HRT.out.low (hb6.mono (by omega))); have HO6 := Lib.hid hown6; clear hg6 hown6 hb6 HGT HBT HRT HOT HCT)
          have hms6 := HR6.out.meas
          go_roundw
          case rel => exact ⟨j2, b2, withB t y n, A6, m + 1, c6, zs ++ [y], rfl, by cases b2 <;> simp at hst2 hmj ⊢ <;> omega, HR6.out, by rw [List.flatMap_append]; exact HO6.out, HST.out, HG6.out, HB6.out⟩
          case measure => rw [hms6, hms]; cases b2 <;> simp at hst2 ⊢ <;> omega
      · have HE := Lib.hid (HAT.out.stop (fun _ => by rw [letterB_at HX.out]; simp [hy]))
        have hk := HLr.out.miss hy
        clear hy
        obtain ⟨⟨y0, y1, y2, y3, y4, y5, y6, y7, y8, y9, y10, y11⟩, ⟨z0, z1, z2, z3, z4, z5, z6, z7, z8, z9, z10, z11⟩, hDl⟩ := box12 (show Box wr D [.int .i64 0, .int .i64 0, .int .i64 0, .int .i64 0, .int .i64 0, .int .i64 0, .int .i64 0, .int .i64 0, .int .i64 0, .int .i64 0, .int .i64 0, .int .i64 0] from HG.out.box)
        go_wp2_with (first | (go_at_call 32; refine HM.out.mono ?_; rintro e w' ⟨rfl, rfl⟩))
        have hbl := below_sty wr D t
        refine bodyPost_ret (v := .agg (encS12 t).toArray) (by simp [results, Tryd.results58, go_sem, y0, y1, y2, y3, y4, y5, y6, y7, y8, y9, y10, y11, hDl, encS12]) rfl ?_
        exact ⟨t, j, false, rfl, HB.out.then hbl (by omega), HR.out.low (hbl.mono (by omega)), ⟨fun _ => HE.out.1 trivial, fun e => by cases e⟩⟩
end Go.Proofs.YtechccoongilcaaDoor
