import Derived.Test.YtdjnaejblgheoaaGreatJO35
import Derived.Test.YtdjnaejblgheoaaGreatJO10
import Derived.Test.YtdjnaejblgheoaaGreatJO38
import Derived.Test.YtdjnaejblgheoaaGreatJO00
import Derived.Deep.RegionHeld3
/- Stage 14's laws: what package flow is asked to say; the chapter's examples hold, in any world, if it does. (Written by program: tools/drafts/genawake14.py.) -/
namespace Go.Proofs.YtdjnaejblgheoaaGreat
open Go.RowKit
set_option linter.unusedVariables false
set_option linter.unusedSimpArgs false
/-- what package flow is asked to say. -/
structure FlowSays : Prop where
  of : ∀ {L : List Nd} {wd : Int} {A : Option Addr} {n c : Nat} {w : World}, n ≤ 60 → (∀ y ∈ L, y.words.length ≤ 60) → Sees w A n L → Calls Tryz.prog 9 #[.slice A n c, .int .i64 wd] w (GalSeen w (galR L wd))
/-- a galley alone. -/
def GalOne (w : World) (la : List Am) (lf : List Fl) (h : Int) (e : Ending) (w' : World) : Prop := ∃ A n c A2 m c2, e = .returned (.agg #[.slice A n c, .slice A2 m c2, .int .i64 h]) ∧ Rows 8 encAm w' A n la ∧ Rows 7 encFl w' A2 m lf ∧ Below w.heap.size w w'
def doc14A : List Nd := [⟨1, 2, ⟨5, 7, 0, 0, 0, 2, 2, 0, 0, 0, 0, 0⟩, 0, 0, [], 0, 0, 0⟩, ⟨2, 1, .none, 10, 2, [30, 30, 50], 0, 0, 0⟩, ⟨1, 2, ⟨3, 0, 0, 0, 0, 2, 2, 0, 0, 0, 0, 0⟩, 0, 0, [], 0, 0, 0⟩, ⟨3, 1, .none, 0, 0, [], 0, 20, 8⟩]
def ams14A : List Am := [⟨1, 1, 0, 2, 0, 5, 62, 10⟩, ⟨1, 1, 2, 3, 0, 15, 50, 10⟩, ⟨2, 3, 0, 0, 0, 32, 20, 8⟩]
def fls14A : List Fl := []
theorem eval14A : evalF ⟨#[91, 109, 53, 32, 110, 55, 40, 49, 48, 32, 50, 32, 51, 48, 32, 51, 48, 32, 53, 48, 41, 93, 91, 109, 51, 123, 50, 48, 32, 56, 125, 93]⟩ = some (some doc14A, 0) := by show evalF ⟨#[91, 109, 53, 32, 110, 55, 40, 49, 48, 32, 50, 32, 51, 48, 32, 51, 48, 32, 53, 48, 41, 93, 91, 109, 51, 123, 50, 48, 32, 56, 125, 93]⟩ = _; decide +kernel
theorem gal14A : galR doc14A 100 = ⟨ams14A, fls14A, 40, 0⟩ := by kernel_rfl
def doc14B : List Nd := [⟨4, 1, .none, 0, 0, [], 1, 30, 25⟩, ⟨2, 1, .none, 10, 2, [30, 30, 50], 0, 0, 0⟩]
def ams14B : List Am := [⟨1, 1, 0, 2, 30, 0, 62, 10⟩, ⟨1, 1, 2, 3, 30, 10, 50, 10⟩]
def fls14B : List Fl := [⟨0, 1, 0, 0, 0, 30, 25⟩]
theorem eval14B : evalF ⟨#[60, 76, 32, 51, 48, 32, 50, 53, 62, 40, 49, 48, 32, 50, 32, 51, 48, 32, 51, 48, 32, 53, 48, 41]⟩ = some (some doc14B, 0) := by show evalF ⟨#[60, 76, 32, 51, 48, 32, 50, 53, 62, 40, 49, 48, 32, 50, 32, 51, 48, 32, 51, 48, 32, 53, 48, 41]⟩ = _; decide +kernel
theorem gal14B : galR doc14B 100 = ⟨ams14B, fls14B, 25, 0⟩ := by kernel_rfl
def doc14C : List Nd := [⟨4, 1, .none, 0, 0, [], 2, 30, 25⟩, ⟨1, 2, ⟨0, 0, 0, 0, 10, 2, 2, 0, 0, 0, 0, 3⟩, 0, 0, [], 0, 0, 0⟩, ⟨3, 1, .none, 0, 0, [], 0, 20, 8⟩]
def ams14C : List Am := [⟨2, 2, 0, 0, 10, 25, 20, 8⟩]
def fls14C : List Fl := [⟨0, 2, 0, 70, 0, 30, 25⟩]
theorem eval14C : evalF ⟨#[60, 82, 32, 51, 48, 32, 50, 53, 62, 91, 99, 51, 32, 105, 49, 48, 123, 50, 48, 32, 56, 125, 93]⟩ = some (some doc14C, 0) := by show evalF ⟨#[60, 82, 32, 51, 48, 32, 50, 53, 62, 91, 99, 51, 32, 105, 49, 48, 123, 50, 48, 32, 56, 125, 93]⟩ = _; decide +kernel
theorem gal14C : galR doc14C 100 = ⟨ams14C, fls14C, 33, 0⟩ := by kernel_rfl
set_option maxHeartbeats 4000000 in
theorem laid14_to (H : FlowSays) {s : ByteArray} {D : List Nd} {la : List Am} {lf : List Fl} {h : Int} (he : evalF s = some (some D, 0)) (hs : s.size ≤ 600000) (hl : D.length ≤ 60) (hw : ∀ y ∈ D, y.words.length ≤ 60) (hg : galR D 100 = ⟨la, lf, h, 0⟩) (w : World) :
    Calls Tryz.prog 22 #[.string s] w (GalOne w la lf h) := by
  have HH := Lib.hid H
  have HG := Lib.hid hg
  have HE := Lib.hid (rof_ok (evalF_ok he))
  have HS := Lib.hid hs
  have HL := Lib.hid hl
  have HW := Lib.hid hw
  clear H hg he hs hl hw
  go_enter Tryz.func22, Tryz.ntmps22
  go_wp2_with fail
  generalize hV : World.alloc w _ = V
  have HR := Lib.hid (show Box V w.heap.size zero3 by rw [← hV]; exact Box.new w zero3 _)
  have HB := Lib.hid (show Below w.heap.size w V by rw [← hV]; go_grown)
  clear hV
  refine (HE.out V HS.out).mono ?_
  rintro e w0 ⟨A, n, c, rfl, hN, hb⟩
  have HN := Lib.hid hN.sees
  have HR1 := Lib.hid (HR.out.below hb)
  have HB1 := Lib.hid (below_then HB.out hb)
  have hn : n ≤ 60 := by rw [← hN.sees.len]; exact HL.out
  clear hN hb HR HB
  go_wp2_with fail
  refine (HH.out.of hn HW.out HN.out).mono ?_
  rintro e w1 ⟨A1, n1, c1, A2, n2, c2, rfl, hr1, hr2, hb, hnw1, hnw2⟩
  have hkw : w.heap.size < w0.heap.size := HR1.out.1
  have HNW := Lib.hid (show (∀ q, A1 = some q → some w.heap.size ≠ some q.block) ∧ ∀ q, A2 = some q → some w.heap.size ≠ some q.block from ⟨fun q hq e => by have := hnw1 q hq; injection e with e; omega, fun q hq e => by have := hnw2 q hq; injection e with e; omega⟩)
  clear hnw1 hnw2 hkw
  rw [HG.out] at hr1 hr2
  simp only at hr1 hr2
  rw [HG.out]
  have HR1a := Lib.hid hr1
  have HR2a := Lib.hid hr2
  have HR2 := Lib.hid (HR1.out.below hb)
  have HB2 := Lib.hid (below_then HB1.out hb)
  clear hr1 hr2 hb HR1 HB1
  go_wp2_with ((with_reducible refine stop_load 28 (.tmp 6) ?_ ?_); exact rfl)
  refine Stop.intro ?_
  generalize hZ : World.alloc w1 _ = Z
  have hal : Below w1.heap.size w1 Z := by rw [← hZ]; exact (Below.refl _ _).alloc (Nat.le_refl _) _
  have HX := Lib.hid (show Box Z w1.heap.size [.slice A1 n1 c1, .slice A2 n2 c2, .int .i64 h] by rw [← hZ]; exact Box.new w1 [.slice A1 n1 c1, .slice A2 n2 c2, .int .i64 h] _)
  have HR3 := Lib.hid (HR2.out.below hal)
  have HB3 := Lib.hid (below_then HB2.out hal)
  have HA3 := Lib.hid (HR1a.out.below hal)
  have HF3 := Lib.hid (HR2a.out.below hal)
  clear hZ hal HR2 HB2 HR1a HR2a
  have x0 := HX.out.2.2 0 _ rfl
  have x1 := HX.out.2.2 1 _ rfl
  have x2 := HX.out.2.2 2 _ rfl
  obtain ⟨⟨r0, r1, r2⟩, ⟨z0, z1, z2⟩, zl⟩ := zero3_of HR3.out
  go_wp2_with fail
  have hY := ((HR3.out.set 0 (.slice A1 n1 c1) (by simp [zero3])).set 1 (.slice A2 n2 c2) (by simp [zero3])).set 2 (.int .i64 h) (by simp [zero3])
  have s0 := hY.2.2 0 _ rfl
  have s1 := hY.2.2 1 _ rfl
  have s2 := hY.2.2 2 _ rfl
  exact bodyPost_ret (v := .agg #[.slice A1 n1 c1, .slice A2 n2 c2, .int .i64 h]) (by simp [results, Tryz.results22, go_sem, s0, s1, s2]) rfl ⟨A1, n1, c1, A2, n2, c2, rfl, rows_far (rows_far (rows_far HA3.out (grownBy_setCellN _ _ _ _) HNW.out.1) (grownBy_setCellN _ _ _ _) HNW.out.1) (grownBy_setCellN _ _ _ _) HNW.out.1, rows_far (rows_far (rows_far HF3.out (grownBy_setCellN _ _ _ _) HNW.out.2) (grownBy_setCellN _ _ _ _) HNW.out.2) (grownBy_setCellN _ _ _ _) HNW.out.2, ((HB3.out.setCell (by simp) _).setCell (by simp) _).setCell (by simp) _⟩
theorem line14_to (a b c x y u : Int) (w : World) : Calls Tryz.prog 20 #[.int .i64 a, .int .i64 b, .int .i64 c, .int .i64 x, .int .i64 y, .int .i64 u] w fun e w' => e = .returned (.agg #[.int .i64 1, .int .i64 a, .int .i64 b, .int .i64 c, .int .i64 x, .int .i64 y, .int .i64 u, .int .i64 10]) ∧ Below w.heap.size w w' := by
  go_enter Tryz.func20, Tryz.ntmps20
  go_wp2_with fail
  exact bodyPost_ret (v := .agg #[.int .i64 1, .int .i64 a, .int .i64 b, .int .i64 c, .int .i64 x, .int .i64 y, .int .i64 u, .int .i64 10]) (by simp [results, Tryz.results20, go_sem]) rfl ⟨rfl, by go_grown⟩
theorem box14_to (a x y : Int) (w : World) : Calls Tryz.prog 21 #[.int .i64 a, .int .i64 x, .int .i64 y] w fun e w' => e = .returned (.agg #[.int .i64 2, .int .i64 a, .int .i64 0, .int .i64 0, .int .i64 x, .int .i64 y, .int .i64 20, .int .i64 8]) ∧ Below w.heap.size w w' := by
  go_enter Tryz.func21, Tryz.ntmps21
  go_wp2_with fail
  exact bodyPost_ret (v := .agg #[.int .i64 2, .int .i64 a, .int .i64 0, .int .i64 0, .int .i64 x, .int .i64 y, .int .i64 20, .int .i64 8]) (by simp [results, Tryz.results21, go_sem]) rfl ⟨rfl, by go_grown⟩
theorem rows_lit {α : Type} {k : Nat} {enc : α → List Value} (hk : ∀ x : α, (enc x).length = k) (w : World) (zs : List α) (m : Nat) (t : TypeId) (n : Nat) (hn : n = w.heap.size) (cs : Array Value) (hcs : cs = (zs.flatMap enc).toArray) (hm : zs.length = m) (hm2 : m ≤ 1000) : Rows k enc (w.alloc (.cells cs t)) (some ⟨n, 0, none⟩) m zs := by
  subst hn hcs hm
  refine ⟨rfl, by omega, fun _ => ⟨_, _, rfl, by simp, fun i x hx j v hv => ?_⟩⟩
  rw [Nat.zero_add]
  exact (Box.new w (zs.flatMap enc) t).2.2 _ _ (flat_get hk zs i x j v hx hv)
set_option maxHeartbeats 8000000 in
set_option maxRecDepth 100000 in
theorem awake14_any (H : FlowSays) (w : World) : Calls Tryz.prog 8 #[] w fun e w' => e = .returned (.bool true) ∧ Below w.heap.size w w' := by
  have HH := Lib.hid H
  clear H
  go_enter Tryz.func8, Tryz.ntmps8
  go_wp2_with fail
  refine (line14_to _ _ _ _ _ _ _).mono ?_
  rintro e w1 ⟨rfl, hb⟩
  have HB := Lib.hid hb
  clear hb
  go_wp2_with fail
  refine (line14_to _ _ _ _ _ _ _).mono ?_
  rintro e w2 ⟨rfl, hb⟩
  have HB2 := Lib.hid (below_then HB.out hb)
  clear hb HB
  go_wp2_with fail
  refine (box14_to _ _ _ _).mono ?_
  rintro e w3 ⟨rfl, hb⟩
  have HB := Lib.hid (below_then HB2.out hb)
  clear hb HB2
  go_wp2_with fail
  generalize hU : World.alloc (World.alloc w3 _) _ = U
  have HR1 := Lib.hid (show Rows 8 encAm U (some ⟨w3.heap.size, 0, none⟩) 3 ams14A by rw [← hU]; exact (rows_lit encAm_len w3 ams14A 3 _ _ rfl _ rfl rfl (by decide)).below ((Below.refl _ _).alloc (Nat.le_refl _) _))
  have HG1 := Lib.hid (show Box U (w3.heap.size + 1) [.slice (some ⟨w3.heap.size, 0, none⟩) 3 3, .slice none 0 0, .int .i64 40] by rw [← hU]; exact box_new _ [.slice (some ⟨w3.heap.size, 0, none⟩) 3 3, .slice none 0 0, .int .i64 40] _ _ (by simp) _ rfl)
  have HBU := Lib.hid (show Below w.heap.size w U by rw [← hU]; exact (HB.out.alloc HB.out.size _).alloc (by have := HB.out.size; simp; omega) _)
  clear hU HB
  refine (line14_to _ _ _ _ _ _ _).mono ?_
  rintro e w4 ⟨rfl, hb⟩
  have HO := Lib.hid (show On U w4 from hb)
  clear hb
  go_wp2_with fail
  refine (line14_to _ _ _ _ _ _ _).mono ?_
  rintro e w5 ⟨rfl, hb⟩
  have HO2 := Lib.hid (On.step HO.out hb)
  clear hb HO
  go_wp2_with fail
  generalize hU2 : World.alloc (World.alloc (World.alloc w5 _) _) _ = U2
  have hal2 : Below w5.heap.size w5 U2 := by rw [← hU2]; exact (((Below.refl _ _).alloc (Nat.le_refl _) _).alloc (by simp) _).alloc (by simp; omega) _
  have HR2 := Lib.hid (show Rows 8 encAm U2 (some ⟨w5.heap.size, 0, none⟩) 2 ams14B by rw [← hU2]; exact (rows_lit encAm_len w5 ams14B 2 _ _ rfl _ rfl rfl (by decide)).below (((Below.refl _ _).alloc (Nat.le_refl _) _).alloc (by simp) _))
  have HF2 := Lib.hid (show Rows 7 encFl U2 (some ⟨w5.heap.size + 1, 0, none⟩) 1 fls14B by rw [← hU2]; exact (rows_lit encFl_len _ fls14B 1 _ _ (by simp) _ rfl rfl (by decide)).below ((Below.refl _ _).alloc (Nat.le_refl _) _))
  have HG2 := Lib.hid (show Box U2 (w5.heap.size + 1 + 1) [.slice (some ⟨w5.heap.size, 0, none⟩) 2 2, .slice (some ⟨w5.heap.size + 1, 0, none⟩) 1 1, .int .i64 25] by rw [← hU2]; exact box_new _ [.slice (some ⟨w5.heap.size, 0, none⟩) 2 2, .slice (some ⟨w5.heap.size + 1, 0, none⟩) 1 1, .int .i64 25] _ _ (by simp) _ rfl)
  have HO3 := Lib.hid (On.step HO2.out hal2)
  clear hU2 hal2 HO2
  refine (box14_to _ _ _ _).mono ?_
  rintro e w6 ⟨rfl, hb⟩
  have HO4 := Lib.hid (On.step HO3.out hb)
  have HO5 := Lib.hid (show On U2 w6 from hb)
  clear hb HO3
  go_wp2_with fail
  generalize hU3 : World.alloc (World.alloc (World.alloc w6 _) _) _ = U3
  have hal3 : Below w6.heap.size w6 U3 := by rw [← hU3]; exact (((Below.refl _ _).alloc (Nat.le_refl _) _).alloc (by simp) _).alloc (by simp; omega) _
  have HR3 := Lib.hid (show Rows 8 encAm U3 (some ⟨w6.heap.size, 0, none⟩) 1 ams14C by rw [← hU3]; exact (rows_lit encAm_len w6 ams14C 1 _ _ rfl _ rfl rfl (by decide)).below (((Below.refl _ _).alloc (Nat.le_refl _) _).alloc (by simp) _))
  have HF3 := Lib.hid (show Rows 7 encFl U3 (some ⟨w6.heap.size + 1, 0, none⟩) 1 fls14C by rw [← hU3]; exact (rows_lit encFl_len _ fls14C 1 _ _ (by simp) _ rfl rfl (by decide)).below ((Below.refl _ _).alloc (Nat.le_refl _) _))
  have HG3 := Lib.hid (show Box U3 (w6.heap.size + 1 + 1) [.slice (some ⟨w6.heap.size, 0, none⟩) 1 1, .slice (some ⟨w6.heap.size + 1, 0, none⟩) 1 1, .int .i64 33] by rw [← hU3]; exact box_new _ [.slice (some ⟨w6.heap.size, 0, none⟩) 1 1, .slice (some ⟨w6.heap.size + 1, 0, none⟩) 1 1, .int .i64 33] _ _ (by simp) _ rfl)
  have HO6 := Lib.hid (On.step HO4.out hal3)
  have HO7 := Lib.hid (On.step HO5.out hal3)
  have HBZ := Lib.hid (below_then HBU.out HO6.out)
  have HR1z := Lib.hid (show Rows 8 encAm U3 (some ⟨w3.heap.size, 0, none⟩) 3 ams14A from HR1.out.on HO6.out)
  have HG1z := Lib.hid (HG1.out.below HO6.out)
  have HR2z := Lib.hid (show Rows 8 encAm U3 (some ⟨w5.heap.size, 0, none⟩) 2 ams14B from HR2.out.on HO7.out)
  have HF2z := Lib.hid (show Rows 7 encFl U3 (some ⟨w5.heap.size + 1, 0, none⟩) 1 fls14B from HF2.out.on HO7.out)
  have HG2z := Lib.hid (HG2.out.below HO7.out)
  clear hU3 hal3 HO4 HO5 HO6 HO7 HR1 HG1 HBU HR2 HF2 HG2
  have a0 := On.cell (HG1z.out.2.2 0 _ rfl)
  have a1 := On.cell (HG1z.out.2.2 1 _ rfl)
  have a2 := On.cell (HG1z.out.2.2 2 _ rfl)
  have b0 := On.cell (HG2z.out.2.2 0 _ rfl)
  have b1 := On.cell (HG2z.out.2.2 1 _ rfl)
  have b2 := On.cell (HG2z.out.2.2 2 _ rfl)
  have c0 := On.cell (HG3.out.2.2 0 _ rfl)
  have c1 := On.cell (HG3.out.2.2 1 _ rfl)
  have c2 := On.cell (HG3.out.2.2 2 _ rfl)
  clear HG1z HG2z HG3
  go_region_held3 (fun W' => On U3 W') (first | exact (On.refl _).drew | exact On.step (by assumption) hb) (first
    | (go_at_call 22; ((with_reducible refine (laid14_to HH.out eval14A (by decide) (by decide) (by decide) gal14A _).mono ?_); rintro e w7 ⟨A1, n1, k1, A2, m2, k2, rfl, hra, hrf, hb⟩; have HLA := Lib.hid hra; have HLF := Lib.hid hrf; clear hra hrf))
    | (go_at_call 22; ((with_reducible refine (laid14_to HH.out eval14B (by decide) (by decide) (by decide) gal14B _).mono ?_); rintro e w8 ⟨A3, n3, k3, A4, m4, k4, rfl, hra, hrf, hb⟩; have HLA2 := Lib.hid hra; have HLF2 := Lib.hid hrf; clear hra hrf))
    | (go_at_call 22; ((with_reducible refine (laid14_to HH.out eval14C (by decide) (by decide) (by decide) gal14C _).mono ?_); rintro e w9 ⟨A5, n5, k5, A6, m6, k6, rfl, hra, hrf, hb⟩; have HLA3 := Lib.hid hra; have HLF3 := Lib.hid hrf; clear hra hrf))
    | (go_at_call 11; ((with_reducible refine (gal_same HLA.out (HR1z.out.on (by assumption)) HLF.out (Rows.nil _ none)).mono ?_); rintro e w10 ⟨rfl, hb⟩))
    | (go_at_call 11; ((with_reducible refine (gal_same HLA2.out (HR2z.out.on (by assumption)) HLF2.out (HF2z.out.on (by assumption))).mono ?_); rintro e w11 ⟨rfl, hb⟩))
    | (go_at_call 11; ((with_reducible refine (gal_same HLA3.out (HR3.out.on (by assumption)) HLF3.out (HF3.out.on (by assumption))).mono ?_); rintro e w12 ⟨rfl, hb⟩)))
  rename_i hOn
  go_wp2_with fail
  go_ret
  exact ⟨rfl, below_then HBZ.out hOn⟩
end Go.Proofs.YtdjnaejblgheoaaGreat
