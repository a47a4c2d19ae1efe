import Derived.Test.YtipmdhfinlkceaaJW22
import Derived.Test.YtipmdhfinlkceaaJW02
import Derived.Test.YtipmdhfinlkceaaJW21
import Derived.Lib.MinMax
import Derived.Test.YtipmdhfinlkceaaJW16
/- FlowOf. -/
set_option linter.unusedVariables false
set_option linter.unusedSimpArgs false
namespace Go.Proofs.Ytipmdhfinlkceaa
open Go.RowKit
def galV (A : Option Addr) (n c : Nat) (A2 : Option Addr) (m c2 : Nat) (h y k : Int) : List Value := [.slice A n c, .slice A2 m c2, .int .i64 h, .int .i64 y, .int .i64 k]
theorem gal_of {w : World} {k : Nat} {A A2 : Option Addr} {n c m c2 : Nat} {h y p : Int} (hX : Box w k (galV A n c A2 m c2 h y p)) : (w.cell? ⟨k, 0, none⟩ = some (.slice A n c) ∧ w.cell? ⟨k, 1, none⟩ = some (.slice A2 m c2) ∧ w.cell? ⟨k, 2, none⟩ = some (.int .i64 h) ∧ w.cell? ⟨k, 3, none⟩ = some (.int .i64 y) ∧ w.cell? ⟨k, 4, none⟩ = some (.int .i64 p)) ∧
    (w.frozen? ⟨k, 0, none⟩ = false ∧ w.frozen? ⟨k, 1, none⟩ = false ∧ w.frozen? ⟨k, 2, none⟩ = false ∧ w.frozen? ⟨k, 3, none⟩ = false ∧ w.frozen? ⟨k, 4, none⟩ = false) ∧ k < w.heap.size :=
  ⟨⟨hX.2.2 0 _ rfl, hX.2.2 1 _ rfl, hX.2.2 2 _ rfl, hX.2.2 3 _ rfl, hX.2.2 4 _ rfl⟩, ⟨hX.2.1 _, hX.2.1 _, hX.2.1 _, hX.2.1 _, hX.2.1 _⟩, hX.1⟩
theorem new_lt {K K2 : Nat} {v v' : Value} (hn : NewRow K2 v v') (h : ∀ r, v.ownBlock = some r → K < r) (hk : K < K2) : ∀ r, v'.ownBlock = some r → K < r := fun r e => by
  rcases hn with h9 | h9
  · exact h r (by rw [← h9]; exact e)
  · have := h9 r e
    omega
theorem anch_keep {a : Int} {x : Fl} (h : ¬ a ≤ x.anchor) : anchF a x = x := by unfold anchF; rw [if_neg h]
theorem anch_turn {a : Int} {x : Fl} (h : a ≤ x.anchor) : anchF a x = { x with anchor := max (a - 1) 0 } := by unfold anchF; rw [if_pos h]
set_option maxHeartbeats 16000000 in
set_option maxRecDepth 100000 in
theorem rof14_to {L : List Nd} {wd : Int} {An : Option Addr} {nn cn : Nat} (hnn : nn ≤ 60) (hw60 : ∀ y ∈ L, y.words.length ≤ 60) {w : World} (h : Sees w An nn L) :
    Calls Try.prog 17 #[.slice An nn cn, .int .i64 wd] w (GalSeen w (galR L wd)) := by
  obtain ⟨f, hf⟩ : ∃ f, chkV L = f := ⟨_, rfl⟩
  have HCK := Lib.hid (show ∀ W', On w W' → Calls Try.prog 25 #[.slice An nn cn] W' fun e w' => e = .returned (.int .i64 f) ∧ Below W'.heap.size W' w' from fun W' ho => vCheck_to hf ⟨h.on ho, by omega⟩ (fun x hx => by have := hw60 x hx; omega))
  have HF := Lib.hid hf
  have HS := Lib.hid h
  have HLN := Lib.hid h.len
  have HW := Lib.hid hw60
  clear hf h hw60
  by_cases hb1 : wd < 1
  · have HE := Lib.hid (show galR L wd = ⟨[], [], 0, 4⟩ by unfold galR; rw [if_pos (.inl hb1)])
    go_enter Try.func17, Try.ntmps17
    go_wp2_with fail
    exact bodyPost_ret (v := .tuple #[.agg #[.slice none 0 0, .slice none 0 0, .int .i64 0], .int .i64 4]) (by simp [results, Try.results17, go_sem]) rfl (by rw [HE.out]; exact ⟨none, 0, 0, none, 0, 0, rfl, Rows.nil _ _, Rows.nil _ _, by go_grown, (fun q hq => by cases hq), (fun q hq => by cases hq)⟩)
  by_cases hb2 : maxX < wd
  · have HE := Lib.hid (show galR L wd = ⟨[], [], 0, 4⟩ by unfold galR; rw [if_pos (.inr hb2)])
    have hb3 : 1 ≤ wd := by omega
    have hb4 : 1099511627776 < wd := hb2
    clear hb1 hb2
    go_enter Try.func17, Try.ntmps17
    go_wp2_with fail
    exact bodyPost_ret (v := .tuple #[.agg #[.slice none 0 0, .slice none 0 0, .int .i64 0], .int .i64 4]) (by simp [results, Try.results17, go_sem]) rfl (by rw [HE.out]; exact ⟨none, 0, 0, none, 0, 0, rfl, Rows.nil _ _, Rows.nil _ _, by go_grown, (fun q hq => by cases hq), (fun q hq => by cases hq)⟩)
  have hw1 : 1 ≤ wd := by omega
  have hw2 : wd ≤ 1099511627776 := by unfold maxX at hb2; omega
  have HNB := Lib.hid (show ¬ (wd < 1 ∨ maxX < wd) by omega)
  clear hb1 hb2
  go_enter Try.func17, Try.ntmps17
  go_wp2_with fail
  generalize hW : World.alloc w _ = W
  have HR0 := Lib.hid (show Box W w.heap.size zero3 by rw [← hW]; exact Box.new w zero3 _)
  have hbW : Below w.heap.size w W := by rw [← hW]; go_grown
  have HBW := Lib.hid hbW
  clear hW
  refine (HCK.out W hbW).mono ?_
  rintro e w1 ⟨rfl, hb⟩
  have HR1 := Lib.hid (HR0.out.below hb)
  have HB1 := Lib.hid (below_then HBW.out hb)
  clear hb HR0 HBW hbW HCK
  by_cases hf0 : f = 0
  case neg =>
    have HE := Lib.hid (show galR L wd = ⟨[], [], 0, f⟩ by unfold galR; rw [if_neg HNB.out, if_pos (by rw [HF.out]; exact hf0), HF.out])
    have hfn : (f != 0) = true := by simpa using hf0
    clear hf0
    obtain ⟨⟨r0, r1, r2⟩, ⟨z0, z1, z2⟩, zl⟩ := zero3_of HR1.out
    go_wp2_with fail
    have hY := ((HR1.out.set 0 (.slice none 0 0) (by simp [zero3])).set 1 (.slice none 0 0) (by simp [zero3])).set 2 (.int .i64 0) (by simp [zero3])
    have s0 := hY.2.2 0 _ rfl
    have s1 := hY.2.2 1 _ rfl
    have s2 := hY.2.2 2 _ rfl
    exact bodyPost_ret (v := .tuple #[.agg #[.slice none 0 0, .slice none 0 0, .int .i64 0], .int .i64 f]) (by simp [results, Try.results17, go_sem, s0, s1, s2]) rfl (by rw [HE.out]; exact ⟨none, 0, 0, none, 0, 0, rfl, Rows.nil _ _, Rows.nil _ _, ((HB1.out.setCell (by simp) _).setCell (by simp) _).setCell (by simp) _, (fun q hq => by cases hq), (fun q hq => by cases hq)⟩)
  subst hf0
  have HE := Lib.hid (show galR L wd = ⟨(galS L wd).ams, floatsS (galS L wd), highS (galS L wd), 0⟩ by unfold galR; rw [if_neg HNB.out, if_neg (by rw [HF.out]; simp)])
  obtain ⟨hd, hsum⟩ := chk_doc HF.out
  have HD := Lib.hid hd
  have HSU := Lib.hid (Int.le_trans (sumE_all hd.2.nested hd.1) hsum)
  clear hd hsum
  go_wp2_with fail
  have hk7 : w.heap.size < w1.heap.size := HR1.out.1
  generalize hU : World.alloc w1 _ = U
  have HX := Lib.hid (show Box U w1.heap.size (gsV Gs.start none 0 0 none 0 0) by rw [← hU]; exact Box.new w1 (gsV Gs.start none 0 0 none 0 0) _)
  have HR := Lib.hid (show Box U w.heap.size zero3 by rw [← hU]; exact HR1.out.alloc _)
  have HB := Lib.hid (show Below w.heap.size w U by rw [← hU]; exact HB1.out.alloc HB1.out.size _)
  have hu7 : w1.heap.size < U.heap.size := by rw [← hU]; simp
  have HBU := Lib.hid (show Below w1.heap.size w1 U by rw [← hU]; exact (Below.refl _ _).alloc (Nat.le_refl _) _)
  have HSV := Lib.hid (HS.out.below HB1.out)
  have HBV := Lib.hid HB1.out
  clear hU HR1 HB1
  obtain ⟨S7, hS7⟩ : ∃ S7, w1.heap.size = S7 := ⟨_, rfl⟩
  rw [hS7] at HX hk7 hu7 HBU
  rw [hS7]
  have HS7 := Lib.hid hS7
  clear hS7
  have HONE := Lib.hid (rone_in HD.out HW.out hw1 (show wd ≤ maxX from hw2) (cn := cn) (show nn ≤ 1000 by omega) HSV.out)
  have HCL0 := Lib.hid (show Clo L 0 nn by rw [← HLN.out]; exact Clo.all HD.out.2.nested)
  have HRN := Lib.hid (show runS L wd .start (evN L 0 nn) = galS L wd by unfold galS; rw [HLN.out])
  have HEL := Lib.hid (show (evN L 0 nn).length ≤ 120 by have := evN_len HD.out.2.nested nn 0 nn (by omega) HCL0.out; omega)
  have HSM := Lib.hid (show sumE L (evN L 0 nn) ≤ maxN by have := HSU.out; rw [HLN.out] at this; exact this)
  have hKU : w.heap.size ≤ U.heap.size := HB.out.size
  go_loopw [8] (fun iv wr => ∃ (j : Nat) (s1 : Gs) (H1 : Int) (A1 : Option Addr) (n1 c1 : Nat) (A3 : Option Addr) (m1 c3 : Nat), iv = .int .i64 (j : Int) ∧ j ≤ nn ∧ Hid (Clo L j nn) ∧ Hid (runS L wd s1 (evN L j nn) = galS L wd) ∧ Hid (GsOk H1 s1 ∧ H1 + sumE L (evN L j nn) ≤ maxN) ∧ Hid (s1.ams.length + 60 * (evN L j nn).length ≤ 10000 ∧ s1.fls.length + (evN L j nn).length ≤ 1000) ∧ Hid (Box wr S7 (gsV s1 A1 n1 c1 A3 m1 c3)) ∧ Hid (Box wr w.heap.size zero3) ∧ Hid (GsIn S7 wr s1 A1 n1 c1 A3 m1 c3) ∧ Hid ((∀ r, (Value.slice A1 n1 c1).ownBlock = some r → S7 < r) ∧ ∀ r, (Value.slice A3 m1 c3).ownBlock = some r → S7 < r) ∧ Hid (Below S7 w1 wr)) (fun iv _ => nn - (intOf iv).toNat)
  case atStart => exact ⟨0, .start, 0, none, 0, 0, none, 0, 0, rfl, Nat.zero_le _, HCL0, HRN, Lib.hid ⟨GsOk.start, by have := HSM.out; omega⟩, Lib.hid ⟨by show 0 + _ ≤ _; have := HEL.out; omega, by show 0 + _ ≤ _; have := HEL.out; omega⟩, HX, HR, Lib.hid ⟨owns_nil _ _ _ _, owns_nil _ _ _ _, Apart.nil, rfl, rfl⟩, Lib.hid ⟨fun r e => (by cases e), fun r e => (by cases e)⟩, HBU⟩
  case round =>
    obtain ⟨j, s1, H1, A1, n1, c1, A3, m1, c3, rfl, hjn, HC, HRU, HG, HL, HX, HR, HGI, HOW, HBW⟩ := hrel
    by_cases hlt : j < nn
    · have hlt2 : (j : Int) < (nn : Int) := by omega
      obtain ⟨y, hy, hle⟩ := HC.out.at_ hlt
      have HSP := Lib.hid (show sumE L (evN L j nn) = sumE L (ev1 L j y) + sumE L (evN L (nxt j y) nn) by rw [evN_step hlt hy hle, sumE_append])
      have HLP := Lib.hid (show (evN L j nn).length = (ev1 L j y).length + (evN L (nxt j y) nn).length by rw [evN_step hlt hy hle, List.length_append])
      have HPO := Lib.hid (show 0 ≤ sumE L (ev1 L j y) ∧ 0 ≤ sumE L (evN L (nxt j y) nn) from ⟨sumE_pos HD.out.1 _, sumE_pos HD.out.1 _⟩)
      have HIJ := Lib.hid (HONE.out nn j y hy (by omega) H1 s1 A1 A3 n1 c1 m1 c3 wr HG.out.1 (by have := HG.out.2; rw [HSP.out] at this; have := HPO.out; omega) (by have := HL.out.1; rw [HLP.out] at this; omega) (by have := HL.out.2; rw [HLP.out] at this; omega) (by rw [HS7.out]; exact HBW.out) (by rw [HS7.out]; exact HGI.out))
      have HNJ := Lib.hid (nxt_of HD.out.2.nested hy).1
      have hys : 1 ≤ y.size ∧ y.size ≤ 1000 := by have h1 := HNJ.out; have h2 := nxt_lt j y; omega
      have hwj : IntKind.i64.wrap ((j : Int) + y.size) = (j : Int) + y.size := IntWalk.i64_in _ (by omega)
      have hj0 : (0 : Int) ≤ (j : Int) := by omega
      have HY := Lib.hid hy
      have HLE := Lib.hid hle
      have hlj := nxt_lt j y
      clear hy hle
      obtain ⟨⟨g0, g1, g2, g3, g4⟩, _, _⟩ := gs_of HX.out
      go_wp2_with fail
      refine HIJ.out.mono ?_
      rintro e w5 ⟨A7, n7, c7, A8, m8, c8, rfl, hi7, hg7, hn7, hf7⟩
      rw [HS7.out] at hi7
      have hown := HOW.out.1
      have hwr := HX.out.1
      have hX5 := HX.out.grown hg7 (fun r e => by have := hown r e; omega)
      have hR5 := HR.out.grown hg7 (fun r e => by have := hown r e; omega)
      have hB5 := Below.grown HBW.out hg7 (by omega) (fun r e => by have := hown r e; omega)
      have hw7 : (∀ r, (Value.slice A7 n7 c7).ownBlock = some r → S7 < r) ∧ ∀ r, (Value.slice A8 m8 c8).ownBlock = some r → S7 < r := ⟨new_lt hn7 HOW.out.1 hwr, new_lt hf7 HOW.out.2 hwr⟩
      have ha7 : ∀ r, (Value.slice A7 n7 c7).ownBlock = some r → r ≠ S7 := fun r e => by have := hw7.1 r e; omega
      have hf8 : ∀ r, (Value.slice A8 m8 c8).ownBlock = some r → r ≠ S7 := fun r e => by have := hw7.2 r e; omega
      have HX7 := Lib.hid (show Box (((((w5.setCell ⟨S7, 0, none⟩ (.slice A7 n7 c7)).setCell ⟨S7, 1, none⟩ (.slice A8 m8 c8)).setCell ⟨S7, 2, none⟩ (.int .i64 0)).setCell ⟨S7, 3, none⟩ (.int .i64 (oneS L wd j y s1).pen.1)).setCell ⟨S7, 4, none⟩ (.int .i64 (oneS L wd j y s1).pen.2)) S7 (gsV (oneS L wd j y s1) A7 n7 c7 A8 m8 c8) from
        (((((hX5.set 0 (.slice A7 n7 c7) (by simp [gsV])).set 1 (.slice A8 m8 c8) (by simp [gsV])).set 2 (.int .i64 0) (by simp [gsV])).set 3 (.int .i64 (oneS L wd j y s1).pen.1) (by simp [gsV])).set 4 (.int .i64 (oneS L wd j y s1).pen.2) (by simp [gsV])))
      have HR7 := Lib.hid (((((hR5.set_other (m := S7) (by omega) 0 (.slice A7 n7 c7)).set_other (m := S7) (by omega) 1 (.slice A8 m8 c8)).set_other (m := S7) (by omega) 2 (.int .i64 0)).set_other (m := S7) (by omega) 3 (.int .i64 (oneS L wd j y s1).pen.1)).set_other (m := S7) (by omega) 4 (.int .i64 (oneS L wd j y s1).pen.2))
      have HI7 := Lib.hid (((((hi7.set ha7 hf8 0 (.slice A7 n7 c7)).set ha7 hf8 1 (.slice A8 m8 c8)).set ha7 hf8 2 (.int .i64 0)).set ha7 hf8 3 (.int .i64 (oneS L wd j y s1).pen.1)).set ha7 hf8 4 (.int .i64 (oneS L wd j y s1).pen.2))
      have HBX := Lib.hid hB5
      have HW7 := Lib.hid hw7
      have HB7 := Lib.hid (show Below S7 w1 (((((w5.setCell ⟨S7, 0, none⟩ (.slice A7 n7 c7)).setCell ⟨S7, 1, none⟩ (.slice A8 m8 c8)).setCell ⟨S7, 2, none⟩ (.int .i64 0)).setCell ⟨S7, 3, none⟩ (.int .i64 (oneS L wd j y s1).pen.1)).setCell ⟨S7, 4, none⟩ (.int .i64 (oneS L wd j y s1).pen.2)) from ((((HBX.out.setCell (Nat.le_refl _) _).setCell (Nat.le_refl _) _).setCell (Nat.le_refl _) _).setCell (Nat.le_refl _) _).setCell (Nat.le_refl _) _)
      obtain ⟨⟨v0, v1, v2, v3, v4⟩, ⟨u0, u1, u2, u3, u4⟩, ul⟩ := gs_of hX5
      clear hi7 hg7 hn7 hf7 hown hwr hX5 hR5 hB5 ha7 hf8 hw7 HIJ g0 g1 g2 g3 g4 HBX
      go_wp2_with ((with_reducible refine stop_dst 32 ?_ ?_); exact rfl)
      refine Stop.intro ?_
      clear v0 v1 v2 v3 v4 u0 u1 u2 u3 u4 ul
      generalize ((((w5.setCell ⟨S7, 0, none⟩ (.slice A7 n7 c7)).setCell ⟨S7, 1, none⟩ (.slice A8 m8 c8)).setCell ⟨S7, 2, none⟩ (.int .i64 0)).setCell ⟨S7, 3, none⟩ (.int .i64 (oneS L wd j y s1).pen.1)).setCell ⟨S7, 4, none⟩ (.int .i64 (oneS L wd j y s1).pen.2) = W8 at HX7 HR7 HI7 HB7 ⊢
      obtain ⟨b2, o2, m2, y2, rfl, _, hy2, hr2, hs2⟩ := (HSV.out.below (by rw [HS7.out]; exact HB7.out)).at_ hlt
      have hcs : W8.cell? ⟨b2, o2 + j * 20 + 1, none⟩ = some (.int .i64 y.size) := by
        rw [HY.out] at hy2
        injection hy2 with hy2
        subst hy2
        rw [hs2.1.2.1]
        exact hr2 1 _ rfl
      clear hy2 hr2 hs2
      have HR2 := Lib.hid (show runS L wd (oneS L wd j y s1) (evN L (nxt j y) nn) = galS L wd by rw [← runS_step hlt HY.out HLE.out]; exact HRU.out)
      have HG2 := Lib.hid (show GsOk (H1 + sumE L (ev1 L j y)) (oneS L wd j y s1) ∧ (H1 + sumE L (ev1 L j y)) + sumE L (evN L (nxt j y) nn) ≤ maxN from ⟨run_ok HD.out.1 hw1 (show wd ≤ maxX from hw2) _ HG.out.1, by have := HG.out.2; rw [HSP.out] at this; omega⟩)
      have HL2 := Lib.hid (show (oneS L wd j y s1).ams.length + 60 * (evN L (nxt j y) nn).length ≤ 10000 ∧ (oneS L wd j y s1).fls.length + (evN L (nxt j y) nn).length ≤ 1000 by
        have h1 := runS_len (w := wd) HW.out (ev1 L j y) s1
        have h2 := HL.out
        rw [HLP.out] at h2
        have e : oneS L wd j y s1 = runS L wd s1 (ev1 L j y) := rfl
        rw [e]
        omega)
      have HC2 := Lib.hid (HC.out.next HY.out)
      go_wp2_with fail
      go_roundw
      case rel => exact ⟨nxt j y, oneS L wd j y s1, H1 + sumE L (ev1 L j y), A7, n7, c7, A8, m8, c8, by rw [HNJ.out], HLE.out, HC2, HR2, HG2, HL2, HX7, HR7, HI7, HW7, HB7⟩
      case measure => simp [intOf] <;> (have := HNJ.out; omega)
    · have hge : (nn : Int) ≤ (j : Int) := by omega
      have hjx : j = nn := by omega
      have HSE := Lib.hid (show s1 = galS L wd by rw [← HRU.out, hjx]; exact (runS_end (Nat.le_refl _)).symm)
      obtain ⟨p1, p2⟩ := HG.out
      have hpm : 0 ≤ s1.pen.1 ∧ 0 ≤ s1.pen.2 ∧ s1.pen.1 + s1.pen.2 ≤ 1099511627776 := ⟨p1.p0, p1.p1, by have h1 : s1.pen.1 + s1.pen.2 ≤ H1 := p1.p2; have := sumE_pos HD.out.1 (evN L j nn); unfold maxN at *; omega⟩
      have hwp : IntKind.i64.wrap (s1.pen.1 + s1.pen.2) = s1.pen.1 + s1.pen.2 := IntWalk.i64_in _ (by omega)
      have HGM := Lib.hid (show GsOk maxN s1 from p1.mono (by have := sumE_pos HD.out.1 (evN L j nn); omega))
      have hmn : n1 ≤ 10000 ∧ m1 ≤ 1000 := by have := HL.out; have := HGI.out.na; have := HGI.out.nf; omega
      clear hjx p1 p2
      obtain ⟨⟨g0, g1, g2, g3, g4⟩, ⟨f0, f1, f2, f3, f4⟩, gl⟩ := gs_of HX.out
      go_wp2_with fail
      have hAn : ∀ r, (Value.slice A1 n1 c1).ownBlock = some r → r ≠ S7 := fun r e => by have := HOW.out.1 r e; omega
      have hFn : ∀ r, (Value.slice A3 m1 c3).ownBlock = some r → r ≠ S7 := fun r e => by have := HOW.out.2 r e; omega
      have HGS := Lib.hid (HGI.out.set hAn hFn 2 (.int .i64 (s1.pen.1 + s1.pen.2)))
      have HX9 := Lib.hid (show Box (wr.setCell ⟨S7, 2, none⟩ (.int .i64 (s1.pen.1 + s1.pen.2))) S7 (galV A1 n1 c1 A3 m1 c3 (highTo s1 0) s1.pen.1 s1.pen.2) by rw [highTo_zero]; exact HX.out.set 2 (.int .i64 (s1.pen.1 + s1.pen.2)) (by simp [gsV]))
      have HR9 := Lib.hid (HR.out.set_other (m := S7) (by omega) 2 (.int .i64 (s1.pen.1 + s1.pen.2)))
      have HB9 := Lib.hid (show Below w.heap.size w (wr.setCell ⟨S7, 2, none⟩ (.int .i64 (s1.pen.1 + s1.pen.2))) from (HBV.out.trans (HBW.out.mono (by omega))).setCell (p := ⟨S7, 2, none⟩) (by simp only; omega) (.int .i64 (s1.pen.1 + s1.pen.2)))
      clear hAn hFn HX HR HGI HBW HONE g0 g1 g2 g3 g4 f0 f1 f2 f3 f4 gl HRU HG HL HC hwp
      generalize wr.setCell ⟨S7, 2, none⟩ (.int .i64 (s1.pen.1 + s1.pen.2)) = W9 at HGS HX9 HR9 HB9 ⊢
      have HFL0 := Lib.hid (show 0 < m1 → ∃ g, A3 = some ⟨g, 0, none⟩ ∧ S7 < g ∧ FlsAt W9 g (anchTo (n1 : Int) s1.fls 0) from fun h0 => by
        obtain ⟨g, e1, e2, e3⟩ := FlsAt.of_owns HGS.out.fls h0
        refine ⟨g, e1, HOW.out.2 g (by rw [e1]; rfl), ?_⟩
        rw [anchTo_zero]
        exact e3)
      have HAM0 := Lib.hid HGS.out.ams
      have HAP := Lib.hid HGS.out.apart
      have HNA := Lib.hid HGS.out.na
      have HNF := Lib.hid HGS.out.nf
      clear HGS
      go_loopw [9, 10] (fun iv xv wr => ∃ k : Nat, iv = .int .i64 (k : Int) ∧ k ≤ m1 ∧ Hid (Box wr S7 (galV A1 n1 c1 A3 m1 c3 (highTo s1 k) s1.pen.1 s1.pen.2)) ∧ Hid (Box wr w.heap.size zero3) ∧ Hid (wr.ownsRow S7 32 8 (.slice A1 n1 c1) n1 (s1.ams.flatMap encAm)) ∧ Hid (0 < m1 → ∃ g, A3 = some ⟨g, 0, none⟩ ∧ S7 < g ∧ FlsAt wr g (anchTo (n1 : Int) s1.fls k)) ∧ Hid (Below w.heap.size w wr)) (fun iv _ _ => m1 - (intOf iv).toNat)
      case atStart => exact ⟨0, rfl, Nat.zero_le _, HX9, HR9, HAM0, HFL0, HB9⟩
      case round =>
        obtain ⟨k, rfl, hkm, HX, HR, HAM, HFL, HB⟩ := hrel
        by_cases hlt : k < m1
        · have hlt2 : (k : Int) < (m1 : Int) := by omega
          obtain ⟨g, rfl, hg, hfa⟩ := HFL.out (by omega)
          have hx : s1.fls[k]? = some (s1.fls[k]'(by have := HNF.out; omega)) := List.getElem?_eq_getElem _
          generalize s1.fls[k]'(by have := HNF.out; omega) = x at hx
          have HXK := Lib.hid hx
          have hfo := HGM.out.fls x (List.mem_of_getElem? hx)
          have HFA := Lib.hid hfa
          have hcx := hfa.cell k x (anchTo_at hx)
          have e0 := hcx 0 _ rfl
          have e1 := hcx 1 _ rfl
          have e2 := hcx 2 _ rfl
          have e3 := hcx 3 _ rfl
          have e4 := hcx 4 _ rfl
          have e5 := hcx 5 _ rfl
          have e6 := hcx 6 _ rfl
          have hyb := hfo.y0
          have hye := hfo.y1
          have hhh := hfo.h0
          have hwy : IntKind.i64.wrap (x.y + x.h) = x.y + x.h := IntWalk.i64_in _ (by unfold maxN at *; omega)
          have HHT := Lib.hid (show highTo s1 (k + 1) = max (highTo s1 k) (x.y + x.h) from highTo_step hx)
          obtain ⟨x0, x1, x2, x3, x4, x5, x6⟩ := x
          simp only [Nat.add_zero] at e0 e1 e2 e3 e4 e5 e6 hyb hye hhh hwy
          clear hcx hfa hfo hx
          obtain ⟨⟨g0, g1, g2, g3, g4⟩, ⟨f0, f1, f2, f3, f4⟩, gl⟩ := gal_of HX.out
          go_wp2_with ((with_reducible refine stop_dst 64 ?_ ?_); exact rfl)
          refine Stop.intro ?_
          generalize hU : World.alloc wr _ = U
          have hal : Below wr.heap.size wr U := by rw [← hU]; exact (Below.refl _ _).alloc (Nat.le_refl _) _
          have HXB := Lib.hid (show Box U wr.heap.size (encFl ⟨x0, x1, x2, x3, x4, x5, x6⟩) by rw [← hU]; exact Box.new wr (encFl ⟨x0, x1, x2, x3, x4, x5, x6⟩) _)
          have HX2 := Lib.hid (HX.out.below hal)
          have HR2 := Lib.hid (HR.out.below hal)
          have HAM2 := Lib.hid (owns_below HAM.out hal)
          have HFA2 := Lib.hid (HFA.out.below hal)
          have HB2 := Lib.hid (below_then HB.out hal)
          have hgw : g < wr.heap.size := HFA.out.lt
          have h7w : S7 < wr.heap.size := gl
          clear hU hal HX HR HAM HFA HB HFL e0 e1 e2 e3 e4 e5 e6 g0 g1 g2 g3 g4 f0 f1 f2 f3 f4 gl
          obtain ⟨⟨g0, g1, g2, g3, g4⟩, ⟨f0, f1, f2, f3, f4⟩, gl⟩ := gal_of HX2.out
          obtain ⟨⟨e0, e1, e2, e3, e4, e5, e6⟩, el⟩ := HXB.out.of7
          simp only at e0 e1 e2 e3 e4 e5 e6
          go_wp2_with ((with_reducible refine stop_dst 75 ?_ ?_); exact rfl)
          refine Stop.intro ?_
          have HX3 := Lib.hid (show Box (U.setCell ⟨S7, 2, none⟩ (.int .i64 (max (highTo s1 k) (x4 + x6)))) S7 (galV A1 n1 c1 (some ⟨g, 0, none⟩) m1 c3 (highTo s1 (k + 1)) s1.pen.1 s1.pen.2) by rw [HHT.out]; exact HX2.out.set 2 (.int .i64 (max (highTo s1 k) (x4 + x6))) (by simp [galV]))
          have HR3 := Lib.hid (HR2.out.set_other (m := S7) (by omega) 2 (.int .i64 (max (highTo s1 k) (x4 + x6))))
          have HAM3 := Lib.hid (owns_far HAM2.out (grownBy_setCellN U S7 2 (.int .i64 (max (highTo s1 k) (x4 + x6)))) (fun r e hr => by injection hr with hr; have := HOW.out.1 r e; omega))
          have HFA3 := Lib.hid (HFA2.out.other (k := S7) (j := 2) (by omega) (.int .i64 (max (highTo s1 k) (x4 + x6))))
          have HB3 := Lib.hid (HB2.out.setCell (p := ⟨S7, 2, none⟩) (by simp only; omega) (.int .i64 (max (highTo s1 k) (x4 + x6))))
          have HXB3 := Lib.hid (HXB.out.set_other (m := S7) (by omega) 2 (.int .i64 (max (highTo s1 k) (x4 + x6))))
          clear HXB HX2 HR2 HAM2 HFA2 HB2 e0 e1 e2 e3 e4 e5 e6 el g0 g1 g2 g3 g4 f0 f1 f2 f3 f4 gl
          generalize U.setCell ⟨S7, 2, none⟩ (.int .i64 (max (highTo s1 k) (x4 + x6))) = W10 at HX3 HR3 HAM3 HFA3 HB3 HXB3 ⊢
          obtain ⟨⟨g0, g1, g2, g3, g4⟩, ⟨f0, f1, f2, f3, f4⟩, gl⟩ := gal_of HX3.out
          obtain ⟨⟨e0, e1, e2, e3, e4, e5, e6⟩, el⟩ := HXB3.out.of7
          simp only at e0 e1 e2 e3 e4 e5 e6
          by_cases hc : (n1 : Int) ≤ x2
          · have HAT := Lib.hid (show anchTo (n1 : Int) s1.fls (k + 1) = (anchTo (n1 : Int) s1.fls k).set k { (⟨x0, x1, x2, x3, x4, x5, x6⟩ : Fl) with anchor := max ((n1 : Int) - 1) 0 } by rw [anchTo_step HXK.out, anch_turn hc])
            have HFA4 := Lib.hid (HFA3.out.anchor (anchTo_at HXK.out) (max ((n1 : Int) - 1) 0))
            have hfr := HFA3.out.free (k * 7 + 2) (by rw [anchTo_len]; have := HNF.out; omega)
            have hce := HFA3.out.cell k _ (anchTo_at HXK.out) 2 _ rfl
            have HX4 := Lib.hid (HX3.out.set_other (m := g) (by omega) (k * 7 + 2) (.int .i64 (max ((n1 : Int) - 1) 0)))
            have HR4 := Lib.hid (HR3.out.set_other (m := g) (by omega) (k * 7 + 2) (.int .i64 (max ((n1 : Int) - 1) 0)))
            have HAM4 := Lib.hid (owns_far HAM3.out (grownBy_setCellN W10 g (k * 7 + 2) (.int .i64 (max ((n1 : Int) - 1) 0))) (fun r e hr => by injection hr with hr; subst hr; exact HAP.out _ e rfl))
            have HB4 := Lib.hid (HB3.out.setCell (p := ⟨g, k * 7 + 2, none⟩) (by simp only; omega) (.int .i64 (max ((n1 : Int) - 1) 0)))
            have hwn : IntKind.i64.wrap ((n1 : Int) - 1) = (n1 : Int) - 1 := IntWalk.i64_in _ (by omega)
            go_wp2_with ((with_reducible refine stop_dst 57 ?_ ?_); exact rfl)
            refine Stop.intro ?_
            clear hfr hce HFA3 HX3 HR3 HAM3 HB3 HXB3 e0 e1 e2 e3 e4 e5 e6 el g0 g1 g2 g3 g4 f0 f1 f2 f3 f4 gl
            generalize W10.setCell ⟨g, k * 7 + 2, none⟩ (.int .i64 (max ((n1 : Int) - 1) 0)) = W11 at HFA4 HX4 HR4 HAM4 HB4 ⊢
            have HFL5 := Lib.hid (show 0 < m1 → ∃ g', (some ⟨g, 0, none⟩ : Option Addr) = some ⟨g', 0, none⟩ ∧ S7 < g' ∧ FlsAt W11 g' (anchTo (n1 : Int) s1.fls (k + 1)) from fun _ => ⟨g, rfl, hg, by rw [HAT.out]; exact HFA4.out⟩)
            go_wp2_with fail
            go_roundw
            case rel => exact ⟨k + 1, by go_num, by omega, HX4, HR4, HAM4, HFL5, HB4⟩
            case measure => simp [intOf] <;> omega
          · have hc2 : x2 < (n1 : Int) := by omega
            have HFL5 := Lib.hid (show 0 < m1 → ∃ g', (some ⟨g, 0, none⟩ : Option Addr) = some ⟨g', 0, none⟩ ∧ S7 < g' ∧ FlsAt W10 g' (anchTo (n1 : Int) s1.fls (k + 1)) from fun _ => ⟨g, rfl, hg, by rw [anchTo_same HXK.out (anch_keep hc)]; exact HFA3.out⟩)
            clear hc
            go_wp2_with fail
            go_roundw
            case rel => exact ⟨k + 1, by go_num, by omega, HX3, HR3, HAM3, HFL5, HB3⟩
            case measure => simp [intOf] <;> omega
        · have hge : (m1 : Int) ≤ (k : Int) := by omega
          have hkm2 : k = m1 := by omega
          have HHI := Lib.hid (show highTo s1 k = highS (galS L wd) by rw [← HSE.out, hkm2, ← HNF.out]; exact highTo_all s1)
          have HRA := Lib.hid (show Rows 8 encAm wr A1 n1 (galS L wd).ams by rw [← HSE.out]; exact ownsRow_rows encAm_len (by decide) HAM.out)
          have HRF := Lib.hid (show Rows 7 encFl wr A3 m1 (floatsS (galS L wd)) by
            rw [← HSE.out]
            unfold floatsS
            rw [HNA.out]
            by_cases h0 : 0 < m1
            · obtain ⟨g, e1, _, e3⟩ := HFL.out h0
              subst e1
              have h1 := e3.rows (anchTo_len _ _ _) (by have := HNF.out; omega)
              rw [anchTo_all (by have := HNF.out; omega), HNF.out] at h1
              exact h1
            · have hm0 : m1 = 0 := by omega
              subst hm0
              have h1 : s1.fls = [] := List.eq_nil_of_length_eq_zero HNF.out
              rw [h1]
              exact Rows.nil _ _)
          have HBA := Lib.hid (show (∀ q, A1 = some q → some w.heap.size ≠ some q.block) ∧ ∀ q, A3 = some q → some w.heap.size ≠ some q.block from ⟨fun q hq e => by subst hq; injection e with e; have := HOW.out.1 q.block rfl; omega, fun q hq e => by subst hq; injection e with e; have := HOW.out.2 q.block rfl; omega⟩)
          clear hkm2
          obtain ⟨⟨g0, g1, g2, g3, g4⟩, ⟨f0, f1, f2, f3, f4⟩, gl⟩ := gal_of HX.out
          obtain ⟨⟨r0, r1, r2⟩, ⟨z0, z1, z2⟩, zl⟩ := zero3_of HR.out
          rw [HHI.out] at g2
          go_wp2_with fail
          have hY := ((HR.out.set 0 (.slice A1 n1 c1) (by simp [zero3])).set 1 (.slice A3 m1 c3) (by simp [zero3])).set 2 (.int .i64 (highS (galS L wd))) (by simp [zero3])
          have s0 := hY.2.2 0 _ rfl
          have s1' := hY.2.2 1 _ rfl
          have s2 := hY.2.2 2 _ rfl
          exact bodyPost_ret (v := .tuple #[.agg #[.slice A1 n1 c1, .slice A3 m1 c3, .int .i64 (highS (galS L wd))], .int .i64 0]) (by simp [results, Try.results17, go_sem, s0, s1', s2]) rfl (by
            rw [HE.out]
            refine ⟨A1, n1, c1, A3, m1, c3, rfl, ?_, ?_, ((HB.out.setCell (by simp) _).setCell (by simp) _).setCell (by simp) _, fun q hq => ?_, fun q hq => ?_⟩
            · exact rows_far (rows_far (rows_far HRA.out (grownBy_setCellN _ _ _ _) HBA.out.1) (grownBy_setCellN _ _ _ _) HBA.out.1) (grownBy_setCellN _ _ _ _) HBA.out.1
            · exact rows_far (rows_far (rows_far HRF.out (grownBy_setCellN _ _ _ _) HBA.out.2) (grownBy_setCellN _ _ _ _) HBA.out.2) (grownBy_setCellN _ _ _ _) HBA.out.2
            · subst hq; have := HOW.out.1 q.block rfl; omega
            · subst hq; have := HOW.out.2 q.block rfl; omega)
end Go.Proofs.Ytipmdhfinlkceaa
