import Derived.Test.YtdjnaejblgheoaaGreatJP40
import Derived.Test.YtdjnaejblgheoaaGreatJP02
import Derived.Test.YtdjnaejblgheoaaGreatJP34
import Derived.Test.YtdjnaejblgheoaaGreatJP03
/- The walk of the law FlowApart, if package flow says what it is asked. (Written by program: tools/drafts/genapart14.py.) -/
namespace Go.Proofs.YtdjnaejblgheoaaGreat
open Go.RowKit
set_option linter.unusedVariables false
set_option linter.unusedSimpArgs false
theorem ordL_docA {L : List Nd} (h : IsDoc L) : ordL L = L := by unfold ordL; rw [if_pos ((docB_iff L).2 h)]
theorem part_int14 (xs : Array Value) (k : Nat) (v : Value) (h : xs[k]? = some v) (w : World) : (part 3 xs k).run Tryz.prog w = .ok v w := run_part_plain w (by kernel_rfl) h
theorem rect_zero (w : World) : (Op.equalIn 10000 51 (.agg #[.int .i64 0, .int .i64 0, .int .i64 0, .int .i64 0]) (.agg #[.int .i64 0, .int .i64 0, .int .i64 0, .int .i64 0])).run Tryz.prog w = .ok true w := by
  rw [show (10000 : Nat) = 9999 + 1 from rfl, run_equalIn_struct w 9999 _ _ _ (by kernel_rfl) (by kernel_rfl)]
  have hi : ∀ (a b : Int) (w : World), (Op.equalIn 9999 3 (.int .i64 a) (.int .i64 b)).run Tryz.prog w = .ok (a == b) w := fun a b w => run_equalIn_int w 9998 3 .i64 .i64 a b Tryz.underlying3
  simp [Program.fieldsOf, Tryz.underlying51, Op.eqFields, part_int14, hi, ite_and]
/-- a rectangle of small numbers. -/
theorem fit_of {x y w h : Int} (h1 : 0 ≤ x) (h2 : 0 ≤ w) (h3 : x + w ≤ 4398046511104) (h4 : 0 ≤ y) (h5 : 0 ≤ h) (h6 : y + h ≤ maxN) : Fit ⟨x, y, w, h⟩ := by
  unfold maxN at h6
  exact ⟨⟨by unfold Near; simp only; omega, by unfold Near; simp only; omega⟩, by unfold Near; simp only; omega, by unfold Near; simp only; omega⟩
theorem meet_none {x y w h x' y' w' h' : Int} (hf : Fit ⟨x, y, w, h⟩) (hf' : Fit ⟨x', y', w', h'⟩) (hd : Disj x y w h x' y' w' h') (W0 : World) :
    Calls Tryz.prog 16 #[.agg #[.int .i64 x, .int .i64 y, .int .i64 w, .int .i64 h], .agg #[.int .i64 x', .int .i64 y', .int .i64 w', .int .i64 h']] W0 fun e W' => e = .returned (.agg #[.int .i64 0, .int .i64 0, .int .i64 0, .int .i64 0]) ∧ Below W0.heap.size W0 W' :=
  rectmeet_to hf hf' (by unfold meetR; exact meet_disj hd) W0
theorem fls_at {s : Gs} {H : Int} (hG : ∀ f ∈ s.fls, FlOk H f) {f : Fl} (hf : f ∈ floatsS s) : 0 ≤ f.x ∧ 0 ≤ f.w ∧ f.x + f.w ≤ 2199023255552 ∧ 0 ≤ f.y ∧ 0 ≤ f.h ∧ f.y + f.h ≤ H := by
  obtain ⟨g, hg, rfl⟩ := List.mem_map.1 hf
  have h1 := anchF_same (s.ams.length : Int) g
  have h2 := hG g hg
  rw [h1.2.2.1, h1.2.2.2.1, h1.2.2.2.2.1, h1.2.2.2.2.2]
  exact ⟨h2.x0, by have := h2.w0; omega, h2.x1, h2.y0, by have := h2.h0; omega, h2.y1⟩
theorem disj_anch {x y w h : Int} {s : Gs} (hd : ∀ f ∈ s.fls, Disj x y w h f.x f.y f.w f.h) {f : Fl} (hf : f ∈ floatsS s) : Disj x y w h f.x f.y f.w f.h := by
  obtain ⟨g, hg, rfl⟩ := List.mem_map.1 hf
  have h1 := anchF_same (s.ams.length : Int) g
  rw [h1.2.2.1, h1.2.2.2.1, h1.2.2.2.2.1, h1.2.2.2.2.2]
  exact hd g hg
/-- two floats of the galley, the first one later. -/
theorem fl_pair {L : List Nd} {wd : Int} {s : Gs} (h : Good L wd s) {i : Nat} {f : Fl} (hi : (floatsS s)[i]? = some f) : ∃ k : Nat, f.node = (k : Int) ∧ k < L.length ∧ (f.w ≤ (roomP L wd k).2 → ∀ (j : Nat) (g : Fl), j < i → (floatsS s)[j]? = some g → Disj f.x f.y f.w f.h g.x g.y g.w g.h) := by
  unfold floatsS at hi
  rw [List.getElem?_map] at hi
  cases hq : s.fls[i]? with
  | none => rw [hq] at hi; cases hi
  | some f0 =>
    rw [hq] at hi
    injection hi with hi
    obtain ⟨k, h1, h2, h3⟩ := h.fls i f0 hq
    have e := anchF_same (s.ams.length : Int) f0
    rw [hi] at e
    refine ⟨k, by rw [e.1, h1], h2, fun hw j g hj hg => ?_⟩
    unfold floatsS at hg
    rw [List.getElem?_map] at hg
    cases hq2 : s.fls[j]? with
    | none => rw [hq2] at hg; cases hg
    | some g0 =>
      rw [hq2] at hg
      injection hg with hg
      have e2 := anchF_same (s.ams.length : Int) g0
      rw [hg] at e2
      rw [e.2.2.2.2.1] at hw
      have h9 := h3 hw g0 (List.mem_of_getElem? (i := j) (by rw [List.getElem?_take, if_pos hj]; exact hq2))
      rw [e.2.2.1, e.2.2.2.1, e.2.2.2.2.1, e.2.2.2.2.2, e2.2.2.1, e2.2.2.2.1, e2.2.2.2.2.1, e2.2.2.2.2.2]
      exact h9
theorem rm_cells {w : World} {b o n : Nat} {zs : List (Int × Int)} (h : Rows 2 encRm w (some ⟨b, o, none⟩) n zs) {i : Nat} (hi : i < n) {x u : Int} (hz : zs[i]? = some (x, u)) : w.cell? ⟨b, o + i * 2, none⟩ = some (.int .i64 x) ∧ w.cell? ⟨b, o + i * 2 + 1, none⟩ = some (.int .i64 u) ∧ b < w.heap.size := by
  obtain ⟨b', o', z, e, hb, hz', hc⟩ := h.at_ hi
  injection e with e
  injection e with e1 e2
  subst e1 e2
  obtain rfl : z = (x, u) := by rw [hz] at hz'; injection hz' with e; exact e.symm
  exact ⟨hc 0 _ rfl, hc 1 _ rfl, hb⟩
theorem fl_cells {w : World} {b o n : Nat} {l : List Fl} (h : Rows 7 encFl w (some ⟨b, o, none⟩) n l) {i : Nat} (hi : i < n) {f : Fl} (hf : l[i]? = some f) : b < w.heap.size ∧ ∀ j v, (encFl f)[j]? = some v → w.cell? ⟨b, o + i * 7 + j, none⟩ = some v := by
  obtain ⟨b', o', z, e, hb, hz', hc⟩ := h.at_ hi
  injection e with e
  injection e with e1 e2
  subst e1 e2
  obtain rfl : z = f := by rw [hf] at hz'; injection hz' with e; exact e.symm
  exact ⟨hb, hc⟩
set_option maxHeartbeats 16000000 in
set_option maxRecDepth 100000 in
theorem flowapart_all (H : FlowSays) {L : List Nd} {wd : Int} {A : Option Addr} {n c : Nat} {w : World} (h : Sees w A n L) :
    Calls Tryz.prog 5 #[.slice A n c, .int .i64 wd] w fun e w' => e = .returned (.bool true) ∧ Below w.heap.size w w' := by
  obtain ⟨v, hv⟩ : ∃ v, longB L = v := ⟨_, rfl⟩
  have HH := Lib.hid H
  have HS := Lib.hid h
  have HLO := Lib.hid (long14_to hv h (c := c))
  cases v with
  | true =>
    clear H h hv
    go_enter Tryz.func5, Tryz.ntmps5
    go_wp2_with fail
    refine HLO.out.mono ?_
    rintro e w1 ⟨rfl, rfl⟩
    go_wp2_with fail
    refine (awake14_any HH.out _).mono ?_
    rintro e w2 ⟨rfl, hb⟩
    have HB := Lib.hid hb
    clear hb
    go_wp2_with fail
    go_ret
    exact ⟨rfl, HB.out⟩
  | false =>
    obtain ⟨h60, hw60⟩ := longB_no hv
    have hn : n ≤ 60 := by rw [← h.len]; exact h60
    have HL60 := Lib.hid h60
    have HW := Lib.hid hw60
    have HLN := Lib.hid h.len
    clear H hv h60 hw60 h
    go_enter Tryz.func5, Tryz.ntmps5
    go_wp2_with fail
    refine HLO.out.mono ?_
    rintro e w1 ⟨rfl, rfl⟩
    go_wp2_with fail
    refine (HH.out.of hn HW.out HS.out).mono ?_
    rintro e w3 ⟨B1, n1, k1, B2, n2, k2, rfl, hr1, hr2, hb, _, _⟩
    have HB3 := Lib.hid hb
    rcases gal_cases L wd with ⟨f, hg, hf0, hfc⟩ | ⟨hg, hw1, hw2, hd, hsm, _⟩
    · rw [hg]
      simp only
      have hfn : (f != 0) = true := by simpa using hf0
      clear hr1 hr2 hb hg hf0 hfc
      go_wp2_with fail
      refine (awake14_any HH.out _).mono ?_
      rintro e w6 ⟨rfl, hb⟩
      have HB6 := Lib.hid (On.step (On.alloc (show On w w3 from HB3.out) _) hb)
      clear hb
      go_wp2_with fail
      go_ret
      exact ⟨rfl, HB6.out⟩
    rw [hg] at hr1 hr2 ⊢
    simp only at hr1 hr2 ⊢
    have hlen := galS_len (wd := wd) hd HL60.out HW.out
    have hn1 : n1 ≤ 7200 := by have := hr1.1; omega
    have hn2 : n2 ≤ 120 := by have h1 := hr2.1; unfold floatsS at h1; rw [List.length_map] at h1; omega
    have HR1 := Lib.hid hr1
    have HR2 := Lib.hid hr2
    have HD := Lib.hid hd
    have hgo := good_run hd.1 hw1 hw2 (evN L 0 L.length) GsOk.start (Good.start L wd)
    have hgk := (run_ok hd.1 hw1 hw2 (evN L 0 L.length) GsOk.start).mono (show 0 + sumE L (evN L 0 L.length) ≤ maxN by omega)
    have HGO := Lib.hid (show Good L wd (galS L wd) from hgo)
    have HGK := Lib.hid (show GsOk maxN (galS L wd) from hgk)
    obtain ⟨hi, hhi⟩ : ∃ hi, highS (galS L wd) = hi := ⟨_, rfl⟩
    rw [hhi]
    clear hr1 hr2 hb hg hd hsm hlen hhi hgo hgk
    go_wp2_with fail
    generalize hU : World.alloc w3 _ = U
    have HX := Lib.hid (show Box U w3.heap.size [.slice B1 n1 k1, .slice B2 n2 k2, .int .i64 hi] by rw [← hU]; exact Box.new w3 [.slice B1 n1 k1, .slice B2 n2 k2, .int .i64 hi] _)
    have hal : Below w3.heap.size w3 U := by rw [← hU]; exact (Below.refl _ _).alloc (Nat.le_refl _) _
    have HBU := Lib.hid (show On w U from below_then HB3.out hal)
    have HR1u := Lib.hid (HR1.out.below hal)
    have HR2u := Lib.hid (HR2.out.below hal)
    clear hU hal HB3 HR1 HR2
    generalize w3.heap.size = S5 at HX ⊢
    have HRM := Lib.hid (tRooms_to (c := c) (show roomsI (ordL L) wd = roomsTo L wd n by rw [ordL_docA HD.out]; unfold roomsI; rw [if_neg (by omega), HLN.out]) (⟨HS.out.on HBU.out, by omega⟩ : PreV L U A n))
    refine HRM.out.mono ?_
    rintro e V ⟨Ar, nr, cr, rfl, hnr, hrm, hb⟩
    obtain rfl : nr = n := by rw [hnr, roomsTo_len]
    have HRR := Lib.hid hrm
    have HXV := Lib.hid (HX.out.below hb)
    have HBV := Lib.hid (On.step HBU.out hb)
    have HR1v := Lib.hid (HR1u.out.below hb)
    have HR2v := Lib.hid (HR2u.out.below hb)
    have hnn : ((nr : Int) != (nr : Int)) = false := by simp
    clear hb hrm hnr HRM HX HBU HR1u HR2u
    go_wp2_with fail
    clear hnn
    go_loopw [8, 9, 10, 11, 12] (fun s8 s9 s10 s11 s12 wr => ∃ i : Nat, s8 = .int .i64 (i : Int) ∧ i ≤ n1 ∧ Hid (On V wr)) (fun s8 _ _ _ _ _ => n1 - (intOf s8).toNat)
    case atStart => exact ⟨0, rfl, Nat.zero_le _, Lib.hid (On.refl V)⟩
    case round =>
      obtain ⟨i, rfl, hin, HO⟩ := hrel
      obtain ⟨⟨x0, x1, x2⟩, xl⟩ := gal3_of (HXV.out.below HO.out)
      by_cases hlt : i < n1
      · have hlt2 : (i : Int) < (n1 : Int) := by omega
        have hi0 : (0 : Int) ≤ (i : Int) := by omega
        obtain ⟨b1, o1, y, hB1, hb1', hy, hyc⟩ := (HR1v.out.on HO.out).at_ hlt
        subst hB1
        have hag := HGO.out.ams y (List.mem_of_getElem? hy)
        have hbd := HGO.out.bd y (List.mem_of_getElem? hy)
        have hpl := HGK.out.p2
        obtain ⟨⟨k, hk1, hk2, hk3⟩, hay⟩ := hag
        have hkn : k < nr := by rw [← HLN.out]; exact hk2
        obtain ⟨b3, o3, ⟨rx, ru⟩, hAr, hb3', hrz, hrc⟩ := (HRR.out.on HO.out).at_ hkn
        subst hAr
        have hrx : roomP L wd k = (rx, ru) := by rw [roomsTo_get hkn] at hrz; injection hrz
        have hrb := room_bd HD.out.1 hw1 hw2 k
        rw [hrx] at hrb hk3
        simp only at hrb hk3
        have e0 := hyc 0 _ rfl
        have e1 := hyc 1 _ rfl
        have e2 := hyc 2 _ rfl
        have e3 := hyc 3 _ rfl
        have e4 := hyc 4 _ rfl
        have e5 := hyc 5 _ rfl
        have e6 := hyc 6 _ rfl
        have e7 := hyc 7 _ rfl
        have r0 := hrc 0 _ rfl
        have r1 := hrc 1 _ rfl
        simp only [Nat.add_zero] at e0 r0
        obtain ⟨f0, f1, f2, f3, f4, f5, f6, f7⟩ := y
        simp only at hk1 hk3 hay hbd e0 e1 e2 e3 e4 e5 e6 e7
        subst hk1
        have hk0 : (0 : Int) ≤ (k : Int) := by omega
        have hkn2 : (k : Int) < (nr : Int) := by omega
        have c2 : decide ((k : Int) < 0) = false := decide_eq_false (by omega)
        have c5 : decide (nr ≤ k) = false := decide_eq_false (by omega)
        have c7 : ¬ nr ≤ k := by omega
        have hwi : IntKind.i64.wrap ((i : Int) + 1) = (i : Int) + 1 := IntWalk.i64_in _ (by omega)
        have hrr := HRR.out.2.1
        clear hyc hrc hrz hrx hk2
        by_cases hw : ru < f6
        · clear hy hk3 hay hbd hpl hrb
          go_wp2_with fail
          go_roundw
          case rel => exact ⟨i + 1, by go_num, by omega, Lib.hid (On.alloc (On.alloc HO.out _) _)⟩
          case measure => simp [intOf] <;> omega
        · have hwle : f6 ≤ ru := by omega
          obtain ⟨g1, g2, g3⟩ := hk3 hwle
          have HDJ := Lib.hid g3
          have HFA := Lib.hid (show Fit ⟨f4, f5, f6, f7⟩ from fit_of (by omega) hbd.1 (by unfold maxX at *; omega) hbd.2.1 (by omega) (by omega))
          have hwa : IntKind.i64.wrap (f4 + f6) = f4 + f6 := IntWalk.i64_in _ (by unfold maxX at *; omega)
          have hwb : IntKind.i64.wrap (rx + ru) = rx + ru := IntWalk.i64_in _ (by unfold maxX at *; omega)
          have d1 : decide (f4 < rx) = false := decide_eq_false (by omega)
          have d2 : decide (rx + ru < f4 + f6) = false := decide_eq_false (by omega)
          have d3 : rx ≤ f4 := g1
          have d4 : f4 + f6 ≤ rx + ru := g2
          clear hy hk3 hay hbd hpl hrb g3
          go_wp2_with fail
          generalize hZ : World.alloc (World.alloc wr _) _ = Z
          have HAB := Lib.hid (show Box Z wr.heap.size (encAm ⟨f0, (k : Int), f2, f3, f4, f5, f6, f7⟩) by rw [← hZ]; exact (Box.new wr (encAm ⟨f0, (k : Int), f2, f3, f4, f5, f6, f7⟩) 44).alloc _)
          have HOZ := Lib.hid (show On V Z by rw [← hZ]; exact On.alloc (On.alloc HO.out _) _)
          clear hZ e0 e1 e2 e3 e4 e5 e6 e7 r0 r1 x0 x1 x2 xl hb1' hb3' d1 d2 d3 d4 g1 g2 hwa hwb c2 c5 c7
          generalize wr.heap.size = NA at HAB ⊢
          go_loopw [11, 12] (fun s11 s12 wr => ∃ q : Nat, s11 = .int .i64 (q : Int) ∧ q ≤ n2 ∧ Hid (On Z wr)) (fun s11 _ _ => n2 - (intOf s11).toNat)
          case atStart => exact ⟨0, rfl, Nat.zero_le _, Lib.hid (On.refl Z)⟩
          case round =>
            obtain ⟨q, rfl, hqn, HOq⟩ := hrel
            have hov := below_then HOZ.out HOq.out
            obtain ⟨⟨x0, x1, x2⟩, xl⟩ := gal3_of (HXV.out.below hov)
            by_cases hq : q < n2
            · have hq2 : (q : Int) < (n2 : Int) := by omega
              have hq0 : (0 : Int) ≤ (q : Int) := by omega
              obtain ⟨b4, o4, g, hB2, hb4, hgq, hgc⟩ := (HR2v.out.on hov).at_ hq
              subst hB2
              have hgm := List.mem_of_getElem? hgq
              have hfa := fls_at HGK.out.fls hgm
              have HDG := Lib.hid (disj_anch HDJ.out hgm)
              obtain ⟨u0, u1, u2, u3, u4, u5, u6⟩ := g
              simp only at hfa HDG
              have HFB := Lib.hid (show Fit ⟨u3, u4, u5, u6⟩ from fit_of hfa.1 hfa.2.1 (by omega) hfa.2.2.2.1 hfa.2.2.2.2.1 hfa.2.2.2.2.2)
              have t0 := hgc 0 _ rfl
              have t1 := hgc 1 _ rfl
              have t2 := hgc 2 _ rfl
              have t3 := hgc 3 _ rfl
              have t4 := hgc 4 _ rfl
              have t5 := hgc 5 _ rfl
              have t6 := hgc 6 _ rfl
              simp only [Nat.add_zero] at t0
              have hab := HAB.out.below HOq.out
              have a4 : wr.cell? ⟨NA, 4, none⟩ = some (.int .i64 f4) := hab.2.2 4 _ rfl
              have a5 : wr.cell? ⟨NA, 5, none⟩ = some (.int .i64 f5) := hab.2.2 5 _ rfl
              have a6 : wr.cell? ⟨NA, 6, none⟩ = some (.int .i64 f6) := hab.2.2 6 _ rfl
              have a7 : wr.cell? ⟨NA, 7, none⟩ = some (.int .i64 f7) := hab.2.2 7 _ rfl
              have hal := hab.1
              have HOQ := Lib.hid (On.alloc HOq.out (.cells #[.int .i64 u0, .int .i64 u1, .int .i64 u2, .int .i64 u3, .int .i64 u4, .int .i64 u5, .int .i64 u6] 42))
              have hwq : IntKind.i64.wrap ((q : Int) + 1) = (q : Int) + 1 := IntWalk.i64_in _ (by omega)
              clear hgq hgc hgm hfa hab hov
              go_wp2_with fail
              refine (meet_none HFA.out HFB.out HDG.out _).mono ?_
              rintro e w8 ⟨rfl, hb8⟩
              have HO8 := Lib.hid (On.step HOQ.out hb8)
              have hrz := rect_zero
              clear hb8 a4 a5 a6 a7 t0 t1 t2 t3 t4 t5 t6 x0 x1 x2 xl
              go_wp2_with fail
              go_roundw
              case rel => exact ⟨q + 1, by go_num, by omega, HO8⟩
              case measure => simp [intOf] <;> omega
            · have hqe : q = n2 := by omega
              have hqg : (n2 : Int) ≤ (q : Int) := by omega
              have HOv := Lib.hid hov
              go_wp2_with fail
              go_roundw
              case rel => exact ⟨i + 1, by go_num, by omega, HOv⟩
              case measure => simp [intOf] <;> omega
      · have hie : i = n1 := by omega
        have hge : (n1 : Int) ≤ (i : Int) := by omega
        clear hie
        go_wp2_with fail
        clear x0 x1 x2 xl
        go_loopw [13, 14, 15, 16, 17] (fun s13 s14 s15 s16 s17 wr => ∃ p : Nat, s13 = .int .i64 (p : Int) ∧ p ≤ n2 ∧ Hid (On V wr)) (fun s13 _ _ _ _ _ => n2 - (intOf s13).toNat)
        case atStart => exact ⟨0, rfl, Nat.zero_le _, HO⟩
        case round =>
          obtain ⟨p, rfl, hpn, HP⟩ := hrel
          obtain ⟨⟨x0, x1, x2⟩, xl⟩ := gal3_of (HXV.out.below HP.out)
          by_cases hplt : p < n2
          · have hplt2 : (p : Int) < (n2 : Int) := by omega
            have hp0 : (0 : Int) ≤ (p : Int) := by omega
            obtain ⟨b4, o4, f, hB2, hb4, hf, hfc⟩ := (HR2v.out.on HP.out).at_ hplt
            subst hB2
            have hfa := fls_at HGK.out.fls (List.mem_of_getElem? hf)
            obtain ⟨k, hk1, hk2, hk3⟩ := fl_pair HGO.out hf
            have hkn : k < nr := by rw [← HLN.out]; exact hk2
            obtain ⟨b3, o3, ⟨rx, ru⟩, hAr, hb3', hrz, _⟩ := (HRR.out.on HP.out).at_ hkn
            subst hAr
            have hrx : roomP L wd k = (rx, ru) := by rw [roomsTo_get hkn] at hrz; injection hrz
            rw [hrx] at hk3
            have HPR := Lib.hid hk3
            have HRZ := Lib.hid hrz
            obtain ⟨v0, v1, v2, v3, v4, v5, v6⟩ := f
            simp only at hk1 hfa HPR
            subst hk1
            have HFA := Lib.hid (show Fit ⟨v3, v4, v5, v6⟩ from fit_of hfa.1 hfa.2.1 (by omega) hfa.2.2.2.1 hfa.2.2.2.2.1 hfa.2.2.2.2.2)
            have t0 := hfc 0 _ rfl
            have t1 := hfc 1 _ rfl
            have t2 := hfc 2 _ rfl
            have t3 := hfc 3 _ rfl
            have t4 := hfc 4 _ rfl
            have t5 := hfc 5 _ rfl
            have t6 := hfc 6 _ rfl
            simp only [Nat.add_zero] at t0
            have hk0 : (0 : Int) ≤ (k : Int) := by omega
            have hkn2 : (k : Int) < (nr : Int) := by omega
            have c2 : decide ((k : Int) < 0) = false := decide_eq_false (by omega)
            have c5 : decide (nr ≤ k) = false := decide_eq_false (by omega)
            have c7 : ¬ nr ≤ k := by omega
            have hwp : IntKind.i64.wrap ((p : Int) + 1) = (p : Int) + 1 := IntWalk.i64_in _ (by omega)
            have hrr := HRR.out.2.1
            clear hf hfc hk2 hk3 hrx hrz hfa hb3'
            go_wp2_with fail
            generalize hZ : World.alloc wr _ = Z
            have HAB := Lib.hid (show Box Z wr.heap.size (encFl ⟨(k : Int), v1, v2, v3, v4, v5, v6⟩) by rw [← hZ]; exact Box.new wr (encFl ⟨(k : Int), v1, v2, v3, v4, v5, v6⟩) 42)
            have HOZ := Lib.hid (show On V Z by rw [← hZ]; exact On.alloc HP.out _)
            clear hZ t0 t1 t2 t3 t4 t5 t6 x0 x1 x2 xl c2 c5 c7 hb4
            generalize wr.heap.size = NA at HAB ⊢
            go_loopw [15, 16, 17] (fun s15 s16 s17 wr => ∃ q : Nat, s15 = .int .i64 (q : Int) ∧ q ≤ p ∧ Hid (On Z wr)) (fun s15 _ _ _ => p - (intOf s15).toNat)
            case atStart => exact ⟨0, rfl, Nat.zero_le _, Lib.hid (On.refl Z)⟩
            case round =>
              obtain ⟨q, rfl, hqn, HOq⟩ := hrel
              have hov := below_then HOZ.out HOq.out
              obtain ⟨⟨x0, x1, x2⟩, xl⟩ := gal3_of (HXV.out.below hov)
              by_cases hq : q < p
              · have hq2 : (q : Int) < (p : Int) := by omega
                have hq0 : (0 : Int) ≤ (q : Int) := by omega
                have hqn2 : q < n2 := by omega
                have hqn3 : (q : Int) < (n2 : Int) := by omega
                obtain ⟨g, hg⟩ : ∃ g, (floatsS (galS L wd))[q]? = some g := ⟨_, List.getElem?_eq_getElem (by rw [HR2v.out.1]; exact hqn2)⟩
                obtain ⟨hb4, hgc⟩ := fl_cells (HR2v.out.on hov) hqn2 hg
                have hga := fls_at HGK.out.fls (List.mem_of_getElem? hg)
                obtain ⟨kb, hkb1, hkb2, _⟩ := fl_pair HGO.out hg
                have hkbn : kb < nr := by rw [← HLN.out]; exact hkb2
                have HDJ := Lib.hid (fun hle => HPR.out hle q g hq hg)
                have hrb := roomsTo_get (L := L) (W := wd) hkbn
                obtain ⟨⟨sx, su⟩, hsx⟩ : ∃ z, roomP L wd kb = z := ⟨_, rfl⟩
                rw [hsx] at hrb
                obtain ⟨r0, r1, hb3⟩ := rm_cells (HRR.out.on hov) hkn HRZ.out
                obtain ⟨s0, s1, _⟩ := rm_cells (HRR.out.on hov) hkbn hrb
                obtain ⟨u0, u1, u2, u3, u4, u5, u6⟩ := g
                simp only at hkb1 hga HDJ
                subst hkb1
                have HFB := Lib.hid (show Fit ⟨u3, u4, u5, u6⟩ from fit_of hga.1 hga.2.1 (by omega) hga.2.2.2.1 hga.2.2.2.2.1 hga.2.2.2.2.2)
                have t0 := hgc 0 _ rfl
                have t1 := hgc 1 _ rfl
                have t2 := hgc 2 _ rfl
                have t3 := hgc 3 _ rfl
                have t4 := hgc 4 _ rfl
                have t5 := hgc 5 _ rfl
                have t6 := hgc 6 _ rfl
                simp only [Nat.add_zero] at t0
                have hab := HAB.out.below HOq.out
                have a0 : wr.cell? ⟨NA, 0, none⟩ = some (.int .i64 (k : Int)) := hab.2.2 0 _ rfl
                have a3 : wr.cell? ⟨NA, 3, none⟩ = some (.int .i64 v3) := hab.2.2 3 _ rfl
                have a4 : wr.cell? ⟨NA, 4, none⟩ = some (.int .i64 v4) := hab.2.2 4 _ rfl
                have a5 : wr.cell? ⟨NA, 5, none⟩ = some (.int .i64 v5) := hab.2.2 5 _ rfl
                have a6 : wr.cell? ⟨NA, 6, none⟩ = some (.int .i64 v6) := hab.2.2 6 _ rfl
                have hal := hab.1
                have HOQ := Lib.hid (On.alloc HOq.out (.cells #[.int .i64 (kb : Int), .int .i64 u1, .int .i64 u2, .int .i64 u3, .int .i64 u4, .int .i64 u5, .int .i64 u6] 42))
                have hwq : IntKind.i64.wrap ((q : Int) + 1) = (q : Int) + 1 := IntWalk.i64_in _ (by omega)
                have hkb0 : (0 : Int) ≤ (kb : Int) := by omega
                have hkbn2 : (kb : Int) < (nr : Int) := by omega
                obtain ⟨wa, hwa⟩ : ∃ wa, (rx == 0 && ru == wd) = wa := ⟨_, rfl⟩
                obtain ⟨wb, hwb⟩ : ∃ wb, (sx == 0 && su == wd) = wb := ⟨_, rfl⟩
                have HWA := Lib.hid hwa
                have hea : ∀ w : World, (Op.equalIn 10000 49 (.agg #[.int .i64 rx, .int .i64 ru]) (.agg #[.int .i64 0, .int .i64 wd])).run Tryz.prog w = .ok wa w := fun w => by rw [room_equal, hwa]
                have heb : ∀ w : World, (Op.equalIn 10000 49 (.agg #[.int .i64 sx, .int .i64 su]) (.agg #[.int .i64 0, .int .i64 wd])).run Tryz.prog w = .ok wb w := fun w => by rw [room_equal, hwb]
                clear hg hgc hga hkb2 hrb hsx hab hov hwa hwb
                cases wa with
                | false =>
                  go_wp2_with fail
                  go_roundw
                  case rel => exact ⟨q + 1, by go_num, by omega, HOQ⟩
                  case measure => simp [intOf] <;> omega
                | true =>
                  cases wb with
                  | false =>
                    go_wp2_with fail
                    go_roundw
                    case rel => exact ⟨q + 1, by go_num, by omega, HOQ⟩
                    case measure => simp [intOf] <;> omega
                  | true =>
                    by_cases haw : v5 ≤ wd
                    · by_cases hbw : u5 ≤ wd
                      · have hru : ru = wd := by have h9 := HWA.out; simp only [Bool.and_eq_true, beq_iff_eq] at h9; exact h9.2
                        have HDD := Lib.hid (HDJ.out (by omega))
                        clear hru
                        go_wp2_with fail
                        refine (meet_none HFA.out HFB.out HDD.out _).mono ?_
                        rintro e w8 ⟨rfl, hb8⟩
                        have HO8 := Lib.hid (On.step HOQ.out hb8)
                        have hrz := rect_zero
                        clear hb8 a0 a3 a4 a5 a6 t0 t1 t2 t3 t4 t5 t6 x0 x1 x2 xl r0 r1 s0 s1
                        go_wp2_with fail
                        go_roundw
                        case rel => exact ⟨q + 1, by go_num, by omega, HO8⟩
                        case measure => simp [intOf] <;> omega
                      · have hbw2 : wd < u5 := by omega
                        go_wp2_with fail
                        go_roundw
                        case rel => exact ⟨q + 1, by go_num, by omega, HOQ⟩
                        case measure => simp [intOf] <;> omega
                    · have haw2 : wd < v5 := by omega
                      go_wp2_with fail
                      go_roundw
                      case rel => exact ⟨q + 1, by go_num, by omega, HOQ⟩
                      case measure => simp [intOf] <;> omega
              · have hqe : q = p := by omega
                have hqg : (p : Int) ≤ (q : Int) := by omega
                have HOv := Lib.hid hov
                clear hqe
                go_wp2_with fail
                go_roundw
                case rel => exact ⟨p + 1, by go_num, by omega, HOv⟩
                case measure => simp [intOf] <;> omega
          · have hpe : p = n2 := by omega
            have hpg : (n2 : Int) ≤ (p : Int) := by omega
            clear hpe
            go_wp2_with fail
            refine (awake14_any HH.out _).mono ?_
            rintro e w9 ⟨rfl, hb⟩
            have HB9 := Lib.hid (On.step (on_then HBV.out HP.out) hb)
            clear hb
            go_wp2_with fail
            go_ret
            exact ⟨rfl, HB9.out⟩
end Go.Proofs.YtdjnaejblgheoaaGreat
