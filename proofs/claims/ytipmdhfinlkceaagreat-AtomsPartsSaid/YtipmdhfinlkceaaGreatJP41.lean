import Derived.Test.YtipmdhfinlkceaaGreatJP38
import Derived.Test.YtipmdhfinlkceaaGreatJP24
import Derived.Test.YtipmdhfinlkceaaGreatJP40
import Derived.Test.YtipmdhfinlkceaaGreatJP19
import Derived.Deep.RegionHeld3
import Derived.Lib.MinMax
/- AtomsPartsW. -/
set_option linter.unusedVariables false
set_option linter.unusedSimpArgs false
namespace Go.Proofs.YtipmdhfinlkceaaGreat
open Go.RowKit
theorem on_on {a b c : World} (h : On a b) (k : On b c) : On a c := below_then h k
theorem above_len60 {L : List Nd} (a : Int) : (aboveI L a).length ≤ L.length := above_len a
theorem gal_sizes {L : List Nd} (hc : chkV L = 0) {wd : Int} : (galS L wd).ams.length ≤ 9000000 ∧ (galS L wd).fls.length ≤ 10000 := by
  obtain ⟨hd, _⟩ := chk_doc hc
  obtain ⟨h1, h2⟩ := chk_lim hc
  have h3 := evN_len hd.2.nested L.length 0 L.length (by omega) (Clo.all hd.2.nested)
  have h4 := runS_len2 (w := wd) h2 (evN L 0 L.length) .start
  have e : (Gs.start).ams.length = 0 ∧ (Gs.start).fls.length = 0 := ⟨rfl, rfl⟩
  unfold galS
  omega
theorem kids_at {L : List Nd} (hn : Nested L) {i k m : Nat} {y : Nd} (hy : L[i]? = some y) (hd : (kidsI L (i : Int)).drop m = kidsFrom L (i : Int) k) (hk : KidAt L (i : Int) ((i : Int) + y.size) k) (hkq : (k : Int) ≤ (i : Int) + y.size) :
    (m < (kidsI L (i : Int)).length → ∃ (x : Nd) (e : Nat), L[k]? = some x ∧ 1 ≤ x.size ∧ (k : Int) + x.size = (e : Int) ∧ (e : Int) ≤ (i : Int) + y.size ∧ (kidsI L (i : Int))[m]? = some (k : Int) ∧ (kidsI L (i : Int)).drop (m + 1) = kidsFrom L (i : Int) e ∧ KidAt L (i : Int) ((i : Int) + y.size) e) ∧
    ((kidsI L (i : Int)).length ≤ m → (k : Int) = (i : Int) + y.size) := by
  have step : parentI L (k : Int) = (i : Int) → k < L.length → (k : Int) < (i : Int) + y.size → ∃ (x : Nd) (e : Nat), L[k]? = some x ∧ 1 ≤ x.size ∧ (k : Int) + x.size = (e : Int) ∧ (e : Int) ≤ (i : Int) + y.size ∧ kidsFrom L (i : Int) k = (k : Int) :: kidsFrom L (i : Int) e ∧ KidAt L (i : Int) ((i : Int) + y.size) e := fun hp hl hq => by
    have hx : L[k]? = some L[k] := List.getElem?_eq_getElem hl
    obtain ⟨e, h1, h2, h3, h4, h5⟩ := kidAt_step hn (innerI_nat hy) hx hp hq
    exact ⟨L[k], e, hx, (hn k _ hx).1, h1, h3, h4, h5⟩
  constructor
  · intro hm
    rcases hk with ⟨h1, h2⟩ | ⟨h1, h2, h3⟩
    · rw [h2] at hd
      have := congrArg List.length hd
      rw [List.length_drop, List.length_nil] at this
      omega
    · obtain ⟨x, e, a1, a2, a3, a4, a5, a6⟩ := step h2 h3 h1
      rw [a5] at hd
      refine ⟨x, e, a1, a2, a3, a4, ?_, ?_, a6⟩
      · have := congrArg (fun l => l[0]?) hd
        simpa using this
      · have := congrArg (fun l => l.drop 1) hd
        simpa using this
  · intro hm
    rcases hk with ⟨h1, h2⟩ | ⟨h1, h2, h3⟩
    · omega
    · obtain ⟨x, e, a1, a2, a3, a4, a5, a6⟩ := step h2 h3 h1
      rw [a5, List.drop_of_length_le hm] at hd
      cases hd
set_option maxHeartbeats 32000000 in
set_option maxRecDepth 100000 in
theorem atomsparts_all {L : List Nd} {wd nd ct : Int} {A : Option Addr} {n c : Nat} {w : World} (h : Sees w A n L) :
    Calls Tryz.prog 3 #[.slice A n c, .int .i64 wd, .int .i64 nd, .int .i64 ct] w fun e w' => e = .returned (.bool true) ∧ Below w.heap.size w w' := by
  have HS := Lib.hid h
  have HLN := Lib.hid h.len
  have hnb := h.bound
  obtain ⟨q0, hq0, hy0, hy1, hy2⟩ := info_parts int_infoV
  by_cases hn : 60 < n
  · have hn2 : (60 : Int) < (n : Int) := by omega
    clear h
    go_enter Tryz.func3, Tryz.ntmps3
    go_wp2_with fail
    refine (awake15_any _).mono ?_
    rintro e w2 ⟨rfl, hb⟩
    go_wp2_with fail
    go_ret
    exact ⟨rfl, hb⟩
  have hn2 : (n : Int) ≤ 60 := by omega
  clear h
  go_enter Tryz.func3, Tryz.ntmps3
  go_wp2_with fail
  refine (of14_gen (by omega) HS.out).mono ?_
  rintro e w3 ⟨B1, n1, k1, B2, n2, k2, rfl, hr1, hr2, hb, _, _⟩
  have HB3 := Lib.hid hb
  rcases gal_cases L wd with ⟨f, hg, hf0, hfc⟩ | ⟨hg, hw1, hw2, hd, hsm, hck⟩
  · rw [hg]
    simp only
    have hfn : (f != 0) = true := by simpa using hf0
    clear hr1 hr2 hb hg hf0 hfc
    go_wp2_with fail
    refine (awake15_any _).mono ?_
    rintro e w6 ⟨rfl, hb⟩
    have HB6 := Lib.hid (On.step (On.alloc (show On w w3 from HB3.out) _) hb)
    clear hb
    go_wp2_with fail
    go_ret
    exact ⟨rfl, HB6.out⟩
  rw [hg] at hr1 hr2 ⊢
  simp only at hr1 hr2 ⊢
  obtain ⟨hs1, hs2⟩ := gal_sizes (wd := wd) hck
  have hok := gal_ams hd hw1 hw2
  have hrs := rising_pw hok.rise
  have hfa := anch_gal (s := galS L wd) (by unfold galS; exact run_anch _ _ (fun f hf => by cases hf))
  obtain ⟨hi, hhi⟩ : ∃ hi, highS (galS L wd) = hi := ⟨_, rfl⟩
  rw [hhi]
  have hfl : (floatsS (galS L wd)).length = (galS L wd).fls.length := by unfold floatsS; rw [List.length_map]
  generalize galS L wd = G at hr1 hr2 hs1 hs2 hok hrs hfa hfl
  generalize hLF : floatsS G = lf at hr2 hfa hfl
  have hn1 : n1 ≤ 9000000 := by have := hr1.1; omega
  have hn2f : n2 ≤ 10000 := by have := hr2.1; omega
  obtain ⟨la, hla⟩ : ∃ la, G.ams = la := ⟨_, rfl⟩
  rw [hla] at hr1 hs1 hok hrs hfa
  have HFA := Lib.hid hfa
  have HRS := Lib.hid hrs
  have HOK := Lib.hid hok
  have HNE := Lib.hid hd.2.nested
  have HR1 := Lib.hid hr1
  have HR2 := Lib.hid hr2
  have HAL := Lib.hid hr1.len
  have hdO := Lib.hid (show ordL L = L by unfold ordL; rw [if_pos ((docB_iff L).2 hd)])
  clear hr1 hr2 hb hg hd hsm hck hs1 hs2 hok hrs hfa hhi hfl hLF hla
  go_wp2_with fail
  generalize hU : World.alloc w3 _ = V
  have HX0 := Lib.hid (show ∀ W, On V W → W.cell? ⟨w3.heap.size, 0, none⟩ = some (.slice B1 n1 k1) from On.cell (by rw [← hU]; exact (Box.new w3 [.slice B1 n1 k1, .slice B2 n2 k2, .int .i64 hi] _).2.2 0 _ rfl))
  have HX1 := Lib.hid (show ∀ W, On V W → W.cell? ⟨w3.heap.size, 1, none⟩ = some (.slice B2 n2 k2) from On.cell (by rw [← hU]; exact (Box.new w3 [.slice B1 n1 k1, .slice B2 n2 k2, .int .i64 hi] _).2.2 1 _ rfl))
  have hal : Below w3.heap.size w3 V := by rw [← hU]; exact (Below.refl _ _).alloc (Nat.le_refl _) _
  have HBV := Lib.hid (show On w V from below_then HB3.out hal)
  have HR1v := Lib.hid (HR1.out.below hal)
  have HR2v := Lib.hid (HR2.out.below hal)
  have HSV := Lib.hid (HS.out.on HBV.out)
  clear hU hal HB3 HR1 HR2
  generalize w3.heap.size = S at HX0 HX1 ⊢
  go_loopw [11, 12, 13, 14, 15, 16] (fun s11 s12 s13 s14 s15 s16 wr => ∃ k : Nat, s11 = .int .i64 (k : Int) ∧ k ≤ n1 ∧ Hid (On V wr)) (fun s11 _ _ _ _ _ _ => n1 - (intOf s11).toNat)
  case atStart => exact ⟨0, rfl, Nat.zero_le _, Lib.hid (On.refl V)⟩
  case round =>
    obtain ⟨k, rfl, hkn, HO⟩ := hrel
    have x0 := HX0.out wr HO.out
    by_cases hlt : k < n1
    · have hlt2 : (k : Int) < (n1 : Int) := by omega
      obtain ⟨b1, o1, y, rfl, hb1, hy, c1, _, _⟩ := am_at (HR1v.out.on HO.out) hlt
      have HAB := Lib.hid (above_has HNE.out HRS.out HOK.out hy)
      obtain ⟨u, hu⟩ : ∃ u, y.node = u := ⟨_, rfl⟩
      rw [hu] at c1 HAB
      clear hy hu
      go_wp2_with fail
      generalize hq : World.alloc wr _ = W1
      have HOW := Lib.hid (show W1.ownsRow wr.heap.size 3 1 (.slice (some ⟨wr.heap.size, 0, none⟩) 1 1) 1 [.int .i64 u] by rw [← hq]; exact ⟨rfl, .inr ⟨wr.heap.size, 1, #[.int .i64 u], rfl, Nat.le_refl _, heap_alloc_new wr _, Nat.le_refl _, by decide, rfl, by simp⟩⟩)
      have HO1 := Lib.hid (show On V W1 by rw [← hq]; exact On.alloc HO.out _)
      have hws : wr.heap.size ≤ W1.heap.size := by rw [← hq]; simp
      clear hq
      refine (tAbove_to (a := u) ⟨HSV.out.on HO1.out, by omega⟩).mono ?_
      rintro e w5 ⟨A5, n5, c5, rfl, hown, hb⟩
      rw [hdO.out] at hown
      have hn5 : n5 ≤ 60 := by have h1 := (ownsRow_cells hown).ints.1; have h2 := above_len60 (L := L) u; have := HLN.out; omega
      have HOW5 := Lib.hid (owns_below HOW.out hb)
      have HO5 := Lib.hid (HO1.out.step hb)
      have HC5 := Lib.hid (ownsRow_cells hown)
      have hws5 : wr.heap.size ≤ w5.heap.size := Nat.le_trans hws hb.size
      clear hown hb HOW HO1 hws x0 c1
      go_wp2_with ((with_reducible refine stop_dst 58 ?_ ?_); exact rfl)
      refine Stop.intro ?_
      refine wpList_append_cells _ rfl (.tmp 54) (.tmp 57) _ rfl wr.heap.size 3 q0 (.int .i64 0) 1 8 Tryz.underlying33 hq0 hy0 hy1 hy2 rfl (by decide) (.slice (some ⟨wr.heap.size, 0, none⟩) 1 1) 1 _ rfl HOW5.out A5 n5 c5 _ rfl HC5.out (fun v hv => by obtain ⟨z, _, rfl⟩ := List.mem_map.1 hv; rfl) (by unfold maxLen; omega) (by omega) hws5 ?_
      intro A6 c6 w6 hown6 hg6
      have HI6 := Lib.hid (show Ints w6 A6 (1 + n5) (u :: aboveI L u) from (ownsRow_cells (show w6.ownsRow wr.heap.size 3 1 (.slice A6 (1 + n5) c6) (1 + n5) ((u :: aboveI L u).map (Value.int .i64)) from hown6)).ints)
      have HO6 := Lib.hid (show On V w6 from HO5.out.grown hg6 HO5.out.size (fun r e => by cases e; exact (show V.heap.size ≤ wr.heap.size from HO.out.size)))
      clear hown6 hg6 HOW5 HO5 HC5 hws5
      go_wp2_with fail
      go_loopw [14, 15, 16] (fun s14 s15 s16 wq => ∃ t : Nat, s14 = .int .i64 (t : Int) ∧ t ≤ 1 + n5 ∧ Hid (On w6 wq)) (fun s14 _ _ _ => 1 + n5 - (intOf s14).toNat)
      case atStart => exact ⟨0, rfl, Nat.zero_le _, Lib.hid (On.refl _)⟩
      case round =>
        obtain ⟨t, rfl, htn, HOq⟩ := hrel
        have HOv := Lib.hid (HO6.out.step HOq.out)
        by_cases htl : t < 1 + n5
        · have htl2 : (t : Int) < ((1 + n5 : Nat) : Int) := by omega
          obtain ⟨b6, o6, rfl, hc6⟩ := (HI6.out.below HOq.out rfl).at_ htl
          have hzm : (u :: aboveI L u)[t]? = some ((u :: aboveI L u)[t]'(by have := HI6.out.1; omega)) := List.getElem?_eq_getElem _
          obtain ⟨z, hz⟩ : ∃ z, (u :: aboveI L u)[t]'(by have := HI6.out.1; omega) = z := ⟨_, rfl⟩
          rw [hz] at hzm
          rw [hzm] at hc6
          obtain ⟨p, q, hpq, hp, hqk⟩ := HAB.out z (List.mem_of_getElem? hzm)
          have k6 : ∀ v : OnW wr, v.w.cell? ⟨b6, o6 + t, none⟩ = some (.int .i64 z) := OnW.cell hc6
          have kx : ∀ v : OnW wr, v.w.cell? ⟨S, 0, none⟩ = some (.slice (some ⟨b1, o1, none⟩) n1 k1) := OnW.cell (HX0.out wr HOv.out)
          have HWC := Lib.hid (fun v : OnW wr => awithin_to (cn := c) (c := k1) HRS.out HNE.out hpq (HSV.out.on (below_then HOv.out v.h)) (HR1v.out.on (below_then HOv.out v.h)) (by omega) (by omega))
          have hp2 : (p : Int) ≤ (k : Int) := by omega
          have hq2 : (k : Int) < (q : Int) := by omega
          have d1 : decide ((k : Int) < (p : Int)) = false := decide_eq_false (by omega)
          have d2 : decide ((q : Int) ≤ (k : Int)) = false := decide_eq_false (by omega)
          have d3 : decide (q ≤ k) = false := decide_eq_false (by omega)
          have d4 : decide (k < p) = false := decide_eq_false (by omega)
          clear hz hzm hc6 hpq
          go_wp2_with fail
          refine wp_region_on (by kernel_rfl) (by kernel_rfl) ?_
          repeat (go_big_quiet_step (first | (go_at_call 7; with_reducible exact Calls.on_of (HWC.out _))))
          refine wpQuiet_nil ?_
          intro w7 hw'
          obtain ⟨⟨w8, hOn⟩, hw''⟩ := hw'
          obtain rfl : w7 = w8 := hw''
          have HO8 := Lib.hid (show On w6 w7 from below_then HOq.out hOn)
          clear hOn k6 kx HWC
          go_wp2_with fail
          go_roundw
          case rel => exact ⟨t + 1, by go_num, by omega, HO8⟩
          case measure => simp [intOf] <;> omega
        · obtain rfl : t = 1 + n5 := by omega
          go_wp2_with fail
          go_roundw
          case rel => exact ⟨k + 1, by go_num, by omega, HOv⟩
          case measure => simp [intOf] <;> omega
    · obtain rfl : n1 = k := by omega
      obtain ⟨⟨p, q⟩, hpq⟩ : ∃ r, wthI L la nd = r := ⟨_, rfl⟩
      have HPQ := Lib.hid hpq
      obtain ⟨⟨hp0, hp1⟩, hq0', hq1⟩ := wth_bd hpq
      have hal2 := HAL.out
      clear hpq
      go_wp2_with fail
      refine (awithin_to (cn := c) (c := k1) HRS.out HNE.out HPQ.out (HSV.out.on HO.out) (HR1v.out.on HO.out) (by omega) (by omega)).mono ?_
      rintro e w7 ⟨rfl, hb⟩
      have HO7 := Lib.hid (HO.out.step hb)
      clear hb x0
      go_wp2_with fail
      refine (tKids_to (a := nd) ⟨HSV.out.on HO7.out, by omega⟩).mono ?_
      rintro e w8 ⟨A8, n8, c8, rfl, hown, hb⟩
      rw [hdO.out] at hown
      have HI8 := Lib.hid (ownsRow_cells hown).ints
      have HO8 := Lib.hid (HO7.out.step hb)
      clear hown hb HO7
      have hn8 : n8 = (kidsI L nd).length := HI8.out.1.symm
      have hn8b : n8 ≤ 60 := by
        have h1 : (kidsI L nd).length ≤ L.length := by
          unfold kidsI
          rw [List.length_map]
          exact Nat.le_trans (List.length_filter_le _ _) (by rw [List.length_range]; exact Nat.le_refl _)
        have := HLN.out
        omega
      have HN8 := Lib.hid hn8
      clear hn8
      by_cases hrange : 0 ≤ nd ∧ nd < (n : Int)
      · obtain ⟨i, rfl⟩ : ∃ i : Nat, nd = (i : Int) := ⟨nd.toNat, by omega⟩
        have hin : i < n := by omega
        have hin2 : (i : Int) < (n : Int) := by omega
        obtain ⟨bn, on_, mm, x, rfl, hbn, hx, hrg, hsh⟩ := (HSV.out.on HO8.out).at_ hin
        have hk0 := hrg 0 _ rfl
        have hkind : mm.kind = x.kind := hsh.1.1.symm
        obtain ⟨kd, hkd⟩ : ∃ kd, mm.kind = kd := ⟨_, rfl⟩
        have hc0 : w8.cell? ⟨bn, on_ + i * 20, none⟩ = some (.int .i64 kd) := by rw [← hkd]; exact hk0
        rw [hkd] at hkind
        clear hk0 hrg hsh hkd
        by_cases hk1 : kd = 1
        · subst hk1
          have hxk : x.kind = 1 := hkind.symm
          have hyy := wth_node HRS.out HOK.out hx hxk
          rw [HPQ.out] at hyy
          obtain ⟨P, hP⟩ : ∃ P, (i : Int) + 1 = P := ⟨_, rfl⟩
          obtain ⟨Q, hQ⟩ : ∃ Q, (i : Int) + x.size = Q := ⟨_, rfl⟩
          rw [hP, hQ] at hyy
          injection hyy with e1 e2
          subst e1 e2
          obtain ⟨kk, hkk1, hkk2, hkk3, hkk4, hkk5⟩ := kidAt_start HNE.out (innerI_nat hx)
          obtain rfl : kk = i + 1 := by omega
          have HXX := Lib.hid hx
          have HPP := Lib.hid hP
          have HQQ := Lib.hid hQ
          have hsz := (HNE.out i x hx).1
          have HPQ2 := Lib.hid (show P ≤ Q by omega)
          have HK0 := Lib.hid (show (kidsI L (i : Int)).drop 0 = kidsFrom L (i : Int) (i + 1) by rw [List.drop_zero]; exact hkk4.symm)
          have HK1 := Lib.hid (show KidAt L (i : Int) ((i : Int) + x.size) (i + 1) from hkk5)
          have hab := atI_bd (l := la) P Q P
          have haq := atI_bd (l := la) P Q Q
          obtain ⟨f0, hf0⟩ : ∃ f0, atI la P Q P = f0 := ⟨_, rfl⟩
          obtain ⟨fq, hfq⟩ : ∃ fq, atI la P Q Q = fq := ⟨_, rfl⟩
          rw [hf0] at hab hp0 hp1 ⊢
          rw [hfq] at haq hq0' hq1 ⊢
          have HF0 := Lib.hid hf0
          have HFQ := Lib.hid hfq
          clear hx hP hQ hkk1 hkk2 hkk3 hkk4 hkk5 hxk hkind hsz hf0 hfq
          go_wp2_with fail
          go_loopw [20, 21, 22, 23, 24] (fun s20 s21 s22 s23 s24 wq => ∃ (m k : Nat) (at' : Int), s22 = .int .i64 (m : Int) ∧ s20 = .int .i64 at' ∧ s21 = .int .i64 (at' - f0) ∧ m ≤ n8 ∧ Hid (at' = atI la P Q (k : Int)) ∧ Hid ((kidsI L (i : Int)).drop m = kidsFrom L (i : Int) k) ∧ Hid (KidAt L (i : Int) ((i : Int) + x.size) k) ∧ Hid (P ≤ (k : Int) ∧ (k : Int) ≤ Q) ∧ Hid (On w8 wq)) (fun _ _ s22 _ _ _ => n8 - (intOf s22).toNat)
          case atStart => exact ⟨0, i + 1, f0, rfl, rfl, by go_num, Nat.zero_le _, Lib.hid (by rw [← HF0.out]; congr 1; have := HPP.out; omega), HK0, HK1, Lib.hid ⟨by have := HPP.out; omega, by have := HPP.out; have := HPQ2.out; omega⟩, Lib.hid (On.refl w8)⟩
          case round =>
            obtain ⟨m, k, at', rfl, rfl, rfl, hmn, HAT, HDR, HKA, HPK, HOq⟩ := hrel
            have hkat := kids_at HNE.out HXX.out HDR.out HKA.out (by have := HPK.out.2; have := HQQ.out; omega)
            have hatb := atI_bd (l := la) P Q (k : Int)
            rw [← HAT.out] at hatb
            by_cases hml : m < n8
            · have hml2 : (m : Int) < (n8 : Int) := by omega
              obtain ⟨y, e, a1, a2, a3, a4, a5, a6, a7⟩ := hkat.1 (by rw [← HN8.out]; exact hml)
              obtain ⟨⟨a, b⟩, hv⟩ : ∃ r, wthI L la (k : Int) = r := ⟨_, rfl⟩
              have hst := kid_step HRS.out a1 a2 HPK.out.1 (show (k : Int) + y.size ≤ Q by have := HQQ.out; omega) hv
              rw [a3, ← HAT.out] at hst
              have hbd := wth_bd hv
              obtain ⟨b6, o6, rfl, hc6⟩ := (HI8.out.below HOq.out rfl).at_ hml
              have hgd : (kidsI L (i : Int))[m]?.getD 0 = (k : Int) := by rw [a5]; rfl
              rw [hgd] at hc6
              have HOv := Lib.hid (HO8.out.step HOq.out)
              have k6 : ∀ v : OnW wr, v.w.cell? ⟨b6, o6 + m, none⟩ = some (.int .i64 (k : Int)) := OnW.cell hc6
              have kx : ∀ v : OnW wr, v.w.cell? ⟨S, 0, none⟩ = some (.slice B1 n1 k1) := OnW.cell (HX0.out wr HOv.out)
              have HWC := Lib.hid (fun v : OnW wr => awithin_to (cn := c) (c := k1) HRS.out HNE.out hv (HSV.out.on (below_then HOv.out v.h)) (HR1v.out.on (below_then HOv.out v.h)) (by omega) (by omega))
              have HDR2 := Lib.hid a6
              have HKA2 := Lib.hid a7
              have HPK2 := Lib.hid (show P ≤ (e : Int) ∧ (e : Int) ≤ Q from ⟨by have := HPK.out.1; omega, by have := HQQ.out; omega⟩)
              have hwm : IntKind.i64.wrap ((m : Int) + 1) = (m : Int) + 1 := IntWalk.i64_in _ (by omega)
              rcases hst with ⟨hba, hat2⟩ | ⟨hab2, haa, hbb⟩
              · have HAT2 := Lib.hid (show at' = atI la P Q (e : Int) from hat2.symm)
                clear hat2 hkat hgd hc6 hv a1 a2 a3 a4 a5 a6 a7 hatb hbd
                go_wp2_with fail
                refine wp_region_on (by kernel_rfl) (by kernel_rfl) ?_
                repeat (go_big_quiet_step (first | (go_at_call 7; with_reducible exact Calls.on_of (HWC.out _))))
                refine wpQuiet_nil ?_
                intro w9 hw'
                obtain ⟨⟨w10, hOn⟩, hw''⟩ := hw'
                obtain rfl : w9 = w10 := hw''
                have HO10 := Lib.hid (show On w8 w9 from below_then HOq.out hOn)
                clear hOn k6 kx HWC HAT HDR HKA HPK
                go_wp2_with fail
                go_roundw
                case rel => exact ⟨m + 1, e, at', by go_num, rfl, rfl, by omega, HAT2, HDR2, HKA2, HPK2, HO10⟩
                case measure => simp [intOf] <;> omega
              · have HAT2 := Lib.hid hbb
                obtain rfl : at' = a := haa.symm
                have hbn : (at' != at') = false := by simp
                have hwb1 : IntKind.i64.wrap (b - at') = b - at' := IntWalk.i64_in _ (by omega)
                have hwb2 : IntKind.i64.wrap (at' - f0 + (b - at')) = b - f0 := by rw [IntWalk.i64_in _ (by omega)]; omega
                clear hkat hgd hc6 hv a1 a2 a3 a4 a5 a6 a7 hbb
                go_wp2_with fail
                refine wp_region_on (by kernel_rfl) (by kernel_rfl) ?_
                repeat (go_big_quiet_step (first | (go_at_call 7; with_reducible exact Calls.on_of (HWC.out _))))
                refine wpQuiet_nil ?_
                intro w9 hw'
                obtain ⟨⟨w10, hOn⟩, hw''⟩ := hw'
                obtain rfl : w9 = w10 := hw''
                have HO10 := Lib.hid (show On w8 w9 from below_then HOq.out hOn)
                clear hOn k6 kx HWC HAT HDR HKA HPK
                go_wp2_with fail
                go_roundw
                case rel => exact ⟨m + 1, e, b, by go_num, rfl, by go_num, by omega, HAT2, HDR2, HKA2, HPK2, HO10⟩
                case measure => simp [intOf] <;> omega
            · obtain rfl : n8 = m := by omega
              have hge : (n8 : Int) ≤ (n8 : Int) := Int.le_refl _
              have hkQ := hkat.2 (by rw [← HN8.out]; exact Nat.le_refl _)
              have hatq : at' = fq := by rw [HAT.out, ← HFQ.out]; congr 1; rw [hkQ]; exact HQQ.out
              subst hatq
              have HOv := Lib.hid (HO8.out.step HOq.out)
              have hbn : (at' != at') = false := by simp
              have hbn2 : (at' - f0 != at' - f0) = false := by simp
              have hwb : IntKind.i64.wrap (at' - f0) = at' - f0 := IntWalk.i64_in _ (by omega)
              clear hkat hatb HAT HDR HKA HPK hkQ
              have x0 := HX0.out wr HOv.out
              go_wp2_with fail
              have HTW := Lib.hid (show ∀ cv : Int, 0 ≤ cv → cv ≤ (n1 : Int) → (lf.filter (anchB 0 cv)).length + (lf.filter (anchB cv ((n1 : Int) + 1))).length = n2 from fun cv h0 h1 => by rw [anch_two (fun f hf => by have := HFA.out f hf; rw [HAL.out] at this; exact this) h0 h1]; exact HR2v.out.len)
              have hwn : IntKind.i64.wrap ((n1 : Int) + 1) = (n1 : Int) + 1 := IntWalk.i64_in _ (by omega)
              generalize hcv : max 0 (min ct (n1 : Int)) = cv
              have hcv0 : 0 ≤ cv := by omega
              have hcv1 : cv ≤ (n1 : Int) := by omega
              have kx : ∀ W', On wr W' → W'.cell? ⟨S, 0, none⟩ = some (.slice B1 n1 k1) := On.cell (HX0.out wr HOv.out)
              have ky : ∀ W', On wr W' → W'.cell? ⟨S, 1, none⟩ = some (.slice B2 n2 k2) := On.cell (HX1.out wr HOv.out)
              clear hcv x0
              go_region_held3 (fun W' => On wr W') (first | exact (On.refl _).drew | exact On.step (by assumption) hb) (first
                | (go_at_call 9; ((with_reducible refine (anchored_to (a := 0) (b := cv) (HR2v.out.on (on_on HOv.out (by assumption))) (by omega)).mono ?_); rintro e w20 ⟨Aa, na, ca, rfl, hna, hb⟩; have HNA := Lib.hid hna; clear hna))
                | (go_at_call 9; ((with_reducible refine (anchored_to (a := cv) (b := (n1 : Int) + 1) (HR2v.out.on (on_on HOv.out (by assumption))) (by omega)).mono ?_); rintro e w21 ⟨Ab, nb, cb, rfl, hnb, hb⟩; have HNB := Lib.hid hnb; clear hnb)))
              rename_i hOn
              have HOe := Lib.hid (on_on HOv.out hOn)
              have z1 := HX1.out _ HOe.out
              have hsum : na + nb = n2 := by rw [HNA.out, HNB.out]; exact HTW.out cv hcv0 hcv1
              have hws : IntKind.i64.wrap ((na : Int) + (nb : Int)) = (n2 : Int) := by rw [IntWalk.i64_in _ (by omega)]; omega
              have hbe : ((n2 : Int) == (n2 : Int)) = true := by simp
              clear hOn kx ky hsum
              go_wp2_with fail
              refine (awake15_any _).mono ?_
              rintro e w22 ⟨rfl, hb⟩
              have HOf := Lib.hid (HOe.out.step hb)
              clear hb
              go_wp2_with fail
              go_ret
              exact ⟨rfl, below_then HBV.out HOf.out⟩
        · have hk2 : (kd == 1) = false := by simpa using hk1
          have HOv := Lib.hid HO8.out
          have x0 := HX0.out w8 HO8.out
          clear hx hkind
          go_wp2_with fail
          have HTW := Lib.hid (show ∀ cv : Int, 0 ≤ cv → cv ≤ (n1 : Int) → (lf.filter (anchB 0 cv)).length + (lf.filter (anchB cv ((n1 : Int) + 1))).length = n2 from fun cv h0 h1 => by rw [anch_two (fun f hf => by have := HFA.out f hf; rw [HAL.out] at this; exact this) h0 h1]; exact HR2v.out.len)
          have hwn : IntKind.i64.wrap ((n1 : Int) + 1) = (n1 : Int) + 1 := IntWalk.i64_in _ (by omega)
          generalize hcv : max 0 (min ct (n1 : Int)) = cv
          have hcv0 : 0 ≤ cv := by omega
          have hcv1 : cv ≤ (n1 : Int) := by omega
          have kx : ∀ W', On w8 W' → W'.cell? ⟨S, 0, none⟩ = some (.slice B1 n1 k1) := On.cell (HX0.out w8 HOv.out)
          have ky : ∀ W', On w8 W' → W'.cell? ⟨S, 1, none⟩ = some (.slice B2 n2 k2) := On.cell (HX1.out w8 HOv.out)
          clear hcv x0
          go_region_held3 (fun W' => On w8 W') (first | exact (On.refl _).drew | exact On.step (by assumption) hb) (first
            | (go_at_call 9; ((with_reducible refine (anchored_to (a := 0) (b := cv) (HR2v.out.on (on_on HOv.out (by assumption))) (by omega)).mono ?_); rintro e w20 ⟨Aa, na, ca, rfl, hna, hb⟩; have HNA := Lib.hid hna; clear hna))
            | (go_at_call 9; ((with_reducible refine (anchored_to (a := cv) (b := (n1 : Int) + 1) (HR2v.out.on (on_on HOv.out (by assumption))) (by omega)).mono ?_); rintro e w21 ⟨Ab, nb, cb, rfl, hnb, hb⟩; have HNB := Lib.hid hnb; clear hnb)))
          rename_i hOn
          have HOe := Lib.hid (on_on HOv.out hOn)
          have z1 := HX1.out _ HOe.out
          have hsum : na + nb = n2 := by rw [HNA.out, HNB.out]; exact HTW.out cv hcv0 hcv1
          have hws : IntKind.i64.wrap ((na : Int) + (nb : Int)) = (n2 : Int) := by rw [IntWalk.i64_in _ (by omega)]; omega
          have hbe : ((n2 : Int) == (n2 : Int)) = true := by simp
          clear hOn kx ky hsum
          go_wp2_with fail
          refine (awake15_any _).mono ?_
          rintro e w22 ⟨rfl, hb⟩
          have HOf := Lib.hid (HOe.out.step hb)
          clear hb
          go_wp2_with fail
          go_ret
          exact ⟨rfl, below_then HBV.out HOf.out⟩
      · have HOv := Lib.hid HO8.out
        have x0 := HX0.out w8 HO8.out
        rcases (show nd < 0 ∨ (0 ≤ nd ∧ (n : Int) ≤ nd) by omega) with hneg | ⟨hpos, hbig⟩
        · clear hrange
          go_wp2_with fail
          have HTW := Lib.hid (show ∀ cv : Int, 0 ≤ cv → cv ≤ (n1 : Int) → (lf.filter (anchB 0 cv)).length + (lf.filter (anchB cv ((n1 : Int) + 1))).length = n2 from fun cv h0 h1 => by rw [anch_two (fun f hf => by have := HFA.out f hf; rw [HAL.out] at this; exact this) h0 h1]; exact HR2v.out.len)
          have hwn : IntKind.i64.wrap ((n1 : Int) + 1) = (n1 : Int) + 1 := IntWalk.i64_in _ (by omega)
          generalize hcv : max 0 (min ct (n1 : Int)) = cv
          have hcv0 : 0 ≤ cv := by omega
          have hcv1 : cv ≤ (n1 : Int) := by omega
          have kx : ∀ W', On w8 W' → W'.cell? ⟨S, 0, none⟩ = some (.slice B1 n1 k1) := On.cell (HX0.out w8 HOv.out)
          have ky : ∀ W', On w8 W' → W'.cell? ⟨S, 1, none⟩ = some (.slice B2 n2 k2) := On.cell (HX1.out w8 HOv.out)
          clear hcv x0
          go_region_held3 (fun W' => On w8 W') (first | exact (On.refl _).drew | exact On.step (by assumption) hb) (first
            | (go_at_call 9; ((with_reducible refine (anchored_to (a := 0) (b := cv) (HR2v.out.on (on_on HOv.out (by assumption))) (by omega)).mono ?_); rintro e w20 ⟨Aa, na, ca, rfl, hna, hb⟩; have HNA := Lib.hid hna; clear hna))
            | (go_at_call 9; ((with_reducible refine (anchored_to (a := cv) (b := (n1 : Int) + 1) (HR2v.out.on (on_on HOv.out (by assumption))) (by omega)).mono ?_); rintro e w21 ⟨Ab, nb, cb, rfl, hnb, hb⟩; have HNB := Lib.hid hnb; clear hnb)))
          rename_i hOn
          have HOe := Lib.hid (on_on HOv.out hOn)
          have z1 := HX1.out _ HOe.out
          have hsum : na + nb = n2 := by rw [HNA.out, HNB.out]; exact HTW.out cv hcv0 hcv1
          have hws : IntKind.i64.wrap ((na : Int) + (nb : Int)) = (n2 : Int) := by rw [IntWalk.i64_in _ (by omega)]; omega
          have hbe : ((n2 : Int) == (n2 : Int)) = true := by simp
          clear hOn kx ky hsum
          go_wp2_with fail
          refine (awake15_any _).mono ?_
          rintro e w22 ⟨rfl, hb⟩
          have HOf := Lib.hid (HOe.out.step hb)
          clear hb
          go_wp2_with fail
          go_ret
          exact ⟨rfl, below_then HBV.out HOf.out⟩
        · clear hrange
          go_wp2_with fail
          have HTW := Lib.hid (show ∀ cv : Int, 0 ≤ cv → cv ≤ (n1 : Int) → (lf.filter (anchB 0 cv)).length + (lf.filter (anchB cv ((n1 : Int) + 1))).length = n2 from fun cv h0 h1 => by rw [anch_two (fun f hf => by have := HFA.out f hf; rw [HAL.out] at this; exact this) h0 h1]; exact HR2v.out.len)
          have hwn : IntKind.i64.wrap ((n1 : Int) + 1) = (n1 : Int) + 1 := IntWalk.i64_in _ (by omega)
          generalize hcv : max 0 (min ct (n1 : Int)) = cv
          have hcv0 : 0 ≤ cv := by omega
          have hcv1 : cv ≤ (n1 : Int) := by omega
          have kx : ∀ W', On w8 W' → W'.cell? ⟨S, 0, none⟩ = some (.slice B1 n1 k1) := On.cell (HX0.out w8 HOv.out)
          have ky : ∀ W', On w8 W' → W'.cell? ⟨S, 1, none⟩ = some (.slice B2 n2 k2) := On.cell (HX1.out w8 HOv.out)
          clear hcv x0
          go_region_held3 (fun W' => On w8 W') (first | exact (On.refl _).drew | exact On.step (by assumption) hb) (first
            | (go_at_call 9; ((with_reducible refine (anchored_to (a := 0) (b := cv) (HR2v.out.on (on_on HOv.out (by assumption))) (by omega)).mono ?_); rintro e w20 ⟨Aa, na, ca, rfl, hna, hb⟩; have HNA := Lib.hid hna; clear hna))
            | (go_at_call 9; ((with_reducible refine (anchored_to (a := cv) (b := (n1 : Int) + 1) (HR2v.out.on (on_on HOv.out (by assumption))) (by omega)).mono ?_); rintro e w21 ⟨Ab, nb, cb, rfl, hnb, hb⟩; have HNB := Lib.hid hnb; clear hnb)))
          rename_i hOn
          have HOe := Lib.hid (on_on HOv.out hOn)
          have z1 := HX1.out _ HOe.out
          have hsum : na + nb = n2 := by rw [HNA.out, HNB.out]; exact HTW.out cv hcv0 hcv1
          have hws : IntKind.i64.wrap ((na : Int) + (nb : Int)) = (n2 : Int) := by rw [IntWalk.i64_in _ (by omega)]; omega
          have hbe : ((n2 : Int) == (n2 : Int)) = true := by simp
          clear hOn kx ky hsum
          go_wp2_with fail
          refine (awake15_any _).mono ?_
          rintro e w22 ⟨rfl, hb⟩
          have HOf := Lib.hid (HOe.out.step hb)
          clear hb
          go_wp2_with fail
          go_ret
          exact ⟨rfl, below_then HBV.out HOf.out⟩
end Go.Proofs.YtipmdhfinlkceaaGreat
