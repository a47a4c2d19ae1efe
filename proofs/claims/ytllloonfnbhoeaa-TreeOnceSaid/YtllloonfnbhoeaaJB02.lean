import Derived.Test.YtllloonfnbhoeaaJB01
import Derived.Test.YtllloonfnbhoeaaJB00
import Derived.Test.YtllloonfnbhoeaaJA01
/- The walk of the law TreeOnce, if package tree says what it is asked. -/
namespace Go.Proofs.Ytllloonfnbhoeaa
open Go.RowKit
set_option linter.unusedVariables false
set_option linter.unusedSimpArgs false
/-- a value that hangs on a guard that holds. -/
theorem wpList_val_w {P : Program} {ops : Array Oper} {rest : List Oper} {o : Oper} {a : Act} {w : World} {Q : Exit → Act → World → Prop} (hgd : Region.wanted o (yielded ops a.tmps) = true) (v : Value) (he : (execOp a.eval o).run P w = .ok (.value v) w) (h : wpList P ops Q rest (a.put o.dst v) w) : wpList P ops Q (o :: rest) a w := by
  refine wpList_step fun K hK => ?_
  rw [if_pos hgd]
  unfold Oper.wp
  rw [he, Oper.upon_value]
  exact hK _ _ h
set_option maxHeartbeats 8000000 in
set_option maxRecDepth 100000 in
theorem treeonce_in (H : TreeSays) {A : Option Addr} {n cap : Nat} {l : List Nd} (hv : vast8 l = false) (hd : docB l = true) {w : World} (hl : Sees w A n l) : Calls Try.prog 4 #[.slice A n cap] w fun e w' => e = .returned (.bool true) ∧ Below w.heap.size w w' := by
  obtain ⟨hn, hw⟩ := vast8_no hv
  have hla := hl.len
  have hn2 : n ≤ 60 := by omega
  have HH := Lib.hid H
  have HA := Lib.hid hl
  have HV := Lib.hid hv
  have HD := Lib.hid hd
  have HL := Lib.hid hla
  have DOC := Lib.hid ((docB_iff l).1 hd)
  have HK := Lib.hid (show ∀ (z : Int) (zs : List Int), kidsI l z = zs → -1 ≤ z → z < (n : Int) → kidsA l z = zs from fun z zs h h1 h2 => by unfold kidsA; rw [hd, if_pos (by simp; omega)]; exact h)
  have HPA := Lib.hid (show ∀ (z v : Int), parentI l z = v → parentA l z = v from fun z v h => by unfold parentA; rw [hd, if_pos rfl]; exact h)
  clear H hl hv hd hn hw hla
  go_enter Try.func4, Try.ntmps4
  go_wp2_with fail
  refine (vast8_to HV.out HA.out).mono ?_
  rintro e w1 ⟨rfl, rfl⟩
  go_wp2_with fail
  refine (pIs_to HD.out ⟨HA.out, by omega⟩).mono ?_
  rintro e w2 ⟨rfl, hb⟩
  have HB := Lib.hid hb
  clear hb
  have hmk := make_seen n (by omega) w2
  go_wp2_with fail
  clear hmk
  have HG := Lib.hid HB.out.size
  have HX0 := Lib.hid (show Box (w2.alloc (.cells (Array.replicate n (Value.int .i64 0)) 3)) w2.heap.size ((seenI l (-1) 0 n).map (Value.int .i64)) from box_new w2 _ _ _ rfl _ (by rw [seen_start HL.out, List.map_replicate]; simp))
  have HO0 := Lib.hid (show On w (w2.alloc (.cells (Array.replicate n (Value.int .i64 0)) 3)) from HB.out.alloc HG.out _)
  go_loopw [4, 5, 6, 7] (fun a ks i k wr => ∃ z : Int, a = .int .i64 z ∧ -1 ≤ z ∧ z ≤ (n : Int) ∧ Box wr w2.heap.size ((seenI l z 0 n).map (Value.int .i64)) ∧ On w wr) (fun a ks i k _ => ((n : Int) - intOf a).toNat)
  case atStart => exact ⟨-1, rfl, by omega, by omega, HX0.out, HO0.out⟩
  case round =>
    obtain ⟨z, rfl, hz1, hz2, hx, hon⟩ := hrel
    have HX := Lib.hid hx
    have HO := Lib.hid hon
    clear hx hon HX0 HO0
    by_cases hlt : z < (n : Int)
    · obtain ⟨zs, hzs⟩ : ∃ zs, kidsI l z = zs := ⟨_, rfl⟩
      have HZ := Lib.hid hzs
      clear hzs
      go_wp2_with fail
      refine (HH.out.kidsN (HK.out z zs HZ.out hz1 hlt) (by unfold I64; omega) ⟨HA.out.below HO.out, by omega⟩).mono ?_
      rintro e w3 ⟨A5, m, c5, rfl, hm, hi, hb, hf⟩
      have HM := Lib.hid hm
      have HI := Lib.hid hi
      have HF := Lib.hid (show ∀ q, A5 = some q → w2.heap.size < q.block from fun q hq => by have := hf q hq; have := HX.out.lt; omega)
      have HX3 := Lib.hid (HX.out.below hb)
      have HO3 := Lib.hid (HO.out.step hb)
      clear hm hi hb hf
      go_wp2_with fail
      go_loopw [6, 7] (fun i k wq => ∃ t : Nat, i = .int .i64 (t : Int) ∧ t ≤ m ∧ Box wq w2.heap.size ((seenI l z t n).map (Value.int .i64)) ∧ Ints wq A5 m zs ∧ On w wq) (fun i k _ => m - (intOf i).toNat)
      case atStart => exact ⟨0, rfl, Nat.zero_le _, HX3.out, HI.out, HO3.out⟩
      case round =>
        obtain ⟨t, rfl, htm, hx, hi, hon⟩ := hrel
        have HXq := Lib.hid hx
        have HIq := Lib.hid hi
        have HOq := Lib.hid hon
        clear hx hi hon HX3 HO3 HI HX HO
        by_cases htl : t < m
        · have ht2 : (t : Int) < (m : Int) := by omega
          have hkt : zs[t]? = some (zs[t]'(by have := HM.out; omega)) := List.getElem?_eq_getElem _
          obtain ⟨kk, hkk⟩ : ∃ kk, zs[t]'(by have := HM.out; omega) = kk := ⟨_, rfl⟩
          rw [hkk] at hkt
          have hkt' : (kidsI l z)[t]? = some kk := by rw [HZ.out]; exact hkt
          obtain ⟨k1, k2, k3, k4⟩ := kid_bd hkt'
          obtain ⟨k, rfl⟩ : ∃ k : Nat, kk = (k : Int) := ⟨kk.toNat, by omega⟩
          have hkn : k < n := by have := HL.out; omega
          have HST := Lib.hid (seenV_step (n := n) z hkt')
          have HPP := Lib.hid (HPA.out (k : Int) z k4)
          have HKT := Lib.hid hkt
          have hkt2 : zs[t]?.getD 0 = (k : Int) := by rw [hkt]; rfl
          obtain ⟨v, hv⟩ : ∃ v, metI l z t k = v := ⟨_, rfl⟩
          have hvb := met_bd l z t k
          rw [hv] at hvb
          have HVV := Lib.hid hv
          obtain ⟨v1, v2⟩ := hvb
          obtain ⟨b5, o5, rfl, hc5⟩ := HIq.out.at_ htl
          rw [hkt2] at hc5
          have hzk : ¬ (k : Int) ≤ z := by omega
          have hkn2 : ¬ (n : Int) ≤ (k : Int) := by omega
          have hzz : (z != z) = false := by simp
          clear hkt hkt' hkk hv k2 k3 k4
          go_wp2_with fail
          refine (HH.out.parent HPP.out (by unfold I64; omega) ⟨HA.out.below HOq.out, by omega⟩).mono ?_
          rintro e w4 ⟨rfl, hb⟩
          have HX4 := Lib.hid (HXq.out.below hb)
          have HI4 := Lib.hid (HIq.out.below hb rfl)
          have HO4 := Lib.hid (HOq.out.step hb)
          clear hb hc5
          have hc6 := seenV_get (L := l) (a := z) (t := t) hkn
          rw [HVV.out] at hc6
          have c0 := HX4.out.2.2 k _ hc6
          have c1 := HX4.out.2.1 k
          have c2 := HX4.out.lt
          have HS2 := Lib.hid (show Box (w4.setCell ⟨w2.heap.size, k, none⟩ (.int .i64 (v + 1))) w2.heap.size ((seenI l z (t + 1) n).map (Value.int .i64)) by rw [HST.out, HVV.out]; exact HX4.out.set k _ (by rw [List.length_map, seen_len]; exact hkn))
          have HS3 := Lib.hid (HI4.out.set_far HF.out k (.int .i64 (v + 1)))
          have HS4 := Lib.hid (show On w (w4.setCell ⟨w2.heap.size, k, none⟩ (.int .i64 (v + 1))) from HO4.out.setCell HG.out _)
          have hsv : IntKind.i64.wrap (v + 1) = v + 1 := IntWalk.i64_in _ (by omega)
          clear hc6
          cases t with
          | zero =>
            go_wp2_with fail
            go_roundw
            case rel => exact ⟨1, by go_num, by omega, HS2.out, HS3.out, HS4.out⟩
            case measure => simp [intOf] <;> omega
          | succ r =>
            have hkr : zs[r]? = some (zs[r]'(by have := HM.out; omega)) := List.getElem?_eq_getElem _
            obtain ⟨kk, hkk⟩ : ∃ kk, zs[r]'(by have := HM.out; omega) = kk := ⟨_, rfl⟩
            rw [hkk] at hkr
            have hlr := kid_rise (L := l) (a := z) (t := r) (by rw [HZ.out]; exact hkr) (by rw [HZ.out]; exact HKT.out)
            obtain ⟨b6, o6, hee, d0⟩ := HI4.out.at_ (show r < m by omega)
            injection hee with hee
            injection hee with he1 he2
            subst he1 he2
            have hkr2 : zs[r]?.getD 0 = kk := by rw [hkr]; rfl
            rw [hkr2] at d0
            have hge : ¬ (k : Int) ≤ kk := by omega
            have hpos : (0 : Int) < (r : Int) + 1 := by omega
            have hrm : (r : Int) < (m : Int) := by omega
            have hmb := HI4.out.2.1
            have hw64 : wrap64 (r : Int) = (r : Int) := by unfold wrap64; omega
            clear hkr hkk hkr2 hmb hw64
            go_wp2_with ((with_reducible refine stop_dst 66 ?_ ?_); exact rfl)
            refine Stop.intro ?_
            refine wpList_val_w rfl (.int .i64 (r : Int)) ?_ ?_
            · go_simp
              exact IntWalk.i64_in _ (by have := HI4.out.2.1; omega)
            have hmb := HI4.out.2.1
            go_wp2_with fail
            go_roundw
            case rel => exact ⟨r + 1 + 1, by go_num, by omega, HS2.out, HS3.out, HS4.out⟩
            case measure => simp [intOf] <;> omega
        · have ht2 : (m : Int) ≤ (t : Int) := by omega
          obtain rfl : t = m := by omega
          go_wp2_with fail
          go_roundw
          case rel => exact ⟨z + 1, by go_num, by omega, by omega, by rw [seen_next HL.out, HZ.out, ← HM.out]; exact HXq.out, HOq.out⟩
          case measure => simp [intOf] <;> omega
    · obtain rfl : z = (n : Int) := by omega
      have HNE := Lib.hid ((forest_iff_nested l).1 DOC.out.2)
      go_wp2_with fail
      go_loopw [8, 9, 10, 11, 12, 13, 14] (fun b up at' i a ab j wr => ∃ k : Nat, b = .int .i64 (k : Int) ∧ k ≤ n ∧ Hid (Box wr w2.heap.size ((seenI l (n : Int) 0 n).map (Value.int .i64))) ∧ Hid (On w wr)) (fun b _ _ _ _ _ _ _ => n - (intOf b).toNat)
      case atStart => exact ⟨0, rfl, Nat.zero_le _, HX, HO⟩
      case round =>
        obtain ⟨k, rfl, hkn, HXb, HOb⟩ := hrel
        clear HX HO
        by_cases hlb : k < n
        · have hlb2 : (k : Int) < (n : Int) := by omega
          have hkl : k < l.length := by have := HL.out; omega
          have HKL := Lib.hid hkl
          have c0 := HXb.out.2.2 k (.int .i64 1) (by rw [List.getElem?_map, seen_all HL.out hlb]; rfl)
          have c2 := HXb.out.lt
          have HAB := Lib.hid (show aboveA l (k : Int) = aboveI l (k : Int) by unfold aboveA; rw [HD.out, if_pos rfl])
          clear hkl
          go_wp2_with fail
          refine (HH.out.above HAB.out (by unfold I64; omega) ⟨HA.out.below HOb.out, by omega⟩).mono ?_
          rintro e wA ⟨A9, m9, c9, rfl, hm9, hi9, hb9⟩
          have HM9 := Lib.hid (show m9 = (aboveP l k).length by rw [hm9, aboveI_len HKL.out])
          have HI9 := Lib.hid hi9
          have HXA := Lib.hid (HXb.out.below hb9)
          have HOA := Lib.hid (HOb.out.step hb9)
          have hmb9 := hi9.2.1
          clear hm9 hi9 hb9 c0 c2
          go_wp2_with fail
          go_loopw [10, 11] (fun at' i wq => ∃ (t c : Nat), i = .int .i64 (t : Int) ∧ at' = .int .i64 (c : Int) ∧ t ≤ m9 ∧ Hid (StepP l k t c) ∧ Hid (On wA wq)) (fun _ i _ => m9 - (intOf i).toNat)
          case atStart => exact ⟨0, k, rfl, rfl, Nat.zero_le _, Lib.hid (stepP_start HKL.out), Lib.hid (On.refl _)⟩
          case round =>
            obtain ⟨t, c, rfl, rfl, htm, HS, HOq⟩ := hrel
            have HOw := Lib.hid (below_then HOA.out HOq.out)
            have hcn : c < n := by have := HS.out.1; have := HL.out; omega
            by_cases htl : t < m9
            · have htl2 : (t : Int) < (m9 : Int) := by omega
              obtain ⟨u, hu, hpu, hsu⟩ := stepP_next HNE.out HS.out (by have := HM9.out; omega)
              have HSU := Lib.hid hsu
              obtain ⟨b6, o6, rfl, hc6⟩ := (HI9.out.below HOq.out rfl).at_ htl
              have hug : (aboveI l (k : Int))[t]?.getD 0 = (u : Int) := by rw [aboveI_get HKL.out hu]; rfl
              rw [hug] at hc6
              have HC6 := Lib.hid hc6
              have k6 : ∀ p : OnW wr, p.w.cell? ⟨b6, o6 + t, none⟩ = some (.int .i64 (u : Int)) := OnW.cell hc6
              have HPC := Lib.hid (show ∀ p : OnW wr, Calls Try.prog 9 #[.slice A n cap, .int .i64 (c : Int)] p.w fun e w' => e = .returned (.int .i64 (u : Int)) ∧ Below p.w.heap.size p.w w' from
                fun p => HH.out.parent (HPA.out _ _ hpu) (by unfold I64; omega) ⟨HA.out.below (below_then HOw.out p.h), by omega⟩)
              have huu : ((u : Int) != (u : Int)) = false := by simp
              clear hu hpu hsu hug hc6
              go_wp2_with fail
              refine wp_region_on (by kernel_rfl) (by kernel_rfl) ?_
              repeat (go_big_quiet_step ((go_at_call 9; with_reducible exact Calls.on_of (HPC.out _))))
              refine wpQuiet_nil ?_
              intro w5 hw'
              obtain ⟨⟨w6, hOn⟩, hw''⟩ := hw'
              obtain rfl : w5 = w6 := hw''
              have c6 := On.cell HC6.out w5 hOn
              have HO5 := Lib.hid (below_then HOq.out hOn)
              clear hOn k6
              go_wp2_with fail
              go_roundw
              case rel => exact ⟨t + 1, u, by go_num, rfl, by omega, HSU, HO5⟩
              case measure => simp [intOf] <;> omega
            · have htl2 : (m9 : Int) ≤ (t : Int) := by omega
              have HPE := Lib.hid (HPA.out (c : Int) (-1) (stepP_end HS.out (by have := HM9.out; omega)))
              go_wp2_with fail
              refine (HH.out.parent HPE.out (by unfold I64; omega) ⟨HA.out.below HOw.out, by omega⟩).mono ?_
              rintro e wB ⟨rfl, hbB⟩
              have HOB := Lib.hid (below_then HOq.out hbB)
              clear hbB
              go_wp2_with fail
              go_loopw [12, 13, 14] (fun a ab j wq => ∃ x : Nat, a = .int .i64 (x : Int) ∧ x ≤ n ∧ Hid (On wA wq)) (fun a _ _ _ => n - (intOf a).toNat)
              case atStart => exact ⟨0, rfl, Nat.zero_le _, HOB⟩
              case round =>
                obtain ⟨x, rfl, hxn, HOx⟩ := hrel
                have HOv := Lib.hid (below_then HOA.out HOx.out)
                by_cases hlx : x < n
                · have hlx2 : (x : Int) < (n : Int) := by omega
                  have HIx := Lib.hid (HI9.out.below HOx.out rfl)
                  obtain ⟨V, hV⟩ : ∃ V, wr = V := ⟨_, rfl⟩
                  rw [hV] at HOx HOv HIx ⊢
                  clear hV
                  go_wp2_with fail
                  go_loopw [13, 14] (fun ab j wq => ∃ (y : Nat) (fl : Bool), ab = .bool fl ∧ j = .int .i64 (y : Int) ∧ y ≤ m9 ∧ Hid (fl = flagP l x k y) ∧ wq = V) (fun _ j _ => m9 - (intOf j).toNat)
                  case atStart => exact ⟨0, _, rfl, rfl, Nat.zero_le _, Lib.hid (by rw [flagP_zero, Bool.eq_iff_iff]; simp; omega), rfl⟩
                  case round =>
                    obtain ⟨y, fl, rfl, rfl, hym, HF, rfl⟩ := hrel
                    by_cases hly : y < m9
                    · have hly2 : (y : Int) < (m9 : Int) := by omega
                      have hu : (aboveP l k)[y]? = some ((aboveP l k)[y]'(by have := HM9.out; omega)) := List.getElem?_eq_getElem _
                      obtain ⟨u, huu⟩ : ∃ u, (aboveP l k)[y]'(by have := HM9.out; omega) = u := ⟨_, rfl⟩
                      rw [huu] at hu
                      obtain ⟨b7, o7, rfl, hc7⟩ := HIx.out.at_ hly
                      have hug : (aboveI l (k : Int))[y]?.getD 0 = (u : Int) := by rw [aboveI_get HKL.out hu]; rfl
                      rw [hug] at hc7
                      have HU := Lib.hid (flagP_step (a := x) hu)
                      clear hu huu hug
                      cases fl with
                      | false =>
                        go_wp2_with fail
                        go_roundw
                        case rel => exact ⟨y + 1, _, rfl, by go_num, by omega, Lib.hid (by rw [HU.out, ← HF.out, Bool.false_or, Bool.eq_iff_iff]; simp; omega), by first | rfl | trivial⟩
                        case measure => simp [intOf] <;> omega
                      | true =>
                        go_wp2_with fail
                        go_roundw
                        case rel => exact ⟨y + 1, _, rfl, by go_num, by omega, Lib.hid (by rw [HU.out, ← HF.out]; rfl), by first | rfl | trivial⟩
                        case measure => simp [intOf] <;> omega
                    · have hly2 : (m9 : Int) ≤ (y : Int) := by omega
                      have HHo := Lib.hid (show holdsA l (x : Int) (k : Int) = fl by
                        unfold holdsA
                        rw [HD.out, Bool.true_and, HF.out]
                        exact flagP_all HNE.out (by have := HL.out; omega) HKL.out (by have := HM9.out; omega))
                      go_wp2_with fail
                      refine (HH.out.holds HHo.out (by unfold I64; omega) (by unfold I64; omega) ⟨HA.out.below HOv.out, by omega⟩).mono ?_
                      rintro e w7 ⟨rfl, hb7⟩
                      have HO7 := Lib.hid (below_then HOx.out hb7)
                      clear hb7
                      cases fl
                      all_goals
                        go_wp2_with fail
                        go_roundw
                        case rel => exact ⟨x + 1, by go_num, by omega, HO7⟩
                        case measure => simp [intOf] <;> omega
                · have hlx2 : (n : Int) ≤ (x : Int) := by omega
                  go_wp2_with fail
                  go_roundw
                  case rel => exact ⟨k + 1, by go_num, by omega, Lib.hid (HXA.out.below HOx.out), HOv⟩
                  case measure => simp [intOf] <;> omega
        · have hlb2 : (n : Int) ≤ (k : Int) := by omega
          go_wp2_with fail
          refine (tawake_any HH.out _).mono ?_
          rintro e wE ⟨rfl, hbE⟩
          have HBE := Lib.hid (below_then HOb.out hbE)
          clear hbE
          go_wp2_with fail
          go_ret
          exact ⟨rfl, HBE.out⟩
theorem treeonce_walk (H : TreeSays) (A : Option Addr) (n c : Nat) (l : List Nd) (hc : n ≤ c ∧ c ≤ 9223372036854775807) (w : World) (hl : Sees w A n l) : Calls Try.prog 4 #[.slice A n c] w fun e w' => e = .returned (.bool true) ∧ Below w.heap.size w w' := by
  rcases hv : vast8 l with _ | _
  · rcases hd : docB l with _ | _
    · exact treeonce_bad H hv hd hl
    · exact treeonce_in H hv hd hl
  · exact treeonce_vast H hv hl
end Go.Proofs.Ytllloonfnbhoeaa
