import Derived.Test.YtamakeogaipdiaaJA01
import Derived.Test.YtamakeogaipdiaaJA03
/- The document's answers for package valid: rows within rows. (Written by program: tools/drafts/genvrows.py.) -/
namespace Go.Proofs.Ytamakeogaipdiaa
open Go.RowKit
set_option linter.unusedVariables false
set_option linter.unusedSimpArgs false
theorem encM_all7 (m : NdM) : ((encM m).toArray.all (·.oneCell')) = true := by
  rw [List.all_toArray]
  exact List.all_eq_true.2 (encM_one m)
/-- seg lies in l from k on. -/
def SegV (l : List Nd) (k : Nat) (seg : List Nd) : Prop := ∃ pre post, l = pre ++ (seg ++ post) ∧ pre.length = k
theorem SegV.head {l : List Nd} {k : Nat} {x : Nd} {seg : List Nd} (h : SegV l k (x :: seg)) : l[k]? = some x := by
  obtain ⟨pre, post, rfl, rfl⟩ := h
  simp
theorem SegV.inner {l : List Nd} {k : Nat} {x : Nd} {a b : List Nd} (h : SegV l k (x :: (a ++ b))) : SegV l (k + 1) a := by
  obtain ⟨pre, post, rfl, rfl⟩ := h
  exact ⟨pre ++ [x], b ++ post, by simp, by simp⟩
theorem SegV.rest {l : List Nd} {k : Nat} {x : Nd} {a b : List Nd} (h : SegV l k (x :: (a ++ b))) : SegV l (k + (1 + a.length)) b := by
  obtain ⟨pre, post, rfl, rfl⟩ := h
  exact ⟨pre ++ x :: a, post, by simp, by simp; omega⟩
theorem SegV.len {l : List Nd} {k : Nat} {seg : List Nd} (h : SegV l k seg) : k + seg.length ≤ l.length := by
  obtain ⟨pre, post, rfl, rfl⟩ := h
  simp
theorem SegV.all (l : List Nd) : SegV l 0 l := ⟨[], [], by simp, rfl⟩
theorem forest_no1 {x : Nd} {t : List Nd} (h : x.size < 1) : forestB (x :: t) = false := by rw [forestB_cons]; simp; omega
theorem forest_no2 {x : Nd} {t : List Nd} (h : (t.length : Int) + 1 < x.size) : forestB (x :: t) = false := by rw [forestB_cons, decide_eq_false (by omega : ¬ x.size ≤ (t.length : Int) + 1)]; simp
theorem forest_no3 {x : Nd} {t : List Nd} (h : x.kind ≠ 1) (h2 : 1 < x.size) : forestB (x :: t) = false := by rw [forestB_cons, decide_eq_false h, decide_eq_false (by omega : ¬ x.size ≤ 1)]; simp
theorem forest_parts {x : Nd} {t : List Nd} {g : Nat} (h : x.size = 1 + (g : Int)) (hg : g ≤ t.length) (hk : x.kind ≠ 1 → g = 0) : forestB (x :: t) = (forestB (t.take g) && forestB (t.drop g)) := by
  rw [forestB_cons, show x.size.toNat - 1 = g by omega, decide_eq_true (by omega : 1 ≤ x.size), decide_eq_true (by omega : x.size ≤ (t.length : Int) + 1)]
  by_cases hq : x.kind = 1
  · simp [hq]
  · have := hk hq; subst this
    simp [h]
def VOk (seg : List Nd) (w : World) (e : Ending) (w' : World) : Prop := e = .returned (.bool (forestB seg)) ∧ On w w'
set_option maxRecDepth 100000 in
set_option maxHeartbeats 4000000 in
theorem vrows_step (l : List Nd) (A : Option Addr) (n c : Nat) (m : Nat) (seg : List Nd) (k0 : Nat) (w : World) (hm : seg.length ≤ m) (hS : SegV l k0 seg) (hl : Sees w A n l)
    (ih : ∀ (seg : List Nd) (k : Nat) (w : World), seg.length < m → SegV l k seg → Sees w A n l → Calls Try.prog 50 #[.slice A n c, .int .i64 (k : Int), .int .i64 ((k + seg.length : Nat) : Int)] w (VOk seg w)) :
    Calls Try.prog 50 #[.slice A n c, .int .i64 (k0 : Int), .int .i64 ((k0 + seg.length : Nat) : Int)] w (VOk seg w) := by
    have IH := Lib.hid ih
    clear ih
    have hln := hl.len
    have hbd := hl.bound
    have HL := Lib.hid hl
    have HS := Lib.hid hS
    have hsl := hS.len
    obtain ⟨E, hE⟩ : ∃ E, k0 + seg.length = E := ⟨_, rfl⟩
    rw [hE]
    obtain ⟨v, hv⟩ : ∃ v, forestB seg = v := ⟨_, rfl⟩
    have HV := Lib.hid hv
    clear hl hS hv
    go_enter Try.func50, Try.ntmps50
    go_wp2_with fail
    go_loopw [1] (fun i wr => ∃ (k : Nat) (rest : List Nd), i = .int .i64 k ∧ k + rest.length = E ∧ rest.length ≤ m ∧ Hid (forestB rest = v) ∧ SegV l k rest ∧ On w wr) (fun i _ => E - (intOf i).toNat)
    case atStart => exact ⟨k0, seg, rfl, hE, hm, HV, HS.out, On.refl w⟩
    case round =>
      clear HS
      obtain ⟨k, rest, rfl, hke, hrm, HF, hS, hon⟩ := hrel
      have HO := Lib.hid hon
      have hsk := hS.len
      clear hon
      cases rest with
      | nil =>
        have h1 : (E : Int) ≤ (k : Int) := by simp at hke; omega
        have HW := Lib.hid (show v = true by rw [← HF.out]; rfl)
        clear hS
        go_wp2_with fail
        go_ret
        exact ⟨ret_bool (by rw [HV.out, HW.out]), HO.out⟩
      | cons x t =>
        have hkl := hS.head
        have HSg := Lib.hid hS
        have hlen : k + 1 + t.length = E := by simp at hke; omega
        have him : t.length < m := by simp at hrm; omega
        have hlt : k < n := by simp at hsk; omega
        have hEn : E ≤ n := by simp at hsk; omega
        obtain ⟨b1, o1, m1, x1, rfl, hb1, e1, r1, s1⟩ := (HL.out.on HO.out).at_ hlt
        rw [hkl] at e1
        injection e1 with e1
        subst e1
        have hk2 : (k : Int) < (E : Int) := by omega
        have hk3 : (k : Int) < (n : Int) := by omega
        obtain ⟨hkd, hsd⟩ : x.kind = m1.kind ∧ x.size = m1.size := ⟨s1.1.1, s1.1.2.1⟩
        have R1 := Lib.hid (range_on r1)
        clear hS hkl r1 s1 hke hrm hsk
        go_wp2_with (first | ((with_reducible refine stop_load 45 (.tmp 13) ?_ ?_); exact rfl; refine Stop.intro ?_; refine wpList_load_mid rfl 45 (.tmp 13) rfl b1 (o1 + k * 20) rfl (encM m1) _ (R1.out wr (On.refl wr)) Try.underlying45 rfl (by kernel_rfl) ?_) | ((with_reducible refine stop_store 45 (.tmp 7) (.tmp 14) ?_ ?_); exact rfl))
        refine Stop.intro ?_
        refine wpList_store_row rfl 45 (.tmp 7) (.tmp 14) rfl wr.heap.size rfl 45 #[.int .i64 0, .int .i64 0, .int .i64 0, .int .i64 0, .int .i64 0, .int .i64 0, .int .i64 0, .int .i64 0, .int .i64 0, .int .i64 0, .int .i64 0, .int .i64 0, .int .i64 0, .int .i64 0, .int .i64 0, .int .i64 0, .slice none 0 0, .int .i64 0, .int .i64 0, .int .i64 0] (encM m1).toArray rfl (Blk.new wr 45 [.int .i64 0, .int .i64 0, .int .i64 0, .int .i64 0, .int .i64 0, .int .i64 0, .int .i64 0, .int .i64 0, .int .i64 0, .int .i64 0, .int .i64 0, .int .i64 0, .int .i64 0, .int .i64 0, .int .i64 0, .int .i64 0, .slice none 0 0, .int .i64 0, .int .i64 0, .int .i64 0] _ rfl _ rfl) (by kernel_rfl) rfl (encM_all7 m1) ?_
        intro V hV
        have hbV : On wr V := by rw [hV]; exact below_setRow ((Below.refl _ _).alloc (Nat.le_refl _) _) (Nat.le_refl _) _
        have hK := show Blk V wr.heap.size 45 (encM m1) by rw [hV]; exact Blk.row (Blk.new wr 45 [.int .i64 0, .int .i64 0, .int .i64 0, .int .i64 0, .int .i64 0, .int .i64 0, .int .i64 0, .int .i64 0, .int .i64 0, .int .i64 0, .int .i64 0, .int .i64 0, .int .i64 0, .int .i64 0, .int .i64 0, .int .i64 0, .slice none 0 0, .int .i64 0, .int .i64 0, .int .i64 0] _ rfl _ rfl) _ _ rfl
        have c0 := hK.box.2.2 0 _ rfl
        have c1' := hK.box.2.2 1 _ rfl
        have HBV := Lib.hid (below_then HO.out hbV)
        have hlt2 : wr.heap.size < V.heap.size := hK.box.1
        clear hV hbV hK
        obtain ⟨z, hz⟩ : ∃ z, m1.size = z := ⟨_, rfl⟩
        obtain ⟨q, hq⟩ : ∃ q, m1.kind = q := ⟨_, rfl⟩
        rw [hz] at c1' hsd
        rw [hq] at c0 hkd
        clear hz hq
        have HKD := Lib.hid hkd
        have HSD := Lib.hid hsd
        clear hkd hsd
        have hwr : IntKind.i64.wrap ((E : Int) - (k : Int)) = (E : Int) - (k : Int) := by rw [IntKind.wrap_i64]; omega
        by_cases z1 : z < 1
        · have HW := Lib.hid (show v = false by rw [← HF.out]; exact forest_no1 (by rw [HSD.out]; exact z1))
          go_wp2_with fail
          go_ret
          exact ⟨ret_bool (by rw [HV.out, HW.out]), HBV.out⟩
        by_cases z2 : (E : Int) - (k : Int) < z
        · have HW := Lib.hid (show v = false by rw [← HF.out]; exact forest_no2 (by rw [HSD.out]; omega))
          have z1' : 1 ≤ z := by omega
          clear z1
          go_wp2_with fail
          go_ret
          exact ⟨ret_bool (by rw [HV.out, HW.out]), HBV.out⟩
        have z1' : 1 ≤ z := by omega
        have z2' : z ≤ (E : Int) - (k : Int) := by omega
        clear z1 z2
        by_cases z3 : q ≠ 1 ∧ 1 < z
        · have HW := Lib.hid (show v = false by rw [← HF.out]; exact forest_no3 (by rw [HKD.out]; exact z3.1) (by rw [HSD.out]; exact z3.2))
          obtain ⟨z3, z4⟩ := z3
          have hqb : (q != 1) = true := by simpa using z3
          clear z3
          go_wp2_with fail
          go_ret
          exact ⟨ret_bool (by rw [HV.out, HW.out]), HBV.out⟩
        obtain ⟨g, hg⟩ : ∃ g : Nat, z = 1 + (g : Int) := ⟨z.toNat - 1, by omega⟩
        have hgl : g ≤ t.length := by omega
        have hq0 : q ≠ 1 → g = 0 := fun h => by
          rcases Nat.eq_zero_or_pos g with h0 | h0
          · exact h0
          · exact absurd ⟨h, by omega⟩ z3
        have HP := Lib.hid (forest_parts (x := x) (t := t) (g := g) (by rw [HSD.out]; exact hg) hgl (by rw [HKD.out]; exact hq0))
        have htk : (t.take g).length = g := by rw [List.length_take]; omega
        have hdl : (t.drop g).length = t.length - g := List.length_drop
        have hseg : SegV l k (x :: (t.take g ++ t.drop g)) := by rw [List.take_append_drop]; exact HSg.out
        obtain ⟨u, hu⟩ : ∃ u, forestB (t.take g) = u := ⟨_, rfl⟩
        have hca := fun (U : World) (hU : On w U) => IH.out (t.take g) (k + 1) U (by omega) hseg.inner (HL.out.on hU)
        have HSr := Lib.hid (by have h := hseg.rest; rw [htk] at h; exact h)
        rw [htk] at hca
        have HCA := Lib.hid hca
        have HU := Lib.hid hu
        have HDL := Lib.hid hdl
        have HQ0 := Lib.hid hq0
        clear hca hseg htk hdl hu hq0 z3
        subst hg
        have z5 : 1 + (g : Int) ≤ 9223372036854775807 := by omega
        have a1 : ((k + 1 : Nat) : Int) = (k : Int) + 1 := by omega
        have a2 : ((k + 1 + g : Nat) : Int) = (k : Int) + (1 + (g : Int)) := by omega
        rw [a1, a2] at HCA
        clear a1 a2
        by_cases hq1 : q = 1
        · have hqb : (q != 1) = false := by simp [hq1]
          clear HQ0 hq1
          go_wp2_with fail
          refine (HCA.out V HBV.out).mono ?_
          rintro e w5 ⟨rfl, hb5⟩
          rw [HU.out]
          have c15 : w5.cell? ⟨wr.heap.size, 1, none⟩ = some (.int .i64 (1 + (g : Int))) := (Below.cell (show Below V.heap.size V w5 from hb5) (p := ⟨wr.heap.size, 1, none⟩) hlt2).trans c1'
          have HB5 := Lib.hid (below_then HBV.out hb5)
          clear hb5 c0 c1'
          cases u with
          | false =>
            have HW := Lib.hid (show v = false by rw [← HF.out, HP.out, HU.out]; rfl)
            go_wp2_with fail
            go_ret
            exact ⟨ret_bool (by rw [HV.out, HW.out]), HB5.out⟩
          | true =>
            have HF2 := Lib.hid (show forestB (t.drop g) = v by rw [← HF.out, HP.out, HU.out]; rfl)
            go_wp2_with fail
            go_roundw
            case rel => exact ⟨k + (1 + g), t.drop g, by rw [show (k : Int) + (1 + (g : Int)) = ((k + (1 + g) : Nat) : Int) by omega], by rw [HDL.out]; omega, by rw [HDL.out]; omega, HF2, HSr.out, HB5.out⟩
            case measure => simp [intOf]; omega
        · have hqb : (q != 1) = true := by simp [hq1]
          obtain rfl : g = 0 := HQ0.out hq1
          have c1'' : V.cell? ⟨wr.heap.size, 1, none⟩ = some (.int .i64 1) := c1'
          have HCB := Lib.hid (fun (U : World) (hU : On w U) => (show Calls Try.prog 50 #[.slice (some ⟨b1, o1, none⟩) n c, .int .i64 ((k : Int) + 1), .int .i64 ((k : Int) + 1)] U (VOk (t.take 0) U) by
            have h := HCA.out U hU
            rw [show (k : Int) + (1 + ((0 : Nat) : Int)) = (k : Int) + 1 by omega] at h
            exact h))
          have y2 : (1 : Int) ≤ (E : Int) - (k : Int) := by omega
          clear HCA c1' z1' z2' z5 HQ0 hq1
          go_wp2_with fail
          refine (HCB.out V HBV.out).mono ?_
          rintro e w5 ⟨rfl, hb5⟩
          rw [show forestB (t.take 0) = true from rfl]
          have c15 : w5.cell? ⟨wr.heap.size, 1, none⟩ = some (.int .i64 1) := (Below.cell (show Below V.heap.size V w5 from hb5) (p := ⟨wr.heap.size, 1, none⟩) hlt2).trans c1''
          have HB5 := Lib.hid (below_then HBV.out hb5)
          clear hb5 c0 c1''
          have HF2 := Lib.hid (show forestB (t.drop 0) = v by rw [← HF.out, HP.out]; rfl)
          go_wp2_with fail
          go_roundw
          case rel => exact ⟨k + 1, t.drop 0, by go_num, by rw [HDL.out]; omega, by rw [HDL.out]; omega, HF2, HSr.out, HB5.out⟩
          case measure => simp [intOf]; omega
theorem vrows_any (l : List Nd) (A : Option Addr) (n c : Nat) (m : Nat) : ∀ (seg : List Nd) (k : Nat) (w : World), seg.length = m → SegV l k seg → Sees w A n l →
    Calls Try.prog 50 #[.slice A n c, .int .i64 (k : Int), .int .i64 ((k + seg.length : Nat) : Int)] w (VOk seg w) := by
  induction m using Nat.strongRecOn with
  | _ m ih => exact fun seg k w hm hS hl => vrows_step l A n c m seg k w (by omega) hS hl (fun seg' k' w' h1 h2 h3 => ih _ h1 seg' k' w' rfl h2 h3)
theorem vrows_all {l : List Nd} {A : Option Addr} {n c : Nat} {w : World} {v : Bool} (hv : forestB l = v) (hl : Sees w A n l) : Calls Try.prog 50 #[.slice A n c, .int .i64 0, .int .i64 (n : Int)] w fun e w' => e = .returned (.bool v) ∧ Below w.heap.size w w' := by
  have h := vrows_any l A n c _ l 0 w rfl (SegV.all l) hl
  rw [hl.len, Nat.zero_add] at h
  subst hv
  exact h
end Go.Proofs.Ytamakeogaipdiaa
