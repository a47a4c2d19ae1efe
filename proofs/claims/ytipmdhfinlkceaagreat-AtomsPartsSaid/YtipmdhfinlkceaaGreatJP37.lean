import Derived.Test.YtipmdhfinlkceaaGreatJP10
import Derived.Test.YtipmdhfinlkceaaGreatJP32
/- TreeIter. -/
set_option linter.unusedVariables false
set_option linter.unusedSimpArgs false
namespace Go.Proofs.YtipmdhfinlkceaaGreat
open Go.RowKit Go.Shelf
attribute [local go_sem] Oper.semAt_some
theorem cell_of {W : World} {b : Nat} {v : Value} {t : TypeId} (h : W.heap[b]? = some (.cells #[v] t)) : W.cell? ⟨b, 0, none⟩ = some v := by simp [World.cell?, h]
theorem above_len {L : List Nd} (a : Int) : (aboveI L a).length ≤ L.length := by
  unfold aboveI
  split
  · rename_i h
    obtain ⟨h1, h2⟩ := hasI_iff.1 h
    rw [List.length_map]
    unfold aboveP
    split
    · exact Nat.le_trans (up_len _) (by omega)
    · exact Nat.zero_le _
  · exact Nat.zero_le _
theorem holdsI_ord {L : List Nd} {i j : Nat} (hij : i ≤ j) (hj : j < L.length) : holdsI L (i : Int) (j : Int) = holdP L i j := by
  unfold holdsI
  rw [hasI_iff.2 ⟨by omega, by omega⟩, hasI_iff.2 ⟨by omega, by omega⟩, Int.toNat_natCast, Int.toNat_natCast]
  rfl
set_option maxRecDepth 100000 in
set_option maxHeartbeats 4000000 in
theorem above1_in (n l b : Nat) (w0 : World) {L : List Nd} (hn : Nested L) {A : Option Addr} {m c : Nat} (hm : m ≤ 100000) (a : Int) (hS : Sees w0 A m L)
    (hb : w0.heap[b]? = some (.cells #[.slice A m c] 62)) (hb1 : w0.heap[b + 1]? = some (.cells #[.int .i64 a] 3))
    (J Jx : List Int → World → Prop) (W : World) (hW : On w0 W) (hJ : AbidesFrom W.heap.size J)
    (hY : ∀ pre x W1, J pre W1 → pre.length < 100001 → YieldAt Fence.wide (n - 1) Tryz.prog l #[.int .i64 x] W1 fun e W' =>
      (e = .returned (.bool true) ∧ J (pre ++ [x]) W' ∧ Below w0.heap.size W1 W') ∨ (e = .returned (.bool false) ∧ Jx (pre ++ [x]) W'))
    (h0 : J [] W) :
    CallsIn Fence.wide n Tryz.prog 47 #[.func (.yield l) #[] #[], .pointer (some ⟨b, 0, none⟩), .pointer (some ⟨b + 1, 0, none⟩)] W fun e W' => (∃ v, e = .returned v) ∧
      ((∃ xs, xs = aboveI L a ∧ J xs W') ∨ (∃ pre, pre <+: aboveI L a ∧ Jx pre W')) := by
  have hl := hS.len
  have hcb := Lib.hid (show ∀ V, On w0 V → V.cell? ⟨b, 0, none⟩ = some (.slice A m c) from On.cell (cell_of hb))
  have hca := Lib.hid (show ∀ V, On w0 V → V.cell? ⟨b + 1, 0, none⟩ = some (.int .i64 a) from On.cell (cell_of hb1))
  have HS := Lib.hid hS
  have HY := Lib.hid hY
  have HJ := Lib.hid hJ
  have HL := Lib.hid hl
  have HN := Lib.hid hn
  have c1 := hcb.out W hW
  have c2 := hca.out W hW
  clear hS hb hb1 hY hJ hl hn
  refine callsIn_of_wp Tryz.func47 rfl trivial ?_ rfl
  simp only [Tryz.ntmps47, List.size_toArray, List.length_cons, List.length_nil, Nat.reduceAdd, Nat.reduceSub, Array.replicate_succ, Array.replicate_zero, List.push_toArray, List.append_toArray, List.nil_append, List.cons_append]
  rcases hq : hasI L a with _ | _
  · have HQ := Lib.hid hq
    have HA := Lib.hid (show aboveI L a = [] by unfold aboveI; rw [hq]; rfl)
    clear hq
    gi_wp2_with (refine ⟨trivial, wide_deep _, ?_⟩; gi_at_call 48; refine (callsIn_wide.2 (thas_to HQ.out (HS.out.below hW))).mono ?_; rintro e w' ⟨rfl, rfl⟩)
    refine bodyPost_ret (results_none rfl _ _ _) rfl ?_
    exact ⟨⟨_, rfl⟩, .inl ⟨[], HA.out.symm, h0⟩⟩
  obtain ⟨a0, a1⟩ := hasI_iff.1 hq
  obtain ⟨j, rfl⟩ : ∃ j : Nat, a = (j : Int) := ⟨a.toNat, by omega⟩
  have hjL : j < L.length := by omega
  have hjm : j ≤ 100000 := by have := HL.out; omega
  have HQ := Lib.hid hq
  have HA := Lib.hid (show aboveI L (j : Int) = (backTo L j j).map (fun i : Nat => (i : Int)) by rw [aboveI_nat hjL]; unfold aboveP; rw [if_pos hjL])
  clear hq a0 a1
  gi_wp2_with (refine ⟨trivial, wide_deep _, ?_⟩; gi_at_call 48; refine (callsIn_wide.2 (thas_to HQ.out (HS.out.below hW))).mono ?_; rintro e w' ⟨rfl, rfl⟩)
  have HH0 := Lib.hid h0
  have HW := Lib.hid hW
  clear h0 hW c1 c2
  gi_loopw [4] (fun i wr => ∃ (k : Nat) (z : Int) (pre : List Int), i = .int .i64 z ∧ z + 1 = (k : Int) ∧ k ≤ j ∧ Hid (pre ++ (backTo L j k).map (fun i : Nat => (i : Int)) = aboveI L (j : Int)) ∧ Hid (J pre wr) ∧ Hid (On w0 wr) ∧ Hid (W.heap.size ≤ wr.heap.size)) (fun i _ => (intOf i + 1).toNat)
  case atStart => exact ⟨j, _, [], rfl, by omega, Nat.le_refl _, Lib.hid (by rw [HA.out]; rfl), HH0, HW, Lib.hid (Nat.le_refl _)⟩
  case round =>
    obtain ⟨k, z, pre, rfl, hz, hkj, HP, HJp, HO, HG⟩ := hrel
    cases k with
    | zero =>
      obtain rfl : z = -1 := by omega
      gi_wp2
      go_end0
      exact ⟨⟨_, rfl⟩, .inl ⟨pre, by have := HP.out; simpa [backTo] using this, HJp.out⟩⟩
    | succ k =>
      obtain rfl : z = (k : Int) := by omega
      have c1 := hcb.out wr HO.out
      have c2 := hca.out wr HO.out
      have hlen : pre.length < 100001 := by
        have h1 := congrArg List.length HP.out
        have h2 := above_len (L := L) (j : Int)
        have h3 := HL.out
        simp at h1; omega
      have hho := holdsI_ord (L := L) (i := k) (j := j) (by omega) hjL
      rcases hhq : holdP L k j with _ | _
      · rw [hhq] at hho
        have HHO := Lib.hid hho
        have HP2 := Lib.hid (show pre ++ (backTo L j k).map (fun i : Nat => (i : Int)) = aboveI L (j : Int) by have := HP.out; rw [up_succ, hhq, if_neg (by decide)] at this; exact this)
        clear hho hhq hz
        gi_wp2_with (refine ⟨trivial, wide_deep _, ?_⟩; gi_at_call 49; refine (callsIn_wide.2 (tholds_to HN.out HHO.out (HS.out.below HO.out) hm)).mono ?_; rintro e w3 ⟨rfl, hb3⟩; have HO3 := Lib.hid (HO.out.step hb3); have HJ3 := Lib.hid (HJ.out pre wr w3 none HJp.out (grown_of_below hb3 none) (fun r e => by cases e)); have HG3 := Lib.hid (Nat.le_trans HG.out hb3.size); clear hb3)
        refine ⟨fun _ h => (by cases h), ?_⟩
        gi_wp2
        go_roundw
        case rel => exact ⟨k, (k : Int) - 1, pre, by go_num, by omega, by omega, HP2, HJ3, HO3, HG3⟩
        case measure => simp [intOf] <;> omega
      · rw [hhq] at hho
        have HHO := Lib.hid hho
        have HP2 := Lib.hid (show (pre ++ [(k : Int)]) ++ (backTo L j k).map (fun i : Nat => (i : Int)) = aboveI L (j : Int) by have := HP.out; rw [up_succ, hhq, if_pos rfl] at this; simpa using this)
        clear hho hhq hz
        gi_wp2_with (refine ⟨trivial, wide_deep _, ?_⟩; gi_at_call 49; refine (callsIn_wide.2 (tholds_to HN.out HHO.out (HS.out.below HO.out) hm)).mono ?_; rintro e w3 ⟨rfl, hb3⟩; have HO3 := Lib.hid (HO.out.step hb3); have hJ3 := HJ.out pre wr w3 none HJp.out (grown_of_below hb3 none) (fun r e => by cases e); obtain ⟨fn, tmps, assign, body, hy, hR⟩ := HY.out pre (k : Int) w3 hJ3 hlen; have HG3 := Lib.hid (Nat.le_trans HG.out hb3.size); clear hb3 hJ3)
        refine ⟨wide_deep _, ?_⟩
        refine hR.mono ?_
        rintro e W3 (⟨rfl, hJ4, hk4⟩ | ⟨rfl, hx4⟩)
        · have HJ4 := Lib.hid hJ4
          have HO4 := Lib.hid (HO3.out.trans hk4)
          have HG4 := Lib.hid (Nat.le_trans HG3.out hk4.size)
          clear hJ4 hk4 hy hR
          gi_wp2
          go_roundw
          case rel => exact ⟨k, (k : Int) - 1, pre ++ [(k : Int)], by go_num, by omega, by omega, HP2, HJ4, HO4, HG4⟩
          case measure => simp [intOf] <;> omega
        · gi_wp2
          refine bodyPost_ret (results_none rfl _ _ _) rfl ?_
          exact ⟨⟨_, rfl⟩, .inr ⟨pre ++ [(k : Int)], ⟨_, HP2.out⟩, hx4⟩⟩
theorem above_stops (b : Nat) (w0 : World) {L : List Nd} (hn : Nested L) {A : Option Addr} {m c : Nat} (hm : m ≤ 100000) (a : Int) (hS : Sees w0 A m L)
    (hb : w0.heap[b]? = some (.cells #[.slice A m c] 62)) (hb1 : w0.heap[b + 1]? = some (.cells #[.int .i64 a] 3)) (n : Nat) :
    SeqStopsK Fence.wide n Tryz.prog 47 #[.pointer (some ⟨b, 0, none⟩), .pointer (some ⟨b + 1, 0, none⟩)] (fun x : Int => #[Value.int .i64 x]) (Below w0.heap.size) (fun xs => xs = aboveI L a) (fun pre => pre <+: aboveI L a) 100001 w0 :=
  fun l J Jx W hW hJ hJx hY h0 => above1_in n l b w0 hn hm a hS hb hb1 J Jx W hW hJ hY h0
set_option maxRecDepth 100000 in
set_option maxHeartbeats 4000000 in
theorem kids1_in (n l b : Nat) (w0 : World) {L : List Nd} (hn : Nested L) {A : Option Addr} {m c : Nat} (hm : m ≤ 100000) (a : Int) (hS : Sees w0 A m L)
    (hb : w0.heap[b]? = some (.cells #[.slice A m c] 62)) (hb1 : w0.heap[b + 1]? = some (.cells #[.int .i64 a] 3))
    (J Jx : List Int → World → Prop) (W : World) (hW : On w0 W) (hJ : AbidesFrom W.heap.size J)
    (hY : ∀ pre x W1, J pre W1 → pre.length < 100001 → YieldAt Fence.wide (n - 1) Tryz.prog l #[.int .i64 x] W1 fun e W' =>
      (e = .returned (.bool true) ∧ J (pre ++ [x]) W' ∧ Below w0.heap.size W1 W') ∨ (e = .returned (.bool false) ∧ Jx (pre ++ [x]) W'))
    (h0 : J [] W) :
    CallsIn Fence.wide n Tryz.prog 52 #[.func (.yield l) #[] #[], .pointer (some ⟨b, 0, none⟩), .pointer (some ⟨b + 1, 0, none⟩)] W fun e W' => (∃ v, e = .returned v) ∧
      ((∃ xs, xs = kidsI L a ∧ J xs W') ∨ (∃ pre, pre <+: kidsI L a ∧ Jx pre W')) := by
  have hl := hS.len
  have hcb := Lib.hid (show ∀ V, On w0 V → V.cell? ⟨b, 0, none⟩ = some (.slice A m c) from On.cell (cell_of hb))
  have hca := Lib.hid (show ∀ V, On w0 V → V.cell? ⟨b + 1, 0, none⟩ = some (.int .i64 a) from On.cell (cell_of hb1))
  have HS := Lib.hid hS
  have HY := Lib.hid hY
  have HJ := Lib.hid hJ
  have HL := Lib.hid hl
  have HN := Lib.hid hn
  have c1 := hcb.out W hW
  have c2 := hca.out W hW
  obtain ⟨⟨p, q⟩, hpq⟩ : ∃ r, innerI L a = r := ⟨_, rfl⟩
  obtain ⟨k0, hk0, hkl0, hql, hkf, hka⟩ := kidAt_start hn hpq
  subst hk0
  have hkm : k0 ≤ 100001 := by omega
  have hqm : q ≤ (m : Int) := by omega
  have HPQ := Lib.hid hpq
  have HKF := Lib.hid hkf
  have HKA := Lib.hid hka
  clear hS hb hb1 hY hJ hl hn hpq hkf hka hql
  refine callsIn_of_wp Tryz.func52 rfl trivial ?_ rfl
  simp only [Tryz.ntmps52, List.size_toArray, List.length_cons, List.length_nil, Nat.reduceAdd, Nat.reduceSub, Array.replicate_succ, Array.replicate_zero, List.push_toArray, List.append_toArray, List.nil_append, List.cons_append]
  gi_wp2_with (refine ⟨trivial, wide_deep _, ?_⟩; gi_at_call 53; refine (callsIn_wide.2 (tinner_to HN.out HPQ.out (HS.out.below hW) hm)).mono ?_; rintro e w1 ⟨rfl, hb1⟩; have HO1 := Lib.hid (On.step hW hb1); have HJ1 := Lib.hid (HJ.out [] W w1 none h0 (grown_of_below hb1 none) (fun r e => by cases e)); have HG1 := Lib.hid hb1.size; clear hb1)
  clear h0 hW c1 c2
  gi_loopw [6] (fun i wr => ∃ (k : Nat) (pre : List Int), i = .int .i64 (k : Int) ∧ k ≤ 100001 ∧ Hid (pre ++ kidsFrom L a k = kidsI L a) ∧ Hid (KidAt L a q k) ∧ Hid (J pre wr) ∧ Hid (On w0 wr)) (fun i _ => (q - intOf i).toNat)
  case atStart => exact ⟨k0, [], rfl, hkm, Lib.hid (by rw [HKF.out]; rfl), HKA, HJ1, HO1⟩
  case round =>
    obtain ⟨k, pre, rfl, hkb, HP, HK, HJp, HO⟩ := hrel
    by_cases hlt : (k : Int) < q
    · obtain ⟨hpk, hkL⟩ : parentI L (k : Int) = a ∧ k < L.length := by
        rcases HK.out with ⟨h1, _⟩ | ⟨_, h2, h3⟩
        · omega
        · exact ⟨h2, h3⟩
      have hx : L[k]? = some (L[k]'hkL) := List.getElem?_eq_getElem _
      obtain ⟨x, hxx⟩ : ∃ x, L[k]'hkL = x := ⟨_, rfl⟩
      rw [hxx] at hx
      obtain ⟨e0, he0, hke, heq, hkc, hke2⟩ := kidAt_step HN.out HPQ.out hx hpk hlt
      have hlen : pre.length < 100001 := by
        have h1 := congrArg List.length HP.out
        have h2 : (kidsI L a).length ≤ L.length := by
          rw [kids_nat, List.length_map]
          exact Nat.le_trans (List.length_filter_le _ _) (by rw [List.length_range]; exact Nat.le_refl _)
        have h3 := HL.out
        simp at h1; omega
      have c1 := hcb.out wr HO.out
      obtain ⟨fn, tmps, assign, body, hy, hR⟩ := HY.out pre (k : Int) wr HJp.out hlen
      have HX := Lib.hid hx
      have HE := Lib.hid he0
      have HP2 := Lib.hid (show (pre ++ [(k : Int)]) ++ kidsFrom L a e0 = kidsI L a by have := HP.out; rw [hkc] at this; simpa using this)
      have HK2 := Lib.hid hke2
      have heb : e0 ≤ 100001 := by omega
      clear hx hxx he0 hkc hke2 hlen hpk
      gi_wp2_with (fail)
      refine ⟨wide_deep _, ?_⟩
      refine hR.mono ?_
      rintro e W3 (⟨rfl, hJ4, hk4⟩ | ⟨rfl, hx4⟩)
      · have HJ4 := Lib.hid hJ4
        have HO4 := Lib.hid (HO.out.trans hk4)
        have c3 := hcb.out W3 HO4.out
        clear hJ4 hk4 hy hR c1
        gi_wp2_with (refine ⟨trivial, wide_deep _, ?_⟩; gi_at_call 36; refine (callsIn_wide.2 (tend_to HN.out HX.out HE.out (HS.out.below HO4.out) hm)).mono ?_; rintro e w' ⟨rfl, rfl⟩)
        go_roundw
        case rel => exact ⟨e0, pre ++ [(k : Int)], rfl, heb, HP2, HK2, HJ4, HO4⟩
        case measure => simp [intOf] <;> omega
      · gi_wp2
        go_end0
        exact ⟨⟨_, rfl⟩, .inr ⟨pre ++ [(k : Int)], ⟨_, HP2.out⟩, hx4⟩⟩
    · have hge : q ≤ (k : Int) := by omega
      gi_wp2_with (fail)
      refine ⟨fun _ h => (by cases h), ?_⟩
      gi_wp2
      go_end0
      refine ⟨⟨_, rfl⟩, .inl ⟨pre, ?_, HJp.out⟩⟩
      rcases HK.out with ⟨_, h2⟩ | ⟨h1, _⟩
      · have := HP.out
        rw [h2, List.append_nil] at this
        exact this
      · omega
theorem kids_stops (b : Nat) (w0 : World) {L : List Nd} (hn : Nested L) {A : Option Addr} {m c : Nat} (hm : m ≤ 100000) (a : Int) (hS : Sees w0 A m L)
    (hb : w0.heap[b]? = some (.cells #[.slice A m c] 62)) (hb1 : w0.heap[b + 1]? = some (.cells #[.int .i64 a] 3)) (n : Nat) :
    SeqStopsK Fence.wide n Tryz.prog 52 #[.pointer (some ⟨b, 0, none⟩), .pointer (some ⟨b + 1, 0, none⟩)] (fun x : Int => #[Value.int .i64 x]) (Below w0.heap.size) (fun xs => xs = kidsI L a) (fun pre => pre <+: kidsI L a) 100001 w0 :=
  fun l J Jx W hW hJ hJx hY h0 => kids1_in n l b w0 hn hm a hS hb hb1 J Jx W hW hJ hY h0
end Go.Proofs.YtipmdhfinlkceaaGreat
