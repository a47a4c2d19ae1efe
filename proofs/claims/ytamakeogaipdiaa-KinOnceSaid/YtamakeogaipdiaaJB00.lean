import Derived.Test.YtamakeogaipdiaaJA31
/- The walk of the law KinOnce. (Written by program: tools/drafts/genonce16.py.) -/
namespace Go.Proofs.Ytamakeogaipdiaa
open Go.RowKit
set_option linter.unusedVariables false
set_option linter.unusedSimpArgs false
theorem kn_info16 : (Try.prog.info? 28).map (fun i => (i.zero, i.size, i.bytes)) = some (some (.agg #[.slice none 0 0, .slice none 0 0, .slice none 0 0, .int .i64 0]), 4, 80) := by kernel_rfl
theorem kns_one16 (l : List KnM) : ∀ u ∈ l.flatMap encKn, u.oneCell' = true := by
  intro u hu
  obtain ⟨f, _, hf⟩ := List.mem_flatMap.1 hu
  exact encKn_one f u hf
theorem cells_kn16 (w : World) (m : KnM) (t : TypeId) (n : Nat) (hn : n = w.heap.size) (cs : Array Value) (hc : cs = (encKn m).toArray) : Cells (w.alloc (.cells cs t)) (some ⟨n, 0, none⟩) 1 4 (encKn m) := by
  subst hn hc
  exact ⟨rfl, by decide, fun _ => ⟨w.heap.size, 0, rfl, by simp, fun j u hu => by rw [Nat.zero_add]; exact (Box.new w (encKn m) t).2.2 j u hu⟩⟩
set_option maxHeartbeats 1000000 in
/-- how often a number stands in a row. -/
theorem kamong_to {zs : List Int} {x : Int} {z : Nat} (hv : cntK zs x = z) {A : Option Addr} {n c : Nat} {w : World} (hI : Ints w A n zs) (hn : n ≤ 1000000) :
    Calls Try.prog 18 #[.slice A n c, .int .i64 x] w fun e w' => e = .returned (.int .i64 (z : Int)) ∧ w = w' := by
  have HI := Lib.hid hI
  have HL := Lib.hid hI.1
  have HV := Lib.hid hv
  clear hI hv
  go_enter Try.func18, Try.ntmps18
  go_wp2_with fail
  go_loopw [5, 6] (fun c' i wr => ∃ t : Nat, c' = .int .i64 ((cntK (zs.take t) x : Nat) : Int) ∧ i = .int .i64 (t : Int) ∧ t ≤ n ∧ wr = w) (fun _ i _ => n - (intOf i).toNat)
  case atStart => exact ⟨0, rfl, rfl, Nat.zero_le _, rfl⟩
  case round =>
    obtain ⟨t, rfl, rfl, htn, rfl⟩ := hrel
    obtain ⟨g, hg⟩ : ∃ g, cntK (zs.take t) x = g := ⟨_, rfl⟩
    rw [hg]
    have hgt : g ≤ t := by rw [← hg]; exact cnt_le _ _ _
    by_cases htl : t < n
    · have htl2 : (t : Int) < (n : Int) := by omega
      have ht0 : (0 : Int) ≤ (t : Int) := by omega
      obtain ⟨a, ha⟩ : ∃ a, zs[t]? = some a := ⟨_, List.getElem?_eq_getElem (by have := HL.out; omega)⟩
      obtain ⟨b1, o1, rfl, hb1, c9⟩ := HI.out.2.2 (by omega)
      have c1 := c9 t htl
      rw [ha, Option.getD_some] at c1
      have hwt : IntKind.i64.wrap ((t : Int) + 1) = (t : Int) + 1 := IntWalk.i64_in _ (by omega)
      have hwg : IntKind.i64.wrap ((g : Int) + 1) = (g : Int) + 1 := IntWalk.i64_in _ (by omega)
      have HCS := Lib.hid (cnt_succ ha x)
      rw [hg] at HCS
      clear ha hg c9
      by_cases hax : a = x
      · have hq : (a == x) = true := by simpa using hax
        have HC2 := Lib.hid (show cntK (zs.take (t + 1)) x = g + 1 by rw [HCS.out, if_pos hax])
        clear hax
        go_wp2_with fail
        go_roundw
        case rel => exact ⟨t + 1, by rw [HC2.out]; go_num, by go_num, by omega, trivial⟩
        case measure => simp [intOf] <;> omega
      · have hq : (a == x) = false := by simpa using hax
        have HC2 := Lib.hid (show cntK (zs.take (t + 1)) x = g by rw [HCS.out, if_neg hax]; rfl)
        clear hax
        go_wp2_with fail
        go_roundw
        case rel => exact ⟨t + 1, by rw [HC2.out], by go_num, by omega, trivial⟩
        case measure => simp [intOf] <;> omega
    · obtain rfl : t = n := by omega
      have hle : (t : Int) ≤ (t : Int) := Int.le_refl _
      have HE := Lib.hid (show g = z by rw [← hg, ← HV.out, List.take_of_length_le (by have := HL.out; omega)])
      clear hg
      go_wp2_with fail
      go_ret
      exact ⟨ret_int (by rw [HE.out]), rfl⟩
theorem cnt_rev (l : List Int) (a : Int) : cntK l.reverse a = cntK l a := by
  unfold cntK
  rw [List.filter_reverse, List.length_reverse]
theorem cnt_ints (p : Nat → Bool) {n b : Nat} (hb : b < n) {v : Bool} (hp : p b = v) : cntK (intsK p n) (b : Int) = if v then 1 else 0 := by
  subst hp
  exact among_ints p n b hb
/-- what a block's numbers are at a place. -/
theorem cnt_kin {L : List Nd} {of : List Int} (h : KinOk L of) {b : Nat} {x : Nd} (hx : L[b]? = some x) {p q k : Int} (hv : heldK L of (b : Int) = (p, q)) (h0 : 0 ≤ k) (h1 : k ≤ (of.length : Int)) :
    cntK (kinK L of k).begs (b : Int) = (if decide (p < q) && decide (k = p) then 1 else 0) ∧ cntK (kinK L of k).ends (b : Int) = (if decide (p < q) && decide (k = q) then 1 else 0) ∧ cntK (kinK L of k).both (b : Int) = (if decide (p < q) && (decide (p < k) && decide (k < q)) then 1 else 0) := by
  obtain ⟨e1, e2, e3⟩ := kin_once h hx hv h0 h1
  have hb := (List.getElem?_eq_some_iff.1 hx).1
  unfold kinK
  simp only
  exact ⟨cnt_ints _ hb e1, by rw [cnt_rev]; exact cnt_ints _ hb e2, by rw [cnt_rev]; exact cnt_ints _ hb e3⟩
/-- where a block's atoms lie. -/
theorem held_facts {L : List Nd} {of : List Int} (h : KinOk L of) {b : Nat} {x : Nd} (hx : L[b]? = some x) {p q : Int} (hv : heldK L of (b : Int) = (p, q)) (hpq : p < q) :
    x.kind = 1 ∧ ∃ P Q : Nat, p = (P : Int) ∧ q = (Q : Int) ∧ P < Q ∧ Q ≤ of.length ∧ (∃ j, of[P]? = some ((j : Nat) : Int) ∧ holdsI L (b : Int) (j : Int) = true) ∧ (∃ j, of[Q - 1]? = some ((j : Nat) : Int) ∧ holdsI L (b : Int) (j : Int) = true) := by
  rw [heldK_nat of hx] at hv
  by_cases hc : x.kind = 1 ∧ cutI of (b : Int) < cutI of ((b : Int) + x.size)
  · rw [if_pos hc] at hv
    injection hv with e1 e2
    have hq := cutI_le of ((b : Int) + x.size)
    have hb := (List.getElem?_eq_some_iff.1 hx).1
    have at_ : ∀ i : Nat, cutI of (b : Int) ≤ i → i < cutI of ((b : Int) + x.size) → ∃ j, of[i]? = some ((j : Nat) : Int) ∧ holdsI L (b : Int) (j : Int) = true := fun i h1 h2 => by
      have ha : of[i]? = some (of[i]'(by omega)) := List.getElem?_eq_getElem _
      obtain ⟨j, y, e, hy, _⟩ := h.leaf _ _ ha
      have ha : of[i]? = some (j : Int) := by rw [ha, e]
      refine ⟨j, ha, ?_⟩
      rw [holdsI_nat hb (List.getElem?_eq_some_iff.1 hy).1, ← holdA_at (L := L) (b := b) ha]
      exact (holdA_iff h hx).2 ⟨⟨by omega, by omega⟩, by omega, by omega⟩
    exact ⟨hc.1, _, _, e1.symm, e2.symm, hc.2, hq, at_ _ (Nat.le_refl _) hc.2, at_ _ (by omega) (by omega)⟩
  · rw [if_neg hc] at hv
    injection hv with e1 e2
    omega
theorem held_none {L : List Nd} {of : List Int} {b : Nat} {x : Nd} (hx : L[b]? = some x) {p q : Int} (hv : heldK L of (b : Int) = (p, q)) (hpq : ¬ p < q) : p = 0 ∧ q = 0 := by
  rw [heldK_nat of hx] at hv
  split at hv
  · rename_i hc
    injection hv with e1 e2
    omega
  · injection hv with e1 e2
    exact ⟨e1.symm, e2.symm⟩
/-- all kin, in memory: a row of the call's own. -/
structure AllKin (base : Nat) (L : List Nd) (of : List Int) (w : World) (A : Option Addr) (k c : Nat) (ms : List KnM) : Prop where
  own : w.ownsRow base 28 4 (.slice A k c) k (ms.flatMap encKn)
  len : ms.length = k
  kin : ∀ (i : Nat) (mm : KnM), ms[i]? = some mm → KnOwn base w mm (kinK L of (i : Int))
theorem AllKin.below {base : Nat} {L : List Nd} {of : List Int} {w w' : World} {A : Option Addr} {k c : Nat} {ms : List KnM} (h : AllKin base L of w A k c ms) (hb : Below w.heap.size w w') : AllKin base L of w' A k c ms :=
  ⟨owns_below h.own hb, h.len, fun i mm hi => (h.kin i mm hi).below hb⟩
/-- one more. -/
theorem AllKin.push {base : Nat} {L : List Nd} {of : List Int} {w w' : World} {A A' : Option Addr} {k c c' : Nat} {ms : List KnM} {mm : KnM} (h : AllKin base L of w A k c ms) (hk : KnOwn base w mm (kinK L of (k : Int)))
    (hown : w'.ownsRow base 28 4 (.slice A' (k + 1) c') (k + 1) (ms.flatMap encKn ++ encKn mm)) (hg : w.grownBy w' (Value.slice A k c).ownBlock) : AllKin base L of w' A' (k + 1) c' (ms ++ [mm]) := by
  refine ⟨by rw [List.flatMap_append]; simpa using hown, by rw [List.length_append, h.len]; rfl, fun i m' hi => ?_⟩
  rcases Nat.lt_or_ge i ms.length with h1 | h1
  · rw [List.getElem?_append_left h1] at hi
    exact (h.kin i m' hi).grown h.own (by decide) hg
  · rw [List.getElem?_append_right h1] at hi
    have h2 : i = k := by
      have := (List.getElem?_eq_some_iff.1 hi).1
      have := h.len
      simp at *
      omega
    subst h2
    rw [show i - ms.length = 0 by have := h.len; omega] at hi
    simp at hi
    subst hi
    exact hk.grown h.own (by decide) hg
set_option maxHeartbeats 16000000 in
set_option maxRecDepth 100000 in
theorem kinonce_all {L : List Nd} {of : List Int} {A B : Option Addr} {n c m d : Nat} {w : World} (hS : Sees w A n L) (hI : Ints w B m of) :
    Calls Try.prog 4 #[.slice A n c, .slice B m d] w fun e w' => e = .returned (.bool true) ∧ Below w.heap.size w w' := by
  have HS := Lib.hid hS
  have HI := Lib.hid hI
  have HLN := Lib.hid hS.len
  have HLO := Lib.hid hI.1
  have hnb := hS.bound
  have hmb := hI.2.1
  obtain ⟨i0, hi0, hz0, hz1, hz2⟩ := info_parts kn_info16
  rcases hv : vast16 L of with _ | _
  rotate_left
  · have HV := Lib.hid hv
    clear hv hS hI
    go_enter Try.func4, Try.ntmps4
    go_wp2_with fail
    refine (vast16_to HV.out HS.out HI.out).mono ?_
    rintro e w1 ⟨rfl, rfl⟩
    go_wp2_with fail
    refine (awake16_any _).mono ?_
    rintro e w2 ⟨rfl, hb⟩
    have HB := Lib.hid hb
    clear hb
    go_wp2_with fail
    go_ret
    exact ⟨rfl, HB.out⟩
  have HV := Lib.hid hv
  obtain ⟨v1, v2, v3⟩ := vast16_no hv
  have hn : n ≤ 60 := by have := HLN.out; omega
  have hm : m ≤ 200 := by have := HLO.out; omega
  have HP := Lib.hid (show PreV L w A n from ⟨hS, by omega⟩)
  clear hv hS hI v1 v2 v3
  rcases hk : kinB L of with _ | _
  · have HC := Lib.hid (show chkK L of = 4 by unfold chkK; rw [hk]; rfl)
    clear hk
    go_enter Try.func4, Try.ntmps4
    go_wp2_with fail
    refine (vast16_to HV.out HS.out HI.out).mono ?_
    rintro e w1 ⟨rfl, rfl⟩
    go_wp2_with fail
    refine (kCheck_to HC.out HP.out HI.out (by omega)).mono ?_
    rintro e w1 ⟨rfl, hb⟩
    have HB := Lib.hid hb
    clear hb
    go_wp2_with fail
    refine (awake16_any _).mono ?_
    rintro e w2 ⟨rfl, hb⟩
    have HB2 := Lib.hid (below_then HB.out hb)
    clear hb
    go_wp2_with fail
    go_ret
    exact ⟨rfl, HB2.out⟩
  have HC := Lib.hid (show chkK L of = 0 by unfold chkK; rw [hk]; rfl)
  have HKB := Lib.hid hk
  have HKO := Lib.hid (kin_ok hk)
  have HOD := Lib.hid (show ordL L = L by unfold ordL; rw [if_pos ((docB_iff L).2 HKO.out.doc)])
  clear hk
  go_enter Try.func4, Try.ntmps4
  go_wp2_with fail
  refine (vast16_to HV.out HS.out HI.out).mono ?_
  rintro e w1 ⟨rfl, rfl⟩
  go_wp2_with fail
  refine (kCheck_to HC.out HP.out HI.out (by omega)).mono ?_
  rintro e w1 ⟨rfl, hb⟩
  have HO1 := Lib.hid (show On w w1 from hb)
  clear hb
  go_wp2_with fail
  go_loopw [5, 6, 7, 8] (fun al i xp er wr => ∃ (k : Nat) (A9 : Option Addr) (c9 : Nat) (ms : List KnM), al = .slice A9 k c9 ∧ i = .int .i64 (k : Int) ∧ k ≤ m + 1 ∧ Hid (AllKin w1.heap.size L of wr A9 k c9 ms) ∧ Hid (On w1 wr)) (fun _ i _ _ _ => m + 1 - (intOf i).toNat)
  case atStart => exact ⟨0, none, 0, [], rfl, rfl, Nat.zero_le _, Lib.hid ⟨owns_nil _ _ _ _, rfl, fun i mm h => by simp at h⟩, Lib.hid (On.refl _)⟩
  case round =>
    obtain ⟨k, A9, c9, ms, rfl, rfl, hkm, HA, HO⟩ := hrel
    have HOW := Lib.hid (HO1.out.step HO.out)
    by_cases hlt : k ≤ m
    · have hlt2 : (k : Int) ≤ (m : Int) := by omega
      have hwk : IntKind.i64.wrap ((k : Int) + 1) = (k : Int) + 1 := IntWalk.i64_in _ (by omega)
      have hws := HO.out.size
      go_wp2_with fail
      refine (kAtOwn_to HKB.out (HP.out.below HOW.out) (HI.out.below HOW.out rfl) (by omega) hlt).mono ?_
      rintro e w4 ⟨⟨A1, n1, c1, A2, n2, c2, A3, n3, c3, t⟩, he, hs, hb⟩
      obtain rfl : e = .returned (.tuple #[.agg #[.slice A1 n1 c1, .slice A2 n2 c2, .slice A3 n3 c3, .int .i64 t], .int .i64 0]) := he
      have HK := Lib.hid (hs.base hws)
      have H4 := Lib.hid (show On wr w4 from hb)
      clear hs hb
      go_wp2_with ((with_reducible refine stop_dst 45 ?_ ?_); exact rfl)
      refine Stop.intro ?_
      have hU : On w4 ((w4.alloc (.cells #[.slice A1 n1 c1, .slice A2 n2 c2, .slice A3 n3 c3, .int .i64 t] 28)).alloc (.cells #[.slice A1 n1 c1, .slice A2 n2 c2, .slice A3 n3 c3, .int .i64 t] 28)) := On.alloc (On.alloc (On.refl w4) _) _
      have hAU := (HA.out.below H4.out).below hU
      have hKU := HK.out.below hU
      have hCU := cells_kn16 (w4.alloc (.cells #[.slice A1 n1 c1, .slice A2 n2 c2, .slice A3 n3 c3, .int .i64 t] 28)) ⟨A1, n1, c1, A2, n2, c2, A3, n3, c3, t⟩ 28 (w4.heap.size + 1) (by simp) #[.slice A1 n1 c1, .slice A2 n2 c2, .slice A3 n3 c3, .int .i64 t] rfl
      refine wpList_append_cells _ rfl (.tmp 42) (.tmp 44) _ rfl w1.heap.size 28 i0 (.agg #[.slice none 0 0, .slice none 0 0, .slice none 0 0, .int .i64 0]) 4 80 Try.underlying40 hi0 hz0 hz1 hz2 rfl (by decide) (.slice A9 k c9) k _ rfl hAU.own (some ⟨w4.heap.size + 1, 0, none⟩) 1 1 _ rfl hCU (encKn_one _) (by unfold maxLen; omega) (by omega) (by have := H4.out.size; simp; omega) ?_
      intro A8 c8 w8 hown hg
      have hbk := owns_block hAU.own
      have HA8 := Lib.hid (hAU.push hKU hown hg)
      have HO8 := Lib.hid (show On w1 w8 from below_grown16 ((HO.out.step H4.out).step hU) hg hbk)
      clear hU hAU hKU hCU hown hg hbk
      go_wp2_with fail
      go_roundw
      case rel => exact ⟨k + 1, A8, c8, _, rfl, by go_num, by omega, HA8, HO8⟩
      case measure => simp [intOf] <;> omega
    · have hgt : (m : Int) < (k : Int) := by omega
      have hgd : decide ((k : Int) ≤ (m : Int)) = false := decide_eq_false (by omega)
      have hgd' : decide (k ≤ m) = false := decide_eq_false hlt
      have HKM := Lib.hid (show k = m + 1 by omega)
      have HALL := Lib.hid (fun (V : World) (hV : On wr V) => HA.out.below hV)
      have HWW := Lib.hid (fun (V : World) (hV : On wr V) => HOW.out.step hV)
      have HAL := Lib.hid HA.out.len
      clear HA
      go_wp2_with fail
      go_loopw [9, 10, 11, 12, 13, 14, 15, 16] (fun b' fr to so k' be en bo wq => ∃ b : Nat, b' = .int .i64 (b : Int) ∧ b ≤ n ∧ Hid (On wr wq)) (fun b' _ _ _ _ _ _ _ _ => n - (intOf b').toNat)
      case atStart => exact ⟨0, rfl, Nat.zero_le _, Lib.hid (On.refl _)⟩
      case round =>
        obtain ⟨b, rfl, hbn, HO2⟩ := hrel
        by_cases hbl : b < n
        · have hbl2 : (b : Int) < (n : Int) := by omega
          have hb0 : (0 : Int) ≤ (b : Int) := by omega
          have hwb : IntKind.i64.wrap ((b : Int) + 1) = (b : Int) + 1 := IntWalk.i64_in _ (by omega)
          obtain ⟨x, hx⟩ : ∃ x, L[b]? = some x := ⟨_, List.getElem?_eq_getElem (by have := HLN.out; omega)⟩
          obtain ⟨⟨p, q⟩, hpqv⟩ : ∃ z, heldK L of (b : Int) = z := ⟨_, rfl⟩
          have HXB := Lib.hid hx
          have HPQ := Lib.hid hpqv
          have HHA := Lib.hid (show heldA L of (b : Int) = (p, q) by unfold heldA; rw [HKB.out]; exact hpqv)
          clear hx hpqv
          go_wp2_with fail
          refine (kHeld_to HHA.out (HP.out.below (HWW.out _ HO2.out)) (HI.out.below (HWW.out _ HO2.out) rfl) (by omega)).mono ?_
          rintro e w5 ⟨rfl, hb5⟩
          have HO5 := Lib.hid (On.step HO2.out hb5)
          clear hb5 HO2
          by_cases hpq : p < q
          · obtain ⟨hk1, P, Q, rfl, rfl, hPQ, hQm, ⟨j1, hj1, hh1⟩, ⟨j2, hj2, hh2⟩⟩ := held_facts HKO.out HXB.out HPQ.out hpq
            have hPQd : decide (P < Q) = true := decide_eq_true hPQ
            have HQM := Lib.hid hQm
            have hQm2 : Q ≤ m := by have := HLO.out; omega
            have HJ1 := Lib.hid hj1
            have HJ2 := Lib.hid hj2
            have HH1 := Lib.hid hh1
            have HH2 := Lib.hid hh2
            have HK1 := Lib.hid hk1
            clear hj1 hj2 hh1 hh2 hk1 hQm
            go_wp2_with fail
            go_loopw [13, 14, 15, 16] (fun k' be en bo wz => ∃ kk : Nat, k' = .int .i64 (kk : Int) ∧ kk ≤ k ∧ Hid (On w5 wz)) (fun k' _ _ _ _ => k - (intOf k').toNat)
            case atStart => exact ⟨0, rfl, Nat.zero_le _, Lib.hid (On.refl _)⟩
            case round =>
              obtain ⟨kk, rfl, hkm1, HOZ⟩ := hrel
              by_cases hkl : kk < k
              · have HCK := Lib.hid (cnt_kin HKO.out HXB.out HPQ.out (k := (kk : Int)) (by omega) (by have := HLO.out; have := HKM.out; omega))
                have hpp : decide ((P : Int) < (Q : Int)) = true := decide_eq_true hpq
                rw [hpp] at HCK
                simp only [Bool.true_and] at HCK
                clear hpp
                have hkl2 : (kk : Int) < (k : Int) := by omega
                have hk00 : (0 : Int) ≤ (kk : Int) := by omega
                have hwk : IntKind.i64.wrap ((kk : Int) + 1) = (kk : Int) + 1 := IntWalk.i64_in _ (by omega)
                have HOX := Lib.hid (HO5.out.step HOZ.out)
                have HAV := Lib.hid (HALL.out _ HOX.out)
                obtain ⟨b4, o4, mm, hA9, hb4, hmm, hcm⟩ := (ownsRow_rows encKn_len (by decide) HAV.out.own).at_ hkl
                subst hA9
                have y0 : wr.cell? ⟨b4, o4 + kk * 4, none⟩ = some (.slice mm.A1 mm.n1 mm.c1) := hcm 0 _ rfl
                have y1 : wr.cell? ⟨b4, o4 + kk * 4 + 1, none⟩ = some (.slice mm.A2 mm.n2 mm.c2) := hcm 1 _ rfl
                have y2 : wr.cell? ⟨b4, o4 + kk * 4 + 2, none⟩ = some (.slice mm.A3 mm.n3 mm.c3) := hcm 2 _ rfl
                have HSE := Lib.hid ((HAV.out.kin kk mm hmm).see)
                obtain ⟨l1, l2, l3⟩ := kinK_lens L of (kk : Int)
                have bl1 : mm.n1 ≤ 1000000 := by have h9 := HSE.out.e.1; have := HLN.out; omega
                have bl2 : mm.n2 ≤ 1000000 := by have h9 := HSE.out.b.1; have := HLN.out; omega
                have bl3 : mm.n3 ≤ 1000000 := by have h9 := HSE.out.o.1; have := HLN.out; omega
                have BL := Lib.hid (And.intro bl1 (And.intro bl2 bl3))
                clear hmm hcm l1 l2 l3 bl1 bl2 bl3 HAV
                by_cases hkP : kk = P
                · subst hkP
                  have HCK := Lib.hid (show _ = (1 : Nat) ∧ _ = (0 : Nat) ∧ _ = (0 : Nat) from ⟨HCK.out.1.trans (by rw [decide_eq_true rfl]; rfl), HCK.out.2.1.trans (by rw [decide_eq_false (by omega)]; rfl), HCK.out.2.2.trans (by rw [decide_eq_false (show ¬ (kk : Int) < (kk : Int) by omega)]; rfl)⟩)
                  have g1 : ((kk : Int) == (kk : Int)) = true := by simp
                  have g2 : ((kk : Int) == (Q : Int)) = false := by simp; omega
                  have g2' : (kk == Q) = false := by simp; omega
                  have g3 : decide ((kk : Int) < (kk : Int)) = false := decide_eq_false (by omega)
                  have g4 : decide ((kk : Int) < (Q : Int)) = true := decide_eq_true (by omega)
                  go_wp2_with fail
                  refine (kamong_to HCK.out.1 HSE.out.b BL.out.2.1).mono ?_
                  rintro e w7 ⟨rfl, rfl⟩
                  go_wp2_with fail
                  refine (kamong_to HCK.out.2.1 HSE.out.e BL.out.1).mono ?_
                  rintro e w7 ⟨rfl, rfl⟩
                  go_wp2_with fail
                  refine (kamong_to HCK.out.2.2 HSE.out.o BL.out.2.2).mono ?_
                  rintro e w7 ⟨rfl, rfl⟩
                  go_wp2_with fail
                  go_roundw
                  case rel => exact ⟨kk + 1, by go_num, by omega, HOZ⟩
                  case measure => simp [intOf] <;> omega
                · by_cases hkQ : kk = Q
                  · subst hkQ
                    have HCK := Lib.hid (show _ = (0 : Nat) ∧ _ = (1 : Nat) ∧ _ = (0 : Nat) from ⟨HCK.out.1.trans (by rw [decide_eq_false (by omega)]; rfl), HCK.out.2.1.trans (by rw [decide_eq_true rfl]; rfl), HCK.out.2.2.trans (by rw [decide_eq_false (show ¬ (kk : Int) < (kk : Int) by omega), Bool.and_false]; rfl)⟩)
                    have g1 : ((kk : Int) == (kk : Int)) = true := by simp
                    have g2 : ((kk : Int) == (P : Int)) = false := by simp; omega
                    have g2' : (kk == P) = false := by simp; omega
                    have g3 : decide ((kk : Int) < (kk : Int)) = false := decide_eq_false (by omega)
                    have g4 : decide ((P : Int) < (kk : Int)) = true := decide_eq_true (by omega)
                    have g4' : decide (P < kk) = true := decide_eq_true (by omega)
                    go_wp2_with fail
                    refine (kamong_to HCK.out.1 HSE.out.b BL.out.2.1).mono ?_
                    rintro e w7 ⟨rfl, rfl⟩
                    go_wp2_with fail
                    refine (kamong_to HCK.out.2.1 HSE.out.e BL.out.1).mono ?_
                    rintro e w7 ⟨rfl, rfl⟩
                    go_wp2_with fail
                    refine (kamong_to HCK.out.2.2 HSE.out.o BL.out.2.2).mono ?_
                    rintro e w7 ⟨rfl, rfl⟩
                    go_wp2_with fail
                    go_roundw
                    case rel => exact ⟨kk + 1, by go_num, by omega, HOZ⟩
                    case measure => simp [intOf] <;> omega
                  · have g1 : ((kk : Int) == (P : Int)) = false := by simp; omega
                    have g1' : (kk == P) = false := by simp; omega
                    have g2 : ((kk : Int) == (Q : Int)) = false := by simp; omega
                    have g2' : (kk == Q) = false := by simp; omega
                    have n1 : ¬ kk = P := hkP
                    have n2 : ¬ kk = Q := hkQ
                    by_cases hin : P < kk ∧ kk < Q
                    · have HCK := Lib.hid (show _ = (0 : Nat) ∧ _ = (0 : Nat) ∧ _ = (1 : Nat) from ⟨HCK.out.1.trans (by rw [decide_eq_false (by omega)]; rfl), HCK.out.2.1.trans (by rw [decide_eq_false (by omega)]; rfl), HCK.out.2.2.trans (by rw [decide_eq_true (show (P : Int) < (kk : Int) by omega), decide_eq_true (show (kk : Int) < (Q : Int) by omega)]; rfl)⟩)
                      have g3 : decide ((P : Int) < (kk : Int)) = true := decide_eq_true (by omega)
                      have g3' : decide (P < kk) = true := decide_eq_true hin.1
                      have g4 : decide ((kk : Int) < (Q : Int)) = true := decide_eq_true (by omega)
                      have g4' : decide (kk < Q) = true := decide_eq_true hin.2
                      go_wp2_with fail
                      refine (kamong_to HCK.out.1 HSE.out.b BL.out.2.1).mono ?_
                      rintro e w7 ⟨rfl, rfl⟩
                      go_wp2_with fail
                      refine (kamong_to HCK.out.2.1 HSE.out.e BL.out.1).mono ?_
                      rintro e w7 ⟨rfl, rfl⟩
                      go_wp2_with fail
                      refine (kamong_to HCK.out.2.2 HSE.out.o BL.out.2.2).mono ?_
                      rintro e w7 ⟨rfl, rfl⟩
                      go_wp2_with fail
                      go_roundw
                      case rel => exact ⟨kk + 1, by go_num, by omega, HOZ⟩
                      case measure => simp [intOf] <;> omega
                    · have HCK := Lib.hid (show _ = (0 : Nat) ∧ _ = (0 : Nat) ∧ _ = (0 : Nat) from ⟨HCK.out.1.trans (by rw [decide_eq_false (by omega)]; rfl), HCK.out.2.1.trans (by rw [decide_eq_false (by omega)]; rfl), HCK.out.2.2.trans (by
                        rcases Nat.lt_or_ge P kk with h9 | h9
                        · rw [decide_eq_false (show ¬ (kk : Int) < (Q : Int) by omega), Bool.and_false]; rfl
                        · rw [decide_eq_false (show ¬ (P : Int) < (kk : Int) by omega), Bool.false_and]; rfl)⟩)
                      by_cases hPk : P < kk
                      · have g3 : decide ((P : Int) < (kk : Int)) = true := decide_eq_true (by omega)
                        have g3' : decide (P < kk) = true := decide_eq_true hPk
                        have g4 : decide ((kk : Int) < (Q : Int)) = false := decide_eq_false (by omega)
                        have g4' : decide (kk < Q) = false := decide_eq_false (by omega)
                        have g5 : Q ≤ kk := by omega
                        go_wp2_with fail
                        refine (kamong_to HCK.out.1 HSE.out.b BL.out.2.1).mono ?_
                        rintro e w7 ⟨rfl, rfl⟩
                        go_wp2_with fail
                        refine (kamong_to HCK.out.2.1 HSE.out.e BL.out.1).mono ?_
                        rintro e w7 ⟨rfl, rfl⟩
                        go_wp2_with fail
                        refine (kamong_to HCK.out.2.2 HSE.out.o BL.out.2.2).mono ?_
                        rintro e w7 ⟨rfl, rfl⟩
                        go_wp2_with fail
                        go_roundw
                        case rel => exact ⟨kk + 1, by go_num, by omega, HOZ⟩
                        case measure => simp [intOf] <;> omega
                      · have g3 : decide ((P : Int) < (kk : Int)) = false := decide_eq_false (by omega)
                        have g3' : decide (P < kk) = false := decide_eq_false hPk
                        have g5 : kk ≤ P := by omega
                        go_wp2_with fail
                        refine (kamong_to HCK.out.1 HSE.out.b BL.out.2.1).mono ?_
                        rintro e w7 ⟨rfl, rfl⟩
                        go_wp2_with fail
                        refine (kamong_to HCK.out.2.1 HSE.out.e BL.out.1).mono ?_
                        rintro e w7 ⟨rfl, rfl⟩
                        go_wp2_with fail
                        refine (kamong_to HCK.out.2.2 HSE.out.o BL.out.2.2).mono ?_
                        rintro e w7 ⟨rfl, rfl⟩
                        go_wp2_with fail
                        go_roundw
                        case rel => exact ⟨kk + 1, by go_num, by omega, HOZ⟩
                        case measure => simp [intOf] <;> omega
              · obtain rfl : kk = k := by omega
                have hge : (kk : Int) ≤ (kk : Int) := Int.le_refl _
                have HOX := Lib.hid (HO5.out.step HOZ.out)
                obtain ⟨b2, o2, m2, x2, rfl, hb2, e2, r2, s2⟩ := (HS.out.below (HWW.out _ HOX.out)).at_ hbl
                have c0 : wr.cell? ⟨b2, o2 + b * 20, none⟩ = some (.int .i64 1) := by
                  have h9 := r2 0 _ rfl
                  have h8 : m2.kind = 1 := by
                    rw [HXB.out] at e2
                    injection e2 with e2
                    rw [← s2.1.1, ← e2]; exact HK1.out
                  rw [show wr.cell? ⟨b2, o2 + b * 20, none⟩ = some (.int .i64 m2.kind) from h9, h8]
                have hP0 : (0 : Int) ≤ (P : Int) := by omega
                have hP1 : decide ((P : Int) < 0) = false := decide_eq_false (by omega)
                have hPm : (P : Int) < (m : Int) := by omega
                have hQ1 : decide ((m : Int) < (Q : Int)) = false := decide_eq_false (by omega)
                have hQ1' : decide (m < Q) = false := decide_eq_false (by omega)
                have hQle : (Q : Int) ≤ (m : Int) := by omega
                obtain ⟨R, hR⟩ : ∃ R, Q - 1 = R := ⟨_, rfl⟩
                have hws : IntKind.i64.wrap ((Q : Int) - 1) = (R : Int) := by rw [IntWalk.i64_in _ (by omega)]; omega
                have hR0 : (0 : Int) ≤ (R : Int) := by omega
                have hRm : (R : Int) < (m : Int) := by omega
                have hRn : R < m := by omega
                have HRR := Lib.hid hR
                obtain ⟨b3, o3, rfl, hb3, c9'⟩ := (HI.out.below (HWW.out _ HOX.out) rfl).2.2 (by omega)
                have d1 := c9' P (by omega)
                have d2 := c9' R hRn
                rw [HJ1.out, Option.getD_some] at d1
                rw [show of[R]? = some (j2 : Int) by rw [← hR]; exact HJ2.out, Option.getD_some] at d2
                have D2 := Lib.hid (On.cell d2)
                clear r2 s2 e2 c9' hR d2
                go_wp2_with fail
                refine (tHolds_to (show holdsI (ordL L) (b : Int) (j1 : Int) = true by rw [HOD.out]; exact HH1.out) (HP.out.below (HWW.out _ HOX.out))).mono ?_
                rintro e w7 ⟨rfl, hb7⟩
                have HO7 := Lib.hid (On.step HOX.out hb7)
                have d2 := D2.out w7 hb7
                clear hb7 c0 d1 D2
                go_wp2_with fail
                refine (tHolds_to (show holdsI (ordL L) (b : Int) (j2 : Int) = true by rw [HOD.out]; exact HH2.out) (HP.out.below (HWW.out _ HO7.out))).mono ?_
                rintro e w8 ⟨rfl, hb8⟩
                have HO8 := Lib.hid (On.step HO7.out hb8)
                clear hb8 d2
                go_wp2_with fail
                go_roundw
                case rel => exact ⟨b + 1, by go_num, by omega, HO8⟩
                case measure => simp [intOf] <;> omega
          · obtain ⟨rfl, rfl⟩ := held_none HXB.out HPQ.out hpq
            go_wp2_with fail
            go_loopw [13, 14, 15, 16] (fun k' be en bo wz => ∃ kk : Nat, k' = .int .i64 (kk : Int) ∧ kk ≤ k ∧ Hid (On w5 wz)) (fun k' _ _ _ _ => k - (intOf k').toNat)
            case atStart => exact ⟨0, rfl, Nat.zero_le _, Lib.hid (On.refl _)⟩
            case round =>
              obtain ⟨kk, rfl, hkm1, HOZ⟩ := hrel
              by_cases hkl : kk < k
              · have HCK := Lib.hid (cnt_kin HKO.out HXB.out HPQ.out (k := (kk : Int)) (by omega) (by have := HLO.out; have := HKM.out; omega))
                rw [decide_eq_false (Int.lt_irrefl 0)] at HCK
                simp only [Bool.false_and] at HCK
                have HCK := Lib.hid (show _ = (0 : Nat) ∧ _ = (0 : Nat) ∧ _ = (0 : Nat) from HCK.out)
                have hkl2 : (kk : Int) < (k : Int) := by omega
                have hk00 : (0 : Int) ≤ (kk : Int) := by omega
                have hwk : IntKind.i64.wrap ((kk : Int) + 1) = (kk : Int) + 1 := IntWalk.i64_in _ (by omega)
                have HOX := Lib.hid (HO5.out.step HOZ.out)
                have HAV := Lib.hid (HALL.out _ HOX.out)
                obtain ⟨b4, o4, mm, hA9, hb4, hmm, hcm⟩ := (ownsRow_rows encKn_len (by decide) HAV.out.own).at_ hkl
                subst hA9
                have y0 : wr.cell? ⟨b4, o4 + kk * 4, none⟩ = some (.slice mm.A1 mm.n1 mm.c1) := hcm 0 _ rfl
                have y1 : wr.cell? ⟨b4, o4 + kk * 4 + 1, none⟩ = some (.slice mm.A2 mm.n2 mm.c2) := hcm 1 _ rfl
                have y2 : wr.cell? ⟨b4, o4 + kk * 4 + 2, none⟩ = some (.slice mm.A3 mm.n3 mm.c3) := hcm 2 _ rfl
                have HSE := Lib.hid ((HAV.out.kin kk mm hmm).see)
                obtain ⟨l1, l2, l3⟩ := kinK_lens L of (kk : Int)
                have bl1 : mm.n1 ≤ 1000000 := by have h9 := HSE.out.e.1; have := HLN.out; omega
                have bl2 : mm.n2 ≤ 1000000 := by have h9 := HSE.out.b.1; have := HLN.out; omega
                have bl3 : mm.n3 ≤ 1000000 := by have h9 := HSE.out.o.1; have := HLN.out; omega
                have BL := Lib.hid (And.intro bl1 (And.intro bl2 bl3))
                clear hmm hcm l1 l2 l3 bl1 bl2 bl3 HAV
                go_wp2_with fail
                refine (kamong_to HCK.out.1 HSE.out.b BL.out.2.1).mono ?_
                rintro e w7 ⟨rfl, rfl⟩
                go_wp2_with fail
                refine (kamong_to HCK.out.2.1 HSE.out.e BL.out.1).mono ?_
                rintro e w7 ⟨rfl, rfl⟩
                go_wp2_with fail
                refine (kamong_to HCK.out.2.2 HSE.out.o BL.out.2.2).mono ?_
                rintro e w7 ⟨rfl, rfl⟩
                go_wp2_with fail
                go_roundw
                case rel => exact ⟨kk + 1, by go_num, by omega, HOZ⟩
                case measure => simp [intOf] <;> omega
              · obtain rfl : kk = k := by omega
                have hge : (kk : Int) ≤ (kk : Int) := Int.le_refl _
                have HOX := Lib.hid (HO5.out.step HOZ.out)
                go_wp2_with fail
                go_roundw
                case rel => exact ⟨b + 1, by go_num, by omega, HOX⟩
                case measure => simp [intOf] <;> omega
        · obtain rfl : b = n := by omega
          have hge : (b : Int) ≤ (b : Int) := Int.le_refl _
          go_wp2_with fail
          refine (awake16_any _).mono ?_
          rintro e w9 ⟨rfl, hb9⟩
          have HZ := Lib.hid ((HWW.out _ HO2.out).step hb9)
          clear hb9
          go_wp2_with fail
          go_ret
          exact ⟨rfl, HZ.out⟩
end Go.Proofs.Ytamakeogaipdiaa
