import Derived.Test.YteginjdgapjadaaDoorJa26
import Derived.Test.YteginjdgapjadaaDoorJa25
/- The walk of the law ReadParted. -/
namespace Go.Proofs.YteginjdgapjadaaDoor
open Go.RowKit
set_option linter.unusedVariables false
set_option linter.unusedSimpArgs false
theorem doc_len {s : ByteArray} {x : List Nd} (h : ReadB s (some x, 0)) : x.length ≤ s.size := by
  obtain ⟨o, q, h1, h2⟩ := h.doc
  have h3 := h2.len _ _ rfl
  have h4 := lexF_len _ _ _ _ _ _ (by omega) h1
  simp only [List.length_nil, Nat.zero_add, Nat.add_zero] at h3 h4
  omega
theorem Sees.parts {w : World} {A : Option Addr} {n : Nat} {l : List Nd} (h : Sees w A n l) : ∃ zs : List NdM, Rows 20 encM w A n zs ∧ zs.length = l.length ∧ ∀ (i : Nat) (m : NdM) (x : Nd), zs[i]? = some m → l[i]? = some x → Shows w m x := h
theorem shows_append {w : World} {zs zs' : List NdM} {l l' : List Nd} (h1 : zs.length = l.length) (h : ∀ (i : Nat) (m : NdM) (x : Nd), zs[i]? = some m → l[i]? = some x → Shows w m x) (h' : ∀ (i : Nat) (m : NdM) (x : Nd), zs'[i]? = some m → l'[i]? = some x → Shows w m x) :
    ∀ (i : Nat) (m : NdM) (x : Nd), (zs ++ zs')[i]? = some m → (l ++ l')[i]? = some x → Shows w m x := fun i m x e1 e2 => by
  rcases Nat.lt_or_ge i zs.length with hi | hi
  · rw [List.getElem?_append_left hi] at e1
    rw [List.getElem?_append_left (by omega)] at e2
    exact h i m x e1 e2
  · rw [List.getElem?_append_right hi] at e1
    rw [List.getElem?_append_right (by omega), ← h1] at e2
    exact h' _ m x e1 e2
set_option maxRecDepth 100000 in
set_option maxHeartbeats 4000000 in
theorem readparted_law (a : ByteArray) (hmax : a.size ≤ 9223372036854775807) (b : ByteArray) (hmaxb : b.size ≤ 9223372036854775807) (w : World) (hTb : Tabs w) : Calls Tryd.prog 6 #[.string a, .string b] w fun e w' => e = .returned (.bool true) ∧ Below w.heap.size w w' := by
  by_cases hbig : 2000 < a.size
  · go_enter Tryd.func6, Tryd.ntmps6
    go_wp2_with (go_at_call 7; refine (rawake_any _ hTb).mono ?_; rintro e w' ⟨rfl, hbw⟩)
    go_ret
    exact ⟨rfl, hbw⟩
  by_cases hbig2 : 2000 < b.size
  · go_enter Tryd.func6, Tryd.ntmps6
    go_wp2_with (go_at_call 7; refine (rawake_any _ hTb).mono ?_; rintro e w' ⟨rfl, hbw⟩)
    go_ret
    exact ⟨rfl, hbw⟩
  obtain ⟨j0, hj0, hy0, hy1, hy2⟩ := info_parts node_info5
  have ha : a.size ≤ 100000 := by omega
  have hb : b.size ≤ 100000 := by omega
  have HT := Lib.hid hTb
  clear hTb
  go_enter Tryd.func6, Tryd.ntmps6
  go_wp2_with fail
  refine (readof_any a _ HT.out ha).mono ?_
  rintro e w1 (⟨x, A1, n1, c1, hra, rfl, hN1, hb1⟩ | ⟨k, hra, rfl, hb1⟩)
  rotate_left
  · have HB1 := Lib.hid hb1
    clear hb1
    go_wp2_with fail
    refine (readof_any b _ (HT.out.below HB1.out) hb).mono ?_
    rintro e w2 (⟨y, A2, n2, c2, hrb, rfl, hN2, hb2⟩ | ⟨k2, hrb, rfl, hb2⟩)
    all_goals
      have HB2 := Lib.hid (below_then HB1.out hb2)
      clear hb2
      go_wp2_with (go_at_call 7; refine (rawake_any _ (HT.out.below HB2.out)).mono ?_; rintro e w6 ⟨rfl, hb6⟩)
      go_ret
      exact ⟨rfl, below_then HB2.out hb6⟩
  have HRA := Lib.hid hra
  have HX1 := Lib.hid hN1.sees
  have HB1 := Lib.hid hb1
  have hxl := doc_len hra
  have hx1 := hN1.len
  clear hra hN1 hb1
  have hP := parted_append a b
  have hP2 : Parted a ⟨#[93]⟩ (a ++ (⟨#[10, 93]⟩ : ByteArray)) := by
    have := parted_append a ⟨#[93]⟩
    rw [ByteArray.append_assoc] at this
    exact this
  have hts := hP.size
  have hts2 := hP2.size
  obtain ⟨t, htt⟩ : ∃ t, a ++ (⟨#[10]⟩ : ByteArray) ++ b = t := ⟨_, rfl⟩
  obtain ⟨t2, htt2⟩ : ∃ t, a ++ (⟨#[10, 93]⟩ : ByteArray) = t := ⟨_, rfl⟩
  rw [htt] at hP hts
  rw [htt2] at hP2 hts2
  have hz2 : (⟨#[93]⟩ : ByteArray).size = 1 := rfl
  have ht : t.size ≤ 100000 := by omega
  have ht2 : t2.size ≤ 100000 := by omega
  have HR2 := Lib.hid (bracket_bad hP2 HRA.out)
  have HP := Lib.hid hP
  clear hP hP2 hts hts2 hz2
  go_wp2_with fail
  refine (readof_any b _ (HT.out.below HB1.out) hb).mono ?_
  rintro e w2 (⟨y, A2, n2, c2, hrb, rfl, hN2, hb2⟩ | ⟨k2, hrb, rfl, hb2⟩)
  · have HRT := Lib.hid (both_ok HP.out HRA.out hrb)
    have HB2 := Lib.hid (below_then HB1.out hb2)
    have HX2 := Lib.hid (HX1.out.below hb2)
    have HY2 := Lib.hid hN2.sees
    have hyl := doc_len hrb
    have hy9 := hN2.len
    clear hrb hN2 hb2
    go_wp2_with fail
    refine (pof_bad HR2.out _ (HT.out.below HB2.out) ht2).mono ?_
    rintro e w3 ⟨rfl, hb3⟩
    have HB3 := Lib.hid (below_then HB2.out hb3)
    have HX3 := Lib.hid (HX2.out.below hb3)
    have HY3 := Lib.hid (HY2.out.below hb3)
    have hc1 : ((a.size + 1 : Nat) : Int) = (a.size : Int) + 1 := by omega
    rw [hc1]
    clear hb3 hc1
    go_wp2_with fail
    refine (pof_ok HRT.out _ (HT.out.below HB3.out) ht).mono ?_
    rintro e w4 ⟨A4, n4, c4, rfl, hN4, hb4⟩
    have HB4 := Lib.hid (below_then HB3.out hb4)
    have HZ4 := Lib.hid hN4.sees
    obtain ⟨zx, rx, lx, sx⟩ := (HX3.out.below hb4).parts
    obtain ⟨zy, ry, ly, sy⟩ := (HY3.out.below hb4).parts
    clear hb4 hN4
    have RX := Lib.hid rx
    have RY := Lib.hid ry
    have SX := Lib.hid sx
    have SY := Lib.hid sy
    clear rx ry sx sy
    have hl1 : zx.length = n1 := RX.out.1
    have hl2 : zy.length = n2 := RY.out.1
    go_wp2_with ((with_reducible refine stop_dst 81 ?_ ?_); exact rfl)
    refine Stop.intro ?_
    have hbU : On w4 (w4.alloc (.cells #[] 39)) := (On.refl w4).alloc _
    have hO0 : (w4.alloc (.cells #[] 39)).ownsRow w4.heap.size 39 20 (.slice (some ⟨w4.heap.size, 0, none⟩) 0 0) 0 [] := ⟨rfl, .inr ⟨w4.heap.size, 0, #[], rfl, Nat.le_refl _, World.alloc_heap_new w4 _, Nat.le_refl _, Nat.zero_le _, rfl, rfl⟩⟩
    have hcX := (RX.out.below hbU).cells encM_len (by decide)
    refine wpList_append_cells _ rfl (.tmp 79) (.tmp 80) _ rfl w4.heap.size 39 j0 (.agg #[.int .i64 0, .int .i64 0, .int .i64 0, .int .i64 0, .int .i64 0, .int .i64 0, .int .i64 0, .int .i64 0, .int .i64 0, .int .i64 0, .int .i64 0, .int .i64 0, .int .i64 0, .int .i64 0, .int .i64 0, .int .i64 0, .slice none 0 0, .int .i64 0, .int .i64 0, .int .i64 0]) 20 176 Tryd.underlying23 hj0 hy0 hy1 hy2 rfl (by decide) (.slice (some ⟨w4.heap.size, 0, none⟩) 0 0) 0 _ rfl hO0 A1 n1 c1 _ rfl hcX (encMs_one zx) (by unfold maxLen; omega) (by omega) (by simp) ?_
    intro A5 c5 w5 hown5 hg5
    have hb5 : On w4 w5 := hbU.grown hg5 (by simp) (fun r e => by cases e; exact Nat.le_refl _)
    rw [Nat.zero_add] at hown5
    have hcY := (RY.out.below hb5).cells encM_len (by decide)
    have HO5 := Lib.hid hown5
    have HB5 := Lib.hid hb5
    have hs5 := hb5.size
    clear hO0 hcX hbU hown5 hb5 hg5
    simp only [Nat.zero_add]
    go_wp2_with ((with_reducible refine stop_dst 84 ?_ ?_); exact rfl)
    refine Stop.intro ?_
    refine wpList_append_cells _ rfl (.tmp 82) (.tmp 83) _ rfl w4.heap.size 39 j0 (.agg #[.int .i64 0, .int .i64 0, .int .i64 0, .int .i64 0, .int .i64 0, .int .i64 0, .int .i64 0, .int .i64 0, .int .i64 0, .int .i64 0, .int .i64 0, .int .i64 0, .int .i64 0, .int .i64 0, .int .i64 0, .int .i64 0, .slice none 0 0, .int .i64 0, .int .i64 0, .int .i64 0]) 20 176 Tryd.underlying23 hj0 hy0 hy1 hy2 rfl (by decide) (.slice A5 n1 c5) n1 _ rfl HO5.out A2 n2 c2 _ rfl hcY (encMs_one zy) (by unfold maxLen; omega) (by omega) hs5 ?_
    intro A6 c6 w6 hown6 hg6
    have hblk := owns_block HO5.out
    have hb6 : On w4 w6 := HB5.out.grown hg6 hs5 (fun r e => hblk r e)
    have hfl : (zx ++ zy).flatMap encM = [] ++ zx.flatMap encM ++ zy.flatMap encM := by simp
    rw [← hfl] at hown6
    have HW6 := Lib.hid (show Sees w6 A6 (n1 + n2) (x ++ y) from ⟨zx ++ zy, ownsRow_rows encM_len (by decide) hown6, by rw [List.length_append, List.length_append, lx, ly], fun i m z e1 e2 => (shows_append lx SX.out SY.out i m z e1 e2).below hb6⟩)
    have HZ6 := Lib.hid (HZ4.out.below hb6)
    have HB6 := Lib.hid (below_then HB4.out hb6)
    clear hblk hb6 hfl hown6 hg6 hcY
    go_wp2_with fail
    refine (psame_to (ndsB_self (x ++ y)) _ HZ6.out HW6.out).mono ?_
    rintro e w7 ⟨rfl, hb7⟩
    have HB7 := Lib.hid (below_then HB6.out hb7)
    clear hb7
    go_wp2_with (go_at_call 7; refine (rawake_any _ (HT.out.below HB7.out)).mono ?_; rintro e w8 ⟨rfl, hb8⟩)
    go_ret
    exact ⟨rfl, below_then HB7.out hb8⟩
  · obtain ⟨k3, hk3⟩ := both_bad HP.out HRA.out hrb
    have HRT := Lib.hid hk3
    have HB2 := Lib.hid (below_then HB1.out hb2)
    clear hrb hb2 hk3
    go_wp2_with fail
    refine (pof_bad HR2.out _ (HT.out.below HB2.out) ht2).mono ?_
    rintro e w3 ⟨rfl, hb3⟩
    have HB3 := Lib.hid (below_then HB2.out hb3)
    have hc1 : ((a.size + 1 : Nat) : Int) = (a.size : Int) + 1 := by omega
    rw [hc1]
    clear hb3 hc1
    go_wp2_with fail
    refine (pof_bad HRT.out _ (HT.out.below HB3.out) ht).mono ?_
    rintro e w4 ⟨rfl, hb4⟩
    have HB4 := Lib.hid (below_then HB3.out hb4)
    clear hb4
    go_wp2_with (go_at_call 7; refine (rawake_any _ (HT.out.below HB4.out)).mono ?_; rintro e w6 ⟨rfl, hb6⟩)
    go_ret
    exact ⟨rfl, below_then HB4.out hb6⟩
end Go.Proofs.YteginjdgapjadaaDoor
/- The walk of the law ReadReads. -/
namespace Go.Proofs.YteginjdgapjadaaDoor
open Go.RowKit
set_option linter.unusedVariables false
set_option linter.unusedSimpArgs false
set_option maxRecDepth 100000 in
set_option maxHeartbeats 2000000 in
theorem readreads_law (s : ByteArray) (hmax : s.size ≤ 9223372036854775807) (w : World) (hT : Tabs w) : Calls Tryd.prog 3 #[.string s] w fun e w' => e = .returned (.bool true) ∧ Below w.heap.size w w' := by
  by_cases hbig : 3000 < s.size
  · go_enter Tryd.func3, Tryd.ntmps3
    go_wp2_with (go_at_call 7; refine (rawake_any _ hT).mono ?_; rintro e w' ⟨rfl, hbw⟩)
    go_ret
    exact ⟨rfl, hbw⟩
  have hs : s.size ≤ 100000 := by omega
  have HT := Lib.hid hT
  clear hT
  go_enter Tryd.func3, Tryd.ntmps3
  go_wp2_with fail
  refine (readof_any s _ HT.out hs).mono ?_
  rintro e w1 (⟨x, A1, n1, c1, hr, rfl, hN, hb1⟩ | ⟨k, hr, rfl, hb1⟩)
  · have HL := Lib.hid hr
    have HB1 := Lib.hid hb1
    have HN1 := Lib.hid hN.sees
    clear hr hb1 hN
    go_wp2_with fail
    refine (rof_ok HL.out _ hs).mono ?_
    rintro e w2 ⟨A2, n2, c2, rfl, hN2, hb2⟩
    have HB2 := Lib.hid (below_then HB1.out hb2)
    have HN12 := Lib.hid (HN1.out.below hb2)
    have HN2 := Lib.hid hN2.sees
    clear hb2 hN2
    go_wp2_with fail
    refine (rsame_to (ndsB_self x) _ HN12.out HN2.out).mono ?_
    rintro e w3 ⟨rfl, hb3⟩
    have HB3 := Lib.hid (below_then HB2.out hb3)
    clear hb3
    go_wp2_with fail
    refine (readis_to HL.out rfl _ (HT.out.below HB3.out) hs).mono ?_
    rintro e w4 ⟨rfl, hb4⟩
    have HB4 := Lib.hid (below_then HB3.out hb4)
    clear hb4
    go_wp2_with (go_at_call 7; refine (rawake_any _ (HT.out.below HB4.out)).mono ?_; rintro e w6 ⟨rfl, hb6⟩)
    go_ret
    exact ⟨rfl, below_then HB4.out hb6⟩
  · have HL := Lib.hid hr
    have HB1 := Lib.hid hb1
    clear hr hb1
    go_wp2_with fail
    refine (rof_bad HL.out _ hs).mono ?_
    rintro e w2 ⟨rfl, hb2⟩
    have HB2 := Lib.hid (below_then HB1.out hb2)
    clear hb2
    go_wp2_with fail
    refine (rsame_to (ndsB_self []) _ (Sees.nil _) (Sees.nil _)).mono ?_
    rintro e w3 ⟨rfl, hb3⟩
    have HB3 := Lib.hid (below_then HB2.out hb3)
    clear hb3
    go_wp2_with fail
    refine (readis_to HL.out rfl _ (HT.out.below HB3.out) hs).mono ?_
    rintro e w4 ⟨rfl, hb4⟩
    have HB4 := Lib.hid (below_then HB3.out hb4)
    clear hb4
    go_wp2_with (go_at_call 7; refine (rawake_any _ (HT.out.below HB4.out)).mono ?_; rintro e w6 ⟨rfl, hb6⟩)
    go_ret
    exact ⟨rfl, below_then HB4.out hb6⟩
end Go.Proofs.YteginjdgapjadaaDoor
/- The walk of the law ReadSame. -/
namespace Go.Proofs.YteginjdgapjadaaDoor
open Go.RowKit
set_option linter.unusedVariables false
set_option linter.unusedSimpArgs false
def vastB (l : List Nd) : Bool := decide (200 < l.length) || l.any (fun x => decide (100 < x.words.length))
theorem vastB_len {l : List Nd} (h : 200 < l.length) : vastB l = true := by unfold vastB; simp [h]
theorem vastB_one {l : List Nd} {k : Nat} {x : Nd} (h1 : l[k]? = some x) (h2 : 100 < x.words.length) : vastB l = true := by
  unfold vastB
  rw [Bool.or_eq_true]
  exact .inr (List.any_eq_true.2 ⟨x, List.mem_of_getElem? h1, by simp [h2]⟩)
theorem vastB_no {l : List Nd} (h1 : l.length ≤ 200) (h2 : ∀ (k : Nat) (x : Nd), l[k]? = some x → x.words.length ≤ 100) : vastB l = false := by
  unfold vastB
  rw [Bool.or_eq_false_iff]
  refine ⟨by simp; omega, List.any_eq_false.2 fun x hx => ?_⟩
  obtain ⟨k, hk⟩ := List.mem_iff_getElem?.1 hx
  have := h2 k x hk
  simp; omega
theorem vastB_out {l : List Nd} (h : vastB l = false) : l.length ≤ 200 ∧ ∀ x ∈ l, x.words.length ≤ 100 := by
  unfold vastB at h
  rw [Bool.or_eq_false_iff] at h
  refine ⟨by have := h.1; simp at this; omega, fun x hx => ?_⟩
  have := List.any_eq_false.1 h.2 x hx
  simp at this; omega
set_option maxHeartbeats 2000000 in
theorem vast_any (l : List Nd) (A : Option Addr) (n c : Nat) (w : World) (hl : Sees w A n l) : Calls Tryd.prog 12 #[.slice A n c] w fun e w' => e = .returned (.bool (vastB l)) ∧ w = w' := by
  have hlen := hl.len
  have hbd := hl.bound
  have HL := Lib.hid hl
  clear hl
  by_cases hn : 200 < n
  · have HV := Lib.hid (vastB_len (l := l) (by omega))
    have h1 : (200 : Int) < (n : Int) := by omega
    go_enter Tryd.func12, Tryd.ntmps12
    go_wp2_with fail
    go_ret
    exact ⟨ret_bool (by rw [HV.out]), rfl⟩
  have h1 : (n : Int) ≤ 200 := by omega
  go_enter Tryd.func12, Tryd.ntmps12
  go_wp2_with fail
  go_loop [3] (fun i => ∃ k : Nat, k ≤ n ∧ i = .int .i64 k ∧ ∀ (j : Nat) (x : Nd), j < k → l[j]? = some x → x.words.length ≤ 100) (fun i => n - (intOf i).toNat)
  case atStart => exact ⟨0, by omega, rfl, fun j x hj => by omega⟩
  case round =>
    obtain ⟨k, hk, rfl, hall⟩ := hrel
    have HA := Lib.hid hall
    clear hall
    by_cases hlt : k < n
    · obtain ⟨b1, o1, m1, x1, rfl, hb1, e1, r1, s1⟩ := HL.out.at_ hlt
      have hk2 : (k : Int) < (n : Int) := by omega
      have c16 := r1 16 _ rfl
      have hw := s1.2.1
      have hwb := s1.2.2.1
      have E1 := Lib.hid e1
      clear e1 r1 s1
      by_cases hv : 100 < m1.n
      · have HV := Lib.hid (vastB_one E1.out (by omega))
        have h2 : (100 : Int) < (m1.n : Int) := by omega
        go_wp2_with fail
        go_ret
        exact ⟨ret_bool (by rw [HV.out]), rfl⟩
      · have h2 : (m1.n : Int) ≤ 100 := by omega
        go_wp2_with fail
        go_round
        case rel => exact ⟨k + 1, by omega, by go_num, fun j x hj hx => by
          by_cases e : j = k
          · subst e; rw [E1.out] at hx; cases hx; omega
          · exact HA.out j x (by omega) hx⟩
        case measure => simp [intOf]; omega
    · have HV := Lib.hid (vastB_no (l := l) (by omega) (fun j x hx => HA.out j x (by have := (List.getElem?_eq_some_iff.1 hx).1; omega) hx))
      have hk2 : (n : Int) ≤ (k : Int) := by omega
      go_wp2_with fail
      go_ret
      exact ⟨ret_bool (by rw [HV.out]), rfl⟩
theorem vast_to {l : List Nd} {v : Bool} (hv : vastB l = v) {A : Option Addr} {n c : Nat} (w : World) (hl : Sees w A n l) : Calls Tryd.prog 12 #[.slice A n c] w fun e w' => e = .returned (.bool v) ∧ w = w' := by
  subst hv; exact vast_any l A n c w hl
set_option maxRecDepth 100000 in
set_option maxHeartbeats 4000000 in
theorem readsame_law (A : Option Addr) (n c : Nat) (a : List Nd) (B : Option Addr) (m d : Nat) (b : List Nd) (w : World) (hT : Tabs w) (ha : Sees w A n a) (hb : Sees w B m b) : Calls Tryd.prog 4 #[.slice A n c, .slice B m d] w fun e w' => e = .returned (.bool true) ∧ Below w.heap.size w w' := by
  have HT := Lib.hid hT
  have HA := Lib.hid ha
  have HB := Lib.hid hb
  clear hT ha hb
  rcases hva : vastB a with _ | _
  case true =>
    have HVA := Lib.hid hva
    clear hva
    go_enter Tryd.func4, Tryd.ntmps4
    go_wp2_with (first | (go_at_call 12; (with_reducible refine (vast_to HVA.out _ HA.out).mono ?_); rintro e w' ⟨rfl, rfl⟩) | (go_at_call 7; (with_reducible refine (rawake_any _ HT.out).mono ?_); rintro e w' ⟨rfl, hbw⟩))
    go_ret
    exact ⟨rfl, hbw⟩
  rcases hvb : vastB b with _ | _
  case true =>
    have HVA := Lib.hid hva
    have HVB := Lib.hid hvb
    clear hva hvb
    go_enter Tryd.func4, Tryd.ntmps4
    go_wp2_with fail
    refine (vast_to HVA.out _ HA.out).mono ?_
    rintro e w' ⟨rfl, rfl⟩
    go_wp2_with fail
    refine (vast_to HVB.out _ HB.out).mono ?_
    rintro e w' ⟨rfl, rfl⟩
    go_wp2_with (go_at_call 7; (with_reducible refine (rawake_any _ HT.out).mono ?_); rintro e w' ⟨rfl, hbw⟩)
    go_ret
    exact ⟨rfl, hbw⟩
  obtain ⟨hl1, hl2⟩ := vastB_out hva
  have HVA := Lib.hid hva
  have HVB := Lib.hid hvb
  have HL2 := Lib.hid hl2
  have hla := HA.out.len
  obtain ⟨v1, hv1⟩ : ∃ v, ndsB a b = v := ⟨_, rfl⟩
  obtain ⟨v2, hv2⟩ : ∃ v, ndsB b a = v := ⟨_, rfl⟩
  have HV1 := Lib.hid hv1
  have HV2 := Lib.hid hv2
  clear hva hvb hl2 hv1 hv2
  go_enter Tryd.func4, Tryd.ntmps4
  go_wp2_with fail
  refine (vast_to HVA.out _ HA.out).mono ?_
  rintro e w' ⟨rfl, rfl⟩
  go_wp2_with fail
  refine (vast_to HVB.out _ HB.out).mono ?_
  rintro e w' ⟨rfl, rfl⟩
  go_wp2_with fail
  refine (rown_any a A n c _ HA.out (by omega) (fun x hx => by have := HL2.out x hx; omega)).mono ?_
  rintro e w1 ⟨A', c', rfl, hN, hb1⟩
  have HO1 := Lib.hid hN.sees
  have HA1 := Lib.hid (HA.out.below hb1)
  have HB1 := Lib.hid (HB.out.below hb1)
  have HW1 := Lib.hid hb1
  clear hN hb1
  go_wp2_with fail
  refine (psame_to HV1.out _ HO1.out HB1.out).mono ?_
  rintro e w2 ⟨rfl, hb2⟩
  have HO2 := Lib.hid (HO1.out.below hb2)
  have HA2 := Lib.hid (HA1.out.below hb2)
  have HB2 := Lib.hid (HB1.out.below hb2)
  have HW2 := Lib.hid (below_then HW1.out hb2)
  clear hb2
  go_wp2_with fail
  refine (rsame_to HV1.out _ HA2.out HB2.out).mono ?_
  rintro e w3 ⟨rfl, hb3⟩
  have HO3 := Lib.hid (HO2.out.below hb3)
  have HA3 := Lib.hid (HA2.out.below hb3)
  have HB3 := Lib.hid (HB2.out.below hb3)
  have HW3 := Lib.hid (below_then HW2.out hb3)
  clear hb3
  go_wp2_with fail
  refine (psame_to HV2.out _ HB3.out HO3.out).mono ?_
  rintro e w4 ⟨rfl, hb4⟩
  have HO4 := Lib.hid (HO3.out.below hb4)
  have HA4 := Lib.hid (HA3.out.below hb4)
  have HB4 := Lib.hid (HB3.out.below hb4)
  have HW4 := Lib.hid (below_then HW3.out hb4)
  clear hb4
  go_wp2_with fail
  refine (rsame_to HV2.out _ HB4.out HA4.out).mono ?_
  rintro e w5 ⟨rfl, hb5⟩
  have HO5 := Lib.hid (HO4.out.below hb5)
  have HA5 := Lib.hid (HA4.out.below hb5)
  have HW5 := Lib.hid (below_then HW4.out hb5)
  clear hb5
  go_wp2_with fail
  refine (psame_to (ndsB_self a) _ HO5.out HA5.out).mono ?_
  rintro e w6 ⟨rfl, hb6⟩
  have HO6 := Lib.hid (HO5.out.below hb6)
  have HA6 := Lib.hid (HA5.out.below hb6)
  have HW6 := Lib.hid (below_then HW5.out hb6)
  clear hb6
  go_wp2_with fail
  refine (rsame_to (ndsB_self a) _ HO6.out HA6.out).mono ?_
  rintro e w7 ⟨rfl, hb7⟩
  have HW7 := Lib.hid (below_then HW6.out hb7)
  clear hb7
  go_wp2_with (go_at_call 7; (with_reducible refine (rawake_any _ (HT.out.below HW7.out)).mono ?_); rintro e w8 ⟨rfl, hb8⟩)
  go_ret
  exact ⟨rfl, below_then HW7.out hb8⟩
end Go.Proofs.YteginjdgapjadaaDoor
